/-
  The program's parser: the entries of sections that draw their order, each by its method.
-/
import Derived.Test.YthcnjiigkmljnaaGreatDoorSynEnt0
namespace Go.Proofs.YthcnjiigkmljnaaGreatDoor
open Go.RowKit

/-- One method behind another. -/
theorem Oc.bind {α β : Type} {r : Rs α} {d : α → Prop} {f : α → Nat → Rs β} {i i1 i2 : Nat} {a e a1 e1 a2 e2 : Int} {x : α} {y : β} (h1 : Oc r d i a e x i1 a1 e1) (h2 : Oc (f x i1) (fun _ => True) i1 a1 e1 y i2 a2 e2) : Oc (r.then f) (fun _ => True) i a e y i2 a2 e2 := by
  rcases h1 with ⟨g1, g2, g3, g4, _⟩ | ⟨g1, g2, g3, _⟩ | ⟨g1, g2, g3, g4⟩
  · rcases h2 with ⟨k1, k2, k3, k4, _⟩ | ⟨k1, _⟩ | ⟨k1, _⟩
    · exact .inl ⟨g1, k2.trans g2, k3.trans g3, k4.trans g4, trivial⟩
    · exact absurd (g4.symm.trans k1) g1
    · exact absurd (g4.symm.trans k1) g1
  · rcases h2 with ⟨k1, k2, k3, k4, _⟩ | ⟨k1, _⟩ | ⟨k1, _⟩
    · exact .inr (.inl ⟨g1, by rw [g2, then_no, k3, k4], by rw [k4]; exact g3, trivial⟩)
    · exact absurd k1 g3
    · exact absurd k1 g3
  · rcases h2 with ⟨k1, _⟩ | ⟨_, k2, k3, _⟩ | ⟨_, k2, k3, k4⟩
    · exact absurd g4 k1
    · exact .inr (.inl ⟨g1, by rw [g2, then_ok, k2], k3, trivial⟩)
    · exact .inr (.inr ⟨g1, by rw [g2, then_ok, k2], k3.trans g3, k4⟩)
theorem Oc.map {α β : Type} {r : Rs α} {d : α → Prop} {i i1 : Nat} {a e a1 e1 : Int} {x : α} (h : Oc r d i a e x i1 a1 e1) (g : α → β) : Oc (r.then fun x j => .ok (g x) j) (fun _ => True) i a e (g x) i1 a1 e1 := by
  rcases h with ⟨g1, g2, g3, g4, _⟩ | ⟨g1, g2, g3, _⟩ | ⟨g1, g2, g3, g4⟩
  · exact .inl ⟨g1, g2, g3, g4, trivial⟩
  · exact .inr (.inl ⟨g1, by rw [g2, then_no], g3, trivial⟩)
  · exact .inr (.inr ⟨g1, by rw [g2, then_ok], g3, g4⟩)
theorem unitm_bf (L : List Tk) (en : Int) (lo hi : Cd) (j : Nat) : ((unitT L en j).then fun u k => if 65535 < u.1.getLast?.getD 0 + hi.v - lo.v then Rs.no u.2 7 else .ok (⟨lo, hi, 0, u.1, []⟩ : En) k) = (unitmT L en (hi.v - lo.v) j).then fun u k => .ok ⟨lo, hi, 0, u, []⟩ k := by
  unfold unitmT
  cases unitT L en j with
  | no a e => rfl
  | ok u k =>
    rw [then_ok, then_ok]
    have e1 : lastU u.1 = u.1.getLast?.getD 0 := rfl
    rw [e1]
    by_cases hq : 65535 - (hi.v - lo.v) < u.1.getLast?.getD 0
    · rw [if_pos hq, if_pos (by omega), then_no]
    · rw [if_neg hq, if_neg (by omega), then_ok]
theorem unitm_ch (L : List Tk) (en : Int) (c : Cd) (j : Nat) : ((unitT L en j).then fun u k => Rs.ok (⟨c, c, 0, u.1, []⟩ : En) k) = (unitmT L en 0 j).then fun u k => .ok ⟨c, c, 0, u, []⟩ k := by
  rw [unitm0]
  cases unitT L en j with
  | no a e => rfl
  | ok u k => rfl
theorem listO_at {L : List Tk} {en n : Int} {j : Nat} (h : atB L j 6 = true) : listOT L en n j = listT L en n [] (j + 1) := by
  simp [atB] at h
  unfold listOT takeT
  rw [if_pos h.1, if_pos h.2, then_ok]
theorem set7_far (w1 : World) (S : Nat) (x0 x1 x2 x3 x4 x5 x6 : Value) : ∀ b o, b ≠ S → (((((((w1.setCell ⟨S, 0, none⟩ x0).setCell ⟨S, 1, none⟩ x1).setCell ⟨S, 2, none⟩ x2).setCell ⟨S, 3, none⟩ x3).setCell ⟨S, 4, none⟩ x4).setCell ⟨S, 5, none⟩ x5).setCell ⟨S, 6, none⟩ x6).cell? ⟨b, o, none⟩ = w1.cell? ⟨b, o, none⟩ := by
  intro b o hb
  have far : ∀ (w : World) (k : Nat) (v : Value), (w.setCell ⟨S, k, none⟩ v).cell? ⟨b, o, none⟩ = w.cell? ⟨b, o, none⟩ := fun w k v => World.cell?_setCell_far w ⟨S, k, none⟩ ⟨b, o, none⟩ v (fun e => hb e.symm)
  rw [far, far, far, far, far, far, far]
theorem set7_kp (w1 : World) (S : Nat) (x0 x1 x2 x3 x4 x5 x6 : Value) {X : Nat → Prop} (hX : X S) : Kp w1 (((((((w1.setCell ⟨S, 0, none⟩ x0).setCell ⟨S, 1, none⟩ x1).setCell ⟨S, 2, none⟩ x2).setCell ⟨S, 3, none⟩ x3).setCell ⟨S, 4, none⟩ x4).setCell ⟨S, 5, none⟩ x5).setCell ⟨S, 6, none⟩ x6) X := by
  refine ⟨(set7_bel w1 S x0 x1 x2 x3 x4 x5 x6).size, fun b _ hb => ?_⟩
  have hne : b ≠ S := fun e => hb (e ▸ hX)
  have far : ∀ (w : World) (k : Nat) (v : Value), (w.setCell ⟨S, k, none⟩ v).heap[b]? = w.heap[b]? := fun w k v => Below.heap_setCell _ _ _ _ hne
  rw [far, far, far, far, far, far, far]
theorem Lx.shape {w : World} {X : Nat → Prop} {v : Value} {ll : List (List Int)} (h : Lx w X v ll) : ∃ A n c, v = .slice A n c := by
  obtain ⟨d, _, ⟨A, c, hv, _⟩, _⟩ := h
  exact ⟨A, _, c, hv⟩
section
variable {w : World} {P : Nat} {A : Option Addr} {c : Nat} {L : List Tk} {i : Nat} {en a e : Int} {vc vi : Value}
set_option maxRecDepth 100000 in
set_option maxHeartbeats 1000000 in
theorem qcidRange_any (h : Qs w P A c L i en vc vi a e) (hi : i ≤ L.length) (hL : Sm L) :
    Calls Tryz.prog 94 #[.pointer (some ⟨P, 0, none⟩)] w (Ep w P A c L en vc vi 3 i a e) := by
  have hlt := h.lt
  have hT := qcodes_num (h.alloc (.cells #[.int .i64 0, .int .i64 0, .int .i64 0, .int .i64 0, .int .i64 0, .slice none 0 0, .slice none 0 0] 51)) hi hL
  have HT := Lib.hid hT
  clear hT h
  go_enter Tryz.func94, Tryz.ntmps94
  go_wp2_with fail
  refine HT.out.mono ?_
  rintro r w1 ⟨x, i1, a1, e1, rfl, hbc, hp1, hi1, hf1, hoc⟩
  obtain ⟨⟨ln, lv⟩, ⟨hn, hv⟩⟩ := x
  simp only
  clear HT
  have q1 : 0 ≤ lv ∧ lv < 4294967296 := ⟨hbc.1.2.2.1, hbc.1.2.2.2⟩
  have q2 : 0 ≤ hv ∧ hv < 4294967296 := ⟨hbc.2.2.2.1, hbc.2.2.2.2⟩
  clear hbc
  have wq : IntKind.i64.wrap (hv - lv) = hv - lv := IntWalk.i64_in _ (by omega)
  have wq1 : IntKind.i64.wrap (hv - lv + 1) = hv - lv + 1 := IntWalk.i64_in _ (by omega)
  have hl1 : w.heap.size < w1.heap.size := by have := hf1.size; simp at this; omega
  have hqa := (hp1.alloc (.cells #[.int .i64 ln, .int .i64 lv] 47)).alloc (.cells #[.int .i64 hn, .int .i64 hv] 47)
  have hfa := (hf1.alloc (.cells #[.int .i64 ln, .int .i64 lv] 47)).alloc (.cells #[.int .i64 hn, .int .i64 hv] 47)
  have k0 : ((w1.alloc (.cells #[.int .i64 ln, .int .i64 lv] 47)).alloc (.cells #[.int .i64 hn, .int .i64 hv] 47)).cell? ⟨w1.heap.size, 0, none⟩ = some (.int .i64 ln) := by simp
  have k1 : ((w1.alloc (.cells #[.int .i64 ln, .int .i64 lv] 47)).alloc (.cells #[.int .i64 hn, .int .i64 hv] 47)).cell? ⟨w1.heap.size, 1, none⟩ = some (.int .i64 lv) := by simp
  have k2 : ((w1.alloc (.cells #[.int .i64 ln, .int .i64 lv] 47)).alloc (.cells #[.int .i64 hn, .int .i64 hv] 47)).cell? ⟨w1.heap.size + 1, 0, none⟩ = some (.int .i64 hn) := by simp
  have k3 : ((w1.alloc (.cells #[.int .i64 ln, .int .i64 lv] 47)).alloc (.cells #[.int .i64 hn, .int .i64 hv] 47)).cell? ⟨w1.heap.size + 1, 1, none⟩ = some (.int .i64 hv) := by simp
  have zA : ((w1.alloc (.cells #[.int .i64 ln, .int .i64 lv] 47)).alloc (.cells #[.int .i64 hn, .int .i64 hv] 47)).heap.size = w1.heap.size + 2 := by simp
  clear hp1 hf1
  go_wp2_with fail
  have hC : ∀ w', Qs w' P A c L i1 en vc vi a1 e1 → Calls Tryz.prog 114 #[.pointer (some ⟨P, 0, none⟩), .int .i64 (hv - lv)] w' fun r w'' => ∃ (x : Int) (i' : Nat) (a' e' : Int), r = .returned (.int .i64 x) ∧ Qs w'' P A c L i' en vc vi a' e' ∧ i' ≤ L.length ∧ Fr w' w'' P ∧ Oc (toT L en (hv - lv) i1) (fun _ => True) i1 a1 e1 x i' a' e' := fun w' hq => qnumber_any hq hi1 hL (hv - lv) (by omega) (by omega)
  have HC := Lib.hid hC
  have HOc : ∀ (x : Int) (i2 : Nat) (a2 e2 : Int), Oc (toT L en (hv - lv) i1) (fun _ => True) i1 a1 e1 x i2 a2 e2 → Oc (entT L en 3 i) (fun _ => True) i a e (⟨⟨ln, lv⟩, ⟨hn, hv⟩, x, [], []⟩ : En) i2 a2 e2 := fun x i2 a2 e2 hoc2 => by
    unfold entT
    rw [if_neg (by decide), if_pos rfl]
    exact Oc.bind hoc (hoc2.map (fun t => (⟨⟨ln, lv⟩, ⟨hn, hv⟩, t, [], []⟩ : En)))
  have kpW : ∀ w2, Fr ((w1.alloc (.cells #[.int .i64 ln, .int .i64 lv] 47)).alloc (.cells #[.int .i64 hn, .int .i64 hv] 47)).drew w2 P → w2.cell? ⟨w1.heap.size, 0, none⟩ = some (.int .i64 ln) ∧ w2.cell? ⟨w1.heap.size, 1, none⟩ = some (.int .i64 lv) ∧ w2.cell? ⟨w1.heap.size + 1, 0, none⟩ = some (.int .i64 hn) ∧ w2.cell? ⟨w1.heap.size + 1, 1, none⟩ = some (.int .i64 hv) := fun w2 hf => ⟨(hf.cell ⟨w1.heap.size, 0, none⟩ (show w1.heap.size < ((w1.alloc (.cells #[.int .i64 ln, .int .i64 lv] 47)).alloc (.cells #[.int .i64 hn, .int .i64 hv] 47)).heap.size by omega) (by show w1.heap.size ≠ P; omega)).trans k0, (hf.cell ⟨w1.heap.size, 1, none⟩ (show w1.heap.size < ((w1.alloc (.cells #[.int .i64 ln, .int .i64 lv] 47)).alloc (.cells #[.int .i64 hn, .int .i64 hv] 47)).heap.size by omega) (by show w1.heap.size ≠ P; omega)).trans k1, (hf.cell ⟨w1.heap.size + 1, 0, none⟩ (show w1.heap.size + 1 < ((w1.alloc (.cells #[.int .i64 ln, .int .i64 lv] 47)).alloc (.cells #[.int .i64 hn, .int .i64 hv] 47)).heap.size by omega) (by show w1.heap.size + 1 ≠ P; omega)).trans k2, (hf.cell ⟨w1.heap.size + 1, 1, none⟩ (show w1.heap.size + 1 < ((w1.alloc (.cells #[.int .i64 ln, .int .i64 lv] 47)).alloc (.cells #[.int .i64 hn, .int .i64 hv] 47)).heap.size by omega) (by show w1.heap.size + 1 ≠ P; omega)).trans k3⟩
  have kp7 : ∀ w2 w7 : World, (w2.cell? ⟨w1.heap.size, 0, none⟩ = some (.int .i64 ln) ∧ w2.cell? ⟨w1.heap.size, 1, none⟩ = some (.int .i64 lv) ∧ w2.cell? ⟨w1.heap.size + 1, 0, none⟩ = some (.int .i64 hn) ∧ w2.cell? ⟨w1.heap.size + 1, 1, none⟩ = some (.int .i64 hv)) → (∀ b o, b ≠ w.heap.size → w7.cell? ⟨b, o, none⟩ = w2.cell? ⟨b, o, none⟩) → w7.cell? ⟨w1.heap.size, 0, none⟩ = some (.int .i64 ln) ∧ w7.cell? ⟨w1.heap.size, 1, none⟩ = some (.int .i64 lv) ∧ w7.cell? ⟨w1.heap.size + 1, 0, none⟩ = some (.int .i64 hn) ∧ w7.cell? ⟨w1.heap.size + 1, 1, none⟩ = some (.int .i64 hv) := fun w2 w7 h hk => ⟨(hk (w1.heap.size) 0 (by omega)).trans h.1, (hk (w1.heap.size) 1 (by omega)).trans h.2.1, (hk (w1.heap.size + 1) 0 (by omega)).trans h.2.2.1, (hk (w1.heap.size + 1) 1 (by omega)).trans h.2.2.2⟩
  have hsS : w.heap.size < ((w1.alloc (.cells #[.int .i64 ln, .int .i64 lv] 47)).alloc (.cells #[.int .i64 hn, .int .i64 hv] 47)).drew.heap.size := by have := hfa.size; simp at this ⊢; omega
  have HOC := Lib.hid HOc
  have HK := Lib.hid kpW
  have HK7 := Lib.hid kp7
  have HQA := Lib.hid hqa
  have HFA := Lib.hid hfa
  clear hC HOc kpW kp7 hqa hfa
  go_region_held (fun w' => w'.cell? ⟨w1.heap.size, 0, none⟩ = some (.int .i64 ln) ∧ w'.cell? ⟨w1.heap.size, 1, none⟩ = some (.int .i64 lv) ∧ w'.cell? ⟨w1.heap.size + 1, 0, none⟩ = some (.int .i64 hn) ∧ w'.cell? ⟨w1.heap.size + 1, 1, none⟩ = some (.int .i64 hv))
    (first | with_reducible exact hcells2 | with_reducible exact hcells | exact ⟨k0, k1, k2, k3⟩)
    ((go_at_call 114; refine (HC.out _ HQA.out.drew).mono ?_; rintro r w2 ⟨x, i2, a2, e2, rfl, hq2, hi2, hf2, hoc2⟩; obtain ⟨⟨f0, f1, f2, f3, f4, f5, f6⟩, ⟨y0, y1, y2, y3, y4, y5, y6⟩, hl2, hfr⟩ := kept7 (HFA.out.drew.trans hf2) hlt; have hcells := HK.out w2 hf2; have HG := Lib.hid (set7 f0 f1 f2 f3 f4 f5 f6 (.int .i64 ln) (.int .i64 lv) (.int .i64 hn) (.int .i64 hv) (.int .i64 x) (.slice none 0 0) (.slice none 0 0)); have hb7 := set7_bel w2 w.heap.size (.int .i64 ln) (.int .i64 lv) (.int .i64 hn) (.int .i64 hv) (.int .i64 x) (.slice none 0 0) (.slice none 0 0); have hcells2 := HK7.out w2 _ hcells (set7_far w2 w.heap.size (.int .i64 ln) (.int .i64 lv) (.int .i64 hn) (.int .i64 hv) (.int .i64 x) (.slice none 0 0) (.slice none 0 0)); have hO := HOC.out x i2 a2 e2 hoc2; have hfin := fun (act : Act) (hd : act.defers = []) (h2 : act.tmps[2]?.getD undef = .pointer (some ⟨w.heap.size, 0, none⟩)) => ent_ret (R := Ep w P A c L en vc vi 3 i a e) Tryz.results94 hd h2 HG.out.1 HG.out.2.1 HG.out.2.2.1 HG.out.2.2.2.1 HG.out.2.2.2.2.1 HG.out.2.2.2.2.2.1 HG.out.2.2.2.2.2.2 ⟨(⟨⟨ln, lv⟩, ⟨hn, hv⟩, x, [], []⟩, .slice none 0 0, .slice none 0 0), i2, a2, e2, rfl, ⟨Ux.nil, Lx.nil⟩, hq2.bel hlt hb7, hi2, hfr.bel (Nat.le_refl _) hb7, hO⟩; have HFin := Lib.hid hfin; clear hfin hO hb7 hoc2 hq2 hfr hf2))
  go_wp2_with (with_reducible exact HFin.out _ rfl rfl)
set_option maxRecDepth 100000 in
set_option maxHeartbeats 1000000 in
theorem qnotRange_any (h : Qs w P A c L i en vc vi a e) (hi : i ≤ L.length) (hL : Sm L) :
    Calls Tryz.prog 95 #[.pointer (some ⟨P, 0, none⟩)] w (Ep w P A c L en vc vi 5 i a e) := by
  have hlt := h.lt
  have hT := qcodes_num (h.alloc (.cells #[.int .i64 0, .int .i64 0, .int .i64 0, .int .i64 0, .int .i64 0, .slice none 0 0, .slice none 0 0] 51)) hi hL
  have HT := Lib.hid hT
  clear hT h
  go_enter Tryz.func95, Tryz.ntmps95
  go_wp2_with fail
  refine HT.out.mono ?_
  rintro r w1 ⟨x, i1, a1, e1, rfl, hbc, hp1, hi1, hf1, hoc⟩
  obtain ⟨⟨ln, lv⟩, ⟨hn, hv⟩⟩ := x
  simp only
  clear HT
  have q1 : 0 ≤ lv ∧ lv < 4294967296 := ⟨hbc.1.2.2.1, hbc.1.2.2.2⟩
  have q2 : 0 ≤ hv ∧ hv < 4294967296 := ⟨hbc.2.2.2.1, hbc.2.2.2.2⟩
  clear hbc
  have wq : IntKind.i64.wrap (hv - lv) = hv - lv := IntWalk.i64_in _ (by omega)
  have wq1 : IntKind.i64.wrap (hv - lv + 1) = hv - lv + 1 := IntWalk.i64_in _ (by omega)
  have hl1 : w.heap.size < w1.heap.size := by have := hf1.size; simp at this; omega
  have hqa := (hp1.alloc (.cells #[.int .i64 ln, .int .i64 lv] 47)).alloc (.cells #[.int .i64 hn, .int .i64 hv] 47)
  have hfa := (hf1.alloc (.cells #[.int .i64 ln, .int .i64 lv] 47)).alloc (.cells #[.int .i64 hn, .int .i64 hv] 47)
  have k0 : ((w1.alloc (.cells #[.int .i64 ln, .int .i64 lv] 47)).alloc (.cells #[.int .i64 hn, .int .i64 hv] 47)).cell? ⟨w1.heap.size, 0, none⟩ = some (.int .i64 ln) := by simp
  have k1 : ((w1.alloc (.cells #[.int .i64 ln, .int .i64 lv] 47)).alloc (.cells #[.int .i64 hn, .int .i64 hv] 47)).cell? ⟨w1.heap.size, 1, none⟩ = some (.int .i64 lv) := by simp
  have k2 : ((w1.alloc (.cells #[.int .i64 ln, .int .i64 lv] 47)).alloc (.cells #[.int .i64 hn, .int .i64 hv] 47)).cell? ⟨w1.heap.size + 1, 0, none⟩ = some (.int .i64 hn) := by simp
  have k3 : ((w1.alloc (.cells #[.int .i64 ln, .int .i64 lv] 47)).alloc (.cells #[.int .i64 hn, .int .i64 hv] 47)).cell? ⟨w1.heap.size + 1, 1, none⟩ = some (.int .i64 hv) := by simp
  have zA : ((w1.alloc (.cells #[.int .i64 ln, .int .i64 lv] 47)).alloc (.cells #[.int .i64 hn, .int .i64 hv] 47)).heap.size = w1.heap.size + 2 := by simp
  clear hp1 hf1
  go_wp2_with fail
  have hC : ∀ w', Qs w' P A c L i1 en vc vi a1 e1 → Calls Tryz.prog 114 #[.pointer (some ⟨P, 0, none⟩), .int .i64 (0)] w' fun r w'' => ∃ (x : Int) (i' : Nat) (a' e' : Int), r = .returned (.int .i64 x) ∧ Qs w'' P A c L i' en vc vi a' e' ∧ i' ≤ L.length ∧ Fr w' w'' P ∧ Oc (toT L en (0) i1) (fun _ => True) i1 a1 e1 x i' a' e' := fun w' hq => qnumber_any hq hi1 hL (0) (by omega) (by omega)
  have HC := Lib.hid hC
  have HOc : ∀ (x : Int) (i2 : Nat) (a2 e2 : Int), Oc (toT L en (0) i1) (fun _ => True) i1 a1 e1 x i2 a2 e2 → Oc (entT L en 5 i) (fun _ => True) i a e (⟨⟨ln, lv⟩, ⟨hn, hv⟩, x, [], []⟩ : En) i2 a2 e2 := fun x i2 a2 e2 hoc2 => by
    unfold entT
    rw [if_neg (by decide), if_neg (by decide), if_pos rfl]
    exact Oc.bind hoc (hoc2.map (fun t => (⟨⟨ln, lv⟩, ⟨hn, hv⟩, t, [], []⟩ : En)))
  have kpW : ∀ w2, Fr ((w1.alloc (.cells #[.int .i64 ln, .int .i64 lv] 47)).alloc (.cells #[.int .i64 hn, .int .i64 hv] 47)).drew w2 P → w2.cell? ⟨w1.heap.size, 0, none⟩ = some (.int .i64 ln) ∧ w2.cell? ⟨w1.heap.size, 1, none⟩ = some (.int .i64 lv) ∧ w2.cell? ⟨w1.heap.size + 1, 0, none⟩ = some (.int .i64 hn) ∧ w2.cell? ⟨w1.heap.size + 1, 1, none⟩ = some (.int .i64 hv) := fun w2 hf => ⟨(hf.cell ⟨w1.heap.size, 0, none⟩ (show w1.heap.size < ((w1.alloc (.cells #[.int .i64 ln, .int .i64 lv] 47)).alloc (.cells #[.int .i64 hn, .int .i64 hv] 47)).heap.size by omega) (by show w1.heap.size ≠ P; omega)).trans k0, (hf.cell ⟨w1.heap.size, 1, none⟩ (show w1.heap.size < ((w1.alloc (.cells #[.int .i64 ln, .int .i64 lv] 47)).alloc (.cells #[.int .i64 hn, .int .i64 hv] 47)).heap.size by omega) (by show w1.heap.size ≠ P; omega)).trans k1, (hf.cell ⟨w1.heap.size + 1, 0, none⟩ (show w1.heap.size + 1 < ((w1.alloc (.cells #[.int .i64 ln, .int .i64 lv] 47)).alloc (.cells #[.int .i64 hn, .int .i64 hv] 47)).heap.size by omega) (by show w1.heap.size + 1 ≠ P; omega)).trans k2, (hf.cell ⟨w1.heap.size + 1, 1, none⟩ (show w1.heap.size + 1 < ((w1.alloc (.cells #[.int .i64 ln, .int .i64 lv] 47)).alloc (.cells #[.int .i64 hn, .int .i64 hv] 47)).heap.size by omega) (by show w1.heap.size + 1 ≠ P; omega)).trans k3⟩
  have kp7 : ∀ w2 w7 : World, (w2.cell? ⟨w1.heap.size, 0, none⟩ = some (.int .i64 ln) ∧ w2.cell? ⟨w1.heap.size, 1, none⟩ = some (.int .i64 lv) ∧ w2.cell? ⟨w1.heap.size + 1, 0, none⟩ = some (.int .i64 hn) ∧ w2.cell? ⟨w1.heap.size + 1, 1, none⟩ = some (.int .i64 hv)) → (∀ b o, b ≠ w.heap.size → w7.cell? ⟨b, o, none⟩ = w2.cell? ⟨b, o, none⟩) → w7.cell? ⟨w1.heap.size, 0, none⟩ = some (.int .i64 ln) ∧ w7.cell? ⟨w1.heap.size, 1, none⟩ = some (.int .i64 lv) ∧ w7.cell? ⟨w1.heap.size + 1, 0, none⟩ = some (.int .i64 hn) ∧ w7.cell? ⟨w1.heap.size + 1, 1, none⟩ = some (.int .i64 hv) := fun w2 w7 h hk => ⟨(hk (w1.heap.size) 0 (by omega)).trans h.1, (hk (w1.heap.size) 1 (by omega)).trans h.2.1, (hk (w1.heap.size + 1) 0 (by omega)).trans h.2.2.1, (hk (w1.heap.size + 1) 1 (by omega)).trans h.2.2.2⟩
  have hsS : w.heap.size < ((w1.alloc (.cells #[.int .i64 ln, .int .i64 lv] 47)).alloc (.cells #[.int .i64 hn, .int .i64 hv] 47)).drew.heap.size := by have := hfa.size; simp at this ⊢; omega
  have HOC := Lib.hid HOc
  have HK := Lib.hid kpW
  have HK7 := Lib.hid kp7
  have HQA := Lib.hid hqa
  have HFA := Lib.hid hfa
  clear hC HOc kpW kp7 hqa hfa
  go_region_held (fun w' => w'.cell? ⟨w1.heap.size, 0, none⟩ = some (.int .i64 ln) ∧ w'.cell? ⟨w1.heap.size, 1, none⟩ = some (.int .i64 lv) ∧ w'.cell? ⟨w1.heap.size + 1, 0, none⟩ = some (.int .i64 hn) ∧ w'.cell? ⟨w1.heap.size + 1, 1, none⟩ = some (.int .i64 hv))
    (first | with_reducible exact hcells2 | with_reducible exact hcells | exact ⟨k0, k1, k2, k3⟩)
    ((go_at_call 114; refine (HC.out _ HQA.out.drew).mono ?_; rintro r w2 ⟨x, i2, a2, e2, rfl, hq2, hi2, hf2, hoc2⟩; obtain ⟨⟨f0, f1, f2, f3, f4, f5, f6⟩, ⟨y0, y1, y2, y3, y4, y5, y6⟩, hl2, hfr⟩ := kept7 (HFA.out.drew.trans hf2) hlt; have hcells := HK.out w2 hf2; have HG := Lib.hid (set7 f0 f1 f2 f3 f4 f5 f6 (.int .i64 ln) (.int .i64 lv) (.int .i64 hn) (.int .i64 hv) (.int .i64 x) (.slice none 0 0) (.slice none 0 0)); have hb7 := set7_bel w2 w.heap.size (.int .i64 ln) (.int .i64 lv) (.int .i64 hn) (.int .i64 hv) (.int .i64 x) (.slice none 0 0) (.slice none 0 0); have hcells2 := HK7.out w2 _ hcells (set7_far w2 w.heap.size (.int .i64 ln) (.int .i64 lv) (.int .i64 hn) (.int .i64 hv) (.int .i64 x) (.slice none 0 0) (.slice none 0 0)); have hO := HOC.out x i2 a2 e2 hoc2; have hfin := fun (act : Act) (hd : act.defers = []) (h2 : act.tmps[2]?.getD undef = .pointer (some ⟨w.heap.size, 0, none⟩)) => ent_ret (R := Ep w P A c L en vc vi 5 i a e) Tryz.results95 hd h2 HG.out.1 HG.out.2.1 HG.out.2.2.1 HG.out.2.2.2.1 HG.out.2.2.2.2.1 HG.out.2.2.2.2.2.1 HG.out.2.2.2.2.2.2 ⟨(⟨⟨ln, lv⟩, ⟨hn, hv⟩, x, [], []⟩, .slice none 0 0, .slice none 0 0), i2, a2, e2, rfl, ⟨Ux.nil, Lx.nil⟩, hq2.bel hlt hb7, hi2, hfr.bel (Nat.le_refl _) hb7, hO⟩; have HFin := Lib.hid hfin; clear hfin hO hb7 hoc2 hq2 hfr hf2))
  go_wp2_with (with_reducible exact HFin.out _ rfl rfl)
end
end Go.Proofs.YthcnjiigkmljnaaGreatDoor
