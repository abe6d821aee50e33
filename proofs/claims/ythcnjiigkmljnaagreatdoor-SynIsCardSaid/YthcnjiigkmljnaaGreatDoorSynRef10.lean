/-
  The document's own parser: ent.
-/
import Derived.Test.YthcnjiigkmljnaaGreatDoorSynRef9
import Derived.Test.YthcnjiigkmljnaaGreatDoorSynEnt2
namespace Go.Proofs.YthcnjiigkmljnaaGreatDoor
open Go.RowKit

theorem pent_ret' {W : World} {fn : Func} {R : Ending → World → Prop} {act : Act} {S k : Nat} {x0 x1 x2 x3 x4 x5 x6 : Value} (hres : fn.results = #[.cell k 75]) (hd : act.defers = []) (h2 : act.tmps[k]?.getD undef = .pointer (some ⟨S, 0, none⟩))
    (g0 : W.cell? ⟨S, 0, none⟩ = some x0) (g1 : W.cell? ⟨S, 1, none⟩ = some x1) (g2 : W.cell? ⟨S, 2, none⟩ = some x2) (g3 : W.cell? ⟨S, 3, none⟩ = some x3) (g4 : W.cell? ⟨S, 4, none⟩ = some x4) (g5 : W.cell? ⟨S, 5, none⟩ = some x5) (g6 : W.cell? ⟨S, 6, none⟩ = some x6)
    (hR : R (.returned (.agg #[x0, x1, x2, x3, x4, x5, x6])) W) : bodyPost Tryz.prog fn R .ret act W :=
  bodyPost_ret (v := _) (by simp [results, hres, go_sem, h2, g0, g1, g2, g3, g4, g5, g6]; try rfl) hd hR
section
variable {w : World} {P : Nat} {A : Option Addr} {c : Nat} {L : List Tk} {i : Nat} {en a e : Int}
set_option maxRecDepth 100000 in
set_option maxHeartbeats 1000000 in
theorem pent_2 (h : Ps w P A c L i en a e) (hi : i ≤ L.length) (hL : Sm L) :
    Calls Tryz.prog 52 #[.pointer (some ⟨P, 0, none⟩), .int .i64 2] w (Pe w P A c L en 2 i a e) := by
  have hlt := h.lt
  have hT := ppair_any (h.alloc (.cells #[.int .i64 0, .int .i64 0, .int .i64 0, .int .i64 0, .int .i64 0, .slice none 0 0, .slice none 0 0] 75)) hi hL true
  have HT := Lib.hid hT
  have hS0 := Eb.new w (.int .i64 0) (.int .i64 0) (.int .i64 0) (.int .i64 0) (.int .i64 0) (.slice none 0 0) (.slice none 0 0) 75
  have hF0 : Fr w (w.alloc (.cells #[.int .i64 0, .int .i64 0, .int .i64 0, .int .i64 0, .int .i64 0, .slice none 0 0, .slice none 0 0] 75)) P := (Fr.refl w P).alloc _
  have HS0 := Lib.hid hS0
  have HF0 := Lib.hid hF0
  clear hT h hS0 hF0
  go_enter Tryz.func52, Tryz.ntmps52
  go_wp2_with fail
  refine HT.out.mono ?_
  rintro r w1 ⟨x, i1, a1, e1, rfl, hbc, hp1, hi1, hf1, hoc⟩
  obtain ⟨⟨ln, lv⟩, ⟨hn, hv⟩⟩ := x
  simp only
  clear hbc
  have hl1 : w.heap.size < w1.heap.size := by have := hf1.size; simp at this; omega
  have hS1 := HS0.out.fr hf1 (by omega)
  have hF1 := HF0.out.trans hf1
  have HO := Lib.hid hoc
  clear hoc hf1 HS0 HF0 HT
  obtain ⟨g0, g1, g2, g3, g4, g5, g6⟩ := set7 hS1.c0 hS1.c1 hS1.c2 hS1.c3 hS1.c4 hS1.c5 hS1.c6 (.int .i64 ln) (.int .i64 lv) (.int .i64 hn) (.int .i64 hv) (.int .i64 0) (.slice none 0 0) (.slice none 0 0)
  have hfin := fun (act : Act) (hd : act.defers = []) (h2 : act.tmps[4]?.getD undef = .pointer (some ⟨w.heap.size, 0, none⟩)) => pent_ret' (R := Pe w P A c L en 2 i a e) Tryz.results52 hd h2 (cell_more (cell_more g0 (.cells #[.int .i64 ln, .int .i64 lv] 47)) (.cells #[.int .i64 hn, .int .i64 hv] 47)) (cell_more (cell_more g1 _) _) (cell_more (cell_more g2 _) _) (cell_more (cell_more g3 _) _) (cell_more (cell_more g4 _) _) (cell_more (cell_more g5 _) _) (cell_more (cell_more g6 _) _) ⟨((⟨⟨ln, lv⟩, ⟨hn, hv⟩, 0, [], []⟩ : En), .slice none 0 0, .slice none 0 0), i1, a1, e1, rfl, ⟨Ux.nil, Lx.nil⟩, ((hp1.put7 hlt (.int .i64 ln) (.int .i64 lv) (.int .i64 hn) (.int .i64 hv) (.int .i64 0) (.slice none 0 0) (.slice none 0 0)).alloc _).alloc _, hi1, ((hF1.put7 (Nat.le_refl _) (.int .i64 ln) (.int .i64 lv) (.int .i64 hn) (.int .i64 hv) (.int .i64 0) (.slice none 0 0) (.slice none 0 0)).alloc _).alloc _, (by unfold entT; rw [if_pos rfl]; exact HO.out.map (fun q => (⟨q.1, q.2, 0, [], []⟩ : En)))⟩
  have HFin := Lib.hid hfin
  obtain ⟨s0, s1, s2, s3, s4, s5, s6, sz, _⟩ := id hS1
  have sz0 := sz 0 (by decide); have sz1 := sz 1 (by decide); have sz2 := sz 2 (by decide); have sz3 := sz 3 (by decide); have sz4 := sz 4 (by decide); have sz5 := sz 5 (by decide); have sz6 := sz 6 (by decide)
  have nS : w.heap.size ≠ w1.heap.size := by omega
  have nS1 : w.heap.size ≠ w1.heap.size + 1 := by omega
  clear hfin sz hS1 hp1 hF1 HO g0 g1 g2 g3 g4 g5 g6
  go_wp2_with (with_reducible exact HFin.out _ rfl rfl)
set_option maxRecDepth 100000 in
set_option maxHeartbeats 1000000 in
theorem pent_3 (h : Ps w P A c L i en a e) (hi : i ≤ L.length) (hL : Sm L) :
    Calls Tryz.prog 52 #[.pointer (some ⟨P, 0, none⟩), .int .i64 3] w (Pe w P A c L en 3 i a e) := by
  have hlt := h.lt
  have hT := ppair_any (h.alloc (.cells #[.int .i64 0, .int .i64 0, .int .i64 0, .int .i64 0, .int .i64 0, .slice none 0 0, .slice none 0 0] 75)) hi hL false
  have HT := Lib.hid hT
  have hS0 := Eb.new w (.int .i64 0) (.int .i64 0) (.int .i64 0) (.int .i64 0) (.int .i64 0) (.slice none 0 0) (.slice none 0 0) 75
  have hF0 : Fr w (w.alloc (.cells #[.int .i64 0, .int .i64 0, .int .i64 0, .int .i64 0, .int .i64 0, .slice none 0 0, .slice none 0 0] 75)) P := (Fr.refl w P).alloc _
  have HS0 := Lib.hid hS0
  have HF0 := Lib.hid hF0
  clear hT h hS0 hF0
  go_enter Tryz.func52, Tryz.ntmps52
  go_wp2_with fail
  refine HT.out.mono ?_
  rintro r w1 ⟨x, i1, a1, e1, rfl, hbc, hp1, hi1, hf1, hoc⟩
  obtain ⟨⟨ln, lv⟩, ⟨hn, hv⟩⟩ := x
  simp only
  have q1 : 0 ≤ lv ∧ lv < 4294967296 := ⟨hbc.1.2.2.1, hbc.1.2.2.2⟩
  have q2 : 0 ≤ hv ∧ hv < 4294967296 := ⟨hbc.2.2.2.1, hbc.2.2.2.2⟩
  clear hbc
  have wq : IntKind.i64.wrap (hv - lv) = hv - lv := IntWalk.i64_in _ (by omega)
  have hl1 : w.heap.size < w1.heap.size := by have := hf1.size; simp at this; omega
  have hS1 := HS0.out.fr hf1 (by omega)
  have hF1 := HF0.out.trans hf1
  have HO := Lib.hid hoc
  clear hoc hf1 HS0 HF0 HT
  have hqa := (hp1.alloc (.cells #[.int .i64 ln, .int .i64 lv] 47)).alloc (.cells #[.int .i64 hn, .int .i64 hv] 47)
  have hfa := (hF1.alloc (.cells #[.int .i64 ln, .int .i64 lv] 47)).alloc (.cells #[.int .i64 hn, .int .i64 hv] 47)
  have hSa := (hS1.over ((Below.refl _ _).alloc (Nat.le_refl _) (.cells #[.int .i64 ln, .int .i64 lv] 47))).over ((Below.refl _ _).alloc (Nat.le_refl _) (.cells #[.int .i64 hn, .int .i64 hv] 47))
  have k0 : ((w1.alloc (.cells #[.int .i64 ln, .int .i64 lv] 47)).alloc (.cells #[.int .i64 hn, .int .i64 hv] 47)).cell? ⟨w1.heap.size, 0, none⟩ = some (.int .i64 ln) := by simp
  have k1 : ((w1.alloc (.cells #[.int .i64 ln, .int .i64 lv] 47)).alloc (.cells #[.int .i64 hn, .int .i64 hv] 47)).cell? ⟨w1.heap.size, 1, none⟩ = some (.int .i64 lv) := by simp
  have k2 : ((w1.alloc (.cells #[.int .i64 ln, .int .i64 lv] 47)).alloc (.cells #[.int .i64 hn, .int .i64 hv] 47)).cell? ⟨w1.heap.size + 1, 0, none⟩ = some (.int .i64 hn) := by simp
  have k3 : ((w1.alloc (.cells #[.int .i64 ln, .int .i64 lv] 47)).alloc (.cells #[.int .i64 hn, .int .i64 hv] 47)).cell? ⟨w1.heap.size + 1, 1, none⟩ = some (.int .i64 hv) := by simp
  have hgl : w1.heap.size + 1 < ((w1.alloc (.cells #[.int .i64 ln, .int .i64 lv] 47)).alloc (.cells #[.int .i64 hn, .int .i64 hv] 47)).heap.size := by simp
  clear hp1 hF1 hS1
  go_wp2
  generalize (w1.alloc (.cells #[.int .i64 ln, .int .i64 lv] 47)).alloc (.cells #[.int .i64 hn, .int .i64 hv] 47) = wa at *
  generalize w1.heap.size = g at *
  have HQ := Lib.hid hqa
  have HF := Lib.hid hfa
  have HS := Lib.hid hSa
  have hSl := hSa.lt
  clear hqa hfa hSa
  have hC : ∀ w', Ps w' P A c L i1 en a1 e1 → Calls Tryz.prog 75 #[.pointer (some ⟨P, 0, none⟩), .int .i64 (hv - lv)] w' fun r w'' => ∃ (x : Int) (i' : Nat) (a' e' : Int), r = .returned (.int .i64 x) ∧ Ps w'' P A c L i' en a' e' ∧ i' ≤ L.length ∧ Fr w' w'' P ∧ Oc (toT L en (hv - lv) i1) (fun _ => True) i1 a1 e1 x i' a' e' := fun w' hq => pto_any hq hi1 hL (hv - lv) (by omega) (by omega)
  have HC := Lib.hid hC
  have HOc : ∀ (x : Int) (i2 : Nat) (a2 e2 : Int), Oc (toT L en (hv - lv) i1) (fun _ => True) i1 a1 e1 x i2 a2 e2 → Oc (entT L en 3 i) (fun _ => True) i a e (⟨⟨ln, lv⟩, ⟨hn, hv⟩, x, [], []⟩ : En) i2 a2 e2 := fun x i2 a2 e2 hoc2 => by
    unfold entT
    rw [if_neg (by decide), if_pos rfl]
    exact Oc.bind HO.out (hoc2.map (fun t => (⟨⟨ln, lv⟩, ⟨hn, hv⟩, t, [], []⟩ : En)))
  have HOC := Lib.hid HOc
  clear hC HOc HO
  have kpW : ∀ w2, Fr wa.drew w2 P → w2.cell? ⟨g, 0, none⟩ = some (.int .i64 ln) ∧ w2.cell? ⟨g, 1, none⟩ = some (.int .i64 lv) ∧ w2.cell? ⟨g + 1, 0, none⟩ = some (.int .i64 hn) ∧ w2.cell? ⟨g + 1, 1, none⟩ = some (.int .i64 hv) := fun w2 hf => ⟨(hf.cell ⟨g, 0, none⟩ (show g < wa.heap.size by omega) (by show g ≠ P; omega)).trans k0, (hf.cell ⟨g, 1, none⟩ (show g < wa.heap.size by omega) (by show g ≠ P; omega)).trans k1, (hf.cell ⟨g + 1, 0, none⟩ (show g + 1 < wa.heap.size by omega) (by show g + 1 ≠ P; omega)).trans k2, (hf.cell ⟨g + 1, 1, none⟩ (show g + 1 < wa.heap.size by omega) (by show g + 1 ≠ P; omega)).trans k3⟩
  have kp7 : ∀ w2 w7 : World, (w2.cell? ⟨g, 0, none⟩ = some (.int .i64 ln) ∧ w2.cell? ⟨g, 1, none⟩ = some (.int .i64 lv) ∧ w2.cell? ⟨g + 1, 0, none⟩ = some (.int .i64 hn) ∧ w2.cell? ⟨g + 1, 1, none⟩ = some (.int .i64 hv)) → (∀ b o, b ≠ w.heap.size → w7.cell? ⟨b, o, none⟩ = w2.cell? ⟨b, o, none⟩) → w7.cell? ⟨g, 0, none⟩ = some (.int .i64 ln) ∧ w7.cell? ⟨g, 1, none⟩ = some (.int .i64 lv) ∧ w7.cell? ⟨g + 1, 0, none⟩ = some (.int .i64 hn) ∧ w7.cell? ⟨g + 1, 1, none⟩ = some (.int .i64 hv) := fun w2 w7 h hk => ⟨(hk (g) 0 (by omega)).trans h.1, (hk (g) 1 (by omega)).trans h.2.1, (hk (g + 1) 0 (by omega)).trans h.2.2.1, (hk (g + 1) 1 (by omega)).trans h.2.2.2⟩
  have HK := Lib.hid kpW
  have HK7 := Lib.hid kp7
  clear kpW kp7
  go_region_held (fun w' => w'.cell? ⟨g, 0, none⟩ = some (.int .i64 ln) ∧ w'.cell? ⟨g, 1, none⟩ = some (.int .i64 lv) ∧ w'.cell? ⟨g + 1, 0, none⟩ = some (.int .i64 hn) ∧ w'.cell? ⟨g + 1, 1, none⟩ = some (.int .i64 hv))
    (first | with_reducible exact hcells2 | with_reducible exact hcells | exact ⟨k0, k1, k2, k3⟩)
    ((go_at_call 75; refine (HC.out _ HQ.out.drew).mono ?_; rintro r w2 ⟨x, i2, a2, e2, rfl, hq2, hi2, hf2, hoc2⟩; have hS2 := (HS.out.over (Below.refl _ _).drew).fr hf2 (show w.heap.size ≠ P by omega); obtain ⟨s0, s1, s2, s3, s4, s5, s6, sz, _⟩ := id hS2; have sz0 := sz 0 (by decide); have sz1 := sz 1 (by decide); have sz2 := sz 2 (by decide); have sz3 := sz 3 (by decide); have sz4 := sz 4 (by decide); have sz5 := sz 5 (by decide); have sz6 := sz 6 (by decide); have hcells := HK.out w2 hf2; have hcells2 := HK7.out w2 _ hcells (set7_far w2 w.heap.size (.int .i64 ln) (.int .i64 lv) (.int .i64 hn) (.int .i64 hv) (.int .i64 x) (.slice none 0 0) (.slice none 0 0)); have hfin := fun (act : Act) (hd : act.defers = []) (h2 : act.tmps[4]?.getD undef = .pointer (some ⟨w.heap.size, 0, none⟩)) => pent_ret (R := Pe w P A c L en 3 i a e) Tryz.results52 hd h2 hS2 (pe_put (N := w.heap.size + 1) (lo := ⟨ln, lv⟩) (hi := ⟨hn, hv⟩) hq2 hi2 ((HF.out.drew).trans hf2) hlt (Nat.lt_succ_self _) Ux.nil Lx.nil (HOC.out x i2 a2 e2 hoc2)); have HFin := Lib.hid hfin; clear hfin hS2 sz hoc2 hq2 hf2))
  go_wp2_with (with_reducible exact HFin.out _ rfl rfl)
set_option maxRecDepth 100000 in
set_option maxHeartbeats 1000000 in
theorem pent_5 (h : Ps w P A c L i en a e) (hi : i ≤ L.length) (hL : Sm L) :
    Calls Tryz.prog 52 #[.pointer (some ⟨P, 0, none⟩), .int .i64 5] w (Pe w P A c L en 5 i a e) := by
  have hlt := h.lt
  have hT := ppair_any (h.alloc (.cells #[.int .i64 0, .int .i64 0, .int .i64 0, .int .i64 0, .int .i64 0, .slice none 0 0, .slice none 0 0] 75)) hi hL false
  have HT := Lib.hid hT
  have hS0 := Eb.new w (.int .i64 0) (.int .i64 0) (.int .i64 0) (.int .i64 0) (.int .i64 0) (.slice none 0 0) (.slice none 0 0) 75
  have hF0 : Fr w (w.alloc (.cells #[.int .i64 0, .int .i64 0, .int .i64 0, .int .i64 0, .int .i64 0, .slice none 0 0, .slice none 0 0] 75)) P := (Fr.refl w P).alloc _
  have HS0 := Lib.hid hS0
  have HF0 := Lib.hid hF0
  clear hT h hS0 hF0
  go_enter Tryz.func52, Tryz.ntmps52
  go_wp2_with fail
  refine HT.out.mono ?_
  rintro r w1 ⟨x, i1, a1, e1, rfl, hbc, hp1, hi1, hf1, hoc⟩
  obtain ⟨⟨ln, lv⟩, ⟨hn, hv⟩⟩ := x
  simp only
  have q1 : 0 ≤ lv ∧ lv < 4294967296 := ⟨hbc.1.2.2.1, hbc.1.2.2.2⟩
  have q2 : 0 ≤ hv ∧ hv < 4294967296 := ⟨hbc.2.2.2.1, hbc.2.2.2.2⟩
  clear hbc
  have wq : IntKind.i64.wrap (hv - lv) = hv - lv := IntWalk.i64_in _ (by omega)
  have hl1 : w.heap.size < w1.heap.size := by have := hf1.size; simp at this; omega
  have hS1 := HS0.out.fr hf1 (by omega)
  have hF1 := HF0.out.trans hf1
  have HO := Lib.hid hoc
  clear hoc hf1 HS0 HF0 HT
  have hqa := (hp1.alloc (.cells #[.int .i64 ln, .int .i64 lv] 47)).alloc (.cells #[.int .i64 hn, .int .i64 hv] 47)
  have hfa := (hF1.alloc (.cells #[.int .i64 ln, .int .i64 lv] 47)).alloc (.cells #[.int .i64 hn, .int .i64 hv] 47)
  have hSa := (hS1.over ((Below.refl _ _).alloc (Nat.le_refl _) (.cells #[.int .i64 ln, .int .i64 lv] 47))).over ((Below.refl _ _).alloc (Nat.le_refl _) (.cells #[.int .i64 hn, .int .i64 hv] 47))
  have k0 : ((w1.alloc (.cells #[.int .i64 ln, .int .i64 lv] 47)).alloc (.cells #[.int .i64 hn, .int .i64 hv] 47)).cell? ⟨w1.heap.size, 0, none⟩ = some (.int .i64 ln) := by simp
  have k1 : ((w1.alloc (.cells #[.int .i64 ln, .int .i64 lv] 47)).alloc (.cells #[.int .i64 hn, .int .i64 hv] 47)).cell? ⟨w1.heap.size, 1, none⟩ = some (.int .i64 lv) := by simp
  have k2 : ((w1.alloc (.cells #[.int .i64 ln, .int .i64 lv] 47)).alloc (.cells #[.int .i64 hn, .int .i64 hv] 47)).cell? ⟨w1.heap.size + 1, 0, none⟩ = some (.int .i64 hn) := by simp
  have k3 : ((w1.alloc (.cells #[.int .i64 ln, .int .i64 lv] 47)).alloc (.cells #[.int .i64 hn, .int .i64 hv] 47)).cell? ⟨w1.heap.size + 1, 1, none⟩ = some (.int .i64 hv) := by simp
  have hgl : w1.heap.size + 1 < ((w1.alloc (.cells #[.int .i64 ln, .int .i64 lv] 47)).alloc (.cells #[.int .i64 hn, .int .i64 hv] 47)).heap.size := by simp
  clear hp1 hF1 hS1
  go_wp2
  generalize (w1.alloc (.cells #[.int .i64 ln, .int .i64 lv] 47)).alloc (.cells #[.int .i64 hn, .int .i64 hv] 47) = wa at *
  generalize w1.heap.size = g at *
  have HQ := Lib.hid hqa
  have HF := Lib.hid hfa
  have HS := Lib.hid hSa
  have hSl := hSa.lt
  clear hqa hfa hSa
  have hC : ∀ w', Ps w' P A c L i1 en a1 e1 → Calls Tryz.prog 75 #[.pointer (some ⟨P, 0, none⟩), .int .i64 (0)] w' fun r w'' => ∃ (x : Int) (i' : Nat) (a' e' : Int), r = .returned (.int .i64 x) ∧ Ps w'' P A c L i' en a' e' ∧ i' ≤ L.length ∧ Fr w' w'' P ∧ Oc (toT L en (0) i1) (fun _ => True) i1 a1 e1 x i' a' e' := fun w' hq => pto_any hq hi1 hL (0) (by omega) (by omega)
  have HC := Lib.hid hC
  have HOc : ∀ (x : Int) (i2 : Nat) (a2 e2 : Int), Oc (toT L en (0) i1) (fun _ => True) i1 a1 e1 x i2 a2 e2 → Oc (entT L en 5 i) (fun _ => True) i a e (⟨⟨ln, lv⟩, ⟨hn, hv⟩, x, [], []⟩ : En) i2 a2 e2 := fun x i2 a2 e2 hoc2 => by
    unfold entT
    rw [if_neg (by decide), if_neg (by decide), if_pos rfl]
    exact Oc.bind HO.out (hoc2.map (fun t => (⟨⟨ln, lv⟩, ⟨hn, hv⟩, t, [], []⟩ : En)))
  have HOC := Lib.hid HOc
  clear hC HOc HO
  have kpW : ∀ w2, Fr wa.drew w2 P → w2.cell? ⟨g, 0, none⟩ = some (.int .i64 ln) ∧ w2.cell? ⟨g, 1, none⟩ = some (.int .i64 lv) ∧ w2.cell? ⟨g + 1, 0, none⟩ = some (.int .i64 hn) ∧ w2.cell? ⟨g + 1, 1, none⟩ = some (.int .i64 hv) := fun w2 hf => ⟨(hf.cell ⟨g, 0, none⟩ (show g < wa.heap.size by omega) (by show g ≠ P; omega)).trans k0, (hf.cell ⟨g, 1, none⟩ (show g < wa.heap.size by omega) (by show g ≠ P; omega)).trans k1, (hf.cell ⟨g + 1, 0, none⟩ (show g + 1 < wa.heap.size by omega) (by show g + 1 ≠ P; omega)).trans k2, (hf.cell ⟨g + 1, 1, none⟩ (show g + 1 < wa.heap.size by omega) (by show g + 1 ≠ P; omega)).trans k3⟩
  have kp7 : ∀ w2 w7 : World, (w2.cell? ⟨g, 0, none⟩ = some (.int .i64 ln) ∧ w2.cell? ⟨g, 1, none⟩ = some (.int .i64 lv) ∧ w2.cell? ⟨g + 1, 0, none⟩ = some (.int .i64 hn) ∧ w2.cell? ⟨g + 1, 1, none⟩ = some (.int .i64 hv)) → (∀ b o, b ≠ w.heap.size → w7.cell? ⟨b, o, none⟩ = w2.cell? ⟨b, o, none⟩) → w7.cell? ⟨g, 0, none⟩ = some (.int .i64 ln) ∧ w7.cell? ⟨g, 1, none⟩ = some (.int .i64 lv) ∧ w7.cell? ⟨g + 1, 0, none⟩ = some (.int .i64 hn) ∧ w7.cell? ⟨g + 1, 1, none⟩ = some (.int .i64 hv) := fun w2 w7 h hk => ⟨(hk (g) 0 (by omega)).trans h.1, (hk (g) 1 (by omega)).trans h.2.1, (hk (g + 1) 0 (by omega)).trans h.2.2.1, (hk (g + 1) 1 (by omega)).trans h.2.2.2⟩
  have HK := Lib.hid kpW
  have HK7 := Lib.hid kp7
  clear kpW kp7
  go_region_held (fun w' => w'.cell? ⟨g, 0, none⟩ = some (.int .i64 ln) ∧ w'.cell? ⟨g, 1, none⟩ = some (.int .i64 lv) ∧ w'.cell? ⟨g + 1, 0, none⟩ = some (.int .i64 hn) ∧ w'.cell? ⟨g + 1, 1, none⟩ = some (.int .i64 hv))
    (first | with_reducible exact hcells2 | with_reducible exact hcells | exact ⟨k0, k1, k2, k3⟩)
    ((go_at_call 75; refine (HC.out _ HQ.out.drew).mono ?_; rintro r w2 ⟨x, i2, a2, e2, rfl, hq2, hi2, hf2, hoc2⟩; have hS2 := (HS.out.over (Below.refl _ _).drew).fr hf2 (show w.heap.size ≠ P by omega); obtain ⟨s0, s1, s2, s3, s4, s5, s6, sz, _⟩ := id hS2; have sz0 := sz 0 (by decide); have sz1 := sz 1 (by decide); have sz2 := sz 2 (by decide); have sz3 := sz 3 (by decide); have sz4 := sz 4 (by decide); have sz5 := sz 5 (by decide); have sz6 := sz 6 (by decide); have hcells := HK.out w2 hf2; have hcells2 := HK7.out w2 _ hcells (set7_far w2 w.heap.size (.int .i64 ln) (.int .i64 lv) (.int .i64 hn) (.int .i64 hv) (.int .i64 x) (.slice none 0 0) (.slice none 0 0)); have hfin := fun (act : Act) (hd : act.defers = []) (h2 : act.tmps[4]?.getD undef = .pointer (some ⟨w.heap.size, 0, none⟩)) => pent_ret (R := Pe w P A c L en 5 i a e) Tryz.results52 hd h2 hS2 (pe_put (N := w.heap.size + 1) (lo := ⟨ln, lv⟩) (hi := ⟨hn, hv⟩) hq2 hi2 ((HF.out.drew).trans hf2) hlt (Nat.lt_succ_self _) Ux.nil Lx.nil (HOC.out x i2 a2 e2 hoc2)); have HFin := Lib.hid hfin; clear hfin hS2 sz hoc2 hq2 hf2))
  go_wp2_with (with_reducible exact HFin.out _ rfl rfl)
set_option maxRecDepth 100000 in
set_option maxHeartbeats 1000000 in
theorem pent_4 (h : Ps w P A c L i en a e) (hi : i ≤ L.length) (hL : Sm L) :
    Calls Tryz.prog 52 #[.pointer (some ⟨P, 0, none⟩), .int .i64 4] w (Pe w P A c L en 4 i a e) := by
  have hlt := h.lt
  have hT := pcode_any (h.alloc (.cells #[.int .i64 0, .int .i64 0, .int .i64 0, .int .i64 0, .int .i64 0, .slice none 0 0, .slice none 0 0] 75)) hi hL
  have HT := Lib.hid hT
  have hS0 := Eb.new w (.int .i64 0) (.int .i64 0) (.int .i64 0) (.int .i64 0) (.int .i64 0) (.slice none 0 0) (.slice none 0 0) 75
  have hF0 : Fr w (w.alloc (.cells #[.int .i64 0, .int .i64 0, .int .i64 0, .int .i64 0, .int .i64 0, .slice none 0 0, .slice none 0 0] 75)) P := (Fr.refl w P).alloc _
  have HS0 := Lib.hid hS0
  have HF0 := Lib.hid hF0
  clear hT h hS0 hF0
  go_enter Tryz.func52, Tryz.ntmps52
  go_wp2_with fail
  refine HT.out.mono ?_
  rintro r w1 ⟨x, i1, a1, e1, rfl, hp1, hi1, hf1, hoc⟩
  obtain ⟨⟨ln, lv⟩, tt⟩ := x
  simp only
  have hl1 : w.heap.size < w1.heap.size := by have := hf1.size; simp at this; omega
  have hS1 := HS0.out.fr hf1 (by omega)
  have hF1 := HF0.out.trans hf1
  have HO := Lib.hid hoc
  clear hoc hf1 HS0 HF0 HT
  have hqa := hp1.alloc (.cells #[.int .i64 ln, .int .i64 lv] 47)
  have hfa := hF1.alloc (.cells #[.int .i64 ln, .int .i64 lv] 47)
  have hSa := hS1.over ((Below.refl _ _).alloc (Nat.le_refl _) (.cells #[.int .i64 ln, .int .i64 lv] 47))
  have k0 : (w1.alloc (.cells #[.int .i64 ln, .int .i64 lv] 47)).cell? ⟨w1.heap.size, 0, none⟩ = some (.int .i64 ln) := by simp
  have k1 : (w1.alloc (.cells #[.int .i64 ln, .int .i64 lv] 47)).cell? ⟨w1.heap.size, 1, none⟩ = some (.int .i64 lv) := by simp
  have hgl : w1.heap.size < (w1.alloc (.cells #[.int .i64 ln, .int .i64 lv] 47)).heap.size := by simp
  clear hp1 hF1 hS1
  go_wp2
  generalize w1.alloc (.cells #[.int .i64 ln, .int .i64 lv] 47) = wa at *
  generalize w1.heap.size = g at *
  have HQ := Lib.hid hqa
  have HF := Lib.hid hfa
  have HS := Lib.hid hSa
  have hSl := hSa.lt
  clear hqa hfa hSa
  have hC : ∀ w', Ps w' P A c L i1 en a1 e1 → Calls Tryz.prog 75 #[.pointer (some ⟨P, 0, none⟩), .int .i64 (0)] w' fun r w'' => ∃ (x : Int) (i' : Nat) (a' e' : Int), r = .returned (.int .i64 x) ∧ Ps w'' P A c L i' en a' e' ∧ i' ≤ L.length ∧ Fr w' w'' P ∧ Oc (toT L en (0) i1) (fun _ => True) i1 a1 e1 x i' a' e' := fun w' hq => pto_any hq hi1 hL (0) (by omega) (by omega)
  have HC := Lib.hid hC
  have HOc : ∀ (x : Int) (i2 : Nat) (a2 e2 : Int), Oc (toT L en (0) i1) (fun _ => True) i1 a1 e1 x i2 a2 e2 → Oc (entT L en 4 i) (fun _ => True) i a e (⟨⟨ln, lv⟩, ⟨ln, lv⟩, x, [], []⟩ : En) i2 a2 e2 := fun x i2 a2 e2 hoc2 => by
    unfold entT
    rw [if_neg (by decide), if_neg (by decide), if_neg (by decide), if_pos (by decide)]
    exact Oc.bind HO.out (hoc2.map (fun t => (⟨⟨ln, lv⟩, ⟨ln, lv⟩, t, [], []⟩ : En)))
  have HOC := Lib.hid HOc
  clear hC HOc HO
  have kpW : ∀ w2, Fr wa.drew w2 P → w2.cell? ⟨g, 0, none⟩ = some (.int .i64 ln) ∧ w2.cell? ⟨g, 1, none⟩ = some (.int .i64 lv) := fun w2 hf => ⟨(hf.cell ⟨g, 0, none⟩ (show g < wa.heap.size by omega) (by show g ≠ P; omega)).trans k0, (hf.cell ⟨g, 1, none⟩ (show g < wa.heap.size by omega) (by show g ≠ P; omega)).trans k1⟩
  have kp7 : ∀ w2 w7 : World, (w2.cell? ⟨g, 0, none⟩ = some (.int .i64 ln) ∧ w2.cell? ⟨g, 1, none⟩ = some (.int .i64 lv)) → (∀ b o, b ≠ w.heap.size → w7.cell? ⟨b, o, none⟩ = w2.cell? ⟨b, o, none⟩) → w7.cell? ⟨g, 0, none⟩ = some (.int .i64 ln) ∧ w7.cell? ⟨g, 1, none⟩ = some (.int .i64 lv) := fun w2 w7 h hk => ⟨(hk (g) 0 (by omega)).trans h.1, (hk (g) 1 (by omega)).trans h.2⟩
  have HK := Lib.hid kpW
  have HK7 := Lib.hid kp7
  clear kpW kp7
  go_region_held (fun w' => w'.cell? ⟨g, 0, none⟩ = some (.int .i64 ln) ∧ w'.cell? ⟨g, 1, none⟩ = some (.int .i64 lv))
    (first | with_reducible exact hcells2 | with_reducible exact hcells | exact ⟨k0, k1⟩)
    ((go_at_call 75; refine (HC.out _ HQ.out.drew).mono ?_; rintro r w2 ⟨x, i2, a2, e2, rfl, hq2, hi2, hf2, hoc2⟩; have hS2 := (HS.out.over (Below.refl _ _).drew).fr hf2 (show w.heap.size ≠ P by omega); obtain ⟨s0, s1, s2, s3, s4, s5, s6, sz, _⟩ := id hS2; have sz0 := sz 0 (by decide); have sz1 := sz 1 (by decide); have sz2 := sz 2 (by decide); have sz3 := sz 3 (by decide); have sz4 := sz 4 (by decide); have sz5 := sz 5 (by decide); have sz6 := sz 6 (by decide); have hcells := HK.out w2 hf2; have hcells2 := HK7.out w2 _ hcells (set7_far w2 w.heap.size (.int .i64 ln) (.int .i64 lv) (.int .i64 ln) (.int .i64 lv) (.int .i64 x) (.slice none 0 0) (.slice none 0 0)); have hfin := fun (act : Act) (hd : act.defers = []) (h2 : act.tmps[4]?.getD undef = .pointer (some ⟨w.heap.size, 0, none⟩)) => pent_ret (R := Pe w P A c L en 4 i a e) Tryz.results52 hd h2 hS2 (pe_put (N := w.heap.size + 1) (lo := ⟨ln, lv⟩) (hi := ⟨ln, lv⟩) hq2 hi2 ((HF.out.drew).trans hf2) hlt (Nat.lt_succ_self _) Ux.nil Lx.nil (HOC.out x i2 a2 e2 hoc2)); have HFin := Lib.hid hfin; clear hfin hS2 sz hoc2 hq2 hf2))
  go_wp2_with (with_reducible exact HFin.out _ rfl rfl)
set_option maxRecDepth 100000 in
set_option maxHeartbeats 1000000 in
theorem pent_6 (h : Ps w P A c L i en a e) (hi : i ≤ L.length) (hL : Sm L) :
    Calls Tryz.prog 52 #[.pointer (some ⟨P, 0, none⟩), .int .i64 6] w (Pe w P A c L en 6 i a e) := by
  have hlt := h.lt
  have hT := pcode_any (h.alloc (.cells #[.int .i64 0, .int .i64 0, .int .i64 0, .int .i64 0, .int .i64 0, .slice none 0 0, .slice none 0 0] 75)) hi hL
  have HT := Lib.hid hT
  have hS0 := Eb.new w (.int .i64 0) (.int .i64 0) (.int .i64 0) (.int .i64 0) (.int .i64 0) (.slice none 0 0) (.slice none 0 0) 75
  have hF0 : Fr w (w.alloc (.cells #[.int .i64 0, .int .i64 0, .int .i64 0, .int .i64 0, .int .i64 0, .slice none 0 0, .slice none 0 0] 75)) P := (Fr.refl w P).alloc _
  have HS0 := Lib.hid hS0
  have HF0 := Lib.hid hF0
  clear hT h hS0 hF0
  go_enter Tryz.func52, Tryz.ntmps52
  go_wp2_with fail
  refine HT.out.mono ?_
  rintro r w1 ⟨x, i1, a1, e1, rfl, hp1, hi1, hf1, hoc⟩
  obtain ⟨⟨ln, lv⟩, tt⟩ := x
  simp only
  have hl1 : w.heap.size < w1.heap.size := by have := hf1.size; simp at this; omega
  have hS1 := HS0.out.fr hf1 (by omega)
  have hF1 := HF0.out.trans hf1
  have HO := Lib.hid hoc
  clear hoc hf1 HS0 HF0 HT
  have hqa := hp1.alloc (.cells #[.int .i64 ln, .int .i64 lv] 47)
  have hfa := hF1.alloc (.cells #[.int .i64 ln, .int .i64 lv] 47)
  have hSa := hS1.over ((Below.refl _ _).alloc (Nat.le_refl _) (.cells #[.int .i64 ln, .int .i64 lv] 47))
  have k0 : (w1.alloc (.cells #[.int .i64 ln, .int .i64 lv] 47)).cell? ⟨w1.heap.size, 0, none⟩ = some (.int .i64 ln) := by simp
  have k1 : (w1.alloc (.cells #[.int .i64 ln, .int .i64 lv] 47)).cell? ⟨w1.heap.size, 1, none⟩ = some (.int .i64 lv) := by simp
  have hgl : w1.heap.size < (w1.alloc (.cells #[.int .i64 ln, .int .i64 lv] 47)).heap.size := by simp
  clear hp1 hF1 hS1
  go_wp2
  generalize w1.alloc (.cells #[.int .i64 ln, .int .i64 lv] 47) = wa at *
  generalize w1.heap.size = g at *
  have HQ := Lib.hid hqa
  have HF := Lib.hid hfa
  have HS := Lib.hid hSa
  have hSl := hSa.lt
  clear hqa hfa hSa
  have hC : ∀ w', Ps w' P A c L i1 en a1 e1 → Calls Tryz.prog 75 #[.pointer (some ⟨P, 0, none⟩), .int .i64 (0)] w' fun r w'' => ∃ (x : Int) (i' : Nat) (a' e' : Int), r = .returned (.int .i64 x) ∧ Ps w'' P A c L i' en a' e' ∧ i' ≤ L.length ∧ Fr w' w'' P ∧ Oc (toT L en (0) i1) (fun _ => True) i1 a1 e1 x i' a' e' := fun w' hq => pto_any hq hi1 hL (0) (by omega) (by omega)
  have HC := Lib.hid hC
  have HOc : ∀ (x : Int) (i2 : Nat) (a2 e2 : Int), Oc (toT L en (0) i1) (fun _ => True) i1 a1 e1 x i2 a2 e2 → Oc (entT L en 6 i) (fun _ => True) i a e (⟨⟨ln, lv⟩, ⟨ln, lv⟩, x, [], []⟩ : En) i2 a2 e2 := fun x i2 a2 e2 hoc2 => by
    unfold entT
    rw [if_neg (by decide), if_neg (by decide), if_neg (by decide), if_pos (by decide)]
    exact Oc.bind HO.out (hoc2.map (fun t => (⟨⟨ln, lv⟩, ⟨ln, lv⟩, t, [], []⟩ : En)))
  have HOC := Lib.hid HOc
  clear hC HOc HO
  have kpW : ∀ w2, Fr wa.drew w2 P → w2.cell? ⟨g, 0, none⟩ = some (.int .i64 ln) ∧ w2.cell? ⟨g, 1, none⟩ = some (.int .i64 lv) := fun w2 hf => ⟨(hf.cell ⟨g, 0, none⟩ (show g < wa.heap.size by omega) (by show g ≠ P; omega)).trans k0, (hf.cell ⟨g, 1, none⟩ (show g < wa.heap.size by omega) (by show g ≠ P; omega)).trans k1⟩
  have kp7 : ∀ w2 w7 : World, (w2.cell? ⟨g, 0, none⟩ = some (.int .i64 ln) ∧ w2.cell? ⟨g, 1, none⟩ = some (.int .i64 lv)) → (∀ b o, b ≠ w.heap.size → w7.cell? ⟨b, o, none⟩ = w2.cell? ⟨b, o, none⟩) → w7.cell? ⟨g, 0, none⟩ = some (.int .i64 ln) ∧ w7.cell? ⟨g, 1, none⟩ = some (.int .i64 lv) := fun w2 w7 h hk => ⟨(hk (g) 0 (by omega)).trans h.1, (hk (g) 1 (by omega)).trans h.2⟩
  have HK := Lib.hid kpW
  have HK7 := Lib.hid kp7
  clear kpW kp7
  go_region_held (fun w' => w'.cell? ⟨g, 0, none⟩ = some (.int .i64 ln) ∧ w'.cell? ⟨g, 1, none⟩ = some (.int .i64 lv))
    (first | with_reducible exact hcells2 | with_reducible exact hcells | exact ⟨k0, k1⟩)
    ((go_at_call 75; refine (HC.out _ HQ.out.drew).mono ?_; rintro r w2 ⟨x, i2, a2, e2, rfl, hq2, hi2, hf2, hoc2⟩; have hS2 := (HS.out.over (Below.refl _ _).drew).fr hf2 (show w.heap.size ≠ P by omega); obtain ⟨s0, s1, s2, s3, s4, s5, s6, sz, _⟩ := id hS2; have sz0 := sz 0 (by decide); have sz1 := sz 1 (by decide); have sz2 := sz 2 (by decide); have sz3 := sz 3 (by decide); have sz4 := sz 4 (by decide); have sz5 := sz 5 (by decide); have sz6 := sz 6 (by decide); have hcells := HK.out w2 hf2; have hcells2 := HK7.out w2 _ hcells (set7_far w2 w.heap.size (.int .i64 ln) (.int .i64 lv) (.int .i64 ln) (.int .i64 lv) (.int .i64 x) (.slice none 0 0) (.slice none 0 0)); have hfin := fun (act : Act) (hd : act.defers = []) (h2 : act.tmps[4]?.getD undef = .pointer (some ⟨w.heap.size, 0, none⟩)) => pent_ret (R := Pe w P A c L en 6 i a e) Tryz.results52 hd h2 hS2 (pe_put (N := w.heap.size + 1) (lo := ⟨ln, lv⟩) (hi := ⟨ln, lv⟩) hq2 hi2 ((HF.out.drew).trans hf2) hlt (Nat.lt_succ_self _) Ux.nil Lx.nil (HOC.out x i2 a2 e2 hoc2)); have HFin := Lib.hid hfin; clear hfin hS2 sz hoc2 hq2 hf2))
  go_wp2_with (with_reducible exact HFin.out _ rfl rfl)
set_option maxRecDepth 100000 in
set_option maxHeartbeats 1000000 in
theorem pent_8 (h : Ps w P A c L i en a e) (hi : i ≤ L.length) (hL : Sm L) :
    Calls Tryz.prog 52 #[.pointer (some ⟨P, 0, none⟩), .int .i64 8] w (Pe w P A c L en 8 i a e) := by
  have hlt := h.lt
  have hT := pcode_any (h.alloc (.cells #[.int .i64 0, .int .i64 0, .int .i64 0, .int .i64 0, .int .i64 0, .slice none 0 0, .slice none 0 0] 75)) hi hL
  have HT := Lib.hid hT
  have hS0 := Eb.new w (.int .i64 0) (.int .i64 0) (.int .i64 0) (.int .i64 0) (.int .i64 0) (.slice none 0 0) (.slice none 0 0) 75
  have hF0 : Fr w (w.alloc (.cells #[.int .i64 0, .int .i64 0, .int .i64 0, .int .i64 0, .int .i64 0, .slice none 0 0, .slice none 0 0] 75)) P := (Fr.refl w P).alloc _
  have HS0 := Lib.hid hS0
  have HF0 := Lib.hid hF0
  clear hT h hS0 hF0
  go_enter Tryz.func52, Tryz.ntmps52
  go_wp2_with fail
  refine HT.out.mono ?_
  rintro r w1 ⟨x, i1, a1, e1, rfl, hp1, hi1, hf1, hoc⟩
  obtain ⟨⟨ln, lv⟩, tt⟩ := x
  simp only
  have hl1 : w.heap.size < w1.heap.size := by have := hf1.size; simp at this; omega
  have hS1 := HS0.out.fr hf1 (by omega)
  have hF1 := HF0.out.trans hf1
  have HO := Lib.hid hoc
  clear hoc hf1 HS0 HF0 HT
  have hqa := hp1.alloc (.cells #[.int .i64 ln, .int .i64 lv] 47)
  have hfa := hF1.alloc (.cells #[.int .i64 ln, .int .i64 lv] 47)
  have hSa := hS1.over ((Below.refl _ _).alloc (Nat.le_refl _) (.cells #[.int .i64 ln, .int .i64 lv] 47))
  have k0 : (w1.alloc (.cells #[.int .i64 ln, .int .i64 lv] 47)).cell? ⟨w1.heap.size, 0, none⟩ = some (.int .i64 ln) := by simp
  have k1 : (w1.alloc (.cells #[.int .i64 ln, .int .i64 lv] 47)).cell? ⟨w1.heap.size, 1, none⟩ = some (.int .i64 lv) := by simp
  have hgl : w1.heap.size < (w1.alloc (.cells #[.int .i64 ln, .int .i64 lv] 47)).heap.size := by simp
  clear hp1 hF1 hS1
  go_wp2
  generalize w1.alloc (.cells #[.int .i64 ln, .int .i64 lv] 47) = wa at *
  generalize w1.heap.size = g at *
  have HQ := Lib.hid hqa
  have HF := Lib.hid hfa
  have HS := Lib.hid hSa
  have hSl := hSa.lt
  clear hqa hfa hSa
  have hC : ∀ w', Ps w' P A c L i1 en a1 e1 → Calls Tryz.prog 79 #[.pointer (some ⟨P, 0, none⟩), .int .i64 4] w' fun r w'' => ∃ (t : Tk) (i' : Nat) (a' e' : Int), r = .returned (tv t) ∧ Ps w'' P A c L i' en a' e' ∧ i' ≤ L.length ∧ t.s.length ≤ 1048576 ∧ Fr w' w'' P ∧ Oc (takeT L en 4 i1) (fun x => x = noT) i1 a1 e1 t i' a' e' := fun w' hq => ptake_any hq hi1 hL 4
  have HC := Lib.hid hC
  have HOc : ∀ (t : Tk) (i2 : Nat) (a2 e2 : Int), Oc (takeT L en 4 i1) (fun x => x = noT) i1 a1 e1 t i2 a2 e2 → Oc (entT L en 8 i) (fun _ => True) i a e (⟨⟨ln, lv⟩, ⟨ln, lv⟩, 0, units t.s, []⟩ : En) i2 (if unitsT t = none ∧ e2 = 0 then t.at_ else a2) (if unitsT t = none ∧ e2 = 0 then 3 else e2) := fun t i2 a2 e2 hoc2 => by
    unfold entT
    rw [if_neg (by decide), if_neg (by decide), if_neg (by decide), if_neg (by decide), if_neg (by decide)]
    refine Oc.bind HO.out ?_
    simp only
    rw [unitm_ch]
    exact (unit_oc hoc2).map (fun t => (⟨⟨ln, lv⟩, ⟨ln, lv⟩, 0, t, []⟩ : En))
  have HOC := Lib.hid HOc
  clear hC HOc HO
  have kpW : ∀ w2, Fr wa.drew w2 P → w2.cell? ⟨g, 0, none⟩ = some (.int .i64 ln) ∧ w2.cell? ⟨g, 1, none⟩ = some (.int .i64 lv) := fun w2 hf => ⟨(hf.cell ⟨g, 0, none⟩ (show g < wa.heap.size by omega) (by show g ≠ P; omega)).trans k0, (hf.cell ⟨g, 1, none⟩ (show g < wa.heap.size by omega) (by show g ≠ P; omega)).trans k1⟩
  have kp7 : ∀ w2 w7 : World, (w2.cell? ⟨g, 0, none⟩ = some (.int .i64 ln) ∧ w2.cell? ⟨g, 1, none⟩ = some (.int .i64 lv)) → (∀ b o, b ≠ w.heap.size → w7.cell? ⟨b, o, none⟩ = w2.cell? ⟨b, o, none⟩) → w7.cell? ⟨g, 0, none⟩ = some (.int .i64 ln) ∧ w7.cell? ⟨g, 1, none⟩ = some (.int .i64 lv) := fun w2 w7 h hk => ⟨(hk (g) 0 (by omega)).trans h.1, (hk (g) 1 (by omega)).trans h.2⟩
  have HK := Lib.hid kpW
  have HK7 := Lib.hid kp7
  clear kpW kp7
  have hgS : w.heap.size < wa.drew.heap.size := hSl
  go_region_held (fun w' => w'.cell? ⟨g, 0, none⟩ = some (.int .i64 ln) ∧ w'.cell? ⟨g, 1, none⟩ = some (.int .i64 lv))
    (first | with_reducible exact hcells2 | with_reducible exact hcells3 | with_reducible exact hcells | exact ⟨k0, k1⟩)
    (first | (go_at_call 79; refine (HC.out _ HQ.out.drew).mono ?_; rintro r w2 ⟨t, i2, a2, e2, rfl, hq2, hi2, hts, hf2, hoc2⟩; have hcells := HK.out w2 hf2; have HU := Lib.hid (punits_new hq2 t hts); have hFw := Lib.hid hf2; have hE2 := Lib.hid (HOC.out t i2 a2 e2 hoc2); clear hq2 hf2 hoc2) | (go_at_call 78; refine HU.out.mono ?_; rintro r w3 ⟨vu, rfl, hux, hq3, hf3⟩; obtain ⟨Au, cu, hvu, _⟩ := hux.si; subst hvu; have hf23 := hFw.out.trans hf3; have hcells3 := HK.out w3 hf23; have hS2 := (HS.out.over (Below.refl _ _).drew).fr hf23 (show w.heap.size ≠ P by omega); obtain ⟨s0, s1, s2, s3, s4, s5, s6, sz, _⟩ := id hS2; have sz0 := sz 0 (by decide); have sz1 := sz 1 (by decide); have sz2 := sz 2 (by decide); have sz3 := sz 3 (by decide); have sz4 := sz 4 (by decide); have sz5 := sz 5 (by decide); have sz6 := sz 6 (by decide); have hcells2 := HK7.out w3 _ hcells3 (set7_far w3 w.heap.size (.int .i64 ln) (.int .i64 lv) (.int .i64 ln) (.int .i64 lv) (.int .i64 0) (.slice Au (units t.s).length cu) (.slice none 0 0)); have hsz2 := hFw.out.size; have hfin := fun (act : Act) (hd : act.defers = []) (h2 : act.tmps[4]?.getD undef = .pointer (some ⟨w.heap.size, 0, none⟩)) => pent_ret (R := Pe w P A c L en 8 i a e) Tryz.results52 hd h2 hS2 (pe_put (N := w2.heap.size) (lo := ⟨ln, lv⟩) (hi := ⟨ln, lv⟩) hq3 hi2 ((HF.out.drew).trans hf23) hlt (Nat.lt_of_lt_of_le hgS hsz2) hux Lx.nil hE2.out); have HFin := Lib.hid hfin; clear hfin hS2 sz hq3 hf3 hux hf23))
  go_wp2_with (with_reducible exact HFin.out _ rfl rfl)
set_option maxRecDepth 100000 in
set_option maxHeartbeats 1000000 in
theorem pent_7 (h : Ps w P A c L i en a e) (hi : i ≤ L.length) (hL : Sm L) :
    Calls Tryz.prog 52 #[.pointer (some ⟨P, 0, none⟩), .int .i64 7] w (Pe w P A c L en 7 i a e) := by
  have hlt := h.lt
  have hT := pbfRange_any (h.alloc (.cells #[.int .i64 0, .int .i64 0, .int .i64 0, .int .i64 0, .int .i64 0, .slice none 0 0, .slice none 0 0] 75)) hi hL
  have HT := Lib.hid hT
  have hS0 := Eb.new w (.int .i64 0) (.int .i64 0) (.int .i64 0) (.int .i64 0) (.int .i64 0) (.slice none 0 0) (.slice none 0 0) 75
  have hF0 : Fr w (w.alloc (.cells #[.int .i64 0, .int .i64 0, .int .i64 0, .int .i64 0, .int .i64 0, .slice none 0 0, .slice none 0 0] 75)) P := (Fr.refl w P).alloc _
  have hsz : w.heap.size < (w.alloc (.cells #[.int .i64 0, .int .i64 0, .int .i64 0, .int .i64 0, .int .i64 0, .slice none 0 0, .slice none 0 0] 75)).heap.size := by simp
  have HS0 := Lib.hid hS0
  have HF0 := Lib.hid hF0
  clear hT h hS0 hF0
  go_enter Tryz.func52, Tryz.ntmps52
  go_wp2_with fail
  refine HT.out.mono ?_
  rintro r w1 ⟨⟨⟨⟨ln, lv⟩, ⟨hn, hv⟩, to, u, ll⟩, vu, vl⟩, i1, a1, e1, rfl, ⟨hux, hlx⟩, hp1, hi1, hf1, hoc⟩
  unfold entV
  simp only at *
  obtain ⟨Au, cu, hvu, _⟩ := hux.si
  obtain ⟨Al, nl, cl, hvl⟩ := hlx.shape
  subst hvu hvl
  have hS1 := HS0.out.fr hf1 (by omega)
  have hfin := fun (act : Act) (hd : act.defers = []) (h2 : act.tmps[4]?.getD undef = .pointer (some ⟨w.heap.size, 0, none⟩)) => pent_ret (R := Pe w P A c L en 7 i a e) Tryz.results52 hd h2 hS1 (pe_put (lo := ⟨ln, lv⟩) (hi := ⟨hn, hv⟩) hp1 hi1 (HF0.out.trans hf1) hlt hsz hux hlx hoc)
  have HFin := Lib.hid hfin
  obtain ⟨s0, s1, s2, s3, s4, s5, s6, sz, _⟩ := id hS1
  have sz0 := sz 0 (by decide); have sz1 := sz 1 (by decide); have sz2 := sz 2 (by decide); have sz3 := sz 3 (by decide); have sz4 := sz 4 (by decide); have sz5 := sz 5 (by decide); have sz6 := sz 6 (by decide)
  clear hfin sz hS1 hux hlx hp1 hf1 hoc HT HS0 HF0
  go_wp2_with (with_reducible exact HFin.out _ rfl rfl)
theorem pent_any (h : Ps w P A c L i en a e) (hi : i ≤ L.length) (hL : Sm L) (kind : Int) (hk : 2 ≤ kind ∧ kind ≤ 8) :
    Calls Tryz.prog 52 #[.pointer (some ⟨P, 0, none⟩), .int .i64 kind] w (Pe w P A c L en kind i a e) := by
  rcases (show kind = 2 ∨ kind = 3 ∨ kind = 4 ∨ kind = 5 ∨ kind = 6 ∨ kind = 7 ∨ kind = 8 by omega) with rfl | rfl | rfl | rfl | rfl | rfl | rfl
  · exact pent_2 h hi hL
  · exact pent_3 h hi hL
  · exact pent_4 h hi hL
  · exact pent_5 h hi hL
  · exact pent_6 h hi hL
  · exact pent_7 h hi hL
  · exact pent_8 h hi hL
end
end Go.Proofs.YthcnjiigkmljnaaGreatDoor
