/-
  The program's parser: the entry of a range of units.
-/
import Derived.Test.YthcnjiigkmljnaaGreatDoorSynEnt2
namespace Go.Proofs.YthcnjiigkmljnaaGreatDoor
open Go.RowKit

section
variable {w : World} {P : Nat} {A : Option Addr} {c : Nat} {L : List Tk} {i : Nat} {en a e : Int} {vc vi : Value}
set_option maxRecDepth 100000 in
set_option maxHeartbeats 1000000 in
theorem qbfRange_any (h : Qs w P A c L i en vc vi a e) (hi : i ≤ L.length) (hL : Sm L) :
    Calls Tryz.prog 97 #[.pointer (some ⟨P, 0, none⟩)] w (Ep w P A c L en vc vi 7 i a e) := by
  have hlt := h.lt
  have hT := qcodes_num (h.alloc (.cells #[.int .i64 0, .int .i64 0, .int .i64 0, .int .i64 0, .int .i64 0, .slice none 0 0, .slice none 0 0] 51)) hi hL
  have HT := Lib.hid hT
  clear hT h
  go_enter Tryz.func97, Tryz.ntmps97
  go_wp2_with fail
  refine HT.out.mono ?_
  rintro r w1 ⟨x, i1, a1, e1, rfl, hbc, hp1, hi1, hf1, hoc⟩
  obtain ⟨⟨ln, lv⟩, ⟨hn, hv⟩⟩ := x
  simp only
  clear HT
  have q1 : 0 ≤ lv ∧ lv < 4294967296 := ⟨hbc.1.2.2.1, hbc.1.2.2.2⟩
  have q2 : 0 ≤ hv ∧ hv < 4294967296 := ⟨hbc.2.2.2.1, hbc.2.2.2.2⟩
  clear hbc
  have wq : IntKind.i64.wrap (hv - lv) = hv - lv := IntWalk.i64_in _ (by omega)
  have wq1 : IntKind.i64.wrap (hv - lv + 1) = hv - lv + 1 := IntWalk.i64_in _ (by omega)
  have hl1 : w.heap.size < w1.heap.size := by have := hf1.size; simp at this; omega
  have hqa := (hp1.alloc (.cells #[.int .i64 ln, .int .i64 lv] 47)).alloc (.cells #[.int .i64 hn, .int .i64 hv] 47)
  have hfa := (hf1.alloc (.cells #[.int .i64 ln, .int .i64 lv] 47)).alloc (.cells #[.int .i64 hn, .int .i64 hv] 47)
  have k0 : ((w1.alloc (.cells #[.int .i64 ln, .int .i64 lv] 47)).alloc (.cells #[.int .i64 hn, .int .i64 hv] 47)).cell? ⟨w1.heap.size, 0, none⟩ = some (.int .i64 ln) := by simp
  have k1 : ((w1.alloc (.cells #[.int .i64 ln, .int .i64 lv] 47)).alloc (.cells #[.int .i64 hn, .int .i64 hv] 47)).cell? ⟨w1.heap.size, 1, none⟩ = some (.int .i64 lv) := by simp
  have k2 : ((w1.alloc (.cells #[.int .i64 ln, .int .i64 lv] 47)).alloc (.cells #[.int .i64 hn, .int .i64 hv] 47)).cell? ⟨w1.heap.size + 1, 0, none⟩ = some (.int .i64 hn) := by simp
  have k3 : ((w1.alloc (.cells #[.int .i64 ln, .int .i64 lv] 47)).alloc (.cells #[.int .i64 hn, .int .i64 hv] 47)).cell? ⟨w1.heap.size + 1, 1, none⟩ = some (.int .i64 hv) := by simp
  have zA : ((w1.alloc (.cells #[.int .i64 ln, .int .i64 lv] 47)).alloc (.cells #[.int .i64 hn, .int .i64 hv] 47)).heap.size = w1.heap.size + 2 := by simp
  have hA : ∀ w', Qs w' P A c L i1 en vc vi a1 e1 → Calls Tryz.prog 99 #[.pointer (some ⟨P, 0, none⟩), .int .i64 6] w' fun r w'' => r = .returned (.bool (atB L i1 6)) ∧ Below w'.heap.size w' w'' := fun w' hq => qat_any hq 6
  clear hp1 hf1
  cases hat : atB L i1 6 with
  | true =>
    rw [hat] at hA
    have HA := Lib.hid hA
    clear hA
    have hqA := Lib.hid hqa
    have hfA := Lib.hid hfa
    clear hqa hfa
    go_wp2_with fail
    refine (HA.out _ hqA.out).mono ?_
    rintro r wb ⟨rfl, hbb⟩
    have hqa := hqA.out.over hbb
    have hfa := hfA.out.over hbb
    have zB := hbb.size
    rw [zA] at zB
    have k0 := (hbb.cell (p := ⟨w1.heap.size, 0, none⟩) (by show w1.heap.size < _; omega)).trans k0
    have k1 := (hbb.cell (p := ⟨w1.heap.size, 1, none⟩) (by show w1.heap.size < _; omega)).trans k1
    have k2 := (hbb.cell (p := ⟨w1.heap.size + 1, 0, none⟩) (by show w1.heap.size + 1 < _; omega)).trans k2
    have k3 := (hbb.cell (p := ⟨w1.heap.size + 1, 1, none⟩) (by show w1.heap.size + 1 < _; omega)).trans k3
    clear HA hqA hfA hbb zA
    go_wp2_with fail
    have hC : ∀ w', Qs w' P A c L i1 en vc vi a1 e1 → Calls Tryz.prog 116 #[.pointer (some ⟨P, 0, none⟩), .int .i64 (hv - lv + 1)] w' fun r w'' => ∃ (v : Value) (ll : List (List Int)) (i' : Nat) (a' e' : Int), r = .returned v ∧ Lx w'' (fun b => b < w'.heap.size) v ll ∧ Qs w'' P A c L i' en vc vi a' e' ∧ i' ≤ L.length ∧ Fr w' w'' P ∧ Oc (listOT L en (hv - lv + 1) i1) (fun _ => True) i1 a1 e1 ll i' a' e' := fun w' hq => qlist_any hq hi1 hL (hv - lv + 1)
    have HC := Lib.hid hC
    have HOc : ∀ (x : List (List Int)) (i2 : Nat) (a2 e2 : Int), Oc (listOT L en (hv - lv + 1) i1) (fun _ => True) i1 a1 e1 x i2 a2 e2 → Oc (entT L en 7 i) (fun _ => True) i a e (⟨⟨ln, lv⟩, ⟨hn, hv⟩, 0, [], x⟩ : En) i2 a2 e2 := fun x i2 a2 e2 hoc2 => by
      unfold entT
      rw [if_neg (by decide), if_neg (by decide), if_neg (by decide), if_neg (by decide), if_pos rfl]
      unfold bfT
      refine Oc.bind hoc ?_
      have ha2 := hat
      simp [atB] at ha2
      simp only
      rw [if_pos ha2, ← listO_at hat]
      exact hoc2.map (fun t => (⟨⟨ln, lv⟩, ⟨hn, hv⟩, 0, [], t⟩ : En))
    have kpW : ∀ w2, Fr wb.drew w2 P → w2.cell? ⟨w1.heap.size, 0, none⟩ = some (.int .i64 ln) ∧ w2.cell? ⟨w1.heap.size, 1, none⟩ = some (.int .i64 lv) ∧ w2.cell? ⟨w1.heap.size + 1, 0, none⟩ = some (.int .i64 hn) ∧ w2.cell? ⟨w1.heap.size + 1, 1, none⟩ = some (.int .i64 hv) := fun w2 hf => ⟨(hf.cell ⟨w1.heap.size, 0, none⟩ (show w1.heap.size < wb.heap.size by omega) (by show w1.heap.size ≠ P; omega)).trans k0, (hf.cell ⟨w1.heap.size, 1, none⟩ (show w1.heap.size < wb.heap.size by omega) (by show w1.heap.size ≠ P; omega)).trans k1, (hf.cell ⟨w1.heap.size + 1, 0, none⟩ (show w1.heap.size + 1 < wb.heap.size by omega) (by show w1.heap.size + 1 ≠ P; omega)).trans k2, (hf.cell ⟨w1.heap.size + 1, 1, none⟩ (show w1.heap.size + 1 < wb.heap.size by omega) (by show w1.heap.size + 1 ≠ P; omega)).trans k3⟩
    have kp7 : ∀ w2 w7 : World, (w2.cell? ⟨w1.heap.size, 0, none⟩ = some (.int .i64 ln) ∧ w2.cell? ⟨w1.heap.size, 1, none⟩ = some (.int .i64 lv) ∧ w2.cell? ⟨w1.heap.size + 1, 0, none⟩ = some (.int .i64 hn) ∧ w2.cell? ⟨w1.heap.size + 1, 1, none⟩ = some (.int .i64 hv)) → (∀ b o, b ≠ w.heap.size → w7.cell? ⟨b, o, none⟩ = w2.cell? ⟨b, o, none⟩) → w7.cell? ⟨w1.heap.size, 0, none⟩ = some (.int .i64 ln) ∧ w7.cell? ⟨w1.heap.size, 1, none⟩ = some (.int .i64 lv) ∧ w7.cell? ⟨w1.heap.size + 1, 0, none⟩ = some (.int .i64 hn) ∧ w7.cell? ⟨w1.heap.size + 1, 1, none⟩ = some (.int .i64 hv) := fun w2 w7 h hk => ⟨(hk (w1.heap.size) 0 (by omega)).trans h.1, (hk (w1.heap.size) 1 (by omega)).trans h.2.1, (hk (w1.heap.size + 1) 0 (by omega)).trans h.2.2.1, (hk (w1.heap.size + 1) 1 (by omega)).trans h.2.2.2⟩
    have hsS : w.heap.size < wb.drew.heap.size := by have := hfa.size; simp at this ⊢; omega
    have HOC := Lib.hid HOc
    have HK := Lib.hid kpW
    have HK7 := Lib.hid kp7
    have HQA := Lib.hid hqa
    have HFA := Lib.hid hfa
    clear hC HOc kpW kp7 hqa hfa
    go_region_held (fun w' => w'.cell? ⟨w1.heap.size, 0, none⟩ = some (.int .i64 ln) ∧ w'.cell? ⟨w1.heap.size, 1, none⟩ = some (.int .i64 lv) ∧ w'.cell? ⟨w1.heap.size + 1, 0, none⟩ = some (.int .i64 hn) ∧ w'.cell? ⟨w1.heap.size + 1, 1, none⟩ = some (.int .i64 hv))
      (first | with_reducible exact hcells2 | with_reducible exact hcells | exact ⟨k0, k1, k2, k3⟩)
      ((go_at_call 116; refine (HC.out _ HQA.out.drew).mono ?_; rintro r w2 ⟨v, x, i2, a2, e2, rfl, hux, hq2, hi2, hf2, hoc2⟩; obtain ⟨Av, nv, cv, hve⟩ := Lx.shape hux; subst hve; obtain ⟨⟨f0, f1, f2, f3, f4, f5, f6⟩, ⟨y0, y1, y2, y3, y4, y5, y6⟩, hl2, hfr⟩ := kept7 (HFA.out.drew.trans hf2) hlt; have hcells := HK.out w2 hf2; have HG := Lib.hid (set7 f0 f1 f2 f3 f4 f5 f6 (.int .i64 ln) (.int .i64 lv) (.int .i64 hn) (.int .i64 hv) (.int .i64 0) (.slice none 0 0) (.slice Av nv cv)); have hb7 := set7_bel w2 w.heap.size (.int .i64 ln) (.int .i64 lv) (.int .i64 hn) (.int .i64 hv) (.int .i64 0) (.slice none 0 0) (.slice Av nv cv); have hcells2 := HK7.out w2 _ hcells (set7_far w2 w.heap.size (.int .i64 ln) (.int .i64 lv) (.int .i64 hn) (.int .i64 hv) (.int .i64 0) (.slice none 0 0) (.slice Av nv cv)); have hO := HOC.out x i2 a2 e2 hoc2; have hfin := fun (act : Act) (hd : act.defers = []) (h2 : act.tmps[2]?.getD undef = .pointer (some ⟨w.heap.size, 0, none⟩)) => ent_ret (R := Ep w P A c L en vc vi 7 i a e) Tryz.results97 hd h2 HG.out.1 HG.out.2.1 HG.out.2.2.1 HG.out.2.2.2.1 HG.out.2.2.2.2.1 HG.out.2.2.2.2.2.1 HG.out.2.2.2.2.2.2 ⟨(⟨⟨ln, lv⟩, ⟨hn, hv⟩, 0, [], x⟩, .slice none 0 0, .slice Av nv cv), i2, a2, e2, rfl, ⟨Ux.nil, hux.to (set7_kp w2 w.heap.size (.int .i64 ln) (.int .i64 lv) (.int .i64 hn) (.int .i64 hv) (.int .i64 0) (.slice none 0 0) (.slice Av nv cv) hsS) (fun b _ h => Nat.lt_trans h hsS)⟩, hq2.bel hlt hb7, hi2, hfr.bel (Nat.le_refl _) hb7, hO⟩; have HFin := Lib.hid hfin; clear hfin hO hb7 hoc2 hq2 hfr hf2))
    go_wp2_with (with_reducible exact HFin.out _ rfl rfl)
  | false =>
    rw [hat] at hA
    have HA := Lib.hid hA
    clear hA
    have hqA := Lib.hid hqa
    have hfA := Lib.hid hfa
    clear hqa hfa
    go_wp2_with fail
    refine (HA.out _ hqA.out).mono ?_
    rintro r wb ⟨rfl, hbb⟩
    have hqa := hqA.out.over hbb
    have hfa := hfA.out.over hbb
    have zB := hbb.size
    rw [zA] at zB
    have k0 := (hbb.cell (p := ⟨w1.heap.size, 0, none⟩) (by show w1.heap.size < _; omega)).trans k0
    have k1 := (hbb.cell (p := ⟨w1.heap.size, 1, none⟩) (by show w1.heap.size < _; omega)).trans k1
    have k2 := (hbb.cell (p := ⟨w1.heap.size + 1, 0, none⟩) (by show w1.heap.size + 1 < _; omega)).trans k2
    have k3 := (hbb.cell (p := ⟨w1.heap.size + 1, 1, none⟩) (by show w1.heap.size + 1 < _; omega)).trans k3
    clear HA hqA hfA hbb zA
    go_wp2_with fail
    have hC : ∀ w', Qs w' P A c L i1 en vc vi a1 e1 → Calls Tryz.prog 117 #[.pointer (some ⟨P, 0, none⟩), .int .i64 (hv - lv)] w' fun r w'' => ∃ (v : Value) (u : List Int) (i' : Nat) (a' e' : Int), r = .returned v ∧ Ux w'' (fun b => b < w'.heap.size) v u ∧ Qs w'' P A c L i' en vc vi a' e' ∧ i' ≤ L.length ∧ Fr w' w'' P ∧ Oc (unitmT L en (hv - lv) i1) (fun _ => True) i1 a1 e1 u i' a' e' := fun w' hq => qunits_any hq hi1 hL (hv - lv) (by omega) (by omega)
    have HC := Lib.hid hC
    have HOc : ∀ (x : List Int) (i2 : Nat) (a2 e2 : Int), Oc (unitmT L en (hv - lv) i1) (fun _ => True) i1 a1 e1 x i2 a2 e2 → Oc (entT L en 7 i) (fun _ => True) i a e (⟨⟨ln, lv⟩, ⟨hn, hv⟩, 0, x, []⟩ : En) i2 a2 e2 := fun x i2 a2 e2 hoc2 => by
      unfold entT
      rw [if_neg (by decide), if_neg (by decide), if_neg (by decide), if_neg (by decide), if_pos rfl]
      unfold bfT
      refine Oc.bind hoc ?_
      have ha2 : ¬ (i1 < L.length ∧ (tg L i1).kind = 6) := fun hh => by simp [atB, hh] at hat
      simp only
      rw [if_neg ha2]
      exact (unitm_bf L en ⟨ln, lv⟩ ⟨hn, hv⟩ i1) ▸ hoc2.map (fun t => (⟨⟨ln, lv⟩, ⟨hn, hv⟩, 0, t, []⟩ : En))
    have kpW : ∀ w2, Fr wb.drew w2 P → w2.cell? ⟨w1.heap.size, 0, none⟩ = some (.int .i64 ln) ∧ w2.cell? ⟨w1.heap.size, 1, none⟩ = some (.int .i64 lv) ∧ w2.cell? ⟨w1.heap.size + 1, 0, none⟩ = some (.int .i64 hn) ∧ w2.cell? ⟨w1.heap.size + 1, 1, none⟩ = some (.int .i64 hv) := fun w2 hf => ⟨(hf.cell ⟨w1.heap.size, 0, none⟩ (show w1.heap.size < wb.heap.size by omega) (by show w1.heap.size ≠ P; omega)).trans k0, (hf.cell ⟨w1.heap.size, 1, none⟩ (show w1.heap.size < wb.heap.size by omega) (by show w1.heap.size ≠ P; omega)).trans k1, (hf.cell ⟨w1.heap.size + 1, 0, none⟩ (show w1.heap.size + 1 < wb.heap.size by omega) (by show w1.heap.size + 1 ≠ P; omega)).trans k2, (hf.cell ⟨w1.heap.size + 1, 1, none⟩ (show w1.heap.size + 1 < wb.heap.size by omega) (by show w1.heap.size + 1 ≠ P; omega)).trans k3⟩
    have kp7 : ∀ w2 w7 : World, (w2.cell? ⟨w1.heap.size, 0, none⟩ = some (.int .i64 ln) ∧ w2.cell? ⟨w1.heap.size, 1, none⟩ = some (.int .i64 lv) ∧ w2.cell? ⟨w1.heap.size + 1, 0, none⟩ = some (.int .i64 hn) ∧ w2.cell? ⟨w1.heap.size + 1, 1, none⟩ = some (.int .i64 hv)) → (∀ b o, b ≠ w.heap.size → w7.cell? ⟨b, o, none⟩ = w2.cell? ⟨b, o, none⟩) → w7.cell? ⟨w1.heap.size, 0, none⟩ = some (.int .i64 ln) ∧ w7.cell? ⟨w1.heap.size, 1, none⟩ = some (.int .i64 lv) ∧ w7.cell? ⟨w1.heap.size + 1, 0, none⟩ = some (.int .i64 hn) ∧ w7.cell? ⟨w1.heap.size + 1, 1, none⟩ = some (.int .i64 hv) := fun w2 w7 h hk => ⟨(hk (w1.heap.size) 0 (by omega)).trans h.1, (hk (w1.heap.size) 1 (by omega)).trans h.2.1, (hk (w1.heap.size + 1) 0 (by omega)).trans h.2.2.1, (hk (w1.heap.size + 1) 1 (by omega)).trans h.2.2.2⟩
    have hsS : w.heap.size < wb.drew.heap.size := by have := hfa.size; simp at this ⊢; omega
    have HOC := Lib.hid HOc
    have HK := Lib.hid kpW
    have HK7 := Lib.hid kp7
    have HQA := Lib.hid hqa
    have HFA := Lib.hid hfa
    clear hC HOc kpW kp7 hqa hfa
    go_region_held (fun w' => w'.cell? ⟨w1.heap.size, 0, none⟩ = some (.int .i64 ln) ∧ w'.cell? ⟨w1.heap.size, 1, none⟩ = some (.int .i64 lv) ∧ w'.cell? ⟨w1.heap.size + 1, 0, none⟩ = some (.int .i64 hn) ∧ w'.cell? ⟨w1.heap.size + 1, 1, none⟩ = some (.int .i64 hv))
      (first | with_reducible exact hcells2 | with_reducible exact hcells | exact ⟨k0, k1, k2, k3⟩)
      ((go_at_call 117; refine (HC.out _ HQA.out.drew).mono ?_; rintro r w2 ⟨v, x, i2, a2, e2, rfl, hux, hq2, hi2, hf2, hoc2⟩; obtain ⟨Av, cv, hve, _⟩ := id hux; subst hve; obtain ⟨⟨f0, f1, f2, f3, f4, f5, f6⟩, ⟨y0, y1, y2, y3, y4, y5, y6⟩, hl2, hfr⟩ := kept7 (HFA.out.drew.trans hf2) hlt; have hcells := HK.out w2 hf2; have HG := Lib.hid (set7 f0 f1 f2 f3 f4 f5 f6 (.int .i64 ln) (.int .i64 lv) (.int .i64 hn) (.int .i64 hv) (.int .i64 0) (.slice Av x.length cv) (.slice none 0 0)); have hb7 := set7_bel w2 w.heap.size (.int .i64 ln) (.int .i64 lv) (.int .i64 hn) (.int .i64 hv) (.int .i64 0) (.slice Av x.length cv) (.slice none 0 0); have hcells2 := HK7.out w2 _ hcells (set7_far w2 w.heap.size (.int .i64 ln) (.int .i64 lv) (.int .i64 hn) (.int .i64 hv) (.int .i64 0) (.slice Av x.length cv) (.slice none 0 0)); have hO := HOC.out x i2 a2 e2 hoc2; have hfin := fun (act : Act) (hd : act.defers = []) (h2 : act.tmps[2]?.getD undef = .pointer (some ⟨w.heap.size, 0, none⟩)) => ent_ret (R := Ep w P A c L en vc vi 7 i a e) Tryz.results97 hd h2 HG.out.1 HG.out.2.1 HG.out.2.2.1 HG.out.2.2.2.1 HG.out.2.2.2.2.1 HG.out.2.2.2.2.2.1 HG.out.2.2.2.2.2.2 ⟨(⟨⟨ln, lv⟩, ⟨hn, hv⟩, 0, x, []⟩, .slice Av x.length cv, .slice none 0 0), i2, a2, e2, rfl, ⟨hux.to (set7_kp w2 w.heap.size (.int .i64 ln) (.int .i64 lv) (.int .i64 hn) (.int .i64 hv) (.int .i64 0) (.slice Av x.length cv) (.slice none 0 0) hsS) (fun b _ h => Nat.lt_trans h hsS), Lx.nil⟩, hq2.bel hlt hb7, hi2, hfr.bel (Nat.le_refl _) hb7, hO⟩; have HFin := Lib.hid hfin; clear hfin hO hb7 hoc2 hq2 hfr hf2))
    go_wp2_with (with_reducible exact HFin.out _ rfl rfl)
end
end Go.Proofs.YthcnjiigkmljnaaGreatDoor
