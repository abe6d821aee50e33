/-
  The program's parser: the entries of characters.
-/
import Derived.Test.YthcnjiigkmljnaaGreatDoorSynEnt1
namespace Go.Proofs.YthcnjiigkmljnaaGreatDoor
open Go.RowKit

section
variable {w : World} {P : Nat} {A : Option Addr} {c : Nat} {L : List Tk} {i : Nat} {en a e : Int} {vc vi : Value}
set_option maxRecDepth 100000 in
set_option maxHeartbeats 1000000 in
theorem qchar_any (h : Qs w P A c L i en vc vi a e) (hi : i ≤ L.length) (hL : Sm L) (kind : Int) (hk : kind = 4 ∨ kind = 6) :
    Calls Tryz.prog 96 #[.pointer (some ⟨P, 0, none⟩)] w (Ep w P A c L en vc vi kind i a e) := by
  have hlt := h.lt
  have hT := qcode_any (h.alloc (.cells #[.int .i64 0, .int .i64 0, .int .i64 0, .int .i64 0, .int .i64 0, .slice none 0 0, .slice none 0 0] 51)) hi hL
  have HT := Lib.hid hT
  clear hT h
  go_enter Tryz.func96, Tryz.ntmps96
  go_wp2_with fail
  refine HT.out.mono ?_
  rintro r w1 ⟨x, i1, a1, e1, rfl, hp1, hi1, hf1, hoc⟩
  obtain ⟨⟨ln, lv⟩, lat⟩ := x
  simp only
  clear HT
  have hl1 : w.heap.size < w1.heap.size := by have := hf1.size; simp at this; omega
  have hqa := hp1.alloc (.cells #[.int .i64 ln, .int .i64 lv] 47)
  have hfa := hf1.alloc (.cells #[.int .i64 ln, .int .i64 lv] 47)
  have k0 : (w1.alloc (.cells #[.int .i64 ln, .int .i64 lv] 47)).cell? ⟨w1.heap.size, 0, none⟩ = some (.int .i64 ln) := by simp
  have k1 : (w1.alloc (.cells #[.int .i64 ln, .int .i64 lv] 47)).cell? ⟨w1.heap.size, 1, none⟩ = some (.int .i64 lv) := by simp
  have zA : (w1.alloc (.cells #[.int .i64 ln, .int .i64 lv] 47)).heap.size = w1.heap.size + 1 := by simp
  clear hp1 hf1
  go_wp2_with fail
  have hC : ∀ w', Qs w' P A c L i1 en vc vi a1 e1 → Calls Tryz.prog 114 #[.pointer (some ⟨P, 0, none⟩), .int .i64 (0)] w' fun r w'' => ∃ (x : Int) (i' : Nat) (a' e' : Int), r = .returned (.int .i64 x) ∧ Qs w'' P A c L i' en vc vi a' e' ∧ i' ≤ L.length ∧ Fr w' w'' P ∧ Oc (toT L en (0) i1) (fun _ => True) i1 a1 e1 x i' a' e' := fun w' hq => qnumber_any hq hi1 hL (0) (by omega) (by omega)
  have HC := Lib.hid hC
  have HOc : ∀ (x : Int) (i2 : Nat) (a2 e2 : Int), Oc (toT L en (0) i1) (fun _ => True) i1 a1 e1 x i2 a2 e2 → Oc (entT L en kind i) (fun _ => True) i a e (⟨⟨ln, lv⟩, ⟨ln, lv⟩, x, [], []⟩ : En) i2 a2 e2 := fun x i2 a2 e2 hoc2 => by
    unfold entT
    rw [if_neg (by omega), if_neg (by omega), if_neg (by omega), if_pos hk]
    exact Oc.bind hoc (hoc2.map (fun t => (⟨⟨ln, lv⟩, ⟨ln, lv⟩, t, [], []⟩ : En)))
  have kpW : ∀ w2, Fr (w1.alloc (.cells #[.int .i64 ln, .int .i64 lv] 47)).drew w2 P → w2.cell? ⟨w1.heap.size, 0, none⟩ = some (.int .i64 ln) ∧ w2.cell? ⟨w1.heap.size, 1, none⟩ = some (.int .i64 lv) := fun w2 hf => ⟨(hf.cell ⟨w1.heap.size, 0, none⟩ (show w1.heap.size < (w1.alloc (.cells #[.int .i64 ln, .int .i64 lv] 47)).heap.size by omega) (by show w1.heap.size ≠ P; omega)).trans k0, (hf.cell ⟨w1.heap.size, 1, none⟩ (show w1.heap.size < (w1.alloc (.cells #[.int .i64 ln, .int .i64 lv] 47)).heap.size by omega) (by show w1.heap.size ≠ P; omega)).trans k1⟩
  have kp7 : ∀ w2 w7 : World, (w2.cell? ⟨w1.heap.size, 0, none⟩ = some (.int .i64 ln) ∧ w2.cell? ⟨w1.heap.size, 1, none⟩ = some (.int .i64 lv)) → (∀ b o, b ≠ w.heap.size → w7.cell? ⟨b, o, none⟩ = w2.cell? ⟨b, o, none⟩) → w7.cell? ⟨w1.heap.size, 0, none⟩ = some (.int .i64 ln) ∧ w7.cell? ⟨w1.heap.size, 1, none⟩ = some (.int .i64 lv) := fun w2 w7 h hk => ⟨(hk (w1.heap.size) 0 (by omega)).trans h.1, (hk (w1.heap.size) 1 (by omega)).trans h.2⟩
  have hsS : w.heap.size < (w1.alloc (.cells #[.int .i64 ln, .int .i64 lv] 47)).drew.heap.size := by have := hfa.size; simp at this ⊢; omega
  have HOC := Lib.hid HOc
  have HK := Lib.hid kpW
  have HK7 := Lib.hid kp7
  have HQA := Lib.hid hqa
  have HFA := Lib.hid hfa
  clear hC HOc kpW kp7 hqa hfa
  go_region_held (fun w' => w'.cell? ⟨w1.heap.size, 0, none⟩ = some (.int .i64 ln) ∧ w'.cell? ⟨w1.heap.size, 1, none⟩ = some (.int .i64 lv))
    (first | with_reducible exact hcells2 | with_reducible exact hcells | exact ⟨k0, k1⟩)
    ((go_at_call 114; refine (HC.out _ HQA.out.drew).mono ?_; rintro r w2 ⟨x, i2, a2, e2, rfl, hq2, hi2, hf2, hoc2⟩; obtain ⟨⟨f0, f1, f2, f3, f4, f5, f6⟩, ⟨y0, y1, y2, y3, y4, y5, y6⟩, hl2, hfr⟩ := kept7 (HFA.out.drew.trans hf2) hlt; have hcells := HK.out w2 hf2; have HG := Lib.hid (set7 f0 f1 f2 f3 f4 f5 f6 (.int .i64 ln) (.int .i64 lv) (.int .i64 ln) (.int .i64 lv) (.int .i64 x) (.slice none 0 0) (.slice none 0 0)); have hb7 := set7_bel w2 w.heap.size (.int .i64 ln) (.int .i64 lv) (.int .i64 ln) (.int .i64 lv) (.int .i64 x) (.slice none 0 0) (.slice none 0 0); have hcells2 := HK7.out w2 _ hcells (set7_far w2 w.heap.size (.int .i64 ln) (.int .i64 lv) (.int .i64 ln) (.int .i64 lv) (.int .i64 x) (.slice none 0 0) (.slice none 0 0)); have hO := HOC.out x i2 a2 e2 hoc2; have hfin := fun (act : Act) (hd : act.defers = []) (h2 : act.tmps[2]?.getD undef = .pointer (some ⟨w.heap.size, 0, none⟩)) => ent_ret (R := Ep w P A c L en vc vi kind i a e) Tryz.results96 hd h2 HG.out.1 HG.out.2.1 HG.out.2.2.1 HG.out.2.2.2.1 HG.out.2.2.2.2.1 HG.out.2.2.2.2.2.1 HG.out.2.2.2.2.2.2 ⟨(⟨⟨ln, lv⟩, ⟨ln, lv⟩, x, [], []⟩, .slice none 0 0, .slice none 0 0), i2, a2, e2, rfl, ⟨Ux.nil, Lx.nil⟩, hq2.bel hlt hb7, hi2, hfr.bel (Nat.le_refl _) hb7, hO⟩; have HFin := Lib.hid hfin; clear hfin hO hb7 hoc2 hq2 hfr hf2))
  go_wp2_with (with_reducible exact HFin.out _ rfl rfl)
set_option maxRecDepth 100000 in
set_option maxHeartbeats 1000000 in
theorem qbfChar_any (h : Qs w P A c L i en vc vi a e) (hi : i ≤ L.length) (hL : Sm L) :
    Calls Tryz.prog 98 #[.pointer (some ⟨P, 0, none⟩)] w (Ep w P A c L en vc vi 8 i a e) := by
  have hlt := h.lt
  have hT := qcode_any (h.alloc (.cells #[.int .i64 0, .int .i64 0, .int .i64 0, .int .i64 0, .int .i64 0, .slice none 0 0, .slice none 0 0] 51)) hi hL
  have HT := Lib.hid hT
  clear hT h
  go_enter Tryz.func98, Tryz.ntmps98
  go_wp2_with fail
  refine HT.out.mono ?_
  rintro r w1 ⟨x, i1, a1, e1, rfl, hp1, hi1, hf1, hoc⟩
  obtain ⟨⟨ln, lv⟩, lat⟩ := x
  simp only
  clear HT
  have hl1 : w.heap.size < w1.heap.size := by have := hf1.size; simp at this; omega
  have hqa := hp1.alloc (.cells #[.int .i64 ln, .int .i64 lv] 47)
  have hfa := hf1.alloc (.cells #[.int .i64 ln, .int .i64 lv] 47)
  have k0 : (w1.alloc (.cells #[.int .i64 ln, .int .i64 lv] 47)).cell? ⟨w1.heap.size, 0, none⟩ = some (.int .i64 ln) := by simp
  have k1 : (w1.alloc (.cells #[.int .i64 ln, .int .i64 lv] 47)).cell? ⟨w1.heap.size, 1, none⟩ = some (.int .i64 lv) := by simp
  have zA : (w1.alloc (.cells #[.int .i64 ln, .int .i64 lv] 47)).heap.size = w1.heap.size + 1 := by simp
  clear hp1 hf1
  go_wp2_with fail
  have hC : ∀ w', Qs w' P A c L i1 en vc vi a1 e1 → Calls Tryz.prog 117 #[.pointer (some ⟨P, 0, none⟩), .int .i64 (0)] w' fun r w'' => ∃ (v : Value) (u : List Int) (i' : Nat) (a' e' : Int), r = .returned v ∧ Ux w'' (fun b => b < w'.heap.size) v u ∧ Qs w'' P A c L i' en vc vi a' e' ∧ i' ≤ L.length ∧ Fr w' w'' P ∧ Oc (unitmT L en (0) i1) (fun _ => True) i1 a1 e1 u i' a' e' := fun w' hq => qunits_any hq hi1 hL (0) (by omega) (by omega)
  have HC := Lib.hid hC
  have HOc : ∀ (x : List Int) (i2 : Nat) (a2 e2 : Int), Oc (unitmT L en (0) i1) (fun _ => True) i1 a1 e1 x i2 a2 e2 → Oc (entT L en 8 i) (fun _ => True) i a e (⟨⟨ln, lv⟩, ⟨ln, lv⟩, 0, x, []⟩ : En) i2 a2 e2 := fun x i2 a2 e2 hoc2 => by
    unfold entT
    rw [if_neg (by decide), if_neg (by decide), if_neg (by decide), if_neg (by decide), if_neg (by decide)]
    refine Oc.bind hoc ?_
    simp only
    rw [unitm_ch]
    exact hoc2.map (fun t => (⟨⟨ln, lv⟩, ⟨ln, lv⟩, 0, t, []⟩ : En))
  have kpW : ∀ w2, Fr (w1.alloc (.cells #[.int .i64 ln, .int .i64 lv] 47)).drew w2 P → w2.cell? ⟨w1.heap.size, 0, none⟩ = some (.int .i64 ln) ∧ w2.cell? ⟨w1.heap.size, 1, none⟩ = some (.int .i64 lv) := fun w2 hf => ⟨(hf.cell ⟨w1.heap.size, 0, none⟩ (show w1.heap.size < (w1.alloc (.cells #[.int .i64 ln, .int .i64 lv] 47)).heap.size by omega) (by show w1.heap.size ≠ P; omega)).trans k0, (hf.cell ⟨w1.heap.size, 1, none⟩ (show w1.heap.size < (w1.alloc (.cells #[.int .i64 ln, .int .i64 lv] 47)).heap.size by omega) (by show w1.heap.size ≠ P; omega)).trans k1⟩
  have kp7 : ∀ w2 w7 : World, (w2.cell? ⟨w1.heap.size, 0, none⟩ = some (.int .i64 ln) ∧ w2.cell? ⟨w1.heap.size, 1, none⟩ = some (.int .i64 lv)) → (∀ b o, b ≠ w.heap.size → w7.cell? ⟨b, o, none⟩ = w2.cell? ⟨b, o, none⟩) → w7.cell? ⟨w1.heap.size, 0, none⟩ = some (.int .i64 ln) ∧ w7.cell? ⟨w1.heap.size, 1, none⟩ = some (.int .i64 lv) := fun w2 w7 h hk => ⟨(hk (w1.heap.size) 0 (by omega)).trans h.1, (hk (w1.heap.size) 1 (by omega)).trans h.2⟩
  have hsS : w.heap.size < (w1.alloc (.cells #[.int .i64 ln, .int .i64 lv] 47)).drew.heap.size := by have := hfa.size; simp at this ⊢; omega
  have HOC := Lib.hid HOc
  have HK := Lib.hid kpW
  have HK7 := Lib.hid kp7
  have HQA := Lib.hid hqa
  have HFA := Lib.hid hfa
  clear hC HOc kpW kp7 hqa hfa
  go_region_held (fun w' => w'.cell? ⟨w1.heap.size, 0, none⟩ = some (.int .i64 ln) ∧ w'.cell? ⟨w1.heap.size, 1, none⟩ = some (.int .i64 lv))
    (first | with_reducible exact hcells2 | with_reducible exact hcells | exact ⟨k0, k1⟩)
    ((go_at_call 117; refine (HC.out _ HQA.out.drew).mono ?_; rintro r w2 ⟨v, x, i2, a2, e2, rfl, hux, hq2, hi2, hf2, hoc2⟩; obtain ⟨Av, cv, hve, _⟩ := id hux; subst hve; obtain ⟨⟨f0, f1, f2, f3, f4, f5, f6⟩, ⟨y0, y1, y2, y3, y4, y5, y6⟩, hl2, hfr⟩ := kept7 (HFA.out.drew.trans hf2) hlt; have hcells := HK.out w2 hf2; have HG := Lib.hid (set7 f0 f1 f2 f3 f4 f5 f6 (.int .i64 ln) (.int .i64 lv) (.int .i64 ln) (.int .i64 lv) (.int .i64 0) (.slice Av x.length cv) (.slice none 0 0)); have hb7 := set7_bel w2 w.heap.size (.int .i64 ln) (.int .i64 lv) (.int .i64 ln) (.int .i64 lv) (.int .i64 0) (.slice Av x.length cv) (.slice none 0 0); have hcells2 := HK7.out w2 _ hcells (set7_far w2 w.heap.size (.int .i64 ln) (.int .i64 lv) (.int .i64 ln) (.int .i64 lv) (.int .i64 0) (.slice Av x.length cv) (.slice none 0 0)); have hO := HOC.out x i2 a2 e2 hoc2; have hfin := fun (act : Act) (hd : act.defers = []) (h2 : act.tmps[2]?.getD undef = .pointer (some ⟨w.heap.size, 0, none⟩)) => ent_ret (R := Ep w P A c L en vc vi 8 i a e) Tryz.results98 hd h2 HG.out.1 HG.out.2.1 HG.out.2.2.1 HG.out.2.2.2.1 HG.out.2.2.2.2.1 HG.out.2.2.2.2.2.1 HG.out.2.2.2.2.2.2 ⟨(⟨⟨ln, lv⟩, ⟨ln, lv⟩, 0, x, []⟩, .slice Av x.length cv, .slice none 0 0), i2, a2, e2, rfl, ⟨hux.to (set7_kp w2 w.heap.size (.int .i64 ln) (.int .i64 lv) (.int .i64 ln) (.int .i64 lv) (.int .i64 0) (.slice Av x.length cv) (.slice none 0 0) hsS) (fun b _ h => Nat.lt_trans h hsS), Lx.nil⟩, hq2.bel hlt hb7, hi2, hfr.bel (Nat.le_refl _) hb7, hO⟩; have HFin := Lib.hid hfin; clear hfin hO hb7 hoc2 hq2 hfr hf2))
  go_wp2_with (with_reducible exact HFin.out _ rfl rfl)
end
end Go.Proofs.YthcnjiigkmljnaaGreatDoor
