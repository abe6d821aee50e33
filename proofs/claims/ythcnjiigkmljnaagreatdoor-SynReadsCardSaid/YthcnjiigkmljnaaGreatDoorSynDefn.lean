/-
  The program's parser: def.
-/
import Derived.Test.YthcnjiigkmljnaaGreatDoorSynUse
namespace Go.Proofs.YthcnjiigkmljnaaGreatDoor
open Go.RowKit

section
variable {w : World} {P : Nat} {A : Option Addr} {c : Nat} {L : List Tk} {i : Nat} {en a e : Int} {vc vi : Value} {acc : List Im}
set_option maxRecDepth 100000 in
set_option maxHeartbeats 20000000 in
theorem qdef_any (h : Qs w P A c L (i + 1) en vc vi a 0) (hj : Js w P vc vi [] acc) (hi : i < L.length) (hL : L.length ≤ 1048576) (hal : acc.length ≤ 1048576) (t : Tk) :
    Calls Tryz.prog 48 #[.pointer (some ⟨P, 0, none⟩), tv t] w (Wp w P A c L en vc a acc (.ok (defT t (backT L i 2) (backT L i 1)) (i + 1))) := by
  obtain ⟨i0, hi0, hz0, hz1, hz2⟩ := info_parts infoI
  have hlt := h.lt
  have h2 : ∀ w', Qs w' P A c L (i + 1) en vc vi a 0 → Calls Tryz.prog 70 #[.pointer (some ⟨P, 0, none⟩), .int .i64 2] w' fun r w'' => r = .returned (tv (backT L i 2)) ∧ Below w'.heap.size w' w'' := fun w' hq => qahead_any hq hi hL 2 (by decide) (by decide)
  have h1 : ∀ w', Qs w' P A c L (i + 1) en vc vi a 0 → Calls Tryz.prog 70 #[.pointer (some ⟨P, 0, none⟩), .int .i64 1] w' fun r w'' => r = .returned (tv (backT L i 1)) ∧ Below w'.heap.size w' w'' := fun w' hq => qahead_any hq hi hL 1 (by decide) (by decide)
  generalize backT L i 2 = tb at *
  generalize backT L i 1 = ta at *
  obtain ⟨tk, tt, tn, ts⟩ := t
  obtain ⟨bk, bt, bn, bs⟩ := tb
  obtain ⟨ak, at_, an, as_⟩ := ta
  unfold tv at *
  simp only at *
  have H2 := Lib.hid h2
  have H1 := Lib.hid h1
  have HP := Lib.hid h
  have HJ := Lib.hid hj
  clear h2 h1 h hj
  go_enter Tryz.func48, Tryz.ntmps48
  go_wp2_with fail
  refine (H2.out _ (HP.out.alloc _)).mono ?_
  rintro r w1 ⟨rfl, hb1⟩
  have hq1 := (HP.out.alloc (.cells #[.int .i64 tk, .int .i64 tt, .int .i64 tn, .string (str ts)] 42)).over hb1
  have HQ1 := Lib.hid hq1
  clear hq1
  go_wp2_with fail
  refine (H1.out _ HQ1.out).mono ?_
  rintro r w2 ⟨rfl, hb2⟩
  have z1 := hb1.size
  have z2 := hb2.size
  simp at z1
  have k3 : w2.cell? ⟨w.heap.size, 1, none⟩ = some (.int .i64 tt) := (hb2.cell (p := ⟨w.heap.size, 1, none⟩) (by show w.heap.size < _; omega)).trans ((hb1.cell (p := ⟨w.heap.size, 1, none⟩) (by simp)).trans (by simp))
  have hf2 : Fr w w2 P := (((Fr.refl w P).alloc _).over hb1).over hb2
  have hq2 := HQ1.out.over hb2
  have hbel2 : Below P w w2 := ((Below.refl P w).alloc (Nat.le_of_lt hlt) _).trans ((hb1.trans (hb2.mono hb1.size)).mono (by simp; omega))
  have nT : w.heap.size ≠ w2.heap.size := by omega
  have nT1 : w.heap.size ≠ w2.heap.size + 1 := by omega
  have hlw : w.heap.size < w2.heap.size := by omega
  have HQ := Lib.hid hq2
  have HF := Lib.hid hf2
  have HB := Lib.hid hbel2
  have c4 := hq2.c4
  have hlt2 := hq2.lt
  clear hq2 hf2 hbel2 hb1 hb2 H1 H2 HQ1
  by_cases hk : bk = 2 ∧ (ak = 1 ∨ ak = 2 ∨ ak = 5)
  · have hd : defT ⟨tk, tt, tn, ts⟩ ⟨bk, bt, bn, bs⟩ ⟨ak, at_, an, as_⟩ = [⟨0, tt, bs, ⟨ak, at_, an, as_⟩, []⟩] := by unfold defT; exact if_pos hk
    obtain ⟨hk1, hk2⟩ := hk
    obtain ⟨d, hacc, hod, hnd⟩ := HJ.out.oi
    obtain ⟨Ai, ci, hvie, _⟩ := row_shape hod
    subst hvie
    have hdl : d.length ≤ 1048576 := by rw [hacc, List.length_map] at hal; exact hal
    have hown := own_fr hod ((HF.out.alloc (.cells #[.int .i64 bk, .int .i64 bt, .int .i64 bn, .string (str bs)] 42)).alloc (.cells #[.int .i64 ak, .int .i64 at_, .int .i64 an, .string (str as_)] 42)) (Nat.lt_succ_self P)
    have hqb := (HQ.out.alloc (.cells #[.int .i64 bk, .int .i64 bt, .int .i64 bn, .string (str bs)] 42)).alloc (.cells #[.int .i64 ak, .int .i64 at_, .int .i64 an, .string (str as_)] 42)
    have hzb : ((w2.alloc (.cells #[.int .i64 bk, .int .i64 bt, .int .i64 bn, .string (str bs)] 42)).alloc (.cells #[.int .i64 ak, .int .i64 at_, .int .i64 an, .string (str as_)] 42)).heap.size = w2.heap.size + 2 := by simp
    have hvi : ∀ b, (Value.slice Ai d.length ci).ownBlock = some b → P < b ∧ b < w.heap.size := fun b hb => ⟨(hod.lt b hb).1, (hod.lt b hb).2⟩
    have hfin : ∀ (g n cap : Nat) (w3 : World), ((((w2.alloc (.cells #[.int .i64 bk, .int .i64 bt, .int .i64 bn, .string (str bs)] 42)).alloc (.cells #[.int .i64 ak, .int .i64 at_, .int .i64 an, .string (str as_)] 42)).alloc (.cells #[.int .i64 0, .int .i64 tt, .string (str bs), .int .i64 ak, .int .i64 at_, .int .i64 an, .string (str as_), .slice none 0 0] 45)).drew).grownBy w3 (Value.slice Ai d.length ci).ownBlock → ((Value.slice Ai d.length ci).ownBlock = some g ∨ g = ((((w2.alloc (.cells #[.int .i64 bk, .int .i64 bt, .int .i64 bn, .string (str bs)] 42)).alloc (.cells #[.int .i64 ak, .int .i64 at_, .int .i64 an, .string (str as_)] 42)).alloc (.cells #[.int .i64 0, .int .i64 tt, .string (str bs), .int .i64 ak, .int .i64 at_, .int .i64 an, .string (str as_), .slice none 0 0] 45)).drew).heap.size) → w3.ownsRow (P + 1) 45 8 (.slice (some ⟨g, 0, none⟩) n cap) (d.length + 1) (d.flatMap iq ++ iq ((⟨0, tt, bs, ⟨ak, at_, an, as_⟩, []⟩ : Im), .slice none 0 0)) → Wp w P A c L en vc a acc (.ok (defT ⟨tk, tt, tn, ts⟩ ⟨bk, bt, bn, bs⟩ ⟨ak, at_, an, as_⟩) (i + 1)) (.returned (.tuple #[])) (w3.setCell ⟨P, 4, none⟩ (.slice (some ⟨g, 0, none⟩) n cap)) := fun g n cap w3 hgrow hat hown3 => by
      have hq3 := ((hqb.alloc (.cells #[.int .i64 0, .int .i64 tt, .string (str bs), .int .i64 ak, .int .i64 at_, .int .i64 an, .string (str as_), .slice none 0 0] 45)).drew).grown hgrow (fun b hb => (hvi b hb).1)
      have hfw : Fr w ((((w2.alloc (.cells #[.int .i64 bk, .int .i64 bt, .int .i64 bn, .string (str bs)] 42)).alloc (.cells #[.int .i64 ak, .int .i64 at_, .int .i64 an, .string (str as_)] 42)).alloc (.cells #[.int .i64 0, .int .i64 tt, .string (str bs), .int .i64 ak, .int .i64 at_, .int .i64 an, .string (str as_), .slice none 0 0] 45)).drew) P := (((HF.out.alloc _).alloc _).alloc _).drew
      refine ⟨rfl, ?_, .inr ⟨[(⟨0, tt, bs, ⟨ak, at_, an, as_⟩, []⟩ : Im)], i + 1, _, by rw [hd], hi, hq3.setI _, HJ.out.item hlt hfw Ex.nil hgrow hat d hacc hod hnd hown3⟩⟩
      have hb3 : Below P w ((((w2.alloc (.cells #[.int .i64 bk, .int .i64 bt, .int .i64 bn, .string (str bs)] 42)).alloc (.cells #[.int .i64 ak, .int .i64 at_, .int .i64 an, .string (str as_)] 42)).alloc (.cells #[.int .i64 0, .int .i64 tt, .string (str bs), .int .i64 ak, .int .i64 at_, .int .i64 an, .string (str as_), .slice none 0 0] 45)).drew) := hfw.below (Nat.le_of_lt hlt) (Nat.le_refl _)
      exact (hb3.grown hgrow (by have := hfw.size; omega) (fun b hb => Nat.le_of_lt (hvi b hb).1)).setCell (p := ⟨P, 4, none⟩) (Nat.le_refl _) _
    have hcl : ∀ w3 : World, ((((w2.alloc (.cells #[.int .i64 bk, .int .i64 bt, .int .i64 bn, .string (str bs)] 42)).alloc (.cells #[.int .i64 ak, .int .i64 at_, .int .i64 an, .string (str as_)] 42)).alloc (.cells #[.int .i64 0, .int .i64 tt, .string (str bs), .int .i64 ak, .int .i64 at_, .int .i64 an, .string (str as_), .slice none 0 0] 45)).drew).grownBy w3 (Value.slice Ai d.length ci).ownBlock → w3.cell? ⟨P, 4, none⟩ = some (.slice Ai d.length ci) ∧ w3.frozen? ⟨P, 4, none⟩ = false := fun w3 hgrow => by
      have hq3 := ((hqb.alloc (.cells #[.int .i64 0, .int .i64 tt, .string (str bs), .int .i64 ak, .int .i64 at_, .int .i64 an, .string (str as_), .slice none 0 0] 45)).drew).grown hgrow (fun b hb => (hvi b hb).1)
      exact ⟨hq3.c4, hq3.z4⟩
    have HFin := Lib.hid hfin
    have HCl := Lib.hid hcl
    have HOwn := Lib.hid hown
    have nP : P ≠ w2.heap.size := by omega
    have nP1 : P ≠ w2.heap.size + 1 := by omega
    have nP2 : P ≠ w2.heap.size + 2 := by omega
    have c4b := hqb.c4
    have c4c := (hqb.alloc (.cells #[.int .i64 0, .int .i64 tt, .string (str bs), .int .i64 ak, .int .i64 at_, .int .i64 an, .string (str as_), .slice none 0 0] 45)).c4
    have lp1 : P < w2.heap.size + 1 := by omega
    have lp2 : P < w2.heap.size + 1 + 1 := by omega
    have lp3 : P < w2.heap.size + 2 := by omega
    have lw1 : w.heap.size < w2.heap.size + 1 := by omega
    clear hfin hcl hown hqb hd hnd hod hvi
    have d1 : (bk != 2) = false := by simp [hk1]
    have hcs : (ak == 1) = true ∨ ((ak == 1) = false ∧ (ak == 2) = true) ∨ ((ak == 1) = false ∧ (ak == 2) = false ∧ (ak == 5) = true) := by
      rcases hk2 with h | h | h <;> subst h <;> decide
    clear hk1 hk2
    rcases hcs with d2 | ⟨d2, d3⟩ | ⟨d2, d3, d4⟩
    all_goals
      go_wp2
      go_region_law ((refine step_append_lies _ (by rfl) _ _ _ (by rfl) (P + 1) 45 i0 (.agg #[.int .i64 0, .int .i64 0, .string ⟨#[]⟩, .int .i64 0, .int .i64 0, .int .i64 0, .string ⟨#[]⟩, .slice none 0 0]) 8 96 Tryz.underlying25 hi0 hz0 hz1 hz2 rfl (by omega) (.slice Ai d.length ci) d.length (d.flatMap iq) (by rfl) (HOwn.out.alloc _).drew ⟨w2.heap.size + 2, 0, none⟩ 1 1 (iq ((⟨0, tt, bs, ⟨ak, at_, an, as_⟩, []⟩ : Im), .slice none 0 0)) (by rfl) (by rfl) (World.news_of_block (heap_alloc_3 w2 _ _ _)) (by intro u hu; exact iq_one _ rfl u hu) (by omega) (by unfold maxLen; omega) (by omega) (by simp; omega) _ rfl ?_; intro g cap w3 hown3 hgrow hat hgl; obtain ⟨e4, ez4⟩ := HCl.out w3 hgrow))
      all_goals
        have HZ := Lib.hid (HFin.out g (d.length + 1) cap w3 hgrow hat hown3)
        go_wp2_with (with_reducible exact end0 Tryz.results48 rfl HZ.out)
  · have hd : defT ⟨tk, tt, tn, ts⟩ ⟨bk, bt, bn, bs⟩ ⟨ak, at_, an, as_⟩ = [] := by unfold defT; exact if_neg hk
    have hfin : Wp w P A c L en vc a acc (.ok (defT ⟨tk, tt, tn, ts⟩ ⟨bk, bt, bn, bs⟩ ⟨ak, at_, an, as_⟩) (i + 1)) (.returned (.tuple #[])) ((w2.alloc (.cells #[.int .i64 bk, .int .i64 bt, .int .i64 bn, .string (str bs)] 42)).alloc (.cells #[.int .i64 ak, .int .i64 at_, .int .i64 an, .string (str as_)] 42)) :=
      ⟨rfl, (HB.out.alloc (by omega) _).alloc (by simp; omega) _, .inr ⟨[], i + 1, vi, by rw [hd], hi, (HQ.out.alloc _).alloc _, by rw [List.append_nil]; exact HJ.out.fr ((HF.out.alloc _).alloc _)⟩⟩
    have HFin := Lib.hid hfin
    clear hfin hd
    have hcs : (bk != 2) = true ∨ ((bk != 2) = false ∧ (ak == 1) = false ∧ (ak == 2) = false ∧ (ak == 5) = false) := by
      by_cases h : bk = 2
      · right
        refine ⟨by simp [h], ?_⟩
        simp
        refine ⟨fun e => hk ⟨h, .inl e⟩, fun e => hk ⟨h, .inr (.inl e)⟩, fun e => hk ⟨h, .inr (.inr e)⟩⟩
      · left; simp [h]
    rcases hcs with d1 | ⟨d1, d2, d3, d4⟩
    · go_wp2_with (with_reducible exact ret0 Tryz.results48 rfl HFin.out)
    · go_wp2_with (with_reducible exact end0 Tryz.results48 rfl HFin.out)
end
end Go.Proofs.YthcnjiigkmljnaaGreatDoor
