/-
  The walk of the statement SynReads: of any source what its tokens come to is what the document says.
-/
import Derived.Test.YthcnjiigkmljnaaGreatDoorSynIs
import Derived.Test.YthcnjiigkmljnaaGreatDoorPart4
import Derived.Test.YthcnjiigkmljnaaGreatDoorTokAll
import Derived.Test.YthcnjiigkmljnaaGreatDoorPart9
namespace Go.Proofs.YthcnjiigkmljnaaGreatDoor
open Go.RowKit

set_option maxHeartbeats 1000000 in
theorem synReads_long (l : List UInt8) (w : World) (hT : Ts w) (hm : l.length ≤ maxLen) (h : 800 < l.length) :
    Calls Tryz.prog 4 #[.string (str l)] w fun e w' => e = .returned (.bool true) ∧ Below w.heap.size w w' := by
  unfold maxLen at hm
  have d1 : decide ((800 : Int) < (l.length : Int)) = true := by simp; omega
  go_enter Tryz.func4, Tryz.ntmps4
  go_wp2_with fail
  refine (awake_any _ hT).mono ?_
  rintro e w1 ⟨rfl, hb1⟩
  go_wp2
  go_ret
  exact ⟨rfl, hb1⟩
set_option maxRecDepth 100000 in
set_option maxHeartbeats 4000000 in
theorem synReads_any (l : List UInt8) (w : World) (hT : Ts w) (hm : l.length ≤ maxLen) :
    Calls Tryz.prog 4 #[.string (str l)] w fun e w' => e = .returned (.bool true) ∧ Below w.heap.size w w' := by
  by_cases hlong : 800 < l.length
  · exact synReads_long l w hT hm hlong
  have d1 : decide ((800 : Int) < (l.length : Int)) = false := by simp; omega
  have hAk := all_k l.length 0 l (Nat.le_refl _)
  have hA : ∀ w', Ts w' → Calls Tryz.prog 13 #[.string (str l)] w' fun e w'' => ∃ A c, e = .returned (.tuple #[.slice A (all 0 l).l.length c, .int .i64 ((all 0 l).k : Int), .int .i64 (all 0 l).e]) ∧ (all 0 l).l.length ≤ c ∧ St w'' w''.heap.size A (all 0 l).l ∧ Below w'.heap.size w' w'' := fun w' h => All_any l w' h.tab h.mks (by omega)
  have hR : ∀ w', Calls Tryz.prog 14 #[.string (str l)] w' fun e w'' => ∃ A c, e = .returned (.tuple #[.slice A (all 0 l).l.length c, .int .i64 ((all 0 l).k : Int), .int .i64 (all 0 l).e]) ∧ (all 0 l).l.length ≤ c ∧ St w'' w''.heap.size A (all 0 l).l ∧ Below w'.heap.size w' w'' := fun w' => rAll_any l w' (by omega)
  have hJ : Jv (all 0 l).l [] 0 := .inl ⟨by have := hAk.count; omega, fun t ht => by have := (hAk.gd t ht).2; omega⟩
  have hLL : (all 0 l).l.length ≤ 1048576 := hJ.len
  generalize (all 0 l).l = L at *
  generalize (all 0 l).k = kk at *
  generalize (all 0 l).e = ee at *
  have HA := Lib.hid hA
  have HR := Lib.hid hR
  have HJ := Lib.hid hJ
  clear hA hR hJ hAk
  go_enter Tryz.func4, Tryz.ntmps4
  go_wp2_with fail
  refine (awake_any _ hT).mono ?_
  rintro e w1 ⟨rfl, hb1⟩
  have hT1 := hT.below' hb1
  go_wp2_with fail
  refine (HA.out _ hT1).mono ?_
  rintro e w0 ⟨A1, c1, rfl, _, hst0, hb0⟩
  have hb01 := hb1.trans (hb0.mono hb1.size)
  clear hb0 hb1
  go_wp2_with fail
  refine (HR.out _).mono ?_
  rintro e w2 ⟨A2, c2, rfl, _, hst2, hb2⟩
  have hst1 := hst0.over hb2
  have hb12 := hb01.trans (hb2.mono hb01.size)
  have hT2 := hT.below' hb12
  have HB1 := Lib.hid hb12
  have HSt := Lib.hid hst2
  clear hst0 hb2 hb01 hb12 HA HR hT1 hst2
  by_cases he : ee = 0
  case neg =>
    have te : (ee != 0) = true := by rw [bne_iff_ne]; exact he
    clear he
    go_wp2
    go_ret
    exact ⟨rfl, HB1.out⟩
  subst he
  have HP := Lib.hid (Parse_any (en := (l.length : Int)) (c := c1) w2 hst1 hT2.sec HJ.out)
  have HT := Lib.hid hT2
  clear hst1 hT2 hT
  go_wp2_with fail
  refine HP.out.mono ?_
  rintro r w3 ⟨hb3, h3⟩
  clear HP
  have HQ := Lib.hid (rParse_any (en := (l.length : Int)) (c := c2) w3 (HSt.out.over hb3) HJ.out)
  have HB3 : Hid (Below w2.heap.size w2 w3) := Lib.hid hb3
  clear hb3
  have hcs : (∃ a e', parseT L (l.length : Int) = .no a e') ∨ ∃ x j, parseT L (l.length : Int) = .ok x j := by
    cases parseT L (l.length : Int) with
    | no a e' => exact .inl ⟨a, e', rfl⟩
    | ok x j => exact .inr ⟨x, j, rfl⟩
  rcases hcs with ⟨a, e', hp⟩ | ⟨x, j, hp⟩
  · obtain rfl : r = .returned (.tuple #[.slice none 0 0, .int .i64 a, .int .i64 e']) := by
      rcases h3 with ⟨a1, e1, h4, _, rfl⟩ | ⟨x1, j1, A1, c1, h4, _⟩
      · rw [hp] at h4; injection h4 with q1 q2; subst q1 q2; rfl
      · rw [hp] at h4; cases h4
    clear h3
    go_wp2_with fail
    refine HQ.out.mono ?_
    rintro r w4 ⟨hb4, h4⟩
    clear HQ
    obtain rfl : r = .returned (.tuple #[.slice none 0 0, .int .i64 a, .int .i64 e']) := by
      rcases h4 with ⟨a1, e1, h5, _, rfl⟩ | ⟨x1, j1, A1, c1, h5, _⟩
      · rw [hp] at h5; injection h5 with q1 q2; subst q1 q2; rfl
      · rw [hp] at h5; cases h5
    clear h4 hp
    have HB4 : Hid (Below w2.heap.size w2 w4) := Lib.hid (HB3.out.trans (hb4.mono HB3.out.size))
    clear hb4
    go_wp2_with fail
    refine (items_any (Ix.nil (w := w4) (X := fun _ => False)) (by simp) (fun _ h => by cases h)).mono ?_
    rintro r w5 ⟨v', rfl, hix, hb5⟩
    have HB5 : Hid (Below w2.heap.size w2 w5) := Lib.hid (HB4.out.trans (hb5.mono HB4.out.size))
    obtain ⟨Ai, ni, ci, hvi⟩ := hix.shape'
    subst hvi
    have HSm := Lib.hid (isame hix (Ix.nil (w := w5) (X := fun _ => False)) (by simp) (fun _ h => by cases h))
    clear hb5 hix
    go_wp2_with fail
    refine HSm.out.mono ?_
    rintro r w6 ⟨rfl, m, hw6⟩
    have HB6 : Hid (Below w2.heap.size w2 w6) := Lib.hid (by rw [hw6]; exact below_drewN HB5.out m)
    clear HSm hw6
    go_wp2
    go_ret
    exact ⟨rfl, HB1.out.trans (HB6.out.mono HB1.out.size)⟩
  · obtain ⟨Aa, ca, hr, hia⟩ : ∃ Aa ca, r = .returned (.tuple #[.slice Aa x.length ca, .int .i64 (l.length : Int), .int .i64 0]) ∧ Ix w3 (fun b => b < w2.heap.size) (.slice Aa x.length ca) x := by
      rcases h3 with ⟨a1, e1, h4, _, rfl⟩ | ⟨x1, j1, A1, c1, h4, h5, h6⟩
      · rw [hp] at h4; cases h4
      · rw [hp] at h4; injection h4 with q1 q2; subst q1 q2; exact ⟨A1, c1, h5, h6⟩
    subst hr
    clear h3
    have hbn := parse_bnd hp
    have hxl : x.length ≤ 1048576 := by have := items_len _ _ _ _ _ _ (Nat.le_refl _) hp; simp at this; omega
    go_wp2_with fail
    refine HQ.out.mono ?_
    rintro r w4 ⟨hb4, h4⟩
    clear HQ
    obtain ⟨Ab, cb, hr, hib⟩ : ∃ Ab cb, r = .returned (.tuple #[.slice Ab x.length cb, .int .i64 (l.length : Int), .int .i64 0]) ∧ Ix w4 (fun b => b < w3.heap.size) (.slice Ab x.length cb) x := by
      rcases h4 with ⟨a1, e1, h5, _, rfl⟩ | ⟨x1, j1, A1, c1, h5, h6, h7⟩
      · rw [hp] at h5; cases h5
      · rw [hp] at h5; injection h5 with q1 q2; subst q1 q2; exact ⟨A1, c1, h6, h7⟩
    subst hr
    clear h4 hp
    have HB4 : Hid (Below w2.heap.size w2 w4) := Lib.hid (HB3.out.trans (hb4.mono HB3.out.size))
    have HIt := Lib.hid (items_any (hia.old.to (Kp.of_below hb4) (fun _ _ h => h)) hxl (fun y hy => (hbn y hy).1))
    have HIb := Lib.hid hib
    clear hia hib hb4
    go_wp2_with fail
    refine HIt.out.mono ?_
    rintro r w5 ⟨v', rfl, hix, hb5⟩
    have HB5 : Hid (Below w2.heap.size w2 w5) := Lib.hid (HB4.out.trans (hb5.mono HB4.out.size))
    obtain ⟨Ai, ni, ci, hvi⟩ := hix.shape'
    subst hvi
    have HSm := Lib.hid (isame hix (HIb.out.old.to (Kp.of_below hb5) (fun _ _ h => h)) hxl hbn)
    clear hb5 hix HIt
    go_wp2_with fail
    refine HSm.out.mono ?_
    rintro r w6 ⟨rfl, m, hw6⟩
    have HB6 : Hid (Below w2.heap.size w2 w6) := Lib.hid (by rw [hw6]; exact below_drewN HB5.out m)
    clear HSm hw6
    go_wp2
    go_ret
    exact ⟨rfl, HB1.out.trans (HB6.out.mono HB1.out.size)⟩
end Go.Proofs.YthcnjiigkmljnaaGreatDoor
