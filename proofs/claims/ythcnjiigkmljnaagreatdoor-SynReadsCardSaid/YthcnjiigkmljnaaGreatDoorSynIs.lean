/-
  The walk of the statement SynIs: of any tokens what they come to, put together, is what the document says.
-/
import Derived.Test.YthcnjiigkmljnaaGreatDoorSynAwake
import Derived.Test.YthcnjiigkmljnaaGreatDoorSynFew
import Derived.Test.YthcnjiigkmljnaaGreatDoorSynBnd
import Derived.Test.YthcnjiigkmljnaaGreatDoorSynRef13
import Derived.Test.YthcnjiigkmljnaaGreatDoorSynSame
import Derived.Test.YthcnjiigkmljnaaGreatDoorSynCopy
namespace Go.Proofs.YthcnjiigkmljnaaGreatDoor
open Go.RowKit

theorem Ix.shape' {w : World} {X : Nat → Prop} {v : Value} {is : List Im} (h : Ix w X v is) : ∃ A n c, v = .slice A n c := by
  obtain ⟨d, _, ⟨A, c, hv, _⟩, _⟩ := h
  exact ⟨A, _, c, hv⟩
set_option maxRecDepth 100000 in
set_option maxHeartbeats 4000000 in
theorem synIs_any (L : List Tk) (A : Option Addr) (c : Nat) (en kind : Int) (w : World) (hT : Ts w) (hlen : L.length ≤ maxLen) (hst : St w w.heap.size A L) :
    Calls Tryz.prog 3 #[.slice A L.length c, .int .i64 en, .int .i64 kind] w fun e w' => e = .returned (.bool true) ∧ Below w.heap.size w w' := by
  go_enter Tryz.func3, Tryz.ntmps3
  go_wp2_with fail
  refine (awake_any _ hT).mono ?_
  rintro e w1 ⟨rfl, hb1⟩
  have hst1 := hst.over hb1
  have hT1 := hT.below' hb1
  have HF := Lib.hid (Few_any L A c w1 hlen hst1)
  clear hst hT
  go_wp2_with fail
  refine HF.out.mono ?_
  rintro r w2 ⟨bf, rfl, rfl, hf⟩
  clear HF
  cases bf with
  | false =>
    go_wp2
    go_ret
    exact ⟨rfl, hb1⟩
  | true =>
    obtain ⟨hl3, hs3⟩ := hf rfl
    have hJ := few_jv hl3 hs3
    have HP := Lib.hid (Parse_any (en := en) (c := c) w2 hst1 hT1.sec hJ)
    have HB1 := Lib.hid hb1
    have HSt := Lib.hid hst1
    have HT := Lib.hid hT1
    have HJ := Lib.hid hJ
    clear hb1 hf hst1 hT1 hs3 hJ
    go_wp2_with fail
    refine HP.out.mono ?_
    rintro r w3 ⟨hb3, h3⟩
    clear HP
    have HQ := Lib.hid (rParse_any (en := en) (c := c) w3 (HSt.out.over hb3) HJ.out)
    have HB3 : Hid (Below w2.heap.size w2 w3) := Lib.hid hb3
    clear hb3
    have hcs : (∃ a e', parseT L en = .no a e') ∨ ∃ x j, parseT L en = .ok x j := by
      cases parseT L en with
      | no a e' => exact .inl ⟨a, e', rfl⟩
      | ok x j => exact .inr ⟨x, j, rfl⟩
    rcases hcs with ⟨a, e', hp⟩ | ⟨x, j, hp⟩
    · obtain rfl : r = .returned (.tuple #[.slice none 0 0, .int .i64 a, .int .i64 e']) := by
        rcases h3 with ⟨a1, e1, h4, _, rfl⟩ | ⟨x1, j1, A1, c1, h4, _⟩
        · rw [hp] at h4; injection h4 with q1 q2; subst q1 q2; rfl
        · rw [hp] at h4; cases h4
      clear h3
      go_wp2_with fail
      refine HQ.out.mono ?_
      rintro r w4 ⟨hb4, h4⟩
      clear HQ
      obtain rfl : r = .returned (.tuple #[.slice none 0 0, .int .i64 a, .int .i64 e']) := by
        rcases h4 with ⟨a1, e1, h5, _, rfl⟩ | ⟨x1, j1, A1, c1, h5, _⟩
        · rw [hp] at h5; injection h5 with q1 q2; subst q1 q2; rfl
        · rw [hp] at h5; cases h5
      clear h4 hp
      have HB4 : Hid (Below w2.heap.size w2 w4) := Lib.hid (HB3.out.trans (hb4.mono HB3.out.size))
      clear hb4
      go_wp2_with fail
      refine (items_any (Ix.nil (w := w4) (X := fun _ => False)) (by simp) (fun _ h => by cases h)).mono ?_
      rintro r w5 ⟨v', rfl, hix, hb5⟩
      have HB5 : Hid (Below w2.heap.size w2 w5) := Lib.hid (HB4.out.trans (hb5.mono HB4.out.size))
      obtain ⟨Ai, ni, ci, hvi⟩ := hix.shape'
      subst hvi
      have HSm := Lib.hid (isame hix (Ix.nil (w := w5) (X := fun _ => False)) (by simp) (fun _ h => by cases h))
      clear hb5 hix
      go_wp2_with fail
      refine HSm.out.mono ?_
      rintro r w6 ⟨rfl, m, hw6⟩
      have HB6 : Hid (Below w2.heap.size w2 w6) := Lib.hid (by rw [hw6]; exact below_drewN HB5.out m)
      clear HSm hw6
      go_wp2_with fail
      refine (qBegin_any kind w6 (HT.out.below' HB6.out).sec).mono ?_
      rintro r w7 ⟨rfl, hb7⟩
      have HB7 : Hid (Below w2.heap.size w2 w7) := Lib.hid (HB6.out.trans (hb7.mono HB6.out.size))
      clear hb7
      go_wp2_with fail
      refine (rBegin_any kind w7).mono ?_
      rintro r w8 ⟨rfl, hb8⟩
      have HB8 : Hid (Below w2.heap.size w2 w8) := Lib.hid (HB7.out.trans (hb8.mono HB7.out.size))
      clear hb8
      go_wp2
      go_ret
      exact ⟨rfl, HB1.out.trans (HB8.out.mono HB1.out.size)⟩
    · obtain ⟨Aa, ca, hr, hia⟩ : ∃ Aa ca, r = .returned (.tuple #[.slice Aa x.length ca, .int .i64 en, .int .i64 0]) ∧ Ix w3 (fun b => b < w2.heap.size) (.slice Aa x.length ca) x := by
        rcases h3 with ⟨a1, e1, h4, _, rfl⟩ | ⟨x1, j1, A1, c1, h4, h5, h6⟩
        · rw [hp] at h4; cases h4
        · rw [hp] at h4; injection h4 with q1 q2; subst q1 q2; exact ⟨A1, c1, h5, h6⟩
      subst hr
      clear h3
      have hbn := parse_bnd hp
      have hxl : x.length ≤ 1048576 := by have := items_len _ _ _ _ _ _ (Nat.le_refl _) hp; simp at this; omega
      go_wp2_with fail
      refine HQ.out.mono ?_
      rintro r w4 ⟨hb4, h4⟩
      clear HQ
      obtain ⟨Ab, cb, hr, hib⟩ : ∃ Ab cb, r = .returned (.tuple #[.slice Ab x.length cb, .int .i64 en, .int .i64 0]) ∧ Ix w4 (fun b => b < w3.heap.size) (.slice Ab x.length cb) x := by
        rcases h4 with ⟨a1, e1, h5, _, rfl⟩ | ⟨x1, j1, A1, c1, h5, h6, h7⟩
        · rw [hp] at h5; cases h5
        · rw [hp] at h5; injection h5 with q1 q2; subst q1 q2; exact ⟨A1, c1, h6, h7⟩
      subst hr
      clear h4 hp
      have HB4 : Hid (Below w2.heap.size w2 w4) := Lib.hid (HB3.out.trans (hb4.mono HB3.out.size))
      have HIt := Lib.hid (items_any (hia.old.to (Kp.of_below hb4) (fun _ _ h => h)) hxl (fun y hy => (hbn y hy).1))
      have HIb := Lib.hid hib
      clear hia hib hb4
      go_wp2_with fail
      refine HIt.out.mono ?_
      rintro r w5 ⟨v', rfl, hix, hb5⟩
      have HB5 : Hid (Below w2.heap.size w2 w5) := Lib.hid (HB4.out.trans (hb5.mono HB4.out.size))
      obtain ⟨Ai, ni, ci, hvi⟩ := hix.shape'
      subst hvi
      have HSm := Lib.hid (isame hix (HIb.out.old.to (Kp.of_below hb5) (fun _ _ h => h)) hxl hbn)
      clear hb5 hix HIt
      go_wp2_with fail
      refine HSm.out.mono ?_
      rintro r w6 ⟨rfl, m, hw6⟩
      have HB6 : Hid (Below w2.heap.size w2 w6) := Lib.hid (by rw [hw6]; exact below_drewN HB5.out m)
      clear HSm hw6
      go_wp2_with fail
      refine (qBegin_any kind w6 (HT.out.below' HB6.out).sec).mono ?_
      rintro r w7 ⟨rfl, hb7⟩
      have HB7 : Hid (Below w2.heap.size w2 w7) := Lib.hid (HB6.out.trans (hb7.mono HB6.out.size))
      clear hb7
      go_wp2_with fail
      refine (rBegin_any kind w7).mono ?_
      rintro r w8 ⟨rfl, hb8⟩
      have HB8 : Hid (Below w2.heap.size w2 w8) := Lib.hid (HB7.out.trans (hb8.mono HB7.out.size))
      clear hb8
      go_wp2
      go_ret
      exact ⟨rfl, HB1.out.trans (HB8.out.mono HB1.out.size)⟩
end Go.Proofs.YthcnjiigkmljnaaGreatDoor
