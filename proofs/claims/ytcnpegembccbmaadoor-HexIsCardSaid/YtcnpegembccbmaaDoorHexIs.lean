/-
  The walk of the statement HexIs.
-/
import Derived.Test.YtcnpegembccbmaaDoorHexAwake
import Derived.Test.YtcnpegembccbmaaDoorRefUn
import Derived.Test.YtcnpegembccbmaaDoorRefHex
import Derived.Test.YtcnpegembccbmaaDoorHexRows
namespace Go.Proofs.YtcnpegembccbmaaDoor
open Go.RowKit

/-- Digit, the program's and the document's own: one answer. -/
theorem Digit_both (c : Int) : ∃ (x : Int) (b : Bool), (∀ w, Tab w → Calls Tryd.prog 11 #[.int .i64 c] w fun e w' => e = .returned (.tuple #[.int .i64 x, .bool b]) ∧ w = w') ∧
    (∀ w, Calls Tryd.prog 12 #[.int .i64 c] w fun e w' => e = .returned (.tuple #[.int .i64 x, .bool b]) ∧ w = w') := by
  by_cases h : 2 ≤ kz c
  · exact ⟨_, true, fun w ht => Digit_yes c w ht h, fun w => rDigit_yes c w h⟩
  · exact ⟨_, false, fun w ht => Digit_no c w ht (by omega), fun w => rDigit_no c w (by omega)⟩

set_option maxHeartbeats 1000000 in
theorem is_long (d : Int) (A : Option Addr) (c : Nat) (a l : List UInt8) (w : World) (ht : Tab w) (hm : a.length ≤ maxLen) (hm' : l.length ≤ maxLen) (h : 500 < a.length ∨ 1000 < l.length) :
    Calls Tryd.prog 3 #[.int .i64 d, .slice A a.length c, .string (str l)] w fun e w' => e = .returned (.bool true) ∧ Below w.heap.size w w' := by
  unfold maxLen at hm hm'
  by_cases h1 : 500 < a.length
  · have d1 : decide ((500 : Int) < (a.length : Int)) = true := by simp; omega
    go_enter Tryd.func3, Tryd.ntmps3
    go_wp2_with fail
    refine (awake_any _ ht).mono ?_
    rintro e w1 ⟨rfl, hb1⟩
    go_wp2
    go_ret
    exact ⟨rfl, hb1⟩
  · have d1 : decide ((500 : Int) < (a.length : Int)) = false := by simp; omega
    have d2 : decide ((1000 : Int) < (l.length : Int)) = true := by simp; omega
    go_enter Tryd.func3, Tryd.ntmps3
    go_wp2_with fail
    refine (awake_any _ ht).mono ?_
    rintro e w1 ⟨rfl, hb1⟩
    go_wp2
    go_ret
    exact ⟨rfl, hb1⟩

set_option maxHeartbeats 2000000 in
theorem is_short (d : Int) (A : Option Addr) (c : Nat) (a l : List UInt8) (w : World) (ht : Tab w) (hA : Sl w w.heap.size A a) (h1 : a.length ≤ 500) (h2 : l.length ≤ 1000) :
    Calls Tryd.prog 3 #[.int .i64 d, .slice A a.length c, .string (str l)] w fun e w' => e = .returned (.bool true) ∧ Below w.heap.size w w' := by
  have d1 : decide ((500 : Int) < (a.length : Int)) = false := by simp; omega
  have d2 : decide ((1000 : Int) < (l.length : Int)) = false := by simp; omega
  obtain ⟨x, b, hD, hR⟩ := Digit_both d
  have HD := Lib.hid hD
  have HR := Lib.hid hR
  have hU : ∀ w, Tab w → Calls Tryd.prog 13 #[.string (str l)] w (RetBytes w (unB l) (unN l) (unE l)) := fun w ht => UnHex_any l w ht (by omega)
  have hV : ∀ w, Calls Tryd.prog 14 #[.string (str l)] w (RetBytes w (unB l) (unN l) (unE l)) := fun w => rUnHex_any l w (by omega)
  generalize unB l = y at *
  generalize unN l = n at *
  generalize unE l = f at *
  have HU := Lib.hid hU
  have HV := Lib.hid hV
  clear hD hR hU hV
  obtain ⟨wh, hwh⟩ : ∃ wh, wh = (kz d == 1) := ⟨_, rfl⟩
  have hW : ∀ w, Tab w → Calls Tryd.prog 15 #[.int .i64 d] w fun e w' => e = .returned (.bool wh) ∧ w = w' := fun w ht => by rw [hwh]; exact White_any d w ht
  have hX : ∀ w, Calls Tryd.prog 16 #[.int .i64 d] w fun e w' => e = .returned (.bool wh) ∧ w = w' := fun w => by rw [hwh]; exact rWhite_any d w
  have HW := Lib.hid hW
  have HX := Lib.hid hX
  clear hwh hW hX
  go_enter Tryd.func3, Tryd.ntmps3
  go_wp2_with fail
  refine (awake_any _ ht).mono ?_
  rintro e w1 ⟨rfl, hb1⟩
  have ht1 := ht.below' hb1
  go_wp2_with fail
  refine (HD.out _ ht1).mono ?_
  rintro e w1' ⟨rfl, rfl⟩
  go_wp2_with fail
  refine (HR.out _).mono ?_
  rintro e w1' ⟨rfl, rfl⟩
  go_wp2_with fail
  refine (HU.out _ ht1).mono ?_
  rintro e w2 ⟨A2, c2, rfl, hc2, hsl2, hb2⟩
  have ht2 := ht1.below' hb2
  have hb2' := hb1.trans (hb2.mono hb1.size)
  go_wp2_with fail
  refine (HV.out _).mono ?_
  rintro e w3 ⟨A3, c3, rfl, hc3, hsl3, hb3⟩
  have ht3 := ht2.below' hb3
  have hb3' := hb2'.trans (hb3.mono hb2'.size)
  go_wp2_with fail
  refine (HW.out _ ht3).mono ?_
  rintro e w3' ⟨rfl, rfl⟩
  go_wp2_with fail
  refine (HX.out _).mono ?_
  rintro e w3' ⟨rfl, rfl⟩
  go_wp2_with fail
  refine (Hex_any A c a _ (hA.over hb3') (by omega)).mono ?_
  rintro e w4 ⟨rfl, hb4⟩
  have hb4' := hb3'.trans (hb4.mono hb3'.size)
  go_wp2_with fail
  refine (rHex_any A c a _ (hA.over hb4') (by omega)).mono ?_
  rintro e w5 ⟨rfl, hb5⟩
  have hb5' := hb4'.trans (hb5.mono hb4'.size)
  have cx := conv8 (((hsl2.over hb3).over hb4).over hb5) c2
  have cy := conv8 ((hsl3.over hb4).over hb5) c3
  go_wp2
  go_ret
  exact ⟨rfl, hb5'⟩

theorem is_walk (d : Int) (A : Option Addr) (c : Nat) (a l : List UInt8) (w : World) (ht : Tab w) (hA : Sl w w.heap.size A a) (hm : a.length ≤ maxLen) (hm' : l.length ≤ maxLen) :
    Calls Tryd.prog 3 #[.int .i64 d, .slice A a.length c, .string (str l)] w fun e w' => e = .returned (.bool true) ∧ Below w.heap.size w w' := by
  by_cases h : 500 < a.length ∨ 1000 < l.length
  · exact is_long d A c a l w ht hm hm' h
  · exact is_short d A c a l w ht hA (by omega) (by omega)
end Go.Proofs.YtcnpegembccbmaaDoor
