/-
  The walk of the statement LexIs.
-/
import Derived.Test.YtpobiaibkmmjpaaDoorLexAwake
import Derived.Test.YtpobiaibkmmjpaaDoorRefSkip
import Derived.Test.YtpobiaibkmmjpaaDoorRefInt
namespace Go.Proofs.YtpobiaibkmmjpaaDoor
open Go.RowKit

set_option maxHeartbeats 1000000 in
theorem lexIs_long (c a : Int) (l : List UInt8) (w : World) (ht : Tab w) (hm : l.length ≤ maxLen) (h : 1000 < l.length) :
    Calls Tryd.prog 3 #[.int .i64 c, .string (str l), .int .i64 a] w fun e w' => e = .returned (.bool true) ∧ Below w.heap.size w w' := by
  unfold maxLen at hm
  have d1 : decide ((1000 : Int) < (l.length : Int)) = true := by simp; omega
  go_enter Tryd.func3, Tryd.ntmps3
  go_wp2_with fail
  refine (awake_any _ ht).mono ?_
  rintro e w1 ⟨rfl, hb1⟩
  go_wp2
  go_ret
  exact ⟨rfl, hb1⟩

set_option maxRecDepth 100000 in
set_option maxHeartbeats 4000000 in
theorem lexIs_short (c a : Int) (l : List UInt8) (w : World) (ht : Tab w) (h : l.length ≤ 1000) :
    Calls Tryd.prog 3 #[.int .i64 c, .string (str l), .int .i64 a] w fun e w' => e = .returned (.bool true) ∧ Below w.heap.size w w' := by
  have d1 : decide ((1000 : Int) < (l.length : Int)) = false := by simp; omega
  have k1 : ∀ w, Tab w → Calls Tryd.prog 11 #[.string (str l), .int .i64 a] w fun e w' => e = .returned (.tuple #[.string (str (wdL l a)), .int .i64 (wdN l a : Nat)]) ∧ w = w' := fun w ht => Word_any l a w ht (by omega)
  have k2 : ∀ w, Calls Tryd.prog 12 #[.string (str l), .int .i64 a] w fun e w' => e = .returned (.tuple #[.string (str (wdL l a)), .int .i64 (wdN l a : Nat)]) ∧ w = w' := fun w => rWord_any l a w (by omega)
  have k3 : ∀ w, Calls Tryd.prog 13 #[.string (str l)] w fun e w' => e = .returned (.tuple #[.int .i64 (inN l), .int .i64 (inE l)]) ∧ Below w.heap.size w w' := fun w => Int_any l w (by omega)
  have k4 : ∀ w, Calls Tryd.prog 14 #[.string (str l)] w fun e w' => e = .returned (.tuple #[.int .i64 (inN l), .int .i64 (inE l)]) ∧ w = w' := fun w => rInt_any l w (by omega)
  have k5 : ∀ w, Tab w → Calls Tryd.prog 15 #[.int .i64 c] w fun e w' => e = .returned (.int .i64 (cls c)) ∧ w = w' := fun w ht => Class_any c w ht
  have k6 : ∀ w, Calls Tryd.prog 16 #[.int .i64 c] w fun e w' => e = .returned (.int .i64 (cls c)) ∧ w = w' := fun w => rClass_any c w
  have k7 : ∀ w, Tab w → Calls Tryd.prog 17 #[.string (str l), .int .i64 a] w fun e w' => e = .returned (.int .i64 (skN l a : Nat)) ∧ Below w.heap.size w w' := fun w ht => Skip_any l a w ht (by omega)
  have k8 : ∀ w, Calls Tryd.prog 18 #[.string (str l), .int .i64 a] w fun e w' => e = .returned (.int .i64 (skN l a : Nat)) ∧ w = w' := fun w => rSkip_any l a w (by omega)
  have k9 : ∀ w, Tab w → Calls Tryd.prog 19 #[.string (str l)] w fun e w' => e = .returned (.string (str (nameL l))) ∧ Below w.heap.size w w' := fun w ht => Name_any l w ht (by omega)
  have k10 : ∀ w, Calls Tryd.prog 20 #[.string (str l)] w fun e w' => e = .returned (.string (str (nameL l))) ∧ Below w.heap.size w w' := fun w => rName_any l w (by omega)
  have k11 : ∀ w, Tab w → Calls Tryd.prog 21 #[.string (str l)] w fun e w' => e = .returned (.string (str (wrL l))) ∧ Below w.heap.size w w' := fun w ht => Write_any l w ht (by omega)
  have k12 : ∀ w, Calls Tryd.prog 22 #[.string (str l)] w fun e w' => e = .returned (.string (str (wrL l))) ∧ Below w.heap.size w w' := fun w => rWrite_any l w (by omega)
  generalize wdL l a = xW at *
  generalize wdN l a = xN at *
  generalize inN l = xI at *
  generalize inE l = xE at *
  generalize cls c = xC at *
  generalize skN l a = xS at *
  generalize nameL l = xM at *
  generalize wrL l = xR at *
  have K1 := Lib.hid k1
  have K2 := Lib.hid k2
  have K3 := Lib.hid k3
  have K4 := Lib.hid k4
  have K5 := Lib.hid k5
  have K6 := Lib.hid k6
  have K7 := Lib.hid k7
  have K8 := Lib.hid k8
  have K9 := Lib.hid k9
  have K10 := Lib.hid k10
  have K11 := Lib.hid k11
  have K12 := Lib.hid k12
  clear k1 k2 k3 k4 k5 k6 k7 k8 k9 k10 k11 k12
  go_enter Tryd.func3, Tryd.ntmps3
  go_wp2_with fail
  refine (awake_any _ ht).mono ?_
  rintro e w1 ⟨rfl, hb1⟩
  have ht1 := ht.below' hb1
  go_wp2_with fail
  refine (K1.out _ ht1).mono ?_
  rintro e w1' ⟨rfl, rfl⟩
  go_wp2_with fail
  refine (K2.out _).mono ?_
  rintro e w1' ⟨rfl, rfl⟩
  go_wp2_with fail
  refine (K3.out _).mono ?_
  rintro e w2 ⟨rfl, hb2⟩
  have ht2 := ht1.below' hb2
  have hb2' := hb1.trans (hb2.mono hb1.size)
  go_wp2_with fail
  refine (K4.out _).mono ?_
  rintro e w2' ⟨rfl, rfl⟩
  go_wp2_with fail
  refine (K5.out _ ht2).mono ?_
  rintro e w2' ⟨rfl, rfl⟩
  go_wp2_with fail
  refine (K6.out _).mono ?_
  rintro e w2' ⟨rfl, rfl⟩
  go_wp2_with fail
  refine (K7.out _ ht2).mono ?_
  rintro e w3 ⟨rfl, hb3⟩
  have ht3 := ht2.below' hb3
  have hb3' := hb2'.trans (hb3.mono hb2'.size)
  go_wp2_with fail
  refine (K8.out _).mono ?_
  rintro e w3' ⟨rfl, rfl⟩
  go_wp2_with fail
  refine (K9.out _ ht3).mono ?_
  rintro e w4 ⟨rfl, hb4⟩
  have ht4 := ht3.below' hb4
  have hb4' := hb3'.trans (hb4.mono hb3'.size)
  go_wp2_with fail
  refine (K10.out _).mono ?_
  rintro e w5 ⟨rfl, hb5⟩
  have ht5 := ht4.below' hb5
  have hb5' := hb4'.trans (hb5.mono hb4'.size)
  go_wp2_with fail
  refine (K11.out _ ht5).mono ?_
  rintro e w6 ⟨rfl, hb6⟩
  have hb6' := hb5'.trans (hb6.mono hb5'.size)
  go_wp2_with fail
  refine (K12.out _).mono ?_
  rintro e w7 ⟨rfl, hb7⟩
  have hb7' := hb6'.trans (hb7.mono hb6'.size)
  go_wp2
  go_ret
  exact ⟨rfl, hb7'⟩

theorem lexIs_walk (c a : Int) (l : List UInt8) (w : World) (ht : Tab w) (hm : l.length ≤ maxLen) :
    Calls Tryd.prog 3 #[.int .i64 c, .string (str l), .int .i64 a] w fun e w' => e = .returned (.bool true) ∧ Below w.heap.size w w' := by
  by_cases h : 1000 < l.length
  · exact lexIs_long c a l w ht hm h
  · exact lexIs_short c a l w ht (by omega)
end Go.Proofs.YtpobiaibkmmjpaaDoor
