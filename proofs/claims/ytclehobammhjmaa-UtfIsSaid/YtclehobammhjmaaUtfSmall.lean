/-
  The small tests of layer 2 (is it a scalar value, a unit, a high one, a low one), the program's and the document's own: what they answer, for every number.
-/
import Derived.Test.YtclehobammhjmaaUtfRead
import Derived.Test.YtclehobammhjmaaInts
import Derived.Test.YtclehobammhjmaaProg
import Derived.Handy
namespace Go.Proofs.Ytclehobammhjmaa
open Go.RowKit

set_option maxHeartbeats 1000000 in
theorem isHigh_any (x : Int) (w : World) : Calls Try.prog 27 #[.int .i64 x] w fun e w' => e = .returned (.bool (hiB x)) ∧ w = w' := by
  by_cases h1 : 55296 ≤ x
  · by_cases h2 : x < 56320
    · have e : hiB x = true := by rw [hiB_iff]; omega
      rw [e]
      clear e
      go_enter Try.func27, Try.ntmps27
      go_wp2
      go_ret
      exact ⟨rfl, rfl⟩
    · have e : hiB x = false := by rw [hiB_not]; omega
      rw [e]
      clear e
      go_enter Try.func27, Try.ntmps27
      go_wp2
      go_ret
      exact ⟨rfl, rfl⟩
  · have e : hiB x = false := by rw [hiB_not]; omega
    rw [e]
    clear e
    go_enter Try.func27, Try.ntmps27
    go_wp2
    go_ret
    exact ⟨rfl, rfl⟩
set_option maxHeartbeats 1000000 in
theorem isLow_any (x : Int) (w : World) : Calls Try.prog 28 #[.int .i64 x] w fun e w' => e = .returned (.bool (loB x)) ∧ w = w' := by
  by_cases h1 : 56320 ≤ x
  · by_cases h2 : x ≤ 57343
    · have e : loB x = true := by rw [loB_iff]; omega
      rw [e]
      clear e
      go_enter Try.func28, Try.ntmps28
      go_wp2
      go_ret
      exact ⟨rfl, rfl⟩
    · have e : loB x = false := by rw [loB_not]; omega
      rw [e]
      clear e
      go_enter Try.func28, Try.ntmps28
      go_wp2
      go_ret
      exact ⟨rfl, rfl⟩
  · have e : loB x = false := by rw [loB_not]; omega
    rw [e]
    clear e
    go_enter Try.func28, Try.ntmps28
    go_wp2
    go_ret
    exact ⟨rfl, rfl⟩
set_option maxHeartbeats 1000000 in
theorem isUnit_any (x : Int) (w : World) : Calls Try.prog 31 #[.int .i64 x] w fun e w' => e = .returned (.bool (unitB x)) ∧ w = w' := by
  by_cases h1 : 0 ≤ x
  · by_cases h2 : x ≤ 65535
    · have e : unitB x = true := by rw [unitB_iff]; omega
      rw [e]
      clear e
      go_enter Try.func31, Try.ntmps31
      go_wp2
      go_ret
      exact ⟨rfl, rfl⟩
    · have e : unitB x = false := by rw [unitB_not]; omega
      rw [e]
      clear e
      go_enter Try.func31, Try.ntmps31
      go_wp2
      go_ret
      exact ⟨rfl, rfl⟩
  · have e : unitB x = false := by rw [unitB_not]; omega
    rw [e]
    clear e
    go_enter Try.func31, Try.ntmps31
    go_wp2
    go_ret
    exact ⟨rfl, rfl⟩
set_option maxHeartbeats 1000000 in
theorem rhigh_any (x : Int) (w : World) : Calls Try.prog 32 #[.int .i64 x] w fun e w' => e = .returned (.bool (hiB x)) ∧ w = w' := by
  by_cases h1 : 55296 ≤ x
  · by_cases h2 : x ≤ 56319
    · have e : hiB x = true := by rw [hiB_iff]; omega
      rw [e]
      clear e
      go_enter Try.func32, Try.ntmps32
      go_wp2
      go_ret
      exact ⟨rfl, rfl⟩
    · have e : hiB x = false := by rw [hiB_not]; omega
      rw [e]
      clear e
      go_enter Try.func32, Try.ntmps32
      go_wp2
      go_ret
      exact ⟨rfl, rfl⟩
  · have e : hiB x = false := by rw [hiB_not]; omega
    rw [e]
    clear e
    go_enter Try.func32, Try.ntmps32
    go_wp2
    go_ret
    exact ⟨rfl, rfl⟩
set_option maxHeartbeats 1000000 in
theorem rlow_any (x : Int) (w : World) : Calls Try.prog 33 #[.int .i64 x] w fun e w' => e = .returned (.bool (loB x)) ∧ w = w' := by
  by_cases h1 : 56320 ≤ x
  · by_cases h2 : x ≤ 57343
    · have e : loB x = true := by rw [loB_iff]; omega
      rw [e]
      clear e
      go_enter Try.func33, Try.ntmps33
      go_wp2
      go_ret
      exact ⟨rfl, rfl⟩
    · have e : loB x = false := by rw [loB_not]; omega
      rw [e]
      clear e
      go_enter Try.func33, Try.ntmps33
      go_wp2
      go_ret
      exact ⟨rfl, rfl⟩
  · have e : loB x = false := by rw [loB_not]; omega
    rw [e]
    clear e
    go_enter Try.func33, Try.ntmps33
    go_wp2
    go_ret
    exact ⟨rfl, rfl⟩
set_option maxHeartbeats 1000000 in
theorem Good_any (x : Int) (w : World) : Calls Try.prog 10 #[.int .i64 x] w fun e w' => e = .returned (.bool (goodB x)) ∧ w = w' := by
  by_cases h1 : 0 ≤ x
  · by_cases h2 : x ≤ 1114111
    · rcases (show x < 55296 ∨ 57343 < x ∨ (55296 ≤ x ∧ x < 56320) ∨ (56320 ≤ x ∧ x ≤ 57343) by omega) with h3 | h3 | h3 | h3
      · have e : goodB x = true := by rw [goodB_iff]; omega
        rw [e]
        clear e
        have hh : hiB x = false := by rw [hiB_not]; omega
        have hl : loB x = false := by rw [loB_not]; omega
        go_enter Try.func10, Try.ntmps10
        go_wp2_with (first | (go_at_call 27; refine (isHigh_any _ _).mono ?_; rintro e w' ⟨rfl, rfl⟩) | (go_at_call 28; refine (isLow_any _ _).mono ?_; rintro e w' ⟨rfl, rfl⟩))
        go_ret
        exact ⟨rfl, rfl⟩
      · have e : goodB x = true := by rw [goodB_iff]; omega
        rw [e]
        clear e
        have hh : hiB x = false := by rw [hiB_not]; omega
        have hl : loB x = false := by rw [loB_not]; omega
        go_enter Try.func10, Try.ntmps10
        go_wp2_with (first | (go_at_call 27; refine (isHigh_any _ _).mono ?_; rintro e w' ⟨rfl, rfl⟩) | (go_at_call 28; refine (isLow_any _ _).mono ?_; rintro e w' ⟨rfl, rfl⟩))
        go_ret
        exact ⟨rfl, rfl⟩
      · have e : goodB x = false := by rw [goodB_not]; omega
        rw [e]
        clear e
        have hh : hiB x = true := by rw [hiB_iff]; omega
        go_enter Try.func10, Try.ntmps10
        go_wp2_with (first | (go_at_call 27; refine (isHigh_any _ _).mono ?_; rintro e w' ⟨rfl, rfl⟩) | (go_at_call 28; refine (isLow_any _ _).mono ?_; rintro e w' ⟨rfl, rfl⟩))
        go_ret
        exact ⟨rfl, rfl⟩
      · have e : goodB x = false := by rw [goodB_not]; omega
        rw [e]
        clear e
        have hh : hiB x = false := by rw [hiB_not]; omega
        have hl : loB x = true := by rw [loB_iff]; omega
        go_enter Try.func10, Try.ntmps10
        go_wp2_with (first | (go_at_call 27; refine (isHigh_any _ _).mono ?_; rintro e w' ⟨rfl, rfl⟩) | (go_at_call 28; refine (isLow_any _ _).mono ?_; rintro e w' ⟨rfl, rfl⟩))
        go_ret
        exact ⟨rfl, rfl⟩
    · have e : goodB x = false := by rw [goodB_not]; omega
      rw [e]
      clear e
      go_enter Try.func10, Try.ntmps10
      go_wp2_with (first | (go_at_call 27; refine (isHigh_any _ _).mono ?_; rintro e w' ⟨rfl, rfl⟩) | (go_at_call 28; refine (isLow_any _ _).mono ?_; rintro e w' ⟨rfl, rfl⟩))
      go_ret
      exact ⟨rfl, rfl⟩
  · have e : goodB x = false := by rw [goodB_not]; omega
    rw [e]
    clear e
    go_enter Try.func10, Try.ntmps10
    go_wp2_with (first | (go_at_call 27; refine (isHigh_any _ _).mono ?_; rintro e w' ⟨rfl, rfl⟩) | (go_at_call 28; refine (isLow_any _ _).mono ?_; rintro e w' ⟨rfl, rfl⟩))
    go_ret
    exact ⟨rfl, rfl⟩
set_option maxHeartbeats 1000000 in
theorem rGood_any (x : Int) (w : World) : Calls Try.prog 11 #[.int .i64 x] w fun e w' => e = .returned (.bool (goodB x)) ∧ w = w' := by
  by_cases h1 : 0 ≤ x
  · by_cases h2 : x ≤ 1114111
    · rcases (show x < 55296 ∨ 57343 < x ∨ (55296 ≤ x ∧ x ≤ 57343) by omega) with h3 | h3 | h3
      · have e : goodB x = true := by rw [goodB_iff]; omega
        rw [e]
        clear e
        go_enter Try.func11, Try.ntmps11
        go_wp2
        go_ret
        exact ⟨rfl, rfl⟩
      · have e : goodB x = true := by rw [goodB_iff]; omega
        rw [e]
        clear e
        have h4 : ¬ x < 55296 := by omega
        go_enter Try.func11, Try.ntmps11
        go_wp2
        go_ret
        exact ⟨rfl, rfl⟩
      · have e : goodB x = false := by rw [goodB_not]; omega
        rw [e]
        clear e
        have h4 : ¬ x < 55296 := by omega
        have h5 : ¬ 57343 < x := by omega
        go_enter Try.func11, Try.ntmps11
        go_wp2
        go_ret
        exact ⟨rfl, rfl⟩
    · have e : goodB x = false := by rw [goodB_not]; omega
      rw [e]
      clear e
      go_enter Try.func11, Try.ntmps11
      go_wp2
      go_ret
      exact ⟨rfl, rfl⟩
  · have e : goodB x = false := by rw [goodB_not]; omega
    rw [e]
    clear e
    go_enter Try.func11, Try.ntmps11
    go_wp2
    go_ret
    exact ⟨rfl, rfl⟩
set_option maxHeartbeats 1000000 in
theorem scalar_any (x : Int) (w : World) : Calls Try.prog 29 #[.int .i64 x] w fun e w' => e = .returned (.int .i32 (sc x)) ∧ w = w' := by
  cases hg : goodB x with
  | true =>
    rw [sc_yes hg]
    have hb := (goodB_iff x).1 hg
    go_enter Try.func29, Try.ntmps29
    go_wp2_with (go_at_call 10; refine (Good_any _ _).mono ?_; rintro e w' ⟨rfl, rfl⟩)
    go_ret
    exact ⟨rfl, rfl⟩
  | false =>
    rw [sc_no hg]
    go_enter Try.func29, Try.ntmps29
    go_wp2_with (go_at_call 10; refine (Good_any _ _).mono ?_; rintro e w' ⟨rfl, rfl⟩)
    go_ret
    exact ⟨rfl, rfl⟩
set_option maxHeartbeats 1000000 in
theorem rgood_any (x : Int) (w : World) : Calls Try.prog 30 #[.int .i64 x] w fun e w' => e = .returned (.int .i64 (sc x)) ∧ w = w' := by
  cases hg : goodB x with
  | true =>
    rw [sc_yes hg]
    go_enter Try.func30, Try.ntmps30
    go_wp2_with (go_at_call 11; refine (rGood_any _ _).mono ?_; rintro e w' ⟨rfl, rfl⟩)
    go_ret
    exact ⟨rfl, rfl⟩
  | false =>
    rw [sc_no hg]
    go_enter Try.func30, Try.ntmps30
    go_wp2_with (go_at_call 11; refine (rGood_any _ _).mono ?_; rintro e w' ⟨rfl, rfl⟩)
    go_ret
    exact ⟨rfl, rfl⟩
end Go.Proofs.Ytclehobammhjmaa
