/-
  hornbookref01.Sane: may a code be, by the document's own.
-/
import Derived.Test.YtkkochjdimegpaaHexSane
import Derived.Test.YtkkochjdimegpaaRefFull
namespace Go.Proofs.Ytkkochjdimegpaa
open Go.RowKit

set_option maxHeartbeats 1000000 in
theorem rSane_any (n v : Int) (w : World) :
    Calls Try.prog 29 #[.agg #[.int .i64 n, .int .i64 v]] w fun e w' => e = .returned (.bool (saneB n v)) ∧ Below w.heap.size w w' := by
  by_cases h1 : 1 ≤ n
  · by_cases h2 : n ≤ 4
    · by_cases h3 : 0 ≤ v
      · rcases (show n = 1 ∨ n = 2 ∨ n = 3 ∨ n = 4 by omega) with rfl | rfl | rfl | rfl
        · have e : saneB 1 v = decide (v < 256) := by simp [saneB, h3]
          rw [e]
          clear e h1 h2
          go_enter Try.func29, Try.ntmps29
          go_wp2
          go_quiet ((go_at_call 44; exact Calls.quiet_of_same (rFull_1 _)))
          go_wp2
          go_ret
          exact ⟨rfl, below_drewN ((Below.refl _ _).alloc (Nat.le_refl _) _) _⟩
        · have e : saneB 2 v = decide (v < 65536) := by simp [saneB, h3]
          rw [e]
          clear e h1 h2
          go_enter Try.func29, Try.ntmps29
          go_wp2
          go_quiet ((go_at_call 44; exact Calls.quiet_of_same (rFull_2 _)))
          go_wp2
          go_ret
          exact ⟨rfl, below_drewN ((Below.refl _ _).alloc (Nat.le_refl _) _) _⟩
        · have e : saneB 3 v = decide (v < 16777216) := by simp [saneB, h3]
          rw [e]
          clear e h1 h2
          go_enter Try.func29, Try.ntmps29
          go_wp2
          go_quiet ((go_at_call 44; exact Calls.quiet_of_same (rFull_3 _)))
          go_wp2
          go_ret
          exact ⟨rfl, below_drewN ((Below.refl _ _).alloc (Nat.le_refl _) _) _⟩
        · have e : saneB 4 v = decide (v < 4294967296) := by simp [saneB, h3]
          rw [e]
          clear e h1 h2
          go_enter Try.func29, Try.ntmps29
          go_wp2
          go_quiet ((go_at_call 44; exact Calls.quiet_of_same (rFull_4 _)))
          go_wp2
          go_ret
          exact ⟨rfl, below_drewN ((Below.refl _ _).alloc (Nat.le_refl _) _) _⟩
      · have e : saneB n v = false := by simp [saneB]; omega
        rw [e]
        have d1 : decide (1 ≤ n) = true := by simpa using h1
        have d2 : decide (n ≤ 4) = true := by simpa using h2
        have d3 : decide (0 ≤ v) = false := by simpa using h3
        clear e
        go_enter Try.func29, Try.ntmps29
        go_wp2
        go_quiet (fail)
        go_wp2
        go_ret
        exact ⟨rfl, below_drewN ((Below.refl _ _).alloc (Nat.le_refl _) _) _⟩
    · have e : saneB n v = false := by simp [saneB]; omega
      rw [e]
      have d1 : decide (1 ≤ n) = true := by simpa using h1
      have d2 : decide (n ≤ 4) = false := by simpa using h2
      clear e
      go_enter Try.func29, Try.ntmps29
      go_wp2
      go_quiet (fail)
      go_wp2
      go_ret
      exact ⟨rfl, below_drewN ((Below.refl _ _).alloc (Nat.le_refl _) _) _⟩
  · have e : saneB n v = false := by simp [saneB]; omega
    rw [e]
    have d1 : decide (1 ≤ n) = false := by simpa using h1
    clear e
    go_enter Try.func29, Try.ntmps29
    go_wp2
    go_quiet (fail)
    go_wp2
    go_ret
    exact ⟨rfl, below_drewN ((Below.refl _ _).alloc (Nat.le_refl _) _) _⟩
end Go.Proofs.Ytkkochjdimegpaa
