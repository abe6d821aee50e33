/-
  The document's own Full, at 1 to 4.
-/
import Derived.Test.YtkkochjdimegpaaHexSane
import Derived.Handy
namespace Go.Proofs.Ytkkochjdimegpaa
open Go.RowKit

set_option maxHeartbeats 1000000 in
theorem rFull_1 (w : World) : Calls Try.prog 44 #[.int .i64 1] w fun e w' => e = .returned (.int .i64 256) ∧ w' = w := by
  go_enter Try.func44, Try.ntmps44
  go_wp2
  go_rounds 2
  go_ret
  exact ⟨rfl, rfl⟩

set_option maxHeartbeats 1000000 in
theorem rFull_2 (w : World) : Calls Try.prog 44 #[.int .i64 2] w fun e w' => e = .returned (.int .i64 65536) ∧ w' = w := by
  go_enter Try.func44, Try.ntmps44
  go_wp2
  go_rounds 3
  go_ret
  exact ⟨rfl, rfl⟩

set_option maxHeartbeats 1000000 in
theorem rFull_3 (w : World) : Calls Try.prog 44 #[.int .i64 3] w fun e w' => e = .returned (.int .i64 16777216) ∧ w' = w := by
  go_enter Try.func44, Try.ntmps44
  go_wp2
  go_rounds 4
  go_ret
  exact ⟨rfl, rfl⟩

set_option maxHeartbeats 1000000 in
theorem rFull_4 (w : World) : Calls Try.prog 44 #[.int .i64 4] w fun e w' => e = .returned (.int .i64 4294967296) ∧ w' = w := by
  go_enter Try.func44, Try.ntmps44
  go_wp2
  go_rounds 5
  go_ret
  exact ⟨rfl, rfl⟩
end Go.Proofs.Ytkkochjdimegpaa
