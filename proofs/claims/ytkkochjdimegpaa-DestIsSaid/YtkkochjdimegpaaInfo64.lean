/-
  What an int is to the program.
-/
import Derived.Test.YtkkochjdimegpaaProg
import Derived.WalkKit
namespace Go.Proofs.Ytkkochjdimegpaa
open Go.RowKit

theorem info64 : (Try.prog.info? 3).map (fun i => (i.zero, i.size, i.bytes)) = some (some (.int .i64 0), 1, 8) := by kernel_rfl
end Go.Proofs.Ytkkochjdimegpaa
