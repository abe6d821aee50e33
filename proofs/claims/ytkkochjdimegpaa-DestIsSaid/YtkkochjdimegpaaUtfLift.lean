/-
  What every row of this seat's layer 2 takes: a world for the witness.
-/
import Derived.Test.YtkkochjdimegpaaRows
import Derived.Test.YtkkochjdimegpaaInts
import Derived.Test.YtkkochjdimegpaaView
import Derived.ProofKit
import Derived.OpenShut
import Derived.Deep.DeepHandedRow
import Derived.Lib.SmallJoins
import Derived.Carry
namespace Go.Proofs.Ytkkochjdimegpaa
open Go.ChangeShapes Go.WideShapes Go.ChangeAt Go.RowKit

theorem own : ownKnob Try.prog.godebug = none := by kernel_rfl
theorem laidOut : laidOutB Try.prog = true := by kernel_rfl
/-- A WORLD FOR THE WITNESS: the settled one. -/
noncomputable def plainWorld (os : Os) : World := World.holding Try.prog os ⟨#[], #[], []⟩
end Go.Proofs.Ytkkochjdimegpaa
