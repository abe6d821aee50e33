/-
  Sizes of types (layer 9: lists of items as arguments).
-/
import Derived.Test.YtmjneokjgcgchaaGreatSemTypes
import Derived.Test.YtmjneokjgcgchaaGreatSemView3
namespace Go.Proofs.YtmjneokjgcgchaaGreat
open Go.RowKit

theorem hbL9 : 1 ≤ Tryz.prog.bytesOf 57 := of_decide_eq_true (by kernel_rfl)
theorem hbE9 : 1 ≤ Tryz.prog.bytesOf 70 := of_decide_eq_true (by kernel_rfl)
end Go.Proofs.YtmjneokjgcgchaaGreat
