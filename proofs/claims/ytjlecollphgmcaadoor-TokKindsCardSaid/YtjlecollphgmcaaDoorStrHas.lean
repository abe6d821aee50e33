/-
  Does a text begin with another?
-/
import Derived.Test.YtjlecollphgmcaaDoorProg
import Derived.Test.YtjlecollphgmcaaDoorMem
namespace Go.Proofs.YtjlecollphgmcaaDoor
open Go.RowKit

/-- A text begins with another. -/
def preB (l p : List UInt8) : Bool := decide (p.length ≤ l.length) && (l.take p.length == p)
set_option maxHeartbeats 1000000 in
theorem liteHasPrefix_any (l p : List UInt8) (w : World) : Calls Tryd.prog 50 #[.string (str l), .string (str p)] w fun e w' => e = .returned (.bool (preB l p)) ∧ w = w' := by
  by_cases h : p.length ≤ l.length
  · have e : preB l p = (l.take p.length == p) := by simp [preB, h]
    rw [e]
    clear e
    go_enter Tryd.func50, Tryd.ntmps50
    go_wp2
    go_ret
    exact ⟨rfl, rfl⟩
  · have e : preB l p = false := by simp [preB, h]
    rw [e]
    clear e
    go_enter Tryd.func50, Tryd.ntmps50
    go_wp2
    go_ret
    exact ⟨rfl, rfl⟩
end Go.Proofs.YtjlecollphgmcaaDoor
