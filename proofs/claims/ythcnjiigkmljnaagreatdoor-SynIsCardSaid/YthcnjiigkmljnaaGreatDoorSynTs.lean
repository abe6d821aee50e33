/-
  The tables that the program reads up to layer 5.
-/
import Derived.Test.YthcnjiigkmljnaaGreatDoorSynDev10
import Derived.Test.YthcnjiigkmljnaaGreatDoorPart5
import Derived.Test.YthcnjiigkmljnaaGreatDoorPart1
namespace Go.Proofs.YthcnjiigkmljnaaGreatDoor
open Go.RowKit

/-- The tables that the program reads. -/
structure Ts (w : World) : Prop where
  tab : Tab w
  mks : Mks w
  sec : Sec w
theorem Ts.below' {w w' : World} (h : Ts w) (hb : Below w.heap.size w w') : Ts w' := ⟨h.tab.below' hb, h.mks.below' hb, h.sec.below' hb⟩
end Go.Proofs.YthcnjiigkmljnaaGreatDoor
