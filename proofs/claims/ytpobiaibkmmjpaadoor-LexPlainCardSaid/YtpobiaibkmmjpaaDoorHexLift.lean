/-
  What every row of this seat's layer 1 takes: the table of blanks and digits, out of the row's list; a world for the witness.
-/
import Derived.Test.YtpobiaibkmmjpaaDoorCards
import Derived.Test.YtpobiaibkmmjpaaDoorTie
import Derived.Test.YtpobiaibkmmjpaaDoorHexKind
import Derived.Test.YtpobiaibkmmjpaaDoorMem
import Derived.Test.YtpobiaibkmmjpaaDoorView
import Derived.ProofKit
import Derived.OpenShut
import Derived.Deep.DeepHandedRow
import Derived.Lib.LaidTab
import Derived.Lib.SmallJoins
import Derived.Carry
namespace Go.Proofs.YtpobiaibkmmjpaaDoor
open Go.ChangeShapes Go.WideShapes Go.ChangeAt Go.RowKit

theorem own : ownKnob Tryd.prog.godebug = none := by kernel_rfl
theorem laidOut : laidOutB Tryd.prog = true := by kernel_rfl
theorem gTab : Tryd.prog.globalNamed "hornbook/hex.kinds" = some 0 := by kernel_rfl
theorem gTabType : (Tryd.prog.globals[0]?).map (·.type) = some 55 := by kernel_rfl
theorem cellsTab : Tryd.prog.cellsOf 55 = 103 := by kernel_rfl
theorem cells8 : Tryd.prog.cellsOf 5 = 1 := by kernel_rfl

/-- The table's numbers. -/
def tabL : List Int := (List.range 103).map tabAt
theorem laid_eq {H : Type} : (Rows.laid_hornbook_hex_kinds : DataW H) = Lib.tabData .u8 tabL := by
  have h : tabL = [1, 0, 0, 0, 0, 0, 0, 0, 0, 1, 1, 0, 1, 1, 0, 0, 0, 0, 0, 0, 0, 0, 0, 0, 0, 0, 0, 0, 0, 0, 0, 0, 1, 0, 0, 0, 0, 0, 0, 0, 0, 0, 0, 0, 0, 0, 0, 0, 2, 3, 4, 5, 6, 7, 8, 9, 10, 11, 0, 0, 0, 0, 0, 0, 0, 12, 13, 14, 15, 16, 17, 0, 0, 0, 0, 0, 0, 0, 0, 0, 0, 0, 0, 0, 0, 0, 0, 0, 0, 0, 0, 0, 0, 0, 0, 0, 0, 12, 13, 14, 15, 16, 17] := by decide
  rw [h]
  rfl
/-- WHAT THE ROWS' LIST GIVES. -/
theorem tab_of {W : World} (h : laidMetH Tryd.prog [("hornbook/hex.kinds", Rows.laid_hornbook_hex_kinds)] W) : Tab W := by
  have e : ([("hornbook/hex.kinds", Rows.laid_hornbook_hex_kinds)] : List (String × DataW Unit)) = [("hornbook/hex.kinds", Lib.tabData .u8 tabL)] := by rw [laid_eq]
  have ht : Lib.TabIs Tryd.prog W "hornbook/hex.kinds" .u8 tabL :=
    Lib.tabIs_of_head (rest := []) gTab gTabType Tryd.underlying55 Tryd.underlying5 cells8 cellsTab (by rw [← e]; exact h)
  intro i hi
  have hl : i < tabL.length := by simp [tabL]; exact hi
  have := ht.cell gTab i hl
  simpa [tabL, List.getElem?_range hi] using this

/-- A WORLD FOR THE WITNESS: the settled one, the table (its block) holding what its initialiser lays. -/
noncomputable def laidWorld (os : Os) : World :=
  { World.holding Tryd.prog os ⟨#[], #[], []⟩ with heap := (World.holding Tryd.prog os ⟨#[], #[], []⟩).heap.modify 0 fun
      | .cells _ t frozen => .cells (tabL.map fun z => Value.int .u8 z).toArray t frozen
      | o => o }
end Go.Proofs.YtpobiaibkmmjpaaDoor
