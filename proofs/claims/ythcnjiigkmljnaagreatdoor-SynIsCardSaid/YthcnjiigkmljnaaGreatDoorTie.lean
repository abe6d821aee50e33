/-
  DERIVED. GIVEN WITH THE SEED: THE PROGRAM's TIES (one call each: nine closed facts by the kernel) AND EACH ROW's TIE, after the 31st guide's Derived/Test/Toyas{Tie, Card}.lean. No idea stands in it: it is a product of the set-up. Laid BY PROGRAM, IN A SANDBOX (cutbox-door.mjs). By AI agents, Wed Nov 11 2026. No macro, syntax, notation, axiom, sorry.
-/
import Derived.Test.YthcnjiigkmljnaaGreatDoorRows
import Derived.LaidByTextLater
import Derived.SevenTiedAt
import Derived.LaidSub
import Derived.LaidOnce
namespace Go.Proofs.YthcnjiigkmljnaaGreatDoor
open Go
set_option maxRecDepth 100000
theorem seatTie1 : Tryz.prog.laidByTextLater [("hornbook/hex.kinds", Rows.laid_hornbook_hex_kinds), ("hornbook/tok.marks", Rows.laid_hornbook_tok_marks), ("hornbook/syn.sections", Rows.laid_hornbook_syn_sections)] [.data, .data, .data] true :=
  Program.laidByTextLater_by_one 24 8 104 (by kernel_rfl) (by kernel_rfl) (by kernel_rfl) (by kernel_rfl) (by kernel_rfl) (by kernel_rfl) (fun _ _ => by kernel_rfl)
theorem noOwnUnsafe : Tryz.pinned.checked.prog.headLifts.contains "ownunsafe" = false := by kernel_rfl
theorem tie : Tryz.prog.laidByTextLater [("hornbook/hex.kinds", Rows.laid_hornbook_hex_kinds), ("hornbook/tok.marks", Rows.laid_hornbook_tok_marks), ("hornbook/syn.sections", Rows.laid_hornbook_syn_sections)] [.data, .data, .data] true :=
  Program.laidByTextLater.sub seatTie1 ["hornbook/hex.kinds", "hornbook/tok.marks", "hornbook/syn.sections"] (by kernel_rfl) (by kernel_rfl)
theorem synIs_row_tie : Rows.synIsRow.laidByTextAt .later Tryz.pinned [.data, .data, .data] true :=
  OpenClaim.laidByTextAt_later rfl rfl tie noOwnUnsafe
theorem synReads_row_tie : Rows.synReadsRow.laidByTextAt .later Tryz.pinned [.data, .data, .data] true :=
  OpenClaim.laidByTextAt_later rfl rfl tie noOwnUnsafe
theorem synIsUpto_row_tie : Rows.synIsUptoRow.laidByTextAt .later Tryz.pinned [.data, .data, .data] true :=
  OpenClaim.laidByTextAt_later rfl rfl tie noOwnUnsafe
theorem synReadsUpto_row_tie : Rows.synReadsUptoRow.laidByTextAt .later Tryz.pinned [.data, .data, .data] true :=
  OpenClaim.laidByTextAt_later rfl rfl tie noOwnUnsafe
end Go.Proofs.YthcnjiigkmljnaaGreatDoor
