/-
  DERIVED. GIVEN WITH THE SEED: THE PROGRAM's TIES (one call each: nine closed facts by the kernel) AND EACH ROW's TIE, after the 31st guide's Derived/Test/Toyas{Tie, Card}.lean. No idea stands in it: it is a product of the set-up. Laid BY PROGRAM, IN A SANDBOX (cutbox-door.mjs). By AI agents, Wed Nov 11 2026. No macro, syntax, notation, axiom, sorry.
-/
import Derived.Test.YthcnjiigkmljnaaDoorRows
import Derived.LaidByTextLater
import Derived.SevenTiedAt
import Derived.LaidSub
import Derived.LaidOnce
namespace Go.Proofs.YthcnjiigkmljnaaDoor
open Go
set_option maxRecDepth 100000
theorem seatTie1 : Tryd.prog.laidByTextLater [("hornbook/hex.kinds", Rows.laid_hornbook_hex_kinds), ("hornbook/tok.marks", Rows.laid_hornbook_tok_marks), ("hornbook/syn.sections", Rows.laid_hornbook_syn_sections)] [.data, .data, .data] true :=
  Program.laidByTextLater_by_one 24 8 104 (by kernel_rfl) (by kernel_rfl) (by kernel_rfl) (by kernel_rfl) (by kernel_rfl) (by kernel_rfl) (fun _ _ => by kernel_rfl)
theorem noOwnUnsafe : Tryd.pinned.checked.prog.headLifts.contains "ownunsafe" = false := by kernel_rfl
theorem tie : Tryd.prog.laidByTextLater [("hornbook/hex.kinds", Rows.laid_hornbook_hex_kinds), ("hornbook/tok.marks", Rows.laid_hornbook_tok_marks), ("hornbook/syn.sections", Rows.laid_hornbook_syn_sections)] [.data, .data, .data] true :=
  Program.laidByTextLater.sub seatTie1 ["hornbook/hex.kinds", "hornbook/tok.marks", "hornbook/syn.sections"] (by kernel_rfl) (by kernel_rfl)
theorem synSound_row_tie : Rows.synSoundRow.laidByTextAt .later Tryd.pinned [.data, .data, .data] true :=
  OpenClaim.laidByTextAt_later rfl rfl tie noOwnUnsafe
theorem synCounts_row_tie : Rows.synCountsRow.laidByTextAt .later Tryd.pinned [.data, .data, .data] true :=
  OpenClaim.laidByTextAt_later rfl rfl tie noOwnUnsafe
theorem synDeep_row_tie : Rows.synDeepRow.laidByTextAt .later Tryd.pinned [.data, .data, .data] true :=
  OpenClaim.laidByTextAt_later rfl rfl tie noOwnUnsafe
theorem synSoundUpto_row_tie : Rows.synSoundUptoRow.laidByTextAt .later Tryd.pinned [.data, .data, .data] true :=
  OpenClaim.laidByTextAt_later rfl rfl tie noOwnUnsafe
theorem synCountsUpto_row_tie : Rows.synCountsUptoRow.laidByTextAt .later Tryd.pinned [.data, .data, .data] true :=
  OpenClaim.laidByTextAt_later rfl rfl tie noOwnUnsafe
theorem synDeepUpto_row_tie : Rows.synDeepUptoRow.laidByTextAt .later Tryd.pinned [.data, .data, .data] true :=
  OpenClaim.laidByTextAt_later rfl rfl tie noOwnUnsafe
end Go.Proofs.YthcnjiigkmljnaaDoor
