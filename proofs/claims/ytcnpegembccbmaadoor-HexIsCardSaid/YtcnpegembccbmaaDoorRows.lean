/-
  NARROWER THAN 'FOR EVERY INPUT', by the rows' own cells (each row's printed sentence says how): HexIs: laid · HexCodes: laid · HexBack: laid · HexValues: laid · HexBad: laid · HexRows: laid · HexTexts: laid.
  DERIVED. THE GIVEN ROWS OF THIS SEAT. 7 by the template 'for every input the law returns true; each argument reads behind the call as it read before'; 0 by the template 'total and deterministic' (their statements: YtcnpegembccbmaaDoorTotals.lean).
  GIVEN WITH THE SEED: the statements are not yours to turn. If you find one false, say at which input.
  Laid BY PROGRAM, IN A SANDBOX (cutbox-rows.mjs): the forced cells as the released guide's own fill.sh prints them over the translation 00476d0f74b97d5e… (all of the seat's roots in one cut). By AI agents, Wed Nov 11 2026. No macro, syntax, notation, axiom, sorry.
-/
import Derived.Test.YtcnpegembccbmaaDoorChecked
import GoSem.Claim
import GoSem.ClaimJoined
import GoSem.ClaimMapViews
import Derived.JoinedTies
import Derived.KernelRfl
namespace Go.Proofs.YtcnpegembccbmaaDoor
/- THE CELL 'sum', in the pinned program and in every row, IS THE sha256 OF THE DUMP (.gsa) THAT YtcnpegembccbmaaDoorProg.lean LOADS. Nothing in Lean hashes anything: it is a label: what it is worth is what the hold of that sum in a sandbox is worth. -/
noncomputable def Tryd.pinned : Pinned := { name := "ytcnpegembccbmaadoor", sum := "00476d0f74b97d5eea48d91d80876c8031b1ed33d5addbd11a4daf798c8cc08c", checked := Tryd.checked }
namespace Rows
def none {H : Type} : Left H := { results := [], args := [] }

/- WHAT THE LISTED PACKAGE-LEVEL VARIABLES READ AS WHEN THE CALL BEGINS. Each datum BY PROGRAM (the guide's laid-datum.mjs) off the statement by which the dump's own 'gosem.cut.vars' lays the variable. In a bare row this is a premise. The card (YtcnpegembccbmaaDoorCards.lean) ties it to the program's text. -/
def laid_hornbook_hex_kinds {H : Type} : DataW H := .agg [.lit (.int .u8 1), .lit (.int .u8 0), .lit (.int .u8 0), .lit (.int .u8 0), .lit (.int .u8 0), .lit (.int .u8 0), .lit (.int .u8 0), .lit (.int .u8 0), .lit (.int .u8 0), .lit (.int .u8 1), .lit (.int .u8 1), .lit (.int .u8 0), .lit (.int .u8 1), .lit (.int .u8 1), .lit (.int .u8 0), .lit (.int .u8 0), .lit (.int .u8 0), .lit (.int .u8 0), .lit (.int .u8 0), .lit (.int .u8 0), .lit (.int .u8 0), .lit (.int .u8 0), .lit (.int .u8 0), .lit (.int .u8 0), .lit (.int .u8 0), .lit (.int .u8 0), .lit (.int .u8 0), .lit (.int .u8 0), .lit (.int .u8 0), .lit (.int .u8 0), .lit (.int .u8 0), .lit (.int .u8 0), .lit (.int .u8 1), .lit (.int .u8 0), .lit (.int .u8 0), .lit (.int .u8 0), .lit (.int .u8 0), .lit (.int .u8 0), .lit (.int .u8 0), .lit (.int .u8 0), .lit (.int .u8 0), .lit (.int .u8 0), .lit (.int .u8 0), .lit (.int .u8 0), .lit (.int .u8 0), .lit (.int .u8 0), .lit (.int .u8 0), .lit (.int .u8 0), .lit (.int .u8 2), .lit (.int .u8 3), .lit (.int .u8 4), .lit (.int .u8 5), .lit (.int .u8 6), .lit (.int .u8 7), .lit (.int .u8 8), .lit (.int .u8 9), .lit (.int .u8 10), .lit (.int .u8 11), .lit (.int .u8 0), .lit (.int .u8 0), .lit (.int .u8 0), .lit (.int .u8 0), .lit (.int .u8 0), .lit (.int .u8 0), .lit (.int .u8 0), .lit (.int .u8 12), .lit (.int .u8 13), .lit (.int .u8 14), .lit (.int .u8 15), .lit (.int .u8 16), .lit (.int .u8 17), .lit (.int .u8 0), .lit (.int .u8 0), .lit (.int .u8 0), .lit (.int .u8 0), .lit (.int .u8 0), .lit (.int .u8 0), .lit (.int .u8 0), .lit (.int .u8 0), .lit (.int .u8 0), .lit (.int .u8 0), .lit (.int .u8 0), .lit (.int .u8 0), .lit (.int .u8 0), .lit (.int .u8 0), .lit (.int .u8 0), .lit (.int .u8 0), .lit (.int .u8 0), .lit (.int .u8 0), .lit (.int .u8 0), .lit (.int .u8 0), .lit (.int .u8 0), .lit (.int .u8 0), .lit (.int .u8 0), .lit (.int .u8 0), .lit (.int .u8 0), .lit (.int .u8 0), .lit (.int .u8 12), .lit (.int .u8 13), .lit (.int .u8 14), .lit (.int .u8 15), .lit (.int .u8 16), .lit (.int .u8 17)]

/-- 'hornbooklaw01.HexIs': WHATEVER THE INPUT: true; the input reads as it did. -/
def hexIsSpec : ChangeSpec := { name := "hexIs", fn := fun _ => fun
  | [d1, d2, d3] => { results := [.lit (.bool true)], args := [d1, d2, d3] }
  | _ => none }
def hexIsRow : OpenClaim := { program := "ytcnpegembccbmaadoor", sum := "00476d0f74b97d5eea48d91d80876c8031b1ed33d5addbd11a4daf798c8cc08c", func := "hornbook/hornbooklaw01.HexIs", spec := "hexIs", named := ["hornbook/hex.kinds"], apart := false, laid := [("hornbook/hex.kinds", laid_hornbook_hex_kinds)] }
def HexIsSaid : Prop := hexIsRow.holds Tryd.pinned (OpenSpec.ofChange hexIsSpec)

/-- ITS FALSE NEIGHBOUR: 'it returns false'. Refute it at one input. -/
def hexIsWrong : ChangeSpec := { name := "hexIs", fn := fun _ => fun
  | [d1, d2, d3] => { results := [.lit (.bool false)], args := [d1, d2, d3] }
  | _ => none }
def HexIsWrongFalsely : Prop := hexIsRow.holds Tryd.pinned (OpenSpec.ofChange hexIsWrong)

/-- 'hornbooklaw01.HexCodes': WHATEVER THE INPUT: true; the input reads as it did. -/
def hexCodesSpec : ChangeSpec := { name := "hexCodes", fn := fun _ => fun
  | [d1, d2] => { results := [.lit (.bool true)], args := [d1, d2] }
  | _ => none }
def hexCodesRow : OpenClaim := { program := "ytcnpegembccbmaadoor", sum := "00476d0f74b97d5eea48d91d80876c8031b1ed33d5addbd11a4daf798c8cc08c", func := "hornbook/hornbooklaw01.HexCodes", spec := "hexCodes", named := ["hornbook/hex.kinds"], apart := false, laid := [("hornbook/hex.kinds", laid_hornbook_hex_kinds)] }
def HexCodesSaid : Prop := hexCodesRow.holds Tryd.pinned (OpenSpec.ofChange hexCodesSpec)

/-- ITS FALSE NEIGHBOUR: 'it returns false'. Refute it at one input. -/
def hexCodesWrong : ChangeSpec := { name := "hexCodes", fn := fun _ => fun
  | [d1, d2] => { results := [.lit (.bool false)], args := [d1, d2] }
  | _ => none }
def HexCodesWrongFalsely : Prop := hexCodesRow.holds Tryd.pinned (OpenSpec.ofChange hexCodesWrong)

/-- 'hornbooklaw01.HexBack': WHATEVER THE INPUT: true; the input reads as it did. -/
def hexBackSpec : ChangeSpec := { name := "hexBack", fn := fun _ => fun
  | [d1, d2, d3] => { results := [.lit (.bool true)], args := [d1, d2, d3] }
  | _ => none }
def hexBackRow : OpenClaim := { program := "ytcnpegembccbmaadoor", sum := "00476d0f74b97d5eea48d91d80876c8031b1ed33d5addbd11a4daf798c8cc08c", func := "hornbook/hornbooklaw01.HexBack", spec := "hexBack", named := ["hornbook/hex.kinds"], apart := false, laid := [("hornbook/hex.kinds", laid_hornbook_hex_kinds)] }
def HexBackSaid : Prop := hexBackRow.holds Tryd.pinned (OpenSpec.ofChange hexBackSpec)

/-- ITS FALSE NEIGHBOUR: 'it returns false'. Refute it at one input. -/
def hexBackWrong : ChangeSpec := { name := "hexBack", fn := fun _ => fun
  | [d1, d2, d3] => { results := [.lit (.bool false)], args := [d1, d2, d3] }
  | _ => none }
def HexBackWrongFalsely : Prop := hexBackRow.holds Tryd.pinned (OpenSpec.ofChange hexBackWrong)

/-- 'hornbooklaw01.HexValues': WHATEVER THE INPUT: true; the input reads as it did. -/
def hexValuesSpec : ChangeSpec := { name := "hexValues", fn := fun _ => fun
  | [d1, d2] => { results := [.lit (.bool true)], args := [d1, d2] }
  | _ => none }
def hexValuesRow : OpenClaim := { program := "ytcnpegembccbmaadoor", sum := "00476d0f74b97d5eea48d91d80876c8031b1ed33d5addbd11a4daf798c8cc08c", func := "hornbook/hornbooklaw01.HexValues", spec := "hexValues", named := ["hornbook/hex.kinds"], apart := false, laid := [("hornbook/hex.kinds", laid_hornbook_hex_kinds)] }
def HexValuesSaid : Prop := hexValuesRow.holds Tryd.pinned (OpenSpec.ofChange hexValuesSpec)

/-- ITS FALSE NEIGHBOUR: 'it returns false'. Refute it at one input. -/
def hexValuesWrong : ChangeSpec := { name := "hexValues", fn := fun _ => fun
  | [d1, d2] => { results := [.lit (.bool false)], args := [d1, d2] }
  | _ => none }
def HexValuesWrongFalsely : Prop := hexValuesRow.holds Tryd.pinned (OpenSpec.ofChange hexValuesWrong)

/-- 'hornbooklaw01.HexBad': WHATEVER THE INPUT: true; the input reads as it did. -/
def hexBadSpec : ChangeSpec := { name := "hexBad", fn := fun _ => fun
  | [d] => { results := [.lit (.bool true)], args := [d] }
  | _ => none }
def hexBadRow : OpenClaim := { program := "ytcnpegembccbmaadoor", sum := "00476d0f74b97d5eea48d91d80876c8031b1ed33d5addbd11a4daf798c8cc08c", func := "hornbook/hornbooklaw01.HexBad", spec := "hexBad", named := ["hornbook/hex.kinds"], apart := false, laid := [("hornbook/hex.kinds", laid_hornbook_hex_kinds)] }
def HexBadSaid : Prop := hexBadRow.holds Tryd.pinned (OpenSpec.ofChange hexBadSpec)

/-- ITS FALSE NEIGHBOUR: 'it returns false'. Refute it at one input. -/
def hexBadWrong : ChangeSpec := { name := "hexBad", fn := fun _ => fun
  | [d] => { results := [.lit (.bool false)], args := [d] }
  | _ => none }
def HexBadWrongFalsely : Prop := hexBadRow.holds Tryd.pinned (OpenSpec.ofChange hexBadWrong)

/-- 'hornbooklaw01.HexRows': WHATEVER THE INPUT: true; the input reads as it did. -/
def hexRowsSpec : ChangeSpec := { name := "hexRows", fn := fun _ => fun
  | [d1, d2] => { results := [.lit (.bool true)], args := [d1, d2] }
  | _ => none }
def hexRowsRow : OpenClaim := { program := "ytcnpegembccbmaadoor", sum := "00476d0f74b97d5eea48d91d80876c8031b1ed33d5addbd11a4daf798c8cc08c", func := "hornbook/hornbooklaw01.HexRows", spec := "hexRows", named := ["hornbook/hex.kinds"], apart := false, laid := [("hornbook/hex.kinds", laid_hornbook_hex_kinds)] }
def HexRowsSaid : Prop := hexRowsRow.holds Tryd.pinned (OpenSpec.ofChange hexRowsSpec)

/-- ITS FALSE NEIGHBOUR: 'it returns false'. Refute it at one input. -/
def hexRowsWrong : ChangeSpec := { name := "hexRows", fn := fun _ => fun
  | [d1, d2] => { results := [.lit (.bool false)], args := [d1, d2] }
  | _ => none }
def HexRowsWrongFalsely : Prop := hexRowsRow.holds Tryd.pinned (OpenSpec.ofChange hexRowsWrong)

/-- 'hornbooklaw01.HexTexts': WHATEVER THE INPUT: true; the input reads as it did. -/
def hexTextsSpec : ChangeSpec := { name := "hexTexts", fn := fun _ => fun
  | [d1, d2] => { results := [.lit (.bool true)], args := [d1, d2] }
  | _ => none }
def hexTextsRow : OpenClaim := { program := "ytcnpegembccbmaadoor", sum := "00476d0f74b97d5eea48d91d80876c8031b1ed33d5addbd11a4daf798c8cc08c", func := "hornbook/hornbooklaw01.HexTexts", spec := "hexTexts", named := ["hornbook/hex.kinds"], apart := false, laid := [("hornbook/hex.kinds", laid_hornbook_hex_kinds)] }
def HexTextsSaid : Prop := hexTextsRow.holds Tryd.pinned (OpenSpec.ofChange hexTextsSpec)

/-- ITS FALSE NEIGHBOUR: 'it returns false'. Refute it at one input. -/
def hexTextsWrong : ChangeSpec := { name := "hexTexts", fn := fun _ => fun
  | [d1, d2] => { results := [.lit (.bool false)], args := [d1, d2] }
  | _ => none }
def HexTextsWrongFalsely : Prop := hexTextsRow.holds Tryd.pinned (OpenSpec.ofChange hexTextsWrong)

/- THE SECOND FORM. 'bulk': how many values and letters a reading holds, each counted each time it is reached (what is shared counts as often as it is met; a slice's spare places count too). A statement '..UptoSaid' is the law's where the arguments, and the package variables that the reading takes, are together of bulk at most 1048576: NARROWER than '..Said'. Prove '..Said' where nothing that the law and all that it calls make is longer than what came in: it says more and counts as full. Else prove '..UptoSaid'. A law counts once. -/
mutual
def uptoBulk {H : Type} : DataW H → Nat
  | .lit (.string bytes) => bytes.length + 1
  | .lit _ => 1
  | .nil => 1
  | .ptr d => uptoBulk d + 1
  | .slice elems spare => uptoBulkAll elems + uptoBulkAll spare + 1
  | .agg parts => uptoBulkAll parts + 1
  | .iface _ d => uptoBulk d + 1
  | .map entries => uptoBulkEntries entries + 1
  | .held _ => 1
def uptoBulkAll {H : Type} : List (DataW H) → Nat
  | [] => 0
  | d :: r => uptoBulk d + uptoBulkAll r
def uptoBulkEntries {H : Type} : List (Lit × DataW H) → Nat
  | [] => 0
  | x :: r => uptoBulkEntry x + uptoBulkEntries r
def uptoBulkEntry {H : Type} : Lit × DataW H → Nat
  | (.string bytes, d) => bytes.length + uptoBulk d + 1
  | (_, d) => uptoBulk d + 1
 end
def uptoSmall : (H : Type) → List (DataW H) → Bool := fun _ ds => decide (uptoBulkAll ds ≤ 1048576)
def OpenSpec.upto (s : _root_.Go.ChangeSpec) : _root_.Go.OpenSpec := { _root_.Go.OpenSpec.ofChange s with cond := some uptoSmall }

/-- 'hornbooklaw01.HexIs', WHERE WHAT IT READS IS OF BULK AT MOST 1048576: true; the input reads as it did. -/
def hexIsUptoRow : OpenClaim := { program := "ytcnpegembccbmaadoor", sum := "00476d0f74b97d5eea48d91d80876c8031b1ed33d5addbd11a4daf798c8cc08c", func := "hornbook/hornbooklaw01.HexIs", spec := "hexIs", named := ["hornbook/hex.kinds"], apart := false, laid := [("hornbook/hex.kinds", laid_hornbook_hex_kinds)], narrowed := true }
def HexIsUptoSaid : Prop := hexIsUptoRow.holds Tryd.pinned (OpenSpec.upto hexIsSpec)

/-- 'hornbooklaw01.HexCodes', WHERE WHAT IT READS IS OF BULK AT MOST 1048576: true; the input reads as it did. -/
def hexCodesUptoRow : OpenClaim := { program := "ytcnpegembccbmaadoor", sum := "00476d0f74b97d5eea48d91d80876c8031b1ed33d5addbd11a4daf798c8cc08c", func := "hornbook/hornbooklaw01.HexCodes", spec := "hexCodes", named := ["hornbook/hex.kinds"], apart := false, laid := [("hornbook/hex.kinds", laid_hornbook_hex_kinds)], narrowed := true }
def HexCodesUptoSaid : Prop := hexCodesUptoRow.holds Tryd.pinned (OpenSpec.upto hexCodesSpec)

/-- 'hornbooklaw01.HexBack', WHERE WHAT IT READS IS OF BULK AT MOST 1048576: true; the input reads as it did. -/
def hexBackUptoRow : OpenClaim := { program := "ytcnpegembccbmaadoor", sum := "00476d0f74b97d5eea48d91d80876c8031b1ed33d5addbd11a4daf798c8cc08c", func := "hornbook/hornbooklaw01.HexBack", spec := "hexBack", named := ["hornbook/hex.kinds"], apart := false, laid := [("hornbook/hex.kinds", laid_hornbook_hex_kinds)], narrowed := true }
def HexBackUptoSaid : Prop := hexBackUptoRow.holds Tryd.pinned (OpenSpec.upto hexBackSpec)

/-- 'hornbooklaw01.HexValues', WHERE WHAT IT READS IS OF BULK AT MOST 1048576: true; the input reads as it did. -/
def hexValuesUptoRow : OpenClaim := { program := "ytcnpegembccbmaadoor", sum := "00476d0f74b97d5eea48d91d80876c8031b1ed33d5addbd11a4daf798c8cc08c", func := "hornbook/hornbooklaw01.HexValues", spec := "hexValues", named := ["hornbook/hex.kinds"], apart := false, laid := [("hornbook/hex.kinds", laid_hornbook_hex_kinds)], narrowed := true }
def HexValuesUptoSaid : Prop := hexValuesUptoRow.holds Tryd.pinned (OpenSpec.upto hexValuesSpec)

/-- 'hornbooklaw01.HexBad', WHERE WHAT IT READS IS OF BULK AT MOST 1048576: true; the input reads as it did. -/
def hexBadUptoRow : OpenClaim := { program := "ytcnpegembccbmaadoor", sum := "00476d0f74b97d5eea48d91d80876c8031b1ed33d5addbd11a4daf798c8cc08c", func := "hornbook/hornbooklaw01.HexBad", spec := "hexBad", named := ["hornbook/hex.kinds"], apart := false, laid := [("hornbook/hex.kinds", laid_hornbook_hex_kinds)], narrowed := true }
def HexBadUptoSaid : Prop := hexBadUptoRow.holds Tryd.pinned (OpenSpec.upto hexBadSpec)

/-- 'hornbooklaw01.HexRows', WHERE WHAT IT READS IS OF BULK AT MOST 1048576: true; the input reads as it did. -/
def hexRowsUptoRow : OpenClaim := { program := "ytcnpegembccbmaadoor", sum := "00476d0f74b97d5eea48d91d80876c8031b1ed33d5addbd11a4daf798c8cc08c", func := "hornbook/hornbooklaw01.HexRows", spec := "hexRows", named := ["hornbook/hex.kinds"], apart := false, laid := [("hornbook/hex.kinds", laid_hornbook_hex_kinds)], narrowed := true }
def HexRowsUptoSaid : Prop := hexRowsUptoRow.holds Tryd.pinned (OpenSpec.upto hexRowsSpec)

/-- 'hornbooklaw01.HexTexts', WHERE WHAT IT READS IS OF BULK AT MOST 1048576: true; the input reads as it did. -/
def hexTextsUptoRow : OpenClaim := { program := "ytcnpegembccbmaadoor", sum := "00476d0f74b97d5eea48d91d80876c8031b1ed33d5addbd11a4daf798c8cc08c", func := "hornbook/hornbooklaw01.HexTexts", spec := "hexTexts", named := ["hornbook/hex.kinds"], apart := false, laid := [("hornbook/hex.kinds", laid_hornbook_hex_kinds)], narrowed := true }
def HexTextsUptoSaid : Prop := hexTextsUptoRow.holds Tryd.pinned (OpenSpec.upto hexTextsSpec)

end Rows
end Go.Proofs.YtcnpegembccbmaaDoor
