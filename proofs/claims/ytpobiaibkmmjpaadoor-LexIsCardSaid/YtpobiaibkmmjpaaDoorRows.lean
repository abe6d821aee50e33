/-
  NARROWER THAN 'FOR EVERY INPUT', by the rows' own cells (each row's printed sentence says how): LexIs: laid · LexNames: laid · LexSkips: laid · LexNumbers: laid · LexWords: laid · LexInts: laid · LexPlain: laid.
  DERIVED. THE GIVEN ROWS OF THIS SEAT. 7 by the template 'for every input the law returns true; each argument reads behind the call as it read before'; 0 by the template 'total and deterministic' (their statements: YtpobiaibkmmjpaaDoorTotals.lean).
  GIVEN WITH THE SEED: the statements are not yours to turn. If you find one false, say at which input.
  Laid BY PROGRAM, IN A SANDBOX (cutbox-rows.mjs): the forced cells as the released guide's own fill.sh prints them over the translation bf1876ff3b04ab7b… (all of the seat's roots in one cut). By AI agents, Wed Nov 11 2026. No macro, syntax, notation, axiom, sorry.
-/
import Derived.Test.YtpobiaibkmmjpaaDoorChecked
import GoSem.Claim
import GoSem.ClaimJoined
import GoSem.ClaimMapViews
import Derived.JoinedTies
import Derived.KernelRfl
namespace Go.Proofs.YtpobiaibkmmjpaaDoor
/- THE CELL 'sum', in the pinned program and in every row, IS THE sha256 OF THE DUMP (.gsa) THAT YtpobiaibkmmjpaaDoorProg.lean LOADS. Nothing in Lean hashes anything: it is a label: what it is worth is what the hold of that sum in a sandbox is worth. -/
noncomputable def Tryd.pinned : Pinned := { name := "ytpobiaibkmmjpaadoor", sum := "bf1876ff3b04ab7bdf9fd523bc232aab33f80856507f45ed5be2dcefd0b868a1", checked := Tryd.checked }
namespace Rows
def none {H : Type} : Left H := { results := [], args := [] }

/- WHAT THE LISTED PACKAGE-LEVEL VARIABLES READ AS WHEN THE CALL BEGINS. Each datum BY PROGRAM (the guide's laid-datum.mjs) off the statement by which the dump's own 'gosem.cut.vars' lays the variable. In a bare row this is a premise. The card (YtpobiaibkmmjpaaDoorCards.lean) ties it to the program's text. -/
def laid_hornbook_hex_kinds {H : Type} : DataW H := .agg [.lit (.int .u8 1), .lit (.int .u8 0), .lit (.int .u8 0), .lit (.int .u8 0), .lit (.int .u8 0), .lit (.int .u8 0), .lit (.int .u8 0), .lit (.int .u8 0), .lit (.int .u8 0), .lit (.int .u8 1), .lit (.int .u8 1), .lit (.int .u8 0), .lit (.int .u8 1), .lit (.int .u8 1), .lit (.int .u8 0), .lit (.int .u8 0), .lit (.int .u8 0), .lit (.int .u8 0), .lit (.int .u8 0), .lit (.int .u8 0), .lit (.int .u8 0), .lit (.int .u8 0), .lit (.int .u8 0), .lit (.int .u8 0), .lit (.int .u8 0), .lit (.int .u8 0), .lit (.int .u8 0), .lit (.int .u8 0), .lit (.int .u8 0), .lit (.int .u8 0), .lit (.int .u8 0), .lit (.int .u8 0), .lit (.int .u8 1), .lit (.int .u8 0), .lit (.int .u8 0), .lit (.int .u8 0), .lit (.int .u8 0), .lit (.int .u8 0), .lit (.int .u8 0), .lit (.int .u8 0), .lit (.int .u8 0), .lit (.int .u8 0), .lit (.int .u8 0), .lit (.int .u8 0), .lit (.int .u8 0), .lit (.int .u8 0), .lit (.int .u8 0), .lit (.int .u8 0), .lit (.int .u8 2), .lit (.int .u8 3), .lit (.int .u8 4), .lit (.int .u8 5), .lit (.int .u8 6), .lit (.int .u8 7), .lit (.int .u8 8), .lit (.int .u8 9), .lit (.int .u8 10), .lit (.int .u8 11), .lit (.int .u8 0), .lit (.int .u8 0), .lit (.int .u8 0), .lit (.int .u8 0), .lit (.int .u8 0), .lit (.int .u8 0), .lit (.int .u8 0), .lit (.int .u8 12), .lit (.int .u8 13), .lit (.int .u8 14), .lit (.int .u8 15), .lit (.int .u8 16), .lit (.int .u8 17), .lit (.int .u8 0), .lit (.int .u8 0), .lit (.int .u8 0), .lit (.int .u8 0), .lit (.int .u8 0), .lit (.int .u8 0), .lit (.int .u8 0), .lit (.int .u8 0), .lit (.int .u8 0), .lit (.int .u8 0), .lit (.int .u8 0), .lit (.int .u8 0), .lit (.int .u8 0), .lit (.int .u8 0), .lit (.int .u8 0), .lit (.int .u8 0), .lit (.int .u8 0), .lit (.int .u8 0), .lit (.int .u8 0), .lit (.int .u8 0), .lit (.int .u8 0), .lit (.int .u8 0), .lit (.int .u8 0), .lit (.int .u8 0), .lit (.int .u8 0), .lit (.int .u8 0), .lit (.int .u8 12), .lit (.int .u8 13), .lit (.int .u8 14), .lit (.int .u8 15), .lit (.int .u8 16), .lit (.int .u8 17)]

/-- 'hornbooklaw03.LexIs': WHATEVER THE INPUT: true; the input reads as it did. -/
def lexIsSpec : ChangeSpec := { name := "lexIs", fn := fun _ => fun
  | [d1, d2, d3] => { results := [.lit (.bool true)], args := [d1, d2, d3] }
  | _ => none }
def lexIsRow : OpenClaim := { program := "ytpobiaibkmmjpaadoor", sum := "bf1876ff3b04ab7bdf9fd523bc232aab33f80856507f45ed5be2dcefd0b868a1", func := "hornbook/hornbooklaw03.LexIs", spec := "lexIs", inPlace := ["internal/bytealg.IndexByteString", "internal/bytealg.IndexString"], named := ["hornbook/hex.kinds", "internal/bytealg.MaxLen"], apart := false, laid := [("hornbook/hex.kinds", laid_hornbook_hex_kinds)] }
def LexIsSaid : Prop := lexIsRow.holds Tryd.pinned (OpenSpec.ofChange lexIsSpec)

/-- ITS FALSE NEIGHBOUR: 'it returns false'. Refute it at one input. -/
def lexIsWrong : ChangeSpec := { name := "lexIs", fn := fun _ => fun
  | [d1, d2, d3] => { results := [.lit (.bool false)], args := [d1, d2, d3] }
  | _ => none }
def LexIsWrongFalsely : Prop := lexIsRow.holds Tryd.pinned (OpenSpec.ofChange lexIsWrong)

/-- 'hornbooklaw03.LexNames': WHATEVER THE INPUT: true; the input reads as it did. -/
def lexNamesSpec : ChangeSpec := { name := "lexNames", fn := fun _ => fun
  | [d] => { results := [.lit (.bool true)], args := [d] }
  | _ => none }
def lexNamesRow : OpenClaim := { program := "ytpobiaibkmmjpaadoor", sum := "bf1876ff3b04ab7bdf9fd523bc232aab33f80856507f45ed5be2dcefd0b868a1", func := "hornbook/hornbooklaw03.LexNames", spec := "lexNames", inPlace := ["internal/bytealg.IndexByteString", "internal/bytealg.IndexString"], named := ["hornbook/hex.kinds", "internal/bytealg.MaxLen"], apart := false, laid := [("hornbook/hex.kinds", laid_hornbook_hex_kinds)] }
def LexNamesSaid : Prop := lexNamesRow.holds Tryd.pinned (OpenSpec.ofChange lexNamesSpec)

/-- ITS FALSE NEIGHBOUR: 'it returns false'. Refute it at one input. -/
def lexNamesWrong : ChangeSpec := { name := "lexNames", fn := fun _ => fun
  | [d] => { results := [.lit (.bool false)], args := [d] }
  | _ => none }
def LexNamesWrongFalsely : Prop := lexNamesRow.holds Tryd.pinned (OpenSpec.ofChange lexNamesWrong)

/-- 'hornbooklaw03.LexSkips': WHATEVER THE INPUT: true; the input reads as it did. -/
def lexSkipsSpec : ChangeSpec := { name := "lexSkips", fn := fun _ => fun
  | [d1, d2, d3] => { results := [.lit (.bool true)], args := [d1, d2, d3] }
  | _ => none }
def lexSkipsRow : OpenClaim := { program := "ytpobiaibkmmjpaadoor", sum := "bf1876ff3b04ab7bdf9fd523bc232aab33f80856507f45ed5be2dcefd0b868a1", func := "hornbook/hornbooklaw03.LexSkips", spec := "lexSkips", inPlace := ["internal/bytealg.IndexByteString", "internal/bytealg.IndexString"], named := ["hornbook/hex.kinds", "internal/bytealg.MaxLen"], apart := false, laid := [("hornbook/hex.kinds", laid_hornbook_hex_kinds)] }
def LexSkipsSaid : Prop := lexSkipsRow.holds Tryd.pinned (OpenSpec.ofChange lexSkipsSpec)

/-- ITS FALSE NEIGHBOUR: 'it returns false'. Refute it at one input. -/
def lexSkipsWrong : ChangeSpec := { name := "lexSkips", fn := fun _ => fun
  | [d1, d2, d3] => { results := [.lit (.bool false)], args := [d1, d2, d3] }
  | _ => none }
def LexSkipsWrongFalsely : Prop := lexSkipsRow.holds Tryd.pinned (OpenSpec.ofChange lexSkipsWrong)

/-- 'hornbooklaw03.LexNumbers': WHATEVER THE INPUT: true; the input reads as it did. -/
def lexNumbersSpec : ChangeSpec := { name := "lexNumbers", fn := fun _ => fun
  | [d1, d2] => { results := [.lit (.bool true)], args := [d1, d2] }
  | _ => none }
def lexNumbersRow : OpenClaim := { program := "ytpobiaibkmmjpaadoor", sum := "bf1876ff3b04ab7bdf9fd523bc232aab33f80856507f45ed5be2dcefd0b868a1", func := "hornbook/hornbooklaw03.LexNumbers", spec := "lexNumbers", inPlace := ["internal/bytealg.IndexByteString", "internal/bytealg.IndexString"], named := ["hornbook/hex.kinds", "internal/bytealg.MaxLen"], apart := false, laid := [("hornbook/hex.kinds", laid_hornbook_hex_kinds)] }
def LexNumbersSaid : Prop := lexNumbersRow.holds Tryd.pinned (OpenSpec.ofChange lexNumbersSpec)

/-- ITS FALSE NEIGHBOUR: 'it returns false'. Refute it at one input. -/
def lexNumbersWrong : ChangeSpec := { name := "lexNumbers", fn := fun _ => fun
  | [d1, d2] => { results := [.lit (.bool false)], args := [d1, d2] }
  | _ => none }
def LexNumbersWrongFalsely : Prop := lexNumbersRow.holds Tryd.pinned (OpenSpec.ofChange lexNumbersWrong)

/-- 'hornbooklaw03.LexWords': WHATEVER THE INPUT: true; the input reads as it did. -/
def lexWordsSpec : ChangeSpec := { name := "lexWords", fn := fun _ => fun
  | [d1, d2] => { results := [.lit (.bool true)], args := [d1, d2] }
  | _ => none }
def lexWordsRow : OpenClaim := { program := "ytpobiaibkmmjpaadoor", sum := "bf1876ff3b04ab7bdf9fd523bc232aab33f80856507f45ed5be2dcefd0b868a1", func := "hornbook/hornbooklaw03.LexWords", spec := "lexWords", inPlace := ["internal/bytealg.IndexByteString", "internal/bytealg.IndexString"], named := ["hornbook/hex.kinds", "internal/bytealg.MaxLen"], apart := false, laid := [("hornbook/hex.kinds", laid_hornbook_hex_kinds)] }
def LexWordsSaid : Prop := lexWordsRow.holds Tryd.pinned (OpenSpec.ofChange lexWordsSpec)

/-- ITS FALSE NEIGHBOUR: 'it returns false'. Refute it at one input. -/
def lexWordsWrong : ChangeSpec := { name := "lexWords", fn := fun _ => fun
  | [d1, d2] => { results := [.lit (.bool false)], args := [d1, d2] }
  | _ => none }
def LexWordsWrongFalsely : Prop := lexWordsRow.holds Tryd.pinned (OpenSpec.ofChange lexWordsWrong)

/-- 'hornbooklaw03.LexInts': WHATEVER THE INPUT: true; the input reads as it did. -/
def lexIntsSpec : ChangeSpec := { name := "lexInts", fn := fun _ => fun
  | [d1, d2] => { results := [.lit (.bool true)], args := [d1, d2] }
  | _ => none }
def lexIntsRow : OpenClaim := { program := "ytpobiaibkmmjpaadoor", sum := "bf1876ff3b04ab7bdf9fd523bc232aab33f80856507f45ed5be2dcefd0b868a1", func := "hornbook/hornbooklaw03.LexInts", spec := "lexInts", inPlace := ["internal/bytealg.IndexByteString", "internal/bytealg.IndexString"], named := ["hornbook/hex.kinds", "internal/bytealg.MaxLen"], apart := false, laid := [("hornbook/hex.kinds", laid_hornbook_hex_kinds)] }
def LexIntsSaid : Prop := lexIntsRow.holds Tryd.pinned (OpenSpec.ofChange lexIntsSpec)

/-- ITS FALSE NEIGHBOUR: 'it returns false'. Refute it at one input. -/
def lexIntsWrong : ChangeSpec := { name := "lexInts", fn := fun _ => fun
  | [d1, d2] => { results := [.lit (.bool false)], args := [d1, d2] }
  | _ => none }
def LexIntsWrongFalsely : Prop := lexIntsRow.holds Tryd.pinned (OpenSpec.ofChange lexIntsWrong)

/-- 'hornbooklaw03.LexPlain': WHATEVER THE INPUT: true; the input reads as it did. -/
def lexPlainSpec : ChangeSpec := { name := "lexPlain", fn := fun _ => fun
  | [d] => { results := [.lit (.bool true)], args := [d] }
  | _ => none }
def lexPlainRow : OpenClaim := { program := "ytpobiaibkmmjpaadoor", sum := "bf1876ff3b04ab7bdf9fd523bc232aab33f80856507f45ed5be2dcefd0b868a1", func := "hornbook/hornbooklaw03.LexPlain", spec := "lexPlain", inPlace := ["internal/bytealg.IndexByteString", "internal/bytealg.IndexString"], named := ["hornbook/hex.kinds", "internal/bytealg.MaxLen"], apart := false, laid := [("hornbook/hex.kinds", laid_hornbook_hex_kinds)] }
def LexPlainSaid : Prop := lexPlainRow.holds Tryd.pinned (OpenSpec.ofChange lexPlainSpec)

/-- ITS FALSE NEIGHBOUR: 'it returns false'. Refute it at one input. -/
def lexPlainWrong : ChangeSpec := { name := "lexPlain", fn := fun _ => fun
  | [d] => { results := [.lit (.bool false)], args := [d] }
  | _ => none }
def LexPlainWrongFalsely : Prop := lexPlainRow.holds Tryd.pinned (OpenSpec.ofChange lexPlainWrong)

/- THE SECOND FORM. 'bulk': how many values and letters a reading holds, each counted each time it is reached (what is shared counts as often as it is met; a slice's spare places count too). A statement '..UptoSaid' is the law's where the arguments, and the package variables that the reading takes, are together of bulk at most 1048576: NARROWER than '..Said'. Prove '..Said' where nothing that the law and all that it calls make is longer than what came in: it says more and counts as full. Else prove '..UptoSaid'. A law counts once. -/
mutual
def uptoBulk {H : Type} : DataW H → Nat
  | .lit (.string bytes) => bytes.length + 1
  | .lit _ => 1
  | .nil => 1
  | .ptr d => uptoBulk d + 1
  | .slice elems spare => uptoBulkAll elems + uptoBulkAll spare + 1
  | .agg parts => uptoBulkAll parts + 1
  | .iface _ d => uptoBulk d + 1
  | .map entries => uptoBulkEntries entries + 1
  | .held _ => 1
def uptoBulkAll {H : Type} : List (DataW H) → Nat
  | [] => 0
  | d :: r => uptoBulk d + uptoBulkAll r
def uptoBulkEntries {H : Type} : List (Lit × DataW H) → Nat
  | [] => 0
  | x :: r => uptoBulkEntry x + uptoBulkEntries r
def uptoBulkEntry {H : Type} : Lit × DataW H → Nat
  | (.string bytes, d) => bytes.length + uptoBulk d + 1
  | (_, d) => uptoBulk d + 1
 end
def uptoSmall : (H : Type) → List (DataW H) → Bool := fun _ ds => decide (uptoBulkAll ds ≤ 1048576)
def OpenSpec.upto (s : _root_.Go.ChangeSpec) : _root_.Go.OpenSpec := { _root_.Go.OpenSpec.ofChange s with cond := some uptoSmall }

/-- 'hornbooklaw03.LexIs', WHERE WHAT IT READS IS OF BULK AT MOST 1048576: true; the input reads as it did. -/
def lexIsUptoRow : OpenClaim := { program := "ytpobiaibkmmjpaadoor", sum := "bf1876ff3b04ab7bdf9fd523bc232aab33f80856507f45ed5be2dcefd0b868a1", func := "hornbook/hornbooklaw03.LexIs", spec := "lexIs", inPlace := ["internal/bytealg.IndexByteString", "internal/bytealg.IndexString"], named := ["hornbook/hex.kinds", "internal/bytealg.MaxLen"], apart := false, laid := [("hornbook/hex.kinds", laid_hornbook_hex_kinds)], narrowed := true }
def LexIsUptoSaid : Prop := lexIsUptoRow.holds Tryd.pinned (OpenSpec.upto lexIsSpec)

/-- 'hornbooklaw03.LexNames', WHERE WHAT IT READS IS OF BULK AT MOST 1048576: true; the input reads as it did. -/
def lexNamesUptoRow : OpenClaim := { program := "ytpobiaibkmmjpaadoor", sum := "bf1876ff3b04ab7bdf9fd523bc232aab33f80856507f45ed5be2dcefd0b868a1", func := "hornbook/hornbooklaw03.LexNames", spec := "lexNames", inPlace := ["internal/bytealg.IndexByteString", "internal/bytealg.IndexString"], named := ["hornbook/hex.kinds", "internal/bytealg.MaxLen"], apart := false, laid := [("hornbook/hex.kinds", laid_hornbook_hex_kinds)], narrowed := true }
def LexNamesUptoSaid : Prop := lexNamesUptoRow.holds Tryd.pinned (OpenSpec.upto lexNamesSpec)

/-- 'hornbooklaw03.LexSkips', WHERE WHAT IT READS IS OF BULK AT MOST 1048576: true; the input reads as it did. -/
def lexSkipsUptoRow : OpenClaim := { program := "ytpobiaibkmmjpaadoor", sum := "bf1876ff3b04ab7bdf9fd523bc232aab33f80856507f45ed5be2dcefd0b868a1", func := "hornbook/hornbooklaw03.LexSkips", spec := "lexSkips", inPlace := ["internal/bytealg.IndexByteString", "internal/bytealg.IndexString"], named := ["hornbook/hex.kinds", "internal/bytealg.MaxLen"], apart := false, laid := [("hornbook/hex.kinds", laid_hornbook_hex_kinds)], narrowed := true }
def LexSkipsUptoSaid : Prop := lexSkipsUptoRow.holds Tryd.pinned (OpenSpec.upto lexSkipsSpec)

/-- 'hornbooklaw03.LexNumbers', WHERE WHAT IT READS IS OF BULK AT MOST 1048576: true; the input reads as it did. -/
def lexNumbersUptoRow : OpenClaim := { program := "ytpobiaibkmmjpaadoor", sum := "bf1876ff3b04ab7bdf9fd523bc232aab33f80856507f45ed5be2dcefd0b868a1", func := "hornbook/hornbooklaw03.LexNumbers", spec := "lexNumbers", inPlace := ["internal/bytealg.IndexByteString", "internal/bytealg.IndexString"], named := ["hornbook/hex.kinds", "internal/bytealg.MaxLen"], apart := false, laid := [("hornbook/hex.kinds", laid_hornbook_hex_kinds)], narrowed := true }
def LexNumbersUptoSaid : Prop := lexNumbersUptoRow.holds Tryd.pinned (OpenSpec.upto lexNumbersSpec)

/-- 'hornbooklaw03.LexWords', WHERE WHAT IT READS IS OF BULK AT MOST 1048576: true; the input reads as it did. -/
def lexWordsUptoRow : OpenClaim := { program := "ytpobiaibkmmjpaadoor", sum := "bf1876ff3b04ab7bdf9fd523bc232aab33f80856507f45ed5be2dcefd0b868a1", func := "hornbook/hornbooklaw03.LexWords", spec := "lexWords", inPlace := ["internal/bytealg.IndexByteString", "internal/bytealg.IndexString"], named := ["hornbook/hex.kinds", "internal/bytealg.MaxLen"], apart := false, laid := [("hornbook/hex.kinds", laid_hornbook_hex_kinds)], narrowed := true }
def LexWordsUptoSaid : Prop := lexWordsUptoRow.holds Tryd.pinned (OpenSpec.upto lexWordsSpec)

/-- 'hornbooklaw03.LexInts', WHERE WHAT IT READS IS OF BULK AT MOST 1048576: true; the input reads as it did. -/
def lexIntsUptoRow : OpenClaim := { program := "ytpobiaibkmmjpaadoor", sum := "bf1876ff3b04ab7bdf9fd523bc232aab33f80856507f45ed5be2dcefd0b868a1", func := "hornbook/hornbooklaw03.LexInts", spec := "lexInts", inPlace := ["internal/bytealg.IndexByteString", "internal/bytealg.IndexString"], named := ["hornbook/hex.kinds", "internal/bytealg.MaxLen"], apart := false, laid := [("hornbook/hex.kinds", laid_hornbook_hex_kinds)], narrowed := true }
def LexIntsUptoSaid : Prop := lexIntsUptoRow.holds Tryd.pinned (OpenSpec.upto lexIntsSpec)

/-- 'hornbooklaw03.LexPlain', WHERE WHAT IT READS IS OF BULK AT MOST 1048576: true; the input reads as it did. -/
def lexPlainUptoRow : OpenClaim := { program := "ytpobiaibkmmjpaadoor", sum := "bf1876ff3b04ab7bdf9fd523bc232aab33f80856507f45ed5be2dcefd0b868a1", func := "hornbook/hornbooklaw03.LexPlain", spec := "lexPlain", inPlace := ["internal/bytealg.IndexByteString", "internal/bytealg.IndexString"], named := ["hornbook/hex.kinds", "internal/bytealg.MaxLen"], apart := false, laid := [("hornbook/hex.kinds", laid_hornbook_hex_kinds)], narrowed := true }
def LexPlainUptoSaid : Prop := lexPlainUptoRow.holds Tryd.pinned (OpenSpec.upto lexPlainSpec)

end Rows
end Go.Proofs.YtpobiaibkmmjpaaDoor
