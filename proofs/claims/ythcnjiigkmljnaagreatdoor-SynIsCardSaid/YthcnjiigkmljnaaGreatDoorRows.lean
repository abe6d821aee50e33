/-
  NARROWER THAN 'FOR EVERY INPUT', by the rows' own cells (each row's printed sentence says how): SynIs: laid · SynReads: laid.
  DERIVED. THE GIVEN ROWS OF THIS SEAT. 2 by the template 'for every input the law returns true; each argument reads behind the call as it read before'; 0 by the template 'total and deterministic' (their statements: YthcnjiigkmljnaaGreatDoorTotals.lean).
  GIVEN WITH THE SEED: the statements are not yours to turn. If you find one false, say at which input.
  Laid BY PROGRAM, IN A SANDBOX (cutbox-rows.mjs): the forced cells as the released guide's own fill.sh prints them over the translation fece929b2907a0a6… (all of the seat's roots in one cut). By AI agents, Wed Nov 11 2026. No macro, syntax, notation, axiom, sorry.
-/
import Derived.Test.YthcnjiigkmljnaaGreatDoorChecked
import GoSem.Claim
import GoSem.ClaimJoined
import GoSem.ClaimMapViews
import Derived.JoinedTies
import Derived.KernelRfl
namespace Go.Proofs.YthcnjiigkmljnaaGreatDoor
/- THE CELL 'sum', in the pinned program and in every row, IS THE sha256 OF THE DUMP (.gsa) THAT YthcnjiigkmljnaaGreatDoorProg.lean LOADS. Nothing in Lean hashes anything: it is a label: what it is worth is what the hold of that sum in a sandbox is worth. -/
noncomputable def Tryz.pinned : Pinned := { name := "ythcnjiigkmljnaagreatdoor", sum := "fece929b2907a0a681c8e14a3b193dffa492bbfa54a82fa63e2dc707fee07b7e", checked := Tryz.checked }
namespace Rows
def none {H : Type} : Left H := { results := [], args := [] }

/- WHAT THE LISTED PACKAGE-LEVEL VARIABLES READ AS WHEN THE CALL BEGINS. Each datum BY PROGRAM (the guide's laid-datum.mjs) off the statement by which the dump's own 'gosem.cut.vars' lays the variable. In a bare row this is a premise. The card (YthcnjiigkmljnaaGreatDoorCards.lean) ties it to the program's text. -/
def laid_hornbook_hex_kinds {H : Type} : DataW H := .agg [.lit (.int .u8 1), .lit (.int .u8 0), .lit (.int .u8 0), .lit (.int .u8 0), .lit (.int .u8 0), .lit (.int .u8 0), .lit (.int .u8 0), .lit (.int .u8 0), .lit (.int .u8 0), .lit (.int .u8 1), .lit (.int .u8 1), .lit (.int .u8 0), .lit (.int .u8 1), .lit (.int .u8 1), .lit (.int .u8 0), .lit (.int .u8 0), .lit (.int .u8 0), .lit (.int .u8 0), .lit (.int .u8 0), .lit (.int .u8 0), .lit (.int .u8 0), .lit (.int .u8 0), .lit (.int .u8 0), .lit (.int .u8 0), .lit (.int .u8 0), .lit (.int .u8 0), .lit (.int .u8 0), .lit (.int .u8 0), .lit (.int .u8 0), .lit (.int .u8 0), .lit (.int .u8 0), .lit (.int .u8 0), .lit (.int .u8 1), .lit (.int .u8 0), .lit (.int .u8 0), .lit (.int .u8 0), .lit (.int .u8 0), .lit (.int .u8 0), .lit (.int .u8 0), .lit (.int .u8 0), .lit (.int .u8 0), .lit (.int .u8 0), .lit (.int .u8 0), .lit (.int .u8 0), .lit (.int .u8 0), .lit (.int .u8 0), .lit (.int .u8 0), .lit (.int .u8 0), .lit (.int .u8 2), .lit (.int .u8 3), .lit (.int .u8 4), .lit (.int .u8 5), .lit (.int .u8 6), .lit (.int .u8 7), .lit (.int .u8 8), .lit (.int .u8 9), .lit (.int .u8 10), .lit (.int .u8 11), .lit (.int .u8 0), .lit (.int .u8 0), .lit (.int .u8 0), .lit (.int .u8 0), .lit (.int .u8 0), .lit (.int .u8 0), .lit (.int .u8 0), .lit (.int .u8 12), .lit (.int .u8 13), .lit (.int .u8 14), .lit (.int .u8 15), .lit (.int .u8 16), .lit (.int .u8 17), .lit (.int .u8 0), .lit (.int .u8 0), .lit (.int .u8 0), .lit (.int .u8 0), .lit (.int .u8 0), .lit (.int .u8 0), .lit (.int .u8 0), .lit (.int .u8 0), .lit (.int .u8 0), .lit (.int .u8 0), .lit (.int .u8 0), .lit (.int .u8 0), .lit (.int .u8 0), .lit (.int .u8 0), .lit (.int .u8 0), .lit (.int .u8 0), .lit (.int .u8 0), .lit (.int .u8 0), .lit (.int .u8 0), .lit (.int .u8 0), .lit (.int .u8 0), .lit (.int .u8 0), .lit (.int .u8 0), .lit (.int .u8 0), .lit (.int .u8 0), .lit (.int .u8 0), .lit (.int .u8 12), .lit (.int .u8 13), .lit (.int .u8 14), .lit (.int .u8 15), .lit (.int .u8 16), .lit (.int .u8 17)]
def laid_hornbook_tok_marks {H : Type} : DataW H := .agg [.lit (.string []), .lit (.string []), .lit (.string []), .lit (.string []), .lit (.string []), .lit (.string []), .lit (.string [91]), .lit (.string [93]), .lit (.string [60, 60]), .lit (.string [62, 62]), .lit (.string [123]), .lit (.string [125])]
def laid_hornbook_syn_sections {H : Type} : DataW H := .agg [.lit (.string []), .lit (.string []), .lit (.string [99, 111, 100, 101, 115, 112, 97, 99, 101, 114, 97, 110, 103, 101]), .lit (.string [99, 105, 100, 114, 97, 110, 103, 101]), .lit (.string [99, 105, 100, 99, 104, 97, 114]), .lit (.string [110, 111, 116, 100, 101, 102, 114, 97, 110, 103, 101]), .lit (.string [110, 111, 116, 100, 101, 102, 99, 104, 97, 114]), .lit (.string [98, 102, 114, 97, 110, 103, 101]), .lit (.string [98, 102, 99, 104, 97, 114])]

/-- 'hornbooklaw05.SynIs': WHATEVER THE INPUT: true; the input reads as it did. -/
def synIsSpec : ChangeSpec := { name := "synIs", fn := fun _ => fun
  | [d1, d2, d3] => { results := [.lit (.bool true)], args := [d1, d2, d3] }
  | _ => none }
def synIsRow : OpenClaim := { program := "ythcnjiigkmljnaagreatdoor", sum := "fece929b2907a0a681c8e14a3b193dffa492bbfa54a82fa63e2dc707fee07b7e", func := "hornbook/hornbooklaw05.SynIs", spec := "synIs", inPlace := ["internal/bytealg.IndexByteString", "internal/bytealg.IndexString"], unfollowed := true, recurses := true, named := ["hornbook/tok.marks", "hornbook/hex.kinds", "internal/bytealg.MaxLen", "hornbook/syn.sections"], apart := false, laid := [("hornbook/hex.kinds", laid_hornbook_hex_kinds), ("hornbook/tok.marks", laid_hornbook_tok_marks), ("hornbook/syn.sections", laid_hornbook_syn_sections)] }
def SynIsSaid : Prop := synIsRow.holds Tryz.pinned (OpenSpec.ofChange synIsSpec)

/-- ITS FALSE NEIGHBOUR: 'it returns false'. Refute it at one input. -/
def synIsWrong : ChangeSpec := { name := "synIs", fn := fun _ => fun
  | [d1, d2, d3] => { results := [.lit (.bool false)], args := [d1, d2, d3] }
  | _ => none }
def SynIsWrongFalsely : Prop := synIsRow.holds Tryz.pinned (OpenSpec.ofChange synIsWrong)

/-- 'hornbooklaw05.SynReads': WHATEVER THE INPUT: true; the input reads as it did. -/
def synReadsSpec : ChangeSpec := { name := "synReads", fn := fun _ => fun
  | [d] => { results := [.lit (.bool true)], args := [d] }
  | _ => none }
def synReadsRow : OpenClaim := { program := "ythcnjiigkmljnaagreatdoor", sum := "fece929b2907a0a681c8e14a3b193dffa492bbfa54a82fa63e2dc707fee07b7e", func := "hornbook/hornbooklaw05.SynReads", spec := "synReads", inPlace := ["internal/bytealg.IndexByteString", "internal/bytealg.IndexString"], unfollowed := true, recurses := true, named := ["hornbook/tok.marks", "hornbook/hex.kinds", "internal/bytealg.MaxLen", "hornbook/syn.sections"], apart := false, laid := [("hornbook/hex.kinds", laid_hornbook_hex_kinds), ("hornbook/tok.marks", laid_hornbook_tok_marks), ("hornbook/syn.sections", laid_hornbook_syn_sections)] }
def SynReadsSaid : Prop := synReadsRow.holds Tryz.pinned (OpenSpec.ofChange synReadsSpec)

/-- ITS FALSE NEIGHBOUR: 'it returns false'. Refute it at one input. -/
def synReadsWrong : ChangeSpec := { name := "synReads", fn := fun _ => fun
  | [d] => { results := [.lit (.bool false)], args := [d] }
  | _ => none }
def SynReadsWrongFalsely : Prop := synReadsRow.holds Tryz.pinned (OpenSpec.ofChange synReadsWrong)

/- THE SECOND FORM. 'bulk': how many values and letters a reading holds, each counted each time it is reached (what is shared counts as often as it is met; a slice's spare places count too). A statement '..UptoSaid' is the law's where the arguments, and the package variables that the reading takes, are together of bulk at most 1048576: NARROWER than '..Said'. Prove '..Said' where nothing that the law and all that it calls make is longer than what came in: it says more and counts as full. Else prove '..UptoSaid'. A law counts once. -/
mutual
def uptoBulk {H : Type} : DataW H → Nat
  | .lit (.string bytes) => bytes.length + 1
  | .lit _ => 1
  | .nil => 1
  | .ptr d => uptoBulk d + 1
  | .slice elems spare => uptoBulkAll elems + uptoBulkAll spare + 1
  | .agg parts => uptoBulkAll parts + 1
  | .iface _ d => uptoBulk d + 1
  | .map entries => uptoBulkEntries entries + 1
  | .held _ => 1
def uptoBulkAll {H : Type} : List (DataW H) → Nat
  | [] => 0
  | d :: r => uptoBulk d + uptoBulkAll r
def uptoBulkEntries {H : Type} : List (Lit × DataW H) → Nat
  | [] => 0
  | x :: r => uptoBulkEntry x + uptoBulkEntries r
def uptoBulkEntry {H : Type} : Lit × DataW H → Nat
  | (.string bytes, d) => bytes.length + uptoBulk d + 1
  | (_, d) => uptoBulk d + 1
 end
def uptoSmall : (H : Type) → List (DataW H) → Bool := fun _ ds => decide (uptoBulkAll ds ≤ 1048576)
def OpenSpec.upto (s : _root_.Go.ChangeSpec) : _root_.Go.OpenSpec := { _root_.Go.OpenSpec.ofChange s with cond := some uptoSmall }

/-- 'hornbooklaw05.SynIs', WHERE WHAT IT READS IS OF BULK AT MOST 1048576: true; the input reads as it did. -/
def synIsUptoRow : OpenClaim := { program := "ythcnjiigkmljnaagreatdoor", sum := "fece929b2907a0a681c8e14a3b193dffa492bbfa54a82fa63e2dc707fee07b7e", func := "hornbook/hornbooklaw05.SynIs", spec := "synIs", inPlace := ["internal/bytealg.IndexByteString", "internal/bytealg.IndexString"], unfollowed := true, recurses := true, named := ["hornbook/tok.marks", "hornbook/hex.kinds", "internal/bytealg.MaxLen", "hornbook/syn.sections"], apart := false, laid := [("hornbook/hex.kinds", laid_hornbook_hex_kinds), ("hornbook/tok.marks", laid_hornbook_tok_marks), ("hornbook/syn.sections", laid_hornbook_syn_sections)], narrowed := true }
def SynIsUptoSaid : Prop := synIsUptoRow.holds Tryz.pinned (OpenSpec.upto synIsSpec)

/-- 'hornbooklaw05.SynReads', WHERE WHAT IT READS IS OF BULK AT MOST 1048576: true; the input reads as it did. -/
def synReadsUptoRow : OpenClaim := { program := "ythcnjiigkmljnaagreatdoor", sum := "fece929b2907a0a681c8e14a3b193dffa492bbfa54a82fa63e2dc707fee07b7e", func := "hornbook/hornbooklaw05.SynReads", spec := "synReads", inPlace := ["internal/bytealg.IndexByteString", "internal/bytealg.IndexString"], unfollowed := true, recurses := true, named := ["hornbook/tok.marks", "hornbook/hex.kinds", "internal/bytealg.MaxLen", "hornbook/syn.sections"], apart := false, laid := [("hornbook/hex.kinds", laid_hornbook_hex_kinds), ("hornbook/tok.marks", laid_hornbook_tok_marks), ("hornbook/syn.sections", laid_hornbook_syn_sections)], narrowed := true }
def SynReadsUptoSaid : Prop := synReadsUptoRow.holds Tryz.pinned (OpenSpec.upto synReadsSpec)

end Rows
end Go.Proofs.YthcnjiigkmljnaaGreatDoor
