/-
  DERIVED. GIVEN WITH THE SEED: THE CARDS: each row of YthcnjiigkmljnaaDoorRows.lean that lists a variable, with what it lists TIED to the program's text (the seventh form; the later family's looks); each row that meets fmt, with fmt's text TOLD by the authors' own Lean function (tested against real Go, not proved from fmt's source: count such statements apart). THE CARD IS WHAT COUNTS. Prove the row's statement (the work); the ties are given (YthcnjiigkmljnaaDoorTie.lean); close each card by the builder's one call (the guide's Derived/Test/ToyasCard.lean, 'card_holds'). Laid BY PROGRAM, IN A SANDBOX (cutbox-door.mjs). By AI agents, Wed Nov 11 2026. No macro, syntax, notation, axiom, sorry.
-/
import Derived.Test.YthcnjiigkmljnaaDoorRows
import GoSem.ClaimSeven
namespace Go.Proofs.YthcnjiigkmljnaaDoor
namespace Rows

/-- THE TIED CARD OF 'hornbooklaw05.SynSound'. -/
def synSoundCard : Claim7 := { stood := { row := synSoundRow, standIns := [], harness := (true, "de6755521e8a91829cdc1af96fe27d478a84c95aefc1f26ac080f95bbb681391"), looks := false }, kinds := [], alts := [], laidByText := true, laidKinds := [.data, .data, .data], laidTests := true, laidLooks := .later }
def SynSoundCardSaid : Prop := Claim7.holds Tryd.pinned (.plain (OpenSpec.ofChange synSoundSpec)) synSoundCard

/-- THE TIED CARD OF 'hornbooklaw05.SynCounts'. -/
def synCountsCard : Claim7 := { stood := { row := synCountsRow, standIns := [], harness := (true, "de6755521e8a91829cdc1af96fe27d478a84c95aefc1f26ac080f95bbb681391"), looks := false }, kinds := [], alts := [], laidByText := true, laidKinds := [.data, .data, .data], laidTests := true, laidLooks := .later }
def SynCountsCardSaid : Prop := Claim7.holds Tryd.pinned (.plain (OpenSpec.ofChange synCountsSpec)) synCountsCard

/-- THE TIED CARD OF 'hornbooklaw05.SynDeep'. -/
def synDeepCard : Claim7 := { stood := { row := synDeepRow, standIns := [], harness := (true, "de6755521e8a91829cdc1af96fe27d478a84c95aefc1f26ac080f95bbb681391"), looks := false }, kinds := [], alts := [], laidByText := true, laidKinds := [.data, .data, .data], laidTests := true, laidLooks := .later }
def SynDeepCardSaid : Prop := Claim7.holds Tryd.pinned (.plain (OpenSpec.ofChange synDeepSpec)) synDeepCard

/-- THE SECOND FORM's CARD OF 'hornbooklaw05.SynSound'. -/
def synSoundUptoCard : Claim7 := { stood := { row := synSoundUptoRow, standIns := [], harness := (true, "de6755521e8a91829cdc1af96fe27d478a84c95aefc1f26ac080f95bbb681391"), looks := false }, kinds := [], alts := [], laidByText := true, laidKinds := [.data, .data, .data], laidTests := true, laidLooks := .later }
def SynSoundUptoCardSaid : Prop := Claim7.holds Tryd.pinned (.plain (OpenSpec.upto synSoundSpec)) synSoundUptoCard

/-- THE SECOND FORM's CARD OF 'hornbooklaw05.SynCounts'. -/
def synCountsUptoCard : Claim7 := { stood := { row := synCountsUptoRow, standIns := [], harness := (true, "de6755521e8a91829cdc1af96fe27d478a84c95aefc1f26ac080f95bbb681391"), looks := false }, kinds := [], alts := [], laidByText := true, laidKinds := [.data, .data, .data], laidTests := true, laidLooks := .later }
def SynCountsUptoCardSaid : Prop := Claim7.holds Tryd.pinned (.plain (OpenSpec.upto synCountsSpec)) synCountsUptoCard

/-- THE SECOND FORM's CARD OF 'hornbooklaw05.SynDeep'. -/
def synDeepUptoCard : Claim7 := { stood := { row := synDeepUptoRow, standIns := [], harness := (true, "de6755521e8a91829cdc1af96fe27d478a84c95aefc1f26ac080f95bbb681391"), looks := false }, kinds := [], alts := [], laidByText := true, laidKinds := [.data, .data, .data], laidTests := true, laidLooks := .later }
def SynDeepUptoCardSaid : Prop := Claim7.holds Tryd.pinned (.plain (OpenSpec.upto synDeepSpec)) synDeepUptoCard
end Rows
end Go.Proofs.YthcnjiigkmljnaaDoor
