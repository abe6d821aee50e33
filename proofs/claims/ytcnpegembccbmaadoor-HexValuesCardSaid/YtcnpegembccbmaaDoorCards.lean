/-
  DERIVED. GIVEN WITH THE SEED: THE CARDS: each row of YtcnpegembccbmaaDoorRows.lean that lists a variable, with what it lists TIED to the program's text (the seventh form; the later family's looks); each row that meets fmt, with fmt's text TOLD by the authors' own Lean function (tested against real Go, not proved from fmt's source: count such statements apart). THE CARD IS WHAT COUNTS. Prove the row's statement (the work); the ties are given (YtcnpegembccbmaaDoorTie.lean); close each card by the builder's one call (the guide's Derived/Test/ToyasCard.lean, 'card_holds'). Laid BY PROGRAM, IN A SANDBOX (cutbox-door.mjs). By AI agents, Wed Nov 11 2026. No macro, syntax, notation, axiom, sorry.
-/
import Derived.Test.YtcnpegembccbmaaDoorRows
import GoSem.ClaimSeven
namespace Go.Proofs.YtcnpegembccbmaaDoor
namespace Rows

/-- THE TIED CARD OF 'hornbooklaw01.HexIs'. -/
def hexIsCard : Claim7 := { stood := { row := hexIsRow, standIns := [], harness := (true, "0590fd4860c7478670452be22d4f6b3293a03e4bce2352c3caf9da798793837d"), looks := false }, kinds := [], alts := [], laidByText := true, laidKinds := [.data], laidTests := true, laidLooks := .later }
def HexIsCardSaid : Prop := Claim7.holds Tryd.pinned (.plain (OpenSpec.ofChange hexIsSpec)) hexIsCard

/-- THE TIED CARD OF 'hornbooklaw01.HexCodes'. -/
def hexCodesCard : Claim7 := { stood := { row := hexCodesRow, standIns := [], harness := (true, "0590fd4860c7478670452be22d4f6b3293a03e4bce2352c3caf9da798793837d"), looks := false }, kinds := [], alts := [], laidByText := true, laidKinds := [.data], laidTests := true, laidLooks := .later }
def HexCodesCardSaid : Prop := Claim7.holds Tryd.pinned (.plain (OpenSpec.ofChange hexCodesSpec)) hexCodesCard

/-- THE TIED CARD OF 'hornbooklaw01.HexBack'. -/
def hexBackCard : Claim7 := { stood := { row := hexBackRow, standIns := [], harness := (true, "0590fd4860c7478670452be22d4f6b3293a03e4bce2352c3caf9da798793837d"), looks := false }, kinds := [], alts := [], laidByText := true, laidKinds := [.data], laidTests := true, laidLooks := .later }
def HexBackCardSaid : Prop := Claim7.holds Tryd.pinned (.plain (OpenSpec.ofChange hexBackSpec)) hexBackCard

/-- THE TIED CARD OF 'hornbooklaw01.HexValues'. -/
def hexValuesCard : Claim7 := { stood := { row := hexValuesRow, standIns := [], harness := (true, "0590fd4860c7478670452be22d4f6b3293a03e4bce2352c3caf9da798793837d"), looks := false }, kinds := [], alts := [], laidByText := true, laidKinds := [.data], laidTests := true, laidLooks := .later }
def HexValuesCardSaid : Prop := Claim7.holds Tryd.pinned (.plain (OpenSpec.ofChange hexValuesSpec)) hexValuesCard

/-- THE TIED CARD OF 'hornbooklaw01.HexBad'. -/
def hexBadCard : Claim7 := { stood := { row := hexBadRow, standIns := [], harness := (true, "0590fd4860c7478670452be22d4f6b3293a03e4bce2352c3caf9da798793837d"), looks := false }, kinds := [], alts := [], laidByText := true, laidKinds := [.data], laidTests := true, laidLooks := .later }
def HexBadCardSaid : Prop := Claim7.holds Tryd.pinned (.plain (OpenSpec.ofChange hexBadSpec)) hexBadCard

/-- THE TIED CARD OF 'hornbooklaw01.HexRows'. -/
def hexRowsCard : Claim7 := { stood := { row := hexRowsRow, standIns := [], harness := (true, "0590fd4860c7478670452be22d4f6b3293a03e4bce2352c3caf9da798793837d"), looks := false }, kinds := [], alts := [], laidByText := true, laidKinds := [.data], laidTests := true, laidLooks := .later }
def HexRowsCardSaid : Prop := Claim7.holds Tryd.pinned (.plain (OpenSpec.ofChange hexRowsSpec)) hexRowsCard

/-- THE TIED CARD OF 'hornbooklaw01.HexTexts'. -/
def hexTextsCard : Claim7 := { stood := { row := hexTextsRow, standIns := [], harness := (true, "0590fd4860c7478670452be22d4f6b3293a03e4bce2352c3caf9da798793837d"), looks := false }, kinds := [], alts := [], laidByText := true, laidKinds := [.data], laidTests := true, laidLooks := .later }
def HexTextsCardSaid : Prop := Claim7.holds Tryd.pinned (.plain (OpenSpec.ofChange hexTextsSpec)) hexTextsCard

/-- THE SECOND FORM's CARD OF 'hornbooklaw01.HexIs'. -/
def hexIsUptoCard : Claim7 := { stood := { row := hexIsUptoRow, standIns := [], harness := (true, "0590fd4860c7478670452be22d4f6b3293a03e4bce2352c3caf9da798793837d"), looks := false }, kinds := [], alts := [], laidByText := true, laidKinds := [.data], laidTests := true, laidLooks := .later }
def HexIsUptoCardSaid : Prop := Claim7.holds Tryd.pinned (.plain (OpenSpec.upto hexIsSpec)) hexIsUptoCard

/-- THE SECOND FORM's CARD OF 'hornbooklaw01.HexCodes'. -/
def hexCodesUptoCard : Claim7 := { stood := { row := hexCodesUptoRow, standIns := [], harness := (true, "0590fd4860c7478670452be22d4f6b3293a03e4bce2352c3caf9da798793837d"), looks := false }, kinds := [], alts := [], laidByText := true, laidKinds := [.data], laidTests := true, laidLooks := .later }
def HexCodesUptoCardSaid : Prop := Claim7.holds Tryd.pinned (.plain (OpenSpec.upto hexCodesSpec)) hexCodesUptoCard

/-- THE SECOND FORM's CARD OF 'hornbooklaw01.HexBack'. -/
def hexBackUptoCard : Claim7 := { stood := { row := hexBackUptoRow, standIns := [], harness := (true, "0590fd4860c7478670452be22d4f6b3293a03e4bce2352c3caf9da798793837d"), looks := false }, kinds := [], alts := [], laidByText := true, laidKinds := [.data], laidTests := true, laidLooks := .later }
def HexBackUptoCardSaid : Prop := Claim7.holds Tryd.pinned (.plain (OpenSpec.upto hexBackSpec)) hexBackUptoCard

/-- THE SECOND FORM's CARD OF 'hornbooklaw01.HexValues'. -/
def hexValuesUptoCard : Claim7 := { stood := { row := hexValuesUptoRow, standIns := [], harness := (true, "0590fd4860c7478670452be22d4f6b3293a03e4bce2352c3caf9da798793837d"), looks := false }, kinds := [], alts := [], laidByText := true, laidKinds := [.data], laidTests := true, laidLooks := .later }
def HexValuesUptoCardSaid : Prop := Claim7.holds Tryd.pinned (.plain (OpenSpec.upto hexValuesSpec)) hexValuesUptoCard

/-- THE SECOND FORM's CARD OF 'hornbooklaw01.HexBad'. -/
def hexBadUptoCard : Claim7 := { stood := { row := hexBadUptoRow, standIns := [], harness := (true, "0590fd4860c7478670452be22d4f6b3293a03e4bce2352c3caf9da798793837d"), looks := false }, kinds := [], alts := [], laidByText := true, laidKinds := [.data], laidTests := true, laidLooks := .later }
def HexBadUptoCardSaid : Prop := Claim7.holds Tryd.pinned (.plain (OpenSpec.upto hexBadSpec)) hexBadUptoCard

/-- THE SECOND FORM's CARD OF 'hornbooklaw01.HexRows'. -/
def hexRowsUptoCard : Claim7 := { stood := { row := hexRowsUptoRow, standIns := [], harness := (true, "0590fd4860c7478670452be22d4f6b3293a03e4bce2352c3caf9da798793837d"), looks := false }, kinds := [], alts := [], laidByText := true, laidKinds := [.data], laidTests := true, laidLooks := .later }
def HexRowsUptoCardSaid : Prop := Claim7.holds Tryd.pinned (.plain (OpenSpec.upto hexRowsSpec)) hexRowsUptoCard

/-- THE SECOND FORM's CARD OF 'hornbooklaw01.HexTexts'. -/
def hexTextsUptoCard : Claim7 := { stood := { row := hexTextsUptoRow, standIns := [], harness := (true, "0590fd4860c7478670452be22d4f6b3293a03e4bce2352c3caf9da798793837d"), looks := false }, kinds := [], alts := [], laidByText := true, laidKinds := [.data], laidTests := true, laidLooks := .later }
def HexTextsUptoCardSaid : Prop := Claim7.holds Tryd.pinned (.plain (OpenSpec.upto hexTextsSpec)) hexTextsUptoCard
end Rows
end Go.Proofs.YtcnpegembccbmaaDoor
