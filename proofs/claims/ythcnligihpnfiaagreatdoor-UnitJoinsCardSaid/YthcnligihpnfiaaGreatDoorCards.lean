/-
  DERIVED. GIVEN WITH THE SEED: THE CARDS: each row of YthcnligihpnfiaaGreatDoorRows.lean that lists a variable, with what it lists TIED to the program's text (the seventh form; the later family's looks); each row that meets fmt, with fmt's text TOLD by the authors' own Lean function (tested against real Go, not proved from fmt's source: count such statements apart). THE CARD IS WHAT COUNTS. Prove the row's statement (the work); the ties are given (YthcnligihpnfiaaGreatDoorTie.lean); close each card by the builder's one call (the guide's Derived/Test/ToyasCard.lean, 'card_holds'). Laid BY PROGRAM, IN A SANDBOX (cutbox-door.mjs). By AI agents, Wed Nov 11 2026. No macro, syntax, notation, axiom, sorry.
-/
import Derived.Test.YthcnligihpnfiaaGreatDoorRows
import GoSem.ClaimSeven
namespace Go.Proofs.YthcnligihpnfiaaGreatDoor
namespace Rows

/-- THE TIED CARD OF 'notarylaw09.UnitReads'. -/
def unitReadsCard : Claim7 := { stood := { row := unitReadsRow, standIns := [], harness := (true, "1e8a98482017df4c829ffb7102c4a05429adfa9d4b8257340b7b55b501453062"), looks := true }, kinds := [], alts := [], laidByText := true, laidKinds := [.data, .data, .data, .sentinel, .sentinel], laidTests := true, laidLooks := .later }
def UnitReadsCardSaid : Prop := Claim7.holds Tryz.pinned (.plain (OpenSpec.ofChange unitReadsSpec)) unitReadsCard

/-- THE TIED CARD OF 'notarylaw09.UnitJoins'. -/
def unitJoinsCard : Claim7 := { stood := { row := unitJoinsRow, standIns := [], harness := (true, "1e8a98482017df4c829ffb7102c4a05429adfa9d4b8257340b7b55b501453062"), looks := true }, kinds := [], alts := [], laidByText := true, laidKinds := [.data, .data, .data, .sentinel, .sentinel], laidTests := true, laidLooks := .later }
def UnitJoinsCardSaid : Prop := Claim7.holds Tryz.pinned (.plain (OpenSpec.ofChange unitJoinsSpec)) unitJoinsCard

/-- THE TIED CARD OF 'notarylaw09.UnitPlaces'. -/
def unitPlacesCard : Claim7 := { stood := { row := unitPlacesRow, standIns := [], harness := (true, "1e8a98482017df4c829ffb7102c4a05429adfa9d4b8257340b7b55b501453062"), looks := true }, kinds := [], alts := [], laidByText := true, laidKinds := [.data, .data, .data, .sentinel, .sentinel], laidTests := true, laidLooks := .later }
def UnitPlacesCardSaid : Prop := Claim7.holds Tryz.pinned (.plain (OpenSpec.ofChange unitPlacesSpec)) unitPlacesCard

/-- THE TIED CARD OF 'notarylaw10.PrintTexts'. -/
def printTextsCard : Claim7 := { stood := { row := printTextsRow, standIns := [], harness := (true, "1e8a98482017df4c829ffb7102c4a05429adfa9d4b8257340b7b55b501453062"), looks := true }, kinds := [], alts := [], laidByText := true, laidKinds := [.data, .data, .data], laidTests := true, laidLooks := .later }
def PrintTextsCardSaid : Prop := Claim7.holds Tryz.pinned (.plain (OpenSpec.ofChange printTextsSpec)) printTextsCard

/-- THE TIED CARD OF 'notarylaw10.PrintBack'. -/
def printBackCard : Claim7 := { stood := { row := printBackRow, standIns := [], harness := (true, "1e8a98482017df4c829ffb7102c4a05429adfa9d4b8257340b7b55b501453062"), looks := true }, kinds := [], alts := [], laidByText := true, laidKinds := [.data, .data, .data, .sentinel, .sentinel], laidTests := true, laidLooks := .later }
def PrintBackCardSaid : Prop := Claim7.holds Tryz.pinned (.plain (OpenSpec.ofChange printBackSpec)) printBackCard

/-- THE SECOND FORM's CARD OF 'notarylaw09.UnitReads'. -/
def unitReadsUptoCard : Claim7 := { stood := { row := unitReadsUptoRow, standIns := [], harness := (true, "1e8a98482017df4c829ffb7102c4a05429adfa9d4b8257340b7b55b501453062"), looks := true }, kinds := [], alts := [], laidByText := true, laidKinds := [.data, .data, .data, .sentinel, .sentinel], laidTests := true, laidLooks := .later }
def UnitReadsUptoCardSaid : Prop := Claim7.holds Tryz.pinned (.plain (OpenSpec.upto unitReadsSpec)) unitReadsUptoCard

/-- THE SECOND FORM's CARD OF 'notarylaw09.UnitJoins'. -/
def unitJoinsUptoCard : Claim7 := { stood := { row := unitJoinsUptoRow, standIns := [], harness := (true, "1e8a98482017df4c829ffb7102c4a05429adfa9d4b8257340b7b55b501453062"), looks := true }, kinds := [], alts := [], laidByText := true, laidKinds := [.data, .data, .data, .sentinel, .sentinel], laidTests := true, laidLooks := .later }
def UnitJoinsUptoCardSaid : Prop := Claim7.holds Tryz.pinned (.plain (OpenSpec.upto unitJoinsSpec)) unitJoinsUptoCard

/-- THE SECOND FORM's CARD OF 'notarylaw09.UnitPlaces'. -/
def unitPlacesUptoCard : Claim7 := { stood := { row := unitPlacesUptoRow, standIns := [], harness := (true, "1e8a98482017df4c829ffb7102c4a05429adfa9d4b8257340b7b55b501453062"), looks := true }, kinds := [], alts := [], laidByText := true, laidKinds := [.data, .data, .data, .sentinel, .sentinel], laidTests := true, laidLooks := .later }
def UnitPlacesUptoCardSaid : Prop := Claim7.holds Tryz.pinned (.plain (OpenSpec.upto unitPlacesSpec)) unitPlacesUptoCard

/-- THE SECOND FORM's CARD OF 'notarylaw10.PrintTexts'. -/
def printTextsUptoCard : Claim7 := { stood := { row := printTextsUptoRow, standIns := [], harness := (true, "1e8a98482017df4c829ffb7102c4a05429adfa9d4b8257340b7b55b501453062"), looks := true }, kinds := [], alts := [], laidByText := true, laidKinds := [.data, .data, .data], laidTests := true, laidLooks := .later }
def PrintTextsUptoCardSaid : Prop := Claim7.holds Tryz.pinned (.plain (OpenSpec.upto printTextsSpec)) printTextsUptoCard

/-- THE SECOND FORM's CARD OF 'notarylaw10.PrintBack'. -/
def printBackUptoCard : Claim7 := { stood := { row := printBackUptoRow, standIns := [], harness := (true, "1e8a98482017df4c829ffb7102c4a05429adfa9d4b8257340b7b55b501453062"), looks := true }, kinds := [], alts := [], laidByText := true, laidKinds := [.data, .data, .data, .sentinel, .sentinel], laidTests := true, laidLooks := .later }
def PrintBackUptoCardSaid : Prop := Claim7.holds Tryz.pinned (.plain (OpenSpec.upto printBackSpec)) printBackUptoCard
end Rows
end Go.Proofs.YthcnligihpnfiaaGreatDoor
