/-
  DERIVED. GIVEN WITH THE SEED: THE CARDS: each row of YtbbkmijkllgfaaaGreatDoorRows.lean that lists a variable, with what it lists TIED to the program's text (the seventh form; the later family's looks); each row that meets fmt, with fmt's text TOLD by the authors' own Lean function (tested against real Go, not proved from fmt's source: count such statements apart). THE CARD IS WHAT COUNTS. Prove the row's statement (the work); the ties are given (YtbbkmijkllgfaaaGreatDoorTie.lean); close each card by the builder's one call (the guide's Derived/Test/ToyasCard.lean, 'card_holds'). Laid BY PROGRAM, IN A SANDBOX (cutbox-door.mjs). By AI agents, Wed Nov 11 2026. No macro, syntax, notation, axiom, sorry.
-/
import Derived.Test.YtbbkmijkllgfaaaGreatDoorRows
import GoSem.ClaimSeven
namespace Go.Proofs.YtbbkmijkllgfaaaGreatDoor
namespace Rows

/-- THE TIED CARD OF 'notarylaw16.RightLocals'. -/
def rightLocalsCard : Claim7 := { stood := { row := rightLocalsRow, standIns := [], harness := (true, "dc549edcc52ea9a2c1009dfe83f075ea643cce8ae0902435b91b29e822810a4a"), looks := true }, kinds := [], alts := [], laidByText := true, laidKinds := [.data, .data, .data, .sentinel, .sentinel], laidTests := true, laidLooks := .later }
def RightLocalsCardSaid : Prop := Claim7.holds Tryz.pinned (.plain (OpenSpec.ofChange rightLocalsSpec)) rightLocalsCard

/-- THE SECOND FORM's CARD OF 'notarylaw16.RightLocals'. -/
def rightLocalsUptoCard : Claim7 := { stood := { row := rightLocalsUptoRow, standIns := [], harness := (true, "dc549edcc52ea9a2c1009dfe83f075ea643cce8ae0902435b91b29e822810a4a"), looks := true }, kinds := [], alts := [], laidByText := true, laidKinds := [.data, .data, .data, .sentinel, .sentinel], laidTests := true, laidLooks := .later }
def RightLocalsUptoCardSaid : Prop := Claim7.holds Tryz.pinned (.plain (OpenSpec.upto rightLocalsSpec)) rightLocalsUptoCard
end Rows
end Go.Proofs.YtbbkmijkllgfaaaGreatDoor
