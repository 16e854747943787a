/-
  DERIVED. GIVEN WITH THE SEED: THE CARDS: each row of YthmdllhhmhbhbaaGreatDoorRows.lean that lists a variable, with what it lists TIED to the program's text (the seventh form; the later family's looks); each row that meets fmt, with fmt's text TOLD by the authors' own Lean function (tested against real Go, not proved from fmt's source: count such statements apart). THE CARD IS WHAT COUNTS. Prove the row's statement (the work); the ties are given (YthmdllhhmhbhbaaGreatDoorTie.lean); close each card by the builder's one call (the guide's Derived/Test/ToyasCard.lean, 'card_holds'). Laid BY PROGRAM, IN A SANDBOX (cutbox-door.mjs). By AI agents, Wed Nov 11 2026. No macro, syntax, notation, axiom, sorry.
-/
import Derived.Test.YthmdllhhmhbhbaaGreatDoorRows
import GoSem.ClaimSeven
namespace Go.Proofs.YthmdllhhmhbhbaaGreatDoor
namespace Rows

/-- THE TIED CARD OF 'notarylaw16.RightSettles'. -/
def rightSettlesCard : Claim7 := { stood := { row := rightSettlesRow, standIns := [], harness := (true, "8d80dd15dd506847b3f40093df76dfe9126df7d1431822d5aaffdd6cf2c20d97"), looks := true }, kinds := [], alts := [], laidByText := true, laidKinds := [.data, .data, .data, .sentinel, .sentinel], laidTests := true, laidLooks := .later }
def RightSettlesCardSaid : Prop := Claim7.holds Tryz.pinned (.plain (OpenSpec.ofChange rightSettlesSpec)) rightSettlesCard

/-- THE TIED CARD OF 'notarylaw16.RightLocals'. -/
def rightLocalsCard : Claim7 := { stood := { row := rightLocalsRow, standIns := [], harness := (true, "8d80dd15dd506847b3f40093df76dfe9126df7d1431822d5aaffdd6cf2c20d97"), looks := true }, kinds := [], alts := [], laidByText := true, laidKinds := [.data, .data, .data, .sentinel, .sentinel], laidTests := true, laidLooks := .later }
def RightLocalsCardSaid : Prop := Claim7.holds Tryz.pinned (.plain (OpenSpec.ofChange rightLocalsSpec)) rightLocalsCard

/-- THE SECOND FORM's CARD OF 'notarylaw16.RightSettles'. -/
def rightSettlesUptoCard : Claim7 := { stood := { row := rightSettlesUptoRow, standIns := [], harness := (true, "8d80dd15dd506847b3f40093df76dfe9126df7d1431822d5aaffdd6cf2c20d97"), looks := true }, kinds := [], alts := [], laidByText := true, laidKinds := [.data, .data, .data, .sentinel, .sentinel], laidTests := true, laidLooks := .later }
def RightSettlesUptoCardSaid : Prop := Claim7.holds Tryz.pinned (.plain (OpenSpec.upto rightSettlesSpec)) rightSettlesUptoCard

/-- THE SECOND FORM's CARD OF 'notarylaw16.RightLocals'. -/
def rightLocalsUptoCard : Claim7 := { stood := { row := rightLocalsUptoRow, standIns := [], harness := (true, "8d80dd15dd506847b3f40093df76dfe9126df7d1431822d5aaffdd6cf2c20d97"), looks := true }, kinds := [], alts := [], laidByText := true, laidKinds := [.data, .data, .data, .sentinel, .sentinel], laidTests := true, laidLooks := .later }
def RightLocalsUptoCardSaid : Prop := Claim7.holds Tryz.pinned (.plain (OpenSpec.upto rightLocalsSpec)) rightLocalsUptoCard
end Rows
end Go.Proofs.YthmdllhhmhbhbaaGreatDoor
