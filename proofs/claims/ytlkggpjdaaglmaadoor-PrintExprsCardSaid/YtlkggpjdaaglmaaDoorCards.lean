/-
  DERIVED. GIVEN WITH THE SEED: THE CARDS: each row of YtlkggpjdaaglmaaDoorRows.lean that lists a variable, with what it lists TIED to the program's text (the seventh form; the later family's looks); each row that meets fmt, with fmt's text TOLD by the authors' own Lean function (tested against real Go, not proved from fmt's source: count such statements apart). THE CARD IS WHAT COUNTS. Prove the row's statement (the work); the ties are given (YtlkggpjdaaglmaaDoorTie.lean); close each card by the builder's one call (the guide's Derived/Test/ToyasCard.lean, 'card_holds'). Laid BY PROGRAM, IN A SANDBOX (cutbox-door.mjs). By AI agents, Wed Nov 11 2026. No macro, syntax, notation, axiom, sorry.
-/
import Derived.Test.YtlkggpjdaaglmaaDoorRows
import GoSem.ClaimSeven
namespace Go.Proofs.YtlkggpjdaaglmaaDoor
namespace Rows

/-- THE TIED CARD OF 'notarylaw22.LinkAgrees'. -/
def linkAgreesCard : Claim7 := { stood := { row := linkAgreesRow, standIns := [], harness := (true, "d067d997b4d6e439efc12ea21be2a0c25342493dc81567292c3aa83420088bab"), looks := true }, kinds := [], alts := [], laidByText := true, laidKinds := [.data, .data, .data, .sentinel, .sentinel], laidTests := true, laidLooks := .later }
def LinkAgreesCardSaid : Prop := Claim7.holds Tryd.pinned (.plain (OpenSpec.ofChange linkAgreesSpec)) linkAgreesCard

/-- THE TIED CARD OF 'notarylaw22.LinkRenames'. -/
def linkRenamesCard : Claim7 := { stood := { row := linkRenamesRow, standIns := [], harness := (true, "d067d997b4d6e439efc12ea21be2a0c25342493dc81567292c3aa83420088bab"), looks := true }, kinds := [], alts := [], laidByText := true, laidKinds := [.data, .data, .data, .sentinel, .sentinel], laidTests := true, laidLooks := .later }
def LinkRenamesCardSaid : Prop := Claim7.holds Tryd.pinned (.plain (OpenSpec.ofChange linkRenamesSpec)) linkRenamesCard

/-- THE TIED CARD OF 'notarylaw10.PrintExprs'. -/
def printExprsCard : Claim7 := { stood := { row := printExprsRow, standIns := [], harness := (true, "d067d997b4d6e439efc12ea21be2a0c25342493dc81567292c3aa83420088bab"), looks := true }, kinds := [], alts := [], laidByText := true, laidKinds := [.data, .data, .data], laidTests := true, laidLooks := .later }
def PrintExprsCardSaid : Prop := Claim7.holds Tryd.pinned (.plain (OpenSpec.ofChange printExprsSpec)) printExprsCard

/-- THE SECOND FORM's CARD OF 'notarylaw22.LinkAgrees'. -/
def linkAgreesUptoCard : Claim7 := { stood := { row := linkAgreesUptoRow, standIns := [], harness := (true, "d067d997b4d6e439efc12ea21be2a0c25342493dc81567292c3aa83420088bab"), looks := true }, kinds := [], alts := [], laidByText := true, laidKinds := [.data, .data, .data, .sentinel, .sentinel], laidTests := true, laidLooks := .later }
def LinkAgreesUptoCardSaid : Prop := Claim7.holds Tryd.pinned (.plain (OpenSpec.upto linkAgreesSpec)) linkAgreesUptoCard

/-- THE SECOND FORM's CARD OF 'notarylaw22.LinkRenames'. -/
def linkRenamesUptoCard : Claim7 := { stood := { row := linkRenamesUptoRow, standIns := [], harness := (true, "d067d997b4d6e439efc12ea21be2a0c25342493dc81567292c3aa83420088bab"), looks := true }, kinds := [], alts := [], laidByText := true, laidKinds := [.data, .data, .data, .sentinel, .sentinel], laidTests := true, laidLooks := .later }
def LinkRenamesUptoCardSaid : Prop := Claim7.holds Tryd.pinned (.plain (OpenSpec.upto linkRenamesSpec)) linkRenamesUptoCard

/-- THE SECOND FORM's CARD OF 'notarylaw10.PrintExprs'. -/
def printExprsUptoCard : Claim7 := { stood := { row := printExprsUptoRow, standIns := [], harness := (true, "d067d997b4d6e439efc12ea21be2a0c25342493dc81567292c3aa83420088bab"), looks := true }, kinds := [], alts := [], laidByText := true, laidKinds := [.data, .data, .data], laidTests := true, laidLooks := .later }
def PrintExprsUptoCardSaid : Prop := Claim7.holds Tryd.pinned (.plain (OpenSpec.upto printExprsSpec)) printExprsUptoCard
end Rows
end Go.Proofs.YtlkggpjdaaglmaaDoor
