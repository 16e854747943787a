/-
  NARROWER THAN 'FOR EVERY INPUT', by the rows' own cells (each row's printed sentence says how): FaceNames: loops · FaceBack: loops · QuietTells: loops · DeclsMake: loops · DeclsPairs: loops · CodeTerms: loops.
  DERIVED. THE GIVEN ROWS OF THIS SEAT. 10 by the template 'for every input the law returns true; each argument reads behind the call as it read before'; 0 by the template 'total and deterministic' (their statements: YthifckknijdgfaaTotals.lean).
  GIVEN WITH THE SEED: the statements are not yours to turn. If you find one false, say at which input.
  Laid BY PROGRAM, IN A SANDBOX (cutbox-rows.mjs): the forced cells as the released guide's own fill.sh prints them over the translation 681e65e12d2fb6c3… (all of the seat's roots in one cut). By AI agents, Wed Nov 11 2026. No macro, syntax, notation, axiom, sorry.
-/
import Derived.Test.YthifckknijdgfaaChecked
import GoSem.Claim
import GoSem.ClaimJoined
import GoSem.ClaimMapViews
import Derived.JoinedTies
import Derived.KernelRfl
namespace Go.Proofs.Ythifckknijdgfaa
/- THE CELL 'sum', in the pinned program and in every row, IS THE sha256 OF THE DUMP (.gsa) THAT YthifckknijdgfaaProg.lean LOADS. Nothing in Lean hashes anything: it is a label: what it is worth is what the hold of that sum in a sandbox is worth. -/
noncomputable def Try.pinned : Pinned := { name := "ythifckknijdgfaa", sum := "681e65e12d2fb6c32575d9469de8768ac987d993db688ea0af7c49573b8a3914", checked := Try.checked }
namespace Rows
def none {H : Type} : Left H := { results := [], args := [] }

/-- 'notarylaw07.ExprReads': WHATEVER THE INPUT: true; the input reads as it did. -/
def exprReadsSpec : ChangeSpec := { name := "exprReads", fn := fun _ => fun
  | [d1, d2] => { results := [.lit (.bool true)], args := [d1, d2] }
  | _ => none }
def exprReadsRow : OpenClaim := { program := "ythifckknijdgfaa", sum := "681e65e12d2fb6c32575d9469de8768ac987d993db688ea0af7c49573b8a3914", func := "notary/notarylaw07.ExprReads", spec := "exprReads", unfollowed := true, recurses := true, apart := false }
def ExprReadsSaid : Prop := exprReadsRow.holds Try.pinned (OpenSpec.ofChange exprReadsSpec)

/-- ITS FALSE NEIGHBOUR: 'it returns false'. Refute it at one input. -/
def exprReadsWrong : ChangeSpec := { name := "exprReads", fn := fun _ => fun
  | [d1, d2] => { results := [.lit (.bool false)], args := [d1, d2] }
  | _ => none }
def ExprReadsWrongFalsely : Prop := exprReadsRow.holds Try.pinned (OpenSpec.ofChange exprReadsWrong)

/-- 'notarylaw07.ExprTypes': WHATEVER THE INPUT: true; the input reads as it did. -/
def exprTypesSpec : ChangeSpec := { name := "exprTypes", fn := fun _ => fun
  | [d1, d2] => { results := [.lit (.bool true)], args := [d1, d2] }
  | _ => none }
def exprTypesRow : OpenClaim := { program := "ythifckknijdgfaa", sum := "681e65e12d2fb6c32575d9469de8768ac987d993db688ea0af7c49573b8a3914", func := "notary/notarylaw07.ExprTypes", spec := "exprTypes", unfollowed := true, recurses := true, apart := false }
def ExprTypesSaid : Prop := exprTypesRow.holds Try.pinned (OpenSpec.ofChange exprTypesSpec)

/-- ITS FALSE NEIGHBOUR: 'it returns false'. Refute it at one input. -/
def exprTypesWrong : ChangeSpec := { name := "exprTypes", fn := fun _ => fun
  | [d1, d2] => { results := [.lit (.bool false)], args := [d1, d2] }
  | _ => none }
def ExprTypesWrongFalsely : Prop := exprTypesRow.holds Try.pinned (OpenSpec.ofChange exprTypesWrong)

/-- 'notarylaw07.ExprPlaces': WHATEVER THE INPUT: true; the input reads as it did. -/
def exprPlacesSpec : ChangeSpec := { name := "exprPlaces", fn := fun _ => fun
  | [d] => { results := [.lit (.bool true)], args := [d] }
  | _ => none }
def exprPlacesRow : OpenClaim := { program := "ythifckknijdgfaa", sum := "681e65e12d2fb6c32575d9469de8768ac987d993db688ea0af7c49573b8a3914", func := "notary/notarylaw07.ExprPlaces", spec := "exprPlaces", unfollowed := true, recurses := true, apart := false }
def ExprPlacesSaid : Prop := exprPlacesRow.holds Try.pinned (OpenSpec.ofChange exprPlacesSpec)

/-- ITS FALSE NEIGHBOUR: 'it returns false'. Refute it at one input. -/
def exprPlacesWrong : ChangeSpec := { name := "exprPlaces", fn := fun _ => fun
  | [d] => { results := [.lit (.bool false)], args := [d] }
  | _ => none }
def ExprPlacesWrongFalsely : Prop := exprPlacesRow.holds Try.pinned (OpenSpec.ofChange exprPlacesWrong)

/-- 'notarylaw07.ExprApart': WHATEVER THE INPUT: true; the input reads as it did. -/
def exprApartSpec : ChangeSpec := { name := "exprApart", fn := fun _ => fun
  | [d1, d2, d3] => { results := [.lit (.bool true)], args := [d1, d2, d3] }
  | _ => none }
def exprApartRow : OpenClaim := { program := "ythifckknijdgfaa", sum := "681e65e12d2fb6c32575d9469de8768ac987d993db688ea0af7c49573b8a3914", func := "notary/notarylaw07.ExprApart", spec := "exprApart", unfollowed := true, recurses := true, apart := false }
def ExprApartSaid : Prop := exprApartRow.holds Try.pinned (OpenSpec.ofChange exprApartSpec)

/-- ITS FALSE NEIGHBOUR: 'it returns false'. Refute it at one input. -/
def exprApartWrong : ChangeSpec := { name := "exprApart", fn := fun _ => fun
  | [d1, d2, d3] => { results := [.lit (.bool false)], args := [d1, d2, d3] }
  | _ => none }
def ExprApartWrongFalsely : Prop := exprApartRow.holds Try.pinned (OpenSpec.ofChange exprApartWrong)

/-- 'notarylaw18.FaceNames': WHATEVER THE INPUT: true; the input reads as it did. -/
def faceNamesSpec : ChangeSpec := { name := "faceNames", fn := fun _ => fun
  | [d1, d2, d3] => { results := [.lit (.bool true)], args := [d1, d2, d3] }
  | _ => none }
def faceNamesRow : OpenClaim := { program := "ythifckknijdgfaa", sum := "681e65e12d2fb6c32575d9469de8768ac987d993db688ea0af7c49573b8a3914", func := "notary/notarylaw18.FaceNames", spec := "faceNames", unfollowed := true, recurses := true, loops := true, apart := false }
def FaceNamesSaid : Prop := faceNamesRow.holds Try.pinned (OpenSpec.ofChange faceNamesSpec)

/-- ITS FALSE NEIGHBOUR: 'it returns false'. Refute it at one input. -/
def faceNamesWrong : ChangeSpec := { name := "faceNames", fn := fun _ => fun
  | [d1, d2, d3] => { results := [.lit (.bool false)], args := [d1, d2, d3] }
  | _ => none }
def FaceNamesWrongFalsely : Prop := faceNamesRow.holds Try.pinned (OpenSpec.ofChange faceNamesWrong)

/-- 'notarylaw18.FaceBack': WHATEVER THE INPUT: true; the input reads as it did. -/
def faceBackSpec : ChangeSpec := { name := "faceBack", fn := fun _ => fun
  | [d1, d2, d3] => { results := [.lit (.bool true)], args := [d1, d2, d3] }
  | _ => none }
def faceBackRow : OpenClaim := { program := "ythifckknijdgfaa", sum := "681e65e12d2fb6c32575d9469de8768ac987d993db688ea0af7c49573b8a3914", func := "notary/notarylaw18.FaceBack", spec := "faceBack", unfollowed := true, recurses := true, loops := true, apart := false }
def FaceBackSaid : Prop := faceBackRow.holds Try.pinned (OpenSpec.ofChange faceBackSpec)

/-- ITS FALSE NEIGHBOUR: 'it returns false'. Refute it at one input. -/
def faceBackWrong : ChangeSpec := { name := "faceBack", fn := fun _ => fun
  | [d1, d2, d3] => { results := [.lit (.bool false)], args := [d1, d2, d3] }
  | _ => none }
def FaceBackWrongFalsely : Prop := faceBackRow.holds Try.pinned (OpenSpec.ofChange faceBackWrong)

/-- 'notarylaw24.QuietTells': WHATEVER THE INPUT: true; the input reads as it did. -/
def quietTellsSpec : ChangeSpec := { name := "quietTells", fn := fun _ => fun
  | [d] => { results := [.lit (.bool true)], args := [d] }
  | _ => none }
def quietTellsRow : OpenClaim := { program := "ythifckknijdgfaa", sum := "681e65e12d2fb6c32575d9469de8768ac987d993db688ea0af7c49573b8a3914", func := "notary/notarylaw24.QuietTells", spec := "quietTells", recurses := true, loops := true, apart := false }
def QuietTellsSaid : Prop := quietTellsRow.holds Try.pinned (OpenSpec.ofChange quietTellsSpec)

/-- ITS FALSE NEIGHBOUR: 'it returns false'. Refute it at one input. -/
def quietTellsWrong : ChangeSpec := { name := "quietTells", fn := fun _ => fun
  | [d] => { results := [.lit (.bool false)], args := [d] }
  | _ => none }
def QuietTellsWrongFalsely : Prop := quietTellsRow.holds Try.pinned (OpenSpec.ofChange quietTellsWrong)

/-- 'notarylaw32.DeclsMake': WHATEVER THE INPUT: true; the input reads as it did. -/
def declsMakeSpec : ChangeSpec := { name := "declsMake", fn := fun _ => fun
  | [d] => { results := [.lit (.bool true)], args := [d] }
  | _ => none }
def declsMakeRow : OpenClaim := { program := "ythifckknijdgfaa", sum := "681e65e12d2fb6c32575d9469de8768ac987d993db688ea0af7c49573b8a3914", func := "notary/notarylaw32.DeclsMake", spec := "declsMake", unfollowed := true, recurses := true, loops := true, apart := false }
def DeclsMakeSaid : Prop := declsMakeRow.holds Try.pinned (OpenSpec.ofChange declsMakeSpec)

/-- ITS FALSE NEIGHBOUR: 'it returns false'. Refute it at one input. -/
def declsMakeWrong : ChangeSpec := { name := "declsMake", fn := fun _ => fun
  | [d] => { results := [.lit (.bool false)], args := [d] }
  | _ => none }
def DeclsMakeWrongFalsely : Prop := declsMakeRow.holds Try.pinned (OpenSpec.ofChange declsMakeWrong)

/-- 'notarylaw32.DeclsPairs': WHATEVER THE INPUT: true; the input reads as it did. -/
def declsPairsSpec : ChangeSpec := { name := "declsPairs", fn := fun _ => fun
  | [d1, d2, d3] => { results := [.lit (.bool true)], args := [d1, d2, d3] }
  | _ => none }
def declsPairsRow : OpenClaim := { program := "ythifckknijdgfaa", sum := "681e65e12d2fb6c32575d9469de8768ac987d993db688ea0af7c49573b8a3914", func := "notary/notarylaw32.DeclsPairs", spec := "declsPairs", unfollowed := true, recurses := true, loops := true, apart := false }
def DeclsPairsSaid : Prop := declsPairsRow.holds Try.pinned (OpenSpec.ofChange declsPairsSpec)

/-- ITS FALSE NEIGHBOUR: 'it returns false'. Refute it at one input. -/
def declsPairsWrong : ChangeSpec := { name := "declsPairs", fn := fun _ => fun
  | [d1, d2, d3] => { results := [.lit (.bool false)], args := [d1, d2, d3] }
  | _ => none }
def DeclsPairsWrongFalsely : Prop := declsPairsRow.holds Try.pinned (OpenSpec.ofChange declsPairsWrong)

/-- 'notarylaw36.CodeTerms': WHATEVER THE INPUT: true; the input reads as it did. -/
def codeTermsSpec : ChangeSpec := { name := "codeTerms", fn := fun _ => fun
  | [d1, d2, d3] => { results := [.lit (.bool true)], args := [d1, d2, d3] }
  | _ => none }
def codeTermsRow : OpenClaim := { program := "ythifckknijdgfaa", sum := "681e65e12d2fb6c32575d9469de8768ac987d993db688ea0af7c49573b8a3914", func := "notary/notarylaw36.CodeTerms", spec := "codeTerms", unfollowed := true, recurses := true, loops := true, apart := false }
def CodeTermsSaid : Prop := codeTermsRow.holds Try.pinned (OpenSpec.ofChange codeTermsSpec)

/-- ITS FALSE NEIGHBOUR: 'it returns false'. Refute it at one input. -/
def codeTermsWrong : ChangeSpec := { name := "codeTerms", fn := fun _ => fun
  | [d1, d2, d3] => { results := [.lit (.bool false)], args := [d1, d2, d3] }
  | _ => none }
def CodeTermsWrongFalsely : Prop := codeTermsRow.holds Try.pinned (OpenSpec.ofChange codeTermsWrong)

/- THE SECOND FORM. 'bulk': how many values and letters a reading holds, each counted each time it is reached (what is shared counts as often as it is met; a slice's spare places count too). A statement '..UptoSaid' is the law's where the arguments, and the package variables that the reading takes, are together of bulk at most 1048576: NARROWER than '..Said'. Prove '..Said' where nothing that the law and all that it calls make is longer than what came in: it says more and counts as full. Else prove '..UptoSaid'. A law counts once. -/
mutual
def uptoBulk {H : Type} : DataW H → Nat
  | .lit (.string bytes) => bytes.length + 1
  | .lit _ => 1
  | .nil => 1
  | .ptr d => uptoBulk d + 1
  | .slice elems spare => uptoBulkAll elems + uptoBulkAll spare + 1
  | .agg parts => uptoBulkAll parts + 1
  | .iface _ d => uptoBulk d + 1
  | .map entries => uptoBulkEntries entries + 1
  | .held _ => 1
def uptoBulkAll {H : Type} : List (DataW H) → Nat
  | [] => 0
  | d :: r => uptoBulk d + uptoBulkAll r
def uptoBulkEntries {H : Type} : List (Lit × DataW H) → Nat
  | [] => 0
  | x :: r => uptoBulkEntry x + uptoBulkEntries r
def uptoBulkEntry {H : Type} : Lit × DataW H → Nat
  | (.string bytes, d) => bytes.length + uptoBulk d + 1
  | (_, d) => uptoBulk d + 1
 end
def uptoSmall : (H : Type) → List (DataW H) → Bool := fun _ ds => decide (uptoBulkAll ds ≤ 1048576)
def OpenSpec.upto (s : _root_.Go.ChangeSpec) : _root_.Go.OpenSpec := { _root_.Go.OpenSpec.ofChange s with cond := some uptoSmall }

/-- 'notarylaw07.ExprReads', WHERE WHAT IT READS IS OF BULK AT MOST 1048576: true; the input reads as it did. -/
def exprReadsUptoRow : OpenClaim := { program := "ythifckknijdgfaa", sum := "681e65e12d2fb6c32575d9469de8768ac987d993db688ea0af7c49573b8a3914", func := "notary/notarylaw07.ExprReads", spec := "exprReads", unfollowed := true, recurses := true, apart := false, narrowed := true }
def ExprReadsUptoSaid : Prop := exprReadsUptoRow.holds Try.pinned (OpenSpec.upto exprReadsSpec)

/-- 'notarylaw07.ExprTypes', WHERE WHAT IT READS IS OF BULK AT MOST 1048576: true; the input reads as it did. -/
def exprTypesUptoRow : OpenClaim := { program := "ythifckknijdgfaa", sum := "681e65e12d2fb6c32575d9469de8768ac987d993db688ea0af7c49573b8a3914", func := "notary/notarylaw07.ExprTypes", spec := "exprTypes", unfollowed := true, recurses := true, apart := false, narrowed := true }
def ExprTypesUptoSaid : Prop := exprTypesUptoRow.holds Try.pinned (OpenSpec.upto exprTypesSpec)

/-- 'notarylaw07.ExprPlaces', WHERE WHAT IT READS IS OF BULK AT MOST 1048576: true; the input reads as it did. -/
def exprPlacesUptoRow : OpenClaim := { program := "ythifckknijdgfaa", sum := "681e65e12d2fb6c32575d9469de8768ac987d993db688ea0af7c49573b8a3914", func := "notary/notarylaw07.ExprPlaces", spec := "exprPlaces", unfollowed := true, recurses := true, apart := false, narrowed := true }
def ExprPlacesUptoSaid : Prop := exprPlacesUptoRow.holds Try.pinned (OpenSpec.upto exprPlacesSpec)

/-- 'notarylaw07.ExprApart', WHERE WHAT IT READS IS OF BULK AT MOST 1048576: true; the input reads as it did. -/
def exprApartUptoRow : OpenClaim := { program := "ythifckknijdgfaa", sum := "681e65e12d2fb6c32575d9469de8768ac987d993db688ea0af7c49573b8a3914", func := "notary/notarylaw07.ExprApart", spec := "exprApart", unfollowed := true, recurses := true, apart := false, narrowed := true }
def ExprApartUptoSaid : Prop := exprApartUptoRow.holds Try.pinned (OpenSpec.upto exprApartSpec)

/-- 'notarylaw18.FaceNames', WHERE WHAT IT READS IS OF BULK AT MOST 1048576: true; the input reads as it did. -/
def faceNamesUptoRow : OpenClaim := { program := "ythifckknijdgfaa", sum := "681e65e12d2fb6c32575d9469de8768ac987d993db688ea0af7c49573b8a3914", func := "notary/notarylaw18.FaceNames", spec := "faceNames", unfollowed := true, recurses := true, loops := true, apart := false, narrowed := true }
def FaceNamesUptoSaid : Prop := faceNamesUptoRow.holds Try.pinned (OpenSpec.upto faceNamesSpec)

/-- 'notarylaw18.FaceBack', WHERE WHAT IT READS IS OF BULK AT MOST 1048576: true; the input reads as it did. -/
def faceBackUptoRow : OpenClaim := { program := "ythifckknijdgfaa", sum := "681e65e12d2fb6c32575d9469de8768ac987d993db688ea0af7c49573b8a3914", func := "notary/notarylaw18.FaceBack", spec := "faceBack", unfollowed := true, recurses := true, loops := true, apart := false, narrowed := true }
def FaceBackUptoSaid : Prop := faceBackUptoRow.holds Try.pinned (OpenSpec.upto faceBackSpec)

/-- 'notarylaw24.QuietTells', WHERE WHAT IT READS IS OF BULK AT MOST 1048576: true; the input reads as it did. -/
def quietTellsUptoRow : OpenClaim := { program := "ythifckknijdgfaa", sum := "681e65e12d2fb6c32575d9469de8768ac987d993db688ea0af7c49573b8a3914", func := "notary/notarylaw24.QuietTells", spec := "quietTells", recurses := true, loops := true, apart := false, narrowed := true }
def QuietTellsUptoSaid : Prop := quietTellsUptoRow.holds Try.pinned (OpenSpec.upto quietTellsSpec)

/-- 'notarylaw32.DeclsMake', WHERE WHAT IT READS IS OF BULK AT MOST 1048576: true; the input reads as it did. -/
def declsMakeUptoRow : OpenClaim := { program := "ythifckknijdgfaa", sum := "681e65e12d2fb6c32575d9469de8768ac987d993db688ea0af7c49573b8a3914", func := "notary/notarylaw32.DeclsMake", spec := "declsMake", unfollowed := true, recurses := true, loops := true, apart := false, narrowed := true }
def DeclsMakeUptoSaid : Prop := declsMakeUptoRow.holds Try.pinned (OpenSpec.upto declsMakeSpec)

/-- 'notarylaw32.DeclsPairs', WHERE WHAT IT READS IS OF BULK AT MOST 1048576: true; the input reads as it did. -/
def declsPairsUptoRow : OpenClaim := { program := "ythifckknijdgfaa", sum := "681e65e12d2fb6c32575d9469de8768ac987d993db688ea0af7c49573b8a3914", func := "notary/notarylaw32.DeclsPairs", spec := "declsPairs", unfollowed := true, recurses := true, loops := true, apart := false, narrowed := true }
def DeclsPairsUptoSaid : Prop := declsPairsUptoRow.holds Try.pinned (OpenSpec.upto declsPairsSpec)

/-- 'notarylaw36.CodeTerms', WHERE WHAT IT READS IS OF BULK AT MOST 1048576: true; the input reads as it did. -/
def codeTermsUptoRow : OpenClaim := { program := "ythifckknijdgfaa", sum := "681e65e12d2fb6c32575d9469de8768ac987d993db688ea0af7c49573b8a3914", func := "notary/notarylaw36.CodeTerms", spec := "codeTerms", unfollowed := true, recurses := true, loops := true, apart := false, narrowed := true }
def CodeTermsUptoSaid : Prop := codeTermsUptoRow.holds Try.pinned (OpenSpec.upto codeTermsSpec)

end Rows
end Go.Proofs.Ythifckknijdgfaa
