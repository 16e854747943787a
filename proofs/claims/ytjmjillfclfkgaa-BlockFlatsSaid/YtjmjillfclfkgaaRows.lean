/-
  NARROWER THAN 'FOR EVERY INPUT', by the rows' own cells (each row's printed sentence says how): FoldValues: loops · FlowLoops: loops · BlockFlats: loops.
  DERIVED. THE GIVEN ROWS OF THIS SEAT. 3 by the template 'for every input the law returns true; each argument reads behind the call as it read before'; 0 by the template 'total and deterministic' (their statements: YtjmjillfclfkgaaTotals.lean).
  GIVEN WITH THE SEED: the statements are not yours to turn. If you find one false, say at which input.
  Laid BY PROGRAM, IN A SANDBOX (cutbox-rows.mjs): the forced cells as the released guide's own fill.sh prints them over the translation 076e6013b9417560… (all of the seat's roots in one cut). By AI agents, Wed Nov 11 2026. No macro, syntax, notation, axiom, sorry.
-/
import Derived.Test.YtjmjillfclfkgaaChecked
import GoSem.Claim
import GoSem.ClaimJoined
import GoSem.ClaimMapViews
import Derived.JoinedTies
import Derived.KernelRfl
namespace Go.Proofs.Ytjmjillfclfkgaa
/- THE CELL 'sum', in the pinned program and in every row, IS THE sha256 OF THE DUMP (.gsa) THAT YtjmjillfclfkgaaProg.lean LOADS. Nothing in Lean hashes anything: it is a label: what it is worth is what the hold of that sum in a sandbox is worth. -/
noncomputable def Try.pinned : Pinned := { name := "ytjmjillfclfkgaa", sum := "076e6013b941756059e5aabcc649d374f45352c113ca4c969e5ea511f9205dd7", checked := Try.checked }
namespace Rows
def none {H : Type} : Left H := { results := [], args := [] }

/-- 'notarylaw27.FoldValues': WHATEVER THE INPUT: true; the input reads as it did. -/
def foldValuesSpec : ChangeSpec := { name := "foldValues", fn := fun _ => fun
  | [d] => { results := [.lit (.bool true)], args := [d] }
  | _ => none }
def foldValuesRow : OpenClaim := { program := "ytjmjillfclfkgaa", sum := "076e6013b941756059e5aabcc649d374f45352c113ca4c969e5ea511f9205dd7", func := "notary/notarylaw27.FoldValues", spec := "foldValues", recurses := true, loops := true, apart := false }
def FoldValuesSaid : Prop := foldValuesRow.holds Try.pinned (OpenSpec.ofChange foldValuesSpec)

/-- ITS FALSE NEIGHBOUR: 'it returns false'. Refute it at one input. -/
def foldValuesWrong : ChangeSpec := { name := "foldValues", fn := fun _ => fun
  | [d] => { results := [.lit (.bool false)], args := [d] }
  | _ => none }
def FoldValuesWrongFalsely : Prop := foldValuesRow.holds Try.pinned (OpenSpec.ofChange foldValuesWrong)

/-- 'notarylaw28.FlowLoops': WHATEVER THE INPUT: true; the input reads as it did. -/
def flowLoopsSpec : ChangeSpec := { name := "flowLoops", fn := fun _ => fun
  | [d] => { results := [.lit (.bool true)], args := [d] }
  | _ => none }
def flowLoopsRow : OpenClaim := { program := "ytjmjillfclfkgaa", sum := "076e6013b941756059e5aabcc649d374f45352c113ca4c969e5ea511f9205dd7", func := "notary/notarylaw28.FlowLoops", spec := "flowLoops", unfollowed := true, recurses := true, loops := true, apart := false }
def FlowLoopsSaid : Prop := flowLoopsRow.holds Try.pinned (OpenSpec.ofChange flowLoopsSpec)

/-- ITS FALSE NEIGHBOUR: 'it returns false'. Refute it at one input. -/
def flowLoopsWrong : ChangeSpec := { name := "flowLoops", fn := fun _ => fun
  | [d] => { results := [.lit (.bool false)], args := [d] }
  | _ => none }
def FlowLoopsWrongFalsely : Prop := flowLoopsRow.holds Try.pinned (OpenSpec.ofChange flowLoopsWrong)

/-- 'notarylaw29.BlockFlats': WHATEVER THE INPUT: true; the input reads as it did. -/
def blockFlatsSpec : ChangeSpec := { name := "blockFlats", fn := fun _ => fun
  | [d1, d2] => { results := [.lit (.bool true)], args := [d1, d2] }
  | _ => none }
def blockFlatsRow : OpenClaim := { program := "ytjmjillfclfkgaa", sum := "076e6013b941756059e5aabcc649d374f45352c113ca4c969e5ea511f9205dd7", func := "notary/notarylaw29.BlockFlats", spec := "blockFlats", unfollowed := true, recurses := true, loops := true, apart := false }
def BlockFlatsSaid : Prop := blockFlatsRow.holds Try.pinned (OpenSpec.ofChange blockFlatsSpec)

/-- ITS FALSE NEIGHBOUR: 'it returns false'. Refute it at one input. -/
def blockFlatsWrong : ChangeSpec := { name := "blockFlats", fn := fun _ => fun
  | [d1, d2] => { results := [.lit (.bool false)], args := [d1, d2] }
  | _ => none }
def BlockFlatsWrongFalsely : Prop := blockFlatsRow.holds Try.pinned (OpenSpec.ofChange blockFlatsWrong)

/- THE SECOND FORM. 'bulk': how many values and letters a reading holds, each counted each time it is reached (what is shared counts as often as it is met; a slice's spare places count too). A statement '..UptoSaid' is the law's where the arguments, and the package variables that the reading takes, are together of bulk at most 1048576: NARROWER than '..Said'. Prove '..Said' where nothing that the law and all that it calls make is longer than what came in: it says more and counts as full. Else prove '..UptoSaid'. A law counts once. -/
mutual
def uptoBulk {H : Type} : DataW H → Nat
  | .lit (.string bytes) => bytes.length + 1
  | .lit _ => 1
  | .nil => 1
  | .ptr d => uptoBulk d + 1
  | .slice elems spare => uptoBulkAll elems + uptoBulkAll spare + 1
  | .agg parts => uptoBulkAll parts + 1
  | .iface _ d => uptoBulk d + 1
  | .map entries => uptoBulkEntries entries + 1
  | .held _ => 1
def uptoBulkAll {H : Type} : List (DataW H) → Nat
  | [] => 0
  | d :: r => uptoBulk d + uptoBulkAll r
def uptoBulkEntries {H : Type} : List (Lit × DataW H) → Nat
  | [] => 0
  | x :: r => uptoBulkEntry x + uptoBulkEntries r
def uptoBulkEntry {H : Type} : Lit × DataW H → Nat
  | (.string bytes, d) => bytes.length + uptoBulk d + 1
  | (_, d) => uptoBulk d + 1
 end
def uptoSmall : (H : Type) → List (DataW H) → Bool := fun _ ds => decide (uptoBulkAll ds ≤ 1048576)
def OpenSpec.upto (s : _root_.Go.ChangeSpec) : _root_.Go.OpenSpec := { _root_.Go.OpenSpec.ofChange s with cond := some uptoSmall }

/-- 'notarylaw27.FoldValues', WHERE WHAT IT READS IS OF BULK AT MOST 1048576: true; the input reads as it did. -/
def foldValuesUptoRow : OpenClaim := { program := "ytjmjillfclfkgaa", sum := "076e6013b941756059e5aabcc649d374f45352c113ca4c969e5ea511f9205dd7", func := "notary/notarylaw27.FoldValues", spec := "foldValues", recurses := true, loops := true, apart := false, narrowed := true }
def FoldValuesUptoSaid : Prop := foldValuesUptoRow.holds Try.pinned (OpenSpec.upto foldValuesSpec)

/-- 'notarylaw28.FlowLoops', WHERE WHAT IT READS IS OF BULK AT MOST 1048576: true; the input reads as it did. -/
def flowLoopsUptoRow : OpenClaim := { program := "ytjmjillfclfkgaa", sum := "076e6013b941756059e5aabcc649d374f45352c113ca4c969e5ea511f9205dd7", func := "notary/notarylaw28.FlowLoops", spec := "flowLoops", unfollowed := true, recurses := true, loops := true, apart := false, narrowed := true }
def FlowLoopsUptoSaid : Prop := flowLoopsUptoRow.holds Try.pinned (OpenSpec.upto flowLoopsSpec)

/-- 'notarylaw29.BlockFlats', WHERE WHAT IT READS IS OF BULK AT MOST 1048576: true; the input reads as it did. -/
def blockFlatsUptoRow : OpenClaim := { program := "ytjmjillfclfkgaa", sum := "076e6013b941756059e5aabcc649d374f45352c113ca4c969e5ea511f9205dd7", func := "notary/notarylaw29.BlockFlats", spec := "blockFlats", unfollowed := true, recurses := true, loops := true, apart := false, narrowed := true }
def BlockFlatsUptoSaid : Prop := blockFlatsUptoRow.holds Try.pinned (OpenSpec.upto blockFlatsSpec)

end Rows
end Go.Proofs.Ytjmjillfclfkgaa
