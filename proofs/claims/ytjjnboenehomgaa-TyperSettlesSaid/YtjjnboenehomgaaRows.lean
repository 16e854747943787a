/-
  NARROWER THAN 'FOR EVERY INPUT', by the rows' own cells (each row's printed sentence says how): FoldHolds: loops · CodeTerms: loops · TyperSettles: loops · TyperLocals: loops.
  DERIVED. THE GIVEN ROWS OF THIS SEAT. 4 by the template 'for every input the law returns true; each argument reads behind the call as it read before'; 0 by the template 'total and deterministic' (their statements: YtjjnboenehomgaaTotals.lean).
  GIVEN WITH THE SEED: the statements are not yours to turn. If you find one false, say at which input.
  Laid BY PROGRAM, IN A SANDBOX (cutbox-rows.mjs): the forced cells as the released guide's own fill.sh prints them over the translation 15a11f33a57a2240… (all of the seat's roots in one cut). By AI agents, Wed Nov 11 2026. No macro, syntax, notation, axiom, sorry.
-/
import Derived.Test.YtjjnboenehomgaaChecked
import GoSem.Claim
import GoSem.ClaimJoined
import GoSem.ClaimMapViews
import Derived.JoinedTies
import Derived.KernelRfl
namespace Go.Proofs.Ytjjnboenehomgaa
/- THE CELL 'sum', in the pinned program and in every row, IS THE sha256 OF THE DUMP (.gsa) THAT YtjjnboenehomgaaProg.lean LOADS. Nothing in Lean hashes anything: it is a label: what it is worth is what the hold of that sum in a sandbox is worth. -/
noncomputable def Try.pinned : Pinned := { name := "ytjjnboenehomgaa", sum := "15a11f33a57a22406fbf3f3ce5a276ce03060456f8a8f8a37d0df9d9bbbcf671", checked := Try.checked }
namespace Rows
def none {H : Type} : Left H := { results := [], args := [] }

/-- 'notarylaw27.FoldHolds': WHATEVER THE INPUT: true; the input reads as it did. -/
def foldHoldsSpec : ChangeSpec := { name := "foldHolds", fn := fun _ => fun
  | [d] => { results := [.lit (.bool true)], args := [d] }
  | _ => none }
def foldHoldsRow : OpenClaim := { program := "ytjjnboenehomgaa", sum := "15a11f33a57a22406fbf3f3ce5a276ce03060456f8a8f8a37d0df9d9bbbcf671", func := "notary/notarylaw27.FoldHolds", spec := "foldHolds", recurses := true, loops := true, apart := false }
def FoldHoldsSaid : Prop := foldHoldsRow.holds Try.pinned (OpenSpec.ofChange foldHoldsSpec)

/-- ITS FALSE NEIGHBOUR: 'it returns false'. Refute it at one input. -/
def foldHoldsWrong : ChangeSpec := { name := "foldHolds", fn := fun _ => fun
  | [d] => { results := [.lit (.bool false)], args := [d] }
  | _ => none }
def FoldHoldsWrongFalsely : Prop := foldHoldsRow.holds Try.pinned (OpenSpec.ofChange foldHoldsWrong)

/-- 'notarylaw36.CodeTerms': WHATEVER THE INPUT: true; the input reads as it did. -/
def codeTermsSpec : ChangeSpec := { name := "codeTerms", fn := fun _ => fun
  | [d1, d2, d3] => { results := [.lit (.bool true)], args := [d1, d2, d3] }
  | _ => none }
def codeTermsRow : OpenClaim := { program := "ytjjnboenehomgaa", sum := "15a11f33a57a22406fbf3f3ce5a276ce03060456f8a8f8a37d0df9d9bbbcf671", func := "notary/notarylaw36.CodeTerms", spec := "codeTerms", unfollowed := true, recurses := true, loops := true, apart := false }
def CodeTermsSaid : Prop := codeTermsRow.holds Try.pinned (OpenSpec.ofChange codeTermsSpec)

/-- ITS FALSE NEIGHBOUR: 'it returns false'. Refute it at one input. -/
def codeTermsWrong : ChangeSpec := { name := "codeTerms", fn := fun _ => fun
  | [d1, d2, d3] => { results := [.lit (.bool false)], args := [d1, d2, d3] }
  | _ => none }
def CodeTermsWrongFalsely : Prop := codeTermsRow.holds Try.pinned (OpenSpec.ofChange codeTermsWrong)

/-- 'notarylaw15.TyperSettles': WHATEVER THE INPUT: true; the input reads as it did. -/
def typerSettlesSpec : ChangeSpec := { name := "typerSettles", fn := fun _ => fun
  | [d1, d2, d3] => { results := [.lit (.bool true)], args := [d1, d2, d3] }
  | _ => none }
def typerSettlesRow : OpenClaim := { program := "ytjjnboenehomgaa", sum := "15a11f33a57a22406fbf3f3ce5a276ce03060456f8a8f8a37d0df9d9bbbcf671", func := "notary/notarylaw15.TyperSettles", spec := "typerSettles", unfollowed := true, recurses := true, loops := true, apart := false }
def TyperSettlesSaid : Prop := typerSettlesRow.holds Try.pinned (OpenSpec.ofChange typerSettlesSpec)

/-- ITS FALSE NEIGHBOUR: 'it returns false'. Refute it at one input. -/
def typerSettlesWrong : ChangeSpec := { name := "typerSettles", fn := fun _ => fun
  | [d1, d2, d3] => { results := [.lit (.bool false)], args := [d1, d2, d3] }
  | _ => none }
def TyperSettlesWrongFalsely : Prop := typerSettlesRow.holds Try.pinned (OpenSpec.ofChange typerSettlesWrong)

/-- 'notarylaw15.TyperLocals': WHATEVER THE INPUT: true; the input reads as it did. -/
def typerLocalsSpec : ChangeSpec := { name := "typerLocals", fn := fun _ => fun
  | [d] => { results := [.lit (.bool true)], args := [d] }
  | _ => none }
def typerLocalsRow : OpenClaim := { program := "ytjjnboenehomgaa", sum := "15a11f33a57a22406fbf3f3ce5a276ce03060456f8a8f8a37d0df9d9bbbcf671", func := "notary/notarylaw15.TyperLocals", spec := "typerLocals", unfollowed := true, recurses := true, loops := true, apart := false }
def TyperLocalsSaid : Prop := typerLocalsRow.holds Try.pinned (OpenSpec.ofChange typerLocalsSpec)

/-- ITS FALSE NEIGHBOUR: 'it returns false'. Refute it at one input. -/
def typerLocalsWrong : ChangeSpec := { name := "typerLocals", fn := fun _ => fun
  | [d] => { results := [.lit (.bool false)], args := [d] }
  | _ => none }
def TyperLocalsWrongFalsely : Prop := typerLocalsRow.holds Try.pinned (OpenSpec.ofChange typerLocalsWrong)

/- THE SECOND FORM. 'bulk': how many values and letters a reading holds, each counted each time it is reached (what is shared counts as often as it is met; a slice's spare places count too). A statement '..UptoSaid' is the law's where the arguments, and the package variables that the reading takes, are together of bulk at most 1048576: NARROWER than '..Said'. Prove '..Said' where nothing that the law and all that it calls make is longer than what came in: it says more and counts as full. Else prove '..UptoSaid'. A law counts once. -/
mutual
def uptoBulk {H : Type} : DataW H → Nat
  | .lit (.string bytes) => bytes.length + 1
  | .lit _ => 1
  | .nil => 1
  | .ptr d => uptoBulk d + 1
  | .slice elems spare => uptoBulkAll elems + uptoBulkAll spare + 1
  | .agg parts => uptoBulkAll parts + 1
  | .iface _ d => uptoBulk d + 1
  | .map entries => uptoBulkEntries entries + 1
  | .held _ => 1
def uptoBulkAll {H : Type} : List (DataW H) → Nat
  | [] => 0
  | d :: r => uptoBulk d + uptoBulkAll r
def uptoBulkEntries {H : Type} : List (Lit × DataW H) → Nat
  | [] => 0
  | x :: r => uptoBulkEntry x + uptoBulkEntries r
def uptoBulkEntry {H : Type} : Lit × DataW H → Nat
  | (.string bytes, d) => bytes.length + uptoBulk d + 1
  | (_, d) => uptoBulk d + 1
 end
def uptoSmall : (H : Type) → List (DataW H) → Bool := fun _ ds => decide (uptoBulkAll ds ≤ 1048576)
def OpenSpec.upto (s : _root_.Go.ChangeSpec) : _root_.Go.OpenSpec := { _root_.Go.OpenSpec.ofChange s with cond := some uptoSmall }

/-- 'notarylaw27.FoldHolds', WHERE WHAT IT READS IS OF BULK AT MOST 1048576: true; the input reads as it did. -/
def foldHoldsUptoRow : OpenClaim := { program := "ytjjnboenehomgaa", sum := "15a11f33a57a22406fbf3f3ce5a276ce03060456f8a8f8a37d0df9d9bbbcf671", func := "notary/notarylaw27.FoldHolds", spec := "foldHolds", recurses := true, loops := true, apart := false, narrowed := true }
def FoldHoldsUptoSaid : Prop := foldHoldsUptoRow.holds Try.pinned (OpenSpec.upto foldHoldsSpec)

/-- 'notarylaw36.CodeTerms', WHERE WHAT IT READS IS OF BULK AT MOST 1048576: true; the input reads as it did. -/
def codeTermsUptoRow : OpenClaim := { program := "ytjjnboenehomgaa", sum := "15a11f33a57a22406fbf3f3ce5a276ce03060456f8a8f8a37d0df9d9bbbcf671", func := "notary/notarylaw36.CodeTerms", spec := "codeTerms", unfollowed := true, recurses := true, loops := true, apart := false, narrowed := true }
def CodeTermsUptoSaid : Prop := codeTermsUptoRow.holds Try.pinned (OpenSpec.upto codeTermsSpec)

/-- 'notarylaw15.TyperSettles', WHERE WHAT IT READS IS OF BULK AT MOST 1048576: true; the input reads as it did. -/
def typerSettlesUptoRow : OpenClaim := { program := "ytjjnboenehomgaa", sum := "15a11f33a57a22406fbf3f3ce5a276ce03060456f8a8f8a37d0df9d9bbbcf671", func := "notary/notarylaw15.TyperSettles", spec := "typerSettles", unfollowed := true, recurses := true, loops := true, apart := false, narrowed := true }
def TyperSettlesUptoSaid : Prop := typerSettlesUptoRow.holds Try.pinned (OpenSpec.upto typerSettlesSpec)

/-- 'notarylaw15.TyperLocals', WHERE WHAT IT READS IS OF BULK AT MOST 1048576: true; the input reads as it did. -/
def typerLocalsUptoRow : OpenClaim := { program := "ytjjnboenehomgaa", sum := "15a11f33a57a22406fbf3f3ce5a276ce03060456f8a8f8a37d0df9d9bbbcf671", func := "notary/notarylaw15.TyperLocals", spec := "typerLocals", unfollowed := true, recurses := true, loops := true, apart := false, narrowed := true }
def TyperLocalsUptoSaid : Prop := typerLocalsUptoRow.holds Try.pinned (OpenSpec.upto typerLocalsSpec)

end Rows
end Go.Proofs.Ytjjnboenehomgaa
