/-
  No cell of these rows narrows 'for every input' (looked for: loops, veiled, ifaces, maps, wideKeys, modest, calm, conditions, laid).
  DERIVED. THE GIVEN ROWS OF THIS SEAT. 5 by the template 'for every input the law returns true; each argument reads behind the call as it read before'; 0 by the template 'total and deterministic' (their statements: YtlkggpjdaaglmaaTotals.lean).
  GIVEN WITH THE SEED: the statements are not yours to turn. If you find one false, say at which input.
  Laid BY PROGRAM, IN A SANDBOX (cutbox-rows.mjs): the forced cells as the released guide's own fill.sh prints them over the translation d9ab8d0e3f4cb024… (all of the seat's roots in one cut). By AI agents, Wed Nov 11 2026. No macro, syntax, notation, axiom, sorry.
-/
import Derived.Test.YtlkggpjdaaglmaaChecked
import GoSem.Claim
import GoSem.ClaimJoined
import GoSem.ClaimMapViews
import Derived.JoinedTies
import Derived.KernelRfl
namespace Go.Proofs.Ytlkggpjdaaglmaa
/- THE CELL 'sum', in the pinned program and in every row, IS THE sha256 OF THE DUMP (.gsa) THAT YtlkggpjdaaglmaaProg.lean LOADS. Nothing in Lean hashes anything: it is a label: what it is worth is what the hold of that sum in a sandbox is worth. -/
noncomputable def Try.pinned : Pinned := { name := "ytlkggpjdaaglmaa", sum := "d9ab8d0e3f4cb0245613a3e996b90423dc0ef4d1997458e936f58ce1474569e9", checked := Try.checked }
namespace Rows
def none {H : Type} : Left H := { results := [], args := [] }

/-- 'notarylaw40.PickFinds': WHATEVER THE INPUT: true; the input reads as it did. -/
def pickFindsSpec : ChangeSpec := { name := "pickFinds", fn := fun _ => fun
  | [d1, d2, d3] => { results := [.lit (.bool true)], args := [d1, d2, d3] }
  | _ => none }
def pickFindsRow : OpenClaim := { program := "ytlkggpjdaaglmaa", sum := "d9ab8d0e3f4cb0245613a3e996b90423dc0ef4d1997458e936f58ce1474569e9", func := "notary/notarylaw40.PickFinds", spec := "pickFinds", unfollowed := true, recurses := true, apart := false }
def PickFindsSaid : Prop := pickFindsRow.holds Try.pinned (OpenSpec.ofChange pickFindsSpec)

/-- ITS FALSE NEIGHBOUR: 'it returns false'. Refute it at one input. -/
def pickFindsWrong : ChangeSpec := { name := "pickFinds", fn := fun _ => fun
  | [d1, d2, d3] => { results := [.lit (.bool false)], args := [d1, d2, d3] }
  | _ => none }
def PickFindsWrongFalsely : Prop := pickFindsRow.holds Try.pinned (OpenSpec.ofChange pickFindsWrong)

/-- 'notarylaw40.PickOwn': WHATEVER THE INPUT: true; the input reads as it did. -/
def pickOwnSpec : ChangeSpec := { name := "pickOwn", fn := fun _ => fun
  | [d] => { results := [.lit (.bool true)], args := [d] }
  | _ => none }
def pickOwnRow : OpenClaim := { program := "ytlkggpjdaaglmaa", sum := "d9ab8d0e3f4cb0245613a3e996b90423dc0ef4d1997458e936f58ce1474569e9", func := "notary/notarylaw40.PickOwn", spec := "pickOwn", unfollowed := true, recurses := true, apart := false }
def PickOwnSaid : Prop := pickOwnRow.holds Try.pinned (OpenSpec.ofChange pickOwnSpec)

/-- ITS FALSE NEIGHBOUR: 'it returns false'. Refute it at one input. -/
def pickOwnWrong : ChangeSpec := { name := "pickOwn", fn := fun _ => fun
  | [d] => { results := [.lit (.bool false)], args := [d] }
  | _ => none }
def PickOwnWrongFalsely : Prop := pickOwnRow.holds Try.pinned (OpenSpec.ofChange pickOwnWrong)

/-- 'notarylaw11.PatchApplies': WHATEVER THE INPUT: true; the input reads as it did. -/
def patchAppliesSpec : ChangeSpec := { name := "patchApplies", fn := fun _ => fun
  | [d1, d2] => { results := [.lit (.bool true)], args := [d1, d2] }
  | _ => none }
def patchAppliesRow : OpenClaim := { program := "ytlkggpjdaaglmaa", sum := "d9ab8d0e3f4cb0245613a3e996b90423dc0ef4d1997458e936f58ce1474569e9", func := "notary/notarylaw11.PatchApplies", spec := "patchApplies", inPlace := ["internal/abi.NoEscape"], unfollowed := true, recurses := true, apart := false }
def PatchAppliesSaid : Prop := patchAppliesRow.holds Try.pinned (OpenSpec.ofChange patchAppliesSpec)

/-- ITS FALSE NEIGHBOUR: 'it returns false'. Refute it at one input. -/
def patchAppliesWrong : ChangeSpec := { name := "patchApplies", fn := fun _ => fun
  | [d1, d2] => { results := [.lit (.bool false)], args := [d1, d2] }
  | _ => none }
def PatchAppliesWrongFalsely : Prop := patchAppliesRow.holds Try.pinned (OpenSpec.ofChange patchAppliesWrong)

/-- 'notarylaw11.PatchBack': WHATEVER THE INPUT: true; the input reads as it did. -/
def patchBackSpec : ChangeSpec := { name := "patchBack", fn := fun _ => fun
  | [d1, d2] => { results := [.lit (.bool true)], args := [d1, d2] }
  | _ => none }
def patchBackRow : OpenClaim := { program := "ytlkggpjdaaglmaa", sum := "d9ab8d0e3f4cb0245613a3e996b90423dc0ef4d1997458e936f58ce1474569e9", func := "notary/notarylaw11.PatchBack", spec := "patchBack", inPlace := ["internal/abi.NoEscape"], unfollowed := true, recurses := true, apart := false }
def PatchBackSaid : Prop := patchBackRow.holds Try.pinned (OpenSpec.ofChange patchBackSpec)

/-- ITS FALSE NEIGHBOUR: 'it returns false'. Refute it at one input. -/
def patchBackWrong : ChangeSpec := { name := "patchBack", fn := fun _ => fun
  | [d1, d2] => { results := [.lit (.bool false)], args := [d1, d2] }
  | _ => none }
def PatchBackWrongFalsely : Prop := patchBackRow.holds Try.pinned (OpenSpec.ofChange patchBackWrong)

/-- 'notarylaw11.PatchOutside': WHATEVER THE INPUT: true; the input reads as it did. -/
def patchOutsideSpec : ChangeSpec := { name := "patchOutside", fn := fun _ => fun
  | [d1, d2] => { results := [.lit (.bool true)], args := [d1, d2] }
  | _ => none }
def patchOutsideRow : OpenClaim := { program := "ytlkggpjdaaglmaa", sum := "d9ab8d0e3f4cb0245613a3e996b90423dc0ef4d1997458e936f58ce1474569e9", func := "notary/notarylaw11.PatchOutside", spec := "patchOutside", inPlace := ["internal/abi.NoEscape"], unfollowed := true, recurses := true, apart := false }
def PatchOutsideSaid : Prop := patchOutsideRow.holds Try.pinned (OpenSpec.ofChange patchOutsideSpec)

/-- ITS FALSE NEIGHBOUR: 'it returns false'. Refute it at one input. -/
def patchOutsideWrong : ChangeSpec := { name := "patchOutside", fn := fun _ => fun
  | [d1, d2] => { results := [.lit (.bool false)], args := [d1, d2] }
  | _ => none }
def PatchOutsideWrongFalsely : Prop := patchOutsideRow.holds Try.pinned (OpenSpec.ofChange patchOutsideWrong)

/- THE SECOND FORM. 'bulk': how many values and letters a reading holds, each counted each time it is reached (what is shared counts as often as it is met; a slice's spare places count too). A statement '..UptoSaid' is the law's where the arguments, and the package variables that the reading takes, are together of bulk at most 1048576: NARROWER than '..Said'. Prove '..Said' where nothing that the law and all that it calls make is longer than what came in: it says more and counts as full. Else prove '..UptoSaid'. A law counts once. -/
mutual
def uptoBulk {H : Type} : DataW H → Nat
  | .lit (.string bytes) => bytes.length + 1
  | .lit _ => 1
  | .nil => 1
  | .ptr d => uptoBulk d + 1
  | .slice elems spare => uptoBulkAll elems + uptoBulkAll spare + 1
  | .agg parts => uptoBulkAll parts + 1
  | .iface _ d => uptoBulk d + 1
  | .map entries => uptoBulkEntries entries + 1
  | .held _ => 1
def uptoBulkAll {H : Type} : List (DataW H) → Nat
  | [] => 0
  | d :: r => uptoBulk d + uptoBulkAll r
def uptoBulkEntries {H : Type} : List (Lit × DataW H) → Nat
  | [] => 0
  | x :: r => uptoBulkEntry x + uptoBulkEntries r
def uptoBulkEntry {H : Type} : Lit × DataW H → Nat
  | (.string bytes, d) => bytes.length + uptoBulk d + 1
  | (_, d) => uptoBulk d + 1
 end
def uptoSmall : (H : Type) → List (DataW H) → Bool := fun _ ds => decide (uptoBulkAll ds ≤ 1048576)
def OpenSpec.upto (s : _root_.Go.ChangeSpec) : _root_.Go.OpenSpec := { _root_.Go.OpenSpec.ofChange s with cond := some uptoSmall }

/-- 'notarylaw40.PickFinds', WHERE WHAT IT READS IS OF BULK AT MOST 1048576: true; the input reads as it did. -/
def pickFindsUptoRow : OpenClaim := { program := "ytlkggpjdaaglmaa", sum := "d9ab8d0e3f4cb0245613a3e996b90423dc0ef4d1997458e936f58ce1474569e9", func := "notary/notarylaw40.PickFinds", spec := "pickFinds", unfollowed := true, recurses := true, apart := false, narrowed := true }
def PickFindsUptoSaid : Prop := pickFindsUptoRow.holds Try.pinned (OpenSpec.upto pickFindsSpec)

/-- 'notarylaw40.PickOwn', WHERE WHAT IT READS IS OF BULK AT MOST 1048576: true; the input reads as it did. -/
def pickOwnUptoRow : OpenClaim := { program := "ytlkggpjdaaglmaa", sum := "d9ab8d0e3f4cb0245613a3e996b90423dc0ef4d1997458e936f58ce1474569e9", func := "notary/notarylaw40.PickOwn", spec := "pickOwn", unfollowed := true, recurses := true, apart := false, narrowed := true }
def PickOwnUptoSaid : Prop := pickOwnUptoRow.holds Try.pinned (OpenSpec.upto pickOwnSpec)

/-- 'notarylaw11.PatchApplies', WHERE WHAT IT READS IS OF BULK AT MOST 1048576: true; the input reads as it did. -/
def patchAppliesUptoRow : OpenClaim := { program := "ytlkggpjdaaglmaa", sum := "d9ab8d0e3f4cb0245613a3e996b90423dc0ef4d1997458e936f58ce1474569e9", func := "notary/notarylaw11.PatchApplies", spec := "patchApplies", inPlace := ["internal/abi.NoEscape"], unfollowed := true, recurses := true, apart := false, narrowed := true }
def PatchAppliesUptoSaid : Prop := patchAppliesUptoRow.holds Try.pinned (OpenSpec.upto patchAppliesSpec)

/-- 'notarylaw11.PatchBack', WHERE WHAT IT READS IS OF BULK AT MOST 1048576: true; the input reads as it did. -/
def patchBackUptoRow : OpenClaim := { program := "ytlkggpjdaaglmaa", sum := "d9ab8d0e3f4cb0245613a3e996b90423dc0ef4d1997458e936f58ce1474569e9", func := "notary/notarylaw11.PatchBack", spec := "patchBack", inPlace := ["internal/abi.NoEscape"], unfollowed := true, recurses := true, apart := false, narrowed := true }
def PatchBackUptoSaid : Prop := patchBackUptoRow.holds Try.pinned (OpenSpec.upto patchBackSpec)

/-- 'notarylaw11.PatchOutside', WHERE WHAT IT READS IS OF BULK AT MOST 1048576: true; the input reads as it did. -/
def patchOutsideUptoRow : OpenClaim := { program := "ytlkggpjdaaglmaa", sum := "d9ab8d0e3f4cb0245613a3e996b90423dc0ef4d1997458e936f58ce1474569e9", func := "notary/notarylaw11.PatchOutside", spec := "patchOutside", inPlace := ["internal/abi.NoEscape"], unfollowed := true, recurses := true, apart := false, narrowed := true }
def PatchOutsideUptoSaid : Prop := patchOutsideUptoRow.holds Try.pinned (OpenSpec.upto patchOutsideSpec)

end Rows
end Go.Proofs.Ytlkggpjdaaglmaa
