/-
  A string that is handed in.
-/
import Derived.Test.YthcnligihpnfiaaVtOpen
import Derived.ChangeMaps5
namespace Go.Proofs.Ythcnligihpnfiaa.am
open Go.ChangeShapes Go.WideShapes Go.ChangeAt Go.RowKit
open vt
set_option linter.unusedVariables false
theorem open_vstring {H : Type} {enc : TypeId × Value → H} {w : World} {r : Reach} {b0 : Nat} {v : Value} {d : DataW H} {p : List MemPlace}
    (hv : Value.okWide Try.prog w r b0 9 v) (h : DataW.Trod enc Try.prog w 0 (fun _ => true) true 9 v d p) : ∃ s : ByteArray, RepV (fun _ => .un) (oldS w) w v (vS s) ∧ s.size ≤ 9223372036854775807 := by
  obtain ⟨s, rfl, _, _, h1⟩ := Go.ChangeMaps.open_string Try.underlying9 hv h
  exact ⟨s, .lit _ rfl, by unfold maxLen at h1; omega⟩
end Go.Proofs.Ythcnligihpnfiaa.am
