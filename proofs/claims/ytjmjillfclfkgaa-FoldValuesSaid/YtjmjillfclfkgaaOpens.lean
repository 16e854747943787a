/-
  Arguments that come in, opened: what a value of a type reads as.
-/
import Derived.Test.YtjmjillfclfkgaaOwn
import Derived.ChangeOld
import Derived.Lib.SmallJoins
namespace Go.Proofs.Ytjmjillfclfkgaa.bs
open Go.ChangeShapes Go.WideShapes Go.ChangeAt Go.RowKit
set_option linter.unusedVariables false

section
variable {H : Type} {enc : TypeId × Value → H} {P : Program} {w : World}
/-- One cell that holds a slice of bytes. -/
theorem open_bytes_cell {t e : TypeId} {fuel : Nat} {v : Value} {y : DataW H × List MemPlace} (ht : P.underlying t = some (.slice e)) (he : P.underlying e = some (.int .u8)) (hc : P.cellsOf e = 1)
    (h : DataW.trod enc P w 0 (fun _ => true) true fuel t [v] = some y) :
    ∃ a n c l, v = .slice a n c ∧ Bytes w a n c l ∧ c ≤ maxLen ∧ (c = 0 ∨ ∃ x z, y.1 = .slice x z ∧ x.length + z.length = c) := by
  rcases open_ints ht he hc h with ⟨hcs, hy⟩ | ⟨x, n, c, zs, hcs, _, hl, hm, hz, hx, hcell, hwz⟩
  · simp only [List.cons.injEq, and_true] at hcs
    subst hcs
    exact ⟨none, 0, 0, [], rfl, bytes_of_row (.inl ⟨rfl, rfl, rfl, rfl⟩), by simp [maxLen], .inl rfl⟩
  · simp only [List.cons.injEq, and_true] at hcs
    subst hcs
    have hz' : zs.length = c := by simpa using hz
    refine ⟨some x, n, c, _, rfl, bytes_of_row (.inr ⟨x, rfl, hl, hm, hz', hcell, hwz⟩), hm, .inr ⟨_, _, by rw [hx], ?_⟩⟩
    simp only [lits, List.length_map, List.length_take, List.length_drop]
    omega
/-- A slice of bytes. -/
theorem open_bytes {r : Reach} {b0 : Nat} {t e : TypeId} {v : Value} {d : DataW H} {p : List MemPlace} (ht : P.underlying t = some (.slice e)) (he : P.underlying e = some (.int .u8)) (hc : P.cellsOf e = 1)
    (hv : Value.okWide P w r b0 t v) (h : DataW.Trod enc P w 0 (fun _ => true) true t v d p) :
    ∃ a n c l, v = .slice a n c ∧ Bytes w a n c l ∧ c ≤ maxLen ∧ (c = 0 ∨ ∃ x z, d = .slice x z ∧ x.length + z.length = c) := by
  obtain ⟨a, n, c, rfl⟩ := okWide_slice ht hv
  obtain ⟨fuel, hf⟩ := h
  obtain ⟨a', n', c', l, he', hb, hm, hd⟩ := open_bytes_cell ht he hc hf
  cases he'
  exact ⟨_, _, _, l, rfl, hb, hm, hd⟩
theorem in64 {z : Int} (h : (Lit.int .i64 z).wf = true) : -9223372036854775808 ≤ z ∧ z ≤ 9223372036854775807 := by simpa [Lit.wf, IntKind.min, IntKind.max, IntKind.signed, IntKind.bits] using h
end
end Go.Proofs.Ytjmjillfclfkgaa.bs
