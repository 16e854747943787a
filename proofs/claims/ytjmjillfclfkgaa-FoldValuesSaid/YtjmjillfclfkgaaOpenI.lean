/-
  Slices of ints that come in, opened; what is behind the first one.
-/
import Derived.Test.YtjmjillfclfkgaaI64s
import Derived.ChangeOld
import Derived.Lib.SmallJoins
import Derived.Test.YtjmjillfclfkgaaOpens
namespace Go.Proofs.Ytjmjillfclfkgaa.bs
open Go.ChangeShapes Go.WideShapes Go.ChangeAt Go.RowKit
set_option linter.unusedVariables false

theorem i64s_of_row {w : World} {a : Option Addr} {len cap : Nat} {zs : List Int}
    (h : (a = none ∧ len = 0 ∧ cap = 0 ∧ zs = []) ∨ ∃ x, a = some x ∧ len ≤ cap ∧ cap ≤ maxLen ∧ zs.length = cap ∧ (∀ i, i < zs.length → w.cell? (x.add i) = some (.int .i64 (zs.getD i 0))) ∧ ∀ n ∈ zs, (Lit.int .i64 n).wf = true) :
    I64s w a len cap (zs.take len) := by
  rcases h with ⟨rfl, rfl, rfl, rfl⟩ | ⟨x, rfl, hl, hm, hz, hc, hw⟩
  · exact ⟨rfl, Nat.le_refl _, by omega, by simp [AllI], fun _ => rfl, .inl rfl⟩
  · refine ⟨by rw [List.length_take]; omega, hl, by unfold maxLen at hm; omega, ?_, by simp, ?_⟩
    · intro n hn
      have := hw n (List.mem_of_mem_take hn)
      simpa [Lit.wf, IntKind.min, IntKind.max, IntKind.signed, IntKind.bits] using this
    · rcases Nat.eq_zero_or_pos len with h0 | h0
      · exact .inl h0
      · right
        obtain ⟨b, off, spot⟩ := x
        have hc0 := hc 0 (by omega)
        have hspot : spot = none := by simpa [Addr.add] using World.cell?_spot hc0
        subst hspot
        refine ⟨b, off, rfl, fun i hi => ?_⟩
        have h1 := hc i (by omega)
        have e : (⟨b, off, none⟩ : Addr).add i = ⟨b, off + i, none⟩ := by unfold Addr.add; split <;> simp_all
        rw [e] at h1
        rw [h1, List.getD_eq_getElem?_getD, List.getD_eq_getElem?_getD, List.getElem?_take]
        simp [hi]

section
variable {H : Type} {enc : TypeId × Value → H} {P : Program} {w : World}
theorem open_i64s_cell {t e : TypeId} {fuel : Nat} {v : Value} {y : DataW H × List MemPlace} (ht : P.underlying t = some (.slice e)) (he : P.underlying e = some (.int .i64)) (hc : P.cellsOf e = 1)
    (h : DataW.trod enc P w 0 (fun _ => true) true fuel t [v] = some y) :
    ∃ a n c l, v = .slice a n c ∧ I64s w a n c l := by
  rcases open_ints ht he hc h with ⟨hcs, hy⟩ | ⟨x, n, c, zs, hcs, _, hl, hm, hz, hx, hcell, hwz⟩
  · simp only [List.cons.injEq, and_true] at hcs
    subst hcs
    exact ⟨none, 0, 0, [], rfl, i64s_of_row (.inl ⟨rfl, rfl, rfl, rfl⟩)⟩
  · simp only [List.cons.injEq, and_true] at hcs
    subst hcs
    have hz' : zs.length = c := by simpa using hz
    exact ⟨some x, n, c, _, rfl, i64s_of_row (.inr ⟨x, rfl, hl, hm, hz', hcell, hwz⟩)⟩
theorem open_i64s {r : Reach} {b0 : Nat} {t e : TypeId} {v : Value} {d : DataW H} {p : List MemPlace} (ht : P.underlying t = some (.slice e)) (he : P.underlying e = some (.int .i64)) (hc : P.cellsOf e = 1)
    (hv : Value.okWide P w r b0 t v) (h : DataW.Trod enc P w 0 (fun _ => true) true t v d p) :
    ∃ a n c l, v = .slice a n c ∧ I64s w a n c l := by
  obtain ⟨a, n, c, rfl⟩ := okWide_slice ht hv
  obtain ⟨fuel, hf⟩ := h
  obtain ⟨a', n', c', l, he', hb⟩ := open_i64s_cell ht he hc hf
  cases he'
  exact ⟨_, _, _, l, rfl, hb⟩
end

/-- What is behind the first i of a slice of ints. -/
theorem sub_i64s {w : World} {b off n c : Nat} {l : List Int} (h : I64s w (some ⟨b, off, none⟩) n c l) (i : Nat) (hi : i ≤ n) : I64s w (some ⟨b, off + i, none⟩) (n - i) (c - i) (l.drop i) := by
  refine ⟨by rw [List.length_drop, h.len], by have := h.cap; omega, by have := h.most; omega, fun x hx => h.all x (List.mem_of_mem_drop hx), by simp, ?_⟩
  rcases h.at' with h0 | ⟨b', off', ha, hc⟩
  · exact .inl (by omega)
  · right
    cases ha
    refine ⟨b, off + i, rfl, fun j hj => ?_⟩
    rw [Nat.add_assoc, hc (i + j) (by omega)]
    simp [List.getD_eq_getElem?_getD, List.getElem?_drop]
end Go.Proofs.Ytjmjillfclfkgaa.bs
