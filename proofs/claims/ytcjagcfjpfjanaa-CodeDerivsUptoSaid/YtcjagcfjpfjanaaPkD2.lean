import Derived.ChangeOld
import Derived.Deep.Slices
import Derived.Test.YtcjagcfjpfjanaaPkD0
set_option maxRecDepth 100000
set_option maxHeartbeats 4000000
section
namespace Go.Proofs.Ytcjagcfjpfjanaa.bs
open Go.ChangeShapes Go.WideShapes Go.ChangeAt Go.RowKit
set_option linter.unusedVariables false
structure Recs {α : Type} (size : Nat) (Elem : World → Nat → Nat → α → Prop) (w : World) (a : Option Addr) (n c : Nat) (l : List α) : Prop where
  len : l.length = n
  cap : n ≤ c
  most : c ≤ 9223372036854775807
  nil : a = none → c = 0
  at' : n = 0 ∨ ∃ b off, a = some ⟨b, off, none⟩ ∧ b < w.heap.size ∧ ∀ i x, l[i]? = some x → Elem w b (off + i * size) x
def Stays {α : Type} (Elem : World → Nat → Nat → α → Prop) : Prop := ∀ w w' b o x, Elem w b o x → b < w.heap.size → Below w.heap.size w w' → Elem w' b o x
theorem Recs.below {α : Type} {size : Nat} {Elem : World → Nat → Nat → α → Prop} (hs : Stays Elem) {w w' : World} {a n c l} (h : Recs size Elem w a n c l) (hb : Below w.heap.size w w') : Recs size Elem w' a n c l := by
  refine ⟨h.len, h.cap, h.most, h.nil, ?_⟩
  rcases h.at' with h0 | ⟨b, off, ha, hlt, hc⟩
  · exact .inl h0
  · exact .inr ⟨b, off, ha, Nat.lt_of_lt_of_le hlt hb.size, fun i x hi => hs w w' b _ x (hc i x hi) hlt hb⟩
theorem Recs.drewN {α : Type} {size : Nat} {Elem : World → Nat → Nat → α → Prop} (hs : Stays Elem) {w : World} {a n c l} (h : Recs size Elem w a n c l) (m : Nat) : Recs size Elem (w.drewN m) a n c l :=
  h.below hs (below_drewN (Below.refl _ _) m)
section
variable {H : Type} {enc : TypeId × Value → H} {P : Program} {w : World}
theorem choose_list {α : Type} (n : Nat) (Q : Nat → α → Prop) (h : ∀ i, i < n → ∃ x, Q i x) : ∃ l : List α, l.length = n ∧ ∀ i x, l[i]? = some x → Q i x := by
  induction n with
  | zero => exact ⟨[], rfl, by simp⟩
  | succ n ih =>
    obtain ⟨l, hl, hq⟩ := ih (fun i hi => h i (by omega))
    obtain ⟨x, hx⟩ := h n (by omega)
    refine ⟨l ++ [x], by simp [hl], fun i y hy => ?_⟩
    rcases Nat.lt_or_ge i l.length with hi | hi
    · rw [List.getElem?_append_left hi] at hy; exact hq i y hy
    · rw [List.getElem?_append_right hi] at hy
      have : i - l.length = 0 := by
        have := (List.getElem?_eq_some_iff.1 hy).1
        simp at this; omega
      rw [this] at hy
      simp at hy
      subst hy
      rw [show i = n by omega]
      exact hx
end
end Go.Proofs.Ytcjagcfjpfjanaa.bs
end
