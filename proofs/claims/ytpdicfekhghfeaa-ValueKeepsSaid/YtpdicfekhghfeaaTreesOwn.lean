/-
  Slices of structs of the call's own: an empty one that was just made, one element turned; a slice that came in as the source of an append. No program is named here.
-/
import Derived.Test.YtpdicfekhghfeaaTrees
import Derived.Test.YtpdicfekhghfeaaRecsApp
namespace Go.Proofs.Ytpdicfekhghfeaa.tr
open Go.ChangeShapes Go.WideShapes Go.ChangeAt Go.RowKit
open bs
set_option linter.unusedVariables false

theorem OwnS.made0 {α : Type} {size : Nat} {cells : α → List Value} (w : World) (base : Nat) (e : TypeId) (hb : base ≤ w.heap.size) : OwnS size cells (w.alloc (.cells #[] e)) base e (some ⟨w.heap.size, 0, none⟩) 0 0 ([] : List α) := by
  refine ⟨⟨by simp, .inr ⟨w.heap.size, 0, #[], rfl, hb, heap_alloc_new w _, Nat.le_refl _, by simp [maxLen], by simp, by simp⟩⟩, rfl⟩

/-- A slice that came in, as a source. -/
theorem Recs.src {α : Type} {size : Nat} {E : World → Nat → Nat → α → Prop} {cells : α → List Value} {w : World} {a : Option Addr} {n c : Nat} {l : List α} (h : Recs size E w a n c l) (hz : ∀ x, (cells x).length = size) (hpos : 0 < size) (hE : ∀ b o x, E w b o x → ∀ j u, (cells x)[j]? = some u → w.cell? ⟨b, o + j, none⟩ = some u) : Src cells w a n c l := by
  refine ⟨h.len, fun ha => ⟨by have := h.cap; have := h.nil ha; omega, h.nil ha⟩, fun ad ha j u hj => ?_⟩
  have hlen : ∀ l : List α, (l.flatMap cells).length = l.length * size := fun l => by
    induction l with
    | nil => simp
    | cons x l ih => rw [List.flatMap_cons, List.length_append, ih, hz, List.length_cons, Nat.succ_mul]; omega
  have hjl := (List.getElem?_eq_some_iff.1 hj).1
  rw [hlen] at hjl
  have hq : j / size < l.length := Nat.div_lt_of_lt_mul (by rw [Nat.mul_comm]; exact hjl)
  obtain ⟨x, hx⟩ : ∃ x, l[j / size]? = some x := ⟨_, List.getElem?_eq_getElem hq⟩
  rcases h.at' with h0 | ⟨b, off, ha', hlt, hc⟩
  · exact absurd hq (by rw [h.len, h0]; exact Nat.not_lt_zero _)
  · rw [ha'] at ha
    cases ha
    have hr : j % size < size := Nat.mod_lt _ hpos
    obtain ⟨u', hu'⟩ : ∃ u', (cells x)[j % size]? = some u' := ⟨_, List.getElem?_eq_getElem (by rw [hz]; exact hr)⟩
    have h1 := hE _ _ _ (hc _ _ hx) _ _ hu'
    have h2 := flat_at hz l (j / size) (j % size) x u' hx hu'
    have h3 : j / size * size + j % size = j := by rw [Nat.mul_comm]; exact Nat.div_add_mod j size
    rw [h3, hj] at h2
    cases h2
    have hadd : (⟨b, off, none⟩ : Addr).add j = ⟨b, off + j, none⟩ := by unfold Addr.add; split <;> simp_all
    rw [hadd, ← h1, Nat.add_assoc, h3]
section
variable {α : Type} {size : Nat} {cells : α → List Value} {P : Program} {w : World} {ops : Array Oper} {rest : List Oper} {o : Oper} {a : Act} {Q : Exit → Act → World → Prop}
theorem wpList_append_sm {t e : TypeId} {z : Value} {bytes : Nat} (T : RecT P t e z size bytes) (hpos : 0 < size) (hz : ∀ x, (cells x).length = size) (h1 : ∀ x, ∀ u ∈ cells x, u.oneCell' = true) (hw : Region.wanted o (yielded ops a.tmps) = true) (s y : Operand) (ho : o.op = .call { callee := .builtin .append, args := #[s, y], argTypes := #[t, t] })
    (base : Nat) {b n c} {l : List α} (hs : a.eval s = .slice b n c) (h : OwnS size cells w base e b n c l) {a' m c'} {l' : List α} (hy : a.eval y = .slice a' m c') (hx : Src cells w a' m c' l') (hm : n + m ≤ maxLen) (hn : (n + m) * bytes ≤ 140737488355328) (hbase : base ≤ w.heap.size)
    (k : ∀ a2 c2 w', OwnS size cells w' base e a2 (n + m) c2 (l ++ l') → Below base w w' → w.grownBy w' (Value.ownBlock (.slice b n c)) → wpList P ops Q rest (a.put o.dst (.slice a2 (n + m) c2)) w') : wpList P ops Q (o :: rest) a w :=
  BigFrame.wpList_want hw fun K hK => by
    obtain ⟨a2, c2, w', hr, h2, h3, h4⟩ := run_append_sm T hpos hz h1 o.type w base h hx hm hn hbase
    unfold Oper.wp execOp
    simp only [ho, resolve, invoke, builtin, Sem.run_bind, Sem.run_pure, Result.andThen_ok, List.map_toArray, List.map_cons, List.map_nil, hs, hy, hr]
    exact hK _ _ (k a2 c2 w' h2 h3 h4)
end
end Go.Proofs.Ytpdicfekhghfeaa.tr
