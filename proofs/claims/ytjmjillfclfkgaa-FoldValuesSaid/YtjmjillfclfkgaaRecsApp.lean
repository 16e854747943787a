/-
  The append of a whole slice of structs to one of the call's own: 'Src' says what the source holds. No program is named here.
-/
import Derived.Test.YtjmjillfclfkgaaOwnRecs
import Derived.Test.YtjmjillfclfkgaaTurned
namespace Go.Proofs.Ytjmjillfclfkgaa.bs
open Go.ChangeShapes Go.WideShapes Go.ChangeAt Go.RowKit
set_option linter.unusedVariables false

structure Src {α : Type} (cells : α → List Value) (w : World) (a : Option Addr) (m c : Nat) (l : List α) : Prop where
  num : l.length = m
  none : a = none → m = 0 ∧ c = 0
  at' : ∀ ad, a = some ad → ∀ j u, (l.flatMap cells)[j]? = some u → w.cell? (ad.add j) = some u

variable {α : Type} {size : Nat} {cells : α → List Value}
theorem Src.below {w w' : World} {a m c} {l : List α} (h : Src cells w a m c l) (hb : Below w.heap.size w w') : Src cells w' a m c l :=
  ⟨h.num, h.none, fun ad ha j u hu => by
    have h1 := h.at' ad ha j u hu
    rw [hb.cell (World.block_lt_of_cell? w _ h1)]; exact h1⟩
theorem OwnS.src {w : World} {base e a n c} {l : List α} (h : OwnS size cells w base e a n c l) (hz : ∀ x, (cells x).length = size) : Src cells w a n c l := by
  rcases h.cases with ⟨rfl, rfl, rfl⟩ | ⟨g, rfl, hg, hs, hn, hc⟩
  · exact ⟨h.num, fun _ => ⟨rfl, rfl⟩, fun ad ha => by cases ha⟩
  · refine ⟨h.num, fun ha => by simp at ha, fun ad ha j u hu => ?_⟩
    cases ha
    have hj : j < n * size := by
      have h1 := (List.getElem?_eq_some_iff.1 hu).1
      have h2 := h.own.1
      omega
    have hadd : (⟨g, 0, none⟩ : Addr).add j = ⟨g, j, none⟩ := by unfold Addr.add; split <;> simp_all
    rw [hadd, h.own.cellAt j hj]
    exact hu
theorem run_append_sm {P : Program} {t e : TypeId} {z : Value} {bytes : Nat} (T : RecT P t e z size bytes) (hpos : 0 < size) (hz : ∀ x, (cells x).length = size) (h1 : ∀ x, ∀ u ∈ cells x, u.oneCell' = true) (ty : TypeId) (w : World) (base : Nat) {a n c} {l : List α} (h : OwnS size cells w base e a n c l)
    {a' m c'} {l' : List α} (hs : Src cells w a' m c' l') (hm : n + m ≤ maxLen) (hn : (n + m) * bytes ≤ 140737488355328) (hbase : base ≤ w.heap.size) :
    ∃ a2 c2 w', (Builtin.append_ #[t, t] ty #[.slice a n c, .slice a' m c']).run P w = .ok (.slice a2 (n + m) c2) w' ∧ OwnS size cells w' base e a2 (n + m) c2 (l ++ l') ∧ Below base w w' ∧ w.grownBy w' (Value.ownBlock (.slice a n c)) := by
  obtain ⟨i0, hi, hz0, hz1, hz2⟩ := info_parts T.info
  have hz3 := T.zero
  have he : (l ++ l').flatMap cells = l.flatMap cells ++ l'.flatMap cells := by simp
  have hlen : ∀ l : List α, (l.flatMap cells).length = l.length * size := fun l => by
    induction l with
    | nil => simp
    | cons x l ih => rw [List.flatMap_cons, List.length_append, ih, hz, List.length_cons, Nat.succ_mul]; omega
  rcases Option.eq_none_or_eq_some a' with hq | ⟨ad, hq⟩
  · subst hq
    obtain ⟨rfl, rfl⟩ := hs.none rfl
    have hl' : l' = [] := List.eq_nil_of_length_eq_zero hs.num
    subst hl'
    have hr := run_append_owned_none (P := P) (w := w) base t ty e i0 size T.und hi (.slice a n c) n (l.flatMap cells) h.own
    exact ⟨a, c, w, hr, by simpa using h, Below.refl _ _, ⟨rfl, rfl, rfl, Nat.le_refl _, fun _ _ _ => rfl⟩⟩
  · subst hq
    obtain ⟨v', w', hr, ho, hg, hnil⟩ := run_append_own (P := P) w base t ty e i0 z size bytes T.und hi hz0 hz1 hz2 hz3 hpos (.slice a n c) n (l.flatMap cells) h.own ad m c' (l'.flatMap cells) (by rw [hlen, hs.num]) (hs.at' ad rfl)
      (by intro u hu; obtain ⟨x, _, hx⟩ := List.mem_flatMap.1 hu; exact h1 x u hx) hm hn hbase
    have hbel : Below base w w' := (Below.refl base w).grown hg hbase (fun k hk => (h.own.lt k hk).1)
    rw [← he] at ho
    rcases ho.2 with ⟨rfl, h0⟩ | ⟨g, cap, cur, rfl, hgb, hh, r⟩
    · refine ⟨none, 0, w', ?_, ⟨?_, by simp [h.num, hs.num]⟩, hbel, hg⟩
      · rw [hr, h0]
      · rw [h0] at ho ⊢; exact ho
    · exact ⟨some ⟨g, 0, none⟩, cap, w', hr, ⟨ho, by simp [h.num, hs.num]⟩, hbel, hg⟩
section
variable {P : Program} {w : World} {ops : Array Oper} {rest : List Oper} {o : Oper} {a : Act} {Q : Exit → Act → World → Prop}
/-- At a step of a region that draws its order. -/
theorem step_append_sm {K : Act → World → Prop} {E : Prop} {t e : TypeId} {z : Value} {bytes : Nat} (T : RecT P t e z size bytes) (hpos : 0 < size) (hz : ∀ x, (cells x).length = size) (h1 : ∀ x, ∀ u ∈ cells x, u.oneCell' = true) (hgd : o.guard = none) (s y : Operand) (ho : o.op = .call { callee := .builtin .append, args := #[s, y], argTypes := #[t, t] })
    (base : Nat) {b n c} {l : List α} (hs : a.eval s = .slice b n c) (h : OwnS size cells w base e b n c l) {a' m c'} {l' : List α} (hy : a.eval y = .slice a' m c') (hx : Src cells w a' m c' l') (hm : n + m ≤ maxLen) (hn : (n + m) * bytes ≤ 140737488355328) (hbase : base ≤ w.heap.size)
    (k : ∀ a2 c2 w', OwnS size cells w' base e a2 (n + m) c2 (l ++ l') → Below base w w' → w.grownBy w' (Value.ownBlock (.slice b n c)) → K (a.put o.dst (.slice a2 (n + m) c2)) w') :
    if Region.wanted o (yielded ops a.tmps) = true then Oper.wp P o a w K Q else E := by
  have hw : Region.wanted o (yielded ops a.tmps) = true := by simp [Region.wanted, hgd]
  rw [if_pos hw]
  obtain ⟨a2, c2, w', hr, h2, h3, h4⟩ := run_append_sm T hpos hz h1 o.type w base h hx hm hn hbase
  unfold Oper.wp execOp
  simp only [ho, resolve, invoke, builtin, Sem.run_bind, Sem.run_pure, Result.andThen_ok, List.map_toArray, List.map_cons, List.map_nil, hs, hy, hr]
  exact k a2 c2 w' h2 h3 h4
end
end Go.Proofs.Ytjmjillfclfkgaa.bs
