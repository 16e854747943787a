/-
  Slices of structs that a call makes itself: 'OwnS size cells w base e a n c l': the slice (a, n, c) is nil, or lies in a block from 'base' on, and holds the elements l, of which 'cells' says the cells; what append of one does to it. No program is named here.
-/
import Derived.Test.YtlkggpjdaaglmaaDoorStructs
namespace Go.Proofs.YtlkggpjdaaglmaaDoor.bs
open Go.ChangeShapes Go.WideShapes Go.ChangeAt Go.RowKit
set_option linter.unusedVariables false

structure OwnS {α : Type} (size : Nat) (cells : α → List Value) (w : World) (base : Nat) (e : TypeId) (a : Option Addr) (n c : Nat) (l : List α) : Prop where
  own : w.ownsRow base e size (.slice a n c) n (l.flatMap cells)
  num : l.length = n

variable {α : Type} {size : Nat} {cells : α → List Value}

theorem OwnS.cases {w : World} {base e a n c} {l : List α} (h : OwnS size cells w base e a n c l) : (a = none ∧ n = 0 ∧ c = 0) ∨ ∃ g, a = some ⟨g, 0, none⟩ ∧ base ≤ g ∧ g < w.heap.size ∧ n ≤ c ∧ c ≤ maxLen := by
  rcases h.own.2 with ⟨hv, hn⟩ | ⟨g, cap, cur, hv, hg, hh, hn, hc, _⟩
  · simp only [Value.slice.injEq] at hv
    exact .inl ⟨hv.1, hn, hv.2.2⟩
  · simp only [Value.slice.injEq] at hv
    obtain ⟨rfl, _, rfl⟩ := hv
    exact .inr ⟨g, rfl, hg, (Array.getElem?_eq_some_iff.1 hh).1, hn, hc⟩

theorem OwnS.mono {w : World} {base base' e a n c} {l : List α} (h : OwnS size cells w base e a n c l) (hb : base' ≤ base) : OwnS size cells w base' e a n c l := by
  refine ⟨⟨h.own.1, ?_⟩, h.num⟩
  rcases h.own.2 with hv | ⟨g, cap, cur, hv, hg, r⟩
  · exact .inl hv
  · exact .inr ⟨g, cap, cur, hv, Nat.le_trans hb hg, r⟩

theorem OwnS.below {w w' : World} {base e a n c} {l : List α} (h : OwnS size cells w base e a n c l) (hb : Below w.heap.size w w') : OwnS size cells w' base e a n c l := by
  refine ⟨⟨h.own.1, ?_⟩, h.num⟩
  rcases h.own.2 with hv | ⟨g, cap, cur, hv, hg, hh, r⟩
  · exact .inl hv
  · exact .inr ⟨g, cap, cur, hv, hg, by rw [hb.block g (Array.getElem?_eq_some_iff.1 hh).1]; exact hh, r⟩

theorem OwnS.nil (w : World) (base : Nat) (e : TypeId) : OwnS size cells w base e none 0 0 ([] : List α) := ⟨World.ownsRow_nil w base e size, rfl⟩

theorem flat_at (hz : ∀ x, (cells x).length = size) (l : List α) (i j : Nat) (x : α) (u : Value) (hi : l[i]? = some x) (hj : (cells x)[j]? = some u) : (l.flatMap cells)[i * size + j]? = some u := by
  induction l generalizing i with
  | nil => simp at hi
  | cons y l ih =>
    rw [List.flatMap_cons]
    cases i with
    | zero =>
      simp only [List.getElem?_cons_zero, Option.some.injEq] at hi
      subst hi
      rw [Nat.zero_mul, Nat.zero_add, List.getElem?_append_left (List.getElem?_eq_some_iff.1 hj).1]
      exact hj
    | succ i =>
      rw [List.getElem?_cons_succ] at hi
      rw [List.getElem?_append_right (by rw [hz, Nat.succ_mul]; omega), hz, show (i + 1) * size + j - size = i * size + j by rw [Nat.succ_mul]; omega]
      exact ih i hi

/-- It can be read. -/
theorem OwnS.recs {w : World} {base e a n c} {l : List α} (h : OwnS size cells w base e a n c l) (hpos : 0 < size) (hz : ∀ x, (cells x).length = size) (Elem : World → Nat → Nat → α → Prop)
    (hel : ∀ b o x, x ∈ l → (∀ j u, (cells x)[j]? = some u → w.cell? ⟨b, o + j, none⟩ = some u) → Elem w b o x) : Recs size Elem w a n c l := by
  rcases h.cases with ⟨rfl, rfl, rfl⟩ | ⟨g, rfl, hg, hs, hn, hc⟩
  · exact ⟨h.num, Nat.le_refl _, by omega, fun _ => rfl, .inl rfl⟩
  · refine ⟨h.num, hn, by unfold maxLen at hc; omega, by simp, .inr ⟨g, 0, rfl, hs, fun i x hi => ?_⟩⟩
    have hil : i < n := by rw [← h.num]; exact (List.getElem?_eq_some_iff.1 hi).1
    refine hel g _ x (List.mem_of_getElem? hi) (fun j u hj => ?_)
    have hjs : j < size := by rw [← hz x]; exact (List.getElem?_eq_some_iff.1 hj).1
    have hb : i * size + j < n * size := by
      have := Nat.mul_le_mul_right size (show i + 1 ≤ n by omega)
      rw [Nat.succ_mul] at this
      omega
    rw [Nat.zero_add, h.own.cellAt (i * size + j) hb]
    exact flat_at hz l i j x u hi hj

/-- A type of slices of structs. -/
structure RecT (P : Program) (t e : TypeId) (z : Value) (size bytes : Nat) : Prop where
  und : P.underlying t = some (.slice e)
  info : (P.info? e).map (fun i => (i.zero, i.size, i.bytes)) = some (some z, size, bytes)
  zero : z.cells.size = size

theorem run_append_s {P : Program} {t e : TypeId} {z : Value} {bytes : Nat} (T : RecT P t e z size bytes) (hpos : 0 < size) (ty : TypeId) (w : World) (base : Nat) {a n c} {l : List α} (h : OwnS size cells w base e a n c l)
    (x : α) (hx : (cells x).length = size) (h1 : ∀ u ∈ cells x, u.oneCell' = true) (ad : Addr) (c' : Nat) (hc : ∀ j u, (cells x)[j]? = some u → w.cell? (ad.add j) = some u)
    (hm : n + 1 ≤ maxLen) (hn : (n + 1) * bytes ≤ 140737488355328) (hbase : base ≤ w.heap.size) :
    ∃ a2 c2 w', (Builtin.append_ #[t, t] ty #[.slice a n c, .slice (some ad) 1 c']).run P w = .ok (.slice a2 (n + 1) c2) w' ∧ OwnS size cells w' base e a2 (n + 1) c2 (l ++ [x]) ∧ Below base w w' ∧ w.grownBy w' (Value.ownBlock (.slice a n c)) := by
  obtain ⟨i0, hi, hz0, hz1, hz2⟩ := info_parts T.info
  have hz3 := T.zero
  obtain ⟨v', w', hr, ho, hg, hnil⟩ := run_append_own (P := P) w base t ty e i0 z size bytes T.und hi hz0 hz1 hz2 hz3 hpos (.slice a n c) n (l.flatMap cells) h.own ad 1 c' (cells x) (by rw [hx, Nat.one_mul]) hc h1 hm hn hbase
  have hbel : Below base w w' := (Below.refl base w).grown hg hbase (fun k hk => (h.own.lt k hk).1)
  have he : (l ++ [x]).flatMap cells = l.flatMap cells ++ cells x := by simp
  rcases ho.2 with ⟨rfl, h0⟩ | ⟨g, cap, cur, rfl, hgb, hh, r⟩
  · omega
  · exact ⟨some ⟨g, 0, none⟩, cap, w', hr, ⟨by rw [he]; exact ho, by simp [h.num]⟩, hbel, hg⟩

section
variable {P : Program} {w : World} {ops : Array Oper} {rest : List Oper} {o : Oper} {a : Act} {Q : Exit → Act → World → Prop}
theorem wpList_append_s {t e : TypeId} {z : Value} {bytes : Nat} (T : RecT P t e z size bytes) (hpos : 0 < size) (hw : Region.wanted o (yielded ops a.tmps) = true) (s y : Operand) (ho : o.op = .call { callee := .builtin .append, args := #[s, y], argTypes := #[t, t] })
    (base : Nat) {b n c} {l : List α} (hs : a.eval s = .slice b n c) (h : OwnS size cells w base e b n c l) {ad c'} (hy : a.eval y = .slice (some ad) 1 c') (x : α) (hx : (cells x).length = size) (h1 : ∀ u ∈ cells x, u.oneCell' = true)
    (hc : ∀ j u, (cells x)[j]? = some u → w.cell? (ad.add j) = some u) (hn : (n + 1) * bytes ≤ 140737488355328) (hm : n + 1 ≤ maxLen) (hbase : base ≤ w.heap.size)
    (k : ∀ a2 c2 w', OwnS size cells w' base e a2 (n + 1) c2 (l ++ [x]) → Below base w w' → wpList P ops Q rest (a.put o.dst (.slice a2 (n + 1) c2)) w') : wpList P ops Q (o :: rest) a w :=
  BigFrame.wpList_want hw fun K hK => by
    obtain ⟨a2, c2, w', hr, h2, h3, h4⟩ := run_append_s T hpos o.type w base h x hx h1 ad c' hc hm hn hbase
    unfold Oper.wp execOp
    simp only [ho, resolve, invoke, builtin, Sem.run_bind, Sem.run_pure, Result.andThen_ok, List.map_toArray, List.map_cons, List.map_nil, hs, hy, hr]
    exact hK _ _ (k a2 c2 w' h2 h3)

/-- At a step of a region that draws its order. -/
theorem step_append_s {K : Act → World → Prop} {E : Prop} {t e : TypeId} {z : Value} {bytes : Nat} (T : RecT P t e z size bytes) (hpos : 0 < size) (hgd : o.guard = none) (s y : Operand) (ho : o.op = .call { callee := .builtin .append, args := #[s, y], argTypes := #[t, t] })
    (base : Nat) {b n c} {l : List α} (hs : a.eval s = .slice b n c) (h : OwnS size cells w base e b n c l) {ad c'} (hy : a.eval y = .slice (some ad) 1 c') (x : α) (hx : (cells x).length = size) (h1 : ∀ u ∈ cells x, u.oneCell' = true)
    (hc : ∀ j u, (cells x)[j]? = some u → w.cell? (ad.add j) = some u) (hn : (n + 1) * bytes ≤ 140737488355328) (hm : n + 1 ≤ maxLen) (hbase : base ≤ w.heap.size)
    (k : ∀ a2 c2 w', OwnS size cells w' base e a2 (n + 1) c2 (l ++ [x]) → Below base w w' → w.grownBy w' (Value.ownBlock (.slice b n c)) → K (a.put o.dst (.slice a2 (n + 1) c2)) w') :
    if Region.wanted o (yielded ops a.tmps) = true then Oper.wp P o a w K Q else E := by
  have hw : Region.wanted o (yielded ops a.tmps) = true := by simp [Region.wanted, hgd]
  rw [if_pos hw]
  obtain ⟨a2, c2, w', hr, h2, h3, h4⟩ := run_append_s T hpos o.type w base h x hx h1 ad c' hc hm hn hbase
  unfold Oper.wp execOp
  simp only [ho, resolve, invoke, builtin, Sem.run_bind, Sem.run_pure, Result.andThen_ok, List.map_toArray, List.map_cons, List.map_nil, hs, hy, hr]
  exact k a2 c2 w' h2 h3 h4
end
/-- A source of one element, in a new block of its own. -/
theorem src_new (W : World) (cs : List Value) (e : TypeId) : ∀ j u, cs[j]? = some u → (W.alloc (.cells cs.toArray e)).cell? ((⟨W.heap.size, 0, none⟩ : Addr).add j) = some u := by
  intro j u h
  have hadd : (⟨W.heap.size, 0, none⟩ : Addr).add j = ⟨W.heap.size, j, none⟩ := by unfold Addr.add; split <;> simp_all
  rw [hadd, cell_new _ _ _ _ _ rfl, List.getElem?_toArray]
  exact h
end Go.Proofs.YtlkggpjdaaglmaaDoor.bs
