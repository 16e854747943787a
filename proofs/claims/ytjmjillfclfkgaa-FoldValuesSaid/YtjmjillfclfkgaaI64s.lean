/-
  Slices of numbers of the kind i64, as the texts Bytes and Own have them for bytes (written out of those by program). No program is named here.
-/
import Derived.Test.YtjmjillfclfkgaaOwn
namespace Go.Proofs.Ytjmjillfclfkgaa.bs
open Go.ChangeShapes Go.WideShapes Go.ChangeAt Go.RowKit
set_option linter.unusedVariables false

/-- Numbers that are bytes. -/
def AllI (l : List Int) : Prop := ∀ n ∈ l, -9223372036854775808 ≤ n ∧ n ≤ 9223372036854775807

/-- The slice (a, n, c) has the elements l. -/
structure I64s (w : World) (a : Option Addr) (n c : Nat) (l : List Int) : Prop where
  len : l.length = n
  cap : n ≤ c
  most : c ≤ 9223372036854775807
  all : AllI l
  nil : a = none → c = 0
  at' : n = 0 ∨ ∃ b off, a = some ⟨b, off, none⟩ ∧ ∀ i, i < n → w.cell? ⟨b, off + i, none⟩ = some (.int .i64 (l.getD i 0))

theorem I64s.drewN {w : World} {a n c l} (h : I64s w a n c l) (m : Nat) : I64s (w.drewN m) a n c l :=
  ⟨h.len, h.cap, h.most, h.all, h.nil, h.at'⟩

theorem I64s.below {w w' : World} {a n c l} (h : I64s w a n c l) (hb : Below w.heap.size w w') : I64s w' a n c l := by
  refine ⟨h.len, h.cap, h.most, h.all, h.nil, ?_⟩
  rcases h.at' with h0 | ⟨b, off, ha, hc⟩
  · exact .inl h0
  · refine .inr ⟨b, off, ha, fun i hi => ?_⟩
    rw [hb.cell (World.block_lt_of_cell? w _ (hc i hi))]
    exact hc i hi

theorem AllI.getD {l : List Int} (h : AllI l) (i : Nat) : -9223372036854775808 ≤ l.getD i 0 ∧ l.getD i 0 ≤ 9223372036854775807 := by
  rw [List.getD_eq_getElem?_getD]
  rcases Nat.lt_or_ge i l.length with hi | hi
  · rw [List.getElem?_eq_getElem hi]; exact h _ (List.getElem_mem hi)
  · rw [List.getElem?_eq_none hi]; simp


def cellsI (l : List Int) : List Value := l.map (Value.int .i64)
theorem cellsI_append (x y : List Int) : cellsI (x ++ y) = cellsI x ++ cellsI y := List.map_append

structure OwnI (w : World) (base : Nat) (e : TypeId) (a : Option Addr) (n c : Nat) (l : List Int) : Prop where
  own : w.ownsRow base e 1 (.slice a n c) n (cellsI l)
  all : AllI l

theorem OwnI.len {w : World} {base e a n c l} (h : OwnI w base e a n c l) : l.length = n := by
  have := h.own.1
  simpa [cellsI] using this

theorem OwnI.cases {w : World} {base e a n c l} (h : OwnI w base e a n c l) : (a = none ∧ n = 0 ∧ c = 0) ∨ ∃ g, a = some ⟨g, 0, none⟩ ∧ base ≤ g ∧ g < w.heap.size ∧ n ≤ c ∧ c ≤ maxLen := by
  rcases h.own.2 with ⟨hv, hn⟩ | ⟨g, cap, cur, hv, hg, hh, hn, hc, _⟩
  · simp only [Value.slice.injEq] at hv
    exact .inl ⟨hv.1, hn, hv.2.2⟩
  · simp only [Value.slice.injEq] at hv
    obtain ⟨rfl, _, rfl⟩ := hv
    exact .inr ⟨g, rfl, hg, (Array.getElem?_eq_some_iff.1 hh).1, hn, hc⟩

theorem OwnI.reads {w : World} {base e a n c l} (h : OwnI w base e a n c l) : I64s w a n c l := by
  rcases h.cases with ⟨rfl, rfl, rfl⟩ | ⟨g, rfl, hg, hs, hn, hc⟩
  · exact ⟨h.len, Nat.le_refl _, by omega, h.all, fun _ => rfl, .inl rfl⟩
  · refine ⟨h.len, hn, by unfold maxLen at hc; omega, h.all, by simp, .inr ⟨g, 0, rfl, fun i hi => ?_⟩⟩
    rw [Nat.zero_add, h.own.cellAt i (by omega), cellsI, List.getElem?_map, List.getElem?_eq_getElem (by rw [h.len]; exact hi), List.getD_eq_getElem?_getD, List.getElem?_eq_getElem (by rw [h.len]; exact hi)]
    rfl

theorem OwnI.mono {w : World} {base base' e a n c l} (h : OwnI w base e a n c l) (hb : base' ≤ base) : OwnI w base' e a n c l := by
  refine ⟨⟨h.own.1, ?_⟩, h.all⟩
  rcases h.own.2 with hv | ⟨g, cap, cur, hv, hg, r⟩
  · exact .inl hv
  · exact .inr ⟨g, cap, cur, hv, Nat.le_trans hb hg, r⟩

/-- What is below a bound that the slice's block is below stays, and so does the slice. -/
theorem OwnI.below {w w' : World} {base e a n c l} (h : OwnI w base e a n c l) (hb : Below w.heap.size w w') : OwnI w' base e a n c l := by
  refine ⟨⟨h.own.1, ?_⟩, h.all⟩
  rcases h.own.2 with hv | ⟨g, cap, cur, hv, hg, hh, r⟩
  · exact .inl hv
  · exact .inr ⟨g, cap, cur, hv, hg, by rw [hb.block g (Array.getElem?_eq_some_iff.1 hh).1]; exact hh, r⟩

theorem OwnI.drewN {w : World} {base e a n c l} (h : OwnI w base e a n c l) (m : Nat) : OwnI (w.drewN m) base e a n c l :=
  h.below (below_drewN (Below.refl _ _) m)
theorem OwnI.drew {w : World} {base e a n c l} (h : OwnI w base e a n c l) : OwnI w.drew base e a n c l :=
  h.below (Below.drew (Below.refl _ _))
theorem OwnI.alloc {w : World} {base e a n c l} (h : OwnI w base e a n c l) (o : Obj) : OwnI (w.alloc o) base e a n c l :=
  h.below ((Below.refl _ _).alloc (Nat.le_refl _) o)

theorem OwnI.nil (w : World) (base : Nat) (e : TypeId) : OwnI w base e none 0 0 [] := ⟨World.ownsRow_nil w base e 1, by simp [AllI]⟩

/-- A row that was just made, with all its room, is owned. -/
theorem OwnI.made (w : World) (base : Nat) (e : TypeId) (l : List Int) (cur : Array Value) (hcur : cur = (cellsI l).toArray) (hb : base ≤ w.heap.size) (hl : l.length ≤ maxLen) (hall : AllI l) :
    OwnI (w.alloc (.cells cur e)) base e (some ⟨w.heap.size, 0, none⟩) l.length l.length l := by
  subst hcur
  refine ⟨⟨by simp [cellsI], .inr ⟨w.heap.size, l.length, _, rfl, hb, heap_alloc_new w _, Nat.le_refl _, hl, by simp [cellsI], ?_⟩⟩, hall⟩
  rw [List.take_of_length_le (by simp [cellsI])]

/-- One byte, in a new block of its own. -/
theorem I64s.one (w : World) (e : TypeId) (z : Int) (h0 : -9223372036854775808 ≤ z ∧ z ≤ 9223372036854775807) : I64s (w.alloc (.cells #[.int .i64 z] e)) (some ⟨w.heap.size, 0, none⟩) 1 1 [z] :=
  (OwnI.made w 0 e [z] _ rfl (Nat.zero_le _) (by simp [maxLen]) (by simpa [AllI] using h0)).reads

/-- A type of slices of bytes. -/
structure I64T (P : Program) (t e : TypeId) : Prop where
  und : P.underlying t = some (.slice e)
  info : (P.info? e).map (fun i => (i.zero, i.size, i.bytes)) = some (some (.int .i64 0), 1, 8)

theorem run_append_I2 {P : Program} {t e : TypeId} (T : I64T P t e) (ty : TypeId) (w : World) (base : Nat) {a n c l} (h : OwnI w base e a n c l) {a' m c' l'} (hs : I64s w a' m c' l')
    (hn : n + m ≤ 17592186044416) (hbase : base ≤ w.heap.size) :
    ∃ a2 c2 w', (Builtin.append_ #[t, t] ty #[.slice a n c, .slice a' m c']).run P w = .ok (.slice a2 (n + m) c2) w' ∧ OwnI w' base e a2 (n + m) c2 (l ++ l') ∧ Below base w w' ∧ (a2 = none ↔ a = none ∧ m = 0) ∧ w.grownBy w' (Value.ownBlock (.slice a n c)) := by
  obtain ⟨i0, hi, hz0, hz1, hz2⟩ := info_parts T.info
  have fin : ∀ v' w', (Builtin.append_ #[t, t] ty #[.slice a n c, .slice a' m c']).run P w = .ok v' w' → w'.ownsRow base e 1 v' (n + m) (cellsI (l ++ l')) → w.grownBy w' (Value.ownBlock (.slice a n c)) → (v' = .slice none 0 0 ↔ Value.slice a n c = .slice none 0 0 ∧ m = 0) →
      ∃ a2 c2 w', (Builtin.append_ #[t, t] ty #[.slice a n c, .slice a' m c']).run P w = .ok (.slice a2 (n + m) c2) w' ∧ OwnI w' base e a2 (n + m) c2 (l ++ l') ∧ Below base w w' ∧ (a2 = none ↔ a = none ∧ m = 0) ∧ w.grownBy w' (Value.ownBlock (.slice a n c)) := by
    intro v' w' hr ho hg hnil
    have hall : AllI (l ++ l') := fun x hx => (List.mem_append.1 hx).elim (h.all x) (hs.all x)
    have hbel : Below base w w' := (Below.refl base w).grown hg hbase (fun k hk => (h.own.lt k hk).1)
    have ha : a = none → n = 0 ∧ c = 0 := fun hz => by
      rcases h.cases with ⟨_, x, y⟩ | ⟨g, x, _⟩
      · exact ⟨x, y⟩
      · rw [hz] at x; cases x
    rcases ho.2 with ⟨rfl, h0⟩ | ⟨g, cap, cur, rfl, hgb, hh, r⟩
    · refine ⟨none, 0, w', ?_, ⟨?_, hall⟩, hbel, ?_, hg⟩
      · rw [hr, h0]
      · rw [h0] at ho ⊢; exact ho
      · have := hnil.1 rfl
        simp only [Value.slice.injEq] at this
        exact ⟨fun _ => ⟨this.1.1, this.2⟩, fun _ => rfl⟩
    · refine ⟨some ⟨g, 0, none⟩, cap, w', hr, ⟨ho, hall⟩, hbel, ?_, hg⟩
      simp only [reduceCtorEq, false_iff]
      rintro ⟨hz, hm0⟩
      obtain ⟨x, y⟩ := ha hz
      have := hnil.2 ⟨by rw [hz, x, y], hm0⟩
      simp at this
  rcases Option.eq_none_or_eq_some a' with hz | ⟨ad, hz⟩
  · subst hz
    have hc' := hs.nil rfl
    have hm : m = 0 := by have := hs.cap; omega
    subst hc' hm
    have hl' : l' = [] := List.eq_nil_of_length_eq_zero hs.len
    subst hl'
    have hr := run_append_owned_none (P := P) (w := w) base t ty e i0 1 T.und hi (.slice a n c) n (cellsI l) h.own
    refine fin _ _ hr (by simpa using h.own) ⟨rfl, rfl, rfl, Nat.le_refl _, fun _ _ _ => rfl⟩ (by simp)
  · subst hz
    have hcells : ∀ j u, (cellsI l')[j]? = some u → w.cell? (ad.add j) = some u := by
      intro j u hu
      rcases hs.at' with h0 | ⟨b, off, hab, hc⟩
      · have : l' = [] := List.eq_nil_of_length_eq_zero (by rw [hs.len, h0])
        subst this
        simp [cellsI] at hu
      · simp only [Option.some.injEq] at hab
        subst hab
        have hj : j < m := by
          have := (List.getElem?_eq_some_iff.1 hu).1
          rw [← hs.len]
          simpa [cellsI] using this
        have e1 : (⟨b, off, none⟩ : Addr).add j = ⟨b, off + j, none⟩ := by unfold Addr.add; split <;> simp_all
        rw [e1, hc j hj, ← hu, cellsI, List.getElem?_map, List.getElem?_eq_getElem (by rw [hs.len]; exact hj), List.getD_eq_getElem?_getD, List.getElem?_eq_getElem (by rw [hs.len]; exact hj)]
        rfl
    obtain ⟨v', w', hr, ho, hg, hnil⟩ := run_append_own (P := P) w base t ty e i0 (.int .i64 0) 1 8 T.und hi hz0 hz1 hz2 rfl (by decide) (.slice a n c) n (cellsI l) h.own ad m c' (cellsI l') (by simp [cellsI, hs.len]) hcells
      (by intro u hu; obtain ⟨x, _, rfl⟩ := List.mem_map.1 hu; rfl) (by unfold maxLen; omega) (by omega) hbase
    exact fin v' w' hr (by rw [cellsI_append]; exact ho) hg hnil

theorem run_append_I {P : Program} {t e : TypeId} (T : I64T P t e) (ty : TypeId) (w : World) (base : Nat) {a n c l} (h : OwnI w base e a n c l) {a' m c' l'} (hs : I64s w a' m c' l')
    (hn : n + m ≤ 17592186044416) (hbase : base ≤ w.heap.size) :
    ∃ a2 c2 w', (Builtin.append_ #[t, t] ty #[.slice a n c, .slice a' m c']).run P w = .ok (.slice a2 (n + m) c2) w' ∧ OwnI w' base e a2 (n + m) c2 (l ++ l') ∧ Below base w w' ∧ (a2 = none ↔ a = none ∧ m = 0) := by
  obtain ⟨a2, c2, w', h1, h2, h3, h4, _⟩ := run_append_I2 T ty w base h hs hn hbase
  exact ⟨a2, c2, w', h1, h2, h3, h4⟩

section
variable {P : Program} {w : World} {ops : Array Oper} {rest : List Oper} {o : Oper} {a : Act} {Q : Exit → Act → World → Prop}

theorem wp_append_I {K : Act → World → Prop} {t e : TypeId} (T : I64T P t e) (s x : Operand) (ho : o.op = .call { callee := .builtin .append, args := #[s, x], argTypes := #[t, t] })
    (base : Nat) {b n c l} (hs : a.eval s = .slice b n c) (h : OwnI w base e b n c l) {b' m c' l'} (hx : a.eval x = .slice b' m c') (hb : I64s w b' m c' l') (hn : n + m ≤ 17592186044416) (hbase : base ≤ w.heap.size)
    (k : ∀ a2 c2 w', OwnI w' base e a2 (n + m) c2 (l ++ l') → Below base w w' → (a2 = none ↔ b = none ∧ m = 0) → K (a.put o.dst (.slice a2 (n + m) c2)) w') : o.wp P a w K Q := by
  obtain ⟨a2, c2, w', hr, h2, h3, h4⟩ := run_append_I T o.type w base h hb hn hbase
  unfold Oper.wp execOp
  simp only [ho, resolve, invoke, builtin, Sem.run_bind, Sem.run_pure, Result.andThen_ok, List.map_toArray, List.map_cons, List.map_nil, hs, hx, hr]
  exact k a2 c2 w' h2 h3 h4

/-- The append of bytes, whether it is guarded or not. -/
theorem wpList_append_I {t e : TypeId} (T : I64T P t e) (hw : Region.wanted o (yielded ops a.tmps) = true) (s x : Operand) (ho : o.op = .call { callee := .builtin .append, args := #[s, x], argTypes := #[t, t] })
    (base : Nat) {b n c l} (hs : a.eval s = .slice b n c) (h : OwnI w base e b n c l) {b' m c' l'} (hx : a.eval x = .slice b' m c') (hb : I64s w b' m c' l') (hn : n + m ≤ 17592186044416) (hbase : base ≤ w.heap.size)
    (k : ∀ a2 c2 w', OwnI w' base e a2 (n + m) c2 (l ++ l') → Below base w w' → (a2 = none ↔ b = none ∧ m = 0) → wpList P ops Q rest (a.put o.dst (.slice a2 (n + m) c2)) w') : wpList P ops Q (o :: rest) a w :=
  BigFrame.wpList_want hw fun K hK => wp_append_I T s x ho base hs h hx hb hn hbase fun a2 c2 w' h2 h3 h4 => hK _ _ (k a2 c2 w' h2 h3 h4)

/-- The same, which also tells that no other block is turned. -/
theorem wpList_append_I2 {t e : TypeId} (T : I64T P t e) (hw : Region.wanted o (yielded ops a.tmps) = true) (s x : Operand) (ho : o.op = .call { callee := .builtin .append, args := #[s, x], argTypes := #[t, t] })
    (base : Nat) {b n c l} (hs : a.eval s = .slice b n c) (h : OwnI w base e b n c l) {b' m c' l'} (hx : a.eval x = .slice b' m c') (hb : I64s w b' m c' l') (hn : n + m ≤ 17592186044416) (hbase : base ≤ w.heap.size)
    (k : ∀ a2 c2 w', OwnI w' base e a2 (n + m) c2 (l ++ l') → Below base w w' → w.grownBy w' (Value.ownBlock (.slice b n c)) → wpList P ops Q rest (a.put o.dst (.slice a2 (n + m) c2)) w') : wpList P ops Q (o :: rest) a w :=
  BigFrame.wpList_want hw fun K hK => by
    obtain ⟨a2, c2, w', hr, h2, h3, h4, h5⟩ := run_append_I2 T o.type w base h hb hn hbase
    unfold Oper.wp execOp
    simp only [ho, resolve, invoke, builtin, Sem.run_bind, Sem.run_pure, Result.andThen_ok, List.map_toArray, List.map_cons, List.map_nil, hs, hx, hr]
    exact hK _ _ (k a2 c2 w' h2 h3 h5)
/-- At a step of a region that draws its order. -/
theorem step_append_I {K : Act → World → Prop} {E : Prop} {t e : TypeId} (T : I64T P t e) (hgd : o.guard = none) (s x : Operand) (ho : o.op = .call { callee := .builtin .append, args := #[s, x], argTypes := #[t, t] })
    (base : Nat) {b n c l} (hs : a.eval s = .slice b n c) (h : OwnI w base e b n c l) {b' m c' l'} (hx : a.eval x = .slice b' m c') (hb : I64s w b' m c' l') (hn : n + m ≤ 17592186044416) (hbase : base ≤ w.heap.size)
    (k : ∀ a2 c2 w', OwnI w' base e a2 (n + m) c2 (l ++ l') → Below base w w' → w.grownBy w' (Value.ownBlock (.slice b n c)) → K (a.put o.dst (.slice a2 (n + m) c2)) w') :
    if Region.wanted o (yielded ops a.tmps) = true then Oper.wp P o a w K Q else E := by
  have hw : Region.wanted o (yielded ops a.tmps) = true := by simp [Region.wanted, hgd]
  rw [if_pos hw]
  obtain ⟨a2, c2, w', hr, h2, h3, h4, h5⟩ := run_append_I2 T o.type w base h hb hn hbase
  unfold Oper.wp execOp
  simp only [ho, resolve, invoke, builtin, Sem.run_bind, Sem.run_pure, Result.andThen_ok, List.map_toArray, List.map_cons, List.map_nil, hs, hx, hr]
  exact k a2 c2 w' h2 h3 h5

/-- 'make([]T, n)'. -/
theorem wpList_make_I {t e : TypeId} (T : I64T P t e) (hg : o.guard = none) (l c : Operand) (hop : o.op = Op.makeSlice t l c)
    (base : Nat) (kl kc : IntKind) (L C : Int) (n : Nat) (hl : a.eval l = .int kl L) (hc : a.eval c = .int kc C) (hL : L = (n : Int)) (hC : C = (n : Int)) (b2 : n ≤ 17592186044416) (hbase : base ≤ w.heap.size)
    (k : ∀ w', OwnI w' base e (some ⟨w.heap.size, 0, none⟩) n n (List.replicate n 0) → Below w.heap.size w w' → w.heap.size < w'.heap.size → wpList P ops Q rest (a.put o.dst (.slice (some ⟨w.heap.size, 0, none⟩) n n)) w') : wpList P ops Q (o :: rest) a w := by
  obtain ⟨i0, hi, hz0, hz1, hz2⟩ := info_parts T.info
  refine wpList_make_full w hg l c t hop base e i0 (.int .i64 0) 1 T.und hi hz0 hz1 kl kc L C n hl hc hL hC (by rw [hz2]; omega) (by unfold maxLen; omega) hbase ?_
  intro w' ho hgr
  have e1 : (madeCells (Value.cells (.int .i64 0)) (n * 1)).toList = cellsI (List.replicate n 0) := by
    rw [Nat.mul_one, show Value.cells (.int .i64 0) = #[Value.int .i64 0] from rfl, toList_madeCells_one, cellsI, List.map_replicate]
  rw [e1] at ho
  have hall : AllI (List.replicate n 0) := by intro x hx; have := List.eq_of_mem_replicate hx; subst this; omega
  refine k w' ⟨ho, hall⟩ ((Below.refl _ _).grown hgr (Nat.le_refl _) (by simp)) ?_
  rcases ho.2 with ⟨hv, _⟩ | ⟨g, cap, cur, hv, _, hh, _⟩
  · simp at hv
  · simp only [Value.slice.injEq, Option.some.injEq, Addr.mk.injEq, and_true] at hv
    have := (Array.getElem?_eq_some_iff.1 hh).1
    omega

/-- 'make([]T, n, m)'. -/
theorem wpList_mk_I {t e : TypeId} (T : I64T P t e) (hg : o.guard = none) (l c : Operand) (hop : o.op = Op.makeSlice t l c)
    (base : Nat) (kl kc : IntKind) (L C : Int) (n m : Nat) (hl : a.eval l = .int kl L) (hc : a.eval c = .int kc C) (hL : L = (n : Int)) (hC : C = (m : Int)) (hnm : n ≤ m) (b2 : m ≤ 17592186044416) (hbase : base ≤ w.heap.size)
    (k : ∀ w', OwnI w' base e (some ⟨w.heap.size, 0, none⟩) n m (List.replicate n 0) → Below w.heap.size w w' → w.heap.size < w'.heap.size → wpList P ops Q rest (a.put o.dst (.slice (some ⟨w.heap.size, 0, none⟩) n m)) w') : wpList P ops Q (o :: rest) a w := by
  obtain ⟨i0, hi, hz0, hz1, hz2⟩ := info_parts T.info
  refine wpList_plain hg fun K hK' => ?_
  subst hL hC
  have hrun := run_make (P := P) w t e i0 (.int .i64 0) T.und hi hz0 kl kc (n : Int) (m : Int) (by omega) (by omega) (by rw [hz2]; omega) (by omega)
  simp only [Int.toNat_natCast] at hrun
  unfold Oper.wp
  simp [execOp, hop, hl, hc, hrun, Result.andThen]
  have e1 : (madeCells (Value.cells (.int .i64 0)) (m * i0.size)).toList = cellsI (List.replicate m 0) := by
    rw [hz1, Nat.mul_one, show Value.cells (.int .i64 0) = #[Value.int .i64 0] from rfl, toList_madeCells_one, cellsI, List.map_replicate]
  have hall : AllI (List.replicate n 0) := by intro x hx; have := List.eq_of_mem_replicate hx; subst this; omega
  refine hK' _ _ (k _ ⟨⟨by simp [cellsI], .inr ⟨w.heap.size, m, _, rfl, hbase, heap_alloc_new w _, hnm, by unfold maxLen; omega, ?_, ?_⟩⟩, hall⟩ ((Below.refl _ _).alloc (Nat.le_refl _) _) (by simp))
  · rw [size_madeCells, hz1]
  · rw [e1, cellsI, cellsI, ← List.map_take, List.take_replicate, Nat.mul_one, Nat.min_eq_left hnm]
end

/-- A store into an owned slice. -/
theorem OwnI.stored {w : World} {base e n c l} {g : Nat} (h : OwnI w base e (some ⟨g, 0, none⟩) n c l) (j : Nat) (x : Int) (hx : -9223372036854775808 ≤ x ∧ x ≤ 9223372036854775807) :
    OwnI (w.setCell ⟨g, j, none⟩ (.int .i64 x)) base e (some ⟨g, 0, none⟩) n c (l.set j x) := by
  refine ⟨?_, ?_⟩
  · have := (h.own.stored j (.int .i64 x)).1
    rwa [show cellsI (l.set j x) = (cellsI l).set j (.int .i64 x) by simp [cellsI]]
  · intro y hy
    rcases List.mem_or_eq_of_mem_set hy with h1 | h1
    · exact h.all y h1
    · subst h1; exact hx
theorem OwnI.cellAt {w : World} {base e n c l} {g : Nat} (h : OwnI w base e (some ⟨g, 0, none⟩) n c l) (j : Nat) (hj : j < n) : w.cell? ⟨g, j, none⟩ = some (.int .i64 (l.getD j 0)) := by
  rw [h.own.cellAt j (by omega), cellsI, List.getElem?_map, List.getElem?_eq_getElem (by rw [h.len]; exact hj), List.getD_eq_getElem?_getD, List.getElem?_eq_getElem (by rw [h.len]; exact hj)]
  rfl
theorem OwnI.frozenAt {w : World} {base e n c l} {g : Nat} (h : OwnI w base e (some ⟨g, 0, none⟩) n c l) (j : Nat) : w.frozen? ⟨g, j, none⟩ = false := h.own.frozenAt j
/-- An owned slice stays while its block does. -/
theorem OwnI.keep {w w' : World} {base e n c l} {g : Nat} (h : OwnI w base e (some ⟨g, 0, none⟩) n c l) (hk : w'.heap[g]? = w.heap[g]?) : OwnI w' base e (some ⟨g, 0, none⟩) n c l := by
  refine ⟨⟨h.own.1, ?_⟩, h.all⟩
  rcases h.own.2 with hv | ⟨g', cap, cur, hv, hg, hh, r⟩
  · exact .inl hv
  · refine .inr ⟨g', cap, cur, hv, hg, ?_, r⟩
    simp only [Value.slice.injEq, Option.some.injEq, Addr.mk.injEq, and_true] at hv
    rw [← hv.1, hk, hv.1]
    exact hh
theorem OwnI.block {w : World} {base e n c l} {g : Nat} (h : OwnI w base e (some ⟨g, 0, none⟩) n c l) : ∃ cur, w.heap[g]? = some (.cells cur e (0, 0)) := by
  rcases h.own.2 with ⟨hv, _⟩ | ⟨g', cap, cur, hv, hg, hh, r⟩
  · simp at hv
  · simp only [Value.slice.injEq, Option.some.injEq, Addr.mk.injEq, and_true] at hv
    rw [hv.1]
    exact ⟨cur, hh⟩
end Go.Proofs.Ytjmjillfclfkgaa.bs
