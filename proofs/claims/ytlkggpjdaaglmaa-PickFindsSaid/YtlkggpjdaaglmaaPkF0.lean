import Derived.Test.YtlkggpjdaaglmaaRows
import Derived.WalkKit
import Derived.ProofKit
import Derived.Lib.Hide
import Derived.Below
import Derived.WalkSmall
import Derived.Outline
import Derived.Deep.QuietTactic
import Derived.BigQuiet
import Derived.OwnWalk
import Derived.WalkSpells
import Derived.Laws.AppendOwnNone
import Derived.Laws.OwnMore
import Derived.Laws.MakeOwn
import Derived.Laws.Rows
import Derived.Deep.AppendLies
section
namespace Go.Proofs.Ytlkggpjdaaglmaa.bs
open Go.ChangeShapes Go.WideShapes Go.ChangeAt Go.RowKit
set_option linter.unusedVariables false
def AllB (l : List Int) : Prop := ∀ n ∈ l, 0 ≤ n ∧ n ≤ 255
structure Bytes (w : World) (a : Option Addr) (n c : Nat) (l : List Int) : Prop where
  len : l.length = n
  cap : n ≤ c
  most : c ≤ 9223372036854775807
  all : AllB l
  nil : a = none → c = 0
  at' : n = 0 ∨ ∃ b off, a = some ⟨b, off, none⟩ ∧ ∀ i, i < n → w.cell? ⟨b, off + i, none⟩ = some (.int .u8 (l.getD i 0))
theorem Bytes.drewN {w : World} {a n c l} (h : Bytes w a n c l) (m : Nat) : Bytes (w.drewN m) a n c l :=
  ⟨h.len, h.cap, h.most, h.all, h.nil, h.at'⟩
theorem Bytes.below {w w' : World} {a n c l} (h : Bytes w a n c l) (hb : Below w.heap.size w w') : Bytes w' a n c l := by
  refine ⟨h.len, h.cap, h.most, h.all, h.nil, ?_⟩
  rcases h.at' with h0 | ⟨b, off, ha, hc⟩
  · exact .inl h0
  · refine .inr ⟨b, off, ha, fun i hi => ?_⟩
    rw [hb.cell (World.block_lt_of_cell? w _ (hc i hi))]
    exact hc i hi
theorem AllB.getD {l : List Int} (h : AllB l) (i : Nat) : 0 ≤ l.getD i 0 ∧ l.getD i 0 ≤ 255 := by
  rw [List.getD_eq_getElem?_getD]
  rcases Nat.lt_or_ge i l.length with hi | hi
  · rw [List.getElem?_eq_getElem hi]; exact h _ (List.getElem_mem hi)
  · rw [List.getElem?_eq_none hi]; simp
end Go.Proofs.Ytlkggpjdaaglmaa.bs
end
section
namespace Go.Proofs.Ytlkggpjdaaglmaa.bs
open Go.ChangeShapes Go.WideShapes Go.ChangeAt Go.RowKit
set_option linter.unusedVariables false
def cellsOf (l : List Int) : List Value := l.map (Value.int .u8)
structure OwnB (w : World) (base : Nat) (e : TypeId) (a : Option Addr) (n c : Nat) (l : List Int) : Prop where
  own : w.ownsRow base e 1 (.slice a n c) n (cellsOf l)
  all : AllB l
theorem OwnB.len {w : World} {base e a n c l} (h : OwnB w base e a n c l) : l.length = n := by
  have := h.own.1
  simpa [cellsOf] using this
theorem OwnB.cases {w : World} {base e a n c l} (h : OwnB w base e a n c l) : (a = none ∧ n = 0 ∧ c = 0) ∨ ∃ g, a = some ⟨g, 0, none⟩ ∧ base ≤ g ∧ g < w.heap.size ∧ n ≤ c ∧ c ≤ maxLen := by
  rcases h.own.2 with ⟨hv, hn⟩ | ⟨g, cap, cur, hv, hg, hh, hn, hc, _⟩
  · simp only [Value.slice.injEq] at hv
    exact .inl ⟨hv.1, hn, hv.2.2⟩
  · simp only [Value.slice.injEq] at hv
    obtain ⟨rfl, _, rfl⟩ := hv
    exact .inr ⟨g, rfl, hg, (Array.getElem?_eq_some_iff.1 hh).1, hn, hc⟩
theorem OwnB.bytes {w : World} {base e a n c l} (h : OwnB w base e a n c l) : Bytes w a n c l := by
  rcases h.cases with ⟨rfl, rfl, rfl⟩ | ⟨g, rfl, hg, hs, hn, hc⟩
  · exact ⟨h.len, Nat.le_refl _, by omega, h.all, fun _ => rfl, .inl rfl⟩
  · refine ⟨h.len, hn, by unfold maxLen at hc; omega, h.all, by simp, .inr ⟨g, 0, rfl, fun i hi => ?_⟩⟩
    rw [Nat.zero_add, h.own.cellAt i (by omega), cellsOf, List.getElem?_map, List.getElem?_eq_getElem (by rw [h.len]; exact hi), List.getD_eq_getElem?_getD, List.getElem?_eq_getElem (by rw [h.len]; exact hi)]
    rfl
theorem OwnB.mono {w : World} {base base' e a n c l} (h : OwnB w base e a n c l) (hb : base' ≤ base) : OwnB w base' e a n c l := by
  refine ⟨⟨h.own.1, ?_⟩, h.all⟩
  rcases h.own.2 with hv | ⟨g, cap, cur, hv, hg, r⟩
  · exact .inl hv
  · exact .inr ⟨g, cap, cur, hv, Nat.le_trans hb hg, r⟩
theorem OwnB.below {w w' : World} {base e a n c l} (h : OwnB w base e a n c l) (hb : Below w.heap.size w w') : OwnB w' base e a n c l := by
  refine ⟨⟨h.own.1, ?_⟩, h.all⟩
  rcases h.own.2 with hv | ⟨g, cap, cur, hv, hg, hh, r⟩
  · exact .inl hv
  · exact .inr ⟨g, cap, cur, hv, hg, by rw [hb.block g (Array.getElem?_eq_some_iff.1 hh).1]; exact hh, r⟩
theorem OwnB.drewN {w : World} {base e a n c l} (h : OwnB w base e a n c l) (m : Nat) : OwnB (w.drewN m) base e a n c l :=
  h.below (below_drewN (Below.refl _ _) m)
theorem OwnB.drew {w : World} {base e a n c l} (h : OwnB w base e a n c l) : OwnB w.drew base e a n c l :=
  h.below (Below.drew (Below.refl _ _))
theorem OwnB.alloc {w : World} {base e a n c l} (h : OwnB w base e a n c l) (o : Obj) : OwnB (w.alloc o) base e a n c l :=
  h.below ((Below.refl _ _).alloc (Nat.le_refl _) o)
theorem OwnB.nil (w : World) (base : Nat) (e : TypeId) : OwnB w base e none 0 0 [] := ⟨World.ownsRow_nil w base e 1, by simp [AllB]⟩
theorem OwnB.made (w : World) (base : Nat) (e : TypeId) (l : List Int) (cur : Array Value) (hcur : cur = (cellsOf l).toArray) (hb : base ≤ w.heap.size) (hl : l.length ≤ maxLen) (hall : AllB l) :
    OwnB (w.alloc (.cells cur e)) base e (some ⟨w.heap.size, 0, none⟩) l.length l.length l := by
  subst hcur
  refine ⟨⟨by simp [cellsOf], .inr ⟨w.heap.size, l.length, _, rfl, hb, heap_alloc_new w _, Nat.le_refl _, hl, by simp [cellsOf], ?_⟩⟩, hall⟩
  rw [List.take_of_length_le (by simp [cellsOf])]
theorem Bytes.one (w : World) (e : TypeId) (z : Int) (h0 : 0 ≤ z ∧ z ≤ 255) : Bytes (w.alloc (.cells #[.int .u8 z] e)) (some ⟨w.heap.size, 0, none⟩) 1 1 [z] :=
  (OwnB.made w 0 e [z] _ rfl (Nat.zero_le _) (by simp [maxLen]) (by simpa [AllB] using h0)).bytes
structure ByteT (P : Program) (t e : TypeId) : Prop where
  und : P.underlying t = some (.slice e)
  info : (P.info? e).map (fun i => (i.zero, i.size, i.bytes)) = some (some (.int .u8 0), 1, 1)
section
variable {P : Program} {w : World} {ops : Array Oper} {rest : List Oper} {o : Oper} {a : Act} {Q : Exit → Act → World → Prop}
end
theorem OwnB.stored {w : World} {base e n c l} {g : Nat} (h : OwnB w base e (some ⟨g, 0, none⟩) n c l) (j : Nat) (x : Int) (hx : 0 ≤ x ∧ x ≤ 255) :
    OwnB (w.setCell ⟨g, j, none⟩ (.int .u8 x)) base e (some ⟨g, 0, none⟩) n c (l.set j x) := by
  refine ⟨?_, ?_⟩
  · have := (h.own.stored j (.int .u8 x)).1
    rwa [show cellsOf (l.set j x) = (cellsOf l).set j (.int .u8 x) by simp [cellsOf]]
  · intro y hy
    rcases List.mem_or_eq_of_mem_set hy with h1 | h1
    · exact h.all y h1
    · subst h1; exact hx
theorem OwnB.cellAt {w : World} {base e n c l} {g : Nat} (h : OwnB w base e (some ⟨g, 0, none⟩) n c l) (j : Nat) (hj : j < n) : w.cell? ⟨g, j, none⟩ = some (.int .u8 (l.getD j 0)) := by
  rw [h.own.cellAt j (by omega), cellsOf, List.getElem?_map, List.getElem?_eq_getElem (by rw [h.len]; exact hj), List.getD_eq_getElem?_getD, List.getElem?_eq_getElem (by rw [h.len]; exact hj)]
  rfl
theorem OwnB.frozenAt {w : World} {base e n c l} {g : Nat} (h : OwnB w base e (some ⟨g, 0, none⟩) n c l) (j : Nat) : w.frozen? ⟨g, j, none⟩ = false := h.own.frozenAt j
theorem OwnB.keep {w w' : World} {base e n c l} {g : Nat} (h : OwnB w base e (some ⟨g, 0, none⟩) n c l) (hk : w'.heap[g]? = w.heap[g]?) : OwnB w' base e (some ⟨g, 0, none⟩) n c l := by
  refine ⟨⟨h.own.1, ?_⟩, h.all⟩
  rcases h.own.2 with hv | ⟨g', cap, cur, hv, hg, hh, r⟩
  · exact .inl hv
  · refine .inr ⟨g', cap, cur, hv, hg, ?_, r⟩
    simp only [Value.slice.injEq, Option.some.injEq, Addr.mk.injEq, and_true] at hv
    rw [← hv.1, hk, hv.1]
    exact hh
theorem OwnB.block {w : World} {base e n c l} {g : Nat} (h : OwnB w base e (some ⟨g, 0, none⟩) n c l) : ∃ cur, w.heap[g]? = some (.cells cur e (0, 0)) := by
  rcases h.own.2 with ⟨hv, _⟩ | ⟨g', cap, cur, hv, hg, hh, r⟩
  · simp at hv
  · simp only [Value.slice.injEq, Option.some.injEq, Addr.mk.injEq, and_true] at hv
    rw [hv.1]
    exact ⟨cur, hh⟩
end Go.Proofs.Ytlkggpjdaaglmaa.bs
end
section
namespace Go.Proofs.Ytlkggpjdaaglmaa.bs
open Go.ChangeShapes Go.WideShapes Go.ChangeAt Go.RowKit
set_option linter.unusedVariables false
def AllI (l : List Int) : Prop := ∀ n ∈ l, -9223372036854775808 ≤ n ∧ n ≤ 9223372036854775807
structure I64s (w : World) (a : Option Addr) (n c : Nat) (l : List Int) : Prop where
  len : l.length = n
  cap : n ≤ c
  most : c ≤ 9223372036854775807
  all : AllI l
  nil : a = none → c = 0
  at' : n = 0 ∨ ∃ b off, a = some ⟨b, off, none⟩ ∧ ∀ i, i < n → w.cell? ⟨b, off + i, none⟩ = some (.int .i64 (l.getD i 0))
theorem I64s.drewN {w : World} {a n c l} (h : I64s w a n c l) (m : Nat) : I64s (w.drewN m) a n c l :=
  ⟨h.len, h.cap, h.most, h.all, h.nil, h.at'⟩
theorem I64s.below {w w' : World} {a n c l} (h : I64s w a n c l) (hb : Below w.heap.size w w') : I64s w' a n c l := by
  refine ⟨h.len, h.cap, h.most, h.all, h.nil, ?_⟩
  rcases h.at' with h0 | ⟨b, off, ha, hc⟩
  · exact .inl h0
  · refine .inr ⟨b, off, ha, fun i hi => ?_⟩
    rw [hb.cell (World.block_lt_of_cell? w _ (hc i hi))]
    exact hc i hi
theorem AllI.getD {l : List Int} (h : AllI l) (i : Nat) : -9223372036854775808 ≤ l.getD i 0 ∧ l.getD i 0 ≤ 9223372036854775807 := by
  rw [List.getD_eq_getElem?_getD]
  rcases Nat.lt_or_ge i l.length with hi | hi
  · rw [List.getElem?_eq_getElem hi]; exact h _ (List.getElem_mem hi)
  · rw [List.getElem?_eq_none hi]; simp
def cellsI (l : List Int) : List Value := l.map (Value.int .i64)
theorem cellsI_append (x y : List Int) : cellsI (x ++ y) = cellsI x ++ cellsI y := List.map_append
structure OwnI (w : World) (base : Nat) (e : TypeId) (a : Option Addr) (n c : Nat) (l : List Int) : Prop where
  own : w.ownsRow base e 1 (.slice a n c) n (cellsI l)
  all : AllI l
theorem OwnI.len {w : World} {base e a n c l} (h : OwnI w base e a n c l) : l.length = n := by
  have := h.own.1
  simpa [cellsI] using this
theorem OwnI.cases {w : World} {base e a n c l} (h : OwnI w base e a n c l) : (a = none ∧ n = 0 ∧ c = 0) ∨ ∃ g, a = some ⟨g, 0, none⟩ ∧ base ≤ g ∧ g < w.heap.size ∧ n ≤ c ∧ c ≤ maxLen := by
  rcases h.own.2 with ⟨hv, hn⟩ | ⟨g, cap, cur, hv, hg, hh, hn, hc, _⟩
  · simp only [Value.slice.injEq] at hv
    exact .inl ⟨hv.1, hn, hv.2.2⟩
  · simp only [Value.slice.injEq] at hv
    obtain ⟨rfl, _, rfl⟩ := hv
    exact .inr ⟨g, rfl, hg, (Array.getElem?_eq_some_iff.1 hh).1, hn, hc⟩
theorem OwnI.reads {w : World} {base e a n c l} (h : OwnI w base e a n c l) : I64s w a n c l := by
  rcases h.cases with ⟨rfl, rfl, rfl⟩ | ⟨g, rfl, hg, hs, hn, hc⟩
  · exact ⟨h.len, Nat.le_refl _, by omega, h.all, fun _ => rfl, .inl rfl⟩
  · refine ⟨h.len, hn, by unfold maxLen at hc; omega, h.all, by simp, .inr ⟨g, 0, rfl, fun i hi => ?_⟩⟩
    rw [Nat.zero_add, h.own.cellAt i (by omega), cellsI, List.getElem?_map, List.getElem?_eq_getElem (by rw [h.len]; exact hi), List.getD_eq_getElem?_getD, List.getElem?_eq_getElem (by rw [h.len]; exact hi)]
    rfl
theorem OwnI.mono {w : World} {base base' e a n c l} (h : OwnI w base e a n c l) (hb : base' ≤ base) : OwnI w base' e a n c l := by
  refine ⟨⟨h.own.1, ?_⟩, h.all⟩
  rcases h.own.2 with hv | ⟨g, cap, cur, hv, hg, r⟩
  · exact .inl hv
  · exact .inr ⟨g, cap, cur, hv, Nat.le_trans hb hg, r⟩
theorem OwnI.below {w w' : World} {base e a n c l} (h : OwnI w base e a n c l) (hb : Below w.heap.size w w') : OwnI w' base e a n c l := by
  refine ⟨⟨h.own.1, ?_⟩, h.all⟩
  rcases h.own.2 with hv | ⟨g, cap, cur, hv, hg, hh, r⟩
  · exact .inl hv
  · exact .inr ⟨g, cap, cur, hv, hg, by rw [hb.block g (Array.getElem?_eq_some_iff.1 hh).1]; exact hh, r⟩
theorem OwnI.drewN {w : World} {base e a n c l} (h : OwnI w base e a n c l) (m : Nat) : OwnI (w.drewN m) base e a n c l :=
  h.below (below_drewN (Below.refl _ _) m)
theorem OwnI.drew {w : World} {base e a n c l} (h : OwnI w base e a n c l) : OwnI w.drew base e a n c l :=
  h.below (Below.drew (Below.refl _ _))
theorem OwnI.alloc {w : World} {base e a n c l} (h : OwnI w base e a n c l) (o : Obj) : OwnI (w.alloc o) base e a n c l :=
  h.below ((Below.refl _ _).alloc (Nat.le_refl _) o)
theorem OwnI.nil (w : World) (base : Nat) (e : TypeId) : OwnI w base e none 0 0 [] := ⟨World.ownsRow_nil w base e 1, by simp [AllI]⟩
theorem OwnI.made (w : World) (base : Nat) (e : TypeId) (l : List Int) (cur : Array Value) (hcur : cur = (cellsI l).toArray) (hb : base ≤ w.heap.size) (hl : l.length ≤ maxLen) (hall : AllI l) :
    OwnI (w.alloc (.cells cur e)) base e (some ⟨w.heap.size, 0, none⟩) l.length l.length l := by
  subst hcur
  refine ⟨⟨by simp [cellsI], .inr ⟨w.heap.size, l.length, _, rfl, hb, heap_alloc_new w _, Nat.le_refl _, hl, by simp [cellsI], ?_⟩⟩, hall⟩
  rw [List.take_of_length_le (by simp [cellsI])]
theorem I64s.one (w : World) (e : TypeId) (z : Int) (h0 : -9223372036854775808 ≤ z ∧ z ≤ 9223372036854775807) : I64s (w.alloc (.cells #[.int .i64 z] e)) (some ⟨w.heap.size, 0, none⟩) 1 1 [z] :=
  (OwnI.made w 0 e [z] _ rfl (Nat.zero_le _) (by simp [maxLen]) (by simpa [AllI] using h0)).reads
structure I64T (P : Program) (t e : TypeId) : Prop where
  und : P.underlying t = some (.slice e)
  info : (P.info? e).map (fun i => (i.zero, i.size, i.bytes)) = some (some (.int .i64 0), 1, 8)
theorem run_append_I2 {P : Program} {t e : TypeId} (T : I64T P t e) (ty : TypeId) (w : World) (base : Nat) {a n c l} (h : OwnI w base e a n c l) {a' m c' l'} (hs : I64s w a' m c' l')
    (hn : n + m ≤ 17592186044416) (hbase : base ≤ w.heap.size) :
    ∃ a2 c2 w', (Builtin.append_ #[t, t] ty #[.slice a n c, .slice a' m c']).run P w = .ok (.slice a2 (n + m) c2) w' ∧ OwnI w' base e a2 (n + m) c2 (l ++ l') ∧ Below base w w' ∧ (a2 = none ↔ a = none ∧ m = 0) ∧ w.grownBy w' (Value.ownBlock (.slice a n c)) := by
  obtain ⟨i0, hi, hz0, hz1, hz2⟩ := info_parts T.info
  have fin : ∀ v' w', (Builtin.append_ #[t, t] ty #[.slice a n c, .slice a' m c']).run P w = .ok v' w' → w'.ownsRow base e 1 v' (n + m) (cellsI (l ++ l')) → w.grownBy w' (Value.ownBlock (.slice a n c)) → (v' = .slice none 0 0 ↔ Value.slice a n c = .slice none 0 0 ∧ m = 0) →
      ∃ a2 c2 w', (Builtin.append_ #[t, t] ty #[.slice a n c, .slice a' m c']).run P w = .ok (.slice a2 (n + m) c2) w' ∧ OwnI w' base e a2 (n + m) c2 (l ++ l') ∧ Below base w w' ∧ (a2 = none ↔ a = none ∧ m = 0) ∧ w.grownBy w' (Value.ownBlock (.slice a n c)) := by
    intro v' w' hr ho hg hnil
    have hall : AllI (l ++ l') := fun x hx => (List.mem_append.1 hx).elim (h.all x) (hs.all x)
    have hbel : Below base w w' := (Below.refl base w).grown hg hbase (fun k hk => (h.own.lt k hk).1)
    have ha : a = none → n = 0 ∧ c = 0 := fun hz => by
      rcases h.cases with ⟨_, x, y⟩ | ⟨g, x, _⟩
      · exact ⟨x, y⟩
      · rw [hz] at x; cases x
    rcases ho.2 with ⟨rfl, h0⟩ | ⟨g, cap, cur, rfl, hgb, hh, r⟩
    · refine ⟨none, 0, w', ?_, ⟨?_, hall⟩, hbel, ?_, hg⟩
      · rw [hr, h0]
      · rw [h0] at ho ⊢; exact ho
      · have := hnil.1 rfl
        simp only [Value.slice.injEq] at this
        exact ⟨fun _ => ⟨this.1.1, this.2⟩, fun _ => rfl⟩
    · refine ⟨some ⟨g, 0, none⟩, cap, w', hr, ⟨ho, hall⟩, hbel, ?_, hg⟩
      simp only [reduceCtorEq, false_iff]
      rintro ⟨hz, hm0⟩
      obtain ⟨x, y⟩ := ha hz
      have := hnil.2 ⟨by rw [hz, x, y], hm0⟩
      simp at this
  rcases Option.eq_none_or_eq_some a' with hz | ⟨ad, hz⟩
  · subst hz
    have hc' := hs.nil rfl
    have hm : m = 0 := by have := hs.cap; omega
    subst hc' hm
    have hl' : l' = [] := List.eq_nil_of_length_eq_zero hs.len
    subst hl'
    have hr := run_append_owned_none (P := P) (w := w) base t ty e i0 1 T.und hi (.slice a n c) n (cellsI l) h.own
    refine fin _ _ hr (by simpa using h.own) ⟨rfl, rfl, rfl, Nat.le_refl _, fun _ _ _ => rfl⟩ (by simp)
  · subst hz
    have hcells : ∀ j u, (cellsI l')[j]? = some u → w.cell? (ad.add j) = some u := by
      intro j u hu
      rcases hs.at' with h0 | ⟨b, off, hab, hc⟩
      · have : l' = [] := List.eq_nil_of_length_eq_zero (by rw [hs.len, h0])
        subst this
        simp [cellsI] at hu
      · simp only [Option.some.injEq] at hab
        subst hab
        have hj : j < m := by
          have := (List.getElem?_eq_some_iff.1 hu).1
          rw [← hs.len]
          simpa [cellsI] using this
        have e1 : (⟨b, off, none⟩ : Addr).add j = ⟨b, off + j, none⟩ := by unfold Addr.add; split <;> simp_all
        rw [e1, hc j hj, ← hu, cellsI, List.getElem?_map, List.getElem?_eq_getElem (by rw [hs.len]; exact hj), List.getD_eq_getElem?_getD, List.getElem?_eq_getElem (by rw [hs.len]; exact hj)]
        rfl
    obtain ⟨v', w', hr, ho, hg, hnil⟩ := run_append_own (P := P) w base t ty e i0 (.int .i64 0) 1 8 T.und hi hz0 hz1 hz2 rfl (by decide) (.slice a n c) n (cellsI l) h.own ad m c' (cellsI l') (by simp [cellsI, hs.len]) hcells
      (by intro u hu; obtain ⟨x, _, rfl⟩ := List.mem_map.1 hu; rfl) (by unfold maxLen; omega) (by omega) hbase
    exact fin v' w' hr (by rw [cellsI_append]; exact ho) hg hnil
theorem run_append_I {P : Program} {t e : TypeId} (T : I64T P t e) (ty : TypeId) (w : World) (base : Nat) {a n c l} (h : OwnI w base e a n c l) {a' m c' l'} (hs : I64s w a' m c' l')
    (hn : n + m ≤ 17592186044416) (hbase : base ≤ w.heap.size) :
    ∃ a2 c2 w', (Builtin.append_ #[t, t] ty #[.slice a n c, .slice a' m c']).run P w = .ok (.slice a2 (n + m) c2) w' ∧ OwnI w' base e a2 (n + m) c2 (l ++ l') ∧ Below base w w' ∧ (a2 = none ↔ a = none ∧ m = 0) := by
  obtain ⟨a2, c2, w', h1, h2, h3, h4, _⟩ := run_append_I2 T ty w base h hs hn hbase
  exact ⟨a2, c2, w', h1, h2, h3, h4⟩
section
variable {P : Program} {w : World} {ops : Array Oper} {rest : List Oper} {o : Oper} {a : Act} {Q : Exit → Act → World → Prop}
theorem wp_append_I {K : Act → World → Prop} {t e : TypeId} (T : I64T P t e) (s x : Operand) (ho : o.op = .call { callee := .builtin .append, args := #[s, x], argTypes := #[t, t] })
    (base : Nat) {b n c l} (hs : a.eval s = .slice b n c) (h : OwnI w base e b n c l) {b' m c' l'} (hx : a.eval x = .slice b' m c') (hb : I64s w b' m c' l') (hn : n + m ≤ 17592186044416) (hbase : base ≤ w.heap.size)
    (k : ∀ a2 c2 w', OwnI w' base e a2 (n + m) c2 (l ++ l') → Below base w w' → (a2 = none ↔ b = none ∧ m = 0) → K (a.put o.dst (.slice a2 (n + m) c2)) w') : o.wp P a w K Q := by
  obtain ⟨a2, c2, w', hr, h2, h3, h4⟩ := run_append_I T o.type w base h hb hn hbase
  unfold Oper.wp execOp
  simp only [ho, resolve, invoke, builtin, Sem.run_bind, Sem.run_pure, Result.andThen_ok, List.map_toArray, List.map_cons, List.map_nil, hs, hx, hr]
  exact k a2 c2 w' h2 h3 h4
theorem wpList_append_I {t e : TypeId} (T : I64T P t e) (hw : Region.wanted o (yielded ops a.tmps) = true) (s x : Operand) (ho : o.op = .call { callee := .builtin .append, args := #[s, x], argTypes := #[t, t] })
    (base : Nat) {b n c l} (hs : a.eval s = .slice b n c) (h : OwnI w base e b n c l) {b' m c' l'} (hx : a.eval x = .slice b' m c') (hb : I64s w b' m c' l') (hn : n + m ≤ 17592186044416) (hbase : base ≤ w.heap.size)
    (k : ∀ a2 c2 w', OwnI w' base e a2 (n + m) c2 (l ++ l') → Below base w w' → (a2 = none ↔ b = none ∧ m = 0) → wpList P ops Q rest (a.put o.dst (.slice a2 (n + m) c2)) w') : wpList P ops Q (o :: rest) a w :=
  BigFrame.wpList_want hw fun K hK => wp_append_I T s x ho base hs h hx hb hn hbase fun a2 c2 w' h2 h3 h4 => hK _ _ (k a2 c2 w' h2 h3 h4)
end
theorem OwnI.stored {w : World} {base e n c l} {g : Nat} (h : OwnI w base e (some ⟨g, 0, none⟩) n c l) (j : Nat) (x : Int) (hx : -9223372036854775808 ≤ x ∧ x ≤ 9223372036854775807) :
    OwnI (w.setCell ⟨g, j, none⟩ (.int .i64 x)) base e (some ⟨g, 0, none⟩) n c (l.set j x) := by
  refine ⟨?_, ?_⟩
  · have := (h.own.stored j (.int .i64 x)).1
    rwa [show cellsI (l.set j x) = (cellsI l).set j (.int .i64 x) by simp [cellsI]]
  · intro y hy
    rcases List.mem_or_eq_of_mem_set hy with h1 | h1
    · exact h.all y h1
    · subst h1; exact hx
theorem OwnI.cellAt {w : World} {base e n c l} {g : Nat} (h : OwnI w base e (some ⟨g, 0, none⟩) n c l) (j : Nat) (hj : j < n) : w.cell? ⟨g, j, none⟩ = some (.int .i64 (l.getD j 0)) := by
  rw [h.own.cellAt j (by omega), cellsI, List.getElem?_map, List.getElem?_eq_getElem (by rw [h.len]; exact hj), List.getD_eq_getElem?_getD, List.getElem?_eq_getElem (by rw [h.len]; exact hj)]
  rfl
theorem OwnI.frozenAt {w : World} {base e n c l} {g : Nat} (h : OwnI w base e (some ⟨g, 0, none⟩) n c l) (j : Nat) : w.frozen? ⟨g, j, none⟩ = false := h.own.frozenAt j
theorem OwnI.keep {w w' : World} {base e n c l} {g : Nat} (h : OwnI w base e (some ⟨g, 0, none⟩) n c l) (hk : w'.heap[g]? = w.heap[g]?) : OwnI w' base e (some ⟨g, 0, none⟩) n c l := by
  refine ⟨⟨h.own.1, ?_⟩, h.all⟩
  rcases h.own.2 with hv | ⟨g', cap, cur, hv, hg, hh, r⟩
  · exact .inl hv
  · refine .inr ⟨g', cap, cur, hv, hg, ?_, r⟩
    simp only [Value.slice.injEq, Option.some.injEq, Addr.mk.injEq, and_true] at hv
    rw [← hv.1, hk, hv.1]
    exact hh
theorem OwnI.block {w : World} {base e n c l} {g : Nat} (h : OwnI w base e (some ⟨g, 0, none⟩) n c l) : ∃ cur, w.heap[g]? = some (.cells cur e (0, 0)) := by
  rcases h.own.2 with ⟨hv, _⟩ | ⟨g', cap, cur, hv, hg, hh, r⟩
  · simp at hv
  · simp only [Value.slice.injEq, Option.some.injEq, Addr.mk.injEq, and_true] at hv
    rw [hv.1]
    exact ⟨cur, hh⟩
end Go.Proofs.Ytlkggpjdaaglmaa.bs
end
section
namespace Go.Proofs.Ytlkggpjdaaglmaa.bs
open Go.ChangeShapes Go.WideShapes Go.ChangeAt Go.RowKit
set_option linter.unusedVariables false
def blockOf : Option Addr → Option Nat
  | some x => some x.block
  | none => none
theorem ownBlock_eq (a : Option Addr) (n c : Nat) : Value.ownBlock (.slice a n c) = blockOf a := by cases a <;> rfl
def Blk (w : World) (g : Nat) (cs : Array Value) (t : TypeId) : Prop := w.heap[g]? = some (.cells cs t (0, 0))
theorem Blk.lt {w : World} {g cs t} (h : Blk w g cs t) : g < w.heap.size := (Array.getElem?_eq_some_iff.1 h).1
theorem Blk.cell {w : World} {g cs t} (h : Blk w g cs t) (i : Nat) : w.cell? ⟨g, i, none⟩ = cs[i]? := cell_of_row w g i cs t _ h
theorem Blk.set {w : World} {g cs t} (h : Blk w g cs t) (i : Nat) (v : Value) : Blk (w.setCell ⟨g, i, none⟩ v) g (cs.setIfInBounds i v) t := heap_setCell_same w g i cs t v h
theorem Blk.new (w : World) (cs : Array Value) (t : TypeId) : Blk (w.alloc (.cells cs t)) w.heap.size cs t := heap_alloc_new w _
theorem Blk.of {w w' : World} {g cs t} (h : Blk w g cs t) (he : w'.heap[g]? = w.heap[g]?) : Blk w' g cs t := by unfold Blk; rw [he]; exact h
theorem Blk.below {w w' : World} {g cs t} (h : Blk w g cs t) (hb : Below w.heap.size w w') : Blk w' g cs t := h.of (hb.block g h.lt)
theorem Blk.drewN {w : World} {g cs t} (h : Blk w g cs t) (m : Nat) : Blk (w.drewN m) g cs t := h
theorem Blk.other {w : World} {g cs t} (h : Blk w g cs t) (p : Addr) (v : Value) (hp : g ≠ p.block) : Blk (w.setCell p v) g cs t := h.of (heap_setCell_other w p g v hp)
structure Turned (w w' : World) (d : Nat) (row : Option Nat) : Prop where
  os : w'.os = w.os
  tape : w'.tape = w.tape
  output : w'.output = w.output
  size : w.heap.size ≤ w'.heap.size
  block : ∀ i, i < w.heap.size → i ≠ d → row ≠ some i → w'.heap[i]? = w.heap[i]?
theorem Turned.of_below {w w' : World} (h : Below w.heap.size w w') (d : Nat) (row : Option Nat) : Turned w w' d row := ⟨h.os, h.tape, h.output, h.size, fun i hi _ _ => h.block i hi⟩
theorem Turned.refl (w : World) (d : Nat) (row : Option Nat) : Turned w w d row := .of_below (Below.refl _ _) d row
theorem Turned.setCell {w w' : World} {d : Nat} {row : Option Nat} (h : Turned w w' d row) (j : Nat) (v : Value) : Turned w (w'.setCell ⟨d, j, none⟩ v) d row :=
  ⟨h.os, h.tape, h.output, by simpa [World.setCell] using h.size, fun i hi hd hr => (Below.heap_setCell w' ⟨d, j, none⟩ v i hd).trans (h.block i hi hd hr)⟩
theorem Turned.drewN {w w' : World} {d : Nat} {row : Option Nat} (h : Turned w w' d row) (m : Nat) : Turned w (w'.drewN m) d row := ⟨h.os, h.tape, h.output, h.size, h.block⟩
theorem Turned.trans {w w' w'' : World} {d : Nat} {row row' : Option Nat} (h : Turned w w' d row) (k : Turned w' w'' d row') (hr : ∀ i, i < w.heap.size → row' = some i → row = some i) : Turned w w'' d row :=
  ⟨k.os.trans h.os, k.tape.trans h.tape, k.output.trans h.output, Nat.le_trans h.size k.size, fun i hi hd hn => (k.block i (Nat.lt_of_lt_of_le hi h.size) hd (fun e => hn (hr i hi e))).trans (h.block i hi hd hn)⟩
theorem Turned.below {w w' : World} {d : Nat} {row : Option Nat} {B : Nat} (h : Turned w w' d row) (hB : B ≤ w.heap.size) (hd : B ≤ d) (hr : ∀ i, row = some i → B ≤ i) : Below B w w' :=
  ⟨h.os, h.tape, h.output, h.size, fun i hi => h.block i (by omega) (by omega) (fun e => by have := hr i e; omega)⟩
theorem OwnB.blockLt {w : World} {base e a n c l} (h : OwnB w base e a n c l) {i : Nat} (hi : blockOf a = some i) : base ≤ i ∧ i < w.heap.size := by
  rcases h.cases with ⟨rfl, _⟩ | ⟨g, rfl, h1, h2, _⟩
  · cases hi
  · cases hi; exact ⟨h1, h2⟩
theorem OwnB.of {w w' : World} {base e a n c l} (h : OwnB w base e a n c l) (hk : ∀ i, blockOf a = some i → w'.heap[i]? = w.heap[i]?) : OwnB w' base e a n c l := by
  rcases h.cases with ⟨rfl, rfl, rfl⟩ | ⟨g, rfl, h1, h2, _⟩
  · exact ⟨⟨h.own.1, .inl ⟨rfl, rfl⟩⟩, h.all⟩
  · exact h.keep (hk g rfl)
theorem OwnB.turned {w w' : World} {base e a n c l} (h : OwnB w base e a n c l) {d : Nat} {row : Option Nat} (ht : Turned w w' d row) (h1 : blockOf a ≠ some d) (h2 : ∀ i, row = some i → blockOf a ≠ some i) : OwnB w' base e a n c l :=
  h.of (fun i hi => ht.block i (h.blockLt hi).2 (fun e => h1 (by rw [hi, e])) (fun e => h2 i e hi))
theorem OwnB.first {w : World} {base e a n c l} (h : OwnB w base e a n c l) (k : Nat) (hk : k ≤ n) : OwnB w base e a k c (l.take k) := by
  have hl := h.len
  refine ⟨⟨by simp [cellsOf]; omega, ?_⟩, fun x hx => h.all x (List.mem_of_mem_take hx)⟩
  rcases h.own.2 with ⟨hv, h0⟩ | ⟨g, cap, cur, hv, hg, hh, hn, hm, hs, ht⟩
  · simp only [Value.slice.injEq] at hv
    obtain ⟨rfl, _, rfl⟩ := hv
    have : k = 0 := by omega
    subst this
    exact .inl ⟨rfl, rfl⟩
  · simp only [Value.slice.injEq] at hv
    obtain ⟨rfl, _, rfl⟩ := hv
    refine .inr ⟨g, c, cur, rfl, hg, hh, by omega, hm, hs, ?_⟩
    rw [Nat.mul_one] at ht ⊢
    rw [cellsOf, List.map_take, ← cellsOf, ← ht, List.take_take, Nat.min_eq_left hk]
section
variable {P : Program} {w : World} {ops : Array Oper} {rest : List Oper} {o : Oper} {a : Act} {Q : Exit → Act → World → Prop}
end
end Go.Proofs.Ytlkggpjdaaglmaa.bs
end
section
namespace Go.Proofs.Ytlkggpjdaaglmaa.bs
open Go.ChangeShapes Go.WideShapes Go.ChangeAt Go.RowKit
set_option linter.unusedVariables false
def txt (p : ByteArray) : List Int := p.data.toList.map fun b => (b.toNat : Int)
theorem txt_len (p : ByteArray) : (txt p).length = p.size := by rw [txt, List.length_map, Array.length_toList]; rfl
theorem txt_at (p : ByteArray) (i : Nat) (h : i < p.size) : ((p[i]).toNat : Int) = (txt p).getD i 0 := by
  have h' : i < p.data.toList.length := by rw [Array.length_toList]; exact h
  rw [txt, List.getD_eq_getElem?_getD, List.getElem?_map, List.getElem?_eq_getElem h']
  rfl
theorem txt_inj {p q : ByteArray} (h : txt p = txt q) : p = q := by
  have h1 : p.data.toList = q.data.toList := by
    have inj : ∀ (l m : List UInt8), l.map (fun b => (b.toNat : Int)) = m.map (fun b => (b.toNat : Int)) → l = m := by
      intro l
      induction l with
      | nil => intro m hm; cases m with
        | nil => rfl
        | cons => simp at hm
      | cons a l ih => intro m hm; cases m with
        | nil => simp at hm
        | cons b m =>
          simp only [List.map_cons, List.cons.injEq] at hm
          have hb : a = b := UInt8.toNat_inj.1 (by omega)
          rw [hb, ih m hm.2]
    exact inj _ _ h
  cases p; cases q
  simp only [ByteArray.mk.injEq]
  exact Array.toList_inj.1 h1
theorem text_eq (p q : ByteArray) : (p.toList == q.toList) = decide (p = q) := by
  rw [ByteArray.toList_eq, ByteArray.toList_eq]
  by_cases h : p = q
  · subst h; simp
  · rw [decide_eq_false h, beq_eq_false_iff_ne]
    intro x
    refine h (txt_inj ?_)
    unfold txt
    rw [x]
def lead (e : Nat → Bool) : Nat → Nat → Nat
  | 0, i => i
  | k + 1, i => if e i then lead e k (i + 1) else i
theorem lead_bd (e : Nat → Bool) : ∀ k i, i ≤ lead e k i ∧ lead e k i ≤ i + k
  | 0, i => by simp [lead]
  | k + 1, i => by
    unfold lead
    have := lead_bd e k (i + 1)
    split <;> omega
theorem lead_all (e : Nat → Bool) : ∀ k i j, i ≤ j → j < lead e k i → e j = true
  | 0, i, j, h1, h2 => by simp [lead] at h2; omega
  | k + 1, i, j, h1, h2 => by
    unfold lead at h2
    split at h2
    · rename_i h
      rcases Nat.eq_or_lt_of_le h1 with rfl | h3
      · exact h
      · exact lead_all e k (i + 1) j h3 h2
    · omega
theorem lead_yes (e : Nat → Bool) (k i : Nat) (h : e i = true) : lead e (k + 1) i = lead e k (i + 1) := by
  show (if e i then lead e k (i + 1) else i) = _
  rw [if_pos h]
theorem lead_no (e : Nat → Bool) (k i : Nat) (h : e i = false) : lead e k i = i := by
  cases k with
  | zero => rfl
  | succ k => show (if e i then lead e k (i + 1) else i) = _; rw [h]; rfl
end Go.Proofs.Ytlkggpjdaaglmaa.bs
end
