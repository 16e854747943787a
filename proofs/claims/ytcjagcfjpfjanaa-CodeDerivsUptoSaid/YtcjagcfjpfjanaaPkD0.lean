import Derived.Test.YtcjagcfjpfjanaaRows
import Derived.WalkKit
import Derived.ProofKit
import Derived.Lib.Hide
import Derived.Below
import Derived.WalkSmall
import Derived.Outline
import Derived.Deep.QuietTactic
import Derived.BigQuiet
import Derived.OwnWalk
import Derived.WalkSpells
import Derived.Laws.AppendOwnNone
import Derived.Laws.OwnMore
import Derived.Laws.MakeOwn
set_option maxRecDepth 100000
set_option maxHeartbeats 4000000
section
namespace Go.Proofs.Ytcjagcfjpfjanaa.bs
open Go.ChangeShapes Go.WideShapes Go.ChangeAt Go.RowKit
set_option linter.unusedVariables false
def AllB (l : List Int) : Prop := ∀ n ∈ l, 0 ≤ n ∧ n ≤ 255
structure Bytes (w : World) (a : Option Addr) (n c : Nat) (l : List Int) : Prop where
  len : l.length = n
  cap : n ≤ c
  most : c ≤ 9223372036854775807
  all : AllB l
  nil : a = none → c = 0
  at' : n = 0 ∨ ∃ b off, a = some ⟨b, off, none⟩ ∧ ∀ i, i < n → w.cell? ⟨b, off + i, none⟩ = some (.int .u8 (l.getD i 0))
theorem Bytes.drewN {w : World} {a n c l} (h : Bytes w a n c l) (m : Nat) : Bytes (w.drewN m) a n c l :=
  ⟨h.len, h.cap, h.most, h.all, h.nil, h.at'⟩
theorem Bytes.below {w w' : World} {a n c l} (h : Bytes w a n c l) (hb : Below w.heap.size w w') : Bytes w' a n c l := by
  refine ⟨h.len, h.cap, h.most, h.all, h.nil, ?_⟩
  rcases h.at' with h0 | ⟨b, off, ha, hc⟩
  · exact .inl h0
  · refine .inr ⟨b, off, ha, fun i hi => ?_⟩
    rw [hb.cell (World.block_lt_of_cell? w _ (hc i hi))]
    exact hc i hi
theorem AllB.getD {l : List Int} (h : AllB l) (i : Nat) : 0 ≤ l.getD i 0 ∧ l.getD i 0 ≤ 255 := by
  rw [List.getD_eq_getElem?_getD]
  rcases Nat.lt_or_ge i l.length with hi | hi
  · rw [List.getElem?_eq_getElem hi]; exact h _ (List.getElem_mem hi)
  · rw [List.getElem?_eq_none hi]; simp
theorem bytes_of_row {w : World} {a : Option Addr} {len cap : Nat} {zs : List Int}
    (h : (a = none ∧ len = 0 ∧ cap = 0 ∧ zs = []) ∨ ∃ x, a = some x ∧ len ≤ cap ∧ cap ≤ maxLen ∧ zs.length = cap ∧ (∀ i, i < zs.length → w.cell? (x.add i) = some (.int .u8 (zs.getD i 0))) ∧ ∀ n ∈ zs, (Lit.int .u8 n).wf = true) :
    Bytes w a len cap (zs.take len) := by
  rcases h with ⟨rfl, rfl, rfl, rfl⟩ | ⟨x, rfl, hl, hm, hz, hc, hw⟩
  · exact ⟨rfl, Nat.le_refl _, by omega, by simp [AllB], fun _ => rfl, .inl rfl⟩
  · refine ⟨by rw [List.length_take]; omega, hl, by unfold maxLen at hm; omega, ?_, by simp, ?_⟩
    · intro n hn
      have := hw n (List.mem_of_mem_take hn)
      simpa [Lit.wf, IntKind.min, IntKind.max, IntKind.signed, IntKind.bits] using this
    · rcases Nat.eq_zero_or_pos len with h0 | h0
      · exact .inl h0
      · right
        obtain ⟨b, off, spot⟩ := x
        have hc0 := hc 0 (by omega)
        have hspot : spot = none := by simpa [Addr.add] using World.cell?_spot hc0
        subst hspot
        refine ⟨b, off, rfl, fun i hi => ?_⟩
        have h1 := hc i (by omega)
        have e : (⟨b, off, none⟩ : Addr).add i = ⟨b, off + i, none⟩ := by unfold Addr.add; split <;> simp_all
        rw [e] at h1
        rw [h1, List.getD_eq_getElem?_getD, List.getD_eq_getElem?_getD, List.getElem?_take]
        simp [hi]
end Go.Proofs.Ytcjagcfjpfjanaa.bs
end
section
namespace Go.Proofs.Ytcjagcfjpfjanaa.bs
open Go.ChangeShapes Go.WideShapes Go.ChangeAt Go.RowKit
set_option linter.unusedVariables false
def cellsOf (l : List Int) : List Value := l.map (Value.int .u8)
theorem cellsOf_append (x y : List Int) : cellsOf (x ++ y) = cellsOf x ++ cellsOf y := List.map_append
structure OwnB (w : World) (base : Nat) (e : TypeId) (a : Option Addr) (n c : Nat) (l : List Int) : Prop where
  own : w.ownsRow base e 1 (.slice a n c) n (cellsOf l)
  all : AllB l
theorem OwnB.len {w : World} {base e a n c l} (h : OwnB w base e a n c l) : l.length = n := by
  have := h.own.1
  simpa [cellsOf] using this
theorem OwnB.cases {w : World} {base e a n c l} (h : OwnB w base e a n c l) : (a = none ∧ n = 0 ∧ c = 0) ∨ ∃ g, a = some ⟨g, 0, none⟩ ∧ base ≤ g ∧ g < w.heap.size ∧ n ≤ c ∧ c ≤ maxLen := by
  rcases h.own.2 with ⟨hv, hn⟩ | ⟨g, cap, cur, hv, hg, hh, hn, hc, _⟩
  · simp only [Value.slice.injEq] at hv
    exact .inl ⟨hv.1, hn, hv.2.2⟩
  · simp only [Value.slice.injEq] at hv
    obtain ⟨rfl, _, rfl⟩ := hv
    exact .inr ⟨g, rfl, hg, (Array.getElem?_eq_some_iff.1 hh).1, hn, hc⟩
theorem OwnB.bytes {w : World} {base e a n c l} (h : OwnB w base e a n c l) : Bytes w a n c l := by
  rcases h.cases with ⟨rfl, rfl, rfl⟩ | ⟨g, rfl, hg, hs, hn, hc⟩
  · exact ⟨h.len, Nat.le_refl _, by omega, h.all, fun _ => rfl, .inl rfl⟩
  · refine ⟨h.len, hn, by unfold maxLen at hc; omega, h.all, by simp, .inr ⟨g, 0, rfl, fun i hi => ?_⟩⟩
    rw [Nat.zero_add, h.own.cellAt i (by omega), cellsOf, List.getElem?_map, List.getElem?_eq_getElem (by rw [h.len]; exact hi), List.getD_eq_getElem?_getD, List.getElem?_eq_getElem (by rw [h.len]; exact hi)]
    rfl
theorem OwnB.mono {w : World} {base base' e a n c l} (h : OwnB w base e a n c l) (hb : base' ≤ base) : OwnB w base' e a n c l := by
  refine ⟨⟨h.own.1, ?_⟩, h.all⟩
  rcases h.own.2 with hv | ⟨g, cap, cur, hv, hg, r⟩
  · exact .inl hv
  · exact .inr ⟨g, cap, cur, hv, Nat.le_trans hb hg, r⟩
theorem OwnB.below {w w' : World} {base e a n c l} (h : OwnB w base e a n c l) (hb : Below w.heap.size w w') : OwnB w' base e a n c l := by
  refine ⟨⟨h.own.1, ?_⟩, h.all⟩
  rcases h.own.2 with hv | ⟨g, cap, cur, hv, hg, hh, r⟩
  · exact .inl hv
  · exact .inr ⟨g, cap, cur, hv, hg, by rw [hb.block g (Array.getElem?_eq_some_iff.1 hh).1]; exact hh, r⟩
theorem OwnB.drewN {w : World} {base e a n c l} (h : OwnB w base e a n c l) (m : Nat) : OwnB (w.drewN m) base e a n c l :=
  h.below (below_drewN (Below.refl _ _) m)
theorem OwnB.drew {w : World} {base e a n c l} (h : OwnB w base e a n c l) : OwnB w.drew base e a n c l :=
  h.below (Below.drew (Below.refl _ _))
theorem OwnB.alloc {w : World} {base e a n c l} (h : OwnB w base e a n c l) (o : Obj) : OwnB (w.alloc o) base e a n c l :=
  h.below ((Below.refl _ _).alloc (Nat.le_refl _) o)
theorem OwnB.nil (w : World) (base : Nat) (e : TypeId) : OwnB w base e none 0 0 [] := ⟨World.ownsRow_nil w base e 1, by simp [AllB]⟩
theorem OwnB.made (w : World) (base : Nat) (e : TypeId) (l : List Int) (cur : Array Value) (hcur : cur = (cellsOf l).toArray) (hb : base ≤ w.heap.size) (hl : l.length ≤ maxLen) (hall : AllB l) :
    OwnB (w.alloc (.cells cur e)) base e (some ⟨w.heap.size, 0, none⟩) l.length l.length l := by
  subst hcur
  refine ⟨⟨by simp [cellsOf], .inr ⟨w.heap.size, l.length, _, rfl, hb, heap_alloc_new w _, Nat.le_refl _, hl, by simp [cellsOf], ?_⟩⟩, hall⟩
  rw [List.take_of_length_le (by simp [cellsOf])]
theorem Bytes.one (w : World) (e : TypeId) (z : Int) (h0 : 0 ≤ z ∧ z ≤ 255) : Bytes (w.alloc (.cells #[.int .u8 z] e)) (some ⟨w.heap.size, 0, none⟩) 1 1 [z] :=
  (OwnB.made w 0 e [z] _ rfl (Nat.zero_le _) (by simp [maxLen]) (by simpa [AllB] using h0)).bytes
structure ByteT (P : Program) (t e : TypeId) : Prop where
  und : P.underlying t = some (.slice e)
  info : (P.info? e).map (fun i => (i.zero, i.size, i.bytes)) = some (some (.int .u8 0), 1, 1)
theorem run_append_b2 {P : Program} {t e : TypeId} (T : ByteT P t e) (ty : TypeId) (w : World) (base : Nat) {a n c l} (h : OwnB w base e a n c l) {a' m c' l'} (hs : Bytes w a' m c' l')
    (hn : n + m ≤ 140737488355328) (hbase : base ≤ w.heap.size) :
    ∃ a2 c2 w', (Builtin.append_ #[t, t] ty #[.slice a n c, .slice a' m c']).run P w = .ok (.slice a2 (n + m) c2) w' ∧ OwnB w' base e a2 (n + m) c2 (l ++ l') ∧ Below base w w' ∧ (a2 = none ↔ a = none ∧ m = 0) ∧ w.grownBy w' (Value.ownBlock (.slice a n c)) := by
  obtain ⟨i0, hi, hz0, hz1, hz2⟩ := info_parts T.info
  have fin : ∀ v' w', (Builtin.append_ #[t, t] ty #[.slice a n c, .slice a' m c']).run P w = .ok v' w' → w'.ownsRow base e 1 v' (n + m) (cellsOf (l ++ l')) → w.grownBy w' (Value.ownBlock (.slice a n c)) → (v' = .slice none 0 0 ↔ Value.slice a n c = .slice none 0 0 ∧ m = 0) →
      ∃ a2 c2 w', (Builtin.append_ #[t, t] ty #[.slice a n c, .slice a' m c']).run P w = .ok (.slice a2 (n + m) c2) w' ∧ OwnB w' base e a2 (n + m) c2 (l ++ l') ∧ Below base w w' ∧ (a2 = none ↔ a = none ∧ m = 0) ∧ w.grownBy w' (Value.ownBlock (.slice a n c)) := by
    intro v' w' hr ho hg hnil
    have hall : AllB (l ++ l') := fun x hx => (List.mem_append.1 hx).elim (h.all x) (hs.all x)
    have hbel : Below base w w' := (Below.refl base w).grown hg hbase (fun k hk => (h.own.lt k hk).1)
    have ha : a = none → n = 0 ∧ c = 0 := fun hz => by
      rcases h.cases with ⟨_, x, y⟩ | ⟨g, x, _⟩
      · exact ⟨x, y⟩
      · rw [hz] at x; cases x
    rcases ho.2 with ⟨rfl, h0⟩ | ⟨g, cap, cur, rfl, hgb, hh, r⟩
    · refine ⟨none, 0, w', ?_, ⟨?_, hall⟩, hbel, ?_, hg⟩
      · rw [hr, h0]
      · rw [h0] at ho ⊢; exact ho
      · have := hnil.1 rfl
        simp only [Value.slice.injEq] at this
        exact ⟨fun _ => ⟨this.1.1, this.2⟩, fun _ => rfl⟩
    · refine ⟨some ⟨g, 0, none⟩, cap, w', hr, ⟨ho, hall⟩, hbel, ?_, hg⟩
      simp only [reduceCtorEq, false_iff]
      rintro ⟨hz, hm0⟩
      obtain ⟨x, y⟩ := ha hz
      have := hnil.2 ⟨by rw [hz, x, y], hm0⟩
      simp at this
  rcases Option.eq_none_or_eq_some a' with hz | ⟨ad, hz⟩
  · subst hz
    have hc' := hs.nil rfl
    have hm : m = 0 := by have := hs.cap; omega
    subst hc' hm
    have hl' : l' = [] := List.eq_nil_of_length_eq_zero hs.len
    subst hl'
    have hr := run_append_owned_none (P := P) (w := w) base t ty e i0 1 T.und hi (.slice a n c) n (cellsOf l) h.own
    refine fin _ _ hr (by simpa using h.own) ⟨rfl, rfl, rfl, Nat.le_refl _, fun _ _ _ => rfl⟩ (by simp)
  · subst hz
    have hcells : ∀ j u, (cellsOf l')[j]? = some u → w.cell? (ad.add j) = some u := by
      intro j u hu
      rcases hs.at' with h0 | ⟨b, off, hab, hc⟩
      · have : l' = [] := List.eq_nil_of_length_eq_zero (by rw [hs.len, h0])
        subst this
        simp [cellsOf] at hu
      · simp only [Option.some.injEq] at hab
        subst hab
        have hj : j < m := by
          have := (List.getElem?_eq_some_iff.1 hu).1
          rw [← hs.len]
          simpa [cellsOf] using this
        have e1 : (⟨b, off, none⟩ : Addr).add j = ⟨b, off + j, none⟩ := by unfold Addr.add; split <;> simp_all
        rw [e1, hc j hj, ← hu, cellsOf, List.getElem?_map, List.getElem?_eq_getElem (by rw [hs.len]; exact hj), List.getD_eq_getElem?_getD, List.getElem?_eq_getElem (by rw [hs.len]; exact hj)]
        rfl
    obtain ⟨v', w', hr, ho, hg, hnil⟩ := run_append_own (P := P) w base t ty e i0 (.int .u8 0) 1 1 T.und hi hz0 hz1 hz2 rfl (by decide) (.slice a n c) n (cellsOf l) h.own ad m c' (cellsOf l') (by simp [cellsOf, hs.len]) hcells
      (by intro u hu; obtain ⟨x, _, rfl⟩ := List.mem_map.1 hu; rfl) (by unfold maxLen; omega) (by omega) hbase
    exact fin v' w' hr (by rw [cellsOf_append]; exact ho) hg hnil
theorem run_append_b {P : Program} {t e : TypeId} (T : ByteT P t e) (ty : TypeId) (w : World) (base : Nat) {a n c l} (h : OwnB w base e a n c l) {a' m c' l'} (hs : Bytes w a' m c' l')
    (hn : n + m ≤ 140737488355328) (hbase : base ≤ w.heap.size) :
    ∃ a2 c2 w', (Builtin.append_ #[t, t] ty #[.slice a n c, .slice a' m c']).run P w = .ok (.slice a2 (n + m) c2) w' ∧ OwnB w' base e a2 (n + m) c2 (l ++ l') ∧ Below base w w' ∧ (a2 = none ↔ a = none ∧ m = 0) := by
  obtain ⟨a2, c2, w', h1, h2, h3, h4, _⟩ := run_append_b2 T ty w base h hs hn hbase
  exact ⟨a2, c2, w', h1, h2, h3, h4⟩
section
variable {P : Program} {w : World} {ops : Array Oper} {rest : List Oper} {o : Oper} {a : Act} {Q : Exit → Act → World → Prop}
theorem wp_append_b {K : Act → World → Prop} {t e : TypeId} (T : ByteT P t e) (s x : Operand) (ho : o.op = .call { callee := .builtin .append, args := #[s, x], argTypes := #[t, t] })
    (base : Nat) {b n c l} (hs : a.eval s = .slice b n c) (h : OwnB w base e b n c l) {b' m c' l'} (hx : a.eval x = .slice b' m c') (hb : Bytes w b' m c' l') (hn : n + m ≤ 140737488355328) (hbase : base ≤ w.heap.size)
    (k : ∀ a2 c2 w', OwnB w' base e a2 (n + m) c2 (l ++ l') → Below base w w' → (a2 = none ↔ b = none ∧ m = 0) → K (a.put o.dst (.slice a2 (n + m) c2)) w') : o.wp P a w K Q := by
  obtain ⟨a2, c2, w', hr, h2, h3, h4⟩ := run_append_b T o.type w base h hb hn hbase
  unfold Oper.wp execOp
  simp only [ho, resolve, invoke, builtin, Sem.run_bind, Sem.run_pure, Result.andThen_ok, List.map_toArray, List.map_cons, List.map_nil, hs, hx, hr]
  exact k a2 c2 w' h2 h3 h4
theorem wpList_append_b {t e : TypeId} (T : ByteT P t e) (hw : Region.wanted o (yielded ops a.tmps) = true) (s x : Operand) (ho : o.op = .call { callee := .builtin .append, args := #[s, x], argTypes := #[t, t] })
    (base : Nat) {b n c l} (hs : a.eval s = .slice b n c) (h : OwnB w base e b n c l) {b' m c' l'} (hx : a.eval x = .slice b' m c') (hb : Bytes w b' m c' l') (hn : n + m ≤ 140737488355328) (hbase : base ≤ w.heap.size)
    (k : ∀ a2 c2 w', OwnB w' base e a2 (n + m) c2 (l ++ l') → Below base w w' → (a2 = none ↔ b = none ∧ m = 0) → wpList P ops Q rest (a.put o.dst (.slice a2 (n + m) c2)) w') : wpList P ops Q (o :: rest) a w :=
  BigFrame.wpList_want hw fun K hK => wp_append_b T s x ho base hs h hx hb hn hbase fun a2 c2 w' h2 h3 h4 => hK _ _ (k a2 c2 w' h2 h3 h4)
end
theorem OwnB.cellAt {w : World} {base e n c l} {g : Nat} (h : OwnB w base e (some ⟨g, 0, none⟩) n c l) (j : Nat) (hj : j < n) : w.cell? ⟨g, j, none⟩ = some (.int .u8 (l.getD j 0)) := by
  rw [h.own.cellAt j (by omega), cellsOf, List.getElem?_map, List.getElem?_eq_getElem (by rw [h.len]; exact hj), List.getD_eq_getElem?_getD, List.getElem?_eq_getElem (by rw [h.len]; exact hj)]
  rfl
theorem OwnB.keep {w w' : World} {base e n c l} {g : Nat} (h : OwnB w base e (some ⟨g, 0, none⟩) n c l) (hk : w'.heap[g]? = w.heap[g]?) : OwnB w' base e (some ⟨g, 0, none⟩) n c l := by
  refine ⟨⟨h.own.1, ?_⟩, h.all⟩
  rcases h.own.2 with hv | ⟨g', cap, cur, hv, hg, hh, r⟩
  · exact .inl hv
  · refine .inr ⟨g', cap, cur, hv, hg, ?_, r⟩
    simp only [Value.slice.injEq, Option.some.injEq, Addr.mk.injEq, and_true] at hv
    rw [← hv.1, hk, hv.1]
    exact hh
theorem OwnB.block {w : World} {base e n c l} {g : Nat} (h : OwnB w base e (some ⟨g, 0, none⟩) n c l) : ∃ cur, w.heap[g]? = some (.cells cur e (0, 0)) := by
  rcases h.own.2 with ⟨hv, _⟩ | ⟨g', cap, cur, hv, hg, hh, r⟩
  · simp at hv
  · simp only [Value.slice.injEq, Option.some.injEq, Addr.mk.injEq, and_true] at hv
    rw [hv.1]
    exact ⟨cur, hh⟩
end Go.Proofs.Ytcjagcfjpfjanaa.bs
end
section
namespace Go.Proofs.Ytcjagcfjpfjanaa.bs
open Go.ChangeShapes Go.WideShapes Go.ChangeAt Go.RowKit
set_option linter.unusedVariables false
def txt (p : ByteArray) : List Int := p.data.toList.map fun b => (b.toNat : Int)
theorem txt_inj {p q : ByteArray} (h : txt p = txt q) : p = q := by
  have h1 : p.data.toList = q.data.toList := by
    have inj : ∀ (l m : List UInt8), l.map (fun b => (b.toNat : Int)) = m.map (fun b => (b.toNat : Int)) → l = m := by
      intro l
      induction l with
      | nil => intro m hm; cases m with
        | nil => rfl
        | cons => simp at hm
      | cons a l ih => intro m hm; cases m with
        | nil => simp at hm
        | cons b m =>
          simp only [List.map_cons, List.cons.injEq] at hm
          have hb : a = b := UInt8.toNat_inj.1 (by omega)
          rw [hb, ih m hm.2]
    exact inj _ _ h
  cases p; cases q
  simp only [ByteArray.mk.injEq]
  exact Array.toList_inj.1 h1
theorem text_beq (p q : ByteArray) : (p == q) = decide (p = q) := by
  cases p with | mk a => cases q with | mk b =>
  have e : ((ByteArray.mk a == ByteArray.mk b) : Bool) = (a == b) := rfl
  rw [e]
  by_cases h : a = b
  · subst h; simp
  · have : ¬ (ByteArray.mk a = ByteArray.mk b) := fun x => h (by cases x; rfl)
    rw [decide_eq_false this, beq_eq_false_iff_ne]
    exact h
theorem text_eq (p q : ByteArray) : (p.toList == q.toList) = decide (p = q) := by
  rw [ByteArray.toList_eq, ByteArray.toList_eq]
  by_cases h : p = q
  · subst h; simp
  · rw [decide_eq_false h, beq_eq_false_iff_ne]
    intro x
    refine h (txt_inj ?_)
    unfold txt
    rw [x]
def lead (e : Nat → Bool) : Nat → Nat → Nat
  | 0, i => i
  | k + 1, i => if e i then lead e k (i + 1) else i
end Go.Proofs.Ytcjagcfjpfjanaa.bs
end
