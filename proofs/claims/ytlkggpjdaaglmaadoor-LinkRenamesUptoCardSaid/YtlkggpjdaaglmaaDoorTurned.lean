/-
  What a call turns: 'Turned w w' d row': w' is w but for new blocks, the block d and the row 'row'; what stays. An append that tells where the new slice lies. A block of known cells: 'Blk'. No program is named here.
-/
import Derived.Test.YtlkggpjdaaglmaaDoorOwn
import Derived.Laws.Rows
import Derived.Deep.AppendLies
namespace Go.Proofs.YtlkggpjdaaglmaaDoor.bs
open Go.ChangeShapes Go.WideShapes Go.ChangeAt Go.RowKit
set_option linter.unusedVariables false

def blockOf : Option Addr → Option Nat
  | some x => some x.block
  | none => none
theorem ownBlock_eq (a : Option Addr) (n c : Nat) : Value.ownBlock (.slice a n c) = blockOf a := by cases a <;> rfl

/-- The block g has the cells cs. -/
def Blk (w : World) (g : Nat) (cs : Array Value) (t : TypeId) : Prop := w.heap[g]? = some (.cells cs t (0, 0))
theorem Blk.lt {w : World} {g cs t} (h : Blk w g cs t) : g < w.heap.size := (Array.getElem?_eq_some_iff.1 h).1
theorem Blk.cell {w : World} {g cs t} (h : Blk w g cs t) (i : Nat) : w.cell? ⟨g, i, none⟩ = cs[i]? := cell_of_row w g i cs t _ h
theorem Blk.free {w : World} {g cs t} (h : Blk w g cs t) (i : Nat) : w.frozen? ⟨g, i, none⟩ = false := frozen_of_row w g i cs t h
theorem Blk.set {w : World} {g cs t} (h : Blk w g cs t) (i : Nat) (v : Value) : Blk (w.setCell ⟨g, i, none⟩ v) g (cs.setIfInBounds i v) t := heap_setCell_same w g i cs t v h
theorem Blk.new (w : World) (cs : Array Value) (t : TypeId) : Blk (w.alloc (.cells cs t)) w.heap.size cs t := heap_alloc_new w _
theorem Blk.of {w w' : World} {g cs t} (h : Blk w g cs t) (he : w'.heap[g]? = w.heap[g]?) : Blk w' g cs t := by unfold Blk; rw [he]; exact h
theorem Blk.below {w w' : World} {g cs t} (h : Blk w g cs t) (hb : Below w.heap.size w w') : Blk w' g cs t := h.of (hb.block g h.lt)
theorem Blk.drewN {w : World} {g cs t} (h : Blk w g cs t) (m : Nat) : Blk (w.drewN m) g cs t := h
theorem Blk.other {w : World} {g cs t} (h : Blk w g cs t) (p : Addr) (v : Value) (hp : g ≠ p.block) : Blk (w.setCell p v) g cs t := h.of (heap_setCell_other w p g v hp)

structure Turned (w w' : World) (d : Nat) (row : Option Nat) : Prop where
  os : w'.os = w.os
  tape : w'.tape = w.tape
  output : w'.output = w.output
  size : w.heap.size ≤ w'.heap.size
  block : ∀ i, i < w.heap.size → i ≠ d → row ≠ some i → w'.heap[i]? = w.heap[i]?

theorem Turned.of_below {w w' : World} (h : Below w.heap.size w w') (d : Nat) (row : Option Nat) : Turned w w' d row := ⟨h.os, h.tape, h.output, h.size, fun i hi _ _ => h.block i hi⟩
theorem Turned.refl (w : World) (d : Nat) (row : Option Nat) : Turned w w d row := .of_below (Below.refl _ _) d row
theorem Turned.of_grown {w w' : World} {row : Option Nat} (h : w.grownBy w' row) (d : Nat) : Turned w w' d row := ⟨h.os, h.tape, h.output, h.size, fun i hi _ hr => h.block i hi (fun e => hr e.symm)⟩
theorem Turned.setCell {w w' : World} {d : Nat} {row : Option Nat} (h : Turned w w' d row) (j : Nat) (v : Value) : Turned w (w'.setCell ⟨d, j, none⟩ v) d row :=
  ⟨h.os, h.tape, h.output, by simpa [World.setCell] using h.size, fun i hi hd hr => (Below.heap_setCell w' ⟨d, j, none⟩ v i hd).trans (h.block i hi hd hr)⟩
theorem Turned.drewN {w w' : World} {d : Nat} {row : Option Nat} (h : Turned w w' d row) (m : Nat) : Turned w (w'.drewN m) d row := ⟨h.os, h.tape, h.output, h.size, h.block⟩
theorem Turned.trans_below {w w' w'' : World} {d : Nat} {row : Option Nat} (h : Turned w w' d row) (k : Below w'.heap.size w' w'') : Turned w w'' d row :=
  ⟨k.os.trans h.os, k.tape.trans h.tape, k.output.trans h.output, Nat.le_trans h.size k.size, fun i hi hd hr => (k.block i (Nat.lt_of_lt_of_le hi h.size)).trans (h.block i hi hd hr)⟩
theorem Turned.below_trans {w w' w'' : World} {d : Nat} {row : Option Nat} (h : Below w.heap.size w w') (k : Turned w' w'' d row) : Turned w w'' d row :=
  ⟨k.os.trans h.os, k.tape.trans h.tape, k.output.trans h.output, Nat.le_trans h.size k.size, fun i hi hd hr => (k.block i (Nat.lt_of_lt_of_le hi h.size) hd hr).trans (h.block i hi)⟩
/-- Behind two: the second one's row is the first one's, or new. -/
theorem Turned.trans {w w' w'' : World} {d : Nat} {row row' : Option Nat} (h : Turned w w' d row) (k : Turned w' w'' d row') (hr : ∀ i, i < w.heap.size → row' = some i → row = some i) : Turned w w'' d row :=
  ⟨k.os.trans h.os, k.tape.trans h.tape, k.output.trans h.output, Nat.le_trans h.size k.size, fun i hi hd hn => (k.block i (Nat.lt_of_lt_of_le hi h.size) hd (fun e => hn (hr i hi e))).trans (h.block i hi hd hn)⟩
theorem Turned.below {w w' : World} {d : Nat} {row : Option Nat} {B : Nat} (h : Turned w w' d row) (hB : B ≤ w.heap.size) (hd : B ≤ d) (hr : ∀ i, row = some i → B ≤ i) : Below B w w' :=
  ⟨h.os, h.tape, h.output, h.size, fun i hi => h.block i (by omega) (by omega) (fun e => by have := hr i e; omega)⟩

theorem OwnB.blockLt {w : World} {base e a n c l} (h : OwnB w base e a n c l) {i : Nat} (hi : blockOf a = some i) : base ≤ i ∧ i < w.heap.size := by
  rcases h.cases with ⟨rfl, _⟩ | ⟨g, rfl, h1, h2, _⟩
  · cases hi
  · cases hi; exact ⟨h1, h2⟩
theorem OwnB.of {w w' : World} {base e a n c l} (h : OwnB w base e a n c l) (hk : ∀ i, blockOf a = some i → w'.heap[i]? = w.heap[i]?) : OwnB w' base e a n c l := by
  rcases h.cases with ⟨rfl, rfl, rfl⟩ | ⟨g, rfl, h1, h2, _⟩
  · exact ⟨⟨h.own.1, .inl ⟨rfl, rfl⟩⟩, h.all⟩
  · exact h.keep (hk g rfl)
theorem OwnB.turned {w w' : World} {base e a n c l} (h : OwnB w base e a n c l) {d : Nat} {row : Option Nat} (ht : Turned w w' d row) (h1 : blockOf a ≠ some d) (h2 : ∀ i, row = some i → blockOf a ≠ some i) : OwnB w' base e a n c l :=
  h.of (fun i hi => ht.block i (h.blockLt hi).2 (fun e => h1 (by rw [hi, e])) (fun e => h2 i e hi))
/-- A block of another type is no row of bytes. -/
theorem OwnB.notBlk {w : World} {base e a n c l} (h : OwnB w base e a n c l) {g : Nat} {cs : Array Value} {t : TypeId} (hg : Blk w g cs t) (he : e ≠ t) : blockOf a ≠ some g := by
  rcases h.own.2 with ⟨hv, _⟩ | ⟨g', cap, cur, hv, _, hh, _⟩
  · simp only [Value.slice.injEq] at hv
    rw [hv.1]; simp [blockOf]
  · simp only [Value.slice.injEq] at hv
    rw [hv.1]
    simp only [blockOf, ne_eq, Option.some.injEq]
    rintro rfl
    rw [Blk, hh] at hg
    simp only [Option.some.injEq, Obj.cells.injEq] at hg
    exact he hg.2.1
/-- The first ones of an owned slice. -/
theorem OwnB.first {w : World} {base e a n c l} (h : OwnB w base e a n c l) (k : Nat) (hk : k ≤ n) : OwnB w base e a k c (l.take k) := by
  have hl := h.len
  refine ⟨⟨by simp [cellsOf]; omega, ?_⟩, fun x hx => h.all x (List.mem_of_mem_take hx)⟩
  rcases h.own.2 with ⟨hv, h0⟩ | ⟨g, cap, cur, hv, hg, hh, hn, hm, hs, ht⟩
  · simp only [Value.slice.injEq] at hv
    obtain ⟨rfl, _, rfl⟩ := hv
    have : k = 0 := by omega
    subst this
    exact .inl ⟨rfl, rfl⟩
  · simp only [Value.slice.injEq] at hv
    obtain ⟨rfl, _, rfl⟩ := hv
    refine .inr ⟨g, c, cur, rfl, hg, hh, by omega, hm, hs, ?_⟩
    rw [Nat.mul_one] at ht ⊢
    rw [cellsOf, List.map_take, ← cellsOf, ← ht, List.take_take, Nat.min_eq_left hk]

section
variable {P : Program} {w : World} {ops : Array Oper} {rest : List Oper} {o : Oper} {a : Act} {Q : Exit → Act → World → Prop}
/-- An append of at least one byte, which also tells where the new slice lies, and what is turned. -/
theorem wpList_append_b3 {t e : TypeId} (T : ByteT P t e) (hw : Region.wanted o (yielded ops a.tmps) = true) (s x : Operand) (ho : o.op = .call { callee := .builtin .append, args := #[s, x], argTypes := #[t, t] })
    (base : Nat) {b n c l} (hs : a.eval s = .slice b n c) (h : OwnB w base e b n c l) {b' m c' l'} (hx : a.eval x = .slice b' m c') (hb : Bytes w b' m c' l') (hm : 0 < m) (hn : n + m ≤ 140737488355328) (hbase : base ≤ w.heap.size)
    (k : ∀ a2 c2 w', OwnB w' base e a2 (n + m) c2 (l ++ l') → w.grownBy w' (blockOf b) → (blockOf a2 = blockOf b ∨ blockOf a2 = some w.heap.size) → wpList P ops Q rest (a.put o.dst (.slice a2 (n + m) c2)) w') : wpList P ops Q (o :: rest) a w :=
  BigFrame.wpList_want hw fun K hK => by
    obtain ⟨i0, hi, hz0, hz1, hz2⟩ := info_parts T.info
    obtain ⟨g0, off, rfl, hc⟩ := hb.at'.resolve_left (by omega)
    have hcells : ∀ j u, (cellsOf l')[j]? = some u → w.cell? ((⟨g0, off, none⟩ : Addr).add j) = some u := by
      intro j u hu
      have hj : j < m := by
        have := (List.getElem?_eq_some_iff.1 hu).1
        rw [← hb.len]
        simpa [cellsOf] using this
      have e1 : (⟨g0, off, none⟩ : Addr).add j = ⟨g0, off + j, none⟩ := by unfold Addr.add; split <;> simp_all
      rw [e1, hc j hj, ← hu, cellsOf, List.getElem?_map, List.getElem?_eq_getElem (by rw [hb.len]; exact hj), List.getD_eq_getElem?_getD, List.getElem?_eq_getElem (by rw [hb.len]; exact hj)]
      rfl
    obtain ⟨g, cap, w', hr, ho2, hg, hat, hlt⟩ := run_append_lies (P := P) w t o.type base e i0 (.int .u8 0) 1 1 T.und hi hz0 hz1 hz2 rfl (by decide) (.slice b n c) n (cellsOf l) h.own ⟨g0, off, none⟩ m c' (cellsOf l') (by simp [cellsOf, hb.len]) hcells
      (by intro u hu; obtain ⟨x, _, rfl⟩ := List.mem_map.1 hu; rfl) hm (by unfold maxLen; omega) (by omega) hbase _ rfl
    have hall : AllB (l ++ l') := fun x hx => (List.mem_append.1 hx).elim (h.all x) (hb.all x)
    rw [← cellsOf_append] at ho2
    rw [ownBlock_eq] at hg hat
    unfold Oper.wp execOp
    simp only [ho, resolve, invoke, builtin, Sem.run_bind, Sem.run_pure, Result.andThen_ok, List.map_toArray, List.map_cons, List.map_nil, hs, hx, hr]
    refine hK _ _ (k _ _ w' ⟨ho2, hall⟩ hg ?_)
    rcases hat with hat | hat
    · exact .inl hat.symm
    · exact .inr (by rw [hat]; rfl)
end
end Go.Proofs.YtlkggpjdaaglmaaDoor.bs
