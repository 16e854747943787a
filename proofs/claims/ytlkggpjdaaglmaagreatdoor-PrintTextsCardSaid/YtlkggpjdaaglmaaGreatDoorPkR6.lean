import Derived.Laws.Rows
import Derived.Deep.AppendLies
import Derived.Test.YtlkggpjdaaglmaaGreatDoorPkR0
import Derived.Test.YtlkggpjdaaglmaaGreatDoorPkR2
import Derived.Test.YtlkggpjdaaglmaaGreatDoorProg
import Derived.Laws.Tables
import Derived.BigQuiet
import Derived.Deep.CutRange
import Derived.Deep.RegionHeldLaw
import Derived.OwnWalk
import Derived.Test.YtlkggpjdaaglmaaGreatDoorPkR5
section
namespace Go.Proofs.YtlkggpjdaaglmaaGreatDoor.bs
open Go.ChangeShapes Go.WideShapes Go.ChangeAt Go.RowKit
set_option linter.unusedVariables false
def blockOf : Option Addr → Option Nat
  | some x => some x.block
  | none => none
theorem ownBlock_eq (a : Option Addr) (n c : Nat) : Value.ownBlock (.slice a n c) = blockOf a := by cases a <;> rfl
def Blk (w : World) (g : Nat) (cs : Array Value) (t : TypeId) : Prop := w.heap[g]? = some (.cells cs t (0, 0))
theorem Blk.lt {w : World} {g cs t} (h : Blk w g cs t) : g < w.heap.size := (Array.getElem?_eq_some_iff.1 h).1
theorem Blk.cell {w : World} {g cs t} (h : Blk w g cs t) (i : Nat) : w.cell? ⟨g, i, none⟩ = cs[i]? := cell_of_row w g i cs t _ h
theorem Blk.set {w : World} {g cs t} (h : Blk w g cs t) (i : Nat) (v : Value) : Blk (w.setCell ⟨g, i, none⟩ v) g (cs.setIfInBounds i v) t := heap_setCell_same w g i cs t v h
theorem Blk.new (w : World) (cs : Array Value) (t : TypeId) : Blk (w.alloc (.cells cs t)) w.heap.size cs t := heap_alloc_new w _
theorem Blk.of {w w' : World} {g cs t} (h : Blk w g cs t) (he : w'.heap[g]? = w.heap[g]?) : Blk w' g cs t := by unfold Blk; rw [he]; exact h
theorem Blk.below {w w' : World} {g cs t} (h : Blk w g cs t) (hb : Below w.heap.size w w') : Blk w' g cs t := h.of (hb.block g h.lt)
theorem Blk.drewN {w : World} {g cs t} (h : Blk w g cs t) (m : Nat) : Blk (w.drewN m) g cs t := h
theorem Blk.other {w : World} {g cs t} (h : Blk w g cs t) (p : Addr) (v : Value) (hp : g ≠ p.block) : Blk (w.setCell p v) g cs t := h.of (heap_setCell_other w p g v hp)
structure Turned (w w' : World) (d : Nat) (row : Option Nat) : Prop where
  os : w'.os = w.os
  tape : w'.tape = w.tape
  output : w'.output = w.output
  size : w.heap.size ≤ w'.heap.size
  block : ∀ i, i < w.heap.size → i ≠ d → row ≠ some i → w'.heap[i]? = w.heap[i]?
theorem Turned.of_below {w w' : World} (h : Below w.heap.size w w') (d : Nat) (row : Option Nat) : Turned w w' d row := ⟨h.os, h.tape, h.output, h.size, fun i hi _ _ => h.block i hi⟩
theorem Turned.refl (w : World) (d : Nat) (row : Option Nat) : Turned w w d row := .of_below (Below.refl _ _) d row
theorem Turned.setCell {w w' : World} {d : Nat} {row : Option Nat} (h : Turned w w' d row) (j : Nat) (v : Value) : Turned w (w'.setCell ⟨d, j, none⟩ v) d row :=
  ⟨h.os, h.tape, h.output, by simpa [World.setCell] using h.size, fun i hi hd hr => (Below.heap_setCell w' ⟨d, j, none⟩ v i hd).trans (h.block i hi hd hr)⟩
theorem Turned.drewN {w w' : World} {d : Nat} {row : Option Nat} (h : Turned w w' d row) (m : Nat) : Turned w (w'.drewN m) d row := ⟨h.os, h.tape, h.output, h.size, h.block⟩
theorem Turned.trans {w w' w'' : World} {d : Nat} {row row' : Option Nat} (h : Turned w w' d row) (k : Turned w' w'' d row') (hr : ∀ i, i < w.heap.size → row' = some i → row = some i) : Turned w w'' d row :=
  ⟨k.os.trans h.os, k.tape.trans h.tape, k.output.trans h.output, Nat.le_trans h.size k.size, fun i hi hd hn => (k.block i (Nat.lt_of_lt_of_le hi h.size) hd (fun e => hn (hr i hi e))).trans (h.block i hi hd hn)⟩
theorem Turned.below {w w' : World} {d : Nat} {row : Option Nat} {B : Nat} (h : Turned w w' d row) (hB : B ≤ w.heap.size) (hd : B ≤ d) (hr : ∀ i, row = some i → B ≤ i) : Below B w w' :=
  ⟨h.os, h.tape, h.output, h.size, fun i hi => h.block i (by omega) (by omega) (fun e => by have := hr i e; omega)⟩
theorem OwnB.blockLt {w : World} {base e a n c l} (h : OwnB w base e a n c l) {i : Nat} (hi : blockOf a = some i) : base ≤ i ∧ i < w.heap.size := by
  rcases h.cases with ⟨rfl, _⟩ | ⟨g, rfl, h1, h2, _⟩
  · cases hi
  · cases hi; exact ⟨h1, h2⟩
theorem OwnB.of {w w' : World} {base e a n c l} (h : OwnB w base e a n c l) (hk : ∀ i, blockOf a = some i → w'.heap[i]? = w.heap[i]?) : OwnB w' base e a n c l := by
  rcases h.cases with ⟨rfl, rfl, rfl⟩ | ⟨g, rfl, h1, h2, _⟩
  · exact ⟨⟨h.own.1, .inl ⟨rfl, rfl⟩⟩, h.all⟩
  · exact h.keep (hk g rfl)
theorem OwnB.turned {w w' : World} {base e a n c l} (h : OwnB w base e a n c l) {d : Nat} {row : Option Nat} (ht : Turned w w' d row) (h1 : blockOf a ≠ some d) (h2 : ∀ i, row = some i → blockOf a ≠ some i) : OwnB w' base e a n c l :=
  h.of (fun i hi => ht.block i (h.blockLt hi).2 (fun e => h1 (by rw [hi, e])) (fun e => h2 i e hi))
theorem OwnB.first {w : World} {base e a n c l} (h : OwnB w base e a n c l) (k : Nat) (hk : k ≤ n) : OwnB w base e a k c (l.take k) := by
  have hl := h.len
  refine ⟨⟨by simp [cellsOf]; omega, ?_⟩, fun x hx => h.all x (List.mem_of_mem_take hx)⟩
  rcases h.own.2 with ⟨hv, h0⟩ | ⟨g, cap, cur, hv, hg, hh, hn, hm, hs, ht⟩
  · simp only [Value.slice.injEq] at hv
    obtain ⟨rfl, _, rfl⟩ := hv
    have : k = 0 := by omega
    subst this
    exact .inl ⟨rfl, rfl⟩
  · simp only [Value.slice.injEq] at hv
    obtain ⟨rfl, _, rfl⟩ := hv
    refine .inr ⟨g, c, cur, rfl, hg, hh, by omega, hm, hs, ?_⟩
    rw [Nat.mul_one] at ht ⊢
    rw [cellsOf, List.map_take, ← cellsOf, ← ht, List.take_take, Nat.min_eq_left hk]
section
variable {P : Program} {w : World} {ops : Array Oper} {rest : List Oper} {o : Oper} {a : Act} {Q : Exit → Act → World → Prop}
end
end Go.Proofs.YtlkggpjdaaglmaaGreatDoor.bs
end
section
namespace Go.Proofs.YtlkggpjdaaglmaaGreatDoor.bs
open Go.ChangeShapes Go.WideShapes Go.ChangeAt Go.RowKit
set_option linter.unusedVariables false
structure OwnS {α : Type} (size : Nat) (cells : α → List Value) (w : World) (base : Nat) (e : TypeId) (a : Option Addr) (n c : Nat) (l : List α) : Prop where
  own : w.ownsRow base e size (.slice a n c) n (l.flatMap cells)
  num : l.length = n
variable {α : Type} {size : Nat} {cells : α → List Value}
theorem OwnS.cases {w : World} {base e a n c} {l : List α} (h : OwnS size cells w base e a n c l) : (a = none ∧ n = 0 ∧ c = 0) ∨ ∃ g, a = some ⟨g, 0, none⟩ ∧ base ≤ g ∧ g < w.heap.size ∧ n ≤ c ∧ c ≤ maxLen := by
  rcases h.own.2 with ⟨hv, hn⟩ | ⟨g, cap, cur, hv, hg, hh, hn, hc, _⟩
  · simp only [Value.slice.injEq] at hv
    exact .inl ⟨hv.1, hn, hv.2.2⟩
  · simp only [Value.slice.injEq] at hv
    obtain ⟨rfl, _, rfl⟩ := hv
    exact .inr ⟨g, rfl, hg, (Array.getElem?_eq_some_iff.1 hh).1, hn, hc⟩
theorem OwnS.mono {w : World} {base base' e a n c} {l : List α} (h : OwnS size cells w base e a n c l) (hb : base' ≤ base) : OwnS size cells w base' e a n c l := by
  refine ⟨⟨h.own.1, ?_⟩, h.num⟩
  rcases h.own.2 with hv | ⟨g, cap, cur, hv, hg, r⟩
  · exact .inl hv
  · exact .inr ⟨g, cap, cur, hv, Nat.le_trans hb hg, r⟩
theorem OwnS.below {w w' : World} {base e a n c} {l : List α} (h : OwnS size cells w base e a n c l) (hb : Below w.heap.size w w') : OwnS size cells w' base e a n c l := by
  refine ⟨⟨h.own.1, ?_⟩, h.num⟩
  rcases h.own.2 with hv | ⟨g, cap, cur, hv, hg, hh, r⟩
  · exact .inl hv
  · exact .inr ⟨g, cap, cur, hv, hg, by rw [hb.block g (Array.getElem?_eq_some_iff.1 hh).1]; exact hh, r⟩
theorem OwnS.nil (w : World) (base : Nat) (e : TypeId) : OwnS size cells w base e none 0 0 ([] : List α) := ⟨World.ownsRow_nil w base e size, rfl⟩
theorem flat_at (hz : ∀ x, (cells x).length = size) (l : List α) (i j : Nat) (x : α) (u : Value) (hi : l[i]? = some x) (hj : (cells x)[j]? = some u) : (l.flatMap cells)[i * size + j]? = some u := by
  induction l generalizing i with
  | nil => simp at hi
  | cons y l ih =>
    rw [List.flatMap_cons]
    cases i with
    | zero =>
      simp only [List.getElem?_cons_zero, Option.some.injEq] at hi
      subst hi
      rw [Nat.zero_mul, Nat.zero_add, List.getElem?_append_left (List.getElem?_eq_some_iff.1 hj).1]
      exact hj
    | succ i =>
      rw [List.getElem?_cons_succ] at hi
      rw [List.getElem?_append_right (by rw [hz, Nat.succ_mul]; omega), hz, show (i + 1) * size + j - size = i * size + j by rw [Nat.succ_mul]; omega]
      exact ih i hi
theorem OwnS.recs {w : World} {base e a n c} {l : List α} (h : OwnS size cells w base e a n c l) (hpos : 0 < size) (hz : ∀ x, (cells x).length = size) (Elem : World → Nat → Nat → α → Prop)
    (hel : ∀ b o x, x ∈ l → (∀ j u, (cells x)[j]? = some u → w.cell? ⟨b, o + j, none⟩ = some u) → Elem w b o x) : Recs size Elem w a n c l := by
  rcases h.cases with ⟨rfl, rfl, rfl⟩ | ⟨g, rfl, hg, hs, hn, hc⟩
  · exact ⟨h.num, Nat.le_refl _, by omega, fun _ => rfl, .inl rfl⟩
  · refine ⟨h.num, hn, by unfold maxLen at hc; omega, by simp, .inr ⟨g, 0, rfl, hs, fun i x hi => ?_⟩⟩
    have hil : i < n := by rw [← h.num]; exact (List.getElem?_eq_some_iff.1 hi).1
    refine hel g _ x (List.mem_of_getElem? hi) (fun j u hj => ?_)
    have hjs : j < size := by rw [← hz x]; exact (List.getElem?_eq_some_iff.1 hj).1
    have hb : i * size + j < n * size := by
      have := Nat.mul_le_mul_right size (show i + 1 ≤ n by omega)
      rw [Nat.succ_mul] at this
      omega
    rw [Nat.zero_add, h.own.cellAt (i * size + j) hb]
    exact flat_at hz l i j x u hi hj
structure RecT (P : Program) (t e : TypeId) (z : Value) (size bytes : Nat) : Prop where
  und : P.underlying t = some (.slice e)
  info : (P.info? e).map (fun i => (i.zero, i.size, i.bytes)) = some (some z, size, bytes)
  zero : z.cells.size = size
theorem run_append_s {P : Program} {t e : TypeId} {z : Value} {bytes : Nat} (T : RecT P t e z size bytes) (hpos : 0 < size) (ty : TypeId) (w : World) (base : Nat) {a n c} {l : List α} (h : OwnS size cells w base e a n c l)
    (x : α) (hx : (cells x).length = size) (h1 : ∀ u ∈ cells x, u.oneCell' = true) (ad : Addr) (c' : Nat) (hc : ∀ j u, (cells x)[j]? = some u → w.cell? (ad.add j) = some u)
    (hm : n + 1 ≤ maxLen) (hn : (n + 1) * bytes ≤ 140737488355328) (hbase : base ≤ w.heap.size) :
    ∃ a2 c2 w', (Builtin.append_ #[t, t] ty #[.slice a n c, .slice (some ad) 1 c']).run P w = .ok (.slice a2 (n + 1) c2) w' ∧ OwnS size cells w' base e a2 (n + 1) c2 (l ++ [x]) ∧ Below base w w' ∧ w.grownBy w' (Value.ownBlock (.slice a n c)) := by
  obtain ⟨i0, hi, hz0, hz1, hz2⟩ := info_parts T.info
  have hz3 := T.zero
  obtain ⟨v', w', hr, ho, hg, hnil⟩ := run_append_own (P := P) w base t ty e i0 z size bytes T.und hi hz0 hz1 hz2 hz3 hpos (.slice a n c) n (l.flatMap cells) h.own ad 1 c' (cells x) (by rw [hx, Nat.one_mul]) hc h1 hm hn hbase
  have hbel : Below base w w' := (Below.refl base w).grown hg hbase (fun k hk => (h.own.lt k hk).1)
  have he : (l ++ [x]).flatMap cells = l.flatMap cells ++ cells x := by simp
  rcases ho.2 with ⟨rfl, h0⟩ | ⟨g, cap, cur, rfl, hgb, hh, r⟩
  · omega
  · exact ⟨some ⟨g, 0, none⟩, cap, w', hr, ⟨by rw [he]; exact ho, by simp [h.num]⟩, hbel, hg⟩
section
variable {P : Program} {w : World} {ops : Array Oper} {rest : List Oper} {o : Oper} {a : Act} {Q : Exit → Act → World → Prop}
end
theorem src_new (W : World) (cs : List Value) (e : TypeId) : ∀ j u, cs[j]? = some u → (W.alloc (.cells cs.toArray e)).cell? ((⟨W.heap.size, 0, none⟩ : Addr).add j) = some u := by
  intro j u h
  have hadd : (⟨W.heap.size, 0, none⟩ : Addr).add j = ⟨W.heap.size, j, none⟩ := by unfold Addr.add; split <;> simp_all
  rw [hadd, cell_new _ _ _ _ _ rfl, List.getElem?_toArray]
  exact h
end Go.Proofs.YtlkggpjdaaglmaaGreatDoor.bs
end
section
namespace Go.Proofs.YtlkggpjdaaglmaaGreatDoor.lx
open Go.ChangeShapes Go.WideShapes Go.ChangeAt Go.RowKit
open bs
set_option linter.unusedVariables false
set_option linter.unusedSimpArgs false
abbrev KB (w : World) (g : Nat) (x : Tk) : Prop := Blk w g x.row 39
theorem row_one (x : Tk) : (x.row : Array Value).all (·.oneCell') = true := by simp [Value.oneCell']
theorem row_len (x : Tk) : x.cells.length = 5 := rfl
theorem cells_one (x : Tk) : ∀ u ∈ x.cells, u.oneCell' = true := by
  intro u hu
  simp [Tk.cells] at hu
  rcases hu with rfl | rfl | rfl | rfl | rfl <;> rfl
structure Only (w w' : World) (g : Nat) : Prop where
  os : w'.os = w.os
  tape : w'.tape = w.tape
  output : w'.output = w.output
  size : w'.heap.size = w.heap.size
  block : ∀ k, k ≠ g → w'.heap[k]? = w.heap[k]?
theorem Only.below {w w' : World} {g B : Nat} (h : Only w w' g) (hB : B ≤ g) : Below B w w' := ⟨h.os, h.tape, h.output, Nat.le_of_eq h.size.symm, fun k hk => h.block k (by omega)⟩
theorem only_setRow (w : World) (g : Nat) (cs : Array Value) : Only w (w.setRow g cs) g := ⟨rfl, rfl, rfl, by simp [World.setRow], fun k hk => Go.setRow_other w g k cs hk⟩
theorem blk_setRow {w : World} {g : Nat} {cs cs' : Array Value} {t : TypeId} (h : Blk w g cs t) : Blk (w.setRow g cs') g cs' t := setRow_heap w g cs cs' t (0, 0) h
theorem size_alloc (w : World) (o : Obj) : (w.alloc o).heap.size = w.heap.size + 1 := by simp
theorem below_alloc (w : World) (o : Obj) : Below w.heap.size w (w.alloc o) := (Below.refl _ _).alloc (Nat.le_refl _) _
section
variable {w : World} {ops : Array Oper} {rest : List Oper} {o : Oper} {a : Act} {Q : Exit → Act → World → Prop}
theorem wpList_store_K (hgd : o.guard = none) (x y : Operand) (ho : o.op = .store 39 x y) {g : Nat} (hx : a.eval x = .pointer (some ⟨g, 0, none⟩)) {u : Tk} (hr : KB w g u) (v : Tk) (hy : a.eval y = v.val)
    (k : ∀ w', KB w' g v → Only w w' g → wpList Tryz.prog ops Q rest (a.put o.dst undef) w') : wpList Tryz.prog ops Q (o :: rest) a w :=
  wpList_store_row hgd 39 x y ho g v.row hx hy 39 _ hr (by kernel_rfl) rfl (row_one v) (k _ (blk_setRow hr) (only_setRow _ _ _))
theorem wpList_load_K (hgd : o.guard = none) (x : Operand) (ho : o.op = .load 39 x) {g : Nat} (hx : a.eval x = .pointer (some ⟨g, 0, none⟩)) {v : Tk} (hr : KB w g v)
    (h : wpList Tryz.prog ops Q rest (a.put o.dst v.val) w) : wpList Tryz.prog ops Q (o :: rest) a w :=
  wpList_load_row hgd 39 x ho g hx 39 _ (0, 0) _ hr Tryz.underlying39 rfl (by kernel_rfl) h
end
theorem results_cell_tmp {P : Program} {fn : Func} {p q : Tmp} {ty : TypeId} (h : fn.results = #[.cell p ty, .tmp q]) (tmps : Array Value) (w : World) (g : Nat) (t : TypeId) (cs : Array Value) (d : TypeDesc)
    (hp : tmps.getD p undef = .pointer (some ⟨g, 0, none⟩)) (hg : Blk w g cs t)
    (hu : P.underlying ty = some d) (hd : (match d with | .struct _ | .array _ _ => true | _ => false) = true) (hi : (P.info? ty).map (·.size) = some cs.size) :
    (results fn tmps).run P w = .ok (.tuple #[.agg cs, tmps.getD q undef]) w := by
  have hp' : tmps[p]?.getD undef = .pointer (some ⟨g, 0, none⟩) := by simpa using hp
  simp [results, h, hp', asAddr, run_loadVar_row w g t ty cs _ d hg hu hd hi]
def TP (r : Tk × Int) (w : World) (e : Ending) (w' : World) : Prop := e = .returned (.tuple #[r.1.val, .int .i64 r.2]) ∧ Below w.heap.size w w'
theorem kb_new (w : World) (x : Tk) : KB (w.alloc (.cells x.row 39)) w.heap.size x := Blk.new w _ _
end Go.Proofs.YtlkggpjdaaglmaaGreatDoor.lx
namespace Go.Proofs.YtlkggpjdaaglmaaGreatDoor.lx
open Go.ChangeShapes Go.WideShapes Go.ChangeAt Go.RowKit
open bs
set_option linter.unusedVariables false
set_option linter.unusedSimpArgs false
theorem tkT : RecT Tryz.prog 32 39 (.agg #[.int .i64 0, .int .i64 0, .string ⟨#[]⟩, .int .i64 0, .int .i64 0]) 5 48 := ⟨Tryz.underlying32, by kernel_rfl, rfl⟩
abbrev OwnK (w : World) (base : Nat) (a : Option Addr) (n c : Nat) (L : List Tk) : Prop := OwnS 5 Tk.cells w base 39 a n c L
theorem OwnS.blockLt {α : Type} {size : Nat} {cells : α → List Value} {w : World} {base : Nat} {e a n c} {L : List α} (h : OwnS size cells w base e a n c L) {i : Nat} (hi : blockOf a = some i) : base ≤ i ∧ i < w.heap.size := by
  rcases h.cases with ⟨rfl, _, _⟩ | ⟨g, rfl, hg, hs, _, _⟩
  · cases hi
  · cases hi; exact ⟨hg, hs⟩
theorem OwnS.of {α : Type} {size : Nat} {cells : α → List Value} {w w' : World} {base : Nat} {e a n c} {L : List α} (h : OwnS size cells w base e a n c L) (hk : ∀ i, blockOf a = some i → w'.heap[i]? = w.heap[i]?) : OwnS size cells w' base e a n c L := by
  refine ⟨⟨h.own.1, ?_⟩, h.num⟩
  rcases h.own.2 with ⟨hv, hn⟩ | ⟨g, cap, cur, hv, hg, hh, r⟩
  · exact .inl ⟨hv, hn⟩
  · refine .inr ⟨g, cap, cur, hv, hg, ?_, r⟩
    simp only [Value.slice.injEq] at hv
    rw [hk g (by rw [hv.1]; rfl)]; exact hh
abbrev KS (w : World) (a : Option Addr) (n c : Nat) (L : List Tk) : Prop := Recs 5 (fun w b o (x : Tk) => ∀ j u, x.cells[j]? = some u → w.cell? ⟨b, o + j, none⟩ = some u) w a n c L
theorem OwnS.toks {w : World} {base : Nat} {a n c} {L : List Tk} (h : OwnK w base a n c L) : KS w a n c L := OwnS.recs h (by decide) row_len _ (fun b o x _ hc => hc)
section
variable {w : World} {ops : Array Oper} {rest : List Oper} {o : Oper} {a : Act} {Q : Exit → Act → World → Prop}
theorem wpList_append_k (hw : Region.wanted o (yielded ops a.tmps) = true) (s y : Operand) (ho : o.op = .call { callee := .builtin .append, args := #[s, y], argTypes := #[32, 32] })
    (base : Nat) {b n c} {l : List Tk} (hs : a.eval s = .slice b n c) (h : OwnK w base b n c l) {ad c'} (hy : a.eval y = .slice (some ad) 1 c') (x : Tk)
    (hc : ∀ j u, x.cells[j]? = some u → w.cell? (ad.add j) = some u) (hn : n + 1 ≤ 1000000) (hbase : base ≤ w.heap.size)
    (k : ∀ a2 c2 w', OwnK w' base a2 (n + 1) c2 (l ++ [x]) → Below base w w' → w.grownBy w' (blockOf b) → wpList Tryz.prog ops Q rest (a.put o.dst (.slice a2 (n + 1) c2)) w') : wpList Tryz.prog ops Q (o :: rest) a w :=
  BigFrame.wpList_want hw fun K hK => by
    obtain ⟨a2, c2, w', hr, h2, h3, h4⟩ := run_append_s tkT (by decide) o.type w base h x rfl (cells_one x) ad c' hc (by unfold maxLen; omega) (by omega) hbase
    rw [ownBlock_eq] at h4
    unfold Oper.wp execOp
    simp only [ho, resolve, invoke, builtin, Sem.run_bind, Sem.run_pure, Result.andThen_ok, List.map_toArray, List.map_cons, List.map_nil, hs, hy, hr]
    exact hK _ _ (k a2 c2 w' h2 h3 h4)
end
def TsO (r : List Tk × Nat × Int) (w : World) (e : Ending) (w' : World) : Prop :=
  ∃ (a : Option Addr) (n c : Nat), e = .returned (.tuple #[.slice a n c, .int .i64 (r.2.1 : Nat), .int .i64 r.2.2]) ∧ (KS w' a n c r.1 ∧ (n = 0 ∨ ∃ b off, a = some ⟨b, off, none⟩ ∧ w.heap.size ≤ b)) ∧ Below w.heap.size w w'
theorem OwnS.anew {w : World} {B base : Nat} {a n c} {L : List Tk} (h : OwnK w base a n c L) (hB : B ≤ base) : n = 0 ∨ ∃ b off, a = some ⟨b, off, none⟩ ∧ B ≤ b := by
  rcases OwnS.cases h with ⟨_, h1, _⟩ | ⟨g, h1, h2, _⟩
  · exact .inl h1
  · exact .inr ⟨g, 0, h1, Nat.le_trans hB h2⟩
end Go.Proofs.YtlkggpjdaaglmaaGreatDoor.lx
end
