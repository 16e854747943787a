/-
  Arrays of numbers of 32 bits in a block of their own. No program is named here.
-/
import Derived.Test.YtlpiacofnciodaaShaPlain
import Derived.Test.YtlpiacofnciodaaOwn
import Derived.Laws.Rows
import Derived.Laws.Tables
namespace Go.Proofs.Ytlpiacofnciodaa.sh
open Go.ChangeShapes Go.WideShapes Go.ChangeAt Go.RowKit
open bs
set_option linter.unusedVariables false

def cells32 (L : List (BitVec 32)) : Array Value := (L.map fun x => Value.int .u32 (I x)).toArray
theorem cells32_size (L : List (BitVec 32)) : (cells32 L).size = L.length := by simp [cells32]
theorem cells32_at (L : List (BitVec 32)) (i : Nat) (h : i < L.length) : (cells32 L)[i]? = some (.int .u32 (I (L.getD i 0))) := by
  simp only [cells32, List.getElem?_toArray, List.getElem?_map, List.getD_eq_getElem?_getD, List.getElem?_eq_getElem h]
  rfl
theorem cells32_one (L : List (BitVec 32)) : (cells32 L).all (·.oneCell') = true := by
  simp only [cells32, List.all_toArray, List.all_map, List.all_eq_true]
  intro x _
  rfl
theorem cells32_set (L : List (BitVec 32)) (i : Nat) (x : BitVec 32) : (cells32 L).setIfInBounds i (.int .u32 (I x)) = cells32 (L.set i x) := by
  simp only [cells32, List.setIfInBounds_toArray, List.map_set]

/-- The block g holds the numbers L. -/
def Row (w : World) (g : Nat) (t : TypeId) (L : List (BitVec 32)) : Prop := w.heap[g]? = some (.cells (cells32 L) t (0, 0))
theorem Row.lt {w : World} {g t L} (h : Row w g t L) : g < w.heap.size := (Array.getElem?_eq_some_iff.1 h).1
theorem Row.cellAt {w : World} {g t L} (h : Row w g t L) (i : Nat) (hi : i < L.length) : w.cell? ⟨g, i, none⟩ = some (.int .u32 (I (L.getD i 0))) := by
  rw [cell_of_row w g i _ t _ h, cells32_at L i hi]
theorem Row.frozenAt {w : World} {g t L} (h : Row w g t L) (i : Nat) : w.frozen? ⟨g, i, none⟩ = false := frozen_of_row w g i _ t h
theorem Row.stored {w : World} {g t L} (h : Row w g t L) (i : Nat) (x : BitVec 32) : Row (w.setCell ⟨g, i, none⟩ (.int .u32 (I x))) g t (L.set i x) := by
  unfold Row
  rw [heap_setCell_same w g i _ t _ h, cells32_set]
theorem Row.below {w w' : World} {g t L} (h : Row w g t L) (hb : Below w.heap.size w w') : Row w' g t L := by
  unfold Row
  rw [hb.block g h.lt]
  exact h
theorem Row.drewN {w : World} {g t L} (h : Row w g t L) (m : Nat) : Row (w.drewN m) g t L := h
theorem Row.alloc {w : World} {g t L} (h : Row w g t L) (o : Obj) : Row (w.alloc o) g t L :=
  h.below ((Below.refl _ _).alloc (Nat.le_refl _) o)
theorem Row.other {w : World} {g t L} (h : Row w g t L) (p : Addr) (v : Value) (hp : g ≠ p.block) : Row (w.setCell p v) g t L := by
  unfold Row
  rw [heap_setCell_other w p g v hp]
  exact h
theorem Row.made (w : World) (t : TypeId) (L : List (BitVec 32)) : Row (w.alloc (.cells (cells32 L) t)) w.heap.size t L := heap_alloc_new w _
theorem Row.made_at (w : World) (t : TypeId) (L : List (BitVec 32)) {g : Nat} (hg : w.heap.size = g) : Row (w.alloc (.cells (cells32 L) t)) g t L := by subst hg; exact heap_alloc_new w _
theorem size_setRow (w : World) (g : Nat) (cs : Array Value) : (w.setRow g cs).heap.size = w.heap.size := by simp [World.setRow]
theorem Row.made2 (w : World) (A : Obj) (t : TypeId) (L : List (BitVec 32)) : Row ((w.alloc A).alloc (.cells (cells32 L) t)) (w.heap.size + 1) t L := heap_alloc2_new w A _

theorem Row.setRow {w : World} {g t L0} (h : Row w g t L0) (L : List (BitVec 32)) : Row (w.setRow g (cells32 L)) g t L := setRow_heap w g _ _ t _ h
theorem Row.setRow_other {w : World} {g t L} (h : Row w g t L) (k : Nat) (cs : Array Value) (hk : g ≠ k) : Row (w.setRow k cs) g t L := by
  unfold Row
  rw [Go.setRow_other w k g cs hk]
  exact h
theorem below_setRow {B : Nat} {w w' : World} (h : Below B w w') {g : Nat} (hg : B ≤ g) (cs : Array Value) : Below B w (w'.setRow g cs) := by
  refine ⟨h.os, h.tape, h.output, ?_, fun k hk => ?_⟩
  · have := h.size
    simpa [World.setRow] using this
  · rw [Go.setRow_other w' g k cs (by omega)]
    exact h.block k hk

section
variable {P : Program} {w : World} {ops : Array Oper} {rest : List Oper} {o : Oper} {a : Act} {Q : Exit → Act → World → Prop}
/-- A whole array is loaded. -/
theorem wpList_load_32 (hgd : o.guard = none) (ty : TypeId) (x : Operand) (ho : o.op = .load ty x) {g : Nat} (hx : a.eval x = .pointer (some ⟨g, 0, none⟩)) {t : TypeId} {L : List (BitVec 32)} (hr : Row w g t L)
    {d : TypeDesc} (hu : P.underlying ty = some d) (hd : (match d with | .struct _ | .array _ _ => true | _ => false) = true) {n : Nat} (hi : (P.info? ty).map (·.size) = some n) (hn : L.length = n)
    (h : wpList P ops Q rest (a.put o.dst (.agg (cells32 L))) w) : wpList P ops Q (o :: rest) a w :=
  wpList_load_row hgd ty x ho g hx t (cells32 L) (0, 0) d hr hu hd (by rw [hi, cells32_size, hn]) h
/-- A whole array is stored. -/
theorem wpList_store_32 (hgd : o.guard = none) (ty : TypeId) (x y : Operand) (ho : o.op = .store ty x y) {g : Nat} (hx : a.eval x = .pointer (some ⟨g, 0, none⟩)) {L : List (BitVec 32)} (hy : a.eval y = .agg (cells32 L))
    {t : TypeId} {L0 : List (BitVec 32)} (hr : Row w g t L0) {n : Nat} (hi : (P.info? ty).map (·.size) = some n) (hn : L.length = n) (hn0 : L0.length = n)
    (h : wpList P ops Q rest (a.put o.dst undef) (w.setRow g (cells32 L))) : wpList P ops Q (o :: rest) a w :=
  wpList_store_row hgd ty x y ho g (cells32 L) hx hy t (cells32 L0) hr (by rw [hi, cells32_size, hn]) (by rw [cells32_size, cells32_size, hn, hn0]) (cells32_one L) h
end
end Go.Proofs.Ytlpiacofnciodaa.sh
