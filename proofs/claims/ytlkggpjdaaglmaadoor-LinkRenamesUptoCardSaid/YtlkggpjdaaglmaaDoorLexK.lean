/-
  Joined texts: LexTokK, LexKs.
-/
import Derived.Test.YtlkggpjdaaglmaaDoorLexA
import Derived.Test.YtlkggpjdaaglmaaDoorTurned
import Derived.Test.YtlkggpjdaaglmaaDoorProg
import Derived.Laws.Tables
import Derived.BigQuiet
import Derived.Deep.CutRange
import Derived.Test.YtlkggpjdaaglmaaDoorOwnRecs
import Derived.Deep.RegionHeldLaw
import Derived.OwnWalk
/-
  Layer 5: a token in a block of its own.
-/
namespace Go.Proofs.YtlkggpjdaaglmaaDoor.lx
open Go.ChangeShapes Go.WideShapes Go.ChangeAt Go.RowKit
open bs
set_option linter.unusedVariables false
set_option linter.unusedSimpArgs false

/-- A token in a block of its own. -/
abbrev KB (w : World) (g : Nat) (x : Tk) : Prop := Blk w g x.row 53
theorem row_one (x : Tk) : (x.row : Array Value).all (·.oneCell') = true := by simp [Value.oneCell']
theorem row_len (x : Tk) : x.cells.length = 5 := rfl
theorem cells_one (x : Tk) : ∀ u ∈ x.cells, u.oneCell' = true := by
  intro u hu
  simp [Tk.cells] at hu
  rcases hu with rfl | rfl | rfl | rfl | rfl <;> rfl

/-- Nothing but block g is turned. -/
structure Only (w w' : World) (g : Nat) : Prop where
  os : w'.os = w.os
  tape : w'.tape = w.tape
  output : w'.output = w.output
  size : w'.heap.size = w.heap.size
  block : ∀ k, k ≠ g → w'.heap[k]? = w.heap[k]?
theorem Only.below {w w' : World} {g B : Nat} (h : Only w w' g) (hB : B ≤ g) : Below B w w' := ⟨h.os, h.tape, h.output, Nat.le_of_eq h.size.symm, fun k hk => h.block k (by omega)⟩
theorem only_setRow (w : World) (g : Nat) (cs : Array Value) : Only w (w.setRow g cs) g := ⟨rfl, rfl, rfl, by simp [World.setRow], fun k hk => Go.setRow_other w g k cs hk⟩
theorem blk_setRow {w : World} {g : Nat} {cs cs' : Array Value} {t : TypeId} (h : Blk w g cs t) : Blk (w.setRow g cs') g cs' t := setRow_heap w g cs cs' t (0, 0) h
theorem size_alloc (w : World) (o : Obj) : (w.alloc o).heap.size = w.heap.size + 1 := by simp
theorem below_alloc (w : World) (o : Obj) : Below w.heap.size w (w.alloc o) := (Below.refl _ _).alloc (Nat.le_refl _) _

section
variable {w : World} {ops : Array Oper} {rest : List Oper} {o : Oper} {a : Act} {Q : Exit → Act → World → Prop}
theorem wpList_store_K (hgd : o.guard = none) (x y : Operand) (ho : o.op = .store 53 x y) {g : Nat} (hx : a.eval x = .pointer (some ⟨g, 0, none⟩)) {u : Tk} (hr : KB w g u) (v : Tk) (hy : a.eval y = v.val)
    (k : ∀ w', KB w' g v → Only w w' g → wpList Tryd.prog ops Q rest (a.put o.dst undef) w') : wpList Tryd.prog ops Q (o :: rest) a w :=
  wpList_store_row hgd 53 x y ho g v.row hx hy 53 _ hr (by kernel_rfl) rfl (row_one v) (k _ (blk_setRow hr) (only_setRow _ _ _))
theorem wpList_load_K (hgd : o.guard = none) (x : Operand) (ho : o.op = .load 53 x) {g : Nat} (hx : a.eval x = .pointer (some ⟨g, 0, none⟩)) {v : Tk} (hr : KB w g v)
    (h : wpList Tryd.prog ops Q rest (a.put o.dst v.val) w) : wpList Tryd.prog ops Q (o :: rest) a w :=
  wpList_load_row hgd 53 x ho g hx 53 _ (0, 0) _ hr Tryd.underlying53 rfl (by kernel_rfl) h
end
theorem results_cell_tmp {P : Program} {fn : Func} {p q : Tmp} {ty : TypeId} (h : fn.results = #[.cell p ty, .tmp q]) (tmps : Array Value) (w : World) (g : Nat) (t : TypeId) (cs : Array Value) (d : TypeDesc)
    (hp : tmps.getD p undef = .pointer (some ⟨g, 0, none⟩)) (hg : Blk w g cs t)
    (hu : P.underlying ty = some d) (hd : (match d with | .struct _ | .array _ _ => true | _ => false) = true) (hi : (P.info? ty).map (·.size) = some cs.size) :
    (results fn tmps).run P w = .ok (.tuple #[.agg cs, tmps.getD q undef]) w := by
  have hp' : tmps[p]?.getD undef = .pointer (some ⟨g, 0, none⟩) := by simpa using hp
  simp [results, h, hp', asAddr, run_loadVar_row w g t ty cs _ d hg hu hd hi]

/-- A token, or what is wrong. -/
def TP (r : Tk × Int) (w : World) (e : Ending) (w' : World) : Prop := e = .returned (.tuple #[r.1.val, .int .i64 r.2]) ∧ Below w.heap.size w w'

theorem kb_new (w : World) (x : Tk) : KB (w.alloc (.cells x.row 53)) w.heap.size x := Blk.new w _ _
end Go.Proofs.YtlkggpjdaaglmaaDoor.lx

/-
  Layer 5: tokens in memory.
-/
namespace Go.Proofs.YtlkggpjdaaglmaaDoor.lx
open Go.ChangeShapes Go.WideShapes Go.ChangeAt Go.RowKit
open bs
set_option linter.unusedVariables false
set_option linter.unusedSimpArgs false

theorem tkT : RecT Tryd.prog 33 53 (.agg #[.int .i64 0, .int .i64 0, .string ⟨#[]⟩, .int .i64 0, .int .i64 0]) 5 48 := ⟨Tryd.underlying33, by kernel_rfl, rfl⟩
abbrev OwnK (w : World) (base : Nat) (a : Option Addr) (n c : Nat) (L : List Tk) : Prop := OwnS 5 Tk.cells w base 53 a n c L
theorem OwnS.blockLt {α : Type} {size : Nat} {cells : α → List Value} {w : World} {base : Nat} {e a n c} {L : List α} (h : OwnS size cells w base e a n c L) {i : Nat} (hi : blockOf a = some i) : base ≤ i ∧ i < w.heap.size := by
  rcases h.cases with ⟨rfl, _, _⟩ | ⟨g, rfl, hg, hs, _, _⟩
  · cases hi
  · cases hi; exact ⟨hg, hs⟩
theorem OwnS.of {α : Type} {size : Nat} {cells : α → List Value} {w w' : World} {base : Nat} {e a n c} {L : List α} (h : OwnS size cells w base e a n c L) (hk : ∀ i, blockOf a = some i → w'.heap[i]? = w.heap[i]?) : OwnS size cells w' base e a n c L := by
  refine ⟨⟨h.own.1, ?_⟩, h.num⟩
  rcases h.own.2 with ⟨hv, hn⟩ | ⟨g, cap, cur, hv, hg, hh, r⟩
  · exact .inl ⟨hv, hn⟩
  · refine .inr ⟨g, cap, cur, hv, hg, ?_, r⟩
    simp only [Value.slice.injEq] at hv
    rw [hk g (by rw [hv.1]; rfl)]; exact hh
/-- Tokens that can be read. -/
abbrev KS (w : World) (a : Option Addr) (n c : Nat) (L : List Tk) : Prop := Recs 5 (fun w b o (x : Tk) => ∀ j u, x.cells[j]? = some u → w.cell? ⟨b, o + j, none⟩ = some u) w a n c L
theorem ks_stays : Stays (fun w b o (x : Tk) => ∀ j u, x.cells[j]? = some u → w.cell? ⟨b, o + j, none⟩ = some u) := fun w w' b o x h hb hbel j u hj => by
  rw [hbel.cell (p := ⟨b, o + j, none⟩) hb]; exact h j u hj
theorem OwnS.toks {w : World} {base : Nat} {a n c} {L : List Tk} (h : OwnK w base a n c L) : KS w a n c L := OwnS.recs h (by decide) row_len _ (fun b o x _ hc => hc)

section
variable {w : World} {ops : Array Oper} {rest : List Oper} {o : Oper} {a : Act} {Q : Exit → Act → World → Prop}
theorem wpList_append_k (hw : Region.wanted o (yielded ops a.tmps) = true) (s y : Operand) (ho : o.op = .call { callee := .builtin .append, args := #[s, y], argTypes := #[33, 33] })
    (base : Nat) {b n c} {l : List Tk} (hs : a.eval s = .slice b n c) (h : OwnK w base b n c l) {ad c'} (hy : a.eval y = .slice (some ad) 1 c') (x : Tk)
    (hc : ∀ j u, x.cells[j]? = some u → w.cell? (ad.add j) = some u) (hn : n + 1 ≤ 1000000) (hbase : base ≤ w.heap.size)
    (k : ∀ a2 c2 w', OwnK w' base a2 (n + 1) c2 (l ++ [x]) → Below base w w' → w.grownBy w' (blockOf b) → wpList Tryd.prog ops Q rest (a.put o.dst (.slice a2 (n + 1) c2)) w') : wpList Tryd.prog ops Q (o :: rest) a w :=
  BigFrame.wpList_want hw fun K hK => by
    obtain ⟨a2, c2, w', hr, h2, h3, h4⟩ := run_append_s tkT (by decide) o.type w base h x rfl (cells_one x) ad c' hc (by unfold maxLen; omega) (by omega) hbase
    rw [ownBlock_eq] at h4
    unfold Oper.wp execOp
    simp only [ho, resolve, invoke, builtin, Sem.run_bind, Sem.run_pure, Result.andThen_ok, List.map_toArray, List.map_cons, List.map_nil, hs, hy, hr]
    exact hK _ _ (k a2 c2 w' h2 h3 h4)
end

theorem only_cell (w : World) (g j : Nat) (u : Value) : Only w (w.setCell ⟨g, j, none⟩ u) g := ⟨rfl, rfl, rfl, by simp [World.setCell], fun k hk => Below.heap_setCell _ ⟨g, j, none⟩ _ k hk⟩
/-- What Tokens leaves. -/
def TsP (r : List Tk × Nat × Int) (w : World) (e : Ending) (w' : World) : Prop :=
  ∃ (a : Option Addr) (n c : Nat), e = .returned (.tuple #[.slice a n c, .int .i64 (r.2.1 : Nat), .int .i64 r.2.2]) ∧ KS w' a n c r.1 ∧ Below w.heap.size w w'

/-- .. and they lie in new memory. -/
def TsO (r : List Tk × Nat × Int) (w : World) (e : Ending) (w' : World) : Prop :=
  ∃ (a : Option Addr) (n c : Nat), e = .returned (.tuple #[.slice a n c, .int .i64 (r.2.1 : Nat), .int .i64 r.2.2]) ∧ (KS w' a n c r.1 ∧ (n = 0 ∨ ∃ b off, a = some ⟨b, off, none⟩ ∧ w.heap.size ≤ b)) ∧ Below w.heap.size w w'
theorem TsO.weak {r : List Tk × Nat × Int} {w : World} {e : Ending} {w' : World} (h : TsO r w e w') : TsP r w e w' := by
  obtain ⟨a, n, c, h1, h2, h3⟩ := h
  exact ⟨a, n, c, h1, h2.1, h3⟩
theorem OwnS.anew {w : World} {B base : Nat} {a n c} {L : List Tk} (h : OwnK w base a n c L) (hB : B ≤ base) : n = 0 ∨ ∃ b off, a = some ⟨b, off, none⟩ ∧ B ≤ b := by
  rcases OwnS.cases h with ⟨_, h1, _⟩ | ⟨g, h1, h2, _⟩
  · exact .inl h1
  · exact .inr ⟨g, 0, h1, Nat.le_trans hB h2⟩
end Go.Proofs.YtlkggpjdaaglmaaDoor.lx
