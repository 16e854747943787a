/-
  Layer 6: a whole term loaded from, and stored into, a block of its own.
-/
import Derived.Test.YtjmjillfclfkgaaTrmCount
import Derived.Laws.Tables
namespace Go.Proofs.Ytjmjillfclfkgaa.te
open Go.ChangeShapes Go.WideShapes Go.ChangeAt Go.RowKit
open bs tr
set_option linter.unusedVariables false

/-- A node in a block of its own. -/
abbrev VB (w : World) (g : Nat) (v : Vn) : Prop := Blk w g #[.int .i64 v.x.k, .int .i64 v.x.n, .string v.x.s, .slice v.a v.m v.c, .int .i64 v.x.f, .int .i64 v.x.t] 24
def lab0 : Lab := ⟨0, 0, ⟨#[]⟩, 0, 0⟩
def v0 : Vn := ⟨lab0, none, 0, 0, []⟩
theorem v0_cells : (#[.int .i64 v0.x.k, .int .i64 v0.x.n, .string v0.x.s, .slice v0.a v0.m v0.c, .int .i64 v0.x.f, .int .i64 v0.x.t] : Array Value) = #[.int .i64 0, .int .i64 0, .string ⟨#[]⟩, .slice none 0 0, .int .i64 0, .int .i64 0] := rfl
theorem i64_0 : te.I64 0 := ⟨by decide, by decide⟩
theorem v0_rd (w : World) : v0.Rd w := ⟨⟨rfl, Nat.le_refl _, by show 0 ≤ _; omega, fun _ => rfl, .inl rfl⟩, ⟨i64_0, i64_0, i64_0, i64_0⟩⟩
theorem v0_val : (.agg #[.int .i64 0, .int .i64 0, .string ⟨#[]⟩, .slice none 0 0, .int .i64 0, .int .i64 0] : Value) = v0.val := rfl

/-- Nothing but block g is turned. -/
structure Only (w w' : World) (g : Nat) : Prop where
  os : w'.os = w.os
  tape : w'.tape = w.tape
  output : w'.output = w.output
  size : w'.heap.size = w.heap.size
  block : ∀ k, k ≠ g → w'.heap[k]? = w.heap[k]?
theorem Only.below {w w' : World} {g B : Nat} (h : Only w w' g) (hB : B ≤ g) : Below B w w' := ⟨h.os, h.tape, h.output, Nat.le_of_eq h.size.symm, fun k hk => h.block k (by omega)⟩
theorem Only.blk {w w' : World} {g k : Nat} {cs : Array Value} {t : TypeId} (h : Only w w' g) (hb : Blk w k cs t) (hk : k ≠ g) : Blk w' k cs t := hb.of (h.block k hk)
theorem Only.kp {S : Nat → Prop} {w w' : World} {g : Nat} (h : Only w w' g) (hS : ∀ b, S b → b ≠ g) : Kp S w w' := ⟨Nat.le_of_eq h.size.symm, fun b hb _ => h.block b (hS b hb)⟩
theorem only_setRow (w : World) (g : Nat) (cs : Array Value) : Only w (w.setRow g cs) g := ⟨rfl, rfl, rfl, by simp [World.setRow], fun k hk => Go.setRow_other w g k cs hk⟩
theorem blk_setRow {w : World} {g : Nat} {cs cs' : Array Value} {t : TypeId} (h : Blk w g cs t) : Blk (w.setRow g cs') g cs' t := setRow_heap w g cs cs' t (0, 0) h

theorem val_one (v : Vn) : (#[.int .i64 v.x.k, .int .i64 v.x.n, .string v.x.s, .slice v.a v.m v.c, .int .i64 v.x.f, .int .i64 v.x.t] : Array Value).all (·.oneCell') = true := by
  simp [Value.oneCell']

section
variable {w : World} {ops : Array Oper} {rest : List Oper} {o : Oper} {a : Act} {Q : Exit → Act → World → Prop}
/-- A whole term is stored. -/
theorem wpList_store_T (hgd : o.guard = none) (x y : Operand) (ho : o.op = .store 24 x y) {g : Nat} (hx : a.eval x = .pointer (some ⟨g, 0, none⟩)) {u : Vn} (hr : VB w g u) (v : Vn) (hy : a.eval y = v.val)
    (k : ∀ w', VB w' g v → Only w w' g → wpList Try.prog ops Q rest (a.put o.dst undef) w') : wpList Try.prog ops Q (o :: rest) a w :=
  wpList_store_row hgd 24 x y ho g #[.int .i64 v.x.k, .int .i64 v.x.n, .string v.x.s, .slice v.a v.m v.c, .int .i64 v.x.f, .int .i64 v.x.t] hx hy 24 _ hr (by kernel_rfl) rfl (val_one v) (k _ (blk_setRow hr) (only_setRow _ _ _))
/-- .. loaded. -/
theorem wpList_load_T (hgd : o.guard = none) (x : Operand) (ho : o.op = .load 24 x) {g : Nat} (hx : a.eval x = .pointer (some ⟨g, 0, none⟩)) {v : Vn} (hr : VB w g v)
    (h : wpList Try.prog ops Q rest (a.put o.dst (.agg #[.int .i64 v.x.k, .int .i64 v.x.n, .string v.x.s, .slice v.a v.m v.c, .int .i64 v.x.f, .int .i64 v.x.t])) w) : wpList Try.prog ops Q (o :: rest) a w :=
  wpList_load_row hgd 24 x ho g hx 24 _ (0, 0) _ hr Try.underlying24 rfl (by kernel_rfl) h
end

theorem results_cell_tmp {P : Program} {fn : Func} {p q : Tmp} {ty : TypeId} (h : fn.results = #[.cell p ty, .tmp q]) (tmps : Array Value) (w : World) (g : Nat) (t : TypeId) (cs : Array Value) (d : TypeDesc)
    (hp : tmps.getD p undef = .pointer (some ⟨g, 0, none⟩)) (hg : Blk w g cs t)
    (hu : P.underlying ty = some d) (hd : (match d with | .struct _ | .array _ _ => true | _ => false) = true) (hi : (P.info? ty).map (·.size) = some cs.size) :
    (results fn tmps).run P w = .ok (.tuple #[.agg cs, tmps.getD q undef]) w := by
  have hp' : tmps[p]?.getD undef = .pointer (some ⟨g, 0, none⟩) := by simpa using hp
  simp [results, h, hp', asAddr, run_loadVar_row w g t ty cs _ d hg hu hd hi]

/-- A term's block just made, and what it leaves. -/
theorem vb_new (w : World) (v : Vn) : VB (w.alloc (.cells #[.int .i64 v.x.k, .int .i64 v.x.n, .string v.x.s, .slice v.a v.m v.c, .int .i64 v.x.f, .int .i64 v.x.t] 24)) w.heap.size v := Blk.new w _ _
theorem vb_new0 (w : World) : VB (w.alloc (.cells #[.int .i64 0, .int .i64 0, .string ⟨#[]⟩, .slice none 0 0, .int .i64 0, .int .i64 0] 24)) w.heap.size v0 := Blk.new w _ _
theorem size_alloc (w : World) (o : Obj) : (w.alloc o).heap.size = w.heap.size + 1 := by simp
theorem below_alloc (w : World) (o : Obj) : Below w.heap.size w (w.alloc o) := (Below.refl _ _).alloc (Nat.le_refl _) _

/-- What At, Get answer. -/
def GP (t : VT) (p : List Int) (w : World) (e : Ending) (w' : World) : Prop :=
  ∃ (u : Vn) (ok : Bool), e = .returned (.tuple #[u.val, .bool ok]) ∧ Below w.heap.size w w' ∧ u.Rd w' ∧ (ok = true → Tr.at' t p = some u.tr) ∧ (ok = false → Tr.at' t p = none ∧ u = v0)

theorem drop_at {l : List Int} {k : Nat} (h : k < l.length) : l.drop k = l.getD k 0 :: l.drop (k + 1) := by
  rw [List.drop_eq_getElem_cons h, List.getD_eq_getElem?_getD, List.getElem?_eq_getElem h]; rfl
end Go.Proofs.Ytjmjillfclfkgaa.te
