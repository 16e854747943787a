/-
  Layer 6: what is set at a way's end.
-/
import Derived.Test.YtbpjaidfpacbfaaTrmClone
import Derived.Deep.RegionHeldLaw
import Derived.Laws.IdiomCopy
namespace Go.Proofs.Ytbpjaidfpacbfaa.te
open Go.ChangeShapes Go.WideShapes Go.ChangeAt Go.RowKit
open bs tr
set_option linter.unusedVariables false

/-- Old blocks, or blocks from h on. -/
def Old (B0 h : Nat) (b : Nat) : Prop := b < B0 ∨ h ≤ b

theorem below_ad (w1 w3 : World) (o : Obj) (h : Below (w1.alloc o).drew.heap.size (w1.alloc o).drew w3) : Below w1.heap.size w1 w3 :=
  (Below.drew ((Below.refl _ _).alloc (Nat.le_refl _) o)).trans (h.mono (by show w1.heap.size ≤ (w1.alloc o).heap.size; simp))
theorem blk_ad (w1 w3 : World) (cs : Array Value) {t : TypeId} (h : Below (w1.alloc (.cells cs t)).drew.heap.size (w1.alloc (.cells cs t)).drew w3) : Blk w3 w1.heap.size cs t :=
  Blk.below (w := (w1.alloc (.cells cs t)).drew) (Blk.new w1 cs t) h

/-- The part that was made, in a variable of its own. -/
structure PRel (W V : World) (gx : Nat) (r : Vn) (B0 : Nat) (t : VT) : Prop where
  blk : VB V gx r
  below : Below W.heap.size W V
  ge : W.heap.size ≤ gx
  rs : r.Rs (Old B0 W.heap.size) V
  tr : r.tr = t
theorem prel1 {W w3 : World} {r : Vn} {B0 : Nat} {t : VT} (hb : Below W.heap.size W w3) (hr : r.Rs (Old B0 W.heap.size) w3) (ht : r.tr = t) :
    PRel W (w3.alloc (.cells #[.int .i64 r.x.k, .int .i64 r.x.n, .string r.x.s, .slice r.a r.m r.c, .int .i64 r.x.f, .int .i64 r.x.t] 24)) w3.heap.size r B0 t :=
  ⟨Blk.new w3 _ _, hb.alloc hb.size _, hb.size, hr.below ((Below.refl _ _).alloc (Nat.le_refl _) _), ht⟩
abbrev set6 (w : World) (g : Nat) (r : Vn) : World := (((((w.setCell ⟨g, 0, none⟩ (.int .i64 r.x.k)).setCell ⟨g, 1, none⟩ (.int .i64 r.x.n)).setCell ⟨g, 2, none⟩ (.string r.x.s)).setCell ⟨g, 3, none⟩ (.slice r.a r.m r.c)).setCell ⟨g, 4, none⟩ (.int .i64 r.x.f)).setCell ⟨g, 5, none⟩ (.int .i64 r.x.t)
theorem only_cell (w : World) (g j : Nat) (u : Value) : Only w (w.setCell ⟨g, j, none⟩ u) g := ⟨rfl, rfl, rfl, by simp [World.setCell], fun k hk => Below.heap_setCell _ ⟨g, j, none⟩ _ k hk⟩
theorem Only.trans {w w' w'' : World} {g : Nat} (h : Only w w' g) (k : Only w' w'' g) : Only w w'' g := ⟨k.os.trans h.os, k.tape.trans h.tape, k.output.trans h.output, k.size.trans h.size, fun i hi => (k.block i hi).trans (h.block i hi)⟩
theorem only_set6 (w : World) (g : Nat) (r : Vn) : Only w (set6 w g r) g :=
  (((((only_cell _ _ _ _).trans (only_cell _ _ _ _)).trans (only_cell _ _ _ _)).trans (only_cell _ _ _ _)).trans (only_cell _ _ _ _)).trans (only_cell _ _ _ _)
theorem blk_set6 {w : World} {g : Nat} {u : Vn} (h : VB w g u) (r : Vn) : VB (set6 w g r) g r := by
  have := (((((h.set 0 (.int .i64 r.x.k)).set 1 (.int .i64 r.x.n)).set 2 (.string r.x.s)).set 3 (.slice r.a r.m r.c)).set 4 (.int .i64 r.x.f)).set 5 (.int .i64 r.x.t)
  simpa using this
theorem prel2 {W w3 : World} {r : Vn} {B0 : Nat} {t : VT} (hb : Below W.heap.size W w3) (hz : VB w3 W.heap.size v0) (hB : B0 ≤ W.heap.size) (hr : r.Rs (Old B0 (W.heap.size + 1)) w3) (ht : r.tr = t) :
    PRel W (set6 w3 W.heap.size r) W.heap.size r B0 t :=
  ⟨blk_set6 hz r, hb.trans ((only_set6 _ _ _).below (Nat.le_refl _)), Nat.le_refl _, (hr.agree ((only_set6 _ _ _).kp (fun b hS => by rcases hS with h | h <;> omega))).weak (fun b _ h => h.imp id (fun h => by omega)), ht⟩

theorem flat_set (L : List Vn) (q : Nat) (x : Vn) : (L.set q x).flatMap Vn.cells = ((((((L.flatMap Vn.cells).set (q * 6) (.int .i64 x.x.k)).set (q * 6 + 1) (.int .i64 x.x.n)).set (q * 6 + 1 + 1) (.string x.x.s)).set (q * 6 + 1 + 1 + 1) (.slice x.a x.m x.c)).set (q * 6 + 1 + 1 + 1 + 1) (.int .i64 x.x.f)).set (q * 6 + 1 + 1 + 1 + 1 + 1) (.int .i64 x.x.t) := by
  induction L generalizing q with
  | nil => simp
  | cons y L ih =>
    cases q with
    | zero => simp [Vn.cells]
    | succ q =>
      rw [List.set_cons_succ, List.flatMap_cons, ih q, List.flatMap_cons, show (q + 1) * 6 = q * 6 + 1 + 1 + 1 + 1 + 1 + 1 by omega]
      simp [Vn.cells]
theorem OwnV.stored {w : World} {base n c g : Nat} {L : List Vn} (h : OwnV w base (some ⟨g, 0, none⟩) n c L) (q : Nat) (x : Vn) :
    OwnV (w.setCells g (q * 6) x.cells) base (some ⟨g, 0, none⟩) n c (L.set q x) := by
  refine ⟨?_, by simpa using h.num⟩
  rw [flat_set]
  exact ((((((h.own.stored (q * 6) _).1.stored (q * 6 + 1) _).1.stored (q * 6 + 1 + 1) _).1.stored (q * 6 + 1 + 1 + 1) _).1.stored (q * 6 + 1 + 1 + 1 + 1) _).1.stored (q * 6 + 1 + 1 + 1 + 1 + 1) _).1
theorem only_cells (w : World) (g o : Nat) (x : Vn) : Only w (w.setCells g o x.cells) g :=
  (((((only_cell _ _ _ _).trans (only_cell _ _ _ _)).trans (only_cell _ _ _ _)).trans (only_cell _ _ _ _)).trans (only_cell _ _ _ _)).trans (only_cell _ _ _ _)
theorem OwnV.cellOf {w : World} {base n c g : Nat} {L : List Vn} (h : OwnV w base (some ⟨g, 0, none⟩) n c L) (q : Nat) (hq : q < n) (j : Nat) (hj : j < 6) : (w.cell? ⟨g, q * 6 + j, none⟩).isSome = true := by
  rw [h.own.cellAt (q * 6 + j) (by omega)]
  obtain ⟨x, hx⟩ : ∃ x, L[q]? = some x := ⟨L[q]'(by have := h.num; omega), List.getElem?_eq_getElem _⟩
  obtain ⟨u, hu⟩ : ∃ u, (Vn.cells x)[j]? = some u := ⟨_, List.getElem?_eq_getElem (by rw [cells_len]; exact hj)⟩
  rw [flat_at cells_len L q j x u hx hu]
  rfl
section
variable {w : World} {ops : Array Oper} {rest : List Oper} {o : Oper} {a : Act} {Q : Exit → Act → World → Prop}
/-- One of a slice is stored. -/
theorem wpList_store_el (hgd : o.guard = none) (x y : Operand) (ho : o.op = .store 24 x y) {g q base n c : Nat} {L : List Vn} (hx : a.eval x = .pointer (some ⟨g, q * 6, none⟩)) (hr : OwnV w base (some ⟨g, 0, none⟩) n c L) (hq : q < n) (v : Vn) (hy : a.eval y = v.val)
    (k : ∀ w', OwnV w' base (some ⟨g, 0, none⟩) n c (L.set q v) → Only w w' g → wpList Try.prog ops Q rest (a.put o.dst undef) w') : wpList Try.prog ops Q (o :: rest) a w :=
  wpList_plain hgd fun _ hK => by
    have hst := run_storeCells_cells (P := Try.prog) g (q * 6) v.cells 0 w (fun j hj => by rw [Nat.add_zero]; exact hr.cellOf q hq j (by rw [cells_len] at hj; exact hj)) (fun j hj => by rw [Nat.add_zero]; exact hr.own.frozenAt _) (cells_one v)
    have hi : (Try.prog.info? 24).map (·.size) = some 6 := by kernel_rfl
    have hsv : (storeVar 24 ⟨g, q * 6, none⟩ (Vn.val v)).run Try.prog w = .ok () (w.setCells g (q * 6) v.cells) := by
      rw [Nat.add_zero] at hst
      have hv : (Vn.val v).cells.toList = v.cells := rfl
      have hvs : (Vn.val v).cells.size = 6 := rfl
      cases hq : Try.prog.info? 24 with
      | none => simp [hq] at hi
      | some i =>
        have hs : 6 = i.size := by simp [hq] at hi; omega
        simp [storeVar, sizeOf, typeInfo, hq, hvs, hv, ← hs, hst]
    unfold Oper.wp execOp
    simp only [ho, hx, hy, Instr.storeAt, Instr.sureAddr, Sem.run_bind, Sem.run_pure, Result.andThen_ok, hsv]
    exact hK _ _ (k _ (hr.stored q v) (only_cells _ _ _ _))
end

/-- A term's cells, not laid open. -/
def vc (v : Vn) : Array Value := #[.int .i64 v.x.k, .int .i64 v.x.n, .string v.x.s, .slice v.a v.m v.c, .int .i64 v.x.f, .int .i64 v.x.t]
theorem vc_size (v : Vn) : (vc v).size = 6 := rfl
theorem store_eqT {w : World} {g : Nat} {u : Vn} (hr : VB w g u) (v : Vn) : (storeCells ⟨g, 0, none⟩ (vc v).toList).run Try.prog w = .ok () (w.setRow g (vc v)) := by
  have h := run_storeCells_from (P := Try.prog) g 24 (vc v).toList 0 _ w hr rfl (fun x hx => (Array.all_eq_true_iff_forall_mem.1 (val_one v)) x (by simpa [vc] using hx))
  rw [h]
  congr 2
theorem below_step {w W W' : World} (h : Hid (Below w.heap.size w W)) (hb : Below W.heap.size W W') : Hid (Below w.heap.size w W') := h.out.trans (hb.mono h.out.size)
theorem below_al {w W : World} (h : Hid (Below w.heap.size w W)) (o : Obj) : Hid (Below w.heap.size w (W.alloc o)) := h.out.alloc h.out.size o
theorem below_d (w : World) : Hid (Below w.heap.size w w.drew) := Below.drew (Below.refl _ _)
theorem below_da (w : World) (o : Obj) : Hid (Below w.heap.size w (w.alloc o).drew) := Below.drew ((Below.refl _ _).alloc (Nat.le_refl _) o)
theorem below_sr {w W : World} (h : Hid (Below w.heap.size w W)) {g : Nat} (hg : w.heap.size ≤ g) (cs : Array Value) : Hid (Below w.heap.size w (W.setRow g cs)) := h.out.trans ((only_setRow W g cs).below hg)
theorem vb_new0d (w : World) : VB (w.alloc (.cells #[.int .i64 0, .int .i64 0, .string ⟨#[]⟩, .slice none 0 0, .int .i64 0, .int .i64 0] 24)).drew w.heap.size v0 := Blk.new w _ _
theorem prel1r {W w3 : World} {r : Vn} {B0 : Nat} {t : VT} (hb : Hid (Below W.heap.size W w3)) (hr : r.Rs (Old B0 W.heap.size) w3) (ht : r.tr = t) :
    PRel W ((w3.alloc (.cells #[.int .i64 0, .int .i64 0, .string ⟨#[]⟩, .slice none 0 0, .int .i64 0, .int .i64 0] 24)).setRow w3.heap.size (vc r)) w3.heap.size r B0 t := by
  have hn := vb_new0 w3
  have ho := only_setRow (w3.alloc (.cells #[.int .i64 0, .int .i64 0, .string ⟨#[]⟩, .slice none 0 0, .int .i64 0, .int .i64 0] 24)) w3.heap.size (vc r)
  exact ⟨blk_setRow hn, (below_al hb _).out.trans (ho.below hb.out.size), hb.out.size, by
    have h1 : r.Rs (fun b => Old B0 W.heap.size b ∧ b < w3.heap.size) w3 := hr.weak (fun b h1 h2 => ⟨h2, h1⟩)
    exact ((h1.below (below_alloc _ _)).agree (ho.kp (fun b hb => by have := hb.2; omega))).weak (fun b _ h => h.1), ht⟩
theorem prel2r {W w3 : World} {r : Vn} {B0 : Nat} {t : VT} (hb : Hid (Below W.heap.size W w3)) (hz : VB w3 W.heap.size v0) (hB : B0 ≤ W.heap.size) (hr : r.Rs (Old B0 (W.heap.size + 1)) w3) (ht : r.tr = t) :
    PRel W (w3.setRow W.heap.size (vc r)) W.heap.size r B0 t :=
  ⟨blk_setRow hz, hb.out.trans ((only_setRow _ _ _).below (Nat.le_refl _)), Nat.le_refl _, (hr.agree ((only_setRow _ _ _).kp (fun b hS => by rcases hS with h | h <;> omega))).weak (fun b _ h => h.imp id (fun h => by omega)), ht⟩

/-- What the call answers. -/
def PP (t : VT) (B0 : Nat) (w : World) (e : Ending) (w' : World) : Prop := ∃ r : Vn, e = .returned r.val ∧ r.tr = t ∧ r.Rs (Old B0 w.heap.size) w' ∧ Below w.heap.size w w'

def PX (t : VT) (B0 : Nat) (w : World) (e : Ending) (w' : World) : Prop := ∃ r : Vn, e = .returned (.agg (vc r)) ∧ r.tr = t ∧ r.Rs (Old B0 w.heap.size) w' ∧ Below w.heap.size w w'
theorem PP.out {t : VT} {B0 : Nat} {w w' : World} {e : Ending} (h : PP t B0 w e w') : PX t B0 w e w' := h

set_option maxRecDepth 100000 in
set_option maxHeartbeats 4000000 in
theorem put_any (p : List Int) : ∀ (v x : Vn) (u : VT) (B0 : Nat) (pa : Option Addr) (n c : Nat) (w : World), Tr.at' v.tr p = some u → v.Rs (· < B0) w → x.Rs (· < B0) w → B0 ≤ w.heap.size → v.tr.size ≤ 1000 → I64s w pa n c p → Calls Try.prog 54 #[v.val, .slice pa n c, x.val] w (PP (Tr.put v.tr p x.tr) B0 w) := by
  induction p with
  | nil =>
    intro v x u B0 pa n c w hat hv hx hB0 hsz hp
    have hlen := hp.len
    have hn : n = 0 := hlen.symm
    subst hn
    rw [Tr.put_nil]
    have hW1 : Below w.heap.size w (((w.alloc (.cells #[.int .i64 v.x.k, .int .i64 v.x.n, .string v.x.s, .slice v.a v.m v.c, .int .i64 v.x.f, .int .i64 v.x.t] 24)).alloc (.cells #[.int .i64 x.x.k, .int .i64 x.x.n, .string x.x.s, .slice x.a x.m x.c, .int .i64 x.x.f, .int .i64 x.x.t] 24)).alloc (.cells #[.int .i64 0, .int .i64 0, .string ⟨#[]⟩, .slice none 0 0, .int .i64 0, .int .i64 0] 24)) := (((Below.refl _ _).alloc (Nat.le_refl _) _).alloc (by simp) _).alloc (by simp; omega) _
    have hX : VB (((w.alloc (.cells #[.int .i64 v.x.k, .int .i64 v.x.n, .string v.x.s, .slice v.a v.m v.c, .int .i64 v.x.f, .int .i64 v.x.t] 24)).alloc (.cells #[.int .i64 x.x.k, .int .i64 x.x.n, .string x.x.s, .slice x.a x.m x.c, .int .i64 x.x.f, .int .i64 x.x.t] 24)).alloc (.cells #[.int .i64 0, .int .i64 0, .string ⟨#[]⟩, .slice none 0 0, .int .i64 0, .int .i64 0] 24)) (w.heap.size + 1) x := by
      have := (Blk.new (w.alloc (.cells #[.int .i64 v.x.k, .int .i64 v.x.n, .string v.x.s, .slice v.a v.m v.c, .int .i64 v.x.f, .int .i64 v.x.t] 24)) #[.int .i64 x.x.k, .int .i64 x.x.n, .string x.x.s, .slice x.a x.m x.c, .int .i64 x.x.f, .int .i64 x.x.t] 24).below ((Below.refl _ _).alloc (Nat.le_refl _) (.cells #[.int .i64 0, .int .i64 0, .string ⟨#[]⟩, .slice none 0 0, .int .i64 0, .int .i64 0] 24))
      simpa using this
    have hY : VB (((w.alloc (.cells #[.int .i64 v.x.k, .int .i64 v.x.n, .string v.x.s, .slice v.a v.m v.c, .int .i64 v.x.f, .int .i64 v.x.t] 24)).alloc (.cells #[.int .i64 x.x.k, .int .i64 x.x.n, .string x.x.s, .slice x.a x.m x.c, .int .i64 x.x.f, .int .i64 x.x.t] 24)).alloc (.cells #[.int .i64 0, .int .i64 0, .string ⟨#[]⟩, .slice none 0 0, .int .i64 0, .int .i64 0] 24)) (w.heap.size + 1 + 1) v0 := by
      have := Blk.new ((w.alloc (.cells #[.int .i64 v.x.k, .int .i64 v.x.n, .string v.x.s, .slice v.a v.m v.c, .int .i64 v.x.f, .int .i64 v.x.t] 24)).alloc (.cells #[.int .i64 x.x.k, .int .i64 x.x.n, .string x.x.s, .slice x.a x.m x.c, .int .i64 x.x.f, .int .i64 x.x.t] 24)) #[.int .i64 0, .int .i64 0, .string ⟨#[]⟩, .slice none 0 0, .int .i64 0, .int .i64 0] 24
      unfold VB
      rw [v0_cells]
      simpa using this
    have HW := Lib.hid hW1; have HX := Lib.hid hX; have HY := Lib.hid hY; have HV := Lib.hid hx
    clear hv hx hp hW1 hX hY hlen hat
    unfold Vn.val
    go_enter Try.func54, Try.ntmps54
    go_upto_region 2 with fail
    generalize hWW : (((w.alloc (.cells #[.int .i64 v.x.k, .int .i64 v.x.n, .string v.x.s, .slice v.a v.m v.c, .int .i64 v.x.f, .int .i64 v.x.t] 24)).alloc (.cells #[.int .i64 x.x.k, .int .i64 x.x.n, .string x.x.s, .slice x.a x.m x.c, .int .i64 x.x.f, .int .i64 x.x.t] 24)).alloc (.cells #[.int .i64 0, .int .i64 0, .string ⟨#[]⟩, .slice none 0 0, .int .i64 0, .int .i64 0] 24)) = W at HW HX HY ⊢
    clear hWW
    go_wp2_with (first | (refine wpList_load_T rfl _ rfl rfl HX.out ?_) | (refine wpList_store_T rfl _ _ rfl rfl HY.out x rfl ?_))
    intro w2 hv2 ho2
    go_wp2
    try simp only [Exit.inBlock, Exit.then]
    refine bodyPost_ret (results_cell_row rfl _ _ (w.heap.size + 1 + 1) _ _ _ _ rfl hv2 Try.underlying24 rfl (by kernel_rfl)) rfl ?_
    have hbb : Below w.heap.size w w2 := HW.out.trans (ho2.below (by omega))
    exact ⟨x, rfl, rfl, (HV.out.below hbb).weak (fun b _ h => .inl h), hbb⟩
  | cons z p ih =>
    intro v x u B0 pa n c w hat hv hx hB0 hsz hp
    obtain ⟨q, y, rfl, hq, hy, hu⟩ := Tr.at_some hat
    have hcap := hp.cap; have hmost := hp.most
    have hlen : p.length + 1 = n := hp.len
    subst hlen
    obtain ⟨vx, va, m, vc, l⟩ := v
    have hput : Tr.put (Vn.tr ⟨vx, va, m, vc, l⟩) ((q : Int) :: p) x.tr = .mk vx (l.set q (Tr.put y p x.tr)) := by
      rw [Tr.put_cons, Int.toNat_natCast]
      show Tr.mk vx (l.modify q _) = _
      rw [Tr.modify_getElem (y := y) (by exact hy)]
    rw [hput]
    have hszy : y.size ≤ 1000 := by
      have := Tr.size_le (x := vx) (l := l) (y := y) (List.mem_of_getElem? hy)
      have h2 : Tr.size (Tr.mk vx l) ≤ 1000 := hsz
      omega
    have hlm : l.length ≤ 1000 := by
      have := Tr.len_size (x := vx) (l := l)
      have h2 : Tr.size (Tr.mk vx l) ≤ 1000 := hsz
      omega
    have hW1 : Below w.heap.size w (((w.alloc (.cells #[.int .i64 vx.k, .int .i64 vx.n, .string vx.s, .slice va m vc, .int .i64 vx.f, .int .i64 vx.t] 24)).alloc (.cells #[.int .i64 x.x.k, .int .i64 x.x.n, .string x.x.s, .slice x.a x.m x.c, .int .i64 x.x.f, .int .i64 x.x.t] 24)).alloc (.cells #[.int .i64 0, .int .i64 0, .string ⟨#[]⟩, .slice none 0 0, .int .i64 0, .int .i64 0] 24)) := (((Below.refl _ _).alloc (Nat.le_refl _) _).alloc (by simp) _).alloc (by simp; omega) _
    have hZ : Blk (((w.alloc (.cells #[.int .i64 vx.k, .int .i64 vx.n, .string vx.s, .slice va m vc, .int .i64 vx.f, .int .i64 vx.t] 24)).alloc (.cells #[.int .i64 x.x.k, .int .i64 x.x.n, .string x.x.s, .slice x.a x.m x.c, .int .i64 x.x.f, .int .i64 x.x.t] 24)).alloc (.cells #[.int .i64 0, .int .i64 0, .string ⟨#[]⟩, .slice none 0 0, .int .i64 0, .int .i64 0] 24)) w.heap.size #[.int .i64 vx.k, .int .i64 vx.n, .string vx.s, .slice va m vc, .int .i64 vx.f, .int .i64 vx.t] 24 :=
      ((Blk.new w #[.int .i64 vx.k, .int .i64 vx.n, .string vx.s, .slice va m vc, .int .i64 vx.f, .int .i64 vx.t] 24).below ((Below.refl _ _).alloc (Nat.le_refl _) (.cells #[.int .i64 x.x.k, .int .i64 x.x.n, .string x.x.s, .slice x.a x.m x.c, .int .i64 x.x.f, .int .i64 x.x.t] 24))).below ((Below.refl _ _).alloc (Nat.le_refl _) _)
    have hX : VB (((w.alloc (.cells #[.int .i64 vx.k, .int .i64 vx.n, .string vx.s, .slice va m vc, .int .i64 vx.f, .int .i64 vx.t] 24)).alloc (.cells #[.int .i64 x.x.k, .int .i64 x.x.n, .string x.x.s, .slice x.a x.m x.c, .int .i64 x.x.f, .int .i64 x.x.t] 24)).alloc (.cells #[.int .i64 0, .int .i64 0, .string ⟨#[]⟩, .slice none 0 0, .int .i64 0, .int .i64 0] 24)) (w.heap.size + 1) x := by
      have := (Blk.new (w.alloc (.cells #[.int .i64 vx.k, .int .i64 vx.n, .string vx.s, .slice va m vc, .int .i64 vx.f, .int .i64 vx.t] 24)) #[.int .i64 x.x.k, .int .i64 x.x.n, .string x.x.s, .slice x.a x.m x.c, .int .i64 x.x.f, .int .i64 x.x.t] 24).below ((Below.refl _ _).alloc (Nat.le_refl _) (.cells #[.int .i64 0, .int .i64 0, .string ⟨#[]⟩, .slice none 0 0, .int .i64 0, .int .i64 0] 24))
      simpa using this
    have hY : VB (((w.alloc (.cells #[.int .i64 vx.k, .int .i64 vx.n, .string vx.s, .slice va m vc, .int .i64 vx.f, .int .i64 vx.t] 24)).alloc (.cells #[.int .i64 x.x.k, .int .i64 x.x.n, .string x.x.s, .slice x.a x.m x.c, .int .i64 x.x.f, .int .i64 x.x.t] 24)).alloc (.cells #[.int .i64 0, .int .i64 0, .string ⟨#[]⟩, .slice none 0 0, .int .i64 0, .int .i64 0] 24)) (w.heap.size + 1 + 1) v0 := by
      have := Blk.new ((w.alloc (.cells #[.int .i64 vx.k, .int .i64 vx.n, .string vx.s, .slice va m vc, .int .i64 vx.f, .int .i64 vx.t] 24)).alloc (.cells #[.int .i64 x.x.k, .int .i64 x.x.n, .string x.x.s, .slice x.a x.m x.c, .int .i64 x.x.f, .int .i64 x.x.t] 24)) #[.int .i64 0, .int .i64 0, .string ⟨#[]⟩, .slice none 0 0, .int .i64 0, .int .i64 0] 24
      unfold VB
      rw [v0_cells]
      simpa using this
    have hp1 := hp.below hW1
    have hv1 := hv.below hW1
    have hxr := hx.below hW1
    have hvl := hv1.rd
    have hvx64 : In64 vx := hv1.x64
    dsimp only at hvl
    have hcapx := hvl.cap; have hmostx := hvl.most
    have hlx := hvl.len
    have hqm : q < m := by rw [← hlx]; exact hq
    rcases hp.at' with h0 | ⟨b, off, rfl, hcell⟩
    · omega
    have hzw := hcell 0 (by omega)
    simp only [List.getD_cons_zero, Nat.add_zero] at hzw
    have hbw : b < w.heap.size := World.block_lt_of_cell? w _ hzw
    have hz := hzw
    rw [← hW1.cell (p := ⟨b, off, none⟩) hbw] at hz
    obtain ⟨b1, o1, x1, rfl, hb1, hx1, hc1⟩ := recs_at hvl hqm
    obtain ⟨v1, hv1e, hr1, c10, c11, c12, c13, c14, c15⟩ := VAs.out hc1
    have hyx : x1 = y := Option.some.inj (hx1.symm.trans hy)
    subst hyx
    obtain ⟨z1, aa1, am1, ac1, al1⟩ := v1
    dsimp only at c10 c11 c12 c13 c14 c15
    have hu1 : Tr.at' (Vn.tr ⟨z1, aa1, am1, ac1, al1⟩) p = some u := by rw [hv1e]; exact hu
    have hm1000 : m ≤ 1000 := by rw [← hlx]; exact hlm
    have HW := Lib.hid hW1; have HZ := Lib.hid hZ; have HX := Lib.hid hX; have HY := Lib.hid hY
    have HV := Lib.hid hv1; have HXR := Lib.hid hxr
    have HR1 := Lib.hid hr1
    have htl := tail_i64s hp1 1 (by omega)
    rw [Nat.add_sub_cancel] at htl
    have HTL := Lib.hid htl
    clear htl
    have HP1 := Lib.hid hp1
    have hszy' : (Vn.tr ⟨z1, aa1, am1, ac1, al1⟩).size ≤ 1000 := by rw [hv1e]; exact hszy
    have HCE := Lib.hid (show ∀ V : World, (Vn.Rs (· < B0) V ⟨z1, aa1, am1, ac1, al1⟩) → x.Rs (· < B0) V → B0 ≤ V.heap.size → I64s V (tailAddr' (some ⟨b, off, none⟩) c 1) p.length (c - 1) p → Calls Try.prog 54 #[.agg #[.int .i64 z1.k, .int .i64 z1.n, .string z1.s, .slice aa1 am1 ac1, .int .i64 z1.f, .int .i64 z1.t], .slice (tailAddr' (some ⟨b, off, none⟩) c 1) p.length (c - 1), .agg #[.int .i64 x.x.k, .int .i64 x.x.n, .string x.x.s, .slice x.a x.m x.c, .int .i64 x.x.f, .int .i64 x.x.t]] V (PP (Tr.put x1 p x.tr) B0 V) from
      fun V h1 h2 h3 h4 => by
        have := ih ⟨z1, aa1, am1, ac1, al1⟩ x u B0 _ _ _ V hu1 h1 h2 h3 hszy' h4
        rw [hv1e] at this
        exact this)
    have hs := fun W => slice_tail_i (some ⟨b, off, none⟩) (p.length + 1) c 1 1 rfl (by omega) hcap hmost (by simp) W
    have HY1 := Lib.hid hy; have HLX := Lib.hid hlx
    clear hzw hv hx hp hp1 hv1 hxr hW1 hX hY hZ hvl hcell hlx ih hat hy hu hc1 hr1 hu1 hv1e hx1 hq hszy hszy' hlm hsz hput
    unfold Vn.val
    go_enter Try.func54, Try.ntmps54
    go_upto_region 4 with fail
    generalize hWW : (((w.alloc (.cells #[.int .i64 vx.k, .int .i64 vx.n, .string vx.s, .slice (some ⟨b1, o1, none⟩) m vc, .int .i64 vx.f, .int .i64 vx.t] 24)).alloc (.cells #[.int .i64 x.x.k, .int .i64 x.x.n, .string x.x.s, .slice x.a x.m x.c, .int .i64 x.x.f, .int .i64 x.x.t] 24)).alloc (.cells #[.int .i64 0, .int .i64 0, .string ⟨#[]⟩, .slice none 0 0, .int .i64 0, .int .i64 0] 24)) = W at HW HZ HX HY HV HXR HR1 HTL HP1 hz c10 c11 c12 c13 c14 c15 ⊢
    have hWs : W.heap.size = w.heap.size + 3 := by rw [← hWW]; simp
    clear hWW
    have hWB : B0 ≤ W.heap.size := Nat.le_trans hB0 HW.out.size
    have HWS := Lib.hid hWs
    clear hWs
    have HC := Lib.hid (show ∀ V : World, Hid (Below W.heap.size W V) → Calls Try.prog 54 #[.agg #[.int .i64 z1.k, .int .i64 z1.n, .string z1.s, .slice aa1 am1 ac1, .int .i64 z1.f, .int .i64 z1.t], .slice (tailAddr' (some ⟨b, off, none⟩) c 1) p.length (c - 1), .agg #[.int .i64 x.x.k, .int .i64 x.x.n, .string x.x.s, .slice x.a x.m x.c, .int .i64 x.x.f, .int .i64 x.x.t]] V (PX (Tr.put x1 p x.tr) B0 V) from
      fun V hV => (HCE.out V (HR1.out.below hV.out) (HXR.out.below hV.out) (Nat.le_trans hWB hV.out.size) (HTL.out.below hV.out)).mono (fun e w' h => h.out))
    have p1 := HZ.out.cell 3
    simp at p1
    have r0 := HX.out.cell 0; have r1 := HX.out.cell 3; have r2 := HX.out.cell 1; have r3 := HX.out.cell 2; have r4 := HX.out.cell 4; have r5 := HX.out.cell 5
    simp at r0 r1 r2 r3 r4 r5
    have hKeep : ∀ V : World, Hid (Below W.heap.size W V) → V.cell? ⟨b, off, none⟩ = some (.int .i64 q) ∧ V.cell? ⟨w.heap.size, 3, none⟩ = some (.slice (some ⟨b1, o1, none⟩) m vc) ∧ V.cell? ⟨b1, o1 + q * 6, none⟩ = some (.int .i64 z1.k) ∧ V.cell? ⟨b1, o1 + q * 6 + 3, none⟩ = some (.slice aa1 am1 ac1) ∧ V.cell? ⟨b1, o1 + q * 6 + 1, none⟩ = some (.int .i64 z1.n) ∧ V.cell? ⟨b1, o1 + q * 6 + 2, none⟩ = some (.string z1.s) ∧ V.cell? ⟨b1, o1 + q * 6 + 4, none⟩ = some (.int .i64 z1.f) ∧ V.cell? ⟨b1, o1 + q * 6 + 5, none⟩ = some (.int .i64 z1.t) ∧ V.cell? ⟨w.heap.size + 1, 0, none⟩ = some (.int .i64 x.x.k) ∧ V.cell? ⟨w.heap.size + 1, 3, none⟩ = some (.slice x.a x.m x.c) ∧ V.cell? ⟨w.heap.size + 1, 1, none⟩ = some (.int .i64 x.x.n) ∧ V.cell? ⟨w.heap.size + 1, 2, none⟩ = some (.string x.x.s) ∧ V.cell? ⟨w.heap.size + 1, 4, none⟩ = some (.int .i64 x.x.f) ∧ V.cell? ⟨w.heap.size + 1, 5, none⟩ = some (.int .i64 x.x.t) := fun V hV' =>
      have hV := hV'.out
      ⟨by rw [hV.cell (World.block_lt_of_cell? W _ hz)]; exact hz, by rw [hV.cell (World.block_lt_of_cell? W _ p1)]; exact p1, by rw [hV.cell (World.block_lt_of_cell? W _ c10)]; exact c10, by rw [hV.cell (World.block_lt_of_cell? W _ c11)]; exact c11, by rw [hV.cell (World.block_lt_of_cell? W _ c12)]; exact c12, by rw [hV.cell (World.block_lt_of_cell? W _ c13)]; exact c13, by rw [hV.cell (World.block_lt_of_cell? W _ c14)]; exact c14, by rw [hV.cell (World.block_lt_of_cell? W _ c15)]; exact c15, by rw [hV.cell (World.block_lt_of_cell? W _ r0)]; exact r0, by rw [hV.cell (World.block_lt_of_cell? W _ r1)]; exact r1, by rw [hV.cell (World.block_lt_of_cell? W _ r2)]; exact r2, by rw [hV.cell (World.block_lt_of_cell? W _ r3)]; exact r3, by rw [hV.cell (World.block_lt_of_cell? W _ r4)]; exact r4, by rw [hV.cell (World.block_lt_of_cell? W _ r5)]; exact r5⟩
    have Kp := Lib.hid hKeep
    clear hKeep p1 c10 c11 c12 c13 c14 c15 r0 r1 r2 r3 r4 r5 hz HCE HR1 HXR HTL
    go_cut [8] from 16 to 24 (fun s7 wx => ∃ (gx : Nat) (r : Vn), s7 = .pointer (some ⟨gx, 0, none⟩) ∧ Hid (PRel W wx gx r B0 (Tr.put x1 p x.tr)))
    case first =>
     go_region_held_law (fun V => V.cell? ⟨b, off, none⟩ = some (.int .i64 q) ∧ V.cell? ⟨w.heap.size, 3, none⟩ = some (.slice (some ⟨b1, o1, none⟩) m vc) ∧ V.cell? ⟨b1, o1 + q * 6, none⟩ = some (.int .i64 z1.k) ∧ V.cell? ⟨b1, o1 + q * 6 + 3, none⟩ = some (.slice aa1 am1 ac1) ∧ V.cell? ⟨b1, o1 + q * 6 + 1, none⟩ = some (.int .i64 z1.n) ∧ V.cell? ⟨b1, o1 + q * 6 + 2, none⟩ = some (.string z1.s) ∧ V.cell? ⟨b1, o1 + q * 6 + 4, none⟩ = some (.int .i64 z1.f) ∧ V.cell? ⟨b1, o1 + q * 6 + 5, none⟩ = some (.int .i64 z1.t) ∧ V.cell? ⟨w.heap.size + 1, 0, none⟩ = some (.int .i64 x.x.k) ∧ V.cell? ⟨w.heap.size + 1, 3, none⟩ = some (.slice x.a x.m x.c) ∧ V.cell? ⟨w.heap.size + 1, 1, none⟩ = some (.int .i64 x.x.n) ∧ V.cell? ⟨w.heap.size + 1, 2, none⟩ = some (.string x.x.s) ∧ V.cell? ⟨w.heap.size + 1, 4, none⟩ = some (.int .i64 x.x.f) ∧ V.cell? ⟨w.heap.size + 1, 5, none⟩ = some (.int .i64 x.x.t))
      (with_reducible first | exact Kp.out _ (below_d W) | exact Kp.out _ HB3 | exact Kp.out _ (below_al HB3 _) | exact Kp.out _ (below_da W _) | exact Kp.out _ (below_sr (below_al HB3 _) hs3 _) | exact Kp.out _ (below_sr HB3 (Nat.le_refl _) _))
      (first
        | (go_at_call 54; (with_reducible refine (HC.out _ (below_d W)).mono ?_); rintro e w3 ⟨r, rfl, ht3, hr3, hb3⟩; have HB3 := below_step (below_d W) hb3; have hs3 := HB3.out.size; have hz6 := vc_size r; have hst2 := store_eqT (vb_new0 w3) r; have HX3 := Lib.hid (prel1r (B0 := B0) HB3 hr3 ht3); clear hb3 hr3 ht3)
        | (go_at_call 54; (with_reducible refine (HC.out _ (below_da W _)).mono ?_); rintro e w3 ⟨r, rfl, ht3, hr3, hb3⟩; have HB3 := below_step (below_da W _) hb3; have hs3 := HB3.out.size; have hz6 := vc_size r; have hQ : VB w3 W.heap.size v0 := Blk.below (vb_new0d W) hb3; have hst := store_eqT hQ r; have HX3 := Lib.hid (prel2r (B0 := B0) HB3 hQ hWB (hr3.weak (fun b _ h => h.imp id (fun h => by simpa using h))) ht3); clear hb3 hr3 ht3 hQ))
     all_goals
      go_wp2_with fail
      go_meet
      exact ⟨_, _, rfl, HX3.out⟩
    case rest =>
      obtain ⟨gx, ⟨rx, ra, rm, rc, rl⟩, rfl, HX3⟩ := hcut
      have hWs := HWS.out
      have hBW := HX3.out.below
      have hgx := HX3.out.ge
      have hszc := hBW.size
      have hmem : Vn.Rs (fun b => Old B0 W.heap.size b ∧ b < wc.heap.size) wc ⟨rx, ra, rm, rc, rl⟩ := HX3.out.rs.weak (fun b h1 h2 => ⟨h2, h1⟩)
      obtain ⟨L, hLm, hLr, hLs⟩ := VSs.nodes ((HV.out.below hBW).rd)
      dsimp only at hLm hLs
      have hLr' : ∀ y ∈ L, y.Rs (fun b => Old B0 W.heap.size b ∧ b < wc.heap.size) wc := fun y hy => (hLr y hy).weak (fun b h1 h2 => ⟨.inl h2, h1⟩)
      have hLn : L.length = m := hLs.num
      obtain ⟨xq, hxq⟩ : ∃ xq, L[q]? = some xq := ⟨L[q]'(by omega), List.getElem?_eq_getElem _⟩
      have HMEM := Lib.hid hmem; have HLM := Lib.hid hLm; have HLR := Lib.hid hLr'; have HLS := Lib.hid hLs; have HXQ := Lib.hid hxq
      have hzc := HZ.out.below hBW
      have HZC := Lib.hid hzc
      have p1 := hzc.cell 3
      simp at p1
      have HTR := Lib.hid HX3.out.tr
      have HGB := Lib.hid HX3.out.blk
      have HYC := Lib.hid (HY.out.below hBW)
      have hpz : wc.cell? ⟨b, off, none⟩ = some (.int .i64 q) := (Kp.out wc (Lib.hid hBW)).1
      have HPZ := Lib.hid hpz
      have HBW := Lib.hid hBW
      clear hmem hLm hLr hLr' hLs hzc HX3 HX HV HP1 HC Kp hBW hpz hxq
      go_wp2_with fail
      refine (clone_any (some ⟨b1, o1, none⟩) m vc L wc HLS.out (by omega)).mono ?_
      rintro e w4 ⟨a4, c4, rfl, ho4, hb4⟩
      rcases ho4.cases with ⟨rfl, h0, _⟩ | ⟨g, rfl, hg, hgs, hmc, hcm⟩
      · omega
      have hcm' : c4 ≤ 9223372036854775807 := by unfold maxLen at hcm; omega
      have hz4 := HZC.out.below hb4
      have HO4 := Lib.hid ho4; have HB4 := Lib.hid hb4; have HZ4 := Lib.hid hz4
      have q1 := hz4.cell 3; have f1 := hz4.free 3
      simp at q1
      have hs4 := hb4.size
      clear ho4 hb4 hz4 p1
      go_upto_region 6 with fail
      have h5 : ∀ k, k ≠ w.heap.size → (w4.setCell ⟨w.heap.size, 3, none⟩ (.slice (some ⟨g, 0, none⟩) m c4)).heap[k]? = w4.heap[k]? := fun k hk => Below.heap_setCell _ ⟨w.heap.size, 3, none⟩ _ k hk
      have hz5 : Blk (w4.setCell ⟨w.heap.size, 3, none⟩ (.slice (some ⟨g, 0, none⟩) m c4)) w.heap.size #[.int .i64 vx.k, .int .i64 vx.n, .string vx.s, .slice (some ⟨g, 0, none⟩) m c4, .int .i64 vx.f, .int .i64 vx.t] 24 := by
        have := HZ4.out.set 3 (.slice (some ⟨g, 0, none⟩) m c4)
        simpa using this
      have hg5 : VB (w4.setCell ⟨w.heap.size, 3, none⟩ (.slice (some ⟨g, 0, none⟩) m c4)) gx ⟨rx, ra, rm, rc, rl⟩ := (HGB.out.below HB4.out).of (h5 gx (by omega))
      have hy5 : VB (w4.setCell ⟨w.heap.size, 3, none⟩ (.slice (some ⟨g, 0, none⟩) m c4)) (w.heap.size + 1 + 1) v0 := (HYC.out.below HB4.out).of (h5 _ (by omega))
      have ho5 : OwnV (w4.setCell ⟨w.heap.size, 3, none⟩ (.slice (some ⟨g, 0, none⟩) m c4)) wc.heap.size (some ⟨g, 0, none⟩) m c4 L := ⟨ownsRow_setCell_below HO4.out.own (a := ⟨w.heap.size, 3, none⟩) (by show w.heap.size < _; omega) _, HO4.out.num⟩
      have hpz5 : (w4.setCell ⟨w.heap.size, 3, none⟩ (.slice (some ⟨g, 0, none⟩) m c4)).cell? ⟨b, off, none⟩ = some (.int .i64 q) := by
        rw [World.cell?_of_block (w := w4) (a := ⟨b, off, none⟩) (h5 b (by omega)), HB4.out.cell (p := ⟨b, off, none⟩) (by show b < _; omega)]
        exact HPZ.out
      have hb5 : Below w.heap.size w (w4.setCell ⟨w.heap.size, 3, none⟩ (.slice (some ⟨g, 0, none⟩) m c4)) := ((HW.out.trans (HBW.out.mono HW.out.size)).trans (HB4.out.mono (by omega))).setCell (Nat.le_refl _) _
      have hk5 : ∀ k, k < wc.heap.size → k ≠ w.heap.size → (w4.setCell ⟨w.heap.size, 3, none⟩ (.slice (some ⟨g, 0, none⟩) m c4)).heap[k]? = wc.heap[k]? := fun k hk hne => (h5 k hne).trans (HB4.out.block k hk)
      have hsz5 : wc.heap.size ≤ (w4.setCell ⟨w.heap.size, 3, none⟩ (.slice (some ⟨g, 0, none⟩) m c4)).heap.size := by simpa using hs4
      generalize hW5 : w4.setCell ⟨w.heap.size, 3, none⟩ (.slice (some ⟨g, 0, none⟩) m c4) = w5 at hz5 hg5 hy5 ho5 hpz5 hb5 hk5 hsz5 ⊢
      have HZ5 := Lib.hid hz5; have HG5 := Lib.hid hg5; have HY5 := Lib.hid hy5; have HO5 := Lib.hid ho5; have HB5 := Lib.hid hb5; have HK5 := Lib.hid hk5
      have z1' := hz5.cell 3
      simp at z1'
      clear hW5 hz5 hg5 hy5 ho5 hb5 hk5 h5 q1 f1 hpz5
      go_wp2_with (first | (refine wpList_load_T rfl _ rfl rfl HG5.out ?_) | (refine wpList_store_el (g := g) (q := q) rfl (.tmp 33) (.tmp 32) rfl (by first | rfl | simp [Act.eval, Act.put]) HO5.out (by omega) ⟨rx, ra, rm, rc, rl⟩ rfl ?_))
      intro w6 ho6 hon
      have hsz6 : wc.heap.size ≤ w6.heap.size := by rw [hon.size]; exact hsz5
      have HO6 := Lib.hid ho6; have HON := Lib.hid hon; have HB6 := Lib.hid (HB5.out.trans (hon.below (by omega)))
      have HY6 := Lib.hid (hon.blk HY5.out (by omega))
      have HZ6 : Hid (VB w6 w.heap.size ⟨vx, some ⟨g, 0, none⟩, m, c4, []⟩) := hon.blk HZ5.out (by omega)
      clear ho6 hon z1'
      go_wp2_with (first | (refine wpList_load_T rfl _ rfl rfl HZ6.out ?_) | (refine wpList_store_T rfl _ _ rfl rfl HY6.out ⟨vx, some ⟨g, 0, none⟩, m, c4, []⟩ rfl ?_))
      intro w7 hv7 hon7
      go_wp2
      try simp only [Exit.inBlock, Exit.then]
      refine bodyPost_ret (results_cell_row rfl _ _ (w.heap.size + 1 + 1) _ _ _ _ rfl hv7 Try.underlying24 rfl (by kernel_rfl)) rfl ?_
      have hkp : tr.Kp (fun b => Old B0 W.heap.size b ∧ b < wc.heap.size) wc w7 := by
        refine ⟨by rw [hon7.size]; exact hsz6, fun b hS _ => ?_⟩
        have hne : b ≠ w.heap.size ∧ b ≠ w.heap.size + 1 + 1 ∧ b ≠ g := by
          obtain ⟨h1, h2⟩ := hS
          rcases h1 with h1 | h1
          · exact ⟨by omega, by omega, by omega⟩
          · exact ⟨by omega, by omega, by omega⟩
        exact (hon7.block b hne.2.1).trans ((HON.out.block b hne.2.2).trans (HK5.out b hS.2 hne.1))
      refine ⟨⟨vx, some ⟨g, 0, none⟩, m, c4, (L.set q ⟨rx, ra, rm, rc, rl⟩).map Vn.tr⟩, rfl, ?_, ⟨?_, ?_, hvx64⟩, HB6.out.trans (hon7.below (by omega))⟩
      · show Tr.mk vx _ = _
        rw [List.map_set, HLM.out, HTR.out]
      · have ho7 : OwnV w7 wc.heap.size (some ⟨g, 0, none⟩) m c4 (L.set q ⟨rx, ra, rm, rc, rl⟩) := by
          refine ⟨⟨HO6.out.own.1, ?_⟩, HO6.out.num⟩
          rcases HO6.out.own.2 with hv | ⟨g', cap, cur, hv, hg', hh, r'⟩
          · exact .inl hv
          · refine .inr ⟨g', cap, cur, hv, hg', ?_, r'⟩
            rw [hon7.block g' (by omega)]; exact hh
        refine OwnV.reads ho7 (fun y hy => ?_)
        rcases List.mem_or_eq_of_mem_set hy with h | rfl
        · exact ((HLR.out y h).agree hkp).weak (fun b _ h => h.1.imp id (fun h => by omega))
        · exact (HMEM.out.agree hkp).weak (fun b _ h => h.1.imp id (fun h => by omega))
      · intro _ b off hb
        cases hb
        exact .inr (by omega)
end Go.Proofs.Ytbpjaidfpacbfaa.te
