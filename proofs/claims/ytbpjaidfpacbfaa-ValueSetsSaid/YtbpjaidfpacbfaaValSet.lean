/-
  Layer 19: the document's Set; the program's Set.
-/
import Derived.Test.YtbpjaidfpacbfaaValPut
import Derived.Deep.AppendLies
namespace Go.Proofs.Ytbpjaidfpacbfaa.va
open Go.ChangeShapes Go.WideShapes Go.ChangeAt Go.RowKit
open bs tr
set_option linter.unusedVariables false

/-- Values of the call's own, whose parts lie in old blocks or in blocks from H on, and not among them. -/
structure Frst (B0 H : Nat) (w : World) (base : Nat) (a : Option Addr) (n c : Nat) (L : List Vn) : Prop where
  own : OwnV w base a n c L
  rs : ∀ x ∈ L, x.Rs (fun b => Old B0 H b ∧ blockOf a ≠ some b) w
theorem Frst.below {B0 H : Nat} {w w' : World} {base : Nat} {a n c} {L : List Vn} (h : Frst B0 H w base a n c L) (hb : Below w.heap.size w w') : Frst B0 H w' base a n c L := ⟨OwnS.below h.own hb, fun x hx => (h.rs x hx).below hb⟩
theorem OwnV.blockLt {w : World} {base : Nat} {a n c} {L : List Vn} (h : OwnV w base a n c L) {i : Nat} (hi : blockOf a = some i) : base ≤ i ∧ i < w.heap.size := by
  rcases h.cases with ⟨rfl, _, _⟩ | ⟨g, rfl, hg, hs, _, _⟩
  · cases hi
  · cases hi; exact ⟨hg, hs⟩

theorem run_append_v {B0 H : Nat} (ty : TypeId) (w : World) (base : Nat) {a n c} {L : List Vn} (h : Frst B0 H w base a n c L) (x : Vn) (hx : x.Rs (fun b => Old B0 H b ∧ blockOf a ≠ some b) w) (ad : Addr) (c' : Nat)
    (hc : ∀ j u, (Vn.cells x)[j]? = some u → w.cell? (ad.add j) = some u) (hn : n + 1 ≤ 1000000) (hbase : base ≤ w.heap.size) :
    ∃ a2 c2 w', (Builtin.append_ #[50, 50] ty #[.slice a n c, .slice (some ad) 1 c']).run Try.prog w = .ok (.slice a2 (n + 1) c2) w' ∧ Frst B0 H w' base a2 (n + 1) c2 (L ++ [x]) ∧ Below base w w' := by
  obtain ⟨i0, hi, hz0, hz1, hz2⟩ := info_parts recT.info
  obtain ⟨g, cap, w', hr, ho2, hg, hat, hlt⟩ := run_append_lies (P := Try.prog) w 50 ty base 52 i0 (.agg #[.int .i64 0, .slice none 0 0]) 2 32 recT.und hi hz0 hz1 hz2 recT.zero (by decide) (.slice a n c) n (L.flatMap Vn.cells) h.own.own ad 1 c' (Vn.cells x) rfl hc
    (cells_one x) (by omega) (by unfold maxLen; omega) (by omega) hbase _ rfl
  rw [ownBlock_eq] at hg hat
  have he : (L ++ [x]).flatMap Vn.cells = L.flatMap Vn.cells ++ Vn.cells x := by simp
  have hbel : Below base w w' := (Below.refl base w).grown hg hbase (fun k hk => (h.own.blockLt hk).1)
  have key : ∀ y : Vn, y.Rs (fun b => Old B0 H b ∧ blockOf a ≠ some b) w → y.Rs (fun b => Old B0 H b ∧ blockOf (some ⟨g, 0, none⟩) ≠ some b) w' := fun y hy => by
    have h1 := hy.weak (S' := fun b => (Old B0 H b ∧ blockOf a ≠ some b) ∧ b < w.heap.size) (fun b h1 h2 => ⟨h2, h1⟩)
    have h2 := h1.agree (w' := w') ⟨hg.size, fun b hS hb => hg.block b hb (fun e => hS.1.2 e.symm)⟩
    refine h2.weak (fun b _ hS => ⟨hS.1.1, fun e => ?_⟩)
    have hgb : g = b := by simpa [blockOf] using e
    subst hgb
    rcases hat with hat | hat
    · exact hS.1.2 hat
    · have := hS.2; omega
  refine ⟨some ⟨g, 0, none⟩, cap, w', hr, ⟨⟨by rw [he]; exact ho2, by simp [h.own.num]⟩, fun y hy => ?_⟩, hbel⟩
  rcases List.mem_append.1 hy with h1 | h1
  · exact key y (h.rs y h1)
  · rw [List.mem_singleton] at h1; subst h1; exact key _ hx

section
variable {B0 H : Nat} {w : World} {ops : Array Oper} {rest : List Oper} {o : Oper} {a : Act} {Q : Exit → Act → World → Prop}
theorem wpList_append_v (hw : Region.wanted o (yielded ops a.tmps) = true) (s y : Operand) (ho : o.op = .call { callee := .builtin .append, args := #[s, y], argTypes := #[50, 50] })
    (base : Nat) {b n c} {L : List Vn} (hs : a.eval s = .slice b n c) (h : Frst B0 H w base b n c L) {ad c'} (hy : a.eval y = .slice (some ad) 1 c') (x : Vn) (hx : x.Rs (fun i => Old B0 H i ∧ blockOf b ≠ some i) w)
    (hc : ∀ j u, (Vn.cells x)[j]? = some u → w.cell? (ad.add j) = some u) (hn : n + 1 ≤ 1000000) (hbase : base ≤ w.heap.size)
    (k : ∀ a2 c2 w', Frst B0 H w' base a2 (n + 1) c2 (L ++ [x]) → Below base w w' → wpList Try.prog ops Q rest (a.put o.dst (.slice a2 (n + 1) c2)) w') : wpList Try.prog ops Q (o :: rest) a w :=
  BigFrame.wpList_want hw fun K hK => by
    obtain ⟨a2, c2, w', hr, h2, h3⟩ := run_append_v o.type w base h x hx ad c' hc hn hbase
    unfold Oper.wp execOp
    simp only [ho, resolve, invoke, builtin, Sem.run_bind, Sem.run_pure, Result.andThen_ok, List.map_toArray, List.map_cons, List.map_nil, hs, hy, hr]
    exact hK _ _ (k a2 c2 w' h2 h3)
theorem step_append_v {K : Act → World → Prop} {E : Prop} (hgd : o.guard = none) (s y : Operand) (ho : o.op = .call { callee := .builtin .append, args := #[s, y], argTypes := #[50, 50] })
    (base : Nat) {b n c} {L : List Vn} (hs : a.eval s = .slice b n c) (h : Frst B0 H w base b n c L) {ad c'} (hy : a.eval y = .slice (some ad) 1 c') (x : Vn) (hx : x.Rs (fun i => Old B0 H i ∧ blockOf b ≠ some i) w)
    (hc : ∀ j u, (Vn.cells x)[j]? = some u → w.cell? (ad.add j) = some u) (hn : n + 1 ≤ 1000000) (hbase : base ≤ w.heap.size)
    (k : ∀ a2 c2 w', Frst B0 H w' base a2 (n + 1) c2 (L ++ [x]) → Below base w w' → K (a.put o.dst (.slice a2 (n + 1) c2)) w') :
    if Region.wanted o (yielded ops a.tmps) = true then Oper.wp Try.prog o a w K Q else E := by
  have hw : Region.wanted o (yielded ops a.tmps) = true := by simp [Region.wanted, hgd]
  rw [if_pos hw]
  obtain ⟨a2, c2, w', hr, h2, h3⟩ := run_append_v o.type w base h x hx ad c' hc hn hbase
  unfold Oper.wp execOp
  simp only [ho, resolve, invoke, builtin, Sem.run_bind, Sem.run_pure, Result.andThen_ok, List.map_toArray, List.map_cons, List.map_nil, hs, hy, hr]
  exact k a2 c2 w' h2 h3
end
/-- Behind a call in w (which had what was ahead), what it made does not lie in a block that was there. -/
theorem Vn.Rs.apart {B0 H : Nat} {w w' : World} {base : Nat} {a n c} {L : List Vn} {r : Vn} (h : OwnV w base a n c L) (hB : B0 ≤ base) (hH : H ≤ w.heap.size) (hr : r.Rs (Old B0 w.heap.size) w') : r.Rs (fun b => Old B0 H b ∧ blockOf a ≠ some b) w' :=
  hr.weak (fun b _ hS => ⟨hS.imp id (fun h => by omega), fun e => by
    have h1 := h.blockLt e
    rcases hS with h2 | h2 <;> omega⟩)
theorem Vn.Rs.apart' {B0 H : Nat} {w w' : World} {base : Nat} {a n c} {L : List Vn} {r : Vn} (h : OwnV w base a n c L) (hB : B0 ≤ base) (hr : r.Rs (· < B0) w') : r.Rs (fun b => Old B0 H b ∧ blockOf a ≠ some b) w' :=
  hr.weak (fun b _ hS => ⟨.inl hS, fun e => by
    have h1 := h.blockLt e
    omega⟩)
theorem Frst.reads {B0 H : Nat} {w : World} {base : Nat} {a n c} {L : List Vn} (h : Frst B0 H w base a n c L) : VSs (Old B0 H) w a n c (L.map Vn.tr) := h.own.reads (fun x hx => (h.rs x hx).weak (fun b _ h => h.1))

theorem take_set_lt {α : Type} (l : List α) (q k : Nat) (t x : α) (hk : l[k]? = some x) (hne : k ≠ q) : (l.set q t).take (k + 1) = (l.set q t).take k ++ [x] := by
  rw [List.take_add_one, List.getElem?_set]
  simp [Ne.symm hne, hk]
theorem take_set_eq {α : Type} (l : List α) (q : Nat) (t : α) (hk : q < l.length) : (l.set q t).take (q + 1) = (l.set q t).take q ++ [t] := by
  rw [List.take_add_one, List.getElem?_set]
  simp [hk]

set_option maxRecDepth 100000 in
set_option maxHeartbeats 4000000 in
theorem rset_any (p : List Int) : ∀ (v x : Vn) (u : VT) (B0 : Nat) (pa : Option Addr) (n c : Nat) (w : World), Tr.at' v.tr p = some u → v.Rs (· < B0) w → x.Rs (· < B0) w → B0 ≤ w.heap.size → v.tr.size ≤ 1000 → I64s w pa n c p → Calls Try.prog 46 #[v.val, .slice pa n c, x.val] w (PP (Tr.put v.tr p x.tr) B0 w) := by
  induction p with
  | nil =>
    intro v x u B0 pa n c w hat hv hx hB0 hsz hp
    have hlen := hp.len
    have hn : n = 0 := hlen.symm
    subst hn
    rw [Tr.put_nil]
    have hW1 : Below w.heap.size w (((w.alloc (.cells #[.int .i64 v.x, .slice v.a v.m v.c] 52)).alloc (.cells #[.int .i64 x.x, .slice x.a x.m x.c] 52)).alloc (.cells #[.int .i64 0, .slice none 0 0] 52)) := (((Below.refl _ _).alloc (Nat.le_refl _) _).alloc (by simp) _).alloc (by simp; omega) _
    have hX : VB (((w.alloc (.cells #[.int .i64 v.x, .slice v.a v.m v.c] 52)).alloc (.cells #[.int .i64 x.x, .slice x.a x.m x.c] 52)).alloc (.cells #[.int .i64 0, .slice none 0 0] 52)) (w.heap.size + 1) x := by
      have := (Blk.new (w.alloc (.cells #[.int .i64 v.x, .slice v.a v.m v.c] 52)) #[.int .i64 x.x, .slice x.a x.m x.c] 52).below ((Below.refl _ _).alloc (Nat.le_refl _) (.cells #[.int .i64 0, .slice none 0 0] 52))
      simpa using this
    have hY : VB (((w.alloc (.cells #[.int .i64 v.x, .slice v.a v.m v.c] 52)).alloc (.cells #[.int .i64 x.x, .slice x.a x.m x.c] 52)).alloc (.cells #[.int .i64 0, .slice none 0 0] 52)) (w.heap.size + 1 + 1) v0 := by
      have := Blk.new ((w.alloc (.cells #[.int .i64 v.x, .slice v.a v.m v.c] 52)).alloc (.cells #[.int .i64 x.x, .slice x.a x.m x.c] 52)) #[.int .i64 0, .slice none 0 0] 52
      unfold VB
      rw [v0_cells]
      simpa using this
    have HW := Lib.hid hW1; have HX := Lib.hid hX; have HY := Lib.hid hY; have HV := Lib.hid hx
    clear hv hx hp hW1 hX hY hlen hat
    unfold Vn.val
    go_enter Try.func46, Try.ntmps46
    go_upto_region 2 with fail
    generalize hWW : (((w.alloc (.cells #[.int .i64 v.x, .slice v.a v.m v.c] 52)).alloc (.cells #[.int .i64 x.x, .slice x.a x.m x.c] 52)).alloc (.cells #[.int .i64 0, .slice none 0 0] 52)) = W at HW HX HY ⊢
    clear hWW
    have p0 := HX.out.cell 0; have p1 := HX.out.cell 1
    have q0 := HY.out.cell 0; have q1 := HY.out.cell 1
    have g0 := HY.out.free 0; have g1 := HY.out.free 1
    simp [v0] at p0 p1 q0 q1
    go_wp2
    try simp only [Exit.inBlock, Exit.then]
    refine bodyPost_ret (results_cell_row rfl _ _ (w.heap.size + 1 + 1) _ #[.int .i64 x.x, .slice x.a x.m x.c] _ _ rfl (by have := (HY.out.set 0 (.int .i64 x.x)).set 1 (.slice x.a x.m x.c); simpa [Blk] using this) Try.underlying52 rfl (by kernel_rfl)) rfl ?_
    have hbb : Below w.heap.size w ((W.setCell ⟨w.heap.size + 1 + 1, 0, none⟩ (.int .i64 x.x)).setCell ⟨w.heap.size + 1 + 1, 1, none⟩ (.slice x.a x.m x.c)) := (HW.out.setCell (by simp; omega) _).setCell (by simp; omega) _
    exact ⟨x, rfl, rfl, (HV.out.below hbb).weak (fun b _ h => .inl h), hbb⟩
  | cons z p ih =>
    intro v x u B0 pa n c w hat hv hx hB0 hsz hp
    obtain ⟨q, y, rfl, hq, hy, hu⟩ := Tr.at_some hat
    have hcap := hp.cap; have hmost := hp.most
    have hlen : p.length + 1 = n := hp.len
    subst hlen
    obtain ⟨vx, va, m, vc, l⟩ := v
    have hput : Tr.put (Vn.tr ⟨vx, va, m, vc, l⟩) ((q : Int) :: p) x.tr = .mk vx (l.set q (Tr.put y p x.tr)) := by
      rw [Tr.put_cons, Int.toNat_natCast]
      show Tr.mk vx (l.modify q _) = _
      rw [Tr.modify_getElem (y := y) (by exact hy)]
    rw [hput]
    have hszy : y.size ≤ 1000 := by
      have := Tr.size_le (x := vx) (l := l) (y := y) (List.mem_of_getElem? hy)
      have h2 : Tr.size (Tr.mk vx l) ≤ 1000 := hsz
      omega
    have hlm : l.length ≤ 1000 := by
      have := Tr.len_size (x := vx) (l := l)
      have h2 : Tr.size (Tr.mk vx l) ≤ 1000 := hsz
      omega
    have hW1 : Below w.heap.size w (((w.alloc (.cells #[.int .i64 vx, .slice va m vc] 52)).alloc (.cells #[.int .i64 x.x, .slice x.a x.m x.c] 52)).alloc (.cells #[.int .i64 0, .slice none 0 0] 52)) := (((Below.refl _ _).alloc (Nat.le_refl _) _).alloc (by simp) _).alloc (by simp; omega) _
    have hZ : Blk (((w.alloc (.cells #[.int .i64 vx, .slice va m vc] 52)).alloc (.cells #[.int .i64 x.x, .slice x.a x.m x.c] 52)).alloc (.cells #[.int .i64 0, .slice none 0 0] 52)) w.heap.size #[.int .i64 vx, .slice va m vc] 52 :=
      ((Blk.new w #[.int .i64 vx, .slice va m vc] 52).below ((Below.refl _ _).alloc (Nat.le_refl _) (.cells #[.int .i64 x.x, .slice x.a x.m x.c] 52))).below ((Below.refl _ _).alloc (Nat.le_refl _) _)
    have hX : VB (((w.alloc (.cells #[.int .i64 vx, .slice va m vc] 52)).alloc (.cells #[.int .i64 x.x, .slice x.a x.m x.c] 52)).alloc (.cells #[.int .i64 0, .slice none 0 0] 52)) (w.heap.size + 1) x := by
      have := (Blk.new (w.alloc (.cells #[.int .i64 vx, .slice va m vc] 52)) #[.int .i64 x.x, .slice x.a x.m x.c] 52).below ((Below.refl _ _).alloc (Nat.le_refl _) (.cells #[.int .i64 0, .slice none 0 0] 52))
      simpa using this
    have hY : VB (((w.alloc (.cells #[.int .i64 vx, .slice va m vc] 52)).alloc (.cells #[.int .i64 x.x, .slice x.a x.m x.c] 52)).alloc (.cells #[.int .i64 0, .slice none 0 0] 52)) (w.heap.size + 1 + 1) v0 := by
      have := Blk.new ((w.alloc (.cells #[.int .i64 vx, .slice va m vc] 52)).alloc (.cells #[.int .i64 x.x, .slice x.a x.m x.c] 52)) #[.int .i64 0, .slice none 0 0] 52
      unfold VB
      rw [v0_cells]
      simpa using this
    have hp1 := hp.below hW1
    have hv1 := hv.below hW1
    have hxr := hx.below hW1
    have hvl := hv1.rd
    have hvx64 : In64 vx := hv1.x64
    dsimp only at hvl
    have hcapx := hvl.cap; have hmostx := hvl.most
    have hlx := hvl.len
    have hqm : q < m := by rw [← hlx]; exact hq
    rcases hp.at' with h0 | ⟨b, off, rfl, hcell⟩
    · omega
    have hzw := hcell 0 (by omega)
    simp only [List.getD_cons_zero, Nat.add_zero] at hzw
    have hbw : b < w.heap.size := World.block_lt_of_cell? w _ hzw
    have hz := hzw
    rw [← hW1.cell (p := ⟨b, off, none⟩) hbw] at hz
    have hm1000 : m ≤ 1000 := by rw [← hlx]; exact hlm
    have HW := Lib.hid hW1; have HZ := Lib.hid hZ; have HX := Lib.hid hX; have HY := Lib.hid hY
    have HV := Lib.hid hv1; have HXR := Lib.hid hxr
    have htl := tail_i64s hp1 1 (by omega)
    rw [Nat.add_sub_cancel] at htl
    have HTL := Lib.hid htl
    clear htl
    have HCE := Lib.hid (show ∀ (v1 : Vn) (V : World), v1.tr = y → v1.Rs (· < B0) V → x.Rs (· < B0) V → B0 ≤ V.heap.size → I64s V (tailAddr' (some ⟨b, off, none⟩) c 1) p.length (c - 1) p → Calls Try.prog 46 #[.agg #[.int .i64 v1.x, .slice v1.a v1.m v1.c], .slice (tailAddr' (some ⟨b, off, none⟩) c 1) p.length (c - 1), .agg #[.int .i64 x.x, .slice x.a x.m x.c]] V (PX (Tr.put y p x.tr) B0 V) from
      fun v1 V h0 h1 h2 h3 h4 => by
        have := ih v1 x u B0 _ _ _ V (by rw [h0]; exact hu) h1 h2 h3 (by rw [h0]; exact hszy) h4
        rw [h0] at this
        exact this.mono (fun e w' h => h.out))
    have hs := fun W => slice_tail_i (some ⟨b, off, none⟩) (p.length + 1) c 1 1 rfl (by omega) hcap hmost (by simp) W
    have HY1 := Lib.hid hy; have HLX := Lib.hid hlx
    clear hzw hv hx hp hp1 hv1 hxr hW1 hX hY hZ hvl hcell hlx ih hat hy hu hq hszy hlm hsz hput
    unfold Vn.val
    go_enter Try.func46, Try.ntmps46
    go_upto_region 3 with fail
    generalize hWW : (((w.alloc (.cells #[.int .i64 vx, .slice va m vc] 52)).alloc (.cells #[.int .i64 x.x, .slice x.a x.m x.c] 52)).alloc (.cells #[.int .i64 0, .slice none 0 0] 52)) = W at HW HZ HX HY HV HXR HTL hz ⊢
    have hWs : W.heap.size = w.heap.size + 3 := by rw [← hWW]; simp
    clear hWW
    have hWB : B0 ≤ W.heap.size := Nat.le_trans hB0 HW.out.size
    have HWS := Lib.hid hWs
    have HF0 : Hid (Frst B0 W.heap.size (W.alloc (.cells #[] 52)) W.heap.size (some ⟨W.heap.size, 0, none⟩) 0 0 []) := ⟨OwnS.made0 W W.heap.size 52 (Nat.le_refl _), fun x hx => by cases hx⟩
    have HB0 : Hid (Below W.heap.size W (W.alloc (.cells #[] 52))) := (Below.refl _ _).alloc (Nat.le_refl _) _
    have HZC := Lib.hid hz
    clear hWs hz
    go_wp2_with fail
    go_loopw [7, 8] (fun lo i wr => ∃ (k : Nat) (a : Option Addr) (c' : Nat) (L : List Vn), k ≤ m ∧ i = .int .i64 k ∧ lo = .slice a k c' ∧ Hid (Frst B0 W.heap.size wr W.heap.size a k c' L) ∧ Hid (Below W.heap.size W wr) ∧ Hid (L.map Vn.tr = (l.set q (Tr.put y p x.tr)).take k)) (fun _ i _ => m - (intOf i).toNat)
    case atStart => exact ⟨0, _, 0, [], by omega, rfl, rfl, HF0, HB0, Lib.hid (by simp)⟩
    case round =>
      obtain ⟨k, a, c', L, hk2, rfl, rfl, HF, HB, HL⟩ := hrel
      have hzb := HZ.out.below HB.out
      have p0 := hzb.cell 0; have p1 := hzb.cell 1
      simp at p0 p1
      have hz : wr.cell? ⟨b, off, none⟩ = some (.int .i64 q) := by rw [HB.out.cell (p := ⟨b, off, none⟩) (by show b < _; have := HW.out.size; omega)]; exact HZC.out
      have hsB := HB.out.size
      by_cases hlt : k < m
      · obtain ⟨b1, o1, x1, rfl, hb1, hx1, hc1⟩ := recs_at HV.out.rd hlt
        obtain ⟨⟨z1, aa1, am1, ac1, al1⟩, hv1e, hr1, e10, e11⟩ := VAs.out hc1
        dsimp only at e10 e11
        have HR1 := Lib.hid hr1; have HX1 := Lib.hid hx1; have HV1E := Lib.hid hv1e
        have hrw : wr.drew.heap.size = wr.heap.size := rfl
        clear hr1 hx1 hc1 hv1e
        by_cases hkq : k = q
        · subst hkq
          have hyx : x1 = y := Option.some.inj (HX1.out.symm.trans HY1.out)
          have hv2 : Vn.tr ⟨z1, aa1, am1, ac1, al1⟩ = y := HV1E.out.trans hyx
          have hC : Calls Try.prog 46 #[.agg #[.int .i64 z1, .slice aa1 am1 ac1], .slice (tailAddr' (some ⟨b, off, none⟩) c 1) p.length (c - 1), .agg #[.int .i64 x.x, .slice x.a x.m x.c]] wr.drew (PX (Tr.put y p x.tr) B0 wr.drew) :=
            HCE.out ⟨z1, aa1, am1, ac1, al1⟩ wr.drew hv2 (HR1.out.below (Below.drew HB.out)) (HXR.out.below (Below.drew HB.out)) (by show B0 ≤ wr.heap.size; omega) (HTL.out.below (Below.drew HB.out))
          have HC := Lib.hid hC
          have r0 := HX.out.cell 0; have r1 := HX.out.cell 1
          have p1W := HZ.out.cell 1
          simp at r0 r1 p1W
          have hKeep : ∀ V : World, Below W.heap.size W V → V.cell? ⟨b, off, none⟩ = some (.int .i64 k) ∧ V.cell? ⟨w.heap.size, 1, none⟩ = some (.slice (some ⟨b1, o1, none⟩) m vc) ∧ V.cell? ⟨b1, o1 + k * 2, none⟩ = some (.int .i64 z1) ∧ V.cell? ⟨b1, o1 + k * 2 + 1, none⟩ = some (.slice aa1 am1 ac1) ∧ V.cell? ⟨w.heap.size + 1, 0, none⟩ = some (.int .i64 x.x) ∧ V.cell? ⟨w.heap.size + 1, 1, none⟩ = some (.slice x.a x.m x.c) := fun V hV =>
            ⟨by rw [hV.cell (World.block_lt_of_cell? W _ HZC.out)]; exact HZC.out, by rw [hV.cell (World.block_lt_of_cell? W _ p1W)]; exact p1W, by rw [hV.cell (World.block_lt_of_cell? W _ e10)]; exact e10, by rw [hV.cell (World.block_lt_of_cell? W _ e11)]; exact e11, by rw [hV.cell (World.block_lt_of_cell? W _ r0)]; exact r0, by rw [hV.cell (World.block_lt_of_cell? W _ r1)]; exact r1⟩
          have Kp := Lib.hid hKeep
          have HTS := Lib.hid (take_set_eq l k (Tr.put y p x.tr) (by rw [HLX.out]; exact hlt))
          clear hKeep hC r0 r1 p1W e10 e11 hv2 hyx hzb
          go_wp2_with fail
          go_region_held_law (fun V => V.cell? ⟨b, off, none⟩ = some (.int .i64 k) ∧ V.cell? ⟨w.heap.size, 1, none⟩ = some (.slice (some ⟨b1, o1, none⟩) m vc) ∧ V.cell? ⟨b1, o1 + k * 2, none⟩ = some (.int .i64 z1) ∧ V.cell? ⟨b1, o1 + k * 2 + 1, none⟩ = some (.slice aa1 am1 ac1) ∧ V.cell? ⟨w.heap.size + 1, 0, none⟩ = some (.int .i64 x.x) ∧ V.cell? ⟨w.heap.size + 1, 1, none⟩ = some (.slice x.a x.m x.c))
            (first | exact Kp.out _ HB.out | exact Kp.out _ (Below.drew HB.out) | exact Kp.out _ HB3.out | exact Kp.out _ (HB3.out.alloc HB3.out.size _) | exact Kp.out _ HB4.out)
            (first
              | (go_at_call 46; (with_reducible refine HC.out.mono ?_); rintro e w3 ⟨rx, ra, rm, rc, rl, rfl, ht3, hr3, hb3⟩; have HB3 : Hid (Below W.heap.size W w3) := (Below.drew HB.out).trans (hb3.mono hsB); have HF3 := Lib.hid ((HF.out.below (Below.drew (Below.refl _ _))).below hb3); have HR3 := Lib.hid (Vn.Rs.apart (w := wr) (H := W.heap.size) HF.out.own hWB hsB hr3); have HT3 := Lib.hid ht3; clear ht3 hr3 hb3)
              | (refine step_append_v (by rfl) (.tmp 26) (.tmp 36) (by rfl) W.heap.size (by rfl) (HF3.out.below ((Below.refl _ _).alloc (Nat.le_refl _) _)) (by rfl) ⟨rx, ra, rm, rc, rl⟩ (HR3.out.below ((Below.refl _ _).alloc (Nat.le_refl _) _)) (src_new _ (Vn.cells ⟨rx, ra, rm, rc, rl⟩) 52) (by omega) (HB3.out.alloc HB3.out.size _).size ?_; intro a4 c4 w4 hf4 hb4; have HB4 : Hid (Below W.heap.size W w4) := (HB3.out.alloc HB3.out.size _).trans hb4; have HF4 := Lib.hid hf4; clear hf4 hb4))
          go_wp2
          go_roundw
          case rel => exact ⟨k + 1, a4, c4, _, by omega, by go_num, rfl, HF4, HB4, Lib.hid (by rw [List.map_append, HL.out, HTS.out, ← HT3.out]; rfl)⟩
          case measure => simp [intOf]; omega
        · have c10 : wr.cell? ⟨b1, o1 + k * 2, none⟩ = some (.int .i64 z1) := by rw [HB.out.cell (p := ⟨b1, o1 + k * 2, none⟩) hb1]; exact e10
          have c11 : wr.cell? ⟨b1, o1 + k * 2 + 1, none⟩ = some (.slice aa1 am1 ac1) := by rw [HB.out.cell (p := ⟨b1, o1 + k * 2 + 1, none⟩) hb1]; exact e11
          have HTS := Lib.hid (take_set_lt l q k (Tr.put y p x.tr) x1 HX1.out hkq)
          have hkq' : ¬ (k : Int) = (q : Int) := by omega
          have HR2 := Lib.hid (Vn.Rs.apart' (H := W.heap.size) HF.out.own hWB (HR1.out.below HB.out))
          clear e10 e11 hzb
          go_wp2_with (at_builtin; refine wpList_append_v rfl _ _ rfl W.heap.size rfl (HF.out.below ((Below.refl _ _).alloc (Nat.le_refl _) _)) rfl ⟨z1, aa1, am1, ac1, al1⟩ (HR2.out.below ((Below.refl _ _).alloc (Nat.le_refl _) _)) (src_new _ (Vn.cells ⟨z1, aa1, am1, ac1, al1⟩) 52) (by omega) (HB.out.alloc hsB _).size ?_)
          intro a4 c4 w4 hf4 hb4
          have HB4 : Hid (Below W.heap.size W w4) := (HB.out.alloc hsB _).trans hb4
          have HF4 := Lib.hid hf4
          clear hf4 hb4
          go_wp2
          go_roundw
          case rel => exact ⟨k + 1, a4, c4, _, by omega, by go_num, rfl, HF4, HB4, Lib.hid (by rw [List.map_append, HL.out, HTS.out, ← HV1E.out]; rfl)⟩
          case measure => simp [intOf]; omega
      · have hkm : k = m := by omega
        subst hkm
        have hyb := HY.out.below HB.out
        have HYB := Lib.hid hyb
        have n0 := hyb.cell 0; have n1 := hyb.cell 1
        have l0 := hyb.free 0; have l1 := hyb.free 1
        simp [v0] at n0 n1
        clear hyb hzb
        go_wp2
        try simp only [Exit.inBlock, Exit.then]
        have hWs := HWS.out
        refine bodyPost_ret (results_cell_row rfl _ _ (w.heap.size + 1 + 1) _ #[.int .i64 vx, .slice a k c'] _ _ rfl (by have := (HYB.out.set 0 (.int .i64 vx)).set 1 (.slice a k c'); simpa [Blk] using this) Try.underlying52 rfl (by kernel_rfl)) rfl ?_
        have hbb : Below (w.heap.size + 1 + 1) wr ((wr.setCell ⟨w.heap.size + 1 + 1, 0, none⟩ (.int .i64 vx)).setCell ⟨w.heap.size + 1 + 1, 1, none⟩ (.slice a k c')) := ((Below.refl _ _).setCell (by simp) _).setCell (by simp) _
        have hkp : tr.Kp (Old B0 W.heap.size) wr ((wr.setCell ⟨w.heap.size + 1 + 1, 0, none⟩ (.int .i64 vx)).setCell ⟨w.heap.size + 1 + 1, 1, none⟩ (.slice a k c')) := by
          refine ⟨hbb.size, fun b hS _ => ?_⟩
          have hne : b ≠ w.heap.size + 1 + 1 := by rcases hS with h1 | h1 <;> omega
          exact (Below.heap_setCell _ ⟨w.heap.size + 1 + 1, 1, none⟩ _ b hne).trans (Below.heap_setCell _ ⟨w.heap.size + 1 + 1, 0, none⟩ _ b hne)
        have hsb : SB (Old B0 W.heap.size) a k := fun _ b off ha => .inr (HF.out.own.blockLt (by rw [ha]; rfl)).1
        refine ⟨⟨vx, a, k, c', L.map Vn.tr⟩, rfl, ?_, (Vn.Rs.agree (S := Old B0 W.heap.size) (w := wr) ⟨HF.out.reads, hsb, hvx64⟩ hkp).weak (fun b _ h => h.imp id (fun h => by omega)), (HW.out.trans (HB.out.mono HW.out.size)).trans (Below.mono hbb (by omega))⟩
        show Tr.mk vx _ = _
        rw [HL.out, List.take_of_length_le (by rw [List.length_set, HLX.out]; exact Nat.le_refl _)]
end Go.Proofs.Ytbpjaidfpacbfaa.va
