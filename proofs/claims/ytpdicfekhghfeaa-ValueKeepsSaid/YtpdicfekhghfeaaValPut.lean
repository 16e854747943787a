/-
  Layer 19: what is set at a way's end.
-/
import Derived.Test.YtpdicfekhghfeaaValClone
import Derived.Deep.RegionHeldLaw
namespace Go.Proofs.Ytpdicfekhghfeaa.va
open Go.ChangeShapes Go.WideShapes Go.ChangeAt Go.RowKit
open bs tr
set_option linter.unusedVariables false

/-- Old blocks, or blocks from h on. -/
def Old (B0 h : Nat) (b : Nat) : Prop := b < B0 ∨ h ≤ b

theorem below_ad (w1 w3 : World) (o : Obj) (h : Below (w1.alloc o).drew.heap.size (w1.alloc o).drew w3) : Below w1.heap.size w1 w3 :=
  (Below.drew ((Below.refl _ _).alloc (Nat.le_refl _) o)).trans (h.mono (by show w1.heap.size ≤ (w1.alloc o).heap.size; simp))
theorem blk_ad (w1 w3 : World) (cs : Array Value) {t : TypeId} (h : Below (w1.alloc (.cells cs t)).drew.heap.size (w1.alloc (.cells cs t)).drew w3) : Blk w3 w1.heap.size cs t :=
  Blk.below (w := (w1.alloc (.cells cs t)).drew) (Blk.new w1 cs t) h

/-- The part that was made, in a variable of its own. -/
structure PRel (W V : World) (gx : Nat) (r : Vn) (B0 : Nat) (t : VT) : Prop where
  blk : VB V gx r
  below : Below W.heap.size W V
  ge : W.heap.size ≤ gx
  rs : r.Rs (Old B0 W.heap.size) V
  tr : r.tr = t
theorem prel1 {W w3 : World} {r : Vn} {B0 : Nat} {t : VT} (hb : Below W.heap.size W w3) (hr : r.Rs (Old B0 W.heap.size) w3) (ht : r.tr = t) :
    PRel W (w3.alloc (.cells #[.int .i64 r.x, .slice r.a r.m r.c] 27)) w3.heap.size r B0 t :=
  ⟨Blk.new w3 _ _, hb.alloc hb.size _, hb.size, hr.below ((Below.refl _ _).alloc (Nat.le_refl _) _), ht⟩
theorem prel2 {W w3 : World} {r : Vn} {B0 : Nat} {t : VT} (hb : Below W.heap.size W w3) (hz : Blk w3 W.heap.size #[.int .i64 0, .slice none 0 0] 27) (hB : B0 ≤ W.heap.size) (hr : r.Rs (Old B0 (W.heap.size + 1)) w3) (ht : r.tr = t) :
    PRel W ((w3.setCell ⟨W.heap.size, 0, none⟩ (.int .i64 r.x)).setCell ⟨W.heap.size, 1, none⟩ (.slice r.a r.m r.c)) W.heap.size r B0 t := by
  refine ⟨?_, (hb.setCell (Nat.le_refl _) _).setCell (Nat.le_refl _) _, Nat.le_refl _, ?_, ht⟩
  · have := (hz.set 0 (.int .i64 r.x)).set 1 (.slice r.a r.m r.c)
    simpa using this
  · refine (hr.agree ⟨by simp, fun b hS hb => ?_⟩).weak (fun b _ h => h.imp id (fun h => by omega))
    have hne : b ≠ W.heap.size := by rcases hS with h | h <;> omega
    exact (Below.heap_setCell _ ⟨W.heap.size, 1, none⟩ _ b hne).trans (Below.heap_setCell _ ⟨W.heap.size, 0, none⟩ _ b hne)

theorem flat_set (L : List Vn) (q : Nat) (x : Vn) : (L.set q x).flatMap Vn.cells = ((L.flatMap Vn.cells).set (q * 2) (.int .i64 x.x)).set (q * 2 + 1) (.slice x.a x.m x.c) := by
  induction L generalizing q with
  | nil => simp
  | cons y L ih =>
    cases q with
    | zero => simp [Vn.cells]
    | succ q =>
      rw [List.set_cons_succ, List.flatMap_cons, ih q, List.flatMap_cons, show (q + 1) * 2 = q * 2 + 1 + 1 by omega]
      simp [Vn.cells]
theorem OwnV.stored {w : World} {base n c g : Nat} {L : List Vn} (h : OwnV w base (some ⟨g, 0, none⟩) n c L) (q : Nat) (x : Vn) :
    OwnV ((w.setCell ⟨g, q * 2, none⟩ (.int .i64 x.x)).setCell ⟨g, q * 2 + 1, none⟩ (.slice x.a x.m x.c)) base (some ⟨g, 0, none⟩) n c (L.set q x) := by
  refine ⟨?_, by simpa using h.num⟩
  rw [flat_set]
  exact ((h.own.stored (q * 2) _).1.stored (q * 2 + 1) _).1

/-- What the call answers. -/
def PP (t : VT) (B0 : Nat) (w : World) (e : Ending) (w' : World) : Prop := ∃ r : Vn, e = .returned r.val ∧ r.tr = t ∧ r.Rs (Old B0 w.heap.size) w' ∧ Below w.heap.size w w'

def PX (t : VT) (B0 : Nat) (w : World) (e : Ending) (w' : World) : Prop := ∃ (x : Int) (a : Option Addr) (m c : Nat) (l : List VT), e = .returned (.agg #[.int .i64 x, .slice a m c]) ∧ Vn.tr ⟨x, a, m, c, l⟩ = t ∧ Vn.Rs (Old B0 w.heap.size) w' ⟨x, a, m, c, l⟩ ∧ Below w.heap.size w w'
theorem PP.out {t : VT} {B0 : Nat} {w w' : World} {e : Ending} (h : PP t B0 w e w') : PX t B0 w e w' := by
  obtain ⟨⟨x, a, m, c, l⟩, h1, h2, h3, h4⟩ := h
  exact ⟨x, a, m, c, l, h1, h2, h3, h4⟩

/-- No value in it has more than 1000 parts. -/
noncomputable def Wd (t : VT) : Prop := Tr.fold (fun _ l (b : List Prop) => l.length ≤ 1000 ∧ ∀ p ∈ b, p) t
theorem wd_mk {x : Int} {l : List VT} : Wd (.mk x l) ↔ l.length ≤ 1000 ∧ ∀ y ∈ l, Wd y := by
  unfold Wd
  rw [Tr.fold_mk]
  refine and_congr Iff.rfl ⟨fun h y hy => h _ (List.mem_map_of_mem hy), fun h p hp => ?_⟩
  obtain ⟨y, hy, rfl⟩ := List.mem_map.1 hp
  exact h y hy
theorem Wd.of_size (t : VT) : t.size ≤ 1000 → Wd t := by
  induction t using Tr.ind with
  | h x l ih =>
    intro h
    refine wd_mk.2 ⟨?_, fun y hy => ih y hy ?_⟩
    · have := Tr.len_size (x := x) (l := l); omega
    · have := Tr.size_le (x := x) hy; omega

set_option maxRecDepth 100000 in
set_option maxHeartbeats 4000000 in
theorem put_any (p : List Int) : ∀ (v x : Vn) (u : VT) (B0 : Nat) (pa : Option Addr) (n c : Nat) (w : World), Tr.at' v.tr p = some u → v.Rs (· < B0) w → x.Rs (· < B0) w → B0 ≤ w.heap.size → Wd v.tr → I64s w pa n c p → Calls Try.prog 27 #[v.val, .slice pa n c, x.val] w (PP (Tr.put v.tr p x.tr) B0 w) := by
  induction p with
  | nil =>
    intro v x u B0 pa n c w hat hv hx hB0 hsz hp
    have hlen := hp.len
    have hn : n = 0 := hlen.symm
    subst hn
    rw [Tr.put_nil]
    have hW1 : Below w.heap.size w (((w.alloc (.cells #[.int .i64 v.x, .slice v.a v.m v.c] 27)).alloc (.cells #[.int .i64 x.x, .slice x.a x.m x.c] 27)).alloc (.cells #[.int .i64 0, .slice none 0 0] 27)) := (((Below.refl _ _).alloc (Nat.le_refl _) _).alloc (by simp) _).alloc (by simp; omega) _
    have hX : VB (((w.alloc (.cells #[.int .i64 v.x, .slice v.a v.m v.c] 27)).alloc (.cells #[.int .i64 x.x, .slice x.a x.m x.c] 27)).alloc (.cells #[.int .i64 0, .slice none 0 0] 27)) (w.heap.size + 1) x := by
      have := (Blk.new (w.alloc (.cells #[.int .i64 v.x, .slice v.a v.m v.c] 27)) #[.int .i64 x.x, .slice x.a x.m x.c] 27).below ((Below.refl _ _).alloc (Nat.le_refl _) (.cells #[.int .i64 0, .slice none 0 0] 27))
      simpa using this
    have hY : VB (((w.alloc (.cells #[.int .i64 v.x, .slice v.a v.m v.c] 27)).alloc (.cells #[.int .i64 x.x, .slice x.a x.m x.c] 27)).alloc (.cells #[.int .i64 0, .slice none 0 0] 27)) (w.heap.size + 1 + 1) v0 := by
      have := Blk.new ((w.alloc (.cells #[.int .i64 v.x, .slice v.a v.m v.c] 27)).alloc (.cells #[.int .i64 x.x, .slice x.a x.m x.c] 27)) #[.int .i64 0, .slice none 0 0] 27
      unfold VB
      rw [v0_cells]
      simpa using this
    have HW := Lib.hid hW1; have HX := Lib.hid hX; have HY := Lib.hid hY; have HV := Lib.hid hx
    clear hv hx hp hW1 hX hY hlen hat
    unfold Vn.val
    go_enter Try.func27, Try.ntmps27
    go_upto_region 2 with fail
    generalize hWW : (((w.alloc (.cells #[.int .i64 v.x, .slice v.a v.m v.c] 27)).alloc (.cells #[.int .i64 x.x, .slice x.a x.m x.c] 27)).alloc (.cells #[.int .i64 0, .slice none 0 0] 27)) = W at HW HX HY ⊢
    clear hWW
    have p0 := HX.out.cell 0; have p1 := HX.out.cell 1
    have q0 := HY.out.cell 0; have q1 := HY.out.cell 1
    have g0 := HY.out.free 0; have g1 := HY.out.free 1
    simp [v0] at p0 p1 q0 q1
    go_wp2
    try simp only [Exit.inBlock, Exit.then]
    refine bodyPost_ret (results_cell_row rfl _ _ (w.heap.size + 1 + 1) _ #[.int .i64 x.x, .slice x.a x.m x.c] _ _ rfl (by have := (HY.out.set 0 (.int .i64 x.x)).set 1 (.slice x.a x.m x.c); simpa [Blk] using this) Try.underlying27 rfl (by kernel_rfl)) rfl ?_
    have hbb : Below w.heap.size w ((W.setCell ⟨w.heap.size + 1 + 1, 0, none⟩ (.int .i64 x.x)).setCell ⟨w.heap.size + 1 + 1, 1, none⟩ (.slice x.a x.m x.c)) := (HW.out.setCell (by simp; omega) _).setCell (by simp; omega) _
    exact ⟨x, rfl, rfl, (HV.out.below hbb).weak (fun b _ h => .inl h), hbb⟩
  | cons z p ih =>
    intro v x u B0 pa n c w hat hv hx hB0 hsz hp
    obtain ⟨q, y, rfl, hq, hy, hu⟩ := Tr.at_some hat
    have hcap := hp.cap; have hmost := hp.most
    have hlen : p.length + 1 = n := hp.len
    subst hlen
    obtain ⟨vx, va, m, vc, l⟩ := v
    have hput : Tr.put (Vn.tr ⟨vx, va, m, vc, l⟩) ((q : Int) :: p) x.tr = .mk vx (l.set q (Tr.put y p x.tr)) := by
      rw [Tr.put_cons, Int.toNat_natCast]
      show Tr.mk vx (l.modify q _) = _
      rw [Tr.modify_getElem (y := y) (by exact hy)]
    rw [hput]
    have hwd : Wd (Tr.mk vx l) := hsz
    have hszy : Wd y := (wd_mk.1 hwd).2 y (List.mem_of_getElem? hy)
    have hlm : l.length ≤ 1000 := (wd_mk.1 hwd).1
    have hW1 : Below w.heap.size w (((w.alloc (.cells #[.int .i64 vx, .slice va m vc] 27)).alloc (.cells #[.int .i64 x.x, .slice x.a x.m x.c] 27)).alloc (.cells #[.int .i64 0, .slice none 0 0] 27)) := (((Below.refl _ _).alloc (Nat.le_refl _) _).alloc (by simp) _).alloc (by simp; omega) _
    have hZ : Blk (((w.alloc (.cells #[.int .i64 vx, .slice va m vc] 27)).alloc (.cells #[.int .i64 x.x, .slice x.a x.m x.c] 27)).alloc (.cells #[.int .i64 0, .slice none 0 0] 27)) w.heap.size #[.int .i64 vx, .slice va m vc] 27 :=
      ((Blk.new w #[.int .i64 vx, .slice va m vc] 27).below ((Below.refl _ _).alloc (Nat.le_refl _) (.cells #[.int .i64 x.x, .slice x.a x.m x.c] 27))).below ((Below.refl _ _).alloc (Nat.le_refl _) _)
    have hX : VB (((w.alloc (.cells #[.int .i64 vx, .slice va m vc] 27)).alloc (.cells #[.int .i64 x.x, .slice x.a x.m x.c] 27)).alloc (.cells #[.int .i64 0, .slice none 0 0] 27)) (w.heap.size + 1) x := by
      have := (Blk.new (w.alloc (.cells #[.int .i64 vx, .slice va m vc] 27)) #[.int .i64 x.x, .slice x.a x.m x.c] 27).below ((Below.refl _ _).alloc (Nat.le_refl _) (.cells #[.int .i64 0, .slice none 0 0] 27))
      simpa using this
    have hY : VB (((w.alloc (.cells #[.int .i64 vx, .slice va m vc] 27)).alloc (.cells #[.int .i64 x.x, .slice x.a x.m x.c] 27)).alloc (.cells #[.int .i64 0, .slice none 0 0] 27)) (w.heap.size + 1 + 1) v0 := by
      have := Blk.new ((w.alloc (.cells #[.int .i64 vx, .slice va m vc] 27)).alloc (.cells #[.int .i64 x.x, .slice x.a x.m x.c] 27)) #[.int .i64 0, .slice none 0 0] 27
      unfold VB
      rw [v0_cells]
      simpa using this
    have hp1 := hp.below hW1
    have hv1 := hv.below hW1
    have hxr := hx.below hW1
    have hvl := hv1.rd
    have hvx64 : In64 vx := hv1.x64
    dsimp only at hvl
    have hcapx := hvl.cap; have hmostx := hvl.most
    have hlx := hvl.len
    have hqm : q < m := by rw [← hlx]; exact hq
    rcases hp.at' with h0 | ⟨b, off, rfl, hcell⟩
    · omega
    have hzw := hcell 0 (by omega)
    simp only [List.getD_cons_zero, Nat.add_zero] at hzw
    have hbw : b < w.heap.size := World.block_lt_of_cell? w _ hzw
    have hz := hzw
    rw [← hW1.cell (p := ⟨b, off, none⟩) hbw] at hz
    obtain ⟨b1, o1, x1, rfl, hb1, hx1, hc1⟩ := recs_at hvl hqm
    obtain ⟨v1, hv1e, hr1, c10, c11⟩ := VAs.out hc1
    have hyx : x1 = y := Option.some.inj (hx1.symm.trans hy)
    subst hyx
    obtain ⟨z1, aa1, am1, ac1, al1⟩ := v1
    dsimp only at c10 c11
    have hu1 : Tr.at' (Vn.tr ⟨z1, aa1, am1, ac1, al1⟩) p = some u := by rw [hv1e]; exact hu
    have hm1000 : m ≤ 1000 := by rw [← hlx]; exact hlm
    have HW := Lib.hid hW1; have HZ := Lib.hid hZ; have HX := Lib.hid hX; have HY := Lib.hid hY
    have HV := Lib.hid hv1; have HXR := Lib.hid hxr
    have HR1 := Lib.hid hr1
    have htl := tail_i64s hp1 1 (by omega)
    rw [Nat.add_sub_cancel] at htl
    have HTL := Lib.hid htl
    clear htl
    have HP1 := Lib.hid hp1
    have hszy' : Wd (Vn.tr ⟨z1, aa1, am1, ac1, al1⟩) := by rw [hv1e]; exact hszy
    have HCE := Lib.hid (show ∀ V : World, (Vn.Rs (· < B0) V ⟨z1, aa1, am1, ac1, al1⟩) → x.Rs (· < B0) V → B0 ≤ V.heap.size → I64s V (tailAddr' (some ⟨b, off, none⟩) c 1) p.length (c - 1) p → Calls Try.prog 27 #[.agg #[.int .i64 z1, .slice aa1 am1 ac1], .slice (tailAddr' (some ⟨b, off, none⟩) c 1) p.length (c - 1), .agg #[.int .i64 x.x, .slice x.a x.m x.c]] V (PP (Tr.put x1 p x.tr) B0 V) from
      fun V h1 h2 h3 h4 => by
        have := ih ⟨z1, aa1, am1, ac1, al1⟩ x u B0 _ _ _ V hu1 h1 h2 h3 hszy' h4
        rw [hv1e] at this
        exact this)
    have hs := fun W => slice_tail_i (some ⟨b, off, none⟩) (p.length + 1) c 1 1 rfl (by omega) hcap hmost (by simp) W
    have HY1 := Lib.hid hy; have HLX := Lib.hid hlx
    clear hzw hv hx hp hp1 hv1 hxr hW1 hX hY hZ hvl hcell hlx ih hat hy hu hc1 hr1 hu1 hv1e hx1 hq hszy hszy' hlm hsz hwd hput
    unfold Vn.val
    go_enter Try.func27, Try.ntmps27
    go_upto_region 3 with fail
    generalize hWW : (((w.alloc (.cells #[.int .i64 vx, .slice (some ⟨b1, o1, none⟩) m vc] 27)).alloc (.cells #[.int .i64 x.x, .slice x.a x.m x.c] 27)).alloc (.cells #[.int .i64 0, .slice none 0 0] 27)) = W at HW HZ HX HY HV HXR HR1 HTL HP1 hz c10 c11 ⊢
    have hWs : W.heap.size = w.heap.size + 3 := by rw [← hWW]; simp
    clear hWW
    have hWB : B0 ≤ W.heap.size := Nat.le_trans hB0 HW.out.size
    have HWS := Lib.hid hWs
    clear hWs
    have HC := Lib.hid (show ∀ V : World, Below W.heap.size W V → Calls Try.prog 27 #[.agg #[.int .i64 z1, .slice aa1 am1 ac1], .slice (tailAddr' (some ⟨b, off, none⟩) c 1) p.length (c - 1), .agg #[.int .i64 x.x, .slice x.a x.m x.c]] V (PX (Tr.put x1 p x.tr) B0 V) from
      fun V hV => (HCE.out V (HR1.out.below hV) (HXR.out.below hV) (Nat.le_trans hWB hV.size) (HTL.out.below hV)).mono (fun e w' h => h.out))
    have p1 := HZ.out.cell 1
    simp at p1
    have r0 := HX.out.cell 0; have r1 := HX.out.cell 1
    simp at r0 r1
    have hKeep : ∀ V : World, Below W.heap.size W V → V.cell? ⟨b, off, none⟩ = some (.int .i64 q) ∧ V.cell? ⟨w.heap.size, 1, none⟩ = some (.slice (some ⟨b1, o1, none⟩) m vc) ∧ V.cell? ⟨b1, o1 + q * 2, none⟩ = some (.int .i64 z1) ∧ V.cell? ⟨b1, o1 + q * 2 + 1, none⟩ = some (.slice aa1 am1 ac1) ∧ V.cell? ⟨w.heap.size + 1, 0, none⟩ = some (.int .i64 x.x) ∧ V.cell? ⟨w.heap.size + 1, 1, none⟩ = some (.slice x.a x.m x.c) := fun V hV =>
      ⟨by rw [hV.cell (World.block_lt_of_cell? W _ hz)]; exact hz, by rw [hV.cell (World.block_lt_of_cell? W _ p1)]; exact p1, by rw [hV.cell (World.block_lt_of_cell? W _ c10)]; exact c10, by rw [hV.cell (World.block_lt_of_cell? W _ c11)]; exact c11, by rw [hV.cell (World.block_lt_of_cell? W _ r0)]; exact r0, by rw [hV.cell (World.block_lt_of_cell? W _ r1)]; exact r1⟩
    have Kp := Lib.hid hKeep
    clear hKeep p1 c10 c11 r0 r1 hz HCE HR1 HXR HTL
    go_cut [7] from 12 to 22 (fun s7 wx => ∃ (gx : Nat) (r : Vn), s7 = .pointer (some ⟨gx, 0, none⟩) ∧ Hid (PRel W wx gx r B0 (Tr.put x1 p x.tr)))
    case first =>
     go_region_held_law (fun V => V.cell? ⟨b, off, none⟩ = some (.int .i64 q) ∧ V.cell? ⟨w.heap.size, 1, none⟩ = some (.slice (some ⟨b1, o1, none⟩) m vc) ∧ V.cell? ⟨b1, o1 + q * 2, none⟩ = some (.int .i64 z1) ∧ V.cell? ⟨b1, o1 + q * 2 + 1, none⟩ = some (.slice aa1 am1 ac1) ∧ V.cell? ⟨w.heap.size + 1, 0, none⟩ = some (.int .i64 x.x) ∧ V.cell? ⟨w.heap.size + 1, 1, none⟩ = some (.slice x.a x.m x.c))
      (first | exact Kp.out _ (Below.refl _ _) | exact Kp.out _ (Below.drew (Below.refl _ _)) | exact Kp.out _ HB3.out | exact Kp.out _ (HB3.out.alloc HB3.out.size _) | exact Kp.out _ (Below.drew ((Below.refl _ _).alloc (Nat.le_refl _) _)) | exact Kp.out _ ((HB3.out.setCell (Nat.le_refl _) _).setCell (Nat.le_refl _) _))
      (first
        | (go_at_call 27; (with_reducible refine (HC.out _ (Below.drew (Below.refl _ _))).mono ?_); rintro e w3 ⟨rx, ra, rm, rc, rl, rfl, ht3, hr3, hb3⟩; have HB3 : Hid (Below W.heap.size W w3) := Below.trans (Below.drew (Below.refl _ _)) hb3; have HX3 := Lib.hid (prel1 (B0 := B0) HB3.out hr3 ht3); clear hb3 hr3 ht3)
        | (go_at_call 27; (with_reducible refine (HC.out _ (Below.drew ((Below.refl _ _).alloc (Nat.le_refl _) _))).mono ?_); rintro e w3 ⟨rx, ra, rm, rc, rl, rfl, ht3, hr3, hb3⟩; have HB3 : Hid (Below W.heap.size W w3) := below_ad _ _ _ hb3; have HQ : Hid (Blk w3 W.heap.size #[.int .i64 0, .slice none 0 0] 27) := blk_ad _ _ _ hb3; have z0 := HQ.out.cell 0; have z1' := HQ.out.cell 1; have z3 := HQ.out.free 0; have z4 := HQ.out.free 1; have HX3 := Lib.hid (prel2 (B0 := B0) HB3.out HQ.out hWB (hr3.weak (fun b _ h => h.imp id (fun h => by simpa using h))) ht3); clear hb3 hr3 ht3))
     all_goals
      go_wp2_with fail
      go_meet
      exact ⟨_, _, rfl, HX3.out⟩
    case rest =>
      obtain ⟨gx, ⟨rx, ra, rm, rc, rl⟩, rfl, HX3⟩ := hcut
      have hWs := HWS.out
      have hBW := HX3.out.below
      have hgx := HX3.out.ge
      have hszc := hBW.size
      have hmem : Vn.Rs (fun b => Old B0 W.heap.size b ∧ b < wc.heap.size) wc ⟨rx, ra, rm, rc, rl⟩ := HX3.out.rs.weak (fun b h1 h2 => ⟨h2, h1⟩)
      obtain ⟨L, hLm, hLr, hLs⟩ := VSs.nodes ((HV.out.below hBW).rd)
      dsimp only at hLm hLs
      have hLr' : ∀ y ∈ L, y.Rs (fun b => Old B0 W.heap.size b ∧ b < wc.heap.size) wc := fun y hy => (hLr y hy).weak (fun b h1 h2 => ⟨.inl h2, h1⟩)
      have hLn : L.length = m := hLs.num
      obtain ⟨xq, hxq⟩ : ∃ xq, L[q]? = some xq := ⟨L[q]'(by omega), List.getElem?_eq_getElem _⟩
      have HMEM := Lib.hid hmem; have HLM := Lib.hid hLm; have HLR := Lib.hid hLr'; have HLS := Lib.hid hLs; have HXQ := Lib.hid hxq
      have hzc := HZ.out.below hBW
      have HZC := Lib.hid hzc
      have p1 := hzc.cell 1
      simp at p1
      have HTR := Lib.hid HX3.out.tr
      have HGB := Lib.hid HX3.out.blk
      have HYC := Lib.hid (HY.out.below hBW)
      have hpz : wc.cell? ⟨b, off, none⟩ = some (.int .i64 q) := (Kp.out wc hBW).1
      have HPZ := Lib.hid hpz
      have HBW := Lib.hid hBW
      clear hmem hLm hLr hLr' hLs hzc HX3 HX HV HP1 HC Kp hBW hpz hxq
      go_wp2_with fail
      refine (clone_any (some ⟨b1, o1, none⟩) m vc L wc HLS.out (by omega)).mono ?_
      rintro e w4 ⟨a4, c4, rfl, ho4, hb4⟩
      rcases ho4.cases with ⟨rfl, h0, _⟩ | ⟨g, rfl, hg, hgs, hmc, hcm⟩
      · omega
      have hcm' : c4 ≤ 9223372036854775807 := by unfold maxLen at hcm; omega
      have hz4 := HZC.out.below hb4
      have HO4 := Lib.hid ho4; have HB4 := Lib.hid hb4; have HZ4 := Lib.hid hz4
      have q1 := hz4.cell 1; have f1 := hz4.free 1
      simp at q1
      have hs4 := hb4.size
      clear ho4 hb4 hz4 p1
      go_upto_region 5 with fail
      have h5 : ∀ k, k ≠ w.heap.size → (w4.setCell ⟨w.heap.size, 1, none⟩ (.slice (some ⟨g, 0, none⟩) m c4)).heap[k]? = w4.heap[k]? := fun k hk => Below.heap_setCell _ ⟨w.heap.size, 1, none⟩ _ k hk
      have hz5 : Blk (w4.setCell ⟨w.heap.size, 1, none⟩ (.slice (some ⟨g, 0, none⟩) m c4)) w.heap.size #[.int .i64 vx, .slice (some ⟨g, 0, none⟩) m c4] 27 := by
        have := HZ4.out.set 1 (.slice (some ⟨g, 0, none⟩) m c4)
        simpa using this
      have hg5 : VB (w4.setCell ⟨w.heap.size, 1, none⟩ (.slice (some ⟨g, 0, none⟩) m c4)) gx ⟨rx, ra, rm, rc, rl⟩ := (HGB.out.below HB4.out).of (h5 gx (by omega))
      have hy5 : VB (w4.setCell ⟨w.heap.size, 1, none⟩ (.slice (some ⟨g, 0, none⟩) m c4)) (w.heap.size + 1 + 1) v0 := (HYC.out.below HB4.out).of (h5 _ (by omega))
      have ho5 : OwnV (w4.setCell ⟨w.heap.size, 1, none⟩ (.slice (some ⟨g, 0, none⟩) m c4)) wc.heap.size (some ⟨g, 0, none⟩) m c4 L := ⟨ownsRow_setCell_below HO4.out.own (a := ⟨w.heap.size, 1, none⟩) (by show w.heap.size < _; omega) _, HO4.out.num⟩
      have hpz5 : (w4.setCell ⟨w.heap.size, 1, none⟩ (.slice (some ⟨g, 0, none⟩) m c4)).cell? ⟨b, off, none⟩ = some (.int .i64 q) := by
        rw [World.cell?_of_block (w := w4) (a := ⟨b, off, none⟩) (h5 b (by omega)), HB4.out.cell (p := ⟨b, off, none⟩) (by show b < _; omega)]
        exact HPZ.out
      have hb5 : Below w.heap.size w (w4.setCell ⟨w.heap.size, 1, none⟩ (.slice (some ⟨g, 0, none⟩) m c4)) := ((HW.out.trans (HBW.out.mono HW.out.size)).trans (HB4.out.mono (by omega))).setCell (Nat.le_refl _) _
      have hk5 : ∀ k, k < wc.heap.size → k ≠ w.heap.size → (w4.setCell ⟨w.heap.size, 1, none⟩ (.slice (some ⟨g, 0, none⟩) m c4)).heap[k]? = wc.heap[k]? := fun k hk hne => (h5 k hne).trans (HB4.out.block k hk)
      have hsz5 : wc.heap.size ≤ (w4.setCell ⟨w.heap.size, 1, none⟩ (.slice (some ⟨g, 0, none⟩) m c4)).heap.size := by simpa using hs4
      generalize hW5 : w4.setCell ⟨w.heap.size, 1, none⟩ (.slice (some ⟨g, 0, none⟩) m c4) = w5 at hz5 hg5 hy5 ho5 hpz5 hb5 hk5 hsz5 ⊢
      have HZ5 := Lib.hid hz5; have HG5 := Lib.hid hg5; have HY5 := Lib.hid hy5; have HO5 := Lib.hid ho5; have HB5 := Lib.hid hb5; have HK5 := Lib.hid hk5
      have z1' := hz5.cell 1
      have g0 := hg5.cell 0; have g1 := hg5.cell 1
      simp at z1' g0 g1
      have hcx : ∀ j u, (Vn.cells xq)[j]? = some u → j < 2 → w5.cell? ⟨g, q * 2 + j, none⟩ = some u := fun j u hj hj2 => by
        rw [ho5.own.cellAt (q * 2 + j) (by omega)]
        exact flat_at cells_len L q j xq u HXQ.out hj
      have k0 := hcx 0 _ rfl (by omega); have k1 := hcx 1 _ rfl (by omega)
      simp only [Nat.add_zero] at k0
      have fr0 := ho5.own.frozenAt (q * 2); have fr1 := ho5.own.frozenAt (q * 2 + 1)
      clear hW5 hz5 hg5 hy5 ho5 hb5 hk5 h5 hcx q1 f1
      go_still_tail 7, (by kernel_rfl)
      change wpList _ _ _ _ _ (w5.drewN 1)
      go_upto_region 6 with fail
      have ho6 : OwnV (((w5.drewN 1).setCell ⟨g, q * 2, none⟩ (.int .i64 rx)).setCell ⟨g, q * 2 + 1, none⟩ (.slice ra rm rc)) wc.heap.size (some ⟨g, 0, none⟩) m c4 (L.set q ⟨rx, ra, rm, rc, rl⟩) := OwnV.stored (w := w5.drewN 1) (x := ⟨rx, ra, rm, rc, rl⟩) (OwnS.below HO5.out (below_drewN (Below.refl _ _) 1)) q
      have h6 : ∀ k, k ≠ g → (((w5.drewN 1).setCell ⟨g, q * 2, none⟩ (.int .i64 rx)).setCell ⟨g, q * 2 + 1, none⟩ (.slice ra rm rc)).heap[k]? = w5.heap[k]? := fun k hk =>
        (Below.heap_setCell _ ⟨g, q * 2 + 1, none⟩ _ k hk).trans (Below.heap_setCell _ ⟨g, q * 2, none⟩ _ k hk)
      have hz6 : Blk (((w5.drewN 1).setCell ⟨g, q * 2, none⟩ (.int .i64 rx)).setCell ⟨g, q * 2 + 1, none⟩ (.slice ra rm rc)) w.heap.size #[.int .i64 vx, .slice (some ⟨g, 0, none⟩) m c4] 27 := HZ5.out.of (h6 _ (by omega))
      have hy6 : VB (((w5.drewN 1).setCell ⟨g, q * 2, none⟩ (.int .i64 rx)).setCell ⟨g, q * 2 + 1, none⟩ (.slice ra rm rc)) (w.heap.size + 1 + 1) v0 := HY5.out.of (h6 _ (by omega))
      have hb6 : Below w.heap.size w (((w5.drewN 1).setCell ⟨g, q * 2, none⟩ (.int .i64 rx)).setCell ⟨g, q * 2 + 1, none⟩ (.slice ra rm rc)) := ((below_drewN HB5.out 1).setCell (by show _ ≤ g; omega) _).setCell (by show _ ≤ g; omega) _
      have hsz6 : wc.heap.size ≤ (((w5.drewN 1).setCell ⟨g, q * 2, none⟩ (.int .i64 rx)).setCell ⟨g, q * 2 + 1, none⟩ (.slice ra rm rc)).heap.size := by simpa using hsz5
      generalize hW6 : ((w5.drewN 1).setCell ⟨g, q * 2, none⟩ (.int .i64 rx)).setCell ⟨g, q * 2 + 1, none⟩ (.slice ra rm rc) = w6 at ho6 h6 hz6 hy6 hb6 hsz6 ⊢
      have HO6 := Lib.hid ho6; have H6 := Lib.hid h6; have HB6 := Lib.hid hb6; have HY6 := Lib.hid hy6
      have m0 := hz6.cell 0; have m1 := hz6.cell 1
      have n0 := hy6.cell 0; have n1 := hy6.cell 1
      have l0 := hy6.free 0; have l1 := hy6.free 1
      simp [v0] at m0 m1 n0 n1
      clear hW6 ho6 h6 hz6 hy6 hb6 k0 k1 fr0 fr1 z1' g0 g1 hpz5
      go_wp2
      try simp only [Exit.inBlock, Exit.then]
      refine bodyPost_ret (results_cell_row rfl _ _ (w.heap.size + 1 + 1) _ #[.int .i64 vx, .slice (some ⟨g, 0, none⟩) m c4] _ _ rfl (by have := (HY6.out.set 0 (.int .i64 vx)).set 1 (.slice (some ⟨g, 0, none⟩) m c4); simpa [Blk] using this) Try.underlying27 rfl (by kernel_rfl)) rfl ?_
      have hbb : Below (w.heap.size + 1 + 1) w6 ((w6.setCell ⟨w.heap.size + 1 + 1, 0, none⟩ (.int .i64 vx)).setCell ⟨w.heap.size + 1 + 1, 1, none⟩ (.slice (some ⟨g, 0, none⟩) m c4)) := ((Below.refl _ _).setCell (by simp) _).setCell (by simp) _
      have hkp : tr.Kp (fun b => Old B0 W.heap.size b ∧ b < wc.heap.size) wc ((w6.setCell ⟨w.heap.size + 1 + 1, 0, none⟩ (.int .i64 vx)).setCell ⟨w.heap.size + 1 + 1, 1, none⟩ (.slice (some ⟨g, 0, none⟩) m c4)) := by
        refine ⟨by simpa using hsz6, fun b hS _ => ?_⟩
        have hne : b ≠ w.heap.size ∧ b ≠ w.heap.size + 1 + 1 ∧ b ≠ g := by
          obtain ⟨h1, h2⟩ := hS
          rcases h1 with h1 | h1
          · exact ⟨by omega, by omega, by omega⟩
          · exact ⟨by omega, by omega, by omega⟩
        exact ((Below.heap_setCell _ ⟨w.heap.size + 1 + 1, 1, none⟩ _ b hne.2.1).trans (Below.heap_setCell _ ⟨w.heap.size + 1 + 1, 0, none⟩ _ b hne.2.1)).trans ((H6.out b hne.2.2).trans (HK5.out b hS.2 hne.1))
      refine ⟨⟨vx, some ⟨g, 0, none⟩, m, c4, (L.set q ⟨rx, ra, rm, rc, rl⟩).map Vn.tr⟩, rfl, ?_, ⟨?_, ?_, hvx64⟩, HB6.out.trans (Below.mono hbb (by omega))⟩
      · show Tr.mk vx _ = _
        rw [List.map_set, HLM.out, HTR.out]
      · have ho7 : OwnV ((w6.setCell ⟨w.heap.size + 1 + 1, 0, none⟩ (.int .i64 vx)).setCell ⟨w.heap.size + 1 + 1, 1, none⟩ (.slice (some ⟨g, 0, none⟩) m c4)) wc.heap.size (some ⟨g, 0, none⟩) m c4 (L.set q ⟨rx, ra, rm, rc, rl⟩) :=
          ⟨ownsRow_setCell_below (ownsRow_setCell_below HO6.out.own (a := ⟨w.heap.size + 1 + 1, 0, none⟩) (by show w.heap.size + 1 + 1 < _; omega) _) (a := ⟨w.heap.size + 1 + 1, 1, none⟩) (by show w.heap.size + 1 + 1 < _; omega) _, HO6.out.num⟩
        refine OwnV.reads ho7 (fun y hy => ?_)
        rcases List.mem_or_eq_of_mem_set hy with h | rfl
        · exact ((HLR.out y h).agree hkp).weak (fun b _ h => h.1.imp id (fun h => by omega))
        · exact (HMEM.out.agree hkp).weak (fun b _ h => h.1.imp id (fun h => by omega))
      · intro _ b off hb
        cases hb
        exact .inr (by omega)
end Go.Proofs.Ytpdicfekhghfeaa.va
