/-
  Layer 6: the document's Put.
-/
import Derived.Test.YtbpjaidfpacbfaaTrmBare
namespace Go.Proofs.Ytbpjaidfpacbfaa.te
open Go.ChangeShapes Go.WideShapes Go.ChangeAt Go.RowKit
open bs tr
set_option linter.unusedVariables false

set_option maxRecDepth 100000 in
set_option maxHeartbeats 4000000 in
theorem rset_any (p : List Int) : ∀ (v x : Vn) (u : VT) (B0 : Nat) (pa : Option Addr) (n c : Nat) (w : World), Tr.at' v.tr p = some u → v.Rs (· < B0) w → x.Rs (· < B0) w → B0 ≤ w.heap.size → v.tr.size ≤ 1000 → I64s w pa n c p → Calls Try.prog 26 #[v.val, .slice pa n c, x.val] w (PP (Tr.put v.tr p x.tr) B0 w) := by
  induction p with
  | nil =>
    intro v x u B0 pa n c w hat hv hx hB0 hsz hp
    have hlen := hp.len
    have hn : n = 0 := hlen.symm
    subst hn
    rw [Tr.put_nil]
    have hW1 : Below w.heap.size w (((w.alloc (.cells #[.int .i64 v.x.k, .int .i64 v.x.n, .string v.x.s, .slice v.a v.m v.c, .int .i64 v.x.f, .int .i64 v.x.t] 24)).alloc (.cells #[.int .i64 x.x.k, .int .i64 x.x.n, .string x.x.s, .slice x.a x.m x.c, .int .i64 x.x.f, .int .i64 x.x.t] 24)).alloc (.cells #[.int .i64 0, .int .i64 0, .string ⟨#[]⟩, .slice none 0 0, .int .i64 0, .int .i64 0] 24)) := (((Below.refl _ _).alloc (Nat.le_refl _) _).alloc (by simp) _).alloc (by simp; omega) _
    have hX : VB (((w.alloc (.cells #[.int .i64 v.x.k, .int .i64 v.x.n, .string v.x.s, .slice v.a v.m v.c, .int .i64 v.x.f, .int .i64 v.x.t] 24)).alloc (.cells #[.int .i64 x.x.k, .int .i64 x.x.n, .string x.x.s, .slice x.a x.m x.c, .int .i64 x.x.f, .int .i64 x.x.t] 24)).alloc (.cells #[.int .i64 0, .int .i64 0, .string ⟨#[]⟩, .slice none 0 0, .int .i64 0, .int .i64 0] 24)) (w.heap.size + 1) x := by
      have := (Blk.new (w.alloc (.cells #[.int .i64 v.x.k, .int .i64 v.x.n, .string v.x.s, .slice v.a v.m v.c, .int .i64 v.x.f, .int .i64 v.x.t] 24)) #[.int .i64 x.x.k, .int .i64 x.x.n, .string x.x.s, .slice x.a x.m x.c, .int .i64 x.x.f, .int .i64 x.x.t] 24).below ((Below.refl _ _).alloc (Nat.le_refl _) (.cells #[.int .i64 0, .int .i64 0, .string ⟨#[]⟩, .slice none 0 0, .int .i64 0, .int .i64 0] 24))
      simpa using this
    have hY : VB (((w.alloc (.cells #[.int .i64 v.x.k, .int .i64 v.x.n, .string v.x.s, .slice v.a v.m v.c, .int .i64 v.x.f, .int .i64 v.x.t] 24)).alloc (.cells #[.int .i64 x.x.k, .int .i64 x.x.n, .string x.x.s, .slice x.a x.m x.c, .int .i64 x.x.f, .int .i64 x.x.t] 24)).alloc (.cells #[.int .i64 0, .int .i64 0, .string ⟨#[]⟩, .slice none 0 0, .int .i64 0, .int .i64 0] 24)) (w.heap.size + 1 + 1) v0 := by
      have := Blk.new ((w.alloc (.cells #[.int .i64 v.x.k, .int .i64 v.x.n, .string v.x.s, .slice v.a v.m v.c, .int .i64 v.x.f, .int .i64 v.x.t] 24)).alloc (.cells #[.int .i64 x.x.k, .int .i64 x.x.n, .string x.x.s, .slice x.a x.m x.c, .int .i64 x.x.f, .int .i64 x.x.t] 24)) #[.int .i64 0, .int .i64 0, .string ⟨#[]⟩, .slice none 0 0, .int .i64 0, .int .i64 0] 24
      unfold VB
      rw [v0_cells]
      simpa using this
    have HW := Lib.hid hW1; have HX := Lib.hid hX; have HY := Lib.hid hY; have HV := Lib.hid hx
    clear hv hx hp hW1 hX hY hlen hat
    unfold Vn.val
    go_enter Try.func26, Try.ntmps26
    go_upto_region 2 with fail
    generalize hWW : (((w.alloc (.cells #[.int .i64 v.x.k, .int .i64 v.x.n, .string v.x.s, .slice v.a v.m v.c, .int .i64 v.x.f, .int .i64 v.x.t] 24)).alloc (.cells #[.int .i64 x.x.k, .int .i64 x.x.n, .string x.x.s, .slice x.a x.m x.c, .int .i64 x.x.f, .int .i64 x.x.t] 24)).alloc (.cells #[.int .i64 0, .int .i64 0, .string ⟨#[]⟩, .slice none 0 0, .int .i64 0, .int .i64 0] 24)) = W at HW HX HY ⊢
    clear hWW
    go_wp2_with (first | (refine wpList_load_T rfl _ rfl rfl HX.out ?_) | (refine wpList_store_T rfl _ _ rfl rfl HY.out x rfl ?_))
    intro w2 hv2 ho2
    go_wp2
    try simp only [Exit.inBlock, Exit.then]
    refine bodyPost_ret (results_cell_row rfl _ _ (w.heap.size + 1 + 1) _ _ _ _ rfl hv2 Try.underlying24 rfl (by kernel_rfl)) rfl ?_
    have hbb : Below w.heap.size w w2 := HW.out.trans (ho2.below (by omega))
    exact ⟨x, rfl, rfl, (HV.out.below hbb).weak (fun b _ h => .inl h), hbb⟩
  | cons z p ih =>
    intro v x u B0 pa n c w hat hv hx hB0 hsz hp
    obtain ⟨q, y, rfl, hq, hy, hu⟩ := Tr.at_some hat
    have hcap := hp.cap; have hmost := hp.most
    have hlen : p.length + 1 = n := hp.len
    subst hlen
    obtain ⟨vx, va, m, vc, l⟩ := v
    have hput : Tr.put (Vn.tr ⟨vx, va, m, vc, l⟩) ((q : Int) :: p) x.tr = .mk vx (l.set q (Tr.put y p x.tr)) := by
      rw [Tr.put_cons, Int.toNat_natCast]
      show Tr.mk vx (l.modify q _) = _
      rw [Tr.modify_getElem (y := y) (by exact hy)]
    rw [hput]
    have hszy : y.size ≤ 1000 := by
      have := Tr.size_le (x := vx) (l := l) (y := y) (List.mem_of_getElem? hy)
      have h2 : Tr.size (Tr.mk vx l) ≤ 1000 := hsz
      omega
    have hlm : l.length ≤ 1000 := by
      have := Tr.len_size (x := vx) (l := l)
      have h2 : Tr.size (Tr.mk vx l) ≤ 1000 := hsz
      omega
    have hW1 : Below w.heap.size w (((w.alloc (.cells #[.int .i64 vx.k, .int .i64 vx.n, .string vx.s, .slice va m vc, .int .i64 vx.f, .int .i64 vx.t] 24)).alloc (.cells #[.int .i64 x.x.k, .int .i64 x.x.n, .string x.x.s, .slice x.a x.m x.c, .int .i64 x.x.f, .int .i64 x.x.t] 24)).alloc (.cells #[.int .i64 0, .int .i64 0, .string ⟨#[]⟩, .slice none 0 0, .int .i64 0, .int .i64 0] 24)) := (((Below.refl _ _).alloc (Nat.le_refl _) _).alloc (by simp) _).alloc (by simp; omega) _
    have hZ : Blk (((w.alloc (.cells #[.int .i64 vx.k, .int .i64 vx.n, .string vx.s, .slice va m vc, .int .i64 vx.f, .int .i64 vx.t] 24)).alloc (.cells #[.int .i64 x.x.k, .int .i64 x.x.n, .string x.x.s, .slice x.a x.m x.c, .int .i64 x.x.f, .int .i64 x.x.t] 24)).alloc (.cells #[.int .i64 0, .int .i64 0, .string ⟨#[]⟩, .slice none 0 0, .int .i64 0, .int .i64 0] 24)) w.heap.size #[.int .i64 vx.k, .int .i64 vx.n, .string vx.s, .slice va m vc, .int .i64 vx.f, .int .i64 vx.t] 24 :=
      ((Blk.new w #[.int .i64 vx.k, .int .i64 vx.n, .string vx.s, .slice va m vc, .int .i64 vx.f, .int .i64 vx.t] 24).below ((Below.refl _ _).alloc (Nat.le_refl _) (.cells #[.int .i64 x.x.k, .int .i64 x.x.n, .string x.x.s, .slice x.a x.m x.c, .int .i64 x.x.f, .int .i64 x.x.t] 24))).below ((Below.refl _ _).alloc (Nat.le_refl _) _)
    have hX : VB (((w.alloc (.cells #[.int .i64 vx.k, .int .i64 vx.n, .string vx.s, .slice va m vc, .int .i64 vx.f, .int .i64 vx.t] 24)).alloc (.cells #[.int .i64 x.x.k, .int .i64 x.x.n, .string x.x.s, .slice x.a x.m x.c, .int .i64 x.x.f, .int .i64 x.x.t] 24)).alloc (.cells #[.int .i64 0, .int .i64 0, .string ⟨#[]⟩, .slice none 0 0, .int .i64 0, .int .i64 0] 24)) (w.heap.size + 1) x := by
      have := (Blk.new (w.alloc (.cells #[.int .i64 vx.k, .int .i64 vx.n, .string vx.s, .slice va m vc, .int .i64 vx.f, .int .i64 vx.t] 24)) #[.int .i64 x.x.k, .int .i64 x.x.n, .string x.x.s, .slice x.a x.m x.c, .int .i64 x.x.f, .int .i64 x.x.t] 24).below ((Below.refl _ _).alloc (Nat.le_refl _) (.cells #[.int .i64 0, .int .i64 0, .string ⟨#[]⟩, .slice none 0 0, .int .i64 0, .int .i64 0] 24))
      simpa using this
    have hY : VB (((w.alloc (.cells #[.int .i64 vx.k, .int .i64 vx.n, .string vx.s, .slice va m vc, .int .i64 vx.f, .int .i64 vx.t] 24)).alloc (.cells #[.int .i64 x.x.k, .int .i64 x.x.n, .string x.x.s, .slice x.a x.m x.c, .int .i64 x.x.f, .int .i64 x.x.t] 24)).alloc (.cells #[.int .i64 0, .int .i64 0, .string ⟨#[]⟩, .slice none 0 0, .int .i64 0, .int .i64 0] 24)) (w.heap.size + 1 + 1) v0 := by
      have := Blk.new ((w.alloc (.cells #[.int .i64 vx.k, .int .i64 vx.n, .string vx.s, .slice va m vc, .int .i64 vx.f, .int .i64 vx.t] 24)).alloc (.cells #[.int .i64 x.x.k, .int .i64 x.x.n, .string x.x.s, .slice x.a x.m x.c, .int .i64 x.x.f, .int .i64 x.x.t] 24)) #[.int .i64 0, .int .i64 0, .string ⟨#[]⟩, .slice none 0 0, .int .i64 0, .int .i64 0] 24
      unfold VB
      rw [v0_cells]
      simpa using this
    have hp1 := hp.below hW1
    have hv1 := hv.below hW1
    have hxr := hx.below hW1
    have hvl := hv1.rd
    have hvx64 : In64 vx := hv1.x64
    dsimp only at hvl
    have hcapx := hvl.cap; have hmostx := hvl.most
    have hlx := hvl.len
    have hqm : q < m := by rw [← hlx]; exact hq
    rcases hp.at' with h0 | ⟨b, off, rfl, hcell⟩
    · omega
    have hzw := hcell 0 (by omega)
    simp only [List.getD_cons_zero, Nat.add_zero] at hzw
    have hbw : b < w.heap.size := World.block_lt_of_cell? w _ hzw
    have hz := hzw
    rw [← hW1.cell (p := ⟨b, off, none⟩) hbw] at hz
    have hm1000 : m ≤ 1000 := by rw [← hlx]; exact hlm
    have HW := Lib.hid hW1; have HZ := Lib.hid hZ; have HX := Lib.hid hX; have HY := Lib.hid hY
    have HV := Lib.hid hv1; have HXR := Lib.hid hxr
    have htl := tail_i64s hp1 1 (by omega)
    rw [Nat.add_sub_cancel] at htl
    have HTL := Lib.hid htl
    clear htl
    have HCE := Lib.hid (show ∀ (v1 : Vn) (V : World), v1.tr = y → v1.Rs (· < B0) V → x.Rs (· < B0) V → B0 ≤ V.heap.size → I64s V (tailAddr' (some ⟨b, off, none⟩) c 1) p.length (c - 1) p → Calls Try.prog 26 #[.agg #[.int .i64 v1.x.k, .int .i64 v1.x.n, .string v1.x.s, .slice v1.a v1.m v1.c, .int .i64 v1.x.f, .int .i64 v1.x.t], .slice (tailAddr' (some ⟨b, off, none⟩) c 1) p.length (c - 1), .agg #[.int .i64 x.x.k, .int .i64 x.x.n, .string x.x.s, .slice x.a x.m x.c, .int .i64 x.x.f, .int .i64 x.x.t]] V (PXe (Tr.put y p x.tr) B0 V) from
      fun v1 V h0 h1 h2 h3 h4 => by
        have := ih v1 x u B0 _ _ _ V (by rw [h0]; exact hu) h1 h2 h3 (by rw [h0]; exact hszy) h4
        rw [h0] at this
        exact this)
    have hs := fun W => slice_tail_i (some ⟨b, off, none⟩) (p.length + 1) c 1 1 rfl (by omega) hcap hmost (by simp) W
    have HY1 := Lib.hid hy; have HLX := Lib.hid hlx
    clear hzw hv hx hp hp1 hv1 hxr hW1 hX hY hZ hvl hcell hlx ih hat hy hu hq hszy hlm hsz hput
    unfold Vn.val
    go_enter Try.func26, Try.ntmps26
    go_upto_region 3 with fail
    generalize hWW : (((w.alloc (.cells #[.int .i64 vx.k, .int .i64 vx.n, .string vx.s, .slice va m vc, .int .i64 vx.f, .int .i64 vx.t] 24)).alloc (.cells #[.int .i64 x.x.k, .int .i64 x.x.n, .string x.x.s, .slice x.a x.m x.c, .int .i64 x.x.f, .int .i64 x.x.t] 24)).alloc (.cells #[.int .i64 0, .int .i64 0, .string ⟨#[]⟩, .slice none 0 0, .int .i64 0, .int .i64 0] 24)) = W at HW HZ HX HY HV HXR HTL hz ⊢
    have hWs : W.heap.size = w.heap.size + 3 := by rw [← hWW]; simp
    clear hWW
    have hWB : B0 ≤ W.heap.size := Nat.le_trans hB0 HW.out.size
    have HWS := Lib.hid hWs
    have HF0 : Hid (Frst B0 W.heap.size (W.alloc (.cells #[] 24)) W.heap.size (some ⟨W.heap.size, 0, none⟩) 0 0 []) := ⟨OwnS.made0 W W.heap.size 24 (Nat.le_refl _), fun x hx => by cases hx⟩
    have HB0 : Hid (Below W.heap.size W (W.alloc (.cells #[] 24))) := (Below.refl _ _).alloc (Nat.le_refl _) _
    have HZC := Lib.hid hz
    clear hWs hz
    go_wp2_with fail
    go_loopw [7, 8] (fun lo i wr => ∃ (k : Nat) (a : Option Addr) (c' : Nat) (L : List Vn), k ≤ m ∧ i = .int .i64 k ∧ lo = .slice a k c' ∧ Hid (Frst B0 W.heap.size wr W.heap.size a k c' L) ∧ Hid (Below W.heap.size W wr) ∧ Hid (L.map Vn.tr = (l.set q (Tr.put y p x.tr)).take k)) (fun _ i _ => m - (intOf i).toNat)
    case atStart => exact ⟨0, _, 0, [], by omega, rfl, rfl, HF0, HB0, Lib.hid (by simp)⟩
    case round =>
      obtain ⟨k, a, c', L, hk2, rfl, rfl, HF, HB, HL⟩ := hrel
      have hzb := HZ.out.below HB.out
      have p0 := hzb.cell 0; have p1 := hzb.cell 3; have p2 := hzb.cell 1; have p3 := hzb.cell 2; have p4 := hzb.cell 4; have p5 := hzb.cell 5
      simp at p0 p1 p2 p3 p4 p5
      have hz : wr.cell? ⟨b, off, none⟩ = some (.int .i64 q) := by rw [HB.out.cell (p := ⟨b, off, none⟩) (by show b < _; have := HW.out.size; omega)]; exact HZC.out
      have hsB := HB.out.size
      by_cases hlt : k < m
      · obtain ⟨b1, o1, x1, rfl, hb1, hx1, hc1⟩ := recs_at HV.out.rd hlt
        obtain ⟨⟨z1, aa1, am1, ac1, al1⟩, hv1e, hr1, e10, e11, e12, e13, e14, e15⟩ := VAs.out hc1
        dsimp only at e10 e11 e12 e13 e14 e15
        have HR1 := Lib.hid hr1; have HX1 := Lib.hid hx1; have HV1E := Lib.hid hv1e
        have hrw : wr.drew.heap.size = wr.heap.size := rfl
        clear hr1 hx1 hc1 hv1e
        by_cases hkq : k = q
        · subst hkq
          have hyx : x1 = y := Option.some.inj (HX1.out.symm.trans HY1.out)
          have hv2 : Vn.tr ⟨z1, aa1, am1, ac1, al1⟩ = y := HV1E.out.trans hyx
          have hC : Calls Try.prog 26 #[.agg #[.int .i64 z1.k, .int .i64 z1.n, .string z1.s, .slice aa1 am1 ac1, .int .i64 z1.f, .int .i64 z1.t], .slice (tailAddr' (some ⟨b, off, none⟩) c 1) p.length (c - 1), .agg #[.int .i64 x.x.k, .int .i64 x.x.n, .string x.x.s, .slice x.a x.m x.c, .int .i64 x.x.f, .int .i64 x.x.t]] wr.drew (PXe (Tr.put y p x.tr) B0 wr.drew) :=
            HCE.out ⟨z1, aa1, am1, ac1, al1⟩ wr.drew hv2 (HR1.out.below (Below.drew HB.out)) (HXR.out.below (Below.drew HB.out)) (by show B0 ≤ wr.heap.size; omega) (HTL.out.below (Below.drew HB.out))
          have HC := Lib.hid hC
          have r0 := HX.out.cell 0; have r1 := HX.out.cell 3; have r2 := HX.out.cell 1; have r3 := HX.out.cell 2; have r4 := HX.out.cell 4; have r5 := HX.out.cell 5
          have p1W := HZ.out.cell 3
          simp at r0 r1 r2 r3 r4 r5 p1W
          have hKeep : ∀ V : World, Below W.heap.size W V → V.cell? ⟨b, off, none⟩ = some (.int .i64 k) ∧ V.cell? ⟨w.heap.size, 3, none⟩ = some (.slice (some ⟨b1, o1, none⟩) m vc) ∧ V.cell? ⟨b1, o1 + k * 6, none⟩ = some (.int .i64 z1.k) ∧ V.cell? ⟨b1, o1 + k * 6 + 3, none⟩ = some (.slice aa1 am1 ac1) ∧ V.cell? ⟨b1, o1 + k * 6 + 1, none⟩ = some (.int .i64 z1.n) ∧ V.cell? ⟨b1, o1 + k * 6 + 2, none⟩ = some (.string z1.s) ∧ V.cell? ⟨b1, o1 + k * 6 + 4, none⟩ = some (.int .i64 z1.f) ∧ V.cell? ⟨b1, o1 + k * 6 + 5, none⟩ = some (.int .i64 z1.t) ∧ V.cell? ⟨w.heap.size + 1, 0, none⟩ = some (.int .i64 x.x.k) ∧ V.cell? ⟨w.heap.size + 1, 3, none⟩ = some (.slice x.a x.m x.c) ∧ V.cell? ⟨w.heap.size + 1, 1, none⟩ = some (.int .i64 x.x.n) ∧ V.cell? ⟨w.heap.size + 1, 2, none⟩ = some (.string x.x.s) ∧ V.cell? ⟨w.heap.size + 1, 4, none⟩ = some (.int .i64 x.x.f) ∧ V.cell? ⟨w.heap.size + 1, 5, none⟩ = some (.int .i64 x.x.t) := fun V hV =>
            ⟨by rw [hV.cell (World.block_lt_of_cell? W _ HZC.out)]; exact HZC.out, by rw [hV.cell (World.block_lt_of_cell? W _ p1W)]; exact p1W, by rw [hV.cell (World.block_lt_of_cell? W _ e10)]; exact e10, by rw [hV.cell (World.block_lt_of_cell? W _ e11)]; exact e11, by rw [hV.cell (World.block_lt_of_cell? W _ e12)]; exact e12, by rw [hV.cell (World.block_lt_of_cell? W _ e13)]; exact e13, by rw [hV.cell (World.block_lt_of_cell? W _ e14)]; exact e14, by rw [hV.cell (World.block_lt_of_cell? W _ e15)]; exact e15, by rw [hV.cell (World.block_lt_of_cell? W _ r0)]; exact r0, by rw [hV.cell (World.block_lt_of_cell? W _ r1)]; exact r1, by rw [hV.cell (World.block_lt_of_cell? W _ r2)]; exact r2, by rw [hV.cell (World.block_lt_of_cell? W _ r3)]; exact r3, by rw [hV.cell (World.block_lt_of_cell? W _ r4)]; exact r4, by rw [hV.cell (World.block_lt_of_cell? W _ r5)]; exact r5⟩
          have Kp := Lib.hid hKeep
          have HTS := Lib.hid (take_set_eq l k (Tr.put y p x.tr) (by rw [HLX.out]; exact hlt))
          clear hKeep hC r0 r1 r2 r3 r4 r5 p1W e10 e11 e12 e13 e14 e15 hv2 hyx hzb
          go_wp2_with fail
          go_region_held_law (fun V => V.cell? ⟨b, off, none⟩ = some (.int .i64 k) ∧ V.cell? ⟨w.heap.size, 3, none⟩ = some (.slice (some ⟨b1, o1, none⟩) m vc) ∧ V.cell? ⟨b1, o1 + k * 6, none⟩ = some (.int .i64 z1.k) ∧ V.cell? ⟨b1, o1 + k * 6 + 3, none⟩ = some (.slice aa1 am1 ac1) ∧ V.cell? ⟨b1, o1 + k * 6 + 1, none⟩ = some (.int .i64 z1.n) ∧ V.cell? ⟨b1, o1 + k * 6 + 2, none⟩ = some (.string z1.s) ∧ V.cell? ⟨b1, o1 + k * 6 + 4, none⟩ = some (.int .i64 z1.f) ∧ V.cell? ⟨b1, o1 + k * 6 + 5, none⟩ = some (.int .i64 z1.t) ∧ V.cell? ⟨w.heap.size + 1, 0, none⟩ = some (.int .i64 x.x.k) ∧ V.cell? ⟨w.heap.size + 1, 3, none⟩ = some (.slice x.a x.m x.c) ∧ V.cell? ⟨w.heap.size + 1, 1, none⟩ = some (.int .i64 x.x.n) ∧ V.cell? ⟨w.heap.size + 1, 2, none⟩ = some (.string x.x.s) ∧ V.cell? ⟨w.heap.size + 1, 4, none⟩ = some (.int .i64 x.x.f) ∧ V.cell? ⟨w.heap.size + 1, 5, none⟩ = some (.int .i64 x.x.t))
            (with_reducible first | exact Kp.out _ HB.out | exact Kp.out _ (Below.drew HB.out) | exact Kp.out _ HB3.out | exact Kp.out _ (HB3.out.alloc HB3.out.size _) | exact Kp.out _ HB4.out)
            (first
              | (go_at_call 26; (with_reducible refine HC.out.mono ?_); rintro e w3 ⟨r, rfl, ht3, hr3, hb3⟩; have HB3 : Hid (Below W.heap.size W w3) := (Below.drew HB.out).trans (hb3.mono hsB); have HF3 := Lib.hid ((HF.out.below (Below.drew (Below.refl _ _))).below hb3); have HR3 := Lib.hid (Vn.Rs.apart (w := wr) (H := W.heap.size) HF.out.own hWB hsB hr3); have HT3 := Lib.hid ht3; clear ht3 hr3 hb3)
              | (refine step_append_v (by rfl) (.tmp 26) (.tmp 36) (by rfl) W.heap.size (by rfl) (HF3.out.below ((Below.refl _ _).alloc (Nat.le_refl _) _)) (by rfl) r (HR3.out.below ((Below.refl _ _).alloc (Nat.le_refl _) _)) (src_new _ (Vn.cells r) 24) (by omega) (HB3.out.alloc HB3.out.size _).size ?_; intro a4 c4 w4 hf4 hb4 hg4; have HB4 : Hid (Below W.heap.size W w4) := (HB3.out.alloc HB3.out.size _).trans hb4; have HF4 := Lib.hid hf4; clear hf4 hb4))
          go_wp2
          go_roundw
          case rel => exact ⟨k + 1, a4, c4, _, by omega, by go_num, rfl, HF4, HB4, Lib.hid (by rw [List.map_append, HL.out, HTS.out, ← HT3.out]; rfl)⟩
          case measure => simp [intOf]; omega
        · have c10 : wr.cell? ⟨b1, o1 + k * 6, none⟩ = some (.int .i64 z1.k) := by rw [HB.out.cell (p := ⟨b1, o1 + k * 6, none⟩) hb1]; exact e10
          have c11 : wr.cell? ⟨b1, o1 + k * 6 + 3, none⟩ = some (.slice aa1 am1 ac1) := by rw [HB.out.cell (p := ⟨b1, o1 + k * 6 + 3, none⟩) hb1]; exact e11
          have c12 : wr.cell? ⟨b1, o1 + k * 6 + 1, none⟩ = some (.int .i64 z1.n) := by rw [HB.out.cell (p := ⟨b1, o1 + k * 6 + 1, none⟩) hb1]; exact e12
          have c13 : wr.cell? ⟨b1, o1 + k * 6 + 2, none⟩ = some (.string z1.s) := by rw [HB.out.cell (p := ⟨b1, o1 + k * 6 + 2, none⟩) hb1]; exact e13
          have c14 : wr.cell? ⟨b1, o1 + k * 6 + 4, none⟩ = some (.int .i64 z1.f) := by rw [HB.out.cell (p := ⟨b1, o1 + k * 6 + 4, none⟩) hb1]; exact e14
          have c15 : wr.cell? ⟨b1, o1 + k * 6 + 5, none⟩ = some (.int .i64 z1.t) := by rw [HB.out.cell (p := ⟨b1, o1 + k * 6 + 5, none⟩) hb1]; exact e15
          have HTS := Lib.hid (take_set_lt l q k (Tr.put y p x.tr) x1 HX1.out hkq)
          have hkq' : ¬ (k : Int) = (q : Int) := by omega
          have HR2 := Lib.hid (Vn.Rs.apart' (H := W.heap.size) HF.out.own hWB (HR1.out.below HB.out))
          clear e10 e11 e12 e13 e14 e15 hzb
          go_wp2_with (at_builtin; refine wpList_append_v rfl _ _ rfl W.heap.size rfl (HF.out.below ((Below.refl _ _).alloc (Nat.le_refl _) _)) rfl ⟨z1, aa1, am1, ac1, al1⟩ (HR2.out.below ((Below.refl _ _).alloc (Nat.le_refl _) _)) (src_new _ (Vn.cells ⟨z1, aa1, am1, ac1, al1⟩) 24) (by omega) (HB.out.alloc hsB _).size ?_)
          intro a4 c4 w4 hf4 hb4 hg4
          have HB4 : Hid (Below W.heap.size W w4) := (HB.out.alloc hsB _).trans hb4
          have HF4 := Lib.hid hf4
          clear hf4 hb4
          go_wp2
          go_roundw
          case rel => exact ⟨k + 1, a4, c4, _, by omega, by go_num, rfl, HF4, HB4, Lib.hid (by rw [List.map_append, HL.out, HTS.out, ← HV1E.out]; rfl)⟩
          case measure => simp [intOf]; omega
      · have hkm : k = m := by omega
        subst hkm
        have HZr := Lib.hid (HZ.out.below HB.out)
        have HYB := Lib.hid (HY.out.below HB.out)
        have m0 := HZr.out.cell 0; have m1 := HZr.out.cell 1; have m2 := HZr.out.cell 2; have m4 := HZr.out.cell 4; have m5 := HZr.out.cell 5
        simp at m0 m1 m2 m4 m5
        clear hzb
        go_wp2_with (refine wpList_store_T rfl _ _ rfl rfl HYB.out ⟨vx, a, k, c', []⟩ rfl ?_)
        intro w7 hv7 hon7
        go_wp2
        try simp only [Exit.inBlock, Exit.then]
        have hWs := HWS.out
        refine bodyPost_ret (results_cell_row rfl _ _ (w.heap.size + 1 + 1) _ _ _ _ rfl hv7 Try.underlying24 rfl (by kernel_rfl)) rfl ?_
        have hsb : SB (Old B0 W.heap.size) a k := fun _ b off ha => .inr (HF.out.own.blockLt (by rw [ha]; rfl)).1
        refine ⟨⟨vx, a, k, c', L.map Vn.tr⟩, rfl, ?_, (Vn.Rs.agree (S := Old B0 W.heap.size) (w := wr) ⟨HF.out.reads, hsb, hvx64⟩ (hon7.kp (fun b hS => by rcases hS with h | h <;> omega))).weak (fun b _ h => h.imp id (fun h => by omega)), (HW.out.trans (HB.out.mono HW.out.size)).trans (hon7.below (by omega))⟩
        show Tr.mk vx _ = _
        rw [HL.out, List.take_of_length_le (by rw [List.length_set, HLX.out]; exact Nat.le_refl _)]
end Go.Proofs.Ytbpjaidfpacbfaa.te
