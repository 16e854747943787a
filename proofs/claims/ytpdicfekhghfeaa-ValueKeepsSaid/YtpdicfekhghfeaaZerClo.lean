/-
  Layer 19: the closure of the program's Zero.
-/
import Derived.Test.YtpdicfekhghfeaaZerLoop
import Derived.Deep.RegionHeldLaw
namespace Go.Proofs.Ytpdicfekhghfeaa.zf
open Go.ChangeShapes Go.WideShapes Go.ChangeAt Go.RowKit
open bs tr te ty
open va (Frst OwnV)
set_option linter.unusedVariables false

def cloV (bm bz : Nat) : Value := .func (.func 21) #[] #[.pointer (some ⟨bm, 0, none⟩), .pointer (some ⟨bz, 0, none⟩)]
def CloP (m : te.Vn) (bm bz f : Nat) : Prop := ∀ (a : te.Vn) (w : World), a.Rd w → m.Rd w → VB w bm m → w.cell? ⟨bz, 0, none⟩ = some (cloV bm bz) → Ok m.l a.tr → Dp m.l f a.tr →
  Calls Try.prog 21 #[a.val, .pointer (some ⟨bm, 0, none⟩), .pointer (some ⟨bz, 0, none⟩)] w (ZPost (zr m.l f a.tr) w)

set_option maxRecDepth 100000 in
set_option maxHeartbeats 4000000 in
theorem clo_step (m : te.Vn) (hM : ∀ d ∈ m.l, d.kids.length ≤ 1000) (bm bz f : Nat) (ih : CloP m bm bz f) : CloP m bm bz (f + 1) := by
  intro a w ha hm hbm hbz hok hdp
  have hzlt : bz < w.heap.size := World.block_lt_of_cell? w ⟨bz, 0, none⟩ hbz
  have hmlt : bm < w.heap.size := hbm.lt
  have hW : Below w.heap.size w (((w.alloc (.cells #[.int .i64 a.x.k, .int .i64 a.x.n, .string a.x.s, .slice a.a a.m a.c, .int .i64 a.x.f, .int .i64 a.x.t] 24)).alloc (.cells #[.int .i64 0, .slice none 0 0] 27)).alloc (.cells #[.int .i64 0, .slice none 0 0] 27)) := (((Below.refl _ _).alloc (Nat.le_refl _) _).alloc (by simp only [te.size_alloc]; omega) _).alloc (by simp only [te.size_alloc]; omega) _
  have hX : VB (((w.alloc (.cells #[.int .i64 a.x.k, .int .i64 a.x.n, .string a.x.s, .slice a.a a.m a.c, .int .i64 a.x.f, .int .i64 a.x.t] 24)).alloc (.cells #[.int .i64 0, .slice none 0 0] 27)).alloc (.cells #[.int .i64 0, .slice none 0 0] 27)) w.heap.size a := ((vb_new w a).below (below_alloc _ _)).below (below_alloc _ _)
  have hY : Blk (((w.alloc (.cells #[.int .i64 a.x.k, .int .i64 a.x.n, .string a.x.s, .slice a.a a.m a.c, .int .i64 a.x.f, .int .i64 a.x.t] 24)).alloc (.cells #[.int .i64 0, .slice none 0 0] 27)).alloc (.cells #[.int .i64 0, .slice none 0 0] 27)) (w.heap.size + 1) #[.int .i64 0, .slice none 0 0] 27 := by
    have := (Blk.new (w.alloc (.cells #[.int .i64 a.x.k, .int .i64 a.x.n, .string a.x.s, .slice a.a a.m a.c, .int .i64 a.x.f, .int .i64 a.x.t] 24)) #[.int .i64 0, .slice none 0 0] 27).below (below_alloc _ (.cells #[.int .i64 0, .slice none 0 0] 27))
    rwa [te.size_alloc] at this
  have hZ : Blk (((w.alloc (.cells #[.int .i64 a.x.k, .int .i64 a.x.n, .string a.x.s, .slice a.a a.m a.c, .int .i64 a.x.f, .int .i64 a.x.t] 24)).alloc (.cells #[.int .i64 0, .slice none 0 0] 27)).alloc (.cells #[.int .i64 0, .slice none 0 0] 27)) (w.heap.size + 1 + 1) #[.int .i64 0, .slice none 0 0] 27 := by
    have := Blk.new ((w.alloc (.cells #[.int .i64 a.x.k, .int .i64 a.x.n, .string a.x.s, .slice a.a a.m a.c, .int .i64 a.x.f, .int .i64 a.x.t] 24)).alloc (.cells #[.int .i64 0, .slice none 0 0] 27)) #[.int .i64 0, .slice none 0 0] 27
    rwa [te.size_alloc, te.size_alloc] at this
  have hws : (((w.alloc (.cells #[.int .i64 a.x.k, .int .i64 a.x.n, .string a.x.s, .slice a.a a.m a.c, .int .i64 a.x.f, .int .i64 a.x.t] 24)).alloc (.cells #[.int .i64 0, .slice none 0 0] 27)).alloc (.cells #[.int .i64 0, .slice none 0 0] 27)).heap.size = w.heap.size + 3 := by simp only [te.size_alloc]
  have HW := Lib.hid hW; have HX := Lib.hid hX; have HY := Lib.hid hY; have HZ := Lib.hid hZ; have HWS := Lib.hid hws
  have HV := Lib.hid ha; have HMR := Lib.hid hm; have HBM := Lib.hid hbm; have HBZ := Lib.hid hbz; have HBMW := Lib.hid (hbm.below hW)
  have hg := hok.gd
  have HG := Lib.hid hg; have HOK := Lib.hid hok; have HDP := Lib.hid hdp; have HIH := Lib.hid ih
  have hlen := pts_len' hg hM
  obtain ⟨n, hn⟩ : ∃ n, (pts m.l a.tr).length = n := ⟨_, rfl⟩
  rw [hn] at hlen
  have HN := Lib.hid hn
  have hzr : zr m.l (f + 1) a.tr = .mk 0 ((pts m.l a.tr).map (zr m.l f)) := rfl
  have HZR := Lib.hid hzr
  clear hW hX hY hZ hws ha hm hbm hbz hok hdp ih hg hn hzr
  unfold te.Vn.val
  go_enter Try.func21, Try.ntmps21
  go_upto_region 2 with fail
  generalize hWW : (((w.alloc (.cells #[.int .i64 a.x.k, .int .i64 a.x.n, .string a.x.s, .slice a.a a.m a.c, .int .i64 a.x.f, .int .i64 a.x.t] 24)).alloc (.cells #[.int .i64 0, .slice none 0 0] 27)).alloc (.cells #[.int .i64 0, .slice none 0 0] 27)) = W at HW HX HY HZ HWS HBMW ⊢
  clear hWW
  go_wp2_with (first | (refine wpList_load_T rfl _ rfl rfl HBMW.out ?_) | (refine wpList_load_T rfl _ rfl rfl HX.out ?_))
  refine (parts_any m a W (HMR.out.below HW.out) (HV.out.below HW.out) HG.out).mono ?_
  rintro e w2 ⟨rfl, hb2⟩
  rw [HN.out]
  have HB2 := Lib.hid (HW.out.trans (hb2.mono HW.out.size)); have HX2 := Lib.hid (HX.out.below hb2); have HY2 := Lib.hid (HY.out.below hb2)
  have hs2 : w.heap.size + 3 ≤ w2.heap.size := by have h1 := hb2.size; have h2 := HWS.out; omega
  have HL2 := Lib.hid (LZ.start (B := w.heap.size + 3) (HZ.out.below hb2))
  clear hb2 HX HY HZ HBMW
  go_wp2_with fail
  go_loopw [10] (fun i wr => ∃ (k : Nat) (b : Option Addr) (c' : Nat) (L : List va.Vn), k ≤ n ∧ i = .int .i64 k ∧ Hid (Below w.heap.size w wr) ∧ Hid (VB wr w.heap.size a) ∧ Hid (Blk wr (w.heap.size + 1) #[.int .i64 0, .slice none 0 0] 27) ∧ w.heap.size + 3 ≤ wr.heap.size ∧ Hid (LZ (w.heap.size + 3) (w.heap.size + 1 + 1) wr k b c' L) ∧ Hid (L.map va.Vn.tr = ((pts m.l a.tr).take k).map (zr m.l f))) (fun i _ => n - (intOf i).toNat)
  case atStart => exact ⟨0, none, 0, [], by omega, rfl, HB2, HX2, HY2, hs2, HL2, Lib.hid rfl⟩
  case round =>
    obtain ⟨k, b, c', L, hk, rfl, HBr, HXr, HYr, hwr3, HLr, HT⟩ := hrel
    clear HB2 HX2 HY2 hs2 HL2
    by_cases hkn : k < n
    · have hnx : ∃ t, (pts m.l a.tr)[k]? = some t := ⟨_, List.getElem?_eq_getElem (by have := HN.out; omega)⟩
      obtain ⟨t, ht⟩ := hnx
      have HTK := Lib.hid ht
      have htm := List.mem_of_getElem? ht
      have hdt : Dp m.l f t := HDP.out t htm
      have hot : Ok m.l t := HOK.out.pts t htm
      have hkq : ∀ V, Below (w.heap.size + 1) wr V → V.cell? ⟨bz, 0, none⟩ = some (.func (.func 21) #[] #[.pointer (some ⟨bm, 0, none⟩), .pointer (some ⟨bz, 0, none⟩)]) ∧ V.cell? ⟨bm, 0, none⟩ = some (.int .i64 m.x.k) ∧ V.cell? ⟨bm, 3, none⟩ = some (.slice m.a m.m m.c) ∧ V.cell? ⟨bm, 1, none⟩ = some (.int .i64 m.x.n) ∧ V.cell? ⟨bm, 2, none⟩ = some (.string m.x.s) ∧ V.cell? ⟨bm, 4, none⟩ = some (.int .i64 m.x.f) ∧ V.cell? ⟨bm, 5, none⟩ = some (.int .i64 m.x.t) ∧ V.cell? ⟨w.heap.size, 0, none⟩ = some (.int .i64 a.x.k) ∧ V.cell? ⟨w.heap.size, 3, none⟩ = some (.slice a.a a.m a.c) ∧ V.cell? ⟨w.heap.size, 1, none⟩ = some (.int .i64 a.x.n) ∧ V.cell? ⟨w.heap.size, 2, none⟩ = some (.string a.x.s) ∧ V.cell? ⟨w.heap.size, 4, none⟩ = some (.int .i64 a.x.f) ∧ V.cell? ⟨w.heap.size, 5, none⟩ = some (.int .i64 a.x.t) := fun V hV => by
        have hm1 := (HBM.out.below HBr.out)
        have hx1 := HXr.out
        have hm2 : VB V bm m := hm1.of (hV.block bm (by omega))
        have hx2 : VB V w.heap.size a := hx1.of (hV.block w.heap.size (by omega))
        have hz1 : wr.cell? ⟨bz, 0, none⟩ = some (cloV bm bz) := by rw [HBr.out.cell (p := ⟨bz, 0, none⟩) hzlt]; exact HBZ.out
        have hz2 : V.cell? ⟨bz, 0, none⟩ = some (cloV bm bz) := by rw [hV.cell (p := ⟨bz, 0, none⟩) (by show bz < _; omega)]; exact hz1
        have m0 := hm2.cell 0; have m1 := hm2.cell 1; have m2 := hm2.cell 2; have m3 := hm2.cell 3; have m4 := hm2.cell 4; have m5 := hm2.cell 5
        have a0 := hx2.cell 0; have a1 := hx2.cell 1; have a2 := hx2.cell 2; have a3 := hx2.cell 3; have a4 := hx2.cell 4; have a5 := hx2.cell 5
        simp at m0 m1 m2 m3 m4 m5 a0 a1 a2 a3 a4 a5
        exact ⟨hz2, m0, m3, m1, m2, m4, m5, a0, a3, a1, a2, a4, a5⟩
      have KQ := Lib.hid hkq
      have hB1 : w.heap.size + 1 ≤ w.heap.size + 3 := by omega
      have hg1 : w.heap.size + 1 ≤ (⟨w.heap.size + 1 + 1, 1, none⟩ : Addr).block := Nat.le_succ _
      have hoq : ∀ V, Below (w.heap.size + 3) wr V → V.cell? ⟨w.heap.size + 1 + 1, 1, none⟩ = some (.slice b k c') ∧ V.frozen? ⟨w.heap.size + 1 + 1, 1, none⟩ = false := fun V hV => by
        have ho2 := HLr.out.out.of (w' := V) (hV.block (w.heap.size + 1 + 1) (by omega))
        have o1 := ho2.cell 1
        simp at o1
        exact ⟨o1, ho2.free 1⟩
      have OQ := Lib.hid hoq
      have o1 := (hoq wr (Below.refl _ _)).1
      have o1d := (hoq wr.drew (Below.drew (Below.refl _ _))).1
      clear hoq
      have KR : Hid (Below (w.heap.size + 3) wr wr) := Lib.hid (Below.refl _ _)
      have K0 : Hid (Below (w.heap.size + 3) wr wr.drew) := Lib.hid (Below.drew (Below.refl _ _))
      have HPT := Lib.hid (fun V (hV : Below wr.heap.size wr V) => show Calls Try.prog 23 #[(.agg #[.int .i64 m.x.k, .int .i64 m.x.n, .string m.x.s, .slice m.a m.m m.c, .int .i64 m.x.f, .int .i64 m.x.t]), (.agg #[.int .i64 a.x.k, .int .i64 a.x.n, .string a.x.s, .slice a.a a.m a.c, .int .i64 a.x.f, .int .i64 a.x.t]), .int .i64 k] V (TP t V) from partType_any m a V k t ((HMR.out.below HBr.out).below hV) ((HV.out.below HBr.out).below hV) HG.out ht (by omega))
      have HZC := Lib.hid (fun (V : World) (y : te.Vn) (hV : Below wr.heap.size wr V) (hyt : y.tr = t) (hyr : y.Rd V) => show Calls Try.prog 21 #[(.agg #[.int .i64 y.x.k, .int .i64 y.x.n, .string y.x.s, .slice y.a y.m y.c, .int .i64 y.x.f, .int .i64 y.x.t]), .pointer (some ⟨bm, 0, none⟩), .pointer (some ⟨bz, 0, none⟩)] V (ZPost (zr m.l f t) V) from by
        have hz1 : wr.cell? ⟨bz, 0, none⟩ = some (cloV bm bz) := by rw [HBr.out.cell (p := ⟨bz, 0, none⟩) hzlt]; exact HBZ.out
        have h := HIH.out y V hyr ((HMR.out.below HBr.out).below hV) ((HBM.out.below HBr.out).below hV) (by rw [hV.cell (p := ⟨bz, 0, none⟩) (by show bz < _; omega)]; exact hz1) (by rw [hyt]; exact hot) (by rw [hyt]; exact hdt)
        rw [hyt] at h
        exact h)
      have D0 : Hid (Below wr.heap.size wr wr.drew) := Lib.hid (Below.drew (Below.refl _ _))
      have hkn' : (k : Int) < (n : Int) := by omega
      clear hkq ht htm hdt hot
      go_wp2_with fail
      refine wp_region_held_drew (S := fun V => V.cell? ⟨bz, 0, none⟩ = some (.func (.func 21) #[] #[.pointer (some ⟨bm, 0, none⟩), .pointer (some ⟨bz, 0, none⟩)]) ∧ V.cell? ⟨bm, 0, none⟩ = some (.int .i64 m.x.k) ∧ V.cell? ⟨bm, 3, none⟩ = some (.slice m.a m.m m.c) ∧ V.cell? ⟨bm, 1, none⟩ = some (.int .i64 m.x.n) ∧ V.cell? ⟨bm, 2, none⟩ = some (.string m.x.s) ∧ V.cell? ⟨bm, 4, none⟩ = some (.int .i64 m.x.f) ∧ V.cell? ⟨bm, 5, none⟩ = some (.int .i64 m.x.t) ∧ V.cell? ⟨w.heap.size, 0, none⟩ = some (.int .i64 a.x.k) ∧ V.cell? ⟨w.heap.size, 3, none⟩ = some (.slice a.a a.m a.c) ∧ V.cell? ⟨w.heap.size, 1, none⟩ = some (.int .i64 a.x.n) ∧ V.cell? ⟨w.heap.size, 2, none⟩ = some (.string a.x.s) ∧ V.cell? ⟨w.heap.size, 4, none⟩ = some (.int .i64 a.x.f) ∧ V.cell? ⟨w.heap.size, 5, none⟩ = some (.int .i64 a.x.t)) (by kernel_rfl) ?_ (fun hH0 => ?_)
      · exact KQ.out _ (Below.mono K0.out hB1)
      refine wpAnyH_take (i := 0) (v := ?v1) rfl (by kernel_rfl) (by kernel_rfl) (by kernel_rfl) (fun _ _ _ h => h) (Or.inl ⟨by rfl, ?hy1⟩) (by assumption) ?rest1
      case hy1 => (intro w hSw; (try dsimp only at hSw); go_simp; try with_reducible rfl)
      try simp only [Act.put, List.setIfInBounds_toArray, List.set_cons_zero, List.set_cons_succ]
      refine wpAnyH_take (i := 2) (v := ?v2) rfl (by kernel_rfl) (by kernel_rfl) (by kernel_rfl) (fun _ _ _ h => h) (Or.inl ⟨by rfl, ?hy2⟩) (by assumption) ?rest2
      case hy2 => (intro w hSw; (try dsimp only at hSw); go_simp; try with_reducible rfl)
      try simp only [Act.put, List.setIfInBounds_toArray, List.set_cons_zero, List.set_cons_succ]
      refine wpAnyH_take (i := 3) (v := ?v3) rfl (by kernel_rfl) (by kernel_rfl) (by kernel_rfl) (fun _ _ _ h => h) (Or.inl ⟨by rfl, ?hy3⟩) (by assumption) ?rest3
      case hy3 => (intro w hSw; (try dsimp only at hSw); go_simp; try with_reducible rfl)
      try simp only [Act.put, List.setIfInBounds_toArray, List.set_cons_zero, List.set_cons_succ]
      refine wpAnyH_take (i := 4) (v := ?v4) rfl (by kernel_rfl) (by kernel_rfl) (by kernel_rfl) (fun _ _ _ h => h) (Or.inl ⟨by rfl, ?hy4⟩) (by assumption) ?rest4
      case hy4 => (intro w hSw; (try dsimp only at hSw); go_simp; try with_reducible rfl)
      try simp only [Act.put, List.setIfInBounds_toArray, List.set_cons_zero, List.set_cons_succ]
      refine wpAnyH_take (i := 5) (v := ?v5) rfl (by kernel_rfl) (by kernel_rfl) (by kernel_rfl) (fun _ _ _ h => h) (Or.inl ⟨by rfl, ?hy5⟩) (by assumption) ?rest5
      case hy5 => (intro w hSw; (try dsimp only at hSw); go_simp; try with_reducible rfl)
      try simp only [Act.put, List.setIfInBounds_toArray, List.set_cons_zero, List.set_cons_succ]
      refine wpAnyH_ready (rs := [1, 6]) (by kernel_rfl) (by simp) ?_
      refine AllReadyH.cons rfl (fun K hK => ?_) ?_
      · skip
        go_simp
        refine hK.out _ _ ?_ (fun hH1 => ?_)
        · exact hH0
        clear hK K hH0
        refine wpAnyH_ready (rs := [6]) (by kernel_rfl) (by simp) ?_
        refine AllReadyH.cons rfl (fun K hK => ?_) ?_
        · skip
          go_simp
          go_wp2_with (go_at_call 23; (with_reducible refine (HPT.out _ D0.out).mono ?_); rintro e wa ⟨y, rfl, hyt, hyr, hba⟩; have HYT := Lib.hid hyt; have HYR := Lib.hid hyr; have DA : Hid (Below wr.heap.size wr wa) := Lib.hid (D0.out.trans (hba.mono D0.out.size)); have KA : Hid (Below (w.heap.size + 3) wr wa) := Lib.hid (DA.out.mono hwr3); have oa := (OQ.out _ KA.out).1; clear hyt hyr hba)
          refine hK.out _ _ ?_ (fun hH2 => ?_)
          · exact KQ.out _ (Below.mono KA.out hB1)
          clear hK K hH1
          refine wpAnyH_ready (rs := [7]) (by kernel_rfl) (by simp) ?_
          refine AllReadyH.cons rfl (fun K hK => ?_) ?_
          · skip
            go_simp
            go_wp2_with (go_at_call 21; (with_reducible refine (HZC.out _ y DA.out HYT.out HYR.out).mono ?_); rintro e wb ⟨x, rfl, hxt, hxr, hbb⟩; have HXT := Lib.hid hxt; have DB : Hid (Below wr.heap.size wr wb) := Lib.hid (DA.out.trans (hbb.mono DA.out.size)); have HXR := Lib.hid (va.Vn.Rs.apart (B0 := 0) (H := w.heap.size + 3) HLr.out.fr.own (Nat.zero_le _) hwr3 (hxr.weak (fun i _ h => h.imp id (fun h => Nat.le_trans DA.out.size h)))); have KB : Hid (Below (w.heap.size + 3) wr wb) := Lib.hid (DB.out.mono hwr3); have DC : Hid (Below wr.heap.size wr (wb.alloc (.cells #[.int .i64 x.x, .slice x.a x.m x.c] 27))) := Lib.hid (DB.out.alloc DB.out.size _); have KC : Hid (Below (w.heap.size + 3) wr (wb.alloc (.cells #[.int .i64 x.x, .slice x.a x.m x.c] 27))) := Lib.hid (DC.out.mono hwr3); have ob := (OQ.out _ KB.out).1; have oc := (OQ.out _ KC.out).1; clear hxt hxr hbb)
            refine hK.out _ _ ?_ (fun hH3 => ?_)
            · exact KQ.out _ (Below.mono KB.out hB1)
            clear hK K hH2
            refine wpAnyH_ready (rs := [8]) (by kernel_rfl) (by simp) ?_
            refine AllReadyH.cons rfl (fun K hK => ?_) ?_
            · skip
              go_simp
              refine hK.out _ _ ?_ (fun hH4 => ?_)
              · exact KQ.out _ (Below.mono KC.out hB1)
              clear hK K hH3
              refine wpAnyH_ready (rs := [9]) (by kernel_rfl) (by simp) ?_
              refine AllReadyH.cons rfl (fun K hK => ?_) ?_
              · skip
                refine va.step_append_v (B0 := 0) (H := w.heap.size + 3) (by rfl) (.tmp 14) (.tmp 21) (by rfl) (w.heap.size + 3) (by rfl) (HLr.out.fr.below DC.out) (by rfl) x (HXR.out.below (below_alloc _ _)) ?a1 (by omega) (Nat.le_trans hwr3 DC.out.size) ?_
                case a1 =>
                  intro j u hj
                  have hn := Blk.new wb #[.int .i64 x.x, .slice x.a x.m x.c] 27
                  match j with
                  | 0 => cases hj; exact hn.cell 0
                  | 1 => cases hj; exact hn.cell 1
                  | j + 2 => simp [va.Vn.cells] at hj
                intro a2 c2 w6 hf6 hb6
                have HF6 := Lib.hid hf6
                have K6 : Hid (Below (w.heap.size + 3) wr w6) := Lib.hid (KC.out.trans hb6)
                have o6 := (OQ.out _ K6.out).1; have f6 := (OQ.out _ K6.out).2
                clear hf6 hb6
                refine hK.out _ _ ?_ (fun hH5 => ?_)
                · exact KQ.out _ (Below.mono K6.out hB1)
                clear hK K hH4
                refine wpAnyH_take (i := 10) (v := ?v6) rfl (by kernel_rfl) (by kernel_rfl) (by kernel_rfl) (fun _ _ _ h => h) (Or.inl ⟨by rfl, ?hy6⟩) (by assumption) ?rest6
                case hy6 => (intro w hSw; (try dsimp only at hSw); go_simp; try with_reducible rfl)
                try simp only [Act.put, List.setIfInBounds_toArray, List.set_cons_zero, List.set_cons_succ]
                refine wpAnyH_ready (rs := [11]) (by kernel_rfl) (by simp) ?_
                refine AllReadyH.cons rfl (fun K hK => ?_) ?_
                · skip
                  go_simp
                  refine hK.out _ _ ?_ (fun hH6 => ?_)
                  · exact KQ.out _ (Below.setCell (Below.mono K6.out hB1) hg1 _)
                  clear hK K hH5
                  refine wpAnyH_done (by kernel_rfl) ?_ _
                  have HXT2 := HXT
                  have hlz := LZ.next HLr.out (by omega) hwr3 HF6.out K6.out
                  have hbw : Below w.heap.size w (w6.setCell ⟨w.heap.size + 1 + 1, 1, none⟩ (.slice a2 (k + 1) c2)) := (HBr.out.trans (K6.out.mono (by omega))).setCell (by show w.heap.size ≤ w.heap.size + 1 + 1; omega) _
                  have hxw : VB (w6.setCell ⟨w.heap.size + 1 + 1, 1, none⟩ (.slice a2 (k + 1) c2)) w.heap.size a := (HXr.out.of (K6.out.block w.heap.size (by omega))).other _ _ (by show w.heap.size ≠ w.heap.size + 1 + 1; omega)
                  have hyw : Blk (w6.setCell ⟨w.heap.size + 1 + 1, 1, none⟩ (.slice a2 (k + 1) c2)) (w.heap.size + 1) #[.int .i64 0, .slice none 0 0] 27 := (HYr.out.of (K6.out.block (w.heap.size + 1) (by omega))).other _ _ (by show w.heap.size + 1 ≠ w.heap.size + 1 + 1; omega)
                  have hsw : w.heap.size + 3 ≤ (w6.setCell ⟨w.heap.size + 1 + 1, 1, none⟩ (.slice a2 (k + 1) c2)).heap.size := by have := K6.out.size; simp [World.setCell]; omega
                  have htk : (L ++ [x]).map va.Vn.tr = ((pts m.l a.tr).take (k + 1)).map (zr m.l f) := by rw [take_next _ HTK.out, List.map_append, HT.out, ← HXT.out]; rfl
                  have R1 := Lib.hid hlz; have R2 := Lib.hid hbw; have R3 := Lib.hid hxw; have R4 := Lib.hid hyw; have R5 := Lib.hid htk
                  generalize (w6.setCell ⟨w.heap.size + 1 + 1, 1, none⟩ (.slice a2 (k + 1) c2)) = w7 at R1 R2 R3 R4 hsw ⊢
                  clear hlz hbw hxw hyw htk KQ OQ HPT HZC
                  try clear o1 o1d
                  try clear oa
                  try clear ob
                  try clear oc
                  try clear o6
                  try clear f6
                  go_wp2
                  go_roundw
                  case rel => exact ⟨k + 1, a2, c2, L ++ [x], by omega, by go_num, R2, R3, R4, hsw, R1, R5⟩
                  case measure => simp [intOf]; omega
                exact AllReadyH.nil
              exact AllReadyH.nil
            exact AllReadyH.nil
          exact AllReadyH.nil
        exact AllReadyH.nil
      refine AllReadyH.cons rfl (fun K hK => ?_) ?_
      · skip
        go_simp
        go_wp2_with (go_at_call 23; (with_reducible refine (HPT.out _ D0.out).mono ?_); rintro e wa ⟨y, rfl, hyt, hyr, hba⟩; have HYT := Lib.hid hyt; have HYR := Lib.hid hyr; have DA : Hid (Below wr.heap.size wr wa) := Lib.hid (D0.out.trans (hba.mono D0.out.size)); have KA : Hid (Below (w.heap.size + 3) wr wa) := Lib.hid (DA.out.mono hwr3); have oa := (OQ.out _ KA.out).1; clear hyt hyr hba)
        refine hK.out _ _ ?_ (fun hH1 => ?_)
        · exact KQ.out _ (Below.mono KA.out hB1)
        clear hK K hH0
        refine wpAnyH_ready (rs := [1, 7]) (by kernel_rfl) (by simp) ?_
        refine AllReadyH.cons rfl (fun K hK => ?_) ?_
        · skip
          go_simp
          refine hK.out _ _ ?_ (fun hH2 => ?_)
          · exact hH1
          clear hK K hH1
          refine wpAnyH_ready (rs := [7]) (by kernel_rfl) (by simp) ?_
          refine AllReadyH.cons rfl (fun K hK => ?_) ?_
          · skip
            go_simp
            go_wp2_with (go_at_call 21; (with_reducible refine (HZC.out _ y DA.out HYT.out HYR.out).mono ?_); rintro e wb ⟨x, rfl, hxt, hxr, hbb⟩; have HXT := Lib.hid hxt; have DB : Hid (Below wr.heap.size wr wb) := Lib.hid (DA.out.trans (hbb.mono DA.out.size)); have HXR := Lib.hid (va.Vn.Rs.apart (B0 := 0) (H := w.heap.size + 3) HLr.out.fr.own (Nat.zero_le _) hwr3 (hxr.weak (fun i _ h => h.imp id (fun h => Nat.le_trans DA.out.size h)))); have KB : Hid (Below (w.heap.size + 3) wr wb) := Lib.hid (DB.out.mono hwr3); have DC : Hid (Below wr.heap.size wr (wb.alloc (.cells #[.int .i64 x.x, .slice x.a x.m x.c] 27))) := Lib.hid (DB.out.alloc DB.out.size _); have KC : Hid (Below (w.heap.size + 3) wr (wb.alloc (.cells #[.int .i64 x.x, .slice x.a x.m x.c] 27))) := Lib.hid (DC.out.mono hwr3); have ob := (OQ.out _ KB.out).1; have oc := (OQ.out _ KC.out).1; clear hxt hxr hbb)
            refine hK.out _ _ ?_ (fun hH3 => ?_)
            · exact KQ.out _ (Below.mono KB.out hB1)
            clear hK K hH2
            refine wpAnyH_ready (rs := [8]) (by kernel_rfl) (by simp) ?_
            refine AllReadyH.cons rfl (fun K hK => ?_) ?_
            · skip
              go_simp
              refine hK.out _ _ ?_ (fun hH4 => ?_)
              · exact KQ.out _ (Below.mono KC.out hB1)
              clear hK K hH3
              refine wpAnyH_ready (rs := [9]) (by kernel_rfl) (by simp) ?_
              refine AllReadyH.cons rfl (fun K hK => ?_) ?_
              · skip
                refine va.step_append_v (B0 := 0) (H := w.heap.size + 3) (by rfl) (.tmp 14) (.tmp 21) (by rfl) (w.heap.size + 3) (by rfl) (HLr.out.fr.below DC.out) (by rfl) x (HXR.out.below (below_alloc _ _)) ?a1 (by omega) (Nat.le_trans hwr3 DC.out.size) ?_
                case a1 =>
                  intro j u hj
                  have hn := Blk.new wb #[.int .i64 x.x, .slice x.a x.m x.c] 27
                  match j with
                  | 0 => cases hj; exact hn.cell 0
                  | 1 => cases hj; exact hn.cell 1
                  | j + 2 => simp [va.Vn.cells] at hj
                intro a2 c2 w6 hf6 hb6
                have HF6 := Lib.hid hf6
                have K6 : Hid (Below (w.heap.size + 3) wr w6) := Lib.hid (KC.out.trans hb6)
                have o6 := (OQ.out _ K6.out).1; have f6 := (OQ.out _ K6.out).2
                clear hf6 hb6
                refine hK.out _ _ ?_ (fun hH5 => ?_)
                · exact KQ.out _ (Below.mono K6.out hB1)
                clear hK K hH4
                refine wpAnyH_take (i := 10) (v := ?v7) rfl (by kernel_rfl) (by kernel_rfl) (by kernel_rfl) (fun _ _ _ h => h) (Or.inl ⟨by rfl, ?hy7⟩) (by assumption) ?rest7
                case hy7 => (intro w hSw; (try dsimp only at hSw); go_simp; try with_reducible rfl)
                try simp only [Act.put, List.setIfInBounds_toArray, List.set_cons_zero, List.set_cons_succ]
                refine wpAnyH_ready (rs := [11]) (by kernel_rfl) (by simp) ?_
                refine AllReadyH.cons rfl (fun K hK => ?_) ?_
                · skip
                  go_simp
                  refine hK.out _ _ ?_ (fun hH6 => ?_)
                  · exact KQ.out _ (Below.setCell (Below.mono K6.out hB1) hg1 _)
                  clear hK K hH5
                  refine wpAnyH_done (by kernel_rfl) ?_ _
                  have HXT2 := HXT
                  have hlz := LZ.next HLr.out (by omega) hwr3 HF6.out K6.out
                  have hbw : Below w.heap.size w (w6.setCell ⟨w.heap.size + 1 + 1, 1, none⟩ (.slice a2 (k + 1) c2)) := (HBr.out.trans (K6.out.mono (by omega))).setCell (by show w.heap.size ≤ w.heap.size + 1 + 1; omega) _
                  have hxw : VB (w6.setCell ⟨w.heap.size + 1 + 1, 1, none⟩ (.slice a2 (k + 1) c2)) w.heap.size a := (HXr.out.of (K6.out.block w.heap.size (by omega))).other _ _ (by show w.heap.size ≠ w.heap.size + 1 + 1; omega)
                  have hyw : Blk (w6.setCell ⟨w.heap.size + 1 + 1, 1, none⟩ (.slice a2 (k + 1) c2)) (w.heap.size + 1) #[.int .i64 0, .slice none 0 0] 27 := (HYr.out.of (K6.out.block (w.heap.size + 1) (by omega))).other _ _ (by show w.heap.size + 1 ≠ w.heap.size + 1 + 1; omega)
                  have hsw : w.heap.size + 3 ≤ (w6.setCell ⟨w.heap.size + 1 + 1, 1, none⟩ (.slice a2 (k + 1) c2)).heap.size := by have := K6.out.size; simp [World.setCell]; omega
                  have htk : (L ++ [x]).map va.Vn.tr = ((pts m.l a.tr).take (k + 1)).map (zr m.l f) := by rw [take_next _ HTK.out, List.map_append, HT.out, ← HXT.out]; rfl
                  have R1 := Lib.hid hlz; have R2 := Lib.hid hbw; have R3 := Lib.hid hxw; have R4 := Lib.hid hyw; have R5 := Lib.hid htk
                  generalize (w6.setCell ⟨w.heap.size + 1 + 1, 1, none⟩ (.slice a2 (k + 1) c2)) = w7 at R1 R2 R3 R4 hsw ⊢
                  clear hlz hbw hxw hyw htk KQ OQ HPT HZC
                  try clear o1 o1d
                  try clear oa
                  try clear ob
                  try clear oc
                  try clear o6
                  try clear f6
                  go_wp2
                  go_roundw
                  case rel => exact ⟨k + 1, a2, c2, L ++ [x], by omega, by go_num, R2, R3, R4, hsw, R1, R5⟩
                  case measure => simp [intOf]; omega
                exact AllReadyH.nil
              exact AllReadyH.nil
            exact AllReadyH.nil
          exact AllReadyH.nil
        refine AllReadyH.cons rfl (fun K hK => ?_) ?_
        · skip
          go_simp
          go_wp2_with (go_at_call 21; (with_reducible refine (HZC.out _ y DA.out HYT.out HYR.out).mono ?_); rintro e wb ⟨x, rfl, hxt, hxr, hbb⟩; have HXT := Lib.hid hxt; have DB : Hid (Below wr.heap.size wr wb) := Lib.hid (DA.out.trans (hbb.mono DA.out.size)); have HXR := Lib.hid (va.Vn.Rs.apart (B0 := 0) (H := w.heap.size + 3) HLr.out.fr.own (Nat.zero_le _) hwr3 (hxr.weak (fun i _ h => h.imp id (fun h => Nat.le_trans DA.out.size h)))); have KB : Hid (Below (w.heap.size + 3) wr wb) := Lib.hid (DB.out.mono hwr3); have DC : Hid (Below wr.heap.size wr (wb.alloc (.cells #[.int .i64 x.x, .slice x.a x.m x.c] 27))) := Lib.hid (DB.out.alloc DB.out.size _); have KC : Hid (Below (w.heap.size + 3) wr (wb.alloc (.cells #[.int .i64 x.x, .slice x.a x.m x.c] 27))) := Lib.hid (DC.out.mono hwr3); have ob := (OQ.out _ KB.out).1; have oc := (OQ.out _ KC.out).1; clear hxt hxr hbb)
          refine hK.out _ _ ?_ (fun hH2 => ?_)
          · exact KQ.out _ (Below.mono KB.out hB1)
          clear hK K hH1
          refine wpAnyH_ready (rs := [1, 8]) (by kernel_rfl) (by simp) ?_
          refine AllReadyH.cons rfl (fun K hK => ?_) ?_
          · skip
            go_simp
            refine hK.out _ _ ?_ (fun hH3 => ?_)
            · exact hH2
            clear hK K hH2
            refine wpAnyH_ready (rs := [8]) (by kernel_rfl) (by simp) ?_
            refine AllReadyH.cons rfl (fun K hK => ?_) ?_
            · skip
              go_simp
              refine hK.out _ _ ?_ (fun hH4 => ?_)
              · exact KQ.out _ (Below.mono KC.out hB1)
              clear hK K hH3
              refine wpAnyH_ready (rs := [9]) (by kernel_rfl) (by simp) ?_
              refine AllReadyH.cons rfl (fun K hK => ?_) ?_
              · skip
                refine va.step_append_v (B0 := 0) (H := w.heap.size + 3) (by rfl) (.tmp 14) (.tmp 21) (by rfl) (w.heap.size + 3) (by rfl) (HLr.out.fr.below DC.out) (by rfl) x (HXR.out.below (below_alloc _ _)) ?a1 (by omega) (Nat.le_trans hwr3 DC.out.size) ?_
                case a1 =>
                  intro j u hj
                  have hn := Blk.new wb #[.int .i64 x.x, .slice x.a x.m x.c] 27
                  match j with
                  | 0 => cases hj; exact hn.cell 0
                  | 1 => cases hj; exact hn.cell 1
                  | j + 2 => simp [va.Vn.cells] at hj
                intro a2 c2 w6 hf6 hb6
                have HF6 := Lib.hid hf6
                have K6 : Hid (Below (w.heap.size + 3) wr w6) := Lib.hid (KC.out.trans hb6)
                have o6 := (OQ.out _ K6.out).1; have f6 := (OQ.out _ K6.out).2
                clear hf6 hb6
                refine hK.out _ _ ?_ (fun hH5 => ?_)
                · exact KQ.out _ (Below.mono K6.out hB1)
                clear hK K hH4
                refine wpAnyH_take (i := 10) (v := ?v8) rfl (by kernel_rfl) (by kernel_rfl) (by kernel_rfl) (fun _ _ _ h => h) (Or.inl ⟨by rfl, ?hy8⟩) (by assumption) ?rest8
                case hy8 => (intro w hSw; (try dsimp only at hSw); go_simp; try with_reducible rfl)
                try simp only [Act.put, List.setIfInBounds_toArray, List.set_cons_zero, List.set_cons_succ]
                refine wpAnyH_ready (rs := [11]) (by kernel_rfl) (by simp) ?_
                refine AllReadyH.cons rfl (fun K hK => ?_) ?_
                · skip
                  go_simp
                  refine hK.out _ _ ?_ (fun hH6 => ?_)
                  · exact KQ.out _ (Below.setCell (Below.mono K6.out hB1) hg1 _)
                  clear hK K hH5
                  refine wpAnyH_done (by kernel_rfl) ?_ _
                  have HXT2 := HXT
                  have hlz := LZ.next HLr.out (by omega) hwr3 HF6.out K6.out
                  have hbw : Below w.heap.size w (w6.setCell ⟨w.heap.size + 1 + 1, 1, none⟩ (.slice a2 (k + 1) c2)) := (HBr.out.trans (K6.out.mono (by omega))).setCell (by show w.heap.size ≤ w.heap.size + 1 + 1; omega) _
                  have hxw : VB (w6.setCell ⟨w.heap.size + 1 + 1, 1, none⟩ (.slice a2 (k + 1) c2)) w.heap.size a := (HXr.out.of (K6.out.block w.heap.size (by omega))).other _ _ (by show w.heap.size ≠ w.heap.size + 1 + 1; omega)
                  have hyw : Blk (w6.setCell ⟨w.heap.size + 1 + 1, 1, none⟩ (.slice a2 (k + 1) c2)) (w.heap.size + 1) #[.int .i64 0, .slice none 0 0] 27 := (HYr.out.of (K6.out.block (w.heap.size + 1) (by omega))).other _ _ (by show w.heap.size + 1 ≠ w.heap.size + 1 + 1; omega)
                  have hsw : w.heap.size + 3 ≤ (w6.setCell ⟨w.heap.size + 1 + 1, 1, none⟩ (.slice a2 (k + 1) c2)).heap.size := by have := K6.out.size; simp [World.setCell]; omega
                  have htk : (L ++ [x]).map va.Vn.tr = ((pts m.l a.tr).take (k + 1)).map (zr m.l f) := by rw [take_next _ HTK.out, List.map_append, HT.out, ← HXT.out]; rfl
                  have R1 := Lib.hid hlz; have R2 := Lib.hid hbw; have R3 := Lib.hid hxw; have R4 := Lib.hid hyw; have R5 := Lib.hid htk
                  generalize (w6.setCell ⟨w.heap.size + 1 + 1, 1, none⟩ (.slice a2 (k + 1) c2)) = w7 at R1 R2 R3 R4 hsw ⊢
                  clear hlz hbw hxw hyw htk KQ OQ HPT HZC
                  try clear o1 o1d
                  try clear oa
                  try clear ob
                  try clear oc
                  try clear o6
                  try clear f6
                  go_wp2
                  go_roundw
                  case rel => exact ⟨k + 1, a2, c2, L ++ [x], by omega, by go_num, R2, R3, R4, hsw, R1, R5⟩
                  case measure => simp [intOf]; omega
                exact AllReadyH.nil
              exact AllReadyH.nil
            exact AllReadyH.nil
          refine AllReadyH.cons rfl (fun K hK => ?_) ?_
          · skip
            go_simp
            refine hK.out _ _ ?_ (fun hH3 => ?_)
            · exact KQ.out _ (Below.mono KC.out hB1)
            clear hK K hH2
            refine wpAnyH_ready (rs := [1]) (by kernel_rfl) (by simp) ?_
            refine AllReadyH.cons rfl (fun K hK => ?_) ?_
            · skip
              go_simp
              refine hK.out _ _ ?_ (fun hH4 => ?_)
              · exact hH3
              clear hK K hH3
              refine wpAnyH_ready (rs := [9]) (by kernel_rfl) (by simp) ?_
              refine AllReadyH.cons rfl (fun K hK => ?_) ?_
              · skip
                refine va.step_append_v (B0 := 0) (H := w.heap.size + 3) (by rfl) (.tmp 14) (.tmp 21) (by rfl) (w.heap.size + 3) (by rfl) (HLr.out.fr.below DC.out) (by rfl) x (HXR.out.below (below_alloc _ _)) ?a1 (by omega) (Nat.le_trans hwr3 DC.out.size) ?_
                case a1 =>
                  intro j u hj
                  have hn := Blk.new wb #[.int .i64 x.x, .slice x.a x.m x.c] 27
                  match j with
                  | 0 => cases hj; exact hn.cell 0
                  | 1 => cases hj; exact hn.cell 1
                  | j + 2 => simp [va.Vn.cells] at hj
                intro a2 c2 w6 hf6 hb6
                have HF6 := Lib.hid hf6
                have K6 : Hid (Below (w.heap.size + 3) wr w6) := Lib.hid (KC.out.trans hb6)
                have o6 := (OQ.out _ K6.out).1; have f6 := (OQ.out _ K6.out).2
                clear hf6 hb6
                refine hK.out _ _ ?_ (fun hH5 => ?_)
                · exact KQ.out _ (Below.mono K6.out hB1)
                clear hK K hH4
                refine wpAnyH_take (i := 10) (v := ?v9) rfl (by kernel_rfl) (by kernel_rfl) (by kernel_rfl) (fun _ _ _ h => h) (Or.inl ⟨by rfl, ?hy9⟩) (by assumption) ?rest9
                case hy9 => (intro w hSw; (try dsimp only at hSw); go_simp; try with_reducible rfl)
                try simp only [Act.put, List.setIfInBounds_toArray, List.set_cons_zero, List.set_cons_succ]
                refine wpAnyH_ready (rs := [11]) (by kernel_rfl) (by simp) ?_
                refine AllReadyH.cons rfl (fun K hK => ?_) ?_
                · skip
                  go_simp
                  refine hK.out _ _ ?_ (fun hH6 => ?_)
                  · exact KQ.out _ (Below.setCell (Below.mono K6.out hB1) hg1 _)
                  clear hK K hH5
                  refine wpAnyH_done (by kernel_rfl) ?_ _
                  have HXT2 := HXT
                  have hlz := LZ.next HLr.out (by omega) hwr3 HF6.out K6.out
                  have hbw : Below w.heap.size w (w6.setCell ⟨w.heap.size + 1 + 1, 1, none⟩ (.slice a2 (k + 1) c2)) := (HBr.out.trans (K6.out.mono (by omega))).setCell (by show w.heap.size ≤ w.heap.size + 1 + 1; omega) _
                  have hxw : VB (w6.setCell ⟨w.heap.size + 1 + 1, 1, none⟩ (.slice a2 (k + 1) c2)) w.heap.size a := (HXr.out.of (K6.out.block w.heap.size (by omega))).other _ _ (by show w.heap.size ≠ w.heap.size + 1 + 1; omega)
                  have hyw : Blk (w6.setCell ⟨w.heap.size + 1 + 1, 1, none⟩ (.slice a2 (k + 1) c2)) (w.heap.size + 1) #[.int .i64 0, .slice none 0 0] 27 := (HYr.out.of (K6.out.block (w.heap.size + 1) (by omega))).other _ _ (by show w.heap.size + 1 ≠ w.heap.size + 1 + 1; omega)
                  have hsw : w.heap.size + 3 ≤ (w6.setCell ⟨w.heap.size + 1 + 1, 1, none⟩ (.slice a2 (k + 1) c2)).heap.size := by have := K6.out.size; simp [World.setCell]; omega
                  have htk : (L ++ [x]).map va.Vn.tr = ((pts m.l a.tr).take (k + 1)).map (zr m.l f) := by rw [take_next _ HTK.out, List.map_append, HT.out, ← HXT.out]; rfl
                  have R1 := Lib.hid hlz; have R2 := Lib.hid hbw; have R3 := Lib.hid hxw; have R4 := Lib.hid hyw; have R5 := Lib.hid htk
                  generalize (w6.setCell ⟨w.heap.size + 1 + 1, 1, none⟩ (.slice a2 (k + 1) c2)) = w7 at R1 R2 R3 R4 hsw ⊢
                  clear hlz hbw hxw hyw htk KQ OQ HPT HZC
                  try clear o1 o1d
                  try clear oa
                  try clear ob
                  try clear oc
                  try clear o6
                  try clear f6
                  go_wp2
                  go_roundw
                  case rel => exact ⟨k + 1, a2, c2, L ++ [x], by omega, by go_num, R2, R3, R4, hsw, R1, R5⟩
                  case measure => simp [intOf]; omega
                exact AllReadyH.nil
              exact AllReadyH.nil
            exact AllReadyH.nil
          exact AllReadyH.nil
        exact AllReadyH.nil
      exact AllReadyH.nil
    · have hke : k = n := by omega
      subst hke
      have hval := LZ.val HLr.out (Nat.le_refl _)
      have p0 := HLr.out.out.cell 0; have p1 := HLr.out.out.cell 1
      have q0 := HYr.out.cell 0; have q1 := HYr.out.cell 1; have f0 := HYr.out.free 0; have f1 := HYr.out.free 1
      simp at p0 p1 q0 q1
      have HVL := Lib.hid hval
      have htr : va.Vn.tr ⟨0, b, k, c', L.map va.Vn.tr⟩ = zr m.l (f + 1) a.tr := by
        show Tr.mk 0 _ = _
        rw [HZR.out, HT.out, List.take_of_length_le (by have := HN.out; omega)]
      have HTR := Lib.hid htr
      clear hval htr
      go_wp2
      try simp only [Exit.inBlock, Exit.then]
      refine bodyPost_ret (results_cell_row rfl _ _ (w.heap.size + 1) _ #[.int .i64 0, .slice b k c'] _ _ rfl (by have := (HYr.out.set 0 (.int .i64 0)).set 1 (.slice b k c'); simpa [Blk] using this) Try.underlying27 rfl (by kernel_rfl)) rfl ?_
      refine ⟨⟨0, b, k, c', L.map va.Vn.tr⟩, rfl, HTR.out, ?_, ?_⟩
      · refine (HVL.out.agree ⟨by simp [World.setCell], fun i hS hi => ?_⟩).weak (fun i _ hS => hS.imp id (fun h => by omega))
        have hi2 : i ≠ w.heap.size + 1 := by
          rcases hS with h0 | h0 <;> omega
        exact (Below.heap_setCell _ ⟨w.heap.size + 1, 1, none⟩ _ i hi2).trans (Below.heap_setCell _ ⟨w.heap.size + 1, 0, none⟩ _ i hi2)
      · exact (HBr.out.setCell (by show w.heap.size ≤ w.heap.size + 1; omega) _).setCell (by show w.heap.size ≤ w.heap.size + 1; omega) _

theorem clo_any (m : te.Vn) (hM : ∀ d ∈ m.l, d.kids.length ≤ 1000) (bm bz : Nat) (f : Nat) : CloP m bm bz f := by
  induction f with
  | zero => intro a w _ _ _ _ _ hd; cases hd
  | succ f ih => exact clo_step m hM bm bz f ih
end Go.Proofs.Ytpdicfekhghfeaa.zf
