/-
  Layer 19: the document's Zero and Fits, of anything.
-/
import Derived.Test.YtpdicfekhghfeaaZerRZero
import Derived.Test.YtpdicfekhghfeaaZerRFits
namespace Go.Proofs.Ytpdicfekhghfeaa.zf
open Go.ChangeShapes Go.WideShapes Go.ChangeAt Go.RowKit
open bs tr te ty
set_option linter.unusedVariables false

theorem rfit_ok (m : te.Vn) (hN : m.l.length ≤ 1000000) (hM : ∀ d ∈ m.l, d.kids.length ≤ 1000) (f : Nat) : RfP m f := by
  induction f with
  | zero => intro a v w _ _ _ _ hd; cases hd
  | succ f ih => exact rfits_step m f ih hN hM

set_option maxRecDepth 100000 in
set_option maxHeartbeats 4000000 in
theorem rfits_any (m a : te.Vn) (v : va.Vn) (w : World) (hm : m.Rd w) (ha : a.Rd w) (hv : v.Rd w) (hN : m.l.length ≤ 1000000) (hM : ∀ d ∈ m.l, d.kids.length ≤ 1000) : Calls Try.prog 13 #[m.val, a.val, v.val] w (BP (Ok m.l a.tr ∧ fit m.l v.tr a.tr) w) := by
  by_cases hok : Ok m.l a.tr
  · obtain ⟨f, hf⟩ := deep m.l m.l.length a.tr hok
    refine (rfit_ok m hN hM f a v w ha hm hv hok hf).mono ?_
    rintro e w3 ⟨r, rfl, HRR, hb3⟩
    exact ⟨r, rfl, Lib.hid ⟨fun h => ⟨hok, HRR.out.1 h⟩, fun h => HRR.out.2 h.2⟩, hb3⟩
  · have hc : ce m.l m.l.length a.tr = 0 := by unfold Ok at hok; omega
    have hW : Below w.heap.size w (((w.alloc (.cells #[.int .i64 m.x.k, .int .i64 m.x.n, .string m.x.s, .slice m.a m.m m.c, .int .i64 m.x.f, .int .i64 m.x.t] 24)).alloc (.cells #[.int .i64 a.x.k, .int .i64 a.x.n, .string a.x.s, .slice a.a a.m a.c, .int .i64 a.x.f, .int .i64 a.x.t] 24)).alloc (.cells #[.int .i64 v.x, .slice v.a v.m v.c] 27)) := (((Below.refl _ _).alloc (Nat.le_refl _) _).alloc (by simp only [te.size_alloc]; omega) _).alloc (by simp only [te.size_alloc]; omega) _
    have hM1 : VB (((w.alloc (.cells #[.int .i64 m.x.k, .int .i64 m.x.n, .string m.x.s, .slice m.a m.m m.c, .int .i64 m.x.f, .int .i64 m.x.t] 24)).alloc (.cells #[.int .i64 a.x.k, .int .i64 a.x.n, .string a.x.s, .slice a.a a.m a.c, .int .i64 a.x.f, .int .i64 a.x.t] 24)).alloc (.cells #[.int .i64 v.x, .slice v.a v.m v.c] 27)) w.heap.size m := ((vb_new w m).below (below_alloc _ _)).below (below_alloc _ _)
    have hX : VB (((w.alloc (.cells #[.int .i64 m.x.k, .int .i64 m.x.n, .string m.x.s, .slice m.a m.m m.c, .int .i64 m.x.f, .int .i64 m.x.t] 24)).alloc (.cells #[.int .i64 a.x.k, .int .i64 a.x.n, .string a.x.s, .slice a.a a.m a.c, .int .i64 a.x.f, .int .i64 a.x.t] 24)).alloc (.cells #[.int .i64 v.x, .slice v.a v.m v.c] 27)) (w.heap.size + 1) a := by
      have := (vb_new (w.alloc (.cells #[.int .i64 m.x.k, .int .i64 m.x.n, .string m.x.s, .slice m.a m.m m.c, .int .i64 m.x.f, .int .i64 m.x.t] 24)) a).below (below_alloc _ (.cells #[.int .i64 v.x, .slice v.a v.m v.c] 27))
      rwa [te.size_alloc] at this
    have HW := Lib.hid hW; have HX := Lib.hid hX; have HMB := Lib.hid hM1
    have HMR := Lib.hid hm; have HAR := Lib.hid ha; have HOK := Lib.hid hok
    have HC := Lib.hid hc
    clear hW hX hM1 hm ha hv hok hc hM
    unfold te.Vn.val va.Vn.val
    go_enter Try.func13, Try.ntmps13
    go_upto_region 1 with fail
    generalize hWW : (((w.alloc (.cells #[.int .i64 m.x.k, .int .i64 m.x.n, .string m.x.s, .slice m.a m.m m.c, .int .i64 m.x.f, .int .i64 m.x.t] 24)).alloc (.cells #[.int .i64 a.x.k, .int .i64 a.x.n, .string a.x.s, .slice a.a a.m a.c, .int .i64 a.x.f, .int .i64 a.x.t] 24)).alloc (.cells #[.int .i64 v.x, .slice v.a v.m v.c] 27)) = W at HW HX HMB ⊢
    clear hWW
    go_wp2_with (first | (refine wpList_load_T rfl _ rfl rfl HMB.out ?_) | (refine wpList_load_T rfl _ rfl rfl HX.out ?_))
    refine (rcells_any m a W (HMR.out.below HW.out) (HAR.out.below HW.out) hN).mono ?_
    rintro e w2 ⟨rfl, hb2⟩
    rw [HC.out]
    have HB2 := Lib.hid (HW.out.trans (hb2.mono HW.out.size))
    clear hb2
    go_wp2
    go_ret
    exact ⟨false, rfl, Lib.hid (ff (fun h => HOK.out h.1)), HB2.out⟩

set_option maxRecDepth 100000 in
set_option maxHeartbeats 4000000 in
theorem rzero_any (m a : te.Vn) (w : World) (hm : m.Rd w) (ha : a.Rd w) (hN : m.l.length ≤ 1000000) (hM : ∀ d ∈ m.l, d.kids.length ≤ 1000) : Calls Try.prog 10 #[m.val, a.val] w (ZvP (zv m.l a.tr) w) := by
  by_cases hok : Ok m.l a.tr
  · obtain ⟨f, hf, hz⟩ := zv_ok hok
    refine (rz_any m hN hM f a w ha hm hok hf).mono ?_
    rintro e w3 ⟨x, rfl, hxt, hxr, hb3⟩
    exact ⟨x, rfl, hxt.trans hz.symm, hxr.rd', hb3⟩
  · have hc : ce m.l m.l.length a.tr = 0 := by unfold Ok at hok; omega
    have hW : Below w.heap.size w ((((w.alloc (.cells #[.int .i64 m.x.k, .int .i64 m.x.n, .string m.x.s, .slice m.a m.m m.c, .int .i64 m.x.f, .int .i64 m.x.t] 24)).alloc (.cells #[.int .i64 a.x.k, .int .i64 a.x.n, .string a.x.s, .slice a.a a.m a.c, .int .i64 a.x.f, .int .i64 a.x.t] 24)).alloc (.cells #[.int .i64 0, .slice none 0 0] 27)).alloc (.cells #[.int .i64 0, .slice none 0 0] 27)) := ((((Below.refl _ _).alloc (Nat.le_refl _) _).alloc (by simp only [te.size_alloc]; omega) _).alloc (by simp only [te.size_alloc]; omega) _).alloc (by simp only [te.size_alloc]; omega) _
    have hM1 : VB ((((w.alloc (.cells #[.int .i64 m.x.k, .int .i64 m.x.n, .string m.x.s, .slice m.a m.m m.c, .int .i64 m.x.f, .int .i64 m.x.t] 24)).alloc (.cells #[.int .i64 a.x.k, .int .i64 a.x.n, .string a.x.s, .slice a.a a.m a.c, .int .i64 a.x.f, .int .i64 a.x.t] 24)).alloc (.cells #[.int .i64 0, .slice none 0 0] 27)).alloc (.cells #[.int .i64 0, .slice none 0 0] 27)) w.heap.size m := (((vb_new w m).below (below_alloc _ _)).below (below_alloc _ _)).below (below_alloc _ _)
    have hX : VB ((((w.alloc (.cells #[.int .i64 m.x.k, .int .i64 m.x.n, .string m.x.s, .slice m.a m.m m.c, .int .i64 m.x.f, .int .i64 m.x.t] 24)).alloc (.cells #[.int .i64 a.x.k, .int .i64 a.x.n, .string a.x.s, .slice a.a a.m a.c, .int .i64 a.x.f, .int .i64 a.x.t] 24)).alloc (.cells #[.int .i64 0, .slice none 0 0] 27)).alloc (.cells #[.int .i64 0, .slice none 0 0] 27)) (w.heap.size + 1) a := by
      have := ((vb_new (w.alloc (.cells #[.int .i64 m.x.k, .int .i64 m.x.n, .string m.x.s, .slice m.a m.m m.c, .int .i64 m.x.f, .int .i64 m.x.t] 24)) a).below (below_alloc _ (.cells #[.int .i64 0, .slice none 0 0] 27))).below (below_alloc _ (.cells #[.int .i64 0, .slice none 0 0] 27))
      rwa [te.size_alloc] at this
    have hY : Blk ((((w.alloc (.cells #[.int .i64 m.x.k, .int .i64 m.x.n, .string m.x.s, .slice m.a m.m m.c, .int .i64 m.x.f, .int .i64 m.x.t] 24)).alloc (.cells #[.int .i64 a.x.k, .int .i64 a.x.n, .string a.x.s, .slice a.a a.m a.c, .int .i64 a.x.f, .int .i64 a.x.t] 24)).alloc (.cells #[.int .i64 0, .slice none 0 0] 27)).alloc (.cells #[.int .i64 0, .slice none 0 0] 27)) (w.heap.size + 1 + 1) #[.int .i64 0, .slice none 0 0] 27 := by
      have := (Blk.new ((w.alloc (.cells #[.int .i64 m.x.k, .int .i64 m.x.n, .string m.x.s, .slice m.a m.m m.c, .int .i64 m.x.f, .int .i64 m.x.t] 24)).alloc (.cells #[.int .i64 a.x.k, .int .i64 a.x.n, .string a.x.s, .slice a.a a.m a.c, .int .i64 a.x.f, .int .i64 a.x.t] 24)) #[.int .i64 0, .slice none 0 0] 27).below (below_alloc _ (.cells #[.int .i64 0, .slice none 0 0] 27))
      rwa [te.size_alloc, te.size_alloc] at this
    have hZ : Blk ((((w.alloc (.cells #[.int .i64 m.x.k, .int .i64 m.x.n, .string m.x.s, .slice m.a m.m m.c, .int .i64 m.x.f, .int .i64 m.x.t] 24)).alloc (.cells #[.int .i64 a.x.k, .int .i64 a.x.n, .string a.x.s, .slice a.a a.m a.c, .int .i64 a.x.f, .int .i64 a.x.t] 24)).alloc (.cells #[.int .i64 0, .slice none 0 0] 27)).alloc (.cells #[.int .i64 0, .slice none 0 0] 27)) (w.heap.size + 1 + 1 + 1) #[.int .i64 0, .slice none 0 0] 27 := by
      have := Blk.new (((w.alloc (.cells #[.int .i64 m.x.k, .int .i64 m.x.n, .string m.x.s, .slice m.a m.m m.c, .int .i64 m.x.f, .int .i64 m.x.t] 24)).alloc (.cells #[.int .i64 a.x.k, .int .i64 a.x.n, .string a.x.s, .slice a.a a.m a.c, .int .i64 a.x.f, .int .i64 a.x.t] 24)).alloc (.cells #[.int .i64 0, .slice none 0 0] 27)) #[.int .i64 0, .slice none 0 0] 27
      rwa [te.size_alloc, te.size_alloc, te.size_alloc] at this
    have HW := Lib.hid hW; have HX := Lib.hid hX; have HY := Lib.hid hY; have HZ := Lib.hid hZ; have HMB := Lib.hid hM1
    have HMR := Lib.hid hm; have HAR := Lib.hid ha; have HZV := Lib.hid (zv_not hok)
    have HC := Lib.hid hc
    clear hW hX hY hZ hM1 hm ha hok hc hM
    unfold te.Vn.val
    go_enter Try.func10, Try.ntmps10
    go_upto_region 2 with fail
    generalize hWW : ((((w.alloc (.cells #[.int .i64 m.x.k, .int .i64 m.x.n, .string m.x.s, .slice m.a m.m m.c, .int .i64 m.x.f, .int .i64 m.x.t] 24)).alloc (.cells #[.int .i64 a.x.k, .int .i64 a.x.n, .string a.x.s, .slice a.a a.m a.c, .int .i64 a.x.f, .int .i64 a.x.t] 24)).alloc (.cells #[.int .i64 0, .slice none 0 0] 27)).alloc (.cells #[.int .i64 0, .slice none 0 0] 27)) = W at HW HX HY HZ HMB ⊢
    clear hWW
    go_wp2_with (first | (refine wpList_load_T rfl _ rfl rfl HMB.out ?_) | (refine wpList_load_T rfl _ rfl rfl HX.out ?_))
    refine (rcells_any m a W (HMR.out.below HW.out) (HAR.out.below HW.out) hN).mono ?_
    rintro e w2 ⟨rfl, hb2⟩
    rw [HC.out]
    have HB2 := Lib.hid (HW.out.trans (hb2.mono HW.out.size)); have HY2 := Lib.hid (HY.out.below hb2); have HZ2 := Lib.hid (HZ.out.below hb2)
    clear hb2 HX HY HZ HMB
    have p0 := HZ2.out.cell 0; have p1 := HZ2.out.cell 1
    have q0 := HY2.out.cell 0; have q1 := HY2.out.cell 1; have f0 := HY2.out.free 0; have f1 := HY2.out.free 1
    simp at p0 p1 q0 q1
    go_wp2
    try simp only [Exit.inBlock, Exit.then]
    refine bodyPost_ret (results_cell_row rfl _ _ (w.heap.size + 1 + 1) _ #[.int .i64 0, .slice none 0 0] _ _ rfl (by have := (HY2.out.set 0 (.int .i64 0)).set 1 (.slice none 0 0); simpa [Blk] using this) Try.underlying27 rfl (by kernel_rfl)) rfl ?_
    refine ⟨va.v0, rfl, HZV.out.symm, va.v0_rd _, ?_⟩
    exact (HB2.out.setCell (by show w.heap.size ≤ w.heap.size + 1 + 1; omega) _).setCell (by show w.heap.size ≤ w.heap.size + 1 + 1; omega) _
end Go.Proofs.Ytpdicfekhghfeaa.zf
