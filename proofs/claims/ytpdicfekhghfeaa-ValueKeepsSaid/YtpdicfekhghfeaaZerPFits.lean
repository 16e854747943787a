/-
  Layer 19: the program's Fits.
-/
import Derived.Test.YtpdicfekhghfeaaZerFits
namespace Go.Proofs.Ytpdicfekhghfeaa.zf
open Go.ChangeShapes Go.WideShapes Go.ChangeAt Go.RowKit
open bs tr te ty
set_option linter.unusedVariables false

theorem fits_any (m : te.Vn) (hM : ∀ d ∈ m.l, d.kids.length ≤ 1000) (f : Nat) : FitP m f := by
  induction f with
  | zero => intro a v w _ _ _ _ hd; cases hd
  | succ f ih => exact fits_step m f ih hM

set_option maxRecDepth 100000 in
set_option maxHeartbeats 4000000 in
theorem pfits_any (m a : te.Vn) (v : va.Vn) (w : World) (hm : m.Rd w) (ha : a.Rd w) (hv : v.Rd w) (hN : m.l.length ≤ 1000000) (hM : ∀ d ∈ m.l, d.kids.length ≤ 1000) : Calls Try.prog 11 #[m.val, a.val, v.val] w (BP (Ok m.l a.tr ∧ fit m.l v.tr a.tr) w) := by
  have hW : Below w.heap.size w (((w.alloc (.cells #[.int .i64 m.x.k, .int .i64 m.x.n, .string m.x.s, .slice m.a m.m m.c, .int .i64 m.x.f, .int .i64 m.x.t] 24)).alloc (.cells #[.int .i64 a.x.k, .int .i64 a.x.n, .string a.x.s, .slice a.a a.m a.c, .int .i64 a.x.f, .int .i64 a.x.t] 24)).alloc (.cells #[.int .i64 v.x, .slice v.a v.m v.c] 27)) := (((Below.refl _ _).alloc (Nat.le_refl _) _).alloc (by simp only [te.size_alloc]; omega) _).alloc (by simp only [te.size_alloc]; omega) _
  have hM1 : VB (((w.alloc (.cells #[.int .i64 m.x.k, .int .i64 m.x.n, .string m.x.s, .slice m.a m.m m.c, .int .i64 m.x.f, .int .i64 m.x.t] 24)).alloc (.cells #[.int .i64 a.x.k, .int .i64 a.x.n, .string a.x.s, .slice a.a a.m a.c, .int .i64 a.x.f, .int .i64 a.x.t] 24)).alloc (.cells #[.int .i64 v.x, .slice v.a v.m v.c] 27)) w.heap.size m := ((vb_new w m).below (below_alloc _ _)).below (below_alloc _ _)
  have hX : VB (((w.alloc (.cells #[.int .i64 m.x.k, .int .i64 m.x.n, .string m.x.s, .slice m.a m.m m.c, .int .i64 m.x.f, .int .i64 m.x.t] 24)).alloc (.cells #[.int .i64 a.x.k, .int .i64 a.x.n, .string a.x.s, .slice a.a a.m a.c, .int .i64 a.x.f, .int .i64 a.x.t] 24)).alloc (.cells #[.int .i64 v.x, .slice v.a v.m v.c] 27)) (w.heap.size + 1) a := by
    have := (vb_new (w.alloc (.cells #[.int .i64 m.x.k, .int .i64 m.x.n, .string m.x.s, .slice m.a m.m m.c, .int .i64 m.x.f, .int .i64 m.x.t] 24)) a).below (below_alloc _ (.cells #[.int .i64 v.x, .slice v.a v.m v.c] 27))
    rwa [te.size_alloc] at this
  have hY : Blk (((w.alloc (.cells #[.int .i64 m.x.k, .int .i64 m.x.n, .string m.x.s, .slice m.a m.m m.c, .int .i64 m.x.f, .int .i64 m.x.t] 24)).alloc (.cells #[.int .i64 a.x.k, .int .i64 a.x.n, .string a.x.s, .slice a.a a.m a.c, .int .i64 a.x.f, .int .i64 a.x.t] 24)).alloc (.cells #[.int .i64 v.x, .slice v.a v.m v.c] 27)) (w.heap.size + 1 + 1) #[.int .i64 v.x, .slice v.a v.m v.c] 27 := by
    have := Blk.new ((w.alloc (.cells #[.int .i64 m.x.k, .int .i64 m.x.n, .string m.x.s, .slice m.a m.m m.c, .int .i64 m.x.f, .int .i64 m.x.t] 24)).alloc (.cells #[.int .i64 a.x.k, .int .i64 a.x.n, .string a.x.s, .slice a.a a.m a.c, .int .i64 a.x.f, .int .i64 a.x.t] 24)) #[.int .i64 v.x, .slice v.a v.m v.c] 27
    rwa [te.size_alloc, te.size_alloc] at this
  have HW := Lib.hid hW; have HX := Lib.hid hX; have HY := Lib.hid hY; have HMB := Lib.hid hM1
  have HMR := Lib.hid hm; have HAR := Lib.hid ha; have HVR := Lib.hid hv; have HK := Lib.hid hM
  clear hW hX hY hM1 hm ha hv hM
  unfold te.Vn.val va.Vn.val
  go_enter Try.func11, Try.ntmps11
  go_upto_region 1 with fail
  generalize hWW : (((w.alloc (.cells #[.int .i64 m.x.k, .int .i64 m.x.n, .string m.x.s, .slice m.a m.m m.c, .int .i64 m.x.f, .int .i64 m.x.t] 24)).alloc (.cells #[.int .i64 a.x.k, .int .i64 a.x.n, .string a.x.s, .slice a.a a.m a.c, .int .i64 a.x.f, .int .i64 a.x.t] 24)).alloc (.cells #[.int .i64 v.x, .slice v.a v.m v.c] 27)) = W at HW HX HY HMB ⊢
  clear hWW
  have hkq : ∀ V, Below W.heap.size W V → V.cell? ⟨w.heap.size, 0, none⟩ = some (.int .i64 m.x.k) ∧ V.cell? ⟨w.heap.size, 3, none⟩ = some (.slice m.a m.m m.c) ∧ V.cell? ⟨w.heap.size, 1, none⟩ = some (.int .i64 m.x.n) ∧ V.cell? ⟨w.heap.size, 2, none⟩ = some (.string m.x.s) ∧ V.cell? ⟨w.heap.size, 4, none⟩ = some (.int .i64 m.x.f) ∧ V.cell? ⟨w.heap.size, 5, none⟩ = some (.int .i64 m.x.t) ∧ V.cell? ⟨w.heap.size + 1, 0, none⟩ = some (.int .i64 a.x.k) ∧ V.cell? ⟨w.heap.size + 1, 3, none⟩ = some (.slice a.a a.m a.c) ∧ V.cell? ⟨w.heap.size + 1, 1, none⟩ = some (.int .i64 a.x.n) ∧ V.cell? ⟨w.heap.size + 1, 2, none⟩ = some (.string a.x.s) ∧ V.cell? ⟨w.heap.size + 1, 4, none⟩ = some (.int .i64 a.x.f) ∧ V.cell? ⟨w.heap.size + 1, 5, none⟩ = some (.int .i64 a.x.t) ∧ V.cell? ⟨w.heap.size + 1 + 1, 0, none⟩ = some (.int .i64 v.x) ∧ V.cell? ⟨w.heap.size + 1 + 1, 1, none⟩ = some (.slice v.a v.m v.c) := fun V hV => by
    have hm2 := HMB.out.below hV; have hx2 := HX.out.below hV; have hy2 := HY.out.below hV
    have m0 := hm2.cell 0; have m1 := hm2.cell 1; have m2 := hm2.cell 2; have m3 := hm2.cell 3; have m4 := hm2.cell 4; have m5 := hm2.cell 5
    have a0 := hx2.cell 0; have a1 := hx2.cell 1; have a2 := hx2.cell 2; have a3 := hx2.cell 3; have a4 := hx2.cell 4; have a5 := hx2.cell 5
    have y0 := hy2.cell 0; have y1 := hy2.cell 1
    simp at m0 m1 m2 m3 m4 m5 a0 a1 a2 a3 a4 a5 y0 y1
    exact ⟨m0, m3, m1, m2, m4, m5, a0, a3, a1, a2, a4, a5, y0, y1⟩
  have KQ := Lib.hid hkq
  obtain ⟨g0, g3, g1, g2, g4, g5, a0, a3, a1, a2, a4, a5, y0, y1⟩ := hkq W (Below.refl _ _)
  clear hkq
  go_wp2_with fail
  refine (pcells_any m a W (HMR.out.below HW.out) (HAR.out.below HW.out) hN).mono ?_
  rintro e w2 ⟨rfl, hb2⟩
  clear g0 g1 g2 g3 g4 g5 a0 a1 a2 a3 a4 a5 y0 y1
  have HB2 := Lib.hid (HW.out.trans (hb2.mono HW.out.size))
  obtain ⟨g0, g3, g1, g2, g4, g5, a0, a3, a1, a2, a4, a5, y0, y1⟩ := KQ.out w2 hb2
  clear hb2 KQ
  obtain ⟨c, hc⟩ : ∃ c, ce m.l m.l.length a.tr = c := ⟨_, rfl⟩
  rw [hc]
  by_cases h0 : c = 0
  · have hnot : ¬ (Ok m.l a.tr ∧ fit m.l v.tr a.tr) := fun h => by have := h.1; unfold Ok at this; omega
    have HNOT := Lib.hid hnot
    have d0 : decide ((0 : Int) < (c : Int)) = false := decide_eq_false (by omega)
    have d1 : decide (0 < c) = false := decide_eq_false (by omega)
    clear hc h0 hnot
    go_wp2
    go_ret
    exact ⟨false, rfl, Lib.hid (ff HNOT.out), HB2.out⟩
  · have hok : Ok m.l a.tr := by unfold Ok; omega
    have HOK := Lib.hid hok
    have d0 : decide ((0 : Int) < (c : Int)) = true := decide_eq_true (by omega)
    have d1 : decide (0 < c) = true := decide_eq_true (by omega)
    have d2 : 0 < c := by omega
    obtain ⟨f, hf⟩ := deep m.l m.l.length a.tr hok
    have HF := Lib.hid hf
    clear hc h0 hok hf
    go_wp2_with fail
    refine (fits_any m HK.out f a v w2 (HAR.out.below HB2.out) (HMR.out.below HB2.out) (HVR.out.below HB2.out) HOK.out HF.out).mono ?_
    rintro e w3 ⟨r, rfl, HRR, hb3⟩
    have HB3 := Lib.hid (HB2.out.trans (hb3.mono HB2.out.size))
    clear hb3
    go_wp2
    go_ret
    exact ⟨r, rfl, Lib.hid ⟨fun h => ⟨HOK.out, HRR.out.1 h⟩, fun h => HRR.out.2 h.2⟩, HB3.out⟩
end Go.Proofs.Ytpdicfekhghfeaa.zf
