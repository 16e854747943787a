/-
  Layer 19: ValueZeroes.
-/
import Derived.Test.YtpdicfekhghfeaaZerRAll
import Derived.Test.YtpdicfekhghfeaaZerPFits
import Derived.Test.YtpdicfekhghfeaaZerZero
import Derived.Test.YtpdicfekhghfeaaTrmCount
import Derived.Test.YtpdicfekhghfeaaValCount
import Derived.Test.YtpdicfekhghfeaaValAwake
import Derived.Deep.RegionHeld3
namespace Go.Proofs.Ytpdicfekhghfeaa.zf
open Go.ChangeShapes Go.WideShapes Go.ChangeAt Go.RowKit
open bs tr te ty
set_option linter.unusedVariables false

def Gw (w : World) (e : Ending) (w' : World) : Prop := e = .returned (.bool true) ∧ Below w.heap.size w w'
theorem size_kids {m : te.Vn} (h : m.tr.size ≤ 400) : m.l.length ≤ 1000000 ∧ ∀ d ∈ m.l, d.kids.length ≤ 1000 := by
  have h1 : Tr.size (Tr.mk m.x m.l) ≤ 400 := h
  refine ⟨by have := Tr.len_size (x := m.x) (l := m.l); omega, fun d hd => ?_⟩
  have h2 := Tr.size_le (x := m.x) hd
  have h3 := Tr.len_size (x := d.lab) (l := d.kids)
  rw [← Tr.eta d] at h3
  omega
theorem bp_same {p : Prop} {b : Bool} {w : World} (hb : b = true ↔ p) : ∀ e w', BP p w e w' → e = .returned (.bool b) ∧ Below w.heap.size w w' := by
  rintro e w' ⟨r, rfl, hr, hb'⟩
  have : r = b := by
    rw [Bool.eq_iff_iff]
    exact hr.out.trans hb.symm
  rw [this]
  exact ⟨rfl, hb'⟩
theorem bool_of (p : Prop) : ∃ b : Bool, b = true ↔ p := by
  by_cases h : p
  · exact ⟨true, by simp [h]⟩
  · exact ⟨false, by simp [h]⟩

set_option maxRecDepth 100000 in
set_option maxHeartbeats 8000000 in
theorem law_zeroes (m a : te.Vn) (v : va.Vn) (w : World) (hm : m.Rd w) (ha : a.Rd w) (hv : v.Rd w) : Calls Try.prog 3 #[m.val, a.val, v.val] w (Gw w) := by
  have hW : Below w.heap.size w (((w.alloc (.cells #[.int .i64 m.x.k, .int .i64 m.x.n, .string m.x.s, .slice m.a m.m m.c, .int .i64 m.x.f, .int .i64 m.x.t] 24)).alloc (.cells #[.int .i64 a.x.k, .int .i64 a.x.n, .string a.x.s, .slice a.a a.m a.c, .int .i64 a.x.f, .int .i64 a.x.t] 24)).alloc (.cells #[.int .i64 v.x, .slice v.a v.m v.c] 27)) := (((Below.refl _ _).alloc (Nat.le_refl _) _).alloc (by simp only [te.size_alloc]; omega) _).alloc (by simp only [te.size_alloc]; omega) _
  have hM1 : VB (((w.alloc (.cells #[.int .i64 m.x.k, .int .i64 m.x.n, .string m.x.s, .slice m.a m.m m.c, .int .i64 m.x.f, .int .i64 m.x.t] 24)).alloc (.cells #[.int .i64 a.x.k, .int .i64 a.x.n, .string a.x.s, .slice a.a a.m a.c, .int .i64 a.x.f, .int .i64 a.x.t] 24)).alloc (.cells #[.int .i64 v.x, .slice v.a v.m v.c] 27)) w.heap.size m := ((vb_new w m).below (below_alloc _ _)).below (below_alloc _ _)
  have hX : VB (((w.alloc (.cells #[.int .i64 m.x.k, .int .i64 m.x.n, .string m.x.s, .slice m.a m.m m.c, .int .i64 m.x.f, .int .i64 m.x.t] 24)).alloc (.cells #[.int .i64 a.x.k, .int .i64 a.x.n, .string a.x.s, .slice a.a a.m a.c, .int .i64 a.x.f, .int .i64 a.x.t] 24)).alloc (.cells #[.int .i64 v.x, .slice v.a v.m v.c] 27)) (w.heap.size + 1) a := by
    have := (vb_new (w.alloc (.cells #[.int .i64 m.x.k, .int .i64 m.x.n, .string m.x.s, .slice m.a m.m m.c, .int .i64 m.x.f, .int .i64 m.x.t] 24)) a).below (below_alloc _ (.cells #[.int .i64 v.x, .slice v.a v.m v.c] 27))
    rwa [te.size_alloc] at this
  have hY : Blk (((w.alloc (.cells #[.int .i64 m.x.k, .int .i64 m.x.n, .string m.x.s, .slice m.a m.m m.c, .int .i64 m.x.f, .int .i64 m.x.t] 24)).alloc (.cells #[.int .i64 a.x.k, .int .i64 a.x.n, .string a.x.s, .slice a.a a.m a.c, .int .i64 a.x.f, .int .i64 a.x.t] 24)).alloc (.cells #[.int .i64 v.x, .slice v.a v.m v.c] 27)) (w.heap.size + 1 + 1) #[.int .i64 v.x, .slice v.a v.m v.c] 27 := by
    have := Blk.new ((w.alloc (.cells #[.int .i64 m.x.k, .int .i64 m.x.n, .string m.x.s, .slice m.a m.m m.c, .int .i64 m.x.f, .int .i64 m.x.t] 24)).alloc (.cells #[.int .i64 a.x.k, .int .i64 a.x.n, .string a.x.s, .slice a.a a.m a.c, .int .i64 a.x.f, .int .i64 a.x.t] 24)) #[.int .i64 v.x, .slice v.a v.m v.c] 27
    rwa [te.size_alloc, te.size_alloc] at this
  have HW := Lib.hid hW; have HX := Lib.hid hX; have HY := Lib.hid hY; have HMB := Lib.hid hM1
  have HMR := Lib.hid hm; have HAR := Lib.hid ha; have HVR := Lib.hid hv
  clear hW hX hY hM1 hm ha hv
  unfold te.Vn.val va.Vn.val
  go_enter Try.func3, Try.ntmps3
  go_upto_region 1 with fail
  generalize hWW : (((w.alloc (.cells #[.int .i64 m.x.k, .int .i64 m.x.n, .string m.x.s, .slice m.a m.m m.c, .int .i64 m.x.f, .int .i64 m.x.t] 24)).alloc (.cells #[.int .i64 a.x.k, .int .i64 a.x.n, .string a.x.s, .slice a.a a.m a.c, .int .i64 a.x.f, .int .i64 a.x.t] 24)).alloc (.cells #[.int .i64 v.x, .slice v.a v.m v.c] 27)) = W at HW HX HY HMB ⊢
  clear hWW
  have m0 := HMB.out.cell 0; have m1 := HMB.out.cell 1; have m2 := HMB.out.cell 2; have m3 := HMB.out.cell 3; have m4 := HMB.out.cell 4; have m5 := HMB.out.cell 5
  simp at m0 m1 m2 m3 m4 m5
  go_wp2_with fail
  refine (te.rlarge_any m W (HMR.out.below HW.out)).mono ?_
  rintro e w1 ⟨lr, rfl, hl1, hb1⟩
  have HB1 := Lib.hid (HW.out.trans (hb1.mono HW.out.size))
  have HX1 := Lib.hid (HX.out.below hb1); have HY1 := Lib.hid (HY.out.below hb1); have HM1 := Lib.hid (HMB.out.below hb1)
  have HL1 := Lib.hid hl1
  clear hb1 hl1 m0 m1 m2 m3 m4 m5 HX HY HMB
  cases lr with
  | true =>
    go_wp2_with fail
    refine (va.awake_any _).mono ?_
    rintro e w2 ⟨rfl, hb2⟩
    have HB2 := Lib.hid (HB1.out.trans (hb2.mono HB1.out.size))
    clear hb2
    go_wp2
    go_ret
    exact ⟨rfl, HB2.out⟩
  | false =>
  have a0 := HX1.out.cell 0; have a1 := HX1.out.cell 1; have a2 := HX1.out.cell 2; have a3 := HX1.out.cell 3; have a4 := HX1.out.cell 4; have a5 := HX1.out.cell 5
  simp at a0 a1 a2 a3 a4 a5
  go_wp2_with fail
  refine (te.rlarge_any a w1 (HAR.out.below HB1.out)).mono ?_
  rintro e w2 ⟨lr, rfl, hl2, hb2⟩
  have HB2 := Lib.hid (HB1.out.trans (hb2.mono HB1.out.size))
  have HX2 := Lib.hid (HX1.out.below hb2); have HY2 := Lib.hid (HY1.out.below hb2); have HM2 := Lib.hid (HM1.out.below hb2)
  clear hb2 hl2 a0 a1 a2 a3 a4 a5 HX1 HY1 HM1
  cases lr with
  | true =>
    go_wp2_with fail
    refine (va.awake_any _).mono ?_
    rintro e w3 ⟨rfl, hb3⟩
    have HB3 := Lib.hid (HB2.out.trans (hb3.mono HB2.out.size))
    clear hb3
    go_wp2
    go_ret
    exact ⟨rfl, HB3.out⟩
  | false =>
  have y0 := HY2.out.cell 0; have y1 := HY2.out.cell 1
  simp at y0 y1
  go_wp2_with fail
  refine (va.rlarge_any v w2 (HVR.out.below HB2.out)).mono ?_
  rintro e w3 ⟨lr, rfl, hl3, hb3⟩
  have HB3 := Lib.hid (HB2.out.trans (hb3.mono HB2.out.size))
  have HX3 := Lib.hid (HX2.out.below hb3); have HY3 := Lib.hid (HY2.out.below hb3); have HM3 := Lib.hid (HM2.out.below hb3)
  clear hb3 hl3 y0 y1 HX2 HY2 HM2
  cases lr with
  | true =>
    go_wp2_with fail
    refine (va.awake_any _).mono ?_
    rintro e w4 ⟨rfl, hb4⟩
    have HB4 := Lib.hid (HB3.out.trans (hb4.mono HB3.out.size))
    clear hb4
    go_wp2
    go_ret
    exact ⟨rfl, HB4.out⟩
  | false =>
  obtain ⟨hN, hK⟩ := size_kids (HL1.out (by trivial))
  have HK := Lib.hid hK
  clear hK HL1
  go_upto_region 3 with fail
  go_wp2_with (first | (refine wpList_load_T rfl _ rfl rfl HM3.out ?_) | (refine wpList_load_T rfl _ rfl rfl HX3.out ?_))
  refine (pzero_any m a w3 (HMR.out.below HB3.out) (HAR.out.below HB3.out) hN HK.out).mono ?_
  rintro e w4 ⟨z, rfl, hzt, hzr, hb4⟩
  have hbA : Below w4.heap.size w4 (w4.alloc (.cells #[.int .i64 z.x, .slice z.a z.m z.c] 27)) := (Below.refl _ _).alloc (Nat.le_refl _) _
  have HZR := Lib.hid (hzr.below hbA); have HZT := Lib.hid hzt
  have HZB : Hid (Blk (w4.alloc (.cells #[.int .i64 z.x, .slice z.a z.m z.c] 27)) w4.heap.size #[.int .i64 z.x, .slice z.a z.m z.c] 27) := Lib.hid (Blk.new w4 _ _)
  have HK4 := Lib.hid (hb4.trans (hbA.mono hb4.size))
  clear hb4 hzt hzr hbA
  go_upto_region 4 with fail
  generalize hW5 : w4.alloc (.cells #[.int .i64 z.x, .slice z.a z.m z.c] 27) = w5 at HZR HZB HK4 ⊢
  generalize w4.heap.size = gz at HZB ⊢
  clear hW5
  have HB5 := Lib.hid (HB3.out.trans (HK4.out.mono HB3.out.size))
  have HX5 := Lib.hid (HX3.out.below HK4.out); have HY5 := Lib.hid (HY3.out.below HK4.out); have HM5 := Lib.hid (HM3.out.below HK4.out)
  clear HX3 HY3 HM3 HK4
  have hkq : ∀ V, Below w5.heap.size w5 V → V.cell? ⟨w.heap.size, 0, none⟩ = some (.int .i64 m.x.k) ∧ V.cell? ⟨w.heap.size, 3, none⟩ = some (.slice m.a m.m m.c) ∧ V.cell? ⟨w.heap.size, 1, none⟩ = some (.int .i64 m.x.n) ∧ V.cell? ⟨w.heap.size, 2, none⟩ = some (.string m.x.s) ∧ V.cell? ⟨w.heap.size, 4, none⟩ = some (.int .i64 m.x.f) ∧ V.cell? ⟨w.heap.size, 5, none⟩ = some (.int .i64 m.x.t) ∧ V.cell? ⟨w.heap.size + 1, 0, none⟩ = some (.int .i64 a.x.k) ∧ V.cell? ⟨w.heap.size + 1, 3, none⟩ = some (.slice a.a a.m a.c) ∧ V.cell? ⟨w.heap.size + 1, 1, none⟩ = some (.int .i64 a.x.n) ∧ V.cell? ⟨w.heap.size + 1, 2, none⟩ = some (.string a.x.s) ∧ V.cell? ⟨w.heap.size + 1, 4, none⟩ = some (.int .i64 a.x.f) ∧ V.cell? ⟨w.heap.size + 1, 5, none⟩ = some (.int .i64 a.x.t) ∧ V.cell? ⟨w.heap.size + 1 + 1, 0, none⟩ = some (.int .i64 v.x) ∧ V.cell? ⟨w.heap.size + 1 + 1, 1, none⟩ = some (.slice v.a v.m v.c) ∧ V.cell? ⟨gz, 0, none⟩ = some (.int .i64 z.x) ∧ V.cell? ⟨gz, 1, none⟩ = some (.slice z.a z.m z.c) := fun V hV => by
    have hm2 := HM5.out.below hV; have hx2 := HX5.out.below hV; have hy2 := HY5.out.below hV; have hz2 := HZB.out.below hV
    have m0 := hm2.cell 0; have m1 := hm2.cell 1; have m2 := hm2.cell 2; have m3 := hm2.cell 3; have m4 := hm2.cell 4; have m5 := hm2.cell 5
    have a0 := hx2.cell 0; have a1 := hx2.cell 1; have a2 := hx2.cell 2; have a3 := hx2.cell 3; have a4 := hx2.cell 4; have a5 := hx2.cell 5
    have y0 := hy2.cell 0; have y1 := hy2.cell 1; have z0 := hz2.cell 0; have z1 := hz2.cell 1
    simp at m0 m1 m2 m3 m4 m5 a0 a1 a2 a3 a4 a5 y0 y1 z0 z1
    exact ⟨m0, m3, m1, m2, m4, m5, a0, a3, a1, a2, a4, a5, y0, y1, z0, z1⟩
  have KQ := Lib.hid hkq
  have K0 : Hid (Below w5.heap.size w5 w5.drew) := Lib.hid (Below.drew (Below.refl _ _))
  obtain ⟨c, hc⟩ : ∃ c, ce m.l m.l.length a.tr = c := ⟨_, rfl⟩
  obtain ⟨b1, hb1⟩ : ∃ b1, decide (0 < c) = b1 := ⟨_, rfl⟩
  have hok1 : b1 = true ↔ (Ok m.l a.tr ∧ fit m.l z.tr a.tr) := by
    rw [← hb1, decide_eq_true_eq, ← hc]
    refine ⟨fun h => ⟨h, ?_⟩, fun h => h.1⟩
    obtain ⟨f, hf, hz⟩ := zv_ok (M := m.l) (t := a.tr) h
    rw [HZT.out, hz]
    exact zero_fit m.l f a.tr hf
  have d1 : decide ((0 : Int) < (c : Int)) = b1 := by rw [← hb1]; simp
  obtain ⟨b2, hb2⟩ := bool_of (Ok m.l a.tr ∧ fit m.l v.tr a.tr)
  have HRZ := Lib.hid (fun (V : World) (hV : Below w5.heap.size w5 V) => show Calls Try.prog 10 #[(.agg #[.int .i64 m.x.k, .int .i64 m.x.n, .string m.x.s, .slice m.a m.m m.c, .int .i64 m.x.f, .int .i64 m.x.t]), (.agg #[.int .i64 a.x.k, .int .i64 a.x.n, .string a.x.s, .slice a.a a.m a.c, .int .i64 a.x.f, .int .i64 a.x.t])] V (ZvP (zv m.l a.tr) V) from rzero_any m a V ((HMR.out.below HB5.out).below hV) ((HAR.out.below HB5.out).below hV) hN HK.out)
  have HSM := Lib.hid (fun (V : World) (x : va.Vn) (hV : Below w5.heap.size w5 V) (hxt : x.tr = zv m.l a.tr) (hxr : x.Rd V) => show Calls Try.prog 9 #[(.agg #[.int .i64 z.x, .slice z.a z.m z.c]), (.agg #[.int .i64 x.x, .slice x.a x.m x.c])] V (fun e w' => e = .returned (.bool true) ∧ Below V.heap.size V w') from
    (va.rsame_any z.tr z x V rfl (HZR.out.below hV) hxr).mono (by
      rintro e w' ⟨r, rfl, hr, hb⟩
      have : r = true := hr.2 (HZT.out.trans hxt.symm)
      subst this
      exact ⟨rfl, hb⟩))
  have HF1 := Lib.hid (fun (V : World) (hV : Below w5.heap.size w5 V) => show Calls Try.prog 11 #[(.agg #[.int .i64 m.x.k, .int .i64 m.x.n, .string m.x.s, .slice m.a m.m m.c, .int .i64 m.x.f, .int .i64 m.x.t]), (.agg #[.int .i64 a.x.k, .int .i64 a.x.n, .string a.x.s, .slice a.a a.m a.c, .int .i64 a.x.f, .int .i64 a.x.t]), (.agg #[.int .i64 z.x, .slice z.a z.m z.c])] V (fun e w' => e = .returned (.bool b1) ∧ Below V.heap.size V w') from
    (pfits_any m a z V ((HMR.out.below HB5.out).below hV) ((HAR.out.below HB5.out).below hV) (HZR.out.below hV) hN HK.out).mono (bp_same hok1))
  have HCE := Lib.hid (fun (V : World) (hV : Below w5.heap.size w5 V) => show Calls Try.prog 12 #[(.agg #[.int .i64 m.x.k, .int .i64 m.x.n, .string m.x.s, .slice m.a m.m m.c, .int .i64 m.x.f, .int .i64 m.x.t]), (.agg #[.int .i64 a.x.k, .int .i64 a.x.n, .string a.x.s, .slice a.a a.m a.c, .int .i64 a.x.f, .int .i64 a.x.t])] V (CsP c V) from by
    have h := rcells_any m a V ((HMR.out.below HB5.out).below hV) ((HAR.out.below HB5.out).below hV) hN
    rw [hc] at h
    exact h)
  have HF2 := Lib.hid (fun (V : World) (hV : Below w5.heap.size w5 V) => show Calls Try.prog 11 #[(.agg #[.int .i64 m.x.k, .int .i64 m.x.n, .string m.x.s, .slice m.a m.m m.c, .int .i64 m.x.f, .int .i64 m.x.t]), (.agg #[.int .i64 a.x.k, .int .i64 a.x.n, .string a.x.s, .slice a.a a.m a.c, .int .i64 a.x.f, .int .i64 a.x.t]), (.agg #[.int .i64 v.x, .slice v.a v.m v.c])] V (fun e w' => e = .returned (.bool b2) ∧ Below V.heap.size V w') from
    (pfits_any m a v V ((HMR.out.below HB5.out).below hV) ((HAR.out.below HB5.out).below hV) ((HVR.out.below HB5.out).below hV) hN HK.out).mono (bp_same hb2))
  have HR2 := Lib.hid (fun (V : World) (hV : Below w5.heap.size w5 V) => show Calls Try.prog 13 #[(.agg #[.int .i64 m.x.k, .int .i64 m.x.n, .string m.x.s, .slice m.a m.m m.c, .int .i64 m.x.f, .int .i64 m.x.t]), (.agg #[.int .i64 a.x.k, .int .i64 a.x.n, .string a.x.s, .slice a.a a.m a.c, .int .i64 a.x.f, .int .i64 a.x.t]), (.agg #[.int .i64 v.x, .slice v.a v.m v.c])] V (fun e w' => e = .returned (.bool b2) ∧ Below V.heap.size V w') from
    (rfits_any m a v V ((HMR.out.below HB5.out).below hV) ((HAR.out.below HB5.out).below hV) ((HVR.out.below HB5.out).below hV) hN HK.out).mono (bp_same hb2))
  have d2 : decide (0 < c) = b1 := hb1
  clear hkq hc hb1 hok1 hb2
  cases b1 <;> cases b2 <;> (
    go_region_held3 (fun V => V.cell? ⟨w.heap.size, 0, none⟩ = some (.int .i64 m.x.k) ∧ V.cell? ⟨w.heap.size, 3, none⟩ = some (.slice m.a m.m m.c) ∧ V.cell? ⟨w.heap.size, 1, none⟩ = some (.int .i64 m.x.n) ∧ V.cell? ⟨w.heap.size, 2, none⟩ = some (.string m.x.s) ∧ V.cell? ⟨w.heap.size, 4, none⟩ = some (.int .i64 m.x.f) ∧ V.cell? ⟨w.heap.size, 5, none⟩ = some (.int .i64 m.x.t) ∧ V.cell? ⟨w.heap.size + 1, 0, none⟩ = some (.int .i64 a.x.k) ∧ V.cell? ⟨w.heap.size + 1, 3, none⟩ = some (.slice a.a a.m a.c) ∧ V.cell? ⟨w.heap.size + 1, 1, none⟩ = some (.int .i64 a.x.n) ∧ V.cell? ⟨w.heap.size + 1, 2, none⟩ = some (.string a.x.s) ∧ V.cell? ⟨w.heap.size + 1, 4, none⟩ = some (.int .i64 a.x.f) ∧ V.cell? ⟨w.heap.size + 1, 5, none⟩ = some (.int .i64 a.x.t) ∧ V.cell? ⟨w.heap.size + 1 + 1, 0, none⟩ = some (.int .i64 v.x) ∧ V.cell? ⟨w.heap.size + 1 + 1, 1, none⟩ = some (.slice v.a v.m v.c) ∧ V.cell? ⟨gz, 0, none⟩ = some (.int .i64 z.x) ∧ V.cell? ⟨gz, 1, none⟩ = some (.slice z.a z.m z.c))
      (with_reducible first | exact KQ.out _ K0.out | exact KQ.out _ KA.out | exact KQ.out _ KB.out | exact KQ.out _ KC.out | exact KQ.out _ KD.out | exact KQ.out _ KE.out | exact KQ.out _ KF.out | exact KQ.out _ KG.out)
      (first
        | (go_at_call 10; (with_reducible refine (HRZ.out _ K0.out).mono ?_); rintro e wa ⟨x, rfl, hxt, hxr, hba⟩; have HXT := Lib.hid hxt; have HXR := Lib.hid hxr; have KA : Hid (Below w5.heap.size w5 wa) := Lib.hid (K0.out.trans (hba.mono K0.out.size)); clear hxt hxr hba)
        | (go_at_call 9; (with_reducible refine (HSM.out _ x KA.out HXT.out HXR.out).mono ?_); rintro e wb ⟨rfl, hba⟩; have KB : Hid (Below w5.heap.size w5 wb) := Lib.hid (KA.out.trans (hba.mono KA.out.size)); clear hba)
        | (go_at_call 11; (with_reducible refine (HF1.out _ KB.out).mono ?_); rintro e wc ⟨rfl, hba⟩; have KC : Hid (Below w5.heap.size w5 wc) := Lib.hid (KB.out.trans (hba.mono KB.out.size)); clear hba)
        | (go_at_call 12; (with_reducible refine (HCE.out _ KC.out).mono ?_); rintro e wd ⟨rfl, hba⟩; have KD : Hid (Below w5.heap.size w5 wd) := Lib.hid (KC.out.trans (hba.mono KC.out.size)); clear hba)
        | (go_at_call 11; (with_reducible refine (HF2.out _ KD.out).mono ?_); rintro e we ⟨rfl, hba⟩; have KE : Hid (Below w5.heap.size w5 we) := Lib.hid (KD.out.trans (hba.mono KD.out.size)); clear hba)
        | (go_at_call 13; (with_reducible refine (HR2.out _ KE.out).mono ?_); rintro e wf ⟨rfl, hba⟩; have KF : Hid (Below w5.heap.size w5 wf) := Lib.hid (KE.out.trans (hba.mono KE.out.size)); clear hba)
        | (go_at_call 7; (with_reducible refine (va.awake_any _).mono ?_); rintro e wg ⟨rfl, hba⟩; have KG : Hid (Below w5.heap.size w5 wg) := Lib.hid (KF.out.trans (hba.mono KF.out.size)); clear hba)
        | fail)
    all_goals (
      have HE := Lib.hid (HB5.out.trans (KG.out.mono HB5.out.size))
      go_wp2
      go_ret
      exact ⟨rfl, HE.out⟩))
end Go.Proofs.Ytpdicfekhghfeaa.zf
