/-
  Layer 14: ShiftBack.
-/
import Derived.Test.YtbpjaidfpacbfaaShiWild
import Derived.Test.YtbpjaidfpacbfaaShiLaw
namespace Go.Proofs.Ytbpjaidfpacbfaa.te
open Go.ChangeShapes Go.WideShapes Go.ChangeAt Go.RowKit
open bs tr
set_option linter.unusedVariables false

theorem inS_small {by' fr : Int} (b0 : -100 ≤ by') (b1 : by' ≤ 100) (f0 : 0 ≤ fr) (f1 : fr ≤ 100) : inS by' fr = true := by unfold inS; rw [decide_eq_true_iff]; omega

theorem up_x (by' fr : Int) (b0 : 0 ≤ by') (b1 : by' ≤ 100) (f0 : 0 ≤ fr) (f1 : fr ≤ 100) (v : Vn) (w : World) (hv : v.Rd w) (hsz : v.tr.size ≤ 100000) :
    Calls Try.prog 31 #[A6 v, .int .i64 by', .int .i64 fr] w (SX true (sh by' fr v.tr 0) w) := by
  have h := pshift_any by' fr v w hv hsz
  have ho := okS_in (inS_small (by omega) b1 f0 f1) (lo_up (fr := fr) b0 v.tr 0)
  rwa [ho.1, ho.2] at h
theorem down_x (by' fr : Int) (b0 : 0 ≤ by') (b1 : by' ≤ 100) (f0 : 0 ≤ fr) (f1 : fr ≤ 100) (v : Vn) (t : VT) (w : World) (hv : v.Rd w) (hsz : v.tr.size ≤ 100000) (ht : v.tr = sh by' fr t 0) (hw : wi t = false) :
    Calls Try.prog 31 #[A6 v, .int .i64 (-by'), .int .i64 fr] w (SX true t w) := by
  have h := pshift_any (-by') fr v w hv hsz
  have hb := back b0 b1 f0 t 0 (by omega) hw
  rw [ht] at h
  have ho := okS_in (inS_small (by omega) (by omega) f0 f1) hb.2.1
  rwa [ho.1, ho.2, hb.1] at h
theorem men_x (by' fr : Int) (b0 : 0 < by') (b1 : by' ≤ 100) (f0 : 0 ≤ fr) (f1 : fr ≤ 100) (v : Vn) (t : VT) (w : World) (hv : v.Rd w) (hsz : v.tr.size ≤ 100000) (ht : v.tr = sh by' fr t 0) (hw : wi t = false) :
    Calls Try.prog 36 #[A6 v, .int .i64 fr] w (BBP false w) := by
  have h := men_any fr v w hv hsz ⟨by omega, by omega⟩
  rwa [ht, (back (by omega) b1 f0 t 0 (by omega) hw).2.2 b0] at h

/-- What the law asks ahead. -/
def Asks (b : Bool) (t : VT) (by' fr : Int) : Prop := b = false → t.size ≤ 400 ∧ wi t = false ∧ 0 ≤ by' ∧ by' ≤ 100 ∧ 0 ≤ fr ∧ fr ≤ 100

set_option maxRecDepth 100000 in
set_option maxHeartbeats 8000000 in
theorem law_back (v : Vn) (by' fr : Int) (w : World) (hv : v.Rd w) (hb0 : te.I64 by') (hf0 : te.I64 fr) : Calls Try.prog 7 #[v.val, .int .i64 by', .int .i64 fr] w (Good w) := by
  have HW := Lib.hid (below_alloc w (.cells #[.int .i64 v.x.k, .int .i64 v.x.n, .string v.x.s, .slice v.a v.m v.c, .int .i64 v.x.f, .int .i64 v.x.t] 24))
  have HZ : Hid (VB (w.alloc (.cells #[.int .i64 v.x.k, .int .i64 v.x.n, .string v.x.s, .slice v.a v.m v.c, .int .i64 v.x.f, .int .i64 v.x.t] 24)) w.heap.size v) := vb_new w v
  have HV := Lib.hid hv
  clear hv hb0 hf0
  unfold Vn.val
  go_enter Try.func7, Try.ntmps7
  go_upto_region 1 with fail
  generalize hWW : w.alloc (.cells #[.int .i64 v.x.k, .int .i64 v.x.n, .string v.x.s, .slice v.a v.m v.c, .int .i64 v.x.f, .int .i64 v.x.t] 24) = W at HW HZ ⊢
  clear hWW
  go_cut [32] from 11 to 32 (fun s32 wx => ∃ b : Bool, s32 = .bool b ∧ Hid (Asks b v.tr by' fr) ∧ Hid (Below w.heap.size w wx) ∧ Hid (VB wx w.heap.size v))
  case first =>
    go_wp2_with (refine wpList_load_T rfl _ rfl rfl HZ.out ?_)
    refine (rlarge_any v W (HV.out.below HW.out)).mono ?_
    rintro e w1 ⟨lr, rfl, hl1, hb1⟩
    have HB1 := Lib.hid (HW.out.trans (hb1.mono HW.out.size))
    have HZ1 := Lib.hid (HZ.out.below hb1)
    have HL1 := Lib.hid hl1
    clear hb1 hl1 HZ
    cases lr with
    | true =>
      go_wp2_with fail
      go_meet
      exact ⟨true, rfl, (fun h => by cases h), HB1, HZ1⟩
    | false =>
      have r0 := HZ1.out.cell 0; have r1 := HZ1.out.cell 1; have r2 := HZ1.out.cell 2; have r3 := HZ1.out.cell 3; have r4 := HZ1.out.cell 4; have r5 := HZ1.out.cell 5
      simp at r0 r1 r2 r3 r4 r5
      go_wp2_with fail
      refine (rwild_any v.tr v w1 rfl (HV.out.below HB1.out)).mono ?_
      rintro e w2 ⟨wr, rfl, hw2, hb2⟩
      have HB2 := Lib.hid (HB1.out.trans (hb2.mono HB1.out.size))
      have HZ2 := Lib.hid (HZ1.out.below hb2)
      have HW2 := Lib.hid hw2
      clear hb2 hw2 r0 r1 r2 r3 r4 r5
      cases wr with
      | true =>
        go_wp2_with fail
        go_meet
        exact ⟨true, rfl, (fun h => by cases h), HB2, HZ2⟩
      | false =>
        by_cases c1 : by' < 0
        · go_wp2_with fail
          go_meet
          exact ⟨true, rfl, (fun h => by cases h), HB2, HZ2⟩
        by_cases c2 : by' > 100
        · go_wp2_with fail
          go_meet
          exact ⟨true, rfl, (fun h => by cases h), HB2, HZ2⟩
        by_cases c3 : fr < 0
        · go_wp2_with fail
          go_meet
          exact ⟨true, rfl, (fun h => by cases h), HB2, HZ2⟩
        by_cases c4 : fr > 100
        · go_wp2_with fail
          go_meet
          exact ⟨true, rfl, (fun h => by cases h), HB2, HZ2⟩
        go_wp2_with fail
        go_meet
        exact ⟨false, by rw [decide_eq_false (show ¬ by' < 0 by omega), decide_eq_false (show ¬ 100 < by' by omega), decide_eq_false (show ¬ fr < 0 by omega), decide_eq_false (show ¬ 100 < fr by omega)]; rfl, (fun _ => ⟨HL1.out (by trivial), HW2.out (by trivial), by omega, by omega, by omega, by omega⟩), HB2, HZ2⟩
  case rest =>
    obtain ⟨b, rfl, HA, HB1, HZ1⟩ := hcut
    clear HZ
    cases b with
    | true =>
      go_wp2_with fail
      refine (awake14 _).mono ?_
      rintro e w2 ⟨rfl, hb2⟩
      have HB2 := Lib.hid (HB1.out.trans (hb2.mono HB1.out.size))
      clear hb2
      go_wp2
      go_ret
      exact ⟨rfl, HB2.out⟩
    | false =>
    obtain ⟨hsz, hwi, b0, b1, f0, f1⟩ := HA.out rfl
    have HSZ := Lib.hid hsz; have HWI := Lib.hid hwi
    clear hsz hwi HA
    go_wp2_with (refine wpList_load_T rfl _ rfl rfl HZ1.out ?_)
    refine (up_x by' fr b0 b1 f0 f1 v _ (HV.out.below HB1.out) (by have := HSZ.out; omega)).mono ?_
    rintro e w2 ⟨r, rfl, hrt, hr, hb2⟩
    have hbA : Below w2.heap.size w2 (w2.alloc (.cells #[.int .i64 r.x.k, .int .i64 r.x.n, .string r.x.s, .slice r.a r.m r.c, .int .i64 r.x.f, .int .i64 r.x.t] 24)) := below_alloc _ _
    have HR := Lib.hid (hr.below hbA)
    have HG : Hid (VB (w2.alloc (.cells #[.int .i64 r.x.k, .int .i64 r.x.n, .string r.x.s, .slice r.a r.m r.c, .int .i64 r.x.f, .int .i64 r.x.t] 24)) w2.heap.size r) := vb_new w2 r
    have HB2 := Lib.hid (HB1.out.trans ((hb2.trans (hbA.mono hb2.size)).mono HB1.out.size))
    have HZ2 := Lib.hid (HZ1.out.below (hb2.trans (hbA.mono hb2.size)))
    have HRT := Lib.hid hrt
    have HRS : Hid (r.tr.size ≤ 100000) := by show r.tr.size ≤ 100000; rw [hrt, size_sh]; have := HSZ.out; omega
    clear hb2 hr hrt hbA HZ1
    go_upto_region 4 with fail
    generalize hW2 : w2.alloc (.cells #[.int .i64 r.x.k, .int .i64 r.x.n, .string r.x.s, .slice r.a r.m r.c, .int .i64 r.x.f, .int .i64 r.x.t] 24) = w3 at HR HG HB2 HZ2 ⊢
    generalize w2.heap.size = g2 at HG ⊢
    clear hW2
    have hwn : IntKind.i64.wrap (-by') = -by' := IntWalk.i64_in _ (by omega)
    go_wp2_with (refine wpList_load_T rfl _ rfl rfl HG.out ?_)
    refine (down_x by' fr b0 b1 f0 f1 r v.tr w3 HR.out HRS.out HRT.out HWI.out).mono ?_
    rintro e w4 ⟨s, rfl, hst, hs, hb4⟩
    have hbA : Below w4.heap.size w4 (w4.alloc (.cells #[.int .i64 s.x.k, .int .i64 s.x.n, .string s.x.s, .slice s.a s.m s.c, .int .i64 s.x.f, .int .i64 s.x.t] 24)) := below_alloc _ _
    have HS := Lib.hid (hs.below hbA)
    have HGS : Hid (VB (w4.alloc (.cells #[.int .i64 s.x.k, .int .i64 s.x.n, .string s.x.s, .slice s.a s.m s.c, .int .i64 s.x.f, .int .i64 s.x.t] 24)) w4.heap.size s) := vb_new w4 s
    have HKK := Lib.hid (hb4.trans (hbA.mono hb4.size))
    have HST := Lib.hid hst
    clear hb4 hs hst hbA hwn
    go_upto_region 5 with fail
    generalize hW4 : w4.alloc (.cells #[.int .i64 s.x.k, .int .i64 s.x.n, .string s.x.s, .slice s.a s.m s.c, .int .i64 s.x.f, .int .i64 s.x.t] 24) = w5 at HS HGS HKK ⊢
    generalize w4.heap.size = g4 at HGS ⊢
    clear hW4
    have HB5 := Lib.hid (HB2.out.trans (HKK.out.mono HB2.out.size))
    have HZ5 := Lib.hid (HZ2.out.below HKK.out); have HG5 := Lib.hid (HG.out.below HKK.out); have HR5 := Lib.hid (HR.out.below HKK.out)
    clear HKK HZ2 HG HR
    have r0 := HZ5.out.cell 0; have r1 := HZ5.out.cell 1; have r2 := HZ5.out.cell 2; have r3 := HZ5.out.cell 3; have r4 := HZ5.out.cell 4; have r5 := HZ5.out.cell 5
    have s0 := HGS.out.cell 0; have s1 := HGS.out.cell 1; have s2 := HGS.out.cell 2; have s3 := HGS.out.cell 3; have s4 := HGS.out.cell 4; have s5 := HGS.out.cell 5
    simp at r0 r1 r2 r3 r4 r5 s0 s1 s2 s3 s4 s5
    go_wp2_with fail
    refine (placed_s s v w5 HS.out (HV.out.below HB5.out)).mono ?_
    rintro e w6 ⟨q, rfl, hq, hb6⟩
    obtain rfl : q = true := hq.2 HST.out
    have HB6 := Lib.hid (HB5.out.trans (hb6.mono HB5.out.size))
    have HG6 := Lib.hid (HG5.out.below hb6); have HR6 := Lib.hid (HR5.out.below hb6)
    clear hq hb6 r0 r1 r2 r3 r4 r5 s0 s1 s2 s3 s4 s5
    by_cases hz : by' = 0
    · have e1 : (by' == 0) = true := by rw [beq_iff_eq]; exact hz
      clear hz
      go_wp2_with fail
      refine (awake14 _).mono ?_
      rintro e w7 ⟨rfl, hb7⟩
      have HB7 := Lib.hid (HB6.out.trans (hb7.mono HB6.out.size))
      clear hb7
      go_wp2
      go_ret
      exact ⟨rfl, HB7.out⟩
    · have e1 : (by' == 0) = false := by rw [beq_eq_false_iff_ne]; exact hz
      have bp : 0 < by' := by omega
      clear hz
      have r0 := HG6.out.cell 0; have r1 := HG6.out.cell 1; have r2 := HG6.out.cell 2; have r3 := HG6.out.cell 3; have r4 := HG6.out.cell 4; have r5 := HG6.out.cell 5
      simp at r0 r1 r2 r3 r4 r5
      go_wp2_with fail
      refine (men_x by' fr bp b1 f0 f1 r v.tr w6 HR6.out HRS.out HRT.out HWI.out).mono ?_
      rintro e w7 ⟨rfl, hb7⟩
      have HB7 := Lib.hid (HB6.out.trans (hb7.mono HB6.out.size))
      clear hb7 r0 r1 r2 r3 r4 r5
      go_wp2_with fail
      refine (awake14 _).mono ?_
      rintro e w8 ⟨rfl, hb8⟩
      have HB8 := Lib.hid (HB7.out.trans (hb8.mono HB7.out.size))
      clear hb8
      go_wp2
      go_ret
      exact ⟨rfl, HB8.out⟩
end Go.Proofs.Ytbpjaidfpacbfaa.te
