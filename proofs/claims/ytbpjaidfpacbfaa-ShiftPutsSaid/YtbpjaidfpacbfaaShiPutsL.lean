/-
  Layer 14: ShiftPuts' law.
-/
import Derived.Test.YtbpjaidfpacbfaaShiSize
import Derived.Test.YtbpjaidfpacbfaaShiSubst
namespace Go.Proofs.Ytbpjaidfpacbfaa.te
open Go.ChangeShapes Go.WideShapes Go.ChangeAt Go.RowKit
open bs tr
set_option linter.unusedVariables false

/-- What the law asks ahead. -/
def Asks2 (b : Bool) (t u : VT) : Prop := b = false → t.size ≤ 400 ∧ u.size ≤ 400

set_option maxRecDepth 100000 in
set_option maxHeartbeats 8000000 in
theorem law_puts14 (v u : Vn) (fr : Int) (w : World) (hv : v.Rd w) (hu : u.Rd w) (hf0 : te.I64 fr) : Calls Try.prog 8 #[v.val, u.val, .int .i64 fr] w (Good w) := by
  have hW : Below w.heap.size w ((w.alloc (.cells #[.int .i64 v.x.k, .int .i64 v.x.n, .string v.x.s, .slice v.a v.m v.c, .int .i64 v.x.f, .int .i64 v.x.t] 24)).alloc (.cells #[.int .i64 u.x.k, .int .i64 u.x.n, .string u.x.s, .slice u.a u.m u.c, .int .i64 u.x.f, .int .i64 u.x.t] 24)) := ((Below.refl _ _).alloc (Nat.le_refl _) _).alloc (by simp) _
  have hZ : VB ((w.alloc (.cells #[.int .i64 v.x.k, .int .i64 v.x.n, .string v.x.s, .slice v.a v.m v.c, .int .i64 v.x.f, .int .i64 v.x.t] 24)).alloc (.cells #[.int .i64 u.x.k, .int .i64 u.x.n, .string u.x.s, .slice u.a u.m u.c, .int .i64 u.x.f, .int .i64 u.x.t] 24)) w.heap.size v := (vb_new w v).below (below_alloc _ _)
  have hX : VB ((w.alloc (.cells #[.int .i64 v.x.k, .int .i64 v.x.n, .string v.x.s, .slice v.a v.m v.c, .int .i64 v.x.f, .int .i64 v.x.t] 24)).alloc (.cells #[.int .i64 u.x.k, .int .i64 u.x.n, .string u.x.s, .slice u.a u.m u.c, .int .i64 u.x.f, .int .i64 u.x.t] 24)) (w.heap.size + 1) u := by
    have h := vb_new (w.alloc (.cells #[.int .i64 v.x.k, .int .i64 v.x.n, .string v.x.s, .slice v.a v.m v.c, .int .i64 v.x.f, .int .i64 v.x.t] 24)) u
    rwa [size_alloc] at h
  have HW := Lib.hid hW; have HZ := Lib.hid hZ; have HX := Lib.hid hX
  have HV := Lib.hid hv; have HU := Lib.hid hu; have HF := Lib.hid hf0
  clear hv hu hf0 hW hZ hX
  unfold Vn.val
  go_enter Try.func8, Try.ntmps8
  go_upto_region 1 with fail
  generalize hWW : (w.alloc (.cells #[.int .i64 v.x.k, .int .i64 v.x.n, .string v.x.s, .slice v.a v.m v.c, .int .i64 v.x.f, .int .i64 v.x.t] 24)).alloc (.cells #[.int .i64 u.x.k, .int .i64 u.x.n, .string u.x.s, .slice u.a u.m u.c, .int .i64 u.x.f, .int .i64 u.x.t] 24) = W at HW HZ HX ⊢
  clear hWW
  go_cut [23] from 8 to 23 (fun s23 wx => ∃ b : Bool, s23 = .bool b ∧ Hid (Asks2 b v.tr u.tr) ∧ Hid (Below w.heap.size w wx) ∧ Hid (VB wx w.heap.size v) ∧ Hid (VB wx (w.heap.size + 1) u))
  case first =>
    go_wp2_with (refine wpList_load_T rfl _ rfl rfl HZ.out ?_)
    refine (rlarge_any v W (HV.out.below HW.out)).mono ?_
    rintro e w1 ⟨lr, rfl, hl1, hb1⟩
    have HB1 := Lib.hid (HW.out.trans (hb1.mono HW.out.size))
    have HZ1 := Lib.hid (HZ.out.below hb1); have HX1 := Lib.hid (HX.out.below hb1)
    have HL1 := Lib.hid hl1
    clear hb1 hl1 HZ HX
    cases lr with
    | true =>
      go_wp2_with fail
      go_meet
      exact ⟨true, rfl, (fun h => by cases h), HB1, HZ1, HX1⟩
    | false =>
      have hsv : v.tr.size ≤ 400 := HL1.out (by trivial)
      have HSV := Lib.hid hsv
      clear hsv HL1
      have z0 := HZ1.out.cell 0; have z1 := HZ1.out.cell 1; have z2 := HZ1.out.cell 2; have z3 := HZ1.out.cell 3; have z4 := HZ1.out.cell 4; have z5 := HZ1.out.cell 5
      simp at z0 z1 z2 z3 z4 z5
      go_wp2_with fail
      refine (rsize_any v.tr v w1 rfl (HV.out.below HB1.out) (by have := HSV.out; omega)).mono ?_
      rintro e w2 ⟨rfl, hb2⟩
      have HB2 := Lib.hid (HB1.out.trans (hb2.mono HB1.out.size))
      have HZ2 := Lib.hid (HZ1.out.below hb2); have HX2 := Lib.hid (HX1.out.below hb2)
      clear hb2 z0 z1 z2 z3 z4 z5 HZ1 HX1
      obtain ⟨sv, hsv⟩ : ∃ n : Nat, v.tr.size = n := ⟨_, rfl⟩
      rw [hsv]
      clear hsv
      by_cases c1 : (60 : Int) < (sv : Int)
      · have c2 : decide ((60 : Int) < (sv : Int)) = true := decide_eq_true c1
        go_wp2_with fail
        go_meet
        exact ⟨true, rfl, (fun h => by cases h), HB2, HZ2, HX2⟩
      have c2 : decide ((60 : Int) < (sv : Int)) = false := decide_eq_false c1
      have y0 := HX2.out.cell 0; have y1 := HX2.out.cell 1; have y2 := HX2.out.cell 2; have y3 := HX2.out.cell 3; have y4 := HX2.out.cell 4; have y5 := HX2.out.cell 5
      simp at y0 y1 y2 y3 y4 y5
      go_wp2_with fail
      refine (rlarge_any u w2 (HU.out.below HB2.out)).mono ?_
      rintro e w3 ⟨lr, rfl, hl3, hb3⟩
      have HB3 := Lib.hid (HB2.out.trans (hb3.mono HB2.out.size))
      have HZ3 := Lib.hid (HZ2.out.below hb3); have HX3 := Lib.hid (HX2.out.below hb3)
      have HL3 := Lib.hid hl3
      clear hb3 hl3 HZ2 HX2 y0 y1 y2 y3 y4 y5
      cases lr with
      | true =>
        go_wp2_with fail
        go_meet
        exact ⟨true, rfl, (fun h => by cases h), HB3, HZ3, HX3⟩
      | false =>
        have hsu : u.tr.size ≤ 400 := HL3.out (by trivial)
        have HSU := Lib.hid hsu
        clear hsu HL3
        have y0 := HX3.out.cell 0; have y1 := HX3.out.cell 1; have y2 := HX3.out.cell 2; have y3 := HX3.out.cell 3; have y4 := HX3.out.cell 4; have y5 := HX3.out.cell 5
        simp at y0 y1 y2 y3 y4 y5
        go_wp2_with fail
        refine (rsize_any u.tr u w3 rfl (HU.out.below HB3.out) (by have := HSU.out; omega)).mono ?_
        rintro e w4 ⟨rfl, hb4⟩
        have HB4 := Lib.hid (HB3.out.trans (hb4.mono HB3.out.size))
        have HZ4 := Lib.hid (HZ3.out.below hb4); have HX4 := Lib.hid (HX3.out.below hb4)
        clear hb4 y0 y1 y2 y3 y4 y5 HZ3 HX3
        obtain ⟨su, hsu⟩ : ∃ n : Nat, u.tr.size = n := ⟨_, rfl⟩
        rw [hsu]
        clear hsu
        have HA : ∀ b, Hid (Asks2 b v.tr u.tr) := fun b => Lib.hid (fun _ => ⟨HSV.out, HSU.out⟩)
        by_cases c3 : (60 : Int) < (su : Int)
        · have c4 : decide ((60 : Int) < (su : Int)) = true := decide_eq_true c3
          go_wp2_with fail
          go_meet
          exact ⟨_, rfl, HA _, HB4, HZ4, HX4⟩
        have c4 : decide ((60 : Int) < (su : Int)) = false := decide_eq_false c3
        go_wp2_with fail
        go_meet
        exact ⟨_, rfl, HA _, HB4, HZ4, HX4⟩
  case rest =>
    obtain ⟨b, rfl, HA, HB1, HZ1, HX1⟩ := hcut
    clear HZ HX
    cases b with
    | true =>
      go_wp2_with fail
      refine (awake14 _).mono ?_
      rintro e w2 ⟨rfl, hb2⟩
      have HB2 := Lib.hid (HB1.out.trans (hb2.mono HB1.out.size))
      clear hb2
      go_wp2
      go_ret
      exact ⟨rfl, HB2.out⟩
    | false =>
    obtain ⟨hsv, hsu⟩ := HA.out rfl
    have HSV : Hid (v.tr.size ≤ 100000) := Lib.hid (by omega)
    have HSU : Hid (u.tr.size ≤ 100000) := Lib.hid (by omega)
    clear hsv hsu HA
    go_wp2_with (first | (refine wpList_load_T rfl _ rfl rfl HZ1.out ?_) | (refine wpList_load_T rfl _ rfl rfl HX1.out ?_))
    refine (psub_any v u fr _ (HV.out.below HB1.out) (HU.out.below HB1.out) HF.out HSV.out HSU.out).mono ?_
    rintro e w2 ⟨r, rfl, hrt, hr, hb2⟩
    have hbA : Below w2.heap.size w2 (w2.alloc (.cells #[.int .i64 r.x.k, .int .i64 r.x.n, .string r.x.s, .slice r.a r.m r.c, .int .i64 r.x.f, .int .i64 r.x.t] 24)) := below_alloc _ _
    have HR := Lib.hid (hr.below hbA)
    have HG : Hid (VB (w2.alloc (.cells #[.int .i64 r.x.k, .int .i64 r.x.n, .string r.x.s, .slice r.a r.m r.c, .int .i64 r.x.f, .int .i64 r.x.t] 24)) w2.heap.size r) := vb_new w2 r
    have HB2 := Lib.hid (HB1.out.trans ((hb2.trans (hbA.mono hb2.size)).mono HB1.out.size))
    have HZ2 := Lib.hid (HZ1.out.below (hb2.trans (hbA.mono hb2.size))); have HX2 := Lib.hid (HX1.out.below (hb2.trans (hbA.mono hb2.size)))
    have HRT := Lib.hid hrt
    clear hb2 hr hrt hbA HZ1 HX1
    go_upto_region 4 with fail
    generalize hW2 : w2.alloc (.cells #[.int .i64 r.x.k, .int .i64 r.x.n, .string r.x.s, .slice r.a r.m r.c, .int .i64 r.x.f, .int .i64 r.x.t] 24) = w3 at HR HG HB2 HZ2 HX2 ⊢
    generalize w2.heap.size = g2 at HG ⊢
    clear hW2
    have Kp := Lib.hid (show ∀ V : World, Hid (Below w3.heap.size w3 V) → V.cell? ⟨w.heap.size, 0, none⟩ = some (.int .i64 v.x.k) ∧ V.cell? ⟨w.heap.size, 1, none⟩ = some (.int .i64 v.x.n) ∧ V.cell? ⟨w.heap.size, 2, none⟩ = some (.string v.x.s) ∧ V.cell? ⟨w.heap.size, 3, none⟩ = some (.slice v.a v.m v.c) ∧ V.cell? ⟨w.heap.size, 4, none⟩ = some (.int .i64 v.x.f) ∧ V.cell? ⟨w.heap.size, 5, none⟩ = some (.int .i64 v.x.t) ∧ V.cell? ⟨w.heap.size + 1, 0, none⟩ = some (.int .i64 u.x.k) ∧ V.cell? ⟨w.heap.size + 1, 1, none⟩ = some (.int .i64 u.x.n) ∧ V.cell? ⟨w.heap.size + 1, 2, none⟩ = some (.string u.x.s) ∧ V.cell? ⟨w.heap.size + 1, 3, none⟩ = some (.slice u.a u.m u.c) ∧ V.cell? ⟨w.heap.size + 1, 4, none⟩ = some (.int .i64 u.x.f) ∧ V.cell? ⟨w.heap.size + 1, 5, none⟩ = some (.int .i64 u.x.t) ∧ V.cell? ⟨g2, 0, none⟩ = some (.int .i64 r.x.k) ∧ V.cell? ⟨g2, 1, none⟩ = some (.int .i64 r.x.n) ∧ V.cell? ⟨g2, 2, none⟩ = some (.string r.x.s) ∧ V.cell? ⟨g2, 3, none⟩ = some (.slice r.a r.m r.c) ∧ V.cell? ⟨g2, 4, none⟩ = some (.int .i64 r.x.f) ∧ V.cell? ⟨g2, 5, none⟩ = some (.int .i64 r.x.t) from
      fun V h => ⟨(HZ2.out.below h.out).cell 0, (HZ2.out.below h.out).cell 1, (HZ2.out.below h.out).cell 2, (HZ2.out.below h.out).cell 3, (HZ2.out.below h.out).cell 4, (HZ2.out.below h.out).cell 5, (HX2.out.below h.out).cell 0, (HX2.out.below h.out).cell 1, (HX2.out.below h.out).cell 2, (HX2.out.below h.out).cell 3, (HX2.out.below h.out).cell 4, (HX2.out.below h.out).cell 5, (HG.out.below h.out).cell 0, (HG.out.below h.out).cell 1, (HG.out.below h.out).cell 2, (HG.out.below h.out).cell 3, (HG.out.below h.out).cell 4, (HG.out.below h.out).cell 5⟩)
    have HP := Lib.hid (show ∀ V : World, Hid (Below w3.heap.size w3 V) → Calls Try.prog 38 #[.agg #[.int .i64 v.x.k, .int .i64 v.x.n, .string v.x.s, .slice v.a v.m v.c, .int .i64 v.x.f, .int .i64 v.x.t], .agg #[.int .i64 u.x.k, .int .i64 u.x.n, .string u.x.s, .slice u.a u.m u.c, .int .i64 u.x.f, .int .i64 u.x.t], .int .i64 fr] V (RX (tf.sh u fr v.tr 0) V) from
      fun V h => rsub_any v u fr V ((HV.out.below HB2.out).below h.out) ((HU.out.below HB2.out).below h.out) HSV.out HSU.out)
    have K0 : Hid (Below w3.heap.size w3 w3.drew) := Below.drew (Below.refl _ _)
    have KR : Hid (Below w3.heap.size w3 w3) := Below.refl _ _
    have HRV := Lib.hid (show ∀ V : World, Hid (Below w3.heap.size w3 V) → r.Rd V from fun V h => HR.out.below h.out)
    go_region_held3 (fun V => V.cell? ⟨w.heap.size, 0, none⟩ = some (.int .i64 v.x.k) ∧ V.cell? ⟨w.heap.size, 1, none⟩ = some (.int .i64 v.x.n) ∧ V.cell? ⟨w.heap.size, 2, none⟩ = some (.string v.x.s) ∧ V.cell? ⟨w.heap.size, 3, none⟩ = some (.slice v.a v.m v.c) ∧ V.cell? ⟨w.heap.size, 4, none⟩ = some (.int .i64 v.x.f) ∧ V.cell? ⟨w.heap.size, 5, none⟩ = some (.int .i64 v.x.t) ∧ V.cell? ⟨w.heap.size + 1, 0, none⟩ = some (.int .i64 u.x.k) ∧ V.cell? ⟨w.heap.size + 1, 1, none⟩ = some (.int .i64 u.x.n) ∧ V.cell? ⟨w.heap.size + 1, 2, none⟩ = some (.string u.x.s) ∧ V.cell? ⟨w.heap.size + 1, 3, none⟩ = some (.slice u.a u.m u.c) ∧ V.cell? ⟨w.heap.size + 1, 4, none⟩ = some (.int .i64 u.x.f) ∧ V.cell? ⟨w.heap.size + 1, 5, none⟩ = some (.int .i64 u.x.t) ∧ V.cell? ⟨g2, 0, none⟩ = some (.int .i64 r.x.k) ∧ V.cell? ⟨g2, 1, none⟩ = some (.int .i64 r.x.n) ∧ V.cell? ⟨g2, 2, none⟩ = some (.string r.x.s) ∧ V.cell? ⟨g2, 3, none⟩ = some (.slice r.a r.m r.c) ∧ V.cell? ⟨g2, 4, none⟩ = some (.int .i64 r.x.f) ∧ V.cell? ⟨g2, 5, none⟩ = some (.int .i64 r.x.t))
      (with_reducible first | exact Kp.out _ KR | exact Kp.out _ K0 | exact Kp.out _ KB | exact Kp.out _ KA)
      (first
        | (go_at_call 38; (with_reducible refine (HP.out _ K0).mono ?_); rintro e wa ⟨s, rfl, hst, hs, hba⟩; have KA : Hid (Below w3.heap.size w3 wa) := K0.out.trans (hba.mono K0.out.size); have HS := Lib.hid hs; have HST := Lib.hid hst; clear hba hs hst)
        | (go_at_call 18; (with_reducible refine (placed_s r s _ (HRV.out _ KA) HS.out).mono ?_); rintro e wb ⟨q, rfl, hq, hbb⟩; (obtain rfl : q = true := hq.2 (HRT.out.trans HST.out.symm)); have KB : Hid (Below w3.heap.size w3 wb) := KA.out.trans (hbb.mono KA.out.size); clear hbb hq))
    have HB4 := Lib.hid (HB2.out.trans (KB.out.mono HB2.out.size))
    have HZ4 := Lib.hid (HZ2.out.below KB.out); have HG4 := Lib.hid (HG.out.below KB.out); have HR4 := Lib.hid (HR.out.below KB.out)
    clear Kp HP K0 KR KA KB HRV HS HST HZ2 HX2 HG HR
    go_wp2_with (refine wpList_load_T rfl _ rfl rfl HZ4.out ?_)
    refine (men_any fr v wb (HV.out.below HB4.out) HSV.out HF.out).mono ?_
    rintro e w5 ⟨rfl, hb5⟩
    have HB5 := Lib.hid (HB4.out.trans (hb5.mono HB4.out.size))
    have HZ5 := Lib.hid (HZ4.out.below hb5); have HG5 := Lib.hid (HG4.out.below hb5); have HR5 := Lib.hid (HR4.out.below hb5)
    clear hb5 HZ4 HG4 HR4
    obtain ⟨mm, hmm⟩ : ∃ b, tm.lo 0 fr v.tr 0 = b := ⟨_, rfl⟩
    have HMM := Lib.hid hmm
    rw [hmm]
    clear hmm
    cases mm with
    | true =>
      go_wp2_with fail
      refine (awake14 _).mono ?_
      rintro e w6 ⟨rfl, hb6⟩
      have HB6 := Lib.hid (HB5.out.trans (hb6.mono HB5.out.size))
      clear hb6
      go_wp2
      go_ret
      exact ⟨rfl, HB6.out⟩
    | false =>
      have z0 := HZ5.out.cell 0; have z1 := HZ5.out.cell 1; have z2 := HZ5.out.cell 2; have z3 := HZ5.out.cell 3; have z4 := HZ5.out.cell 4; have z5 := HZ5.out.cell 5
      have g0 := HG5.out.cell 0; have g1 := HG5.out.cell 1; have g2 := HG5.out.cell 2; have g3 := HG5.out.cell 3; have g4 := HG5.out.cell 4; have g5 := HG5.out.cell 5
      simp at z0 z1 z2 z3 z4 z5 g0 g1 g2 g3 g4 g5
      go_wp2_with fail
      refine (placed_s r v w5 HR5.out (HV.out.below HB5.out)).mono ?_
      rintro e w6 ⟨q, rfl, hq, hb6⟩
      obtain rfl : q = true := hq.2 (HRT.out.trans (unmeant u fr v.tr 0 HMM.out))
      have HB6 := Lib.hid (HB5.out.trans (hb6.mono HB5.out.size))
      clear hb6 hq z0 z1 z2 z3 z4 z5 g0 g1 g2 g3 g4 g5
      go_wp2_with fail
      refine (awake14 _).mono ?_
      rintro e w7 ⟨rfl, hb7⟩
      have HB7 := Lib.hid (HB6.out.trans (hb7.mono HB6.out.size))
      clear hb7
      go_wp2
      go_ret
      exact ⟨rfl, HB7.out⟩
end Go.Proofs.Ytbpjaidfpacbfaa.te
