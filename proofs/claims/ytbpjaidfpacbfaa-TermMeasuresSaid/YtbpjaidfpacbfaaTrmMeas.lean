/-
  Layer 6: TermMeasures.
-/
import Derived.Test.YtbpjaidfpacbfaaTrmRPaths
import Derived.Test.YtbpjaidfpacbfaaTrmRBare
import Derived.Test.YtbpjaidfpacbfaaTrmRSize
import Derived.Test.YtbpjaidfpacbfaaTrmWay
namespace Go.Proofs.Ytbpjaidfpacbfaa.te
open Go.ChangeShapes Go.WideShapes Go.ChangeAt Go.RowKit
open bs tr
set_option linter.unusedVariables false

theorem placed_m (a b : Vn) (w : World) (h : a.Rd w) (h' : b.Rd w) (e : a.tr = b.tr) : Calls Try.prog 18 #[A6 a, A6 b] w (Good w) :=
  (rsame_any a.tr a b w rfl h h').mono fun _ _ ⟨b, h1, h2, h3⟩ => ⟨by rw [h1, h2.2 e], h3⟩
theorem rbare_m (a : Vn) (w : World) (h : a.Rd w) (hsz : a.tr.size ≤ 100000) : Calls Try.prog 20 #[A6 a] w (PXe (key noPl a.tr) w.heap.size w) := rbare_any a.tr a w.heap.size w rfl h.rs (Nat.le_refl _) hsz
theorem size_m (a : Vn) (w : World) (N : Nat) (hN : a.tr.size = N) (h : a.Rd w) (hsz : N ≤ 100000) : Calls Try.prog 14 #[A6 a] w (ZP N w) := by
  subst hN; exact size_any a w h hsz
theorem rsize_m (a : Vn) (w : World) (N : Nat) (hN : a.tr.size = N) (h : a.Rd w) (hsz : N ≤ 100000) : Calls Try.prog 15 #[A6 a] w (ZP N w) := by
  subst hN; exact rsize_any a.tr a w rfl h hsz
theorem depth_m (a : Vn) (w : World) (D : Nat) (hD : a.tr.depth = D) (h : a.Rd w) (hsz : a.tr.size ≤ 100000) : Calls Try.prog 16 #[A6 a] w (ZP D w) := by
  subst hD; exact depth_any a w h hsz
theorem rdepth_m (a : Vn) (w : World) (D : Nat) (hD : a.tr.depth = D) (h : a.Rd w) (hsz : a.tr.size ≤ 100000) : Calls Try.prog 17 #[A6 a] w (ZP D w) := by
  subst hD; exact rdepth_any a.tr a w rfl h hsz
theorem way_m (a : Option Addr) (n c : Nat) (p : List Int) (a' : Option Addr) (n' c' : Nat) (w : World) (hp : I64s w a n c p) (hq : I64s w a' n' c' p) : Calls Try.prog 21 #[.slice a n c, .slice a' n' c'] w (Good w) :=
  (way_any a n c p a' n' c' p w hp hq).mono fun _ _ ⟨b, h1, h2, h3⟩ => ⟨by rw [h1, h2.2 rfl], h3⟩

set_option maxRecDepth 100000 in
set_option maxHeartbeats 8000000 in
theorem law_measures (v : Vn) (w : World) (hv : v.Rd w) : Calls Try.prog 3 #[v.val] w (Good w) := by
  have HW := Lib.hid (below_alloc w (.cells #[.int .i64 v.x.k, .int .i64 v.x.n, .string v.x.s, .slice v.a v.m v.c, .int .i64 v.x.f, .int .i64 v.x.t] 24))
  have HZ : Hid (VB (w.alloc (.cells #[.int .i64 v.x.k, .int .i64 v.x.n, .string v.x.s, .slice v.a v.m v.c, .int .i64 v.x.f, .int .i64 v.x.t] 24)) w.heap.size v) := vb_new w v
  have HV := Lib.hid hv
  clear hv
  unfold Vn.val
  go_enter Try.func3, Try.ntmps3
  go_upto_region 1 with fail
  generalize hWW : w.alloc (.cells #[.int .i64 v.x.k, .int .i64 v.x.n, .string v.x.s, .slice v.a v.m v.c, .int .i64 v.x.f, .int .i64 v.x.t] 24) = W at HW HZ ⊢
  clear hWW
  go_wp2_with (refine wpList_load_T rfl _ rfl rfl HZ.out ?_)
  refine (rlarge_any v W (HV.out.below HW.out)).mono ?_
  rintro e w1 ⟨lr, rfl, hl1, hb1⟩
  have HB1 := Lib.hid (HW.out.trans (hb1.mono HW.out.size))
  have HZ1 := Lib.hid (HZ.out.below hb1)
  have HL1 := Lib.hid hl1
  clear hb1 hl1 HZ
  cases lr with
  | true =>
    go_wp2_with fail
    refine (awake_any _).mono ?_
    rintro e w2 ⟨rfl, hb2⟩
    have HB2 := Lib.hid (HB1.out.trans (hb2.mono HB1.out.size))
    clear hb2
    go_wp2
    go_ret
    exact ⟨rfl, HB2.out⟩
  | false =>
  have hsz : v.tr.size ≤ 400 := HL1.out (by trivial)
  have HSZ : Hid (v.tr.size ≤ 100000) := Lib.hid (by omega)
  clear hsz HL1
  go_wp2_with (refine wpList_load_T rfl _ rfl rfl HZ1.out ?_)
  refine (paths_any v w1 (HV.out.below HB1.out) HSZ.out).mono ?_
  rintro e w2 ⟨pa, pn, pc, rfl, hp2, hb2⟩
  have HB2 := Lib.hid (HB1.out.trans (hb2.mono HB1.out.size))
  have HZ2 := Lib.hid (HZ1.out.below hb2)
  have HP2 := Lib.hid hp2
  clear hb2 hp2 HZ1
  go_wp2_with (refine wpList_load_T rfl _ rfl rfl HZ2.out ?_)
  refine (rpaths_any v.tr v w2 rfl (HV.out.below HB2.out) HSZ.out).mono ?_
  rintro e w3 ⟨qa, qn, qc, K, rfl, hq3, hm3, hb3⟩
  have hq : WR w3 qa qn qc (pt v.tr) := by rw [← hm3]; exact hq3.reads
  have HP := Lib.hid (HP2.out.below wr_stays hb3)
  obtain rfl : qn = pn := by rw [← hq.len, ← HP2.out.len]
  have HQ := Lib.hid hq
  have HB3 := Lib.hid (HB2.out.trans (hb3.mono HB2.out.size))
  have HZ3 := Lib.hid (HZ2.out.below hb3)
  clear hq hq3 hm3 hb3 HZ2 HP2
  go_upto_region 5 with fail
  obtain ⟨N, hN⟩ : ∃ N, v.tr.size = N := ⟨_, rfl⟩
  obtain ⟨D, hD⟩ : ∃ D, v.tr.depth = D := ⟨_, rfl⟩
  have HN := Lib.hid hN; have HD := Lib.hid hD
  have HSN : Hid (N ≤ 100000) := Lib.hid (by rw [← hN]; exact HSZ.out)
  clear hN hD
  have dN : ((N : Int) != (N : Int)) = false := bne_self_eq_false _
  have dD : ((D : Int) != (D : Int)) = false := bne_self_eq_false _
  have dP : ((qn : Int) != (qn : Int)) = false := bne_self_eq_false _
  have Kp := Lib.hid (show ∀ V : World, Hid (Below w3.heap.size w3 V) → V.cell? ⟨w.heap.size, 0, none⟩ = some (.int .i64 v.x.k) ∧ V.cell? ⟨w.heap.size, 1, none⟩ = some (.int .i64 v.x.n) ∧ V.cell? ⟨w.heap.size, 2, none⟩ = some (.string v.x.s) ∧ V.cell? ⟨w.heap.size, 3, none⟩ = some (.slice v.a v.m v.c) ∧ V.cell? ⟨w.heap.size, 4, none⟩ = some (.int .i64 v.x.f) ∧ V.cell? ⟨w.heap.size, 5, none⟩ = some (.int .i64 v.x.t) from
    fun V h => ⟨(HZ3.out.below h.out).cell 0, (HZ3.out.below h.out).cell 1, (HZ3.out.below h.out).cell 2, (HZ3.out.below h.out).cell 3, (HZ3.out.below h.out).cell 4, (HZ3.out.below h.out).cell 5⟩)
  have HVD := Lib.hid (show ∀ V : World, Hid (Below w3.heap.size w3 V) → v.Rd V from fun V h => (HV.out.below HB3.out).below h.out)
  have K0 : Hid (Below w3.heap.size w3 w3.drew) := Below.drew (Below.refl _ _)
  have KR : Hid (Below w3.heap.size w3 w3) := Below.refl _ _
  go_region_held3 (fun V => V.cell? ⟨w.heap.size, 0, none⟩ = some (.int .i64 v.x.k) ∧ V.cell? ⟨w.heap.size, 1, none⟩ = some (.int .i64 v.x.n) ∧ V.cell? ⟨w.heap.size, 2, none⟩ = some (.string v.x.s) ∧ V.cell? ⟨w.heap.size, 3, none⟩ = some (.slice v.a v.m v.c) ∧ V.cell? ⟨w.heap.size, 4, none⟩ = some (.int .i64 v.x.f) ∧ V.cell? ⟨w.heap.size, 5, none⟩ = some (.int .i64 v.x.t))
    (with_reducible first | exact Kp.out _ KR | exact Kp.out _ K0 | exact Kp.out _ KG | exact Kp.out _ KF | exact Kp.out _ KE | exact Kp.out _ KD | exact Kp.out _ KC | exact Kp.out _ KB | exact Kp.out _ KA)
    (first
      | (go_at_call 14; (with_reducible refine (size_m v _ N HN.out (HVD.out _ K0) HSN.out).mono ?_); rintro e wa ⟨rfl, hba⟩; have KA : Hid (Below w3.heap.size w3 wa) := K0.out.trans (hba.mono K0.out.size); clear hba)
      | (go_at_call 15; (with_reducible refine (rsize_m v _ N HN.out (HVD.out _ KA) HSN.out).mono ?_); rintro e wb ⟨rfl, hbb⟩; have KB : Hid (Below w3.heap.size w3 wb) := KA.out.trans (hbb.mono KA.out.size); clear hbb)
      | (go_at_call 16; (with_reducible refine (depth_m v _ D HD.out (HVD.out _ KB) HSZ.out).mono ?_); rintro e wc ⟨rfl, hbc⟩; have KC : Hid (Below w3.heap.size w3 wc) := KB.out.trans (hbc.mono KB.out.size); clear hbc)
      | (go_at_call 17; (with_reducible refine (rdepth_m v _ D HD.out (HVD.out _ KC) HSZ.out).mono ?_); rintro e wd ⟨rfl, hbd⟩; have KD : Hid (Below w3.heap.size w3 wd) := KC.out.trans (hbd.mono KC.out.size); clear hbd)
      | (go_at_call 19; (with_reducible refine (bare_x v _ (HVD.out _ KD) HSZ.out).mono ?_); rintro e we ⟨s, rfl, hts, hrs, hbe⟩; have KE : Hid (Below w3.heap.size w3 we) := KD.out.trans (hbe.mono KD.out.size); have HTS := Lib.hid hts; have HRS := Lib.hid hrs.rd'; clear hts hrs hbe)
      | (go_at_call 20; (with_reducible refine (rbare_m v _ (HVD.out _ KE) HSZ.out).mono ?_); rintro e wf ⟨r, rfl, htr, hrr, hbf⟩; have KF : Hid (Below w3.heap.size w3 wf) := KE.out.trans (hbf.mono KE.out.size); have HTR := Lib.hid htr; have HRR := Lib.hid hrr.rd'; have HRS2 := Lib.hid (HRS.out.below hbf); clear htr hrr hbf)
      | (go_at_call 18; (with_reducible refine (placed_m s r _ HRS2.out HRR.out (HTS.out.trans HTR.out.symm)).mono ?_); rintro e wg ⟨rfl, hbg⟩; have KG : Hid (Below w3.heap.size w3 wg) := KF.out.trans (hbg.mono KF.out.size); clear hbg))
  have HBG := Lib.hid (HB3.out.trans (KG.out.mono HB3.out.size))
  have HPG := Lib.hid (HP.out.below wr_stays KG.out); have HQG := Lib.hid (HQ.out.below wr_stays KG.out)
  have hc1 := HP.out.cap; have hc2 := HP.out.most; have hc3 := HQ.out.cap; have hc4 := HQ.out.most
  clear Kp HVD K0 KR KA KB KC KD KE KF KG HTS HRS HTR HRR HRS2 HN HD HSN dN dD dP HSZ HV HP HQ HZ3 HB1 HB2 HB3
  go_wp2_with fail
  go_loopw [5] (fun i V => ∃ (k : Nat), k ≤ qn ∧ i = .int .i64 k ∧ Hid (Below wg.heap.size wg V)) (fun i _ => qn - (intOf i).toNat)
  case atStart => exact ⟨0, by omega, rfl, Lib.hid (Below.refl _ _)⟩
  case round =>
    obtain ⟨k, hk2, rfl, HR⟩ := hrel
    by_cases hlt : k < qn
    · obtain ⟨b1, o1, x1, rfl, hb1, hx1, y1, hy1, hi1, hcl1⟩ := recs_at (HPG.out.below wr_stays HR.out) hlt
      obtain ⟨b2, o2, x2, rfl, hb2, hx2, y2, hy2, hi2, hcl2⟩ := recs_at (HQG.out.below wr_stays HR.out) hlt
      obtain rfl : x2 = x1 := by rw [hx1] at hx2; exact (Option.some.inj hx2).symm
      rw [Nat.mul_one] at hcl1 hcl2
      obtain ⟨ya, yn, yc, yl⟩ := y1
      obtain ⟨za, zn, zc, zl⟩ := y2
      dsimp only at hy1 hy2 hi1 hi2 hcl1 hcl2
      subst hy1
      subst hy2
      have HI1 := Lib.hid hi1; have HI2 := Lib.hid hi2
      have L0 : Hid (Below wr.heap.size wr wr.drew) := Below.drew (Below.refl _ _)
      have LR : Hid (Below wr.heap.size wr wr) := Below.refl _ _
      have Kq := Lib.hid (show ∀ V : World, Hid (Below wr.heap.size wr V) → V.cell? ⟨b1, o1 + k, none⟩ = some (.slice ya yn yc) ∧ V.cell? ⟨b2, o2 + k, none⟩ = some (.slice za zn zc) from
        fun V h => ⟨by rw [h.out.cell (p := ⟨b1, o1 + k, none⟩) hb1]; exact hcl1, by rw [h.out.cell (p := ⟨b2, o2 + k, none⟩) hb2]; exact hcl2⟩)
      clear hx1 hx2 hi1 hi2
      go_wp2_with fail
      go_region_held3 (fun V => V.cell? ⟨b1, o1 + k, none⟩ = some (.slice ya yn yc) ∧ V.cell? ⟨b2, o2 + k, none⟩ = some (.slice za zn zc))
        (with_reducible first | exact Kq.out _ LR | exact Kq.out _ L0 | exact Kq.out _ LA)
        (first
          | (go_at_call 21; (with_reducible refine (way_m ya yn yc _ za zn zc _ (HI1.out.below L0.out) (HI2.out.below L0.out)).mono ?_); rintro e wa ⟨rfl, hba⟩; have LA : Hid (Below wr.heap.size wr wa) := L0.out.trans (hba.mono L0.out.size); clear hba))
      have HRN := Lib.hid (HR.out.trans (LA.out.mono HR.out.size))
      clear Kq L0 LR LA
      go_wp2
      go_roundw
      case rel => exact ⟨k + 1, by omega, by go_num, HRN⟩
      case measure => simp [intOf]; omega
    · go_wp2_with fail
      refine (awake_any _).mono ?_
      rintro e w5 ⟨rfl, hb5⟩
      have HB5 := Lib.hid (HBG.out.trans ((HR.out.trans (hb5.mono HR.out.size)).mono HBG.out.size))
      clear hb5
      go_wp2
      go_ret
      exact ⟨rfl, HB5.out⟩
end Go.Proofs.Ytbpjaidfpacbfaa.te
