/-
  Layer 12: the program's ofRecord, and so its cells.
-/
import Derived.Test.YtpdicfekhghfeaaTypOf
namespace Go.Proofs.Ytpdicfekhghfeaa.ty
open Go.ChangeShapes Go.WideShapes Go.ChangeAt Go.RowKit
open bs tr te
set_option linter.unusedVariables false

set_option maxRecDepth 100000 in
set_option maxHeartbeats 4000000 in
theorem rec_zero (S : Nat → Prop) (B : Nat) (hS : ∀ b, S b → b ≠ B) (m : Vn) (d : Nat) (hd : d = m.l.length) (hN : m.l.length ≤ 1000000) : PRe S B m d 0 := by
  intro n w hn hm hM
  have HN := Lib.hid hn
  have HD := Lib.hid hd
  clear hd
  have q0 := hM.cell 0; have q1 := hM.cell 1; have q2 := hM.cell 2; have q3 := hM.cell 3; have q4 := hM.cell 4; have q5 := hM.cell 5; have q6 := hM.cell 6
  simp at q0 q1 q2 q3 q4 q5 q6
  have HMR := Lib.hid hm; have HM := Lib.hid hM
  clear hm hM hn
  go_enter Try.func32, Try.ntmps32
  go_wp2_with fail
  have HRC := Lib.hid (show Calls Try.prog 33 #[.agg #[.int .i64 m.x.k, .int .i64 m.x.n, .string m.x.s, .slice m.a m.m m.c, .int .i64 m.x.f, .int .i64 m.x.t], .int .i64 n] w (RP S m.l n w) from record_any S m n w HMR.out HN.out)
  refine HRC.out.mono ?_
  rintro e w1 ⟨y, b, rfl, hyt, hyf, hb⟩
  have HB1 := Lib.hid hb; have HM1 := Lib.hid (HM.out.below hb)
  have q0 := HM1.out.cell 0; have q1 := HM1.out.cell 1; have q2 := HM1.out.cell 2; have q3 := HM1.out.cell 3; have q4 := HM1.out.cell 4; have q5 := HM1.out.cell 5; have q6 := HM1.out.cell 6
  simp at q0 q1 q2 q3 q4 q5 q6
  have HYT := Lib.hid hyt; have HYF := Lib.hid hyf
  have hBl := HM1.out.lt
  clear HRC hyt hyf hb
  unfold Vn.val
  have hx : Below w1.heap.size w1 (w1.alloc (.cells #[.int .i64 y.x.k, .int .i64 y.x.n, .string y.x.s, .slice y.a y.m y.c, .int .i64 y.x.f, .int .i64 y.x.t] 24)) := below_alloc _ _
  have hy : VB (w1.alloc (.cells #[.int .i64 y.x.k, .int .i64 y.x.n, .string y.x.s, .slice y.a y.m y.c, .int .i64 y.x.f, .int .i64 y.x.t] 24)) w1.heap.size y := vb_new w1 y
  have HX := Lib.hid hx; have HY := Lib.hid hy
  clear hx hy
  cases b with
  | false =>
    have HE := Lib.hid (HYF.out rfl 0)
    clear HYT HYF
    go_wp2_with fail
    generalize hWW : (w1.alloc (.cells #[.int .i64 y.x.k, .int .i64 y.x.n, .string y.x.s, .slice y.a y.m y.c, .int .i64 y.x.f, .int .i64 y.x.t] 24)) = V at HX HY ⊢
    clear hWW
    go_quiet (fail)
    go_wp2
    go_ret
    exact ⟨by rw [HE.out]; rfl, HM1.out.below (below_drewN HX.out _), Turned.of_below (below_drewN (HB1.out.trans (HX.out.mono HB1.out.size)) _) B none⟩
  | true =>
    have hml := HMR.out.rd.len
    have d0 : decide ((m.m : Int) ≤ d) = true := decide_eq_true (by have := HD.out; omega)
    have d1 : decide (m.m ≤ d) = true := decide_eq_true (by have := HD.out; omega)
    clear HYT HYF hml
    go_wp2_with fail
    generalize hWW : (w1.alloc (.cells #[.int .i64 y.x.k, .int .i64 y.x.n, .string y.x.s, .slice y.a y.m y.c, .int .i64 y.x.f, .int .i64 y.x.t] 24)) = V at HX HY ⊢
    clear hWW q0 q1 q2 q3 q4 q5 q6
    have HMV := Lib.hid (HM1.out.below HX.out)
    have q3 := HMV.out.cell 3; have q6 := HMV.out.cell 6
    simp at q3 q6
    go_quiet (fail)
    go_wp2
    go_ret
    exact ⟨rfl, HMV.out.drewN _, Turned.of_below (below_drewN (HB1.out.trans (HX.out.mono HB1.out.size)) _) B none⟩

set_option maxRecDepth 100000 in
set_option maxHeartbeats 4000000 in
theorem rec_step (S : Nat → Prop) (B : Nat) (hS : ∀ b, S b → b ≠ B) (m : Vn) (d g : Nat) (hd : d + 1 + g = m.l.length) (hN : m.l.length ≤ 1000000) (hr : PCe S B m (d + 1) g) : PRe S B m d (g + 1) := by
  intro n w hn hm hM
  have HN := Lib.hid hn
  have q0 := hM.cell 0; have q1 := hM.cell 1; have q2 := hM.cell 2; have q3 := hM.cell 3; have q4 := hM.cell 4; have q5 := hM.cell 5; have q6 := hM.cell 6
  simp at q0 q1 q2 q3 q4 q5 q6
  have HMR := Lib.hid hm; have HM := Lib.hid hM; have HR := Lib.hid hr
  clear hm hM hr hn
  go_enter Try.func32, Try.ntmps32
  go_wp2_with fail
  have HRC := Lib.hid (show Calls Try.prog 33 #[.agg #[.int .i64 m.x.k, .int .i64 m.x.n, .string m.x.s, .slice m.a m.m m.c, .int .i64 m.x.f, .int .i64 m.x.t], .int .i64 n] w (RP S m.l n w) from record_any S m n w HMR.out HN.out)
  refine HRC.out.mono ?_
  rintro e w1 ⟨y, b, rfl, hyt, hyf, hb⟩
  have HB1 := Lib.hid hb; have HM1 := Lib.hid (HM.out.below hb)
  have q0 := HM1.out.cell 0; have q1 := HM1.out.cell 1; have q2 := HM1.out.cell 2; have q3 := HM1.out.cell 3; have q4 := HM1.out.cell 4; have q5 := HM1.out.cell 5; have q6 := HM1.out.cell 6
  simp at q0 q1 q2 q3 q4 q5 q6
  have HYT := Lib.hid hyt; have HYF := Lib.hid hyf
  have hBl := HM1.out.lt
  clear HRC hyt hyf hb
  unfold Vn.val
  have hx : Below w1.heap.size w1 (w1.alloc (.cells #[.int .i64 y.x.k, .int .i64 y.x.n, .string y.x.s, .slice y.a y.m y.c, .int .i64 y.x.f, .int .i64 y.x.t] 24)) := below_alloc _ _
  have hy : VB (w1.alloc (.cells #[.int .i64 y.x.k, .int .i64 y.x.n, .string y.x.s, .slice y.a y.m y.c, .int .i64 y.x.f, .int .i64 y.x.t] 24)) w1.heap.size y := vb_new w1 y
  have HX := Lib.hid hx; have HY := Lib.hid hy
  clear hx hy
  cases b with
  | false =>
    have HE := Lib.hid (HYF.out rfl (g + 1))
    clear HYT HYF
    go_wp2_with fail
    generalize hWW : (w1.alloc (.cells #[.int .i64 y.x.k, .int .i64 y.x.n, .string y.x.s, .slice y.a y.m y.c, .int .i64 y.x.f, .int .i64 y.x.t] 24)) = V at HX HY ⊢
    clear hWW
    go_quiet (fail)
    go_wp2
    go_ret
    exact ⟨by rw [HE.out]; rfl, HM1.out.below (below_drewN HX.out _), Turned.of_below (below_drewN (HB1.out.trans (HX.out.mono HB1.out.size)) _) B none⟩
  | true =>
    obtain ⟨hyr, hyk, hn0, hyn⟩ := HYT.out rfl
    obtain ⟨q, rfl⟩ : ∃ q : Nat, n = q := ⟨n.toNat, by omega⟩
    have hyl := hyr.rd.len; have hyc := hyr.rd.cap; have hym := hyr.rd.most
    rw [Int.toNat_natCast] at hyn
    have he : rc m.l (g + 1) (q : Int) = if y.x.k = 30 then ofl (cel (rc m.l g)) 0 y.l else 0 := rc_at (g := g) hyn
    rw [if_pos hyk] at he
    have HE := Lib.hid he
    have hml := HMR.out.rd.len
    have d0 : decide ((m.m : Int) ≤ d) = false := decide_eq_false (by omega)
    have d1 : decide (m.m ≤ d) = false := decide_eq_false (by omega)
    have hw1 : IntKind.i64.wrap ((d : Int) + 1) = ((d + 1 : Nat) : Int) := by rw [IntWalk.i64_in _ (by omega)]; rfl
    have HYR := Lib.hid hyr; have HYL := Lib.hid hyl; have HML := Lib.hid hml
    clear hyr hyk hn0 hyn HYT HYF hyl hml he
    go_wp2_with fail
    generalize hWW : (w1.alloc (.cells #[.int .i64 y.x.k, .int .i64 y.x.n, .string y.x.s, .slice y.a y.m y.c, .int .i64 y.x.f, .int .i64 y.x.t] 24)) = V at HX HY ⊢
    clear hWW q0 q1 q2 q3 q4 q5 q6
    have HMV := Lib.hid (HM1.out.below HX.out)
    have q3 := HMV.out.cell 3; have q6 := HMV.out.cell 6
    simp at q3 q6
    have f6 : V.frozen? ⟨B, 6, none⟩ = false := HMV.out.free 6
    go_quiet (fail)
    go_upto_region 5 with fail
    obtain ⟨U, hU⟩ : ∃ U, (V.drewN nq).setCell ⟨B, 6, none⟩ (.int .i64 ((d : Int) + 1)) = U := ⟨_, rfl⟩
    have hMU : Ms U B m (d + 1) := by rw [← hU]; have := (HMV.out.drewN nq).set 6 (.int .i64 ((d : Int) + 1)); unfold Ms; simpa using this
    have hYU : VB U w1.heap.size y := by rw [← hU]; exact (HY.out.drewN nq).other _ _ (by show w1.heap.size ≠ B; omega)
    have hT1 : Turned w1 U B none := by rw [← hU]; exact (Turned.of_below (below_drewN HX.out nq) B none).setCell 6 _
    have hTU : Turned w U B none := Turned.below_trans HB1.out hT1
    have HMRU := Lib.hid (HMR.out.agree (w' := U) ⟨hTU.size, fun b hb hlt => hTU.block b hlt (hS b hb) (by simp)⟩)
    have HYRU := Lib.hid (HYR.out.agree (w' := U) ⟨hT1.size, fun b hb hlt => hT1.block b hlt (hS b hb) (by simp)⟩)
    have HMU := Lib.hid hMU; have HYU := Lib.hid hYU; have HTU := Lib.hid hTU
    rw [hU]
    clear hMU hYU hT1 hTU hU f6 q3 q6 HMV HY HX HM1 d0 d1 HM
    have y3 := HYU.out.cell 3
    simp at y3
    go_wp2_with fail
    go_loopw [7, 46] (fun sm i wr => ∃ (k acc : Nat), k ≤ y.m ∧ i = .int .i64 k ∧ sm = .int .i64 acc ∧ acc ≤ 64 ∧ Hid (ofl (cel (rc m.l g)) 0 y.l = ofl (cel (rc m.l g)) acc (y.l.drop k)) ∧ Hid (Turned U wr B none) ∧ Hid (Ms wr B m (d + 1))) (fun _ i _ => y.m - (intOf i).toNat)
    case atStart => exact ⟨0, 0, by omega, rfl, rfl, by omega, Lib.hid rfl, Lib.hid (Turned.refl _ _ _), HMU⟩
    case round =>
      obtain ⟨k, acc, hk, rfl, rfl, hacc, HO, HTr, HMr⟩ := hrel
      have hYr : VB wr w1.heap.size y := HYU.out.of (HTr.out.block _ HYU.out.lt (by omega) (by simp))
      have kp : Kp S U wr := ⟨HTr.out.size, fun b hb hlt => HTr.out.block b hlt (hS b hb) (by simp)⟩
      have HYr := Lib.hid (HYRU.out.agree kp); have HMRr := Lib.hid (HMRU.out.agree kp)
      have HYb := Lib.hid hYr
      have y3 := hYr.cell 3
      simp at y3
      clear hYr kp
      by_cases hlt : k < y.m
      · obtain ⟨b2, o2, x2, ha2, hb2, hx2, hc2⟩ := recs_at HYr.out.rd (k := k) hlt
        obtain ⟨v1, hv1, hr1, c10, c11, c12, c13, c14, c15⟩ := VAs.out hc2
        rw [ha2] at y3
        have HP := Lib.hid (show Calls Try.prog 34 #[.agg #[.int .i64 v1.x.k, .int .i64 v1.x.n, .string v1.x.s, .slice v1.a v1.m v1.c, .int .i64 v1.x.f, .int .i64 v1.x.t]] wr (FP S v1.tr wr) from part_any S v1 wr hr1)
        obtain ⟨hkl, hxe⟩ := List.getElem?_eq_some_iff.1 hx2
        have ho : ofl (cel (rc m.l g)) 0 y.l = ofl (cel (rc m.l g)) acc (x2 :: y.l.drop (k + 1)) := by rw [HO.out, List.drop_eq_getElem_cons hkl, hxe]
        rw [← hv1] at ho
        have HO1 := Lib.hid ho
        clear ho hxe hkl hx2 hv1 hr1 hc2 ha2 HO
        go_wp2_with fail
        refine HP.out.mono ?_
        rintro e w2 ⟨z, b, rfl, hzt, hzf, hb2⟩
        unfold Vn.val
        have hv2 : Below w2.heap.size w2 (w2.alloc (.cells #[.int .i64 z.x.k, .int .i64 z.x.n, .string z.x.s, .slice z.a z.m z.c, .int .i64 z.x.f, .int .i64 z.x.t] 24)) := below_alloc _ _
        have HV2 := Lib.hid hv2
        have HT2 := Lib.hid ((HTr.out.trans_below hb2).trans_below hv2)
        have HM2 := Lib.hid ((HMr.out.below hb2).below hv2)
        have HZ2 := Lib.hid (show b = true → z.Rs S (w2.alloc (.cells #[.int .i64 z.x.k, .int .i64 z.x.n, .string z.x.s, .slice z.a z.m z.c, .int .i64 z.x.f, .int .i64 z.x.t] 24)) from fun h => (hzt h).1.below hv2)
        have HMR2 := Lib.hid (HMRr.out.below hb2)
        clear hv2
        have hwd : IntKind.i64.wrap (d : Int) = d := by rw [IntWalk.i64_in _ (by omega)]
        cases b with
        | false =>
          have h0 : ofl (cel (rc m.l g)) acc (v1.tr :: y.l.drop (k + 1)) = 0 := by unfold ofl; rw [if_pos (.inl (fc_not (hzf rfl)))]
          have H0 := Lib.hid h0
          have hwa : IntKind.i64.wrap (acc : Int) = acc := by rw [IntWalk.i64_in _ (by omega)]
          have HLIM := Lib.hid (fun V => limited_any acc V (by omega))
          clear h0 hzt hzf hb2
          go_wp2_with fail
          generalize hWW : (w2.alloc (.cells #[.int .i64 z.x.k, .int .i64 z.x.n, .string z.x.s, .slice z.a z.m z.c, .int .i64 z.x.f, .int .i64 z.x.t] 24)) = V2 at HV2 HT2 HM2 HZ2 ⊢
          clear hWW
          refine (HLIM.out V2).mono ?_
          rintro e w3 ⟨rfl, rfl⟩
          have r6 := HM2.out.cell 6
          simp at r6
          have f6 := HM2.out.free 6
          have HTT := Lib.hid ((HTU.out.trans HT2.out (fun i _ h => h)).setCell 6 (.int .i64 (d : Int)))
          have hms : Ms (w3.setCell ⟨B, 6, none⟩ (.int .i64 (d : Int))) B m d := by have := HM2.out.set 6 (.int .i64 (d : Int)); simpa using this
          have HMS := Lib.hid hms
          clear hms
          go_wp2
          go_ret
          exact ⟨by rw [HE.out, HO1.out, H0.out]; rfl, HMS.out, HTT.out⟩
        | true =>
          obtain ⟨_, hzk, hzk2⟩ := hzt rfl
          have hfc : fc (cel (rc m.l g)) v1.tr = ce m.l g z.tr := fc_one hzk hzk2
          have HFC := Lib.hid hfc
          have hcb := ce_le m.l g z.tr
          obtain ⟨c, hc⟩ : ∃ c, ce m.l g z.tr = c := ⟨_, rfl⟩
          have HC := Lib.hid hc
          rw [hc] at hcb
          obtain ⟨r, hr⟩ : ∃ r, acc + c = r := ⟨_, rfl⟩
          have hr2 : r ≤ 128 := by omega
          have hwa : IntKind.i64.wrap ((acc : Int) + (c : Int)) = (r : Int) := by rw [IntWalk.i64_in _ (by omega)]; omega
          have HRR := Lib.hid hr
          obtain ⟨sm, hsm⟩ : ∃ sm, lim r = sm := ⟨_, rfl⟩
          have hs64 : sm ≤ 64 := by rw [← hsm]; exact lim_le r
          have HSM := Lib.hid hsm
          have HLIM := Lib.hid (fun V => limited_any r V (by omega))
          rw [hsm] at HLIM
          have hun : ofl (cel (rc m.l g)) acc (v1.tr :: y.l.drop (k + 1)) = if c = 0 ∨ sm = 0 then 0 else ofl (cel (rc m.l g)) sm (y.l.drop (k + 1)) := by
            rw [ofl, HFC.out, HC.out, HRR.out, HSM.out]
          have HUN := Lib.hid hun
          clear hun hr hsm
          clear hzt hzf hb2 hfc hzk hzk2 hc
          go_wp2_with fail
          generalize hWW : (w2.alloc (.cells #[.int .i64 z.x.k, .int .i64 z.x.n, .string z.x.s, .slice z.a z.m z.c, .int .i64 z.x.f, .int .i64 z.x.t] 24)) = V2 at HV2 HT2 HM2 HZ2 ⊢
          clear hWW
          have HCL := Lib.hid (show Calls Try.prog 28 #[.pointer (some ⟨B, 0, none⟩), .agg #[.int .i64 z.x.k, .int .i64 z.x.n, .string z.x.s, .slice z.a z.m z.c, .int .i64 z.x.f, .int .i64 z.x.t]] V2 (CeP B m (d + 1) (ce m.l g z.tr) V2) from HR.out z.tr z V2 rfl (HZ2.out trivial) (HMR2.out.below HV2.out) HM2.out)
          rw [HC.out] at HCL
          refine HCL.out.mono ?_
          rintro e w3 ⟨rfl, hm3, ht3⟩
          have HT3 := Lib.hid (HT2.out.trans ht3 (fun i _ h => h)); have HM3 := Lib.hid hm3
          clear hm3 ht3 HCL HMR2 HZ2 HV2 HT2 HM2
          go_wp2_with fail
          refine (HLIM.out w3).mono ?_
          rintro e w4 ⟨rfl, rfl⟩
          by_cases hz : c = 0
          · have H0 := Lib.hid (HUN.out.trans (if_pos (.inl hz)))
            have e0 : ((c : Int) == 0) = true := by rw [beq_iff_eq]; omega
            clear hz HUN
            have r6 := HM3.out.cell 6
            simp at r6
            have f6 := HM3.out.free 6
            have HTT := Lib.hid ((HTU.out.trans HT3.out (fun i _ h => h)).setCell 6 (.int .i64 (d : Int)))
            have hms : Ms (w4.setCell ⟨B, 6, none⟩ (.int .i64 (d : Int))) B m d := by have := HM3.out.set 6 (.int .i64 (d : Int)); simpa using this
            have HMS := Lib.hid hms
            clear hms
            go_wp2
            go_ret
            exact ⟨by rw [HE.out, HO1.out, H0.out]; rfl, HMS.out, HTT.out⟩
          · have e0 : ((c : Int) == 0) = false := by rw [beq_eq_false_iff_ne]; omega
            by_cases hz2 : sm = 0
            · have H0 := Lib.hid (HUN.out.trans (if_pos (.inr hz2)))
              have e1 : ((sm : Int) == 0) = true := by rw [beq_iff_eq]; omega
              clear hz hz2 HUN
              have r6 := HM3.out.cell 6
              simp at r6
              have f6 := HM3.out.free 6
              have HTT := Lib.hid ((HTU.out.trans HT3.out (fun i _ h => h)).setCell 6 (.int .i64 (d : Int)))
              have hms : Ms (w4.setCell ⟨B, 6, none⟩ (.int .i64 (d : Int))) B m d := by have := HM3.out.set 6 (.int .i64 (d : Int)); simpa using this
              have HMS := Lib.hid hms
              clear hms
              go_wp2
              go_ret
              exact ⟨by rw [HE.out, HO1.out, H0.out]; rfl, HMS.out, HTT.out⟩
            · have e1 : ((sm : Int) == 0) = false := by rw [beq_eq_false_iff_ne]; omega
              have H0 := Lib.hid (HUN.out.trans (if_neg (by omega)))
              clear hz hz2 HUN
              go_wp2
              go_roundw
              case rel => exact ⟨k + 1, sm, by omega, by go_num, rfl, hs64, Lib.hid (by rw [HO1.out, H0.out]), HT3, HM3⟩
              case measure => simp [intOf]; omega
      · have hkm : k = y.m := by omega
        have h0 : ofl (cel (rc m.l g)) acc (y.l.drop k) = acc := by rw [List.drop_eq_nil_of_le (by have := HYL.out; omega)]; rfl
        have H0 := Lib.hid h0
        have hwd : IntKind.i64.wrap (d : Int) = d := by rw [IntWalk.i64_in _ (by omega)]
        subst hkm
        clear h0
        have r6 := HMr.out.cell 6
        simp at r6
        have f6 := HMr.out.free 6
        have HTT := Lib.hid ((HTU.out.trans HTr.out (fun i _ h => h)).setCell 6 (.int .i64 (d : Int)))
        have hms : Ms (wr.setCell ⟨B, 6, none⟩ (.int .i64 (d : Int))) B m d := by have := HMr.out.set 6 (.int .i64 (d : Int)); simpa using this
        have HMS := Lib.hid hms
        clear hms
        go_wp2
        go_ret
        exact ⟨by rw [HE.out, HO.out, H0.out]; rfl, HMS.out, HTT.out⟩

/-- The program's cells, at every depth. -/
theorem cells_at (S : Nat → Prop) (B : Nat) (hS : ∀ b, S b → b ≠ B) (m : Vn) (hN : m.l.length ≤ 1000000) (g : Nat) : ∀ d, d + g = m.l.length → PCe S B m d g := by
  induction g with
  | zero => intro d hd; exact cells_step S B hS m d 0 (rec_zero S B hS m d (by omega) hN)
  | succ g ih => intro d hd; exact cells_step S B hS m d (g + 1) (rec_step S B hS m d g (by omega) hN (ih (d + 1) (by omega)))

/-- What 'Cells' answers, on both sides. -/
def CsP (c : Nat) (w : World) (e : Ending) (w' : World) : Prop := e = .returned (.int .i64 (c : Nat)) ∧ Below w.heap.size w w'

set_option maxRecDepth 100000 in
set_option maxHeartbeats 4000000 in
theorem pcells_any (m a : Vn) (w : World) (hm : m.Rd w) (ha : a.Rd w) (hN : m.l.length ≤ 1000000) : Calls Try.prog 20 #[m.val, a.val] w (CsP (ce m.l m.l.length a.tr) w) := by
  have hW : Below w.heap.size w (((w.alloc (.cells #[.int .i64 m.x.k, .int .i64 m.x.n, .string m.x.s, .slice m.a m.m m.c, .int .i64 m.x.f, .int .i64 m.x.t] 24)).alloc (.cells #[.int .i64 a.x.k, .int .i64 a.x.n, .string a.x.s, .slice a.a a.m a.c, .int .i64 a.x.f, .int .i64 a.x.t] 24)).alloc (.cells #[.int .i64 m.x.k, .int .i64 m.x.n, .string m.x.s, .slice m.a m.m m.c, .int .i64 m.x.f, .int .i64 m.x.t, .int .i64 0] 51)) := (((Below.refl _ _).alloc (Nat.le_refl _) _).alloc (by simp only [te.size_alloc]; omega) _).alloc (by simp only [te.size_alloc]; omega) _
  have hM : Ms (((w.alloc (.cells #[.int .i64 m.x.k, .int .i64 m.x.n, .string m.x.s, .slice m.a m.m m.c, .int .i64 m.x.f, .int .i64 m.x.t] 24)).alloc (.cells #[.int .i64 a.x.k, .int .i64 a.x.n, .string a.x.s, .slice a.a a.m a.c, .int .i64 a.x.f, .int .i64 a.x.t] 24)).alloc (.cells #[.int .i64 m.x.k, .int .i64 m.x.n, .string m.x.s, .slice m.a m.m m.c, .int .i64 m.x.f, .int .i64 m.x.t, .int .i64 0] 51)) (w.heap.size + 1 + 1) m 0 := by
    have := Blk.new ((w.alloc (.cells #[.int .i64 m.x.k, .int .i64 m.x.n, .string m.x.s, .slice m.a m.m m.c, .int .i64 m.x.f, .int .i64 m.x.t] 24)).alloc (.cells #[.int .i64 a.x.k, .int .i64 a.x.n, .string a.x.s, .slice a.a a.m a.c, .int .i64 a.x.f, .int .i64 a.x.t] 24)) #[.int .i64 m.x.k, .int .i64 m.x.n, .string m.x.s, .slice m.a m.m m.c, .int .i64 m.x.f, .int .i64 m.x.t, .int .i64 0] 51
    rwa [te.size_alloc, te.size_alloc] at this
  have HW := Lib.hid hW; have HM := Lib.hid hM
  have HMR := Lib.hid (hm.rs.below hW); have HA := Lib.hid (ha.rs.below hW)
  clear hm ha hW hM
  unfold Vn.val
  go_enter Try.func20, Try.ntmps20
  go_wp2_with fail
  generalize hWW : (((w.alloc (.cells #[.int .i64 m.x.k, .int .i64 m.x.n, .string m.x.s, .slice m.a m.m m.c, .int .i64 m.x.f, .int .i64 m.x.t] 24)).alloc (.cells #[.int .i64 a.x.k, .int .i64 a.x.n, .string a.x.s, .slice a.a a.m a.c, .int .i64 a.x.f, .int .i64 a.x.t] 24)).alloc (.cells #[.int .i64 m.x.k, .int .i64 m.x.n, .string m.x.s, .slice m.a m.m m.c, .int .i64 m.x.f, .int .i64 m.x.t, .int .i64 0] 51)) = W at HW HM HMR HA ⊢
  clear hWW
  refine (cells_at (· < w.heap.size) (w.heap.size + 1 + 1) (fun b hb => by omega) m hN m.l.length 0 (by omega) a.tr a W rfl HA.out HMR.out HM.out).mono ?_
  rintro e w2 ⟨rfl, hm2, ht2⟩
  have HB := Lib.hid ((Turned.below_trans HW.out ht2).below (Nat.le_refl _) (by omega) (fun i h => by cases h))
  clear hm2 ht2
  go_wp2
  go_ret
  exact ⟨rfl, HB.out⟩
end Go.Proofs.Ytpdicfekhghfeaa.ty
