/-
  Layer 12: the document's Within.
-/
import Derived.Test.YtpdicfekhghfeaaTypIns
namespace Go.Proofs.Ytpdicfekhghfeaa.ty
open Go.ChangeShapes Go.WideShapes Go.ChangeAt Go.RowKit
open bs tr te
set_option linter.unusedVariables false

def ints (S : List Nat) : List Int := S.map fun p : Nat => Int.ofNat p
/-- What Within answers, so many records being left. -/
def WiP (m : Vn) (g : Nat) (t : VT) : Prop := ∀ (S : List Nat) (a : Vn) (w : World) (ia : Option Addr) (n c : Nat), a.tr = t → a.Rd w → m.Rd w → I64s w ia n c (ints S) → S.length + g = m.l.length → Inn m.l S t →
  Calls Try.prog 26 #[m.val, a.val, .slice ia n c] w (CsP (ce m.l g t) w)
theorem ints_at {S : List Nat} {k q : Nat} (h : S[k]? = some q) : (ints S).getD k 0 = (q : Int) := by
  unfold ints
  rw [List.getD_eq_getElem?_getD, List.getElem?_map, h]
  rfl

set_option maxRecDepth 100000 in
set_option maxHeartbeats 8000000 in
theorem within_step (m : Vn) (hN : m.l.length ≤ 1000000) (g : Nat) (hr : ∀ t, g ≠ 0 → WiP m (g - 1) t) : ∀ t, WiP m g t := by
  intro t
  induction t using Tr.ind with
  | h tx tl ih =>
  intro S v w ia n c hat hv hm hi hS hin
  obtain ⟨vx, va, vm, vc, vl⟩ := v
  cases hat
  have hcap : vm ≤ vc := hv.1.cap; have hmost : vc ≤ 9223372036854775807 := hv.1.most
  have hmcap := hm.1.cap; have hmmost := hm.1.most
  have hicap := hi.cap; have himost := hi.most; have hilen := hi.len
  have HX64 := Lib.hid hv.2
  have hn64 : -9223372036854775808 ≤ vx.n ∧ vx.n ≤ 9223372036854775807 := hv.2.n
  have hW : Below w.heap.size w ((w.alloc (.cells #[.int .i64 m.x.k, .int .i64 m.x.n, .string m.x.s, .slice m.a m.m m.c, .int .i64 m.x.f, .int .i64 m.x.t] 24)).alloc (.cells #[.int .i64 vx.k, .int .i64 vx.n, .string vx.s, .slice va vm vc, .int .i64 vx.f, .int .i64 vx.t] 24)) := ((Below.refl _ _).alloc (Nat.le_refl _) _).alloc (by simp only [te.size_alloc]; omega) _
  have hM : VB ((w.alloc (.cells #[.int .i64 m.x.k, .int .i64 m.x.n, .string m.x.s, .slice m.a m.m m.c, .int .i64 m.x.f, .int .i64 m.x.t] 24)).alloc (.cells #[.int .i64 vx.k, .int .i64 vx.n, .string vx.s, .slice va vm vc, .int .i64 vx.f, .int .i64 vx.t] 24)) w.heap.size m := (vb_new w m).below (below_alloc _ _)
  have hX : VB ((w.alloc (.cells #[.int .i64 m.x.k, .int .i64 m.x.n, .string m.x.s, .slice m.a m.m m.c, .int .i64 m.x.f, .int .i64 m.x.t] 24)).alloc (.cells #[.int .i64 vx.k, .int .i64 vx.n, .string vx.s, .slice va vm vc, .int .i64 vx.f, .int .i64 vx.t] 24)) (w.heap.size + 1) ⟨vx, va, vm, vc, vl⟩ := by
    have := vb_new (w.alloc (.cells #[.int .i64 m.x.k, .int .i64 m.x.n, .string m.x.s, .slice m.a m.m m.c, .int .i64 m.x.f, .int .i64 m.x.t] 24)) ⟨vx, va, vm, vc, vl⟩
    rwa [te.size_alloc] at this
  have HW := Lib.hid hW; have HM := Lib.hid hM; have HX := Lib.hid hX
  have HMR := Lib.hid (hm.below hW); have HV := Lib.hid (hv.below hW); have HI := Lib.hid (hi.below hW)
  have HLN := Lib.hid hv.1.len; have HML := Lib.hid hm.1.len; have HIN := Lib.hid hin; have HS := Lib.hid hS
  have HIH := Lib.hid ih; have HR := Lib.hid hr; have HIL := Lib.hid hilen
  clear hW hM hX hm hv hi hin hr ih hS hilen
  unfold Vn.val
  go_enter Try.func26, Try.ntmps26
  go_upto_region 1 with fail
  generalize hWW : ((w.alloc (.cells #[.int .i64 m.x.k, .int .i64 m.x.n, .string m.x.s, .slice m.a m.m m.c, .int .i64 m.x.f, .int .i64 m.x.t] 24)).alloc (.cells #[.int .i64 vx.k, .int .i64 vx.n, .string vx.s, .slice va vm vc, .int .i64 vx.f, .int .i64 vx.t] 24)) = W at HW HM HX HMR HV HI ⊢
  clear hWW
  have p0 := HX.out.cell 0; have p1 := HX.out.cell 3; have p2 := HX.out.cell 1; have p3 := HM.out.cell 3
  simp at p0 p1 p2 p3
  have hl : vl.length = vm := HLN.out
  by_cases k1 : vx.k = 1
  · by_cases m0 : vm = 0
    · have c1 : (vx.k == 1) = true := by rw [beq_iff_eq]; omega
      have b0 : ((vm : Int) == 0) = true := by rw [beq_iff_eq]; omega
      have hce : ce m.l g (.mk vx vl) = 1 := by
        unfold ce
        rw [cel_mk, if_pos (by omega), if_pos (by omega)]
      have HE := Lib.hid hce
      clear hce hl k1 m0
      go_wp2
      go_ret
      exact ⟨by rw [HE.out]; rfl, HW.out⟩
    · have c1 : (vx.k == 1) = true := by rw [beq_iff_eq]; omega
      have c3 : (vx.k == 3) = false := by rw [beq_eq_false_iff_ne]; omega
      have c4 : (vx.k != 4) = true := by rw [bne_iff_ne]; omega
      have b0 : ((vm : Int) == 0) = false := by rw [beq_eq_false_iff_ne]; omega
      have hce : ce m.l g (.mk vx vl) = 0 := by
        unfold ce
        rw [cel_mk, if_pos (by omega), if_neg (by omega)]
      have HE := Lib.hid hce
      clear hce hl k1 m0
      go_wp2
      go_ret
      exact ⟨by rw [HE.out]; rfl, HW.out⟩
  by_cases k2 : vx.k = 2
  · by_cases m0 : vm = 0
    · have c1 : (vx.k == 1) = false := by rw [beq_eq_false_iff_ne]; omega
      have c2 : (vx.k == 2) = true := by rw [beq_iff_eq]; omega
      have b0 : ((vm : Int) == 0) = true := by rw [beq_iff_eq]; omega
      have hce : ce m.l g (.mk vx vl) = 1 := by
        unfold ce
        rw [cel_mk, if_pos (by omega), if_pos (by omega)]
      have HE := Lib.hid hce
      clear hce hl k1 k2 m0
      go_wp2
      go_ret
      exact ⟨by rw [HE.out]; rfl, HW.out⟩
    · have c1 : (vx.k == 1) = false := by rw [beq_eq_false_iff_ne]; omega
      have c2 : (vx.k == 2) = true := by rw [beq_iff_eq]; omega
      have c3 : (vx.k == 3) = false := by rw [beq_eq_false_iff_ne]; omega
      have c4 : (vx.k != 4) = true := by rw [bne_iff_ne]; omega
      have b0 : ((vm : Int) == 0) = false := by rw [beq_eq_false_iff_ne]; omega
      have hce : ce m.l g (.mk vx vl) = 0 := by
        unfold ce
        rw [cel_mk, if_pos (by omega), if_neg (by omega)]
      have HE := Lib.hid hce
      clear hce hl k1 k2 m0
      go_wp2
      go_ret
      exact ⟨by rw [HE.out]; rfl, HW.out⟩
  by_cases k3 : vx.k = 3
  · by_cases m0 : vm = 1
    · by_cases n1 : 1 ≤ vx.n
      · by_cases n2 : vx.n ≤ 16
        · have c1 : (vx.k == 1) = false := by rw [beq_eq_false_iff_ne]; omega
          have c2 : (vx.k == 2) = false := by rw [beq_eq_false_iff_ne]; omega
          have c3 : (vx.k == 3) = true := by rw [beq_iff_eq]; omega
          have b1 : ((vm : Int) == 1) = true := by rw [beq_iff_eq]; omega
          have d1 : decide ((1 : Int) ≤ vx.n) = true := decide_eq_true n1
          have d2 : decide (vx.n ≤ 16) = true := decide_eq_true n2
          obtain ⟨u, hu⟩ := List.length_eq_one_iff.1 (show vl.length = 1 by omega)
          subst hu
          obtain ⟨q, hq⟩ : ∃ q : Nat, vx.n = q := ⟨vx.n.toNat, by omega⟩
          have hce := ce_arr (M := m.l) (g := g) (u := u) k3 n1 n2
          rw [hq, Int.toNat_natCast] at hce
          have hq2 : q ≤ 16 := by omega
          have hq1 : 1 ≤ q := by omega
          have hinn := inn_arr k3 n1 n2 HIN.out
          rw [hq] at p2 d1 d2
          have HE := Lib.hid hce
          obtain ⟨b2, o2, x2, ha2, hb2, hx2, hc2⟩ := recs_at HV.out.1 (k := 0) (by show 0 < vm; omega)
          obtain ⟨v1, hv1, hr1, c10, c11, c12, c13, c14, c15⟩ := VA.out hc2
          dsimp only at ha2 hx2
          have hxu : x2 = u := (Option.some.inj hx2).symm
          simp only [Nat.zero_mul, Nat.add_zero] at c10 c11 c12 c13 c14 c15
          subst ha2
          have hb2W : b2 < W.heap.size := hb2
          have z0 := HM.out.cell 0; have z1 := HM.out.cell 3; have z2 := HM.out.cell 1; have z3 := HM.out.cell 2; have z4 := HM.out.cell 4; have z5 := HM.out.cell 5
          simp at z0 z1 z2 z3 z4 z5
          have hkq : ∀ V, Below W.heap.size W V → V.cell? ⟨w.heap.size, 0, none⟩ = some (.int .i64 m.x.k) ∧ V.cell? ⟨w.heap.size, 3, none⟩ = some (.slice m.a m.m m.c) ∧ V.cell? ⟨w.heap.size, 1, none⟩ = some (.int .i64 m.x.n) ∧ V.cell? ⟨w.heap.size, 2, none⟩ = some (.string m.x.s) ∧ V.cell? ⟨w.heap.size, 4, none⟩ = some (.int .i64 m.x.f) ∧ V.cell? ⟨w.heap.size, 5, none⟩ = some (.int .i64 m.x.t) ∧ V.cell? ⟨w.heap.size + 1, 3, none⟩ = some (.slice (some ⟨b2, o2, none⟩) vm vc) ∧ V.cell? ⟨w.heap.size + 1, 1, none⟩ = some (.int .i64 (q : Int)) ∧ V.cell? ⟨b2, o2, none⟩ = some (.int .i64 v1.x.k) ∧ V.cell? ⟨b2, o2 + 3, none⟩ = some (.slice v1.a v1.m v1.c) ∧ V.cell? ⟨b2, o2 + 1, none⟩ = some (.int .i64 v1.x.n) ∧ V.cell? ⟨b2, o2 + 2, none⟩ = some (.string v1.x.s) ∧ V.cell? ⟨b2, o2 + 4, none⟩ = some (.int .i64 v1.x.f) ∧ V.cell? ⟨b2, o2 + 5, none⟩ = some (.int .i64 v1.x.t) := fun V hV => by
            have em : ∀ o : Nat, V.cell? ⟨w.heap.size, o, none⟩ = W.cell? ⟨w.heap.size, o, none⟩ := fun o => hV.cell (p := ⟨w.heap.size, o, none⟩) HM.out.lt
            have ex : ∀ o : Nat, V.cell? ⟨w.heap.size + 1, o, none⟩ = W.cell? ⟨w.heap.size + 1, o, none⟩ := fun o => hV.cell (p := ⟨w.heap.size + 1, o, none⟩) HX.out.lt
            have ey : ∀ o : Nat, V.cell? ⟨b2, o, none⟩ = W.cell? ⟨b2, o, none⟩ := fun o => hV.cell (p := ⟨b2, o, none⟩) hb2W
            exact ⟨by rw [em]; exact z0, by rw [em]; exact z1, by rw [em]; exact z2, by rw [em]; exact z3, by rw [em]; exact z4, by rw [em]; exact z5, by rw [ex]; exact p1, by rw [ex]; exact p2, by rw [ey]; exact c10, by rw [ey]; exact c11, by rw [ey]; exact c12, by rw [ey]; exact c13, by rw [ey]; exact c14, by rw [ey]; exact c15⟩
          have KQ := Lib.hid hkq
          have K0 : Hid (Below W.heap.size W W.drew) := Lib.hid (Below.drew (Below.refl _ _))
          have KR : Hid (Below W.heap.size W W) := Lib.hid (Below.refl _ _)
          have HCALL := Lib.hid (fun V (hV : Below W.heap.size W V) => show Calls Try.prog 26 #[.agg #[.int .i64 m.x.k, .int .i64 m.x.n, .string m.x.s, .slice m.a m.m m.c, .int .i64 m.x.f, .int .i64 m.x.t], .agg #[.int .i64 v1.x.k, .int .i64 v1.x.n, .string v1.x.s, .slice v1.a v1.m v1.c, .int .i64 v1.x.f, .int .i64 v1.x.t], .slice ia n c] V (CsP (ce m.l g u) V) from HIH.out u (by simp) S v1 V ia n c (by rw [hv1, hxu]) (hr1.below hV) (HMR.out.below hV) (HI.out.below hV) HS.out hinn)
          have hcb := ce_le m.l g u
          obtain ⟨cc, hc⟩ : ∃ cc, ce m.l g u = cc := ⟨_, rfl⟩
          rw [hc] at HCALL hcb HE
          have hqc : cc * q ≤ 64 * 16 := Nat.mul_le_mul hcb hq2
          have hmul : IntKind.i64.wrap ((cc : Int) * (q : Int)) = ((cc * q : Nat) : Int) := by rw [← Int.natCast_mul, IntWalk.i64_in _ (by omega)]
          have hcm : q * cc = cc * q := Nat.mul_comm _ _
          rw [hcm] at HE
          obtain ⟨r, hrr⟩ : ∃ r, cc * q = r := ⟨_, rfl⟩
          rw [hrr] at hmul hqc HE
          have hm1 : 0 < vm := by omega
          clear hce hl k1 k2 k3 m0 n1 n2 hq hc2 hv1 hr1 hx2 hxu hc HIH HR hrr hinn hcm hn64 hkq z0 z1 z2 z3 z4 z5 c10 c11 c12 c13 c14 c15
          have d1q : decide (1 ≤ q) = true := decide_eq_true hq1
          have d2q : decide (q ≤ 16) = true := decide_eq_true hq2
          go_wp2_with fail
          go_region_held3 (fun V => V.cell? ⟨w.heap.size, 0, none⟩ = some (.int .i64 m.x.k) ∧ V.cell? ⟨w.heap.size, 3, none⟩ = some (.slice m.a m.m m.c) ∧ V.cell? ⟨w.heap.size, 1, none⟩ = some (.int .i64 m.x.n) ∧ V.cell? ⟨w.heap.size, 2, none⟩ = some (.string m.x.s) ∧ V.cell? ⟨w.heap.size, 4, none⟩ = some (.int .i64 m.x.f) ∧ V.cell? ⟨w.heap.size, 5, none⟩ = some (.int .i64 m.x.t) ∧ V.cell? ⟨w.heap.size + 1, 3, none⟩ = some (.slice (some ⟨b2, o2, none⟩) vm vc) ∧ V.cell? ⟨w.heap.size + 1, 1, none⟩ = some (.int .i64 (q : Int)) ∧ V.cell? ⟨b2, o2, none⟩ = some (.int .i64 v1.x.k) ∧ V.cell? ⟨b2, o2 + 3, none⟩ = some (.slice v1.a v1.m v1.c) ∧ V.cell? ⟨b2, o2 + 1, none⟩ = some (.int .i64 v1.x.n) ∧ V.cell? ⟨b2, o2 + 2, none⟩ = some (.string v1.x.s) ∧ V.cell? ⟨b2, o2 + 4, none⟩ = some (.int .i64 v1.x.f) ∧ V.cell? ⟨b2, o2 + 5, none⟩ = some (.int .i64 v1.x.t))
            (with_reducible first | exact KQ.out _ KR.out | exact KQ.out _ K0.out | exact KQ.out _ KA.out)
            (first
              | (go_at_call 26; (with_reducible refine (HCALL.out _ K0.out).mono ?_); rintro e wa ⟨rfl, hba⟩; have KA : Hid (Below W.heap.size W wa) := Lib.hid (K0.out.trans (hba.mono K0.out.size)); clear hba))
          have HB := Lib.hid (HW.out.trans (KA.out.mono HW.out.size))
          clear KQ HCALL
          by_cases h64 : 64 < r
          · have e0 : decide ((64 : Int) < r) = true := decide_eq_true (by omega)
            have hlm : lim r = 0 := if_pos h64
            have HL := Lib.hid hlm
            clear h64 hlm
            go_wp2
            go_ret
            exact ⟨by rw [HE.out, HL.out]; rfl, HB.out⟩
          · have e0 : decide ((64 : Int) < r) = false := decide_eq_false (by omega)
            have hlm : lim r = r := if_neg h64
            have HL := Lib.hid hlm
            clear h64 hlm
            go_wp2
            go_ret
            exact ⟨by rw [HE.out, HL.out]; rfl, HB.out⟩
        · have c1 : (vx.k == 1) = false := by rw [beq_eq_false_iff_ne]; omega
          have c2 : (vx.k == 2) = false := by rw [beq_eq_false_iff_ne]; omega
          have c3 : (vx.k == 3) = true := by rw [beq_iff_eq]; omega
          have c4 : (vx.k != 4) = true := by rw [bne_iff_ne]; omega
          have b1 : ((vm : Int) == 1) = true := by rw [beq_iff_eq]; omega
          have d1 : decide ((1 : Int) ≤ vx.n) = true := decide_eq_true n1
          have d2 : decide (vx.n ≤ 16) = false := decide_eq_false n2
          have hce : ce m.l g (.mk vx vl) = 0 := by
            unfold ce
            rw [cel_mk, if_neg (by omega), if_pos (by omega), if_neg (by omega)]
          have HE := Lib.hid hce
          clear hce hl k1 k2 k3 m0 n1 n2
          go_wp2
          go_ret
          exact ⟨by rw [HE.out]; rfl, HW.out⟩
      · have c1 : (vx.k == 1) = false := by rw [beq_eq_false_iff_ne]; omega
        have c2 : (vx.k == 2) = false := by rw [beq_eq_false_iff_ne]; omega
        have c3 : (vx.k == 3) = true := by rw [beq_iff_eq]; omega
        have c4 : (vx.k != 4) = true := by rw [bne_iff_ne]; omega
        have b1 : ((vm : Int) == 1) = true := by rw [beq_iff_eq]; omega
        have d1 : decide ((1 : Int) ≤ vx.n) = false := decide_eq_false n1
        have hce : ce m.l g (.mk vx vl) = 0 := by
          unfold ce
          rw [cel_mk, if_neg (by omega), if_pos (by omega), if_neg (by omega)]
        have HE := Lib.hid hce
        clear hce hl k1 k2 k3 m0 n1
        go_wp2
        go_ret
        exact ⟨by rw [HE.out]; rfl, HW.out⟩
    · have c1 : (vx.k == 1) = false := by rw [beq_eq_false_iff_ne]; omega
      have c2 : (vx.k == 2) = false := by rw [beq_eq_false_iff_ne]; omega
      have c3 : (vx.k == 3) = true := by rw [beq_iff_eq]; omega
      have c4 : (vx.k != 4) = true := by rw [bne_iff_ne]; omega
      have b1 : ((vm : Int) == 1) = false := by rw [beq_eq_false_iff_ne]; omega
      have hce : ce m.l g (.mk vx vl) = 0 := by
        unfold ce
        rw [cel_mk, if_neg (by omega), if_pos (by omega), if_neg (by omega)]
      have HE := Lib.hid hce
      clear hce hl k1 k2 k3 m0
      go_wp2
      go_ret
      exact ⟨by rw [HE.out]; rfl, HW.out⟩
  by_cases k4 : vx.k = 4
  · by_cases m0 : vm = 0
    · have hvl : vl = [] := List.length_eq_zero_iff.1 (by omega)
      subst hvl
      have hce := ce_rec (M := m.l) (g := g) k4
      have c1 : (vx.k == 1) = false := by rw [beq_eq_false_iff_ne]; omega
      have c2 : (vx.k == 2) = false := by rw [beq_eq_false_iff_ne]; omega
      have c3 : (vx.k == 3) = false := by rw [beq_eq_false_iff_ne]; omega
      have c4 : (vx.k != 4) = false := by rw [bne_eq_false_iff_eq]; omega
      have b0 : ((vm : Int) != 0) = false := by rw [bne_eq_false_iff_eq]; omega
      have HK4 := Lib.hid k4
      have hml := HML.out
      by_cases n0 : vx.n < 0
      · have d0 : decide (vx.n < 0) = true := decide_eq_true n0
        have HE := Lib.hid (hce.trans (rc_out (.inl n0)))
        clear hce hl k1 k2 k3 k4 m0 n0 hml
        go_wp2
        go_ret
        exact ⟨by rw [HE.out]; rfl, HW.out⟩
      · have d0 : decide (vx.n < 0) = false := decide_eq_false n0
        by_cases n1 : (m.m : Int) ≤ vx.n
        · have d1 : decide ((m.m : Int) ≤ vx.n) = true := decide_eq_true n1
          have HE := Lib.hid (hce.trans (rc_out (.inr (by omega))))
          clear hce hl k1 k2 k3 k4 m0 n0 n1 hml
          go_wp2
          go_ret
          exact ⟨by rw [HE.out]; rfl, HW.out⟩
        · have d1 : decide ((m.m : Int) ≤ vx.n) = false := decide_eq_false n1
          obtain ⟨q, hq⟩ : ∃ q : Nat, vx.n = q := ⟨vx.n.toNat, by omega⟩
          have hqm : q < m.m := by omega
          have HQ := Lib.hid hq
          rw [hq] at hce p2 d0 d1
          have HCE := Lib.hid hce
          have hqm1 : decide (m.m ≤ q) = false := decide_eq_false (by omega)
          have hq0 : decide ((m.m : Int) ≤ (q : Int)) = false := d1
          clear hce hl k1 k2 k3 k4 m0 n0 n1 hq hml hn64
          go_wp2_with fail
          have hsl : S.length = n := by have := HIL.out; unfold ints at this; rwa [List.length_map] at this
          have HSL := Lib.hid hsl
          clear hsl
          go_loopw [9] (fun i wr => ∃ (k d : Nat), k ≤ n ∧ i = .int .i64 k ∧ wr = W.drewN d ∧ Hid (q ∉ S.take k)) (fun i _ => n - (intOf i).toNat)
          case atStart => exact ⟨0, 0, by omega, rfl, rfl, Lib.hid (by simp)⟩
          case round =>
            obtain ⟨k, d, hk, rfl, rfl, HF⟩ := hrel
            by_cases hlt : k < n
            · have hsl := HSL.out
              obtain ⟨p, hp⟩ : ∃ p, S[k]? = some p := ⟨S[k]'(by omega), List.getElem?_eq_getElem _⟩
              rcases HI.out.at' with h0 | ⟨b, off, rfl, hcell⟩
              · omega
              have hz := hcell k hlt
              rw [ints_at hp] at hz
              have HP := Lib.hid hp
              clear hcell hsl hp
              by_cases hpq : p = q
              · subst hpq
                have e0 : ((p : Int) == (p : Int)) = true := beq_self_eq_true _
                have he : ce m.l g (.mk vx []) = 0 := HCE.out.trans (inn_self HK4.out HQ.out HIN.out (List.mem_of_getElem? HP.out) g)
                have HE := Lib.hid he
                have HBd := Lib.hid (below_drewN HW.out d)
                clear he
                go_wp2
                go_ret
                exact ⟨by rw [HE.out]; rfl, HBd.out⟩
              · have e0 : ((p : Int) == (q : Int)) = false := by rw [beq_eq_false_iff_ne]; omega
                have hf : q ∉ S.take (k + 1) := by
                  rw [List.take_add_one, HP.out]
                  intro h
                  rcases List.mem_append.1 h with h | h
                  · exact HF.out h
                  · exact hpq (show p = q from (show q = p by simpa using h).symm)
                have HF2 := Lib.hid hf
                clear hf hpq
                go_wp2
                go_roundw
                case rel => exact ⟨k + 1, d, by omega, by go_num, rfl, HF2⟩
                case measure => simp [intOf]; omega
            · have hqs : q ∉ S := by have := HF.out; rwa [List.take_of_length_le (by have := HSL.out; omega)] at this
              have hroom := inn_room HIN.out (show q < m.l.length by have := HML.out; omega) hqs
              obtain ⟨g', rfl⟩ : ∃ g', g = g' + 1 := ⟨g - 1, by have := HS.out; omega⟩
              obtain ⟨b2, o2, x2, ha2, hb2, hx2, hc2⟩ := recs_at HMR.out.1 (k := q) hqm
              obtain ⟨v1, hv1, hr1, c10, c11, c12, c13, c14, c15⟩ := VA.out hc2
              rw [ha2] at p3
              rw [← hv1] at hx2
              have hrc : ce m.l (g' + 1) (.mk vx []) = if v1.x.k = 30 then ofl (cel (rc m.l g')) 0 v1.l else 0 := HCE.out.trans (rc_at hx2)
              have HRC := Lib.hid hrc; have HX2 := Lib.hid hx2; have HR1 := Lib.hid hr1; have HQS := Lib.hid hqs
              have HSH := Lib.hid (fun V (hV : Below W.heap.size W V) => show Calls Try.prog 29 #[.agg #[.int .i64 v1.x.k, .int .i64 v1.x.n, .string v1.x.s, .slice v1.a v1.m v1.c, .int .i64 v1.x.f, .int .i64 v1.x.t]] V (ShP v1.tr V) from shaped_any v1 V (hr1.below hV))
              have hlt' : ¬ k < n := hlt
              clear hrc hx2 hr1 hqs hv1 hc2 HCE HIH hroom hlt'
              have HD := Lib.hid (show VB ((W.drewN d).alloc (.cells #[.int .i64 0, .int .i64 0, .string ⟨#[]⟩, .slice none 0 0, .int .i64 0, .int .i64 0] 24)) W.heap.size v0 from vb_new0 (W.drewN d))
              have HBD := Lib.hid (show Below W.heap.size W ((W.drewN d).alloc (.cells #[.int .i64 0, .int .i64 0, .string ⟨#[]⟩, .slice none 0 0, .int .i64 0, .int .i64 0] 24)) from (below_drewN (Below.refl _ _) d).alloc (Nat.le_refl _) _)
              go_wp2_with (refine wpList_store_T rfl _ _ rfl rfl HD.out v1 rfl ?_)
              intro V hdv hdo
              have HDV := Lib.hid hdv
              have HBV := Lib.hid (HBD.out.trans ((hdo.below (Nat.le_refl _)).mono (Nat.le_refl _)))
              clear hdv hdo HD HBD
              go_wp2_with (refine wpList_load_T rfl _ rfl rfl HDV.out ?_)
              refine (HSH.out V HBV.out).mono ?_
              rintro e w3 ⟨b, rfl, hst, hsf, hb3⟩
              have HB3 := Lib.hid (HBV.out.trans (hb3.mono HBV.out.size)); have HDW := Lib.hid (HDV.out.below hb3)
              have HST := Lib.hid hst; have HSF := Lib.hid hsf
              clear hst hsf hb3 HSH
              cases b with
              | false =>
                have he : ce m.l (g' + 1) (.mk vx []) = 0 := by
                  rw [HRC.out]
                  rcases HSF.out rfl with h | h | ⟨p, hp, h⟩
                  · exact if_neg h
                  · have h2 : v1.l = [] := h
                    rw [h2]
                    split <;> rfl
                  · split
                    · exact ofl_not hp h
                    · rfl
                have HE := Lib.hid he
                have HBW := Lib.hid (HW.out.trans (HB3.out.mono HW.out.size))
                clear he HST HSF
                go_wp2
                go_ret
                exact ⟨by rw [HE.out]; rfl, HBW.out⟩
              | true =>
                obtain ⟨hk30, hne, hall⟩ := HST.out rfl
                have he : ce m.l (g' + 1) (.mk vx []) = ofl (cel (rc m.l g')) 0 v1.l := HRC.out.trans (if_pos hk30)
                have HE := Lib.hid he; have HALL := Lib.hid hall
                have h1c := HR1.out.1.cap; have h1m := HR1.out.1.most
                clear hk30 hne hall he HST HSF HRC
                have y3 := HDW.out.cell 3
                simp at y3
                have HIW := Lib.hid (HI.out.below HB3.out); have HMW := Lib.hid (HM.out.below HB3.out); have HMRW := Lib.hid (HMR.out.below HB3.out); have HR1W := Lib.hid (HR1.out.below HB3.out)
                have h1l := HR1.out.1.len
                have HL1 := Lib.hid h1l
                have hVl : W.heap.size < w3.heap.size := HDW.out.lt
                clear h1l
                go_wp2_with fail
                go_loopw [11, 12] (fun sm i wr => ∃ (j acc : Nat), j ≤ v1.m ∧ i = .int .i64 j ∧ sm = .int .i64 acc ∧ acc ≤ 64 ∧ Hid (ofl (cel (rc m.l g')) 0 v1.l = ofl (cel (rc m.l g')) acc (v1.l.drop j)) ∧ Hid (Below w3.heap.size w3 wr)) (fun _ i _ => v1.m - (intOf i).toNat)
                case atStart => exact ⟨0, 0, by omega, rfl, rfl, by omega, Lib.hid rfl, Lib.hid (Below.refl _ _)⟩
                case round =>
                  obtain ⟨j, acc, hj, rfl, rfl, hacc, HO, HBr⟩ := hrel
                  have HDr := Lib.hid (HDW.out.below HBr.out)
                  have y3 := HDr.out.cell 3
                  simp at y3
                  by_cases hjl : j < v1.m
                  · obtain ⟨b4, o4, x4, ha4, hb4, hx4, hc4⟩ := recs_at (HR1W.out.below HBr.out).1 (k := j) hjl
                    obtain ⟨v2, hv2, hr2, e10, e11, e12, e13, e14, e15⟩ := VA.out hc4
                    have hf2 : Fld v2.tr := by rw [hv2]; exact HALL.out x4 (List.mem_of_getElem? hx4)
                    obtain ⟨u, hu⟩ := List.length_eq_one_iff.1 hf2.2
                    have hu2 : v2.l = [u] := hu
                    have hvm : v2.m = 1 := by rw [← hr2.1.len, hu2]; rfl
                    obtain ⟨b5, o5, x5, ha5, hb5, hx5, hc5⟩ := recs_at hr2.1 (k := 0) (by omega)
                    obtain ⟨v3, hv3, hr3, f10, f11, f12, f13, f14, f15⟩ := VA.out hc5
                    have hxu : v3.tr = u := by rw [hu2] at hx5; rw [hv3]; exact (Option.some.inj hx5).symm
                    simp only [Nat.zero_mul, Nat.add_zero] at f10 f11 f12 f13 f14 f15
                    obtain ⟨hkl, hxe⟩ := List.getElem?_eq_some_iff.1 hx4
                    have ho : ofl (cel (rc m.l g')) 0 v1.l = ofl (cel (rc m.l g')) acc (v2.tr :: v1.l.drop (j + 1)) := by rw [HO.out, List.drop_eq_getElem_cons hkl, hxe, hv2]
                    have HO1 := Lib.hid ho
                    have hfc : fc (cel (rc m.l g')) v2.tr = ce m.l g' v3.tr := by rw [hxu]; exact fc_one hf2.1 hu
                    have HFC := Lib.hid hfc
                    have hmem2 : v2.tr ∈ v1.l := by rw [hv2]; exact List.mem_of_getElem? hx4
                    have hinn : Inn m.l (S ++ [q]) v3.tr := by rw [hxu]; exact inn_rec HK4.out HQ.out HIN.out HQS.out HX2.out hmem2 hu
                    have HINN := Lib.hid hinn
                    rw [ha4] at y3
                    rw [ha5] at e11
                    have z0 := (HMW.out.below HBr.out).cell 0; have z1 := (HMW.out.below HBr.out).cell 3; have z2 := (HMW.out.below HBr.out).cell 1; have z3 := (HMW.out.below HBr.out).cell 2; have z4 := (HMW.out.below HBr.out).cell 4; have z5 := (HMW.out.below HBr.out).cell 5
                    simp at z0 z1 z2 z3 z4 z5
                    rw [ha2] at z1
                    have hmlt : w.heap.size < wr.heap.size := (HMW.out.below HBr.out).lt
                    have hdlt : W.heap.size < wr.heap.size := HDr.out.lt
                    have hkq : ∀ V, Below wr.heap.size wr V → V.cell? ⟨w.heap.size, 0, none⟩ = some (.int .i64 m.x.k) ∧ V.cell? ⟨w.heap.size, 3, none⟩ = some (.slice (some ⟨b2, o2, none⟩) m.m m.c) ∧ V.cell? ⟨w.heap.size, 1, none⟩ = some (.int .i64 m.x.n) ∧ V.cell? ⟨w.heap.size, 2, none⟩ = some (.string m.x.s) ∧ V.cell? ⟨w.heap.size, 4, none⟩ = some (.int .i64 m.x.f) ∧ V.cell? ⟨w.heap.size, 5, none⟩ = some (.int .i64 m.x.t) ∧ V.cell? ⟨W.heap.size, 3, none⟩ = some (.slice (some ⟨b4, o4, none⟩) v1.m v1.c) ∧ V.cell? ⟨b4, o4 + j * 6 + 3, none⟩ = some (.slice (some ⟨b5, o5, none⟩) v2.m v2.c) ∧ V.cell? ⟨b5, o5, none⟩ = some (.int .i64 v3.x.k) ∧ V.cell? ⟨b5, o5 + 3, none⟩ = some (.slice v3.a v3.m v3.c) ∧ V.cell? ⟨b5, o5 + 1, none⟩ = some (.int .i64 v3.x.n) ∧ V.cell? ⟨b5, o5 + 2, none⟩ = some (.string v3.x.s) ∧ V.cell? ⟨b5, o5 + 4, none⟩ = some (.int .i64 v3.x.f) ∧ V.cell? ⟨b5, o5 + 5, none⟩ = some (.int .i64 v3.x.t) := fun V hV => by
                      have em : ∀ o : Nat, V.cell? ⟨w.heap.size, o, none⟩ = wr.cell? ⟨w.heap.size, o, none⟩ := fun o => hV.cell (p := ⟨w.heap.size, o, none⟩) hmlt
                      have ex : ∀ o : Nat, V.cell? ⟨W.heap.size, o, none⟩ = wr.cell? ⟨W.heap.size, o, none⟩ := fun o => hV.cell (p := ⟨W.heap.size, o, none⟩) hdlt
                      have ey : ∀ o : Nat, V.cell? ⟨b4, o, none⟩ = wr.cell? ⟨b4, o, none⟩ := fun o => hV.cell (p := ⟨b4, o, none⟩) hb4
                      have ez : ∀ o : Nat, V.cell? ⟨b5, o, none⟩ = wr.cell? ⟨b5, o, none⟩ := fun o => hV.cell (p := ⟨b5, o, none⟩) hb5
                      exact ⟨by rw [em]; exact z0, by rw [em]; exact z1, by rw [em]; exact z2, by rw [em]; exact z3, by rw [em]; exact z4, by rw [em]; exact z5, by rw [ex]; exact y3, by rw [ey]; exact e11, by rw [ez]; exact f10, by rw [ez]; exact f11, by rw [ez]; exact f12, by rw [ez]; exact f13, by rw [ez]; exact f14, by rw [ez]; exact f15⟩
                    have KQ := Lib.hid hkq
                    have K0 : Hid (Below wr.heap.size wr wr.drew) := Lib.hid (Below.drew (Below.refl _ _))
                    have KR : Hid (Below wr.heap.size wr wr) := Lib.hid (Below.refl _ _)
                    have hm2 : 0 < v2.m := by omega
                    have h2c := hr2.1.cap; have h2m := hr2.1.most
                    have HR3 := Lib.hid hr3
                    have HIR := Lib.hid (fun V (hV : Below wr.heap.size wr V) => (HIW.out.below HBr.out).below hV)
                    have hn22 : n ≤ 1000000 := by have := HSL.out; have := HS.out; omega
                    have hq64 : -9223372036854775808 ≤ (q : Int) ∧ (q : Int) ≤ 9223372036854775807 := by omega
                    have HCALL := Lib.hid (fun (V : World) (a3 : Option Addr) (c3 : Nat) (hV : Below wr.heap.size wr V) (ho : OwnI V wr.heap.size 3 a3 (n + 1) c3 (ints S ++ [(q : Int)])) => show Calls Try.prog 26 #[.agg #[.int .i64 m.x.k, .int .i64 m.x.n, .string m.x.s, .slice (some ⟨b2, o2, none⟩) m.m m.c, .int .i64 m.x.f, .int .i64 m.x.t], .agg #[.int .i64 v3.x.k, .int .i64 v3.x.n, .string v3.x.s, .slice v3.a v3.m v3.c, .int .i64 v3.x.f, .int .i64 v3.x.t], .slice a3 (n + 1) c3] V (CsP (ce m.l g' v3.tr) V) from by
                      have h := HR.out v3.tr (by omega) (S ++ [q]) v3 V a3 (n + 1) c3 rfl (HR3.out.below hV) ((HMRW.out.below HBr.out).below hV) (by have := ho.reads; unfold ints at this ⊢; rw [List.map_append]; exact this) (by rw [List.length_append, List.length_singleton]; have := HS.out; omega) HINN.out
                      unfold Vn.val at h
                      rw [ha2] at h
                      exact h)
                    clear hkq z0 z1 z2 z3 z4 z5 e10 e12 e13 e14 e15 f10 f11 f12 f13 f14 f15 hv2 hr2 hu hu2 hvm hx5 hc5 hv3 hr3 hxu hkl hxe ho hfc hmem2 hinn hx4 hc4 hf2 ha4 ha5
                    go_wp2_with fail
                    go_cut [13] from 111 to 126 (fun s w' => s = .int .i64 ((ce m.l g' v3.tr : Nat) : Int) ∧ Hid (Below wr.heap.size wr w'))
                    case rest =>
                      obtain ⟨rfl, HBC⟩ := hcut
                      have hcb := ce_le m.l g' v3.tr
                      have hfc := HFC.out
                      obtain ⟨cc, hc⟩ : ∃ cc, ce m.l g' v3.tr = cc := ⟨_, rfl⟩
                      rw [hc] at hcb hfc ⊢
                      have HFC2 := Lib.hid hfc
                      obtain ⟨sm, hsm⟩ : ∃ sm, acc + cc = sm := ⟨_, rfl⟩
                      have hadd : IntKind.i64.wrap ((acc : Int) + (cc : Int)) = (sm : Int) := by rw [IntWalk.i64_in _ (by omega)]; omega
                      have hun : ofl (cel (rc m.l g')) acc (v2.tr :: v1.l.drop (j + 1)) = if cc = 0 ∨ lim sm = 0 then 0 else ofl (cel (rc m.l g')) (lim sm) (v1.l.drop (j + 1)) := by
                        rw [ofl, HFC2.out, hsm]
                      have HUN := Lib.hid hun
                      have HBE := Lib.hid (HB3.out.trans ((HBr.out.trans (HBC.out.mono HBr.out.size)).mono HB3.out.size))
                      have HBW := Lib.hid (HW.out.trans (HBE.out.mono HW.out.size))
                      clear hun hfc hc KQ HCALL HIR
                      by_cases hz : cc = 0
                      · have H0 := Lib.hid (HUN.out.trans (if_pos (.inl hz)))
                        have e0 : ((cc : Int) == 0) = true := by rw [beq_iff_eq]; omega
                        clear hz HUN hsm
                        go_wp2
                        go_ret
                        exact ⟨by rw [HE.out, HO1.out, H0.out]; rfl, HBW.out⟩
                      · have e0 : ((cc : Int) == 0) = false := by rw [beq_eq_false_iff_ne]; omega
                        by_cases hz2 : 64 < sm
                        · have H0 := Lib.hid (HUN.out.trans (if_pos (.inr (if_pos hz2))))
                          have e1 : decide ((64 : Int) < (sm : Int)) = true := decide_eq_true (by omega)
                          clear hz hz2 HUN hsm
                          go_wp2
                          go_ret
                          exact ⟨by rw [HE.out, HO1.out, H0.out]; rfl, HBW.out⟩
                        · have e1 : decide ((64 : Int) < (sm : Int)) = false := decide_eq_false (by omega)
                          have hlm : lim sm = sm := if_neg hz2
                          have hs64 : sm ≤ 64 := by omega
                          have H0 := Lib.hid (HUN.out.trans (if_neg (by rw [hlm]; omega)))
                          rw [hlm] at H0
                          clear hz hz2 HUN hsm hlm
                          go_wp2
                          go_roundw
                          case rel => exact ⟨j + 1, sm, by omega, by go_num, rfl, hs64, Lib.hid (by rw [HO1.out, H0.out]), Lib.hid (HBr.out.trans (HBC.out.mono HBr.out.size))⟩
                          case measure => simp [intOf]; omega
                    case first =>
                      try clear p0 p1 p2 p3
                      try clear c1 c2 c3 c4 b0 d0 d1
                      try clear hcap hmost hmcap hmmost hicap himost
                      rename_i KK4 u6' QQ1 KK3 AA5 yy3 KK2 AA4 QQ0 KK1 AA3 KK0 AA2 J K' AA1 HMET
                      clear AA2 AA3 AA4 AA5
                      clear c10 c11 c12 c13 c14 c15 yy3 e11 HO HBr HDr HO1 HFC hmlt hdlt y3
                      clear HW HF HE HALL HL1
                      go_region_held_law (fun V => V.cell? ⟨w.heap.size, 0, none⟩ = some (.int .i64 m.x.k) ∧ V.cell? ⟨w.heap.size, 3, none⟩ = some (.slice (some ⟨b2, o2, none⟩) m.m m.c) ∧ V.cell? ⟨w.heap.size, 1, none⟩ = some (.int .i64 m.x.n) ∧ V.cell? ⟨w.heap.size, 2, none⟩ = some (.string m.x.s) ∧ V.cell? ⟨w.heap.size, 4, none⟩ = some (.int .i64 m.x.f) ∧ V.cell? ⟨w.heap.size, 5, none⟩ = some (.int .i64 m.x.t) ∧ V.cell? ⟨W.heap.size, 3, none⟩ = some (.slice (some ⟨b4, o4, none⟩) v1.m v1.c) ∧ V.cell? ⟨b4, o4 + j * 6 + 3, none⟩ = some (.slice (some ⟨b5, o5, none⟩) v2.m v2.c) ∧ V.cell? ⟨b5, o5, none⟩ = some (.int .i64 v3.x.k) ∧ V.cell? ⟨b5, o5 + 3, none⟩ = some (.slice v3.a v3.m v3.c) ∧ V.cell? ⟨b5, o5 + 1, none⟩ = some (.int .i64 v3.x.n) ∧ V.cell? ⟨b5, o5 + 2, none⟩ = some (.string v3.x.s) ∧ V.cell? ⟨b5, o5 + 4, none⟩ = some (.int .i64 v3.x.f) ∧ V.cell? ⟨b5, o5 + 5, none⟩ = some (.int .i64 v3.x.t))
                        (with_reducible (refine KQ.out _ ?_; repeat (first | exact Below.refl _ _ | exact BC.out | exact B5.out | exact B4.out | refine Below.drew ?_ | refine bel_alloc ?_ _ rfl)))
                        (first
                          | (refine step_copy (by rfl) (.tmp 120) (.tmp 121) (by rfl) wr.heap.size _ (by rfl) ?a1 ?a2 (by rfl) (HIR.out _ ?a3) hn22 ?_
                             case a1 => repeat (first | (refine blk_new' ?_; first | rfl | (simp; done)) | refine blk_drew ?_ | refine blk_alloc ?_ _ | refine blk_grown HG4.out (by simp; omega) ?_)
                             case a2 => first | exact Nat.le_refl _ | (simp; done) | (simp; omega)
                             case a3 => repeat (first | exact Below.refl _ _ | exact B5.out | exact B4.out | refine Below.drew ?_ | refine bel_alloc ?_ _ rfl)
                             intro a2 c2 w4 ho4 hb4 hg4
                             have HO4 := Lib.hid ho4; have HG4 := Lib.hid hg4
                             have B4 : Hid (Below wr.heap.size wr w4) := Lib.hid (by refine Below.trans ?_ hb4; repeat (first | exact Below.refl _ _ | exact B5.out | exact B4.out | refine Below.drew ?_ | refine bel_alloc ?_ _ rfl))
                             clear ho4 hb4 hg4)
                          | (go_at_call 26; (with_reducible refine (HCALL.out _ _ _ B5.out HO5.out).mono ?_); rintro e w6 ⟨rfl, hb6⟩; have BC : Hid (Below wr.heap.size wr w6) := Lib.hid (B5.out.trans (hb6.mono B5.out.size)); clear hb6)
                          | (refine step_more (l := ints S) (by rfl) (.tmp 122) (.tmp 124) (by rfl) wr.heap.size _ (by rfl) ?a1 (by rfl) ?a2 hq64 hn22 ?a3 ?_
                             case a1 => with_reducible (repeat (first | exact HO4.out | refine OwnI.drew ?_ | refine OwnI.alloc ?_ _))
                             case a2 => repeat (first | ((with_reducible refine blk_new' ?_); first | rfl | (simp; done)) | with_reducible refine blk_drew ?_ | with_reducible refine blk_alloc ?_ _ | ((with_reducible refine blk_grown HG4.out ?_ ?_); (intro hh; have h2 := Option.some.inj hh; first | omega | (simp only [te.size_alloc] at h2; omega) | (simp [te.size_alloc, World.drew] at h2; done))))
                             case a3 => first | exact B4.out.size | exact (bel_alloc B4.out _ rfl).size | exact (Below.drew (bel_alloc B4.out _ rfl)).size
                             intro a3 c3 w5 ho5 hb5
                             have HO5 := Lib.hid ho5
                             have B5 : Hid (Below wr.heap.size wr w5) := by first | exact Lib.hid (B4.out.trans hb5) | exact Lib.hid ((bel_alloc B4.out _ rfl).trans hb5) | exact Lib.hid ((Below.drew (bel_alloc B4.out _ rfl)).trans hb5)
                             clear ho5 hb5)
                          | fail)
                      all_goals exact HMET _ _ (Met.intro (AA1 _ _ ⟨_, _, _, _, _, _, _, _, _, _, _, _, _, _, _, _, _, ⟨rfl, BC⟩, rfl⟩))
                  · have hkm : j = v1.m := by omega
                    have h0 : ofl (cel (rc m.l g')) acc (v1.l.drop j) = acc := by rw [List.drop_eq_nil_of_le (by have := HL1.out; omega)]; rfl
                    have H0 := Lib.hid h0
                    have HBW := Lib.hid (HW.out.trans ((HB3.out.trans (HBr.out.mono HB3.out.size)).mono HW.out.size))
                    subst hkm
                    clear h0
                    go_wp2
                    go_ret
                    exact ⟨by rw [HE.out, HO.out, H0.out]; rfl, HBW.out⟩
    · have c1 : (vx.k == 1) = false := by rw [beq_eq_false_iff_ne]; omega
      have c2 : (vx.k == 2) = false := by rw [beq_eq_false_iff_ne]; omega
      have c3 : (vx.k == 3) = false := by rw [beq_eq_false_iff_ne]; omega
      have c4 : (vx.k != 4) = false := by rw [bne_eq_false_iff_eq]; omega
      have b0 : ((vm : Int) != 0) = true := by rw [bne_iff_ne]; omega
      have hce : ce m.l g (.mk vx vl) = 0 := by
        unfold ce
        rw [cel_mk, if_neg (by omega), if_neg (by omega), if_pos (by omega), if_neg (by omega)]
      have HE := Lib.hid hce
      clear hce hl k1 k2 k3 k4 m0
      go_wp2
      go_ret
      exact ⟨by rw [HE.out]; rfl, HW.out⟩
  · have c1 : (vx.k == 1) = false := by rw [beq_eq_false_iff_ne]; omega
    have c2 : (vx.k == 2) = false := by rw [beq_eq_false_iff_ne]; omega
    have c3 : (vx.k == 3) = false := by rw [beq_eq_false_iff_ne]; omega
    have c4 : (vx.k != 4) = true := by rw [bne_iff_ne]; omega
    have hce : ce m.l g (.mk vx vl) = 0 := by
      unfold ce
      rw [cel_mk, if_neg (by omega), if_neg (by omega), if_neg (by omega)]
    have HE := Lib.hid hce
    clear hce hl k1 k2 k3 k4
    go_wp2
    go_ret
    exact ⟨by rw [HE.out]; rfl, HW.out⟩
end Go.Proofs.Ytpdicfekhghfeaa.ty
