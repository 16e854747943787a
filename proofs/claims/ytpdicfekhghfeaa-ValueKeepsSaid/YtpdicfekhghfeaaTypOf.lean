/-
  Layer 12: the program's cells.
-/
import Derived.Test.YtpdicfekhghfeaaTypCell
namespace Go.Proofs.Ytpdicfekhghfeaa.ty
open Go.ChangeShapes Go.WideShapes Go.ChangeAt Go.RowKit
open bs tr te
set_option linter.unusedVariables false

/-- What measures, in memory. -/
abbrev Ms (w : World) (g : Nat) (m : Vn) (d : Nat) : Prop := Blk w g #[.int .i64 m.x.k, .int .i64 m.x.n, .string m.x.s, .slice m.a m.m m.c, .int .i64 m.x.f, .int .i64 m.x.t, .int .i64 d] 51
def CeP (g : Nat) (m : Vn) (d c : Nat) (w : World) (e : Ending) (w' : World) : Prop := e = .returned (.int .i64 (c : Nat)) ∧ Ms w' g m d ∧ Turned w w' g none
def PCe (S : Nat → Prop) (B : Nat) (m : Vn) (d g : Nat) : Prop := ∀ (t : VT) (a : Vn) (w : World), a.tr = t → a.Rs S w → m.Rs S w → Ms w B m d → Calls Try.prog 28 #[.pointer (some ⟨B, 0, none⟩), a.val] w (CeP B m d (ce m.l g t) w)
def PRe (S : Nat → Prop) (B : Nat) (m : Vn) (d g : Nat) : Prop := ∀ (n : Int) (w : World), te.I64 n → m.Rs S w → Ms w B m d → Calls Try.prog 32 #[.pointer (some ⟨B, 0, none⟩), .int .i64 n] w (CeP B m d (rc m.l g n) w)

set_option maxRecDepth 100000 in
set_option maxHeartbeats 4000000 in
theorem cells_step (S : Nat → Prop) (B : Nat) (hS : ∀ b, S b → b ≠ B) (m : Vn) (d g : Nat) (hr : PRe S B m d g) : PCe S B m d g := by
  intro t
  induction t using Tr.ind with
  | h tx tl ih =>
  intro v w hat hv hm hM
  obtain ⟨vx, va, vm, vc, vl⟩ := v
  cases hat
  have hW1 : Below w.heap.size w (w.alloc (.cells #[.int .i64 vx.k, .int .i64 vx.n, .string vx.s, .slice va vm vc, .int .i64 vx.f, .int .i64 vx.t] 24)) := ((Below.refl _ _).alloc (Nat.le_refl _) _)
  have hX : VB (w.alloc (.cells #[.int .i64 vx.k, .int .i64 vx.n, .string vx.s, .slice va vm vc, .int .i64 vx.f, .int .i64 vx.t] 24)) w.heap.size ⟨vx, va, vm, vc, vl⟩ := vb_new w ⟨vx, va, vm, vc, vl⟩
  have HW := Lib.hid hW1; have HX := Lib.hid hX; have HM := Lib.hid (hM.below hW1)
  have HMR := Lib.hid (hm.below hW1)
  have HV := Lib.hid (hv.below hW1); have HLN := Lib.hid hv.rd.len
  have hcap : vm ≤ vc := hv.rd.cap; have hmost : vc ≤ 9223372036854775807 := hv.rd.most
  have hMl0 := hM.lt
  have HIH := Lib.hid ih; have HR := Lib.hid hr
  clear hv hW1 hX hM hm ih hr
  unfold Vn.val
  go_enter Try.func28, Try.ntmps28
  go_upto_region 1 with fail
  generalize hWW : (w.alloc (.cells #[.int .i64 vx.k, .int .i64 vx.n, .string vx.s, .slice va vm vc, .int .i64 vx.f, .int .i64 vx.t] 24)) = W at HW HX HM HMR HV ⊢
  clear hWW
  have p0 := HX.out.cell 0
  have p1 := HX.out.cell 3
  have p2 := HX.out.cell 1
  simp at p0 p1 p2
  have hl : vl.length = vm := HLN.out
  by_cases k1 : vx.k = 1
  · by_cases m0 : vm = 0
    · have c1 : (vx.k == 1) = true := by rw [beq_iff_eq]; omega
      have b0 : ((vm : Int) == 0) = true := by rw [beq_iff_eq]; omega
      have hce : ce m.l g (.mk vx vl) = 1 := by
        unfold ce
        rw [cel_mk, if_pos (by omega), if_pos (by omega)]
      have HE := Lib.hid hce
      clear hce hl k1 m0
      go_wp2
      go_ret
      exact ⟨by rw [HE.out]; rfl, HM.out, Turned.of_below HW.out B none⟩
    · have c1 : (vx.k == 1) = true := by rw [beq_iff_eq]; omega
      have b0 : ((vm : Int) == 0) = false := by rw [beq_eq_false_iff_ne]; omega
      have hce : ce m.l g (.mk vx vl) = 0 := by
        unfold ce
        rw [cel_mk, if_pos (by omega), if_neg (by omega)]
      have HE := Lib.hid hce
      clear hce hl k1 m0
      go_wp2
      go_ret
      exact ⟨by rw [HE.out]; rfl, HM.out, Turned.of_below HW.out B none⟩
  by_cases k2 : vx.k = 2
  · by_cases m0 : vm = 0
    · have c1 : (vx.k == 1) = false := by rw [beq_eq_false_iff_ne]; omega
      have c2 : (vx.k == 2) = true := by rw [beq_iff_eq]; omega
      have b0 : ((vm : Int) == 0) = true := by rw [beq_iff_eq]; omega
      have hce : ce m.l g (.mk vx vl) = 1 := by
        unfold ce
        rw [cel_mk, if_pos (by omega), if_pos (by omega)]
      have HE := Lib.hid hce
      clear hce hl k1 k2 m0
      go_wp2
      go_ret
      exact ⟨by rw [HE.out]; rfl, HM.out, Turned.of_below HW.out B none⟩
    · have c1 : (vx.k == 1) = false := by rw [beq_eq_false_iff_ne]; omega
      have c2 : (vx.k == 2) = true := by rw [beq_iff_eq]; omega
      have b0 : ((vm : Int) == 0) = false := by rw [beq_eq_false_iff_ne]; omega
      have hce : ce m.l g (.mk vx vl) = 0 := by
        unfold ce
        rw [cel_mk, if_pos (by omega), if_neg (by omega)]
      have HE := Lib.hid hce
      clear hce hl k1 k2 m0
      go_wp2
      go_ret
      exact ⟨by rw [HE.out]; rfl, HM.out, Turned.of_below HW.out B none⟩
  by_cases k3 : vx.k = 3
  · by_cases m0 : vm = 1
    · by_cases n1 : 1 ≤ vx.n
      · by_cases n2 : vx.n ≤ 16
        · have hMl := hMl0
          have c1 : (vx.k == 1) = false := by rw [beq_eq_false_iff_ne]; omega
          have c2 : (vx.k == 2) = false := by rw [beq_eq_false_iff_ne]; omega
          have c3 : (vx.k == 3) = true := by rw [beq_iff_eq]; omega
          have b0 : ((vm : Int) == 1) = true := by rw [beq_iff_eq]; omega
          have d1 : decide ((1 : Int) ≤ vx.n) = true := decide_eq_true n1
          have d2 : decide (vx.n ≤ 16) = true := decide_eq_true n2
          obtain ⟨u, hu⟩ := List.length_eq_one_iff.1 (show vl.length = 1 by omega)
          obtain ⟨q, hq⟩ : ∃ q : Nat, vx.n = q := ⟨vx.n.toNat, by omega⟩
          have hce := ce_arr (M := m.l) (g := g) (u := u) k3 n1 n2
          rw [← hu, hq, Int.toNat_natCast] at hce
          have hq2 : q ≤ 16 := by omega
          rw [hq] at p2
          have HE := Lib.hid hce; have HQ := Lib.hid hq
          obtain ⟨b2, o2, x2, ha2, hb2, hx2, hc2⟩ := recs_at HV.out.rd (k := 0) (by show 0 < vm; omega)
          obtain ⟨v1, hv1, hr1, c10, c11, c12, c13, c14, c15⟩ := VAs.out hc2
          dsimp only at ha2 hx2
          have hxu : x2 = u := by rw [hu] at hx2; exact (Option.some.inj hx2).symm
          simp only [Nat.zero_mul, Nat.add_zero] at c10 c11 c12 c13 c14 c15
          subst ha2
          have hBX : w.heap.size ≠ B := by have := hMl; omega
          have hB2 : b2 ≠ B := hS b2 (HV.out.sb (by show 0 < vm; omega) b2 o2 rfl)
          have hkq : ∀ V, Turned W V B none → V.cell? ⟨w.heap.size, 3, none⟩ = some (.slice (some ⟨b2, o2, none⟩) vm vc) ∧ V.cell? ⟨w.heap.size, 1, none⟩ = some (.int .i64 (q : Int)) ∧ V.cell? ⟨b2, o2, none⟩ = some (.int .i64 v1.x.k) ∧ V.cell? ⟨b2, o2 + 3, none⟩ = some (.slice v1.a v1.m v1.c) ∧ V.cell? ⟨b2, o2 + 1, none⟩ = some (.int .i64 v1.x.n) ∧ V.cell? ⟨b2, o2 + 2, none⟩ = some (.string v1.x.s) ∧ V.cell? ⟨b2, o2 + 4, none⟩ = some (.int .i64 v1.x.f) ∧ V.cell? ⟨b2, o2 + 5, none⟩ = some (.int .i64 v1.x.t) := fun V hV => by
            have e1 := hV.block w.heap.size HX.out.lt hBX (by simp)
            have e2 := hV.block b2 hb2 hB2 (by simp)
            have ex : ∀ o : Nat, V.cell? ⟨w.heap.size, o, none⟩ = W.cell? ⟨w.heap.size, o, none⟩ := fun o => World.cell?_of_block (w := W) (a := ⟨w.heap.size, o, none⟩) e1
            have ey : ∀ o : Nat, V.cell? ⟨b2, o, none⟩ = W.cell? ⟨b2, o, none⟩ := fun o => World.cell?_of_block (w := W) (a := ⟨b2, o, none⟩) e2
            exact ⟨by rw [ex]; exact p1, by rw [ex]; exact p2, by rw [ey]; exact c10, by rw [ey]; exact c11, by rw [ey]; exact c12, by rw [ey]; exact c13, by rw [ey]; exact c14, by rw [ey]; exact c15⟩
          have KQ := Lib.hid hkq
          have HCALL := Lib.hid (fun V (hV : Below W.heap.size W V) => show Calls Try.prog 28 #[.pointer (some ⟨B, 0, none⟩), .agg #[.int .i64 v1.x.k, .int .i64 v1.x.n, .string v1.x.s, .slice v1.a v1.m v1.c, .int .i64 v1.x.f, .int .i64 v1.x.t]] V (CeP B m d (ce m.l g u) V) from HIH.out u (by rw [hu]; simp) v1 V (by rw [hv1, hxu]) (hr1.below hV) (HMR.out.below hV) (HM.out.below hV))
          have hcb := ce_le m.l g u
          obtain ⟨c, hc⟩ : ∃ c, ce m.l g u = c := ⟨_, rfl⟩
          rw [hc] at HCALL hcb HE
          rw [hq] at d1 d2
          have hqc : q * c ≤ 16 * 64 := Nat.mul_le_mul hq2 hcb
          have hmul : IntKind.i64.wrap ((q : Int) * (c : Int)) = ((q * c : Nat) : Int) := by rw [← Int.natCast_mul, IntWalk.i64_in _ (by omega)]
          obtain ⟨r, hrr⟩ : ∃ r, q * c = r := ⟨_, rfl⟩
          rw [hrr] at hmul hqc HE
          have HLIM := Lib.hid (fun V => limited_any r V (by omega))
          have K0 : Hid (Turned W W.drew B none) := Lib.hid (Turned.of_below (Below.drew (Below.refl _ _)) B none)
          have KR : Hid (Turned W W B none) := Lib.hid (Turned.refl _ _ _)
          have B0 : Hid (Below W.heap.size W W.drew) := Lib.hid (Below.drew (Below.refl _ _))
          have hm1 : 0 < vm := by omega
          clear hce hl k1 k2 k3 m0 n1 n2 hu hq hc2 hv1 hr1 hx2 hxu hc HIH HR hkq hrr hBX hB2 c10 c11 c12 c13 c14 c15
          go_wp2_with fail
          go_region_held3 (fun V => V.cell? ⟨w.heap.size, 3, none⟩ = some (.slice (some ⟨b2, o2, none⟩) vm vc) ∧ V.cell? ⟨w.heap.size, 1, none⟩ = some (.int .i64 (q : Int)) ∧ V.cell? ⟨b2, o2, none⟩ = some (.int .i64 v1.x.k) ∧ V.cell? ⟨b2, o2 + 3, none⟩ = some (.slice v1.a v1.m v1.c) ∧ V.cell? ⟨b2, o2 + 1, none⟩ = some (.int .i64 v1.x.n) ∧ V.cell? ⟨b2, o2 + 2, none⟩ = some (.string v1.x.s) ∧ V.cell? ⟨b2, o2 + 4, none⟩ = some (.int .i64 v1.x.f) ∧ V.cell? ⟨b2, o2 + 5, none⟩ = some (.int .i64 v1.x.t))
            (with_reducible first | exact KQ.out _ KR.out | exact KQ.out _ K0.out | exact KQ.out _ KA.out)
            (first
              | (go_at_call 28; (with_reducible refine (HCALL.out _ B0.out).mono ?_); rintro e wa ⟨rfl, hm2, ht2⟩; have HM2 := Lib.hid hm2; have KA : Hid (Turned W wa B none) := Lib.hid (Turned.below_trans B0.out ht2); clear hm2 ht2)
              | (go_at_call 31; (with_reducible refine (HLIM.out _).mono ?_); rintro e wb ⟨rfl, rfl⟩))
          go_wp2
          go_ret
          exact ⟨by rw [HE.out]; rfl, HM2.out, Turned.below_trans HW.out KA.out⟩
        · have c1 : (vx.k == 1) = false := by rw [beq_eq_false_iff_ne]; omega
          have c2 : (vx.k == 2) = false := by rw [beq_eq_false_iff_ne]; omega
          have c3 : (vx.k == 3) = true := by rw [beq_iff_eq]; omega
          have b0 : ((vm : Int) == 1) = true := by rw [beq_iff_eq]; omega
          have d1 : decide ((1 : Int) ≤ vx.n) = true := decide_eq_true n1
          have d2 : decide (vx.n ≤ 16) = false := decide_eq_false n2
          have hce : ce m.l g (.mk vx vl) = 0 := by
            unfold ce
            rw [cel_mk, if_neg (by omega), if_pos (by omega), if_neg (by omega)]
          have HE := Lib.hid hce
          clear hce hl k1 k2 k3 m0 n1 n2
          go_wp2
          go_ret
          exact ⟨by rw [HE.out]; rfl, HM.out, Turned.of_below HW.out B none⟩
      · have c1 : (vx.k == 1) = false := by rw [beq_eq_false_iff_ne]; omega
        have c2 : (vx.k == 2) = false := by rw [beq_eq_false_iff_ne]; omega
        have c3 : (vx.k == 3) = true := by rw [beq_iff_eq]; omega
        have b0 : ((vm : Int) == 1) = true := by rw [beq_iff_eq]; omega
        have d1 : decide ((1 : Int) ≤ vx.n) = false := decide_eq_false n1
        have hce : ce m.l g (.mk vx vl) = 0 := by
          unfold ce
          rw [cel_mk, if_neg (by omega), if_pos (by omega), if_neg (by omega)]
        have HE := Lib.hid hce
        clear hce hl k1 k2 k3 m0 n1
        go_wp2
        go_ret
        exact ⟨by rw [HE.out]; rfl, HM.out, Turned.of_below HW.out B none⟩
    · have c1 : (vx.k == 1) = false := by rw [beq_eq_false_iff_ne]; omega
      have c2 : (vx.k == 2) = false := by rw [beq_eq_false_iff_ne]; omega
      have c3 : (vx.k == 3) = true := by rw [beq_iff_eq]; omega
      have b0 : ((vm : Int) == 1) = false := by rw [beq_eq_false_iff_ne]; omega
      have hce : ce m.l g (.mk vx vl) = 0 := by
        unfold ce
        rw [cel_mk, if_neg (by omega), if_pos (by omega), if_neg (by omega)]
      have HE := Lib.hid hce
      clear hce hl k1 k2 k3 m0
      go_wp2
      go_ret
      exact ⟨by rw [HE.out]; rfl, HM.out, Turned.of_below HW.out B none⟩
  by_cases k4 : vx.k = 4
  · by_cases m0 : vm = 0
    · have c1 : (vx.k == 1) = false := by rw [beq_eq_false_iff_ne]; omega
      have c2 : (vx.k == 2) = false := by rw [beq_eq_false_iff_ne]; omega
      have c3 : (vx.k == 3) = false := by rw [beq_eq_false_iff_ne]; omega
      have c4 : (vx.k == 4) = true := by rw [beq_iff_eq]; omega
      have b0 : ((vm : Int) == 0) = true := by rw [beq_iff_eq]; omega
      have hce := ce_rec (M := m.l) (g := g) k4
      rw [show ([] : List VT) = vl from (List.length_eq_zero_iff.1 (by omega)).symm] at hce
      have HE := Lib.hid hce
      have HCALL := Lib.hid (HR.out vx.n W HV.out.x64.n HMR.out HM.out)
      clear hce hl k1 k2 k3 k4 m0 HIH HR
      go_wp2_with fail
      refine HCALL.out.mono ?_
      rintro e w2 ⟨rfl, hm2, ht2⟩
      have HM2 := Lib.hid hm2; have HT := Lib.hid (Turned.below_trans HW.out ht2)
      clear hm2 ht2
      go_wp2
      go_ret
      exact ⟨by rw [HE.out]; rfl, HM2.out, HT.out⟩
    · have c1 : (vx.k == 1) = false := by rw [beq_eq_false_iff_ne]; omega
      have c2 : (vx.k == 2) = false := by rw [beq_eq_false_iff_ne]; omega
      have c3 : (vx.k == 3) = false := by rw [beq_eq_false_iff_ne]; omega
      have c4 : (vx.k == 4) = true := by rw [beq_iff_eq]; omega
      have b0 : ((vm : Int) == 0) = false := by rw [beq_eq_false_iff_ne]; omega
      have hce : ce m.l g (.mk vx vl) = 0 := by
        unfold ce
        rw [cel_mk, if_neg (by omega), if_neg (by omega), if_pos (by omega), if_neg (by omega)]
      have HE := Lib.hid hce
      clear hce hl k1 k2 k3 k4 m0
      go_wp2
      go_ret
      exact ⟨by rw [HE.out]; rfl, HM.out, Turned.of_below HW.out B none⟩
  · have c1 : (vx.k == 1) = false := by rw [beq_eq_false_iff_ne]; omega
    have c2 : (vx.k == 2) = false := by rw [beq_eq_false_iff_ne]; omega
    have c3 : (vx.k == 3) = false := by rw [beq_eq_false_iff_ne]; omega
    have c4 : (vx.k == 4) = false := by rw [beq_eq_false_iff_ne]; omega
    have hce : ce m.l g (.mk vx vl) = 0 := by
      unfold ce
      rw [cel_mk, if_neg (by omega), if_neg (by omega), if_neg (by omega)]
    have HE := Lib.hid hce
    clear hce hl k1 k2 k3 k4
    go_wp2
    go_ret
    exact ⟨by rw [HE.out]; rfl, HM.out, Turned.of_below HW.out B none⟩
end Go.Proofs.Ytpdicfekhghfeaa.ty
