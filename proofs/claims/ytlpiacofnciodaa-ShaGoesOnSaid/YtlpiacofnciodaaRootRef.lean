/-
  The contract of the document's roots of layer 2.
-/
import Derived.Test.YtlpiacofnciodaaPower
import Derived.Test.YtlpiacofnciodaaRootSquare
namespace Go.Proofs.Ytlpiacofnciodaa.rs
open Go.ChangeShapes Go.WideShapes Go.ChangeAt Go.RowKit
open bs
set_option linter.unusedVariables false

theorem pow3 (y : Nat) : ((y : Nat) : Int) ^ 3 = ((y * y * y : Nat) : Int) := by
  push_cast; rw [Int.pow_succ, Int.pow_succ, Int.pow_succ, Int.pow_zero, Int.one_mul]
theorem cu_dec (n y : Nat) : decide (((y : Nat) : Int) ^ 3 ≤ shv n 6) = cuB n y := by
  unfold cuB shv
  rw [pow3, decide_eq_decide]
  omega
theorem cu_uniq (n r s : Nat) (h1 : cuB n r = true) (h2 : cuB n (r + 1) = false) (g1 : cuB n s = true) (g2 : cuB n (s + 1) = false) : r = s := by
  simp only [cuB, decide_eq_true_eq, decide_eq_false_iff_not, Nat.not_le] at h1 h2 g1 g2
  rcases Nat.lt_trichotomy r s with h | h | h
  · have := mul3_le (show r + 1 ≤ s by omega); omega
  · exact h
  · have := mul3_le (show s + 1 ≤ r by omega); omega
theorem cu_39 (p : Int) : srch (cuB (clip p)) 39 0 = cu p := by
  have hc := clip_le p
  have h := srch_ok (cuB (clip p)) 42 0 (by simp [cuB]) (by simp [cuB]; omega)
  have g := srch_ok (cuB (clip p)) 39 0 (by simp [cuB]) (by simp [cuB]; omega)
  exact cu_uniq _ _ _ g.1 g.2 h.1 h.2

def CRel (w : World) (B : Nat → Bool) (x unit : Value) (wr : World) : Prop := ∃ (j X : Nat), j ≤ 39 ∧ x = .int .u64 X ∧ unit = .int .u64 (bitv j) ∧ X + 2 ^ j ≤ 549755813888 ∧ srch B j X = srch B 39 0 ∧ Below w.heap.size w wr

theorem bitv_le39 (j : Nat) (hj : j ≤ 39) : bitv j ≤ 274877906944 := by
  cases j with
  | zero => simp [bitv]
  | succ k => exact Nat.pow_le_pow_right (by omega) (show k ≤ 38 by omega)

set_option maxRecDepth 100000 in
set_option maxHeartbeats 1000000 in
theorem root_any (p : Int) (w : World) (h0 : -9223372036854775808 ≤ p) (h1 : p ≤ 9223372036854775807) :
    Calls Try.prog 26 #[.int .i64 p, .int .i64 3] w fun e w' => e = .returned (.int .u64 (cu p)) ∧ Below w.heap.size w w' := by
  have hc := clip_le p
  have h39 := Lib.hid (cu_39 p)
  go_enter Try.func26, Try.ntmps26
  go_wp2_with fail
  refine (clip_any p _ h0 h1).mono ?_
  rintro e w' ⟨rfl, rfl⟩
  go_wp2_with fail
  refine (shifted6 (clip p) _ (by omega) (by omega)).mono ?_
  rintro e w2 ⟨a2, c2, r2, rfl, ho2, hb2, hr2, hv2⟩
  have O2 := Lib.hid ho2.reads; have B2 := Lib.hid hb2; have R2 := Lib.hid hr2; have V2 := Lib.hid hv2; clear ho2 hb2 hr2 hv2
  have s2 := B2.out.size
  go_wp2
  go_loopw [6, 7] (fun x unit wr => CRel w2 (cuB (clip p)) x unit wr) (fun _ unit _ => (intOf unit).toNat)
  case atStart => exact ⟨39, 0, by omega, rfl, rfl, by omega, rfl, Below.refl _ _⟩
  case round =>
    obtain ⟨j, X, hj, rfl, rfl, hX, hs, hb⟩ := hrel
    have HS := Lib.hid hs; have HB := Lib.hid hb; clear hs hb
    have sb := HB.out.size
    cases j with
    | zero =>
      have HW := Lib.hid (B2.out.trans (HB.out.mono s2))
      go_wp2
      go_ret
      exact ⟨ret_int (by rw [← h39.out, ← HS.out]; rfl), HW.out⟩
    | succ k =>
      have hb0 : 0 < bitv (k + 1) := Nat.two_pow_pos k
      have hb1 := bitv_le39 (k + 1) hj
      have hh := bitv_half k
      have hp : X + (bitv (k + 1) + bitv (k + 1)) ≤ 549755813888 := by simp only [bitv]; rw [Nat.pow_succ] at hX; omega
      have hx2 : X + bitv (k + 1) + 2 ^ k ≤ 549755813888 := by simp only [bitv]; rw [Nat.pow_succ] at hX; omega
      have hx3 : X + 2 ^ k ≤ 549755813888 := by rw [Nat.pow_succ] at hX; omega
      have hstep : srch (cuB (clip p)) (k + 1) X = if cuB (clip p) (X + bitv (k + 1)) then srch (cuB (clip p)) k (X + bitv (k + 1)) else srch (cuB (clip p)) k X := rfl
      have hdec := cu_dec (clip p) (X + bitv (k + 1))
      have HX2 := Lib.hid hx2; have HX3 := Lib.hid hx3; have HT := Lib.hid hstep; have HF := Lib.hid hh; have HD := Lib.hid hdec
      clear hX hstep hh hx2 hx3 hdec
      generalize bitv (k + 1) = T at hb0 hb1 hp HT HF HX2 HD ⊢
      have hbit : Value.int IntKind.u64 ((T : Int) / 2) = .int .u64 (bitv k) := by rw [← HF.out]; rfl
      have HBit := Lib.hid hbit; clear hbit
      go_wp2_with fail
      refine (power_any ((X : Int) + T) 3 _ (by omega) (by omega) (by omega)).mono ?_
      rintro e w3 ⟨a3, c3, r3, rfl, ho3, hb3, hr3, hv3⟩
      have O3 := Lib.hid ho3; have B3 := Lib.hid (HB.out.trans (hb3.mono sb)); have R3 := Lib.hid hr3; have V3 := Lib.hid hv3
      have O23 := Lib.hid (O2.out.below B3.out); clear ho3 hb3 hr3 hv3
      go_wp2_with fail
      refine (most_any _ _ _ r3 _ _ _ r2 _ O3.out.reads O23.out rfl rfl R3.out R2.out).mono ?_
      rintro e w4 ⟨rfl, m4, rfl⟩
      have hd := HD.out
      push_cast at hd
      rw [V3.out, V2.out, hd]
      clear hd
      have HB4 := Lib.hid (below_drewN B3.out m4)
      rcases Bool.eq_false_or_eq_true (cuB (clip p) (X + T)) with hB | hB
      · rw [hB]
        have HB' := Lib.hid hB; clear hB
        go_wp2
        go_roundw
        case rel => exact ⟨k, X + T, by omega, by go_num, HBit.out, HX2.out, by rw [← HS.out, HT.out, if_pos HB'.out], HB4.out⟩
        case measure => simp [intOf]; omega
      · rw [hB]
        have HB' := Lib.hid hB; clear hB
        go_wp2
        go_roundw
        case rel => exact ⟨k, X, by omega, rfl, HBit.out, HX3.out, by rw [← HS.out, HT.out, HB'.out]; rfl, HB4.out⟩
        case measure => simp [intOf]; omega

theorem pow2 (y : Nat) : ((y : Nat) : Int) ^ 2 = ((y * y : Nat) : Int) := by
  push_cast; rw [Int.pow_succ, Int.pow_succ, Int.pow_zero, Int.one_mul]
theorem sq_dec (n y : Nat) : decide (((y : Nat) : Int) ^ 2 ≤ shv n 4) = sqB n y := by
  unfold sqB shv
  rw [pow2, decide_eq_decide]
  omega
def QRel (w : World) (B : Nat → Bool) (x unit : Value) (wr : World) : Prop := ∃ (j X : Nat), j ≤ 42 ∧ x = .int .u64 X ∧ unit = .int .u64 (bitv j) ∧ X + 2 ^ j ≤ 4398046511104 ∧ srch B j X = srch B 42 0 ∧ Below w.heap.size w wr

set_option maxRecDepth 100000 in
set_option maxHeartbeats 1000000 in
theorem root2_any (p : Int) (w : World) (h0 : -9223372036854775808 ≤ p) (h1 : p ≤ 9223372036854775807) :
    Calls Try.prog 26 #[.int .i64 p, .int .i64 2] w fun e w' => e = .returned (.int .u64 (sq p)) ∧ Below w.heap.size w w' := by
  have hc := clip_le p
  have h39 := Lib.hid (show srch (sqB (clip p)) 42 0 = sq p from rfl)
  go_enter Try.func26, Try.ntmps26
  go_wp2_with fail
  refine (clip_any p _ h0 h1).mono ?_
  rintro e w' ⟨rfl, rfl⟩
  go_wp2_with fail
  refine (shifted4 (clip p) _ (by omega) (by omega)).mono ?_
  rintro e w2 ⟨a2, c2, r2, rfl, ho2, hb2, hr2, hv2⟩
  have O2 := Lib.hid ho2.reads; have B2 := Lib.hid hb2; have R2 := Lib.hid hr2; have V2 := Lib.hid hv2; clear ho2 hb2 hr2 hv2
  have s2 := B2.out.size
  go_wp2
  go_loopw [6, 7] (fun x unit wr => QRel w2 (sqB (clip p)) x unit wr) (fun _ unit _ => (intOf unit).toNat)
  case atStart => exact ⟨42, 0, by omega, rfl, rfl, by omega, rfl, Below.refl _ _⟩
  case round =>
    obtain ⟨j, X, hj, rfl, rfl, hX, hs, hb⟩ := hrel
    have HS := Lib.hid hs; have HB := Lib.hid hb; clear hs hb
    have sb := HB.out.size
    cases j with
    | zero =>
      have HW := Lib.hid (B2.out.trans (HB.out.mono s2))
      go_wp2
      go_ret
      exact ⟨ret_int (by rw [← h39.out, ← HS.out]; rfl), HW.out⟩
    | succ k =>
      have hb0 : 0 < bitv (k + 1) := Nat.two_pow_pos k
      have hb1 := bitv_le (k + 1) hj
      have hh := bitv_half k
      have hp : X + (bitv (k + 1) + bitv (k + 1)) ≤ 4398046511104 := by simp only [bitv]; rw [Nat.pow_succ] at hX; omega
      have hx2 : X + bitv (k + 1) + 2 ^ k ≤ 4398046511104 := by simp only [bitv]; rw [Nat.pow_succ] at hX; omega
      have hx3 : X + 2 ^ k ≤ 4398046511104 := by rw [Nat.pow_succ] at hX; omega
      have hstep : srch (sqB (clip p)) (k + 1) X = if sqB (clip p) (X + bitv (k + 1)) then srch (sqB (clip p)) k (X + bitv (k + 1)) else srch (sqB (clip p)) k X := rfl
      have hdec := sq_dec (clip p) (X + bitv (k + 1))
      have HX2 := Lib.hid hx2; have HX3 := Lib.hid hx3; have HT := Lib.hid hstep; have HF := Lib.hid hh; have HD := Lib.hid hdec
      clear hX hstep hh hx2 hx3 hdec
      generalize bitv (k + 1) = T at hb0 hb1 hp HT HF HX2 HD ⊢
      have hbit : Value.int IntKind.u64 ((T : Int) / 2) = .int .u64 (bitv k) := by rw [← HF.out]; rfl
      have HBit := Lib.hid hbit; clear hbit
      go_wp2_with fail
      refine (power_any ((X : Int) + T) 2 _ (by omega) (by omega) (by omega)).mono ?_
      rintro e w3 ⟨a3, c3, r3, rfl, ho3, hb3, hr3, hv3⟩
      have O3 := Lib.hid ho3; have B3 := Lib.hid (HB.out.trans (hb3.mono sb)); have R3 := Lib.hid hr3; have V3 := Lib.hid hv3
      have O23 := Lib.hid (O2.out.below B3.out); clear ho3 hb3 hr3 hv3
      go_wp2_with fail
      refine (most_any _ _ _ r3 _ _ _ r2 _ O3.out.reads O23.out rfl rfl R3.out R2.out).mono ?_
      rintro e w4 ⟨rfl, m4, rfl⟩
      have hd := HD.out
      push_cast at hd
      rw [V3.out, V2.out, hd]
      clear hd
      have HB4 := Lib.hid (below_drewN B3.out m4)
      rcases Bool.eq_false_or_eq_true (sqB (clip p) (X + T)) with hB | hB
      · rw [hB]
        have HB' := Lib.hid hB; clear hB
        go_wp2
        go_roundw
        case rel => exact ⟨k, X + T, by omega, by go_num, HBit.out, HX2.out, by rw [← HS.out, HT.out, if_pos HB'.out], HB4.out⟩
        case measure => simp [intOf]; omega
      · rw [hB]
        have HB' := Lib.hid hB; clear hB
        go_wp2
        go_roundw
        case rel => exact ⟨k, X, by omega, rfl, HBit.out, HX3.out, by rw [← HS.out, HT.out, HB'.out]; rfl, HB4.out⟩
        case measure => simp [intOf]; omega

end Go.Proofs.Ytlpiacofnciodaa.rs
