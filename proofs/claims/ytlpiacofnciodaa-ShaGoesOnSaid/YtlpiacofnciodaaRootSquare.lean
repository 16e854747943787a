/-
  Contracts of layer 2's roots: the search, and both roots.
-/
import Derived.Test.YtlpiacofnciodaaRootWalks
namespace Go.Proofs.Ytlpiacofnciodaa.rs
open Go.ChangeShapes Go.WideShapes Go.ChangeAt Go.RowKit
set_option linter.unusedVariables false

/-- The bit that is tried next, with j bits still to try. -/
def bitv : Nat → Nat
  | 0 => 0
  | k + 1 => 2 ^ k
theorem bitv_half (k : Nat) : bitv (k + 1) / 2 = bitv k := by
  cases k with
  | zero => rfl
  | succ j => simp only [bitv, Nat.pow_succ]; omega

def SRel (B : Nat → Bool) (x bit : Value) : Prop := ∃ (j X : Nat), j ≤ 42 ∧ x = .int .u64 X ∧ bit = .int .u64 (bitv j) ∧ X + 2 ^ j ≤ 4398046511104 ∧ srch B j X = srch B 42 0

theorem bitv_le (j : Nat) (hj : j ≤ 42) : bitv j ≤ 2199023255552 := by
  cases j with
  | zero => simp [bitv]
  | succ k => exact Nat.pow_le_pow_right (by omega) (show k ≤ 41 by omega)

set_option maxHeartbeats 1000000 in
theorem greatest_sq (B : Nat → Bool) (b : Nat) (w : World) (H : ∀ (y : Nat) (W : World), W = w → y ≤ 4398046511104 → Calls Try.prog 45 #[.int .u64 y, .pointer (some ⟨b, 0, none⟩)] W fun e w' => e = .returned (.bool (B y)) ∧ W = w') :
    Calls Try.prog 44 #[.func (.func 45) #[] #[.pointer (some ⟨b, 0, none⟩)]] w fun e w' => e = .returned (.int .u64 (srch B 42 0)) ∧ w = w' := by
  have HH := Lib.hid H; clear H
  go_enter Try.func44, Try.ntmps44
  go_wp2
  go_loop [3, 4] (fun x bit => SRel B x bit) (fun _ bit => (intOf bit).toNat)
  case atStart => exact ⟨42, 0, by omega, rfl, rfl, by omega, rfl⟩
  case round =>
    obtain ⟨j, X, hj, rfl, rfl, hX, hs⟩ := hrel
    have HS := Lib.hid hs; clear hs
    cases j with
    | zero =>
      go_wp2
      go_ret
      exact ⟨ret_int (by rw [← HS.out]; rfl), rfl⟩
    | succ k =>
      have hb0 : 0 < bitv (k + 1) := Nat.two_pow_pos k
      have hb1 := bitv_le (k + 1) hj
      have hh := bitv_half k
      have hp : X + (bitv (k + 1) + bitv (k + 1)) ≤ 4398046511104 := by simp only [bitv]; rw [Nat.pow_succ] at hX; omega
      have hstep : srch B (k + 1) X = if B (X + bitv (k + 1)) then srch B k (X + bitv (k + 1)) else srch B k X := rfl
      have HP := Lib.hid hX; have HT := Lib.hid hstep; have HF := Lib.hid hh
      clear hX hstep hh
      generalize hg : bitv (k + 1) = T at hb0 hb1 hp HT HF ⊢
      have HG := Lib.hid hg; clear hg
      have HC := Lib.hid (HH.out (X + T) w rfl (by omega))
      have hc := HC.out
      push_cast at hc
      have HC2 := Lib.hid hc; clear hc
      have hx2 : X + T + 2 ^ k ≤ 4398046511104 := by have := HP.out; have h2 := HG.out; simp only [bitv] at h2; rw [Nat.pow_succ] at this; omega
      have hx3 : X + 2 ^ k ≤ 4398046511104 := by omega
      have hbit : Value.int IntKind.u64 ((T : Int) / 2) = .int .u64 (bitv k) := by rw [← HF.out]; rfl
      have HX2 := Lib.hid hx2; have HX3 := Lib.hid hx3; have HBit := Lib.hid hbit; clear hx2 hx3 hbit
      rcases Bool.eq_false_or_eq_true (B (X + T)) with hB | hB
      · rw [hB] at HC2
        have HB := Lib.hid hB; clear hB
        go_wp2_with (go_at_call 45; refine (HC2.out).mono ?_; rintro e w' ⟨rfl, rfl⟩)
        go_round
        case rel => exact ⟨k, X + T, by omega, by go_num, HBit.out, HX2.out, by rw [← HS.out, HT.out, if_pos HB.out]⟩
        case measure => simp [intOf]; omega
      · rw [hB] at HC2
        have HB := Lib.hid hB; clear hB
        go_wp2_with (go_at_call 45; refine (HC2.out).mono ?_; rintro e w' ⟨rfl, rfl⟩)
        go_round
        case rel => exact ⟨k, X, by omega, rfl, HBit.out, HX3.out, by rw [← HS.out, HT.out, HB.out]; rfl⟩
        case measure => simp [intOf]; omega

set_option maxHeartbeats 1000000 in
theorem greatest_cu (B : Nat → Bool) (b : Nat) (w : World) (H : ∀ (y : Nat) (W : World), W = w → y ≤ 4398046511104 → Calls Try.prog 47 #[.int .u64 y, .pointer (some ⟨b, 0, none⟩)] W fun e w' => e = .returned (.bool (B y)) ∧ W = w') :
    Calls Try.prog 44 #[.func (.func 47) #[] #[.pointer (some ⟨b, 0, none⟩)]] w fun e w' => e = .returned (.int .u64 (srch B 42 0)) ∧ w = w' := by
  have HH := Lib.hid H; clear H
  go_enter Try.func44, Try.ntmps44
  go_wp2
  go_loop [3, 4] (fun x bit => SRel B x bit) (fun _ bit => (intOf bit).toNat)
  case atStart => exact ⟨42, 0, by omega, rfl, rfl, by omega, rfl⟩
  case round =>
    obtain ⟨j, X, hj, rfl, rfl, hX, hs⟩ := hrel
    have HS := Lib.hid hs; clear hs
    cases j with
    | zero =>
      go_wp2
      go_ret
      exact ⟨ret_int (by rw [← HS.out]; rfl), rfl⟩
    | succ k =>
      have hb0 : 0 < bitv (k + 1) := Nat.two_pow_pos k
      have hb1 := bitv_le (k + 1) hj
      have hh := bitv_half k
      have hp : X + (bitv (k + 1) + bitv (k + 1)) ≤ 4398046511104 := by simp only [bitv]; rw [Nat.pow_succ] at hX; omega
      have hstep : srch B (k + 1) X = if B (X + bitv (k + 1)) then srch B k (X + bitv (k + 1)) else srch B k X := rfl
      have HP := Lib.hid hX; have HT := Lib.hid hstep; have HF := Lib.hid hh
      clear hX hstep hh
      generalize hg : bitv (k + 1) = T at hb0 hb1 hp HT HF ⊢
      have HG := Lib.hid hg; clear hg
      have HC := Lib.hid (HH.out (X + T) w rfl (by omega))
      have hc := HC.out
      push_cast at hc
      have HC2 := Lib.hid hc; clear hc
      have hx2 : X + T + 2 ^ k ≤ 4398046511104 := by have := HP.out; have h2 := HG.out; simp only [bitv] at h2; rw [Nat.pow_succ] at this; omega
      have hx3 : X + 2 ^ k ≤ 4398046511104 := by omega
      have hbit : Value.int IntKind.u64 ((T : Int) / 2) = .int .u64 (bitv k) := by rw [← HF.out]; rfl
      have HX2 := Lib.hid hx2; have HX3 := Lib.hid hx3; have HBit := Lib.hid hbit; clear hx2 hx3 hbit
      rcases Bool.eq_false_or_eq_true (B (X + T)) with hB | hB
      · rw [hB] at HC2
        have HB := Lib.hid hB; clear hB
        go_wp2_with (go_at_call 47; refine (HC2.out).mono ?_; rintro e w' ⟨rfl, rfl⟩)
        go_round
        case rel => exact ⟨k, X + T, by omega, by go_num, HBit.out, HX2.out, by rw [← HS.out, HT.out, if_pos HB.out]⟩
        case measure => simp [intOf]; omega
      · rw [hB] at HC2
        have HB := Lib.hid hB; clear hB
        go_wp2_with (go_at_call 47; refine (HC2.out).mono ?_; rintro e w' ⟨rfl, rfl⟩)
        go_round
        case rel => exact ⟨k, X, by omega, rfl, HBit.out, HX3.out, by rw [← HS.out, HT.out, HB.out]; rfl⟩
        case measure => simp [intOf]; omega

theorem clip_cast (p : Int) : (min (max p 0) 65536 : Int) = (clip p : Int) := by unfold clip; omega

set_option maxHeartbeats 1000000 in
theorem square_any (p : Int) (w : World) (h0 : -9223372036854775808 ≤ p) (h1 : p ≤ 9223372036854775807) :
    Calls Try.prog 33 #[.int .i64 p] w fun e w' => e = .returned (.int .u64 (sq p)) ∧ Below w.heap.size w w' := by
  have hmf : ∀ (fn : Fn) (first cap : Array Value) (w : World), (Instr.makeFunc fn first cap).run Try.prog w = .ok (.func fn first cap) w := fun _ _ _ _ => rfl
  have hc := clip_le p
  go_enter Try.func33, Try.ntmps33
  go_wp2_with fail
  refine (clamp_any p 65536 _ h0 h1 (by omega) (by omega)).mono ?_
  rintro e w' ⟨rfl, rfl⟩
  rw [clip_cast]
  go_wp2_with fail
  refine (greatest_sq (sqB (clip p)) w.heap.size _ (fun y W hW hy => square1_any (clip p) y w.heap.size W (by omega) hc (by rw [hW]; simp))).mono ?_
  rintro e w' ⟨rfl, rfl⟩
  go_wp2
  go_ret
  exact ⟨rfl, (Below.refl _ _).alloc (Nat.le_refl _) _⟩

set_option maxHeartbeats 1000000 in
theorem cube_any (p : Int) (w : World) (h0 : -9223372036854775808 ≤ p) (h1 : p ≤ 9223372036854775807) :
    Calls Try.prog 34 #[.int .i64 p] w fun e w' => e = .returned (.int .u64 (cu p)) ∧ Below w.heap.size w w' := by
  have hmf : ∀ (fn : Fn) (first cap : Array Value) (w : World), (Instr.makeFunc fn first cap).run Try.prog w = .ok (.func fn first cap) w := fun _ _ _ _ => rfl
  have hc := clip_le p
  go_enter Try.func34, Try.ntmps34
  go_wp2_with fail
  refine (clamp_any p 65536 _ h0 h1 (by omega) (by omega)).mono ?_
  rintro e w' ⟨rfl, rfl⟩
  rw [clip_cast]
  go_wp2_with fail
  refine (greatest_cu (cuB (clip p)) w.heap.size _ (fun y W hW hy => cube1_any (clip p) y w.heap.size W hy hc (by rw [hW]; simp))).mono ?_
  rintro e w' ⟨rfl, rfl⟩
  go_wp2
  go_ret
  exact ⟨rfl, (Below.refl _ _).alloc (Nat.le_refl _) _⟩

end Go.Proofs.Ytlpiacofnciodaa.rs
