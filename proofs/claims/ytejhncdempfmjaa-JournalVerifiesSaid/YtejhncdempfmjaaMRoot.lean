/-
  Joined texts: RootPlain, RootWalks, RootSquare, U64s, I64s, U32s, Limbs, Times, Power, PrimePlain, Primes, RootRef.
-/
import Derived.Test.YtejhncdempfmjaaRows
import Derived.Test.YtejhncdempfmjaaShelf
import Derived.WalkKit
import Derived.ProofKit
import Derived.Lib.Hide
import Derived.Below
import Derived.WalkSmall
import Derived.Outline
import Derived.WalkLawsBesides
import Derived.OneCell
import Derived.Test.YtejhncdempfmjaaOwn
/-
  Plain arithmetic of layer 2: the search, bit by bit, for the greatest number that keeps below.
-/
namespace Go.Proofs.Ytejhncdempfmjaa.rs

/-- The search: from x on, with k bits still to try. -/
def srch (B : Nat → Bool) : Nat → Nat → Nat
  | 0, x => x
  | k + 1, x => if B (x + 2 ^ k) then srch B k (x + 2 ^ k) else srch B k x

theorem srch_bd (B : Nat → Bool) : ∀ k x, x ≤ srch B k x ∧ srch B k x < x + 2 ^ k
  | 0, x => by simp [srch]
  | k + 1, x => by
    unfold srch
    have h1 := srch_bd B k (x + 2 ^ k)
    have h2 := srch_bd B k x
    rw [Nat.pow_succ]
    split <;> omega

theorem srch_ok (B : Nat → Bool) : ∀ k x, B x = true → B (x + 2 ^ k) = false → B (srch B k x) = true ∧ B (srch B k x + 1) = false
  | 0, x, h0, h1 => ⟨h0, h1⟩
  | k + 1, x, h0, h1 => by
    unfold srch
    split
    · rename_i h
      refine srch_ok B k _ h ?_
      rw [show x + 2 ^ k + 2 ^ k = x + 2 ^ (k + 1) by rw [Nat.pow_succ]; omega]
      exact h1
    · rename_i h
      exact srch_ok B k x h0 (by simpa using h)

/-- Two searches with the same answers below a bound come to the same. -/
theorem srch_congr (B C : Nat → Bool) (m : Nat) (h : ∀ y, y < m → B y = C y) : ∀ k x, x + 2 ^ k ≤ m → srch B k x = srch C k x
  | 0, x, _ => rfl
  | k + 1, x, hx => by
    have hp : 0 < 2 ^ k := Nat.two_pow_pos k
    rw [Nat.pow_succ] at hx
    unfold srch
    rw [h (x + 2 ^ k) (by omega), srch_congr B C m h k (x + 2 ^ k) (by omega), srch_congr B C m h k x (by omega)]

def clip (p : Int) : Nat := (min (max p 0) 65536).toNat
theorem clip_le (p : Int) : clip p ≤ 65536 := by unfold clip; omega
def sqB (n : Nat) (y : Nat) : Bool := decide (y * y ≤ n * 18446744073709551616)
def cuB (n : Nat) (y : Nat) : Bool := decide (y * y * y ≤ n * 79228162514264337593543950336)
/-- The roots. -/
def sq (p : Int) : Nat := srch (sqB (clip p)) 42 0
def cu (p : Int) : Nat := srch (cuB (clip p)) 42 0

theorem sq_ok (p : Int) : sq p * sq p ≤ clip p * 18446744073709551616 ∧ clip p * 18446744073709551616 < (sq p + 1) * (sq p + 1) ∧ sq p ≤ 1099511627776 := by
  have hc := clip_le p
  have h := srch_ok (sqB (clip p)) 42 0 (by simp [sqB]) (by simp [sqB]; omega)
  simp only [sqB, decide_eq_true_eq, decide_eq_false_iff_not, Nat.not_le] at h
  refine ⟨h.1, h.2, ?_⟩
  apply Classical.byContradiction
  intro hx
  have h2 : 1099511627777 * 1099511627777 ≤ sq p * sq p := Nat.mul_le_mul (by omega) (by omega)
  have := h.1
  unfold sq at h2
  omega

theorem mul3_le {a b : Nat} (h : a ≤ b) : a * a * a ≤ b * b * b := Nat.mul_le_mul (Nat.mul_le_mul h h) h

theorem cu_ok (p : Int) : cu p * cu p * cu p ≤ clip p * 79228162514264337593543950336 ∧ clip p * 79228162514264337593543950336 < (cu p + 1) * (cu p + 1) * (cu p + 1) ∧ cu p ≤ 274877906944 := by
  have hc := clip_le p
  have h := srch_ok (cuB (clip p)) 42 0 (by simp [cuB]) (by simp [cuB]; omega)
  simp only [cuB, decide_eq_true_eq, decide_eq_false_iff_not, Nat.not_le] at h
  refine ⟨h.1, h.2, ?_⟩
  apply Classical.byContradiction
  intro hx
  have h2 : 274877906945 * 274877906945 * 274877906945 ≤ cu p * cu p * cu p := mul3_le (by omega)
  have := h.1
  unfold cu at h2
  omega

theorem sq_four : sq 4 = 8589934592 := by decide +kernel
theorem cu_eight : cu 8 = 8589934592 := by decide +kernel

/-- What the program asks, and what the search asks. -/
theorem below_iff (P n : Nat) : (P / 18446744073709551616 < n ∨ P / 18446744073709551616 = n ∧ P % 18446744073709551616 = 0) ↔ P ≤ n * 18446744073709551616 := by omega

end Go.Proofs.Ytejhncdempfmjaa.rs

/-
  Contracts of layer 2's roots.
-/
namespace Go.Proofs.Ytejhncdempfmjaa.rs
open Go.ChangeShapes Go.WideShapes Go.ChangeAt Go.RowKit
set_option linter.unusedVariables false

theorem ret_int {k : IntKind} {a b : Int} (h : a = b) : Ending.returned (.int k a) = .returned (.int k b) := by rw [h]
theorem ret_bool {a b : Bool} (h : a = b) : Ending.returned (.bool a) = .returned (.bool b) := by rw [h]

set_option maxHeartbeats 400000 in
theorem clamp_any (p m : Int) (w : World) (h0 : -9223372036854775808 ≤ p) (h1 : p ≤ 9223372036854775807) (m0 : 0 ≤ m) (m1 : m ≤ 65536) :
    Calls Try.prog 102 #[.int .i64 p, .int .i64 m] w fun e w' => e = .returned (.int .u64 (min (max p 0) m)) ∧ w = w' := by
  go_enter Try.func102, Try.ntmps102
  go_wp2
  all_goals
    go_ret
    exact ⟨ret_int (by omega), rfl⟩

/-- Two halves of a product held against a number, as the program does it. -/
theorem halves (H L n : Nat) : (decide ((H : Int) < n) = true ∧ (decide (H < n ∨ H = n ∧ L = 0)) = true) ∨
    (decide ((H : Int) < n) = false ∧ ((H : Int) == n) = true ∧ ((L : Int) == 0) = true ∧ (decide (H < n ∨ H = n ∧ L = 0)) = true) ∨
    (decide ((H : Int) < n) = false ∧ ((H : Int) == n) = true ∧ ((L : Int) == 0) = false ∧ (decide (H < n ∨ H = n ∧ L = 0)) = false) ∨
    (decide ((H : Int) < n) = false ∧ ((H : Int) == n) = false ∧ (decide (H < n ∨ H = n ∧ L = 0)) = false) := by
  by_cases h1 : H < n
  · left; simp; omega
  · by_cases h2 : H = n
    · by_cases h3 : L = 0
      · right; left; simp; omega
      · right; right; left; simp; omega
    · right; right; right; simp; omega

theorem sqB_eq (n y : Nat) : sqB n y = decide (y * y / 18446744073709551616 < n ∨ y * y / 18446744073709551616 = n ∧ y * y % 18446744073709551616 = 0) := by
  unfold sqB
  rw [decide_eq_decide]
  exact (below_iff _ _).symm

set_option maxHeartbeats 400000 in
theorem square1_any (n y : Nat) (b : Nat) (w : World) (hy : y < 18446744073709551616) (hn : n ≤ 65536) (hc : w.cell? ⟨b, 0, none⟩ = some (.int .u64 n)) :
    Calls Try.prog 105 #[.int .u64 y, .pointer (some ⟨b, 0, none⟩)] w fun e w' => e = .returned (.bool (sqB n y)) ∧ w = w' := by
  have hm := Try.bits_Mul64 y y hy hy
  have hq := sqB_eq n y
  generalize y * y / 18446744073709551616 = H at hm hq
  generalize y * y % 18446744073709551616 = L at hm hq
  rw [hq]
  have HM := Lib.hid hm; clear hm hq
  rcases halves H L n with ⟨h1, hd⟩ | ⟨h1, h2, h3, hd⟩ | ⟨h1, h2, h3, hd⟩ | ⟨h1, h2, hd⟩
  all_goals
    rw [hd]
    clear hd
    simp only [Int.ofNat_lt] at h1
    go_enter Try.func105, Try.ntmps105
    go_wp2_with fail
    refine (HM.out _).mono ?_
    rintro e w' ⟨rfl, hw⟩
    obtain rfl : w = w' := hw.symm
    go_wp2
    go_ret
    exact ⟨rfl, rfl⟩

theorem cuB_eq (n y : Nat) : cuB n y = decide ((y * y / 18446744073709551616 * y + y * y % 18446744073709551616 * y / 18446744073709551616) < n * 4294967296 ∨ (y * y / 18446744073709551616 * y + y * y % 18446744073709551616 * y / 18446744073709551616) = n * 4294967296 ∧ y * y % 18446744073709551616 * y % 18446744073709551616 = 0) := by
  unfold cuB
  rw [decide_eq_decide, show n * 79228162514264337593543950336 = n * 4294967296 * 18446744073709551616 by omega, ← below_iff]
  have e : y * y * y = y * y / 18446744073709551616 * y * 18446744073709551616 + y * y % 18446744073709551616 * y := by
    have h := Nat.div_add_mod (y * y) 18446744073709551616
    conv => lhs; rw [← h]
    rw [Nat.add_mul, Nat.mul_comm 18446744073709551616, Nat.mul_assoc, Nat.mul_comm 18446744073709551616 y, ← Nat.mul_assoc]
  rw [e]
  generalize y * y / 18446744073709551616 * y = A
  generalize y * y % 18446744073709551616 * y = C
  rw [show (A * 18446744073709551616 + C) / 18446744073709551616 = A + C / 18446744073709551616 by omega, show (A * 18446744073709551616 + C) % 18446744073709551616 = C % 18446744073709551616 by omega]

/-- What the cube's halves come to goes not round. -/
theorem top_small (y : Nat) (hy : y ≤ 4398046511104) : y * y / 18446744073709551616 * y + y * y % 18446744073709551616 * y / 18446744073709551616 < 18446744073709551616 := by
  have h1 : y * y ≤ 4398046511104 * 4398046511104 := Nat.mul_le_mul hy hy
  have h2 : y * y / 18446744073709551616 ≤ 1048576 := by omega
  have h3 : y * y / 18446744073709551616 * y ≤ 1048576 * 4398046511104 := Nat.mul_le_mul h2 hy
  have h4 : y * y % 18446744073709551616 * y ≤ 18446744073709551616 * 4398046511104 := Nat.mul_le_mul (by omega) hy
  omega

set_option maxHeartbeats 400000 in
theorem cube1_any (n y : Nat) (b : Nat) (w : World) (hy : y ≤ 4398046511104) (hn : n ≤ 65536) (hc : w.cell? ⟨b, 0, none⟩ = some (.int .u64 (n * 4294967296 : Nat))) :
    Calls Try.prog 107 #[.int .u64 y, .pointer (some ⟨b, 0, none⟩)] w fun e w' => e = .returned (.bool (cuB n y)) ∧ w = w' := by
  have hm := Try.bits_Mul64 y y (by omega) (by omega)
  have hm2 := Try.bits_Mul64 (y * y % 18446744073709551616) y (by omega) (by omega)
  have hq := cuB_eq n y
  have ht := top_small y hy
  rw [hq]
  clear hq
  generalize y * y / 18446744073709551616 = H at hm hm2 ht ⊢
  generalize y * y % 18446744073709551616 = L at hm hm2 ht ⊢
  generalize L * y / 18446744073709551616 = C at hm2 ht ⊢
  generalize L * y % 18446744073709551616 = R at hm2 ⊢
  generalize hN : n * 4294967296 = N at hc ⊢
  generalize hT : H * y + C = T at ht ⊢
  have hT' : IntKind.u64.wrap (IntKind.u64.wrap ((H : Int) * y) + C) = T := by
    simp only [IntKind.wrap, IntKind.signed, IntKind.bits, Bool.false_and]
    rw [if_neg (by simp), if_neg (by simp), ← hT]
    push_cast
    have : (H : Int) * y = ((H * y : Nat) : Int) := by push_cast; rfl
    rw [this]
    omega
  have HM := Lib.hid hm; have HM2 := Lib.hid hm2; have HT := Lib.hid hT'; clear hm hm2 hN hT hT'
  rcases halves T R N with ⟨h1, hd⟩ | ⟨h1, h2, h3, hd⟩ | ⟨h1, h2, h3, hd⟩ | ⟨h1, h2, hd⟩
  all_goals
    rw [hd]
    clear hd
    simp only [Int.ofNat_lt] at h1
    go_enter Try.func107, Try.ntmps107
    go_wp2_with fail
    refine (HM.out _).mono ?_
    rintro e w' ⟨rfl, hw⟩
    obtain rfl : w = w' := hw.symm
    go_wp2_with fail
    refine (HM2.out _).mono ?_
    rintro e w' ⟨rfl, hw⟩
    obtain rfl : w = w' := hw.symm
    have hT' := HT.out
    go_wp2
    go_ret
    exact ⟨rfl, rfl⟩

end Go.Proofs.Ytejhncdempfmjaa.rs

/-
  Contracts of layer 2's roots: the search, and both roots.
-/
namespace Go.Proofs.Ytejhncdempfmjaa.rs
open Go.ChangeShapes Go.WideShapes Go.ChangeAt Go.RowKit
set_option linter.unusedVariables false

/-- The bit that is tried next, with j bits still to try. -/
def bitv : Nat → Nat
  | 0 => 0
  | k + 1 => 2 ^ k
theorem bitv_half (k : Nat) : bitv (k + 1) / 2 = bitv k := by
  cases k with
  | zero => rfl
  | succ j => simp only [bitv, Nat.pow_succ]; omega

def SRel (B : Nat → Bool) (x bit : Value) : Prop := ∃ (j X : Nat), j ≤ 42 ∧ x = .int .u64 X ∧ bit = .int .u64 (bitv j) ∧ X + 2 ^ j ≤ 4398046511104 ∧ srch B j X = srch B 42 0

theorem bitv_le (j : Nat) (hj : j ≤ 42) : bitv j ≤ 2199023255552 := by
  cases j with
  | zero => simp [bitv]
  | succ k => exact Nat.pow_le_pow_right (by omega) (show k ≤ 41 by omega)

set_option maxHeartbeats 1000000 in
theorem greatest_sq (B : Nat → Bool) (b : Nat) (w : World) (H : ∀ (y : Nat) (W : World), W = w → y ≤ 4398046511104 → Calls Try.prog 105 #[.int .u64 y, .pointer (some ⟨b, 0, none⟩)] W fun e w' => e = .returned (.bool (B y)) ∧ W = w') :
    Calls Try.prog 104 #[.func (.func 105) #[] #[.pointer (some ⟨b, 0, none⟩)]] w fun e w' => e = .returned (.int .u64 (srch B 42 0)) ∧ w = w' := by
  have HH := Lib.hid H; clear H
  go_enter Try.func104, Try.ntmps104
  go_wp2
  go_loop [3, 4] (fun x bit => SRel B x bit) (fun _ bit => (intOf bit).toNat)
  case atStart => exact ⟨42, 0, by omega, rfl, rfl, by omega, rfl⟩
  case round =>
    obtain ⟨j, X, hj, rfl, rfl, hX, hs⟩ := hrel
    have HS := Lib.hid hs; clear hs
    cases j with
    | zero =>
      go_wp2
      go_ret
      exact ⟨ret_int (by rw [← HS.out]; rfl), rfl⟩
    | succ k =>
      have hb0 : 0 < bitv (k + 1) := Nat.two_pow_pos k
      have hb1 := bitv_le (k + 1) hj
      have hh := bitv_half k
      have hp : X + (bitv (k + 1) + bitv (k + 1)) ≤ 4398046511104 := by simp only [bitv]; rw [Nat.pow_succ] at hX; omega
      have hstep : srch B (k + 1) X = if B (X + bitv (k + 1)) then srch B k (X + bitv (k + 1)) else srch B k X := rfl
      have HP := Lib.hid hX; have HT := Lib.hid hstep; have HF := Lib.hid hh
      clear hX hstep hh
      generalize hg : bitv (k + 1) = T at hb0 hb1 hp HT HF ⊢
      have HG := Lib.hid hg; clear hg
      have HC := Lib.hid (HH.out (X + T) w rfl (by omega))
      have hc := HC.out
      push_cast at hc
      have HC2 := Lib.hid hc; clear hc
      have hx2 : X + T + 2 ^ k ≤ 4398046511104 := by have := HP.out; have h2 := HG.out; simp only [bitv] at h2; rw [Nat.pow_succ] at this; omega
      have hx3 : X + 2 ^ k ≤ 4398046511104 := by omega
      have hbit : Value.int IntKind.u64 ((T : Int) / 2) = .int .u64 (bitv k) := by rw [← HF.out]; rfl
      have HX2 := Lib.hid hx2; have HX3 := Lib.hid hx3; have HBit := Lib.hid hbit; clear hx2 hx3 hbit
      rcases Bool.eq_false_or_eq_true (B (X + T)) with hB | hB
      · rw [hB] at HC2
        have HB := Lib.hid hB; clear hB
        go_wp2_with (go_at_call 105; refine (HC2.out).mono ?_; rintro e w' ⟨rfl, rfl⟩)
        go_round
        case rel => exact ⟨k, X + T, by omega, by go_num, HBit.out, HX2.out, by rw [← HS.out, HT.out, if_pos HB.out]⟩
        case measure => simp [intOf]; omega
      · rw [hB] at HC2
        have HB := Lib.hid hB; clear hB
        go_wp2_with (go_at_call 105; refine (HC2.out).mono ?_; rintro e w' ⟨rfl, rfl⟩)
        go_round
        case rel => exact ⟨k, X, by omega, rfl, HBit.out, HX3.out, by rw [← HS.out, HT.out, HB.out]; rfl⟩
        case measure => simp [intOf]; omega

set_option maxHeartbeats 1000000 in
theorem greatest_cu (B : Nat → Bool) (b : Nat) (w : World) (H : ∀ (y : Nat) (W : World), W = w → y ≤ 4398046511104 → Calls Try.prog 107 #[.int .u64 y, .pointer (some ⟨b, 0, none⟩)] W fun e w' => e = .returned (.bool (B y)) ∧ W = w') :
    Calls Try.prog 104 #[.func (.func 107) #[] #[.pointer (some ⟨b, 0, none⟩)]] w fun e w' => e = .returned (.int .u64 (srch B 42 0)) ∧ w = w' := by
  have HH := Lib.hid H; clear H
  go_enter Try.func104, Try.ntmps104
  go_wp2
  go_loop [3, 4] (fun x bit => SRel B x bit) (fun _ bit => (intOf bit).toNat)
  case atStart => exact ⟨42, 0, by omega, rfl, rfl, by omega, rfl⟩
  case round =>
    obtain ⟨j, X, hj, rfl, rfl, hX, hs⟩ := hrel
    have HS := Lib.hid hs; clear hs
    cases j with
    | zero =>
      go_wp2
      go_ret
      exact ⟨ret_int (by rw [← HS.out]; rfl), rfl⟩
    | succ k =>
      have hb0 : 0 < bitv (k + 1) := Nat.two_pow_pos k
      have hb1 := bitv_le (k + 1) hj
      have hh := bitv_half k
      have hp : X + (bitv (k + 1) + bitv (k + 1)) ≤ 4398046511104 := by simp only [bitv]; rw [Nat.pow_succ] at hX; omega
      have hstep : srch B (k + 1) X = if B (X + bitv (k + 1)) then srch B k (X + bitv (k + 1)) else srch B k X := rfl
      have HP := Lib.hid hX; have HT := Lib.hid hstep; have HF := Lib.hid hh
      clear hX hstep hh
      generalize hg : bitv (k + 1) = T at hb0 hb1 hp HT HF ⊢
      have HG := Lib.hid hg; clear hg
      have HC := Lib.hid (HH.out (X + T) w rfl (by omega))
      have hc := HC.out
      push_cast at hc
      have HC2 := Lib.hid hc; clear hc
      have hx2 : X + T + 2 ^ k ≤ 4398046511104 := by have := HP.out; have h2 := HG.out; simp only [bitv] at h2; rw [Nat.pow_succ] at this; omega
      have hx3 : X + 2 ^ k ≤ 4398046511104 := by omega
      have hbit : Value.int IntKind.u64 ((T : Int) / 2) = .int .u64 (bitv k) := by rw [← HF.out]; rfl
      have HX2 := Lib.hid hx2; have HX3 := Lib.hid hx3; have HBit := Lib.hid hbit; clear hx2 hx3 hbit
      rcases Bool.eq_false_or_eq_true (B (X + T)) with hB | hB
      · rw [hB] at HC2
        have HB := Lib.hid hB; clear hB
        go_wp2_with (go_at_call 107; refine (HC2.out).mono ?_; rintro e w' ⟨rfl, rfl⟩)
        go_round
        case rel => exact ⟨k, X + T, by omega, by go_num, HBit.out, HX2.out, by rw [← HS.out, HT.out, if_pos HB.out]⟩
        case measure => simp [intOf]; omega
      · rw [hB] at HC2
        have HB := Lib.hid hB; clear hB
        go_wp2_with (go_at_call 107; refine (HC2.out).mono ?_; rintro e w' ⟨rfl, rfl⟩)
        go_round
        case rel => exact ⟨k, X, by omega, rfl, HBit.out, HX3.out, by rw [← HS.out, HT.out, HB.out]; rfl⟩
        case measure => simp [intOf]; omega

theorem clip_cast (p : Int) : (min (max p 0) 65536 : Int) = (clip p : Int) := by unfold clip; omega

set_option maxHeartbeats 1000000 in
theorem square_any (p : Int) (w : World) (h0 : -9223372036854775808 ≤ p) (h1 : p ≤ 9223372036854775807) :
    Calls Try.prog 94 #[.int .i64 p] w fun e w' => e = .returned (.int .u64 (sq p)) ∧ Below w.heap.size w w' := by
  have hmf : ∀ (fn : Fn) (first cap : Array Value) (w : World), (Instr.makeFunc fn first cap).run Try.prog w = .ok (.func fn first cap) w := fun _ _ _ _ => rfl
  have hc := clip_le p
  go_enter Try.func94, Try.ntmps94
  go_wp2_with fail
  refine (clamp_any p 65536 _ h0 h1 (by omega) (by omega)).mono ?_
  rintro e w' ⟨rfl, rfl⟩
  rw [clip_cast]
  go_wp2_with fail
  refine (greatest_sq (sqB (clip p)) w.heap.size _ (fun y W hW hy => square1_any (clip p) y w.heap.size W (by omega) hc (by rw [hW]; simp))).mono ?_
  rintro e w' ⟨rfl, rfl⟩
  go_wp2
  go_ret
  exact ⟨rfl, (Below.refl _ _).alloc (Nat.le_refl _) _⟩

set_option maxHeartbeats 1000000 in
theorem cube_any (p : Int) (w : World) (h0 : -9223372036854775808 ≤ p) (h1 : p ≤ 9223372036854775807) :
    Calls Try.prog 95 #[.int .i64 p] w fun e w' => e = .returned (.int .u64 (cu p)) ∧ Below w.heap.size w w' := by
  have hmf : ∀ (fn : Fn) (first cap : Array Value) (w : World), (Instr.makeFunc fn first cap).run Try.prog w = .ok (.func fn first cap) w := fun _ _ _ _ => rfl
  have hc := clip_le p
  go_enter Try.func95, Try.ntmps95
  go_wp2_with fail
  refine (clamp_any p 65536 _ h0 h1 (by omega) (by omega)).mono ?_
  rintro e w' ⟨rfl, rfl⟩
  rw [clip_cast]
  go_wp2_with fail
  refine (greatest_cu (cuB (clip p)) w.heap.size _ (fun y W hW hy => cube1_any (clip p) y w.heap.size W hy hc (by rw [hW]; simp))).mono ?_
  rintro e w' ⟨rfl, rfl⟩
  go_wp2
  go_ret
  exact ⟨rfl, (Below.refl _ _).alloc (Nat.le_refl _) _⟩

end Go.Proofs.Ytejhncdempfmjaa.rs

/-
  Slices of numbers of the kind u64, as the texts Bytes and Own have them for bytes (written out of those by program). No program is named here.
-/
namespace Go.Proofs.Ytejhncdempfmjaa.bs
open Go.ChangeShapes Go.WideShapes Go.ChangeAt Go.RowKit
set_option linter.unusedVariables false

/-- Numbers that are bytes. -/
def AllU (l : List Int) : Prop := ∀ n ∈ l, 0 ≤ n ∧ n ≤ 18446744073709551615

/-- The slice (a, n, c) has the elements l. -/
structure U64s (w : World) (a : Option Addr) (n c : Nat) (l : List Int) : Prop where
  len : l.length = n
  cap : n ≤ c
  most : c ≤ 9223372036854775807
  all : AllU l
  nil : a = none → c = 0
  at' : n = 0 ∨ ∃ b off, a = some ⟨b, off, none⟩ ∧ ∀ i, i < n → w.cell? ⟨b, off + i, none⟩ = some (.int .u64 (l.getD i 0))

theorem U64s.drewN {w : World} {a n c l} (h : U64s w a n c l) (m : Nat) : U64s (w.drewN m) a n c l :=
  ⟨h.len, h.cap, h.most, h.all, h.nil, h.at'⟩

theorem U64s.below {w w' : World} {a n c l} (h : U64s w a n c l) (hb : Below w.heap.size w w') : U64s w' a n c l := by
  refine ⟨h.len, h.cap, h.most, h.all, h.nil, ?_⟩
  rcases h.at' with h0 | ⟨b, off, ha, hc⟩
  · exact .inl h0
  · refine .inr ⟨b, off, ha, fun i hi => ?_⟩
    rw [hb.cell (World.block_lt_of_cell? w _ (hc i hi))]
    exact hc i hi

theorem AllU.getD {l : List Int} (h : AllU l) (i : Nat) : 0 ≤ l.getD i 0 ∧ l.getD i 0 ≤ 18446744073709551615 := by
  rw [List.getD_eq_getElem?_getD]
  rcases Nat.lt_or_ge i l.length with hi | hi
  · rw [List.getElem?_eq_getElem hi]; exact h _ (List.getElem_mem hi)
  · rw [List.getElem?_eq_none hi]; simp


def cellsU (l : List Int) : List Value := l.map (Value.int .u64)
theorem cellsU_append (x y : List Int) : cellsU (x ++ y) = cellsU x ++ cellsU y := List.map_append

structure OwnU (w : World) (base : Nat) (e : TypeId) (a : Option Addr) (n c : Nat) (l : List Int) : Prop where
  own : w.ownsRow base e 1 (.slice a n c) n (cellsU l)
  all : AllU l

theorem OwnU.len {w : World} {base e a n c l} (h : OwnU w base e a n c l) : l.length = n := by
  have := h.own.1
  simpa [cellsU] using this

theorem OwnU.cases {w : World} {base e a n c l} (h : OwnU w base e a n c l) : (a = none ∧ n = 0 ∧ c = 0) ∨ ∃ g, a = some ⟨g, 0, none⟩ ∧ base ≤ g ∧ g < w.heap.size ∧ n ≤ c ∧ c ≤ maxLen := by
  rcases h.own.2 with ⟨hv, hn⟩ | ⟨g, cap, cur, hv, hg, hh, hn, hc, _⟩
  · simp only [Value.slice.injEq] at hv
    exact .inl ⟨hv.1, hn, hv.2.2⟩
  · simp only [Value.slice.injEq] at hv
    obtain ⟨rfl, _, rfl⟩ := hv
    exact .inr ⟨g, rfl, hg, (Array.getElem?_eq_some_iff.1 hh).1, hn, hc⟩

theorem OwnU.reads {w : World} {base e a n c l} (h : OwnU w base e a n c l) : U64s w a n c l := by
  rcases h.cases with ⟨rfl, rfl, rfl⟩ | ⟨g, rfl, hg, hs, hn, hc⟩
  · exact ⟨h.len, Nat.le_refl _, by omega, h.all, fun _ => rfl, .inl rfl⟩
  · refine ⟨h.len, hn, by unfold maxLen at hc; omega, h.all, by simp, .inr ⟨g, 0, rfl, fun i hi => ?_⟩⟩
    rw [Nat.zero_add, h.own.cellAt i (by omega), cellsU, List.getElem?_map, List.getElem?_eq_getElem (by rw [h.len]; exact hi), List.getD_eq_getElem?_getD, List.getElem?_eq_getElem (by rw [h.len]; exact hi)]
    rfl

theorem OwnU.mono {w : World} {base base' e a n c l} (h : OwnU w base e a n c l) (hb : base' ≤ base) : OwnU w base' e a n c l := by
  refine ⟨⟨h.own.1, ?_⟩, h.all⟩
  rcases h.own.2 with hv | ⟨g, cap, cur, hv, hg, r⟩
  · exact .inl hv
  · exact .inr ⟨g, cap, cur, hv, Nat.le_trans hb hg, r⟩

/-- What is below a bound that the slice's block is below stays, and so does the slice. -/
theorem OwnU.below {w w' : World} {base e a n c l} (h : OwnU w base e a n c l) (hb : Below w.heap.size w w') : OwnU w' base e a n c l := by
  refine ⟨⟨h.own.1, ?_⟩, h.all⟩
  rcases h.own.2 with hv | ⟨g, cap, cur, hv, hg, hh, r⟩
  · exact .inl hv
  · exact .inr ⟨g, cap, cur, hv, hg, by rw [hb.block g (Array.getElem?_eq_some_iff.1 hh).1]; exact hh, r⟩

theorem OwnU.drewN {w : World} {base e a n c l} (h : OwnU w base e a n c l) (m : Nat) : OwnU (w.drewN m) base e a n c l :=
  h.below (below_drewN (Below.refl _ _) m)
theorem OwnU.drew {w : World} {base e a n c l} (h : OwnU w base e a n c l) : OwnU w.drew base e a n c l :=
  h.below (Below.drew (Below.refl _ _))
theorem OwnU.alloc {w : World} {base e a n c l} (h : OwnU w base e a n c l) (o : Obj) : OwnU (w.alloc o) base e a n c l :=
  h.below ((Below.refl _ _).alloc (Nat.le_refl _) o)

theorem OwnU.nil (w : World) (base : Nat) (e : TypeId) : OwnU w base e none 0 0 [] := ⟨World.ownsRow_nil w base e 1, by simp [AllU]⟩

/-- A row that was just made, with all its room, is owned. -/
theorem OwnU.made (w : World) (base : Nat) (e : TypeId) (l : List Int) (cur : Array Value) (hcur : cur = (cellsU l).toArray) (hb : base ≤ w.heap.size) (hl : l.length ≤ maxLen) (hall : AllU l) :
    OwnU (w.alloc (.cells cur e)) base e (some ⟨w.heap.size, 0, none⟩) l.length l.length l := by
  subst hcur
  refine ⟨⟨by simp [cellsU], .inr ⟨w.heap.size, l.length, _, rfl, hb, heap_alloc_new w _, Nat.le_refl _, hl, by simp [cellsU], ?_⟩⟩, hall⟩
  rw [List.take_of_length_le (by simp [cellsU])]

/-- One byte, in a new block of its own. -/
theorem U64s.one (w : World) (e : TypeId) (z : Int) (h0 : 0 ≤ z ∧ z ≤ 18446744073709551615) : U64s (w.alloc (.cells #[.int .u64 z] e)) (some ⟨w.heap.size, 0, none⟩) 1 1 [z] :=
  (OwnU.made w 0 e [z] _ rfl (Nat.zero_le _) (by simp [maxLen]) (by simpa [AllU] using h0)).reads

/-- A type of slices of bytes. -/
structure U64T (P : Program) (t e : TypeId) : Prop where
  und : P.underlying t = some (.slice e)
  info : (P.info? e).map (fun i => (i.zero, i.size, i.bytes)) = some (some (.int .u64 0), 1, 8)

theorem run_append_U2 {P : Program} {t e : TypeId} (T : U64T P t e) (ty : TypeId) (w : World) (base : Nat) {a n c l} (h : OwnU w base e a n c l) {a' m c' l'} (hs : U64s w a' m c' l')
    (hn : n + m ≤ 17592186044416) (hbase : base ≤ w.heap.size) :
    ∃ a2 c2 w', (Builtin.append_ #[t, t] ty #[.slice a n c, .slice a' m c']).run P w = .ok (.slice a2 (n + m) c2) w' ∧ OwnU w' base e a2 (n + m) c2 (l ++ l') ∧ Below base w w' ∧ (a2 = none ↔ a = none ∧ m = 0) ∧ w.grownBy w' (Value.ownBlock (.slice a n c)) := by
  obtain ⟨i0, hi, hz0, hz1, hz2⟩ := info_parts T.info
  have fin : ∀ v' w', (Builtin.append_ #[t, t] ty #[.slice a n c, .slice a' m c']).run P w = .ok v' w' → w'.ownsRow base e 1 v' (n + m) (cellsU (l ++ l')) → w.grownBy w' (Value.ownBlock (.slice a n c)) → (v' = .slice none 0 0 ↔ Value.slice a n c = .slice none 0 0 ∧ m = 0) →
      ∃ a2 c2 w', (Builtin.append_ #[t, t] ty #[.slice a n c, .slice a' m c']).run P w = .ok (.slice a2 (n + m) c2) w' ∧ OwnU w' base e a2 (n + m) c2 (l ++ l') ∧ Below base w w' ∧ (a2 = none ↔ a = none ∧ m = 0) ∧ w.grownBy w' (Value.ownBlock (.slice a n c)) := by
    intro v' w' hr ho hg hnil
    have hall : AllU (l ++ l') := fun x hx => (List.mem_append.1 hx).elim (h.all x) (hs.all x)
    have hbel : Below base w w' := (Below.refl base w).grown hg hbase (fun k hk => (h.own.lt k hk).1)
    have ha : a = none → n = 0 ∧ c = 0 := fun hz => by
      rcases h.cases with ⟨_, x, y⟩ | ⟨g, x, _⟩
      · exact ⟨x, y⟩
      · rw [hz] at x; cases x
    rcases ho.2 with ⟨rfl, h0⟩ | ⟨g, cap, cur, rfl, hgb, hh, r⟩
    · refine ⟨none, 0, w', ?_, ⟨?_, hall⟩, hbel, ?_, hg⟩
      · rw [hr, h0]
      · rw [h0] at ho ⊢; exact ho
      · have := hnil.1 rfl
        simp only [Value.slice.injEq] at this
        exact ⟨fun _ => ⟨this.1.1, this.2⟩, fun _ => rfl⟩
    · refine ⟨some ⟨g, 0, none⟩, cap, w', hr, ⟨ho, hall⟩, hbel, ?_, hg⟩
      simp only [reduceCtorEq, false_iff]
      rintro ⟨hz, hm0⟩
      obtain ⟨x, y⟩ := ha hz
      have := hnil.2 ⟨by rw [hz, x, y], hm0⟩
      simp at this
  rcases Option.eq_none_or_eq_some a' with hz | ⟨ad, hz⟩
  · subst hz
    have hc' := hs.nil rfl
    have hm : m = 0 := by have := hs.cap; omega
    subst hc' hm
    have hl' : l' = [] := List.eq_nil_of_length_eq_zero hs.len
    subst hl'
    have hr := run_append_owned_none (P := P) (w := w) base t ty e i0 1 T.und hi (.slice a n c) n (cellsU l) h.own
    refine fin _ _ hr (by simpa using h.own) ⟨rfl, rfl, rfl, Nat.le_refl _, fun _ _ _ => rfl⟩ (by simp)
  · subst hz
    have hcells : ∀ j u, (cellsU l')[j]? = some u → w.cell? (ad.add j) = some u := by
      intro j u hu
      rcases hs.at' with h0 | ⟨b, off, hab, hc⟩
      · have : l' = [] := List.eq_nil_of_length_eq_zero (by rw [hs.len, h0])
        subst this
        simp [cellsU] at hu
      · simp only [Option.some.injEq] at hab
        subst hab
        have hj : j < m := by
          have := (List.getElem?_eq_some_iff.1 hu).1
          rw [← hs.len]
          simpa [cellsU] using this
        have e1 : (⟨b, off, none⟩ : Addr).add j = ⟨b, off + j, none⟩ := by unfold Addr.add; split <;> simp_all
        rw [e1, hc j hj, ← hu, cellsU, List.getElem?_map, List.getElem?_eq_getElem (by rw [hs.len]; exact hj), List.getD_eq_getElem?_getD, List.getElem?_eq_getElem (by rw [hs.len]; exact hj)]
        rfl
    obtain ⟨v', w', hr, ho, hg, hnil⟩ := run_append_own (P := P) w base t ty e i0 (.int .u64 0) 1 8 T.und hi hz0 hz1 hz2 rfl (by decide) (.slice a n c) n (cellsU l) h.own ad m c' (cellsU l') (by simp [cellsU, hs.len]) hcells
      (by intro u hu; obtain ⟨x, _, rfl⟩ := List.mem_map.1 hu; rfl) (by unfold maxLen; omega) (by omega) hbase
    exact fin v' w' hr (by rw [cellsU_append]; exact ho) hg hnil

theorem run_append_U {P : Program} {t e : TypeId} (T : U64T P t e) (ty : TypeId) (w : World) (base : Nat) {a n c l} (h : OwnU w base e a n c l) {a' m c' l'} (hs : U64s w a' m c' l')
    (hn : n + m ≤ 17592186044416) (hbase : base ≤ w.heap.size) :
    ∃ a2 c2 w', (Builtin.append_ #[t, t] ty #[.slice a n c, .slice a' m c']).run P w = .ok (.slice a2 (n + m) c2) w' ∧ OwnU w' base e a2 (n + m) c2 (l ++ l') ∧ Below base w w' ∧ (a2 = none ↔ a = none ∧ m = 0) := by
  obtain ⟨a2, c2, w', h1, h2, h3, h4, _⟩ := run_append_U2 T ty w base h hs hn hbase
  exact ⟨a2, c2, w', h1, h2, h3, h4⟩

section
variable {P : Program} {w : World} {ops : Array Oper} {rest : List Oper} {o : Oper} {a : Act} {Q : Exit → Act → World → Prop}

theorem wp_append_U {K : Act → World → Prop} {t e : TypeId} (T : U64T P t e) (s x : Operand) (ho : o.op = .call { callee := .builtin .append, args := #[s, x], argTypes := #[t, t] })
    (base : Nat) {b n c l} (hs : a.eval s = .slice b n c) (h : OwnU w base e b n c l) {b' m c' l'} (hx : a.eval x = .slice b' m c') (hb : U64s w b' m c' l') (hn : n + m ≤ 17592186044416) (hbase : base ≤ w.heap.size)
    (k : ∀ a2 c2 w', OwnU w' base e a2 (n + m) c2 (l ++ l') → Below base w w' → (a2 = none ↔ b = none ∧ m = 0) → K (a.put o.dst (.slice a2 (n + m) c2)) w') : o.wp P a w K Q := by
  obtain ⟨a2, c2, w', hr, h2, h3, h4⟩ := run_append_U T o.type w base h hb hn hbase
  unfold Oper.wp execOp
  simp only [ho, resolve, invoke, builtin, Sem.run_bind, Sem.run_pure, Result.andThen_ok, List.map_toArray, List.map_cons, List.map_nil, hs, hx, hr]
  exact k a2 c2 w' h2 h3 h4

/-- The append of bytes, whether it is guarded or not. -/
theorem wpList_append_U {t e : TypeId} (T : U64T P t e) (hw : Region.wanted o (yielded ops a.tmps) = true) (s x : Operand) (ho : o.op = .call { callee := .builtin .append, args := #[s, x], argTypes := #[t, t] })
    (base : Nat) {b n c l} (hs : a.eval s = .slice b n c) (h : OwnU w base e b n c l) {b' m c' l'} (hx : a.eval x = .slice b' m c') (hb : U64s w b' m c' l') (hn : n + m ≤ 17592186044416) (hbase : base ≤ w.heap.size)
    (k : ∀ a2 c2 w', OwnU w' base e a2 (n + m) c2 (l ++ l') → Below base w w' → (a2 = none ↔ b = none ∧ m = 0) → wpList P ops Q rest (a.put o.dst (.slice a2 (n + m) c2)) w') : wpList P ops Q (o :: rest) a w :=
  BigFrame.wpList_want hw fun K hK => wp_append_U T s x ho base hs h hx hb hn hbase fun a2 c2 w' h2 h3 h4 => hK _ _ (k a2 c2 w' h2 h3 h4)

/-- The same, which also tells that no other block is turned. -/
theorem wpList_append_U2 {t e : TypeId} (T : U64T P t e) (hw : Region.wanted o (yielded ops a.tmps) = true) (s x : Operand) (ho : o.op = .call { callee := .builtin .append, args := #[s, x], argTypes := #[t, t] })
    (base : Nat) {b n c l} (hs : a.eval s = .slice b n c) (h : OwnU w base e b n c l) {b' m c' l'} (hx : a.eval x = .slice b' m c') (hb : U64s w b' m c' l') (hn : n + m ≤ 17592186044416) (hbase : base ≤ w.heap.size)
    (k : ∀ a2 c2 w', OwnU w' base e a2 (n + m) c2 (l ++ l') → Below base w w' → w.grownBy w' (Value.ownBlock (.slice b n c)) → wpList P ops Q rest (a.put o.dst (.slice a2 (n + m) c2)) w') : wpList P ops Q (o :: rest) a w :=
  BigFrame.wpList_want hw fun K hK => by
    obtain ⟨a2, c2, w', hr, h2, h3, h4, h5⟩ := run_append_U2 T o.type w base h hb hn hbase
    unfold Oper.wp execOp
    simp only [ho, resolve, invoke, builtin, Sem.run_bind, Sem.run_pure, Result.andThen_ok, List.map_toArray, List.map_cons, List.map_nil, hs, hx, hr]
    exact hK _ _ (k a2 c2 w' h2 h3 h5)
/-- At a step of a region that draws its order. -/
theorem step_append_U {K : Act → World → Prop} {E : Prop} {t e : TypeId} (T : U64T P t e) (hgd : o.guard = none) (s x : Operand) (ho : o.op = .call { callee := .builtin .append, args := #[s, x], argTypes := #[t, t] })
    (base : Nat) {b n c l} (hs : a.eval s = .slice b n c) (h : OwnU w base e b n c l) {b' m c' l'} (hx : a.eval x = .slice b' m c') (hb : U64s w b' m c' l') (hn : n + m ≤ 17592186044416) (hbase : base ≤ w.heap.size)
    (k : ∀ a2 c2 w', OwnU w' base e a2 (n + m) c2 (l ++ l') → Below base w w' → w.grownBy w' (Value.ownBlock (.slice b n c)) → K (a.put o.dst (.slice a2 (n + m) c2)) w') :
    if Region.wanted o (yielded ops a.tmps) = true then Oper.wp P o a w K Q else E := by
  have hw : Region.wanted o (yielded ops a.tmps) = true := by simp [Region.wanted, hgd]
  rw [if_pos hw]
  obtain ⟨a2, c2, w', hr, h2, h3, h4, h5⟩ := run_append_U2 T o.type w base h hb hn hbase
  unfold Oper.wp execOp
  simp only [ho, resolve, invoke, builtin, Sem.run_bind, Sem.run_pure, Result.andThen_ok, List.map_toArray, List.map_cons, List.map_nil, hs, hx, hr]
  exact k a2 c2 w' h2 h3 h5

/-- 'make([]T, n)'. -/
theorem wpList_make_U {t e : TypeId} (T : U64T P t e) (hg : o.guard = none) (l c : Operand) (hop : o.op = Op.makeSlice t l c)
    (base : Nat) (kl kc : IntKind) (L C : Int) (n : Nat) (hl : a.eval l = .int kl L) (hc : a.eval c = .int kc C) (hL : L = (n : Int)) (hC : C = (n : Int)) (b2 : n ≤ 17592186044416) (hbase : base ≤ w.heap.size)
    (k : ∀ w', OwnU w' base e (some ⟨w.heap.size, 0, none⟩) n n (List.replicate n 0) → Below w.heap.size w w' → w.heap.size < w'.heap.size → wpList P ops Q rest (a.put o.dst (.slice (some ⟨w.heap.size, 0, none⟩) n n)) w') : wpList P ops Q (o :: rest) a w := by
  obtain ⟨i0, hi, hz0, hz1, hz2⟩ := info_parts T.info
  refine wpList_make_full w hg l c t hop base e i0 (.int .u64 0) 1 T.und hi hz0 hz1 kl kc L C n hl hc hL hC (by rw [hz2]; omega) (by unfold maxLen; omega) hbase ?_
  intro w' ho hgr
  have e1 : (madeCells (Value.cells (.int .u64 0)) (n * 1)).toList = cellsU (List.replicate n 0) := by
    rw [Nat.mul_one, show Value.cells (.int .u64 0) = #[Value.int .u64 0] from rfl, toList_madeCells_one, cellsU, List.map_replicate]
  rw [e1] at ho
  have hall : AllU (List.replicate n 0) := by intro x hx; have := List.eq_of_mem_replicate hx; subst this; omega
  refine k w' ⟨ho, hall⟩ ((Below.refl _ _).grown hgr (Nat.le_refl _) (by simp)) ?_
  rcases ho.2 with ⟨hv, _⟩ | ⟨g, cap, cur, hv, _, hh, _⟩
  · simp at hv
  · simp only [Value.slice.injEq, Option.some.injEq, Addr.mk.injEq, and_true] at hv
    have := (Array.getElem?_eq_some_iff.1 hh).1
    omega

/-- 'make([]T, n, m)'. -/
theorem wpList_mk_U {t e : TypeId} (T : U64T P t e) (hg : o.guard = none) (l c : Operand) (hop : o.op = Op.makeSlice t l c)
    (base : Nat) (kl kc : IntKind) (L C : Int) (n m : Nat) (hl : a.eval l = .int kl L) (hc : a.eval c = .int kc C) (hL : L = (n : Int)) (hC : C = (m : Int)) (hnm : n ≤ m) (b2 : m ≤ 17592186044416) (hbase : base ≤ w.heap.size)
    (k : ∀ w', OwnU w' base e (some ⟨w.heap.size, 0, none⟩) n m (List.replicate n 0) → Below w.heap.size w w' → w.heap.size < w'.heap.size → wpList P ops Q rest (a.put o.dst (.slice (some ⟨w.heap.size, 0, none⟩) n m)) w') : wpList P ops Q (o :: rest) a w := by
  obtain ⟨i0, hi, hz0, hz1, hz2⟩ := info_parts T.info
  refine wpList_plain hg fun K hK' => ?_
  subst hL hC
  have hrun := run_make (P := P) w t e i0 (.int .u64 0) T.und hi hz0 kl kc (n : Int) (m : Int) (by omega) (by omega) (by rw [hz2]; omega) (by omega)
  simp only [Int.toNat_natCast] at hrun
  unfold Oper.wp
  simp [execOp, hop, hl, hc, hrun, Result.andThen]
  have e1 : (madeCells (Value.cells (.int .u64 0)) (m * i0.size)).toList = cellsU (List.replicate m 0) := by
    rw [hz1, Nat.mul_one, show Value.cells (.int .u64 0) = #[Value.int .u64 0] from rfl, toList_madeCells_one, cellsU, List.map_replicate]
  have hall : AllU (List.replicate n 0) := by intro x hx; have := List.eq_of_mem_replicate hx; subst this; omega
  refine hK' _ _ (k _ ⟨⟨by simp [cellsU], .inr ⟨w.heap.size, m, _, rfl, hbase, heap_alloc_new w _, hnm, by unfold maxLen; omega, ?_, ?_⟩⟩, hall⟩ ((Below.refl _ _).alloc (Nat.le_refl _) _) (by simp))
  · rw [size_madeCells, hz1]
  · rw [e1, cellsU, cellsU, ← List.map_take, List.take_replicate, Nat.mul_one, Nat.min_eq_left hnm]
end

/-- A store into an owned slice. -/
theorem OwnU.stored {w : World} {base e n c l} {g : Nat} (h : OwnU w base e (some ⟨g, 0, none⟩) n c l) (j : Nat) (x : Int) (hx : 0 ≤ x ∧ x ≤ 18446744073709551615) :
    OwnU (w.setCell ⟨g, j, none⟩ (.int .u64 x)) base e (some ⟨g, 0, none⟩) n c (l.set j x) := by
  refine ⟨?_, ?_⟩
  · have := (h.own.stored j (.int .u64 x)).1
    rwa [show cellsU (l.set j x) = (cellsU l).set j (.int .u64 x) by simp [cellsU]]
  · intro y hy
    rcases List.mem_or_eq_of_mem_set hy with h1 | h1
    · exact h.all y h1
    · subst h1; exact hx
theorem OwnU.cellAt {w : World} {base e n c l} {g : Nat} (h : OwnU w base e (some ⟨g, 0, none⟩) n c l) (j : Nat) (hj : j < n) : w.cell? ⟨g, j, none⟩ = some (.int .u64 (l.getD j 0)) := by
  rw [h.own.cellAt j (by omega), cellsU, List.getElem?_map, List.getElem?_eq_getElem (by rw [h.len]; exact hj), List.getD_eq_getElem?_getD, List.getElem?_eq_getElem (by rw [h.len]; exact hj)]
  rfl
theorem OwnU.frozenAt {w : World} {base e n c l} {g : Nat} (h : OwnU w base e (some ⟨g, 0, none⟩) n c l) (j : Nat) : w.frozen? ⟨g, j, none⟩ = false := h.own.frozenAt j
/-- An owned slice stays while its block does. -/
theorem OwnU.keep {w w' : World} {base e n c l} {g : Nat} (h : OwnU w base e (some ⟨g, 0, none⟩) n c l) (hk : w'.heap[g]? = w.heap[g]?) : OwnU w' base e (some ⟨g, 0, none⟩) n c l := by
  refine ⟨⟨h.own.1, ?_⟩, h.all⟩
  rcases h.own.2 with hv | ⟨g', cap, cur, hv, hg, hh, r⟩
  · exact .inl hv
  · refine .inr ⟨g', cap, cur, hv, hg, ?_, r⟩
    simp only [Value.slice.injEq, Option.some.injEq, Addr.mk.injEq, and_true] at hv
    rw [← hv.1, hk, hv.1]
    exact hh
theorem OwnU.block {w : World} {base e n c l} {g : Nat} (h : OwnU w base e (some ⟨g, 0, none⟩) n c l) : ∃ cur, w.heap[g]? = some (.cells cur e (0, 0)) := by
  rcases h.own.2 with ⟨hv, _⟩ | ⟨g', cap, cur, hv, hg, hh, r⟩
  · simp at hv
  · simp only [Value.slice.injEq, Option.some.injEq, Addr.mk.injEq, and_true] at hv
    rw [hv.1]
    exact ⟨cur, hh⟩
end Go.Proofs.Ytejhncdempfmjaa.bs

/-
  Slices of numbers of the kind i64, as the texts Bytes and Own have them for bytes (written out of those by program). No program is named here.
-/
namespace Go.Proofs.Ytejhncdempfmjaa.bs
open Go.ChangeShapes Go.WideShapes Go.ChangeAt Go.RowKit
set_option linter.unusedVariables false

/-- Numbers that are bytes. -/
def AllI (l : List Int) : Prop := ∀ n ∈ l, -9223372036854775808 ≤ n ∧ n ≤ 9223372036854775807

/-- The slice (a, n, c) has the elements l. -/
structure I64s (w : World) (a : Option Addr) (n c : Nat) (l : List Int) : Prop where
  len : l.length = n
  cap : n ≤ c
  most : c ≤ 9223372036854775807
  all : AllI l
  nil : a = none → c = 0
  at' : n = 0 ∨ ∃ b off, a = some ⟨b, off, none⟩ ∧ ∀ i, i < n → w.cell? ⟨b, off + i, none⟩ = some (.int .i64 (l.getD i 0))

theorem I64s.drewN {w : World} {a n c l} (h : I64s w a n c l) (m : Nat) : I64s (w.drewN m) a n c l :=
  ⟨h.len, h.cap, h.most, h.all, h.nil, h.at'⟩

theorem I64s.below {w w' : World} {a n c l} (h : I64s w a n c l) (hb : Below w.heap.size w w') : I64s w' a n c l := by
  refine ⟨h.len, h.cap, h.most, h.all, h.nil, ?_⟩
  rcases h.at' with h0 | ⟨b, off, ha, hc⟩
  · exact .inl h0
  · refine .inr ⟨b, off, ha, fun i hi => ?_⟩
    rw [hb.cell (World.block_lt_of_cell? w _ (hc i hi))]
    exact hc i hi

theorem AllI.getD {l : List Int} (h : AllI l) (i : Nat) : -9223372036854775808 ≤ l.getD i 0 ∧ l.getD i 0 ≤ 9223372036854775807 := by
  rw [List.getD_eq_getElem?_getD]
  rcases Nat.lt_or_ge i l.length with hi | hi
  · rw [List.getElem?_eq_getElem hi]; exact h _ (List.getElem_mem hi)
  · rw [List.getElem?_eq_none hi]; simp


def cellsI (l : List Int) : List Value := l.map (Value.int .i64)
theorem cellsI_append (x y : List Int) : cellsI (x ++ y) = cellsI x ++ cellsI y := List.map_append

structure OwnI (w : World) (base : Nat) (e : TypeId) (a : Option Addr) (n c : Nat) (l : List Int) : Prop where
  own : w.ownsRow base e 1 (.slice a n c) n (cellsI l)
  all : AllI l

theorem OwnI.len {w : World} {base e a n c l} (h : OwnI w base e a n c l) : l.length = n := by
  have := h.own.1
  simpa [cellsI] using this

theorem OwnI.cases {w : World} {base e a n c l} (h : OwnI w base e a n c l) : (a = none ∧ n = 0 ∧ c = 0) ∨ ∃ g, a = some ⟨g, 0, none⟩ ∧ base ≤ g ∧ g < w.heap.size ∧ n ≤ c ∧ c ≤ maxLen := by
  rcases h.own.2 with ⟨hv, hn⟩ | ⟨g, cap, cur, hv, hg, hh, hn, hc, _⟩
  · simp only [Value.slice.injEq] at hv
    exact .inl ⟨hv.1, hn, hv.2.2⟩
  · simp only [Value.slice.injEq] at hv
    obtain ⟨rfl, _, rfl⟩ := hv
    exact .inr ⟨g, rfl, hg, (Array.getElem?_eq_some_iff.1 hh).1, hn, hc⟩

theorem OwnI.reads {w : World} {base e a n c l} (h : OwnI w base e a n c l) : I64s w a n c l := by
  rcases h.cases with ⟨rfl, rfl, rfl⟩ | ⟨g, rfl, hg, hs, hn, hc⟩
  · exact ⟨h.len, Nat.le_refl _, by omega, h.all, fun _ => rfl, .inl rfl⟩
  · refine ⟨h.len, hn, by unfold maxLen at hc; omega, h.all, by simp, .inr ⟨g, 0, rfl, fun i hi => ?_⟩⟩
    rw [Nat.zero_add, h.own.cellAt i (by omega), cellsI, List.getElem?_map, List.getElem?_eq_getElem (by rw [h.len]; exact hi), List.getD_eq_getElem?_getD, List.getElem?_eq_getElem (by rw [h.len]; exact hi)]
    rfl

theorem OwnI.mono {w : World} {base base' e a n c l} (h : OwnI w base e a n c l) (hb : base' ≤ base) : OwnI w base' e a n c l := by
  refine ⟨⟨h.own.1, ?_⟩, h.all⟩
  rcases h.own.2 with hv | ⟨g, cap, cur, hv, hg, r⟩
  · exact .inl hv
  · exact .inr ⟨g, cap, cur, hv, Nat.le_trans hb hg, r⟩

/-- What is below a bound that the slice's block is below stays, and so does the slice. -/
theorem OwnI.below {w w' : World} {base e a n c l} (h : OwnI w base e a n c l) (hb : Below w.heap.size w w') : OwnI w' base e a n c l := by
  refine ⟨⟨h.own.1, ?_⟩, h.all⟩
  rcases h.own.2 with hv | ⟨g, cap, cur, hv, hg, hh, r⟩
  · exact .inl hv
  · exact .inr ⟨g, cap, cur, hv, hg, by rw [hb.block g (Array.getElem?_eq_some_iff.1 hh).1]; exact hh, r⟩

theorem OwnI.drewN {w : World} {base e a n c l} (h : OwnI w base e a n c l) (m : Nat) : OwnI (w.drewN m) base e a n c l :=
  h.below (below_drewN (Below.refl _ _) m)
theorem OwnI.drew {w : World} {base e a n c l} (h : OwnI w base e a n c l) : OwnI w.drew base e a n c l :=
  h.below (Below.drew (Below.refl _ _))
theorem OwnI.alloc {w : World} {base e a n c l} (h : OwnI w base e a n c l) (o : Obj) : OwnI (w.alloc o) base e a n c l :=
  h.below ((Below.refl _ _).alloc (Nat.le_refl _) o)

theorem OwnI.nil (w : World) (base : Nat) (e : TypeId) : OwnI w base e none 0 0 [] := ⟨World.ownsRow_nil w base e 1, by simp [AllI]⟩

/-- A row that was just made, with all its room, is owned. -/
theorem OwnI.made (w : World) (base : Nat) (e : TypeId) (l : List Int) (cur : Array Value) (hcur : cur = (cellsI l).toArray) (hb : base ≤ w.heap.size) (hl : l.length ≤ maxLen) (hall : AllI l) :
    OwnI (w.alloc (.cells cur e)) base e (some ⟨w.heap.size, 0, none⟩) l.length l.length l := by
  subst hcur
  refine ⟨⟨by simp [cellsI], .inr ⟨w.heap.size, l.length, _, rfl, hb, heap_alloc_new w _, Nat.le_refl _, hl, by simp [cellsI], ?_⟩⟩, hall⟩
  rw [List.take_of_length_le (by simp [cellsI])]

/-- One byte, in a new block of its own. -/
theorem I64s.one (w : World) (e : TypeId) (z : Int) (h0 : -9223372036854775808 ≤ z ∧ z ≤ 9223372036854775807) : I64s (w.alloc (.cells #[.int .i64 z] e)) (some ⟨w.heap.size, 0, none⟩) 1 1 [z] :=
  (OwnI.made w 0 e [z] _ rfl (Nat.zero_le _) (by simp [maxLen]) (by simpa [AllI] using h0)).reads

/-- A type of slices of bytes. -/
structure I64T (P : Program) (t e : TypeId) : Prop where
  und : P.underlying t = some (.slice e)
  info : (P.info? e).map (fun i => (i.zero, i.size, i.bytes)) = some (some (.int .i64 0), 1, 8)

theorem run_append_I2 {P : Program} {t e : TypeId} (T : I64T P t e) (ty : TypeId) (w : World) (base : Nat) {a n c l} (h : OwnI w base e a n c l) {a' m c' l'} (hs : I64s w a' m c' l')
    (hn : n + m ≤ 17592186044416) (hbase : base ≤ w.heap.size) :
    ∃ a2 c2 w', (Builtin.append_ #[t, t] ty #[.slice a n c, .slice a' m c']).run P w = .ok (.slice a2 (n + m) c2) w' ∧ OwnI w' base e a2 (n + m) c2 (l ++ l') ∧ Below base w w' ∧ (a2 = none ↔ a = none ∧ m = 0) ∧ w.grownBy w' (Value.ownBlock (.slice a n c)) := by
  obtain ⟨i0, hi, hz0, hz1, hz2⟩ := info_parts T.info
  have fin : ∀ v' w', (Builtin.append_ #[t, t] ty #[.slice a n c, .slice a' m c']).run P w = .ok v' w' → w'.ownsRow base e 1 v' (n + m) (cellsI (l ++ l')) → w.grownBy w' (Value.ownBlock (.slice a n c)) → (v' = .slice none 0 0 ↔ Value.slice a n c = .slice none 0 0 ∧ m = 0) →
      ∃ a2 c2 w', (Builtin.append_ #[t, t] ty #[.slice a n c, .slice a' m c']).run P w = .ok (.slice a2 (n + m) c2) w' ∧ OwnI w' base e a2 (n + m) c2 (l ++ l') ∧ Below base w w' ∧ (a2 = none ↔ a = none ∧ m = 0) ∧ w.grownBy w' (Value.ownBlock (.slice a n c)) := by
    intro v' w' hr ho hg hnil
    have hall : AllI (l ++ l') := fun x hx => (List.mem_append.1 hx).elim (h.all x) (hs.all x)
    have hbel : Below base w w' := (Below.refl base w).grown hg hbase (fun k hk => (h.own.lt k hk).1)
    have ha : a = none → n = 0 ∧ c = 0 := fun hz => by
      rcases h.cases with ⟨_, x, y⟩ | ⟨g, x, _⟩
      · exact ⟨x, y⟩
      · rw [hz] at x; cases x
    rcases ho.2 with ⟨rfl, h0⟩ | ⟨g, cap, cur, rfl, hgb, hh, r⟩
    · refine ⟨none, 0, w', ?_, ⟨?_, hall⟩, hbel, ?_, hg⟩
      · rw [hr, h0]
      · rw [h0] at ho ⊢; exact ho
      · have := hnil.1 rfl
        simp only [Value.slice.injEq] at this
        exact ⟨fun _ => ⟨this.1.1, this.2⟩, fun _ => rfl⟩
    · refine ⟨some ⟨g, 0, none⟩, cap, w', hr, ⟨ho, hall⟩, hbel, ?_, hg⟩
      simp only [reduceCtorEq, false_iff]
      rintro ⟨hz, hm0⟩
      obtain ⟨x, y⟩ := ha hz
      have := hnil.2 ⟨by rw [hz, x, y], hm0⟩
      simp at this
  rcases Option.eq_none_or_eq_some a' with hz | ⟨ad, hz⟩
  · subst hz
    have hc' := hs.nil rfl
    have hm : m = 0 := by have := hs.cap; omega
    subst hc' hm
    have hl' : l' = [] := List.eq_nil_of_length_eq_zero hs.len
    subst hl'
    have hr := run_append_owned_none (P := P) (w := w) base t ty e i0 1 T.und hi (.slice a n c) n (cellsI l) h.own
    refine fin _ _ hr (by simpa using h.own) ⟨rfl, rfl, rfl, Nat.le_refl _, fun _ _ _ => rfl⟩ (by simp)
  · subst hz
    have hcells : ∀ j u, (cellsI l')[j]? = some u → w.cell? (ad.add j) = some u := by
      intro j u hu
      rcases hs.at' with h0 | ⟨b, off, hab, hc⟩
      · have : l' = [] := List.eq_nil_of_length_eq_zero (by rw [hs.len, h0])
        subst this
        simp [cellsI] at hu
      · simp only [Option.some.injEq] at hab
        subst hab
        have hj : j < m := by
          have := (List.getElem?_eq_some_iff.1 hu).1
          rw [← hs.len]
          simpa [cellsI] using this
        have e1 : (⟨b, off, none⟩ : Addr).add j = ⟨b, off + j, none⟩ := by unfold Addr.add; split <;> simp_all
        rw [e1, hc j hj, ← hu, cellsI, List.getElem?_map, List.getElem?_eq_getElem (by rw [hs.len]; exact hj), List.getD_eq_getElem?_getD, List.getElem?_eq_getElem (by rw [hs.len]; exact hj)]
        rfl
    obtain ⟨v', w', hr, ho, hg, hnil⟩ := run_append_own (P := P) w base t ty e i0 (.int .i64 0) 1 8 T.und hi hz0 hz1 hz2 rfl (by decide) (.slice a n c) n (cellsI l) h.own ad m c' (cellsI l') (by simp [cellsI, hs.len]) hcells
      (by intro u hu; obtain ⟨x, _, rfl⟩ := List.mem_map.1 hu; rfl) (by unfold maxLen; omega) (by omega) hbase
    exact fin v' w' hr (by rw [cellsI_append]; exact ho) hg hnil

theorem run_append_I {P : Program} {t e : TypeId} (T : I64T P t e) (ty : TypeId) (w : World) (base : Nat) {a n c l} (h : OwnI w base e a n c l) {a' m c' l'} (hs : I64s w a' m c' l')
    (hn : n + m ≤ 17592186044416) (hbase : base ≤ w.heap.size) :
    ∃ a2 c2 w', (Builtin.append_ #[t, t] ty #[.slice a n c, .slice a' m c']).run P w = .ok (.slice a2 (n + m) c2) w' ∧ OwnI w' base e a2 (n + m) c2 (l ++ l') ∧ Below base w w' ∧ (a2 = none ↔ a = none ∧ m = 0) := by
  obtain ⟨a2, c2, w', h1, h2, h3, h4, _⟩ := run_append_I2 T ty w base h hs hn hbase
  exact ⟨a2, c2, w', h1, h2, h3, h4⟩

section
variable {P : Program} {w : World} {ops : Array Oper} {rest : List Oper} {o : Oper} {a : Act} {Q : Exit → Act → World → Prop}

theorem wp_append_I {K : Act → World → Prop} {t e : TypeId} (T : I64T P t e) (s x : Operand) (ho : o.op = .call { callee := .builtin .append, args := #[s, x], argTypes := #[t, t] })
    (base : Nat) {b n c l} (hs : a.eval s = .slice b n c) (h : OwnI w base e b n c l) {b' m c' l'} (hx : a.eval x = .slice b' m c') (hb : I64s w b' m c' l') (hn : n + m ≤ 17592186044416) (hbase : base ≤ w.heap.size)
    (k : ∀ a2 c2 w', OwnI w' base e a2 (n + m) c2 (l ++ l') → Below base w w' → (a2 = none ↔ b = none ∧ m = 0) → K (a.put o.dst (.slice a2 (n + m) c2)) w') : o.wp P a w K Q := by
  obtain ⟨a2, c2, w', hr, h2, h3, h4⟩ := run_append_I T o.type w base h hb hn hbase
  unfold Oper.wp execOp
  simp only [ho, resolve, invoke, builtin, Sem.run_bind, Sem.run_pure, Result.andThen_ok, List.map_toArray, List.map_cons, List.map_nil, hs, hx, hr]
  exact k a2 c2 w' h2 h3 h4

/-- The append of bytes, whether it is guarded or not. -/
theorem wpList_append_I {t e : TypeId} (T : I64T P t e) (hw : Region.wanted o (yielded ops a.tmps) = true) (s x : Operand) (ho : o.op = .call { callee := .builtin .append, args := #[s, x], argTypes := #[t, t] })
    (base : Nat) {b n c l} (hs : a.eval s = .slice b n c) (h : OwnI w base e b n c l) {b' m c' l'} (hx : a.eval x = .slice b' m c') (hb : I64s w b' m c' l') (hn : n + m ≤ 17592186044416) (hbase : base ≤ w.heap.size)
    (k : ∀ a2 c2 w', OwnI w' base e a2 (n + m) c2 (l ++ l') → Below base w w' → (a2 = none ↔ b = none ∧ m = 0) → wpList P ops Q rest (a.put o.dst (.slice a2 (n + m) c2)) w') : wpList P ops Q (o :: rest) a w :=
  BigFrame.wpList_want hw fun K hK => wp_append_I T s x ho base hs h hx hb hn hbase fun a2 c2 w' h2 h3 h4 => hK _ _ (k a2 c2 w' h2 h3 h4)

/-- The same, which also tells that no other block is turned. -/
theorem wpList_append_I2 {t e : TypeId} (T : I64T P t e) (hw : Region.wanted o (yielded ops a.tmps) = true) (s x : Operand) (ho : o.op = .call { callee := .builtin .append, args := #[s, x], argTypes := #[t, t] })
    (base : Nat) {b n c l} (hs : a.eval s = .slice b n c) (h : OwnI w base e b n c l) {b' m c' l'} (hx : a.eval x = .slice b' m c') (hb : I64s w b' m c' l') (hn : n + m ≤ 17592186044416) (hbase : base ≤ w.heap.size)
    (k : ∀ a2 c2 w', OwnI w' base e a2 (n + m) c2 (l ++ l') → Below base w w' → w.grownBy w' (Value.ownBlock (.slice b n c)) → wpList P ops Q rest (a.put o.dst (.slice a2 (n + m) c2)) w') : wpList P ops Q (o :: rest) a w :=
  BigFrame.wpList_want hw fun K hK => by
    obtain ⟨a2, c2, w', hr, h2, h3, h4, h5⟩ := run_append_I2 T o.type w base h hb hn hbase
    unfold Oper.wp execOp
    simp only [ho, resolve, invoke, builtin, Sem.run_bind, Sem.run_pure, Result.andThen_ok, List.map_toArray, List.map_cons, List.map_nil, hs, hx, hr]
    exact hK _ _ (k a2 c2 w' h2 h3 h5)
/-- At a step of a region that draws its order. -/
theorem step_append_I {K : Act → World → Prop} {E : Prop} {t e : TypeId} (T : I64T P t e) (hgd : o.guard = none) (s x : Operand) (ho : o.op = .call { callee := .builtin .append, args := #[s, x], argTypes := #[t, t] })
    (base : Nat) {b n c l} (hs : a.eval s = .slice b n c) (h : OwnI w base e b n c l) {b' m c' l'} (hx : a.eval x = .slice b' m c') (hb : I64s w b' m c' l') (hn : n + m ≤ 17592186044416) (hbase : base ≤ w.heap.size)
    (k : ∀ a2 c2 w', OwnI w' base e a2 (n + m) c2 (l ++ l') → Below base w w' → w.grownBy w' (Value.ownBlock (.slice b n c)) → K (a.put o.dst (.slice a2 (n + m) c2)) w') :
    if Region.wanted o (yielded ops a.tmps) = true then Oper.wp P o a w K Q else E := by
  have hw : Region.wanted o (yielded ops a.tmps) = true := by simp [Region.wanted, hgd]
  rw [if_pos hw]
  obtain ⟨a2, c2, w', hr, h2, h3, h4, h5⟩ := run_append_I2 T o.type w base h hb hn hbase
  unfold Oper.wp execOp
  simp only [ho, resolve, invoke, builtin, Sem.run_bind, Sem.run_pure, Result.andThen_ok, List.map_toArray, List.map_cons, List.map_nil, hs, hx, hr]
  exact k a2 c2 w' h2 h3 h5

/-- 'make([]T, n)'. -/
theorem wpList_make_I {t e : TypeId} (T : I64T P t e) (hg : o.guard = none) (l c : Operand) (hop : o.op = Op.makeSlice t l c)
    (base : Nat) (kl kc : IntKind) (L C : Int) (n : Nat) (hl : a.eval l = .int kl L) (hc : a.eval c = .int kc C) (hL : L = (n : Int)) (hC : C = (n : Int)) (b2 : n ≤ 17592186044416) (hbase : base ≤ w.heap.size)
    (k : ∀ w', OwnI w' base e (some ⟨w.heap.size, 0, none⟩) n n (List.replicate n 0) → Below w.heap.size w w' → w.heap.size < w'.heap.size → wpList P ops Q rest (a.put o.dst (.slice (some ⟨w.heap.size, 0, none⟩) n n)) w') : wpList P ops Q (o :: rest) a w := by
  obtain ⟨i0, hi, hz0, hz1, hz2⟩ := info_parts T.info
  refine wpList_make_full w hg l c t hop base e i0 (.int .i64 0) 1 T.und hi hz0 hz1 kl kc L C n hl hc hL hC (by rw [hz2]; omega) (by unfold maxLen; omega) hbase ?_
  intro w' ho hgr
  have e1 : (madeCells (Value.cells (.int .i64 0)) (n * 1)).toList = cellsI (List.replicate n 0) := by
    rw [Nat.mul_one, show Value.cells (.int .i64 0) = #[Value.int .i64 0] from rfl, toList_madeCells_one, cellsI, List.map_replicate]
  rw [e1] at ho
  have hall : AllI (List.replicate n 0) := by intro x hx; have := List.eq_of_mem_replicate hx; subst this; omega
  refine k w' ⟨ho, hall⟩ ((Below.refl _ _).grown hgr (Nat.le_refl _) (by simp)) ?_
  rcases ho.2 with ⟨hv, _⟩ | ⟨g, cap, cur, hv, _, hh, _⟩
  · simp at hv
  · simp only [Value.slice.injEq, Option.some.injEq, Addr.mk.injEq, and_true] at hv
    have := (Array.getElem?_eq_some_iff.1 hh).1
    omega

/-- 'make([]T, n, m)'. -/
theorem wpList_mk_I {t e : TypeId} (T : I64T P t e) (hg : o.guard = none) (l c : Operand) (hop : o.op = Op.makeSlice t l c)
    (base : Nat) (kl kc : IntKind) (L C : Int) (n m : Nat) (hl : a.eval l = .int kl L) (hc : a.eval c = .int kc C) (hL : L = (n : Int)) (hC : C = (m : Int)) (hnm : n ≤ m) (b2 : m ≤ 17592186044416) (hbase : base ≤ w.heap.size)
    (k : ∀ w', OwnI w' base e (some ⟨w.heap.size, 0, none⟩) n m (List.replicate n 0) → Below w.heap.size w w' → w.heap.size < w'.heap.size → wpList P ops Q rest (a.put o.dst (.slice (some ⟨w.heap.size, 0, none⟩) n m)) w') : wpList P ops Q (o :: rest) a w := by
  obtain ⟨i0, hi, hz0, hz1, hz2⟩ := info_parts T.info
  refine wpList_plain hg fun K hK' => ?_
  subst hL hC
  have hrun := run_make (P := P) w t e i0 (.int .i64 0) T.und hi hz0 kl kc (n : Int) (m : Int) (by omega) (by omega) (by rw [hz2]; omega) (by omega)
  simp only [Int.toNat_natCast] at hrun
  unfold Oper.wp
  simp [execOp, hop, hl, hc, hrun, Result.andThen]
  have e1 : (madeCells (Value.cells (.int .i64 0)) (m * i0.size)).toList = cellsI (List.replicate m 0) := by
    rw [hz1, Nat.mul_one, show Value.cells (.int .i64 0) = #[Value.int .i64 0] from rfl, toList_madeCells_one, cellsI, List.map_replicate]
  have hall : AllI (List.replicate n 0) := by intro x hx; have := List.eq_of_mem_replicate hx; subst this; omega
  refine hK' _ _ (k _ ⟨⟨by simp [cellsI], .inr ⟨w.heap.size, m, _, rfl, hbase, heap_alloc_new w _, hnm, by unfold maxLen; omega, ?_, ?_⟩⟩, hall⟩ ((Below.refl _ _).alloc (Nat.le_refl _) _) (by simp))
  · rw [size_madeCells, hz1]
  · rw [e1, cellsI, cellsI, ← List.map_take, List.take_replicate, Nat.mul_one, Nat.min_eq_left hnm]
end

/-- A store into an owned slice. -/
theorem OwnI.stored {w : World} {base e n c l} {g : Nat} (h : OwnI w base e (some ⟨g, 0, none⟩) n c l) (j : Nat) (x : Int) (hx : -9223372036854775808 ≤ x ∧ x ≤ 9223372036854775807) :
    OwnI (w.setCell ⟨g, j, none⟩ (.int .i64 x)) base e (some ⟨g, 0, none⟩) n c (l.set j x) := by
  refine ⟨?_, ?_⟩
  · have := (h.own.stored j (.int .i64 x)).1
    rwa [show cellsI (l.set j x) = (cellsI l).set j (.int .i64 x) by simp [cellsI]]
  · intro y hy
    rcases List.mem_or_eq_of_mem_set hy with h1 | h1
    · exact h.all y h1
    · subst h1; exact hx
theorem OwnI.cellAt {w : World} {base e n c l} {g : Nat} (h : OwnI w base e (some ⟨g, 0, none⟩) n c l) (j : Nat) (hj : j < n) : w.cell? ⟨g, j, none⟩ = some (.int .i64 (l.getD j 0)) := by
  rw [h.own.cellAt j (by omega), cellsI, List.getElem?_map, List.getElem?_eq_getElem (by rw [h.len]; exact hj), List.getD_eq_getElem?_getD, List.getElem?_eq_getElem (by rw [h.len]; exact hj)]
  rfl
theorem OwnI.frozenAt {w : World} {base e n c l} {g : Nat} (h : OwnI w base e (some ⟨g, 0, none⟩) n c l) (j : Nat) : w.frozen? ⟨g, j, none⟩ = false := h.own.frozenAt j
/-- An owned slice stays while its block does. -/
theorem OwnI.keep {w w' : World} {base e n c l} {g : Nat} (h : OwnI w base e (some ⟨g, 0, none⟩) n c l) (hk : w'.heap[g]? = w.heap[g]?) : OwnI w' base e (some ⟨g, 0, none⟩) n c l := by
  refine ⟨⟨h.own.1, ?_⟩, h.all⟩
  rcases h.own.2 with hv | ⟨g', cap, cur, hv, hg, hh, r⟩
  · exact .inl hv
  · refine .inr ⟨g', cap, cur, hv, hg, ?_, r⟩
    simp only [Value.slice.injEq, Option.some.injEq, Addr.mk.injEq, and_true] at hv
    rw [← hv.1, hk, hv.1]
    exact hh
theorem OwnI.block {w : World} {base e n c l} {g : Nat} (h : OwnI w base e (some ⟨g, 0, none⟩) n c l) : ∃ cur, w.heap[g]? = some (.cells cur e (0, 0)) := by
  rcases h.own.2 with ⟨hv, _⟩ | ⟨g', cap, cur, hv, hg, hh, r⟩
  · simp at hv
  · simp only [Value.slice.injEq, Option.some.injEq, Addr.mk.injEq, and_true] at hv
    rw [hv.1]
    exact ⟨cur, hh⟩
end Go.Proofs.Ytejhncdempfmjaa.bs

/-
  Slices of numbers of the kind u32, as the texts Bytes and Own have them for bytes (written out of those by program). No program is named here.
-/
namespace Go.Proofs.Ytejhncdempfmjaa.bs
open Go.ChangeShapes Go.WideShapes Go.ChangeAt Go.RowKit
set_option linter.unusedVariables false

/-- Numbers that are bytes. -/
def AllW (l : List Int) : Prop := ∀ n ∈ l, 0 ≤ n ∧ n ≤ 4294967295

/-- The slice (a, n, c) has the elements l. -/
structure U32s (w : World) (a : Option Addr) (n c : Nat) (l : List Int) : Prop where
  len : l.length = n
  cap : n ≤ c
  most : c ≤ 9223372036854775807
  all : AllW l
  nil : a = none → c = 0
  at' : n = 0 ∨ ∃ b off, a = some ⟨b, off, none⟩ ∧ ∀ i, i < n → w.cell? ⟨b, off + i, none⟩ = some (.int .u32 (l.getD i 0))

theorem U32s.drewN {w : World} {a n c l} (h : U32s w a n c l) (m : Nat) : U32s (w.drewN m) a n c l :=
  ⟨h.len, h.cap, h.most, h.all, h.nil, h.at'⟩

theorem U32s.below {w w' : World} {a n c l} (h : U32s w a n c l) (hb : Below w.heap.size w w') : U32s w' a n c l := by
  refine ⟨h.len, h.cap, h.most, h.all, h.nil, ?_⟩
  rcases h.at' with h0 | ⟨b, off, ha, hc⟩
  · exact .inl h0
  · refine .inr ⟨b, off, ha, fun i hi => ?_⟩
    rw [hb.cell (World.block_lt_of_cell? w _ (hc i hi))]
    exact hc i hi

theorem AllW.getD {l : List Int} (h : AllW l) (i : Nat) : 0 ≤ l.getD i 0 ∧ l.getD i 0 ≤ 4294967295 := by
  rw [List.getD_eq_getElem?_getD]
  rcases Nat.lt_or_ge i l.length with hi | hi
  · rw [List.getElem?_eq_getElem hi]; exact h _ (List.getElem_mem hi)
  · rw [List.getElem?_eq_none hi]; simp


def cellsW (l : List Int) : List Value := l.map (Value.int .u32)
theorem cellsW_append (x y : List Int) : cellsW (x ++ y) = cellsW x ++ cellsW y := List.map_append

structure OwnW (w : World) (base : Nat) (e : TypeId) (a : Option Addr) (n c : Nat) (l : List Int) : Prop where
  own : w.ownsRow base e 1 (.slice a n c) n (cellsW l)
  all : AllW l

theorem OwnW.len {w : World} {base e a n c l} (h : OwnW w base e a n c l) : l.length = n := by
  have := h.own.1
  simpa [cellsW] using this

theorem OwnW.cases {w : World} {base e a n c l} (h : OwnW w base e a n c l) : (a = none ∧ n = 0 ∧ c = 0) ∨ ∃ g, a = some ⟨g, 0, none⟩ ∧ base ≤ g ∧ g < w.heap.size ∧ n ≤ c ∧ c ≤ maxLen := by
  rcases h.own.2 with ⟨hv, hn⟩ | ⟨g, cap, cur, hv, hg, hh, hn, hc, _⟩
  · simp only [Value.slice.injEq] at hv
    exact .inl ⟨hv.1, hn, hv.2.2⟩
  · simp only [Value.slice.injEq] at hv
    obtain ⟨rfl, _, rfl⟩ := hv
    exact .inr ⟨g, rfl, hg, (Array.getElem?_eq_some_iff.1 hh).1, hn, hc⟩

theorem OwnW.reads {w : World} {base e a n c l} (h : OwnW w base e a n c l) : U32s w a n c l := by
  rcases h.cases with ⟨rfl, rfl, rfl⟩ | ⟨g, rfl, hg, hs, hn, hc⟩
  · exact ⟨h.len, Nat.le_refl _, by omega, h.all, fun _ => rfl, .inl rfl⟩
  · refine ⟨h.len, hn, by unfold maxLen at hc; omega, h.all, by simp, .inr ⟨g, 0, rfl, fun i hi => ?_⟩⟩
    rw [Nat.zero_add, h.own.cellAt i (by omega), cellsW, List.getElem?_map, List.getElem?_eq_getElem (by rw [h.len]; exact hi), List.getD_eq_getElem?_getD, List.getElem?_eq_getElem (by rw [h.len]; exact hi)]
    rfl

theorem OwnW.mono {w : World} {base base' e a n c l} (h : OwnW w base e a n c l) (hb : base' ≤ base) : OwnW w base' e a n c l := by
  refine ⟨⟨h.own.1, ?_⟩, h.all⟩
  rcases h.own.2 with hv | ⟨g, cap, cur, hv, hg, r⟩
  · exact .inl hv
  · exact .inr ⟨g, cap, cur, hv, Nat.le_trans hb hg, r⟩

/-- What is below a bound that the slice's block is below stays, and so does the slice. -/
theorem OwnW.below {w w' : World} {base e a n c l} (h : OwnW w base e a n c l) (hb : Below w.heap.size w w') : OwnW w' base e a n c l := by
  refine ⟨⟨h.own.1, ?_⟩, h.all⟩
  rcases h.own.2 with hv | ⟨g, cap, cur, hv, hg, hh, r⟩
  · exact .inl hv
  · exact .inr ⟨g, cap, cur, hv, hg, by rw [hb.block g (Array.getElem?_eq_some_iff.1 hh).1]; exact hh, r⟩

theorem OwnW.drewN {w : World} {base e a n c l} (h : OwnW w base e a n c l) (m : Nat) : OwnW (w.drewN m) base e a n c l :=
  h.below (below_drewN (Below.refl _ _) m)
theorem OwnW.drew {w : World} {base e a n c l} (h : OwnW w base e a n c l) : OwnW w.drew base e a n c l :=
  h.below (Below.drew (Below.refl _ _))
theorem OwnW.alloc {w : World} {base e a n c l} (h : OwnW w base e a n c l) (o : Obj) : OwnW (w.alloc o) base e a n c l :=
  h.below ((Below.refl _ _).alloc (Nat.le_refl _) o)

theorem OwnW.nil (w : World) (base : Nat) (e : TypeId) : OwnW w base e none 0 0 [] := ⟨World.ownsRow_nil w base e 1, by simp [AllW]⟩

/-- A row that was just made, with all its room, is owned. -/
theorem OwnW.made (w : World) (base : Nat) (e : TypeId) (l : List Int) (cur : Array Value) (hcur : cur = (cellsW l).toArray) (hb : base ≤ w.heap.size) (hl : l.length ≤ maxLen) (hall : AllW l) :
    OwnW (w.alloc (.cells cur e)) base e (some ⟨w.heap.size, 0, none⟩) l.length l.length l := by
  subst hcur
  refine ⟨⟨by simp [cellsW], .inr ⟨w.heap.size, l.length, _, rfl, hb, heap_alloc_new w _, Nat.le_refl _, hl, by simp [cellsW], ?_⟩⟩, hall⟩
  rw [List.take_of_length_le (by simp [cellsW])]

/-- One byte, in a new block of its own. -/
theorem U32s.one (w : World) (e : TypeId) (z : Int) (h0 : 0 ≤ z ∧ z ≤ 4294967295) : U32s (w.alloc (.cells #[.int .u32 z] e)) (some ⟨w.heap.size, 0, none⟩) 1 1 [z] :=
  (OwnW.made w 0 e [z] _ rfl (Nat.zero_le _) (by simp [maxLen]) (by simpa [AllW] using h0)).reads

/-- A type of slices of bytes. -/
structure U32T (P : Program) (t e : TypeId) : Prop where
  und : P.underlying t = some (.slice e)
  info : (P.info? e).map (fun i => (i.zero, i.size, i.bytes)) = some (some (.int .u32 0), 1, 4)

theorem run_append_W2 {P : Program} {t e : TypeId} (T : U32T P t e) (ty : TypeId) (w : World) (base : Nat) {a n c l} (h : OwnW w base e a n c l) {a' m c' l'} (hs : U32s w a' m c' l')
    (hn : n + m ≤ 17592186044416) (hbase : base ≤ w.heap.size) :
    ∃ a2 c2 w', (Builtin.append_ #[t, t] ty #[.slice a n c, .slice a' m c']).run P w = .ok (.slice a2 (n + m) c2) w' ∧ OwnW w' base e a2 (n + m) c2 (l ++ l') ∧ Below base w w' ∧ (a2 = none ↔ a = none ∧ m = 0) ∧ w.grownBy w' (Value.ownBlock (.slice a n c)) := by
  obtain ⟨i0, hi, hz0, hz1, hz2⟩ := info_parts T.info
  have fin : ∀ v' w', (Builtin.append_ #[t, t] ty #[.slice a n c, .slice a' m c']).run P w = .ok v' w' → w'.ownsRow base e 1 v' (n + m) (cellsW (l ++ l')) → w.grownBy w' (Value.ownBlock (.slice a n c)) → (v' = .slice none 0 0 ↔ Value.slice a n c = .slice none 0 0 ∧ m = 0) →
      ∃ a2 c2 w', (Builtin.append_ #[t, t] ty #[.slice a n c, .slice a' m c']).run P w = .ok (.slice a2 (n + m) c2) w' ∧ OwnW w' base e a2 (n + m) c2 (l ++ l') ∧ Below base w w' ∧ (a2 = none ↔ a = none ∧ m = 0) ∧ w.grownBy w' (Value.ownBlock (.slice a n c)) := by
    intro v' w' hr ho hg hnil
    have hall : AllW (l ++ l') := fun x hx => (List.mem_append.1 hx).elim (h.all x) (hs.all x)
    have hbel : Below base w w' := (Below.refl base w).grown hg hbase (fun k hk => (h.own.lt k hk).1)
    have ha : a = none → n = 0 ∧ c = 0 := fun hz => by
      rcases h.cases with ⟨_, x, y⟩ | ⟨g, x, _⟩
      · exact ⟨x, y⟩
      · rw [hz] at x; cases x
    rcases ho.2 with ⟨rfl, h0⟩ | ⟨g, cap, cur, rfl, hgb, hh, r⟩
    · refine ⟨none, 0, w', ?_, ⟨?_, hall⟩, hbel, ?_, hg⟩
      · rw [hr, h0]
      · rw [h0] at ho ⊢; exact ho
      · have := hnil.1 rfl
        simp only [Value.slice.injEq] at this
        exact ⟨fun _ => ⟨this.1.1, this.2⟩, fun _ => rfl⟩
    · refine ⟨some ⟨g, 0, none⟩, cap, w', hr, ⟨ho, hall⟩, hbel, ?_, hg⟩
      simp only [reduceCtorEq, false_iff]
      rintro ⟨hz, hm0⟩
      obtain ⟨x, y⟩ := ha hz
      have := hnil.2 ⟨by rw [hz, x, y], hm0⟩
      simp at this
  rcases Option.eq_none_or_eq_some a' with hz | ⟨ad, hz⟩
  · subst hz
    have hc' := hs.nil rfl
    have hm : m = 0 := by have := hs.cap; omega
    subst hc' hm
    have hl' : l' = [] := List.eq_nil_of_length_eq_zero hs.len
    subst hl'
    have hr := run_append_owned_none (P := P) (w := w) base t ty e i0 1 T.und hi (.slice a n c) n (cellsW l) h.own
    refine fin _ _ hr (by simpa using h.own) ⟨rfl, rfl, rfl, Nat.le_refl _, fun _ _ _ => rfl⟩ (by simp)
  · subst hz
    have hcells : ∀ j u, (cellsW l')[j]? = some u → w.cell? (ad.add j) = some u := by
      intro j u hu
      rcases hs.at' with h0 | ⟨b, off, hab, hc⟩
      · have : l' = [] := List.eq_nil_of_length_eq_zero (by rw [hs.len, h0])
        subst this
        simp [cellsW] at hu
      · simp only [Option.some.injEq] at hab
        subst hab
        have hj : j < m := by
          have := (List.getElem?_eq_some_iff.1 hu).1
          rw [← hs.len]
          simpa [cellsW] using this
        have e1 : (⟨b, off, none⟩ : Addr).add j = ⟨b, off + j, none⟩ := by unfold Addr.add; split <;> simp_all
        rw [e1, hc j hj, ← hu, cellsW, List.getElem?_map, List.getElem?_eq_getElem (by rw [hs.len]; exact hj), List.getD_eq_getElem?_getD, List.getElem?_eq_getElem (by rw [hs.len]; exact hj)]
        rfl
    obtain ⟨v', w', hr, ho, hg, hnil⟩ := run_append_own (P := P) w base t ty e i0 (.int .u32 0) 1 4 T.und hi hz0 hz1 hz2 rfl (by decide) (.slice a n c) n (cellsW l) h.own ad m c' (cellsW l') (by simp [cellsW, hs.len]) hcells
      (by intro u hu; obtain ⟨x, _, rfl⟩ := List.mem_map.1 hu; rfl) (by unfold maxLen; omega) (by omega) hbase
    exact fin v' w' hr (by rw [cellsW_append]; exact ho) hg hnil

theorem run_append_W {P : Program} {t e : TypeId} (T : U32T P t e) (ty : TypeId) (w : World) (base : Nat) {a n c l} (h : OwnW w base e a n c l) {a' m c' l'} (hs : U32s w a' m c' l')
    (hn : n + m ≤ 17592186044416) (hbase : base ≤ w.heap.size) :
    ∃ a2 c2 w', (Builtin.append_ #[t, t] ty #[.slice a n c, .slice a' m c']).run P w = .ok (.slice a2 (n + m) c2) w' ∧ OwnW w' base e a2 (n + m) c2 (l ++ l') ∧ Below base w w' ∧ (a2 = none ↔ a = none ∧ m = 0) := by
  obtain ⟨a2, c2, w', h1, h2, h3, h4, _⟩ := run_append_W2 T ty w base h hs hn hbase
  exact ⟨a2, c2, w', h1, h2, h3, h4⟩

section
variable {P : Program} {w : World} {ops : Array Oper} {rest : List Oper} {o : Oper} {a : Act} {Q : Exit → Act → World → Prop}

theorem wp_append_W {K : Act → World → Prop} {t e : TypeId} (T : U32T P t e) (s x : Operand) (ho : o.op = .call { callee := .builtin .append, args := #[s, x], argTypes := #[t, t] })
    (base : Nat) {b n c l} (hs : a.eval s = .slice b n c) (h : OwnW w base e b n c l) {b' m c' l'} (hx : a.eval x = .slice b' m c') (hb : U32s w b' m c' l') (hn : n + m ≤ 17592186044416) (hbase : base ≤ w.heap.size)
    (k : ∀ a2 c2 w', OwnW w' base e a2 (n + m) c2 (l ++ l') → Below base w w' → (a2 = none ↔ b = none ∧ m = 0) → K (a.put o.dst (.slice a2 (n + m) c2)) w') : o.wp P a w K Q := by
  obtain ⟨a2, c2, w', hr, h2, h3, h4⟩ := run_append_W T o.type w base h hb hn hbase
  unfold Oper.wp execOp
  simp only [ho, resolve, invoke, builtin, Sem.run_bind, Sem.run_pure, Result.andThen_ok, List.map_toArray, List.map_cons, List.map_nil, hs, hx, hr]
  exact k a2 c2 w' h2 h3 h4

/-- The append of bytes, whether it is guarded or not. -/
theorem wpList_append_W {t e : TypeId} (T : U32T P t e) (hw : Region.wanted o (yielded ops a.tmps) = true) (s x : Operand) (ho : o.op = .call { callee := .builtin .append, args := #[s, x], argTypes := #[t, t] })
    (base : Nat) {b n c l} (hs : a.eval s = .slice b n c) (h : OwnW w base e b n c l) {b' m c' l'} (hx : a.eval x = .slice b' m c') (hb : U32s w b' m c' l') (hn : n + m ≤ 17592186044416) (hbase : base ≤ w.heap.size)
    (k : ∀ a2 c2 w', OwnW w' base e a2 (n + m) c2 (l ++ l') → Below base w w' → (a2 = none ↔ b = none ∧ m = 0) → wpList P ops Q rest (a.put o.dst (.slice a2 (n + m) c2)) w') : wpList P ops Q (o :: rest) a w :=
  BigFrame.wpList_want hw fun K hK => wp_append_W T s x ho base hs h hx hb hn hbase fun a2 c2 w' h2 h3 h4 => hK _ _ (k a2 c2 w' h2 h3 h4)

/-- The same, which also tells that no other block is turned. -/
theorem wpList_append_W2 {t e : TypeId} (T : U32T P t e) (hw : Region.wanted o (yielded ops a.tmps) = true) (s x : Operand) (ho : o.op = .call { callee := .builtin .append, args := #[s, x], argTypes := #[t, t] })
    (base : Nat) {b n c l} (hs : a.eval s = .slice b n c) (h : OwnW w base e b n c l) {b' m c' l'} (hx : a.eval x = .slice b' m c') (hb : U32s w b' m c' l') (hn : n + m ≤ 17592186044416) (hbase : base ≤ w.heap.size)
    (k : ∀ a2 c2 w', OwnW w' base e a2 (n + m) c2 (l ++ l') → Below base w w' → w.grownBy w' (Value.ownBlock (.slice b n c)) → wpList P ops Q rest (a.put o.dst (.slice a2 (n + m) c2)) w') : wpList P ops Q (o :: rest) a w :=
  BigFrame.wpList_want hw fun K hK => by
    obtain ⟨a2, c2, w', hr, h2, h3, h4, h5⟩ := run_append_W2 T o.type w base h hb hn hbase
    unfold Oper.wp execOp
    simp only [ho, resolve, invoke, builtin, Sem.run_bind, Sem.run_pure, Result.andThen_ok, List.map_toArray, List.map_cons, List.map_nil, hs, hx, hr]
    exact hK _ _ (k a2 c2 w' h2 h3 h5)
/-- At a step of a region that draws its order. -/
theorem step_append_W {K : Act → World → Prop} {E : Prop} {t e : TypeId} (T : U32T P t e) (hgd : o.guard = none) (s x : Operand) (ho : o.op = .call { callee := .builtin .append, args := #[s, x], argTypes := #[t, t] })
    (base : Nat) {b n c l} (hs : a.eval s = .slice b n c) (h : OwnW w base e b n c l) {b' m c' l'} (hx : a.eval x = .slice b' m c') (hb : U32s w b' m c' l') (hn : n + m ≤ 17592186044416) (hbase : base ≤ w.heap.size)
    (k : ∀ a2 c2 w', OwnW w' base e a2 (n + m) c2 (l ++ l') → Below base w w' → w.grownBy w' (Value.ownBlock (.slice b n c)) → K (a.put o.dst (.slice a2 (n + m) c2)) w') :
    if Region.wanted o (yielded ops a.tmps) = true then Oper.wp P o a w K Q else E := by
  have hw : Region.wanted o (yielded ops a.tmps) = true := by simp [Region.wanted, hgd]
  rw [if_pos hw]
  obtain ⟨a2, c2, w', hr, h2, h3, h4, h5⟩ := run_append_W2 T o.type w base h hb hn hbase
  unfold Oper.wp execOp
  simp only [ho, resolve, invoke, builtin, Sem.run_bind, Sem.run_pure, Result.andThen_ok, List.map_toArray, List.map_cons, List.map_nil, hs, hx, hr]
  exact k a2 c2 w' h2 h3 h5

/-- 'make([]T, n)'. -/
theorem wpList_make_W {t e : TypeId} (T : U32T P t e) (hg : o.guard = none) (l c : Operand) (hop : o.op = Op.makeSlice t l c)
    (base : Nat) (kl kc : IntKind) (L C : Int) (n : Nat) (hl : a.eval l = .int kl L) (hc : a.eval c = .int kc C) (hL : L = (n : Int)) (hC : C = (n : Int)) (b2 : n ≤ 17592186044416) (hbase : base ≤ w.heap.size)
    (k : ∀ w', OwnW w' base e (some ⟨w.heap.size, 0, none⟩) n n (List.replicate n 0) → Below w.heap.size w w' → w.heap.size < w'.heap.size → wpList P ops Q rest (a.put o.dst (.slice (some ⟨w.heap.size, 0, none⟩) n n)) w') : wpList P ops Q (o :: rest) a w := by
  obtain ⟨i0, hi, hz0, hz1, hz2⟩ := info_parts T.info
  refine wpList_make_full w hg l c t hop base e i0 (.int .u32 0) 1 T.und hi hz0 hz1 kl kc L C n hl hc hL hC (by rw [hz2]; omega) (by unfold maxLen; omega) hbase ?_
  intro w' ho hgr
  have e1 : (madeCells (Value.cells (.int .u32 0)) (n * 1)).toList = cellsW (List.replicate n 0) := by
    rw [Nat.mul_one, show Value.cells (.int .u32 0) = #[Value.int .u32 0] from rfl, toList_madeCells_one, cellsW, List.map_replicate]
  rw [e1] at ho
  have hall : AllW (List.replicate n 0) := by intro x hx; have := List.eq_of_mem_replicate hx; subst this; omega
  refine k w' ⟨ho, hall⟩ ((Below.refl _ _).grown hgr (Nat.le_refl _) (by simp)) ?_
  rcases ho.2 with ⟨hv, _⟩ | ⟨g, cap, cur, hv, _, hh, _⟩
  · simp at hv
  · simp only [Value.slice.injEq, Option.some.injEq, Addr.mk.injEq, and_true] at hv
    have := (Array.getElem?_eq_some_iff.1 hh).1
    omega

/-- 'make([]T, n, m)'. -/
theorem wpList_mk_W {t e : TypeId} (T : U32T P t e) (hg : o.guard = none) (l c : Operand) (hop : o.op = Op.makeSlice t l c)
    (base : Nat) (kl kc : IntKind) (L C : Int) (n m : Nat) (hl : a.eval l = .int kl L) (hc : a.eval c = .int kc C) (hL : L = (n : Int)) (hC : C = (m : Int)) (hnm : n ≤ m) (b2 : m ≤ 17592186044416) (hbase : base ≤ w.heap.size)
    (k : ∀ w', OwnW w' base e (some ⟨w.heap.size, 0, none⟩) n m (List.replicate n 0) → Below w.heap.size w w' → w.heap.size < w'.heap.size → wpList P ops Q rest (a.put o.dst (.slice (some ⟨w.heap.size, 0, none⟩) n m)) w') : wpList P ops Q (o :: rest) a w := by
  obtain ⟨i0, hi, hz0, hz1, hz2⟩ := info_parts T.info
  refine wpList_plain hg fun K hK' => ?_
  subst hL hC
  have hrun := run_make (P := P) w t e i0 (.int .u32 0) T.und hi hz0 kl kc (n : Int) (m : Int) (by omega) (by omega) (by rw [hz2]; omega) (by omega)
  simp only [Int.toNat_natCast] at hrun
  unfold Oper.wp
  simp [execOp, hop, hl, hc, hrun, Result.andThen]
  have e1 : (madeCells (Value.cells (.int .u32 0)) (m * i0.size)).toList = cellsW (List.replicate m 0) := by
    rw [hz1, Nat.mul_one, show Value.cells (.int .u32 0) = #[Value.int .u32 0] from rfl, toList_madeCells_one, cellsW, List.map_replicate]
  have hall : AllW (List.replicate n 0) := by intro x hx; have := List.eq_of_mem_replicate hx; subst this; omega
  refine hK' _ _ (k _ ⟨⟨by simp [cellsW], .inr ⟨w.heap.size, m, _, rfl, hbase, heap_alloc_new w _, hnm, by unfold maxLen; omega, ?_, ?_⟩⟩, hall⟩ ((Below.refl _ _).alloc (Nat.le_refl _) _) (by simp))
  · rw [size_madeCells, hz1]
  · rw [e1, cellsW, cellsW, ← List.map_take, List.take_replicate, Nat.mul_one, Nat.min_eq_left hnm]
end

/-- A store into an owned slice. -/
theorem OwnW.stored {w : World} {base e n c l} {g : Nat} (h : OwnW w base e (some ⟨g, 0, none⟩) n c l) (j : Nat) (x : Int) (hx : 0 ≤ x ∧ x ≤ 4294967295) :
    OwnW (w.setCell ⟨g, j, none⟩ (.int .u32 x)) base e (some ⟨g, 0, none⟩) n c (l.set j x) := by
  refine ⟨?_, ?_⟩
  · have := (h.own.stored j (.int .u32 x)).1
    rwa [show cellsW (l.set j x) = (cellsW l).set j (.int .u32 x) by simp [cellsW]]
  · intro y hy
    rcases List.mem_or_eq_of_mem_set hy with h1 | h1
    · exact h.all y h1
    · subst h1; exact hx
theorem OwnW.cellAt {w : World} {base e n c l} {g : Nat} (h : OwnW w base e (some ⟨g, 0, none⟩) n c l) (j : Nat) (hj : j < n) : w.cell? ⟨g, j, none⟩ = some (.int .u32 (l.getD j 0)) := by
  rw [h.own.cellAt j (by omega), cellsW, List.getElem?_map, List.getElem?_eq_getElem (by rw [h.len]; exact hj), List.getD_eq_getElem?_getD, List.getElem?_eq_getElem (by rw [h.len]; exact hj)]
  rfl
theorem OwnW.frozenAt {w : World} {base e n c l} {g : Nat} (h : OwnW w base e (some ⟨g, 0, none⟩) n c l) (j : Nat) : w.frozen? ⟨g, j, none⟩ = false := h.own.frozenAt j
/-- An owned slice stays while its block does. -/
theorem OwnW.keep {w w' : World} {base e n c l} {g : Nat} (h : OwnW w base e (some ⟨g, 0, none⟩) n c l) (hk : w'.heap[g]? = w.heap[g]?) : OwnW w' base e (some ⟨g, 0, none⟩) n c l := by
  refine ⟨⟨h.own.1, ?_⟩, h.all⟩
  rcases h.own.2 with hv | ⟨g', cap, cur, hv, hg, hh, r⟩
  · exact .inl hv
  · refine .inr ⟨g', cap, cur, hv, hg, ?_, r⟩
    simp only [Value.slice.injEq, Option.some.injEq, Addr.mk.injEq, and_true] at hv
    rw [← hv.1, hk, hv.1]
    exact hh
theorem OwnW.block {w : World} {base e n c l} {g : Nat} (h : OwnW w base e (some ⟨g, 0, none⟩) n c l) : ∃ cur, w.heap[g]? = some (.cells cur e (0, 0)) := by
  rcases h.own.2 with ⟨hv, _⟩ | ⟨g', cap, cur, hv, hg, hh, r⟩
  · simp at hv
  · simp only [Value.slice.injEq, Option.some.injEq, Addr.mk.injEq, and_true] at hv
    rw [hv.1]
    exact ⟨cur, hh⟩
end Go.Proofs.Ytejhncdempfmjaa.bs

/-
  Plain arithmetic of great numbers in parts of 16 bits, the lowest first.
-/
namespace Go.Proofs.Ytejhncdempfmjaa.rs

def val : List Int → Int
  | [] => 0
  | a :: l => a + 65536 * val l
def Limbs (l : List Int) : Prop := ∀ a ∈ l, 0 ≤ a ∧ a < 65536

theorem pow_pos16 (i : Nat) : (0 : Int) < 65536 ^ i := Int.pow_pos (by omega)

theorem val_append : ∀ (l r : List Int), val (l ++ r) = val l + 65536 ^ l.length * val r
  | [], r => by simp [val]
  | a :: l, r => by
    simp only [List.cons_append, val, val_append l r, List.length_cons, Int.pow_succ]
    rw [Int.mul_add, ← Int.mul_assoc, Int.mul_comm 65536 (65536 ^ l.length)]
    omega

theorem val_bd : ∀ (l : List Int), Limbs l → 0 ≤ val l ∧ val l < 65536 ^ l.length
  | [], _ => by simp [val]
  | a :: l, h => by
    have h1 := h a (by simp)
    have h2 := val_bd l (fun x hx => h x (by simp [hx]))
    simp only [val, List.length_cons, Int.pow_succ]
    omega

theorem limbs_append {l r : List Int} (h : Limbs l) (k : Limbs r) : Limbs (l ++ r) := fun x hx => (List.mem_append.1 hx).elim (h x) (k x)
theorem limbs_one {a : Int} (h : 0 ≤ a ∧ a < 65536) : Limbs [a] := by intro x hx; simp at hx; subst hx; exact h

/-- One more part of a product. -/
theorem times_step (out l : List Int) (i : Nat) (x over a : Int) (ho : out.length = i) (h : val out + 65536 ^ i * over = val (l.take i) * x) (hi : i < l.length) (ha : l.getD i 0 = a) :
    val (out ++ [(a * x + over) % 65536]) + 65536 ^ (i + 1) * ((a * x + over) / 65536) = val (l.take (i + 1)) * x := by
  have e : l.take (i + 1) = l.take i ++ [a] := by
    rw [List.take_add_one, List.getElem?_eq_getElem hi, ← ha, List.getD_eq_getElem?_getD, List.getElem?_eq_getElem hi]; rfl
  have hv : (a * x + over) % 65536 + 65536 * ((a * x + over) / 65536) = a * x + over := by omega
  rw [e, val_append, val_append, ho, List.length_take, Nat.min_eq_left (by omega)]
  simp only [val, Int.mul_zero, Int.add_zero]
  rw [Int.pow_succ, Int.add_mul, ← h, Int.mul_assoc (65536 ^ i) 65536, Int.mul_assoc (65536 ^ i) a]
  have : 65536 ^ i * ((a * x + over) % 65536) + 65536 ^ i * (65536 * ((a * x + over) / 65536)) = 65536 ^ i * (a * x) + 65536 ^ i * over := by
    rw [← Int.mul_add, hv, Int.mul_add]
  omega

/-- One part more of what is over. -/
theorem over_step (out : List Int) (i : Nat) (over v : Int) (ho : out.length = i) (h : val out + 65536 ^ i * over = v) :
    val (out ++ [over % 65536]) + 65536 ^ (i + 1) * (over / 65536) = v := by
  rw [val_append, ho]
  simp only [val, Int.mul_zero, Int.add_zero]
  rw [Int.pow_succ, Int.mul_assoc (65536 ^ i) 65536, ← h]
  have hv : over % 65536 + 65536 * (over / 65536) = over := by omega
  have : 65536 ^ i * (over % 65536) + 65536 ^ i * (65536 * (over / 65536)) = 65536 ^ i * over := by rw [← Int.mul_add, hv]
  omega

theorem val_zeros (l : List Int) (k : Nat) : val (l ++ List.replicate k 0) = val l := by
  rw [val_append]
  have : ∀ j, val (List.replicate j 0) = 0 := by
    intro j
    induction j with
    | zero => rfl
    | succ j ih => rw [List.replicate_succ]; simp [val, ih]
  rw [this]
  omega

theorem val_split (l : List Int) (i : Nat) (hi : i < l.length) : val l = val (l.take i) + 65536 ^ i * (l.getD i 0 + 65536 * val (l.drop (i + 1))) := by
  conv => lhs; rw [← List.take_append_drop i l]
  rw [val_append, List.length_take, Nat.min_eq_left (by omega), List.drop_eq_getElem_cons hi]
  simp only [val]
  rw [List.getD_eq_getElem?_getD, List.getElem?_eq_getElem hi]
  rfl

/-- Two numbers whose parts above i are the same ones are held against each other by the parts i, if they differ. -/
theorem cmp_at (a b : List Int) (i : Nat) (ha : Limbs a) (hb : Limbs b) (ia : i < a.length) (ib : i < b.length) (hd : a.drop (i + 1) = b.drop (i + 1)) (hne : a.getD i 0 ≠ b.getD i 0) :
    (val a ≤ val b) ↔ a.getD i 0 < b.getD i 0 := by
  have h1 := val_split a i ia
  have h2 := val_split b i ib
  have b1 := val_bd (a.take i) (fun x hx => ha x (List.mem_of_mem_take hx))
  have b2 := val_bd (b.take i) (fun x hx => hb x (List.mem_of_mem_take hx))
  rw [List.length_take, Nat.min_eq_left (by omega)] at b1 b2
  have hp := pow_pos16 i
  rw [hd] at h1
  generalize a.getD i 0 = x at *
  generalize b.getD i 0 = y at *
  generalize val (b.drop (i + 1)) = t at *
  rw [Int.mul_add] at h1 h2
  generalize (65536 : Int) ^ i * (65536 * t) = T at *
  generalize (65536 : Int) ^ i = P at *
  constructor
  · intro h
    apply Classical.byContradiction
    intro hn
    have hx : y + 1 ≤ x := by omega
    have := Int.mul_le_mul_of_nonneg_left hx (Int.le_of_lt hp)
    rw [Int.mul_add, Int.mul_one] at this
    omega
  · intro h
    have hx : x + 1 ≤ y := by omega
    have := Int.mul_le_mul_of_nonneg_left hx (Int.le_of_lt hp)
    rw [Int.mul_add, Int.mul_one] at this
    omega

theorem drop_eq_pred {a b : List Int} {i : Nat} (ia : i < a.length) (ib : i < b.length) (hd : a.drop (i + 1) = b.drop (i + 1)) (he : a.getD i 0 = b.getD i 0) : a.drop i = b.drop i := by
  rw [List.drop_eq_getElem_cons ia, List.drop_eq_getElem_cons ib, hd]
  rw [List.getD_eq_getElem?_getD, List.getElem?_eq_getElem ia, List.getD_eq_getElem?_getD, List.getElem?_eq_getElem ib] at he
  simp only [Option.getD_some] at he
  rw [he]

end Go.Proofs.Ytejhncdempfmjaa.rs

/-
  Contracts of the document's great numbers of layer 2: products and powers.
-/
namespace Go.Proofs.Ytejhncdempfmjaa.rs
open Go.ChangeShapes Go.WideShapes Go.ChangeAt Go.RowKit
open bs
set_option linter.unusedVariables false

theorem u64T : U64T Try.prog 150 24 := ⟨Try.underlying150, by kernel_rfl⟩

def LRel (w : World) (l : List Int) (x : Int) (i : Nat) (out over : Value) (wr : World) : Prop :=
  ∃ (a : Option Addr) (c : Nat) (r : List Int) (o : Int), out = .slice a i c ∧ over = .int .u64 o ∧ OwnU wr w.heap.size 24 a i c r ∧ Below w.heap.size w wr ∧ Limbs r ∧ 0 ≤ o ∧ o ≤ x ∧ val r + 65536 ^ i * o = val (l.take i) * x

def ORel (w : World) (v : Int) (len : Nat) (x : Int) (j : Nat) (out over : Value) (wr : World) : Prop :=
  ∃ (a : Option Addr) (c : Nat) (r : List Int) (o : Int), out = .slice a (len + j) c ∧ over = .int .u64 o ∧ OwnU wr w.heap.size 24 a (len + j) c r ∧ Below w.heap.size w wr ∧ Limbs r ∧ 0 ≤ o ∧ o * 65536 ^ j ≤ x ∧ val r + 65536 ^ (len + j) * o = v

def LPost (w : World) (v : Int) (len : Nat) (e : Ending) (w' : World) : Prop :=
  ∃ (a : Option Addr) (c : Nat) (r : List Int), e = .returned (.slice a len c) ∧ OwnU w' w.heap.size 24 a len c r ∧ Below w.heap.size w w' ∧ Limbs r ∧ val r = v

theorem limbs_all {l : List Int} (h : Limbs l) : AllU l := fun x hx => by have := h x hx; omega

theorem over_small (o : Int) (j : Nat) (x : Int) (h0 : 0 ≤ o) (h : o * 65536 ^ j ≤ x) : o / 65536 * 65536 ^ (j + 1) ≤ x := by
  have hp := pow_pos16 j
  have : o / 65536 * 65536 ≤ o := by omega
  have h2 := Int.mul_le_mul_of_nonneg_right this (Int.le_of_lt hp)
  rw [Int.pow_succ, Int.mul_comm (65536 ^ j) 65536, ← Int.mul_assoc]
  omega
theorem over_le (o : Int) (j : Nat) (x : Int) (h0 : 0 ≤ o) (h : o * 65536 ^ j ≤ x) : o ≤ x := by
  have hp := pow_pos16 j
  have h2 := Int.mul_le_mul_of_nonneg_left (show (1 : Int) ≤ 65536 ^ j by omega) h0
  rw [Int.mul_one] at h2
  omega

set_option maxRecDepth 100000 in
set_option maxHeartbeats 1000000 in
theorem times_any (a : Option Addr) (n c : Nat) (l : List Int) (x : Int) (w : World) (h : U64s w a n c l) (hl : Limbs l) (hn : n ≤ 1000) (x0 : 0 ≤ x) (x1 : x ≤ 4398046511104) :
    Calls Try.prog 121 #[.slice a n c, .int .u64 x] w (LPost w (val l * x) (n + 4)) := by
  have HX := Lib.hid h
  have HL := Lib.hid hl
  have hcap := h.cap
  have hmost := h.most
  clear h hl
  go_enter Try.func121, Try.ntmps121
  go_wp2
  go_loopw [5, 6, 7] (fun out over i wr => ∃ k : Nat, k ≤ n ∧ i = .int .i64 k ∧ LRel w l x k out over wr) (fun _ _ i _ => n - (intOf i).toNat)
  case atStart => exact ⟨0, by omega, rfl, _, 0, [], 0, rfl, rfl, OwnU.made _ _ _ [] _ rfl (Nat.le_refl _) (by simp [maxLen]) (by simp [AllU]), (Below.refl _ _).alloc (Nat.le_refl _) _, by simp [Limbs], by omega, by omega, by simp [val]⟩
  case round =>
    obtain ⟨k, hk, rfl, a1, c1, r, o, rfl, rfl, ho, hb, hr, o0, o1, hv⟩ := hrel
    have HO := Lib.hid ho; have HB := Lib.hid hb; have HR := Lib.hid hr; have HV := Lib.hid hv
    have hs := hb.size
    have hlen := Lib.hid ho.len
    clear ho hb hr hv
    by_cases hkn : k < n
    · obtain ⟨b, off, rfl, hc⟩ := HX.out.at'.resolve_left (by omega)
      have c0 := (U64s.below HX.out HB.out)
      obtain ⟨b', off', hab, hc'⟩ := c0.at'.resolve_left (by omega)
      simp only [Option.some.injEq, Addr.mk.injEq, and_true] at hab
      obtain ⟨rfl, rfl⟩ := hab
      have cell := hc' k hkn
      have hlk : k < l.length := by rw [HX.out.len]; exact hkn
      have hpl := HL.out (l.getD k 0) (by rw [List.getD_eq_getElem?_getD, List.getElem?_eq_getElem hlk]; exact List.getElem_mem hlk)
      clear hc hc' c0
      obtain ⟨p, hp⟩ : ∃ p, l.getD k 0 = p := ⟨_, rfl⟩
      rw [hp] at cell hpl
      obtain ⟨p0, p1⟩ := hpl
      have HP := Lib.hid hp; clear hp
      have m0 : 0 ≤ p * x := Int.mul_nonneg p0 x0
      have m1 : p * x ≤ 65535 * x := Int.mul_le_mul_of_nonneg_right (by omega) x0
      obtain ⟨m, hm⟩ : ∃ m, p * x = m := ⟨_, rfl⟩
      rw [hm] at m0 m1
      have hm2 := hm
      have HM := Lib.hid hm2; clear hm2
      go_wp2_with (at_builtin; refine wpList_append_U u64T rfl _ _ rfl w.heap.size rfl (HO.out.alloc _) rfl (U64s.one _ _ _ ?_) ?_ ?_ ?_)
      · omega
      · omega
      · simp; omega
      intro a2 c2 w' ho2 hb2 _
      have HO2 := Lib.hid ho2; have HB2 := Lib.hid ((HB.out.alloc hs _).trans hb2); clear ho2 hb2
      clear hm
      go_wp2
      go_roundw
      case rel =>
        have hst := times_step r l k x o p (by rw [hlen.out]) HV.out (by rw [HX.out.len]; exact hkn) HP.out
        rw [HM.out] at hst
        exact ⟨k + 1, by omega, by go_num, a2, c2, _, _, rfl, rfl, HO2.out, HB2.out, limbs_append HR.out (limbs_one (by omega)), by omega, by omega, hst⟩
      case measure => simp [intOf]; omega
    · obtain rfl : k = n := by omega
      have hv0 : val r + 65536 ^ (k + 0) * o = val l * x := by
        have := HV.out
        rw [List.take_of_length_le (by rw [HX.out.len]; omega)] at this
        exact this
      have HV0 := Lib.hid hv0; clear hv0
      go_wp2
      go_loopw [5, 6, 9] (fun out over j wr => ∃ i : Nat, i ≤ 4 ∧ j = .int .i64 i ∧ ORel w (val l * x) k x i out over wr) (fun _ _ j _ => 4 - (intOf j).toNat)
      case atStart => exact ⟨0, by omega, rfl, a1, c1, r, o, rfl, rfl, HO.out, HB.out, HR.out, o0, by simp; exact o1, HV0.out⟩
      case round =>
        obtain ⟨i, hi, rfl, a3, c3, r3, o3, rfl, rfl, ho3, hb3, hr3, z0, z1, hv3⟩ := hrel
        have HO3 := Lib.hid ho3; have HB3 := Lib.hid hb3; have HR3 := Lib.hid hr3; have HV3 := Lib.hid hv3; have HZ := Lib.hid z1
        have hs3 := hb3.size
        have hlen3 := Lib.hid ho3.len
        have zle := over_le o3 i x z0 z1
        clear ho3 hb3 hr3 hv3 z1
        by_cases hi4 : i < 4
        · go_wp2_with (at_builtin; refine wpList_append_U u64T rfl _ _ rfl w.heap.size rfl (HO3.out.alloc _) rfl (U64s.one _ _ _ ?_) ?_ ?_ ?_)
          · omega
          · omega
          · simp; omega
          intro a2 c2 w' ho2 hb2 _
          have HO2 := Lib.hid ho2; have HB2 := Lib.hid ((HB3.out.alloc hs3 _).trans hb2); clear ho2 hb2
          go_wp2
          go_roundw
          case rel => exact ⟨i + 1, by omega, by go_num, a2, c2, _, _, by rfl, rfl, HO2.out, HB2.out, limbs_append HR3.out (limbs_one (by omega)), by omega, over_small o3 i x z0 HZ.out, over_step r3 (k + i) o3 _ hlen3.out HV3.out⟩
          case measure => simp [intOf]; omega
        · obtain rfl : i = 4 := by omega
          have hz : o3 = 0 := by
            have := HZ.out
            have e : (65536 : Int) ^ 4 = 18446744073709551616 := by decide
            rw [e] at this
            omega
          have hfin : val r3 = val l * x := by
            have := HV3.out
            rw [hz] at this
            simpa using this
          have HF := Lib.hid hfin; clear hfin hz
          go_wp2
          go_ret
          exact ⟨a3, c3, r3, rfl, HO3.out, HB3.out, HR3.out, HF.out⟩

end Go.Proofs.Ytejhncdempfmjaa.rs

/-
  Contracts of the document's great numbers of layer 2: powers, comparisons, shifted numbers.
-/
namespace Go.Proofs.Ytejhncdempfmjaa.rs
open Go.ChangeShapes Go.WideShapes Go.ChangeAt Go.RowKit
open bs
set_option linter.unusedVariables false

def PRel (w : World) (x : Int) (i : Nat) (out : Value) (wr : World) : Prop :=
  ∃ (a : Option Addr) (n c : Nat) (r : List Int), out = .slice a n c ∧ n = 1 + 4 * i ∧ OwnU wr w.heap.size 24 a n c r ∧ Below w.heap.size w wr ∧ Limbs r ∧ val r = x ^ i
def ZRel (w : World) (v : Int) (out : Value) (wr : World) : Prop :=
  ∃ (a : Option Addr) (n c : Nat) (r : List Int), out = .slice a n c ∧ n ≤ 20 ∧ OwnU wr w.heap.size 24 a n c r ∧ Below w.heap.size w wr ∧ Limbs r ∧ val r = v
def lenOf : Value → Nat | .slice _ n _ => n | _ => 0

set_option maxRecDepth 100000 in
set_option maxHeartbeats 1000000 in
theorem power_any (x : Int) (m : Nat) (w : World) (x0 : 0 ≤ x) (x1 : x ≤ 4398046511104) (hm : m ≤ 4) :
    Calls Try.prog 119 #[.int .u64 x, .int .i64 m] w (LPost w (x ^ m) 20) := by
  go_enter Try.func119, Try.ntmps119
  go_wp2
  go_loopw [5, 6] (fun out i wr => ∃ k : Nat, k ≤ m ∧ i = .int .i64 k ∧ PRel w x k out wr) (fun _ i _ => m - (intOf i).toNat)
  case atStart => exact ⟨0, by omega, rfl, _, 1, 1, [1], rfl, rfl, OwnU.made _ _ _ [1] _ rfl (Nat.le_refl _) (by simp [maxLen]) (by simp [AllU]), (Below.refl _ _).alloc (Nat.le_refl _) _, by simp [Limbs], by simp [val]⟩
  case round =>
    obtain ⟨k, hk, rfl, a1, n1, c1, r, rfl, hn1, ho, hb, hr, hv⟩ := hrel
    have hn1' : n1 ≤ 1000 := by omega
    have HN := Lib.hid hn1; clear hn1
    have HO := Lib.hid ho; have HB := Lib.hid hb; have HR := Lib.hid hr; have HV := Lib.hid hv
    have hs := hb.size
    clear ho hb hr hv
    by_cases hkm : k < m
    · go_wp2_with fail
      refine (times_any a1 n1 c1 r x wr HO.out.reads HR.out hn1' x0 x1).mono ?_
      rintro e w' ⟨a2, c2, r2, rfl, ho2, hb2, hr2, hv2⟩
      have HO2 := Lib.hid (ho2.mono hs); have HB2 := Lib.hid (HB.out.trans (hb2.mono hs)); have HR2 := Lib.hid hr2; have HV2 := Lib.hid hv2; clear ho2 hb2 hr2 hv2
      go_wp2
      go_roundw
      case rel => exact ⟨k + 1, by omega, by go_num, a2, n1 + 4, c2, r2, rfl, by have := HN.out; omega, HO2.out, HB2.out, HR2.out, by rw [HV2.out, HV.out, Int.pow_succ]⟩
      case measure => simp [intOf]; omega
    · obtain rfl : k = m := by omega
      have hn20 : n1 ≤ 20 := by have := HN.out; omega
      go_wp2
      go_loopw [5] (fun out wr => ZRel w (x ^ k) out wr) (fun out _ => 20 - lenOf out)
      case atStart => exact ⟨a1, n1, c1, r, rfl, hn20, HO.out, HB.out, HR.out, HV.out⟩
      case round =>
        obtain ⟨a3, n3, c3, r3, rfl, hn3, ho3, hb3, hr3, hv3⟩ := hrel
        have HO3 := Lib.hid ho3; have HB3 := Lib.hid hb3; have HR3 := Lib.hid hr3; have HV3 := Lib.hid hv3
        have hs3 := hb3.size
        clear ho3 hb3 hr3 hv3
        by_cases h20 : n3 < 20
        · go_wp2_with (at_builtin; refine wpList_append_U u64T rfl _ _ rfl w.heap.size rfl (HO3.out.alloc _) rfl (U64s.one _ _ _ ?_) ?_ ?_ ?_)
          · omega
          · omega
          · simp; omega
          intro a2 c2 w' ho2 hb2 _
          have HO2 := Lib.hid ho2; have HB2 := Lib.hid ((HB3.out.alloc hs3 _).trans hb2); clear ho2 hb2
          go_wp2
          go_roundw
          case rel => exact ⟨a2, n3 + 1, c2, _, rfl, by omega, HO2.out, HB2.out, limbs_append HR3.out (limbs_one (by omega)), by rw [← HV3.out]; exact val_zeros r3 1⟩
          case measure => simp [lenOf]; omega
        · obtain rfl : n3 = 20 := by omega
          go_wp2
          go_ret
          exact ⟨a3, c3, r3, rfl, HO3.out, HB3.out, HR3.out, HV3.out⟩

theorem most_end (x y : List Int) (h : x.drop 0 = y.drop 0) : decide (val x ≤ val y) = true := by
  simp only [List.drop_zero] at h
  rw [h]
  simp

set_option maxRecDepth 100000 in
set_option maxHeartbeats 1000000 in
theorem most_any (a : Option Addr) (n c : Nat) (x : List Int) (a' : Option Addr) (n' c' : Nat) (y : List Int) (w : World) (h : U64s w a n c x) (h' : U64s w a' n' c' y) (hn : n = 20) (hn' : n' = 20) (lx : Limbs x) (ly : Limbs y) :
    Calls Try.prog 118 #[.slice a n c, .slice a' n' c'] w fun e w' => e = .returned (.bool (decide (val x ≤ val y))) ∧ ∃ m, w' = w.drewN m := by
  subst hn hn'
  obtain ⟨b, off, rfl, hc⟩ := h.at'.resolve_left (by omega)
  obtain ⟨b', off', rfl, hc'⟩ := h'.at'.resolve_left (by omega)
  have hm := h.most; have hm' := h'.most; have hk := h.cap; have hk' := h'.cap
  have X := Lib.hid h.len; have Y := Lib.hid h'.len
  have HC := Lib.hid hc; have HC' := Lib.hid hc'; have LX := Lib.hid lx; have LY := Lib.hid ly
  clear h h' hc hc' lx ly
  go_enter Try.func118, Try.ntmps118
  go_wp2
  go_loopw [5] (fun i wr => ∃ k m : Nat, k ≤ 20 ∧ i = .int .i64 ((k : Int) - 1) ∧ wr = w.drewN m ∧ Hid (x.drop k = y.drop k)) (fun i _ => (intOf i + 1).toNat)
  case atStart => exact ⟨20, 0, by omega, rfl, rfl, by show x.drop 20 = y.drop 20; rw [List.drop_of_length_le (by rw [X.out]; omega), List.drop_of_length_le (by rw [Y.out]; omega)]⟩
  case round =>
    obtain ⟨k, m, hk1, rfl, rfl, ht⟩ := hrel
    cases k with
    | zero =>
      have HF := Lib.hid (most_end x y ht.out)
      go_wp2
      go_ret
      exact ⟨by rw [HF.out]; rfl, m, rfl⟩
    | succ j =>
      have ix : ((j + 1 : Nat) : Int) - 1 = j := by omega
      rw [ix]
      clear ix
      have c1 := HC.out j (by omega)
      have c2 := HC'.out j (by omega)
      have jx : j < x.length := by rw [X.out]; omega
      have jy : j < y.length := by rw [Y.out]; omega
      have hcmp := Lib.hid (fun hne => cmp_at x y j LX.out LY.out jx jy ht.out hne)
      have hprd := Lib.hid (fun he => drop_eq_pred jx jy ht.out he)
      clear jx jy
      obtain ⟨p, hp⟩ : ∃ p, x.getD j 0 = p := ⟨_, rfl⟩
      obtain ⟨q, hq⟩ : ∃ q, y.getD j 0 = q := ⟨_, rfl⟩
      rw [hp] at c1 hcmp hprd
      rw [hq] at c2 hcmp hprd
      clear hp hq
      by_cases hd : p = q
      · subst hd
        have hbq : (p != p) = false := by simp
        have hpr := Lib.hid (hprd.out rfl)
        go_wp2_with fail
        go_quiet (fail)
        go_wp2
        go_roundw
        case rel => exact ⟨j, _, by omega, rfl, rfl, hpr.out⟩
        case measure => simp [intOf]
      · have hbq : (p != q) = true := by rw [bne_iff_ne]; exact hd
        have hpr : decide (val x ≤ val y) = decide (p < q) := by rw [decide_eq_decide]; exact hcmp.out hd
        have HPR := Lib.hid hpr
        have HD := Lib.hid hd
        clear hd hpr
        go_wp2_with fail
        go_quiet (fail)
        go_wp2_with fail
        go_quiet (fail)
        go_wp2
        go_ret
        exact ⟨by rw [HPR.out]; rfl, by simp only [World.drewN_drewN]; exact ⟨_, rfl⟩⟩

/-! ### shifted numbers -/
theorem clip_any (p : Int) (w : World) (h0 : -9223372036854775808 ≤ p) (h1 : p ≤ 9223372036854775807) :
    Calls Try.prog 117 #[.int .i64 p] w fun e w' => e = .returned (.int .u64 (clip p)) ∧ w = w' := by
  have hc : (clip p : Int) = min (max p 0) 65536 := by unfold clip; omega
  have HC := Lib.hid hc; clear hc
  by_cases a0 : p < 0
  · go_enter Try.func117, Try.ntmps117
    go_wp2
    go_ret
    exact ⟨by rw [HC.out]; rw [show min (max p 0) 65536 = 0 by omega]; rfl, rfl⟩
  · by_cases a1 : 65536 < p
    · go_enter Try.func117, Try.ntmps117
      go_wp2
      go_ret
      exact ⟨by rw [HC.out]; rw [show min (max p 0) 65536 = 65536 by omega]; rfl, rfl⟩
    · go_enter Try.func117, Try.ntmps117
      go_wp2
      go_ret
      exact ⟨by rw [HC.out]; rw [show min (max p 0) 65536 = p by omega]; rfl, rfl⟩

/-- A number with so many parts 0 ahead. -/
def shv (v : Int) (k : Nat) : Int := v * 65536 ^ k

theorem shifted_limbs4 (v : Int) (v0 : 0 ≤ v) (v1 : v ≤ 65536) : Limbs (((List.replicate 20 0).set 4 (v % 65536)).set 5 (v / 65536)) := by
  intro x hx
  rcases List.mem_or_eq_of_mem_set hx with h | h
  · rcases List.mem_or_eq_of_mem_set h with h | h
    · have := List.eq_of_mem_replicate h; omega
    · omega
  · omega
theorem shifted_val4 (v : Int) (v0 : 0 ≤ v) (v1 : v ≤ 65536) : val (((List.replicate 20 0).set 4 (v % 65536)).set 5 (v / 65536)) = shv v 4 := by
  simp only [List.replicate_succ, List.replicate_zero, List.set_cons_succ, List.set_cons_zero, val, shv]
  omega

theorem shifted_limbs6 (v : Int) (v0 : 0 ≤ v) (v1 : v ≤ 65536) : Limbs (((List.replicate 20 0).set 6 (v % 65536)).set 7 (v / 65536)) := by
  intro x hx
  rcases List.mem_or_eq_of_mem_set hx with h | h
  · rcases List.mem_or_eq_of_mem_set h with h | h
    · have := List.eq_of_mem_replicate h; omega
    · omega
  · omega
theorem shifted_val6 (v : Int) (v0 : 0 ≤ v) (v1 : v ≤ 65536) : val (((List.replicate 20 0).set 6 (v % 65536)).set 7 (v / 65536)) = shv v 6 := by
  simp only [List.replicate_succ, List.replicate_zero, List.set_cons_succ, List.set_cons_zero, val, shv]
  omega

set_option maxRecDepth 100000 in
set_option maxHeartbeats 1000000 in
theorem shifted4 (v : Int) (w : World) (v0 : 0 ≤ v) (v1 : v ≤ 65536) :
    Calls Try.prog 116 #[.int .u64 v, .int .i64 4] w (LPost w (shv v 4) 20) := by
  go_enter Try.func116, Try.ntmps116
  go_wp2_with (at_make; refine wpList_make_U u64T rfl _ _ rfl w.heap.size .i64 .i64 20 20 20 rfl rfl rfl rfl ?_ ?_ ?_)
  · omega
  · exact Nat.le_refl _
  intro w1 ho hb hsz
  have c4 := ho.cellAt 4 (by omega)
  have f4 := ho.frozenAt 4
  have c5 := ho.cellAt 5 (by omega)
  have f5 := ho.frozenAt 5
  have HO := Lib.hid (((ho.stored 4 (v % 65536) (by omega)).stored 5 (v / 65536) (by omega)))
  have HB := Lib.hid ((hb.setCell (p := ⟨w.heap.size, 4, none⟩) (Nat.le_refl _) (.int .u64 (v % 65536))).setCell (p := ⟨w.heap.size, 5, none⟩) (Nat.le_refl _) (.int .u64 (v / 65536)))
  clear ho hb
  go_wp2
  go_ret
  exact ⟨_, _, _, rfl, HO.out, HB.out, shifted_limbs4 v v0 v1, shifted_val4 v v0 v1⟩

set_option maxRecDepth 100000 in
set_option maxHeartbeats 1000000 in
theorem shifted6 (v : Int) (w : World) (v0 : 0 ≤ v) (v1 : v ≤ 65536) :
    Calls Try.prog 116 #[.int .u64 v, .int .i64 6] w (LPost w (shv v 6) 20) := by
  go_enter Try.func116, Try.ntmps116
  go_wp2_with (at_make; refine wpList_make_U u64T rfl _ _ rfl w.heap.size .i64 .i64 20 20 20 rfl rfl rfl rfl ?_ ?_ ?_)
  · omega
  · exact Nat.le_refl _
  intro w1 ho hb hsz
  have c4 := ho.cellAt 6 (by omega)
  have f4 := ho.frozenAt 6
  have c5 := ho.cellAt 7 (by omega)
  have f5 := ho.frozenAt 7
  have HO := Lib.hid (((ho.stored 6 (v % 65536) (by omega)).stored 7 (v / 65536) (by omega)))
  have HB := Lib.hid ((hb.setCell (p := ⟨w.heap.size, 6, none⟩) (Nat.le_refl _) (.int .u64 (v % 65536))).setCell (p := ⟨w.heap.size, 7, none⟩) (Nat.le_refl _) (.int .u64 (v / 65536)))
  clear ho hb
  go_wp2
  go_ret
  exact ⟨_, _, _, rfl, HO.out, HB.out, shifted_limbs6 v v0 v1, shifted_val6 v v0 v1⟩

end Go.Proofs.Ytejhncdempfmjaa.rs

/-
  Plain facts on small primes.
-/
namespace Go.Proofs.Ytejhncdempfmjaa.rs
set_option linter.unusedVariables false

/-- Is a number divided by none from 2 on, below itself? (By definition, for small ones.) -/
def isP (n : Nat) : Bool := decide (2 ≤ n) && (List.range n).all fun d => decide (d < 2) || n % d != 0
/-- The primes below p, as the program gathers them. -/
def pl : Nat → List Int
  | 0 => []
  | p + 1 => if isP p then pl p ++ [(p : Int)] else pl p
theorem pl_add (p : Nat) : pl (p + 1) = if isP p then pl p ++ [(p : Int)] else pl p := rfl
/-- Is a number divided by none of a list? -/
def noneOf (p : Int) (l : List Int) : Bool := l.all fun q => p % q != 0
/-- The document's trial. -/
def trial (n : Nat) : Nat → Nat → Bool
  | 0, _ => true
  | f + 1, k => if n < k * k then true else if n % k = 0 then false else trial n f (k + 1)

theorem pl_all : ∀ p : Fin 600, 2 ≤ p.val → noneOf (p.val : Int) (pl p.val) = isP p.val := by decide +kernel
theorem trial_all : ∀ p : Fin 600, 2 ≤ p.val → trial p.val 30 2 = isP p.val := by decide +kernel
theorem pl_542 : (pl 542).length = 100 := by decide +kernel
theorem pl_3 : (pl 6).length = 3 := by decide +kernel

theorem pl_mono (p : Nat) : ∀ k, (pl p).length ≤ (pl (p + k)).length
  | 0 => Nat.le_refl _
  | k + 1 => by
    have h := pl_mono p k
    rw [← Nat.add_assoc, pl_add]
    split
    · simp; omega
    · exact h
theorem pl_lt {p : Nat} (h : (pl p).length < 100) : p < 542 := by
  apply Classical.byContradiction
  intro hn
  have h2 := pl_mono 542 (p - 542)
  rw [show 542 + (p - 542) = p by omega, pl_542] at h2
  omega
theorem pl_bd (p : Nat) : ∀ q ∈ pl p, 2 ≤ q ∧ q < p := by
  induction p with
  | zero => intro q hq; simp [pl] at hq
  | succ k ih =>
    intro q hq
    rw [pl_add] at hq
    split at hq
    · rename_i h
      rcases List.mem_append.1 hq with h1 | h1
      · have := ih q h1; omega
      · simp at h1
        subst h1
        have : 2 ≤ k := by unfold isP at h; simp at h; exact h.1
        omega
    · have := ih q hq; omega
theorem pl_prefix (p : Nat) : ∀ k, ∃ r, pl (p + k) = pl p ++ r
  | 0 => ⟨[], by simp⟩
  | k + 1 => by
    obtain ⟨r, hr⟩ := pl_prefix p k
    rw [← Nat.add_assoc, pl_add]
    split
    · exact ⟨r ++ [((p + k : Nat) : Int)], by rw [hr, List.append_assoc]⟩
    · exact ⟨r, hr⟩
/-- Lists of as many primes are the same one. -/
theorem pl_eq {p q : Nat} (h : (pl p).length = (pl q).length) : pl p = pl q := by
  rcases Nat.le_total p q with hpq | hpq
  · obtain ⟨r, hr⟩ := pl_prefix p (q - p)
    rw [show p + (q - p) = q by omega] at hr
    rw [hr, List.length_append] at h
    have : r = [] := List.eq_nil_of_length_eq_zero (by omega)
    rw [hr, this, List.append_nil]
  · obtain ⟨r, hr⟩ := pl_prefix q (p - q)
    rw [show q + (p - q) = p by omega] at hr
    rw [hr, List.length_append] at h
    have : r = [] := List.eq_nil_of_length_eq_zero (by omega)
    rw [hr, this, List.append_nil]
theorem pl_succ (p : Nat) (b : Bool) (h : isP p = b) : pl (p + 1) = if b then pl p ++ [(p : Int)] else pl p := by subst h; rfl


end Go.Proofs.Ytejhncdempfmjaa.rs

/-
  Layer 2's primes: plain facts, and the contracts of both lists of primes.
-/
namespace Go.Proofs.Ytejhncdempfmjaa.rs
open Go.ChangeShapes Go.WideShapes Go.ChangeAt Go.RowKit
open bs
set_option linter.unusedVariables false

/-- How many primes are asked for. -/
def cnt (n : Int) : Nat := (min (max n 0) 100).toNat
theorem cnt_le (n : Int) : cnt n ≤ 100 := by unfold cnt; omega
theorem cnt_cast (n : Int) : (min (max n 0) 100 : Int) = (cnt n : Int) := by unfold cnt; omega

theorem i64T : I64T Try.prog 131 3 := ⟨Try.underlying131, by kernel_rfl⟩

theorem noneOf_take (p : Int) (l : List Int) (k : Nat) (hk : k < l.length) (h : noneOf p (l.take k) = true) : noneOf p (l.take (k + 1)) = (p % l.getD k 0 != 0) := by
  unfold noneOf at *
  rw [List.take_add_one, List.getElem?_eq_getElem hk, List.getD_eq_getElem?_getD, List.getElem?_eq_getElem hk]
  simp only [Option.toList, List.all_append, h, Bool.true_and, List.all_cons, List.all_nil, Bool.and_true, Option.getD_some]
theorem noneOf_false (p : Int) (l : List Int) (k : Nat) (hk : k < l.length) (h : p % l.getD k 0 = 0) : noneOf p l = false := by
  unfold noneOf
  rw [List.all_eq_false]
  refine ⟨l[k], List.getElem_mem hk, ?_⟩
  rw [List.getD_eq_getElem?_getD, List.getElem?_eq_getElem hk] at h
  simp only [Option.getD_some] at h
  simp [h]

set_option maxHeartbeats 1000000 in
theorem isPrime_any (p : Int) (a : Option Addr) (n c : Nat) (l : List Int) (w : World) (h : I64s w a n c l) (hp : 0 ≤ p) (hp2 : p ≤ 1000) (hl : ∀ q ∈ l, 2 ≤ q ∧ q ≤ 1000) :
    Calls Try.prog 103 #[.int .i64 p, .slice a n c] w fun e w' => e = .returned (.bool (noneOf p l)) ∧ w = w' := by
  have hm := h.most
  have hk := h.cap
  have hlen := Lib.hid h.len
  have HL := Lib.hid hl; clear hl
  have HX := Lib.hid h; clear h
  go_enter Try.func103, Try.ntmps103
  go_wp2
  go_loop [9] (fun i => ∃ k : Nat, k ≤ n ∧ i = .int .i64 k ∧ Hid (noneOf p (l.take k) = true)) (fun i => n - (intOf i).toNat)
  case atStart => exact ⟨0, by omega, rfl, by show noneOf p (l.take 0) = true; simp [noneOf]⟩
  case round =>
    obtain ⟨k, hk1, rfl, ht⟩ := hrel
    by_cases hkn : k < n
    · obtain ⟨b, off, rfl, hc⟩ := HX.out.at'.resolve_left (by omega)
      have c1 := hc k hkn
      have hlk : k < l.length := by rw [hlen.out]; exact hkn
      have hq := HL.out (l.getD k 0) (by rw [List.getD_eq_getElem?_getD, List.getElem?_eq_getElem hlk]; exact List.getElem_mem hlk)
      have hstep := noneOf_take p l k hlk ht.out
      have hfal := noneOf_false p l k hlk
      have HLK := Lib.hid hlk
      clear hc hlk
      obtain ⟨q, hqe⟩ : ∃ q, l.getD k 0 = q := ⟨_, rfl⟩
      rw [hqe] at c1 hq hstep hfal
      obtain ⟨q0, q1⟩ := hq
      have HS := Lib.hid hstep; have HF := Lib.hid hfal
      clear hstep hfal hqe
      by_cases hz : p % q = 0
      · have hb : (p % q == 0) = true := by simpa using hz
        have HZ := Lib.hid hz; clear hz
        go_wp2
        go_ret
        exact ⟨ret_bool (HF.out HZ.out).symm, rfl⟩
      · have hb : (p % q == 0) = false := by simpa using hz
        have HZ := Lib.hid hz; clear hz
        go_wp2
        go_round
        case rel => exact ⟨k + 1, by omega, by go_num, by show noneOf p (l.take (k + 1)) = true; rw [HS.out, bne_iff_ne]; exact HZ.out⟩
        case measure => simp [intOf]; omega
    · obtain rfl : k = n := by omega
      go_wp2
      go_ret
      have e := ht.out
      rw [List.take_of_length_le (by rw [hlen.out]; omega)] at e
      exact ⟨ret_bool e.symm, rfl⟩

theorem trial_step (n f k : Nat) (h1 : ¬ n < k * k) (h2 : ¬ n % k = 0) : trial n (f + 1) k = trial n f (k + 1) := by
  simp only [trial, if_neg h1, if_neg h2]
theorem trial_end (n f k : Nat) (h1 : n < k * k) : trial n f k = true := by
  cases f with
  | zero => rfl
  | succ f => simp only [trial, if_pos h1]
theorem trial_no (n f k : Nat) (h1 : ¬ n < k * k) (h2 : n % k = 0) : trial n (f + 1) k = false := by
  simp only [trial, if_neg h1, if_pos h2]

set_option maxHeartbeats 1000000 in
theorem rprime_any (n : Nat) (w : World) (h0 : 2 ≤ n) (h1 : n < 600) :
    Calls Try.prog 115 #[.int .i64 n] w fun e w' => e = .returned (.bool (isP n)) ∧ w = w' := by
  have HT := Lib.hid (trial_all ⟨n, h1⟩ h0)
  have d1 : decide (1 < n) = true := decide_eq_true (by omega)
  have d2 : decide ((1 : Int) < (n : Int)) = true := decide_eq_true (by omega)
  go_enter Try.func115, Try.ntmps115
  go_wp2
  go_loop [3] (fun i => ∃ k f : Nat, 2 ≤ k ∧ k + f = 32 ∧ i = .int .i64 k ∧ Hid (trial n f k = isP n)) (fun i => (32 - intOf i).toNat)
  case atStart => exact ⟨2, 30, by omega, by omega, rfl, HT.out⟩
  case round =>
    obtain ⟨k, f, hk, hf, rfl, ht⟩ := hrel
    have HF := Lib.hid hf
    have hk32 : k ≤ 32 := by omega
    clear hf
    have hkk : k * k ≤ 1024 := Nat.mul_le_mul hk32 hk32
    have hcast : (k : Int) * k = ((k * k : Nat) : Int) := by push_cast; rfl
    by_cases hend : n < k * k
    · have hd : decide ((k : Int) * k ≤ n) = false := decide_eq_false (by rw [hcast]; omega)
      have he : isP n = true := by rw [← ht.out]; exact trial_end n f k hend
      have HE := Lib.hid he
      clear hcast he
      go_wp2
      go_ret
      exact ⟨ret_bool HE.out.symm, rfl⟩
    · have hd : decide ((k : Int) * k ≤ n) = true := decide_eq_true (by rw [hcast]; omega)
      have hk31 : k ≤ 24 := by
        apply Classical.byContradiction
        intro hn
        have : 25 * 25 ≤ k * k := Nat.mul_le_mul (by omega) (by omega)
        omega
      obtain ⟨g, rfl⟩ : ∃ g, f = g + 1 := ⟨f - 1, by have := HF.out; omega⟩
      by_cases hz : n % k = 0
      · have hb : ((n : Int) % k == 0) = true := by rw [beq_iff_eq]; omega
        have he : isP n = false := by rw [← ht.out]; exact trial_no n g k hend hz
        have HE := Lib.hid he
        clear hcast he hz
        go_wp2
        go_ret
        exact ⟨ret_bool HE.out.symm, rfl⟩
      · have hb : ((n : Int) % k == 0) = false := by rw [beq_eq_false_iff_ne]; omega
        have he : trial n g (k + 1) = isP n := by rw [← ht.out, trial_step n g k hend hz]
        have HE := Lib.hid he
        clear hcast he hz
        go_wp2
        go_round
        case rel => exact ⟨k + 1, g, by omega, by have := HF.out; omega, by go_num, HE.out⟩
        case measure => simp [intOf]; omega


def NPost (w : World) (n : Int) (e : Ending) (w' : World) : Prop :=
  ∃ (a : Option Addr) (c p : Nat), e = .returned (.slice a (cnt n) c) ∧ OwnI w' w.heap.size 3 a (cnt n) c (pl p) ∧ Below w.heap.size w w' ∧ (pl p).length = cnt n
def NRel (w : World) (n : Int) (out x : Value) (wr : World) : Prop :=
  ∃ (a : Option Addr) (m c p : Nat), out = .slice a m c ∧ x = .int .i64 p ∧ OwnI wr w.heap.size 3 a m c (pl p) ∧ Below w.heap.size w wr ∧ (pl p).length = m ∧ m ≤ cnt n ∧ 2 ≤ p ∧ p ≤ 542

theorem pl_yes {p : Nat} (h : isP p = true) : pl (p + 1) = pl p ++ [(p : Int)] := by rw [pl_add, h]; rfl
theorem pl_no {p : Nat} (h : isP p = false) : pl (p + 1) = pl p := by rw [pl_add, h]; rfl
theorem pl_two : pl 2 = [] := by decide +kernel

set_option maxHeartbeats 1000000 in
theorem primes_any (n : Int) (w : World) (h0 : -9223372036854775808 ≤ n) (h1 : n ≤ 9223372036854775807) :
    Calls Try.prog 93 #[.int .i64 n] w (NPost w n) := by
  have hc := cnt_le n
  go_enter Try.func93, Try.ntmps93
  go_wp2
  go_loopw [3, 4] (fun out x wr => NRel w n out x wr) (fun _ x _ => (542 - intOf x).toNat)
  case atStart => exact ⟨none, 0, 0, 2, rfl, rfl, by rw [pl_two]; exact OwnI.nil _ _ _, Below.refl _ _, by rw [pl_two]; rfl, by omega, by omega, by omega⟩
  case round =>
    obtain ⟨a, m, c, p, rfl, rfl, ho, hb, hl, hm, hp2, hp⟩ := hrel
    have HO := Lib.hid ho; have HB := Lib.hid hb; have HL := Lib.hid hl
    have hs := hb.size
    clear ho hb hl
    go_wp2_with fail
    refine (clamp_any n 100 _ h0 h1 (by omega) (by omega)).mono ?_
    rintro e w' ⟨rfl, rfl⟩
    rw [cnt_cast]
    by_cases hmc : m < cnt n
    · have hp3 : p < 542 := pl_lt (by rw [HL.out]; omega)
      have hbd : ∀ q ∈ pl p, 2 ≤ q ∧ q ≤ 1000 := fun q hq => by have := pl_bd p q hq; omega
      have hdec : noneOf (p : Int) (pl p) = isP p := pl_all ⟨p, by omega⟩ hp2
      have HBD := Lib.hid hbd; have HD := Lib.hid hdec; clear hbd hdec
      go_wp2_with fail
      refine (isPrime_any p a m c (pl p) _ HO.out.reads (by omega) (by omega) HBD.out).mono ?_
      rintro e w' ⟨rfl, rfl⟩
      rw [HD.out]
      rcases Bool.eq_false_or_eq_true (isP p) with hP | hP
      · rw [hP]
        have hsucc := pl_yes hP
        have HS := Lib.hid hsucc; clear hsucc hP
        go_wp2_with (at_builtin; refine wpList_append_I i64T rfl _ _ rfl w.heap.size rfl (HO.out.alloc _) rfl (I64s.one _ _ _ ?_) ?_ ?_ ?_)
        · omega
        · omega
        · (try simp); omega
        intro a2 c2 w2 ho2 hb2 _
        have HO2 := Lib.hid ho2; have HB2 := Lib.hid ((HB.out.alloc hs _).trans hb2); clear ho2 hb2
        go_wp2
        go_roundw
        case rel => exact ⟨a2, m + 1, c2, p + 1, rfl, by go_num, by rw [HS.out]; exact HO2.out, HB2.out, by rw [HS.out, List.length_append, HL.out]; rfl, by omega, by omega, by omega⟩
        case measure => simp [intOf]; omega
      · rw [hP]
        have hsucc := pl_no hP
        have HS := Lib.hid hsucc; clear hsucc hP
        go_wp2
        go_roundw
        case rel => exact ⟨a, m, c, p + 1, rfl, by go_num, by rw [HS.out]; exact HO.out, HB.out, by rw [HS.out]; exact HL.out, by omega, by omega, by omega⟩
        case measure => simp [intOf]; omega
    · obtain rfl : m = cnt n := by omega
      go_wp2
      go_ret
      exact ⟨a, c, p, rfl, HO.out, HB.out, HL.out⟩


set_option maxHeartbeats 1000000 in
theorem rprimes_any (n : Int) (w : World) (h0 : -9223372036854775808 ≤ n) (h1 : n ≤ 9223372036854775807) :
    Calls Try.prog 110 #[.int .i64 n] w (NPost w n) := by
  have hc := cnt_le n
  have hcn : (cnt n : Int) = min (max n 0) 100 := (cnt_cast n).symm
  go_enter Try.func110, Try.ntmps110
  go_wp2
  go_loopw [3, 4] (fun out x wr => NRel w n out x wr) (fun _ x _ => (542 - intOf x).toNat)
  case atStart => exact ⟨_, 0, 0, 2, rfl, rfl, by rw [pl_two]; exact OwnI.made _ _ _ [] _ rfl (Nat.le_refl _) (by simp [maxLen]) (by simp [AllI]), (Below.refl _ _).alloc (Nat.le_refl _) _, by rw [pl_two]; rfl, by omega, by omega, by omega⟩
  case round =>
    obtain ⟨a, m, c, p, rfl, rfl, ho, hb, hl, hm, hp2, hp⟩ := hrel
    have HO := Lib.hid ho; have HB := Lib.hid hb; have HL := Lib.hid hl
    have hs := hb.size
    clear ho hb hl
    have d0 : decide ((p : Int) < 600) = true := decide_eq_true (by omega)
    by_cases hmc : m < cnt n
    · have d1 : decide ((m : Int) < n) = true := decide_eq_true (by omega)
      have d2 : decide ((m : Int) < 100) = true := decide_eq_true (by omega)
      have hp3 : p < 542 := pl_lt (by rw [HL.out]; omega)
      have HC := Lib.hid hcn; clear hcn
      go_wp2_with fail
      refine (rprime_any p _ hp2 (by omega)).mono ?_
      rintro e w' ⟨rfl, rfl⟩
      rcases Bool.eq_false_or_eq_true (isP p) with hP | hP
      · rw [hP]
        have hsucc := pl_yes hP
        have HS := Lib.hid hsucc; clear hsucc hP
        go_wp2_with (at_builtin; refine wpList_append_I i64T rfl _ _ rfl w.heap.size rfl (HO.out.alloc _) rfl (I64s.one _ _ _ ?_) ?_ ?_ ?_)
        · omega
        · omega
        · (try simp); omega
        intro a2 c2 w2 ho2 hb2 _
        have HO2 := Lib.hid ho2; have HB2 := Lib.hid ((HB.out.alloc hs _).trans hb2); clear ho2 hb2
        go_wp2
        go_roundw
        case rel => exact ⟨a2, m + 1, c2, p + 1, rfl, by go_num, by rw [HS.out]; exact HO2.out, HB2.out, by rw [HS.out, List.length_append, HL.out]; rfl, by omega, by omega, by omega⟩
        case measure => simp [intOf]; omega
      · rw [hP]
        have hsucc := pl_no hP
        have HS := Lib.hid hsucc; clear hsucc hP
        go_wp2
        go_roundw
        case rel => exact ⟨a, m, c, p + 1, rfl, by go_num, by rw [HS.out]; exact HO.out, HB.out, by rw [HS.out]; exact HL.out, by omega, by omega, by omega⟩
        case measure => simp [intOf]; omega
    · obtain rfl : m = cnt n := by omega
      by_cases hn : (cnt n : Int) < n
      · have d1 : decide (((cnt n : Nat) : Int) < n) = true := decide_eq_true hn
        have d2 : decide (((cnt n : Nat) : Int) < 100) = false := decide_eq_false (by omega)
        have HC := Lib.hid hcn; clear hcn
        go_wp2
        go_ret
        exact ⟨a, c, p, rfl, HO.out, HB.out, HL.out⟩
      · have d1 : decide (((cnt n : Nat) : Int) < n) = false := decide_eq_false hn
        have HC := Lib.hid hcn; clear hcn
        go_wp2
        go_ret
        exact ⟨a, c, p, rfl, HO.out, HB.out, HL.out⟩

theorem sq_mono {p q : Int} (h : p ≤ q) : sq p ≤ sq q := by
  have h1 := (sq_ok p).1
  have h2 := (sq_ok q).2.1
  have hc : clip p ≤ clip q := by unfold clip; omega
  apply Classical.byContradiction
  intro hn
  have : (sq q + 1) * (sq q + 1) ≤ sq p * sq p := Nat.mul_le_mul (by omega) (by omega)
  omega
theorem cu_mono {p q : Int} (h : p ≤ q) : cu p ≤ cu q := by
  have h1 := (cu_ok p).1
  have h2 := (cu_ok q).2.1
  have hc : clip p ≤ clip q := by unfold clip; omega
  apply Classical.byContradiction
  intro hn
  have : (cu q + 1) * (cu q + 1) * (cu q + 1) ≤ cu p * cu p * cu p := Nat.mul_le_mul (Nat.mul_le_mul (by omega) (by omega)) (by omega)
  omega

end Go.Proofs.Ytejhncdempfmjaa.rs

/-
  The contract of the document's roots of layer 2.
-/
namespace Go.Proofs.Ytejhncdempfmjaa.rs
open Go.ChangeShapes Go.WideShapes Go.ChangeAt Go.RowKit
open bs
set_option linter.unusedVariables false

theorem pow3 (y : Nat) : ((y : Nat) : Int) ^ 3 = ((y * y * y : Nat) : Int) := by
  push_cast; rw [Int.pow_succ, Int.pow_succ, Int.pow_succ, Int.pow_zero, Int.one_mul]
theorem cu_dec (n y : Nat) : decide (((y : Nat) : Int) ^ 3 ≤ shv n 6) = cuB n y := by
  unfold cuB shv
  rw [pow3, decide_eq_decide]
  omega
theorem cu_uniq (n r s : Nat) (h1 : cuB n r = true) (h2 : cuB n (r + 1) = false) (g1 : cuB n s = true) (g2 : cuB n (s + 1) = false) : r = s := by
  simp only [cuB, decide_eq_true_eq, decide_eq_false_iff_not, Nat.not_le] at h1 h2 g1 g2
  rcases Nat.lt_trichotomy r s with h | h | h
  · have := mul3_le (show r + 1 ≤ s by omega); omega
  · exact h
  · have := mul3_le (show s + 1 ≤ r by omega); omega
theorem cu_39 (p : Int) : srch (cuB (clip p)) 39 0 = cu p := by
  have hc := clip_le p
  have h := srch_ok (cuB (clip p)) 42 0 (by simp [cuB]) (by simp [cuB]; omega)
  have g := srch_ok (cuB (clip p)) 39 0 (by simp [cuB]) (by simp [cuB]; omega)
  exact cu_uniq _ _ _ g.1 g.2 h.1 h.2

def CRel (w : World) (B : Nat → Bool) (x unit : Value) (wr : World) : Prop := ∃ (j X : Nat), j ≤ 39 ∧ x = .int .u64 X ∧ unit = .int .u64 (bitv j) ∧ X + 2 ^ j ≤ 549755813888 ∧ srch B j X = srch B 39 0 ∧ Below w.heap.size w wr

theorem bitv_le39 (j : Nat) (hj : j ≤ 39) : bitv j ≤ 274877906944 := by
  cases j with
  | zero => simp [bitv]
  | succ k => exact Nat.pow_le_pow_right (by omega) (show k ≤ 38 by omega)

set_option maxRecDepth 100000 in
set_option maxHeartbeats 1000000 in
theorem root_any (p : Int) (w : World) (h0 : -9223372036854775808 ≤ p) (h1 : p ≤ 9223372036854775807) :
    Calls Try.prog 111 #[.int .i64 p, .int .i64 3] w fun e w' => e = .returned (.int .u64 (cu p)) ∧ Below w.heap.size w w' := by
  have hc := clip_le p
  have h39 := Lib.hid (cu_39 p)
  go_enter Try.func111, Try.ntmps111
  go_wp2_with fail
  refine (clip_any p _ h0 h1).mono ?_
  rintro e w' ⟨rfl, rfl⟩
  go_wp2_with fail
  refine (shifted6 (clip p) _ (by omega) (by omega)).mono ?_
  rintro e w2 ⟨a2, c2, r2, rfl, ho2, hb2, hr2, hv2⟩
  have O2 := Lib.hid ho2.reads; have B2 := Lib.hid hb2; have R2 := Lib.hid hr2; have V2 := Lib.hid hv2; clear ho2 hb2 hr2 hv2
  have s2 := B2.out.size
  go_wp2
  go_loopw [6, 7] (fun x unit wr => CRel w2 (cuB (clip p)) x unit wr) (fun _ unit _ => (intOf unit).toNat)
  case atStart => exact ⟨39, 0, by omega, rfl, rfl, by omega, rfl, Below.refl _ _⟩
  case round =>
    obtain ⟨j, X, hj, rfl, rfl, hX, hs, hb⟩ := hrel
    have HS := Lib.hid hs; have HB := Lib.hid hb; clear hs hb
    have sb := HB.out.size
    cases j with
    | zero =>
      have HW := Lib.hid (B2.out.trans (HB.out.mono s2))
      go_wp2
      go_ret
      exact ⟨ret_int (by rw [← h39.out, ← HS.out]; rfl), HW.out⟩
    | succ k =>
      have hb0 : 0 < bitv (k + 1) := Nat.two_pow_pos k
      have hb1 := bitv_le39 (k + 1) hj
      have hh := bitv_half k
      have hp : X + (bitv (k + 1) + bitv (k + 1)) ≤ 549755813888 := by simp only [bitv]; rw [Nat.pow_succ] at hX; omega
      have hx2 : X + bitv (k + 1) + 2 ^ k ≤ 549755813888 := by simp only [bitv]; rw [Nat.pow_succ] at hX; omega
      have hx3 : X + 2 ^ k ≤ 549755813888 := by rw [Nat.pow_succ] at hX; omega
      have hstep : srch (cuB (clip p)) (k + 1) X = if cuB (clip p) (X + bitv (k + 1)) then srch (cuB (clip p)) k (X + bitv (k + 1)) else srch (cuB (clip p)) k X := rfl
      have hdec := cu_dec (clip p) (X + bitv (k + 1))
      have HX2 := Lib.hid hx2; have HX3 := Lib.hid hx3; have HT := Lib.hid hstep; have HF := Lib.hid hh; have HD := Lib.hid hdec
      clear hX hstep hh hx2 hx3 hdec
      generalize bitv (k + 1) = T at hb0 hb1 hp HT HF HX2 HD ⊢
      have hbit : Value.int IntKind.u64 ((T : Int) / 2) = .int .u64 (bitv k) := by rw [← HF.out]; rfl
      have HBit := Lib.hid hbit; clear hbit
      go_wp2_with fail
      refine (power_any ((X : Int) + T) 3 _ (by omega) (by omega) (by omega)).mono ?_
      rintro e w3 ⟨a3, c3, r3, rfl, ho3, hb3, hr3, hv3⟩
      have O3 := Lib.hid ho3; have B3 := Lib.hid (HB.out.trans (hb3.mono sb)); have R3 := Lib.hid hr3; have V3 := Lib.hid hv3
      have O23 := Lib.hid (O2.out.below B3.out); clear ho3 hb3 hr3 hv3
      go_wp2_with fail
      refine (most_any _ _ _ r3 _ _ _ r2 _ O3.out.reads O23.out rfl rfl R3.out R2.out).mono ?_
      rintro e w4 ⟨rfl, m4, rfl⟩
      have hd := HD.out
      push_cast at hd
      rw [V3.out, V2.out, hd]
      clear hd
      have HB4 := Lib.hid (below_drewN B3.out m4)
      rcases Bool.eq_false_or_eq_true (cuB (clip p) (X + T)) with hB | hB
      · rw [hB]
        have HB' := Lib.hid hB; clear hB
        go_wp2
        go_roundw
        case rel => exact ⟨k, X + T, by omega, by go_num, HBit.out, HX2.out, by rw [← HS.out, HT.out, if_pos HB'.out], HB4.out⟩
        case measure => simp [intOf]; omega
      · rw [hB]
        have HB' := Lib.hid hB; clear hB
        go_wp2
        go_roundw
        case rel => exact ⟨k, X, by omega, rfl, HBit.out, HX3.out, by rw [← HS.out, HT.out, HB'.out]; rfl, HB4.out⟩
        case measure => simp [intOf]; omega

theorem pow2 (y : Nat) : ((y : Nat) : Int) ^ 2 = ((y * y : Nat) : Int) := by
  push_cast; rw [Int.pow_succ, Int.pow_succ, Int.pow_zero, Int.one_mul]
theorem sq_dec (n y : Nat) : decide (((y : Nat) : Int) ^ 2 ≤ shv n 4) = sqB n y := by
  unfold sqB shv
  rw [pow2, decide_eq_decide]
  omega
def QRel (w : World) (B : Nat → Bool) (x unit : Value) (wr : World) : Prop := ∃ (j X : Nat), j ≤ 42 ∧ x = .int .u64 X ∧ unit = .int .u64 (bitv j) ∧ X + 2 ^ j ≤ 4398046511104 ∧ srch B j X = srch B 42 0 ∧ Below w.heap.size w wr

set_option maxRecDepth 100000 in
set_option maxHeartbeats 1000000 in
theorem root2_any (p : Int) (w : World) (h0 : -9223372036854775808 ≤ p) (h1 : p ≤ 9223372036854775807) :
    Calls Try.prog 111 #[.int .i64 p, .int .i64 2] w fun e w' => e = .returned (.int .u64 (sq p)) ∧ Below w.heap.size w w' := by
  have hc := clip_le p
  have h39 := Lib.hid (show srch (sqB (clip p)) 42 0 = sq p from rfl)
  go_enter Try.func111, Try.ntmps111
  go_wp2_with fail
  refine (clip_any p _ h0 h1).mono ?_
  rintro e w' ⟨rfl, rfl⟩
  go_wp2_with fail
  refine (shifted4 (clip p) _ (by omega) (by omega)).mono ?_
  rintro e w2 ⟨a2, c2, r2, rfl, ho2, hb2, hr2, hv2⟩
  have O2 := Lib.hid ho2.reads; have B2 := Lib.hid hb2; have R2 := Lib.hid hr2; have V2 := Lib.hid hv2; clear ho2 hb2 hr2 hv2
  have s2 := B2.out.size
  go_wp2
  go_loopw [6, 7] (fun x unit wr => QRel w2 (sqB (clip p)) x unit wr) (fun _ unit _ => (intOf unit).toNat)
  case atStart => exact ⟨42, 0, by omega, rfl, rfl, by omega, rfl, Below.refl _ _⟩
  case round =>
    obtain ⟨j, X, hj, rfl, rfl, hX, hs, hb⟩ := hrel
    have HS := Lib.hid hs; have HB := Lib.hid hb; clear hs hb
    have sb := HB.out.size
    cases j with
    | zero =>
      have HW := Lib.hid (B2.out.trans (HB.out.mono s2))
      go_wp2
      go_ret
      exact ⟨ret_int (by rw [← h39.out, ← HS.out]; rfl), HW.out⟩
    | succ k =>
      have hb0 : 0 < bitv (k + 1) := Nat.two_pow_pos k
      have hb1 := bitv_le (k + 1) hj
      have hh := bitv_half k
      have hp : X + (bitv (k + 1) + bitv (k + 1)) ≤ 4398046511104 := by simp only [bitv]; rw [Nat.pow_succ] at hX; omega
      have hx2 : X + bitv (k + 1) + 2 ^ k ≤ 4398046511104 := by simp only [bitv]; rw [Nat.pow_succ] at hX; omega
      have hx3 : X + 2 ^ k ≤ 4398046511104 := by rw [Nat.pow_succ] at hX; omega
      have hstep : srch (sqB (clip p)) (k + 1) X = if sqB (clip p) (X + bitv (k + 1)) then srch (sqB (clip p)) k (X + bitv (k + 1)) else srch (sqB (clip p)) k X := rfl
      have hdec := sq_dec (clip p) (X + bitv (k + 1))
      have HX2 := Lib.hid hx2; have HX3 := Lib.hid hx3; have HT := Lib.hid hstep; have HF := Lib.hid hh; have HD := Lib.hid hdec
      clear hX hstep hh hx2 hx3 hdec
      generalize bitv (k + 1) = T at hb0 hb1 hp HT HF HX2 HD ⊢
      have hbit : Value.int IntKind.u64 ((T : Int) / 2) = .int .u64 (bitv k) := by rw [← HF.out]; rfl
      have HBit := Lib.hid hbit; clear hbit
      go_wp2_with fail
      refine (power_any ((X : Int) + T) 2 _ (by omega) (by omega) (by omega)).mono ?_
      rintro e w3 ⟨a3, c3, r3, rfl, ho3, hb3, hr3, hv3⟩
      have O3 := Lib.hid ho3; have B3 := Lib.hid (HB.out.trans (hb3.mono sb)); have R3 := Lib.hid hr3; have V3 := Lib.hid hv3
      have O23 := Lib.hid (O2.out.below B3.out); clear ho3 hb3 hr3 hv3
      go_wp2_with fail
      refine (most_any _ _ _ r3 _ _ _ r2 _ O3.out.reads O23.out rfl rfl R3.out R2.out).mono ?_
      rintro e w4 ⟨rfl, m4, rfl⟩
      have hd := HD.out
      push_cast at hd
      rw [V3.out, V2.out, hd]
      clear hd
      have HB4 := Lib.hid (below_drewN B3.out m4)
      rcases Bool.eq_false_or_eq_true (sqB (clip p) (X + T)) with hB | hB
      · rw [hB]
        have HB' := Lib.hid hB; clear hB
        go_wp2
        go_roundw
        case rel => exact ⟨k, X + T, by omega, by go_num, HBit.out, HX2.out, by rw [← HS.out, HT.out, if_pos HB'.out], HB4.out⟩
        case measure => simp [intOf]; omega
      · rw [hB]
        have HB' := Lib.hid hB; clear hB
        go_wp2
        go_roundw
        case rel => exact ⟨k, X, by omega, rfl, HBit.out, HX3.out, by rw [← HS.out, HT.out, HB'.out]; rfl, HB4.out⟩
        case measure => simp [intOf]; omega

end Go.Proofs.Ytejhncdempfmjaa.rs
