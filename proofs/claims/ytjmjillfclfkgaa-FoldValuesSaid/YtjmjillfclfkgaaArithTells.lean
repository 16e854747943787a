/-
  Contracts of the document's own answers of layer 20 (products by adding, quotients bit by bit), and the walk of the statement on all operators.
-/
import Derived.Test.YtjmjillfclfkgaaArithDiv
namespace Go.Proofs.Ytjmjillfclfkgaa.ariths
open Go.ChangeShapes Go.WideShapes Go.ChangeAt Go.RowKit
set_option linter.unusedVariables false

theorem u64_wrap (x : Int) : IntKind.u64.wrap x = x % 18446744073709551616 := by
  simp only [IntKind.wrap, IntKind.signed, IntKind.bits, Bool.false_and]
  exact if_neg (by simp)

theorem wr_of_eq (x y k : Int) (h : x = y + k * 18446744073709551616) : wrap64 x = wrap64 y := by rw [h, wr_shift]
theorem mod_eq (x : Int) : ∃ k : Int, x % 18446744073709551616 = x + k * 18446744073709551616 := ⟨-(x / 18446744073709551616), by omega⟩
theorem wr_mods (x y q : Int) : wrap64 (x % 18446744073709551616 + y % 18446744073709551616 * q) = wrap64 (x + y * q) := by
  obtain ⟨k, hk⟩ := mod_eq x
  obtain ⟨j, hj⟩ := mod_eq y
  refine wr_of_eq _ _ (k + j * q) ?_
  rw [hk, hj, Int.add_mul, Int.add_mul, Int.mul_assoc j, Int.mul_comm 18446744073709551616 q, ← Int.mul_assoc]
  omega
theorem wr_mods2 (x y : Int) : wrap64 (x % 18446744073709551616 * (y % 18446744073709551616)) = wrap64 (x * y) := by
  have h := wr_mods 0 x (y % 18446744073709551616)
  simp only [Int.zero_emod, Int.zero_add] at h
  rw [h, Int.mul_comm]
  have h := wr_mods 0 y x
  simp only [Int.zero_emod, Int.zero_add] at h
  rw [h, Int.mul_comm]

theorem times_odd (o x y ab : Int) (hy : y % 2 = 1) (h : wrap64 (o + x * y) = wrap64 ab) : wrap64 ((o + x) % 18446744073709551616 + (x + x) % 18446744073709551616 * (y / 2)) = wrap64 ab := by
  rw [wr_mods, ← h]
  obtain ⟨q, rfl⟩ : ∃ q, y = 2 * q + 1 := ⟨y / 2, by omega⟩
  rw [show (2 * q + 1) / 2 = q by omega, Int.mul_add, Int.add_mul, show x * (2 * q) = x * q + x * q by rw [← Int.mul_assoc, Int.mul_comm x 2, Int.mul_assoc]; omega]
  congr 1; omega
theorem times_even (o x y ab : Int) (hy : y % 2 = 0) (h0 : 0 ≤ o) (h1 : o ≤ 18446744073709551615) (h : wrap64 (o + x * y) = wrap64 ab) : wrap64 (o + (x + x) % 18446744073709551616 * (y / 2)) = wrap64 ab := by
  have e : o % 18446744073709551616 = o := by omega
  rw [show o + (x + x) % 18446744073709551616 * (y / 2) = o % 18446744073709551616 + (x + x) % 18446744073709551616 * (y / 2) by rw [e], wr_mods, ← h]
  obtain ⟨q, rfl⟩ : ∃ q, y = 2 * q := ⟨y / 2, by omega⟩
  rw [show 2 * q / 2 = q by omega, Int.add_mul, show x * (2 * q) = x * q + x * q by rw [← Int.mul_assoc, Int.mul_comm x 2, Int.mul_assoc]; omega]

set_option maxHeartbeats 400000 in
theorem times_any (a b : Int) (w : World) (h0 : -9223372036854775808 ≤ a) (h1 : a ≤ 9223372036854775807) (g0 : -9223372036854775808 ≤ b) (g1 : b ≤ 9223372036854775807) :
    Calls Try.prog 44 #[.int .i64 a, .int .i64 b] w fun e w' => e = .returned (.int .i64 (wrap64 (a * b))) ∧ w' = w := by
  go_enter Try.func44, Try.ntmps44
  go_wp2
  go_loop [5, 6, 7] (fun x y o => ∃ X Y O : Int, 0 ≤ X ∧ X ≤ 18446744073709551615 ∧ 0 ≤ Y ∧ Y ≤ 18446744073709551615 ∧ 0 ≤ O ∧ O ≤ 18446744073709551615 ∧ x = .int .u64 X ∧ y = .int .u64 Y ∧ o = .int .u64 O ∧ wrap64 (O + X * Y) = wrap64 (a * b)) (fun _ y _ => (intOf y).toNat)
  case atStart =>
    refine ⟨a % 18446744073709551616, b % 18446744073709551616, 0, by omega, by omega, by omega, by omega, by omega, by omega, by rw [u64_wrap], by rw [u64_wrap], rfl, ?_⟩
    rw [Int.zero_add, wr_mods2]
  case round =>
    obtain ⟨X, Y, O, hX0, hX1, hY0, hY1, hO0, hO1, rfl, rfl, rfl, hr⟩ := hrel
    have HR := Lib.hid hr; clear hr
    by_cases hy : 0 < Y
    · by_cases hp : Y % 2 = 1
      · have hq : (Y % 2 == 1) = true := by simpa using hp
        have HP := Lib.hid hp; clear hp
        go_wp2
        go_round
        case rel => exact ⟨(X + X) % 18446744073709551616, Y / 2, (O + X) % 18446744073709551616, by omega, by omega, by omega, by omega, by omega, by omega, by rw [u64_wrap], rfl, by rw [u64_wrap], times_odd _ _ _ _ HP.out HR.out⟩
        case measure => simp [intOf]; omega
      · have hq : (Y % 2 == 1) = false := by simpa using hp
        have HP := Lib.hid (show Y % 2 = 0 by omega); clear hp
        go_wp2
        go_round
        case rel => exact ⟨(X + X) % 18446744073709551616, Y / 2, O, by omega, by omega, by omega, by omega, by omega, by omega, by rw [u64_wrap], rfl, rfl, times_even _ _ _ _ HP.out hO0 hO1 HR.out⟩
        case measure => simp [intOf]; omega
    · go_wp2
      go_ret
      refine ⟨ret_int ?_, rfl⟩
      have e := HR.out
      rw [show Y = 0 by omega, Int.mul_zero, Int.add_zero] at e
      exact e

/-- After k bits: the quotient and what is left of the number's first k bits. -/
def DivRel (a b : Int) (q l i : Value) : Prop := ∃ (k : Nat) (Q L : Int), k ≤ 64 ∧ 0 ≤ Q ∧ 0 ≤ L ∧ L < b ∧ a / 2 ^ (64 - k) = Q * b + L ∧ q = .int .u64 Q ∧ l = .int .u64 L ∧ i = .int .i64 (63 - k)

theorem half_pow (a : Int) (k : Nat) (hk : k < 64) : a / 2 ^ (64 - k) = a / 2 ^ (63 - k) / 2 := by
  rw [show 64 - k = (63 - k) + 1 by omega, Int.pow_succ]
  exact (Int.ediv_ediv_of_nonneg (Int.le_of_lt (Int.pow_pos (by omega)))).symm
theorem pow_bd (a : Int) (k : Nat) (h0 : 0 ≤ a) (h1 : a ≤ 18446744073709551615) : 0 ≤ a / 2 ^ (63 - k) ∧ a / 2 ^ (63 - k) ≤ 18446744073709551615 := by
  have hp : (0 : Int) < 2 ^ (63 - k) := Int.pow_pos (by omega)
  refine ⟨Int.ediv_nonneg h0 (Int.le_of_lt hp), Int.le_trans (Int.ediv_le_self _ h0) h1⟩
theorem le_mul_pos (Q b : Int) (hQ : 0 ≤ Q) (hb : 1 ≤ b) : Q ≤ Q * b := by
  have := Int.mul_le_mul_of_nonneg_left hb hQ
  rw [Int.mul_one] at this
  exact this

theorem div_sub (a b Q L : Int) (k : Nat) (hk : k < 64) (h0 : 0 ≤ a) (h1 : a ≤ 18446744073709551615) (g0 : 1 ≤ b) (g1 : b ≤ 18446744073709551615) (hQ0 : 0 ≤ Q) (hL0 : 0 ≤ L) (hL1 : L < b) (hr : a / 2 ^ (64 - k) = Q * b + L)
    (hc : b ≤ L * 2 + a / 2 ^ (63 - k) % 2) (q' l' : Int) (hq : q' = Q * 2 + 1) (hl : l' = L * 2 + a / 2 ^ (63 - k) % 2 - b) :
    DivRel a b (.int .u64 q') (.int .u64 l') (.int .i64 (63 - k - 1)) := by
  subst hq hl
  obtain ⟨d0, d1⟩ := pow_bd a k h0 h1
  rw [half_pow a k hk] at hr
  have hm : (Q * 2 + 1) * b = 2 * (Q * b) + b := by rw [Int.add_mul, Int.one_mul, Int.mul_comm Q 2, Int.mul_assoc]
  refine ⟨k + 1, Q * 2 + 1, L * 2 + a / 2 ^ (63 - k) % 2 - b, by omega, by omega, by omega, by omega, ?_, rfl, rfl, by congr 1; omega⟩
  rw [show 64 - (k + 1) = 63 - k by omega, hm]
  generalize a / 2 ^ (63 - k) = D at *
  omega

theorem div_not (a b Q L : Int) (k : Nat) (hk : k < 64) (h0 : 0 ≤ a) (h1 : a ≤ 18446744073709551615) (g0 : 1 ≤ b) (g1 : b ≤ 18446744073709551615) (hQ0 : 0 ≤ Q) (hL0 : 0 ≤ L) (hL1 : L < b) (hr : a / 2 ^ (64 - k) = Q * b + L)
    (hc : L * 2 + a / 2 ^ (63 - k) % 2 < b) (q' l' : Int) (hq : q' = Q * 2) (hl : l' = L * 2 + a / 2 ^ (63 - k) % 2) :
    DivRel a b (.int .u64 q') (.int .u64 l') (.int .i64 (63 - k - 1)) := by
  subst hq hl
  obtain ⟨d0, d1⟩ := pow_bd a k h0 h1
  rw [half_pow a k hk] at hr
  have hm : (Q * 2) * b = 2 * (Q * b) := by rw [Int.mul_comm Q 2, Int.mul_assoc]
  refine ⟨k + 1, Q * 2, L * 2 + a / 2 ^ (63 - k) % 2, by omega, by omega, by omega, by omega, ?_, rfl, rfl, by congr 1; omega⟩
  rw [show 64 - (k + 1) = 63 - k by omega, hm]
  generalize a / 2 ^ (63 - k) = D at *
  omega

theorem div_nums (a b Q L : Int) (k : Nat) (hk : k < 64) (h0 : 0 ≤ a) (h1 : a ≤ 18446744073709551615) (g0 : 1 ≤ b) (hQ0 : 0 ≤ Q) (hL0 : 0 ≤ L) (hr : a / 2 ^ (64 - k) = Q * b + L) :
    (a / 2 ^ (63 - k)).tmod 2 = a / 2 ^ (63 - k) % 2 ∧ Q * 2 + 1 ≤ 18446744073709551615 := by
  obtain ⟨d0, d1⟩ := pow_bd a k h0 h1
  have := le_mul_pos Q b hQ0 g0
  rw [half_pow a k hk] at hr
  exact ⟨Int.tmod_eq_emod_of_nonneg d0, by omega⟩

theorem div_one (a b Q L : Int) (k : Nat) (hk : k < 64) (h0 : 0 ≤ a) (h1 : a ≤ 18446744073709551615) (g0 : 1 ≤ b) (g1 : b ≤ 18446744073709551615) (hQ0 : 0 ≤ Q) (hL0 : 0 ≤ L) (hL1 : L < b) (hr : a / 2 ^ (64 - k) = Q * b + L)
    (hh : L < 9223372036854775808) (hc : 9223372036854775808 ≤ L ∨ b ≤ IntKind.u64.wrap (L * 2 + (a / 2 ^ (63 - k)).tmod 2)) :
    DivRel a b (.int .u64 (IntKind.u64.wrap (IntKind.u64.wrap (Q * 2) + 1))) (.int .u64 (IntKind.u64.wrap (IntKind.u64.wrap (L * 2 + (a / 2 ^ (63 - k)).tmod 2) - b))) (.int .i64 (63 - k - 1)) := by
  obtain ⟨n1, n2⟩ := div_nums a b Q L k hk h0 h1 g0 hQ0 hL0 hr
  rw [n1, u64_wrap] at hc
  simp only [n1, u64_wrap]
  exact div_sub a b Q L k hk h0 h1 g0 g1 hQ0 hL0 hL1 hr (by omega) _ _ (by omega) (by omega)
theorem div_two (a b Q L : Int) (k : Nat) (hk : k < 64) (h0 : 0 ≤ a) (h1 : a ≤ 18446744073709551615) (g0 : 1 ≤ b) (g1 : b ≤ 18446744073709551615) (hQ0 : 0 ≤ Q) (hL0 : 0 ≤ L) (hL1 : L < b) (hr : a / 2 ^ (64 - k) = Q * b + L)
    (hc : L < 9223372036854775808 ∧ IntKind.u64.wrap (L * 2 + (a / 2 ^ (63 - k)).tmod 2) < b) :
    DivRel a b (.int .u64 (IntKind.u64.wrap (Q * 2))) (.int .u64 (IntKind.u64.wrap (L * 2 + (a / 2 ^ (63 - k)).tmod 2))) (.int .i64 (63 - k - 1)) := by
  obtain ⟨n1, n2⟩ := div_nums a b Q L k hk h0 h1 g0 hQ0 hL0 hr
  rw [n1, u64_wrap] at hc
  simp only [n1, u64_wrap]
  exact div_not a b Q L k hk h0 h1 g0 g1 hQ0 hL0 hL1 hr (by omega) _ _ (by omega) (by omega)
theorem div_three (a b Q L : Int) (k : Nat) (hk : k < 64) (h0 : 0 ≤ a) (h1 : a ≤ 18446744073709551615) (g0 : 1 ≤ b) (g1 : b ≤ 18446744073709551615) (hQ0 : 0 ≤ Q) (hL0 : 0 ≤ L) (hL1 : L < b) (hr : a / 2 ^ (64 - k) = Q * b + L)
    (hh : ¬ L < 9223372036854775808) :
    DivRel a b (.int .u64 (IntKind.u64.wrap (IntKind.u64.wrap (Q * 2) + 1))) (.int .u64 (IntKind.u64.wrap (IntKind.u64.wrap (IntKind.u64.wrap (L * 2) + (a / 2 ^ (63 - k)).tmod 2) - b))) (.int .i64 (63 - k - 1)) := by
  obtain ⟨n1, n2⟩ := div_nums a b Q L k hk h0 h1 g0 hQ0 hL0 hr
  simp only [n1, u64_wrap]
  exact div_sub a b Q L k hk h0 h1 g0 g1 hQ0 hL0 hL1 hr (by omega) _ _ (by omega) (by omega)

set_option maxHeartbeats 400000 in
theorem divide_any (a b : Int) (w : World) (h0 : 0 ≤ a) (h1 : a ≤ 18446744073709551615) (g0 : 1 ≤ b) (g1 : b ≤ 18446744073709551615) :
    Calls Try.prog 61 #[.int .u64 a, .int .u64 b] w fun e w' => e = .returned (.tuple #[.int .u64 (a / b), .int .u64 (a % b)]) ∧ w' = w := by
  go_enter Try.func61, Try.ntmps61
  go_wp2
  go_loop [6, 7, 8] (fun q l i => DivRel a b q l i) (fun _ _ i => (intOf i + 1).toNat)
  case atStart => exact ⟨0, 0, 0, by omega, by omega, by omega, by omega, by simp; omega, rfl, rfl, rfl⟩
  case round =>
    obtain ⟨k, Q, L, hk, hQ0, hL0, hL1, hr, rfl, rfl, rfl⟩ := hrel
    have HR := Lib.hid hr; clear hr
    by_cases hy : k < 64
    · have s0 : (0 : Int) ≤ 63 - k := by omega
      have s1 : (63 - k : Int) ≤ 63 := by omega
      go_wp2
      all_goals
        go_round
        case rel =>
          first
            | exact div_one a b Q L k hy h0 h1 g0 g1 hQ0 hL0 hL1 HR.out (by assumption) (by assumption)
            | exact div_two a b Q L k hy h0 h1 g0 g1 hQ0 hL0 hL1 HR.out (by assumption)
            | exact div_three a b Q L k hy h0 h1 g0 g1 hQ0 hL0 hL1 HR.out (by assumption)
        case measure => simp [intOf]; omega
    · obtain rfl : k = 64 := by omega
      go_wp2
      go_ret2
      have e := HR.out
      rw [show 64 - 64 = 0 from rfl, Int.pow_zero, Int.ediv_one] at e
      have hu := (Int.ediv_emod_unique (a := a) (b := b) (q := Q) (r := L) (by omega)).2 ⟨by rw [e, Int.mul_comm]; omega, hL0, hL1⟩
      refine ⟨?_, rfl⟩
      rw [hu.1, hu.2]
      rfl

theorem dist_neg {a : Int} (h : a < 0) : dist a = -a := by unfold dist; rw [if_pos h]
theorem dist_pos {a : Int} (h : ¬ a < 0) : dist a = a := by unfold dist; rw [if_neg h]
theorem quot_nn {a b : Int} (ha : a < 0) (hb : b < 0) : a.tdiv b = dist a / dist b ∧ a.tmod b = -(dist a % dist b) := by
  rw [dist_neg ha, dist_neg hb, ← Int.tdiv_eq_ediv_of_nonneg (show 0 ≤ -a by omega), ← Int.tmod_eq_emod_of_nonneg (show 0 ≤ -a by omega), Int.neg_tdiv, Int.tdiv_neg, Int.neg_tmod, Int.tmod_neg]
  omega
theorem quot_np {a b : Int} (ha : a < 0) (hb : ¬ b < 0) : a.tdiv b = -(dist a / dist b) ∧ a.tmod b = -(dist a % dist b) := by
  rw [dist_neg ha, dist_pos hb, ← Int.tdiv_eq_ediv_of_nonneg (show 0 ≤ -a by omega), ← Int.tmod_eq_emod_of_nonneg (show 0 ≤ -a by omega), Int.neg_tdiv, Int.neg_tmod]
  omega
theorem quot_pn {a b : Int} (ha : ¬ a < 0) (hb : b < 0) : a.tdiv b = -(dist a / dist b) ∧ a.tmod b = dist a % dist b := by
  rw [dist_pos ha, dist_neg hb, ← Int.tdiv_eq_ediv_of_nonneg (show 0 ≤ a by omega), ← Int.tmod_eq_emod_of_nonneg (show 0 ≤ a by omega), Int.tdiv_neg, Int.tmod_neg]
  omega
theorem quot_pp {a b : Int} (ha : ¬ a < 0) (hb : ¬ b < 0) : a.tdiv b = dist a / dist b ∧ a.tmod b = dist a % dist b := by
  rw [dist_pos ha, dist_pos hb, ← Int.tdiv_eq_ediv_of_nonneg (show 0 ≤ a by omega), ← Int.tmod_eq_emod_of_nonneg (show 0 ≤ a by omega)]
  omega

theorem wr_u64 (x : Int) : wrap64 (IntKind.u64.wrap x) = wrap64 x := by rw [u64_wrap]; unfold wrap64; omega
theorem ret_int2 {k l : IntKind} {a b c d : Int} (h : a = b) (g : c = d) : Ending.returned (.tuple #[.int k a, .int l c]) = .returned (.tuple #[.int k b, .int l d]) := by rw [h, g]

set_option maxHeartbeats 400000 in
theorem quotient_any (a b : Int) (w : World) (h0 : -9223372036854775808 ≤ a) (h1 : a ≤ 9223372036854775807) (g0 : -9223372036854775808 ≤ b) (g1 : b ≤ 9223372036854775807) (hb : b ≠ 0) :
    Calls Try.prog 45 #[.int .i64 a, .int .i64 b] w fun e w' => e = .returned (.tuple #[.int .i64 (wrap64 (a.tdiv b)), .int .i64 (a.tmod b)]) ∧ w' = w := by
  obtain ⟨a0, a1⟩ := dist_bd a h0 h1
  obtain ⟨b0, b1⟩ := dist_bd b g0 g1
  have b2 : 1 ≤ dist b := by unfold dist; split <;> omega
  have l0 : 0 ≤ dist a / dist b := Int.ediv_nonneg a0 b0
  have l1 : dist a / dist b ≤ 9223372036854775808 := Int.le_trans (Int.ediv_le_self _ a0) a1
  have m0 : 0 ≤ dist a % dist b := Int.emod_nonneg _ (by omega)
  have m1 : dist a % dist b < dist b := Int.emod_lt_of_pos _ (by omega)
  by_cases ha : a < 0
  · by_cases hb' : b < 0
    · have Q := Lib.hid (quot_nn ha hb')
      go_enter Try.func45, Try.ntmps45
      go_wp2_with (first
        | (go_at_call 62; refine (size_any _ _ (by omega) (by omega)).mono ?_; rintro e w' ⟨rfl, rfl⟩)
        | (go_at_call 61; refine (divide_any _ _ _ (by omega) (by omega) (by omega) (by omega)).mono ?_; rintro e w' ⟨rfl, rfl⟩))
      go_ret2
      exact ⟨ret_int2 (by rw [Q.out.1]) (by rw [Q.out.2, wr_u64, wr_in _ (by omega) (by omega)]), rfl⟩
    · have Q := Lib.hid (quot_np ha hb')
      have hd : decide (b < 0) = false := by simpa using hb'
      go_enter Try.func45, Try.ntmps45
      go_wp2_with (first
        | (go_at_call 62; refine (size_any _ _ (by omega) (by omega)).mono ?_; rintro e w' ⟨rfl, rfl⟩)
        | (go_at_call 61; refine (divide_any _ _ _ (by omega) (by omega) (by omega) (by omega)).mono ?_; rintro e w' ⟨rfl, rfl⟩))
      go_ret2
      exact ⟨ret_int2 (by rw [Q.out.1, wr_u64]) (by rw [Q.out.2, wr_u64, wr_in _ (by omega) (by omega)]), rfl⟩
  · have hc : decide (a < 0) = false := by simpa using ha
    by_cases hb' : b < 0
    · have Q := Lib.hid (quot_pn ha hb')
      go_enter Try.func45, Try.ntmps45
      go_wp2_with (first
        | (go_at_call 62; refine (size_any _ _ (by omega) (by omega)).mono ?_; rintro e w' ⟨rfl, rfl⟩)
        | (go_at_call 61; refine (divide_any _ _ _ (by omega) (by omega) (by omega) (by omega)).mono ?_; rintro e w' ⟨rfl, rfl⟩))
      go_ret2
      exact ⟨ret_int2 (by rw [Q.out.1, wr_u64]) (by rw [Q.out.2]), rfl⟩
    · have Q := Lib.hid (quot_pp ha hb')
      have hd : decide (b < 0) = false := by simpa using hb'
      go_enter Try.func45, Try.ntmps45
      go_wp2_with (first
        | (go_at_call 62; refine (size_any _ _ (by omega) (by omega)).mono ?_; rintro e w' ⟨rfl, rfl⟩)
        | (go_at_call 61; refine (divide_any _ _ _ (by omega) (by omega) (by omega) (by omega)).mono ?_; rintro e w' ⟨rfl, rfl⟩))
      go_ret2
      exact ⟨ret_int2 (by rw [Q.out.1]) (by rw [Q.out.2]), rfl⟩

set_option maxHeartbeats 400000 in
theorem rbool_any (b : Bool) (w : World) :
    Calls Try.prog 43 #[.bool b] w fun e w' => e = .returned (.int .i64 (truth b)) ∧ w' = w := by
  cases b
  all_goals
    go_enter Try.func43, Try.ntmps43
    go_wp2
    go_ret
    exact ⟨rfl, rfl⟩

set_option maxHeartbeats 400000 in
theorem RTwo_add (a b : Int) (w : World) :
    Calls Try.prog 26 #[.int .i64 9, .int .i64 a, .int .i64 b] w fun e w' => e = .returned (.tuple #[.int .i64 (wrap64 (a + b)), .int .i64 0]) ∧ w' = w := by
  go_enter Try.func26, Try.ntmps26
  go_wp2
  go_ret2
  refine ⟨ret_int2 ?_ rfl, rfl⟩
  simp only [u64_wrap]
  unfold wrap64
  omega

set_option maxHeartbeats 400000 in
theorem RTwo_sub (a b : Int) (w : World) :
    Calls Try.prog 26 #[.int .i64 10, .int .i64 a, .int .i64 b] w fun e w' => e = .returned (.tuple #[.int .i64 (wrap64 (a - b)), .int .i64 0]) ∧ w' = w := by
  go_enter Try.func26, Try.ntmps26
  go_wp2
  go_ret2
  refine ⟨ret_int2 ?_ rfl, rfl⟩
  simp only [u64_wrap]
  unfold wrap64
  omega

set_option maxHeartbeats 400000 in
theorem RTwo_or (a b : Int) (w : World) :
    Calls Try.prog 26 #[.int .i64 1, .int .i64 a, .int .i64 b] w fun e w' => e = .returned (.tuple #[.int .i64 (truth (a != 0 || b != 0)), .int .i64 0]) ∧ w' = w := by
  have k : ∃ x y : Bool, (a == 0) = x ∧ (b == 0) = y ∧ (a != 0) = !x ∧ (b != 0) = !y := ⟨_, _, rfl, rfl, rfl, rfl⟩
  obtain ⟨x, y, k1, k2, k3, k4⟩ := k
  rw [k3, k4]
  clear k3 k4
  cases x <;> cases y
  all_goals
    go_enter Try.func26, Try.ntmps26
    go_wp2_with (go_at_call 43; refine (rbool_any _ _).mono ?_; rintro e w' ⟨rfl, rfl⟩)
    go_ret2
    exact ⟨rfl, rfl⟩

set_option maxHeartbeats 400000 in
theorem RTwo_and (a b : Int) (w : World) :
    Calls Try.prog 26 #[.int .i64 2, .int .i64 a, .int .i64 b] w fun e w' => e = .returned (.tuple #[.int .i64 (truth (a != 0 && b != 0)), .int .i64 0]) ∧ w' = w := by
  have k : ∃ x y : Bool, (a == 0) = x ∧ (b == 0) = y ∧ (a != 0) = !x ∧ (b != 0) = !y := ⟨_, _, rfl, rfl, rfl, rfl⟩
  obtain ⟨x, y, k1, k2, k3, k4⟩ := k
  rw [k3, k4]
  clear k3 k4
  cases x <;> cases y
  all_goals
    go_enter Try.func26, Try.ntmps26
    go_wp2_with (go_at_call 43; refine (rbool_any _ _).mono ?_; rintro e w' ⟨rfl, rfl⟩)
    go_ret2
    exact ⟨rfl, rfl⟩

set_option maxHeartbeats 400000 in
theorem RTwo_eq (a b : Int) (w : World) :
    Calls Try.prog 26 #[.int .i64 3, .int .i64 a, .int .i64 b] w fun e w' => e = .returned (.tuple #[.int .i64 (truth (a == b)), .int .i64 0]) ∧ w' = w := by
  have k : ∃ x : Bool, (a == b) = x ∧ (a != b) = !x := ⟨_, rfl, rfl⟩
  obtain ⟨x, k1, k2⟩ := k
  try rw [k2]
  try rw [k1]
  clear k2
  cases x
  all_goals
    go_enter Try.func26, Try.ntmps26
    go_wp2_with (go_at_call 43; refine (rbool_any _ _).mono ?_; rintro e w' ⟨rfl, rfl⟩)
    go_ret2
    exact ⟨rfl, rfl⟩

set_option maxHeartbeats 400000 in
theorem RTwo_ne (a b : Int) (w : World) :
    Calls Try.prog 26 #[.int .i64 4, .int .i64 a, .int .i64 b] w fun e w' => e = .returned (.tuple #[.int .i64 (truth (a != b)), .int .i64 0]) ∧ w' = w := by
  have k : ∃ x : Bool, (a == b) = x ∧ (a != b) = !x := ⟨_, rfl, rfl⟩
  obtain ⟨x, k1, k2⟩ := k
  try rw [k2]
  try rw [k1]
  clear k2
  cases x
  all_goals
    go_enter Try.func26, Try.ntmps26
    go_wp2_with (go_at_call 43; refine (rbool_any _ _).mono ?_; rintro e w' ⟨rfl, rfl⟩)
    go_ret2
    exact ⟨rfl, rfl⟩

set_option maxHeartbeats 400000 in
theorem RTwo_lt (a b : Int) (w : World) :
    Calls Try.prog 26 #[.int .i64 5, .int .i64 a, .int .i64 b] w fun e w' => e = .returned (.tuple #[.int .i64 (truth (decide (a < b))), .int .i64 0]) ∧ w' = w := by
  have k : ∃ x : Bool, decide (a < b) = x ∧ decide (b ≤ a) = !x := ⟨_, rfl, by rw [← decide_not]; simp [Int.not_lt]⟩
  obtain ⟨x, k1, k2⟩ := k
  try rw [k2]
  try rw [k1]
  clear k2
  cases x
  all_goals
    go_enter Try.func26, Try.ntmps26
    go_wp2_with (go_at_call 43; refine (rbool_any _ _).mono ?_; rintro e w' ⟨rfl, rfl⟩)
    go_ret2
    exact ⟨rfl, rfl⟩

set_option maxHeartbeats 400000 in
theorem RTwo_le (a b : Int) (w : World) :
    Calls Try.prog 26 #[.int .i64 6, .int .i64 a, .int .i64 b] w fun e w' => e = .returned (.tuple #[.int .i64 (truth (decide (a ≤ b))), .int .i64 0]) ∧ w' = w := by
  have k : ∃ x : Bool, decide (b < a) = x ∧ decide (a ≤ b) = !x := ⟨_, rfl, by rw [← decide_not]; simp [Int.not_lt]⟩
  obtain ⟨x, k1, k2⟩ := k
  try rw [k2]
  try rw [k1]
  clear k2
  cases x
  all_goals
    go_enter Try.func26, Try.ntmps26
    go_wp2_with (go_at_call 43; refine (rbool_any _ _).mono ?_; rintro e w' ⟨rfl, rfl⟩)
    go_ret2
    exact ⟨rfl, rfl⟩

set_option maxHeartbeats 400000 in
theorem RTwo_gt (a b : Int) (w : World) :
    Calls Try.prog 26 #[.int .i64 7, .int .i64 a, .int .i64 b] w fun e w' => e = .returned (.tuple #[.int .i64 (truth (decide (b < a))), .int .i64 0]) ∧ w' = w := by
  have k : ∃ x : Bool, decide (b < a) = x ∧ decide (a ≤ b) = !x := ⟨_, rfl, by rw [← decide_not]; simp [Int.not_lt]⟩
  obtain ⟨x, k1, k2⟩ := k
  try rw [k2]
  try rw [k1]
  clear k2
  cases x
  all_goals
    go_enter Try.func26, Try.ntmps26
    go_wp2_with (go_at_call 43; refine (rbool_any _ _).mono ?_; rintro e w' ⟨rfl, rfl⟩)
    go_ret2
    exact ⟨rfl, rfl⟩

set_option maxHeartbeats 400000 in
theorem RTwo_ge (a b : Int) (w : World) :
    Calls Try.prog 26 #[.int .i64 8, .int .i64 a, .int .i64 b] w fun e w' => e = .returned (.tuple #[.int .i64 (truth (decide (b ≤ a))), .int .i64 0]) ∧ w' = w := by
  have k : ∃ x : Bool, decide (a < b) = x ∧ decide (b ≤ a) = !x := ⟨_, rfl, by rw [← decide_not]; simp [Int.not_lt]⟩
  obtain ⟨x, k1, k2⟩ := k
  try rw [k2]
  try rw [k1]
  clear k2
  cases x
  all_goals
    go_enter Try.func26, Try.ntmps26
    go_wp2_with (go_at_call 43; refine (rbool_any _ _).mono ?_; rintro e w' ⟨rfl, rfl⟩)
    go_ret2
    exact ⟨rfl, rfl⟩

end Go.Proofs.Ytjmjillfclfkgaa.ariths
