import Derived.Test.YtjjnboenehomgaaRows
import Derived.WalkKit
import Derived.ProofKit
import Derived.Lib.Hide
import Derived.Outline
import Derived.Deep.QuietTactic
import Derived.BigQuiet
import Derived.Test.YtjjnboenehomgaaPkF2
import Derived.Test.YtjjnboenehomgaaPkF0
import Derived.ChangeOld
import Derived.Lib.SmallJoins
section
namespace Go.Proofs.Ytjjnboenehomgaa.ariths
open Go.ChangeShapes Go.WideShapes Go.ChangeAt Go.RowKit
set_option linter.unusedVariables false
def truth (b : Bool) : Int := if b then 1 else 0
theorem wrap64_bd (n : Int) : -9223372036854775808 ≤ wrap64 n ∧ wrap64 n ≤ 9223372036854775807 := by unfold wrap64; omega
set_option maxHeartbeats 400000 in
theorem truth_any (b : Bool) (w : World) :
    Calls Try.prog 104 #[.bool b] w fun e w' => e = .returned (.int .i64 (truth b)) ∧ w' = w := by
  cases b
  all_goals
    go_enter Try.func104, Try.ntmps104
    go_wp2
    go_ret
    exact ⟨rfl, rfl⟩
set_option maxHeartbeats 400000 in
theorem Two_add (a b : Int) (w : World) :
    Calls Try.prog 78 #[.int .i64 9, .int .i64 a, .int .i64 b] w fun e w' => e = .returned (.tuple #[.int .i64 (wrap64 (a + b)), .int .i64 0]) ∧ w' = w := by
  go_enter Try.func78, Try.ntmps78
  go_wp2
  go_ret2
  exact ⟨rfl, rfl⟩
set_option maxHeartbeats 400000 in
theorem Two_sub (a b : Int) (w : World) :
    Calls Try.prog 78 #[.int .i64 10, .int .i64 a, .int .i64 b] w fun e w' => e = .returned (.tuple #[.int .i64 (wrap64 (a - b)), .int .i64 0]) ∧ w' = w := by
  go_enter Try.func78, Try.ntmps78
  go_wp2
  go_ret2
  exact ⟨rfl, rfl⟩
set_option maxHeartbeats 400000 in
theorem Two_mul (a b : Int) (w : World) :
    Calls Try.prog 78 #[.int .i64 11, .int .i64 a, .int .i64 b] w fun e w' => e = .returned (.tuple #[.int .i64 (wrap64 (a * b)), .int .i64 0]) ∧ w' = w := by
  go_enter Try.func78, Try.ntmps78
  go_wp2
  go_ret2
  exact ⟨rfl, rfl⟩
set_option maxHeartbeats 400000 in
theorem Two_eq (a b : Int) (w : World) :
    Calls Try.prog 78 #[.int .i64 3, .int .i64 a, .int .i64 b] w fun e w' => e = .returned (.tuple #[.int .i64 (truth (a == b)), .int .i64 0]) ∧ w' = w := by
  go_enter Try.func78, Try.ntmps78
  go_wp2_with (go_at_call 104; refine (truth_any _ _).mono ?_; rintro e w' ⟨rfl, rfl⟩)
  go_ret2
  exact ⟨rfl, rfl⟩
set_option maxHeartbeats 400000 in
theorem Two_ne (a b : Int) (w : World) :
    Calls Try.prog 78 #[.int .i64 4, .int .i64 a, .int .i64 b] w fun e w' => e = .returned (.tuple #[.int .i64 (truth (a != b)), .int .i64 0]) ∧ w' = w := by
  go_enter Try.func78, Try.ntmps78
  go_wp2_with (go_at_call 104; refine (truth_any _ _).mono ?_; rintro e w' ⟨rfl, rfl⟩)
  go_ret2
  exact ⟨rfl, rfl⟩
set_option maxHeartbeats 400000 in
theorem Two_lt (a b : Int) (w : World) :
    Calls Try.prog 78 #[.int .i64 5, .int .i64 a, .int .i64 b] w fun e w' => e = .returned (.tuple #[.int .i64 (truth (decide (a < b))), .int .i64 0]) ∧ w' = w := by
  go_enter Try.func78, Try.ntmps78
  go_wp2_with (go_at_call 104; refine (truth_any _ _).mono ?_; rintro e w' ⟨rfl, rfl⟩)
  go_ret2
  exact ⟨rfl, rfl⟩
set_option maxHeartbeats 400000 in
theorem Two_le (a b : Int) (w : World) :
    Calls Try.prog 78 #[.int .i64 6, .int .i64 a, .int .i64 b] w fun e w' => e = .returned (.tuple #[.int .i64 (truth (decide (a ≤ b))), .int .i64 0]) ∧ w' = w := by
  go_enter Try.func78, Try.ntmps78
  go_wp2_with (go_at_call 104; refine (truth_any _ _).mono ?_; rintro e w' ⟨rfl, rfl⟩)
  go_ret2
  exact ⟨rfl, rfl⟩
set_option maxHeartbeats 400000 in
theorem Two_gt (a b : Int) (w : World) :
    Calls Try.prog 78 #[.int .i64 7, .int .i64 a, .int .i64 b] w fun e w' => e = .returned (.tuple #[.int .i64 (truth (decide (b < a))), .int .i64 0]) ∧ w' = w := by
  go_enter Try.func78, Try.ntmps78
  go_wp2_with (go_at_call 104; refine (truth_any _ _).mono ?_; rintro e w' ⟨rfl, rfl⟩)
  go_ret2
  exact ⟨rfl, rfl⟩
set_option maxHeartbeats 400000 in
theorem Two_ge (a b : Int) (w : World) :
    Calls Try.prog 78 #[.int .i64 8, .int .i64 a, .int .i64 b] w fun e w' => e = .returned (.tuple #[.int .i64 (truth (decide (b ≤ a))), .int .i64 0]) ∧ w' = w := by
  go_enter Try.func78, Try.ntmps78
  go_wp2_with (go_at_call 104; refine (truth_any _ _).mono ?_; rintro e w' ⟨rfl, rfl⟩)
  go_ret2
  exact ⟨rfl, rfl⟩
set_option maxHeartbeats 400000 in
theorem Two_or (a b : Int) (w : World) :
    Calls Try.prog 78 #[.int .i64 1, .int .i64 a, .int .i64 b] w fun e w' => e = .returned (.tuple #[.int .i64 (truth (a != 0 || b != 0)), .int .i64 0]) ∧ w' = w := by
  rcases Bool.eq_false_or_eq_true (a != 0) with h | h
  all_goals
    rcases Bool.eq_false_or_eq_true (b != 0) with h2 | h2
    all_goals
      rw [h, h2]
      go_enter Try.func78, Try.ntmps78
      go_wp2_with (go_at_call 104; refine (truth_any _ _).mono ?_; rintro e w' ⟨rfl, rfl⟩)
      go_ret2
      exact ⟨rfl, rfl⟩
set_option maxHeartbeats 400000 in
theorem Two_and (a b : Int) (w : World) :
    Calls Try.prog 78 #[.int .i64 2, .int .i64 a, .int .i64 b] w fun e w' => e = .returned (.tuple #[.int .i64 (truth (a != 0 && b != 0)), .int .i64 0]) ∧ w' = w := by
  rcases Bool.eq_false_or_eq_true (a != 0) with h | h
  all_goals
    rcases Bool.eq_false_or_eq_true (b != 0) with h2 | h2
    all_goals
      rw [h, h2]
      go_enter Try.func78, Try.ntmps78
      go_wp2_with (go_at_call 104; refine (truth_any _ _).mono ?_; rintro e w' ⟨rfl, rfl⟩)
      go_ret2
      exact ⟨rfl, rfl⟩
set_option maxHeartbeats 400000 in
theorem div_zero (a b : Int) (w : World) (hb : b = 0):
    Calls Try.prog 105 #[.int .i64 12, .int .i64 a, .int .i64 b] w fun e w' => e = .returned (.tuple #[.int .i64 (0), .int .i64 1]) ∧ w' = w := by
  subst hb
  go_enter Try.func105, Try.ntmps105
  go_wp2
  go_ret2
  exact ⟨rfl, rfl⟩
set_option maxHeartbeats 400000 in
theorem rem_zero (a b : Int) (w : World) (hb : b = 0):
    Calls Try.prog 105 #[.int .i64 13, .int .i64 a, .int .i64 b] w fun e w' => e = .returned (.tuple #[.int .i64 (0), .int .i64 1]) ∧ w' = w := by
  subst hb
  go_enter Try.func105, Try.ntmps105
  go_wp2
  go_ret2
  exact ⟨rfl, rfl⟩
set_option maxHeartbeats 400000 in
theorem div_neg (a b : Int) (w : World) (hb : b = -1):
    Calls Try.prog 105 #[.int .i64 12, .int .i64 a, .int .i64 b] w fun e w' => e = .returned (.tuple #[.int .i64 (wrap64 (-a)), .int .i64 0]) ∧ w' = w := by
  subst hb
  go_enter Try.func105, Try.ntmps105
  go_wp2
  go_ret2
  exact ⟨rfl, rfl⟩
set_option maxHeartbeats 400000 in
theorem rem_neg (a b : Int) (w : World) (hb : b = -1):
    Calls Try.prog 105 #[.int .i64 13, .int .i64 a, .int .i64 b] w fun e w' => e = .returned (.tuple #[.int .i64 (0), .int .i64 0]) ∧ w' = w := by
  subst hb
  go_enter Try.func105, Try.ntmps105
  go_wp2
  go_ret2
  exact ⟨rfl, rfl⟩
set_option maxHeartbeats 400000 in
theorem div_any (a b : Int) (w : World) (h0 : -9223372036854775808 ≤ a) (h1 : a ≤ 9223372036854775807) (g0 : -9223372036854775808 ≤ b) (g1 : b ≤ 9223372036854775807) (hb : b ≠ 0) (hm : b ≠ -1):
    Calls Try.prog 105 #[.int .i64 12, .int .i64 a, .int .i64 b] w fun e w' => e = .returned (.tuple #[.int .i64 (wrap64 (a.tdiv b)), .int .i64 0]) ∧ w' = w := by
  have z1 : (b == 0) = false := by simpa using hb
  have z2 : (b == -1) = false := by simpa using hm
  go_enter Try.func105, Try.ntmps105
  go_wp2
  go_ret2
  exact ⟨rfl, rfl⟩
set_option maxHeartbeats 400000 in
theorem rem_any (a b : Int) (w : World) (h0 : -9223372036854775808 ≤ a) (h1 : a ≤ 9223372036854775807) (g0 : -9223372036854775808 ≤ b) (g1 : b ≤ 9223372036854775807) (hb : b ≠ 0) (hm : b ≠ -1):
    Calls Try.prog 105 #[.int .i64 13, .int .i64 a, .int .i64 b] w fun e w' => e = .returned (.tuple #[.int .i64 (a.tmod b), .int .i64 0]) ∧ w' = w := by
  have z1 : (b == 0) = false := by simpa using hb
  have z2 : (b == -1) = false := by simpa using hm
  go_enter Try.func105, Try.ntmps105
  go_wp2
  go_ret2
  exact ⟨rfl, rfl⟩
set_option maxHeartbeats 400000 in
theorem Two_div_zero (a b : Int) (w : World) (hb : b = 0) :
    Calls Try.prog 78 #[.int .i64 12, .int .i64 a, .int .i64 b] w fun e w' => e = .returned (.tuple #[.int .i64 (0), .int .i64 1]) ∧ w' = w := by
  have HB := Lib.hid hb; clear hb
  go_enter Try.func78, Try.ntmps78
  go_wp2_with (go_at_call 105; refine (div_zero _ _ _ HB.out).mono ?_; rintro e w' ⟨rfl, rfl⟩)
  go_ret2
  exact ⟨rfl, rfl⟩
set_option maxHeartbeats 400000 in
theorem Two_rem_zero (a b : Int) (w : World) (hb : b = 0) :
    Calls Try.prog 78 #[.int .i64 13, .int .i64 a, .int .i64 b] w fun e w' => e = .returned (.tuple #[.int .i64 (0), .int .i64 1]) ∧ w' = w := by
  have HB := Lib.hid hb; clear hb
  go_enter Try.func78, Try.ntmps78
  go_wp2_with (go_at_call 105; refine (rem_zero _ _ _ HB.out).mono ?_; rintro e w' ⟨rfl, rfl⟩)
  go_ret2
  exact ⟨rfl, rfl⟩
set_option maxHeartbeats 400000 in
theorem Two_div_neg (a b : Int) (w : World) (hb : b = -1) :
    Calls Try.prog 78 #[.int .i64 12, .int .i64 a, .int .i64 b] w fun e w' => e = .returned (.tuple #[.int .i64 (wrap64 (-a)), .int .i64 0]) ∧ w' = w := by
  have HB := Lib.hid hb; clear hb
  go_enter Try.func78, Try.ntmps78
  go_wp2_with (go_at_call 105; refine (div_neg _ _ _ HB.out).mono ?_; rintro e w' ⟨rfl, rfl⟩)
  go_ret2
  exact ⟨rfl, rfl⟩
set_option maxHeartbeats 400000 in
theorem Two_rem_neg (a b : Int) (w : World) (hb : b = -1) :
    Calls Try.prog 78 #[.int .i64 13, .int .i64 a, .int .i64 b] w fun e w' => e = .returned (.tuple #[.int .i64 (0), .int .i64 0]) ∧ w' = w := by
  have HB := Lib.hid hb; clear hb
  go_enter Try.func78, Try.ntmps78
  go_wp2_with (go_at_call 105; refine (rem_neg _ _ _ HB.out).mono ?_; rintro e w' ⟨rfl, rfl⟩)
  go_ret2
  exact ⟨rfl, rfl⟩
set_option maxHeartbeats 400000 in
theorem Two_div_any (a b : Int) (w : World) (h0 : -9223372036854775808 ≤ a) (h1 : a ≤ 9223372036854775807) (g0 : -9223372036854775808 ≤ b) (g1 : b ≤ 9223372036854775807) (hb : b ≠ 0) (hm : b ≠ -1) :
    Calls Try.prog 78 #[.int .i64 12, .int .i64 a, .int .i64 b] w fun e w' => e = .returned (.tuple #[.int .i64 (wrap64 (a.tdiv b)), .int .i64 0]) ∧ w' = w := by
  have HB := Lib.hid hb; clear hb
  have HM := Lib.hid hm; clear hm
  go_enter Try.func78, Try.ntmps78
  go_wp2_with (go_at_call 105; refine (div_any _ _ _ h0 h1 g0 g1 HB.out HM.out).mono ?_; rintro e w' ⟨rfl, rfl⟩)
  go_ret2
  exact ⟨rfl, rfl⟩
set_option maxHeartbeats 400000 in
theorem Two_rem_any (a b : Int) (w : World) (h0 : -9223372036854775808 ≤ a) (h1 : a ≤ 9223372036854775807) (g0 : -9223372036854775808 ≤ b) (g1 : b ≤ 9223372036854775807) (hb : b ≠ 0) (hm : b ≠ -1) :
    Calls Try.prog 78 #[.int .i64 13, .int .i64 a, .int .i64 b] w fun e w' => e = .returned (.tuple #[.int .i64 (a.tmod b), .int .i64 0]) ∧ w' = w := by
  have HB := Lib.hid hb; clear hb
  have HM := Lib.hid hm; clear hm
  go_enter Try.func78, Try.ntmps78
  go_wp2_with (go_at_call 105; refine (rem_any _ _ _ h0 h1 g0 g1 HB.out HM.out).mono ?_; rintro e w' ⟨rfl, rfl⟩)
  go_ret2
  exact ⟨rfl, rfl⟩
set_option maxHeartbeats 400000 in
theorem One_neg (a : Int) (w : World) :
    Calls Try.prog 80 #[.int .i64 1, .int .i64 a] w fun e w' => e = .returned (.tuple #[.int .i64 (wrap64 (-a)), .int .i64 0]) ∧ w' = w := by
  go_enter Try.func80, Try.ntmps80
  go_wp2
  go_ret2
  exact ⟨rfl, rfl⟩
set_option maxHeartbeats 400000 in
theorem One_not (a : Int) (w : World) :
    Calls Try.prog 80 #[.int .i64 2, .int .i64 a] w fun e w' => e = .returned (.tuple #[.int .i64 (truth (a == 0)), .int .i64 0]) ∧ w' = w := by
  go_enter Try.func80, Try.ntmps80
  go_wp2_with (go_at_call 104; refine (truth_any _ _).mono ?_; rintro e w' ⟨rfl, rfl⟩)
  go_ret2
  exact ⟨rfl, rfl⟩
theorem wr_in (a : Int) (h0 : -9223372036854775808 ≤ a) (h1 : a ≤ 9223372036854775807) : wrap64 a = a := by unfold wrap64; omega
theorem wr_shift (x k : Int) : wrap64 (x + k * 18446744073709551616) = wrap64 x := by unfold wrap64; omega
end Go.Proofs.Ytjjnboenehomgaa.ariths
end
section
namespace Go.Proofs.Ytjjnboenehomgaa.ariths
open Go.ChangeShapes Go.WideShapes Go.ChangeAt Go.RowKit
set_option linter.unusedVariables false
def dist (a : Int) : Int := if a < 0 then -a else a
theorem dist_bd (a : Int) (h0 : -9223372036854775808 ≤ a) (h1 : a ≤ 9223372036854775807) : 0 ≤ dist a ∧ dist a ≤ 9223372036854775808 := by unfold dist; split <;> omega
theorem ret_int {k : IntKind} {a b : Int} (h : a = b) : Ending.returned (.int k a) = .returned (.int k b) := by rw [h]
set_option maxHeartbeats 400000 in
theorem size_any (a : Int) (w : World) (h0 : -9223372036854775808 ≤ a) (h1 : a ≤ 9223372036854775807) :
    Calls Try.prog 119 #[.int .i64 a] w fun e w' => e = .returned (.int .u64 (dist a)) ∧ w' = w := by
  by_cases h : a < 0
  · have hz : dist a = -(a + 1) + 1 := by unfold dist; rw [if_pos h]; omega
    have Hz := Lib.hid hz; clear hz
    go_enter Try.func119, Try.ntmps119
    go_wp2
    go_ret
    exact ⟨ret_int Hz.out.symm, rfl⟩
  · have hz : dist a = a := by unfold dist; rw [if_neg h]
    have Hz := Lib.hid hz; clear hz
    go_enter Try.func119, Try.ntmps119
    go_wp2
    go_ret
    exact ⟨ret_int Hz.out.symm, rfl⟩
end Go.Proofs.Ytjjnboenehomgaa.ariths
end
section
namespace Go.Proofs.Ytjjnboenehomgaa.ariths
open Go.ChangeShapes Go.WideShapes Go.ChangeAt Go.RowKit
set_option linter.unusedVariables false
theorem u64_wrap (x : Int) : IntKind.u64.wrap x = x % 18446744073709551616 := by
  simp only [IntKind.wrap, IntKind.signed, IntKind.bits, Bool.false_and]
  exact if_neg (by simp)
theorem wr_of_eq (x y k : Int) (h : x = y + k * 18446744073709551616) : wrap64 x = wrap64 y := by rw [h, wr_shift]
theorem mod_eq (x : Int) : ∃ k : Int, x % 18446744073709551616 = x + k * 18446744073709551616 := ⟨-(x / 18446744073709551616), by omega⟩
theorem wr_mods (x y q : Int) : wrap64 (x % 18446744073709551616 + y % 18446744073709551616 * q) = wrap64 (x + y * q) := by
  obtain ⟨k, hk⟩ := mod_eq x
  obtain ⟨j, hj⟩ := mod_eq y
  refine wr_of_eq _ _ (k + j * q) ?_
  rw [hk, hj, Int.add_mul, Int.add_mul, Int.mul_assoc j, Int.mul_comm 18446744073709551616 q, ← Int.mul_assoc]
  omega
theorem wr_mods2 (x y : Int) : wrap64 (x % 18446744073709551616 * (y % 18446744073709551616)) = wrap64 (x * y) := by
  have h := wr_mods 0 x (y % 18446744073709551616)
  simp only [Int.zero_emod, Int.zero_add] at h
  rw [h, Int.mul_comm]
  have h := wr_mods 0 y x
  simp only [Int.zero_emod, Int.zero_add] at h
  rw [h, Int.mul_comm]
theorem times_odd (o x y ab : Int) (hy : y % 2 = 1) (h : wrap64 (o + x * y) = wrap64 ab) : wrap64 ((o + x) % 18446744073709551616 + (x + x) % 18446744073709551616 * (y / 2)) = wrap64 ab := by
  rw [wr_mods, ← h]
  obtain ⟨q, rfl⟩ : ∃ q, y = 2 * q + 1 := ⟨y / 2, by omega⟩
  rw [show (2 * q + 1) / 2 = q by omega, Int.mul_add, Int.add_mul, show x * (2 * q) = x * q + x * q by rw [← Int.mul_assoc, Int.mul_comm x 2, Int.mul_assoc]; omega]
  congr 1; omega
theorem times_even (o x y ab : Int) (hy : y % 2 = 0) (h0 : 0 ≤ o) (h1 : o ≤ 18446744073709551615) (h : wrap64 (o + x * y) = wrap64 ab) : wrap64 (o + (x + x) % 18446744073709551616 * (y / 2)) = wrap64 ab := by
  have e : o % 18446744073709551616 = o := by omega
  rw [show o + (x + x) % 18446744073709551616 * (y / 2) = o % 18446744073709551616 + (x + x) % 18446744073709551616 * (y / 2) by rw [e], wr_mods, ← h]
  obtain ⟨q, rfl⟩ : ∃ q, y = 2 * q := ⟨y / 2, by omega⟩
  rw [show 2 * q / 2 = q by omega, Int.add_mul, show x * (2 * q) = x * q + x * q by rw [← Int.mul_assoc, Int.mul_comm x 2, Int.mul_assoc]; omega]
set_option maxHeartbeats 400000 in
theorem times_any (a b : Int) (w : World) (h0 : -9223372036854775808 ≤ a) (h1 : a ≤ 9223372036854775807) (g0 : -9223372036854775808 ≤ b) (g1 : b ≤ 9223372036854775807) :
    Calls Try.prog 108 #[.int .i64 a, .int .i64 b] w fun e w' => e = .returned (.int .i64 (wrap64 (a * b))) ∧ w' = w := by
  go_enter Try.func108, Try.ntmps108
  go_wp2
  go_loop [5, 6, 7] (fun x y o => ∃ X Y O : Int, 0 ≤ X ∧ X ≤ 18446744073709551615 ∧ 0 ≤ Y ∧ Y ≤ 18446744073709551615 ∧ 0 ≤ O ∧ O ≤ 18446744073709551615 ∧ x = .int .u64 X ∧ y = .int .u64 Y ∧ o = .int .u64 O ∧ wrap64 (O + X * Y) = wrap64 (a * b)) (fun _ y _ => (intOf y).toNat)
  case atStart =>
    refine ⟨a % 18446744073709551616, b % 18446744073709551616, 0, by omega, by omega, by omega, by omega, by omega, by omega, by rw [u64_wrap], by rw [u64_wrap], rfl, ?_⟩
    rw [Int.zero_add, wr_mods2]
  case round =>
    obtain ⟨X, Y, O, hX0, hX1, hY0, hY1, hO0, hO1, rfl, rfl, rfl, hr⟩ := hrel
    have HR := Lib.hid hr; clear hr
    by_cases hy : 0 < Y
    · by_cases hp : Y % 2 = 1
      · have hq : (Y % 2 == 1) = true := by simpa using hp
        have HP := Lib.hid hp; clear hp
        go_wp2
        go_round
        case rel => exact ⟨(X + X) % 18446744073709551616, Y / 2, (O + X) % 18446744073709551616, by omega, by omega, by omega, by omega, by omega, by omega, by rw [u64_wrap], rfl, by rw [u64_wrap], times_odd _ _ _ _ HP.out HR.out⟩
        case measure => simp [intOf]; omega
      · have hq : (Y % 2 == 1) = false := by simpa using hp
        have HP := Lib.hid (show Y % 2 = 0 by omega); clear hp
        go_wp2
        go_round
        case rel => exact ⟨(X + X) % 18446744073709551616, Y / 2, O, by omega, by omega, by omega, by omega, by omega, by omega, by rw [u64_wrap], rfl, rfl, times_even _ _ _ _ HP.out hO0 hO1 HR.out⟩
        case measure => simp [intOf]; omega
    · go_wp2
      go_ret
      refine ⟨ret_int ?_, rfl⟩
      have e := HR.out
      rw [show Y = 0 by omega, Int.mul_zero, Int.add_zero] at e
      exact e
def DivRel (a b : Int) (q l i : Value) : Prop := ∃ (k : Nat) (Q L : Int), k ≤ 64 ∧ 0 ≤ Q ∧ 0 ≤ L ∧ L < b ∧ a / 2 ^ (64 - k) = Q * b + L ∧ q = .int .u64 Q ∧ l = .int .u64 L ∧ i = .int .i64 (63 - k)
theorem half_pow (a : Int) (k : Nat) (hk : k < 64) : a / 2 ^ (64 - k) = a / 2 ^ (63 - k) / 2 := by
  rw [show 64 - k = (63 - k) + 1 by omega, Int.pow_succ]
  exact (Int.ediv_ediv_of_nonneg (Int.le_of_lt (Int.pow_pos (by omega)))).symm
theorem pow_bd (a : Int) (k : Nat) (h0 : 0 ≤ a) (h1 : a ≤ 18446744073709551615) : 0 ≤ a / 2 ^ (63 - k) ∧ a / 2 ^ (63 - k) ≤ 18446744073709551615 := by
  have hp : (0 : Int) < 2 ^ (63 - k) := Int.pow_pos (by omega)
  refine ⟨Int.ediv_nonneg h0 (Int.le_of_lt hp), Int.le_trans (Int.ediv_le_self _ h0) h1⟩
theorem le_mul_pos (Q b : Int) (hQ : 0 ≤ Q) (hb : 1 ≤ b) : Q ≤ Q * b := by
  have := Int.mul_le_mul_of_nonneg_left hb hQ
  rw [Int.mul_one] at this
  exact this
theorem div_sub (a b Q L : Int) (k : Nat) (hk : k < 64) (h0 : 0 ≤ a) (h1 : a ≤ 18446744073709551615) (g0 : 1 ≤ b) (g1 : b ≤ 18446744073709551615) (hQ0 : 0 ≤ Q) (hL0 : 0 ≤ L) (hL1 : L < b) (hr : a / 2 ^ (64 - k) = Q * b + L)
    (hc : b ≤ L * 2 + a / 2 ^ (63 - k) % 2) (q' l' : Int) (hq : q' = Q * 2 + 1) (hl : l' = L * 2 + a / 2 ^ (63 - k) % 2 - b) :
    DivRel a b (.int .u64 q') (.int .u64 l') (.int .i64 (63 - k - 1)) := by
  subst hq hl
  obtain ⟨d0, d1⟩ := pow_bd a k h0 h1
  rw [half_pow a k hk] at hr
  have hm : (Q * 2 + 1) * b = 2 * (Q * b) + b := by rw [Int.add_mul, Int.one_mul, Int.mul_comm Q 2, Int.mul_assoc]
  refine ⟨k + 1, Q * 2 + 1, L * 2 + a / 2 ^ (63 - k) % 2 - b, by omega, by omega, by omega, by omega, ?_, rfl, rfl, by congr 1; omega⟩
  rw [show 64 - (k + 1) = 63 - k by omega, hm]
  generalize a / 2 ^ (63 - k) = D at *
  omega
theorem div_not (a b Q L : Int) (k : Nat) (hk : k < 64) (h0 : 0 ≤ a) (h1 : a ≤ 18446744073709551615) (g0 : 1 ≤ b) (g1 : b ≤ 18446744073709551615) (hQ0 : 0 ≤ Q) (hL0 : 0 ≤ L) (hL1 : L < b) (hr : a / 2 ^ (64 - k) = Q * b + L)
    (hc : L * 2 + a / 2 ^ (63 - k) % 2 < b) (q' l' : Int) (hq : q' = Q * 2) (hl : l' = L * 2 + a / 2 ^ (63 - k) % 2) :
    DivRel a b (.int .u64 q') (.int .u64 l') (.int .i64 (63 - k - 1)) := by
  subst hq hl
  obtain ⟨d0, d1⟩ := pow_bd a k h0 h1
  rw [half_pow a k hk] at hr
  have hm : (Q * 2) * b = 2 * (Q * b) := by rw [Int.mul_comm Q 2, Int.mul_assoc]
  refine ⟨k + 1, Q * 2, L * 2 + a / 2 ^ (63 - k) % 2, by omega, by omega, by omega, by omega, ?_, rfl, rfl, by congr 1; omega⟩
  rw [show 64 - (k + 1) = 63 - k by omega, hm]
  generalize a / 2 ^ (63 - k) = D at *
  omega
theorem div_nums (a b Q L : Int) (k : Nat) (hk : k < 64) (h0 : 0 ≤ a) (h1 : a ≤ 18446744073709551615) (g0 : 1 ≤ b) (hQ0 : 0 ≤ Q) (hL0 : 0 ≤ L) (hr : a / 2 ^ (64 - k) = Q * b + L) :
    (a / 2 ^ (63 - k)).tmod 2 = a / 2 ^ (63 - k) % 2 ∧ Q * 2 + 1 ≤ 18446744073709551615 := by
  obtain ⟨d0, d1⟩ := pow_bd a k h0 h1
  have := le_mul_pos Q b hQ0 g0
  rw [half_pow a k hk] at hr
  exact ⟨Int.tmod_eq_emod_of_nonneg d0, by omega⟩
theorem div_one (a b Q L : Int) (k : Nat) (hk : k < 64) (h0 : 0 ≤ a) (h1 : a ≤ 18446744073709551615) (g0 : 1 ≤ b) (g1 : b ≤ 18446744073709551615) (hQ0 : 0 ≤ Q) (hL0 : 0 ≤ L) (hL1 : L < b) (hr : a / 2 ^ (64 - k) = Q * b + L)
    (hh : L < 9223372036854775808) (hc : 9223372036854775808 ≤ L ∨ b ≤ IntKind.u64.wrap (L * 2 + (a / 2 ^ (63 - k)).tmod 2)) :
    DivRel a b (.int .u64 (IntKind.u64.wrap (IntKind.u64.wrap (Q * 2) + 1))) (.int .u64 (IntKind.u64.wrap (IntKind.u64.wrap (L * 2 + (a / 2 ^ (63 - k)).tmod 2) - b))) (.int .i64 (63 - k - 1)) := by
  obtain ⟨n1, n2⟩ := div_nums a b Q L k hk h0 h1 g0 hQ0 hL0 hr
  rw [n1, u64_wrap] at hc
  simp only [n1, u64_wrap]
  exact div_sub a b Q L k hk h0 h1 g0 g1 hQ0 hL0 hL1 hr (by omega) _ _ (by omega) (by omega)
theorem div_two (a b Q L : Int) (k : Nat) (hk : k < 64) (h0 : 0 ≤ a) (h1 : a ≤ 18446744073709551615) (g0 : 1 ≤ b) (g1 : b ≤ 18446744073709551615) (hQ0 : 0 ≤ Q) (hL0 : 0 ≤ L) (hL1 : L < b) (hr : a / 2 ^ (64 - k) = Q * b + L)
    (hc : L < 9223372036854775808 ∧ IntKind.u64.wrap (L * 2 + (a / 2 ^ (63 - k)).tmod 2) < b) :
    DivRel a b (.int .u64 (IntKind.u64.wrap (Q * 2))) (.int .u64 (IntKind.u64.wrap (L * 2 + (a / 2 ^ (63 - k)).tmod 2))) (.int .i64 (63 - k - 1)) := by
  obtain ⟨n1, n2⟩ := div_nums a b Q L k hk h0 h1 g0 hQ0 hL0 hr
  rw [n1, u64_wrap] at hc
  simp only [n1, u64_wrap]
  exact div_not a b Q L k hk h0 h1 g0 g1 hQ0 hL0 hL1 hr (by omega) _ _ (by omega) (by omega)
theorem div_three (a b Q L : Int) (k : Nat) (hk : k < 64) (h0 : 0 ≤ a) (h1 : a ≤ 18446744073709551615) (g0 : 1 ≤ b) (g1 : b ≤ 18446744073709551615) (hQ0 : 0 ≤ Q) (hL0 : 0 ≤ L) (hL1 : L < b) (hr : a / 2 ^ (64 - k) = Q * b + L)
    (hh : ¬ L < 9223372036854775808) :
    DivRel a b (.int .u64 (IntKind.u64.wrap (IntKind.u64.wrap (Q * 2) + 1))) (.int .u64 (IntKind.u64.wrap (IntKind.u64.wrap (IntKind.u64.wrap (L * 2) + (a / 2 ^ (63 - k)).tmod 2) - b))) (.int .i64 (63 - k - 1)) := by
  obtain ⟨n1, n2⟩ := div_nums a b Q L k hk h0 h1 g0 hQ0 hL0 hr
  simp only [n1, u64_wrap]
  exact div_sub a b Q L k hk h0 h1 g0 g1 hQ0 hL0 hL1 hr (by omega) _ _ (by omega) (by omega)
set_option maxHeartbeats 400000 in
theorem divide_any (a b : Int) (w : World) (h0 : 0 ≤ a) (h1 : a ≤ 18446744073709551615) (g0 : 1 ≤ b) (g1 : b ≤ 18446744073709551615) :
    Calls Try.prog 118 #[.int .u64 a, .int .u64 b] w fun e w' => e = .returned (.tuple #[.int .u64 (a / b), .int .u64 (a % b)]) ∧ w' = w := by
  go_enter Try.func118, Try.ntmps118
  go_wp2
  go_loop [6, 7, 8] (fun q l i => DivRel a b q l i) (fun _ _ i => (intOf i + 1).toNat)
  case atStart => exact ⟨0, 0, 0, by omega, by omega, by omega, by omega, by simp; omega, rfl, rfl, rfl⟩
  case round =>
    obtain ⟨k, Q, L, hk, hQ0, hL0, hL1, hr, rfl, rfl, rfl⟩ := hrel
    have HR := Lib.hid hr; clear hr
    by_cases hy : k < 64
    · have s0 : (0 : Int) ≤ 63 - k := by omega
      have s1 : (63 - k : Int) ≤ 63 := by omega
      go_wp2
      all_goals
        go_round
        case rel =>
          first
            | exact div_one a b Q L k hy h0 h1 g0 g1 hQ0 hL0 hL1 HR.out (by assumption) (by assumption)
            | exact div_two a b Q L k hy h0 h1 g0 g1 hQ0 hL0 hL1 HR.out (by assumption)
            | exact div_three a b Q L k hy h0 h1 g0 g1 hQ0 hL0 hL1 HR.out (by assumption)
        case measure => simp [intOf]; omega
    · obtain rfl : k = 64 := by omega
      go_wp2
      go_ret2
      have e := HR.out
      rw [show 64 - 64 = 0 from rfl, Int.pow_zero, Int.ediv_one] at e
      have hu := (Int.ediv_emod_unique (a := a) (b := b) (q := Q) (r := L) (by omega)).2 ⟨by rw [e, Int.mul_comm]; omega, hL0, hL1⟩
      refine ⟨?_, rfl⟩
      rw [hu.1, hu.2]
      rfl
theorem dist_neg {a : Int} (h : a < 0) : dist a = -a := by unfold dist; rw [if_pos h]
theorem dist_pos {a : Int} (h : ¬ a < 0) : dist a = a := by unfold dist; rw [if_neg h]
theorem quot_nn {a b : Int} (ha : a < 0) (hb : b < 0) : a.tdiv b = dist a / dist b ∧ a.tmod b = -(dist a % dist b) := by
  rw [dist_neg ha, dist_neg hb, ← Int.tdiv_eq_ediv_of_nonneg (show 0 ≤ -a by omega), ← Int.tmod_eq_emod_of_nonneg (show 0 ≤ -a by omega), Int.neg_tdiv, Int.tdiv_neg, Int.neg_tmod, Int.tmod_neg]
  omega
theorem quot_np {a b : Int} (ha : a < 0) (hb : ¬ b < 0) : a.tdiv b = -(dist a / dist b) ∧ a.tmod b = -(dist a % dist b) := by
  rw [dist_neg ha, dist_pos hb, ← Int.tdiv_eq_ediv_of_nonneg (show 0 ≤ -a by omega), ← Int.tmod_eq_emod_of_nonneg (show 0 ≤ -a by omega), Int.neg_tdiv, Int.neg_tmod]
  omega
theorem quot_pn {a b : Int} (ha : ¬ a < 0) (hb : b < 0) : a.tdiv b = -(dist a / dist b) ∧ a.tmod b = dist a % dist b := by
  rw [dist_pos ha, dist_neg hb, ← Int.tdiv_eq_ediv_of_nonneg (show 0 ≤ a by omega), ← Int.tmod_eq_emod_of_nonneg (show 0 ≤ a by omega), Int.tdiv_neg, Int.tmod_neg]
  omega
theorem quot_pp {a b : Int} (ha : ¬ a < 0) (hb : ¬ b < 0) : a.tdiv b = dist a / dist b ∧ a.tmod b = dist a % dist b := by
  rw [dist_pos ha, dist_pos hb, ← Int.tdiv_eq_ediv_of_nonneg (show 0 ≤ a by omega), ← Int.tmod_eq_emod_of_nonneg (show 0 ≤ a by omega)]
  omega
theorem wr_u64 (x : Int) : wrap64 (IntKind.u64.wrap x) = wrap64 x := by rw [u64_wrap]; unfold wrap64; omega
theorem ret_int2 {k l : IntKind} {a b c d : Int} (h : a = b) (g : c = d) : Ending.returned (.tuple #[.int k a, .int l c]) = .returned (.tuple #[.int k b, .int l d]) := by rw [h, g]
set_option maxHeartbeats 400000 in
theorem quotient_any (a b : Int) (w : World) (h0 : -9223372036854775808 ≤ a) (h1 : a ≤ 9223372036854775807) (g0 : -9223372036854775808 ≤ b) (g1 : b ≤ 9223372036854775807) (hb : b ≠ 0) :
    Calls Try.prog 109 #[.int .i64 a, .int .i64 b] w fun e w' => e = .returned (.tuple #[.int .i64 (wrap64 (a.tdiv b)), .int .i64 (a.tmod b)]) ∧ w' = w := by
  obtain ⟨a0, a1⟩ := dist_bd a h0 h1
  obtain ⟨b0, b1⟩ := dist_bd b g0 g1
  have b2 : 1 ≤ dist b := by unfold dist; split <;> omega
  have l0 : 0 ≤ dist a / dist b := Int.ediv_nonneg a0 b0
  have l1 : dist a / dist b ≤ 9223372036854775808 := Int.le_trans (Int.ediv_le_self _ a0) a1
  have m0 : 0 ≤ dist a % dist b := Int.emod_nonneg _ (by omega)
  have m1 : dist a % dist b < dist b := Int.emod_lt_of_pos _ (by omega)
  by_cases ha : a < 0
  · by_cases hb' : b < 0
    · have Q := Lib.hid (quot_nn ha hb')
      go_enter Try.func109, Try.ntmps109
      go_wp2_with (first
        | (go_at_call 119; refine (size_any _ _ (by omega) (by omega)).mono ?_; rintro e w' ⟨rfl, rfl⟩)
        | (go_at_call 118; refine (divide_any _ _ _ (by omega) (by omega) (by omega) (by omega)).mono ?_; rintro e w' ⟨rfl, rfl⟩))
      go_ret2
      exact ⟨ret_int2 (by rw [Q.out.1]) (by rw [Q.out.2, wr_u64, wr_in _ (by omega) (by omega)]), rfl⟩
    · have Q := Lib.hid (quot_np ha hb')
      have hd : decide (b < 0) = false := by simpa using hb'
      go_enter Try.func109, Try.ntmps109
      go_wp2_with (first
        | (go_at_call 119; refine (size_any _ _ (by omega) (by omega)).mono ?_; rintro e w' ⟨rfl, rfl⟩)
        | (go_at_call 118; refine (divide_any _ _ _ (by omega) (by omega) (by omega) (by omega)).mono ?_; rintro e w' ⟨rfl, rfl⟩))
      go_ret2
      exact ⟨ret_int2 (by rw [Q.out.1, wr_u64]) (by rw [Q.out.2, wr_u64, wr_in _ (by omega) (by omega)]), rfl⟩
  · have hc : decide (a < 0) = false := by simpa using ha
    by_cases hb' : b < 0
    · have Q := Lib.hid (quot_pn ha hb')
      go_enter Try.func109, Try.ntmps109
      go_wp2_with (first
        | (go_at_call 119; refine (size_any _ _ (by omega) (by omega)).mono ?_; rintro e w' ⟨rfl, rfl⟩)
        | (go_at_call 118; refine (divide_any _ _ _ (by omega) (by omega) (by omega) (by omega)).mono ?_; rintro e w' ⟨rfl, rfl⟩))
      go_ret2
      exact ⟨ret_int2 (by rw [Q.out.1, wr_u64]) (by rw [Q.out.2]), rfl⟩
    · have Q := Lib.hid (quot_pp ha hb')
      have hd : decide (b < 0) = false := by simpa using hb'
      go_enter Try.func109, Try.ntmps109
      go_wp2_with (first
        | (go_at_call 119; refine (size_any _ _ (by omega) (by omega)).mono ?_; rintro e w' ⟨rfl, rfl⟩)
        | (go_at_call 118; refine (divide_any _ _ _ (by omega) (by omega) (by omega) (by omega)).mono ?_; rintro e w' ⟨rfl, rfl⟩))
      go_ret2
      exact ⟨ret_int2 (by rw [Q.out.1]) (by rw [Q.out.2]), rfl⟩
set_option maxHeartbeats 400000 in
theorem rbool_any (b : Bool) (w : World) :
    Calls Try.prog 107 #[.bool b] w fun e w' => e = .returned (.int .i64 (truth b)) ∧ w' = w := by
  cases b
  all_goals
    go_enter Try.func107, Try.ntmps107
    go_wp2
    go_ret
    exact ⟨rfl, rfl⟩
set_option maxHeartbeats 400000 in
theorem RTwo_add (a b : Int) (w : World) :
    Calls Try.prog 83 #[.int .i64 9, .int .i64 a, .int .i64 b] w fun e w' => e = .returned (.tuple #[.int .i64 (wrap64 (a + b)), .int .i64 0]) ∧ w' = w := by
  go_enter Try.func83, Try.ntmps83
  go_wp2
  go_ret2
  refine ⟨ret_int2 ?_ rfl, rfl⟩
  simp only [u64_wrap]
  unfold wrap64
  omega
set_option maxHeartbeats 400000 in
theorem RTwo_sub (a b : Int) (w : World) :
    Calls Try.prog 83 #[.int .i64 10, .int .i64 a, .int .i64 b] w fun e w' => e = .returned (.tuple #[.int .i64 (wrap64 (a - b)), .int .i64 0]) ∧ w' = w := by
  go_enter Try.func83, Try.ntmps83
  go_wp2
  go_ret2
  refine ⟨ret_int2 ?_ rfl, rfl⟩
  simp only [u64_wrap]
  unfold wrap64
  omega
set_option maxHeartbeats 400000 in
theorem RTwo_or (a b : Int) (w : World) :
    Calls Try.prog 83 #[.int .i64 1, .int .i64 a, .int .i64 b] w fun e w' => e = .returned (.tuple #[.int .i64 (truth (a != 0 || b != 0)), .int .i64 0]) ∧ w' = w := by
  have k : ∃ x y : Bool, (a == 0) = x ∧ (b == 0) = y ∧ (a != 0) = !x ∧ (b != 0) = !y := ⟨_, _, rfl, rfl, rfl, rfl⟩
  obtain ⟨x, y, k1, k2, k3, k4⟩ := k
  rw [k3, k4]
  clear k3 k4
  cases x <;> cases y
  all_goals
    go_enter Try.func83, Try.ntmps83
    go_wp2_with (go_at_call 107; refine (rbool_any _ _).mono ?_; rintro e w' ⟨rfl, rfl⟩)
    go_ret2
    exact ⟨rfl, rfl⟩
set_option maxHeartbeats 400000 in
theorem RTwo_and (a b : Int) (w : World) :
    Calls Try.prog 83 #[.int .i64 2, .int .i64 a, .int .i64 b] w fun e w' => e = .returned (.tuple #[.int .i64 (truth (a != 0 && b != 0)), .int .i64 0]) ∧ w' = w := by
  have k : ∃ x y : Bool, (a == 0) = x ∧ (b == 0) = y ∧ (a != 0) = !x ∧ (b != 0) = !y := ⟨_, _, rfl, rfl, rfl, rfl⟩
  obtain ⟨x, y, k1, k2, k3, k4⟩ := k
  rw [k3, k4]
  clear k3 k4
  cases x <;> cases y
  all_goals
    go_enter Try.func83, Try.ntmps83
    go_wp2_with (go_at_call 107; refine (rbool_any _ _).mono ?_; rintro e w' ⟨rfl, rfl⟩)
    go_ret2
    exact ⟨rfl, rfl⟩
set_option maxHeartbeats 400000 in
theorem RTwo_eq (a b : Int) (w : World) :
    Calls Try.prog 83 #[.int .i64 3, .int .i64 a, .int .i64 b] w fun e w' => e = .returned (.tuple #[.int .i64 (truth (a == b)), .int .i64 0]) ∧ w' = w := by
  have k : ∃ x : Bool, (a == b) = x ∧ (a != b) = !x := ⟨_, rfl, rfl⟩
  obtain ⟨x, k1, k2⟩ := k
  try rw [k2]
  try rw [k1]
  clear k2
  cases x
  all_goals
    go_enter Try.func83, Try.ntmps83
    go_wp2_with (go_at_call 107; refine (rbool_any _ _).mono ?_; rintro e w' ⟨rfl, rfl⟩)
    go_ret2
    exact ⟨rfl, rfl⟩
set_option maxHeartbeats 400000 in
theorem RTwo_ne (a b : Int) (w : World) :
    Calls Try.prog 83 #[.int .i64 4, .int .i64 a, .int .i64 b] w fun e w' => e = .returned (.tuple #[.int .i64 (truth (a != b)), .int .i64 0]) ∧ w' = w := by
  have k : ∃ x : Bool, (a == b) = x ∧ (a != b) = !x := ⟨_, rfl, rfl⟩
  obtain ⟨x, k1, k2⟩ := k
  try rw [k2]
  try rw [k1]
  clear k2
  cases x
  all_goals
    go_enter Try.func83, Try.ntmps83
    go_wp2_with (go_at_call 107; refine (rbool_any _ _).mono ?_; rintro e w' ⟨rfl, rfl⟩)
    go_ret2
    exact ⟨rfl, rfl⟩
set_option maxHeartbeats 400000 in
theorem RTwo_lt (a b : Int) (w : World) :
    Calls Try.prog 83 #[.int .i64 5, .int .i64 a, .int .i64 b] w fun e w' => e = .returned (.tuple #[.int .i64 (truth (decide (a < b))), .int .i64 0]) ∧ w' = w := by
  have k : ∃ x : Bool, decide (a < b) = x ∧ decide (b ≤ a) = !x := ⟨_, rfl, by rw [← decide_not]; simp [Int.not_lt]⟩
  obtain ⟨x, k1, k2⟩ := k
  try rw [k2]
  try rw [k1]
  clear k2
  cases x
  all_goals
    go_enter Try.func83, Try.ntmps83
    go_wp2_with (go_at_call 107; refine (rbool_any _ _).mono ?_; rintro e w' ⟨rfl, rfl⟩)
    go_ret2
    exact ⟨rfl, rfl⟩
set_option maxHeartbeats 400000 in
theorem RTwo_le (a b : Int) (w : World) :
    Calls Try.prog 83 #[.int .i64 6, .int .i64 a, .int .i64 b] w fun e w' => e = .returned (.tuple #[.int .i64 (truth (decide (a ≤ b))), .int .i64 0]) ∧ w' = w := by
  have k : ∃ x : Bool, decide (b < a) = x ∧ decide (a ≤ b) = !x := ⟨_, rfl, by rw [← decide_not]; simp [Int.not_lt]⟩
  obtain ⟨x, k1, k2⟩ := k
  try rw [k2]
  try rw [k1]
  clear k2
  cases x
  all_goals
    go_enter Try.func83, Try.ntmps83
    go_wp2_with (go_at_call 107; refine (rbool_any _ _).mono ?_; rintro e w' ⟨rfl, rfl⟩)
    go_ret2
    exact ⟨rfl, rfl⟩
set_option maxHeartbeats 400000 in
theorem RTwo_gt (a b : Int) (w : World) :
    Calls Try.prog 83 #[.int .i64 7, .int .i64 a, .int .i64 b] w fun e w' => e = .returned (.tuple #[.int .i64 (truth (decide (b < a))), .int .i64 0]) ∧ w' = w := by
  have k : ∃ x : Bool, decide (b < a) = x ∧ decide (a ≤ b) = !x := ⟨_, rfl, by rw [← decide_not]; simp [Int.not_lt]⟩
  obtain ⟨x, k1, k2⟩ := k
  try rw [k2]
  try rw [k1]
  clear k2
  cases x
  all_goals
    go_enter Try.func83, Try.ntmps83
    go_wp2_with (go_at_call 107; refine (rbool_any _ _).mono ?_; rintro e w' ⟨rfl, rfl⟩)
    go_ret2
    exact ⟨rfl, rfl⟩
set_option maxHeartbeats 400000 in
theorem RTwo_ge (a b : Int) (w : World) :
    Calls Try.prog 83 #[.int .i64 8, .int .i64 a, .int .i64 b] w fun e w' => e = .returned (.tuple #[.int .i64 (truth (decide (b ≤ a))), .int .i64 0]) ∧ w' = w := by
  have k : ∃ x : Bool, decide (a < b) = x ∧ decide (b ≤ a) = !x := ⟨_, rfl, by rw [← decide_not]; simp [Int.not_lt]⟩
  obtain ⟨x, k1, k2⟩ := k
  try rw [k2]
  try rw [k1]
  clear k2
  cases x
  all_goals
    go_enter Try.func83, Try.ntmps83
    go_wp2_with (go_at_call 107; refine (rbool_any _ _).mono ?_; rintro e w' ⟨rfl, rfl⟩)
    go_ret2
    exact ⟨rfl, rfl⟩
end Go.Proofs.Ytjjnboenehomgaa.ariths
end
section
namespace Go.Proofs.Ytjjnboenehomgaa.ariths
open Go.ChangeShapes Go.WideShapes Go.ChangeAt Go.RowKit
set_option linter.unusedVariables false
set_option maxHeartbeats 400000 in
theorem RTwo_mul (a b : Int) (w : World) (h0 : -9223372036854775808 ≤ a) (h1 : a ≤ 9223372036854775807) (g0 : -9223372036854775808 ≤ b) (g1 : b ≤ 9223372036854775807) :
    Calls Try.prog 83 #[.int .i64 11, .int .i64 a, .int .i64 b] w fun e w' => e = .returned (.tuple #[.int .i64 (wrap64 (a * b)), .int .i64 0]) ∧ w' = w := by
  go_enter Try.func83, Try.ntmps83
  go_wp2_with (go_at_call 108; refine (times_any _ _ _ h0 h1 g0 g1).mono ?_; rintro e w' ⟨rfl, rfl⟩)
  go_ret2
  exact ⟨rfl, rfl⟩
set_option maxHeartbeats 400000 in
theorem RTwo_div (a b : Int) (w : World) (h0 : -9223372036854775808 ≤ a) (h1 : a ≤ 9223372036854775807) (g0 : -9223372036854775808 ≤ b) (g1 : b ≤ 9223372036854775807) (hb : b ≠ 0) :
    Calls Try.prog 83 #[.int .i64 12, .int .i64 a, .int .i64 b] w fun e w' => e = .returned (.tuple #[.int .i64 (wrap64 (a.tdiv b)), .int .i64 0]) ∧ w' = w := by
  have z : (b == 0) = false := by simpa using hb
  have HB := Lib.hid hb; clear hb
  go_enter Try.func83, Try.ntmps83
  go_wp2_with (go_at_call 109; refine (quotient_any _ _ _ h0 h1 g0 g1 HB.out).mono ?_; rintro e w' ⟨rfl, rfl⟩)
  go_ret2
  exact ⟨rfl, rfl⟩
set_option maxHeartbeats 400000 in
theorem RTwo_div_zero (a b : Int) (w : World) (hb : b = 0) :
    Calls Try.prog 83 #[.int .i64 12, .int .i64 a, .int .i64 b] w fun e w' => e = .returned (.tuple #[.int .i64 0, .int .i64 1]) ∧ w' = w := by
  subst hb
  go_enter Try.func83, Try.ntmps83
  go_wp2
  go_ret2
  exact ⟨rfl, rfl⟩
set_option maxHeartbeats 400000 in
theorem RTwo_rem (a b : Int) (w : World) (h0 : -9223372036854775808 ≤ a) (h1 : a ≤ 9223372036854775807) (g0 : -9223372036854775808 ≤ b) (g1 : b ≤ 9223372036854775807) (hb : b ≠ 0) :
    Calls Try.prog 83 #[.int .i64 13, .int .i64 a, .int .i64 b] w fun e w' => e = .returned (.tuple #[.int .i64 (a.tmod b), .int .i64 0]) ∧ w' = w := by
  have z : (b == 0) = false := by simpa using hb
  have HB := Lib.hid hb; clear hb
  go_enter Try.func83, Try.ntmps83
  go_wp2_with (go_at_call 109; refine (quotient_any _ _ _ h0 h1 g0 g1 HB.out).mono ?_; rintro e w' ⟨rfl, rfl⟩)
  go_ret2
  exact ⟨rfl, rfl⟩
set_option maxHeartbeats 400000 in
theorem RTwo_rem_zero (a b : Int) (w : World) (hb : b = 0) :
    Calls Try.prog 83 #[.int .i64 13, .int .i64 a, .int .i64 b] w fun e w' => e = .returned (.tuple #[.int .i64 0, .int .i64 1]) ∧ w' = w := by
  subst hb
  go_enter Try.func83, Try.ntmps83
  go_wp2
  go_ret2
  exact ⟨rfl, rfl⟩
set_option maxHeartbeats 400000 in
theorem Two_other (op a b : Int) (w : World) (n1 : (op == 1) = false) (n2 : (op == 2) = false) (n3 : (op == 3) = false) (n4 : (op == 4) = false) (n5 : (op == 5) = false) (n6 : (op == 6) = false) (n7 : (op == 7) = false) (n8 : (op == 8) = false) (n9 : (op == 9) = false) (n10 : (op == 10) = false) (n11 : (op == 11) = false) (n12 : (op == 12) = false) (n13 : (op == 13) = false) :
    Calls Try.prog 78 #[.int .i64 op, .int .i64 a, .int .i64 b] w fun e w' => e = .returned (.tuple #[.int .i64 0, .int .i64 0]) ∧ w' = w := by
  go_enter Try.func78, Try.ntmps78
  go_wp2
  go_ret2
  exact ⟨rfl, rfl⟩
set_option maxHeartbeats 400000 in
theorem RTwo_other (op a b : Int) (w : World) (n1 : (op == 1) = false) (n2 : (op == 2) = false) (n3 : (op == 3) = false) (n4 : (op == 4) = false) (n5 : (op == 5) = false) (n6 : (op == 6) = false) (n7 : (op == 7) = false) (n8 : (op == 8) = false) (n9 : (op == 9) = false) (n10 : (op == 10) = false) (n11 : (op == 11) = false) (n12 : (op == 12) = false) (n13 : (op == 13) = false) :
    Calls Try.prog 83 #[.int .i64 op, .int .i64 a, .int .i64 b] w fun e w' => e = .returned (.tuple #[.int .i64 0, .int .i64 0]) ∧ w' = w := by
  have m12 : (op != 12) = true := by rw [bne, n12]; rfl
  have m13 : (op != 13) = true := by rw [bne, n13]; rfl
  go_enter Try.func83, Try.ntmps83
  go_wp2
  go_ret2
  exact ⟨rfl, rfl⟩
set_option maxHeartbeats 400000 in
theorem One_other (op a : Int) (w : World) (n1 : (op == 1) = false) (n2 : (op == 2) = false) :
    Calls Try.prog 80 #[.int .i64 op, .int .i64 a] w fun e w' => e = .returned (.tuple #[.int .i64 0, .int .i64 0]) ∧ w' = w := by
  go_enter Try.func80, Try.ntmps80
  go_wp2
  go_ret2
  exact ⟨rfl, rfl⟩
set_option maxHeartbeats 400000 in
theorem ROne_other (op a : Int) (w : World) (n1 : (op == 1) = false) (n2 : (op == 2) = false) :
    Calls Try.prog 82 #[.int .i64 op, .int .i64 a] w fun e w' => e = .returned (.int .i64 0) ∧ w' = w := by
  go_enter Try.func82, Try.ntmps82
  go_wp2
  go_ret
  exact ⟨rfl, rfl⟩
set_option maxHeartbeats 400000 in
theorem ROne_neg (a : Int) (w : World) :
    Calls Try.prog 82 #[.int .i64 1, .int .i64 a] w fun e w' => e = .returned (.int .i64 (wrap64 (-a))) ∧ w' = w := by
  go_enter Try.func82, Try.ntmps82
  go_wp2
  go_ret
  refine ⟨ret_int ?_, rfl⟩
  simp only [u64_wrap]
  unfold wrap64
  omega
set_option maxHeartbeats 400000 in
theorem ROne_not (a : Int) (w : World) :
    Calls Try.prog 82 #[.int .i64 2, .int .i64 a] w fun e w' => e = .returned (.int .i64 (truth (a == 0))) ∧ w' = w := by
  go_enter Try.func82, Try.ntmps82
  go_wp2_with (go_at_call 107; refine (rbool_any _ _).mono ?_; rintro e w' ⟨rfl, rfl⟩)
  go_ret
  exact ⟨rfl, rfl⟩
def Tells (op a b x t z : Int) : Prop := ∀ W : World,
  (Calls Try.prog 78 #[.int .i64 op, .int .i64 a, .int .i64 b] W fun e w' => e = .returned (.tuple #[.int .i64 x, .int .i64 t]) ∧ w' = W) ∧
  (Calls Try.prog 83 #[.int .i64 op, .int .i64 a, .int .i64 b] W fun e w' => e = .returned (.tuple #[.int .i64 x, .int .i64 t]) ∧ w' = W) ∧
  (Calls Try.prog 80 #[.int .i64 op, .int .i64 a] W fun e w' => e = .returned (.tuple #[.int .i64 z, .int .i64 0]) ∧ w' = W) ∧
  (Calls Try.prog 82 #[.int .i64 op, .int .i64 a] W fun e w' => e = .returned (.int .i64 z) ∧ w' = W)
end Go.Proofs.Ytjjnboenehomgaa.ariths
end
section
namespace Go.Proofs.Ytjjnboenehomgaa.tr
open Go.ChangeShapes Go.WideShapes Go.ChangeAt Go.RowKit
open bs
set_option linter.unusedVariables false
inductive Tr (α : Type) where
  | mk (x : α) (l : List (Tr α))
namespace Tr
variable {α : Type}
def lab : Tr α → α
  | .mk x _ => x
def kids : Tr α → List (Tr α)
  | .mk _ l => l
theorem ind {P : Tr α → Prop} (h : ∀ x l, (∀ y ∈ l, P y) → P (.mk x l)) (t : Tr α) : P t :=
  Tr.rec (motive_1 := P) (motive_2 := fun l => ∀ y ∈ l, P y) h (fun y hy => by simp at hy) (fun x l hx hl y hy => by
    rcases List.mem_cons.1 hy with rfl | hy
    · exact hx
    · exact hl y hy) t
theorem eta (t : Tr α) : t = .mk t.lab t.kids := by cases t; rfl
noncomputable def fold {β : Type} (g : α → List (Tr α) → List β → β) (t : Tr α) : β :=
  Tr.rec (motive_1 := fun _ => β) (motive_2 := fun _ => List β) (fun x l ih => g x l ih) [] (fun _ _ a b => a :: b) t
theorem fold_mk {β : Type} (g : α → List (Tr α) → List β → β) (x : α) (l : List (Tr α)) : fold g (.mk x l) = g x l (l.map (fold g)) := by
  show g x l _ = _
  congr 1
  induction l with
  | nil => rfl
  | cons y l ih => show fold g y :: _ = _; rw [ih]; rfl
noncomputable def size (t : Tr α) : Nat := fold (fun _ _ b => 1 + b.sum) t
theorem size_mk (x : α) (l : List (Tr α)) : size (.mk x l) = 1 + (l.map size).sum := fold_mk _ x l
noncomputable def depth (t : Tr α) : Nat := fold (fun _ _ b => b.foldl max 0 + 1) t
theorem size_pos (t : Tr α) : 0 < size t := by cases t; rw [size_mk]; omega
def at' : Tr α → List Int → Option (Tr α)
  | t, [] => some t
  | t, i :: p => if 0 ≤ i ∧ i < t.kids.length then (t.kids[i.toNat]?).bind fun y => at' y p else none
def put : Tr α → List Int → Tr α → Tr α
  | _, [], x => x
  | t, i :: p, x => .mk t.lab (t.kids.modify i.toNat fun y => put y p x)
end Tr
def HStays {α : Type} (Hd : World → Nat → Nat → α → Option Addr → Nat → Nat → Prop) : Prop := ∀ w w' b o x a m c, Hd w b o x a m c → w'.heap[b]? = w.heap[b]? → Hd w' b o x a m c
inductive Ta {α : Type} (size : Nat) (Hd : World → Nat → Nat → α → Option Addr → Nat → Nat → Prop) (S : Nat → Prop) (w : World) : Nat → Nat → Tr α → Prop where
  | leaf (b o : Nat) (x : α) (a : Option Addr) (c : Nat) (h : Hd w b o x a 0 c) (hm : c ≤ 9223372036854775807) (hn : a = none → c = 0) : Ta size Hd S w b o (.mk x [])
  | node (b o : Nat) (x : α) (l : List (Tr α)) (b' off c : Nat) (h : Hd w b o x (some ⟨b', off, none⟩) l.length c) (hc : l.length ≤ c) (hm : c ≤ 9223372036854775807) (hb : b' < w.heap.size) (hS : S b')
      (hl : ∀ (i : Nat) (y : Tr α), l[i]? = some y → Ta size Hd S w b' (off + i * size) y) : Ta size Hd S w b o (.mk x l)
section
variable {α : Type} {size : Nat} {Hd : World → Nat → Nat → α → Option Addr → Nat → Nat → Prop} {S S' : Nat → Prop}
abbrev Ts (size : Nat) (Hd : World → Nat → Nat → α → Option Addr → Nat → Nat → Prop) (S : Nat → Prop) (w : World) (a : Option Addr) (n c : Nat) (l : List (Tr α)) : Prop := Recs size (fun w b o t => Ta size Hd S w b o t) w a n c l
def SB (S : Nat → Prop) (a : Option Addr) (n : Nat) : Prop := 0 < n → ∀ b off, a = some ⟨b, off, none⟩ → S b
theorem Ta.out {w : World} {b o : Nat} {x : α} {l : List (Tr α)} (h : Ta size Hd S w b o (.mk x l)) : ∃ a m c, Hd w b o x a m c ∧ Ts size Hd S w a m c l ∧ SB S a m := by
  cases h with
  | leaf _ _ _ a c h hm hn => exact ⟨a, 0, c, h, ⟨rfl, Nat.zero_le _, hm, hn, .inl rfl⟩, fun h => absurd h (Nat.lt_irrefl _)⟩
  | node _ _ _ _ b' off c h hc hm hb hS hl => exact ⟨_, _, c, h, ⟨rfl, hc, hm, by simp, .inr ⟨b', off, rfl, hb, hl⟩⟩, fun _ b o he => by cases he; exact hS⟩
theorem Ta.intro {w : World} {b o : Nat} {x : α} {l : List (Tr α)} {a m c} (h : Hd w b o x a m c) (hr : Ts size Hd S w a m c l) (hs : SB S a m) : Ta size Hd S w b o (.mk x l) := by
  have hl := hr.len
  rcases hr.at' with h0 | ⟨b', off, ha, hb, hk⟩
  · subst h0
    have : l = [] := List.length_eq_zero_iff.1 hl
    subst this
    exact .leaf b o x a c h hr.most hr.nil
  · subst ha hl
    rcases Nat.eq_zero_or_pos l.length with h0 | h0
    · have : l = [] := List.length_eq_zero_iff.1 h0
      subst this
      exact .leaf b o x _ c h hr.most hr.nil
    · exact .node b o x l b' off c h hr.cap hr.most hb (hs h0 _ _ rfl) hk
structure Kp (S : Nat → Prop) (w w' : World) : Prop where
  size : w.heap.size ≤ w'.heap.size
  block : ∀ b, S b → b < w.heap.size → w'.heap[b]? = w.heap[b]?
theorem Kp.of_below {w w' : World} (h : Below w.heap.size w w') : Kp S w w' := ⟨h.size, fun b _ hb => h.block b hb⟩
theorem Ta.agree (hs : HStays Hd) {w w' : World} (hk : Kp S w w') {b o : Nat} {t : Tr α} (h : Ta size Hd S w b o t) (hb : w'.heap[b]? = w.heap[b]?) : Ta size Hd S w' b o t := by
  induction h with
  | leaf b o x a c h hm hn => exact .leaf b o x a c (hs _ _ _ _ _ _ _ _ h hb) hm hn
  | node b o x l b' off c h hc hm hb' hS hl ih => exact .node b o x l b' off c (hs _ _ _ _ _ _ _ _ h hb) hc hm (Nat.lt_of_lt_of_le hb' hk.size) hS (fun i y hi => ih i y hi (hk.block b' hS hb'))
theorem Ta.weak {w : World} {b o : Nat} {t : Tr α} (h : Ta size Hd S w b o t) (hS : ∀ b, b < w.heap.size → S b → S' b) : Ta size Hd S' w b o t := by
  induction h with
  | leaf b o x a c h hm hn => exact .leaf b o x a c h hm hn
  | node b o x l b' off c h hc hm hb' hSb hl ih => exact .node b o x l b' off c h hc hm hb' (hS b' hb' hSb) ih
theorem taStays (hs : HStays Hd) : Stays (fun w b o t => Ta size Hd S w b o t) := fun w w' b o t h hlt hb => Ta.agree hs (.of_below hb) h (hb.block b hlt)
theorem Ts.agree (hs : HStays Hd) {w w' : World} (hk : Kp S w w') {a n c} {l : List (Tr α)} (h : Ts size Hd S w a n c l) (hb : SB S a n) : Ts size Hd S w' a n c l := by
  refine ⟨h.len, h.cap, h.most, h.nil, ?_⟩
  rcases h.at' with h0 | ⟨b, off, ha, hlt, hc⟩
  · exact .inl h0
  · rcases Nat.eq_zero_or_pos n with h0 | h0
    · exact .inl h0
    · exact .inr ⟨b, off, ha, Nat.lt_of_lt_of_le hlt hk.size, fun i x hi => Ta.agree hs hk (hc i x hi) (hk.block b (hb h0 b off ha) hlt)⟩
theorem Ts.weak {w : World} {a n c} {l : List (Tr α)} (h : Ts size Hd S w a n c l) (hS : ∀ b, b < w.heap.size → S b → S' b) : Ts size Hd S' w a n c l := by
  refine ⟨h.len, h.cap, h.most, h.nil, ?_⟩
  rcases h.at' with h0 | ⟨b, off, ha, hlt, hc⟩
  · exact .inl h0
  · exact .inr ⟨b, off, ha, hlt, fun i x hi => Ta.weak (hc i x hi) hS⟩
theorem SB.weak {w : World} {a n c} {l : List (Tr α)} (hb : SB S a n) (h : Ts size Hd S w a n c l) (hS : ∀ b, b < w.heap.size → S b → S' b) : SB S' a n := by
  intro h0 b off ha
  rcases h.at' with h1 | ⟨b', off', ha', hlt, hc⟩
  · omega
  · have := ha.symm.trans ha'
    cases this
    exact hS b hlt (hb h0 b off ha)
theorem Recs.map {β γ : Type} {size : Nat} {E : World → Nat → Nat → β → Prop} {E' : World → Nat → Nat → γ → Prop} {w : World} {a n c} {l : List β} (f : β → γ) (h : Recs size E w a n c l) (hf : ∀ b o x, x ∈ l → b < w.heap.size → E w b o x → E' w b o (f x)) :
    Recs size E' w a n c (l.map f) := by
  refine ⟨by simpa using h.len, h.cap, h.most, h.nil, ?_⟩
  rcases h.at' with h0 | ⟨b, off, ha, hlt, hc⟩
  · exact .inl h0
  · refine .inr ⟨b, off, ha, hlt, fun i y hi => ?_⟩
    rw [List.getElem?_map] at hi
    obtain ⟨x, hx, rfl⟩ := Option.map_eq_some_iff.1 hi
    exact hf _ _ _ (List.mem_of_getElem? hx) hlt (hc i x hx)
theorem Recs.one {β : Type} {size : Nat} {E : World → Nat → Nat → β → Prop} {w : World} {a n c} {l : List β} (h : Recs size E w a n c l) (i : Nat) (x : β) (hi : l[i]? = some x) : ∃ b off, a = some ⟨b, off, none⟩ ∧ b < w.heap.size ∧ E w b (off + i * size) x := by
  rcases h.at' with h0 | ⟨b, off, ha, hlt, hc⟩
  · have := h.len; have := (List.getElem?_eq_some_iff.1 hi).1; omega
  · exact ⟨b, off, ha, hlt, hc i x hi⟩
theorem Recs.lt {β : Type} {size : Nat} {E : World → Nat → Nat → β → Prop} {w : World} {a n c} {l : List β} (h : Recs size E w a n c l) (i : Nat) (hi : i < n) : ∃ x, l[i]? = some x := ⟨l[i]'(by rw [h.len]; exact hi), List.getElem?_eq_getElem _⟩
section
variable {H : Type} {enc : TypeId × Value → H} {P : Program} {w : World}
end
end
end Go.Proofs.Ytjjnboenehomgaa.tr
end
section
namespace Go.Proofs.Ytjjnboenehomgaa.bs
open Go.ChangeShapes Go.WideShapes Go.ChangeAt Go.RowKit
set_option linter.unusedVariables false
def AllI (l : List Int) : Prop := ∀ n ∈ l, -9223372036854775808 ≤ n ∧ n ≤ 9223372036854775807
structure I64s (w : World) (a : Option Addr) (n c : Nat) (l : List Int) : Prop where
  len : l.length = n
  cap : n ≤ c
  most : c ≤ 9223372036854775807
  all : AllI l
  nil : a = none → c = 0
  at' : n = 0 ∨ ∃ b off, a = some ⟨b, off, none⟩ ∧ ∀ i, i < n → w.cell? ⟨b, off + i, none⟩ = some (.int .i64 (l.getD i 0))
theorem I64s.drewN {w : World} {a n c l} (h : I64s w a n c l) (m : Nat) : I64s (w.drewN m) a n c l :=
  ⟨h.len, h.cap, h.most, h.all, h.nil, h.at'⟩
theorem I64s.below {w w' : World} {a n c l} (h : I64s w a n c l) (hb : Below w.heap.size w w') : I64s w' a n c l := by
  refine ⟨h.len, h.cap, h.most, h.all, h.nil, ?_⟩
  rcases h.at' with h0 | ⟨b, off, ha, hc⟩
  · exact .inl h0
  · refine .inr ⟨b, off, ha, fun i hi => ?_⟩
    rw [hb.cell (World.block_lt_of_cell? w _ (hc i hi))]
    exact hc i hi
theorem AllI.getD {l : List Int} (h : AllI l) (i : Nat) : -9223372036854775808 ≤ l.getD i 0 ∧ l.getD i 0 ≤ 9223372036854775807 := by
  rw [List.getD_eq_getElem?_getD]
  rcases Nat.lt_or_ge i l.length with hi | hi
  · rw [List.getElem?_eq_getElem hi]; exact h _ (List.getElem_mem hi)
  · rw [List.getElem?_eq_none hi]; simp
def cellsI (l : List Int) : List Value := l.map (Value.int .i64)
structure OwnI (w : World) (base : Nat) (e : TypeId) (a : Option Addr) (n c : Nat) (l : List Int) : Prop where
  own : w.ownsRow base e 1 (.slice a n c) n (cellsI l)
  all : AllI l
theorem OwnI.len {w : World} {base e a n c l} (h : OwnI w base e a n c l) : l.length = n := by
  have := h.own.1
  simpa [cellsI] using this
theorem OwnI.cases {w : World} {base e a n c l} (h : OwnI w base e a n c l) : (a = none ∧ n = 0 ∧ c = 0) ∨ ∃ g, a = some ⟨g, 0, none⟩ ∧ base ≤ g ∧ g < w.heap.size ∧ n ≤ c ∧ c ≤ maxLen := by
  rcases h.own.2 with ⟨hv, hn⟩ | ⟨g, cap, cur, hv, hg, hh, hn, hc, _⟩
  · simp only [Value.slice.injEq] at hv
    exact .inl ⟨hv.1, hn, hv.2.2⟩
  · simp only [Value.slice.injEq] at hv
    obtain ⟨rfl, _, rfl⟩ := hv
    exact .inr ⟨g, rfl, hg, (Array.getElem?_eq_some_iff.1 hh).1, hn, hc⟩
theorem OwnI.reads {w : World} {base e a n c l} (h : OwnI w base e a n c l) : I64s w a n c l := by
  rcases h.cases with ⟨rfl, rfl, rfl⟩ | ⟨g, rfl, hg, hs, hn, hc⟩
  · exact ⟨h.len, Nat.le_refl _, by omega, h.all, fun _ => rfl, .inl rfl⟩
  · refine ⟨h.len, hn, by unfold maxLen at hc; omega, h.all, by simp, .inr ⟨g, 0, rfl, fun i hi => ?_⟩⟩
    rw [Nat.zero_add, h.own.cellAt i (by omega), cellsI, List.getElem?_map, List.getElem?_eq_getElem (by rw [h.len]; exact hi), List.getD_eq_getElem?_getD, List.getElem?_eq_getElem (by rw [h.len]; exact hi)]
    rfl
theorem OwnI.mono {w : World} {base base' e a n c l} (h : OwnI w base e a n c l) (hb : base' ≤ base) : OwnI w base' e a n c l := by
  refine ⟨⟨h.own.1, ?_⟩, h.all⟩
  rcases h.own.2 with hv | ⟨g, cap, cur, hv, hg, r⟩
  · exact .inl hv
  · exact .inr ⟨g, cap, cur, hv, Nat.le_trans hb hg, r⟩
theorem OwnI.below {w w' : World} {base e a n c l} (h : OwnI w base e a n c l) (hb : Below w.heap.size w w') : OwnI w' base e a n c l := by
  refine ⟨⟨h.own.1, ?_⟩, h.all⟩
  rcases h.own.2 with hv | ⟨g, cap, cur, hv, hg, hh, r⟩
  · exact .inl hv
  · exact .inr ⟨g, cap, cur, hv, hg, by rw [hb.block g (Array.getElem?_eq_some_iff.1 hh).1]; exact hh, r⟩
theorem OwnI.drewN {w : World} {base e a n c l} (h : OwnI w base e a n c l) (m : Nat) : OwnI (w.drewN m) base e a n c l :=
  h.below (below_drewN (Below.refl _ _) m)
theorem OwnI.drew {w : World} {base e a n c l} (h : OwnI w base e a n c l) : OwnI w.drew base e a n c l :=
  h.below (Below.drew (Below.refl _ _))
theorem OwnI.alloc {w : World} {base e a n c l} (h : OwnI w base e a n c l) (o : Obj) : OwnI (w.alloc o) base e a n c l :=
  h.below ((Below.refl _ _).alloc (Nat.le_refl _) o)
theorem OwnI.nil (w : World) (base : Nat) (e : TypeId) : OwnI w base e none 0 0 [] := ⟨World.ownsRow_nil w base e 1, by simp [AllI]⟩
theorem OwnI.made (w : World) (base : Nat) (e : TypeId) (l : List Int) (cur : Array Value) (hcur : cur = (cellsI l).toArray) (hb : base ≤ w.heap.size) (hl : l.length ≤ maxLen) (hall : AllI l) :
    OwnI (w.alloc (.cells cur e)) base e (some ⟨w.heap.size, 0, none⟩) l.length l.length l := by
  subst hcur
  refine ⟨⟨by simp [cellsI], .inr ⟨w.heap.size, l.length, _, rfl, hb, heap_alloc_new w _, Nat.le_refl _, hl, by simp [cellsI], ?_⟩⟩, hall⟩
  rw [List.take_of_length_le (by simp [cellsI])]
theorem I64s.one (w : World) (e : TypeId) (z : Int) (h0 : -9223372036854775808 ≤ z ∧ z ≤ 9223372036854775807) : I64s (w.alloc (.cells #[.int .i64 z] e)) (some ⟨w.heap.size, 0, none⟩) 1 1 [z] :=
  (OwnI.made w 0 e [z] _ rfl (Nat.zero_le _) (by simp [maxLen]) (by simpa [AllI] using h0)).reads
structure I64T (P : Program) (t e : TypeId) : Prop where
  und : P.underlying t = some (.slice e)
  info : (P.info? e).map (fun i => (i.zero, i.size, i.bytes)) = some (some (.int .i64 0), 1, 8)
section
variable {P : Program} {w : World} {ops : Array Oper} {rest : List Oper} {o : Oper} {a : Act} {Q : Exit → Act → World → Prop}
end
theorem OwnI.stored {w : World} {base e n c l} {g : Nat} (h : OwnI w base e (some ⟨g, 0, none⟩) n c l) (j : Nat) (x : Int) (hx : -9223372036854775808 ≤ x ∧ x ≤ 9223372036854775807) :
    OwnI (w.setCell ⟨g, j, none⟩ (.int .i64 x)) base e (some ⟨g, 0, none⟩) n c (l.set j x) := by
  refine ⟨?_, ?_⟩
  · have := (h.own.stored j (.int .i64 x)).1
    rwa [show cellsI (l.set j x) = (cellsI l).set j (.int .i64 x) by simp [cellsI]]
  · intro y hy
    rcases List.mem_or_eq_of_mem_set hy with h1 | h1
    · exact h.all y h1
    · subst h1; exact hx
theorem OwnI.cellAt {w : World} {base e n c l} {g : Nat} (h : OwnI w base e (some ⟨g, 0, none⟩) n c l) (j : Nat) (hj : j < n) : w.cell? ⟨g, j, none⟩ = some (.int .i64 (l.getD j 0)) := by
  rw [h.own.cellAt j (by omega), cellsI, List.getElem?_map, List.getElem?_eq_getElem (by rw [h.len]; exact hj), List.getD_eq_getElem?_getD, List.getElem?_eq_getElem (by rw [h.len]; exact hj)]
  rfl
theorem OwnI.frozenAt {w : World} {base e n c l} {g : Nat} (h : OwnI w base e (some ⟨g, 0, none⟩) n c l) (j : Nat) : w.frozen? ⟨g, j, none⟩ = false := h.own.frozenAt j
theorem OwnI.keep {w w' : World} {base e n c l} {g : Nat} (h : OwnI w base e (some ⟨g, 0, none⟩) n c l) (hk : w'.heap[g]? = w.heap[g]?) : OwnI w' base e (some ⟨g, 0, none⟩) n c l := by
  refine ⟨⟨h.own.1, ?_⟩, h.all⟩
  rcases h.own.2 with hv | ⟨g', cap, cur, hv, hg, hh, r⟩
  · exact .inl hv
  · refine .inr ⟨g', cap, cur, hv, hg, ?_, r⟩
    simp only [Value.slice.injEq, Option.some.injEq, Addr.mk.injEq, and_true] at hv
    rw [← hv.1, hk, hv.1]
    exact hh
theorem OwnI.block {w : World} {base e n c l} {g : Nat} (h : OwnI w base e (some ⟨g, 0, none⟩) n c l) : ∃ cur, w.heap[g]? = some (.cells cur e (0, 0)) := by
  rcases h.own.2 with ⟨hv, _⟩ | ⟨g', cap, cur, hv, hg, hh, r⟩
  · simp at hv
  · simp only [Value.slice.injEq, Option.some.injEq, Addr.mk.injEq, and_true] at hv
    rw [hv.1]
    exact ⟨cur, hh⟩
end Go.Proofs.Ytjjnboenehomgaa.bs
end
section
namespace Go.Proofs.Ytjjnboenehomgaa.bs
open Go.ChangeShapes Go.WideShapes Go.ChangeAt Go.RowKit
set_option linter.unusedVariables false
section
variable {H : Type} {enc : TypeId × Value → H} {P : Program} {w : World}
theorem in64 {z : Int} (h : (Lit.int .i64 z).wf = true) : -9223372036854775808 ≤ z ∧ z ≤ 9223372036854775807 := by simpa [Lit.wf, IntKind.min, IntKind.max, IntKind.signed, IntKind.bits] using h
end
end Go.Proofs.Ytjjnboenehomgaa.bs
end
section
namespace Go.Proofs.Ytjjnboenehomgaa.bs
open Go.ChangeShapes Go.WideShapes Go.ChangeAt Go.RowKit
set_option linter.unusedVariables false
section
variable {H : Type} {enc : TypeId × Value → H} {P : Program} {w : World}
end
end Go.Proofs.Ytjjnboenehomgaa.bs
end
section
namespace Go.Proofs.Ytjjnboenehomgaa.bs
open Go.ChangeShapes Go.WideShapes Go.ChangeAt Go.RowKit
set_option linter.unusedVariables false
structure OwnS {α : Type} (size : Nat) (cells : α → List Value) (w : World) (base : Nat) (e : TypeId) (a : Option Addr) (n c : Nat) (l : List α) : Prop where
  own : w.ownsRow base e size (.slice a n c) n (l.flatMap cells)
  num : l.length = n
variable {α : Type} {size : Nat} {cells : α → List Value}
theorem OwnS.cases {w : World} {base e a n c} {l : List α} (h : OwnS size cells w base e a n c l) : (a = none ∧ n = 0 ∧ c = 0) ∨ ∃ g, a = some ⟨g, 0, none⟩ ∧ base ≤ g ∧ g < w.heap.size ∧ n ≤ c ∧ c ≤ maxLen := by
  rcases h.own.2 with ⟨hv, hn⟩ | ⟨g, cap, cur, hv, hg, hh, hn, hc, _⟩
  · simp only [Value.slice.injEq] at hv
    exact .inl ⟨hv.1, hn, hv.2.2⟩
  · simp only [Value.slice.injEq] at hv
    obtain ⟨rfl, _, rfl⟩ := hv
    exact .inr ⟨g, rfl, hg, (Array.getElem?_eq_some_iff.1 hh).1, hn, hc⟩
theorem OwnS.mono {w : World} {base base' e a n c} {l : List α} (h : OwnS size cells w base e a n c l) (hb : base' ≤ base) : OwnS size cells w base' e a n c l := by
  refine ⟨⟨h.own.1, ?_⟩, h.num⟩
  rcases h.own.2 with hv | ⟨g, cap, cur, hv, hg, r⟩
  · exact .inl hv
  · exact .inr ⟨g, cap, cur, hv, Nat.le_trans hb hg, r⟩
theorem OwnS.below {w w' : World} {base e a n c} {l : List α} (h : OwnS size cells w base e a n c l) (hb : Below w.heap.size w w') : OwnS size cells w' base e a n c l := by
  refine ⟨⟨h.own.1, ?_⟩, h.num⟩
  rcases h.own.2 with hv | ⟨g, cap, cur, hv, hg, hh, r⟩
  · exact .inl hv
  · exact .inr ⟨g, cap, cur, hv, hg, by rw [hb.block g (Array.getElem?_eq_some_iff.1 hh).1]; exact hh, r⟩
theorem OwnS.nil (w : World) (base : Nat) (e : TypeId) : OwnS size cells w base e none 0 0 ([] : List α) := ⟨World.ownsRow_nil w base e size, rfl⟩
structure RecT (P : Program) (t e : TypeId) (z : Value) (size bytes : Nat) : Prop where
  und : P.underlying t = some (.slice e)
  info : (P.info? e).map (fun i => (i.zero, i.size, i.bytes)) = some (some z, size, bytes)
  zero : z.cells.size = size
section
variable {P : Program} {w : World} {ops : Array Oper} {rest : List Oper} {o : Oper} {a : Act} {Q : Exit → Act → World → Prop}
end
end Go.Proofs.Ytjjnboenehomgaa.bs
end
