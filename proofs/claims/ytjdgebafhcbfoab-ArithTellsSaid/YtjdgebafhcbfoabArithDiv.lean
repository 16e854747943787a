/-
  The walk of the statement of layer 20 on quotients, over the contracts.
-/
import Derived.Test.YtjdgebafhcbfoabArithTwo
namespace Go.Proofs.Ytjdgebafhcbfoab.ariths
open Go.ChangeShapes Go.WideShapes Go.ChangeAt Go.RowKit
set_option linter.unusedVariables false

/-- How far from 0. -/
def dist (a : Int) : Int := if a < 0 then -a else a
theorem dist_bd (a : Int) (h0 : -9223372036854775808 ≤ a) (h1 : a ≤ 9223372036854775807) : 0 ≤ dist a ∧ dist a ≤ 9223372036854775808 := by unfold dist; split <;> omega
theorem ret_int {k : IntKind} {a b : Int} (h : a = b) : Ending.returned (.int k a) = .returned (.int k b) := by rw [h]

set_option maxHeartbeats 400000 in
theorem size_any (a : Int) (w : World) (h0 : -9223372036854775808 ≤ a) (h1 : a ≤ 9223372036854775807) :
    Calls Try.prog 16 #[.int .i64 a] w fun e w' => e = .returned (.int .u64 (dist a)) ∧ w' = w := by
  by_cases h : a < 0
  · have hz : dist a = -(a + 1) + 1 := by unfold dist; rw [if_pos h]; omega
    have Hz := Lib.hid hz; clear hz
    go_enter Try.func16, Try.ntmps16
    go_wp2
    go_ret
    exact ⟨ret_int Hz.out.symm, rfl⟩
  · have hz : dist a = a := by unfold dist; rw [if_neg h]
    have Hz := Lib.hid hz; clear hz
    go_enter Try.func16, Try.ntmps16
    go_wp2
    go_ret
    exact ⟨ret_int Hz.out.symm, rfl⟩

set_option maxRecDepth 100000 in
set_option maxHeartbeats 1000000 in
theorem divides_zero (a : Int) (w : World) :
    Calls Try.prog 6 #[.int .i64 a, .int .i64 0] w fun e w' => e = .returned (.bool true) ∧ w' = w := by
  go_enter Try.func6, Try.ntmps6
  go_wp2_with (first
    | (go_at_call 11; with_reducible refine (Two_div_zero _ _ _ rfl).mono ?_; rintro e w' ⟨rfl, rfl⟩)
    | (go_at_call 11; with_reducible refine (Two_rem_zero _ _ _ rfl).mono ?_; rintro e w' ⟨rfl, rfl⟩))
  go_ret
  exact ⟨rfl, rfl⟩

set_option maxRecDepth 100000 in
set_option maxHeartbeats 1000000 in
theorem divides_core (a b Q R : Int) (w : World) (r0 : -9223372036854775808 ≤ R) (r1 : R ≤ 9223372036854775807) (b0 : -9223372036854775808 ≤ b) (b1 : b ≤ 9223372036854775807)
    (c12 : Hid (∀ W, Calls Try.prog 11 #[.int .i64 12, .int .i64 a, .int .i64 b] W fun e w' => e = .returned (.tuple #[.int .i64 Q, .int .i64 0]) ∧ w' = W))
    (c13 : Hid (∀ W, Calls Try.prog 11 #[.int .i64 13, .int .i64 a, .int .i64 b] W fun e w' => e = .returned (.tuple #[.int .i64 R, .int .i64 0]) ∧ w' = W))
    (hb : (b == 0) = false) (hqr : (wrap64 (wrap64 (Q * b) + R) == a) = true) (hsz : decide (dist R < dist b) = true)
    (hs : ((R == 0) = true) ∨ ((R == 0) = false ∧ a < 0 ∧ R < 0) ∨ ((R == 0) = false ∧ ¬ a < 0 ∧ ¬ R < 0)) :
    Calls Try.prog 6 #[.int .i64 a, .int .i64 b] w fun e w' => e = .returned (.bool true) ∧ w' = w := by
  have e8 : (wrap64 2 == 2) = true := by rw [beq_iff_eq]; unfold wrap64; omega
  rcases hs with hs | ⟨hs, ha, hr⟩ | ⟨hs, ha, hr⟩
  all_goals
    go_enter Try.func6, Try.ntmps6
    go_wp2_with (first
      | (go_at_call 11; with_reducible refine (c12.out _).mono ?_; rintro e w' ⟨rfl, rfl⟩)
      | (go_at_call 11; with_reducible refine (c13.out _).mono ?_; rintro e w' ⟨rfl, rfl⟩)
      | (go_at_call 16; refine (size_any _ _ (by omega) (by omega)).mono ?_; rintro e w' ⟨rfl, rfl⟩)
      | (go_at_call 15; with_reducible refine (two_sub _ _ _).mono ?_; rintro e w' ⟨rfl, rfl⟩))
    go_ret
    exact ⟨rfl, rfl⟩

theorem tdiv_facts (a b : Int) (hb : b ≠ 0) : a.tdiv b * b + a.tmod b = a ∧ dist (a.tmod b) < dist b ∧ (a.tmod b = 0 ∨ (a < 0 ∧ a.tmod b < 0) ∨ (0 ≤ a ∧ 0 < a.tmod b)) := by
  have h := Int.tmod_add_tdiv_mul a b
  have h2 := Int.natAbs_tmod a b
  have h3 : (a.tmod b).natAbs < b.natAbs := by rw [h2]; exact Nat.mod_lt _ (by omega)
  refine ⟨by omega, by unfold dist; split <;> split <;> omega, ?_⟩
  by_cases ha : 0 ≤ a
  · have := Int.tmod_nonneg b ha
    omega
  · have := Int.tmod_nonneg b (show 0 ≤ -a by omega)
    rw [Int.neg_tmod] at this
    omega

theorem divides (a b : Int) (w : World) (h0 : -9223372036854775808 ≤ a) (h1 : a ≤ 9223372036854775807) (b0 : -9223372036854775808 ≤ b) (b1 : b ≤ 9223372036854775807) :
    Calls Try.prog 6 #[.int .i64 a, .int .i64 b] w fun e w' => e = .returned (.bool true) ∧ w' = w := by
  by_cases hb : b = 0
  · subst hb; exact divides_zero a w
  · by_cases hm : b = -1
    · subst hm
      refine divides_core a (-1) (wrap64 (-a)) 0 w (by omega) (by omega) (by omega) (by omega) (Lib.hid fun W => Two_div_neg a (-1) W rfl) (Lib.hid fun W => Two_rem_neg a (-1) W rfl) rfl ?_ (by decide) (.inl rfl)
      rw [wr_mul_l, wr_add_l, beq_iff_eq, show -a * -1 + 0 = a by omega, wr_in a h0 h1]
    · obtain ⟨f1, f2, f3⟩ := tdiv_facts a b hb
      have hR : -9223372036854775808 ≤ a.tmod b ∧ a.tmod b ≤ 9223372036854775807 := by unfold dist at f2; split at f2 <;> split at f2 <;> omega
      refine divides_core a b (wrap64 (a.tdiv b)) (a.tmod b) w hR.1 hR.2 b0 b1 (Lib.hid fun W => Two_div_any a b W h0 h1 b0 b1 hb hm) (Lib.hid fun W => Two_rem_any a b W h0 h1 b0 b1 hb hm) (by simpa using hb) ?_ (by simpa using f2) ?_
      · rw [wr_mul_l, wr_add_l, f1, wr_in a h0 h1, beq_self_eq_true]
      · rcases f3 with f3 | ⟨x, y⟩ | ⟨x, y⟩
        · left; simpa using f3
        · right; left; exact ⟨by rw [beq_eq_false_iff_ne]; omega, x, y⟩
        · right; right; exact ⟨by rw [beq_eq_false_iff_ne]; omega, by omega, by omega⟩
end Go.Proofs.Ytjdgebafhcbfoab.ariths
