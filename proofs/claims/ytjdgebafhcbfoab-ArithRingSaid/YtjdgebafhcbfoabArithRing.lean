/-
  The walks of two statements of layer 20, over the contracts: sums and products in any order; the orders.
-/
import Derived.Test.YtjdgebafhcbfoabArithTwo
namespace Go.Proofs.Ytjdgebafhcbfoab.ariths
open Go.ChangeShapes Go.WideShapes Go.ChangeAt Go.RowKit
set_option linter.unusedVariables false

set_option maxHeartbeats 1000000 in
theorem ring (a b c : Int) (w : World) (h0 : -9223372036854775808 ≤ a) (h1 : a ≤ 9223372036854775807) (g0 : -9223372036854775808 ≤ b) (g1 : b ≤ 9223372036854775807) :
    Calls Try.prog 5 #[.int .i64 a, .int .i64 b, .int .i64 c] w fun e w' => e = .returned (.bool true) ∧ w' = w := by
  have e1 : (wrap64 (wrap64 (a + b) + c) == wrap64 (a + wrap64 (c + b))) = true := by
    rw [wr_add_l, wr_add_r, beq_iff_eq]; congr 1; omega
  have e2 : (wrap64 (wrap64 (a * b) * c) == wrap64 (a * wrap64 (c * b))) = true := by
    rw [wr_mul_l, wr_mul_r, beq_iff_eq, Int.mul_comm c b, Int.mul_assoc]
  have e3 : (wrap64 (a * wrap64 (b + c)) == wrap64 (wrap64 (a * b) + wrap64 (a * c))) = true := by
    rw [wr_mul_r, wr_add_l, wr_add_r, beq_iff_eq, Int.mul_add]
  have e4 : (wrap64 (a - b) == wrap64 (a + wrap64 (-b))) = true := by
    rw [wr_add_r, beq_iff_eq]; rfl
  have e5 : (wrap64 (-wrap64 (-b)) == b) = true := by
    rw [wr_neg, beq_iff_eq, Int.neg_neg, wr_in b g0 g1]
  have e6 : (wrap64 a == a) = true := by
    rw [beq_iff_eq, wr_in a h0 h1]
  have e8 : (wrap64 3 == 3) = true := by rw [beq_iff_eq]; unfold wrap64; omega
  go_enter Try.func5, Try.ntmps5
  go_wp2_with (first
    | (go_at_call 15; with_reducible refine (two_add _ _ _).mono ?_; rintro e w' ⟨rfl, rfl⟩)
    | (go_at_call 15; with_reducible refine (two_mul _ _ _).mono ?_; rintro e w' ⟨rfl, rfl⟩)
    | (go_at_call 15; with_reducible refine (two_sub _ _ _).mono ?_; rintro e w' ⟨rfl, rfl⟩)
    | (go_at_call 13; with_reducible refine (One_neg _ _).mono ?_; rintro e w' ⟨rfl, rfl⟩))
  go_ret
  exact ⟨rfl, rfl⟩

theorem truth_le (p : Bool) : 0 ≤ truth p ∧ truth p ≤ 1 := by cases p <;> decide

set_option maxRecDepth 100000 in
set_option maxHeartbeats 1000000 in
theorem orders (a b : Int) (w : World) :
    Calls Try.prog 7 #[.int .i64 a, .int .i64 b] w fun e w' => e = .returned (.bool true) ∧ w' = w := by
  have key : ∃ lt eq gt le ne ge : Bool, decide (a < b) = lt ∧ (a == b) = eq ∧ decide (b < a) = gt ∧ decide (a ≤ b) = le ∧ (a != b) = ne ∧ decide (b ≤ a) = ge ∧
      ((lt, eq, gt, le, ne, ge) = (true, false, false, true, true, false) ∨ (lt, eq, gt, le, ne, ge) = (false, true, false, true, false, true) ∨ (lt, eq, gt, le, ne, ge) = (false, false, true, false, true, true)) := by
    refine ⟨_, _, _, _, _, _, rfl, rfl, rfl, rfl, rfl, rfl, ?_⟩
    rcases Int.lt_trichotomy a b with h | h | h
    · left; simp; omega
    · right; left; simp; omega
    · right; right; simp; omega
  obtain ⟨lt, eq, gt, le, ne, ge, k1, k2, k3, k4, k5, k6, h⟩ := key
  have c1 : ∀ W, Calls Try.prog 15 #[.int .i64 5, .int .i64 a, .int .i64 b] W fun e w' => e = .returned (.int .i64 (truth lt)) ∧ w' = W := fun W => by rw [← k1]; exact two_lt a b W
  have c2 : ∀ W, Calls Try.prog 15 #[.int .i64 3, .int .i64 a, .int .i64 b] W fun e w' => e = .returned (.int .i64 (truth eq)) ∧ w' = W := fun W => by rw [← k2]; exact two_eq a b W
  have c3 : ∀ W, Calls Try.prog 15 #[.int .i64 7, .int .i64 a, .int .i64 b] W fun e w' => e = .returned (.int .i64 (truth gt)) ∧ w' = W := fun W => by rw [← k3]; exact two_gt a b W
  have c4 : ∀ W, Calls Try.prog 15 #[.int .i64 6, .int .i64 a, .int .i64 b] W fun e w' => e = .returned (.int .i64 (truth le)) ∧ w' = W := fun W => by rw [← k4]; exact two_le a b W
  have c5 : ∀ W, Calls Try.prog 15 #[.int .i64 4, .int .i64 a, .int .i64 b] W fun e w' => e = .returned (.int .i64 (truth ne)) ∧ w' = W := fun W => by rw [← k5]; exact two_ne a b W
  have c6 : ∀ W, Calls Try.prog 15 #[.int .i64 8, .int .i64 a, .int .i64 b] W fun e w' => e = .returned (.int .i64 (truth ge)) ∧ w' = W := fun W => by rw [← k6]; exact two_ge a b W
  have c7 : ∀ W, Calls Try.prog 15 #[.int .i64 7, .int .i64 b, .int .i64 a] W fun e w' => e = .returned (.int .i64 (truth lt)) ∧ w' = W := fun W => by rw [← k1]; exact two_gt b a W
  have c8 : ∀ W, Calls Try.prog 15 #[.int .i64 8, .int .i64 b, .int .i64 a] W fun e w' => e = .returned (.int .i64 (truth le)) ∧ w' = W := fun W => by rw [← k4]; exact two_ge b a W
  have C1 := Lib.hid c1; have C2 := Lib.hid c2; have C3 := Lib.hid c3; have C4 := Lib.hid c4
  have C5 := Lib.hid c5; have C6 := Lib.hid c6; have C7 := Lib.hid c7; have C8 := Lib.hid c8
  clear c1 c2 c3 c4 c5 c6 c7 c8 k1 k2 k3 k4 k5 k6
  rcases h with h | h | h
  all_goals
    simp only [Prod.mk.injEq] at h
    obtain ⟨rfl, rfl, rfl, rfl, rfl, rfl⟩ := h
    simp only [show truth true = 1 from rfl, show truth false = 0 from rfl] at C1 C2 C3 C4 C5 C6 C7 C8
    go_enter Try.func7, Try.ntmps7
    go_wp2_with (first
      | (go_at_call 15; with_reducible refine (C1.out _).mono ?_; rintro e w' ⟨rfl, rfl⟩)
      | (go_at_call 15; with_reducible refine (C2.out _).mono ?_; rintro e w' ⟨rfl, rfl⟩)
      | (go_at_call 15; with_reducible refine (C3.out _).mono ?_; rintro e w' ⟨rfl, rfl⟩)
      | (go_at_call 15; with_reducible refine (C4.out _).mono ?_; rintro e w' ⟨rfl, rfl⟩)
      | (go_at_call 15; with_reducible refine (C5.out _).mono ?_; rintro e w' ⟨rfl, rfl⟩)
      | (go_at_call 15; with_reducible refine (C6.out _).mono ?_; rintro e w' ⟨rfl, rfl⟩)
      | (go_at_call 15; with_reducible refine (C7.out _).mono ?_; rintro e w' ⟨rfl, rfl⟩)
      | (go_at_call 15; with_reducible refine (C8.out _).mono ?_; rintro e w' ⟨rfl, rfl⟩))
    go_ret
    exact ⟨rfl, rfl⟩
end Go.Proofs.Ytjdgebafhcbfoab.ariths
