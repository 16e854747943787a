/-
  The walk of the statement of layer 20 on all operators: the program's answers are the document's own.
-/
import Derived.Test.YtjmjillfclfkgaaArithTells
namespace Go.Proofs.Ytjmjillfclfkgaa.ariths
open Go.ChangeShapes Go.WideShapes Go.ChangeAt Go.RowKit
set_option linter.unusedVariables false

set_option maxHeartbeats 400000 in
theorem RTwo_mul (a b : Int) (w : World) (h0 : -9223372036854775808 ≤ a) (h1 : a ≤ 9223372036854775807) (g0 : -9223372036854775808 ≤ b) (g1 : b ≤ 9223372036854775807) :
    Calls Try.prog 26 #[.int .i64 11, .int .i64 a, .int .i64 b] w fun e w' => e = .returned (.tuple #[.int .i64 (wrap64 (a * b)), .int .i64 0]) ∧ w' = w := by
  go_enter Try.func26, Try.ntmps26
  go_wp2_with (go_at_call 44; refine (times_any _ _ _ h0 h1 g0 g1).mono ?_; rintro e w' ⟨rfl, rfl⟩)
  go_ret2
  exact ⟨rfl, rfl⟩

set_option maxHeartbeats 400000 in
theorem RTwo_div (a b : Int) (w : World) (h0 : -9223372036854775808 ≤ a) (h1 : a ≤ 9223372036854775807) (g0 : -9223372036854775808 ≤ b) (g1 : b ≤ 9223372036854775807) (hb : b ≠ 0) :
    Calls Try.prog 26 #[.int .i64 12, .int .i64 a, .int .i64 b] w fun e w' => e = .returned (.tuple #[.int .i64 (wrap64 (a.tdiv b)), .int .i64 0]) ∧ w' = w := by
  have z : (b == 0) = false := by simpa using hb
  have HB := Lib.hid hb; clear hb
  go_enter Try.func26, Try.ntmps26
  go_wp2_with (go_at_call 45; refine (quotient_any _ _ _ h0 h1 g0 g1 HB.out).mono ?_; rintro e w' ⟨rfl, rfl⟩)
  go_ret2
  exact ⟨rfl, rfl⟩

set_option maxHeartbeats 400000 in
theorem RTwo_div_zero (a b : Int) (w : World) (hb : b = 0) :
    Calls Try.prog 26 #[.int .i64 12, .int .i64 a, .int .i64 b] w fun e w' => e = .returned (.tuple #[.int .i64 0, .int .i64 1]) ∧ w' = w := by
  subst hb
  go_enter Try.func26, Try.ntmps26
  go_wp2
  go_ret2
  exact ⟨rfl, rfl⟩

set_option maxHeartbeats 400000 in
theorem RTwo_rem (a b : Int) (w : World) (h0 : -9223372036854775808 ≤ a) (h1 : a ≤ 9223372036854775807) (g0 : -9223372036854775808 ≤ b) (g1 : b ≤ 9223372036854775807) (hb : b ≠ 0) :
    Calls Try.prog 26 #[.int .i64 13, .int .i64 a, .int .i64 b] w fun e w' => e = .returned (.tuple #[.int .i64 (a.tmod b), .int .i64 0]) ∧ w' = w := by
  have z : (b == 0) = false := by simpa using hb
  have HB := Lib.hid hb; clear hb
  go_enter Try.func26, Try.ntmps26
  go_wp2_with (go_at_call 45; refine (quotient_any _ _ _ h0 h1 g0 g1 HB.out).mono ?_; rintro e w' ⟨rfl, rfl⟩)
  go_ret2
  exact ⟨rfl, rfl⟩

set_option maxHeartbeats 400000 in
theorem RTwo_rem_zero (a b : Int) (w : World) (hb : b = 0) :
    Calls Try.prog 26 #[.int .i64 13, .int .i64 a, .int .i64 b] w fun e w' => e = .returned (.tuple #[.int .i64 0, .int .i64 1]) ∧ w' = w := by
  subst hb
  go_enter Try.func26, Try.ntmps26
  go_wp2
  go_ret2
  exact ⟨rfl, rfl⟩

set_option maxHeartbeats 400000 in
theorem Two_other (op a b : Int) (w : World) (n1 : (op == 1) = false) (n2 : (op == 2) = false) (n3 : (op == 3) = false) (n4 : (op == 4) = false) (n5 : (op == 5) = false) (n6 : (op == 6) = false) (n7 : (op == 7) = false) (n8 : (op == 8) = false) (n9 : (op == 9) = false) (n10 : (op == 10) = false) (n11 : (op == 11) = false) (n12 : (op == 12) = false) (n13 : (op == 13) = false) :
    Calls Try.prog 40 #[.int .i64 op, .int .i64 a, .int .i64 b] w fun e w' => e = .returned (.tuple #[.int .i64 0, .int .i64 0]) ∧ w' = w := by
  go_enter Try.func40, Try.ntmps40
  go_wp2
  go_ret2
  exact ⟨rfl, rfl⟩

set_option maxHeartbeats 400000 in
theorem RTwo_other (op a b : Int) (w : World) (n1 : (op == 1) = false) (n2 : (op == 2) = false) (n3 : (op == 3) = false) (n4 : (op == 4) = false) (n5 : (op == 5) = false) (n6 : (op == 6) = false) (n7 : (op == 7) = false) (n8 : (op == 8) = false) (n9 : (op == 9) = false) (n10 : (op == 10) = false) (n11 : (op == 11) = false) (n12 : (op == 12) = false) (n13 : (op == 13) = false) :
    Calls Try.prog 26 #[.int .i64 op, .int .i64 a, .int .i64 b] w fun e w' => e = .returned (.tuple #[.int .i64 0, .int .i64 0]) ∧ w' = w := by
  have m12 : (op != 12) = true := by rw [bne, n12]; rfl
  have m13 : (op != 13) = true := by rw [bne, n13]; rfl
  go_enter Try.func26, Try.ntmps26
  go_wp2
  go_ret2
  exact ⟨rfl, rfl⟩

set_option maxHeartbeats 400000 in
theorem One_other (op a : Int) (w : World) (n1 : (op == 1) = false) (n2 : (op == 2) = false) :
    Calls Try.prog 42 #[.int .i64 op, .int .i64 a] w fun e w' => e = .returned (.tuple #[.int .i64 0, .int .i64 0]) ∧ w' = w := by
  go_enter Try.func42, Try.ntmps42
  go_wp2
  go_ret2
  exact ⟨rfl, rfl⟩

set_option maxHeartbeats 400000 in
theorem ROne_other (op a : Int) (w : World) (n1 : (op == 1) = false) (n2 : (op == 2) = false) :
    Calls Try.prog 25 #[.int .i64 op, .int .i64 a] w fun e w' => e = .returned (.int .i64 0) ∧ w' = w := by
  go_enter Try.func25, Try.ntmps25
  go_wp2
  go_ret
  exact ⟨rfl, rfl⟩

set_option maxHeartbeats 400000 in
theorem ROne_neg (a : Int) (w : World) :
    Calls Try.prog 25 #[.int .i64 1, .int .i64 a] w fun e w' => e = .returned (.int .i64 (wrap64 (-a))) ∧ w' = w := by
  go_enter Try.func25, Try.ntmps25
  go_wp2
  go_ret
  refine ⟨ret_int ?_, rfl⟩
  simp only [u64_wrap]
  unfold wrap64
  omega

set_option maxHeartbeats 400000 in
theorem ROne_not (a : Int) (w : World) :
    Calls Try.prog 25 #[.int .i64 2, .int .i64 a] w fun e w' => e = .returned (.int .i64 (truth (a == 0))) ∧ w' = w := by
  go_enter Try.func25, Try.ntmps25
  go_wp2_with (go_at_call 43; refine (rbool_any _ _).mono ?_; rintro e w' ⟨rfl, rfl⟩)
  go_ret
  exact ⟨rfl, rfl⟩

/-- Whatever both answers of two operands are, if they are the same ones, and of one operand: the statement holds. -/
def Tells (op a b x t z : Int) : Prop := ∀ W : World,
  (Calls Try.prog 40 #[.int .i64 op, .int .i64 a, .int .i64 b] W fun e w' => e = .returned (.tuple #[.int .i64 x, .int .i64 t]) ∧ w' = W) ∧
  (Calls Try.prog 26 #[.int .i64 op, .int .i64 a, .int .i64 b] W fun e w' => e = .returned (.tuple #[.int .i64 x, .int .i64 t]) ∧ w' = W) ∧
  (Calls Try.prog 42 #[.int .i64 op, .int .i64 a] W fun e w' => e = .returned (.tuple #[.int .i64 z, .int .i64 0]) ∧ w' = W) ∧
  (Calls Try.prog 25 #[.int .i64 op, .int .i64 a] W fun e w' => e = .returned (.int .i64 z) ∧ w' = W)

theorem tells_key (op a b : Int) (h0 : -9223372036854775808 ≤ a) (h1 : a ≤ 9223372036854775807) (g0 : -9223372036854775808 ≤ b) (g1 : b ≤ 9223372036854775807) : ∃ x t z, Tells op a b x t z := by
  by_cases c1 : op = 1
  · subst c1; exact ⟨_, _, _, fun W => ⟨Two_or a b W, RTwo_or a b W, One_neg a W, ROne_neg a W⟩⟩
  by_cases c2 : op = 2
  · subst c2; exact ⟨_, _, _, fun W => ⟨Two_and a b W, RTwo_and a b W, One_not a W, ROne_not a W⟩⟩
  by_cases c3 : op = 3
  · subst c3; exact ⟨_, _, _, fun W => ⟨Two_eq a b W, RTwo_eq a b W, One_other 3 a W rfl rfl, ROne_other 3 a W rfl rfl⟩⟩
  by_cases c4 : op = 4
  · subst c4; exact ⟨_, _, _, fun W => ⟨Two_ne a b W, RTwo_ne a b W, One_other 4 a W rfl rfl, ROne_other 4 a W rfl rfl⟩⟩
  by_cases c5 : op = 5
  · subst c5; exact ⟨_, _, _, fun W => ⟨Two_lt a b W, RTwo_lt a b W, One_other 5 a W rfl rfl, ROne_other 5 a W rfl rfl⟩⟩
  by_cases c6 : op = 6
  · subst c6; exact ⟨_, _, _, fun W => ⟨Two_le a b W, RTwo_le a b W, One_other 6 a W rfl rfl, ROne_other 6 a W rfl rfl⟩⟩
  by_cases c7 : op = 7
  · subst c7; exact ⟨_, _, _, fun W => ⟨Two_gt a b W, RTwo_gt a b W, One_other 7 a W rfl rfl, ROne_other 7 a W rfl rfl⟩⟩
  by_cases c8 : op = 8
  · subst c8; exact ⟨_, _, _, fun W => ⟨Two_ge a b W, RTwo_ge a b W, One_other 8 a W rfl rfl, ROne_other 8 a W rfl rfl⟩⟩
  by_cases c9 : op = 9
  · subst c9; exact ⟨_, _, _, fun W => ⟨Two_add a b W, RTwo_add a b W, One_other 9 a W rfl rfl, ROne_other 9 a W rfl rfl⟩⟩
  by_cases c10 : op = 10
  · subst c10; exact ⟨_, _, _, fun W => ⟨Two_sub a b W, RTwo_sub a b W, One_other 10 a W rfl rfl, ROne_other 10 a W rfl rfl⟩⟩
  by_cases c11 : op = 11
  · subst c11; exact ⟨_, _, _, fun W => ⟨Two_mul a b W, RTwo_mul a b W h0 h1 g0 g1, One_other 11 a W rfl rfl, ROne_other 11 a W rfl rfl⟩⟩
  by_cases c12 : op = 12
  · subst c12
    by_cases hb : b = 0
    · exact ⟨_, _, _, fun W => ⟨Two_div_zero a b W hb, RTwo_div_zero a b W hb, One_other 12 a W rfl rfl, ROne_other 12 a W rfl rfl⟩⟩
    · by_cases hm : b = -1
      · refine ⟨_, _, _, fun W => ⟨Two_div_neg a b W hm, ?_, One_other 12 a W rfl rfl, ROne_other 12 a W rfl rfl⟩⟩
        have h := RTwo_div a b W h0 h1 g0 g1 hb
        rw [hm, Int.tdiv_neg, Int.tdiv_one] at h
        rw [hm]
        exact h
      · exact ⟨_, _, _, fun W => ⟨Two_div_any a b W h0 h1 g0 g1 hb hm, RTwo_div a b W h0 h1 g0 g1 hb, One_other 12 a W rfl rfl, ROne_other 12 a W rfl rfl⟩⟩
  by_cases c13 : op = 13
  · subst c13
    by_cases hb : b = 0
    · exact ⟨_, _, _, fun W => ⟨Two_rem_zero a b W hb, RTwo_rem_zero a b W hb, One_other 13 a W rfl rfl, ROne_other 13 a W rfl rfl⟩⟩
    · by_cases hm : b = -1
      · refine ⟨_, _, _, fun W => ⟨Two_rem_neg a b W hm, ?_, One_other 13 a W rfl rfl, ROne_other 13 a W rfl rfl⟩⟩
        have h := RTwo_rem a b W h0 h1 g0 g1 hb
        rw [hm, Int.tmod_neg, Int.tmod_one] at h
        rw [hm]
        exact h
      · exact ⟨_, _, _, fun W => ⟨Two_rem_any a b W h0 h1 g0 g1 hb hm, RTwo_rem a b W h0 h1 g0 g1 hb, One_other 13 a W rfl rfl, ROne_other 13 a W rfl rfl⟩⟩
  exact ⟨_, _, _, fun W => ⟨Two_other op a b W (beq_eq_false_iff_ne.2 c1) (beq_eq_false_iff_ne.2 c2) (beq_eq_false_iff_ne.2 c3) (beq_eq_false_iff_ne.2 c4) (beq_eq_false_iff_ne.2 c5) (beq_eq_false_iff_ne.2 c6) (beq_eq_false_iff_ne.2 c7) (beq_eq_false_iff_ne.2 c8) (beq_eq_false_iff_ne.2 c9) (beq_eq_false_iff_ne.2 c10) (beq_eq_false_iff_ne.2 c11) (beq_eq_false_iff_ne.2 c12) (beq_eq_false_iff_ne.2 c13), RTwo_other op a b W (beq_eq_false_iff_ne.2 c1) (beq_eq_false_iff_ne.2 c2) (beq_eq_false_iff_ne.2 c3) (beq_eq_false_iff_ne.2 c4) (beq_eq_false_iff_ne.2 c5) (beq_eq_false_iff_ne.2 c6) (beq_eq_false_iff_ne.2 c7) (beq_eq_false_iff_ne.2 c8) (beq_eq_false_iff_ne.2 c9) (beq_eq_false_iff_ne.2 c10) (beq_eq_false_iff_ne.2 c11) (beq_eq_false_iff_ne.2 c12) (beq_eq_false_iff_ne.2 c13), One_other op a W (beq_eq_false_iff_ne.2 c1) (beq_eq_false_iff_ne.2 c2), ROne_other op a W (beq_eq_false_iff_ne.2 c1) (beq_eq_false_iff_ne.2 c2)⟩⟩

end Go.Proofs.Ytjmjillfclfkgaa.ariths
