/-
  Layer 27: what an operator comes to of numbers: both sides the same.
-/
import Derived.Test.YtjmjillfclfkgaaArithKey
import Derived.Test.YtjmjillfclfkgaaTrmRow
namespace Go.Proofs.Ytjmjillfclfkgaa.fo
open Go.ChangeShapes Go.WideShapes Go.ChangeAt Go.RowKit
open ariths
set_option linter.unusedVariables false

def I6 (x : Int) : Prop := -9223372036854775808 ≤ x ∧ x ≤ 9223372036854775807
theorem tmod64 {a b : Int} (h0 : -9223372036854775808 ≤ a) (h1 : a ≤ 9223372036854775807) : I6 (a.tmod b) := by
  have h := Int.natAbs_tmod a b
  have h2 : a.natAbs % b.natAbs ≤ a.natAbs := Nat.mod_le _ _
  unfold I6
  by_cases ha : 0 ≤ a
  · have := Int.tmod_nonneg b ha
    omega
  · have := Int.tmod_nonneg b (show 0 ≤ -a by omega)
    rw [Int.neg_tmod] at this
    omega

theorem key64 (op a b : Int) (h0 : -9223372036854775808 ≤ a) (h1 : a ≤ 9223372036854775807) (g0 : -9223372036854775808 ≤ b) (g1 : b ≤ 9223372036854775807) : ∃ x t z, Tells op a b x t z ∧ I6 x ∧ I6 z := by
  by_cases c1 : op = 1
  · subst c1; exact ⟨_, _, _, fun W => ⟨Two_or a b W, RTwo_or a b W, One_neg a W, ROne_neg a W⟩, by first | exact wrap64_bd _ | (unfold I6 truth; split <;> omega) | (unfold I6; omega) | exact tmod64 h0 h1, by first | exact wrap64_bd _ | (unfold I6 truth; split <;> omega) | (unfold I6; omega) | exact tmod64 h0 h1⟩
  by_cases c2 : op = 2
  · subst c2; exact ⟨_, _, _, fun W => ⟨Two_and a b W, RTwo_and a b W, One_not a W, ROne_not a W⟩, by first | exact wrap64_bd _ | (unfold I6 truth; split <;> omega) | (unfold I6; omega) | exact tmod64 h0 h1, by first | exact wrap64_bd _ | (unfold I6 truth; split <;> omega) | (unfold I6; omega) | exact tmod64 h0 h1⟩
  by_cases c3 : op = 3
  · subst c3; exact ⟨_, _, _, fun W => ⟨Two_eq a b W, RTwo_eq a b W, One_other 3 a W rfl rfl, ROne_other 3 a W rfl rfl⟩, by first | exact wrap64_bd _ | (unfold I6 truth; split <;> omega) | (unfold I6; omega) | exact tmod64 h0 h1, by first | exact wrap64_bd _ | (unfold I6 truth; split <;> omega) | (unfold I6; omega) | exact tmod64 h0 h1⟩
  by_cases c4 : op = 4
  · subst c4; exact ⟨_, _, _, fun W => ⟨Two_ne a b W, RTwo_ne a b W, One_other 4 a W rfl rfl, ROne_other 4 a W rfl rfl⟩, by first | exact wrap64_bd _ | (unfold I6 truth; split <;> omega) | (unfold I6; omega) | exact tmod64 h0 h1, by first | exact wrap64_bd _ | (unfold I6 truth; split <;> omega) | (unfold I6; omega) | exact tmod64 h0 h1⟩
  by_cases c5 : op = 5
  · subst c5; exact ⟨_, _, _, fun W => ⟨Two_lt a b W, RTwo_lt a b W, One_other 5 a W rfl rfl, ROne_other 5 a W rfl rfl⟩, by first | exact wrap64_bd _ | (unfold I6 truth; split <;> omega) | (unfold I6; omega) | exact tmod64 h0 h1, by first | exact wrap64_bd _ | (unfold I6 truth; split <;> omega) | (unfold I6; omega) | exact tmod64 h0 h1⟩
  by_cases c6 : op = 6
  · subst c6; exact ⟨_, _, _, fun W => ⟨Two_le a b W, RTwo_le a b W, One_other 6 a W rfl rfl, ROne_other 6 a W rfl rfl⟩, by first | exact wrap64_bd _ | (unfold I6 truth; split <;> omega) | (unfold I6; omega) | exact tmod64 h0 h1, by first | exact wrap64_bd _ | (unfold I6 truth; split <;> omega) | (unfold I6; omega) | exact tmod64 h0 h1⟩
  by_cases c7 : op = 7
  · subst c7; exact ⟨_, _, _, fun W => ⟨Two_gt a b W, RTwo_gt a b W, One_other 7 a W rfl rfl, ROne_other 7 a W rfl rfl⟩, by first | exact wrap64_bd _ | (unfold I6 truth; split <;> omega) | (unfold I6; omega) | exact tmod64 h0 h1, by first | exact wrap64_bd _ | (unfold I6 truth; split <;> omega) | (unfold I6; omega) | exact tmod64 h0 h1⟩
  by_cases c8 : op = 8
  · subst c8; exact ⟨_, _, _, fun W => ⟨Two_ge a b W, RTwo_ge a b W, One_other 8 a W rfl rfl, ROne_other 8 a W rfl rfl⟩, by first | exact wrap64_bd _ | (unfold I6 truth; split <;> omega) | (unfold I6; omega) | exact tmod64 h0 h1, by first | exact wrap64_bd _ | (unfold I6 truth; split <;> omega) | (unfold I6; omega) | exact tmod64 h0 h1⟩
  by_cases c9 : op = 9
  · subst c9; exact ⟨_, _, _, fun W => ⟨Two_add a b W, RTwo_add a b W, One_other 9 a W rfl rfl, ROne_other 9 a W rfl rfl⟩, by first | exact wrap64_bd _ | (unfold I6 truth; split <;> omega) | (unfold I6; omega) | exact tmod64 h0 h1, by first | exact wrap64_bd _ | (unfold I6 truth; split <;> omega) | (unfold I6; omega) | exact tmod64 h0 h1⟩
  by_cases c10 : op = 10
  · subst c10; exact ⟨_, _, _, fun W => ⟨Two_sub a b W, RTwo_sub a b W, One_other 10 a W rfl rfl, ROne_other 10 a W rfl rfl⟩, by first | exact wrap64_bd _ | (unfold I6 truth; split <;> omega) | (unfold I6; omega) | exact tmod64 h0 h1, by first | exact wrap64_bd _ | (unfold I6 truth; split <;> omega) | (unfold I6; omega) | exact tmod64 h0 h1⟩
  by_cases c11 : op = 11
  · subst c11; exact ⟨_, _, _, fun W => ⟨Two_mul a b W, RTwo_mul a b W h0 h1 g0 g1, One_other 11 a W rfl rfl, ROne_other 11 a W rfl rfl⟩, by first | exact wrap64_bd _ | (unfold I6 truth; split <;> omega) | (unfold I6; omega) | exact tmod64 h0 h1, by first | exact wrap64_bd _ | (unfold I6 truth; split <;> omega) | (unfold I6; omega) | exact tmod64 h0 h1⟩
  by_cases c12 : op = 12
  · subst c12
    by_cases hb : b = 0
    · exact ⟨_, _, _, fun W => ⟨Two_div_zero a b W hb, RTwo_div_zero a b W hb, One_other 12 a W rfl rfl, ROne_other 12 a W rfl rfl⟩, by first | exact wrap64_bd _ | (unfold I6 truth; split <;> omega) | (unfold I6; omega) | exact tmod64 h0 h1, by first | exact wrap64_bd _ | (unfold I6 truth; split <;> omega) | (unfold I6; omega) | exact tmod64 h0 h1⟩
    · by_cases hm : b = -1
      · refine ⟨_, _, _, fun W => ⟨Two_div_neg a b W hm, ?_, One_other 12 a W rfl rfl, ROne_other 12 a W rfl rfl⟩, by first | exact wrap64_bd _ | (unfold I6 truth; split <;> omega) | (unfold I6; omega) | exact tmod64 h0 h1, by first | exact wrap64_bd _ | (unfold I6 truth; split <;> omega) | (unfold I6; omega) | exact tmod64 h0 h1⟩
        have h := RTwo_div a b W h0 h1 g0 g1 hb
        rw [hm, Int.tdiv_neg, Int.tdiv_one] at h
        rw [hm]
        exact h
      · exact ⟨_, _, _, fun W => ⟨Two_div_any a b W h0 h1 g0 g1 hb hm, RTwo_div a b W h0 h1 g0 g1 hb, One_other 12 a W rfl rfl, ROne_other 12 a W rfl rfl⟩, by first | exact wrap64_bd _ | (unfold I6 truth; split <;> omega) | (unfold I6; omega) | exact tmod64 h0 h1, by first | exact wrap64_bd _ | (unfold I6 truth; split <;> omega) | (unfold I6; omega) | exact tmod64 h0 h1⟩
  by_cases c13 : op = 13
  · subst c13
    by_cases hb : b = 0
    · exact ⟨_, _, _, fun W => ⟨Two_rem_zero a b W hb, RTwo_rem_zero a b W hb, One_other 13 a W rfl rfl, ROne_other 13 a W rfl rfl⟩, by first | exact wrap64_bd _ | (unfold I6 truth; split <;> omega) | (unfold I6; omega) | exact tmod64 h0 h1, by first | exact wrap64_bd _ | (unfold I6 truth; split <;> omega) | (unfold I6; omega) | exact tmod64 h0 h1⟩
    · by_cases hm : b = -1
      · refine ⟨_, _, _, fun W => ⟨Two_rem_neg a b W hm, ?_, One_other 13 a W rfl rfl, ROne_other 13 a W rfl rfl⟩, by first | exact wrap64_bd _ | (unfold I6 truth; split <;> omega) | (unfold I6; omega) | exact tmod64 h0 h1, by first | exact wrap64_bd _ | (unfold I6 truth; split <;> omega) | (unfold I6; omega) | exact tmod64 h0 h1⟩
        have h := RTwo_rem a b W h0 h1 g0 g1 hb
        rw [hm, Int.tmod_neg, Int.tmod_one] at h
        rw [hm]
        exact h
      · exact ⟨_, _, _, fun W => ⟨Two_rem_any a b W h0 h1 g0 g1 hb hm, RTwo_rem a b W h0 h1 g0 g1 hb, One_other 13 a W rfl rfl, ROne_other 13 a W rfl rfl⟩, by first | exact wrap64_bd _ | (unfold I6 truth; split <;> omega) | (unfold I6; omega) | exact tmod64 h0 h1, by first | exact wrap64_bd _ | (unfold I6 truth; split <;> omega) | (unfold I6; omega) | exact tmod64 h0 h1⟩
  exact ⟨_, _, _, fun W => ⟨Two_other op a b W (beq_eq_false_iff_ne.2 c1) (beq_eq_false_iff_ne.2 c2) (beq_eq_false_iff_ne.2 c3) (beq_eq_false_iff_ne.2 c4) (beq_eq_false_iff_ne.2 c5) (beq_eq_false_iff_ne.2 c6) (beq_eq_false_iff_ne.2 c7) (beq_eq_false_iff_ne.2 c8) (beq_eq_false_iff_ne.2 c9) (beq_eq_false_iff_ne.2 c10) (beq_eq_false_iff_ne.2 c11) (beq_eq_false_iff_ne.2 c12) (beq_eq_false_iff_ne.2 c13), RTwo_other op a b W (beq_eq_false_iff_ne.2 c1) (beq_eq_false_iff_ne.2 c2) (beq_eq_false_iff_ne.2 c3) (beq_eq_false_iff_ne.2 c4) (beq_eq_false_iff_ne.2 c5) (beq_eq_false_iff_ne.2 c6) (beq_eq_false_iff_ne.2 c7) (beq_eq_false_iff_ne.2 c8) (beq_eq_false_iff_ne.2 c9) (beq_eq_false_iff_ne.2 c10) (beq_eq_false_iff_ne.2 c11) (beq_eq_false_iff_ne.2 c12) (beq_eq_false_iff_ne.2 c13), One_other op a W (beq_eq_false_iff_ne.2 c1) (beq_eq_false_iff_ne.2 c2), ROne_other op a W (beq_eq_false_iff_ne.2 c1) (beq_eq_false_iff_ne.2 c2)⟩, by first | exact wrap64_bd _ | (unfold I6 truth; split <;> omega) | (unfold I6; omega) | exact tmod64 h0 h1, by first | exact wrap64_bd _ | (unfold I6 truth; split <;> omega) | (unfold I6; omega) | exact tmod64 h0 h1⟩


open Classical in
/-- What two numbers come to, by an operator; and one. -/
noncomputable def tw (op a b : Int) : Int × Int × Int := if op = 9 then (wrap64 (a + b), 0, 0) else if h : I6 a ∧ I6 b then
    (Classical.choose (key64 op a b h.1.1 h.1.2 h.2.1 h.2.2), Classical.choose (Classical.choose_spec (key64 op a b h.1.1 h.1.2 h.2.1 h.2.2)), Classical.choose (Classical.choose_spec (Classical.choose_spec (key64 op a b h.1.1 h.1.2 h.2.1 h.2.2)))) else (0, 0, 0)
theorem tw_tells (op a b : Int) (ha : I6 a) (hb : I6 b) : Tells op a b (tw op a b).1 (tw op a b).2.1 (tw op a b).2.2 ∧ I6 (tw op a b).1 ∧ I6 (tw op a b).2.2 := by
  by_cases h9 : op = 9
  · subst h9
    rw [show tw 9 a b = (wrap64 (a + b), 0, 0) from if_pos rfl]
    exact ⟨fun W => ⟨Two_add a b W, RTwo_add a b W, One_other 9 a W rfl rfl, ROne_other 9 a W rfl rfl⟩, wrap64_bd _, show I6 0 from by unfold I6; omega⟩
  have h := Classical.choose_spec (Classical.choose_spec (Classical.choose_spec (key64 op a b ha.1 ha.2 hb.1 hb.2)))
  unfold tw
  rw [if_neg h9, dif_pos ⟨ha, hb⟩]
  exact h
theorem tw_add (a b : Int) : tw 9 a b = (wrap64 (a + b), 0, 0) := if_pos rfl
end Go.Proofs.Ytjmjillfclfkgaa.fo
