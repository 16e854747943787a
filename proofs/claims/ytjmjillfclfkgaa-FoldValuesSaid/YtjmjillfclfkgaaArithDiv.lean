/-
  The walk of the statement of layer 20 on quotients, over the contracts.
-/
import Derived.Test.YtjmjillfclfkgaaArithTwo
namespace Go.Proofs.Ytjmjillfclfkgaa.ariths
open Go.ChangeShapes Go.WideShapes Go.ChangeAt Go.RowKit
set_option linter.unusedVariables false

/-- How far from 0. -/
def dist (a : Int) : Int := if a < 0 then -a else a
theorem dist_bd (a : Int) (h0 : -9223372036854775808 ≤ a) (h1 : a ≤ 9223372036854775807) : 0 ≤ dist a ∧ dist a ≤ 9223372036854775808 := by unfold dist; split <;> omega
theorem ret_int {k : IntKind} {a b : Int} (h : a = b) : Ending.returned (.int k a) = .returned (.int k b) := by rw [h]

set_option maxHeartbeats 400000 in
theorem size_any (a : Int) (w : World) (h0 : -9223372036854775808 ≤ a) (h1 : a ≤ 9223372036854775807) :
    Calls Try.prog 62 #[.int .i64 a] w fun e w' => e = .returned (.int .u64 (dist a)) ∧ w' = w := by
  by_cases h : a < 0
  · have hz : dist a = -(a + 1) + 1 := by unfold dist; rw [if_pos h]; omega
    have Hz := Lib.hid hz; clear hz
    go_enter Try.func62, Try.ntmps62
    go_wp2
    go_ret
    exact ⟨ret_int Hz.out.symm, rfl⟩
  · have hz : dist a = a := by unfold dist; rw [if_neg h]
    have Hz := Lib.hid hz; clear hz
    go_enter Try.func62, Try.ntmps62
    go_wp2
    go_ret
    exact ⟨ret_int Hz.out.symm, rfl⟩

theorem tdiv_facts (a b : Int) (hb : b ≠ 0) : a.tdiv b * b + a.tmod b = a ∧ dist (a.tmod b) < dist b ∧ (a.tmod b = 0 ∨ (a < 0 ∧ a.tmod b < 0) ∨ (0 ≤ a ∧ 0 < a.tmod b)) := by
  have h := Int.tmod_add_tdiv_mul a b
  have h2 := Int.natAbs_tmod a b
  have h3 : (a.tmod b).natAbs < b.natAbs := by rw [h2]; exact Nat.mod_lt _ (by omega)
  refine ⟨by omega, by unfold dist; split <;> split <;> omega, ?_⟩
  by_cases ha : 0 ≤ a
  · have := Int.tmod_nonneg b ha
    omega
  · have := Int.tmod_nonneg b (show 0 ≤ -a by omega)
    rw [Int.neg_tmod] at this
    omega

end Go.Proofs.Ytjmjillfclfkgaa.ariths
