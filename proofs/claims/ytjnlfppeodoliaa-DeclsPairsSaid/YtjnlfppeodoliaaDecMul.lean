/-
  Layer 32: the library's Mul, of 1.
-/
import Derived.Test.YtjnlfppeodoliaaDecRow
namespace Go.Proofs.Ytjnlfppeodoliaa.am
open Go.ChangeShapes Go.WideShapes Go.ChangeAt Go.RowKit
open vt
set_option linter.unusedVariables false
set_option linter.unusedSimpArgs false
theorem td_u64 : td Try.prog 107 = some ⟨false, 1, 8, [.lit (.int .u64 0)], [], (.int .u64)⟩ := Eq.trans (by kernel_rfl) (Eq.refl _)
theorem td_uint : td Try.prog 143 = some ⟨false, 1, 8, [.lit (.int .u64 0)], [], (.int .u64)⟩ := Eq.trans (by kernel_rfl) (Eq.refl _)
attribute [simp] td_u64 td_uint
abbrev U64 (z : Int) : PV := .lit (.int .u64 z)
abbrev vU64 (z : Int) : AV := .v (.c (.pv (U64 z)))
set_option maxRecDepth 100000 in
set_option maxHeartbeats 4000000 in
theorem mul64_row (n : Nat) (hn : n ≤ 1000000) : Row Try.prog 176 [vU64 1, vU64 (n : Nat)] [] (.tup [.c (.pv (U64 0)), .c (.pv (U64 (n : Nat)))]) [] := by
  have a1 : IntKind.u64.wrap ((1 % 2 ^ IntKind.u64.bits &&& 4294967295 % 2 ^ IntKind.u64.bits : Nat) : Int) = 1 := by decide
  have a2 : Int.fdiv 1 (2 ^ min 32 IntKind.u64.bits) = 0 := by decide
  have a3 : ((n : Nat) : Int).fdiv (2 ^ min 32 IntKind.u64.bits) = 0 := by
    have : (2 : Int) ^ min 32 IntKind.u64.bits = 4294967296 := by decide
    rw [this, Int.fdiv_eq_ediv_of_nonneg _ (by decide)]
    exact Int.ediv_eq_zero_of_lt (by omega) (by omega)
  have a5 : IntKind.u64.wrap ((n : Nat) : Int) = (n : Nat) := IntWalk.u64_in _ (by omega)
  have a4 : IntKind.u64.wrap ((n % 2 ^ IntKind.u64.bits &&& 4294967295 % 2 ^ IntKind.u64.bits : Nat) : Int) = (n : Nat) := by
    have e1 : 4294967295 % 2 ^ IntKind.u64.bits = 2 ^ 32 - 1 := by decide
    have e2 : n % 2 ^ IntKind.u64.bits = n := Nat.mod_eq_of_lt (by have : (2 : Nat) ^ IntKind.u64.bits = 18446744073709551616 := by decide
                                                                   omega)
    rw [e1, e2, Nat.and_two_pow_sub_one_eq_mod, Nat.mod_eq_of_lt (by omega)]
    exact a5
  have a6 : IntKind.u64.wrap 0 = 0 := by decide
  have a7 : Int.fdiv 0 (2 ^ min 32 IntKind.u64.bits) = 0 := by decide
  have a8 : IntKind.u64.wrap ((0 % 2 ^ IntKind.u64.bits &&& 4294967295 % 2 ^ IntKind.u64.bits : Nat) : Int) = 0 := by decide
  refine row_of Try.func176 rfl rfl (Nat.le_of_ble_eq_true rfl) ?_
  repeat (first | refine aw_seq ?_ | refine aw_skip ?_ | refine aw_block ?_ | refine aw_exit ?_ | refine aw_cond rfl (fun _ => ?_) (fun hb => absurd hb (by decide)) | refine aw_cond rfl (fun hb => absurd hb (by decide)) (fun _ => ?_) | (refine aw_reg (fun K hK => ?_); simp -implicitDefEqProofs [a1, a2, a3, a4, a5, a6, a7, a8]; refine hK _ ?_) | (refine aw_drw mixd (fun K hK => ?_); simp -implicitDefEqProofs [a1, a2, a3, a4, a5, a6, a7, a8]; refine hK _ _ (by rfl) ?_) | fail)
  refine aw_ret (fin_ret ?_); simp -implicitDefEqProofs [FinP, resV, resT] <;> try rfl
set_option maxRecDepth 100000 in
set_option maxHeartbeats 4000000 in
theorem mul_row (n : Nat) (hn : n ≤ 1000000) : Row Try.prog 137 [vU64 1, vU64 (n : Nat)] [] (.tup [.c (.pv (U64 0)), .c (.pv (U64 (n : Nat)))]) [] := by
  have h := mul64_row n hn
  refine row_of Try.func137 rfl rfl (Nat.le_of_ble_eq_true rfl) ?_
  repeat' (first | refine aw_seq ?_ | refine aw_skip ?_ | refine aw_block ?_ | refine aw_exit ?_ | refine aw_cond rfl (fun _ => ?_) (fun hb => absurd hb (by decide)) | refine aw_cond rfl (fun hb => absurd hb (by decide)) (fun _ => ?_) | (refine aw_reg (fun K hK => ?_); simp -implicitDefEqProofs) | (refine aw_drw mixd (fun K hK => ?_); simp -implicitDefEqProofs) | refine hK _ ?_ | refine hK _ _ (by rfl) ?_ | (refine ar_call (cp h ?_); simp -implicitDefEqProofs) | (refine ard_call (dp h ?_); simp -implicitDefEqProofs) | fail)
  refine aw_ret (fin_ret ?_); simp -implicitDefEqProofs [FinP, resV, resT] <;> try rfl
end Go.Proofs.Ytjnlfppeodoliaa.am
