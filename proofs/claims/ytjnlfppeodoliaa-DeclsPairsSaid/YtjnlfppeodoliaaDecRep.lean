/-
  Layer 32: the library's Repeat, of one number.
-/
import Derived.Test.YtjnlfppeodoliaaDecMul
namespace Go.Proofs.Ytjnlfppeodoliaa.am
open Go.ChangeShapes Go.WideShapes Go.ChangeAt Go.RowKit
open vt
set_option linter.unusedVariables false
set_option linter.unusedSimpArgs false
theorem td_str : td Try.prog 9 = some ⟨false, 1, 16, [.lit (.string ⟨#[]⟩)], [], .string⟩ := Eq.trans (by kernel_rfl) (Eq.refl _)
attribute [simp] td_str
def cR (n m : Nat) : List (List PV) := List.replicate m [I (-1)] ++ List.replicate (n - m) [I 0]
theorem cR_len {n m : Nat} (h : m ≤ n) : (cR n m).length = n := by unfold cR; simp; omega
theorem cR_take {n m : Nat} : (cR n m).take m = List.replicate m [I (-1)] := by unfold cR; rw [List.take_append_of_le_length (by simp), List.take_of_length_le (by simp)]
theorem cR_seg {n m : Nat} (h : m ≤ n) : setSeg (cR n m) m ((List.replicate m [I (-1)]).take (n - m)) = cR n (m + min m (n - m)) := by
  obtain ⟨k, hk⟩ : ∃ k, min m (n - m) = k := ⟨_, rfl⟩
  have hkn : k ≤ n - m := by omega
  unfold setSeg
  rw [cR_take, List.take_replicate, List.length_replicate, Nat.min_comm (n - m) m, hk]
  unfold cR
  rw [List.replicate_append_replicate, List.drop_append, List.drop_replicate, List.drop_replicate, List.length_replicate, show m - (m + k) = 0 by omega, show m + k - m = k by omega, show n - (m + k) = n - m - k by omega]
  rfl
theorem cR_zero (n : Nat) : List.replicate n [I 0] = cR n 0 := by unfold cR; simp
theorem cR_one (n : Nat) : [[I (-1)]].take n ++ (cR n 0).drop (min n 1) = cR n (min 1 n) := by
  unfold cR
  cases n with
  | zero => simp
  | succ k => simp
theorem cR_seg2 {n m : Nat} (h : m ≤ n) : List.replicate m [I (-1)] ++ (List.replicate (min (n - m) m) [I (-1)] ++ (cR n m).drop (m + min (n - m) m)) = cR n (m + min m (n - m)) := by
  rw [← cR_seg h]
  unfold setSeg
  rw [cR_take, List.take_replicate, List.length_replicate, List.append_assoc]
set_option maxRecDepth 100000 in
set_option maxHeartbeats 4000000 in
theorem repeat_row (n : Nat) (hn : n ≤ 1000000) : Row Try.prog 89 [.v (.c (.pv (.sl 1 [[I (-1)]]))), vI (n : Nat)] [] (.v (.c (.arr 0 1 n))) [some (.arr 3 1 (List.replicate n [I (-1)]))] := by
  have hm := mul_row n hn
  have a1 : IntKind.u64.wrap 1 = 1 := by decide
  have a2 : IntKind.u64.wrap ((n : Nat) : Int) = (n : Nat) := IntWalk.u64_in _ (by omega)
  have a3 : IntKind.i64.wrap ((n : Nat) : Int) = (n : Nat) := i64i _ (by omega) (by omega)
  have a0 : ¬ ((n : Nat) : Int) < 0 := by omega
  have a4 : ¬ (9223372036854775807 : Int) < (n : Nat) := by omega
  have b1 : n * 8 ≤ 140737488355328 := by omega
  have b2 : n ≤ 140737488355328 := by omega
  have b3 : ((n : Nat) : Int) * 8 ≤ 140737488355328 := by omega
  have b4 : ((n : Nat) : Int) ≤ 140737488355328 := by omega
  have hz := cR_zero n
  have ho := cR_one n
  have hl := cR_len (Nat.zero_le n)
  refine row_of Try.func89 rfl rfl (Nat.le_of_ble_eq_true rfl) ?_
  repeat' (first | refine aw_seq ?_ | refine aw_skip ?_ | refine aw_block ?_ | refine aw_exit ?_ | refine aw_cond rfl (fun _ => ?_) (fun hb => absurd hb (by decide)) | refine aw_cond rfl (fun hb => absurd hb (by decide)) (fun _ => ?_) | (refine aw_reg (fun K hK => ?_); simp -implicitDefEqProofs [a0, a1, a2, a3, a4, b3, b4, hz, ho, hl]) | (refine aw_drw mixd (fun K hK => ?_); simp -implicitDefEqProofs [a0, a1, a2, a3, a4, b3, b4, hz, ho, hl]) | refine hK _ ?_ | refine hK _ _ (by rfl) ?_ | (refine ar_call (cp hm ?_); simp -implicitDefEqProofs [a0, a1, a2, a3, a4, b3, b4, hz, ho, hl]) | (refine ard_call (dp hm ?_); simp -implicitDefEqProofs [a0, a1, a2, a3, a4, b3, b4, hz, ho, hl]) | fail)
  clear hm hz ho hl
  refine aw_lp (ι := Nat) (fun m => mkSt [(7, .v (.c (.arr 0 1 n))), (8, vI (m : Nat))] [some (.arr 3 1 (cR n m))]) (fun m => m ≤ n ∧ (0 < n → 0 < m)) (fun m => n - m) (min 1 n) ⟨by omega, by omega⟩ (cov_intro [29] (by simp -implicitDefEqProofs [cR_one]) (by simp -implicitDefEqProofs [cR_one]) (by decide) rfl (by simp)) (fun Z hI m hk => ?_)
  obtain ⟨hk, hp⟩ := hk
  by_cases hml : m < n; rotate_left
  · have : m = n := by omega
    subst this
    have e : cR m m = List.replicate m [I (-1)] := by unfold cR; simp
    rw [e]
    repeat (first | refine aw_seq ?_ | refine aw_skip ?_ | refine aw_block ?_ | refine aw_exit ?_ | refine aw_cond rfl (fun _ => ?_) (fun hb => absurd hb (by decide)) | refine aw_cond rfl (fun hb => absurd hb (by decide)) (fun _ => ?_) | (refine aw_reg (fun K hK => ?_); simp -implicitDefEqProofs; refine hK _ ?_) | (refine aw_drw mixd (fun K hK => ?_); simp -implicitDefEqProofs; refine hK _ _ (by rfl) ?_) | fail)
    refine aw_ret (fin_g [0] ?_); simp -implicitDefEqProofs [FinG, resV, resT] <;> try rfl
  have hlen := cR_len (n := n) (m := m) hk
  have htk := cR_take (n := n) (m := m)
  have hsg := cR_seg2 (n := n) (m := m) hk
  have w2 : IntKind.i64.wrap ((m : Nat) + ((min m (n - m) : Nat) : Int)) = (m : Nat) + ((min m (n - m) : Nat) : Int) := i64i _ (by omega) (by omega)
  obtain ⟨C, hC⟩ : ∃ C, cR n m = C := ⟨_, rfl⟩
  rw [hC] at hlen htk hsg ⊢
  repeat (first | refine aw_seq ?_ | refine aw_skip ?_ | refine aw_block ?_ | refine aw_exit ?_ | refine aw_cond rfl (fun _ => ?_) (fun hb => absurd hb (by decide)) | refine aw_cond rfl (fun hb => absurd hb (by decide)) (fun _ => ?_) | (refine aw_reg (fun K hK => ?_); simp -implicitDefEqProofs [hml, hk, hlen, htk, hsg, w2]; refine hK _ ?_) | (refine aw_drw mixd (fun K hK => ?_); simp -implicitDefEqProofs [hml, hk, hlen, htk, hsg, w2]; refine hK _ _ (by rfl) ?_) | fail)
  refine ⟨m + min m (n - m), ⟨by omega, fun _ => by have := hp (by omega); omega⟩, (by dsimp only; have := hp (by omega); omega), ?_⟩
  rw [hI]; exact cov_intro [0] (by simp -implicitDefEqProofs) (by simp -implicitDefEqProofs) (by decide) rfl (by simp)
end Go.Proofs.Ytjnlfppeodoliaa.am
