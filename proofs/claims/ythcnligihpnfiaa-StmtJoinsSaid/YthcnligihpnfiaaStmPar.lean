/-
  Layer 8: the program's Parse.
-/
import Derived.Test.YthcnligihpnfiaaStmTop
namespace Go.Proofs.Ythcnligihpnfiaa.am
open Go.ChangeShapes Go.WideShapes Go.ChangeAt Go.RowKit
open vt
set_option linter.unusedVariables false
set_option linter.unusedSimpArgs false
set_option maxRecDepth 100000 in
set_option maxHeartbeats 4000000 in
theorem sparse_no (ts : List Tok) (a : Int) (h : a < 0 ∨ (ts.length : Int) < a) : Row Try.prog 12 [vKs ts, vI a] [] (vT3 (z0, 0, 13)) [] := by
  have h1 := begin8_no ts a h 23
  unfold z0 at h1 ⊢
  refine row_of Try.func12 rfl rfl (Nat.le_of_ble_eq_true rfl) ?_
  repeat' (first | refine aw_seq ?_ | refine aw_skip ?_ | refine aw_block ?_ | refine aw_exit ?_ | refine aw_cond rfl (fun _ => ?_) (fun hb => absurd hb (by decide)) | refine aw_cond rfl (fun hb => absurd hb (by decide)) (fun _ => ?_) | (refine aw_reg (fun K hK => ?_); simp -implicitDefEqProofs) | (refine aw_drw mixd (fun K hK => ?_); simp -implicitDefEqProofs) | refine hK _ ?_ | refine hK _ _ (by rfl) ?_ | (refine ar_call (cp h1 ?_); simp -implicitDefEqProofs) | (refine ard_call (dp h1 ?_); simp -implicitDefEqProofs) | fail)
  refine aw_ret (fin_ret ?_); simp -implicitDefEqProofs [FinP, resV, resT] <;> try rfl
set_option maxRecDepth 100000 in
set_option maxHeartbeats 4000000 in
theorem sparse_yes (ts : List Tok) (hl : ts.length ≤ 3000000000000) (i : Nat) (h : i ≤ ts.length) : Row Try.prog 12 [vKs ts, vI i] [] (vT3 (Sx8 ts i)) [] := by
  have h1 := begin8_yes ts i h 23 _ (stmt_rows ts hl (ts.length + 1) i (by omega) h) (fun hh => ((sG_ok (ts := ts) _ i h).ok.no hh).2)
  rw [show sG ts (ts.length + 1) i = Sx8 ts i from rfl] at h1
  obtain ⟨⟨⟨px, pl⟩, j, e⟩, hr⟩ : ∃ r, Sx8 ts i = r := ⟨_, rfl⟩
  rw [hr] at h1 ⊢
  refine row_of Try.func12 rfl rfl (Nat.le_of_ble_eq_true rfl) ?_
  repeat' (first | refine aw_seq ?_ | refine aw_skip ?_ | refine aw_block ?_ | refine aw_exit ?_ | refine aw_cond rfl (fun _ => ?_) (fun hb => absurd hb (by decide)) | refine aw_cond rfl (fun hb => absurd hb (by decide)) (fun _ => ?_) | (refine aw_reg (fun K hK => ?_); simp -implicitDefEqProofs) | (refine aw_drw mixd (fun K hK => ?_); simp -implicitDefEqProofs) | refine hK _ ?_ | refine hK _ _ (by rfl) ?_ | (refine ar_call (cp h1 ?_); simp -implicitDefEqProofs) | (refine ard_call (dp h1 ?_); simp -implicitDefEqProofs) | fail)
  refine aw_ret (fin_ret ?_); simp -implicitDefEqProofs [FinP, resV, resT] <;> try rfl
end Go.Proofs.Ythcnligihpnfiaa.am
