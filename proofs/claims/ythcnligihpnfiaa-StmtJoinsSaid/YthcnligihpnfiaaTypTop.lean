/-
  Layer 7: the program's Type of any place.
-/
import Derived.Test.YthcnligihpnfiaaTypLaw
namespace Go.Proofs.Ythcnligihpnfiaa.am
open Go.ChangeShapes Go.WideShapes Go.ChangeAt Go.RowKit
open vt
set_option linter.unusedVariables false
set_option linter.unusedSimpArgs false
set_option maxRecDepth 100000 in
set_option maxHeartbeats 4000000 in
theorem type_no (ts : List Tok) (a : Int) (h : a < 0 ∨ (ts.length : Int) < a) : Row Try.prog 69 [vKs ts, vI a] [] (vT3 (z0, 0, 13)) [] := by
  have h1 := begin_no ts a h 75
  unfold z0 at h1 ⊢
  refine row_of Try.func69 rfl rfl (Nat.le_of_ble_eq_true rfl) ?_
  repeat' (first | refine aw_seq ?_ | refine aw_skip ?_ | refine aw_block ?_ | refine aw_exit ?_ | refine aw_cond rfl (fun _ => ?_) (fun hb => absurd hb (by decide)) | refine aw_cond rfl (fun hb => absurd hb (by decide)) (fun _ => ?_) | (refine aw_reg (fun K hK => ?_); simp -implicitDefEqProofs) | (refine aw_drw mixd (fun K hK => ?_); simp -implicitDefEqProofs) | refine hK _ ?_ | refine hK _ _ (by rfl) ?_ | (refine ar_call (cp h1 ?_); simp -implicitDefEqProofs) | (refine ard_call (dp h1 ?_); simp -implicitDefEqProofs) | fail)
  refine aw_ret (fin_ret ?_); simp -implicitDefEqProofs [FinP, resV, resT] <;> try rfl
set_option maxRecDepth 100000 in
set_option maxHeartbeats 4000000 in
theorem type_yes (ts : List Tok) (i : Nat) (h : i ≤ ts.length) (hl : ts.length ≤ 9223372036854775807) : Row Try.prog 69 [vKs ts, vI i] [] (vT3 (endT (tyG ts (ts.length + 1) i))) [] := by
  have h1 := begin_yes ts i h 75 _ (typ_row ts hl (ts.length + 1) i (by omega) h)
  obtain ⟨⟨⟨px, pl⟩, j, e⟩, hr⟩ : ∃ r, endT (tyG ts (ts.length + 1) i) = r := ⟨_, rfl⟩
  rw [hr] at h1 ⊢
  refine row_of Try.func69 rfl rfl (Nat.le_of_ble_eq_true rfl) ?_
  repeat' (first | refine aw_seq ?_ | refine aw_skip ?_ | refine aw_block ?_ | refine aw_exit ?_ | refine aw_cond rfl (fun _ => ?_) (fun hb => absurd hb (by decide)) | refine aw_cond rfl (fun hb => absurd hb (by decide)) (fun _ => ?_) | (refine aw_reg (fun K hK => ?_); simp -implicitDefEqProofs) | (refine aw_drw mixd (fun K hK => ?_); simp -implicitDefEqProofs) | refine hK _ ?_ | refine hK _ _ (by rfl) ?_ | (refine ar_call (cp h1 ?_); simp -implicitDefEqProofs) | (refine ard_call (dp h1 ?_); simp -implicitDefEqProofs) | fail)
  refine aw_ret (fin_ret ?_); simp -implicitDefEqProofs [FinP, resV, resT] <;> try rfl
theorem endT_ty (ts : List Tok) (n i : Nat) : endT (tyG ts n i) = tyG ts n i := by
  obtain ⟨_, h2, _, _⟩ := tyG_ok ts n i
  unfold endT
  split
  · rfl
  · rename_i h
    obtain ⟨h3, h4⟩ := h2 h
    rw [← h4]
theorem plac0 : plac z0 z0 = true := plac_refl _
end Go.Proofs.Ythcnligihpnfiaa.am
