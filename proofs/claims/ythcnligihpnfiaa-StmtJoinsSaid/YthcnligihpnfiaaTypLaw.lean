/-
  Layer 7: types: what the statement says.
-/
import Derived.Test.YthcnligihpnfiaaTypRef
import Derived.Test.YthcnligihpnfiaaRowRPlac
namespace Go.Proofs.Ythcnligihpnfiaa.am
open Go.ChangeShapes Go.WideShapes Go.ChangeAt Go.RowKit
open vt
set_option linter.unusedVariables false
set_option linter.unusedSimpArgs false
noncomputable abbrev vT3 (r : VT × Nat × Int) : AV := .tup [.agg (ta r.1), .c (.pv (I (r.2.1 : Nat))), .c (.pv (I r.2.2))]
theorem vT3_ren (r : VT × Nat × Int) (ρ : Nat → Nat) : (vT3 r).ren ρ = vT3 r := by
  show AV.tup [.agg (((tc r.1).map AC.pv).map (AC.ren ρ)), _, _] = _
  rw [ren_pure]; rfl
abbrev vRd (ts : List Tok) (i : Nat) (e : Int) : AV := .tup [.agg [.pv (.sl 5 (ts.map kc)), .pv (I i), .pv (I 0)], .c (.pv (I e))]
set_option maxRecDepth 100000 in
set_option maxHeartbeats 4000000 in
theorem new_yes (ts : List Tok) (i : Nat) (h : i ≤ ts.length) : Row Try.prog 41 [vKs ts, vI i] [] (vRd ts i 0) [] := by
  have h1 : ¬ (i : Int) < 0 := by omega
  have h2 : ¬ (ts.length : Int) < i := by omega
  have h3 : ¬ ts.length < i := by omega
  refine row_of Try.func41 rfl rfl (Nat.le_of_ble_eq_true rfl) ?_
  repeat (first | refine aw_seq ?_ | refine aw_skip ?_ | refine aw_block ?_ | refine aw_exit ?_ | refine aw_cond rfl (fun _ => ?_) (fun hb => absurd hb (by decide)) | refine aw_cond rfl (fun hb => absurd hb (by decide)) (fun _ => ?_) | (refine aw_reg (fun K hK => ?_); simp -implicitDefEqProofs [h1, h2, h3]; refine hK _ ?_) | (refine aw_drw mixd (fun K hK => ?_); simp -implicitDefEqProofs [h1, h2, h3]; refine hK _ _ (by rfl) ?_) | fail)
  refine aw_ret (fin_ret ?_); simp -implicitDefEqProofs [FinP, resV, resT] <;> try rfl
set_option maxRecDepth 100000 in
set_option maxHeartbeats 4000000 in
theorem new_no (ts : List Tok) (a : Int) (h : a < 0 ∨ (ts.length : Int) < a) : Row Try.prog 41 [vKs ts, vI a] [] (vRd [] 0 13) [] := by
  refine row_of Try.func41 rfl rfl (Nat.le_of_ble_eq_true rfl) ?_
  by_cases h1 : a < 0
  · repeat (first | refine aw_seq ?_ | refine aw_skip ?_ | refine aw_block ?_ | refine aw_exit ?_ | refine aw_cond rfl (fun _ => ?_) (fun hb => absurd hb (by decide)) | refine aw_cond rfl (fun hb => absurd hb (by decide)) (fun _ => ?_) | (refine aw_reg (fun K hK => ?_); simp -implicitDefEqProofs [h1]; refine hK _ ?_) | (refine aw_drw mixd (fun K hK => ?_); simp -implicitDefEqProofs [h1]; refine hK _ _ (by rfl) ?_) | fail)
    refine aw_ret (fin_ret ?_); simp -implicitDefEqProofs [FinP, resV, resT] <;> try rfl
  · have h2 : (ts.length : Int) < a := by omega
    repeat (first | refine aw_seq ?_ | refine aw_skip ?_ | refine aw_block ?_ | refine aw_exit ?_ | refine aw_cond rfl (fun _ => ?_) (fun hb => absurd hb (by decide)) | refine aw_cond rfl (fun hb => absurd hb (by decide)) (fun _ => ?_) | (refine aw_reg (fun K hK => ?_); simp -implicitDefEqProofs [h1, h2]; refine hK _ ?_) | (refine aw_drw mixd (fun K hK => ?_); simp -implicitDefEqProofs [h1, h2]; refine hK _ _ (by rfl) ?_) | fail)
    refine aw_ret (fin_ret ?_); simp -implicitDefEqProofs [FinP, resV, resT] <;> try rfl
set_option maxRecDepth 100000 in
set_option maxHeartbeats 4000000 in
theorem begin_no (ts : List Tok) (a : Int) (h : a < 0 ∨ (ts.length : Int) < a) (g : Nat) : Row Try.prog 20 [vKs ts, vI a, .v (.c (.fn (.func g) [] []))] [] (vT3 (z0, 0, 13)) [] := by
  have h1 := new_no ts a h
  refine row_of Try.func20 rfl rfl (Nat.le_of_ble_eq_true rfl) ?_
  repeat' (first | refine aw_seq ?_ | refine aw_skip ?_ | refine aw_block ?_ | refine aw_exit ?_ | refine aw_cond rfl (fun _ => ?_) (fun hb => absurd hb (by decide)) | refine aw_cond rfl (fun hb => absurd hb (by decide)) (fun _ => ?_) | (refine aw_reg (fun K hK => ?_); simp -implicitDefEqProofs) | (refine aw_drw mixd (fun K hK => ?_); simp -implicitDefEqProofs) | refine hK _ ?_ | refine hK _ _ (by rfl) ?_ | (refine ar_call (cp h1 ?_); simp -implicitDefEqProofs) | (refine ard_call (dp h1 ?_); simp -implicitDefEqProofs) | fail)
  refine aw_ret (fin_ret ?_); simp -implicitDefEqProofs [FinP, resV, resT, z0] <;> try rfl
/-- What is left of what was read. -/
noncomputable def endT (r : VT × Nat × Int) : VT × Nat × Int := if r.2.2 = 0 then r else (z0, r.2.1, r.2.2)
set_option maxRecDepth 100000 in
set_option maxHeartbeats 4000000 in
theorem begin_yes (ts : List Tok) (i : Nat) (h : i ≤ ts.length) (g : Nat) (r : VT × Nat × Int) (hr : Row Try.prog g [vR] [rd ts i 0] (vT r.1) [some (rd ts r.2.1 r.2.2)]) : Row Try.prog 20 [vKs ts, vI i, .v (.c (.fn (.func g) [] []))] [] (vT3 (endT r)) [] := by
  have h1 := new_yes ts i h
  obtain ⟨⟨px, pl⟩, j, e⟩ := r
  have g1 := goes_row ts j e
  have p1 := place_row ts j e
  have e1 := err_row ts j e
  dsimp only at hr
  by_cases he : e = 0
  · subst he
    rw [show endT (.mk px pl, j, 0) = (.mk px pl, j, 0) from if_pos rfl]
    refine row_of Try.func20 rfl rfl (Nat.le_of_ble_eq_true rfl) ?_
    repeat' (first | refine aw_seq ?_ | refine aw_skip ?_ | refine aw_block ?_ | refine aw_exit ?_ | refine aw_cond rfl (fun _ => ?_) (fun hb => absurd hb (by decide)) | refine aw_cond rfl (fun hb => absurd hb (by decide)) (fun _ => ?_) | (refine aw_reg (fun K hK => ?_); simp -implicitDefEqProofs) | (refine aw_drw mixd (fun K hK => ?_); simp -implicitDefEqProofs) | refine hK _ ?_ | refine hK _ _ (by rfl) ?_ | (refine ar_call (cp h1 ?_); simp -implicitDefEqProofs) | (refine ard_call (dp h1 ?_); simp -implicitDefEqProofs) | (refine ar_call (cb hr 23 ?_); simp -implicitDefEqProofs) | (refine ard_call (db hr 23 ?_); simp -implicitDefEqProofs) | (refine ar_call (cb g1 23 ?_); simp -implicitDefEqProofs) | (refine ard_call (db g1 23 ?_); simp -implicitDefEqProofs) | (refine ar_call (cb p1 23 ?_); simp -implicitDefEqProofs) | (refine ard_call (db p1 23 ?_); simp -implicitDefEqProofs) | fail)
    refine aw_ret (fin_ret ?_); simp -implicitDefEqProofs [FinP, resV, resT] <;> try rfl
  · rw [show endT (.mk px pl, j, e) = (z0, j, e) from if_neg he]
    refine row_of Try.func20 rfl rfl (Nat.le_of_ble_eq_true rfl) ?_
    repeat' (first | refine aw_seq ?_ | refine aw_skip ?_ | refine aw_block ?_ | refine aw_exit ?_ | refine aw_cond rfl (fun _ => ?_) (fun hb => absurd hb (by decide)) | refine aw_cond rfl (fun hb => absurd hb (by decide)) (fun _ => ?_) | (refine aw_reg (fun K hK => ?_); simp -implicitDefEqProofs [he]) | (refine aw_drw mixd (fun K hK => ?_); simp -implicitDefEqProofs [he]) | refine hK _ ?_ | refine hK _ _ (by rfl) ?_ | (refine ar_call (cp h1 ?_); simp -implicitDefEqProofs [he]) | (refine ard_call (dp h1 ?_); simp -implicitDefEqProofs [he]) | (refine ar_call (cb hr 23 ?_); simp -implicitDefEqProofs [he]) | (refine ard_call (db hr 23 ?_); simp -implicitDefEqProofs [he]) | (refine ar_call (cb g1 23 ?_); simp -implicitDefEqProofs [he]) | (refine ard_call (db g1 23 ?_); simp -implicitDefEqProofs [he]) | (refine ar_call (cb p1 23 ?_); simp -implicitDefEqProofs [he]) | (refine ard_call (db p1 23 ?_); simp -implicitDefEqProofs [he]) | (refine ar_call (cb e1 23 ?_); simp -implicitDefEqProofs [he]) | (refine ard_call (db e1 23 ?_); simp -implicitDefEqProofs [he]) | fail)
    refine aw_ret (fin_ret ?_); simp -implicitDefEqProofs [FinP, resV, resT, z0] <;> try rfl
end Go.Proofs.Ythcnligihpnfiaa.am
