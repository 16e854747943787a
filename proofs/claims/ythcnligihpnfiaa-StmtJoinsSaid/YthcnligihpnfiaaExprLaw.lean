/-
  Layer 7: expressions: what the statement says.
-/
import Derived.Test.YthcnligihpnfiaaExprAtm
import Derived.Test.YthcnligihpnfiaaExprPgd
import Derived.Test.YthcnligihpnfiaaTypTop
namespace Go.Proofs.Ythcnligihpnfiaa.am
open Go.ChangeShapes Go.WideShapes Go.ChangeAt Go.RowKit
open vt
set_option linter.unusedVariables false
set_option linter.unusedSimpArgs false
set_option maxRecDepth 100000 in
set_option maxHeartbeats 4000000 in
theorem parse_no (ts : List Tok) (a : Int) (h : a < 0 ∨ (ts.length : Int) < a) : Row Try.prog 9 [vKs ts, vI a] [] (vT3 (z0, 0, 13)) [] := by
  have h1 := begin_no ts a h 21
  unfold z0 at h1 ⊢
  refine row_of Try.func9 rfl rfl (Nat.le_of_ble_eq_true rfl) ?_
  repeat' (first | refine aw_seq ?_ | refine aw_skip ?_ | refine aw_block ?_ | refine aw_exit ?_ | refine aw_cond rfl (fun _ => ?_) (fun hb => absurd hb (by decide)) | refine aw_cond rfl (fun hb => absurd hb (by decide)) (fun _ => ?_) | (refine aw_reg (fun K hK => ?_); simp -implicitDefEqProofs) | (refine aw_drw mixd (fun K hK => ?_); simp -implicitDefEqProofs) | refine hK _ ?_ | refine hK _ _ (by rfl) ?_ | (refine ar_call (cp h1 ?_); simp -implicitDefEqProofs) | (refine ard_call (dp h1 ?_); simp -implicitDefEqProofs) | fail)
  refine aw_ret (fin_ret ?_); simp -implicitDefEqProofs [FinP, resV, resT] <;> try rfl
set_option maxRecDepth 100000 in
set_option maxHeartbeats 4000000 in
theorem begin_any (ts : List Tok) (i : Nat) (h : i ≤ ts.length) (g : Nat) (r : Got) (hp : PR g [] ts i r) (hz : r.2.2 ≠ 0 → r.1 = z0) : Row Try.prog 20 [vKs ts, vI i, .v (.c (.fn (.func g) [] []))] [] (vT3 r) [] := by
  obtain ⟨t, ht, hr⟩ := hp
  have := begin_yes ts i h g (t, r.2.1, r.2.2) hr
  have e : endT (t, r.2.1, r.2.2) = r := by
    unfold endT
    obtain ⟨r1, r2, r3⟩ := r
    dsimp only at ht hz ⊢
    by_cases h0 : r3 = 0
    · rw [if_pos h0, ht h0]
    · rw [if_neg h0, hz h0]
  rwa [e] at this
set_option maxRecDepth 100000 in
set_option maxHeartbeats 4000000 in
theorem parse_yes (ts : List Tok) (hl : ts.length ≤ 3000000000000) (i : Nat) (h : i ≤ ts.length) : Row Try.prog 9 [vKs ts, vI i] [] (vT3 (Qx ts 1 i)) [] := by
  have h1 := begin_any ts i h 21 _ (pexpr_pr ts hl i h) (fun hh => ((Q_ok (ts := ts) 1 i h).no hh).2)
  obtain ⟨⟨⟨px, pl⟩, j, e⟩, hr⟩ : ∃ r, Qx ts 1 i = r := ⟨_, rfl⟩
  rw [hr] at h1 ⊢
  refine row_of Try.func9 rfl rfl (Nat.le_of_ble_eq_true rfl) ?_
  repeat' (first | refine aw_seq ?_ | refine aw_skip ?_ | refine aw_block ?_ | refine aw_exit ?_ | refine aw_cond rfl (fun _ => ?_) (fun hb => absurd hb (by decide)) | refine aw_cond rfl (fun hb => absurd hb (by decide)) (fun _ => ?_) | (refine aw_reg (fun K hK => ?_); simp -implicitDefEqProofs) | (refine aw_drw mixd (fun K hK => ?_); simp -implicitDefEqProofs) | refine hK _ ?_ | refine hK _ _ (by rfl) ?_ | (refine ar_call (cp h1 ?_); simp -implicitDefEqProofs) | (refine ard_call (dp h1 ?_); simp -implicitDefEqProofs) | fail)
  refine aw_ret (fin_ret ?_); simp -implicitDefEqProofs [FinP, resV, resT] <;> try rfl
end Go.Proofs.Ythcnligihpnfiaa.am
