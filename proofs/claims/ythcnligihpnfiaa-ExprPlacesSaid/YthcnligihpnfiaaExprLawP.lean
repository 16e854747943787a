/-
  Layer 7: where expressions stand: what the statement says.
-/
import Derived.Test.YthcnligihpnfiaaExprLaw
import Derived.Test.YthcnligihpnfiaaAwkRow
import Derived.Test.YthcnligihpnfiaaRowWithin
import Derived.Test.YthcnligihpnfiaaLexOrd
namespace Go.Proofs.Ythcnligihpnfiaa.am
open Go.ChangeShapes Go.WideShapes Go.ChangeAt Go.RowKit
open vt
set_option linter.unusedVariables false
set_option linter.unusedSimpArgs false
set_option maxRecDepth 100000 in
set_option maxHeartbeats 4000000 in
theorem law_places_row (s : ByteArray) (hs : s.size ≤ 9223372036854775807) : Row Try.prog 3 [vS s] [] (vB true) [] := by
  have haw := awake07_row
  have t := rtokens_row s hs
  obtain ⟨⟨ts, tp, te⟩, ht⟩ : ∃ r, tokG s = r := ⟨_, rfl⟩
  have hok := tok_ok (s := s)
  rw [ht] at t hok
  clear ht
  by_cases he : te = 0; rotate_left
  · clear hok
    refine row_of Try.func3 rfl rfl (Nat.le_of_ble_eq_true rfl) ?_
    repeat' (first | refine aw_seq ?_ | refine aw_skip ?_ | refine aw_block ?_ | refine aw_exit ?_ | refine aw_cond rfl (fun _ => ?_) (fun hb => absurd hb (by decide)) | refine aw_cond rfl (fun hb => absurd hb (by decide)) (fun _ => ?_) | (refine aw_reg (fun K hK => ?_); simp -implicitDefEqProofs [he]) | (refine aw_drw mixd (fun K hK => ?_); simp -implicitDefEqProofs [he]) | refine hK _ ?_ | refine hK _ _ (by rfl) ?_ | (refine ar_call (cp t ?_); simp -implicitDefEqProofs [he]) | (refine ard_call (dp t ?_); simp -implicitDefEqProofs [he]) | (refine ar_call (cp haw ?_); simp -implicitDefEqProofs [he]) | (refine ard_call (dp haw ?_); simp -implicitDefEqProofs [he]) | fail)
    refine aw_ret (fin_ret ?_); simp -implicitDefEqProofs [FinP, resV, resT] <;> try rfl
  subst he
  have hok := hok rfl
  dsimp only at hok
  by_cases h3 : 300 < ts.length
  · have h3' : (300 : Int) < ts.length := by omega
    clear hok
    refine row_of Try.func3 rfl rfl (Nat.le_of_ble_eq_true rfl) ?_
    repeat' (first | refine aw_seq ?_ | refine aw_skip ?_ | refine aw_block ?_ | refine aw_exit ?_ | refine aw_cond rfl (fun _ => ?_) (fun hb => absurd hb (by decide)) | refine aw_cond rfl (fun hb => absurd hb (by decide)) (fun _ => ?_) | (refine aw_reg (fun K hK => ?_); simp -implicitDefEqProofs [h3, h3']) | (refine aw_drw mixd (fun K hK => ?_); simp -implicitDefEqProofs [h3, h3']) | refine hK _ ?_ | refine hK _ _ (by rfl) ?_ | (refine ar_call (cp t ?_); simp -implicitDefEqProofs [h3, h3']) | (refine ard_call (dp t ?_); simp -implicitDefEqProofs [h3, h3']) | (refine ar_call (cp haw ?_); simp -implicitDefEqProofs [h3, h3']) | (refine ard_call (dp haw ?_); simp -implicitDefEqProofs [h3, h3']) | fail)
    refine aw_ret (fin_ret ?_); simp -implicitDefEqProofs [FinP, resV, resT] <;> try rfl
  have h3' : ¬ (300 : Int) < ts.length := by omega
  have h := parse_yes ts (by omega) 0 (Nat.zero_le _)
  have hk := Q_ok (ts := ts) 1 0 (Nat.zero_le _)
  have hp := Q_pl (tok_to hok) 1 0 (Nat.zero_le _)
  have hsz := Q_sz (ts := ts) 1 0 (Nat.zero_le _)
  obtain ⟨⟨⟨px, pl⟩, j, e⟩, hr⟩ : ∃ r, Qx ts 1 0 = r := ⟨_, rfl⟩
  rw [hr] at h hk hp hsz
  by_cases he : e = 0; rotate_left
  · clear hok hp hk hr hsz
    refine row_of Try.func3 rfl rfl (Nat.le_of_ble_eq_true rfl) ?_
    repeat' (first | refine aw_seq ?_ | refine aw_skip ?_ | refine aw_block ?_ | refine aw_exit ?_ | refine aw_cond rfl (fun _ => ?_) (fun hb => absurd hb (by decide)) | refine aw_cond rfl (fun hb => absurd hb (by decide)) (fun _ => ?_) | (refine aw_reg (fun K hK => ?_); simp -implicitDefEqProofs [h3, h3', he]) | (refine aw_drw mixd (fun K hK => ?_); simp -implicitDefEqProofs [h3, h3', he]) | refine hK _ ?_ | refine hK _ _ (by rfl) ?_ | (refine ar_call (cp t ?_); simp -implicitDefEqProofs [h3, h3', he]) | (refine ard_call (dp t ?_); simp -implicitDefEqProofs [h3, h3', he]) | (refine ar_call (cp h ?_); simp -implicitDefEqProofs [h3, h3', he]) | (refine ard_call (dp h ?_); simp -implicitDefEqProofs [h3, h3', he]) | (refine ar_call (cp haw ?_); simp -implicitDefEqProofs [h3, h3', he]) | (refine ard_call (dp haw ?_); simp -implicitDefEqProofs [h3, h3', he]) | fail)
    refine aw_ret (fin_ret ?_); simp -implicitDefEqProofs [FinP, resV, resT] <;> try rfl
  subst he
  have hlt := tok_ahead hok hk rfl hp
  have hy := hk.yes rfl
  have hp := hp rfl
  have hw := within_row _ hp.wi (by dsimp only at hsz ⊢; omega)
  have hto := hp.to
  dsimp only at hlt hy hto hw
  obtain ⟨j, rfl⟩ : ∃ m, j = m + 1 := ⟨j - 1, by omega⟩
  rw [Nat.add_sub_cancel] at hto
  have hjl : j < ts.length := by omega
  obtain ⟨y, hyy⟩ : ∃ y, ts[j]? = some y := ⟨_, List.getElem?_eq_getElem hjl⟩
  have hy' := (List.getElem?_eq_some_iff.1 hyy).2
  rw [show toT ts j = y.t by unfold toT; rw [nxt_some hyy]] at hto
  have hto' : px.t ≤ y.t := hto
  have wj : IntKind.i64.wrap (((j + 1 : Nat) : Int) - 1) = (j : Nat) := by rw [i64i _ (by omega) (by omega)]; omega
  have wj' : IntKind.i64.wrap ((j : Int) + 1 - 1) = (j : Nat) := by rw [i64i _ (by omega) (by omega)]; omega
  have wj2 : IntKind.i64.wrap ((j : Nat) : Int) = (j : Nat) := i64i _ (by omega) (by omega)
  have g1 : (0 : Int) < (j : Int) + 1 := by omega
  have g2 : (j : Int) + 1 < ts.length := by omega
  clear hok hp hk hr hsz hy hto
  refine row_of Try.func3 rfl rfl (Nat.le_of_ble_eq_true rfl) ?_
  repeat' (first | refine aw_seq ?_ | refine aw_skip ?_ | refine aw_block ?_ | refine aw_exit ?_ | refine aw_cond rfl (fun _ => ?_) (fun hb => absurd hb (by decide)) | refine aw_cond rfl (fun hb => absurd hb (by decide)) (fun _ => ?_) | (refine aw_reg (fun K hK => ?_); simp -implicitDefEqProofs [h3, h3', hjl, hyy, hy', wj, wj', wj2, g1, g2, hlt, hto']) | (refine aw_drw mixd (fun K hK => ?_); simp -implicitDefEqProofs [h3, h3', hjl, hyy, hy', wj, wj', wj2, g1, g2, hlt, hto']) | refine hK _ ?_ | refine hK _ _ (by rfl) ?_ | (refine ar_call (cp t ?_); simp -implicitDefEqProofs [h3, h3', hjl, hyy, hy', wj, wj', wj2, g1, g2, hlt, hto']) | (refine ard_call (dp t ?_); simp -implicitDefEqProofs [h3, h3', hjl, hyy, hy', wj, wj', wj2, g1, g2, hlt, hto']) | (refine ar_call (cp h ?_); simp -implicitDefEqProofs [h3, h3', hjl, hyy, hy', wj, wj', wj2, g1, g2, hlt, hto']) | (refine ard_call (dp h ?_); simp -implicitDefEqProofs [h3, h3', hjl, hyy, hy', wj, wj', wj2, g1, g2, hlt, hto']) | (refine ar_call (cp hw ?_); simp -implicitDefEqProofs [h3, h3', hjl, hyy, hy', wj, wj', wj2, g1, g2, hlt, hto']) | (refine ard_call (dp hw ?_); simp -implicitDefEqProofs [h3, h3', hjl, hyy, hy', wj, wj', wj2, g1, g2, hlt, hto']) | (refine ar_call (cp haw ?_); simp -implicitDefEqProofs [h3, h3', hjl, hyy, hy', wj, wj', wj2, g1, g2, hlt, hto']) | (refine ard_call (dp haw ?_); simp -implicitDefEqProofs [h3, h3', hjl, hyy, hy', wj, wj', wj2, g1, g2, hlt, hto']) | fail)
  refine aw_ret (fin_ret ?_); simp -implicitDefEqProofs [FinP, resV, resT] <;> try rfl
end Go.Proofs.Ythcnligihpnfiaa.am
