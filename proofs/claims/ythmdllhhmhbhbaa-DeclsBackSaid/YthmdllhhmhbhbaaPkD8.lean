import Derived.Test.YthmdllhhmhbhbaaPkD7
section
namespace Go.Proofs.Ythmdllhhmhbhbaa.am
open Go.ChangeShapes Go.WideShapes Go.ChangeAt Go.RowKit
open vt
set_option linter.unusedVariables false
set_option linter.unusedSimpArgs false
set_option maxRecDepth 100000 in
set_option maxHeartbeats 4000000 in
theorem ris_row (t : VT) (k : Int) : Row Try.prog 57 [vT t, vI k] [] (vB (isT t k)) [] := by
  obtain ⟨x, l⟩ := t
  by_cases h1 : x.k = k
  · by_cases h2 : l = []
    · subst h2
      refine row_of Try.func57 rfl rfl (Nat.le_of_ble_eq_true rfl) ?_
      repeat (first | refine aw_seq ?_ | refine aw_skip ?_ | refine aw_block ?_ | refine aw_exit ?_ | refine aw_cond rfl (fun _ => ?_) (fun hb => absurd hb (by decide)) | refine aw_cond rfl (fun hb => absurd hb (by decide)) (fun _ => ?_) | (refine aw_reg (fun K hK => ?_); simp -implicitDefEqProofs [h1]; refine hK _ ?_) | (refine aw_drw mixd (fun K hK => ?_); simp -implicitDefEqProofs [h1]; refine hK _ _ (by rfl) ?_) | fail)
      refine aw_ret (fin_ret ?_); simp -implicitDefEqProofs [FinP, resV, resT, isT, Tr.lab, Tr.kids, h1] <;> try rfl
    · have h2' : ¬ l.length = 0 := fun h => h2 (List.eq_nil_of_length_eq_zero h)
      have h2'' : ¬ (l.length : Int) = 0 := by omega
      refine row_of Try.func57 rfl rfl (Nat.le_of_ble_eq_true rfl) ?_
      repeat (first | refine aw_seq ?_ | refine aw_skip ?_ | refine aw_block ?_ | refine aw_exit ?_ | refine aw_cond rfl (fun _ => ?_) (fun hb => absurd hb (by decide)) | refine aw_cond rfl (fun hb => absurd hb (by decide)) (fun _ => ?_) | (refine aw_reg (fun K hK => ?_); simp -implicitDefEqProofs [h1, h2, h2', h2'']; refine hK _ ?_) | (refine aw_drw mixd (fun K hK => ?_); simp -implicitDefEqProofs [h1, h2, h2', h2'']; refine hK _ _ (by rfl) ?_) | fail)
      refine aw_ret (fin_ret ?_); simp -implicitDefEqProofs [FinP, resV, resT, isT, Tr.lab, Tr.kids, h1, h2, h2', h2''] <;> try rfl
  · refine row_of Try.func57 rfl rfl (Nat.le_of_ble_eq_true rfl) ?_
    repeat (first | refine aw_seq ?_ | refine aw_skip ?_ | refine aw_block ?_ | refine aw_exit ?_ | refine aw_cond rfl (fun _ => ?_) (fun hb => absurd hb (by decide)) | refine aw_cond rfl (fun hb => absurd hb (by decide)) (fun _ => ?_) | (refine aw_reg (fun K hK => ?_); simp -implicitDefEqProofs [h1]; refine hK _ ?_) | (refine aw_drw mixd (fun K hK => ?_); simp -implicitDefEqProofs [h1]; refine hK _ _ (by rfl) ?_) | fail)
    refine aw_ret (fin_ret ?_); simp -implicitDefEqProofs [FinP, resV, resT, isT, Tr.lab, Tr.kids, h1] <;> try rfl
set_option maxRecDepth 100000 in
set_option maxHeartbeats 4000000 in
theorem rint_row : Row Try.prog 37 [] [] (vT (tyT 1)) [] := by
  refine row_of Try.func37 rfl rfl (Nat.le_of_ble_eq_true rfl) ?_
  repeat (first | refine aw_seq ?_ | refine aw_skip ?_ | refine aw_block ?_ | refine aw_exit ?_ | refine aw_cond rfl (fun _ => ?_) (fun hb => absurd hb (by decide)) | refine aw_cond rfl (fun hb => absurd hb (by decide)) (fun _ => ?_) | (refine aw_reg (fun K hK => ?_); simp -implicitDefEqProofs; refine hK _ ?_) | (refine aw_drw mixd (fun K hK => ?_); simp -implicitDefEqProofs; refine hK _ _ (by rfl) ?_) | fail)
  refine aw_ret (fin_ret ?_); simp -implicitDefEqProofs [FinP, resV, resT, tyT] <;> try rfl
set_option maxRecDepth 100000 in
set_option maxHeartbeats 4000000 in
theorem rbool_row : Row Try.prog 38 [] [] (vT (tyT 2)) [] := by
  refine row_of Try.func38 rfl rfl (Nat.le_of_ble_eq_true rfl) ?_
  repeat (first | refine aw_seq ?_ | refine aw_skip ?_ | refine aw_block ?_ | refine aw_exit ?_ | refine aw_cond rfl (fun _ => ?_) (fun hb => absurd hb (by decide)) | refine aw_cond rfl (fun hb => absurd hb (by decide)) (fun _ => ?_) | (refine aw_reg (fun K hK => ?_); simp -implicitDefEqProofs; refine hK _ ?_) | (refine aw_drw mixd (fun K hK => ?_); simp -implicitDefEqProofs; refine hK _ _ (by rfl) ?_) | fail)
  refine aw_ret (fin_ret ?_); simp -implicitDefEqProofs [FinP, resV, resT, tyT] <;> try rfl
set_option maxRecDepth 100000 in
set_option maxHeartbeats 4000000 in
theorem rlit_row (t : VT) : Row Try.prog 28 [vT t] [] (vT (litT t)) [] := by
  have h1 := rint_row
  have h2 := rbool_row
  unfold tyT at h1 h2
  obtain ⟨x, l⟩ := t
  by_cases h5 : x.k = 5
  · rw [show litT (.mk x l) = tyT 1 by simp [litT, Tr.lab, h5]]
    unfold tyT
    refine row_of Try.func28 rfl rfl (Nat.le_of_ble_eq_true rfl) ?_
    repeat' (first | refine aw_seq ?_ | refine aw_skip ?_ | refine aw_block ?_ | refine aw_exit ?_ | refine aw_cond rfl (fun _ => ?_) (fun hb => absurd hb (by decide)) | refine aw_cond rfl (fun hb => absurd hb (by decide)) (fun _ => ?_) | (refine aw_reg (fun K hK => ?_); simp -implicitDefEqProofs [h5]) | (refine aw_drw mixd (fun K hK => ?_); simp -implicitDefEqProofs [h5]) | refine hK _ ?_ | refine hK _ _ (by rfl) ?_ | (refine ar_call (cp h1 ?_); simp -implicitDefEqProofs [h5]) | (refine ard_call (dp h1 ?_); simp -implicitDefEqProofs [h5]) | (refine ar_call (cp h2 ?_); simp -implicitDefEqProofs [h5]) | (refine ard_call (dp h2 ?_); simp -implicitDefEqProofs [h5]) | fail)
    refine aw_ret (fin_ret ?_); simp -implicitDefEqProofs [FinP, resV, resT] <;> try rfl
  by_cases h6 : x.k = 6
  · rw [show litT (.mk x l) = tyT 2 by simp [litT, Tr.lab, h6]]
    unfold tyT
    refine row_of Try.func28 rfl rfl (Nat.le_of_ble_eq_true rfl) ?_
    repeat' (first | refine aw_seq ?_ | refine aw_skip ?_ | refine aw_block ?_ | refine aw_exit ?_ | refine aw_cond rfl (fun _ => ?_) (fun hb => absurd hb (by decide)) | refine aw_cond rfl (fun hb => absurd hb (by decide)) (fun _ => ?_) | (refine aw_reg (fun K hK => ?_); simp -implicitDefEqProofs [h6]) | (refine aw_drw mixd (fun K hK => ?_); simp -implicitDefEqProofs [h6]) | refine hK _ ?_ | refine hK _ _ (by rfl) ?_ | (refine ar_call (cp h1 ?_); simp -implicitDefEqProofs [h6]) | (refine ard_call (dp h1 ?_); simp -implicitDefEqProofs [h6]) | (refine ar_call (cp h2 ?_); simp -implicitDefEqProofs [h6]) | (refine ard_call (dp h2 ?_); simp -implicitDefEqProofs [h6]) | fail)
    refine aw_ret (fin_ret ?_); simp -implicitDefEqProofs [FinP, resV, resT] <;> try rfl
  rw [show litT (.mk x l) = z0T by simp [litT, Tr.lab, h5, h6]]
  refine row_of Try.func28 rfl rfl (Nat.le_of_ble_eq_true rfl) ?_
  repeat' (first | refine aw_seq ?_ | refine aw_skip ?_ | refine aw_block ?_ | refine aw_exit ?_ | refine aw_cond rfl (fun _ => ?_) (fun hb => absurd hb (by decide)) | refine aw_cond rfl (fun hb => absurd hb (by decide)) (fun _ => ?_) | (refine aw_reg (fun K hK => ?_); simp -implicitDefEqProofs [h5, h6]) | (refine aw_drw mixd (fun K hK => ?_); simp -implicitDefEqProofs [h5, h6]) | refine hK _ ?_ | refine hK _ _ (by rfl) ?_ | (refine ar_call (cp h1 ?_); simp -implicitDefEqProofs [h5, h6]) | (refine ard_call (dp h1 ?_); simp -implicitDefEqProofs [h5, h6]) | (refine ar_call (cp h2 ?_); simp -implicitDefEqProofs [h5, h6]) | (refine ard_call (dp h2 ?_); simp -implicitDefEqProofs [h5, h6]) | fail)
  refine aw_ret (fin_ret ?_); simp -implicitDefEqProofs [FinP, resV, resT] <;> try rfl
set_option maxRecDepth 100000 in
set_option maxHeartbeats 4000000 in
theorem rshaE_row (x : Lab) (l : List VT) : Row Try.prog 52 [vT (.mk x l)] [] (vB (shaE x l.length)) [] := by
  by_cases h5 : x.k = 5
  · by_cases z : l = []
    · refine row_of Try.func52 rfl rfl (Nat.le_of_ble_eq_true rfl) ?_
      repeat (first | refine aw_seq ?_ | refine aw_skip ?_ | refine aw_block ?_ | refine aw_exit ?_ | refine aw_cond rfl (fun _ => ?_) (fun hb => absurd hb (by decide)) | refine aw_cond rfl (fun hb => absurd hb (by decide)) (fun _ => ?_) | (refine aw_reg (fun K hK => ?_); simp -implicitDefEqProofs [h5, z, List.length_nil]; refine hK _ ?_) | (refine aw_drw mixd (fun K hK => ?_); simp -implicitDefEqProofs [h5, z, List.length_nil]; refine hK _ _ (by rfl) ?_) | fail)
      refine aw_ret (fin_ret ?_); simp -implicitDefEqProofs [FinP, resV, resT, shaE, h5, z, List.length_nil] <;> try rfl
    · have z1 : ¬ l.length = 0 := fun h => z (List.eq_nil_of_length_eq_zero h)
      have z2 : ¬ (l.length : Int) = 0 := by omega
      · refine row_of Try.func52 rfl rfl (Nat.le_of_ble_eq_true rfl) ?_
        repeat (first | refine aw_seq ?_ | refine aw_skip ?_ | refine aw_block ?_ | refine aw_exit ?_ | refine aw_cond rfl (fun _ => ?_) (fun hb => absurd hb (by decide)) | refine aw_cond rfl (fun hb => absurd hb (by decide)) (fun _ => ?_) | (refine aw_reg (fun K hK => ?_); simp -implicitDefEqProofs [h5, z, z1, z2]; refine hK _ ?_) | (refine aw_drw mixd (fun K hK => ?_); simp -implicitDefEqProofs [h5, z, z1, z2]; refine hK _ _ (by rfl) ?_) | fail)
        refine aw_ret (fin_ret ?_); simp -implicitDefEqProofs [FinP, resV, resT, shaE, h5, z, z1, z2] <;> try rfl
  by_cases h7 : x.k = 7
  · by_cases z : l = []
    · refine row_of Try.func52 rfl rfl (Nat.le_of_ble_eq_true rfl) ?_
      repeat (first | refine aw_seq ?_ | refine aw_skip ?_ | refine aw_block ?_ | refine aw_exit ?_ | refine aw_cond rfl (fun _ => ?_) (fun hb => absurd hb (by decide)) | refine aw_cond rfl (fun hb => absurd hb (by decide)) (fun _ => ?_) | (refine aw_reg (fun K hK => ?_); simp -implicitDefEqProofs [h7, z, List.length_nil]; refine hK _ ?_) | (refine aw_drw mixd (fun K hK => ?_); simp -implicitDefEqProofs [h7, z, List.length_nil]; refine hK _ _ (by rfl) ?_) | fail)
      refine aw_ret (fin_ret ?_); simp -implicitDefEqProofs [FinP, resV, resT, shaE, h7, z, List.length_nil] <;> try rfl
    · have z1 : ¬ l.length = 0 := fun h => z (List.eq_nil_of_length_eq_zero h)
      have z2 : ¬ (l.length : Int) = 0 := by omega
      · refine row_of Try.func52 rfl rfl (Nat.le_of_ble_eq_true rfl) ?_
        repeat (first | refine aw_seq ?_ | refine aw_skip ?_ | refine aw_block ?_ | refine aw_exit ?_ | refine aw_cond rfl (fun _ => ?_) (fun hb => absurd hb (by decide)) | refine aw_cond rfl (fun hb => absurd hb (by decide)) (fun _ => ?_) | (refine aw_reg (fun K hK => ?_); simp -implicitDefEqProofs [h7, z, z1, z2]; refine hK _ ?_) | (refine aw_drw mixd (fun K hK => ?_); simp -implicitDefEqProofs [h7, z, z1, z2]; refine hK _ _ (by rfl) ?_) | fail)
        refine aw_ret (fin_ret ?_); simp -implicitDefEqProofs [FinP, resV, resT, shaE, h7, z, z1, z2] <;> try rfl
  by_cases h8 : x.k = 8
  · by_cases z : l = []
    · refine row_of Try.func52 rfl rfl (Nat.le_of_ble_eq_true rfl) ?_
      repeat (first | refine aw_seq ?_ | refine aw_skip ?_ | refine aw_block ?_ | refine aw_exit ?_ | refine aw_cond rfl (fun _ => ?_) (fun hb => absurd hb (by decide)) | refine aw_cond rfl (fun hb => absurd hb (by decide)) (fun _ => ?_) | (refine aw_reg (fun K hK => ?_); simp -implicitDefEqProofs [h8, z, List.length_nil]; refine hK _ ?_) | (refine aw_drw mixd (fun K hK => ?_); simp -implicitDefEqProofs [h8, z, List.length_nil]; refine hK _ _ (by rfl) ?_) | fail)
      refine aw_ret (fin_ret ?_); simp -implicitDefEqProofs [FinP, resV, resT, shaE, h8, z, List.length_nil] <;> try rfl
    · have z1 : ¬ l.length = 0 := fun h => z (List.eq_nil_of_length_eq_zero h)
      have z2 : ¬ (l.length : Int) = 0 := by omega
      · refine row_of Try.func52 rfl rfl (Nat.le_of_ble_eq_true rfl) ?_
        repeat (first | refine aw_seq ?_ | refine aw_skip ?_ | refine aw_block ?_ | refine aw_exit ?_ | refine aw_cond rfl (fun _ => ?_) (fun hb => absurd hb (by decide)) | refine aw_cond rfl (fun hb => absurd hb (by decide)) (fun _ => ?_) | (refine aw_reg (fun K hK => ?_); simp -implicitDefEqProofs [h8, z, z1, z2]; refine hK _ ?_) | (refine aw_drw mixd (fun K hK => ?_); simp -implicitDefEqProofs [h8, z, z1, z2]; refine hK _ _ (by rfl) ?_) | fail)
        refine aw_ret (fin_ret ?_); simp -implicitDefEqProofs [FinP, resV, resT, shaE, h8, z, z1, z2] <;> try rfl
  by_cases h9 : x.k = 9
  · by_cases z : l = []
    · refine row_of Try.func52 rfl rfl (Nat.le_of_ble_eq_true rfl) ?_
      repeat (first | refine aw_seq ?_ | refine aw_skip ?_ | refine aw_block ?_ | refine aw_exit ?_ | refine aw_cond rfl (fun _ => ?_) (fun hb => absurd hb (by decide)) | refine aw_cond rfl (fun hb => absurd hb (by decide)) (fun _ => ?_) | (refine aw_reg (fun K hK => ?_); simp -implicitDefEqProofs [h9, z, List.length_nil]; refine hK _ ?_) | (refine aw_drw mixd (fun K hK => ?_); simp -implicitDefEqProofs [h9, z, List.length_nil]; refine hK _ _ (by rfl) ?_) | fail)
      refine aw_ret (fin_ret ?_); simp -implicitDefEqProofs [FinP, resV, resT, shaE, h9, z, List.length_nil] <;> try rfl
    · have z1 : ¬ l.length = 0 := fun h => z (List.eq_nil_of_length_eq_zero h)
      have z2 : ¬ (l.length : Int) = 0 := by omega
      · refine row_of Try.func52 rfl rfl (Nat.le_of_ble_eq_true rfl) ?_
        repeat (first | refine aw_seq ?_ | refine aw_skip ?_ | refine aw_block ?_ | refine aw_exit ?_ | refine aw_cond rfl (fun _ => ?_) (fun hb => absurd hb (by decide)) | refine aw_cond rfl (fun hb => absurd hb (by decide)) (fun _ => ?_) | (refine aw_reg (fun K hK => ?_); simp -implicitDefEqProofs [h9, z, z1, z2]; refine hK _ ?_) | (refine aw_drw mixd (fun K hK => ?_); simp -implicitDefEqProofs [h9, z, z1, z2]; refine hK _ _ (by rfl) ?_) | fail)
        refine aw_ret (fin_ret ?_); simp -implicitDefEqProofs [FinP, resV, resT, shaE, h9, z, z1, z2] <;> try rfl
  by_cases h18 : x.k = 18
  · by_cases z : l = []
    · refine row_of Try.func52 rfl rfl (Nat.le_of_ble_eq_true rfl) ?_
      repeat (first | refine aw_seq ?_ | refine aw_skip ?_ | refine aw_block ?_ | refine aw_exit ?_ | refine aw_cond rfl (fun _ => ?_) (fun hb => absurd hb (by decide)) | refine aw_cond rfl (fun hb => absurd hb (by decide)) (fun _ => ?_) | (refine aw_reg (fun K hK => ?_); simp -implicitDefEqProofs [h18, z, List.length_nil]; refine hK _ ?_) | (refine aw_drw mixd (fun K hK => ?_); simp -implicitDefEqProofs [h18, z, List.length_nil]; refine hK _ _ (by rfl) ?_) | fail)
      refine aw_ret (fin_ret ?_); simp -implicitDefEqProofs [FinP, resV, resT, shaE, h18, z, List.length_nil] <;> try rfl
    · have z1 : ¬ l.length = 0 := fun h => z (List.eq_nil_of_length_eq_zero h)
      have z2 : ¬ (l.length : Int) = 0 := by omega
      · refine row_of Try.func52 rfl rfl (Nat.le_of_ble_eq_true rfl) ?_
        repeat (first | refine aw_seq ?_ | refine aw_skip ?_ | refine aw_block ?_ | refine aw_exit ?_ | refine aw_cond rfl (fun _ => ?_) (fun hb => absurd hb (by decide)) | refine aw_cond rfl (fun hb => absurd hb (by decide)) (fun _ => ?_) | (refine aw_reg (fun K hK => ?_); simp -implicitDefEqProofs [h18, z, z1, z2]; refine hK _ ?_) | (refine aw_drw mixd (fun K hK => ?_); simp -implicitDefEqProofs [h18, z, z1, z2]; refine hK _ _ (by rfl) ?_) | fail)
        refine aw_ret (fin_ret ?_); simp -implicitDefEqProofs [FinP, resV, resT, shaE, h18, z, z1, z2] <;> try rfl
  by_cases h6 : x.k = 6
  · by_cases z : l = []
    · by_cases q1 : x.n = 0
      · refine row_of Try.func52 rfl rfl (Nat.le_of_ble_eq_true rfl) ?_
        repeat (first | refine aw_seq ?_ | refine aw_skip ?_ | refine aw_block ?_ | refine aw_exit ?_ | refine aw_cond rfl (fun _ => ?_) (fun hb => absurd hb (by decide)) | refine aw_cond rfl (fun hb => absurd hb (by decide)) (fun _ => ?_) | (refine aw_reg (fun K hK => ?_); simp -implicitDefEqProofs [h6, z, List.length_nil, q1]; refine hK _ ?_) | (refine aw_drw mixd (fun K hK => ?_); simp -implicitDefEqProofs [h6, z, List.length_nil, q1]; refine hK _ _ (by rfl) ?_) | fail)
        refine aw_ret (fin_ret ?_); simp -implicitDefEqProofs [FinP, resV, resT, shaE, h6, z, List.length_nil, q1] <;> try rfl
      · by_cases q2 : x.n = 1
        · refine row_of Try.func52 rfl rfl (Nat.le_of_ble_eq_true rfl) ?_
          repeat (first | refine aw_seq ?_ | refine aw_skip ?_ | refine aw_block ?_ | refine aw_exit ?_ | refine aw_cond rfl (fun _ => ?_) (fun hb => absurd hb (by decide)) | refine aw_cond rfl (fun hb => absurd hb (by decide)) (fun _ => ?_) | (refine aw_reg (fun K hK => ?_); simp -implicitDefEqProofs [h6, z, List.length_nil, q2]; refine hK _ ?_) | (refine aw_drw mixd (fun K hK => ?_); simp -implicitDefEqProofs [h6, z, List.length_nil, q2]; refine hK _ _ (by rfl) ?_) | fail)
          refine aw_ret (fin_ret ?_); simp -implicitDefEqProofs [FinP, resV, resT, shaE, h6, z, List.length_nil, q2] <;> try rfl
        · refine row_of Try.func52 rfl rfl (Nat.le_of_ble_eq_true rfl) ?_
          repeat (first | refine aw_seq ?_ | refine aw_skip ?_ | refine aw_block ?_ | refine aw_exit ?_ | refine aw_cond rfl (fun _ => ?_) (fun hb => absurd hb (by decide)) | refine aw_cond rfl (fun hb => absurd hb (by decide)) (fun _ => ?_) | (refine aw_reg (fun K hK => ?_); simp -implicitDefEqProofs [h6, z, List.length_nil, q1, q2]; refine hK _ ?_) | (refine aw_drw mixd (fun K hK => ?_); simp -implicitDefEqProofs [h6, z, List.length_nil, q1, q2]; refine hK _ _ (by rfl) ?_) | fail)
          refine aw_ret (fin_ret ?_); simp -implicitDefEqProofs [FinP, resV, resT, shaE, h6, z, List.length_nil, q1, q2] <;> try rfl
    · have z1 : ¬ l.length = 0 := fun h => z (List.eq_nil_of_length_eq_zero h)
      have z2 : ¬ (l.length : Int) = 0 := by omega
      · refine row_of Try.func52 rfl rfl (Nat.le_of_ble_eq_true rfl) ?_
        repeat (first | refine aw_seq ?_ | refine aw_skip ?_ | refine aw_block ?_ | refine aw_exit ?_ | refine aw_cond rfl (fun _ => ?_) (fun hb => absurd hb (by decide)) | refine aw_cond rfl (fun hb => absurd hb (by decide)) (fun _ => ?_) | (refine aw_reg (fun K hK => ?_); simp -implicitDefEqProofs [h6, z, z1, z2]; refine hK _ ?_) | (refine aw_drw mixd (fun K hK => ?_); simp -implicitDefEqProofs [h6, z, z1, z2]; refine hK _ _ (by rfl) ?_) | fail)
        refine aw_ret (fin_ret ?_); simp -implicitDefEqProofs [FinP, resV, resT, shaE, h6, z, z1, z2] <;> try rfl
  by_cases h11 : x.k = 11
  · by_cases z : l.length = 1
    · have z2 : (l.length : Int) = 1 := by omega
      · by_cases q1 : x.n = 1
        · refine row_of Try.func52 rfl rfl (Nat.le_of_ble_eq_true rfl) ?_
          repeat (first | refine aw_seq ?_ | refine aw_skip ?_ | refine aw_block ?_ | refine aw_exit ?_ | refine aw_cond rfl (fun _ => ?_) (fun hb => absurd hb (by decide)) | refine aw_cond rfl (fun hb => absurd hb (by decide)) (fun _ => ?_) | (refine aw_reg (fun K hK => ?_); simp -implicitDefEqProofs [h11, z, z2, q1]; refine hK _ ?_) | (refine aw_drw mixd (fun K hK => ?_); simp -implicitDefEqProofs [h11, z, z2, q1]; refine hK _ _ (by rfl) ?_) | fail)
          refine aw_ret (fin_ret ?_); simp -implicitDefEqProofs [FinP, resV, resT, shaE, h11, z, z2, q1] <;> try rfl
        · by_cases q2 : x.n = 2
          · refine row_of Try.func52 rfl rfl (Nat.le_of_ble_eq_true rfl) ?_
            repeat (first | refine aw_seq ?_ | refine aw_skip ?_ | refine aw_block ?_ | refine aw_exit ?_ | refine aw_cond rfl (fun _ => ?_) (fun hb => absurd hb (by decide)) | refine aw_cond rfl (fun hb => absurd hb (by decide)) (fun _ => ?_) | (refine aw_reg (fun K hK => ?_); simp -implicitDefEqProofs [h11, z, z2, q2]; refine hK _ ?_) | (refine aw_drw mixd (fun K hK => ?_); simp -implicitDefEqProofs [h11, z, z2, q2]; refine hK _ _ (by rfl) ?_) | fail)
            refine aw_ret (fin_ret ?_); simp -implicitDefEqProofs [FinP, resV, resT, shaE, h11, z, z2, q2] <;> try rfl
          · refine row_of Try.func52 rfl rfl (Nat.le_of_ble_eq_true rfl) ?_
            repeat (first | refine aw_seq ?_ | refine aw_skip ?_ | refine aw_block ?_ | refine aw_exit ?_ | refine aw_cond rfl (fun _ => ?_) (fun hb => absurd hb (by decide)) | refine aw_cond rfl (fun hb => absurd hb (by decide)) (fun _ => ?_) | (refine aw_reg (fun K hK => ?_); simp -implicitDefEqProofs [h11, z, z2, q1, q2]; refine hK _ ?_) | (refine aw_drw mixd (fun K hK => ?_); simp -implicitDefEqProofs [h11, z, z2, q1, q2]; refine hK _ _ (by rfl) ?_) | fail)
            refine aw_ret (fin_ret ?_); simp -implicitDefEqProofs [FinP, resV, resT, shaE, h11, z, z2, q1, q2] <;> try rfl
    · have z2 : ¬ (l.length : Int) = 1 := by omega
      · refine row_of Try.func52 rfl rfl (Nat.le_of_ble_eq_true rfl) ?_
        repeat (first | refine aw_seq ?_ | refine aw_skip ?_ | refine aw_block ?_ | refine aw_exit ?_ | refine aw_cond rfl (fun _ => ?_) (fun hb => absurd hb (by decide)) | refine aw_cond rfl (fun hb => absurd hb (by decide)) (fun _ => ?_) | (refine aw_reg (fun K hK => ?_); simp -implicitDefEqProofs [h11, z, z2]; refine hK _ ?_) | (refine aw_drw mixd (fun K hK => ?_); simp -implicitDefEqProofs [h11, z, z2]; refine hK _ _ (by rfl) ?_) | fail)
        refine aw_ret (fin_ret ?_); simp -implicitDefEqProofs [FinP, resV, resT, shaE, h11, z, z2] <;> try rfl
  by_cases h10 : x.k = 10
  · by_cases z : l.length = 2
    · have z2 : (l.length : Int) = 2 := by omega
      · by_cases q1 : 1 ≤ x.n
        · by_cases q2 : x.n ≤ 13
          · refine row_of Try.func52 rfl rfl (Nat.le_of_ble_eq_true rfl) ?_
            repeat (first | refine aw_seq ?_ | refine aw_skip ?_ | refine aw_block ?_ | refine aw_exit ?_ | refine aw_cond rfl (fun _ => ?_) (fun hb => absurd hb (by decide)) | refine aw_cond rfl (fun hb => absurd hb (by decide)) (fun _ => ?_) | (refine aw_reg (fun K hK => ?_); simp -implicitDefEqProofs [h10, z, z2, q1, q2]; refine hK _ ?_) | (refine aw_drw mixd (fun K hK => ?_); simp -implicitDefEqProofs [h10, z, z2, q1, q2]; refine hK _ _ (by rfl) ?_) | fail)
            refine aw_ret (fin_ret ?_); simp -implicitDefEqProofs [FinP, resV, resT, shaE, h10, z, z2, q1, q2] <;> try rfl
          · refine row_of Try.func52 rfl rfl (Nat.le_of_ble_eq_true rfl) ?_
            repeat (first | refine aw_seq ?_ | refine aw_skip ?_ | refine aw_block ?_ | refine aw_exit ?_ | refine aw_cond rfl (fun _ => ?_) (fun hb => absurd hb (by decide)) | refine aw_cond rfl (fun hb => absurd hb (by decide)) (fun _ => ?_) | (refine aw_reg (fun K hK => ?_); simp -implicitDefEqProofs [h10, z, z2, q1, q2]; refine hK _ ?_) | (refine aw_drw mixd (fun K hK => ?_); simp -implicitDefEqProofs [h10, z, z2, q1, q2]; refine hK _ _ (by rfl) ?_) | fail)
            refine aw_ret (fin_ret ?_); simp -implicitDefEqProofs [FinP, resV, resT, shaE, h10, z, z2, q1, q2] <;> try rfl
        · refine row_of Try.func52 rfl rfl (Nat.le_of_ble_eq_true rfl) ?_
          repeat (first | refine aw_seq ?_ | refine aw_skip ?_ | refine aw_block ?_ | refine aw_exit ?_ | refine aw_cond rfl (fun _ => ?_) (fun hb => absurd hb (by decide)) | refine aw_cond rfl (fun hb => absurd hb (by decide)) (fun _ => ?_) | (refine aw_reg (fun K hK => ?_); simp -implicitDefEqProofs [h10, z, z2, q1]; refine hK _ ?_) | (refine aw_drw mixd (fun K hK => ?_); simp -implicitDefEqProofs [h10, z, z2, q1]; refine hK _ _ (by rfl) ?_) | fail)
          refine aw_ret (fin_ret ?_); simp -implicitDefEqProofs [FinP, resV, resT, shaE, h10, z, z2, q1] <;> try rfl
    · have z2 : ¬ (l.length : Int) = 2 := by omega
      · refine row_of Try.func52 rfl rfl (Nat.le_of_ble_eq_true rfl) ?_
        repeat (first | refine aw_seq ?_ | refine aw_skip ?_ | refine aw_block ?_ | refine aw_exit ?_ | refine aw_cond rfl (fun _ => ?_) (fun hb => absurd hb (by decide)) | refine aw_cond rfl (fun hb => absurd hb (by decide)) (fun _ => ?_) | (refine aw_reg (fun K hK => ?_); simp -implicitDefEqProofs [h10, z, z2]; refine hK _ ?_) | (refine aw_drw mixd (fun K hK => ?_); simp -implicitDefEqProofs [h10, z, z2]; refine hK _ _ (by rfl) ?_) | fail)
        refine aw_ret (fin_ret ?_); simp -implicitDefEqProofs [FinP, resV, resT, shaE, h10, z, z2] <;> try rfl
  by_cases h13 : x.k = 13
  · by_cases z : l.length = 1
    · have z2 : (l.length : Int) = 1 := by omega
      · refine row_of Try.func52 rfl rfl (Nat.le_of_ble_eq_true rfl) ?_
        repeat (first | refine aw_seq ?_ | refine aw_skip ?_ | refine aw_block ?_ | refine aw_exit ?_ | refine aw_cond rfl (fun _ => ?_) (fun hb => absurd hb (by decide)) | refine aw_cond rfl (fun hb => absurd hb (by decide)) (fun _ => ?_) | (refine aw_reg (fun K hK => ?_); simp -implicitDefEqProofs [h13, z, z2]; refine hK _ ?_) | (refine aw_drw mixd (fun K hK => ?_); simp -implicitDefEqProofs [h13, z, z2]; refine hK _ _ (by rfl) ?_) | fail)
        refine aw_ret (fin_ret ?_); simp -implicitDefEqProofs [FinP, resV, resT, shaE, h13, z, z2] <;> try rfl
    · have z2 : ¬ (l.length : Int) = 1 := by omega
      · refine row_of Try.func52 rfl rfl (Nat.le_of_ble_eq_true rfl) ?_
        repeat (first | refine aw_seq ?_ | refine aw_skip ?_ | refine aw_block ?_ | refine aw_exit ?_ | refine aw_cond rfl (fun _ => ?_) (fun hb => absurd hb (by decide)) | refine aw_cond rfl (fun hb => absurd hb (by decide)) (fun _ => ?_) | (refine aw_reg (fun K hK => ?_); simp -implicitDefEqProofs [h13, z, z2]; refine hK _ ?_) | (refine aw_drw mixd (fun K hK => ?_); simp -implicitDefEqProofs [h13, z, z2]; refine hK _ _ (by rfl) ?_) | fail)
        refine aw_ret (fin_ret ?_); simp -implicitDefEqProofs [FinP, resV, resT, shaE, h13, z, z2] <;> try rfl
  by_cases h12 : x.k = 12
  · by_cases z : l.length = 2
    · have z2 : (l.length : Int) = 2 := by omega
      · refine row_of Try.func52 rfl rfl (Nat.le_of_ble_eq_true rfl) ?_
        repeat (first | refine aw_seq ?_ | refine aw_skip ?_ | refine aw_block ?_ | refine aw_exit ?_ | refine aw_cond rfl (fun _ => ?_) (fun hb => absurd hb (by decide)) | refine aw_cond rfl (fun hb => absurd hb (by decide)) (fun _ => ?_) | (refine aw_reg (fun K hK => ?_); simp -implicitDefEqProofs [h12, z, z2]; refine hK _ ?_) | (refine aw_drw mixd (fun K hK => ?_); simp -implicitDefEqProofs [h12, z, z2]; refine hK _ _ (by rfl) ?_) | fail)
        refine aw_ret (fin_ret ?_); simp -implicitDefEqProofs [FinP, resV, resT, shaE, h12, z, z2] <;> try rfl
    · have z2 : ¬ (l.length : Int) = 2 := by omega
      · refine row_of Try.func52 rfl rfl (Nat.le_of_ble_eq_true rfl) ?_
        repeat (first | refine aw_seq ?_ | refine aw_skip ?_ | refine aw_block ?_ | refine aw_exit ?_ | refine aw_cond rfl (fun _ => ?_) (fun hb => absurd hb (by decide)) | refine aw_cond rfl (fun hb => absurd hb (by decide)) (fun _ => ?_) | (refine aw_reg (fun K hK => ?_); simp -implicitDefEqProofs [h12, z, z2]; refine hK _ ?_) | (refine aw_drw mixd (fun K hK => ?_); simp -implicitDefEqProofs [h12, z, z2]; refine hK _ _ (by rfl) ?_) | fail)
        refine aw_ret (fin_ret ?_); simp -implicitDefEqProofs [FinP, resV, resT, shaE, h12, z, z2] <;> try rfl
  by_cases h14 : x.k = 14
  · by_cases z : 1 ≤ l.length
    · have z2 : (1 : Int) ≤ l.length := by omega
      · refine row_of Try.func52 rfl rfl (Nat.le_of_ble_eq_true rfl) ?_
        repeat (first | refine aw_seq ?_ | refine aw_skip ?_ | refine aw_block ?_ | refine aw_exit ?_ | refine aw_cond rfl (fun _ => ?_) (fun hb => absurd hb (by decide)) | refine aw_cond rfl (fun hb => absurd hb (by decide)) (fun _ => ?_) | (refine aw_reg (fun K hK => ?_); simp -implicitDefEqProofs [h14, z, z2]; refine hK _ ?_) | (refine aw_drw mixd (fun K hK => ?_); simp -implicitDefEqProofs [h14, z, z2]; refine hK _ _ (by rfl) ?_) | fail)
        refine aw_ret (fin_ret ?_); simp -implicitDefEqProofs [FinP, resV, resT, shaE, h14, z, z2] <;> try rfl
    · have z2 : ¬ (1 : Int) ≤ l.length := by omega
      · refine row_of Try.func52 rfl rfl (Nat.le_of_ble_eq_true rfl) ?_
        repeat (first | refine aw_seq ?_ | refine aw_skip ?_ | refine aw_block ?_ | refine aw_exit ?_ | refine aw_cond rfl (fun _ => ?_) (fun hb => absurd hb (by decide)) | refine aw_cond rfl (fun hb => absurd hb (by decide)) (fun _ => ?_) | (refine aw_reg (fun K hK => ?_); simp -implicitDefEqProofs [h14, z, z2]; refine hK _ ?_) | (refine aw_drw mixd (fun K hK => ?_); simp -implicitDefEqProofs [h14, z, z2]; refine hK _ _ (by rfl) ?_) | fail)
        refine aw_ret (fin_ret ?_); simp -implicitDefEqProofs [FinP, resV, resT, shaE, h14, z, z2] <;> try rfl
  by_cases h15 : x.k = 15
  · by_cases z : 1 ≤ l.length
    · have z2 : (1 : Int) ≤ l.length := by omega
      · refine row_of Try.func52 rfl rfl (Nat.le_of_ble_eq_true rfl) ?_
        repeat (first | refine aw_seq ?_ | refine aw_skip ?_ | refine aw_block ?_ | refine aw_exit ?_ | refine aw_cond rfl (fun _ => ?_) (fun hb => absurd hb (by decide)) | refine aw_cond rfl (fun hb => absurd hb (by decide)) (fun _ => ?_) | (refine aw_reg (fun K hK => ?_); simp -implicitDefEqProofs [h15, z, z2]; refine hK _ ?_) | (refine aw_drw mixd (fun K hK => ?_); simp -implicitDefEqProofs [h15, z, z2]; refine hK _ _ (by rfl) ?_) | fail)
        refine aw_ret (fin_ret ?_); simp -implicitDefEqProofs [FinP, resV, resT, shaE, h15, z, z2] <;> try rfl
    · have z2 : ¬ (1 : Int) ≤ l.length := by omega
      · refine row_of Try.func52 rfl rfl (Nat.le_of_ble_eq_true rfl) ?_
        repeat (first | refine aw_seq ?_ | refine aw_skip ?_ | refine aw_block ?_ | refine aw_exit ?_ | refine aw_cond rfl (fun _ => ?_) (fun hb => absurd hb (by decide)) | refine aw_cond rfl (fun hb => absurd hb (by decide)) (fun _ => ?_) | (refine aw_reg (fun K hK => ?_); simp -implicitDefEqProofs [h15, z, z2]; refine hK _ ?_) | (refine aw_drw mixd (fun K hK => ?_); simp -implicitDefEqProofs [h15, z, z2]; refine hK _ _ (by rfl) ?_) | fail)
        refine aw_ret (fin_ret ?_); simp -implicitDefEqProofs [FinP, resV, resT, shaE, h15, z, z2] <;> try rfl
  by_cases h16 : x.k = 16
  · refine row_of Try.func52 rfl rfl (Nat.le_of_ble_eq_true rfl) ?_
    repeat (first | refine aw_seq ?_ | refine aw_skip ?_ | refine aw_block ?_ | refine aw_exit ?_ | refine aw_cond rfl (fun _ => ?_) (fun hb => absurd hb (by decide)) | refine aw_cond rfl (fun hb => absurd hb (by decide)) (fun _ => ?_) | (refine aw_reg (fun K hK => ?_); simp -implicitDefEqProofs [h16]; refine hK _ ?_) | (refine aw_drw mixd (fun K hK => ?_); simp -implicitDefEqProofs [h16]; refine hK _ _ (by rfl) ?_) | fail)
    refine aw_ret (fin_ret ?_); simp -implicitDefEqProofs [FinP, resV, resT, shaE, h16] <;> try rfl
  by_cases h17 : x.k = 17
  · refine row_of Try.func52 rfl rfl (Nat.le_of_ble_eq_true rfl) ?_
    repeat (first | refine aw_seq ?_ | refine aw_skip ?_ | refine aw_block ?_ | refine aw_exit ?_ | refine aw_cond rfl (fun _ => ?_) (fun hb => absurd hb (by decide)) | refine aw_cond rfl (fun hb => absurd hb (by decide)) (fun _ => ?_) | (refine aw_reg (fun K hK => ?_); simp -implicitDefEqProofs [h17]; refine hK _ ?_) | (refine aw_drw mixd (fun K hK => ?_); simp -implicitDefEqProofs [h17]; refine hK _ _ (by rfl) ?_) | fail)
    refine aw_ret (fin_ret ?_); simp -implicitDefEqProofs [FinP, resV, resT, shaE, h17] <;> try rfl
  refine row_of Try.func52 rfl rfl (Nat.le_of_ble_eq_true rfl) ?_
  repeat (first | refine aw_seq ?_ | refine aw_skip ?_ | refine aw_block ?_ | refine aw_exit ?_ | refine aw_cond rfl (fun _ => ?_) (fun hb => absurd hb (by decide)) | refine aw_cond rfl (fun hb => absurd hb (by decide)) (fun _ => ?_) | (refine aw_reg (fun K hK => ?_); simp -implicitDefEqProofs [h5, h7, h8, h9, h18, h6, h11, h10, h13, h12, h14, h15, h16, h17]; refine hK _ ?_) | (refine aw_drw mixd (fun K hK => ?_); simp -implicitDefEqProofs [h5, h7, h8, h9, h18, h6, h11, h10, h13, h12, h14, h15, h16, h17]; refine hK _ _ (by rfl) ?_) | fail)
  refine aw_ret (fin_ret ?_); simp -implicitDefEqProofs [FinP, resV, resT, shaE, h5, h7, h8, h9, h18, h6, h11, h10, h13, h12, h14, h15, h16, h17] <;> try rfl
end Go.Proofs.Ythmdllhhmhbhbaa.am
end
section
namespace Go.Proofs.Ythmdllhhmhbhbaa.am
open Go.ChangeShapes Go.WideShapes Go.ChangeAt Go.RowKit
open vt
set_option linter.unusedVariables false
set_option linter.unusedSimpArgs false
noncomputable abbrev vTO (t : VT) (b : Bool) : AV := .tup [.agg (ta t), .c (.pv (Bo b))]
set_option maxRecDepth 100000 in
set_option maxHeartbeats 4000000 in
theorem rfield_row (m : VT) (hsz : m.size ≤ 1000000) (n : Int) (hn : n ≤ 9223372036854775807) : Row Try.prog 61 [vT m, vI n] [] (vTO ((fldA m n).getD z0T) (fldA m n).isSome) [] := by
  obtain ⟨mx, ml⟩ := m
  have hml := Tr.len_size (x := mx) (l := ml)
  by_cases h0 : n < 0
  · rw [show fldA (.mk mx ml) n = none by unfold fldA; rw [if_pos h0]]
    refine row_of Try.func61 rfl rfl (Nat.le_of_ble_eq_true rfl) ?_
    repeat (first | refine aw_seq ?_ | refine aw_skip ?_ | refine aw_block ?_ | refine aw_exit ?_ | refine aw_cond rfl (fun _ => ?_) (fun hb => absurd hb (by decide)) | refine aw_cond rfl (fun hb => absurd hb (by decide)) (fun _ => ?_) | (refine aw_reg (fun K hK => ?_); simp -implicitDefEqProofs [h0]; refine hK _ ?_) | (refine aw_drw mixd (fun K hK => ?_); simp -implicitDefEqProofs [h0]; refine hK _ _ (by rfl) ?_) | fail)
    refine aw_ret (fin_ret ?_); simp -implicitDefEqProofs [FinP, resV, resT] <;> try rfl
  obtain ⟨N, rfl⟩ : ∃ N : Nat, n = N := ⟨n.toNat, by omega⟩
  obtain ⟨a, ha⟩ : ∃ a, N / 64 = a := ⟨_, rfl⟩
  obtain ⟨b, hb⟩ : ∃ b, N % 64 = b := ⟨_, rfl⟩
  have e1 : ((N : Nat) : Int).tdiv 64 = (a : Nat) := by rw [Int.tdiv_eq_ediv_of_nonneg (by omega)]; omega
  have e2 : ((N : Nat) : Int).tmod 64 = (b : Nat) := by rw [Int.tmod_eq_emod_of_nonneg (by omega)]; omega
  have w1 : IntKind.i64.wrap ((a : Nat) : Int) = (a : Nat) := i64i _ (by omega) (by omega)
  have w2 : IntKind.i64.wrap ((b : Nat) : Int) = (b : Nat) := i64i _ (by omega) (by omega)
  have hf : fldA (.mk mx ml) (N : Nat) = (match ml[a]? with | none => none | some d => if d.lab.k = 30 then (match d.kids[b]? with | none => none | some q => if partB q = true then q.kids[0]? else none) else none) := by
    unfold fldA; rw [if_neg h0, Int.toNat_natCast, ha, hb]; rfl
  by_cases hal : a < ml.length; rotate_left
  · have hal' : (ml.length : Int) ≤ (a : Nat) := by omega
    have hal2 : ml.length ≤ a := by omega
    rw [show fldA (.mk mx ml) (N : Nat) = none by rw [hf, List.getElem?_eq_none hal2]]
    clear hf
    refine row_of Try.func61 rfl rfl (Nat.le_of_ble_eq_true rfl) ?_
    repeat (first | refine aw_seq ?_ | refine aw_skip ?_ | refine aw_block ?_ | refine aw_exit ?_ | refine aw_cond rfl (fun _ => ?_) (fun hb => absurd hb (by decide)) | refine aw_cond rfl (fun hb => absurd hb (by decide)) (fun _ => ?_) | (refine aw_reg (fun K hK => ?_); simp -implicitDefEqProofs [h0, e1, e2, w1, w2, hal, hal', hal2]; refine hK _ ?_) | (refine aw_drw mixd (fun K hK => ?_); simp -implicitDefEqProofs [h0, e1, e2, w1, w2, hal, hal', hal2]; refine hK _ _ (by rfl) ?_) | fail)
    refine aw_ret (fin_ret ?_); simp -implicitDefEqProofs [FinP, resV, resT] <;> try rfl
  have hal' : ¬ (ml.length : Int) ≤ (a : Nat) := by omega
  have hal2 : ¬ ml.length ≤ a := by omega
  obtain ⟨⟨y, p⟩, hd⟩ : ∃ d, ml[a]? = some d := ⟨_, List.getElem?_eq_getElem hal⟩
  have hd' := (List.getElem?_eq_some_iff.1 hd).2
  rw [hd] at hf
  by_cases h30 : y.k = 30; rotate_left
  · rw [show fldA (.mk mx ml) (N : Nat) = none by rw [hf]; exact if_neg h30]
    clear hf
    refine row_of Try.func61 rfl rfl (Nat.le_of_ble_eq_true rfl) ?_
    repeat (first | refine aw_seq ?_ | refine aw_skip ?_ | refine aw_block ?_ | refine aw_exit ?_ | refine aw_cond rfl (fun _ => ?_) (fun hb => absurd hb (by decide)) | refine aw_cond rfl (fun hb => absurd hb (by decide)) (fun _ => ?_) | (refine aw_reg (fun K hK => ?_); simp -implicitDefEqProofs [h0, e1, e2, w1, w2, hal, hal', hal2, hd, hd', h30]; refine hK _ ?_) | (refine aw_drw mixd (fun K hK => ?_); simp -implicitDefEqProofs [h0, e1, e2, w1, w2, hal, hal', hal2, hd, hd', h30]; refine hK _ _ (by rfl) ?_) | fail)
    refine aw_ret (fin_ret ?_); simp -implicitDefEqProofs [FinP, resV, resT] <;> try rfl
  have hf : fldA (.mk mx ml) (N : Nat) = (match p[b]? with | none => none | some q => if partB q = true then q.kids[0]? else none) := by rw [hf]; exact if_pos h30
  by_cases hbl : b < p.length; rotate_left
  · have hbl' : (p.length : Int) ≤ (b : Nat) := by omega
    have hbl2 : p.length ≤ b := by omega
    rw [show fldA (.mk mx ml) (N : Nat) = none by rw [hf, List.getElem?_eq_none hbl2]]
    clear hf
    refine row_of Try.func61 rfl rfl (Nat.le_of_ble_eq_true rfl) ?_
    repeat (first | refine aw_seq ?_ | refine aw_skip ?_ | refine aw_block ?_ | refine aw_exit ?_ | refine aw_cond rfl (fun _ => ?_) (fun hb => absurd hb (by decide)) | refine aw_cond rfl (fun hb => absurd hb (by decide)) (fun _ => ?_) | (refine aw_reg (fun K hK => ?_); simp -implicitDefEqProofs [h0, e1, e2, w1, w2, hal, hal', hal2, hd, hd', h30, hbl, hbl', hbl2]; refine hK _ ?_) | (refine aw_drw mixd (fun K hK => ?_); simp -implicitDefEqProofs [h0, e1, e2, w1, w2, hal, hal', hal2, hd, hd', h30, hbl, hbl', hbl2]; refine hK _ _ (by rfl) ?_) | fail)
    refine aw_ret (fin_ret ?_); simp -implicitDefEqProofs [FinP, resV, resT] <;> try rfl
  have hbl' : ¬ (p.length : Int) ≤ (b : Nat) := by omega
  have hbl2 : ¬ p.length ≤ b := by omega
  obtain ⟨⟨qx, ql⟩, hq⟩ : ∃ d, p[b]? = some d := ⟨_, List.getElem?_eq_getElem hbl⟩
  have hq' := (List.getElem?_eq_some_iff.1 hq).2
  rw [hq] at hf
  by_cases h34 : qx.k = 34; rotate_left
  · have hp : partB (.mk qx ql) = false := by unfold partB; rw [Tr.lab, decide_eq_false h34]; rfl
    rw [show fldA (.mk mx ml) (N : Nat) = none by rw [hf]; exact if_neg (by rw [hp]; simp)]
    clear hf
    refine row_of Try.func61 rfl rfl (Nat.le_of_ble_eq_true rfl) ?_
    repeat (first | refine aw_seq ?_ | refine aw_skip ?_ | refine aw_block ?_ | refine aw_exit ?_ | refine aw_cond rfl (fun _ => ?_) (fun hb => absurd hb (by decide)) | refine aw_cond rfl (fun hb => absurd hb (by decide)) (fun _ => ?_) | (refine aw_reg (fun K hK => ?_); simp -implicitDefEqProofs [h0, e1, e2, w1, w2, hal, hal', hal2, hd, hd', h30, hbl, hbl', hbl2, hq, hq', h34]; refine hK _ ?_) | (refine aw_drw mixd (fun K hK => ?_); simp -implicitDefEqProofs [h0, e1, e2, w1, w2, hal, hal', hal2, hd, hd', h30, hbl, hbl', hbl2, hq, hq', h34]; refine hK _ _ (by rfl) ?_) | fail)
    refine aw_ret (fin_ret ?_); simp -implicitDefEqProofs [FinP, resV, resT] <;> try rfl
  by_cases h1 : ql.length = 1; rotate_left
  · have h1' : ¬ (ql.length : Int) = 1 := by omega
    have hp : partB (.mk qx ql) = false := by unfold partB; rw [Tr.kids, decide_eq_false h1, Bool.and_false]
    rw [show fldA (.mk mx ml) (N : Nat) = none by rw [hf]; exact if_neg (by rw [hp]; simp)]
    clear hf
    refine row_of Try.func61 rfl rfl (Nat.le_of_ble_eq_true rfl) ?_
    repeat (first | refine aw_seq ?_ | refine aw_skip ?_ | refine aw_block ?_ | refine aw_exit ?_ | refine aw_cond rfl (fun _ => ?_) (fun hb => absurd hb (by decide)) | refine aw_cond rfl (fun hb => absurd hb (by decide)) (fun _ => ?_) | (refine aw_reg (fun K hK => ?_); simp -implicitDefEqProofs [h0, e1, e2, w1, w2, hal, hal', hal2, hd, hd', h30, hbl, hbl', hbl2, hq, hq', h34, h1, h1']; refine hK _ ?_) | (refine aw_drw mixd (fun K hK => ?_); simp -implicitDefEqProofs [h0, e1, e2, w1, w2, hal, hal', hal2, hd, hd', h30, hbl, hbl', hbl2, hq, hq', h34, h1, h1']; refine hK _ _ (by rfl) ?_) | fail)
    refine aw_ret (fin_ret ?_); simp -implicitDefEqProofs [FinP, resV, resT] <;> try rfl
  obtain ⟨⟨ux, ul⟩, rfl⟩ := one_of h1
  have hp : partB (.mk qx [.mk ux ul]) = true := by unfold partB; rw [Tr.lab, Tr.kids, decide_eq_true h34]; rfl
  rw [show fldA (.mk mx ml) (N : Nat) = some (.mk ux ul) by rw [hf]; exact if_pos hp]
  clear hf
  refine row_of Try.func61 rfl rfl (Nat.le_of_ble_eq_true rfl) ?_
  repeat (first | refine aw_seq ?_ | refine aw_skip ?_ | refine aw_block ?_ | refine aw_exit ?_ | refine aw_cond rfl (fun _ => ?_) (fun hb => absurd hb (by decide)) | refine aw_cond rfl (fun hb => absurd hb (by decide)) (fun _ => ?_) | (refine aw_reg (fun K hK => ?_); simp -implicitDefEqProofs [h0, e1, e2, w1, w2, hal, hal', hal2, hd, hd', h30, hbl, hbl', hbl2, hq, hq', h34]; refine hK _ ?_) | (refine aw_drw mixd (fun K hK => ?_); simp -implicitDefEqProofs [h0, e1, e2, w1, w2, hal, hal', hal2, hd, hd', h30, hbl, hbl', hbl2, hq, hq', h34]; refine hK _ _ (by rfl) ?_) | fail)
  refine aw_ret (fin_ret ?_); simp -implicitDefEqProofs [FinP, resV, resT, Tr.kids] <;> try rfl
end Go.Proofs.Ythmdllhhmhbhbaa.am
end
section
namespace Go.Proofs.Ythmdllhhmhbhbaa.am
open Go.ChangeShapes Go.WideShapes Go.ChangeAt Go.RowKit
open vt
set_option linter.unusedVariables false
set_option linter.unusedSimpArgs false
set_option maxRecDepth 100000 in
set_option maxHeartbeats 4000000 in
theorem rtwo_row (op : Int) (a b : VT) : Row Try.prog 59 [vI op, vT a, vT b] [] (vT (twoT op a b)) [] := by
  have i1 := ris_row a 1
  have i2 := ris_row b 1
  have b1 := ris_row a 2
  have b2 := ris_row b 2
  have h1 := rint_row
  have h2 := rbool_row
  have hT : twoT op a b = twoT op a b := rfl
  conv at hT => rhs; unfold twoT
  rw [hT]
  clear hT
  obtain ⟨p1, q1⟩ : ∃ p, isT a 1 = p := ⟨_, rfl⟩
  obtain ⟨p2, q2⟩ : ∃ p, isT b 1 = p := ⟨_, rfl⟩
  obtain ⟨p3, q3⟩ : ∃ p, isT a 2 = p := ⟨_, rfl⟩
  obtain ⟨p4, q4⟩ : ∃ p, isT b 2 = p := ⟨_, rfl⟩
  rw [q1] at i1
  rw [q2] at i2
  rw [q3] at b1
  rw [q4] at b2
  rw [q1, q2, q3, q4]
  clear q1 q2 q3 q4
  unfold tyT at h1 h2 ⊢
  obtain ⟨ax, al⟩ := a
  obtain ⟨bx, bl⟩ := b
  obtain ⟨ints, hi⟩ : ∃ p, (p1 && p2) = p := ⟨_, rfl⟩
  obtain ⟨bools, hbo⟩ : ∃ p, (p3 && p4) = p := ⟨_, rfl⟩
  rw [hi, hbo]
  refine row_of Try.func59 rfl rfl (Nat.le_of_ble_eq_true rfl) ?_
  refine aw_seq ?_
  refine aw_reg (fun K hK => ?_); simp -implicitDefEqProofs; refine hK _ ?_
  refine aw_meet (ι := Unit) (fun _ => mkSt [(0, vI op), (4, .v (.c (.ptr 0 0))), (5, .v (.c (.ptr 1 0))), (6, .v (.c (.ptr 2 0))), (7, vB ints)] [some (.box (ta (.mk ax al))), some (.box (ta (.mk bx bl))), some (.box (ta (.mk ⟨0, 0, ⟨#[]⟩, 0, 0⟩ [])))]) (fun _ => True) (fun I hI => ?_) (fun _ _ => ?_)
  · cases p1 with
    | false =>
      have hi : ints = false := by rw [← hi]; rfl
      subst hi
      repeat' (first | refine aw_seq ?_ | refine aw_skip ?_ | refine aw_block ?_ | refine aw_exit ?_ | refine aw_cond rfl (fun _ => ?_) (fun hb => absurd hb (by decide)) | refine aw_cond rfl (fun hb => absurd hb (by decide)) (fun _ => ?_) | (refine aw_reg (fun K hK => ?_); simp -implicitDefEqProofs) | (refine aw_drw mixd (fun K hK => ?_); simp -implicitDefEqProofs) | refine hK _ ?_ | refine hK _ _ (by rfl) ?_ | (refine ar_call (cp i1 ?_); simp -implicitDefEqProofs) | (refine ard_call (dp i1 ?_); simp -implicitDefEqProofs) | (refine ar_call (cp i2 ?_); simp -implicitDefEqProofs) | (refine ard_call (dp i2 ?_); simp -implicitDefEqProofs) | fail)
      refine ⟨(), (by trivial), ?_⟩; rw [hI]; exact cov_intro [0, 1, 2] (by simp -implicitDefEqProofs) (by simp -implicitDefEqProofs) (by decide) rfl (by simp)
    | true =>
      have hi : ints = p2 := by rw [← hi]; rfl
      subst hi
      repeat' (first | refine aw_seq ?_ | refine aw_skip ?_ | refine aw_block ?_ | refine aw_exit ?_ | refine aw_cond rfl (fun _ => ?_) (fun hb => absurd hb (by decide)) | refine aw_cond rfl (fun hb => absurd hb (by decide)) (fun _ => ?_) | (refine aw_reg (fun K hK => ?_); simp -implicitDefEqProofs) | (refine aw_drw mixd (fun K hK => ?_); simp -implicitDefEqProofs) | refine hK _ ?_ | refine hK _ _ (by rfl) ?_ | (refine ar_call (cp i1 ?_); simp -implicitDefEqProofs) | (refine ard_call (dp i1 ?_); simp -implicitDefEqProofs) | (refine ar_call (cp i2 ?_); simp -implicitDefEqProofs) | (refine ard_call (dp i2 ?_); simp -implicitDefEqProofs) | fail)
      refine ⟨(), (by trivial), ?_⟩; rw [hI]; exact cov_intro [0, 1, 2] (by simp -implicitDefEqProofs) (by simp -implicitDefEqProofs) (by decide) rfl (by simp)
  clear i1 i2 hi
  refine aw_meet (ι := Unit) (fun _ => mkSt [(0, vI op), (6, .v (.c (.ptr 0 0))), (7, vB ints), (8, vB bools)] [some (.box (ta (.mk ⟨0, 0, ⟨#[]⟩, 0, 0⟩ [])))]) (fun _ => True) (fun I hI => ?_) (fun _ _ => ?_)
  · cases p3 with
    | false =>
      have hbo : bools = false := by rw [← hbo]; rfl
      subst hbo
      repeat' (first | refine aw_seq ?_ | refine aw_skip ?_ | refine aw_block ?_ | refine aw_exit ?_ | refine aw_cond rfl (fun _ => ?_) (fun hb => absurd hb (by decide)) | refine aw_cond rfl (fun hb => absurd hb (by decide)) (fun _ => ?_) | (refine aw_reg (fun K hK => ?_); simp -implicitDefEqProofs) | (refine aw_drw mixd (fun K hK => ?_); simp -implicitDefEqProofs) | refine hK _ ?_ | refine hK _ _ (by rfl) ?_ | (refine ar_call (cp b1 ?_); simp -implicitDefEqProofs) | (refine ard_call (dp b1 ?_); simp -implicitDefEqProofs) | (refine ar_call (cp b2 ?_); simp -implicitDefEqProofs) | (refine ard_call (dp b2 ?_); simp -implicitDefEqProofs) | fail)
      refine ⟨(), (by trivial), ?_⟩; rw [hI]; exact cov_intro [2] (by simp -implicitDefEqProofs) (by simp -implicitDefEqProofs) (by decide) rfl (by simp)
    | true =>
      have hbo : bools = p4 := by rw [← hbo]; rfl
      subst hbo
      repeat' (first | refine aw_seq ?_ | refine aw_skip ?_ | refine aw_block ?_ | refine aw_exit ?_ | refine aw_cond rfl (fun _ => ?_) (fun hb => absurd hb (by decide)) | refine aw_cond rfl (fun hb => absurd hb (by decide)) (fun _ => ?_) | (refine aw_reg (fun K hK => ?_); simp -implicitDefEqProofs) | (refine aw_drw mixd (fun K hK => ?_); simp -implicitDefEqProofs) | refine hK _ ?_ | refine hK _ _ (by rfl) ?_ | (refine ar_call (cp b1 ?_); simp -implicitDefEqProofs) | (refine ard_call (dp b1 ?_); simp -implicitDefEqProofs) | (refine ar_call (cp b2 ?_); simp -implicitDefEqProofs) | (refine ard_call (dp b2 ?_); simp -implicitDefEqProofs) | fail)
      refine ⟨(), (by trivial), ?_⟩; rw [hI]; exact cov_intro [2] (by simp -implicitDefEqProofs) (by simp -implicitDefEqProofs) (by decide) rfl (by simp)
  clear b1 b2 hbo
  cases ints <;> cases bools
  · repeat' (first | refine aw_seq ?_ | refine aw_skip ?_ | refine aw_block ?_ | refine aw_exit ?_ | refine aw_cond rfl (fun _ => ?_) (fun hb => absurd hb (by decide)) | refine aw_cond rfl (fun hb => absurd hb (by decide)) (fun _ => ?_) | (refine aw_reg (fun K hK => ?_); simp -implicitDefEqProofs [*]) | (refine aw_drw mixd (fun K hK => ?_); simp -implicitDefEqProofs [*]) | refine hK _ ?_ | refine hK _ _ (by rfl) ?_ | (refine ar_call (cp h1 ?_); simp -implicitDefEqProofs [*]) | (refine ard_call (dp h1 ?_); simp -implicitDefEqProofs [*]) | (refine ar_call (cp h2 ?_); simp -implicitDefEqProofs [*]) | (refine ard_call (dp h2 ?_); simp -implicitDefEqProofs [*]) | (refine aw_cond rfl (fun hb => ?_) (fun hb => ?_) <;> ((try simp only [decide_eq_true_eq, decide_eq_false_iff_not, Bool.not_eq_true', Bool.not_eq_false', Bool.not_eq_eq_eq_not, Bool.not_true, Bool.not_false, beq_iff_eq, beq_true, beq_false, bne_iff_ne, ne_eq, Decidable.not_not, Bool.and_eq_true, Bool.or_eq_true, Bool.and_eq_false_iff, Bool.or_eq_false_iff] at hb) <;> repeat' (refine Or.elim hb (fun hb => ?_) (fun hb => ?_)))) | (refine gx_split (fun hb => ?_) (fun hb => ?_) <;> ((try simp only [decide_eq_true_eq, decide_eq_false_iff_not, Bool.not_eq_true', Bool.not_eq_false', Bool.not_eq_eq_eq_not, Bool.not_true, Bool.not_false, beq_iff_eq, beq_true, beq_false, bne_iff_ne, ne_eq, Decidable.not_not, Bool.and_eq_true, Bool.or_eq_true, Bool.and_eq_false_iff, Bool.or_eq_false_iff] at hb) <;> repeat' (refine Or.elim hb (fun hb => ?_) (fun hb => ?_))) <;> simp -implicitDefEqProofs [*]) | (refine gxd_split (fun hb => ?_) (fun hb => ?_) <;> ((try simp only [decide_eq_true_eq, decide_eq_false_iff_not, Bool.not_eq_true', Bool.not_eq_false', Bool.not_eq_eq_eq_not, Bool.not_true, Bool.not_false, beq_iff_eq, beq_true, beq_false, bne_iff_ne, ne_eq, Decidable.not_not, Bool.and_eq_true, Bool.or_eq_true, Bool.and_eq_false_iff, Bool.or_eq_false_iff] at hb) <;> repeat' (refine Or.elim hb (fun hb => ?_) (fun hb => ?_))) <;> simp -implicitDefEqProofs [*]) | fail)
    all_goals (first | contradiction | (refine aw_ret (fin_ret ?_); simp -implicitDefEqProofs [FinP, resV, resT, *] <;> try rfl))
  · repeat' (first | refine aw_seq ?_ | refine aw_skip ?_ | refine aw_block ?_ | refine aw_exit ?_ | refine aw_cond rfl (fun _ => ?_) (fun hb => absurd hb (by decide)) | refine aw_cond rfl (fun hb => absurd hb (by decide)) (fun _ => ?_) | (refine aw_reg (fun K hK => ?_); simp -implicitDefEqProofs [*]) | (refine aw_drw mixd (fun K hK => ?_); simp -implicitDefEqProofs [*]) | refine hK _ ?_ | refine hK _ _ (by rfl) ?_ | (refine ar_call (cp h1 ?_); simp -implicitDefEqProofs [*]) | (refine ard_call (dp h1 ?_); simp -implicitDefEqProofs [*]) | (refine ar_call (cp h2 ?_); simp -implicitDefEqProofs [*]) | (refine ard_call (dp h2 ?_); simp -implicitDefEqProofs [*]) | (refine aw_cond rfl (fun hb => ?_) (fun hb => ?_) <;> ((try simp only [decide_eq_true_eq, decide_eq_false_iff_not, Bool.not_eq_true', Bool.not_eq_false', Bool.not_eq_eq_eq_not, Bool.not_true, Bool.not_false, beq_iff_eq, beq_true, beq_false, bne_iff_ne, ne_eq, Decidable.not_not, Bool.and_eq_true, Bool.or_eq_true, Bool.and_eq_false_iff, Bool.or_eq_false_iff] at hb) <;> repeat' (refine Or.elim hb (fun hb => ?_) (fun hb => ?_)))) | (refine gx_split (fun hb => ?_) (fun hb => ?_) <;> ((try simp only [decide_eq_true_eq, decide_eq_false_iff_not, Bool.not_eq_true', Bool.not_eq_false', Bool.not_eq_eq_eq_not, Bool.not_true, Bool.not_false, beq_iff_eq, beq_true, beq_false, bne_iff_ne, ne_eq, Decidable.not_not, Bool.and_eq_true, Bool.or_eq_true, Bool.and_eq_false_iff, Bool.or_eq_false_iff] at hb) <;> repeat' (refine Or.elim hb (fun hb => ?_) (fun hb => ?_))) <;> simp -implicitDefEqProofs [*]) | (refine gxd_split (fun hb => ?_) (fun hb => ?_) <;> ((try simp only [decide_eq_true_eq, decide_eq_false_iff_not, Bool.not_eq_true', Bool.not_eq_false', Bool.not_eq_eq_eq_not, Bool.not_true, Bool.not_false, beq_iff_eq, beq_true, beq_false, bne_iff_ne, ne_eq, Decidable.not_not, Bool.and_eq_true, Bool.or_eq_true, Bool.and_eq_false_iff, Bool.or_eq_false_iff] at hb) <;> repeat' (refine Or.elim hb (fun hb => ?_) (fun hb => ?_))) <;> simp -implicitDefEqProofs [*]) | fail)
    all_goals (first | contradiction | (refine aw_ret (fin_ret ?_); simp -implicitDefEqProofs [FinP, resV, resT, *] <;> try rfl))
  · repeat' (first | refine aw_seq ?_ | refine aw_skip ?_ | refine aw_block ?_ | refine aw_exit ?_ | refine aw_cond rfl (fun _ => ?_) (fun hb => absurd hb (by decide)) | refine aw_cond rfl (fun hb => absurd hb (by decide)) (fun _ => ?_) | (refine aw_reg (fun K hK => ?_); simp -implicitDefEqProofs [*]) | (refine aw_drw mixd (fun K hK => ?_); simp -implicitDefEqProofs [*]) | refine hK _ ?_ | refine hK _ _ (by rfl) ?_ | (refine ar_call (cp h1 ?_); simp -implicitDefEqProofs [*]) | (refine ard_call (dp h1 ?_); simp -implicitDefEqProofs [*]) | (refine ar_call (cp h2 ?_); simp -implicitDefEqProofs [*]) | (refine ard_call (dp h2 ?_); simp -implicitDefEqProofs [*]) | (refine aw_cond rfl (fun hb => ?_) (fun hb => ?_) <;> ((try simp only [decide_eq_true_eq, decide_eq_false_iff_not, Bool.not_eq_true', Bool.not_eq_false', Bool.not_eq_eq_eq_not, Bool.not_true, Bool.not_false, beq_iff_eq, beq_true, beq_false, bne_iff_ne, ne_eq, Decidable.not_not, Bool.and_eq_true, Bool.or_eq_true, Bool.and_eq_false_iff, Bool.or_eq_false_iff] at hb) <;> repeat' (refine Or.elim hb (fun hb => ?_) (fun hb => ?_)))) | (refine gx_split (fun hb => ?_) (fun hb => ?_) <;> ((try simp only [decide_eq_true_eq, decide_eq_false_iff_not, Bool.not_eq_true', Bool.not_eq_false', Bool.not_eq_eq_eq_not, Bool.not_true, Bool.not_false, beq_iff_eq, beq_true, beq_false, bne_iff_ne, ne_eq, Decidable.not_not, Bool.and_eq_true, Bool.or_eq_true, Bool.and_eq_false_iff, Bool.or_eq_false_iff] at hb) <;> repeat' (refine Or.elim hb (fun hb => ?_) (fun hb => ?_))) <;> simp -implicitDefEqProofs [*]) | (refine gxd_split (fun hb => ?_) (fun hb => ?_) <;> ((try simp only [decide_eq_true_eq, decide_eq_false_iff_not, Bool.not_eq_true', Bool.not_eq_false', Bool.not_eq_eq_eq_not, Bool.not_true, Bool.not_false, beq_iff_eq, beq_true, beq_false, bne_iff_ne, ne_eq, Decidable.not_not, Bool.and_eq_true, Bool.or_eq_true, Bool.and_eq_false_iff, Bool.or_eq_false_iff] at hb) <;> repeat' (refine Or.elim hb (fun hb => ?_) (fun hb => ?_))) <;> simp -implicitDefEqProofs [*]) | fail)
    all_goals (first | contradiction | (refine aw_ret (fin_ret ?_); simp -implicitDefEqProofs [FinP, resV, resT, *] <;> try rfl))
  · repeat' (first | refine aw_seq ?_ | refine aw_skip ?_ | refine aw_block ?_ | refine aw_exit ?_ | refine aw_cond rfl (fun _ => ?_) (fun hb => absurd hb (by decide)) | refine aw_cond rfl (fun hb => absurd hb (by decide)) (fun _ => ?_) | (refine aw_reg (fun K hK => ?_); simp -implicitDefEqProofs [*]) | (refine aw_drw mixd (fun K hK => ?_); simp -implicitDefEqProofs [*]) | refine hK _ ?_ | refine hK _ _ (by rfl) ?_ | (refine ar_call (cp h1 ?_); simp -implicitDefEqProofs [*]) | (refine ard_call (dp h1 ?_); simp -implicitDefEqProofs [*]) | (refine ar_call (cp h2 ?_); simp -implicitDefEqProofs [*]) | (refine ard_call (dp h2 ?_); simp -implicitDefEqProofs [*]) | (refine aw_cond rfl (fun hb => ?_) (fun hb => ?_) <;> ((try simp only [decide_eq_true_eq, decide_eq_false_iff_not, Bool.not_eq_true', Bool.not_eq_false', Bool.not_eq_eq_eq_not, Bool.not_true, Bool.not_false, beq_iff_eq, beq_true, beq_false, bne_iff_ne, ne_eq, Decidable.not_not, Bool.and_eq_true, Bool.or_eq_true, Bool.and_eq_false_iff, Bool.or_eq_false_iff] at hb) <;> repeat' (refine Or.elim hb (fun hb => ?_) (fun hb => ?_)))) | (refine gx_split (fun hb => ?_) (fun hb => ?_) <;> ((try simp only [decide_eq_true_eq, decide_eq_false_iff_not, Bool.not_eq_true', Bool.not_eq_false', Bool.not_eq_eq_eq_not, Bool.not_true, Bool.not_false, beq_iff_eq, beq_true, beq_false, bne_iff_ne, ne_eq, Decidable.not_not, Bool.and_eq_true, Bool.or_eq_true, Bool.and_eq_false_iff, Bool.or_eq_false_iff] at hb) <;> repeat' (refine Or.elim hb (fun hb => ?_) (fun hb => ?_))) <;> simp -implicitDefEqProofs [*]) | (refine gxd_split (fun hb => ?_) (fun hb => ?_) <;> ((try simp only [decide_eq_true_eq, decide_eq_false_iff_not, Bool.not_eq_true', Bool.not_eq_false', Bool.not_eq_eq_eq_not, Bool.not_true, Bool.not_false, beq_iff_eq, beq_true, beq_false, bne_iff_ne, ne_eq, Decidable.not_not, Bool.and_eq_true, Bool.or_eq_true, Bool.and_eq_false_iff, Bool.or_eq_false_iff] at hb) <;> repeat' (refine Or.elim hb (fun hb => ?_) (fun hb => ?_))) <;> simp -implicitDefEqProofs [*]) | fail)
    all_goals (first | contradiction | (refine aw_ret (fin_ret ?_); simp -implicitDefEqProofs [FinP, resV, resT, *] <;> try rfl))
end Go.Proofs.Ythmdllhhmhbhbaa.am
end
