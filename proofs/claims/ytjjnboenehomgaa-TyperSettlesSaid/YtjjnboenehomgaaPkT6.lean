import Derived.Test.YtjjnboenehomgaaPkT5
section
namespace Go.Proofs.Ytjjnboenehomgaa.am
open Go.ChangeShapes Go.WideShapes Go.ChangeAt Go.RowKit
open vt
set_option linter.unusedVariables false
set_option linter.unusedSimpArgs false
set_option maxRecDepth 100000 in
set_option maxHeartbeats 4000000 in
theorem pshaped_row (x : Lab) (l : List VT) : Row Try.prog 66 [vT (.mk x l)] [] (vB (shaE x l.length)) [] := by
  by_cases c5 : x.k = 5
  · skip
    by_cases h : l.length = 0
    · have h' : (l.length : Int) = 0 := by omega
      rw [show shaE x l.length = true by simp [shaE, c5, h, h']]
      refine row_of Try.func66 rfl rfl (Nat.le_of_ble_eq_true rfl) ?_
      repeat (first | refine aw_seq ?_ | refine aw_skip ?_ | refine aw_block ?_ | refine aw_exit ?_ | refine aw_cond rfl (fun _ => ?_) (fun hb => absurd hb (by decide)) | refine aw_cond rfl (fun hb => absurd hb (by decide)) (fun _ => ?_) | (refine aw_reg (fun K hK => ?_); simp -implicitDefEqProofs [c5, h, h']; refine hK _ ?_) | (refine aw_drw mixd (fun K hK => ?_); simp -implicitDefEqProofs [c5, h, h']; refine hK _ _ (by rfl) ?_) | fail)
      refine aw_ret (fin_ret ?_); simp -implicitDefEqProofs [FinP, resV, resT] <;> try rfl
    · have h' : ¬ (l.length : Int) = 0 := by omega
      rw [show shaE x l.length = false by simp [shaE, c5, h]]
      refine row_of Try.func66 rfl rfl (Nat.le_of_ble_eq_true rfl) ?_
      repeat (first | refine aw_seq ?_ | refine aw_skip ?_ | refine aw_block ?_ | refine aw_exit ?_ | refine aw_cond rfl (fun _ => ?_) (fun hb => absurd hb (by decide)) | refine aw_cond rfl (fun hb => absurd hb (by decide)) (fun _ => ?_) | (refine aw_reg (fun K hK => ?_); simp -implicitDefEqProofs [c5, h, h']; refine hK _ ?_) | (refine aw_drw mixd (fun K hK => ?_); simp -implicitDefEqProofs [c5, h, h']; refine hK _ _ (by rfl) ?_) | fail)
      refine aw_ret (fin_ret ?_); simp -implicitDefEqProofs [FinP, resV, resT] <;> try rfl
  by_cases c7 : x.k = 7
  · skip
    by_cases h : l.length = 0
    · have h' : (l.length : Int) = 0 := by omega
      rw [show shaE x l.length = true by simp [shaE, c7, h, h']]
      refine row_of Try.func66 rfl rfl (Nat.le_of_ble_eq_true rfl) ?_
      repeat (first | refine aw_seq ?_ | refine aw_skip ?_ | refine aw_block ?_ | refine aw_exit ?_ | refine aw_cond rfl (fun _ => ?_) (fun hb => absurd hb (by decide)) | refine aw_cond rfl (fun hb => absurd hb (by decide)) (fun _ => ?_) | (refine aw_reg (fun K hK => ?_); simp -implicitDefEqProofs [c7, h, h']; refine hK _ ?_) | (refine aw_drw mixd (fun K hK => ?_); simp -implicitDefEqProofs [c7, h, h']; refine hK _ _ (by rfl) ?_) | fail)
      refine aw_ret (fin_ret ?_); simp -implicitDefEqProofs [FinP, resV, resT] <;> try rfl
    · have h' : ¬ (l.length : Int) = 0 := by omega
      rw [show shaE x l.length = false by simp [shaE, c7, h]]
      refine row_of Try.func66 rfl rfl (Nat.le_of_ble_eq_true rfl) ?_
      repeat (first | refine aw_seq ?_ | refine aw_skip ?_ | refine aw_block ?_ | refine aw_exit ?_ | refine aw_cond rfl (fun _ => ?_) (fun hb => absurd hb (by decide)) | refine aw_cond rfl (fun hb => absurd hb (by decide)) (fun _ => ?_) | (refine aw_reg (fun K hK => ?_); simp -implicitDefEqProofs [c7, h, h']; refine hK _ ?_) | (refine aw_drw mixd (fun K hK => ?_); simp -implicitDefEqProofs [c7, h, h']; refine hK _ _ (by rfl) ?_) | fail)
      refine aw_ret (fin_ret ?_); simp -implicitDefEqProofs [FinP, resV, resT] <;> try rfl
  by_cases c8 : x.k = 8
  · skip
    by_cases h : l.length = 0
    · have h' : (l.length : Int) = 0 := by omega
      rw [show shaE x l.length = true by simp [shaE, c8, h, h']]
      refine row_of Try.func66 rfl rfl (Nat.le_of_ble_eq_true rfl) ?_
      repeat (first | refine aw_seq ?_ | refine aw_skip ?_ | refine aw_block ?_ | refine aw_exit ?_ | refine aw_cond rfl (fun _ => ?_) (fun hb => absurd hb (by decide)) | refine aw_cond rfl (fun hb => absurd hb (by decide)) (fun _ => ?_) | (refine aw_reg (fun K hK => ?_); simp -implicitDefEqProofs [c8, h, h']; refine hK _ ?_) | (refine aw_drw mixd (fun K hK => ?_); simp -implicitDefEqProofs [c8, h, h']; refine hK _ _ (by rfl) ?_) | fail)
      refine aw_ret (fin_ret ?_); simp -implicitDefEqProofs [FinP, resV, resT] <;> try rfl
    · have h' : ¬ (l.length : Int) = 0 := by omega
      rw [show shaE x l.length = false by simp [shaE, c8, h]]
      refine row_of Try.func66 rfl rfl (Nat.le_of_ble_eq_true rfl) ?_
      repeat (first | refine aw_seq ?_ | refine aw_skip ?_ | refine aw_block ?_ | refine aw_exit ?_ | refine aw_cond rfl (fun _ => ?_) (fun hb => absurd hb (by decide)) | refine aw_cond rfl (fun hb => absurd hb (by decide)) (fun _ => ?_) | (refine aw_reg (fun K hK => ?_); simp -implicitDefEqProofs [c8, h, h']; refine hK _ ?_) | (refine aw_drw mixd (fun K hK => ?_); simp -implicitDefEqProofs [c8, h, h']; refine hK _ _ (by rfl) ?_) | fail)
      refine aw_ret (fin_ret ?_); simp -implicitDefEqProofs [FinP, resV, resT] <;> try rfl
  by_cases c9 : x.k = 9
  · skip
    by_cases h : l.length = 0
    · have h' : (l.length : Int) = 0 := by omega
      rw [show shaE x l.length = true by simp [shaE, c9, h, h']]
      refine row_of Try.func66 rfl rfl (Nat.le_of_ble_eq_true rfl) ?_
      repeat (first | refine aw_seq ?_ | refine aw_skip ?_ | refine aw_block ?_ | refine aw_exit ?_ | refine aw_cond rfl (fun _ => ?_) (fun hb => absurd hb (by decide)) | refine aw_cond rfl (fun hb => absurd hb (by decide)) (fun _ => ?_) | (refine aw_reg (fun K hK => ?_); simp -implicitDefEqProofs [c9, h, h']; refine hK _ ?_) | (refine aw_drw mixd (fun K hK => ?_); simp -implicitDefEqProofs [c9, h, h']; refine hK _ _ (by rfl) ?_) | fail)
      refine aw_ret (fin_ret ?_); simp -implicitDefEqProofs [FinP, resV, resT] <;> try rfl
    · have h' : ¬ (l.length : Int) = 0 := by omega
      rw [show shaE x l.length = false by simp [shaE, c9, h]]
      refine row_of Try.func66 rfl rfl (Nat.le_of_ble_eq_true rfl) ?_
      repeat (first | refine aw_seq ?_ | refine aw_skip ?_ | refine aw_block ?_ | refine aw_exit ?_ | refine aw_cond rfl (fun _ => ?_) (fun hb => absurd hb (by decide)) | refine aw_cond rfl (fun hb => absurd hb (by decide)) (fun _ => ?_) | (refine aw_reg (fun K hK => ?_); simp -implicitDefEqProofs [c9, h, h']; refine hK _ ?_) | (refine aw_drw mixd (fun K hK => ?_); simp -implicitDefEqProofs [c9, h, h']; refine hK _ _ (by rfl) ?_) | fail)
      refine aw_ret (fin_ret ?_); simp -implicitDefEqProofs [FinP, resV, resT] <;> try rfl
  by_cases c18 : x.k = 18
  · skip
    by_cases h : l.length = 0
    · have h' : (l.length : Int) = 0 := by omega
      rw [show shaE x l.length = true by simp [shaE, c18, h, h']]
      refine row_of Try.func66 rfl rfl (Nat.le_of_ble_eq_true rfl) ?_
      repeat (first | refine aw_seq ?_ | refine aw_skip ?_ | refine aw_block ?_ | refine aw_exit ?_ | refine aw_cond rfl (fun _ => ?_) (fun hb => absurd hb (by decide)) | refine aw_cond rfl (fun hb => absurd hb (by decide)) (fun _ => ?_) | (refine aw_reg (fun K hK => ?_); simp -implicitDefEqProofs [c18, h, h']; refine hK _ ?_) | (refine aw_drw mixd (fun K hK => ?_); simp -implicitDefEqProofs [c18, h, h']; refine hK _ _ (by rfl) ?_) | fail)
      refine aw_ret (fin_ret ?_); simp -implicitDefEqProofs [FinP, resV, resT] <;> try rfl
    · have h' : ¬ (l.length : Int) = 0 := by omega
      rw [show shaE x l.length = false by simp [shaE, c18, h]]
      refine row_of Try.func66 rfl rfl (Nat.le_of_ble_eq_true rfl) ?_
      repeat (first | refine aw_seq ?_ | refine aw_skip ?_ | refine aw_block ?_ | refine aw_exit ?_ | refine aw_cond rfl (fun _ => ?_) (fun hb => absurd hb (by decide)) | refine aw_cond rfl (fun hb => absurd hb (by decide)) (fun _ => ?_) | (refine aw_reg (fun K hK => ?_); simp -implicitDefEqProofs [c18, h, h']; refine hK _ ?_) | (refine aw_drw mixd (fun K hK => ?_); simp -implicitDefEqProofs [c18, h, h']; refine hK _ _ (by rfl) ?_) | fail)
      refine aw_ret (fin_ret ?_); simp -implicitDefEqProofs [FinP, resV, resT] <;> try rfl
  by_cases c6 : x.k = 6
  · skip
    by_cases h : l.length = 0
    · have h' : (l.length : Int) = 0 := by omega
      by_cases n0 : x.n = 0
      · skip
        rw [show shaE x l.length = true by simp [shaE, c6, h, h', n0]]
        refine row_of Try.func66 rfl rfl (Nat.le_of_ble_eq_true rfl) ?_
        repeat (first | refine aw_seq ?_ | refine aw_skip ?_ | refine aw_block ?_ | refine aw_exit ?_ | refine aw_cond rfl (fun _ => ?_) (fun hb => absurd hb (by decide)) | refine aw_cond rfl (fun hb => absurd hb (by decide)) (fun _ => ?_) | (refine aw_reg (fun K hK => ?_); simp -implicitDefEqProofs [c6, h, h', n0]; refine hK _ ?_) | (refine aw_drw mixd (fun K hK => ?_); simp -implicitDefEqProofs [c6, h, h', n0]; refine hK _ _ (by rfl) ?_) | fail)
        refine aw_ret (fin_ret ?_); simp -implicitDefEqProofs [FinP, resV, resT] <;> try rfl
      by_cases n1 : x.n = 1
      · skip
        rw [show shaE x l.length = true by simp [shaE, c6, h, h', n1]]
        refine row_of Try.func66 rfl rfl (Nat.le_of_ble_eq_true rfl) ?_
        repeat (first | refine aw_seq ?_ | refine aw_skip ?_ | refine aw_block ?_ | refine aw_exit ?_ | refine aw_cond rfl (fun _ => ?_) (fun hb => absurd hb (by decide)) | refine aw_cond rfl (fun hb => absurd hb (by decide)) (fun _ => ?_) | (refine aw_reg (fun K hK => ?_); simp -implicitDefEqProofs [c6, h, h', n1]; refine hK _ ?_) | (refine aw_drw mixd (fun K hK => ?_); simp -implicitDefEqProofs [c6, h, h', n1]; refine hK _ _ (by rfl) ?_) | fail)
        refine aw_ret (fin_ret ?_); simp -implicitDefEqProofs [FinP, resV, resT] <;> try rfl
      rw [show shaE x l.length = false by simp [shaE, c6, h, h', n0, n1]]
      refine row_of Try.func66 rfl rfl (Nat.le_of_ble_eq_true rfl) ?_
      repeat (first | refine aw_seq ?_ | refine aw_skip ?_ | refine aw_block ?_ | refine aw_exit ?_ | refine aw_cond rfl (fun _ => ?_) (fun hb => absurd hb (by decide)) | refine aw_cond rfl (fun hb => absurd hb (by decide)) (fun _ => ?_) | (refine aw_reg (fun K hK => ?_); simp -implicitDefEqProofs [c6, h, h', n0, n1]; refine hK _ ?_) | (refine aw_drw mixd (fun K hK => ?_); simp -implicitDefEqProofs [c6, h, h', n0, n1]; refine hK _ _ (by rfl) ?_) | fail)
      refine aw_ret (fin_ret ?_); simp -implicitDefEqProofs [FinP, resV, resT] <;> try rfl
    · have h' : ¬ (l.length : Int) = 0 := by omega
      rw [show shaE x l.length = false by simp [shaE, c6, h]]
      refine row_of Try.func66 rfl rfl (Nat.le_of_ble_eq_true rfl) ?_
      repeat (first | refine aw_seq ?_ | refine aw_skip ?_ | refine aw_block ?_ | refine aw_exit ?_ | refine aw_cond rfl (fun _ => ?_) (fun hb => absurd hb (by decide)) | refine aw_cond rfl (fun hb => absurd hb (by decide)) (fun _ => ?_) | (refine aw_reg (fun K hK => ?_); simp -implicitDefEqProofs [c6, h, h']; refine hK _ ?_) | (refine aw_drw mixd (fun K hK => ?_); simp -implicitDefEqProofs [c6, h, h']; refine hK _ _ (by rfl) ?_) | fail)
      refine aw_ret (fin_ret ?_); simp -implicitDefEqProofs [FinP, resV, resT] <;> try rfl
  by_cases c10 : x.k = 10
  · skip
    by_cases h : l.length = 2
    · have h' : (l.length : Int) = 2 := by omega
      by_cases n0 : 1 ≤ x.n
      · by_cases n1 : x.n ≤ 13
        · skip
          rw [show shaE x l.length = true by simp [shaE, c10, h, h', n0, n1]]
          refine row_of Try.func66 rfl rfl (Nat.le_of_ble_eq_true rfl) ?_
          repeat (first | refine aw_seq ?_ | refine aw_skip ?_ | refine aw_block ?_ | refine aw_exit ?_ | refine aw_cond rfl (fun _ => ?_) (fun hb => absurd hb (by decide)) | refine aw_cond rfl (fun hb => absurd hb (by decide)) (fun _ => ?_) | (refine aw_reg (fun K hK => ?_); simp -implicitDefEqProofs [c10, h, h', n0, n1]; refine hK _ ?_) | (refine aw_drw mixd (fun K hK => ?_); simp -implicitDefEqProofs [c10, h, h', n0, n1]; refine hK _ _ (by rfl) ?_) | fail)
          refine aw_ret (fin_ret ?_); simp -implicitDefEqProofs [FinP, resV, resT] <;> try rfl
        · skip
          rw [show shaE x l.length = false by simp [shaE, c10, h, h', n0, n1]]
          refine row_of Try.func66 rfl rfl (Nat.le_of_ble_eq_true rfl) ?_
          repeat (first | refine aw_seq ?_ | refine aw_skip ?_ | refine aw_block ?_ | refine aw_exit ?_ | refine aw_cond rfl (fun _ => ?_) (fun hb => absurd hb (by decide)) | refine aw_cond rfl (fun hb => absurd hb (by decide)) (fun _ => ?_) | (refine aw_reg (fun K hK => ?_); simp -implicitDefEqProofs [c10, h, h', n0, n1]; refine hK _ ?_) | (refine aw_drw mixd (fun K hK => ?_); simp -implicitDefEqProofs [c10, h, h', n0, n1]; refine hK _ _ (by rfl) ?_) | fail)
          refine aw_ret (fin_ret ?_); simp -implicitDefEqProofs [FinP, resV, resT] <;> try rfl
      · skip
        rw [show shaE x l.length = false by simp [shaE, c10, h, h', n0]]
        refine row_of Try.func66 rfl rfl (Nat.le_of_ble_eq_true rfl) ?_
        repeat (first | refine aw_seq ?_ | refine aw_skip ?_ | refine aw_block ?_ | refine aw_exit ?_ | refine aw_cond rfl (fun _ => ?_) (fun hb => absurd hb (by decide)) | refine aw_cond rfl (fun hb => absurd hb (by decide)) (fun _ => ?_) | (refine aw_reg (fun K hK => ?_); simp -implicitDefEqProofs [c10, h, h', n0]; refine hK _ ?_) | (refine aw_drw mixd (fun K hK => ?_); simp -implicitDefEqProofs [c10, h, h', n0]; refine hK _ _ (by rfl) ?_) | fail)
        refine aw_ret (fin_ret ?_); simp -implicitDefEqProofs [FinP, resV, resT] <;> try rfl
    · have h' : ¬ (l.length : Int) = 2 := by omega
      rw [show shaE x l.length = false by simp [shaE, c10, h]]
      refine row_of Try.func66 rfl rfl (Nat.le_of_ble_eq_true rfl) ?_
      repeat (first | refine aw_seq ?_ | refine aw_skip ?_ | refine aw_block ?_ | refine aw_exit ?_ | refine aw_cond rfl (fun _ => ?_) (fun hb => absurd hb (by decide)) | refine aw_cond rfl (fun hb => absurd hb (by decide)) (fun _ => ?_) | (refine aw_reg (fun K hK => ?_); simp -implicitDefEqProofs [c10, h, h']; refine hK _ ?_) | (refine aw_drw mixd (fun K hK => ?_); simp -implicitDefEqProofs [c10, h, h']; refine hK _ _ (by rfl) ?_) | fail)
      refine aw_ret (fin_ret ?_); simp -implicitDefEqProofs [FinP, resV, resT] <;> try rfl
  by_cases c11 : x.k = 11
  · skip
    by_cases h : l.length = 1
    · have h' : (l.length : Int) = 1 := by omega
      by_cases n0 : x.n = 1
      · skip
        rw [show shaE x l.length = true by simp [shaE, c11, h, h', n0]]
        refine row_of Try.func66 rfl rfl (Nat.le_of_ble_eq_true rfl) ?_
        repeat (first | refine aw_seq ?_ | refine aw_skip ?_ | refine aw_block ?_ | refine aw_exit ?_ | refine aw_cond rfl (fun _ => ?_) (fun hb => absurd hb (by decide)) | refine aw_cond rfl (fun hb => absurd hb (by decide)) (fun _ => ?_) | (refine aw_reg (fun K hK => ?_); simp -implicitDefEqProofs [c11, h, h', n0]; refine hK _ ?_) | (refine aw_drw mixd (fun K hK => ?_); simp -implicitDefEqProofs [c11, h, h', n0]; refine hK _ _ (by rfl) ?_) | fail)
        refine aw_ret (fin_ret ?_); simp -implicitDefEqProofs [FinP, resV, resT] <;> try rfl
      by_cases n1 : x.n = 2
      · skip
        rw [show shaE x l.length = true by simp [shaE, c11, h, h', n1]]
        refine row_of Try.func66 rfl rfl (Nat.le_of_ble_eq_true rfl) ?_
        repeat (first | refine aw_seq ?_ | refine aw_skip ?_ | refine aw_block ?_ | refine aw_exit ?_ | refine aw_cond rfl (fun _ => ?_) (fun hb => absurd hb (by decide)) | refine aw_cond rfl (fun hb => absurd hb (by decide)) (fun _ => ?_) | (refine aw_reg (fun K hK => ?_); simp -implicitDefEqProofs [c11, h, h', n1]; refine hK _ ?_) | (refine aw_drw mixd (fun K hK => ?_); simp -implicitDefEqProofs [c11, h, h', n1]; refine hK _ _ (by rfl) ?_) | fail)
        refine aw_ret (fin_ret ?_); simp -implicitDefEqProofs [FinP, resV, resT] <;> try rfl
      rw [show shaE x l.length = false by simp [shaE, c11, h, h', n0, n1]]
      refine row_of Try.func66 rfl rfl (Nat.le_of_ble_eq_true rfl) ?_
      repeat (first | refine aw_seq ?_ | refine aw_skip ?_ | refine aw_block ?_ | refine aw_exit ?_ | refine aw_cond rfl (fun _ => ?_) (fun hb => absurd hb (by decide)) | refine aw_cond rfl (fun hb => absurd hb (by decide)) (fun _ => ?_) | (refine aw_reg (fun K hK => ?_); simp -implicitDefEqProofs [c11, h, h', n0, n1]; refine hK _ ?_) | (refine aw_drw mixd (fun K hK => ?_); simp -implicitDefEqProofs [c11, h, h', n0, n1]; refine hK _ _ (by rfl) ?_) | fail)
      refine aw_ret (fin_ret ?_); simp -implicitDefEqProofs [FinP, resV, resT] <;> try rfl
    · have h' : ¬ (l.length : Int) = 1 := by omega
      rw [show shaE x l.length = false by simp [shaE, c11, h]]
      refine row_of Try.func66 rfl rfl (Nat.le_of_ble_eq_true rfl) ?_
      repeat (first | refine aw_seq ?_ | refine aw_skip ?_ | refine aw_block ?_ | refine aw_exit ?_ | refine aw_cond rfl (fun _ => ?_) (fun hb => absurd hb (by decide)) | refine aw_cond rfl (fun hb => absurd hb (by decide)) (fun _ => ?_) | (refine aw_reg (fun K hK => ?_); simp -implicitDefEqProofs [c11, h, h']; refine hK _ ?_) | (refine aw_drw mixd (fun K hK => ?_); simp -implicitDefEqProofs [c11, h, h']; refine hK _ _ (by rfl) ?_) | fail)
      refine aw_ret (fin_ret ?_); simp -implicitDefEqProofs [FinP, resV, resT] <;> try rfl
  by_cases c12 : x.k = 12
  · skip
    by_cases h : l.length = 2
    · have h' : (l.length : Int) = 2 := by omega
      rw [show shaE x l.length = true by simp [shaE, c12, h, h']]
      refine row_of Try.func66 rfl rfl (Nat.le_of_ble_eq_true rfl) ?_
      repeat (first | refine aw_seq ?_ | refine aw_skip ?_ | refine aw_block ?_ | refine aw_exit ?_ | refine aw_cond rfl (fun _ => ?_) (fun hb => absurd hb (by decide)) | refine aw_cond rfl (fun hb => absurd hb (by decide)) (fun _ => ?_) | (refine aw_reg (fun K hK => ?_); simp -implicitDefEqProofs [c12, h, h']; refine hK _ ?_) | (refine aw_drw mixd (fun K hK => ?_); simp -implicitDefEqProofs [c12, h, h']; refine hK _ _ (by rfl) ?_) | fail)
      refine aw_ret (fin_ret ?_); simp -implicitDefEqProofs [FinP, resV, resT] <;> try rfl
    · have h' : ¬ (l.length : Int) = 2 := by omega
      rw [show shaE x l.length = false by simp [shaE, c12, h]]
      refine row_of Try.func66 rfl rfl (Nat.le_of_ble_eq_true rfl) ?_
      repeat (first | refine aw_seq ?_ | refine aw_skip ?_ | refine aw_block ?_ | refine aw_exit ?_ | refine aw_cond rfl (fun _ => ?_) (fun hb => absurd hb (by decide)) | refine aw_cond rfl (fun hb => absurd hb (by decide)) (fun _ => ?_) | (refine aw_reg (fun K hK => ?_); simp -implicitDefEqProofs [c12, h, h']; refine hK _ ?_) | (refine aw_drw mixd (fun K hK => ?_); simp -implicitDefEqProofs [c12, h, h']; refine hK _ _ (by rfl) ?_) | fail)
      refine aw_ret (fin_ret ?_); simp -implicitDefEqProofs [FinP, resV, resT] <;> try rfl
  by_cases c13 : x.k = 13
  · skip
    by_cases h : l.length = 1
    · have h' : (l.length : Int) = 1 := by omega
      rw [show shaE x l.length = true by simp [shaE, c13, h, h']]
      refine row_of Try.func66 rfl rfl (Nat.le_of_ble_eq_true rfl) ?_
      repeat (first | refine aw_seq ?_ | refine aw_skip ?_ | refine aw_block ?_ | refine aw_exit ?_ | refine aw_cond rfl (fun _ => ?_) (fun hb => absurd hb (by decide)) | refine aw_cond rfl (fun hb => absurd hb (by decide)) (fun _ => ?_) | (refine aw_reg (fun K hK => ?_); simp -implicitDefEqProofs [c13, h, h']; refine hK _ ?_) | (refine aw_drw mixd (fun K hK => ?_); simp -implicitDefEqProofs [c13, h, h']; refine hK _ _ (by rfl) ?_) | fail)
      refine aw_ret (fin_ret ?_); simp -implicitDefEqProofs [FinP, resV, resT] <;> try rfl
    · have h' : ¬ (l.length : Int) = 1 := by omega
      rw [show shaE x l.length = false by simp [shaE, c13, h]]
      refine row_of Try.func66 rfl rfl (Nat.le_of_ble_eq_true rfl) ?_
      repeat (first | refine aw_seq ?_ | refine aw_skip ?_ | refine aw_block ?_ | refine aw_exit ?_ | refine aw_cond rfl (fun _ => ?_) (fun hb => absurd hb (by decide)) | refine aw_cond rfl (fun hb => absurd hb (by decide)) (fun _ => ?_) | (refine aw_reg (fun K hK => ?_); simp -implicitDefEqProofs [c13, h, h']; refine hK _ ?_) | (refine aw_drw mixd (fun K hK => ?_); simp -implicitDefEqProofs [c13, h, h']; refine hK _ _ (by rfl) ?_) | fail)
      refine aw_ret (fin_ret ?_); simp -implicitDefEqProofs [FinP, resV, resT] <;> try rfl
  by_cases c14 : x.k = 14
  · skip
    by_cases h : 1 ≤ l.length
    · have h' : (1 : Int) ≤ (l.length : Int) := by omega
      have h2 : ¬ l.length = 0 := by omega
      rw [show shaE x l.length = true by simp [shaE, c14, h]]
      refine row_of Try.func66 rfl rfl (Nat.le_of_ble_eq_true rfl) ?_
      repeat (first | refine aw_seq ?_ | refine aw_skip ?_ | refine aw_block ?_ | refine aw_exit ?_ | refine aw_cond rfl (fun _ => ?_) (fun hb => absurd hb (by decide)) | refine aw_cond rfl (fun hb => absurd hb (by decide)) (fun _ => ?_) | (refine aw_reg (fun K hK => ?_); simp -implicitDefEqProofs [c14, h, h', h2]; refine hK _ ?_) | (refine aw_drw mixd (fun K hK => ?_); simp -implicitDefEqProofs [c14, h, h', h2]; refine hK _ _ (by rfl) ?_) | fail)
      refine aw_ret (fin_ret ?_); simp -implicitDefEqProofs [FinP, resV, resT] <;> try rfl
    · have h' : ¬ (1 : Int) ≤ (l.length : Int) := by omega
      rw [show shaE x l.length = false by simp [shaE, c14, h]]
      refine row_of Try.func66 rfl rfl (Nat.le_of_ble_eq_true rfl) ?_
      repeat (first | refine aw_seq ?_ | refine aw_skip ?_ | refine aw_block ?_ | refine aw_exit ?_ | refine aw_cond rfl (fun _ => ?_) (fun hb => absurd hb (by decide)) | refine aw_cond rfl (fun hb => absurd hb (by decide)) (fun _ => ?_) | (refine aw_reg (fun K hK => ?_); simp -implicitDefEqProofs [c14, h, h']; refine hK _ ?_) | (refine aw_drw mixd (fun K hK => ?_); simp -implicitDefEqProofs [c14, h, h']; refine hK _ _ (by rfl) ?_) | fail)
      refine aw_ret (fin_ret ?_); simp -implicitDefEqProofs [FinP, resV, resT] <;> try rfl
  by_cases c15 : x.k = 15
  · skip
    by_cases h : 1 ≤ l.length
    · have h' : (1 : Int) ≤ (l.length : Int) := by omega
      have h2 : ¬ l.length = 0 := by omega
      rw [show shaE x l.length = true by simp [shaE, c15, h]]
      refine row_of Try.func66 rfl rfl (Nat.le_of_ble_eq_true rfl) ?_
      repeat (first | refine aw_seq ?_ | refine aw_skip ?_ | refine aw_block ?_ | refine aw_exit ?_ | refine aw_cond rfl (fun _ => ?_) (fun hb => absurd hb (by decide)) | refine aw_cond rfl (fun hb => absurd hb (by decide)) (fun _ => ?_) | (refine aw_reg (fun K hK => ?_); simp -implicitDefEqProofs [c15, h, h', h2]; refine hK _ ?_) | (refine aw_drw mixd (fun K hK => ?_); simp -implicitDefEqProofs [c15, h, h', h2]; refine hK _ _ (by rfl) ?_) | fail)
      refine aw_ret (fin_ret ?_); simp -implicitDefEqProofs [FinP, resV, resT] <;> try rfl
    · have h' : ¬ (1 : Int) ≤ (l.length : Int) := by omega
      rw [show shaE x l.length = false by simp [shaE, c15, h]]
      refine row_of Try.func66 rfl rfl (Nat.le_of_ble_eq_true rfl) ?_
      repeat (first | refine aw_seq ?_ | refine aw_skip ?_ | refine aw_block ?_ | refine aw_exit ?_ | refine aw_cond rfl (fun _ => ?_) (fun hb => absurd hb (by decide)) | refine aw_cond rfl (fun hb => absurd hb (by decide)) (fun _ => ?_) | (refine aw_reg (fun K hK => ?_); simp -implicitDefEqProofs [c15, h, h']; refine hK _ ?_) | (refine aw_drw mixd (fun K hK => ?_); simp -implicitDefEqProofs [c15, h, h']; refine hK _ _ (by rfl) ?_) | fail)
      refine aw_ret (fin_ret ?_); simp -implicitDefEqProofs [FinP, resV, resT] <;> try rfl
  by_cases c16 : x.k = 16
  · skip
    rw [show shaE x l.length = true by simp [shaE, c16]]
    refine row_of Try.func66 rfl rfl (Nat.le_of_ble_eq_true rfl) ?_
    repeat (first | refine aw_seq ?_ | refine aw_skip ?_ | refine aw_block ?_ | refine aw_exit ?_ | refine aw_cond rfl (fun _ => ?_) (fun hb => absurd hb (by decide)) | refine aw_cond rfl (fun hb => absurd hb (by decide)) (fun _ => ?_) | (refine aw_reg (fun K hK => ?_); simp -implicitDefEqProofs [c16]; refine hK _ ?_) | (refine aw_drw mixd (fun K hK => ?_); simp -implicitDefEqProofs [c16]; refine hK _ _ (by rfl) ?_) | fail)
    refine aw_ret (fin_ret ?_); simp -implicitDefEqProofs [FinP, resV, resT] <;> try rfl
  by_cases c17 : x.k = 17
  · skip
    rw [show shaE x l.length = true by simp [shaE, c17]]
    refine row_of Try.func66 rfl rfl (Nat.le_of_ble_eq_true rfl) ?_
    repeat (first | refine aw_seq ?_ | refine aw_skip ?_ | refine aw_block ?_ | refine aw_exit ?_ | refine aw_cond rfl (fun _ => ?_) (fun hb => absurd hb (by decide)) | refine aw_cond rfl (fun hb => absurd hb (by decide)) (fun _ => ?_) | (refine aw_reg (fun K hK => ?_); simp -implicitDefEqProofs [c17]; refine hK _ ?_) | (refine aw_drw mixd (fun K hK => ?_); simp -implicitDefEqProofs [c17]; refine hK _ _ (by rfl) ?_) | fail)
    refine aw_ret (fin_ret ?_); simp -implicitDefEqProofs [FinP, resV, resT] <;> try rfl
  rw [show shaE x l.length = false by simp [shaE, c5, c7, c8, c9, c18, c6, c10, c11, c12, c13, c14, c15, c16, c17]]
  refine row_of Try.func66 rfl rfl (Nat.le_of_ble_eq_true rfl) ?_
  repeat (first | refine aw_seq ?_ | refine aw_skip ?_ | refine aw_block ?_ | refine aw_exit ?_ | refine aw_cond rfl (fun _ => ?_) (fun hb => absurd hb (by decide)) | refine aw_cond rfl (fun hb => absurd hb (by decide)) (fun _ => ?_) | (refine aw_reg (fun K hK => ?_); simp -implicitDefEqProofs [c5, c7, c8, c9, c18, c6, c10, c11, c12, c13, c14, c15, c16, c17]; refine hK _ ?_) | (refine aw_drw mixd (fun K hK => ?_); simp -implicitDefEqProofs [c5, c7, c8, c9, c18, c6, c10, c11, c12, c13, c14, c15, c16, c17]; refine hK _ _ (by rfl) ?_) | fail)
  refine aw_ret (fin_ret ?_); simp -implicitDefEqProofs [FinP, resV, resT] <;> try rfl
def dclB (d : VT) (kind : Int) : Bool :=
  if kind = 8 then decide (d.lab.k = 31) && (decide (d.kids.length = 1) && !decide ((litT (d.kids.getD 0 z0T)).lab.k = 0))
  else if kind = 9 then decide (d.lab.k = 32) && decide (d.kids.length = 1)
  else if kind = 16 then decide (d.lab.k = 33) && decide (d.kids.length = 3)
  else d.kids.all partB && (decide (d.lab.k = 30) && decide (0 < d.kids.length))
set_option maxRecDepth 100000 in
set_option maxHeartbeats 4000000 in
theorem declares_row (x : Lab) (l : List VT) (hl : l.length ≤ 1000000) (kind : Int) : Row Try.prog 88 [vT (.mk x l), vI kind] [] (vB (dclB (.mk x l) kind)) [] := by
  unfold dclB
  rw [Tr.lab, Tr.kids]
  by_cases k8 : kind = 8
  · subst k8
    rw [if_pos rfl]
    by_cases d31 : x.k = 31; rotate_left
    · rw [decide_eq_false d31]
      refine row_of Try.func88 rfl rfl (Nat.le_of_ble_eq_true rfl) ?_
      repeat (first | refine aw_seq ?_ | refine aw_skip ?_ | refine aw_block ?_ | refine aw_exit ?_ | refine aw_cond rfl (fun _ => ?_) (fun hb => absurd hb (by decide)) | refine aw_cond rfl (fun hb => absurd hb (by decide)) (fun _ => ?_) | (refine aw_reg (fun K hK => ?_); simp -implicitDefEqProofs [d31]; refine hK _ ?_) | (refine aw_drw mixd (fun K hK => ?_); simp -implicitDefEqProofs [d31]; refine hK _ _ (by rfl) ?_) | fail)
      refine aw_ret (fin_ret ?_); simp -implicitDefEqProofs [FinP, resV, resT] <;> try rfl
    by_cases l1 : l.length = 1; rotate_left
    · have l1' : ¬ (l.length : Int) = 1 := by omega
      rw [decide_eq_false l1]
      refine row_of Try.func88 rfl rfl (Nat.le_of_ble_eq_true rfl) ?_
      repeat (first | refine aw_seq ?_ | refine aw_skip ?_ | refine aw_block ?_ | refine aw_exit ?_ | refine aw_cond rfl (fun _ => ?_) (fun hb => absurd hb (by decide)) | refine aw_cond rfl (fun hb => absurd hb (by decide)) (fun _ => ?_) | (refine aw_reg (fun K hK => ?_); simp -implicitDefEqProofs [d31, l1, l1']; refine hK _ ?_) | (refine aw_drw mixd (fun K hK => ?_); simp -implicitDefEqProofs [d31, l1, l1']; refine hK _ _ (by rfl) ?_) | fail)
      refine aw_ret (fin_ret ?_); simp -implicitDefEqProofs [FinP, resV, resT] <;> try rfl
    obtain ⟨⟨ax, al⟩, rfl⟩ := one_of l1
    have hli := plit_row ax al
    rw [show [Tr.mk ax al].getD 0 z0T = .mk ax al from rfl]
    obtain ⟨⟨ux, ul⟩, hu⟩ : ∃ g, litT (.mk ax al) = g := ⟨_, rfl⟩
    rw [hu] at hli ⊢
    rw [Tr.lab]
    clear hu
    by_cases u0 : ux.k = 0
    · refine row_of Try.func88 rfl rfl (Nat.le_of_ble_eq_true rfl) ?_
      repeat' (first | refine aw_seq ?_ | refine aw_skip ?_ | refine aw_block ?_ | refine aw_exit ?_ | refine aw_cond rfl (fun _ => ?_) (fun hb => absurd hb (by decide)) | refine aw_cond rfl (fun hb => absurd hb (by decide)) (fun _ => ?_) | (refine aw_reg (fun K hK => ?_); simp -implicitDefEqProofs [d31, u0]) | (refine aw_drw mixd (fun K hK => ?_); simp -implicitDefEqProofs [d31, u0]) | refine hK _ ?_ | refine hK _ _ (by rfl) ?_ | (refine ar_call (cp hli ?_); simp -implicitDefEqProofs [d31, u0]) | (refine ard_call (dp hli ?_); simp -implicitDefEqProofs [d31, u0]) | fail)
      refine aw_ret (fin_ret ?_); simp -implicitDefEqProofs [FinP, resV, resT, d31, u0] <;> try rfl
    · refine row_of Try.func88 rfl rfl (Nat.le_of_ble_eq_true rfl) ?_
      repeat' (first | refine aw_seq ?_ | refine aw_skip ?_ | refine aw_block ?_ | refine aw_exit ?_ | refine aw_cond rfl (fun _ => ?_) (fun hb => absurd hb (by decide)) | refine aw_cond rfl (fun hb => absurd hb (by decide)) (fun _ => ?_) | (refine aw_reg (fun K hK => ?_); simp -implicitDefEqProofs [d31, u0]) | (refine aw_drw mixd (fun K hK => ?_); simp -implicitDefEqProofs [d31, u0]) | refine hK _ ?_ | refine hK _ _ (by rfl) ?_ | (refine ar_call (cp hli ?_); simp -implicitDefEqProofs [d31, u0]) | (refine ard_call (dp hli ?_); simp -implicitDefEqProofs [d31, u0]) | fail)
      refine aw_ret (fin_ret ?_); simp -implicitDefEqProofs [FinP, resV, resT, d31, u0] <;> try rfl
  rw [if_neg k8]
  by_cases k9 : kind = 9
  · subst k9
    rw [if_pos rfl]
    by_cases d32 : x.k = 32; rotate_left
    · rw [decide_eq_false d32]
      refine row_of Try.func88 rfl rfl (Nat.le_of_ble_eq_true rfl) ?_
      repeat (first | refine aw_seq ?_ | refine aw_skip ?_ | refine aw_block ?_ | refine aw_exit ?_ | refine aw_cond rfl (fun _ => ?_) (fun hb => absurd hb (by decide)) | refine aw_cond rfl (fun hb => absurd hb (by decide)) (fun _ => ?_) | (refine aw_reg (fun K hK => ?_); simp -implicitDefEqProofs [d32]; refine hK _ ?_) | (refine aw_drw mixd (fun K hK => ?_); simp -implicitDefEqProofs [d32]; refine hK _ _ (by rfl) ?_) | fail)
      refine aw_ret (fin_ret ?_); simp -implicitDefEqProofs [FinP, resV, resT] <;> try rfl
    by_cases l1 : l.length = 1
    · have l1' : (l.length : Int) = 1 := by omega
      refine row_of Try.func88 rfl rfl (Nat.le_of_ble_eq_true rfl) ?_
      repeat (first | refine aw_seq ?_ | refine aw_skip ?_ | refine aw_block ?_ | refine aw_exit ?_ | refine aw_cond rfl (fun _ => ?_) (fun hb => absurd hb (by decide)) | refine aw_cond rfl (fun hb => absurd hb (by decide)) (fun _ => ?_) | (refine aw_reg (fun K hK => ?_); simp -implicitDefEqProofs [d32, l1, l1']; refine hK _ ?_) | (refine aw_drw mixd (fun K hK => ?_); simp -implicitDefEqProofs [d32, l1, l1']; refine hK _ _ (by rfl) ?_) | fail)
      refine aw_ret (fin_ret ?_); simp -implicitDefEqProofs [FinP, resV, resT, d32, l1] <;> try rfl
    · have l1' : ¬ (l.length : Int) = 1 := by omega
      refine row_of Try.func88 rfl rfl (Nat.le_of_ble_eq_true rfl) ?_
      repeat (first | refine aw_seq ?_ | refine aw_skip ?_ | refine aw_block ?_ | refine aw_exit ?_ | refine aw_cond rfl (fun _ => ?_) (fun hb => absurd hb (by decide)) | refine aw_cond rfl (fun hb => absurd hb (by decide)) (fun _ => ?_) | (refine aw_reg (fun K hK => ?_); simp -implicitDefEqProofs [d32, l1, l1']; refine hK _ ?_) | (refine aw_drw mixd (fun K hK => ?_); simp -implicitDefEqProofs [d32, l1, l1']; refine hK _ _ (by rfl) ?_) | fail)
      refine aw_ret (fin_ret ?_); simp -implicitDefEqProofs [FinP, resV, resT, d32, l1] <;> try rfl
  rw [if_neg k9]
  by_cases k16 : kind = 16
  · subst k16
    rw [if_pos rfl]
    by_cases d33 : x.k = 33; rotate_left
    · rw [decide_eq_false d33]
      refine row_of Try.func88 rfl rfl (Nat.le_of_ble_eq_true rfl) ?_
      repeat (first | refine aw_seq ?_ | refine aw_skip ?_ | refine aw_block ?_ | refine aw_exit ?_ | refine aw_cond rfl (fun _ => ?_) (fun hb => absurd hb (by decide)) | refine aw_cond rfl (fun hb => absurd hb (by decide)) (fun _ => ?_) | (refine aw_reg (fun K hK => ?_); simp -implicitDefEqProofs [d33]; refine hK _ ?_) | (refine aw_drw mixd (fun K hK => ?_); simp -implicitDefEqProofs [d33]; refine hK _ _ (by rfl) ?_) | fail)
      refine aw_ret (fin_ret ?_); simp -implicitDefEqProofs [FinP, resV, resT] <;> try rfl
    by_cases l1 : l.length = 3
    · have l1' : (l.length : Int) = 3 := by omega
      refine row_of Try.func88 rfl rfl (Nat.le_of_ble_eq_true rfl) ?_
      repeat (first | refine aw_seq ?_ | refine aw_skip ?_ | refine aw_block ?_ | refine aw_exit ?_ | refine aw_cond rfl (fun _ => ?_) (fun hb => absurd hb (by decide)) | refine aw_cond rfl (fun hb => absurd hb (by decide)) (fun _ => ?_) | (refine aw_reg (fun K hK => ?_); simp -implicitDefEqProofs [d33, l1, l1']; refine hK _ ?_) | (refine aw_drw mixd (fun K hK => ?_); simp -implicitDefEqProofs [d33, l1, l1']; refine hK _ _ (by rfl) ?_) | fail)
      refine aw_ret (fin_ret ?_); simp -implicitDefEqProofs [FinP, resV, resT, d33, l1] <;> try rfl
    · have l1' : ¬ (l.length : Int) = 3 := by omega
      refine row_of Try.func88 rfl rfl (Nat.le_of_ble_eq_true rfl) ?_
      repeat (first | refine aw_seq ?_ | refine aw_skip ?_ | refine aw_block ?_ | refine aw_exit ?_ | refine aw_cond rfl (fun _ => ?_) (fun hb => absurd hb (by decide)) | refine aw_cond rfl (fun hb => absurd hb (by decide)) (fun _ => ?_) | (refine aw_reg (fun K hK => ?_); simp -implicitDefEqProofs [d33, l1, l1']; refine hK _ ?_) | (refine aw_drw mixd (fun K hK => ?_); simp -implicitDefEqProofs [d33, l1, l1']; refine hK _ _ (by rfl) ?_) | fail)
      refine aw_ret (fin_ret ?_); simp -implicitDefEqProofs [FinP, resV, resT, d33, l1] <;> try rfl
  rw [if_neg k16]
  have hno : ∀ y ∈ l, partB y = false → l.all partB = false := fun y hy h => by rw [List.all_eq_false]; exact ⟨y, hy, by rw [h]; simp⟩
  have hyes : (∀ y ∈ l, partB y = true) → l.all partB = true := fun h => List.all_eq_true.2 h
  obtain ⟨A, hA⟩ : ∃ A, l.all partB = A := ⟨_, rfl⟩
  rw [hA] at hyes ⊢
  simp only [hA] at hno
  clear hA
  refine row_of Try.func88 rfl rfl (Nat.le_of_ble_eq_true rfl) ?_
  repeat (first | refine aw_seq ?_ | refine aw_skip ?_ | refine aw_block ?_ | refine aw_exit ?_ | refine aw_cond rfl (fun _ => ?_) (fun hb => absurd hb (by decide)) | refine aw_cond rfl (fun hb => absurd hb (by decide)) (fun _ => ?_) | (refine aw_reg (fun K hK => ?_); simp -implicitDefEqProofs [k8, k9, k16]; refine hK _ ?_) | (refine aw_drw mixd (fun K hK => ?_); simp -implicitDefEqProofs [k8, k9, k16]; refine hK _ _ (by rfl) ?_) | fail)
  refine aw_lp (ι := Nat) (fun k => mkSt [(2, .v (.c (.ptr 0 0))), (51, vLs l), (52, vI (l.length : Nat)), (53, vI (k : Nat))] [some (.box (ta (.mk x l)))]) (fun k => k ≤ l.length ∧ ∀ (j : Nat) y, j < k → l[j]? = some y → partB y = true) (fun k => l.length - k) 0 ⟨Nat.zero_le _, fun j y h => by omega⟩ (cov_intro [0] (by simp -implicitDefEqProofs) (by simp -implicitDefEqProofs) (by decide) rfl (by simp)) (fun Z hI k hk => ?_)
  obtain ⟨hk, hz⟩ := hk
  by_cases hkl : k < l.length; rotate_left
  · have : k = l.length := by omega
    subst this
    have hR := hyes (fun y hy => by
      obtain ⟨j, hj⟩ := List.mem_iff_getElem?.1 hy
      exact hz j y (List.getElem?_eq_some_iff.1 hj).1 hj)
    subst hR
    clear hyes hno
    by_cases d30 : x.k = 30; rotate_left
    · repeat (first | refine aw_seq ?_ | refine aw_skip ?_ | refine aw_block ?_ | refine aw_exit ?_ | refine aw_cond rfl (fun _ => ?_) (fun hb => absurd hb (by decide)) | refine aw_cond rfl (fun hb => absurd hb (by decide)) (fun _ => ?_) | (refine aw_reg (fun K hK => ?_); simp -implicitDefEqProofs [d30]; refine hK _ ?_) | (refine aw_drw mixd (fun K hK => ?_); simp -implicitDefEqProofs [d30]; refine hK _ _ (by rfl) ?_) | fail)
      refine aw_ret (fin_ret ?_); simp -implicitDefEqProofs [FinP, resV, resT, d30] <;> try rfl
    by_cases l0 : 0 < l.length
    · have l0' : (0 : Int) < (l.length : Int) := by omega
      repeat (first | refine aw_seq ?_ | refine aw_skip ?_ | refine aw_block ?_ | refine aw_exit ?_ | refine aw_cond rfl (fun _ => ?_) (fun hb => absurd hb (by decide)) | refine aw_cond rfl (fun hb => absurd hb (by decide)) (fun _ => ?_) | (refine aw_reg (fun K hK => ?_); simp -implicitDefEqProofs [d30, l0, l0']; refine hK _ ?_) | (refine aw_drw mixd (fun K hK => ?_); simp -implicitDefEqProofs [d30, l0, l0']; refine hK _ _ (by rfl) ?_) | fail)
      refine aw_ret (fin_ret ?_); simp -implicitDefEqProofs [FinP, resV, resT, d30, l0] <;> try rfl
    · have l0' : ¬ (0 : Int) < (l.length : Int) := by omega
      repeat (first | refine aw_seq ?_ | refine aw_skip ?_ | refine aw_block ?_ | refine aw_exit ?_ | refine aw_cond rfl (fun _ => ?_) (fun hb => absurd hb (by decide)) | refine aw_cond rfl (fun hb => absurd hb (by decide)) (fun _ => ?_) | (refine aw_reg (fun K hK => ?_); simp -implicitDefEqProofs [d30, l0, l0']; refine hK _ ?_) | (refine aw_drw mixd (fun K hK => ?_); simp -implicitDefEqProofs [d30, l0, l0']; refine hK _ _ (by rfl) ?_) | fail)
      refine aw_ret (fin_ret ?_); simp -implicitDefEqProofs [FinP, resV, resT, d30, l0] <;> try rfl
  obtain ⟨⟨ax, al⟩, ha⟩ : ∃ a, l[k]? = some a := ⟨_, List.getElem?_eq_getElem hkl⟩
  have ha' := (List.getElem?_eq_some_iff.1 ha).2
  have hmem := List.mem_of_getElem? ha
  have w2 : IntKind.i64.wrap ((k : Nat) + 1 : Int) = (k : Nat) + 1 := i64i _ (by omega) (by omega)
  by_cases h34 : ax.k = 34; rotate_left
  · have hR := hno _ hmem (by simp [partB, Tr.lab, h34])
    subst hR
    clear hyes hno
    repeat (first | refine aw_seq ?_ | refine aw_skip ?_ | refine aw_block ?_ | refine aw_exit ?_ | refine aw_cond rfl (fun _ => ?_) (fun hb => absurd hb (by decide)) | refine aw_cond rfl (fun hb => absurd hb (by decide)) (fun _ => ?_) | (refine aw_reg (fun K hK => ?_); simp -implicitDefEqProofs [hkl, ha, ha', h34]; refine hK _ ?_) | (refine aw_drw mixd (fun K hK => ?_); simp -implicitDefEqProofs [hkl, ha, ha', h34]; refine hK _ _ (by rfl) ?_) | fail)
    refine aw_ret (fin_ret ?_); simp -implicitDefEqProofs [FinP, resV, resT] <;> try rfl
  by_cases a1 : al.length = 1; rotate_left
  · have a1' : ¬ (al.length : Int) = 1 := by omega
    have hR := hno _ hmem (by simp [partB, Tr.kids, a1])
    subst hR
    clear hyes hno
    repeat (first | refine aw_seq ?_ | refine aw_skip ?_ | refine aw_block ?_ | refine aw_exit ?_ | refine aw_cond rfl (fun _ => ?_) (fun hb => absurd hb (by decide)) | refine aw_cond rfl (fun hb => absurd hb (by decide)) (fun _ => ?_) | (refine aw_reg (fun K hK => ?_); simp -implicitDefEqProofs [hkl, ha, ha', h34, a1, a1']; refine hK _ ?_) | (refine aw_drw mixd (fun K hK => ?_); simp -implicitDefEqProofs [hkl, ha, ha', h34, a1, a1']; refine hK _ _ (by rfl) ?_) | fail)
    refine aw_ret (fin_ret ?_); simp -implicitDefEqProofs [FinP, resV, resT] <;> try rfl
  have a1' : (al.length : Int) = 1 := by omega
  clear hyes hno
  repeat (first | refine aw_seq ?_ | refine aw_skip ?_ | refine aw_block ?_ | refine aw_exit ?_ | refine aw_cond rfl (fun _ => ?_) (fun hb => absurd hb (by decide)) | refine aw_cond rfl (fun hb => absurd hb (by decide)) (fun _ => ?_) | (refine aw_reg (fun K hK => ?_); simp -implicitDefEqProofs [hkl, ha, ha', h34, a1, a1', w2]; refine hK _ ?_) | (refine aw_drw mixd (fun K hK => ?_); simp -implicitDefEqProofs [hkl, ha, ha', h34, a1, a1', w2]; refine hK _ _ (by rfl) ?_) | fail)
  refine ⟨k + 1, ⟨by omega, fun j y h1 h2 => ?_⟩, (by dsimp only; omega), ?_⟩
  · by_cases hj : j = k
    · subst hj; rw [ha] at h2; cases h2; simp [partB, Tr.lab, Tr.kids, h34, a1]
    · exact hz j y (by omega) h2
  · rw [hI]; exact cov_intro [0] (by simp -implicitDefEqProofs) (by simp -implicitDefEqProofs) (by decide) rfl (by simp)
noncomputable abbrev bxW (m : VT) (L : List VT) (a e : Int) : AO := .box (ta m ++ [.pv (.sl 6 (L.map tc)), .pv (I a), .pv (I e)])
noncomputable def knwB (m : VT) (n : Nat) (x : Lab) : Bool :=
  if x.k = 7 then decide (0 ≤ x.n) && decide (x.n < n)
  else if x.k = 8 ∨ x.k = 9 ∨ x.k = 15 ∨ x.k = 16 then (if 0 ≤ x.n ∧ x.n < m.kids.length then dclB (m.kids.getD x.n.toNat z0T) x.k else false)
  else true
set_option maxRecDepth 100000 in
set_option maxHeartbeats 4000000 in
theorem known_row (m : VT) (hms : m.size ≤ 1000000) (L : List VT) (hLl : L.length ≤ 1000000) (a e : Int) (x : Lab) (l : List VT) (hx : x.ok) : Row Try.prog 68 [.v (.c (.ptr 0 0)), vT (.mk x l)] [bxW m L a e] (vB (knwB m L.length x)) [some (bxW m L a e)] := by
  unfold knwB
  have hmk : m.kids.length < m.size := by obtain ⟨mx, ml⟩ := m; exact Tr.len_size (x := mx) (l := ml)
  have wL : IntKind.i64.wrap ((L.length : Nat) : Int) = (L.length : Nat) := i64i _ (by omega) (by omega)
  by_cases c7 : x.k = 7
  · rw [if_pos c7]
    obtain ⟨mx, ml⟩ := m
    by_cases n0 : 0 ≤ x.n; rotate_left
    · refine row_of Try.func68 rfl rfl (Nat.le_of_ble_eq_true rfl) ?_
      repeat (first | refine aw_seq ?_ | refine aw_skip ?_ | refine aw_block ?_ | refine aw_exit ?_ | refine aw_cond rfl (fun _ => ?_) (fun hb => absurd hb (by decide)) | refine aw_cond rfl (fun hb => absurd hb (by decide)) (fun _ => ?_) | (refine aw_reg (fun K hK => ?_); simp -implicitDefEqProofs [c7, n0]; refine hK _ ?_) | (refine aw_drw mixd (fun K hK => ?_); simp -implicitDefEqProofs [c7, n0]; refine hK _ _ (by rfl) ?_) | fail)
      refine aw_ret (fin_box ?_); simp -implicitDefEqProofs [FinB, resV, resT, n0] <;> try rfl
    by_cases n1 : x.n < L.length
    · refine row_of Try.func68 rfl rfl (Nat.le_of_ble_eq_true rfl) ?_
      repeat (first | refine aw_seq ?_ | refine aw_skip ?_ | refine aw_block ?_ | refine aw_exit ?_ | refine aw_cond rfl (fun _ => ?_) (fun hb => absurd hb (by decide)) | refine aw_cond rfl (fun hb => absurd hb (by decide)) (fun _ => ?_) | (refine aw_reg (fun K hK => ?_); simp -implicitDefEqProofs [c7, n0, wL, n1]; refine hK _ ?_) | (refine aw_drw mixd (fun K hK => ?_); simp -implicitDefEqProofs [c7, n0, wL, n1]; refine hK _ _ (by rfl) ?_) | fail)
      refine aw_ret (fin_box ?_); simp -implicitDefEqProofs [FinB, resV, resT, n0, n1] <;> try rfl
    · refine row_of Try.func68 rfl rfl (Nat.le_of_ble_eq_true rfl) ?_
      repeat (first | refine aw_seq ?_ | refine aw_skip ?_ | refine aw_block ?_ | refine aw_exit ?_ | refine aw_cond rfl (fun _ => ?_) (fun hb => absurd hb (by decide)) | refine aw_cond rfl (fun hb => absurd hb (by decide)) (fun _ => ?_) | (refine aw_reg (fun K hK => ?_); simp -implicitDefEqProofs [c7, n0, wL, n1]; refine hK _ ?_) | (refine aw_drw mixd (fun K hK => ?_); simp -implicitDefEqProofs [c7, n0, wL, n1]; refine hK _ _ (by rfl) ?_) | fail)
      refine aw_ret (fin_box ?_); simp -implicitDefEqProofs [FinB, resV, resT, n0, n1] <;> try rfl
  rw [if_neg c7]
  by_cases cg : x.k = 8 ∨ x.k = 9 ∨ x.k = 15 ∨ x.k = 16; rotate_left
  · rw [if_neg cg]
    have c8 : ¬ x.k = 8 := fun h => cg (.inl h)
    have c9 : ¬ x.k = 9 := fun h => cg (.inr (.inl h))
    have c15 : ¬ x.k = 15 := fun h => cg (.inr (.inr (.inl h)))
    have c16 : ¬ x.k = 16 := fun h => cg (.inr (.inr (.inr h)))
    obtain ⟨mx, ml⟩ := m
    refine row_of Try.func68 rfl rfl (Nat.le_of_ble_eq_true rfl) ?_
    repeat (first | refine aw_seq ?_ | refine aw_skip ?_ | refine aw_block ?_ | refine aw_exit ?_ | refine aw_cond rfl (fun _ => ?_) (fun hb => absurd hb (by decide)) | refine aw_cond rfl (fun hb => absurd hb (by decide)) (fun _ => ?_) | (refine aw_reg (fun K hK => ?_); simp -implicitDefEqProofs [c7, c8, c9, c15, c16]; refine hK _ ?_) | (refine aw_drw mixd (fun K hK => ?_); simp -implicitDefEqProofs [c7, c8, c9, c15, c16]; refine hK _ _ (by rfl) ?_) | fail)
    refine aw_ret (fin_box ?_); simp -implicitDefEqProofs [FinB, resV, resT] <;> try rfl
  rw [if_pos cg]
  obtain ⟨kk, hkk⟩ : ∃ kk, x.k = kk := ⟨_, rfl⟩
  have hdc := fun (dx : Lab) (dl : List VT) (h : dl.length ≤ 1000000) => declares_row dx dl h kk
  rw [hkk] at cg c7 ⊢
  by_cases n0 : 0 ≤ x.n; rotate_left
  · rw [if_neg (fun h => n0 h.1)]
    clear hdc
    obtain ⟨mx, ml⟩ := m
    rcases cg with c | c | c | c
    all_goals (
      subst c
      refine row_of Try.func68 rfl rfl (Nat.le_of_ble_eq_true rfl) ?_
      repeat (first | refine aw_seq ?_ | refine aw_skip ?_ | refine aw_block ?_ | refine aw_exit ?_ | refine aw_cond rfl (fun _ => ?_) (fun hb => absurd hb (by decide)) | refine aw_cond rfl (fun hb => absurd hb (by decide)) (fun _ => ?_) | (refine aw_reg (fun K hK => ?_); simp -implicitDefEqProofs [hkk, n0]; refine hK _ ?_) | (refine aw_drw mixd (fun K hK => ?_); simp -implicitDefEqProofs [hkk, n0]; refine hK _ _ (by rfl) ?_) | fail)
      refine aw_ret (fin_box ?_); simp -implicitDefEqProofs [FinB, resV, resT] <;> try rfl)
  obtain ⟨n, hn⟩ : ∃ n : Nat, x.n = n := ⟨x.n.toNat, by omega⟩
  have wm : IntKind.i64.wrap ((m.kids.length : Nat) : Int) = (m.kids.length : Nat) := i64i _ (by omega) (by omega)
  rw [hn] at n0 ⊢
  rw [Int.toNat_natCast]
  have wn : IntKind.i64.wrap ((n : Nat) : Int) = (n : Nat) := i64i _ (by have := hx.2.1; omega) (by have := hx.2.1; omega)
  by_cases hnl : n < m.kids.length; rotate_left
  · have hnl' : ¬ ((n : Nat) : Int) < (m.kids.length : Nat) := by omega
    rw [if_neg (fun h => hnl' h.2)]
    clear hdc
    obtain ⟨mx, ml⟩ := m
    simp only [Tr.kids] at hnl hnl' wm
    rcases cg with c | c | c | c
    all_goals (
      subst c
      refine row_of Try.func68 rfl rfl (Nat.le_of_ble_eq_true rfl) ?_
      repeat (first | refine aw_seq ?_ | refine aw_skip ?_ | refine aw_block ?_ | refine aw_exit ?_ | refine aw_cond rfl (fun _ => ?_) (fun hb => absurd hb (by decide)) | refine aw_cond rfl (fun hb => absurd hb (by decide)) (fun _ => ?_) | (refine aw_reg (fun K hK => ?_); simp -implicitDefEqProofs [hkk, hn, n0, wm, wn, hnl, hnl']; refine hK _ ?_) | (refine aw_drw mixd (fun K hK => ?_); simp -implicitDefEqProofs [hkk, hn, n0, wm, wn, hnl, hnl']; refine hK _ _ (by rfl) ?_) | fail)
      refine aw_ret (fin_box ?_); simp -implicitDefEqProofs [FinB, resV, resT] <;> try rfl)
  have hnl' : ((n : Nat) : Int) < (m.kids.length : Nat) := by omega
  rw [if_pos ⟨n0, hnl'⟩]
  obtain ⟨⟨dx, dl⟩, hd⟩ : ∃ d, m.kids[n]? = some d := ⟨_, List.getElem?_eq_getElem hnl⟩
  have hd' := (List.getElem?_eq_some_iff.1 hd).2
  have hds := kid_size (List.mem_of_getElem? hd)
  have hdl := Tr.len_size (x := dx) (l := dl)
  replace hdc := hdc dx dl (by omega)
  rw [show m.kids.getD n z0T = .mk dx dl by simp [List.getD, hd]]
  obtain ⟨q, hq⟩ : ∃ q, dclB (.mk dx dl) kk = q := ⟨_, rfl⟩
  rw [hq] at hdc ⊢
  clear hq
  obtain ⟨mx, ml⟩ := m
  simp only [Tr.kids] at hnl hnl' wm hd hd'
  rcases cg with c | c | c | c
  all_goals (
    subst c
    refine row_of Try.func68 rfl rfl (Nat.le_of_ble_eq_true rfl) ?_
    repeat' (first | refine aw_seq ?_ | refine aw_skip ?_ | refine aw_block ?_ | refine aw_exit ?_ | refine aw_cond rfl (fun _ => ?_) (fun hb => absurd hb (by decide)) | refine aw_cond rfl (fun hb => absurd hb (by decide)) (fun _ => ?_) | (refine aw_reg (fun K hK => ?_); simp -implicitDefEqProofs [hkk, hn, n0, wm, wn, hnl, hnl', hd, hd']) | (refine aw_drw mixd (fun K hK => ?_); simp -implicitDefEqProofs [hkk, hn, n0, wm, wn, hnl, hnl', hd, hd']) | refine hK _ ?_ | refine hK _ _ (by rfl) ?_ | (refine ar_call (cp hdc ?_); simp -implicitDefEqProofs [hkk, hn, n0, wm, wn, hnl, hnl', hd, hd']) | (refine ard_call (dp hdc ?_); simp -implicitDefEqProofs [hkk, hn, n0, wm, wn, hnl, hnl', hd, hd']) | fail)
    refine aw_ret (fin_box ?_); simp -implicitDefEqProofs [FinB, resV, resT] <;> try rfl)
noncomputable abbrev vTy (a b : VT) : AV := .v (.agg (ta a ++ ta b))
set_option maxRecDepth 100000 in
set_option maxHeartbeats 4000000 in
theorem fail_row (m : VT) (L : List VT) (a e : Int) (x : Lab) (l : List VT) (e' : Int) : Row Try.prog 67 [.v (.c (.ptr 0 0)), vT (.mk x l), vI e'] [bxW m L a e] (vTy z0T z0T) [some (bxW m L (if e = 0 then x.f else a) (if e = 0 then e' else e))] := by
  obtain ⟨mx, ml⟩ := m
  by_cases h : e = 0
  · subst h
    refine row_of Try.func67 rfl rfl (Nat.le_of_ble_eq_true rfl) ?_
    repeat (first | refine aw_seq ?_ | refine aw_skip ?_ | refine aw_block ?_ | refine aw_exit ?_ | refine aw_cond rfl (fun _ => ?_) (fun hb => absurd hb (by decide)) | refine aw_cond rfl (fun hb => absurd hb (by decide)) (fun _ => ?_) | (refine aw_reg (fun K hK => ?_); simp -implicitDefEqProofs; refine hK _ ?_) | (refine aw_drw mixd (fun K hK => ?_); simp -implicitDefEqProofs; refine hK _ _ (by rfl) ?_) | fail)
    refine aw_ret (fin_box ?_); simp -implicitDefEqProofs [FinB, resV, resT] <;> try rfl
  · refine row_of Try.func67 rfl rfl (Nat.le_of_ble_eq_true rfl) ?_
    repeat (first | refine aw_seq ?_ | refine aw_skip ?_ | refine aw_block ?_ | refine aw_exit ?_ | refine aw_cond rfl (fun _ => ?_) (fun hb => absurd hb (by decide)) | refine aw_cond rfl (fun hb => absurd hb (by decide)) (fun _ => ?_) | (refine aw_reg (fun K hK => ?_); simp -implicitDefEqProofs [h]; refine hK _ ?_) | (refine aw_drw mixd (fun K hK => ?_); simp -implicitDefEqProofs [h]; refine hK _ _ (by rfl) ?_) | fail)
    refine aw_ret (fin_box ?_); simp -implicitDefEqProofs [FinB, resV, resT, h] <;> try rfl
noncomputable abbrev bxK (K : List VT) : AO := .box [.pv (.sl 6 (K.map tc))]
abbrev fnK (i : Nat) : AV := .v (.c (.fn (.func 69) [] [.ptr i 0]))
set_option maxRecDepth 100000 in
set_option maxHeartbeats 4000000 in
theorem kpart_row (K : List VT) (i : Nat) (ax : Lab) (al : List VT) (ha : K[i]? = some (.mk ax al)) : Row Try.prog 69 [vI (i : Nat), .v (.c (.ptr 0 0))] [bxK K] (vT (.mk ax al)) [some (bxK K)] := by
  have hi := (List.getElem?_eq_some_iff.1 ha).1
  have ha' := (List.getElem?_eq_some_iff.1 ha).2
  refine row_of Try.func69 rfl rfl (Nat.le_of_ble_eq_true rfl) ?_
  repeat (first | refine aw_seq ?_ | refine aw_skip ?_ | refine aw_block ?_ | refine aw_exit ?_ | refine aw_cond rfl (fun _ => ?_) (fun hb => absurd hb (by decide)) | refine aw_cond rfl (fun hb => absurd hb (by decide)) (fun _ => ?_) | (refine aw_reg (fun K hK => ?_); simp -implicitDefEqProofs [hi, ha, ha']; refine hK _ ?_) | (refine aw_drw mixd (fun K hK => ?_); simp -implicitDefEqProofs [hi, ha, ha']; refine hK _ _ (by rfl) ?_) | fail)
  refine aw_ret (fin_box ?_); simp -implicitDefEqProofs [FinB, resV, resT] <;> try rfl
def numP (p : List VT) (r : Nat) (s : ByteArray) : Int := match (p.take 64).findIdx? (fun q => decide (q.lab.s = s)) with
  | some i => (r : Int) * 64 + i
  | none => -1
noncomputable def numM (m : VT) (r : Int) (s : ByteArray) : Int := if 0 ≤ r then (match m.kids[r.toNat]? with | some d => numP d.kids r.toNat s | none => -1) else -1
set_option maxRecDepth 100000 in
set_option maxHeartbeats 4000000 in
theorem number_row (m : VT) (hms : m.size ≤ 1000000) (L : List VT) (a e : Int) (r : Int) (hr : r ≤ 9223372036854775807) (s : ByteArray) : Row Try.prog 112 [.v (.c (.ptr 0 0)), vI r, vS s] [bxW m L a e] (vI (numM m r s)) [some (bxW m L a e)] := by
  have hmk : m.kids.length < m.size := by obtain ⟨mx, ml⟩ := m; exact Tr.len_size (x := mx) (l := ml)
  by_cases r0 : r < 0
  · rw [show numM m r s = -1 by unfold numM; exact if_neg (by omega)]
    obtain ⟨mx, ml⟩ := m
    refine row_of Try.func112 rfl rfl (Nat.le_of_ble_eq_true rfl) ?_
    repeat (first | refine aw_seq ?_ | refine aw_skip ?_ | refine aw_block ?_ | refine aw_exit ?_ | refine aw_cond rfl (fun _ => ?_) (fun hb => absurd hb (by decide)) | refine aw_cond rfl (fun hb => absurd hb (by decide)) (fun _ => ?_) | (refine aw_reg (fun K hK => ?_); simp -implicitDefEqProofs [r0]; refine hK _ ?_) | (refine aw_drw mixd (fun K hK => ?_); simp -implicitDefEqProofs [r0]; refine hK _ _ (by rfl) ?_) | fail)
    refine aw_ret (fin_box ?_); simp -implicitDefEqProofs [FinB, resV, resT] <;> try rfl
  obtain ⟨n, rfl⟩ : ∃ n : Nat, r = n := ⟨r.toNat, by omega⟩
  have wm : IntKind.i64.wrap ((m.kids.length : Nat) : Int) = (m.kids.length : Nat) := i64i _ (by omega) (by omega)
  have wn : IntKind.i64.wrap ((n : Nat) : Int) = (n : Nat) := i64i _ (by omega) (by omega)
  have hnm : numM m (n : Nat) s = (match m.kids[n]? with | some d => numP d.kids n s | none => -1) := by unfold numM; rw [if_pos (by omega), Int.toNat_natCast]
  by_cases hnl : n < m.kids.length; rotate_left
  · have h1 : (m.kids.length : Int) ≤ (n : Nat) := by omega
    have h2 : m.kids.length ≤ n := by omega
    rw [hnm, List.getElem?_eq_none h2]
    obtain ⟨mx, ml⟩ := m
    simp only [Tr.kids] at hnl h1 h2 wm
    refine row_of Try.func112 rfl rfl (Nat.le_of_ble_eq_true rfl) ?_
    repeat (first | refine aw_seq ?_ | refine aw_skip ?_ | refine aw_block ?_ | refine aw_exit ?_ | refine aw_cond rfl (fun _ => ?_) (fun hb => absurd hb (by decide)) | refine aw_cond rfl (fun hb => absurd hb (by decide)) (fun _ => ?_) | (refine aw_reg (fun K hK => ?_); simp -implicitDefEqProofs [r0, wm, wn, hnl, h1, h2]; refine hK _ ?_) | (refine aw_drw mixd (fun K hK => ?_); simp -implicitDefEqProofs [r0, wm, wn, hnl, h1, h2]; refine hK _ _ (by rfl) ?_) | fail)
    refine aw_ret (fin_box ?_); simp -implicitDefEqProofs [FinB, resV, resT] <;> try rfl
  have h1 : ¬ (m.kids.length : Int) ≤ (n : Nat) := by omega
  have h2 : ¬ m.kids.length ≤ n := by omega
  obtain ⟨⟨dx, p⟩, hd⟩ : ∃ d, m.kids[n]? = some d := ⟨_, List.getElem?_eq_getElem hnl⟩
  have hd' := (List.getElem?_eq_some_iff.1 hd).2
  have hds := kid_size (List.mem_of_getElem? hd)
  have hpl := Tr.len_size (x := dx) (l := p)
  have hnm2 : numM m (n : Nat) s = numP p n s := by rw [hnm, hd]; rfl
  rw [hnm2]
  clear hnm hnm2
  unfold numP
  have hat := fun k q hq hk hno he => fidx_at (p := p) (s := s) (k := k) (q := q) hq hk hno he
  have hnone := fidx_no (p := p) (s := s)
  obtain ⟨F, hF⟩ : ∃ F, (p.take 64).findIdx? (fun q => decide (q.lab.s = s)) = F := ⟨_, rfl⟩
  rw [hF] at hnone ⊢
  simp only [hF] at hat
  clear hF
  have w3 : IntKind.i64.wrap ((n : Nat) * 64 : Int) = (n : Nat) * 64 := i64i _ (by omega) (by omega)
  obtain ⟨mx, ml⟩ := m
  simp only [Tr.kids] at hnl h1 h2 wm hd hd' hmk
  refine row_of Try.func112 rfl rfl (Nat.le_of_ble_eq_true rfl) ?_
  repeat (first | refine aw_seq ?_ | refine aw_skip ?_ | refine aw_block ?_ | refine aw_exit ?_ | refine aw_cond rfl (fun _ => ?_) (fun hb => absurd hb (by decide)) | refine aw_cond rfl (fun hb => absurd hb (by decide)) (fun _ => ?_) | (refine aw_reg (fun K hK => ?_); simp -implicitDefEqProofs [r0, wm, wn, hnl, h1, h2, hd, hd']; refine hK _ ?_) | (refine aw_drw mixd (fun K hK => ?_); simp -implicitDefEqProofs [r0, wm, wn, hnl, h1, h2, hd, hd']; refine hK _ _ (by rfl) ?_) | fail)
  refine aw_lp (ι := Nat) (fun k => mkSt [(0, .v (.c (.ptr 0 0))), (1, vI (n : Nat)), (2, vS s), (29, vLs p), (30, vI (p.length : Nat)), (31, vI (k : Nat))] [some (bxW (.mk mx ml) L a e)]) (fun k => k ≤ p.length ∧ ∀ i q', i < 64 → i < k → p[i]? = some q' → q'.lab.s ≠ s) (fun k => p.length - k) 0 ⟨Nat.zero_le _, fun i q' _ h => by omega⟩ (cov_intro [0] (by simp -implicitDefEqProofs) (by simp -implicitDefEqProofs) (by decide) rfl (by simp)) (fun Z hI k hk => ?_)
  obtain ⟨hk, hz⟩ := hk
  by_cases hkl : k < p.length; rotate_left
  · have : k = p.length := by omega
    subst this
    have hF := hnone (fun i q' hi hq => hz i q' hi (List.getElem?_eq_some_iff.1 hq).1 hq)
    subst hF
    clear hat hnone
    repeat (first | refine aw_seq ?_ | refine aw_skip ?_ | refine aw_block ?_ | refine aw_exit ?_ | refine aw_cond rfl (fun _ => ?_) (fun hb => absurd hb (by decide)) | refine aw_cond rfl (fun hb => absurd hb (by decide)) (fun _ => ?_) | (refine aw_reg (fun K hK => ?_); simp -implicitDefEqProofs; refine hK _ ?_) | (refine aw_drw mixd (fun K hK => ?_); simp -implicitDefEqProofs; refine hK _ _ (by rfl) ?_) | fail)
    refine aw_ret (fin_box ?_); simp -implicitDefEqProofs [FinB, resV, resT] <;> try rfl
  obtain ⟨⟨qx, ql⟩, hq⟩ : ∃ q, p[k]? = some q := ⟨_, List.getElem?_eq_getElem hkl⟩
  have hq' := (List.getElem?_eq_some_iff.1 hq).2
  have w2 : IntKind.i64.wrap ((k : Nat) + 1 : Int) = (k : Nat) + 1 := i64i _ (by omega) (by omega)
  have w4 : IntKind.i64.wrap ((k : Nat) : Int) = (k : Nat) := i64i _ (by omega) (by omega)
  have w5 : IntKind.i64.wrap ((n : Nat) * 64 + (k : Nat) : Int) = (n : Nat) * 64 + (k : Nat) := i64i _ (by omega) (by omega)
  by_cases he : qx.s = s; rotate_left
  · clear hat hnone
    repeat (first | refine aw_seq ?_ | refine aw_skip ?_ | refine aw_block ?_ | refine aw_exit ?_ | refine aw_cond rfl (fun _ => ?_) (fun hb => absurd hb (by decide)) | refine aw_cond rfl (fun hb => absurd hb (by decide)) (fun _ => ?_) | (refine aw_reg (fun K hK => ?_); simp -implicitDefEqProofs [hkl, hq, hq', he, w2]; refine hK _ ?_) | (refine aw_drw mixd (fun K hK => ?_); simp -implicitDefEqProofs [hkl, hq, hq', he, w2]; refine hK _ _ (by rfl) ?_) | fail)
    refine ⟨k + 1, ⟨by omega, fun i q' h64 hi hq2 => ?_⟩, (by dsimp only; omega), ?_⟩
    · by_cases hik : i = k
      · subst hik; rw [hq] at hq2; cases hq2; exact he
      · exact hz i q' h64 (by omega) hq2
    · rw [hI]; exact cov_intro [0] (by simp -implicitDefEqProofs) (by simp -implicitDefEqProofs) (by decide) rfl (by simp)
  by_cases hk64 : k < 64
  · have hk64' : ((k : Nat) : Int) < 64 := by omega
    have hF := hat k _ hq hk64 (fun i q' hi hq2 => hz i q' (by omega) hi hq2) he
    subst hF
    clear hat hnone
    repeat (first | refine aw_seq ?_ | refine aw_skip ?_ | refine aw_block ?_ | refine aw_exit ?_ | refine aw_cond rfl (fun _ => ?_) (fun hb => absurd hb (by decide)) | refine aw_cond rfl (fun hb => absurd hb (by decide)) (fun _ => ?_) | (refine aw_reg (fun K hK => ?_); simp -implicitDefEqProofs [hkl, hk64, hk64', hq, hq', he, w3, w4, w5]; refine hK _ ?_) | (refine aw_drw mixd (fun K hK => ?_); simp -implicitDefEqProofs [hkl, hk64, hk64', hq, hq', he, w3, w4, w5]; refine hK _ _ (by rfl) ?_) | fail)
    refine aw_ret (fin_box ?_); simp -implicitDefEqProofs [FinB, resV, resT] <;> try rfl
  · have hk64' : ¬ ((k : Nat) : Int) < 64 := by omega
    clear hat hnone
    repeat (first | refine aw_seq ?_ | refine aw_skip ?_ | refine aw_block ?_ | refine aw_exit ?_ | refine aw_cond rfl (fun _ => ?_) (fun hb => absurd hb (by decide)) | refine aw_cond rfl (fun hb => absurd hb (by decide)) (fun _ => ?_) | (refine aw_reg (fun K hK => ?_); simp -implicitDefEqProofs [hkl, hk64, hk64', hq, hq', he, w2]; refine hK _ ?_) | (refine aw_drw mixd (fun K hK => ?_); simp -implicitDefEqProofs [hkl, hk64, hk64', hq, hq', he, w2]; refine hK _ _ (by rfl) ?_) | fail)
    refine ⟨k + 1, ⟨by omega, fun i q' h64 hi hq2 => hz i q' h64 (by omega) hq2⟩, (by dsimp only; omega), ?_⟩
    rw [hI]; exact cov_intro [0] (by simp -implicitDefEqProofs [he]) (by simp -implicitDefEqProofs [he]) (by decide) rfl (by simp)
end Go.Proofs.Ytjjnboenehomgaa.am
end
