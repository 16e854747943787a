/-
  Layer 8: what the statements say (StmtReads, StmtBlocks).
-/
import Derived.Test.YthcnligihpnfiaaStmPar
import Derived.Test.YthcnligihpnfiaaStmRef2
import Derived.Test.YthcnligihpnfiaaRowRPlac
namespace Go.Proofs.Ythcnligihpnfiaa.am
open Go.ChangeShapes Go.WideShapes Go.ChangeAt Go.RowKit
open vt
set_option linter.unusedVariables false
set_option linter.unusedSimpArgs false
abbrev ts8 : List Tok := [⟨4, 0, sBra, 0, 0⟩, ⟨4, 0, sKet, 0, 2⟩]
theorem bx_ts8 : Bx8 ts8 0 = (.mk ⟨29, 0, ⟨#[]⟩, 0, 2⟩ [], 2, 0) := by
  unfold Bx8 blG
  rw [if_pos (by decide), lpB, if_pos (by decide)]
  rfl
set_option maxRecDepth 100000 in
set_option maxHeartbeats 4000000 in
theorem awake08_row : Row Try.prog 11 [] [] (vB true) [] := by
  have h := sblock_yes ts8 (by decide) 0 (by decide)
  rw [bx_ts8] at h
  refine row_of Try.func11 rfl rfl (Nat.le_of_ble_eq_true rfl) ?_
  repeat' (first | refine aw_seq ?_ | refine aw_skip ?_ | refine aw_block ?_ | refine aw_exit ?_ | refine aw_cond rfl (fun _ => ?_) (fun hb => absurd hb (by decide)) | refine aw_cond rfl (fun hb => absurd hb (by decide)) (fun _ => ?_) | (refine aw_reg (fun K hK => ?_); simp -implicitDefEqProofs) | (refine aw_drw mixd (fun K hK => ?_); simp -implicitDefEqProofs) | refine hK _ ?_ | refine hK _ _ (by rfl) ?_ | (refine ar_call (cp h ?_); simp -implicitDefEqProofs) | (refine ard_call (dp h ?_); simp -implicitDefEqProofs) | fail)
  refine aw_ret (fin_ret ?_); simp -implicitDefEqProofs [FinP, resV, resT] <;> try rfl
set_option maxRecDepth 100000 in
set_option maxHeartbeats 4000000 in
theorem same_no (ts : List Tok) (a : Int) (h : a < 0 ∨ (ts.length : Int) < a) : Row Try.prog 14 [vT z0, vI 0, vI 13, vKs ts, vI a, vG (z0, 0, 0)] [] (vB true) [] := by
  have hz := rplac_row z0 (by simp [z0, Tr.size_mk]) z0 (by simp [z0, Tr.size_mk])
  rw [show plac z0 z0 = true from plac_refl _] at hz
  unfold z0 at hz ⊢
  by_cases h0 : a < 0
  · refine row_of Try.func14 rfl rfl (Nat.le_of_ble_eq_true rfl) ?_
    repeat' (first | refine aw_seq ?_ | refine aw_skip ?_ | refine aw_block ?_ | refine aw_exit ?_ | refine aw_cond rfl (fun _ => ?_) (fun hb => absurd hb (by decide)) | refine aw_cond rfl (fun hb => absurd hb (by decide)) (fun _ => ?_) | (refine aw_reg (fun K hK => ?_); simp -implicitDefEqProofs [h0]) | (refine aw_drw mixd (fun K hK => ?_); simp -implicitDefEqProofs [h0]) | refine hK _ ?_ | refine hK _ _ (by rfl) ?_ | (refine ar_call (cp hz ?_); simp -implicitDefEqProofs [h0]) | (refine ard_call (dp hz ?_); simp -implicitDefEqProofs [h0]) | fail)
    refine aw_ret (fin_ret ?_); simp -implicitDefEqProofs [FinP, resV, resT] <;> try rfl
  · have h1 : (ts.length : Int) < a := by omega
    refine row_of Try.func14 rfl rfl (Nat.le_of_ble_eq_true rfl) ?_
    repeat' (first | refine aw_seq ?_ | refine aw_skip ?_ | refine aw_block ?_ | refine aw_exit ?_ | refine aw_cond rfl (fun _ => ?_) (fun hb => absurd hb (by decide)) | refine aw_cond rfl (fun hb => absurd hb (by decide)) (fun _ => ?_) | (refine aw_reg (fun K hK => ?_); simp -implicitDefEqProofs [h0, h1]) | (refine aw_drw mixd (fun K hK => ?_); simp -implicitDefEqProofs [h0, h1]) | refine hK _ ?_ | refine hK _ _ (by rfl) ?_ | (refine ar_call (cp hz ?_); simp -implicitDefEqProofs [h0, h1]) | (refine ard_call (dp hz ?_); simp -implicitDefEqProofs [h0, h1]) | fail)
    refine aw_ret (fin_ret ?_); simp -implicitDefEqProofs [FinP, resV, resT] <;> try rfl
set_option maxRecDepth 100000 in
set_option maxHeartbeats 4000000 in
theorem same_yes (ts : List Tok) (i : Nat) (h : i ≤ ts.length) (r : Got) (hs : r.1.size ≤ 1000000) : Row Try.prog 14 [vT r.1, vI (r.2.1 : Nat), vI r.2.2, vKs ts, vI i, vG r] [] (vB true) [] := by
  obtain ⟨⟨px, pl⟩, j, e⟩ := r
  have hp := rplac_row (.mk px pl) (by dsimp only at hs; omega) (.mk px pl) (by dsimp only at hs; omega)
  rw [plac_refl] at hp
  have h0 : ¬ (i : Int) < 0 := by omega
  have h1 : ¬ (ts.length : Int) < i := by omega
  have h1' : ¬ ts.length < i := by omega
  clear hs
  refine row_of Try.func14 rfl rfl (Nat.le_of_ble_eq_true rfl) ?_
  repeat' (first | refine aw_seq ?_ | refine aw_skip ?_ | refine aw_block ?_ | refine aw_exit ?_ | refine aw_cond rfl (fun _ => ?_) (fun hb => absurd hb (by decide)) | refine aw_cond rfl (fun hb => absurd hb (by decide)) (fun _ => ?_) | (refine aw_reg (fun K hK => ?_); simp -implicitDefEqProofs [h0, h1, h1']) | (refine aw_drw mixd (fun K hK => ?_); simp -implicitDefEqProofs [h0, h1, h1']) | refine hK _ ?_ | refine hK _ _ (by rfl) ?_ | (refine ar_call (cp hp ?_); simp -implicitDefEqProofs [h0, h1, h1']) | (refine ard_call (dp hp ?_); simp -implicitDefEqProofs [h0, h1, h1']) | fail)
  refine aw_ret (fin_ret ?_); simp -implicitDefEqProofs [FinP, resV, resT] <;> try rfl
set_option maxRecDepth 100000 in
set_option maxHeartbeats 4000000 in
theorem law_sreads_row (ts : List Tok) (a : Int) (hl : ts.length ≤ 3000000000000) : Row Try.prog 4 [vKs ts, vI a] [] (vB true) [] := by
  have haw := awake08_row
  by_cases h3 : 300 < ts.length
  · have h3' : (300 : Int) < ts.length := by omega
    refine row_of Try.func4 rfl rfl (Nat.le_of_ble_eq_true rfl) ?_
    repeat' (first | refine aw_seq ?_ | refine aw_skip ?_ | refine aw_block ?_ | refine aw_exit ?_ | refine aw_cond rfl (fun _ => ?_) (fun hb => absurd hb (by decide)) | refine aw_cond rfl (fun hb => absurd hb (by decide)) (fun _ => ?_) | (refine aw_reg (fun K hK => ?_); simp -implicitDefEqProofs [h3, h3']) | (refine aw_drw mixd (fun K hK => ?_); simp -implicitDefEqProofs [h3, h3']) | refine hK _ ?_ | refine hK _ _ (by rfl) ?_ | (refine ar_call (cp haw ?_); simp -implicitDefEqProofs [h3, h3']) | (refine ard_call (dp haw ?_); simp -implicitDefEqProofs [h3, h3']) | fail)
    refine aw_ret (fin_ret ?_); simp -implicitDefEqProofs [FinP, resV, resT] <;> try rfl
  have h3' : ¬ (300 : Int) < ts.length := by omega
  by_cases h0 : a < 0
  · have h := sparse_no ts a (.inl h0)
    have hz := same_no ts a (.inl h0)
    have h0' : ¬ 0 ≤ a := by omega
    unfold z0 at h hz
    refine row_of Try.func4 rfl rfl (Nat.le_of_ble_eq_true rfl) ?_
    repeat' (first | refine aw_seq ?_ | refine aw_skip ?_ | refine aw_block ?_ | refine aw_exit ?_ | refine aw_cond rfl (fun _ => ?_) (fun hb => absurd hb (by decide)) | refine aw_cond rfl (fun hb => absurd hb (by decide)) (fun _ => ?_) | (refine aw_reg (fun K hK => ?_); simp -implicitDefEqProofs [h0, h0', h3, h3']) | (refine aw_drw mixd (fun K hK => ?_); simp -implicitDefEqProofs [h0, h0', h3, h3']) | refine hK _ ?_ | refine hK _ _ (by rfl) ?_ | (refine ar_call (cp h ?_); simp -implicitDefEqProofs [h0, h0', h3, h3']) | (refine ard_call (dp h ?_); simp -implicitDefEqProofs [h0, h0', h3, h3']) | (refine ar_call (cp hz ?_); simp -implicitDefEqProofs [h0, h0', h3, h3']) | (refine ard_call (dp hz ?_); simp -implicitDefEqProofs [h0, h0', h3, h3']) | (refine ar_call (cp haw ?_); simp -implicitDefEqProofs [h0, h0', h3, h3']) | (refine ard_call (dp haw ?_); simp -implicitDefEqProofs [h0, h0', h3, h3']) | fail)
    refine aw_ret (fin_ret ?_); simp -implicitDefEqProofs [FinP, resV, resT] <;> try rfl
  by_cases h1 : (ts.length : Int) < a
  · have h := sparse_no ts a (.inr h1)
    have hz := same_no ts a (.inr h1)
    have h1' : ¬ a ≤ (ts.length : Int) := by omega
    have h0' : 0 ≤ a := by omega
    unfold z0 at h hz
    refine row_of Try.func4 rfl rfl (Nat.le_of_ble_eq_true rfl) ?_
    repeat' (first | refine aw_seq ?_ | refine aw_skip ?_ | refine aw_block ?_ | refine aw_exit ?_ | refine aw_cond rfl (fun _ => ?_) (fun hb => absurd hb (by decide)) | refine aw_cond rfl (fun hb => absurd hb (by decide)) (fun _ => ?_) | (refine aw_reg (fun K hK => ?_); simp -implicitDefEqProofs [h0, h0', h1, h1', h3, h3']) | (refine aw_drw mixd (fun K hK => ?_); simp -implicitDefEqProofs [h0, h0', h1, h1', h3, h3']) | refine hK _ ?_ | refine hK _ _ (by rfl) ?_ | (refine ar_call (cp h ?_); simp -implicitDefEqProofs [h0, h0', h1, h1', h3, h3']) | (refine ard_call (dp h ?_); simp -implicitDefEqProofs [h0, h0', h1, h1', h3, h3']) | (refine ar_call (cp hz ?_); simp -implicitDefEqProofs [h0, h0', h1, h1', h3, h3']) | (refine ard_call (dp hz ?_); simp -implicitDefEqProofs [h0, h0', h1, h1', h3, h3']) | (refine ar_call (cp haw ?_); simp -implicitDefEqProofs [h0, h0', h1, h1', h3, h3']) | (refine ard_call (dp haw ?_); simp -implicitDefEqProofs [h0, h0', h1, h1', h3, h3']) | fail)
    refine aw_ret (fin_ret ?_); simp -implicitDefEqProofs [FinP, resV, resT] <;> try rfl
  obtain ⟨i, rfl⟩ : ∃ i : Nat, a = i := ⟨a.toNat, by omega⟩
  have hi : i ≤ ts.length := by omega
  have hi' : (i : Int) ≤ ts.length := by omega
  have h0' : (0 : Int) ≤ i := by omega
  have h := sparse_yes ts hl i hi
  have hr2 := rstmt_rows ts (by omega) (ts.length + 1) i (by omega) hi
  rw [show sG ts (ts.length + 1) i = Sx8 ts i from rfl] at hr2
  have hs := same_yes ts i hi (Sx8 ts i) (by have := oks_size (sG_ok (ts := ts) (ts.length + 1) i hi); show (sG ts (ts.length + 1) i).1.size ≤ _; omega)
  obtain ⟨⟨⟨px, pl⟩, j, e⟩, hr⟩ : ∃ r, Sx8 ts i = r := ⟨_, rfl⟩
  rw [hr] at h hr2 hs
  clear hr
  refine row_of Try.func4 rfl rfl (Nat.le_of_ble_eq_true rfl) ?_
  repeat' (first | refine aw_seq ?_ | refine aw_skip ?_ | refine aw_block ?_ | refine aw_exit ?_ | refine aw_cond rfl (fun _ => ?_) (fun hb => absurd hb (by decide)) | refine aw_cond rfl (fun hb => absurd hb (by decide)) (fun _ => ?_) | (refine aw_reg (fun K hK => ?_); simp -implicitDefEqProofs [h0, h0', h1, hi, hi', h3, h3']) | (refine aw_drw mixd (fun K hK => ?_); simp -implicitDefEqProofs [h0, h0', h1, hi, hi', h3, h3']) | refine hK _ ?_ | refine hK _ _ (by rfl) ?_ | (refine ar_call (cp h ?_); simp -implicitDefEqProofs [h0, h0', h1, hi, hi', h3, h3']) | (refine ard_call (dp h ?_); simp -implicitDefEqProofs [h0, h0', h1, hi, hi', h3, h3']) | (refine ar_call (cp hr2 ?_); simp -implicitDefEqProofs [h0, h0', h1, hi, hi', h3, h3']) | (refine ard_call (dp hr2 ?_); simp -implicitDefEqProofs [h0, h0', h1, hi, hi', h3, h3']) | (refine ar_call (cp hs ?_); simp -implicitDefEqProofs [h0, h0', h1, hi, hi', h3, h3']) | (refine ard_call (dp hs ?_); simp -implicitDefEqProofs [h0, h0', h1, hi, hi', h3, h3']) | (refine ar_call (cp haw ?_); simp -implicitDefEqProofs [h0, h0', h1, hi, hi', h3, h3']) | (refine ard_call (dp haw ?_); simp -implicitDefEqProofs [h0, h0', h1, hi, hi', h3, h3']) | fail)
  refine aw_ret (fin_ret ?_); simp -implicitDefEqProofs [FinP, resV, resT] <;> try rfl
set_option maxRecDepth 100000 in
set_option maxHeartbeats 4000000 in
theorem law_sblocks_row (ts : List Tok) (a : Int) (hl : ts.length ≤ 3000000000000) : Row Try.prog 5 [vKs ts, vI a] [] (vB true) [] := by
  have haw := awake08_row
  by_cases h3 : 300 < ts.length
  · have h3' : (300 : Int) < ts.length := by omega
    refine row_of Try.func5 rfl rfl (Nat.le_of_ble_eq_true rfl) ?_
    repeat' (first | refine aw_seq ?_ | refine aw_skip ?_ | refine aw_block ?_ | refine aw_exit ?_ | refine aw_cond rfl (fun _ => ?_) (fun hb => absurd hb (by decide)) | refine aw_cond rfl (fun hb => absurd hb (by decide)) (fun _ => ?_) | (refine aw_reg (fun K hK => ?_); simp -implicitDefEqProofs [h3, h3']) | (refine aw_drw mixd (fun K hK => ?_); simp -implicitDefEqProofs [h3, h3']) | refine hK _ ?_ | refine hK _ _ (by rfl) ?_ | (refine ar_call (cp haw ?_); simp -implicitDefEqProofs [h3, h3']) | (refine ard_call (dp haw ?_); simp -implicitDefEqProofs [h3, h3']) | fail)
    refine aw_ret (fin_ret ?_); simp -implicitDefEqProofs [FinP, resV, resT] <;> try rfl
  have h3' : ¬ (300 : Int) < ts.length := by omega
  by_cases h0 : a < 0
  · have h := sblock_no ts a (.inl h0)
    have hz := same_no ts a (.inl h0)
    have h0' : ¬ 0 ≤ a := by omega
    unfold z0 at h hz
    refine row_of Try.func5 rfl rfl (Nat.le_of_ble_eq_true rfl) ?_
    repeat' (first | refine aw_seq ?_ | refine aw_skip ?_ | refine aw_block ?_ | refine aw_exit ?_ | refine aw_cond rfl (fun _ => ?_) (fun hb => absurd hb (by decide)) | refine aw_cond rfl (fun hb => absurd hb (by decide)) (fun _ => ?_) | (refine aw_reg (fun K hK => ?_); simp -implicitDefEqProofs [h0, h0', h3, h3']) | (refine aw_drw mixd (fun K hK => ?_); simp -implicitDefEqProofs [h0, h0', h3, h3']) | refine hK _ ?_ | refine hK _ _ (by rfl) ?_ | (refine ar_call (cp h ?_); simp -implicitDefEqProofs [h0, h0', h3, h3']) | (refine ard_call (dp h ?_); simp -implicitDefEqProofs [h0, h0', h3, h3']) | (refine ar_call (cp hz ?_); simp -implicitDefEqProofs [h0, h0', h3, h3']) | (refine ard_call (dp hz ?_); simp -implicitDefEqProofs [h0, h0', h3, h3']) | (refine ar_call (cp haw ?_); simp -implicitDefEqProofs [h0, h0', h3, h3']) | (refine ard_call (dp haw ?_); simp -implicitDefEqProofs [h0, h0', h3, h3']) | fail)
    refine aw_ret (fin_ret ?_); simp -implicitDefEqProofs [FinP, resV, resT] <;> try rfl
  by_cases h1 : (ts.length : Int) < a
  · have h := sblock_no ts a (.inr h1)
    have hz := same_no ts a (.inr h1)
    have h1' : ¬ a ≤ (ts.length : Int) := by omega
    have h0' : 0 ≤ a := by omega
    unfold z0 at h hz
    refine row_of Try.func5 rfl rfl (Nat.le_of_ble_eq_true rfl) ?_
    repeat' (first | refine aw_seq ?_ | refine aw_skip ?_ | refine aw_block ?_ | refine aw_exit ?_ | refine aw_cond rfl (fun _ => ?_) (fun hb => absurd hb (by decide)) | refine aw_cond rfl (fun hb => absurd hb (by decide)) (fun _ => ?_) | (refine aw_reg (fun K hK => ?_); simp -implicitDefEqProofs [h0, h0', h1, h1', h3, h3']) | (refine aw_drw mixd (fun K hK => ?_); simp -implicitDefEqProofs [h0, h0', h1, h1', h3, h3']) | refine hK _ ?_ | refine hK _ _ (by rfl) ?_ | (refine ar_call (cp h ?_); simp -implicitDefEqProofs [h0, h0', h1, h1', h3, h3']) | (refine ard_call (dp h ?_); simp -implicitDefEqProofs [h0, h0', h1, h1', h3, h3']) | (refine ar_call (cp hz ?_); simp -implicitDefEqProofs [h0, h0', h1, h1', h3, h3']) | (refine ard_call (dp hz ?_); simp -implicitDefEqProofs [h0, h0', h1, h1', h3, h3']) | (refine ar_call (cp haw ?_); simp -implicitDefEqProofs [h0, h0', h1, h1', h3, h3']) | (refine ard_call (dp haw ?_); simp -implicitDefEqProofs [h0, h0', h1, h1', h3, h3']) | fail)
    refine aw_ret (fin_ret ?_); simp -implicitDefEqProofs [FinP, resV, resT] <;> try rfl
  obtain ⟨i, rfl⟩ : ∃ i : Nat, a = i := ⟨a.toNat, by omega⟩
  have hi : i ≤ ts.length := by omega
  have hi' : (i : Int) ≤ ts.length := by omega
  have h0' : (0 : Int) ≤ i := by omega
  have h := sblock_yes ts hl i hi
  have hr2 := rblock_top ts (by omega) i hi
  rw [show blG ts (sG ts (ts.length + 1)) i = Bx8 ts i from rfl] at hr2
  have hs := same_yes ts i hi (Bx8 ts i) (by have := oks_size (oks_zero (blG_ok (sG_ok (ts := ts) (ts.length + 1)) i hi)); show (blG ts (sG ts (ts.length + 1)) i).1.size ≤ _; omega)
  obtain ⟨⟨⟨px, pl⟩, j, e⟩, hr⟩ : ∃ r, Bx8 ts i = r := ⟨_, rfl⟩
  rw [hr] at h hr2 hs
  clear hr
  refine row_of Try.func5 rfl rfl (Nat.le_of_ble_eq_true rfl) ?_
  repeat' (first | refine aw_seq ?_ | refine aw_skip ?_ | refine aw_block ?_ | refine aw_exit ?_ | refine aw_cond rfl (fun _ => ?_) (fun hb => absurd hb (by decide)) | refine aw_cond rfl (fun hb => absurd hb (by decide)) (fun _ => ?_) | (refine aw_reg (fun K hK => ?_); simp -implicitDefEqProofs [h0, h0', h1, hi, hi', h3, h3']) | (refine aw_drw mixd (fun K hK => ?_); simp -implicitDefEqProofs [h0, h0', h1, hi, hi', h3, h3']) | refine hK _ ?_ | refine hK _ _ (by rfl) ?_ | (refine ar_call (cp h ?_); simp -implicitDefEqProofs [h0, h0', h1, hi, hi', h3, h3']) | (refine ard_call (dp h ?_); simp -implicitDefEqProofs [h0, h0', h1, hi, hi', h3, h3']) | (refine ar_call (cp hr2 ?_); simp -implicitDefEqProofs [h0, h0', h1, hi, hi', h3, h3']) | (refine ard_call (dp hr2 ?_); simp -implicitDefEqProofs [h0, h0', h1, hi, hi', h3, h3']) | (refine ar_call (cp hs ?_); simp -implicitDefEqProofs [h0, h0', h1, hi, hi', h3, h3']) | (refine ard_call (dp hs ?_); simp -implicitDefEqProofs [h0, h0', h1, hi, hi', h3, h3']) | (refine ar_call (cp haw ?_); simp -implicitDefEqProofs [h0, h0', h1, hi, hi', h3, h3']) | (refine ard_call (dp haw ?_); simp -implicitDefEqProofs [h0, h0', h1, hi, hi', h3, h3']) | fail)
  refine aw_ret (fin_ret ?_); simp -implicitDefEqProofs [FinP, resV, resT] <;> try rfl
end Go.Proofs.Ythcnligihpnfiaa.am
