/-
  Layer 8: statements out of tokens: the program's, whole.
-/
import Derived.Test.YthcnligihpnfiaaStmForm
namespace Go.Proofs.Ythcnligihpnfiaa.am
open Go.ChangeShapes Go.WideShapes Go.ChangeAt Go.RowKit
open vt
set_option linter.unusedVariables false
set_option linter.unusedSimpArgs false
section
variable (ts : List Tok) (i : Nat)
theorem is_at {s : ByteArray} (hs : s.size ≤ 1000) {b : Bool} (h : isK s (nxt ts i) = b) : Row Try.prog 56 [vR, vS s] [rd ts i 0] (vB b) [some (rd ts i 0)] := by
  have := is7_row ts i 0 s hs
  rwa [h, show (decide ((0 : Int) = 0) && b) = b by simp] at this
set_option maxRecDepth 100000 in
set_option maxHeartbeats 4000000 in
theorem kind_bra (h : isK sBra (nxt ts i) = true) : Row Try.prog 46 [vR] [rd ts i 0] (vFg 32) [some (rd ts i 0)] := by
  have a1 := is_at ts i (s := sBra) (by decide) h
  clear h
  refine row_of Try.func46 rfl rfl (Nat.le_of_ble_eq_true rfl) ?_
  repeat' (first | refine aw_seq ?_ | refine aw_skip ?_ | refine aw_block ?_ | refine aw_exit ?_ | refine aw_cond rfl (fun _ => ?_) (fun hb => absurd hb (by decide)) | refine aw_cond rfl (fun hb => absurd hb (by decide)) (fun _ => ?_) | (refine aw_reg (fun K hK => ?_); simp -implicitDefEqProofs) | (refine aw_drw mixd (fun K hK => ?_); simp -implicitDefEqProofs) | refine hK _ ?_ | refine hK _ _ (by rfl) ?_ | (refine ar_call (cb a1 0 ?_); simp -implicitDefEqProofs) | (refine ard_call (db a1 0 ?_); simp -implicitDefEqProofs) | fail)
  refine aw_ret (fin_box ?_); simp -implicitDefEqProofs [FinB, resV, resT] <;> try rfl
set_option maxRecDepth 100000 in
set_option maxHeartbeats 4000000 in
theorem kind_let (h : isK wLet (nxt ts i) = true) : Row Try.prog 46 [vR] [rd ts i 0] (vFg 57) [some (rd ts i 0)] := by
  have a1 := is_at ts i (s := sBra) (by decide) (isK_no h (by decide))
  have a2 := is_at ts i (s := wLet) (by decide) h
  clear h
  refine row_of Try.func46 rfl rfl (Nat.le_of_ble_eq_true rfl) ?_
  repeat' (first | refine aw_seq ?_ | refine aw_skip ?_ | refine aw_block ?_ | refine aw_exit ?_ | refine aw_cond rfl (fun _ => ?_) (fun hb => absurd hb (by decide)) | refine aw_cond rfl (fun hb => absurd hb (by decide)) (fun _ => ?_) | (refine aw_reg (fun K hK => ?_); simp -implicitDefEqProofs) | (refine aw_drw mixd (fun K hK => ?_); simp -implicitDefEqProofs) | refine hK _ ?_ | refine hK _ _ (by rfl) ?_ | (refine ar_call (cb a1 0 ?_); simp -implicitDefEqProofs) | (refine ard_call (db a1 0 ?_); simp -implicitDefEqProofs) | (refine ar_call (cb a2 0 ?_); simp -implicitDefEqProofs) | (refine ard_call (db a2 0 ?_); simp -implicitDefEqProofs) | fail)
  refine aw_ret (fin_box ?_); simp -implicitDefEqProofs [FinB, resV, resT] <;> try rfl
set_option maxRecDepth 100000 in
set_option maxHeartbeats 4000000 in
theorem kind_if (h : isK wIf (nxt ts i) = true) : Row Try.prog 46 [vR] [rd ts i 0] (vFg 58) [some (rd ts i 0)] := by
  have a1 := is_at ts i (s := sBra) (by decide) (isK_no h (by decide))
  have a2 := is_at ts i (s := wLet) (by decide) (isK_no h (by decide))
  have a3 := is_at ts i (s := wIf) (by decide) h
  clear h
  refine row_of Try.func46 rfl rfl (Nat.le_of_ble_eq_true rfl) ?_
  repeat' (first | refine aw_seq ?_ | refine aw_skip ?_ | refine aw_block ?_ | refine aw_exit ?_ | refine aw_cond rfl (fun _ => ?_) (fun hb => absurd hb (by decide)) | refine aw_cond rfl (fun hb => absurd hb (by decide)) (fun _ => ?_) | (refine aw_reg (fun K hK => ?_); simp -implicitDefEqProofs) | (refine aw_drw mixd (fun K hK => ?_); simp -implicitDefEqProofs) | refine hK _ ?_ | refine hK _ _ (by rfl) ?_ | (refine ar_call (cb a1 0 ?_); simp -implicitDefEqProofs) | (refine ard_call (db a1 0 ?_); simp -implicitDefEqProofs) | (refine ar_call (cb a2 0 ?_); simp -implicitDefEqProofs) | (refine ard_call (db a2 0 ?_); simp -implicitDefEqProofs) | (refine ar_call (cb a3 0 ?_); simp -implicitDefEqProofs) | (refine ard_call (db a3 0 ?_); simp -implicitDefEqProofs) | fail)
  refine aw_ret (fin_box ?_); simp -implicitDefEqProofs [FinB, resV, resT] <;> try rfl
set_option maxRecDepth 100000 in
set_option maxHeartbeats 4000000 in
theorem kind_while (h : isK wWhil (nxt ts i) = true) : Row Try.prog 46 [vR] [rd ts i 0] (vFg 59) [some (rd ts i 0)] := by
  have a1 := is_at ts i (s := sBra) (by decide) (isK_no h (by decide))
  have a2 := is_at ts i (s := wLet) (by decide) (isK_no h (by decide))
  have a3 := is_at ts i (s := wIf) (by decide) (isK_no h (by decide))
  have a4 := is_at ts i (s := wWhil) (by decide) h
  clear h
  refine row_of Try.func46 rfl rfl (Nat.le_of_ble_eq_true rfl) ?_
  repeat' (first | refine aw_seq ?_ | refine aw_skip ?_ | refine aw_block ?_ | refine aw_exit ?_ | refine aw_cond rfl (fun _ => ?_) (fun hb => absurd hb (by decide)) | refine aw_cond rfl (fun hb => absurd hb (by decide)) (fun _ => ?_) | (refine aw_reg (fun K hK => ?_); simp -implicitDefEqProofs) | (refine aw_drw mixd (fun K hK => ?_); simp -implicitDefEqProofs) | refine hK _ ?_ | refine hK _ _ (by rfl) ?_ | (refine ar_call (cb a1 0 ?_); simp -implicitDefEqProofs) | (refine ard_call (db a1 0 ?_); simp -implicitDefEqProofs) | (refine ar_call (cb a2 0 ?_); simp -implicitDefEqProofs) | (refine ard_call (db a2 0 ?_); simp -implicitDefEqProofs) | (refine ar_call (cb a3 0 ?_); simp -implicitDefEqProofs) | (refine ard_call (db a3 0 ?_); simp -implicitDefEqProofs) | (refine ar_call (cb a4 0 ?_); simp -implicitDefEqProofs) | (refine ard_call (db a4 0 ?_); simp -implicitDefEqProofs) | fail)
  refine aw_ret (fin_box ?_); simp -implicitDefEqProofs [FinB, resV, resT] <;> try rfl
set_option maxRecDepth 100000 in
set_option maxHeartbeats 4000000 in
theorem kind_for (h : isK wFor (nxt ts i) = true) : Row Try.prog 46 [vR] [rd ts i 0] (vFg 60) [some (rd ts i 0)] := by
  have a1 := is_at ts i (s := sBra) (by decide) (isK_no h (by decide))
  have a2 := is_at ts i (s := wLet) (by decide) (isK_no h (by decide))
  have a3 := is_at ts i (s := wIf) (by decide) (isK_no h (by decide))
  have a4 := is_at ts i (s := wWhil) (by decide) (isK_no h (by decide))
  have a5 := is_at ts i (s := wFor) (by decide) h
  clear h
  refine row_of Try.func46 rfl rfl (Nat.le_of_ble_eq_true rfl) ?_
  repeat' (first | refine aw_seq ?_ | refine aw_skip ?_ | refine aw_block ?_ | refine aw_exit ?_ | refine aw_cond rfl (fun _ => ?_) (fun hb => absurd hb (by decide)) | refine aw_cond rfl (fun hb => absurd hb (by decide)) (fun _ => ?_) | (refine aw_reg (fun K hK => ?_); simp -implicitDefEqProofs) | (refine aw_drw mixd (fun K hK => ?_); simp -implicitDefEqProofs) | refine hK _ ?_ | refine hK _ _ (by rfl) ?_ | (refine ar_call (cb a1 0 ?_); simp -implicitDefEqProofs) | (refine ard_call (db a1 0 ?_); simp -implicitDefEqProofs) | (refine ar_call (cb a2 0 ?_); simp -implicitDefEqProofs) | (refine ard_call (db a2 0 ?_); simp -implicitDefEqProofs) | (refine ar_call (cb a3 0 ?_); simp -implicitDefEqProofs) | (refine ard_call (db a3 0 ?_); simp -implicitDefEqProofs) | (refine ar_call (cb a4 0 ?_); simp -implicitDefEqProofs) | (refine ard_call (db a4 0 ?_); simp -implicitDefEqProofs) | (refine ar_call (cb a5 0 ?_); simp -implicitDefEqProofs) | (refine ard_call (db a5 0 ?_); simp -implicitDefEqProofs) | fail)
  refine aw_ret (fin_box ?_); simp -implicitDefEqProofs [FinB, resV, resT] <;> try rfl
set_option maxRecDepth 100000 in
set_option maxHeartbeats 4000000 in
theorem kind_word (a : ByteArray) (ha : a = wPrin ∨ a = wRet ∨ a = wDo) (h : isK a (nxt ts i) = true) : Row Try.prog 46 [vR] [rd ts i 0] (vFg 61) [some (rd ts i 0)] := by
  have a1 := is_at ts i (s := sBra) (by decide) (isK_no h (by rcases ha with rfl | rfl | rfl <;> decide))
  have a2 := is_at ts i (s := wLet) (by decide) (isK_no h (by rcases ha with rfl | rfl | rfl <;> decide))
  have a3 := is_at ts i (s := wIf) (by decide) (isK_no h (by rcases ha with rfl | rfl | rfl <;> decide))
  have a4 := is_at ts i (s := wWhil) (by decide) (isK_no h (by rcases ha with rfl | rfl | rfl <;> decide))
  have a5 := is_at ts i (s := wFor) (by decide) (isK_no h (by rcases ha with rfl | rfl | rfl <;> decide))
  rcases ha with rfl | rfl | rfl
  · have a6 := is_at ts i (s := wPrin) (by decide) h
    clear h
    refine row_of Try.func46 rfl rfl (Nat.le_of_ble_eq_true rfl) ?_
    repeat' (first | refine aw_seq ?_ | refine aw_skip ?_ | refine aw_block ?_ | refine aw_exit ?_ | refine aw_cond rfl (fun _ => ?_) (fun hb => absurd hb (by decide)) | refine aw_cond rfl (fun hb => absurd hb (by decide)) (fun _ => ?_) | (refine aw_reg (fun K hK => ?_); simp -implicitDefEqProofs) | (refine aw_drw mixd (fun K hK => ?_); simp -implicitDefEqProofs) | refine hK _ ?_ | refine hK _ _ (by rfl) ?_ | (refine ar_call (cb a1 0 ?_); simp -implicitDefEqProofs) | (refine ard_call (db a1 0 ?_); simp -implicitDefEqProofs) | (refine ar_call (cb a2 0 ?_); simp -implicitDefEqProofs) | (refine ard_call (db a2 0 ?_); simp -implicitDefEqProofs) | (refine ar_call (cb a3 0 ?_); simp -implicitDefEqProofs) | (refine ard_call (db a3 0 ?_); simp -implicitDefEqProofs) | (refine ar_call (cb a4 0 ?_); simp -implicitDefEqProofs) | (refine ard_call (db a4 0 ?_); simp -implicitDefEqProofs) | (refine ar_call (cb a5 0 ?_); simp -implicitDefEqProofs) | (refine ard_call (db a5 0 ?_); simp -implicitDefEqProofs) | (refine ar_call (cb a6 0 ?_); simp -implicitDefEqProofs) | (refine ard_call (db a6 0 ?_); simp -implicitDefEqProofs) | fail)
    refine aw_ret (fin_box ?_); simp -implicitDefEqProofs [FinB, resV, resT] <;> try rfl
  · have a6 := is_at ts i (s := wPrin) (by decide) (isK_no h (by decide))
    have a7 := is_at ts i (s := wRet) (by decide) h
    clear h
    refine row_of Try.func46 rfl rfl (Nat.le_of_ble_eq_true rfl) ?_
    repeat' (first | refine aw_seq ?_ | refine aw_skip ?_ | refine aw_block ?_ | refine aw_exit ?_ | refine aw_cond rfl (fun _ => ?_) (fun hb => absurd hb (by decide)) | refine aw_cond rfl (fun hb => absurd hb (by decide)) (fun _ => ?_) | (refine aw_reg (fun K hK => ?_); simp -implicitDefEqProofs) | (refine aw_drw mixd (fun K hK => ?_); simp -implicitDefEqProofs) | refine hK _ ?_ | refine hK _ _ (by rfl) ?_ | (refine ar_call (cb a1 0 ?_); simp -implicitDefEqProofs) | (refine ard_call (db a1 0 ?_); simp -implicitDefEqProofs) | (refine ar_call (cb a2 0 ?_); simp -implicitDefEqProofs) | (refine ard_call (db a2 0 ?_); simp -implicitDefEqProofs) | (refine ar_call (cb a3 0 ?_); simp -implicitDefEqProofs) | (refine ard_call (db a3 0 ?_); simp -implicitDefEqProofs) | (refine ar_call (cb a4 0 ?_); simp -implicitDefEqProofs) | (refine ard_call (db a4 0 ?_); simp -implicitDefEqProofs) | (refine ar_call (cb a5 0 ?_); simp -implicitDefEqProofs) | (refine ard_call (db a5 0 ?_); simp -implicitDefEqProofs) | (refine ar_call (cb a6 0 ?_); simp -implicitDefEqProofs) | (refine ard_call (db a6 0 ?_); simp -implicitDefEqProofs) | (refine ar_call (cb a7 0 ?_); simp -implicitDefEqProofs) | (refine ard_call (db a7 0 ?_); simp -implicitDefEqProofs) | fail)
    refine aw_ret (fin_box ?_); simp -implicitDefEqProofs [FinB, resV, resT] <;> try rfl
  · have a6 := is_at ts i (s := wPrin) (by decide) (isK_no h (by decide))
    have a7 := is_at ts i (s := wRet) (by decide) (isK_no h (by decide))
    have a8 := is_at ts i (s := wDo) (by decide) h
    clear h
    refine row_of Try.func46 rfl rfl (Nat.le_of_ble_eq_true rfl) ?_
    repeat' (first | refine aw_seq ?_ | refine aw_skip ?_ | refine aw_block ?_ | refine aw_exit ?_ | refine aw_cond rfl (fun _ => ?_) (fun hb => absurd hb (by decide)) | refine aw_cond rfl (fun hb => absurd hb (by decide)) (fun _ => ?_) | (refine aw_reg (fun K hK => ?_); simp -implicitDefEqProofs) | (refine aw_drw mixd (fun K hK => ?_); simp -implicitDefEqProofs) | refine hK _ ?_ | refine hK _ _ (by rfl) ?_ | (refine ar_call (cb a1 0 ?_); simp -implicitDefEqProofs) | (refine ard_call (db a1 0 ?_); simp -implicitDefEqProofs) | (refine ar_call (cb a2 0 ?_); simp -implicitDefEqProofs) | (refine ard_call (db a2 0 ?_); simp -implicitDefEqProofs) | (refine ar_call (cb a3 0 ?_); simp -implicitDefEqProofs) | (refine ard_call (db a3 0 ?_); simp -implicitDefEqProofs) | (refine ar_call (cb a4 0 ?_); simp -implicitDefEqProofs) | (refine ard_call (db a4 0 ?_); simp -implicitDefEqProofs) | (refine ar_call (cb a5 0 ?_); simp -implicitDefEqProofs) | (refine ard_call (db a5 0 ?_); simp -implicitDefEqProofs) | (refine ar_call (cb a6 0 ?_); simp -implicitDefEqProofs) | (refine ard_call (db a6 0 ?_); simp -implicitDefEqProofs) | (refine ar_call (cb a7 0 ?_); simp -implicitDefEqProofs) | (refine ard_call (db a7 0 ?_); simp -implicitDefEqProofs) | (refine ar_call (cb a8 0 ?_); simp -implicitDefEqProofs) | (refine ard_call (db a8 0 ?_); simp -implicitDefEqProofs) | fail)
    refine aw_ret (fin_box ?_); simp -implicitDefEqProofs [FinB, resV, resT] <;> try rfl
set_option maxRecDepth 100000 in
set_option maxHeartbeats 4000000 in
theorem kind_set (h1 : isK sBra (nxt ts i) = false) (h2 : isK wLet (nxt ts i) = false) (h3 : isK wIf (nxt ts i) = false) (h4 : isK wWhil (nxt ts i) = false) (h5 : isK wFor (nxt ts i) = false) (h6 : isK wPrin (nxt ts i) = false) (h7 : isK wRet (nxt ts i) = false) (h8 : isK wDo (nxt ts i) = false) : Row Try.prog 46 [vR] [rd ts i 0] (vFg 62) [some (rd ts i 0)] := by
  have a1 := is_at ts i (s := sBra) (by decide) h1
  have a2 := is_at ts i (s := wLet) (by decide) h2
  have a3 := is_at ts i (s := wIf) (by decide) h3
  have a4 := is_at ts i (s := wWhil) (by decide) h4
  have a5 := is_at ts i (s := wFor) (by decide) h5
  have a6 := is_at ts i (s := wPrin) (by decide) h6
  have a7 := is_at ts i (s := wRet) (by decide) h7
  have a8 := is_at ts i (s := wDo) (by decide) h8
  clear h1 h2 h3 h4 h5 h6 h7 h8
  refine row_of Try.func46 rfl rfl (Nat.le_of_ble_eq_true rfl) ?_
  repeat' (first | refine aw_seq ?_ | refine aw_skip ?_ | refine aw_block ?_ | refine aw_exit ?_ | refine aw_cond rfl (fun _ => ?_) (fun hb => absurd hb (by decide)) | refine aw_cond rfl (fun hb => absurd hb (by decide)) (fun _ => ?_) | (refine aw_reg (fun K hK => ?_); simp -implicitDefEqProofs) | (refine aw_drw mixd (fun K hK => ?_); simp -implicitDefEqProofs) | refine hK _ ?_ | refine hK _ _ (by rfl) ?_ | (refine ar_call (cb a1 0 ?_); simp -implicitDefEqProofs) | (refine ard_call (db a1 0 ?_); simp -implicitDefEqProofs) | (refine ar_call (cb a2 0 ?_); simp -implicitDefEqProofs) | (refine ard_call (db a2 0 ?_); simp -implicitDefEqProofs) | (refine ar_call (cb a3 0 ?_); simp -implicitDefEqProofs) | (refine ard_call (db a3 0 ?_); simp -implicitDefEqProofs) | (refine ar_call (cb a4 0 ?_); simp -implicitDefEqProofs) | (refine ard_call (db a4 0 ?_); simp -implicitDefEqProofs) | (refine ar_call (cb a5 0 ?_); simp -implicitDefEqProofs) | (refine ard_call (db a5 0 ?_); simp -implicitDefEqProofs) | (refine ar_call (cb a6 0 ?_); simp -implicitDefEqProofs) | (refine ard_call (db a6 0 ?_); simp -implicitDefEqProofs) | (refine ar_call (cb a7 0 ?_); simp -implicitDefEqProofs) | (refine ard_call (db a7 0 ?_); simp -implicitDefEqProofs) | (refine ar_call (cb a8 0 ?_); simp -implicitDefEqProofs) | (refine ard_call (db a8 0 ?_); simp -implicitDefEqProofs) | fail)
  refine aw_ret (fin_box ?_); simp -implicitDefEqProofs [FinB, resV, resT] <;> try rfl
set_option maxRecDepth 100000 in
set_option maxHeartbeats 4000000 in
theorem stmt_of (g : Nat) (R : Got) (k : Row Try.prog 46 [vR] [rd ts i 0] (vFg g) [some (rd ts i 0)]) (r : Row Try.prog g [vR] [rd ts i 0] (vT R.1) [some (rd ts R.2.1 R.2.2)]) : Row Try.prog 23 [vR] [rd ts i 0] (vT R.1) [some (rd ts R.2.1 R.2.2)] := by
  have g0 := goes_row ts i 0
  obtain ⟨⟨px, pl⟩, j, e⟩ := R
  refine row_of Try.func23 rfl rfl (Nat.le_of_ble_eq_true rfl) ?_
  repeat' (first | refine aw_seq ?_ | refine aw_skip ?_ | refine aw_block ?_ | refine aw_exit ?_ | refine aw_cond rfl (fun _ => ?_) (fun hb => absurd hb (by decide)) | refine aw_cond rfl (fun hb => absurd hb (by decide)) (fun _ => ?_) | (refine aw_reg (fun K hK => ?_); simp -implicitDefEqProofs) | (refine aw_drw mixd (fun K hK => ?_); simp -implicitDefEqProofs) | refine hK _ ?_ | refine hK _ _ (by rfl) ?_ | (refine ar_call (cb g0 0 ?_); simp -implicitDefEqProofs) | (refine ard_call (db g0 0 ?_); simp -implicitDefEqProofs) | (refine ar_call (cb k 0 ?_); simp -implicitDefEqProofs) | (refine ard_call (db k 0 ?_); simp -implicitDefEqProofs) | (refine ar_call (cb r 0 ?_); simp -implicitDefEqProofs) | (refine ard_call (db r 0 ?_); simp -implicitDefEqProofs) | fail)
  refine aw_ret (fin_box ?_); simp -implicitDefEqProofs [FinB, resV, resT] <;> try rfl
end
section
variable (ts : List Tok) (hl : ts.length ≤ 3000000000000)
theorem let_col (i : Nat) (h : isK wLet (nxt ts i) = true) : TT ts sCol (KT ts 1 (WT ts wLet (i, 0))).2 = (decide ((nxt ts (i + 1)).k = 1) && isK sCol (nxt ts (i + 2))) := by
  rw [show WT ts wLet (i, 0) = (i + 1, 0) by unfold WT; simp [h]]
  unfold KT TT
  by_cases h1 : (nxt ts (i + 1)).k = 1
  · simp [h1]
  · simp [h1]
theorem tt_at (i : Nat) (s : ByteArray) : TT ts s (i, 0) = isK s (nxt ts i) := by unfold TT; simp
include hl
set_option maxRecDepth 100000 in
set_option maxHeartbeats 4000000 in
theorem stmt_rows : ∀ n i, ts.length - i < n → i ≤ ts.length → Row Try.prog 23 [vR] [rd ts i 0] (vT (sG ts n i).1) [some (rd ts (sG ts n i).2.1 (sG ts n i).2.2)] := by
  intro n
  induction n with
  | zero => intro i h; omega
  | succ n ih =>
    intro i hn hi
    have hrow : ∀ j, i < j → j ≤ ts.length → Row Try.prog 23 [vR] [rd ts j 0] (vT (sG ts n j).1) [some (rd ts (sG ts n j).2.1 (sG ts n j).2.2)] := fun j h1 h2 => ih j (by omega) h2
    have hS := sG_ok (ts := ts) n
    by_cases hb : isK sBra (nxt ts i) = true
    · rw [show sG ts (n + 1) i = blG ts (sG ts n) i from if_pos hb]
      have b := block_tot ts hl (sG ts n) hS (sG_two n) i hrow (i, 0) (fun _ => ⟨Nat.le_refl _, hi⟩)
      rw [show OT (blG ts (sG ts n)) (i, 0) = blG ts (sG ts n) i from if_pos rfl] at b
      exact stmt_of ts i _ _ (kind_bra ts i hb) b
    rw [show sG ts (n + 1) i = itH ts (RR ts (sG ts n)) i (frmG ts i).1 0 (frmG ts i).2 i ⟨#[]⟩ [] from if_neg hb]
    unfold frmG
    have hb : isK sBra (nxt ts i) = false := by simpa using hb
    by_cases h1 : isK wLet (nxt ts i) = true
    · rw [if_pos h1]
      have hc := let_col ts i h1
      by_cases h2 : (nxt ts (i + 1)).k = 1 ∧ isK sCol (nxt ts (i + 2)) = true
      · rw [if_pos h2]
        exact stmt_of ts i _ _ (kind_let ts i h1) (let_new ts hl (sG ts n) hS i hi (by rw [hc, h2.2]; simp [h2.1]))
      · rw [if_neg h2]
        refine stmt_of ts i _ _ (kind_let ts i h1) (let_let ts hl (sG ts n) hS i hi ?_)
        rw [hc]
        by_cases h3 : (nxt ts (i + 1)).k = 1
        · have : isK sCol (nxt ts (i + 2)) = false := by simpa using fun h => h2 ⟨h3, h⟩
          simp [this]
        · simp [h3]
    rw [if_neg h1]
    by_cases h2 : isK wIf (nxt ts i) = true
    · rw [if_pos h2]; exact stmt_of ts i _ _ (kind_if ts i h2) (branch_row ts hl (sG ts n) hS (sG_two n) i hi hrow)
    rw [if_neg h2]
    by_cases h3 : isK wWhil (nxt ts i) = true
    · rw [if_pos h3]; exact stmt_of ts i _ _ (kind_while ts i h3) (while_row ts hl (sG ts n) hS (sG_two n) i hi hrow)
    rw [if_neg h3]
    by_cases h4 : isK wFor (nxt ts i) = true
    · rw [if_pos h4]; exact stmt_of ts i _ _ (kind_for ts i h4) (count_row ts hl (sG ts n) hS (sG_two n) i hi hrow)
    rw [if_neg h4]
    by_cases h5 : isK wPrin (nxt ts i) = true
    · rw [if_pos h5]; exact stmt_of ts i _ _ (kind_word ts i _ (.inl rfl) h5) (print_row8 ts hl (sG ts n) hS i hi (by rw [tt_at ts]; exact h5))
    rw [if_neg h5]
    by_cases h6 : isK wRet (nxt ts i) = true
    · rw [if_pos h6]; exact stmt_of ts i _ _ (kind_word ts i _ (.inr (.inl rfl)) h6) (return_row8 ts hl (sG ts n) hS i hi (by rw [tt_at ts]; simpa using h5) (by rw [tt_at ts]; exact h6))
    rw [if_neg h6]
    by_cases h7 : isK wDo (nxt ts i) = true
    · rw [if_pos h7]; exact stmt_of ts i _ _ (kind_word ts i _ (.inr (.inr rfl)) h7) (do_row8 ts hl (sG ts n) hS i hi (by rw [tt_at ts]; simpa using h5) (by rw [tt_at ts]; simpa using h6))
    rw [if_neg h7]
    exact stmt_of ts i _ _ (kind_set ts i hb (by simpa using h1) (by simpa using h2) (by simpa using h3) (by simpa using h4) (by simpa using h5) (by simpa using h6) (by simpa using h7)) (set_row8 ts hl (sG ts n) hS i hi)
end
set_option maxRecDepth 100000 in
set_option maxHeartbeats 4000000 in
theorem begin8_no (ts : List Tok) (a : Int) (h : a < 0 ∨ (ts.length : Int) < a) (g : Nat) : Row Try.prog 22 [vKs ts, vI a, .v (.c (.fn (.func g) [] []))] [] (vT3 (z0, 0, 13)) [] := by
  have h1 := new_no ts a h
  refine row_of Try.func22 rfl rfl (Nat.le_of_ble_eq_true rfl) ?_
  repeat' (first | refine aw_seq ?_ | refine aw_skip ?_ | refine aw_block ?_ | refine aw_exit ?_ | refine aw_cond rfl (fun _ => ?_) (fun hb => absurd hb (by decide)) | refine aw_cond rfl (fun hb => absurd hb (by decide)) (fun _ => ?_) | (refine aw_reg (fun K hK => ?_); simp -implicitDefEqProofs) | (refine aw_drw mixd (fun K hK => ?_); simp -implicitDefEqProofs) | refine hK _ ?_ | refine hK _ _ (by rfl) ?_ | (refine ar_call (cp h1 ?_); simp -implicitDefEqProofs) | (refine ard_call (dp h1 ?_); simp -implicitDefEqProofs) | fail)
  refine aw_ret (fin_ret ?_); simp -implicitDefEqProofs [FinP, resV, resT, z0] <;> try rfl
set_option maxRecDepth 100000 in
set_option maxHeartbeats 4000000 in
theorem begin8_yes (ts : List Tok) (i : Nat) (h : i ≤ ts.length) (g : Nat) (r : Got) (hr : Row Try.prog g [vR] [rd ts i 0] (vT r.1) [some (rd ts r.2.1 r.2.2)]) (hz : r.2.2 ≠ 0 → r.1 = z0) : Row Try.prog 22 [vKs ts, vI i, .v (.c (.fn (.func g) [] []))] [] (vT3 r) [] := by
  have h1 := new_yes ts i h
  obtain ⟨⟨px, pl⟩, j, e⟩ := r
  have g1 := goes_row ts j e
  have p1 := place_row ts j e
  have e1 := err_row ts j e
  dsimp only at hr hz
  by_cases he : e = 0
  · subst he
    clear hz
    refine row_of Try.func22 rfl rfl (Nat.le_of_ble_eq_true rfl) ?_
    repeat' (first | refine aw_seq ?_ | refine aw_skip ?_ | refine aw_block ?_ | refine aw_exit ?_ | refine aw_cond rfl (fun _ => ?_) (fun hb => absurd hb (by decide)) | refine aw_cond rfl (fun hb => absurd hb (by decide)) (fun _ => ?_) | (refine aw_reg (fun K hK => ?_); simp -implicitDefEqProofs) | (refine aw_drw mixd (fun K hK => ?_); simp -implicitDefEqProofs) | refine hK _ ?_ | refine hK _ _ (by rfl) ?_ | (refine ar_call (cp h1 ?_); simp -implicitDefEqProofs) | (refine ard_call (dp h1 ?_); simp -implicitDefEqProofs) | (refine ar_call (cb hr 23 ?_); simp -implicitDefEqProofs) | (refine ard_call (db hr 23 ?_); simp -implicitDefEqProofs) | (refine ar_call (cb g1 23 ?_); simp -implicitDefEqProofs) | (refine ard_call (db g1 23 ?_); simp -implicitDefEqProofs) | (refine ar_call (cb p1 23 ?_); simp -implicitDefEqProofs) | (refine ard_call (db p1 23 ?_); simp -implicitDefEqProofs) | fail)
    refine aw_ret (fin_ret ?_); simp -implicitDefEqProofs [FinP, resV, resT] <;> try rfl
  · have hz := hz he
    rw [show (Tr.mk px pl, j, e) = (z0, j, e) by rw [hz]]
    clear hz
    refine row_of Try.func22 rfl rfl (Nat.le_of_ble_eq_true rfl) ?_
    repeat' (first | refine aw_seq ?_ | refine aw_skip ?_ | refine aw_block ?_ | refine aw_exit ?_ | refine aw_cond rfl (fun _ => ?_) (fun hb => absurd hb (by decide)) | refine aw_cond rfl (fun hb => absurd hb (by decide)) (fun _ => ?_) | (refine aw_reg (fun K hK => ?_); simp -implicitDefEqProofs [he]) | (refine aw_drw mixd (fun K hK => ?_); simp -implicitDefEqProofs [he]) | refine hK _ ?_ | refine hK _ _ (by rfl) ?_ | (refine ar_call (cp h1 ?_); simp -implicitDefEqProofs [he]) | (refine ard_call (dp h1 ?_); simp -implicitDefEqProofs [he]) | (refine ar_call (cb hr 23 ?_); simp -implicitDefEqProofs [he]) | (refine ard_call (db hr 23 ?_); simp -implicitDefEqProofs [he]) | (refine ar_call (cb g1 23 ?_); simp -implicitDefEqProofs [he]) | (refine ard_call (db g1 23 ?_); simp -implicitDefEqProofs [he]) | (refine ar_call (cb p1 23 ?_); simp -implicitDefEqProofs [he]) | (refine ard_call (db p1 23 ?_); simp -implicitDefEqProofs [he]) | (refine ar_call (cb e1 23 ?_); simp -implicitDefEqProofs [he]) | (refine ard_call (db e1 23 ?_); simp -implicitDefEqProofs [he]) | fail)
    refine aw_ret (fin_ret ?_); simp -implicitDefEqProofs [FinP, resV, resT, z0] <;> try rfl
set_option maxRecDepth 100000 in
set_option maxHeartbeats 4000000 in
theorem sblock_no (ts : List Tok) (a : Int) (h : a < 0 ∨ (ts.length : Int) < a) : Row Try.prog 15 [vKs ts, vI a] [] (vT3 (z0, 0, 13)) [] := by
  have h1 := begin8_no ts a h 32
  unfold z0 at h1 ⊢
  refine row_of Try.func15 rfl rfl (Nat.le_of_ble_eq_true rfl) ?_
  repeat' (first | refine aw_seq ?_ | refine aw_skip ?_ | refine aw_block ?_ | refine aw_exit ?_ | refine aw_cond rfl (fun _ => ?_) (fun hb => absurd hb (by decide)) | refine aw_cond rfl (fun hb => absurd hb (by decide)) (fun _ => ?_) | (refine aw_reg (fun K hK => ?_); simp -implicitDefEqProofs) | (refine aw_drw mixd (fun K hK => ?_); simp -implicitDefEqProofs) | refine hK _ ?_ | refine hK _ _ (by rfl) ?_ | (refine ar_call (cp h1 ?_); simp -implicitDefEqProofs) | (refine ard_call (dp h1 ?_); simp -implicitDefEqProofs) | fail)
  refine aw_ret (fin_ret ?_); simp -implicitDefEqProofs [FinP, resV, resT] <;> try rfl
/-- The statement, and the block, at a place. -/
noncomputable def Sx8 (ts : List Tok) (i : Nat) : Got := sG ts (ts.length + 1) i
noncomputable def Bx8 (ts : List Tok) (i : Nat) : Got := blG ts (sG ts (ts.length + 1)) i
set_option maxRecDepth 100000 in
set_option maxHeartbeats 4000000 in
theorem sblock_yes (ts : List Tok) (hl : ts.length ≤ 3000000000000) (i : Nat) (h : i ≤ ts.length) : Row Try.prog 15 [vKs ts, vI i] [] (vT3 (Bx8 ts i)) [] := by
  have hb := block_tot ts hl (sG ts (ts.length + 1)) (sG_ok _) (sG_two _) i (fun j h1 h2 => stmt_rows ts hl _ j (by omega) h2) (i, 0) (fun _ => ⟨Nat.le_refl _, h⟩)
  rw [show OT (blG ts (sG ts (ts.length + 1))) (i, 0) = Bx8 ts i from if_pos rfl] at hb
  have h1 := begin8_yes ts i h 32 _ hb (fun hh => ((blG_ok (sG_ok (ts := ts) _) i h).ok.no hh).2)
  clear hb
  obtain ⟨⟨⟨px, pl⟩, j, e⟩, hr⟩ : ∃ r, Bx8 ts i = r := ⟨_, rfl⟩
  rw [hr] at h1 ⊢
  refine row_of Try.func15 rfl rfl (Nat.le_of_ble_eq_true rfl) ?_
  repeat' (first | refine aw_seq ?_ | refine aw_skip ?_ | refine aw_block ?_ | refine aw_exit ?_ | refine aw_cond rfl (fun _ => ?_) (fun hb => absurd hb (by decide)) | refine aw_cond rfl (fun hb => absurd hb (by decide)) (fun _ => ?_) | (refine aw_reg (fun K hK => ?_); simp -implicitDefEqProofs) | (refine aw_drw mixd (fun K hK => ?_); simp -implicitDefEqProofs) | refine hK _ ?_ | refine hK _ _ (by rfl) ?_ | (refine ar_call (cp h1 ?_); simp -implicitDefEqProofs) | (refine ard_call (dp h1 ?_); simp -implicitDefEqProofs) | fail)
  refine aw_ret (fin_ret ?_); simp -implicitDefEqProofs [FinP, resV, resT] <;> try rfl
end Go.Proofs.Ythcnligihpnfiaa.am
