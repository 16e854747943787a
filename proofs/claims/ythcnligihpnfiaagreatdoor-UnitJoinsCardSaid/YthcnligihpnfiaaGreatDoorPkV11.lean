import Derived.Test.YthcnligihpnfiaaGreatDoorPkV10
import Derived.Test.YthcnligihpnfiaaGreatDoorPkV6
section
namespace Go.Proofs.YthcnligihpnfiaaGreatDoor.am
open Go.ChangeShapes Go.WideShapes Go.ChangeAt Go.RowKit
open vt
set_option linter.unusedVariables false
set_option linter.unusedSimpArgs false
section
variable (ts : List Tok) (i : Nat)
theorem is_at {s : ByteArray} (hs : s.size ≤ 1000) {b : Bool} (h : isK s (nxt ts i) = b) : Row Tryz.prog 79 [vR, vS s] [rd ts i 0] (vB b) [some (rd ts i 0)] := by
  have := is7_row ts i 0 s hs
  rwa [h, show (decide ((0 : Int) = 0) && b) = b by simp] at this
set_option maxRecDepth 100000 in
set_option maxHeartbeats 4000000 in
theorem kind_bra (h : isK sBra (nxt ts i) = true) : Row Tryz.prog 154 [vR] [rd ts i 0] (vFg 128) [some (rd ts i 0)] := by
  have a1 := is_at ts i (s := sBra) (by decide) h
  clear h
  refine row_of Tryz.func154 rfl rfl (Nat.le_of_ble_eq_true rfl) ?_
  repeat' (first | refine aw_seq ?_ | refine aw_skip ?_ | refine aw_block ?_ | refine aw_exit ?_ | refine aw_cond rfl (fun _ => ?_) (fun hb => absurd hb (by decide)) | refine aw_cond rfl (fun hb => absurd hb (by decide)) (fun _ => ?_) | (refine aw_reg (fun K hK => ?_); simp -implicitDefEqProofs) | (refine aw_drw mixd (fun K hK => ?_); simp -implicitDefEqProofs) | refine hK _ ?_ | refine hK _ _ (by rfl) ?_ | (refine ar_call (cb a1 0 ?_); simp -implicitDefEqProofs) | (refine ard_call (db a1 0 ?_); simp -implicitDefEqProofs) | fail)
  refine aw_ret (fin_box ?_); simp -implicitDefEqProofs [FinB, resV, resT] <;> try rfl
set_option maxRecDepth 100000 in
set_option maxHeartbeats 4000000 in
theorem kind_let (h : isK wLet (nxt ts i) = true) : Row Tryz.prog 154 [vR] [rd ts i 0] (vFg 164) [some (rd ts i 0)] := by
  have a1 := is_at ts i (s := sBra) (by decide) (isK_no h (by decide))
  have a2 := is_at ts i (s := wLet) (by decide) h
  clear h
  refine row_of Tryz.func154 rfl rfl (Nat.le_of_ble_eq_true rfl) ?_
  repeat' (first | refine aw_seq ?_ | refine aw_skip ?_ | refine aw_block ?_ | refine aw_exit ?_ | refine aw_cond rfl (fun _ => ?_) (fun hb => absurd hb (by decide)) | refine aw_cond rfl (fun hb => absurd hb (by decide)) (fun _ => ?_) | (refine aw_reg (fun K hK => ?_); simp -implicitDefEqProofs) | (refine aw_drw mixd (fun K hK => ?_); simp -implicitDefEqProofs) | refine hK _ ?_ | refine hK _ _ (by rfl) ?_ | (refine ar_call (cb a1 0 ?_); simp -implicitDefEqProofs) | (refine ard_call (db a1 0 ?_); simp -implicitDefEqProofs) | (refine ar_call (cb a2 0 ?_); simp -implicitDefEqProofs) | (refine ard_call (db a2 0 ?_); simp -implicitDefEqProofs) | fail)
  refine aw_ret (fin_box ?_); simp -implicitDefEqProofs [FinB, resV, resT] <;> try rfl
set_option maxRecDepth 100000 in
set_option maxHeartbeats 4000000 in
theorem kind_if (h : isK wIf (nxt ts i) = true) : Row Tryz.prog 154 [vR] [rd ts i 0] (vFg 165) [some (rd ts i 0)] := by
  have a1 := is_at ts i (s := sBra) (by decide) (isK_no h (by decide))
  have a2 := is_at ts i (s := wLet) (by decide) (isK_no h (by decide))
  have a3 := is_at ts i (s := wIf) (by decide) h
  clear h
  refine row_of Tryz.func154 rfl rfl (Nat.le_of_ble_eq_true rfl) ?_
  repeat' (first | refine aw_seq ?_ | refine aw_skip ?_ | refine aw_block ?_ | refine aw_exit ?_ | refine aw_cond rfl (fun _ => ?_) (fun hb => absurd hb (by decide)) | refine aw_cond rfl (fun hb => absurd hb (by decide)) (fun _ => ?_) | (refine aw_reg (fun K hK => ?_); simp -implicitDefEqProofs) | (refine aw_drw mixd (fun K hK => ?_); simp -implicitDefEqProofs) | refine hK _ ?_ | refine hK _ _ (by rfl) ?_ | (refine ar_call (cb a1 0 ?_); simp -implicitDefEqProofs) | (refine ard_call (db a1 0 ?_); simp -implicitDefEqProofs) | (refine ar_call (cb a2 0 ?_); simp -implicitDefEqProofs) | (refine ard_call (db a2 0 ?_); simp -implicitDefEqProofs) | (refine ar_call (cb a3 0 ?_); simp -implicitDefEqProofs) | (refine ard_call (db a3 0 ?_); simp -implicitDefEqProofs) | fail)
  refine aw_ret (fin_box ?_); simp -implicitDefEqProofs [FinB, resV, resT] <;> try rfl
set_option maxRecDepth 100000 in
set_option maxHeartbeats 4000000 in
theorem kind_while (h : isK wWhil (nxt ts i) = true) : Row Tryz.prog 154 [vR] [rd ts i 0] (vFg 166) [some (rd ts i 0)] := by
  have a1 := is_at ts i (s := sBra) (by decide) (isK_no h (by decide))
  have a2 := is_at ts i (s := wLet) (by decide) (isK_no h (by decide))
  have a3 := is_at ts i (s := wIf) (by decide) (isK_no h (by decide))
  have a4 := is_at ts i (s := wWhil) (by decide) h
  clear h
  refine row_of Tryz.func154 rfl rfl (Nat.le_of_ble_eq_true rfl) ?_
  repeat' (first | refine aw_seq ?_ | refine aw_skip ?_ | refine aw_block ?_ | refine aw_exit ?_ | refine aw_cond rfl (fun _ => ?_) (fun hb => absurd hb (by decide)) | refine aw_cond rfl (fun hb => absurd hb (by decide)) (fun _ => ?_) | (refine aw_reg (fun K hK => ?_); simp -implicitDefEqProofs) | (refine aw_drw mixd (fun K hK => ?_); simp -implicitDefEqProofs) | refine hK _ ?_ | refine hK _ _ (by rfl) ?_ | (refine ar_call (cb a1 0 ?_); simp -implicitDefEqProofs) | (refine ard_call (db a1 0 ?_); simp -implicitDefEqProofs) | (refine ar_call (cb a2 0 ?_); simp -implicitDefEqProofs) | (refine ard_call (db a2 0 ?_); simp -implicitDefEqProofs) | (refine ar_call (cb a3 0 ?_); simp -implicitDefEqProofs) | (refine ard_call (db a3 0 ?_); simp -implicitDefEqProofs) | (refine ar_call (cb a4 0 ?_); simp -implicitDefEqProofs) | (refine ard_call (db a4 0 ?_); simp -implicitDefEqProofs) | fail)
  refine aw_ret (fin_box ?_); simp -implicitDefEqProofs [FinB, resV, resT] <;> try rfl
set_option maxRecDepth 100000 in
set_option maxHeartbeats 4000000 in
theorem kind_for (h : isK wFor (nxt ts i) = true) : Row Tryz.prog 154 [vR] [rd ts i 0] (vFg 167) [some (rd ts i 0)] := by
  have a1 := is_at ts i (s := sBra) (by decide) (isK_no h (by decide))
  have a2 := is_at ts i (s := wLet) (by decide) (isK_no h (by decide))
  have a3 := is_at ts i (s := wIf) (by decide) (isK_no h (by decide))
  have a4 := is_at ts i (s := wWhil) (by decide) (isK_no h (by decide))
  have a5 := is_at ts i (s := wFor) (by decide) h
  clear h
  refine row_of Tryz.func154 rfl rfl (Nat.le_of_ble_eq_true rfl) ?_
  repeat' (first | refine aw_seq ?_ | refine aw_skip ?_ | refine aw_block ?_ | refine aw_exit ?_ | refine aw_cond rfl (fun _ => ?_) (fun hb => absurd hb (by decide)) | refine aw_cond rfl (fun hb => absurd hb (by decide)) (fun _ => ?_) | (refine aw_reg (fun K hK => ?_); simp -implicitDefEqProofs) | (refine aw_drw mixd (fun K hK => ?_); simp -implicitDefEqProofs) | refine hK _ ?_ | refine hK _ _ (by rfl) ?_ | (refine ar_call (cb a1 0 ?_); simp -implicitDefEqProofs) | (refine ard_call (db a1 0 ?_); simp -implicitDefEqProofs) | (refine ar_call (cb a2 0 ?_); simp -implicitDefEqProofs) | (refine ard_call (db a2 0 ?_); simp -implicitDefEqProofs) | (refine ar_call (cb a3 0 ?_); simp -implicitDefEqProofs) | (refine ard_call (db a3 0 ?_); simp -implicitDefEqProofs) | (refine ar_call (cb a4 0 ?_); simp -implicitDefEqProofs) | (refine ard_call (db a4 0 ?_); simp -implicitDefEqProofs) | (refine ar_call (cb a5 0 ?_); simp -implicitDefEqProofs) | (refine ard_call (db a5 0 ?_); simp -implicitDefEqProofs) | fail)
  refine aw_ret (fin_box ?_); simp -implicitDefEqProofs [FinB, resV, resT] <;> try rfl
set_option maxRecDepth 100000 in
set_option maxHeartbeats 4000000 in
theorem kind_word (a : ByteArray) (ha : a = wPrin ∨ a = wRet ∨ a = wDo) (h : isK a (nxt ts i) = true) : Row Tryz.prog 154 [vR] [rd ts i 0] (vFg 168) [some (rd ts i 0)] := by
  have a1 := is_at ts i (s := sBra) (by decide) (isK_no h (by rcases ha with rfl | rfl | rfl <;> decide))
  have a2 := is_at ts i (s := wLet) (by decide) (isK_no h (by rcases ha with rfl | rfl | rfl <;> decide))
  have a3 := is_at ts i (s := wIf) (by decide) (isK_no h (by rcases ha with rfl | rfl | rfl <;> decide))
  have a4 := is_at ts i (s := wWhil) (by decide) (isK_no h (by rcases ha with rfl | rfl | rfl <;> decide))
  have a5 := is_at ts i (s := wFor) (by decide) (isK_no h (by rcases ha with rfl | rfl | rfl <;> decide))
  rcases ha with rfl | rfl | rfl
  · have a6 := is_at ts i (s := wPrin) (by decide) h
    clear h
    refine row_of Tryz.func154 rfl rfl (Nat.le_of_ble_eq_true rfl) ?_
    repeat' (first | refine aw_seq ?_ | refine aw_skip ?_ | refine aw_block ?_ | refine aw_exit ?_ | refine aw_cond rfl (fun _ => ?_) (fun hb => absurd hb (by decide)) | refine aw_cond rfl (fun hb => absurd hb (by decide)) (fun _ => ?_) | (refine aw_reg (fun K hK => ?_); simp -implicitDefEqProofs) | (refine aw_drw mixd (fun K hK => ?_); simp -implicitDefEqProofs) | refine hK _ ?_ | refine hK _ _ (by rfl) ?_ | (refine ar_call (cb a1 0 ?_); simp -implicitDefEqProofs) | (refine ard_call (db a1 0 ?_); simp -implicitDefEqProofs) | (refine ar_call (cb a2 0 ?_); simp -implicitDefEqProofs) | (refine ard_call (db a2 0 ?_); simp -implicitDefEqProofs) | (refine ar_call (cb a3 0 ?_); simp -implicitDefEqProofs) | (refine ard_call (db a3 0 ?_); simp -implicitDefEqProofs) | (refine ar_call (cb a4 0 ?_); simp -implicitDefEqProofs) | (refine ard_call (db a4 0 ?_); simp -implicitDefEqProofs) | (refine ar_call (cb a5 0 ?_); simp -implicitDefEqProofs) | (refine ard_call (db a5 0 ?_); simp -implicitDefEqProofs) | (refine ar_call (cb a6 0 ?_); simp -implicitDefEqProofs) | (refine ard_call (db a6 0 ?_); simp -implicitDefEqProofs) | fail)
    refine aw_ret (fin_box ?_); simp -implicitDefEqProofs [FinB, resV, resT] <;> try rfl
  · have a6 := is_at ts i (s := wPrin) (by decide) (isK_no h (by decide))
    have a7 := is_at ts i (s := wRet) (by decide) h
    clear h
    refine row_of Tryz.func154 rfl rfl (Nat.le_of_ble_eq_true rfl) ?_
    repeat' (first | refine aw_seq ?_ | refine aw_skip ?_ | refine aw_block ?_ | refine aw_exit ?_ | refine aw_cond rfl (fun _ => ?_) (fun hb => absurd hb (by decide)) | refine aw_cond rfl (fun hb => absurd hb (by decide)) (fun _ => ?_) | (refine aw_reg (fun K hK => ?_); simp -implicitDefEqProofs) | (refine aw_drw mixd (fun K hK => ?_); simp -implicitDefEqProofs) | refine hK _ ?_ | refine hK _ _ (by rfl) ?_ | (refine ar_call (cb a1 0 ?_); simp -implicitDefEqProofs) | (refine ard_call (db a1 0 ?_); simp -implicitDefEqProofs) | (refine ar_call (cb a2 0 ?_); simp -implicitDefEqProofs) | (refine ard_call (db a2 0 ?_); simp -implicitDefEqProofs) | (refine ar_call (cb a3 0 ?_); simp -implicitDefEqProofs) | (refine ard_call (db a3 0 ?_); simp -implicitDefEqProofs) | (refine ar_call (cb a4 0 ?_); simp -implicitDefEqProofs) | (refine ard_call (db a4 0 ?_); simp -implicitDefEqProofs) | (refine ar_call (cb a5 0 ?_); simp -implicitDefEqProofs) | (refine ard_call (db a5 0 ?_); simp -implicitDefEqProofs) | (refine ar_call (cb a6 0 ?_); simp -implicitDefEqProofs) | (refine ard_call (db a6 0 ?_); simp -implicitDefEqProofs) | (refine ar_call (cb a7 0 ?_); simp -implicitDefEqProofs) | (refine ard_call (db a7 0 ?_); simp -implicitDefEqProofs) | fail)
    refine aw_ret (fin_box ?_); simp -implicitDefEqProofs [FinB, resV, resT] <;> try rfl
  · have a6 := is_at ts i (s := wPrin) (by decide) (isK_no h (by decide))
    have a7 := is_at ts i (s := wRet) (by decide) (isK_no h (by decide))
    have a8 := is_at ts i (s := wDo) (by decide) h
    clear h
    refine row_of Tryz.func154 rfl rfl (Nat.le_of_ble_eq_true rfl) ?_
    repeat' (first | refine aw_seq ?_ | refine aw_skip ?_ | refine aw_block ?_ | refine aw_exit ?_ | refine aw_cond rfl (fun _ => ?_) (fun hb => absurd hb (by decide)) | refine aw_cond rfl (fun hb => absurd hb (by decide)) (fun _ => ?_) | (refine aw_reg (fun K hK => ?_); simp -implicitDefEqProofs) | (refine aw_drw mixd (fun K hK => ?_); simp -implicitDefEqProofs) | refine hK _ ?_ | refine hK _ _ (by rfl) ?_ | (refine ar_call (cb a1 0 ?_); simp -implicitDefEqProofs) | (refine ard_call (db a1 0 ?_); simp -implicitDefEqProofs) | (refine ar_call (cb a2 0 ?_); simp -implicitDefEqProofs) | (refine ard_call (db a2 0 ?_); simp -implicitDefEqProofs) | (refine ar_call (cb a3 0 ?_); simp -implicitDefEqProofs) | (refine ard_call (db a3 0 ?_); simp -implicitDefEqProofs) | (refine ar_call (cb a4 0 ?_); simp -implicitDefEqProofs) | (refine ard_call (db a4 0 ?_); simp -implicitDefEqProofs) | (refine ar_call (cb a5 0 ?_); simp -implicitDefEqProofs) | (refine ard_call (db a5 0 ?_); simp -implicitDefEqProofs) | (refine ar_call (cb a6 0 ?_); simp -implicitDefEqProofs) | (refine ard_call (db a6 0 ?_); simp -implicitDefEqProofs) | (refine ar_call (cb a7 0 ?_); simp -implicitDefEqProofs) | (refine ard_call (db a7 0 ?_); simp -implicitDefEqProofs) | (refine ar_call (cb a8 0 ?_); simp -implicitDefEqProofs) | (refine ard_call (db a8 0 ?_); simp -implicitDefEqProofs) | fail)
    refine aw_ret (fin_box ?_); simp -implicitDefEqProofs [FinB, resV, resT] <;> try rfl
set_option maxRecDepth 100000 in
set_option maxHeartbeats 4000000 in
theorem kind_set (h1 : isK sBra (nxt ts i) = false) (h2 : isK wLet (nxt ts i) = false) (h3 : isK wIf (nxt ts i) = false) (h4 : isK wWhil (nxt ts i) = false) (h5 : isK wFor (nxt ts i) = false) (h6 : isK wPrin (nxt ts i) = false) (h7 : isK wRet (nxt ts i) = false) (h8 : isK wDo (nxt ts i) = false) : Row Tryz.prog 154 [vR] [rd ts i 0] (vFg 169) [some (rd ts i 0)] := by
  have a1 := is_at ts i (s := sBra) (by decide) h1
  have a2 := is_at ts i (s := wLet) (by decide) h2
  have a3 := is_at ts i (s := wIf) (by decide) h3
  have a4 := is_at ts i (s := wWhil) (by decide) h4
  have a5 := is_at ts i (s := wFor) (by decide) h5
  have a6 := is_at ts i (s := wPrin) (by decide) h6
  have a7 := is_at ts i (s := wRet) (by decide) h7
  have a8 := is_at ts i (s := wDo) (by decide) h8
  clear h1 h2 h3 h4 h5 h6 h7 h8
  refine row_of Tryz.func154 rfl rfl (Nat.le_of_ble_eq_true rfl) ?_
  repeat' (first | refine aw_seq ?_ | refine aw_skip ?_ | refine aw_block ?_ | refine aw_exit ?_ | refine aw_cond rfl (fun _ => ?_) (fun hb => absurd hb (by decide)) | refine aw_cond rfl (fun hb => absurd hb (by decide)) (fun _ => ?_) | (refine aw_reg (fun K hK => ?_); simp -implicitDefEqProofs) | (refine aw_drw mixd (fun K hK => ?_); simp -implicitDefEqProofs) | refine hK _ ?_ | refine hK _ _ (by rfl) ?_ | (refine ar_call (cb a1 0 ?_); simp -implicitDefEqProofs) | (refine ard_call (db a1 0 ?_); simp -implicitDefEqProofs) | (refine ar_call (cb a2 0 ?_); simp -implicitDefEqProofs) | (refine ard_call (db a2 0 ?_); simp -implicitDefEqProofs) | (refine ar_call (cb a3 0 ?_); simp -implicitDefEqProofs) | (refine ard_call (db a3 0 ?_); simp -implicitDefEqProofs) | (refine ar_call (cb a4 0 ?_); simp -implicitDefEqProofs) | (refine ard_call (db a4 0 ?_); simp -implicitDefEqProofs) | (refine ar_call (cb a5 0 ?_); simp -implicitDefEqProofs) | (refine ard_call (db a5 0 ?_); simp -implicitDefEqProofs) | (refine ar_call (cb a6 0 ?_); simp -implicitDefEqProofs) | (refine ard_call (db a6 0 ?_); simp -implicitDefEqProofs) | (refine ar_call (cb a7 0 ?_); simp -implicitDefEqProofs) | (refine ard_call (db a7 0 ?_); simp -implicitDefEqProofs) | (refine ar_call (cb a8 0 ?_); simp -implicitDefEqProofs) | (refine ard_call (db a8 0 ?_); simp -implicitDefEqProofs) | fail)
  refine aw_ret (fin_box ?_); simp -implicitDefEqProofs [FinB, resV, resT] <;> try rfl
set_option maxRecDepth 100000 in
set_option maxHeartbeats 4000000 in
theorem stmt_of (g : Nat) (R : Got) (k : Row Tryz.prog 154 [vR] [rd ts i 0] (vFg g) [some (rd ts i 0)]) (r : Row Tryz.prog g [vR] [rd ts i 0] (vT R.1) [some (rd ts R.2.1 R.2.2)]) : Row Tryz.prog 140 [vR] [rd ts i 0] (vT R.1) [some (rd ts R.2.1 R.2.2)] := by
  have g0 := goes_row ts i 0
  obtain ⟨⟨px, pl⟩, j, e⟩ := R
  refine row_of Tryz.func140 rfl rfl (Nat.le_of_ble_eq_true rfl) ?_
  repeat' (first | refine aw_seq ?_ | refine aw_skip ?_ | refine aw_block ?_ | refine aw_exit ?_ | refine aw_cond rfl (fun _ => ?_) (fun hb => absurd hb (by decide)) | refine aw_cond rfl (fun hb => absurd hb (by decide)) (fun _ => ?_) | (refine aw_reg (fun K hK => ?_); simp -implicitDefEqProofs) | (refine aw_drw mixd (fun K hK => ?_); simp -implicitDefEqProofs) | refine hK _ ?_ | refine hK _ _ (by rfl) ?_ | (refine ar_call (cb g0 0 ?_); simp -implicitDefEqProofs) | (refine ard_call (db g0 0 ?_); simp -implicitDefEqProofs) | (refine ar_call (cb k 0 ?_); simp -implicitDefEqProofs) | (refine ard_call (db k 0 ?_); simp -implicitDefEqProofs) | (refine ar_call (cb r 0 ?_); simp -implicitDefEqProofs) | (refine ard_call (db r 0 ?_); simp -implicitDefEqProofs) | fail)
  refine aw_ret (fin_box ?_); simp -implicitDefEqProofs [FinB, resV, resT] <;> try rfl
end
section
variable (ts : List Tok) (hl : ts.length ≤ 3000000000000)
theorem let_col (i : Nat) (h : isK wLet (nxt ts i) = true) : TT ts sCol (KT ts 1 (WT ts wLet (i, 0))).2 = (decide ((nxt ts (i + 1)).k = 1) && isK sCol (nxt ts (i + 2))) := by
  rw [show WT ts wLet (i, 0) = (i + 1, 0) by unfold WT; simp [h]]
  unfold KT TT
  by_cases h1 : (nxt ts (i + 1)).k = 1
  · simp [h1]
  · simp [h1]
theorem tt_at (i : Nat) (s : ByteArray) : TT ts s (i, 0) = isK s (nxt ts i) := by unfold TT; simp
include hl
set_option maxRecDepth 100000 in
set_option maxHeartbeats 4000000 in
theorem stmt_rows : ∀ n i, ts.length - i < n → i ≤ ts.length → Row Tryz.prog 140 [vR] [rd ts i 0] (vT (sG ts n i).1) [some (rd ts (sG ts n i).2.1 (sG ts n i).2.2)] := by
  intro n
  induction n with
  | zero => intro i h; omega
  | succ n ih =>
    intro i hn hi
    have hrow : ∀ j, i < j → j ≤ ts.length → Row Tryz.prog 140 [vR] [rd ts j 0] (vT (sG ts n j).1) [some (rd ts (sG ts n j).2.1 (sG ts n j).2.2)] := fun j h1 h2 => ih j (by omega) h2
    have hS := sG_ok (ts := ts) n
    by_cases hb : isK sBra (nxt ts i) = true
    · rw [show sG ts (n + 1) i = blG ts (sG ts n) i from if_pos hb]
      have b := block_tot ts hl (sG ts n) hS (sG_two n) i hrow (i, 0) (fun _ => ⟨Nat.le_refl _, hi⟩)
      rw [show OT (blG ts (sG ts n)) (i, 0) = blG ts (sG ts n) i from if_pos rfl] at b
      exact stmt_of ts i _ _ (kind_bra ts i hb) b
    rw [show sG ts (n + 1) i = itH ts (RR ts (sG ts n)) i (frmG ts i).1 0 (frmG ts i).2 i ⟨#[]⟩ [] from if_neg hb]
    unfold frmG
    have hb : isK sBra (nxt ts i) = false := by simpa using hb
    by_cases h1 : isK wLet (nxt ts i) = true
    · rw [if_pos h1]
      have hc := let_col ts i h1
      by_cases h2 : (nxt ts (i + 1)).k = 1 ∧ isK sCol (nxt ts (i + 2)) = true
      · rw [if_pos h2]
        exact stmt_of ts i _ _ (kind_let ts i h1) (let_new ts hl (sG ts n) hS i hi (by rw [hc, h2.2]; simp [h2.1]))
      · rw [if_neg h2]
        refine stmt_of ts i _ _ (kind_let ts i h1) (let_let ts hl (sG ts n) hS i hi ?_)
        rw [hc]
        by_cases h3 : (nxt ts (i + 1)).k = 1
        · have : isK sCol (nxt ts (i + 2)) = false := by simpa using fun h => h2 ⟨h3, h⟩
          simp [this]
        · simp [h3]
    rw [if_neg h1]
    by_cases h2 : isK wIf (nxt ts i) = true
    · rw [if_pos h2]; exact stmt_of ts i _ _ (kind_if ts i h2) (branch_row ts hl (sG ts n) hS (sG_two n) i hi hrow)
    rw [if_neg h2]
    by_cases h3 : isK wWhil (nxt ts i) = true
    · rw [if_pos h3]; exact stmt_of ts i _ _ (kind_while ts i h3) (while_row ts hl (sG ts n) hS (sG_two n) i hi hrow)
    rw [if_neg h3]
    by_cases h4 : isK wFor (nxt ts i) = true
    · rw [if_pos h4]; exact stmt_of ts i _ _ (kind_for ts i h4) (count_row ts hl (sG ts n) hS (sG_two n) i hi hrow)
    rw [if_neg h4]
    by_cases h5 : isK wPrin (nxt ts i) = true
    · rw [if_pos h5]; exact stmt_of ts i _ _ (kind_word ts i _ (.inl rfl) h5) (print_row8 ts hl (sG ts n) hS i hi (by rw [tt_at ts]; exact h5))
    rw [if_neg h5]
    by_cases h6 : isK wRet (nxt ts i) = true
    · rw [if_pos h6]; exact stmt_of ts i _ _ (kind_word ts i _ (.inr (.inl rfl)) h6) (return_row8 ts hl (sG ts n) hS i hi (by rw [tt_at ts]; simpa using h5) (by rw [tt_at ts]; exact h6))
    rw [if_neg h6]
    by_cases h7 : isK wDo (nxt ts i) = true
    · rw [if_pos h7]; exact stmt_of ts i _ _ (kind_word ts i _ (.inr (.inr rfl)) h7) (do_row8 ts hl (sG ts n) hS i hi (by rw [tt_at ts]; simpa using h5) (by rw [tt_at ts]; simpa using h6))
    rw [if_neg h7]
    exact stmt_of ts i _ _ (kind_set ts i hb (by simpa using h1) (by simpa using h2) (by simpa using h3) (by simpa using h4) (by simpa using h5) (by simpa using h6) (by simpa using h7)) (set_row8 ts hl (sG ts n) hS i hi)
end
set_option maxRecDepth 100000 in
set_option maxHeartbeats 4000000 in
theorem begin8_yes (ts : List Tok) (i : Nat) (h : i ≤ ts.length) (g : Nat) (r : Got) (hr : Row Tryz.prog g [vR] [rd ts i 0] (vT r.1) [some (rd ts r.2.1 r.2.2)]) (hz : r.2.2 ≠ 0 → r.1 = z0) : Row Tryz.prog 127 [vKs ts, vI i, .v (.c (.fn (.func g) [] []))] [] (vT3 r) [] := by
  have h1 := new_yes ts i h
  obtain ⟨⟨px, pl⟩, j, e⟩ := r
  have g1 := goes_row ts j e
  have p1 := place_row ts j e
  have e1 := err_row ts j e
  dsimp only at hr hz
  by_cases he : e = 0
  · subst he
    clear hz
    refine row_of Tryz.func127 rfl rfl (Nat.le_of_ble_eq_true rfl) ?_
    repeat' (first | refine aw_seq ?_ | refine aw_skip ?_ | refine aw_block ?_ | refine aw_exit ?_ | refine aw_cond rfl (fun _ => ?_) (fun hb => absurd hb (by decide)) | refine aw_cond rfl (fun hb => absurd hb (by decide)) (fun _ => ?_) | (refine aw_reg (fun K hK => ?_); simp -implicitDefEqProofs) | (refine aw_drw mixd (fun K hK => ?_); simp -implicitDefEqProofs) | refine hK _ ?_ | refine hK _ _ (by rfl) ?_ | (refine ar_call (cp h1 ?_); simp -implicitDefEqProofs) | (refine ard_call (dp h1 ?_); simp -implicitDefEqProofs) | (refine ar_call (cb hr 23 ?_); simp -implicitDefEqProofs) | (refine ard_call (db hr 23 ?_); simp -implicitDefEqProofs) | (refine ar_call (cb g1 23 ?_); simp -implicitDefEqProofs) | (refine ard_call (db g1 23 ?_); simp -implicitDefEqProofs) | (refine ar_call (cb p1 23 ?_); simp -implicitDefEqProofs) | (refine ard_call (db p1 23 ?_); simp -implicitDefEqProofs) | fail)
    refine aw_ret (fin_ret ?_); simp -implicitDefEqProofs [FinP, resV, resT] <;> try rfl
  · have hz := hz he
    rw [show (Tr.mk px pl, j, e) = (z0, j, e) by rw [hz]]
    clear hz
    refine row_of Tryz.func127 rfl rfl (Nat.le_of_ble_eq_true rfl) ?_
    repeat' (first | refine aw_seq ?_ | refine aw_skip ?_ | refine aw_block ?_ | refine aw_exit ?_ | refine aw_cond rfl (fun _ => ?_) (fun hb => absurd hb (by decide)) | refine aw_cond rfl (fun hb => absurd hb (by decide)) (fun _ => ?_) | (refine aw_reg (fun K hK => ?_); simp -implicitDefEqProofs [he]) | (refine aw_drw mixd (fun K hK => ?_); simp -implicitDefEqProofs [he]) | refine hK _ ?_ | refine hK _ _ (by rfl) ?_ | (refine ar_call (cp h1 ?_); simp -implicitDefEqProofs [he]) | (refine ard_call (dp h1 ?_); simp -implicitDefEqProofs [he]) | (refine ar_call (cb hr 23 ?_); simp -implicitDefEqProofs [he]) | (refine ard_call (db hr 23 ?_); simp -implicitDefEqProofs [he]) | (refine ar_call (cb g1 23 ?_); simp -implicitDefEqProofs [he]) | (refine ard_call (db g1 23 ?_); simp -implicitDefEqProofs [he]) | (refine ar_call (cb p1 23 ?_); simp -implicitDefEqProofs [he]) | (refine ard_call (db p1 23 ?_); simp -implicitDefEqProofs [he]) | (refine ar_call (cb e1 23 ?_); simp -implicitDefEqProofs [he]) | (refine ard_call (db e1 23 ?_); simp -implicitDefEqProofs [he]) | fail)
    refine aw_ret (fin_ret ?_); simp -implicitDefEqProofs [FinP, resV, resT, z0] <;> try rfl
noncomputable def Bx8 (ts : List Tok) (i : Nat) : Got := blG ts (sG ts (ts.length + 1)) i
set_option maxRecDepth 100000 in
set_option maxHeartbeats 4000000 in
theorem sblock_yes (ts : List Tok) (hl : ts.length ≤ 3000000000000) (i : Nat) (h : i ≤ ts.length) : Row Tryz.prog 90 [vKs ts, vI i] [] (vT3 (Bx8 ts i)) [] := by
  have hb := block_tot ts hl (sG ts (ts.length + 1)) (sG_ok _) (sG_two _) i (fun j h1 h2 => stmt_rows ts hl _ j (by omega) h2) (i, 0) (fun _ => ⟨Nat.le_refl _, h⟩)
  rw [show OT (blG ts (sG ts (ts.length + 1))) (i, 0) = Bx8 ts i from if_pos rfl] at hb
  have h1 := begin8_yes ts i h 128 _ hb (fun hh => ((blG_ok (sG_ok (ts := ts) _) i h).ok.no hh).2)
  clear hb
  obtain ⟨⟨⟨px, pl⟩, j, e⟩, hr⟩ : ∃ r, Bx8 ts i = r := ⟨_, rfl⟩
  rw [hr] at h1 ⊢
  refine row_of Tryz.func90 rfl rfl (Nat.le_of_ble_eq_true rfl) ?_
  repeat' (first | refine aw_seq ?_ | refine aw_skip ?_ | refine aw_block ?_ | refine aw_exit ?_ | refine aw_cond rfl (fun _ => ?_) (fun hb => absurd hb (by decide)) | refine aw_cond rfl (fun hb => absurd hb (by decide)) (fun _ => ?_) | (refine aw_reg (fun K hK => ?_); simp -implicitDefEqProofs) | (refine aw_drw mixd (fun K hK => ?_); simp -implicitDefEqProofs) | refine hK _ ?_ | refine hK _ _ (by rfl) ?_ | (refine ar_call (cp h1 ?_); simp -implicitDefEqProofs) | (refine ard_call (dp h1 ?_); simp -implicitDefEqProofs) | fail)
  refine aw_ret (fin_ret ?_); simp -implicitDefEqProofs [FinP, resV, resT] <;> try rfl
end Go.Proofs.YthcnligihpnfiaaGreatDoor.am
end
section
namespace Go.Proofs.YthcnligihpnfiaaGreatDoor.vt
open Go.Proofs.YthcnligihpnfiaaGreatDoor.am
set_option linter.unusedVariables false
def ChL (lo hi : Int) : List VT → Prop
  | [] => lo ≤ hi
  | y :: l => lo ≤ y.lab.f ∧ y.lab.f ≤ y.lab.t ∧ ChL y.lab.t hi l
inductive Wi : VT → Prop where
  | mk (x : Lab) (l : List VT) (hc : ChL x.f x.t l) (hl : ∀ y ∈ l, Wi y) : Wi (.mk x l)
theorem chl_le : ∀ {l : List VT} {lo hi : Int}, ChL lo hi l → lo ≤ hi
  | [], lo, hi, h => h
  | y :: l, lo, hi, ⟨h1, h2, h3⟩ => by have := chl_le h3; omega
theorem chl_mono : ∀ {l : List VT} {lo hi hi' : Int}, ChL lo hi l → hi ≤ hi' → ChL lo hi' l
  | [], lo, hi, hi', h, h' => Int.le_trans h h'
  | y :: l, lo, hi, hi', ⟨h1, h2, h3⟩, h' => ⟨h1, h2, chl_mono h3 h'⟩
theorem chl_snoc : ∀ {l : List VT} {lo hi hi' : Int} {y : VT}, ChL lo hi l → hi ≤ y.lab.f → y.lab.f ≤ y.lab.t → y.lab.t ≤ hi' → ChL lo hi' (l ++ [y])
  | [], lo, hi, hi', y, h, h1, h2, h3 => ⟨Int.le_trans h h1, h2, h3⟩
  | z :: l, lo, hi, hi', y, ⟨a1, a2, a3⟩, h1, h2, h3 => ⟨a1, a2, chl_snoc a3 h1 h2 h3⟩
def I6 (z : Int) : Prop := -9223372036854775808 ≤ z ∧ z ≤ 9223372036854775807
instance (z : Int) : Decidable (I6 z) := by unfold I6; infer_instance
def A6 (x : Lab) : Prop := I6 x.k ∧ I6 x.n ∧ I6 x.f ∧ I6 x.t
structure TO (ts : List Tok) : Prop where
  b : ∀ i, i < ts.length → I6 (nxt ts i).n ∧ I6 (nxt ts i).f ∧ I6 (nxt ts i).t
  w : ∀ i, i < ts.length → frT ts i ≤ toT ts i
  o : ∀ i, i + 1 < ts.length → toT ts i ≤ frT ts (i + 1)
section
variable {ts : List Tok} (ht : TO ts)
include ht
theorem to_fr {i j : Nat} (h : i < j) (hj : j < ts.length) : toT ts i ≤ frT ts j := by
  obtain ⟨d, rfl⟩ : ∃ d, j = i + 1 + d := ⟨j - i - 1, by omega⟩
  clear h
  induction d with
  | zero => exact ht.o i hj
  | succ d ih =>
    have h1 := ih (by omega)
    have h2 := ht.w (i + 1 + d) (by omega)
    have h3 := ht.o (i + 1 + d) (by omega)
    show toT ts i ≤ frT ts (i + 1 + d + 1)
    omega
theorem fr_fr {i j : Nat} (h : i ≤ j) (hj : j < ts.length) : frT ts i ≤ frT ts j := by
  rcases Nat.lt_or_ge i j with h1 | h1
  · have := ht.w i (by omega); have := to_fr ht h1 hj; omega
  · have : i = j := by omega
    subst this; exact Int.le_refl _
theorem to_to {i j : Nat} (h : i ≤ j) (hj : j < ts.length) : toT ts i ≤ toT ts j := by
  rcases Nat.lt_or_ge i j with h1 | h1
  · have := to_fr ht h1 hj; have := ht.w j hj; omega
  · have : i = j := by omega
    subst this; exact Int.le_refl _
omit ht
structure PlG (ts : List Tok) (i : Nat) (x : Got) : Prop where
  fr : frT ts i ≤ x.1.lab.f
  ft : x.1.lab.f ≤ x.1.lab.t
  to : x.1.lab.t ≤ toT ts (x.2.1 - 1)
  wi : Wi x.1
  ne : (nxt ts (x.2.1 - 1)).k ≠ 5
  al : Tr.all A6 x.1
def Pl (ts : List Tok) (i : Nat) (x : Got) : Prop := x.2.2 = 0 → PlG ts i x
def pe (ts : List Tok) (a to : Nat) : Int := if a < to then toT ts (to - 1) else frT ts a
structure PS (ts : List Tok) (a to : Nat) (l : List VT) : Prop where
  ch : ChL (frT ts a) (pe ts a to) l
  wi : ∀ y ∈ l, Wi y
  al : ∀ y ∈ l, Tr.all A6 y
include ht
theorem pe_mono {a b c : Nat} (hab : a ≤ b) (hbc : b ≤ c) (hc : c ≤ ts.length) : pe ts a b ≤ pe ts a c := by
  unfold pe
  by_cases h1 : a < b
  · rw [if_pos h1, if_pos (by omega)]; exact to_to ht (by omega) (by omega)
  · rw [if_neg h1]
    by_cases h2 : a < c
    · rw [if_pos h2]
      have := ht.w a (by omega)
      have := to_to ht (show a ≤ c - 1 by omega) (by omega)
      omega
    · rw [if_neg h2]; exact Int.le_refl _
theorem pe_lo {a b : Nat} (hab : a ≤ b) (hb : b ≤ ts.length) : frT ts a ≤ pe ts a b := by
  have := pe_mono ht (Nat.le_refl a) hab hb
  rwa [show pe ts a a = frT ts a from if_neg (Nat.lt_irrefl a)] at this
theorem pe_fr {a b j : Nat} (hab : a ≤ b) (hbj : b ≤ j) (hj : j < ts.length) : pe ts a b ≤ frT ts j := by
  unfold pe
  by_cases h1 : a < b
  · rw [if_pos h1]; exact to_fr ht (by omega) hj
  · rw [if_neg h1]; exact fr_fr ht (by omega) hj
theorem ps_nil {a b : Nat} (hab : a ≤ b) (hb : b ≤ ts.length) : PS ts a b [] := ⟨pe_lo ht hab hb, (fun y h => by cases h), (fun y h => by cases h)⟩
theorem ps_mono {a b c : Nat} {l : List VT} (h : PS ts a b l) (hab : a ≤ b) (hbc : b ≤ c) (hc : c ≤ ts.length) : PS ts a c l := ⟨chl_mono h.ch (pe_mono ht hab hbc hc), h.wi, h.al⟩
theorem ps_snoc {a b j : Nat} {l : List VT} {x : Got} (h : PS ts a b l) (hab : a ≤ b) (hbj : b ≤ j) (hk : OkG ts j x) (h0 : x.2.2 = 0) (hx : Pl ts j x) : PS ts a x.2.1 (l ++ [x.1]) := by
  have hy := hk.yes h0
  have hp := hx h0
  refine ⟨chl_snoc h.ch ?_ hp.ft ?_, fun y hyl => ?_, fun y hyl => ?_⟩
  · have := pe_fr ht hab hbj (show j < ts.length by omega)
    have := hp.fr
    omega
  · rw [show pe ts a x.2.1 = toT ts (x.2.1 - 1) from if_pos (by omega)]; exact hp.to
  · rcases List.mem_append.1 hyl with h1 | h1
    · exact h.wi y h1
    · rw [List.mem_singleton.1 h1]; exact hp.wi
  · rcases List.mem_append.1 hyl with h1 | h1
    · exact h.al y h1
    · rw [List.mem_singleton.1 h1]; exact hp.al
theorem pl_mk {a b i : Nat} {k n : Int} {s : ByteArray} {l : List VT} (h : PS ts a b l) (hab : a < b) (hb : b ≤ ts.length) (hia : i ≤ a) (hne : (nxt ts (b - 1)).k ≠ 5) (hk6 : I6 k) (hn6 : I6 n) : Pl ts i (mk7 ts a b k n s l) := fun _ => by
  have h1 := ht.w a (by omega)
  have h2 := to_to ht (show a ≤ b - 1 by omega) (by omega)
  have hc := h.ch
  rw [show pe ts a b = toT ts (b - 1) from if_pos hab] at hc
  exact ⟨fr_fr ht hia (by omega), by show frT ts a ≤ toT ts (b - 1); omega, Int.le_refl _, .mk _ _ hc h.wi, hne, (Tr.all_mk _ _ _).2 ⟨⟨hk6, hn6, (ht.b a (by omega)).2.1, (ht.b (b - 1) (by omega)).2.2⟩, h.al⟩⟩
theorem ps_one {a : Nat} {x : Got} (hk : OkG ts a x) (h0 : x.2.2 = 0) (hx : Pl ts a x) : PS ts a x.2.1 [x.1] := by
  have := hk.yes h0
  have := ps_snoc ht (ps_nil ht (Nat.le_refl a) (by omega)) (Nat.le_refl a) (Nat.le_refl a) hk h0 hx
  simpa using this
theorem ps_two {a j : Nat} {x y : Got} (hk : OkG ts a x) (h0 : x.2.2 = 0) (hx : Pl ts a x) (hj : x.2.1 ≤ j) (hk' : OkG ts j y) (h0' : y.2.2 = 0) (hy : Pl ts j y) : PS ts a y.2.1 [x.1, y.1] := by
  have := hk.yes h0
  have := ps_snoc ht (ps_one ht hk h0 hx) (by omega) hj hk' h0' hy
  simpa using this
theorem pl_up {i j : Nat} {x : Got} (h : Pl ts j x) (hij : i ≤ j) (hj : j < ts.length) : Pl ts i x := fun h0 => by
  have := fr_fr ht hij hj
  have hp := h h0
  exact ⟨by have := hp.fr; omega, hp.ft, hp.to, hp.wi, hp.ne, hp.al⟩
omit ht in
theorem ne_isK {s : ByteArray} {j : Nat} (h : isK s (nxt ts j) = true) : (nxt ts j).k ≠ 5 := by
  have : (nxt ts j).k = quo s := by unfold isK at h; simp at h; exact h.1
  rcases quo_34 s with h1 | h1 <;> omega
omit ht in
theorem ne_k {k : Int} {j : Nat} (h : (nxt ts j).k = k) (hk : k ≠ 5) : (nxt ts j).k ≠ 5 := by omega
omit ht in
theorem i6_ite {c : Prop} [Decidable c] {a b : Int} (ha : I6 a) (hb : I6 b) : I6 (if c then a else b) := by
  by_cases h : c
  · rw [if_pos h]; exact ha
  · rw [if_neg h]; exact hb
omit ht in
theorem op_i6 (x : Tok) : I6 (opK x).1 := by
  unfold opK opS
  simp only [apply_ite Prod.fst]
  repeat' (refine i6_ite ?_ ?_)
  all_goals decide
omit ht in
theorem un_i6 (i : Nat) : I6 (unN ts i) := by
  unfold unN
  repeat' (refine i6_ite ?_ ?_)
  all_goals decide
omit ht in
theorem frm_i6 (i : Nat) : I6 (frmG ts i).1 := by
  unfold frmG
  simp only [apply_ite Prod.fst]
  repeat' (refine i6_ite ?_ ?_)
  all_goals decide
omit ht in
theorem pl_err {i : Nat} {x : Got} (h : x.2.2 ≠ 0) : Pl ts i x := fun h0 => absurd h0 h
omit ht in
theorem pl_bad {i j : Nat} : Pl ts i (bad7 j) := fun h => by simp [bad7] at h
theorem lpL_pl {P : Nat → Got} {l a : Nat} (hl : l ≤ 5) (hP : ∀ j, j ≤ ts.length → OkG ts j (P j)) (hS : ∀ j, j ≤ ts.length → Pl ts j (P j)) : ∀ (m : Nat) (t : Bool) (x : Got), OkG ts a x → Pl ts a x → Pl ts a (lpL ts P l a m t x) := by
  intro m
  induction m with
  | zero => intro t x hx hs; exact hs
  | succ m ih =>
    intro t x hx hs
    unfold lpL
    split
    · exact hs
    · rename_i h0
      have h0 : x.2.2 = 0 := by simpa using h0
      split
      · exact hs
      · rename_i h1
        have h1 : (opK (nxt ts x.2.1)).2 = l := by simpa using (not_or.1 h1).1
        have hlt := op_lt h1 hl
        have hp := hP (x.2.1 + 1) (by omega)
        have hy := hx.yes h0
        split
        · rename_i h2; exact pl_err h2
        · rename_i h2
          have h2 : (P (x.2.1 + 1)).2.2 = 0 := by simpa using h2
          have := hp.yes h2
          exact ih true _ (ok_mk (by omega) this.2) (pl_mk ht (ps_two ht hx h0 hs (Nat.le_succ _) hp h2 (hS _ (by omega))) (by omega) this.2 (Nat.le_refl a) (hS _ (by omega) h2).ne (by decide) (op_i6 _))
theorem lpP_pl {E : Nat → Got} {a : Nat} (hE : ∀ j, j ≤ ts.length → OkG ts j (E j)) (hS : ∀ j, j ≤ ts.length → Pl ts j (E j)) : ∀ (m : Nat) (x : Got), OkG ts a x → Pl ts a x → Pl ts a (lpP ts E a m x) := by
  intro m
  induction m with
  | zero => intro x hx hs; exact hs
  | succ m ih =>
    intro x hx hs
    unfold lpP
    split
    · exact hs
    · rename_i h0
      have h0 : x.2.2 = 0 := by simpa using h0
      have hy := hx.yes h0
      split
      · rename_i h1
        have hlt := isK_lt h1
        have hp := hE (x.2.1 + 1) (by omega)
        split
        · rename_i h2; exact pl_err h2
        · rename_i h2
          have h2 : (E (x.2.1 + 1)).2.2 = 0 := by simpa using h2
          have hyy := hp.yes h2
          split
          · exact pl_bad
          · rename_i h3
            have := isK_lt (s := sShut) (ts := ts) (by simpa using h3)
            exact ih _ (ok_mk (by omega) (by omega)) (pl_mk ht (ps_mono ht (ps_two ht hx h0 hs (Nat.le_succ _) hp h2 (hS _ (by omega))) (by omega) (Nat.le_succ _) (by omega)) (by omega) (by omega) (Nat.le_refl a) (ne_isK (s := sShut) (by simpa using h3)) (by decide) (by decide))
      · split
        · rename_i h1
          have hlt := isK_lt h1
          split
          · exact pl_bad
          · rename_i h3
            have := k_lt (ts := ts) (k := 1) (by simpa using h3) (by decide)
            exact ih _ (ok_mk (by omega) (by omega)) (pl_mk ht (ps_mono ht (ps_one ht hx h0 hs) (by omega) (by omega) (by omega)) (by omega) (by omega) (Nat.le_refl a) (ne_k (k := 1) (by simpa using h3) (by decide)) (by decide) (by decide))
        · exact hs
theorem lpC_pl {E : Nat → Got} (hE : ∀ j, j ≤ ts.length → OkG ts j (E j)) (hS : ∀ j, j ≤ ts.length → Pl ts j (E j)) (a : Nat) : ∀ (m i : Nat) (acc : List VT), a ≤ i → i ≤ ts.length → PS ts a i acc → (lpC ts E m i acc).2.2 = 0 → PS ts a (lpC ts E m i acc).2.1 (lpC ts E m i acc).1 := by
  intro m
  induction m with
  | zero => intro i acc _ _ _ h; simp [lpC] at h
  | succ m ih =>
    intro i acc hai hi hs h
    unfold lpC at h ⊢
    have hp := hE i hi
    by_cases h1 : (E i).2.2 = 0; rotate_left
    · rw [if_pos h1] at h; exact absurd h h1
    rw [if_neg (by simp [h1])] at h ⊢
    have hy := hp.yes h1
    have hn := ps_snoc ht hs hai (Nat.le_refl i) hp h1 (hS i hi)
    by_cases h2 : isK sCom (nxt ts (E i).2.1) = false
    · rw [if_pos h2]; exact hn
    · rw [if_neg h2] at h ⊢
      have hlt := isK_lt (s := sCom) (ts := ts) (by simpa using h2)
      exact ih _ _ (by omega) (by omega) (ps_mono ht hn (by omega) (Nat.le_succ _) (by omega)) h
theorem cloG_pl {E : Nat → Got} (hE : ∀ j, j ≤ ts.length → OkG ts j (E j)) (hS : ∀ j, j ≤ ts.length → Pl ts j (E j)) (a : Nat) {o : Nat} (hao : a ≤ o) (few : Bool) (fs ls : ByteArray) (ho : o ≤ ts.length) (h : (cloG ts E o few fs ls).2.2 = 0) : PS ts a (cloG ts E o few fs ls).2.1 (cloG ts E o few fs ls).1 := by
  unfold cloG at h ⊢
  by_cases h0 : isK fs (nxt ts o) = false
  · rw [if_pos h0] at h; simp at h
  rw [if_neg h0] at h ⊢
  have hlt := isK_lt (s := fs) (ts := ts) (by simpa using h0)
  by_cases h1 : few = true ∧ isK ls (nxt ts (o + 1)) = true
  · rw [if_pos h1]
    have := isK_lt h1.2
    exact ps_nil ht (by dsimp only; omega) (by dsimp only; omega)
  rw [if_neg h1] at h ⊢
  have hk := lpC_ok hE (ts.length + 1) (o + 1) [] (by omega)
  by_cases h2 : (lpC ts E (ts.length + 1) (o + 1) []).2.2 = 0; rotate_left
  · rw [if_pos h2] at h; exact absurd h h2
  rw [if_neg (by simp [h2])] at h ⊢
  have hc := lpC_pl ht hE hS a (ts.length + 1) (o + 1) [] (by omega) (by omega) (ps_nil ht (by omega) (by omega)) h2
  have hle := hk.le
  by_cases h3 : isK ls (nxt ts (lpC ts E (ts.length + 1) (o + 1) []).2.1) = false
  · rw [if_pos h3] at h; simp at h
  · rw [if_neg h3]
    have := isK_lt (s := ls) (ts := ts) (by simpa using h3)
    exact ps_mono ht hc (by omega) (Nat.le_succ _) (by dsimp only; omega)
omit ht in
theorem cloG_ne {E : Nat → Got} {o : Nat} {few : Bool} {fs ls : ByteArray} (h : (cloG ts E o few fs ls).2.2 = 0) : (nxt ts ((cloG ts E o few fs ls).2.1 - 1)).k ≠ 5 := by
  unfold cloG at h ⊢
  by_cases h0 : isK fs (nxt ts o) = false
  · rw [if_pos h0] at h; simp at h
  rw [if_neg h0] at h ⊢
  by_cases h1 : few = true ∧ isK ls (nxt ts (o + 1)) = true
  · rw [if_pos h1]; exact ne_isK h1.2
  rw [if_neg h1] at h ⊢
  by_cases h2 : (lpC ts E (ts.length + 1) (o + 1) []).2.2 = 0; rotate_left
  · rw [if_pos h2] at h; exact absurd h h2
  rw [if_neg (by simp [h2])] at h ⊢
  by_cases h3 : isK ls (nxt ts (lpC ts E (ts.length + 1) (o + 1) []).2.1) = false
  · rw [if_pos h3] at h; simp at h
  · rw [if_neg h3]; exact ne_isK (s := ls) (by simpa using h3)
theorem fin_pl {i o : Nat} {k : Int} {s : ByteArray} {c : List VT × Nat × Int} (hk : OkC ts o c) (h : c.2.2 = 0 → PS ts i c.2.1 c.1) (hn : c.2.2 = 0 → (nxt ts (c.2.1 - 1)).k ≠ 5) (hi : i ≤ o) (hk6 : I6 k) : Pl ts i (finC ts i k s c) := by
  unfold finC
  split
  · rename_i h0; exact fun h => absurd h h0
  · rename_i h0
    have h0 : c.2.2 = 0 := by simpa using h0
    exact pl_mk ht (h h0) (by have := hk.yes h0; omega) hk.le.2 (Nat.le_refl i) (hn h0) hk6 (by decide)
theorem calG_pl {E : Nat → Got} (hE : ∀ j, j ≤ ts.length → OkG ts j (E j)) (hS : ∀ j, j ≤ ts.length → Pl ts j (E j)) (i : Nat) (hi : i ≤ ts.length) : Pl ts i (calG ts E i) := by
  unfold calG
  split
  · rename_i h; have := k_lt h (by decide)
    exact fin_pl ht (cloG_ok hE true sParO sParS (by omega)) (cloG_pl ht hE hS i (by omega) true sParO sParS (by omega)) cloG_ne (by omega) (by decide)
  split
  · rename_i h; have := isK_lt h
    exact fin_pl ht (cloG_ok hE false sOpen sShut (by omega)) (cloG_pl ht hE hS i (by omega) false sOpen sShut (by omega)) cloG_ne (by omega) (by decide)
  split
  · rename_i h; have := isK_lt h
    split
    · exact pl_bad
    · rename_i h2; have := k_lt (ts := ts) (k := 1) (by simpa using h2) (by decide)
      exact fin_pl ht (cloG_ok hE true sParO sParS (by omega)) (cloG_pl ht hE hS i (by omega) true sParO sParS (by omega)) cloG_ne (by omega) (by decide)
  split
  · rename_i h; have := isK_lt h
    split
    · exact pl_bad
    · rename_i h2; have := k_lt (ts := ts) (k := 1) (by simpa using h2) (by decide)
      exact fin_pl ht (cloG_ok hE false sParO sParS (by omega)) (cloG_pl ht hE hS i (by omega) false sParO sParS (by omega)) cloG_ne (by omega) (by decide)
  · exact pl_bad
theorem atoG_pl {E : Nat → Got} (hE : ∀ j, j ≤ ts.length → OkG ts j (E j)) (hS : ∀ j, j ≤ ts.length → Pl ts j (E j)) (i : Nat) (hi : i ≤ ts.length) : Pl ts i (atoG ts E i) := by
  have one : ∀ (k n : Int) (s : ByteArray), i < ts.length → (nxt ts i).k ≠ 5 → I6 k → I6 n → Pl ts i (mk7 ts i (i + 1) k n s []) := fun k n s h hn h6 h7 => pl_mk ht (ps_nil ht (by omega) (by omega)) (by omega) (by omega) (Nat.le_refl i) hn h6 h7
  unfold atoG
  split
  · rename_i h; exact one _ _ _ (k_lt h (by decide)) (ne_k h (by decide)) (by decide) (ht.b i (k_lt h (by decide))).1
  split
  · rename_i h; exact one _ _ _ (isK_lt h) (ne_isK h) (by decide) (by decide)
  split
  · rename_i h; exact one _ _ _ (isK_lt h) (ne_isK h) (by decide) (by decide)
  split
  · rename_i h; exact one _ _ _ (isK_lt h) (ne_isK h) (by decide) (by decide)
  split
  · rename_i h; exact one _ _ _ (k_lt h.1 (by decide)) (ne_k h.1 (by decide)) (by decide) (by decide)
  split
  · rename_i h
    have := isK_lt h
    have hp := hE (i + 1) (by omega)
    split
    · rename_i h2; exact pl_err h2
    · rename_i h2
      have h2 : (E (i + 1)).2.2 = 0 := by simpa using h2
      have hy := hp.yes h2
      have q := pl_up ht (hS (i + 1) (by omega)) (Nat.le_succ i) (by omega) h2
      split
      · exact pl_bad
      · rename_i h3
        have := isK_lt (s := sParS) (ts := ts) (by simpa using h3)
        refine fun _ => ⟨q.fr, q.ft, ?_, q.wi, ne_isK (s := sParS) (by simpa using h3), q.al⟩
        have := q.to
        have := to_to ht (show (E (i + 1)).2.1 - 1 ≤ (E (i + 1)).2.1 + 1 - 1 by omega) (by omega)
        dsimp only
        omega
  · exact calG_pl ht hE hS i hi
theorem bG_pl {R : Nat → Nat → Got} (hR : ∀ w j, j ≤ ts.length → OkG ts j (R w j)) (hS : ∀ w j, j ≤ ts.length → Pl ts j (R w j)) (w i : Nat) (hi : i ≤ ts.length) : Pl ts i (bG ts R w i) := by
  unfold bG
  split
  · rename_i h; exact lpL_pl ht h (hR _) (hS _) _ _ _ (hR _ i hi) (hS _ i hi)
  split
  · split
    · exact hS 7 i hi
    · rename_i h
      have hlt : i < ts.length := by
        unfold unN at h
        by_cases h1 : isK sNot (nxt ts i) = true
        · exact isK_lt h1
        · by_cases h2 : isK sMin (nxt ts i) = true
          · exact isK_lt h2
          · simp [h1, h2] at h
      split
      · rename_i h2; exact pl_err h2
      · rename_i h2
        have h2 : (R 6 (i + 1)).2.2 = 0 := by simpa using h2
        have hy := (hR 6 (i + 1) (by omega)).yes h2
        have := ps_snoc ht (ps_nil ht (Nat.le_succ i) (by omega)) (Nat.le_succ i) (Nat.le_refl (i + 1)) (hR 6 (i + 1) (by omega)) h2 (hS 6 (i + 1) (by omega))
        exact pl_mk ht (by simpa using this) (by omega) hy.2 (Nat.le_refl i) (hS 6 (i + 1) (by omega) h2).ne (by decide) (un_i6 i)
  split
  · exact lpP_pl ht (hR 1) (hS 1) _ _ (hR 8 i hi) (hS 8 i hi)
  · exact atoG_pl ht (hR 1) (hS 1) i hi
theorem pG_pl : ∀ (n w i : Nat), i ≤ ts.length → Pl ts i (pG ts n w i) := by
  intro n
  induction n with
  | zero => intro w i _; exact pl_bad
  | succ n ih => intro w i hi; exact bG_pl ht (pG_ok n) ih w i hi
theorem Q_pl (w i : Nat) (hi : i ≤ ts.length) : Pl ts i (Qx ts w i) := pG_pl ht _ w i hi
theorem tyG_pl : ∀ (n i : Nat), i ≤ ts.length → Pl ts i (tyG ts n i) := by
  have one : ∀ (i : Nat) (k : Int) (s : ByteArray), i < ts.length → (nxt ts i).k ≠ 5 → I6 k → Pl ts i (mk7 ts i (i + 1) k 0 s []) := fun i k s h hn h6 => pl_mk ht (ps_nil ht (by omega) (by omega)) (by omega) (by omega) (Nat.le_refl i) hn h6 (by decide)
  intro n
  induction n with
  | zero => intro i _; exact pl_bad
  | succ n ih =>
    intro i hi
    unfold tyG
    split
    · rename_i h; exact one i 1 _ (isK_lt h) (ne_isK h) (by decide)
    split
    · rename_i h; exact one i 2 _ (isK_lt h) (ne_isK h) (by decide)
    split
    · rename_i h
      have h0 := isK_lt h
      split
      · rename_i h1
        have h1 := k_lt h1 (by decide)
        split
        · rename_i h2
          have h2 := isK_lt h2
          obtain ⟨a1, a2, a3, a4⟩ := tyG_ok ts n (i + 3)
          split
          · rename_i h3
            have hy := a1 h3
            have := ps_snoc ht (ps_nil ht (show i ≤ i + 3 by omega) (by omega)) (by omega) (Nat.le_refl (i + 3)) (⟨a1, a2, fun _ => by omega⟩ : OkG ts (i + 3) (tyG ts n (i + 3))) h3 (ih (i + 3) (by omega))
            exact pl_mk ht (by simpa using this) (by omega) hy.2 (Nat.le_refl i) (ih (i + 3) (by omega) h3).ne (by decide) (ht.b (i + 1) (by omega)).1
          · rename_i h3; exact pl_err h3
        · exact pl_bad
      · exact pl_bad
    · split
      · rename_i h; exact one i 4 _ (k_lt h (by decide)) (ne_k h (by decide)) (by decide)
      · exact pl_bad
theorem itG_pl {R : Nat → Nat → Got} (hR : ∀ w j, j ≤ ts.length → OkS ts (if w = 2 then 1 else 0) j (R w j)) (hS : ∀ w j, j ≤ ts.length → Pl ts j (R w j)) (a : Nat) (k : Int) {n : Int} (hk6 : I6 k) (hn6 : I6 n) : ∀ (l : List It) (to : Nat) (s : ByteArray) (ps : List VT) (c : Nat), c + sm ps + a ≤ to → to ≤ ts.length → Cr c l → PS ts a to ps → (a < to → (nxt ts (to - 1)).k ≠ 5) → Pl ts a (itH ts R a k n l to s ps)
  | [], to, s, ps, c, h1, h2, h3, h4, h6 => by
    unfold Cr at h3
    rw [itH]
    exact pl_mk ht h4 (by omega) h2 (Nat.le_refl a) (h6 (by omega)) hk6 hn6
  | .sgn x :: l, to, s, ps, c, h1, h2, h3, h4, h6 => by
    unfold itH
    split
    · rename_i h; have := isK_lt h; exact itG_pl hR hS a k hk6 hn6 l (to + 1) s ps (c + 1) (by omega) (by omega) h3 (ps_mono ht h4 (by omega) (Nat.le_succ _) (by omega)) (fun _ => ne_isK h)
    · exact pl_bad
  | .nam :: l, to, s, ps, c, h1, h2, h3, h4, h6 => by
    unfold itH
    split
    · rename_i h; have := k_lt h (by decide); exact itG_pl hR hS a k hk6 hn6 l (to + 1) _ ps (c + 1) (by omega) (by omega) h3 (ps_mono ht h4 (by omega) (Nat.le_succ _) (by omega)) (fun _ => ne_k h (by decide))
    · exact pl_bad
  | .sub w :: l, to, s, ps, c, h1, h2, h3, h4, h6 => by
    unfold itH
    have hr := hR w to h2
    split
    · rename_i h
      have hy := hr.ok.yes h
      have hs := hr.sz h
      refine itG_pl hR hS a k hk6 hn6 l _ s _ _ ?_ hy.2 h3 (ps_snoc ht h4 (by omega) (Nat.le_refl to) hr.ok h (hS w to h2)) (fun _ => (hS w to h2 h).ne)
      rw [sm_app]
      split at hs <;> split <;> omega
    · rename_i h; exact pl_err h
  | .els :: l, to, s, ps, c, h1, h2, h3, h4, h6 => by
    unfold itH
    split
    · rename_i h
      have hlt := isK_lt h
      have hr := hR 2 (to + 1) (by omega)
      split
      · rename_i h
        have hy := hr.ok.yes h
        have hs := hr.sz h
        refine itG_pl hR hS a k hk6 hn6 l _ s _ _ ?_ hy.2 h3.2 (ps_snoc ht h4 (by omega) (Nat.le_succ to) hr.ok h (hS 2 _ (by omega))) (fun _ => (hS 2 _ (by omega) h).ne)
        rw [sm_app]
        rw [if_pos rfl] at hs
        omega
      · rename_i h; exact pl_err h
    · have h5 := h3.1
      refine itG_pl hR hS a k hk6 hn6 l to s _ _ ?_ h2 h3.2 ⟨chl_snoc h4.ch ?_ (Int.le_refl _) ?_, fun y hy => ?_, fun y hy => ?_⟩ h6
      · rw [sm_app]
        show c - 1 + (sm ps + Tr.size (Tr.mk _ [])) + a ≤ to
        rw [Tr.size_mk]
        simp
        omega
      · rw [show pe ts a to = toT ts (to - 1) from if_pos (by omega)]; exact Int.le_refl _
      · rw [show pe ts a to = toT ts (to - 1) from if_pos (by omega)]; exact Int.le_refl _
      · rcases List.mem_append.1 hy with h | h
        · exact h4.wi y h
        · rw [List.mem_singleton.1 h]; exact .mk _ _ (Int.le_refl _) (fun y h => by cases h)
      · rcases List.mem_append.1 hy with h | h
        · exact h4.al y h
        · rw [List.mem_singleton.1 h]
          have := (ht.b (to - 1) (by omega)).2.2
          exact (Tr.all_mk _ _ _).2 ⟨⟨by show I6 29; decide, by show I6 0; decide, this, this⟩, fun y h => by cases h⟩
theorem lpB_pl {S : Nat → Got} (hS : ∀ j, j ≤ ts.length → OkS ts 0 j (S j)) (hP : ∀ j, j ≤ ts.length → Pl ts j (S j)) (a : Nat) : ∀ (m to : Nat) (acc : List VT), a < to → to ≤ ts.length → PS ts a to acc → Pl ts a (lpB ts S a m to acc) := by
  intro m
  induction m with
  | zero => intro to acc _ _ _; exact pl_bad
  | succ m ih =>
    intro to acc h1 h2 h3
    unfold lpB
    split
    · rename_i h
      have hlt := isK_lt h
      exact pl_mk ht (ps_mono ht h3 (by omega) (Nat.le_succ _) (by omega)) (by omega) (by omega) (Nat.le_refl a) (ne_isK h) (by decide) (by decide)
    · have hr := hS to h2
      split
      · rename_i h
        have hy := hr.ok.yes h
        exact ih _ _ (by omega) hy.2 (ps_snoc ht h3 (by omega) (Nat.le_refl to) hr.ok h (hP to h2))
      · rename_i h; exact pl_err h
theorem blG_pl {S : Nat → Got} (hS : ∀ j, j ≤ ts.length → OkS ts 0 j (S j)) (hP : ∀ j, j ≤ ts.length → Pl ts j (S j)) (i : Nat) (hi : i ≤ ts.length) : Pl ts i (blG ts S i) := by
  unfold blG
  split
  · rename_i h; have := isK_lt h; exact lpB_pl ht hS hP i _ _ _ (Nat.lt_succ_self i) (by omega) (ps_nil ht (by omega) (by omega))
  · exact pl_bad
theorem RR_pl {S : Nat → Got} (hS : ∀ j, j ≤ ts.length → OkS ts 0 j (S j)) (hP : ∀ j, j ≤ ts.length → Pl ts j (S j)) (w j : Nat) (hj : j ≤ ts.length) : Pl ts j (RR ts S w j) := by
  unfold RR
  split
  · exact Q_pl ht 1 j hj
  split
  · exact tyG_pl ht _ j hj
  · exact blG_pl ht hS hP j hj
theorem sG_pl : ∀ (n i : Nat), i ≤ ts.length → Pl ts i (sG ts n i) := by
  intro n
  induction n with
  | zero => intro i _; exact pl_bad
  | succ n ih =>
    intro i hi
    unfold sG
    split
    · exact blG_pl ht (sG_ok n) ih i hi
    · exact itG_pl ht (RR_ok (sG_ok n)) (RR_pl ht (sG_ok n) ih) i _ (frm_i6 i) (by decide) _ i _ [] 0 (by simp [sm]) hi (frm_cr i) (ps_nil ht (Nat.le_refl i) hi) (fun h => absurd h (Nat.lt_irrefl i))
end
end Go.Proofs.YthcnligihpnfiaaGreatDoor.vt
end
