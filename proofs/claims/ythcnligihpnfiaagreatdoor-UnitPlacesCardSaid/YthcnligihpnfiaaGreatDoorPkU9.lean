import Derived.Test.YthcnligihpnfiaaGreatDoorPkU5
import Derived.Test.YthcnligihpnfiaaGreatDoorPkU6
section
namespace Go.Proofs.YthcnligihpnfiaaGreatDoor.am
open Go.ChangeShapes Go.WideShapes Go.ChangeAt Go.RowKit
open vt
set_option linter.unusedVariables false
set_option linter.unusedSimpArgs false
abbrev zT : AO := .box [.pv (I 0), .pv (I 0), .pv (Sx ⟨#[]⟩), .pv .nilS, .pv (I 0), .pv (I 0)]
abbrev zU : AO := .box [.pv (I 0), .pv (I 0), .pv (Sx ⟨#[]⟩), .pv (.sl 6 []), .pv (I 0), .pv (I 0)]
abbrev vFn : AV := .v (.c (.fn (.func 185) [.ptr 0 0] []))
section
variable (ts : List Tok) (i : Nat) (e : Int) (h : e ≠ 0)
include h
set_option maxRecDepth 100000 in
set_option maxHeartbeats 4000000 in
theorem atom_err : Row Tryz.prog 190 [vR] [rd ts i e] (vT z0) [some (rd ts i e)] := by
  have g := goes_row ts i e
  refine row_of Tryz.func190 rfl rfl (Nat.le_of_ble_eq_true rfl) ?_
  repeat' (first | refine aw_seq ?_ | refine aw_skip ?_ | refine aw_block ?_ | refine aw_exit ?_ | refine aw_cond rfl (fun _ => ?_) (fun hb => absurd hb (by decide)) | refine aw_cond rfl (fun hb => absurd hb (by decide)) (fun _ => ?_) | (refine aw_reg (fun K hK => ?_); simp -implicitDefEqProofs [h]) | (refine aw_drw mixd (fun K hK => ?_); simp -implicitDefEqProofs [h]) | refine hK _ ?_ | refine hK _ _ (by rfl) ?_ | (refine ar_call (cb g 0 ?_); simp -implicitDefEqProofs [h]) | (refine ard_call (db g 0 ?_); simp -implicitDefEqProofs [h]) | fail)
  refine aw_ret (fin_box ?_); simp -implicitDefEqProofs [FinB, resV, resT, z0] <;> try rfl
set_option maxRecDepth 100000 in
set_option maxHeartbeats 4000000 in
theorem post_err : Row Tryz.prog 189 [vR] [rd ts i e] (vT z0) [some (rd ts i e)] := by
  have g := goes_row ts i e
  have p := place_row ts i e
  have a := atom_err ts i e h
  unfold z0 at a
  refine row_of Tryz.func189 rfl rfl (Nat.le_of_ble_eq_true rfl) ?_
  repeat' (first | refine aw_seq ?_ | refine aw_skip ?_ | refine aw_block ?_ | refine aw_exit ?_ | refine aw_cond rfl (fun _ => ?_) (fun hb => absurd hb (by decide)) | refine aw_cond rfl (fun hb => absurd hb (by decide)) (fun _ => ?_) | (refine aw_reg (fun K hK => ?_); simp -implicitDefEqProofs) | (refine aw_drw mixd (fun K hK => ?_); simp -implicitDefEqProofs) | refine hK _ ?_ | refine hK _ _ (by rfl) ?_ | (refine ar_call (cb p 0 ?_); simp -implicitDefEqProofs) | (refine ard_call (db p 0 ?_); simp -implicitDefEqProofs) | (refine ar_call (cb a 0 ?_); simp -implicitDefEqProofs) | (refine ard_call (db a 0 ?_); simp -implicitDefEqProofs) | fail)
  refine aw_lp (ι := Unit) (fun _ => mkSt [(0, vR), (2, .v (.c (.ptr 1 0))), (4, .v (.c (.ptr 2 0)))] [some (rd ts i e), some zT, some zU]) (fun _ => True) (fun _ => 0) () trivial (cov_intro [0, 1, 23] (by simp -implicitDefEqProofs) (by simp -implicitDefEqProofs) (by decide) rfl (by simp)) (fun Z hI _ _ => ?_)
  repeat' (first | refine aw_seq ?_ | refine aw_skip ?_ | refine aw_block ?_ | refine aw_exit ?_ | refine aw_cond rfl (fun _ => ?_) (fun hb => absurd hb (by decide)) | refine aw_cond rfl (fun hb => absurd hb (by decide)) (fun _ => ?_) | (refine aw_reg (fun K hK => ?_); simp -implicitDefEqProofs [h]) | (refine aw_drw mixd (fun K hK => ?_); simp -implicitDefEqProofs [h]) | refine hK _ ?_ | refine hK _ _ (by rfl) ?_ | (refine ar_call (cb g 0 ?_); simp -implicitDefEqProofs [h]) | (refine ard_call (db g 0 ?_); simp -implicitDefEqProofs [h]) | fail)
  refine aw_ret (fin_box ?_); simp -implicitDefEqProofs [FinB, resV, resT, z0] <;> try rfl
set_option maxRecDepth 100000 in
set_option maxHeartbeats 4000000 in
theorem un_err : Row Tryz.prog 187 [vR] [rd ts i e] (vT z0) [some (rd ts i e)] := by
  have p := place_row ts i e
  have t1 := take_no ts i e sMin (by decide) (.inl h)
  have t2 := take_no ts i e sNot (by decide) (.inl h)
  have a := post_err ts i e h
  unfold z0 at a
  refine row_of Tryz.func187 rfl rfl (Nat.le_of_ble_eq_true rfl) ?_
  repeat' (first | refine aw_seq ?_ | refine aw_skip ?_ | refine aw_block ?_ | refine aw_exit ?_ | refine aw_cond rfl (fun _ => ?_) (fun hb => absurd hb (by decide)) | refine aw_cond rfl (fun hb => absurd hb (by decide)) (fun _ => ?_) | (refine aw_reg (fun K hK => ?_); simp -implicitDefEqProofs) | (refine aw_drw mixd (fun K hK => ?_); simp -implicitDefEqProofs) | refine hK _ ?_ | refine hK _ _ (by rfl) ?_ | (refine ar_call (cb p 0 ?_); simp -implicitDefEqProofs) | (refine ard_call (db p 0 ?_); simp -implicitDefEqProofs) | (refine ar_call (cb t1 0 ?_); simp -implicitDefEqProofs) | (refine ard_call (db t1 0 ?_); simp -implicitDefEqProofs) | (refine ar_call (cb t2 0 ?_); simp -implicitDefEqProofs) | (refine ard_call (db t2 0 ?_); simp -implicitDefEqProofs) | (refine ar_call (cb a 0 ?_); simp -implicitDefEqProofs) | (refine ard_call (db a 0 ?_); simp -implicitDefEqProofs) | fail)
  refine aw_ret (fin_box ?_); simp -implicitDefEqProofs [FinB, resV, resT, z0] <;> try rfl
set_option maxRecDepth 100000 in
set_option maxHeartbeats 4000000 in
theorem line_err (l : Int) : Row Tryz.prog 186 [vR, vI l] [rd ts i e] (vT z0) [some (rd ts i e)] := by
  have p := place_row ts i e
  have g := goes_row ts i e
  have a := un_err ts i e h
  unfold z0 at a
  refine row_of Tryz.func186 rfl rfl (Nat.le_of_ble_eq_true rfl) ?_
  repeat' (first | refine aw_seq ?_ | refine aw_skip ?_ | refine aw_block ?_ | refine aw_exit ?_ | refine aw_cond rfl (fun _ => ?_) (fun hb => absurd hb (by decide)) | refine aw_cond rfl (fun hb => absurd hb (by decide)) (fun _ => ?_) | (refine aw_reg (fun K hK => ?_); simp -implicitDefEqProofs) | (refine aw_drw mixd (fun K hK => ?_); simp -implicitDefEqProofs) | refine hK _ ?_ | refine hK _ _ (by rfl) ?_ | (refine ar_call (cb p 0 ?_); simp -implicitDefEqProofs) | (refine ard_call (db p 0 ?_); simp -implicitDefEqProofs) | (refine ar_call (cb a 0 ?_); simp -implicitDefEqProofs) | (refine ard_call (db a 0 ?_); simp -implicitDefEqProofs) | fail)
  refine aw_lp (ι := Unit) (fun _ => mkSt [(0, vR), (4, .v (.c (.ptr 1 0))), (6, .v (.c (.ptr 2 0)))] [some (rd ts i e), some zT, some zU]) (fun _ => True) (fun _ => 0) () trivial (cov_intro [0, 1, 23] (by simp -implicitDefEqProofs) (by simp -implicitDefEqProofs) (by decide) rfl (by simp)) (fun Z hI _ _ => ?_)
  repeat' (first | refine aw_seq ?_ | refine aw_skip ?_ | refine aw_block ?_ | refine aw_exit ?_ | refine aw_cond rfl (fun _ => ?_) (fun hb => absurd hb (by decide)) | refine aw_cond rfl (fun hb => absurd hb (by decide)) (fun _ => ?_) | (refine aw_reg (fun K hK => ?_); simp -implicitDefEqProofs [h]) | (refine aw_drw mixd (fun K hK => ?_); simp -implicitDefEqProofs [h]) | refine hK _ ?_ | refine hK _ _ (by rfl) ?_ | (refine ar_call (cb g 0 ?_); simp -implicitDefEqProofs [h]) | (refine ard_call (db g 0 ?_); simp -implicitDefEqProofs [h]) | fail)
  refine aw_ret (fin_box ?_); simp -implicitDefEqProofs [FinB, resV, resT, z0] <;> try rfl
set_option maxRecDepth 100000 in
set_option maxHeartbeats 4000000 in
theorem expr_err : Row Tryz.prog 185 [vR] [rd ts i e] (vT z0) [some (rd ts i e)] := by
  have a := line_err ts i e h 1
  unfold z0 at a
  refine row_of Tryz.func185 rfl rfl (Nat.le_of_ble_eq_true rfl) ?_
  repeat' (first | refine aw_seq ?_ | refine aw_skip ?_ | refine aw_block ?_ | refine aw_exit ?_ | refine aw_cond rfl (fun _ => ?_) (fun hb => absurd hb (by decide)) | refine aw_cond rfl (fun hb => absurd hb (by decide)) (fun _ => ?_) | (refine aw_reg (fun K hK => ?_); simp -implicitDefEqProofs) | (refine aw_drw mixd (fun K hK => ?_); simp -implicitDefEqProofs) | refine hK _ ?_ | refine hK _ _ (by rfl) ?_ | (refine ar_call (cb a 0 ?_); simp -implicitDefEqProofs) | (refine ard_call (db a 0 ?_); simp -implicitDefEqProofs) | fail)
  refine aw_ret (fin_box ?_); simp -implicitDefEqProofs [FinB, resV, resT, z0] <;> try rfl
set_option maxRecDepth 100000 in
set_option maxHeartbeats 4000000 in
theorem list_err : Row Tryz.prog 199 [vR, vFn] [rd ts i e] (vLs [z0]) [some (rd ts i e)] := by
  have a := expr_err ts i e h
  have t1 := take_no ts i e sCom (by decide) (.inl h)
  unfold z0 at a
  refine row_of Tryz.func199 rfl rfl (Nat.le_of_ble_eq_true rfl) ?_
  repeat' (first | refine aw_seq ?_ | refine aw_skip ?_ | refine aw_block ?_ | refine aw_exit ?_ | refine aw_cond rfl (fun _ => ?_) (fun hb => absurd hb (by decide)) | refine aw_cond rfl (fun hb => absurd hb (by decide)) (fun _ => ?_) | (refine aw_reg (fun K hK => ?_); simp -implicitDefEqProofs) | (refine aw_drw mixd (fun K hK => ?_); simp -implicitDefEqProofs) | refine hK _ ?_ | refine hK _ _ (by rfl) ?_ | (refine ar_call (cb a 0 ?_); simp -implicitDefEqProofs) | (refine ard_call (db a 0 ?_); simp -implicitDefEqProofs) | fail)
  refine aw_lp (ι := Unit) (fun _ => mkSt [(0, vR), (5, .v (.c (.row 1 6 [tc z0])))] [some (rd ts i e), some (.row 25 6)]) (fun _ => True) (fun _ => 0) () trivial (cov_intro [0, 11] (by simp -implicitDefEqProofs [z0]) (by simp -implicitDefEqProofs [z0]) (by decide) rfl (by simp)) (fun Z hI _ _ => ?_)
  repeat' (first | refine aw_seq ?_ | refine aw_skip ?_ | refine aw_block ?_ | refine aw_exit ?_ | refine aw_cond rfl (fun _ => ?_) (fun hb => absurd hb (by decide)) | refine aw_cond rfl (fun hb => absurd hb (by decide)) (fun _ => ?_) | (refine aw_reg (fun K hK => ?_); simp -implicitDefEqProofs [h]) | (refine aw_drw mixd (fun K hK => ?_); simp -implicitDefEqProofs [h]) | refine hK _ ?_ | refine hK _ _ (by rfl) ?_ | (refine ar_call (cb t1 0 ?_); simp -implicitDefEqProofs [h]) | (refine ard_call (db t1 0 ?_); simp -implicitDefEqProofs [h]) | fail)
  refine aw_ret (fin_box ?_); simp -implicitDefEqProofs [FinB, resV, resT, z0] <;> try rfl
set_option maxRecDepth 100000 in
set_option maxHeartbeats 4000000 in
theorem called_err : Row Tryz.prog 198 [vR] [rd ts i e] (vLs [z0]) [some (rd ts i e)] := by
  have a := list_err ts i e h
  have her : er e = e := if_neg h
  have w1 := want_no ts i e sParO (by decide) (.inl h)
  have t1 := take_no ts i e sParS (by decide) (.inl h)
  have w2 := want_no ts i e sParS (by decide) (.inl h)
  rw [her] at w1 w2
  refine row_of Tryz.func198 rfl rfl (Nat.le_of_ble_eq_true rfl) ?_
  repeat' (first | refine aw_seq ?_ | refine aw_skip ?_ | refine aw_block ?_ | refine aw_exit ?_ | refine aw_cond rfl (fun _ => ?_) (fun hb => absurd hb (by decide)) | refine aw_cond rfl (fun hb => absurd hb (by decide)) (fun _ => ?_) | (refine aw_reg (fun K hK => ?_); simp -implicitDefEqProofs) | (refine aw_drw mixd (fun K hK => ?_); simp -implicitDefEqProofs) | refine hK _ ?_ | refine hK _ _ (by rfl) ?_ | (refine ar_call (cb w1 0 ?_); simp -implicitDefEqProofs) | (refine ard_call (db w1 0 ?_); simp -implicitDefEqProofs) | (refine ar_call (cb t1 0 ?_); simp -implicitDefEqProofs) | (refine ard_call (db t1 0 ?_); simp -implicitDefEqProofs) | (refine ar_call (cb a 0 ?_); simp -implicitDefEqProofs) | (refine ard_call (db a 0 ?_); simp -implicitDefEqProofs) | (refine ar_call (cb w2 0 ?_); simp -implicitDefEqProofs) | (refine ard_call (db w2 0 ?_); simp -implicitDefEqProofs) | fail)
  refine aw_ret (fin_box ?_); simp -implicitDefEqProofs [FinB, resV, resT] <;> try rfl
end
set_option maxRecDepth 100000 in
set_option maxHeartbeats 4000000 in
theorem oper_row (x : Tok) : Row Tryz.prog 188 [vK x] [] (.tup [.c (.pv (I (opK x).1)), .c (.pv (I ((opK x).2 : Nat)))]) [] := by
  obtain ⟨k, n, s, f, t⟩ := x
  by_cases hk : k = 4; rotate_left
  · rw [show opK ⟨k, n, s, f, t⟩ = (0, 6) from if_neg hk]
    refine row_of Tryz.func188 rfl rfl (Nat.le_of_ble_eq_true rfl) ?_
    repeat (first | refine aw_seq ?_ | refine aw_skip ?_ | refine aw_block ?_ | refine aw_exit ?_ | refine aw_cond rfl (fun _ => ?_) (fun hb => absurd hb (by decide)) | refine aw_cond rfl (fun hb => absurd hb (by decide)) (fun _ => ?_) | (refine aw_reg (fun K hK => ?_); simp -implicitDefEqProofs [hk]; refine hK _ ?_) | (refine aw_drw mixd (fun K hK => ?_); simp -implicitDefEqProofs [hk]; refine hK _ _ (by rfl) ?_) | fail)
    refine aw_ret (fin_ret ?_); simp -implicitDefEqProofs [FinP, resV, resT] <;> try rfl
  subst hk
  rw [show opK ⟨4, n, s, f, t⟩ = opS s from if_pos rfl]
  by_cases e0 : s = (⟨#[124, 124]⟩ : ByteArray)
  · subst e0
    rw [show opS (⟨#[124, 124]⟩ : ByteArray) = (1, 1) from rfl]
    refine row_of Tryz.func188 rfl rfl (Nat.le_of_ble_eq_true rfl) ?_
    repeat (first | refine aw_seq ?_ | refine aw_skip ?_ | refine aw_block ?_ | refine aw_exit ?_ | refine aw_cond rfl (fun _ => ?_) (fun hb => absurd hb (by decide)) | refine aw_cond rfl (fun hb => absurd hb (by decide)) (fun _ => ?_) | (refine aw_reg (fun K hK => ?_); simp -implicitDefEqProofs; refine hK _ ?_) | (refine aw_drw mixd (fun K hK => ?_); simp -implicitDefEqProofs; refine hK _ _ (by rfl) ?_) | fail)
    refine aw_ret (fin_ret ?_); simp -implicitDefEqProofs [FinP, resV, resT] <;> try rfl
  by_cases e1 : s = (⟨#[38, 38]⟩ : ByteArray)
  · subst e1
    rw [show opS (⟨#[38, 38]⟩ : ByteArray) = (2, 2) from rfl]
    refine row_of Tryz.func188 rfl rfl (Nat.le_of_ble_eq_true rfl) ?_
    repeat (first | refine aw_seq ?_ | refine aw_skip ?_ | refine aw_block ?_ | refine aw_exit ?_ | refine aw_cond rfl (fun _ => ?_) (fun hb => absurd hb (by decide)) | refine aw_cond rfl (fun hb => absurd hb (by decide)) (fun _ => ?_) | (refine aw_reg (fun K hK => ?_); simp -implicitDefEqProofs; refine hK _ ?_) | (refine aw_drw mixd (fun K hK => ?_); simp -implicitDefEqProofs; refine hK _ _ (by rfl) ?_) | fail)
    refine aw_ret (fin_ret ?_); simp -implicitDefEqProofs [FinP, resV, resT] <;> try rfl
  by_cases e2 : s = (⟨#[61, 61]⟩ : ByteArray)
  · subst e2
    rw [show opS (⟨#[61, 61]⟩ : ByteArray) = (3, 3) from rfl]
    refine row_of Tryz.func188 rfl rfl (Nat.le_of_ble_eq_true rfl) ?_
    repeat (first | refine aw_seq ?_ | refine aw_skip ?_ | refine aw_block ?_ | refine aw_exit ?_ | refine aw_cond rfl (fun _ => ?_) (fun hb => absurd hb (by decide)) | refine aw_cond rfl (fun hb => absurd hb (by decide)) (fun _ => ?_) | (refine aw_reg (fun K hK => ?_); simp -implicitDefEqProofs; refine hK _ ?_) | (refine aw_drw mixd (fun K hK => ?_); simp -implicitDefEqProofs; refine hK _ _ (by rfl) ?_) | fail)
    refine aw_ret (fin_ret ?_); simp -implicitDefEqProofs [FinP, resV, resT] <;> try rfl
  by_cases e3 : s = (⟨#[33, 61]⟩ : ByteArray)
  · subst e3
    rw [show opS (⟨#[33, 61]⟩ : ByteArray) = (4, 3) from rfl]
    refine row_of Tryz.func188 rfl rfl (Nat.le_of_ble_eq_true rfl) ?_
    repeat (first | refine aw_seq ?_ | refine aw_skip ?_ | refine aw_block ?_ | refine aw_exit ?_ | refine aw_cond rfl (fun _ => ?_) (fun hb => absurd hb (by decide)) | refine aw_cond rfl (fun hb => absurd hb (by decide)) (fun _ => ?_) | (refine aw_reg (fun K hK => ?_); simp -implicitDefEqProofs; refine hK _ ?_) | (refine aw_drw mixd (fun K hK => ?_); simp -implicitDefEqProofs; refine hK _ _ (by rfl) ?_) | fail)
    refine aw_ret (fin_ret ?_); simp -implicitDefEqProofs [FinP, resV, resT] <;> try rfl
  by_cases e4 : s = (⟨#[60]⟩ : ByteArray)
  · subst e4
    rw [show opS (⟨#[60]⟩ : ByteArray) = (5, 3) from rfl]
    refine row_of Tryz.func188 rfl rfl (Nat.le_of_ble_eq_true rfl) ?_
    repeat (first | refine aw_seq ?_ | refine aw_skip ?_ | refine aw_block ?_ | refine aw_exit ?_ | refine aw_cond rfl (fun _ => ?_) (fun hb => absurd hb (by decide)) | refine aw_cond rfl (fun hb => absurd hb (by decide)) (fun _ => ?_) | (refine aw_reg (fun K hK => ?_); simp -implicitDefEqProofs; refine hK _ ?_) | (refine aw_drw mixd (fun K hK => ?_); simp -implicitDefEqProofs; refine hK _ _ (by rfl) ?_) | fail)
    refine aw_ret (fin_ret ?_); simp -implicitDefEqProofs [FinP, resV, resT] <;> try rfl
  by_cases e5 : s = (⟨#[60, 61]⟩ : ByteArray)
  · subst e5
    rw [show opS (⟨#[60, 61]⟩ : ByteArray) = (6, 3) from rfl]
    refine row_of Tryz.func188 rfl rfl (Nat.le_of_ble_eq_true rfl) ?_
    repeat (first | refine aw_seq ?_ | refine aw_skip ?_ | refine aw_block ?_ | refine aw_exit ?_ | refine aw_cond rfl (fun _ => ?_) (fun hb => absurd hb (by decide)) | refine aw_cond rfl (fun hb => absurd hb (by decide)) (fun _ => ?_) | (refine aw_reg (fun K hK => ?_); simp -implicitDefEqProofs; refine hK _ ?_) | (refine aw_drw mixd (fun K hK => ?_); simp -implicitDefEqProofs; refine hK _ _ (by rfl) ?_) | fail)
    refine aw_ret (fin_ret ?_); simp -implicitDefEqProofs [FinP, resV, resT] <;> try rfl
  by_cases e6 : s = (⟨#[62]⟩ : ByteArray)
  · subst e6
    rw [show opS (⟨#[62]⟩ : ByteArray) = (7, 3) from rfl]
    refine row_of Tryz.func188 rfl rfl (Nat.le_of_ble_eq_true rfl) ?_
    repeat (first | refine aw_seq ?_ | refine aw_skip ?_ | refine aw_block ?_ | refine aw_exit ?_ | refine aw_cond rfl (fun _ => ?_) (fun hb => absurd hb (by decide)) | refine aw_cond rfl (fun hb => absurd hb (by decide)) (fun _ => ?_) | (refine aw_reg (fun K hK => ?_); simp -implicitDefEqProofs; refine hK _ ?_) | (refine aw_drw mixd (fun K hK => ?_); simp -implicitDefEqProofs; refine hK _ _ (by rfl) ?_) | fail)
    refine aw_ret (fin_ret ?_); simp -implicitDefEqProofs [FinP, resV, resT] <;> try rfl
  by_cases e7 : s = (⟨#[62, 61]⟩ : ByteArray)
  · subst e7
    rw [show opS (⟨#[62, 61]⟩ : ByteArray) = (8, 3) from rfl]
    refine row_of Tryz.func188 rfl rfl (Nat.le_of_ble_eq_true rfl) ?_
    repeat (first | refine aw_seq ?_ | refine aw_skip ?_ | refine aw_block ?_ | refine aw_exit ?_ | refine aw_cond rfl (fun _ => ?_) (fun hb => absurd hb (by decide)) | refine aw_cond rfl (fun hb => absurd hb (by decide)) (fun _ => ?_) | (refine aw_reg (fun K hK => ?_); simp -implicitDefEqProofs; refine hK _ ?_) | (refine aw_drw mixd (fun K hK => ?_); simp -implicitDefEqProofs; refine hK _ _ (by rfl) ?_) | fail)
    refine aw_ret (fin_ret ?_); simp -implicitDefEqProofs [FinP, resV, resT] <;> try rfl
  by_cases e8 : s = (⟨#[43]⟩ : ByteArray)
  · subst e8
    rw [show opS (⟨#[43]⟩ : ByteArray) = (9, 4) from rfl]
    refine row_of Tryz.func188 rfl rfl (Nat.le_of_ble_eq_true rfl) ?_
    repeat (first | refine aw_seq ?_ | refine aw_skip ?_ | refine aw_block ?_ | refine aw_exit ?_ | refine aw_cond rfl (fun _ => ?_) (fun hb => absurd hb (by decide)) | refine aw_cond rfl (fun hb => absurd hb (by decide)) (fun _ => ?_) | (refine aw_reg (fun K hK => ?_); simp -implicitDefEqProofs; refine hK _ ?_) | (refine aw_drw mixd (fun K hK => ?_); simp -implicitDefEqProofs; refine hK _ _ (by rfl) ?_) | fail)
    refine aw_ret (fin_ret ?_); simp -implicitDefEqProofs [FinP, resV, resT] <;> try rfl
  by_cases e9 : s = (⟨#[45]⟩ : ByteArray)
  · subst e9
    rw [show opS (⟨#[45]⟩ : ByteArray) = (10, 4) from rfl]
    refine row_of Tryz.func188 rfl rfl (Nat.le_of_ble_eq_true rfl) ?_
    repeat (first | refine aw_seq ?_ | refine aw_skip ?_ | refine aw_block ?_ | refine aw_exit ?_ | refine aw_cond rfl (fun _ => ?_) (fun hb => absurd hb (by decide)) | refine aw_cond rfl (fun hb => absurd hb (by decide)) (fun _ => ?_) | (refine aw_reg (fun K hK => ?_); simp -implicitDefEqProofs; refine hK _ ?_) | (refine aw_drw mixd (fun K hK => ?_); simp -implicitDefEqProofs; refine hK _ _ (by rfl) ?_) | fail)
    refine aw_ret (fin_ret ?_); simp -implicitDefEqProofs [FinP, resV, resT] <;> try rfl
  by_cases e10 : s = (⟨#[42]⟩ : ByteArray)
  · subst e10
    rw [show opS (⟨#[42]⟩ : ByteArray) = (11, 5) from rfl]
    refine row_of Tryz.func188 rfl rfl (Nat.le_of_ble_eq_true rfl) ?_
    repeat (first | refine aw_seq ?_ | refine aw_skip ?_ | refine aw_block ?_ | refine aw_exit ?_ | refine aw_cond rfl (fun _ => ?_) (fun hb => absurd hb (by decide)) | refine aw_cond rfl (fun hb => absurd hb (by decide)) (fun _ => ?_) | (refine aw_reg (fun K hK => ?_); simp -implicitDefEqProofs; refine hK _ ?_) | (refine aw_drw mixd (fun K hK => ?_); simp -implicitDefEqProofs; refine hK _ _ (by rfl) ?_) | fail)
    refine aw_ret (fin_ret ?_); simp -implicitDefEqProofs [FinP, resV, resT] <;> try rfl
  by_cases e11 : s = (⟨#[47]⟩ : ByteArray)
  · subst e11
    rw [show opS (⟨#[47]⟩ : ByteArray) = (12, 5) from rfl]
    refine row_of Tryz.func188 rfl rfl (Nat.le_of_ble_eq_true rfl) ?_
    repeat (first | refine aw_seq ?_ | refine aw_skip ?_ | refine aw_block ?_ | refine aw_exit ?_ | refine aw_cond rfl (fun _ => ?_) (fun hb => absurd hb (by decide)) | refine aw_cond rfl (fun hb => absurd hb (by decide)) (fun _ => ?_) | (refine aw_reg (fun K hK => ?_); simp -implicitDefEqProofs; refine hK _ ?_) | (refine aw_drw mixd (fun K hK => ?_); simp -implicitDefEqProofs; refine hK _ _ (by rfl) ?_) | fail)
    refine aw_ret (fin_ret ?_); simp -implicitDefEqProofs [FinP, resV, resT] <;> try rfl
  by_cases e12 : s = (⟨#[37]⟩ : ByteArray)
  · subst e12
    rw [show opS (⟨#[37]⟩ : ByteArray) = (13, 5) from rfl]
    refine row_of Tryz.func188 rfl rfl (Nat.le_of_ble_eq_true rfl) ?_
    repeat (first | refine aw_seq ?_ | refine aw_skip ?_ | refine aw_block ?_ | refine aw_exit ?_ | refine aw_cond rfl (fun _ => ?_) (fun hb => absurd hb (by decide)) | refine aw_cond rfl (fun hb => absurd hb (by decide)) (fun _ => ?_) | (refine aw_reg (fun K hK => ?_); simp -implicitDefEqProofs; refine hK _ ?_) | (refine aw_drw mixd (fun K hK => ?_); simp -implicitDefEqProofs; refine hK _ _ (by rfl) ?_) | fail)
    refine aw_ret (fin_ret ?_); simp -implicitDefEqProofs [FinP, resV, resT] <;> try rfl
  rw [show opS s = (0, 6) by unfold opS; simp [e0, e1, e2, e3, e4, e5, e6, e7, e8, e9, e10, e11, e12]]
  refine row_of Tryz.func188 rfl rfl (Nat.le_of_ble_eq_true rfl) ?_
  repeat (first | refine aw_seq ?_ | refine aw_skip ?_ | refine aw_block ?_ | refine aw_exit ?_ | refine aw_cond rfl (fun _ => ?_) (fun hb => absurd hb (by decide)) | refine aw_cond rfl (fun hb => absurd hb (by decide)) (fun _ => ?_) | (refine aw_reg (fun K hK => ?_); simp -implicitDefEqProofs [e0, e1, e2, e3, e4, e5, e6, e7, e8, e9, e10, e11, e12]; refine hK _ ?_) | (refine aw_drw mixd (fun K hK => ?_); simp -implicitDefEqProofs [e0, e1, e2, e3, e4, e5, e6, e7, e8, e9, e10, e11, e12]; refine hK _ _ (by rfl) ?_) | fail)
  refine aw_ret (fin_ret ?_); simp -implicitDefEqProofs [FinP, resV, resT] <;> try rfl
end Go.Proofs.YthcnligihpnfiaaGreatDoor.am
end
section
namespace Go.Proofs.YthcnligihpnfiaaGreatDoor.am
open Go.ChangeShapes Go.WideShapes Go.ChangeAt Go.RowKit
open vt
set_option linter.unusedVariables false
set_option linter.unusedSimpArgs false
def PR (f : Nat) (ex : List AV) (ts : List Tok) (i : Nat) (r : Got) : Prop := ∃ t : VT, (r.2.2 = 0 → t = r.1) ∧ Row Tryz.prog f (vR :: ex) [rd ts i 0] (vT t) [some (rd ts r.2.1 r.2.2)]
def PL (f : Nat) (ex : List AV) (ts : List Tok) (i : Nat) (c : List VT × Nat × Int) : Prop := ∃ l : List VT, (c.2.2 = 0 → l = c.1) ∧ Row Tryz.prog f (vR :: ex) [rd ts i 0] (vLs l) [some (rd ts c.2.1 c.2.2)]
section
variable (ts : List Tok)
def lsG (T : Nat → VT) (E : Nat → Got) : Nat → Nat → List VT → List VT
  | 0, i, acc => acc
  | m + 1, i, acc => if (E i).2.2 = 0 ∧ isK sCom (nxt ts (E i).2.1) = true then lsG T E m ((E i).2.1 + 1) (acc ++ [T i]) else acc ++ [T i]
theorem lsG_eq (T : Nat → VT) (E : Nat → Got) (hE : ∀ j, j ≤ ts.length → OkG ts j (E j)) : ∀ (m i : Nat) (acc : List VT), i ≤ ts.length → (∀ j, i ≤ j → j ≤ ts.length → (E j).2.2 = 0 → T j = (E j).1) → (lpC ts E m i acc).2.2 = 0 → lsG ts T E m i acc = (lpC ts E m i acc).1
  | 0, i, acc, _, _, h => by simp [lpC] at h
  | m + 1, i, acc, hi, hT, h => by
    unfold lsG lpC at *
    by_cases h0 : (E i).2.2 = 0; rotate_left
    · rw [if_pos h0] at h; exact absurd h h0
    rw [if_neg (by simp [h0])] at h
    have hy := (hE i hi).yes h0
    by_cases h1 : isK sCom (nxt ts (E i).2.1) = true
    · have hlt := isK_lt h1
      rw [if_neg (by simp [h1])] at h
      rw [if_pos ⟨h0, h1⟩, if_neg (by simp [h0]), if_neg (by simp [h1]), hT i (Nat.le_refl _) hi h0]
      exact lsG_eq T E hE m _ _ (by omega) (fun j h2 h3 => hT j (by omega) h3) h
    · rw [if_neg (by simp [h1]), if_neg (by simp [h0]), if_pos (by simpa using h1), hT i (Nat.le_refl _) hi h0]
structure InvQ (T : Nat → VT) (E : Nat → Got) (i : Nat) (x : Nat × Nat × List VT × List VT) : Prop where
  eq : (lpC ts E (x.1 + 1) x.2.1 x.2.2.2).2 = (lpC ts E (ts.length + 1) i []).2
  ls : lsG ts T E (x.1 + 1) x.2.1 x.2.2.1 = lsG ts T E (ts.length + 1) i []
  le : i ≤ x.2.1 ∧ x.2.1 ≤ ts.length
  fuel : ts.length < x.1 + 1 + x.2.1
  few : 2 * x.2.2.1.length + i ≤ x.2.1
variable (hl : ts.length ≤ 3000000000000)
include hl
set_option maxRecDepth 100000 in
set_option maxHeartbeats 4000000 in
theorem plist_row (i : Nat) (hi : i ≤ ts.length) (hE : ∀ j, i ≤ j → j ≤ ts.length → PR 185 [] ts j (Qx ts 1 j)) : PL 199 [vFn] ts i (lpC ts (Qx ts 1) (ts.length + 1) i []) := by
  obtain ⟨T, hT⟩ : ∃ T : Nat → VT, ∀ j, i ≤ j → j ≤ ts.length → ((Qx ts 1 j).2.2 = 0 → T j = (Qx ts 1 j).1) ∧ Row Tryz.prog 185 [vR] [rd ts j 0] (vT (T j)) [some (rd ts (Qx ts 1 j).2.1 (Qx ts 1 j).2.2)] :=
    ⟨fun j => if h : i ≤ j ∧ j ≤ ts.length then (hE j h.1 h.2).choose else z0, fun j h1 h2 => by
      show (_ → dite _ _ _ = _) ∧ Row _ _ _ _ (vT (dite _ _ _)) _
      rw [dif_pos ⟨h1, h2⟩]
      exact (hE j h1 h2).choose_spec⟩
  refine ⟨lsG ts T (Qx ts 1) (ts.length + 1) i [], fun h => lsG_eq ts T (Qx ts 1) (Q_ok (ts := ts) 1) _ _ _ hi (fun j h1 h2 => (hT j h1 h2).1) h, ?_⟩
  have hq := (hT i (Nat.le_refl _) hi).2
  have h0 : InvQ ts T (Qx ts 1) i (ts.length, i, [], []) := ⟨rfl, rfl, ⟨Nat.le_refl _, hi⟩, by dsimp only; omega, by simp⟩
  obtain ⟨L, hL⟩ : ∃ L, lsG ts T (Qx ts 1) (ts.length + 1) i [] = L := ⟨_, rfl⟩
  rw [hL]
  refine row_of Tryz.func199 rfl rfl (Nat.le_of_ble_eq_true rfl) ?_
  obtain ⟨⟨tx, tl⟩, hti⟩ : ∃ t, T i = t := ⟨_, rfl⟩
  obtain ⟨⟨⟨rx, rl⟩, r2, r3⟩, hr⟩ : ∃ r, Qx ts 1 i = r := ⟨_, rfl⟩
  rw [hti, hr] at hq
  repeat' (first | refine aw_seq ?_ | refine aw_skip ?_ | refine aw_block ?_ | refine aw_exit ?_ | refine aw_cond rfl (fun _ => ?_) (fun hb => absurd hb (by decide)) | refine aw_cond rfl (fun hb => absurd hb (by decide)) (fun _ => ?_) | (refine aw_reg (fun K hK => ?_); simp -implicitDefEqProofs) | (refine aw_drw mixd (fun K hK => ?_); simp -implicitDefEqProofs) | refine hK _ ?_ | refine hK _ _ (by rfl) ?_ | (refine ar_call (cb hq 0 ?_); simp -implicitDefEqProofs) | (refine ard_call (db hq 0 ?_); simp -implicitDefEqProofs) | fail)
  refine aw_lp (ι := Nat × Nat × List VT × List VT) (fun x => mkSt [(0, vR), (1, vFn), (5, .v (.c (.row 1 6 ((x.2.2.1 ++ [T x.2.1]).map tc))))] [some (rd ts (Qx ts 1 x.2.1).2.1 (Qx ts 1 x.2.1).2.2), some (.row 25 6)]) (InvQ ts T (Qx ts 1) i) (fun x => x.1) (ts.length, i, [], []) h0 (cov_intro [0, 11] (by simp -implicitDefEqProofs [hti, hr]) (by simp -implicitDefEqProofs [hti, hr]) (by decide) rfl (by simp)) (fun Z hI x hx => ?_)
  clear h0 hr hti hq
  obtain ⟨m, p, acc, tr⟩ := x
  obtain ⟨x1, x2, x3, x4, x5⟩ := hx
  dsimp only at x1 x2 x3 x4 x5 ⊢
  have hk := Q_ok (ts := ts) 1 p x3.2
  rw [lpC] at x1
  rw [lsG] at x2
  obtain ⟨⟨⟨rx, rl⟩, r2, r3⟩, hr⟩ : ∃ r, Qx ts 1 p = r := ⟨_, rfl⟩
  rw [hr] at hk x1 x2 ⊢
  obtain ⟨acc', ha'⟩ : ∃ l, acc ++ [T p] = l := ⟨_, rfl⟩
  have hal : acc'.length = acc.length + 1 := by rw [← ha']; simp
  rw [ha'] at x2 ⊢
  dsimp only at x1 x2 ⊢
  by_cases hr3 : r3 = 0; rotate_left
  · rw [if_pos hr3] at x1
    rw [if_neg (by simp [hr3])] at x2
    rw [← x1]
    rw [hL] at x2
    rw [← x2]
    have t1 := take_no ts r2 r3 sCom (by decide) (.inl hr3)
    clear x1 hE hT hk hr x2 ha' hL
    dsimp only
    repeat' (first | refine aw_seq ?_ | refine aw_skip ?_ | refine aw_block ?_ | refine aw_exit ?_ | refine aw_cond rfl (fun _ => ?_) (fun hb => absurd hb (by decide)) | refine aw_cond rfl (fun hb => absurd hb (by decide)) (fun _ => ?_) | (refine aw_reg (fun K hK => ?_); simp -implicitDefEqProofs) | (refine aw_drw mixd (fun K hK => ?_); simp -implicitDefEqProofs) | refine hK _ ?_ | refine hK _ _ (by rfl) ?_ | (refine ar_call (cb t1 0 ?_); simp -implicitDefEqProofs) | (refine ard_call (db t1 0 ?_); simp -implicitDefEqProofs) | fail)
    refine aw_ret (fin_box ?_); simp -implicitDefEqProofs [FinB, resV, resT] <;> try rfl
  subst hr3
  rw [if_neg (by simp)] at x1
  have hyy := hk.yes rfl
  dsimp only at hyy x1
  by_cases e3 : isK sCom (nxt ts r2) = true; rotate_left
  · have e3 : isK sCom (nxt ts r2) = false := by simpa using e3
    rw [if_pos e3] at x1
    rw [if_neg (by simp [e3])] at x2
    rw [← x1]
    rw [hL] at x2
    rw [← x2]
    have t1 := take_no ts r2 0 sCom (by decide) (.inr e3)
    clear x1 hE hT hk hr x2 ha' hL e3
    repeat' (first | refine aw_seq ?_ | refine aw_skip ?_ | refine aw_block ?_ | refine aw_exit ?_ | refine aw_cond rfl (fun _ => ?_) (fun hb => absurd hb (by decide)) | refine aw_cond rfl (fun hb => absurd hb (by decide)) (fun _ => ?_) | (refine aw_reg (fun K hK => ?_); simp -implicitDefEqProofs) | (refine aw_drw mixd (fun K hK => ?_); simp -implicitDefEqProofs) | refine hK _ ?_ | refine hK _ _ (by rfl) ?_ | (refine ar_call (cb t1 0 ?_); simp -implicitDefEqProofs) | (refine ard_call (db t1 0 ?_); simp -implicitDefEqProofs) | fail)
    refine aw_ret (fin_box ?_); simp -implicitDefEqProofs [FinB, resV, resT] <;> try rfl
  have hlt2 := isK_lt e3
  rw [if_neg (by simp [e3])] at x1
  rw [if_pos ⟨rfl, e3⟩] at x2
  obtain ⟨m, rfl⟩ : ∃ m', m = m' + 1 := ⟨m - 1, by omega⟩
  have t1 := take_yes ts r2 sCom (by decide) (by omega) e3
  have hq := (hT (r2 + 1) (by omega) (by omega)).2
  have b1 : (acc.length + 1 + 1) * 72 ≤ 140737488355328 := by omega
  have b2 : acc.length + 1 + 1 ≤ 140737488355328 := by omega
  have nx : InvQ ts T (Qx ts 1) i (m, r2 + 1, acc', tr ++ [.mk rx rl]) := ⟨x1, x2, by dsimp only; omega, by dsimp only; omega, by dsimp only; omega⟩
  obtain ⟨⟨tx, tl⟩, hti⟩ : ∃ t, T (r2 + 1) = t := ⟨_, rfl⟩
  obtain ⟨⟨⟨sx, sl⟩, s2, s3⟩, hs⟩ : ∃ r, Qx ts 1 (r2 + 1) = r := ⟨_, rfl⟩
  rw [hti, hs] at hq
  clear x1 hE hT hk hr x2 ha' hL e3
  repeat' (first | refine aw_seq ?_ | refine aw_skip ?_ | refine aw_block ?_ | refine aw_exit ?_ | refine aw_cond rfl (fun _ => ?_) (fun hb => absurd hb (by decide)) | refine aw_cond rfl (fun hb => absurd hb (by decide)) (fun _ => ?_) | (refine aw_reg (fun K hK => ?_); simp -implicitDefEqProofs [b1, b2, hal]) | (refine aw_drw mixd (fun K hK => ?_); simp -implicitDefEqProofs [b1, b2, hal]) | refine hK _ ?_ | refine hK _ _ (by rfl) ?_ | (refine ar_call (cb t1 0 ?_); simp -implicitDefEqProofs [b1, b2, hal]) | (refine ard_call (db t1 0 ?_); simp -implicitDefEqProofs [b1, b2, hal]) | (refine ar_call (cb hq 0 ?_); simp -implicitDefEqProofs [b1, b2, hal]) | (refine ard_call (db hq 0 ?_); simp -implicitDefEqProofs [b1, b2, hal]) | fail)
  refine ⟨(_, _, _, _), nx, (by dsimp only; omega), ?_⟩; rw [hI]; exact cov_intro [0, 24] (by simp -implicitDefEqProofs [hti, hs]) (by simp -implicitDefEqProofs [hti, hs]) (by decide) rfl (by simp)
set_option maxRecDepth 100000 in
set_option maxHeartbeats 4000000 in
theorem called_row (o : Nat) (ho : o ≤ ts.length) (hE : ∀ j, o < j → j ≤ ts.length → PR 185 [] ts j (Qx ts 1 j)) : PL 198 [] ts o (cloG ts (Qx ts 1) o true sParO sParS) := by
  unfold cloG
  by_cases e1 : isK sParO (nxt ts o) = true; rotate_left
  · have e1 : isK sParO (nxt ts o) = false := by simpa using e1
    rw [if_pos e1]
    have w1 := want_no ts o 0 sParO (by decide) (.inr e1)
    have t1 := take_no ts o 6 sParS (by decide) (.inl (by decide))
    have a := list_err ts o 6 (by decide)
    have w2 := want_no ts o 6 sParS (by decide) (.inl (by decide))
    rw [show er 0 = 6 from rfl] at w1
    rw [show er 6 = 6 from rfl] at w2
    refine ⟨[z0], fun h => by simp at h, ?_⟩
    clear e1 hE
    refine row_of Tryz.func198 rfl rfl (Nat.le_of_ble_eq_true rfl) ?_
    repeat' (first | refine aw_seq ?_ | refine aw_skip ?_ | refine aw_block ?_ | refine aw_exit ?_ | refine aw_cond rfl (fun _ => ?_) (fun hb => absurd hb (by decide)) | refine aw_cond rfl (fun hb => absurd hb (by decide)) (fun _ => ?_) | (refine aw_reg (fun K hK => ?_); simp -implicitDefEqProofs) | (refine aw_drw mixd (fun K hK => ?_); simp -implicitDefEqProofs) | refine hK _ ?_ | refine hK _ _ (by rfl) ?_ | (refine ar_call (cb w1 0 ?_); simp -implicitDefEqProofs) | (refine ard_call (db w1 0 ?_); simp -implicitDefEqProofs) | (refine ar_call (cb t1 0 ?_); simp -implicitDefEqProofs) | (refine ard_call (db t1 0 ?_); simp -implicitDefEqProofs) | (refine ar_call (cb a 0 ?_); simp -implicitDefEqProofs) | (refine ard_call (db a 0 ?_); simp -implicitDefEqProofs) | (refine ar_call (cb w2 0 ?_); simp -implicitDefEqProofs) | (refine ard_call (db w2 0 ?_); simp -implicitDefEqProofs) | fail)
    refine aw_ret (fin_box ?_); simp -implicitDefEqProofs [FinB, resV, resT] <;> try rfl
  have hlt := isK_lt e1
  rw [if_neg (by simp [e1])]
  have w1 := want_yes ts o sParO (by decide) (by omega) e1
  by_cases e2 : isK sParS (nxt ts (o + 1)) = true
  · rw [if_pos ⟨rfl, e2⟩]
    have t1 := take_yes ts (o + 1) sParS (by decide) (by omega) e2
    refine ⟨[], fun h => rfl, ?_⟩
    clear e1 e2 hE
    refine row_of Tryz.func198 rfl rfl (Nat.le_of_ble_eq_true rfl) ?_
    repeat' (first | refine aw_seq ?_ | refine aw_skip ?_ | refine aw_block ?_ | refine aw_exit ?_ | refine aw_cond rfl (fun _ => ?_) (fun hb => absurd hb (by decide)) | refine aw_cond rfl (fun hb => absurd hb (by decide)) (fun _ => ?_) | (refine aw_reg (fun K hK => ?_); simp -implicitDefEqProofs) | (refine aw_drw mixd (fun K hK => ?_); simp -implicitDefEqProofs) | refine hK _ ?_ | refine hK _ _ (by rfl) ?_ | (refine ar_call (cb w1 0 ?_); simp -implicitDefEqProofs) | (refine ard_call (db w1 0 ?_); simp -implicitDefEqProofs) | (refine ar_call (cb t1 0 ?_); simp -implicitDefEqProofs) | (refine ard_call (db t1 0 ?_); simp -implicitDefEqProofs) | fail)
    refine aw_ret (fin_box ?_); simp -implicitDefEqProofs [FinB, resV, resT] <;> try rfl
  rw [if_neg (by simp [e2])]
  have t1 := take_no ts (o + 1) 0 sParS (by decide) (.inr (by simpa using e2))
  obtain ⟨l, hll, hq⟩ := plist_row ts hl (o + 1) (by omega) (fun j h1 h2 => hE j (by omega) h2)
  have hc := lpC_ok (Q_ok (ts := ts) 1) (ts.length + 1) (o + 1) [] (by omega)
  obtain ⟨⟨c1, c2, c3⟩, hr⟩ : ∃ r, lpC ts (Qx ts 1) (ts.length + 1) (o + 1) [] = r := ⟨_, rfl⟩
  rw [hr] at hq hc hll ⊢
  have hle := hc.le
  dsimp only at hle hll
  by_cases hc3 : c3 = 0; rotate_left
  · rw [if_pos hc3]
    have h6 := hc.no hc3
    dsimp only at h6
    subst h6
    have w2 := want_no ts c2 6 sParS (by decide) (.inl (by decide))
    rw [show er 6 = 6 from rfl] at w2
    refine ⟨l, fun h => by simp at h, ?_⟩
    clear hE hr hc e1 e2 hll
    refine row_of Tryz.func198 rfl rfl (Nat.le_of_ble_eq_true rfl) ?_
    repeat' (first | refine aw_seq ?_ | refine aw_skip ?_ | refine aw_block ?_ | refine aw_exit ?_ | refine aw_cond rfl (fun _ => ?_) (fun hb => absurd hb (by decide)) | refine aw_cond rfl (fun hb => absurd hb (by decide)) (fun _ => ?_) | (refine aw_reg (fun K hK => ?_); simp -implicitDefEqProofs) | (refine aw_drw mixd (fun K hK => ?_); simp -implicitDefEqProofs) | refine hK _ ?_ | refine hK _ _ (by rfl) ?_ | (refine ar_call (cb w1 0 ?_); simp -implicitDefEqProofs) | (refine ard_call (db w1 0 ?_); simp -implicitDefEqProofs) | (refine ar_call (cb t1 0 ?_); simp -implicitDefEqProofs) | (refine ard_call (db t1 0 ?_); simp -implicitDefEqProofs) | (refine ar_call (cb hq 0 ?_); simp -implicitDefEqProofs) | (refine ard_call (db hq 0 ?_); simp -implicitDefEqProofs) | (refine ar_call (cb w2 0 ?_); simp -implicitDefEqProofs) | (refine ard_call (db w2 0 ?_); simp -implicitDefEqProofs) | fail)
    refine aw_ret (fin_box ?_); simp -implicitDefEqProofs [FinB, resV, resT] <;> try rfl
  subst hc3
  have hll := hll rfl
  subst hll
  rw [if_neg (by simp)]
  dsimp only
  by_cases e3 : isK sParS (nxt ts c2) = true
  · rw [if_neg (by simp [e3])]
    have w2 := want_yes ts c2 sParS (by decide) (by omega) e3
    refine ⟨l, fun h => rfl, ?_⟩
    clear hE hr hc e1 e2 e3
    refine row_of Tryz.func198 rfl rfl (Nat.le_of_ble_eq_true rfl) ?_
    repeat' (first | refine aw_seq ?_ | refine aw_skip ?_ | refine aw_block ?_ | refine aw_exit ?_ | refine aw_cond rfl (fun _ => ?_) (fun hb => absurd hb (by decide)) | refine aw_cond rfl (fun hb => absurd hb (by decide)) (fun _ => ?_) | (refine aw_reg (fun K hK => ?_); simp -implicitDefEqProofs) | (refine aw_drw mixd (fun K hK => ?_); simp -implicitDefEqProofs) | refine hK _ ?_ | refine hK _ _ (by rfl) ?_ | (refine ar_call (cb w1 0 ?_); simp -implicitDefEqProofs) | (refine ard_call (db w1 0 ?_); simp -implicitDefEqProofs) | (refine ar_call (cb t1 0 ?_); simp -implicitDefEqProofs) | (refine ard_call (db t1 0 ?_); simp -implicitDefEqProofs) | (refine ar_call (cb hq 0 ?_); simp -implicitDefEqProofs) | (refine ard_call (db hq 0 ?_); simp -implicitDefEqProofs) | (refine ar_call (cb w2 0 ?_); simp -implicitDefEqProofs) | (refine ard_call (db w2 0 ?_); simp -implicitDefEqProofs) | fail)
    refine aw_ret (fin_box ?_); simp -implicitDefEqProofs [FinB, resV, resT] <;> try rfl
  · have e3 : isK sParS (nxt ts c2) = false := by simpa using e3
    rw [if_pos e3]
    have w2 := want_no ts c2 0 sParS (by decide) (.inr e3)
    rw [show er 0 = 6 from rfl] at w2
    refine ⟨l, fun h => by simp at h, ?_⟩
    clear hE hr hc e1 e2 e3
    refine row_of Tryz.func198 rfl rfl (Nat.le_of_ble_eq_true rfl) ?_
    repeat' (first | refine aw_seq ?_ | refine aw_skip ?_ | refine aw_block ?_ | refine aw_exit ?_ | refine aw_cond rfl (fun _ => ?_) (fun hb => absurd hb (by decide)) | refine aw_cond rfl (fun hb => absurd hb (by decide)) (fun _ => ?_) | (refine aw_reg (fun K hK => ?_); simp -implicitDefEqProofs) | (refine aw_drw mixd (fun K hK => ?_); simp -implicitDefEqProofs) | refine hK _ ?_ | refine hK _ _ (by rfl) ?_ | (refine ar_call (cb w1 0 ?_); simp -implicitDefEqProofs) | (refine ard_call (db w1 0 ?_); simp -implicitDefEqProofs) | (refine ar_call (cb t1 0 ?_); simp -implicitDefEqProofs) | (refine ard_call (db t1 0 ?_); simp -implicitDefEqProofs) | (refine ar_call (cb hq 0 ?_); simp -implicitDefEqProofs) | (refine ard_call (db hq 0 ?_); simp -implicitDefEqProofs) | (refine ar_call (cb w2 0 ?_); simp -implicitDefEqProofs) | (refine ard_call (db w2 0 ?_); simp -implicitDefEqProofs) | fail)
    refine aw_ret (fin_box ?_); simp -implicitDefEqProofs [FinB, resV, resT] <;> try rfl
end
end Go.Proofs.YthcnligihpnfiaaGreatDoor.am
end
