/-
  Layer 7: does the program answer at all?
-/
import Derived.Test.YthcnligihpnfiaaTypTop
namespace Go.Proofs.Ythcnligihpnfiaa.am
open Go.ChangeShapes Go.WideShapes Go.ChangeAt Go.RowKit
open vt
set_option linter.unusedVariables false
set_option linter.unusedSimpArgs false
abbrev tk5 : Tok := ⟨2, 5, ⟨#[]⟩, 0, 1⟩
abbrev ts5 : List Tok := [tk5]
abbrev nd5 : VT := .mk ⟨5, 5, ⟨#[]⟩, 0, 1⟩ []
theorem is5 (s : ByteArray) : isK s (nxt ts5 0) = false := by
  show isK s tk5 = false
  unfold isK
  rcases quo_34 s with h | h <;> rw [h] <;> rfl
theorem is5e (s : ByteArray) : isK s (nxt ts5 1) = false := isK_end s
theorem isr (s : ByteArray) (hs : s.size ≤ 1000) : Row Try.prog 56 [vR, vS s] [rd ts5 0 0] (vB false) [some (rd ts5 0 0)] := by
  have := is7_row ts5 0 0 s hs
  rwa [is5 s] at this
theorem isre (s : ByteArray) (hs : s.size ≤ 1000) : Row Try.prog 56 [vR, vS s] [rd ts5 1 0] (vB false) [some (rd ts5 1 0)] := by
  have := is7_row ts5 1 0 s hs
  rwa [is5e s] at this
set_option maxRecDepth 100000 in
set_option maxHeartbeats 4000000 in
theorem lit5_row : Row Try.prog 83 [vR] [rd ts5 0 0] (vT nd5) [some (rd ts5 1 0)] := by
  have p := place_row ts5 0 0
  have n := next_row ts5 0 0
  rw [show nxt ts5 0 = tk5 from rfl] at n
  have s := skip_row ts5 0 0 (by decide)
  rw [if_pos ⟨rfl, by decide⟩] at s
  have m := node_yes ts5 1 0 ⟨5, 5, ⟨#[]⟩, 0, 0⟩ [] (by decide) (by decide) (by decide) (by decide)
  rw [show frT ts5 0 = 0 from rfl, show toT ts5 (1 - 1) = 1 from rfl] at m
  refine row_of Try.func83 rfl rfl (Nat.le_of_ble_eq_true rfl) ?_
  repeat' (first | refine aw_seq ?_ | refine aw_skip ?_ | refine aw_block ?_ | refine aw_exit ?_ | refine aw_cond rfl (fun _ => ?_) (fun hb => absurd hb (by decide)) | refine aw_cond rfl (fun hb => absurd hb (by decide)) (fun _ => ?_) | (refine aw_reg (fun K hK => ?_); simp -implicitDefEqProofs) | (refine aw_drw mixd (fun K hK => ?_); simp -implicitDefEqProofs) | refine hK _ ?_ | refine hK _ _ (by rfl) ?_ | (refine ar_call (cb p 0 ?_); simp -implicitDefEqProofs) | (refine ard_call (db p 0 ?_); simp -implicitDefEqProofs) | (refine ar_call (cb n 0 ?_); simp -implicitDefEqProofs) | (refine ard_call (db n 0 ?_); simp -implicitDefEqProofs) | (refine ar_call (cb s 0 ?_); simp -implicitDefEqProofs) | (refine ard_call (db s 0 ?_); simp -implicitDefEqProofs) | (refine ar_call (cb m 0 ?_); simp -implicitDefEqProofs) | (refine ard_call (db m 0 ?_); simp -implicitDefEqProofs) | fail)
  refine aw_ret (fin_box ?_); simp -implicitDefEqProofs [FinB, resV, resT] <;> try rfl
set_option maxRecDepth 100000 in
set_option maxHeartbeats 4000000 in
theorem atom5_row : Row Try.prog 73 [vR] [rd ts5 0 0] (vT nd5) [some (rd ts5 1 0)] := by
  have g := goes_row ts5 0 0
  have n := next_row ts5 0 0
  rw [show nxt ts5 0 = tk5 from rfl] at n
  have i1 := isr ⟨#[64]⟩ (by decide)
  have i2 := isr ⟨#[40]⟩ (by decide)
  have i3 := isr ⟨#[91]⟩ (by decide)
  have i4 := isr ⟨#[110, 101, 119]⟩ (by decide)
  refine row_of Try.func73 rfl rfl (Nat.le_of_ble_eq_true rfl) ?_
  repeat' (first | refine aw_seq ?_ | refine aw_skip ?_ | refine aw_block ?_ | refine aw_exit ?_ | refine aw_cond rfl (fun _ => ?_) (fun hb => absurd hb (by decide)) | refine aw_cond rfl (fun hb => absurd hb (by decide)) (fun _ => ?_) | (refine aw_reg (fun K hK => ?_); simp -implicitDefEqProofs) | (refine aw_drw mixd (fun K hK => ?_); simp -implicitDefEqProofs) | refine hK _ ?_ | refine hK _ _ (by rfl) ?_ | (refine ar_call (cb g 0 ?_); simp -implicitDefEqProofs) | (refine ard_call (db g 0 ?_); simp -implicitDefEqProofs) | (refine ar_call (cb n 0 ?_); simp -implicitDefEqProofs) | (refine ard_call (db n 0 ?_); simp -implicitDefEqProofs) | (refine ar_call (cb i1 0 ?_); simp -implicitDefEqProofs) | (refine ard_call (db i1 0 ?_); simp -implicitDefEqProofs) | (refine ar_call (cb i2 0 ?_); simp -implicitDefEqProofs) | (refine ard_call (db i2 0 ?_); simp -implicitDefEqProofs) | (refine ar_call (cb i3 0 ?_); simp -implicitDefEqProofs) | (refine ard_call (db i3 0 ?_); simp -implicitDefEqProofs) | (refine ar_call (cb i4 0 ?_); simp -implicitDefEqProofs) | (refine ard_call (db i4 0 ?_); simp -implicitDefEqProofs) | (refine ar_call (cb lit5_row 0 ?_); simp -implicitDefEqProofs) | (refine ard_call (db lit5_row 0 ?_); simp -implicitDefEqProofs) | fail)
  refine aw_ret (fin_box ?_); simp -implicitDefEqProofs [FinB, resV, resT] <;> try rfl
set_option maxRecDepth 100000 in
set_option maxHeartbeats 4000000 in
theorem post5_row : Row Try.prog 65 [vR] [rd ts5 0 0] (vT nd5) [some (rd ts5 1 0)] := by
  have p := place_row ts5 0 0
  have g := goes_row ts5 1 0
  have i3 := isre ⟨#[91]⟩ (by decide)
  have i4 := isre ⟨#[46]⟩ (by decide)
  refine row_of Try.func65 rfl rfl (Nat.le_of_ble_eq_true rfl) ?_
  repeat' (first | refine aw_seq ?_ | refine aw_skip ?_ | refine aw_block ?_ | refine aw_exit ?_ | refine aw_cond rfl (fun _ => ?_) (fun hb => absurd hb (by decide)) | refine aw_cond rfl (fun hb => absurd hb (by decide)) (fun _ => ?_) | (refine aw_reg (fun K hK => ?_); simp -implicitDefEqProofs) | (refine aw_drw mixd (fun K hK => ?_); simp -implicitDefEqProofs) | refine hK _ ?_ | refine hK _ _ (by rfl) ?_ | (refine ar_call (cb p 0 ?_); simp -implicitDefEqProofs) | (refine ard_call (db p 0 ?_); simp -implicitDefEqProofs) | (refine ar_call (cb atom5_row 0 ?_); simp -implicitDefEqProofs) | (refine ard_call (db atom5_row 0 ?_); simp -implicitDefEqProofs) | fail)
  refine aw_lp (ι := Unit) (fun _ => mkSt [(0, vR), (2, .v (.c (.ptr 1 0))), (3, vI 0), (4, .v (.c (.ptr 2 0)))] [some (rd ts5 1 0), some (.box [.pv (I 0), .pv (I 0), .pv (Sx ⟨#[]⟩), .pv .nilS, .pv (I 0), .pv (I 0)]), some (.box [.pv (I 5), .pv (I 5), .pv (Sx ⟨#[]⟩), .pv (.sl 6 []), .pv (I 0), .pv (I 1)])]) (fun _ => True) (fun _ => 0) () trivial (cov_intro [0, 1, 23] (by simp -implicitDefEqProofs) (by simp -implicitDefEqProofs) (by decide) rfl (by simp)) (fun Z hI _ _ => ?_)
  repeat' (first | refine aw_seq ?_ | refine aw_skip ?_ | refine aw_block ?_ | refine aw_exit ?_ | refine aw_cond rfl (fun _ => ?_) (fun hb => absurd hb (by decide)) | refine aw_cond rfl (fun hb => absurd hb (by decide)) (fun _ => ?_) | (refine aw_reg (fun K hK => ?_); simp -implicitDefEqProofs) | (refine aw_drw mixd (fun K hK => ?_); simp -implicitDefEqProofs) | refine hK _ ?_ | refine hK _ _ (by rfl) ?_ | (refine ar_call (cb g 0 ?_); simp -implicitDefEqProofs) | (refine ard_call (db g 0 ?_); simp -implicitDefEqProofs) | (refine ar_call (cb i3 0 ?_); simp -implicitDefEqProofs) | (refine ard_call (db i3 0 ?_); simp -implicitDefEqProofs) | (refine ar_call (cb i4 0 ?_); simp -implicitDefEqProofs) | (refine ard_call (db i4 0 ?_); simp -implicitDefEqProofs) | fail)
  refine aw_ret (fin_box ?_); simp -implicitDefEqProofs [FinB, resV, resT] <;> try rfl
set_option maxRecDepth 100000 in
set_option maxHeartbeats 4000000 in
theorem un5_row : Row Try.prog 52 [vR] [rd ts5 0 0] (vT nd5) [some (rd ts5 1 0)] := by
  have p := place_row ts5 0 0
  have i3 := take_no ts5 0 0 ⟨#[45]⟩ (by decide) (.inr (is5 _))
  have i4 := take_no ts5 0 0 ⟨#[33]⟩ (by decide) (.inr (is5 _))
  refine row_of Try.func52 rfl rfl (Nat.le_of_ble_eq_true rfl) ?_
  repeat' (first | refine aw_seq ?_ | refine aw_skip ?_ | refine aw_block ?_ | refine aw_exit ?_ | refine aw_cond rfl (fun _ => ?_) (fun hb => absurd hb (by decide)) | refine aw_cond rfl (fun hb => absurd hb (by decide)) (fun _ => ?_) | (refine aw_reg (fun K hK => ?_); simp -implicitDefEqProofs) | (refine aw_drw mixd (fun K hK => ?_); simp -implicitDefEqProofs) | refine hK _ ?_ | refine hK _ _ (by rfl) ?_ | (refine ar_call (cb p 0 ?_); simp -implicitDefEqProofs) | (refine ard_call (db p 0 ?_); simp -implicitDefEqProofs) | (refine ar_call (cb i3 0 ?_); simp -implicitDefEqProofs) | (refine ard_call (db i3 0 ?_); simp -implicitDefEqProofs) | (refine ar_call (cb i4 0 ?_); simp -implicitDefEqProofs) | (refine ard_call (db i4 0 ?_); simp -implicitDefEqProofs) | (refine ar_call (cb post5_row 0 ?_); simp -implicitDefEqProofs) | (refine ard_call (db post5_row 0 ?_); simp -implicitDefEqProofs) | fail)
  refine aw_ret (fin_box ?_); simp -implicitDefEqProofs [FinB, resV, resT] <;> try rfl
set_option maxRecDepth 100000 in
set_option maxHeartbeats 4000000 in
theorem op5_row : Row Try.prog 53 [vK endK] [] (.tup [.c (.pv (I 0)), .c (.pv (I 6))]) [] := by
  unfold endK
  refine row_of Try.func53 rfl rfl (Nat.le_of_ble_eq_true rfl) ?_
  repeat (first | refine aw_seq ?_ | refine aw_skip ?_ | refine aw_block ?_ | refine aw_exit ?_ | refine aw_cond rfl (fun _ => ?_) (fun hb => absurd hb (by decide)) | refine aw_cond rfl (fun hb => absurd hb (by decide)) (fun _ => ?_) | (refine aw_reg (fun K hK => ?_); simp -implicitDefEqProofs; refine hK _ ?_) | (refine aw_drw mixd (fun K hK => ?_); simp -implicitDefEqProofs; refine hK _ _ (by rfl) ?_) | fail)
  refine aw_ret (fin_ret ?_); simp -implicitDefEqProofs [FinP, resV, resT] <;> try rfl
set_option maxRecDepth 100000 in
set_option maxHeartbeats 4000000 in
theorem line5_row : Row Try.prog 45 [vR, vI 1] [rd ts5 0 0] (vT nd5) [some (rd ts5 1 0)] := by
  have p := place_row ts5 0 0
  have g := goes_row ts5 1 0
  have n := next_row ts5 1 0
  rw [show nxt ts5 1 = endK from rfl] at n
  have o := op5_row
  unfold endK at n o
  refine row_of Try.func45 rfl rfl (Nat.le_of_ble_eq_true rfl) ?_
  repeat' (first | refine aw_seq ?_ | refine aw_skip ?_ | refine aw_block ?_ | refine aw_exit ?_ | refine aw_cond rfl (fun _ => ?_) (fun hb => absurd hb (by decide)) | refine aw_cond rfl (fun hb => absurd hb (by decide)) (fun _ => ?_) | (refine aw_reg (fun K hK => ?_); simp -implicitDefEqProofs) | (refine aw_drw mixd (fun K hK => ?_); simp -implicitDefEqProofs) | refine hK _ ?_ | refine hK _ _ (by rfl) ?_ | (refine ar_call (cb p 0 ?_); simp -implicitDefEqProofs) | (refine ard_call (db p 0 ?_); simp -implicitDefEqProofs) | (refine ar_call (cb un5_row 0 ?_); simp -implicitDefEqProofs) | (refine ard_call (db un5_row 0 ?_); simp -implicitDefEqProofs) | fail)
  refine aw_lp (ι := Unit) (fun _ => mkSt [(0, vR), (1, vI 1), (4, .v (.c (.ptr 1 0))), (5, vI 0), (6, .v (.c (.ptr 2 0))), (7, vI 5)] [some (rd ts5 1 0), some (.box [.pv (I 0), .pv (I 0), .pv (Sx ⟨#[]⟩), .pv .nilS, .pv (I 0), .pv (I 0)]), some (.box [.pv (I 5), .pv (I 5), .pv (Sx ⟨#[]⟩), .pv (.sl 6 []), .pv (I 0), .pv (I 1)])]) (fun _ => True) (fun _ => 0) () trivial (cov_intro [0, 1, 23] (by simp -implicitDefEqProofs) (by simp -implicitDefEqProofs) (by decide) rfl (by simp)) (fun Z hI _ _ => ?_)
  repeat' (first | refine aw_seq ?_ | refine aw_skip ?_ | refine aw_block ?_ | refine aw_exit ?_ | refine aw_cond rfl (fun _ => ?_) (fun hb => absurd hb (by decide)) | refine aw_cond rfl (fun hb => absurd hb (by decide)) (fun _ => ?_) | (refine aw_reg (fun K hK => ?_); simp -implicitDefEqProofs) | (refine aw_drw mixd (fun K hK => ?_); simp -implicitDefEqProofs) | refine hK _ ?_ | refine hK _ _ (by rfl) ?_ | (refine ar_call (cb g 0 ?_); simp -implicitDefEqProofs) | (refine ard_call (db g 0 ?_); simp -implicitDefEqProofs) | (refine ar_call (cb n 0 ?_); simp -implicitDefEqProofs) | (refine ard_call (db n 0 ?_); simp -implicitDefEqProofs) | (refine ar_call (cp o ?_); simp -implicitDefEqProofs) | (refine ard_call (dp o ?_); simp -implicitDefEqProofs) | fail)
  refine aw_ret (fin_box ?_); simp -implicitDefEqProofs [FinB, resV, resT] <;> try rfl
set_option maxRecDepth 100000 in
set_option maxHeartbeats 4000000 in
theorem expr5_row : Row Try.prog 21 [vR] [rd ts5 0 0] (vT nd5) [some (rd ts5 1 0)] := by
  refine row_of Try.func21 rfl rfl (Nat.le_of_ble_eq_true rfl) ?_
  repeat' (first | refine aw_seq ?_ | refine aw_skip ?_ | refine aw_block ?_ | refine aw_exit ?_ | refine aw_cond rfl (fun _ => ?_) (fun hb => absurd hb (by decide)) | refine aw_cond rfl (fun hb => absurd hb (by decide)) (fun _ => ?_) | (refine aw_reg (fun K hK => ?_); simp -implicitDefEqProofs) | (refine aw_drw mixd (fun K hK => ?_); simp -implicitDefEqProofs) | refine hK _ ?_ | refine hK _ _ (by rfl) ?_ | (refine ar_call (cb line5_row 0 ?_); simp -implicitDefEqProofs) | (refine ard_call (db line5_row 0 ?_); simp -implicitDefEqProofs) | fail)
  refine aw_ret (fin_box ?_); simp -implicitDefEqProofs [FinB, resV, resT] <;> try rfl
set_option maxRecDepth 100000 in
set_option maxHeartbeats 4000000 in
theorem parse5_row : Row Try.prog 9 [vKs ts5, vI 0] [] (vT3 (nd5, 1, 0)) [] := by
  have h := begin_yes ts5 0 (by decide) 21 (nd5, 1, 0) expr5_row
  rw [show endT (nd5, 1, 0) = (nd5, 1, 0) from if_pos rfl] at h
  refine row_of Try.func9 rfl rfl (Nat.le_of_ble_eq_true rfl) ?_
  repeat' (first | refine aw_seq ?_ | refine aw_skip ?_ | refine aw_block ?_ | refine aw_exit ?_ | refine aw_cond rfl (fun _ => ?_) (fun hb => absurd hb (by decide)) | refine aw_cond rfl (fun hb => absurd hb (by decide)) (fun _ => ?_) | (refine aw_reg (fun K hK => ?_); simp -implicitDefEqProofs) | (refine aw_drw mixd (fun K hK => ?_); simp -implicitDefEqProofs) | refine hK _ ?_ | refine hK _ _ (by rfl) ?_ | (refine ar_call (cp h ?_); simp -implicitDefEqProofs) | (refine ard_call (dp h ?_); simp -implicitDefEqProofs) | fail)
  refine aw_ret (fin_ret ?_); simp -implicitDefEqProofs [FinP, resV, resT] <;> try rfl
set_option maxRecDepth 100000 in
set_option maxHeartbeats 4000000 in
theorem awake07_row : Row Try.prog 8 [] [] (vB true) [] := by
  refine row_of Try.func8 rfl rfl (Nat.le_of_ble_eq_true rfl) ?_
  repeat' (first | refine aw_seq ?_ | refine aw_skip ?_ | refine aw_block ?_ | refine aw_exit ?_ | refine aw_cond rfl (fun _ => ?_) (fun hb => absurd hb (by decide)) | refine aw_cond rfl (fun hb => absurd hb (by decide)) (fun _ => ?_) | (refine aw_reg (fun K hK => ?_); simp -implicitDefEqProofs) | (refine aw_drw mixd (fun K hK => ?_); simp -implicitDefEqProofs) | refine hK _ ?_ | refine hK _ _ (by rfl) ?_ | (refine ar_call (cp parse5_row ?_); simp -implicitDefEqProofs) | (refine ard_call (dp parse5_row ?_); simp -implicitDefEqProofs) | fail)
  refine aw_ret (fin_ret ?_); simp -implicitDefEqProofs [FinP, resV, resT] <;> try rfl
end Go.Proofs.Ythcnligihpnfiaa.am
