import Derived.Test.YtlkggpjdaaglmaaGreatDoorPkB18
section
namespace Go.Proofs.YtlkggpjdaaglmaaGreatDoor.am
open Go.ChangeShapes Go.WideShapes Go.ChangeAt Go.RowKit
open vt
set_option linter.unusedVariables false
set_option linter.unusedSimpArgs false
section
variable (ts : List Tok) (hl : ts.length ≤ 3000000000000) (S : Nat → Got) (hS : ∀ j, j ≤ ts.length → OkS ts 0 j (S j)) (hS2 : ∀ j, j ≤ ts.length → (S j).2.2 = 0 → j + 2 ≤ (S j).2.1) (i : Nat) (hi : i ≤ ts.length)
  (hrow : ∀ j, i < j → j ≤ ts.length → Row Tryz.prog 141 [vR] [rd ts j 0] (vT (S j).1) [some (rd ts (S j).2.1 (S j).2.2)])
include hl hS hS2 hi hrow
set_option maxRecDepth 100000 in
set_option maxHeartbeats 4000000 in
theorem while_row : Row Tryz.prog 164 [vR] [rd ts i 0] (vT (itH ts (RR ts S) i 24 0 [.sgn wWhil, .sub 0, .sub 2] i ⟨#[]⟩ []).1) [some (rd ts (itH ts (RR ts S) i 24 0 [.sgn wWhil, .sub 0, .sub 2] i ⟨#[]⟩ []).2.1 (itH ts (RR ts S) i 24 0 [.sgn wWhil, .sub 0, .sub 2] i ⟨#[]⟩ []).2.2)] := by
  have hok := (itG_ok (n := 0) (RR_ok hS) i 24 [.sgn wWhil, .sub 0, .sub 2] i ⟨#[]⟩ [] 0 (by simp [sm]) hi (by simp [Cr])).ok
  have p0 := place_row ts i 0
  have c0 : (0 : Int) = 0 → i ≤ i ∧ i ≤ ts.length := fun _ => ⟨Nat.le_refl _, hi⟩
  have w1 := want_tot ts (by omega) (i, 0) wWhil (by decide)
  have c1 := wt_c (ts := ts) (s := wWhil) (p := (i, 0)) c0
  obtain ⟨⟨i1, e1⟩, h1⟩ : ∃ p, WT ts wWhil (i, 0) = p := ⟨_, rfl⟩
  rw [h1] at w1 c1
  dsimp only at w1 c1
  have w2 := expr_tot ts hl (i1, e1) c1
  have c2 := ot_c (ts := ts) (G := RR ts S 0) (p := (i1, e1)) (fun j hj => (RR_ok hS 0 j hj).ok) c1
  rw [show Qx ts 1 = RR ts S 0 from rfl] at w2
  obtain ⟨⟨⟨tx2, tl2⟩, i2, e2⟩, h2⟩ : ∃ r, OT (RR ts S 0) (i1, e1) = r := ⟨_, rfl⟩
  rw [h2] at w2 c2
  dsimp only at w2 c2
  have w3 := block_tot ts hl S hS hS2 i hrow (i2, e2) c2
  have c3 := ot_c (ts := ts) (G := RR ts S 2) (p := (i2, e2)) (fun j hj => (RR_ok hS 2 j hj).ok) c2
  have d3 := bl_to (ts := ts) (S := S) (p := (i2, e2))
  rw [show blG ts S = RR ts S 2 from rfl] at w3
  rw [show blG ts S = RR ts S 2 from rfl] at d3
  obtain ⟨⟨⟨tx3, tl3⟩, i3, e3⟩, h3⟩ : ∃ r, OT (RR ts S 2) (i2, e2) = r := ⟨_, rfl⟩
  rw [h3] at w3 c3 d3
  dsimp only at w3 c3 d3
  rw [ft_start, ft_sgn, h1, ft_sub (rr_no hS 0) (fun h => (c1 h).2), h2, ft_sub (rr_no hS 2) (fun h => (c2 h).2), h3, ft_end] at hok ⊢
  have n := node_tot ts (by omega) (i3, e3) i ⟨24, 0, ⟨#[]⟩, 0, 0⟩ [.mk tx2 tl2, .mk tx3 tl3] (nt_at hok)
  dsimp only at n
  simp only [List.nil_append, List.cons_append]
  obtain ⟨⟨⟨nx, nl⟩, nj, ne⟩, hn⟩ : ∃ r, NT ts i 24 0 ⟨#[]⟩ [.mk tx2 tl2, .mk tx3 tl3] (i3, e3) = r := ⟨_, rfl⟩
  rw [hn] at n ⊢
  clear hok hS hn hS2 hrow
  refine row_of Tryz.func164 rfl rfl (Nat.le_of_ble_eq_true rfl) ?_
  repeat' (first | refine aw_seq ?_ | refine aw_skip ?_ | refine aw_block ?_ | refine aw_exit ?_ | refine aw_ct rfl ?_ | refine aw_cf rfl ?_ | ((first | refine aw_reg (fun K hK => ?_) | refine aw_drw mixd (fun K hK => ?_) | refine ar_call (cb p0 0 ?_) | refine ard_call (db p0 0 ?_) | refine ar_call (cb w1 0 ?_) | refine ard_call (db w1 0 ?_) | refine ar_call (cb w2 0 ?_) | refine ard_call (db w2 0 ?_) | refine ar_call (cb w3 0 ?_) | refine ard_call (db w3 0 ?_) | refine ar_call (cb n 0 ?_) | refine ard_call (db n 0 ?_) | fail); simp -implicitDefEqProofs) | refine hK _ ?_ | refine hK _ _ (by rfl) ?_ | fail)
  refine aw_ret (fin_box ?_); simp -implicitDefEqProofs [FinB, resV, resT] <;> try rfl
set_option maxRecDepth 100000 in
set_option maxHeartbeats 4000000 in
theorem count_row : Row Tryz.prog 165 [vR] [rd ts i 0] (vT (itH ts (RR ts S) i 25 0 [.sgn wFor, .nam, .sgn sIs, .sub 0, .sgn wTo, .sub 0, .sub 2] i ⟨#[]⟩ []).1) [some (rd ts (itH ts (RR ts S) i 25 0 [.sgn wFor, .nam, .sgn sIs, .sub 0, .sgn wTo, .sub 0, .sub 2] i ⟨#[]⟩ []).2.1 (itH ts (RR ts S) i 25 0 [.sgn wFor, .nam, .sgn sIs, .sub 0, .sgn wTo, .sub 0, .sub 2] i ⟨#[]⟩ []).2.2)] := by
  have hok := (itG_ok (n := 0) (RR_ok hS) i 25 [.sgn wFor, .nam, .sgn sIs, .sub 0, .sgn wTo, .sub 0, .sub 2] i ⟨#[]⟩ [] 0 (by simp [sm]) hi (by simp [Cr])).ok
  have p0 := place_row ts i 0
  have c0 : (0 : Int) = 0 → i ≤ i ∧ i ≤ ts.length := fun _ => ⟨Nat.le_refl _, hi⟩
  have w1 := want_tot ts (by omega) (i, 0) wFor (by decide)
  have c1 := wt_c (ts := ts) (s := wFor) (p := (i, 0)) c0
  obtain ⟨⟨i1, e1⟩, h1⟩ : ∃ p, WT ts wFor (i, 0) = p := ⟨_, rfl⟩
  rw [h1] at w1 c1
  dsimp only at w1 c1
  have w2 := kind_tot ts (by omega) (i1, e1) 1 (by decide)
  have c2 := kt_c (ts := ts) (p := (i1, e1)) (k := 1) (by decide) c1
  obtain ⟨⟨⟨xk, xn, xs, xf, xt⟩, i2, e2⟩, h2⟩ : ∃ p, KT ts 1 (i1, e1) = p := ⟨_, rfl⟩
  rw [h2] at w2 c2
  dsimp only at w2 c2
  have w3 := want_tot ts (by omega) (i2, e2) sIs (by decide)
  have c3 := wt_c (ts := ts) (s := sIs) (p := (i2, e2)) c2
  obtain ⟨⟨i3, e3⟩, h3⟩ : ∃ p, WT ts sIs (i2, e2) = p := ⟨_, rfl⟩
  rw [h3] at w3 c3
  dsimp only at w3 c3
  have w4 := expr_tot ts hl (i3, e3) c3
  have c4 := ot_c (ts := ts) (G := RR ts S 0) (p := (i3, e3)) (fun j hj => (RR_ok hS 0 j hj).ok) c3
  rw [show Qx ts 1 = RR ts S 0 from rfl] at w4
  obtain ⟨⟨⟨tx4, tl4⟩, i4, e4⟩, h4⟩ : ∃ r, OT (RR ts S 0) (i3, e3) = r := ⟨_, rfl⟩
  rw [h4] at w4 c4
  dsimp only at w4 c4
  have w5 := want_tot ts (by omega) (i4, e4) wTo (by decide)
  have c5 := wt_c (ts := ts) (s := wTo) (p := (i4, e4)) c4
  obtain ⟨⟨i5, e5⟩, h5⟩ : ∃ p, WT ts wTo (i4, e4) = p := ⟨_, rfl⟩
  rw [h5] at w5 c5
  dsimp only at w5 c5
  have w6 := expr_tot ts hl (i5, e5) c5
  have c6 := ot_c (ts := ts) (G := RR ts S 0) (p := (i5, e5)) (fun j hj => (RR_ok hS 0 j hj).ok) c5
  rw [show Qx ts 1 = RR ts S 0 from rfl] at w6
  obtain ⟨⟨⟨tx6, tl6⟩, i6, e6⟩, h6⟩ : ∃ r, OT (RR ts S 0) (i5, e5) = r := ⟨_, rfl⟩
  rw [h6] at w6 c6
  dsimp only at w6 c6
  have w7 := block_tot ts hl S hS hS2 i hrow (i6, e6) c6
  have c7 := ot_c (ts := ts) (G := RR ts S 2) (p := (i6, e6)) (fun j hj => (RR_ok hS 2 j hj).ok) c6
  have d7 := bl_to (ts := ts) (S := S) (p := (i6, e6))
  rw [show blG ts S = RR ts S 2 from rfl] at w7
  rw [show blG ts S = RR ts S 2 from rfl] at d7
  obtain ⟨⟨⟨tx7, tl7⟩, i7, e7⟩, h7⟩ : ∃ r, OT (RR ts S 2) (i6, e6) = r := ⟨_, rfl⟩
  rw [h7] at w7 c7 d7
  dsimp only at w7 c7 d7
  rw [ft_start, ft_sgn, h1, ft_nam, h2, ft_sgn, h3, ft_sub (rr_no hS 0) (fun h => (c3 h).2), h4, ft_sgn, h5, ft_sub (rr_no hS 0) (fun h => (c5 h).2), h6, ft_sub (rr_no hS 2) (fun h => (c6 h).2), h7, ft_end] at hok ⊢
  have n := node_tot ts (by omega) (i7, e7) i ⟨25, 0, xs, 0, 0⟩ [.mk tx4 tl4, .mk tx6 tl6, .mk tx7 tl7] (nt_at hok)
  dsimp only at n
  simp only [List.nil_append, List.cons_append]
  obtain ⟨⟨⟨nx, nl⟩, nj, ne⟩, hn⟩ : ∃ r, NT ts i 25 0 xs [.mk tx4 tl4, .mk tx6 tl6, .mk tx7 tl7] (i7, e7) = r := ⟨_, rfl⟩
  rw [hn] at n ⊢
  clear hok hS hn hS2 hrow
  refine row_of Tryz.func165 rfl rfl (Nat.le_of_ble_eq_true rfl) ?_
  repeat' (first | refine aw_seq ?_ | refine aw_skip ?_ | refine aw_block ?_ | refine aw_exit ?_ | refine aw_ct rfl ?_ | refine aw_cf rfl ?_ | ((first | refine aw_reg (fun K hK => ?_) | refine aw_drw mixd (fun K hK => ?_) | refine ar_call (cb p0 0 ?_) | refine ard_call (db p0 0 ?_) | refine ar_call (cb w1 0 ?_) | refine ard_call (db w1 0 ?_) | refine ar_call (cb w2 0 ?_) | refine ard_call (db w2 0 ?_) | refine ar_call (cb w3 0 ?_) | refine ard_call (db w3 0 ?_) | refine ar_call (cb w4 0 ?_) | refine ard_call (db w4 0 ?_) | refine ar_call (cb w5 0 ?_) | refine ard_call (db w5 0 ?_) | refine ar_call (cb w6 0 ?_) | refine ard_call (db w6 0 ?_) | refine ar_call (cb w7 0 ?_) | refine ard_call (db w7 0 ?_) | refine ar_call (cb n 0 ?_) | refine ard_call (db n 0 ?_) | fail); simp -implicitDefEqProofs) | refine hK _ ?_ | refine hK _ _ (by rfl) ?_ | fail)
  refine aw_ret (fin_box ?_); simp -implicitDefEqProofs [FinB, resV, resT] <;> try rfl
omit hS2 hrow in
set_option maxRecDepth 100000 in
set_option maxHeartbeats 4000000 in
theorem set_row8 : Row Tryz.prog 167 [vR] [rd ts i 0] (vT (itH ts (RR ts S) i 22 0 [.sub 0, .sgn sIs, .sub 0, .sgn sEnd] i ⟨#[]⟩ []).1) [some (rd ts (itH ts (RR ts S) i 22 0 [.sub 0, .sgn sIs, .sub 0, .sgn sEnd] i ⟨#[]⟩ []).2.1 (itH ts (RR ts S) i 22 0 [.sub 0, .sgn sIs, .sub 0, .sgn sEnd] i ⟨#[]⟩ []).2.2)] := by
  have hok := (itG_ok (n := 0) (RR_ok hS) i 22 [.sub 0, .sgn sIs, .sub 0, .sgn sEnd] i ⟨#[]⟩ [] 0 (by simp [sm]) hi (by simp [Cr])).ok
  have p0 := place_row ts i 0
  have c0 : (0 : Int) = 0 → i ≤ i ∧ i ≤ ts.length := fun _ => ⟨Nat.le_refl _, hi⟩
  have w1 := expr_tot ts hl (i, 0) c0
  have c1 := ot_c (ts := ts) (G := RR ts S 0) (p := (i, 0)) (fun j hj => (RR_ok hS 0 j hj).ok) c0
  rw [show Qx ts 1 = RR ts S 0 from rfl] at w1
  obtain ⟨⟨⟨tx1, tl1⟩, i1, e1⟩, h1⟩ : ∃ r, OT (RR ts S 0) (i, 0) = r := ⟨_, rfl⟩
  rw [h1] at w1 c1
  dsimp only at w1 c1
  have w2 := want_tot ts (by omega) (i1, e1) sIs (by decide)
  have c2 := wt_c (ts := ts) (s := sIs) (p := (i1, e1)) c1
  obtain ⟨⟨i2, e2⟩, h2⟩ : ∃ p, WT ts sIs (i1, e1) = p := ⟨_, rfl⟩
  rw [h2] at w2 c2
  dsimp only at w2 c2
  have w3 := expr_tot ts hl (i2, e2) c2
  have c3 := ot_c (ts := ts) (G := RR ts S 0) (p := (i2, e2)) (fun j hj => (RR_ok hS 0 j hj).ok) c2
  rw [show Qx ts 1 = RR ts S 0 from rfl] at w3
  obtain ⟨⟨⟨tx3, tl3⟩, i3, e3⟩, h3⟩ : ∃ r, OT (RR ts S 0) (i2, e2) = r := ⟨_, rfl⟩
  rw [h3] at w3 c3
  dsimp only at w3 c3
  have w4 := want_tot ts (by omega) (i3, e3) sEnd (by decide)
  have c4 := wt_c (ts := ts) (s := sEnd) (p := (i3, e3)) c3
  obtain ⟨⟨i4, e4⟩, h4⟩ : ∃ p, WT ts sEnd (i3, e3) = p := ⟨_, rfl⟩
  rw [h4] at w4 c4
  dsimp only at w4 c4
  rw [ft_start, ft_sub (rr_no hS 0) (fun h => (c0 h).2), h1, ft_sgn, h2, ft_sub (rr_no hS 0) (fun h => (c2 h).2), h3, ft_sgn, h4, ft_end] at hok ⊢
  have n := node_tot ts (by omega) (i4, e4) i ⟨22, 0, ⟨#[]⟩, 0, 0⟩ [.mk tx1 tl1, .mk tx3 tl3] (nt_at hok)
  dsimp only at n
  simp only [List.nil_append, List.cons_append]
  obtain ⟨⟨⟨nx, nl⟩, nj, ne⟩, hn⟩ : ∃ r, NT ts i 22 0 ⟨#[]⟩ [.mk tx1 tl1, .mk tx3 tl3] (i4, e4) = r := ⟨_, rfl⟩
  rw [hn] at n ⊢
  clear hok hS hn
  refine row_of Tryz.func167 rfl rfl (Nat.le_of_ble_eq_true rfl) ?_
  repeat' (first | refine aw_seq ?_ | refine aw_skip ?_ | refine aw_block ?_ | refine aw_exit ?_ | refine aw_ct rfl ?_ | refine aw_cf rfl ?_ | ((first | refine aw_reg (fun K hK => ?_) | refine aw_drw mixd (fun K hK => ?_) | refine ar_call (cb p0 0 ?_) | refine ard_call (db p0 0 ?_) | refine ar_call (cb w1 0 ?_) | refine ard_call (db w1 0 ?_) | refine ar_call (cb w2 0 ?_) | refine ard_call (db w2 0 ?_) | refine ar_call (cb w3 0 ?_) | refine ard_call (db w3 0 ?_) | refine ar_call (cb w4 0 ?_) | refine ard_call (db w4 0 ?_) | refine ar_call (cb n 0 ?_) | refine ard_call (db n 0 ?_) | fail); simp -implicitDefEqProofs) | refine hK _ ?_ | refine hK _ _ (by rfl) ?_ | fail)
  refine aw_ret (fin_box ?_); simp -implicitDefEqProofs [FinB, resV, resT] <;> try rfl
omit hS2 hrow in
set_option maxRecDepth 100000 in
set_option maxHeartbeats 4000000 in
theorem let_new (hcol : TT ts sCol (KT ts 1 (WT ts wLet (i, 0))).2 = true) : Row Tryz.prog 162 [vR] [rd ts i 0] (vT (itH ts (RR ts S) i 21 0 [.sgn wLet, .nam, .sgn sCol, .sub 1, .sgn sEnd] i ⟨#[]⟩ []).1) [some (rd ts (itH ts (RR ts S) i 21 0 [.sgn wLet, .nam, .sgn sCol, .sub 1, .sgn sEnd] i ⟨#[]⟩ []).2.1 (itH ts (RR ts S) i 21 0 [.sgn wLet, .nam, .sgn sCol, .sub 1, .sgn sEnd] i ⟨#[]⟩ []).2.2)] := by
  have hok := (itG_ok (n := 0) (RR_ok hS) i 21 [.sgn wLet, .nam, .sgn sCol, .sub 1, .sgn sEnd] i ⟨#[]⟩ [] 0 (by simp [sm]) hi (by simp [Cr])).ok
  have p0 := place_row ts i 0
  have c0 : (0 : Int) = 0 → i ≤ i ∧ i ≤ ts.length := fun _ => ⟨Nat.le_refl _, hi⟩
  have w1 := want_tot ts (by omega) (i, 0) wLet (by decide)
  have c1 := wt_c (ts := ts) (s := wLet) (p := (i, 0)) c0
  obtain ⟨⟨i1, e1⟩, h1⟩ : ∃ p, WT ts wLet (i, 0) = p := ⟨_, rfl⟩
  rw [h1] at w1 c1
  dsimp only at w1 c1
  have w2 := kind_tot ts (by omega) (i1, e1) 1 (by decide)
  have c2 := kt_c (ts := ts) (p := (i1, e1)) (k := 1) (by decide) c1
  obtain ⟨⟨⟨xk, xn, xs, xf, xt⟩, i2, e2⟩, h2⟩ : ∃ p, KT ts 1 (i1, e1) = p := ⟨_, rfl⟩
  rw [h2] at w2 c2
  dsimp only at w2 c2
  have w3 := take_yes' ts (by omega) (i2, e2) sCol (by decide) (by rw [← hcol]; rw [h1, h2])
  have y3 : WT ts sCol (i2, e2) = (i2 + 1, 0) := wt_of_tt (by rw [← hcol]; rw [h1, h2])
  have c3 := wt_c (ts := ts) (s := sCol) (p := (i2, e2)) c2
  rw [y3] at c3
  dsimp only at w3 c3
  obtain ⟨i3, z3⟩ : ∃ p, i2 + 1 = p := ⟨_, rfl⟩
  rw [z3] at w3 y3 c3
  have w4 := type_tot ts hl (i3, 0) c3
  have c4 := ot_c (ts := ts) (G := RR ts S 1) (p := (i3, 0)) (fun j hj => (RR_ok hS 1 j hj).ok) c3
  rw [show tyG ts (ts.length + 1) = RR ts S 1 from rfl] at w4
  obtain ⟨⟨⟨tx4, tl4⟩, i4, e4⟩, h4⟩ : ∃ r, OT (RR ts S 1) (i3, 0) = r := ⟨_, rfl⟩
  rw [h4] at w4 c4
  dsimp only at w4 c4
  have w5 := want_tot ts (by omega) (i4, e4) sEnd (by decide)
  have c5 := wt_c (ts := ts) (s := sEnd) (p := (i4, e4)) c4
  obtain ⟨⟨i5, e5⟩, h5⟩ : ∃ p, WT ts sEnd (i4, e4) = p := ⟨_, rfl⟩
  rw [h5] at w5 c5
  dsimp only at w5 c5
  rw [ft_start, ft_sgn, h1, ft_nam, h2, ft_sgn, y3, ft_sub (rr_no hS 1) (fun h => (c3 h).2), h4, ft_sgn, h5, ft_end] at hok ⊢
  have n := node_tot ts (by omega) (i5, e5) i ⟨21, 0, xs, 0, 0⟩ [.mk tx4 tl4] (nt_at hok)
  dsimp only at n
  simp only [List.nil_append, List.cons_append]
  obtain ⟨⟨⟨nx, nl⟩, nj, ne⟩, hn⟩ : ∃ r, NT ts i 21 0 xs [.mk tx4 tl4] (i5, e5) = r := ⟨_, rfl⟩
  rw [hn] at n ⊢
  clear hok hS hn
  refine row_of Tryz.func162 rfl rfl (Nat.le_of_ble_eq_true rfl) ?_
  repeat' (first | refine aw_seq ?_ | refine aw_skip ?_ | refine aw_block ?_ | refine aw_exit ?_ | refine aw_ct rfl ?_ | refine aw_cf rfl ?_ | ((first | refine aw_reg (fun K hK => ?_) | refine aw_drw mixd (fun K hK => ?_) | refine ar_call (cb p0 0 ?_) | refine ard_call (db p0 0 ?_) | refine ar_call (cb w1 0 ?_) | refine ard_call (db w1 0 ?_) | refine ar_call (cb w2 0 ?_) | refine ard_call (db w2 0 ?_) | refine ar_call (cb w3 0 ?_) | refine ard_call (db w3 0 ?_) | refine ar_call (cb w4 0 ?_) | refine ard_call (db w4 0 ?_) | refine ar_call (cb w5 0 ?_) | refine ard_call (db w5 0 ?_) | refine ar_call (cb n 0 ?_) | refine ard_call (db n 0 ?_) | fail); simp -implicitDefEqProofs) | refine hK _ ?_ | refine hK _ _ (by rfl) ?_ | fail)
  refine aw_ret (fin_box ?_); simp -implicitDefEqProofs [FinB, resV, resT] <;> try rfl
omit hS2 hrow in
set_option maxRecDepth 100000 in
set_option maxHeartbeats 4000000 in
theorem let_let (hcol : TT ts sCol (KT ts 1 (WT ts wLet (i, 0))).2 = false) : Row Tryz.prog 162 [vR] [rd ts i 0] (vT (itH ts (RR ts S) i 20 0 [.sgn wLet, .nam, .sgn sIs, .sub 0, .sgn sEnd] i ⟨#[]⟩ []).1) [some (rd ts (itH ts (RR ts S) i 20 0 [.sgn wLet, .nam, .sgn sIs, .sub 0, .sgn sEnd] i ⟨#[]⟩ []).2.1 (itH ts (RR ts S) i 20 0 [.sgn wLet, .nam, .sgn sIs, .sub 0, .sgn sEnd] i ⟨#[]⟩ []).2.2)] := by
  have hok := (itG_ok (n := 0) (RR_ok hS) i 20 [.sgn wLet, .nam, .sgn sIs, .sub 0, .sgn sEnd] i ⟨#[]⟩ [] 0 (by simp [sm]) hi (by simp [Cr])).ok
  have p0 := place_row ts i 0
  have c0 : (0 : Int) = 0 → i ≤ i ∧ i ≤ ts.length := fun _ => ⟨Nat.le_refl _, hi⟩
  have w1 := want_tot ts (by omega) (i, 0) wLet (by decide)
  have c1 := wt_c (ts := ts) (s := wLet) (p := (i, 0)) c0
  obtain ⟨⟨i1, e1⟩, h1⟩ : ∃ p, WT ts wLet (i, 0) = p := ⟨_, rfl⟩
  rw [h1] at w1 c1
  dsimp only at w1 c1
  have w2 := kind_tot ts (by omega) (i1, e1) 1 (by decide)
  have c2 := kt_c (ts := ts) (p := (i1, e1)) (k := 1) (by decide) c1
  obtain ⟨⟨⟨xk, xn, xs, xf, xt⟩, i2, e2⟩, h2⟩ : ∃ p, KT ts 1 (i1, e1) = p := ⟨_, rfl⟩
  rw [h2] at w2 c2
  dsimp only at w2 c2
  have t2 := take_no' ts (i2, e2) sCol (by decide) (by rw [← hcol]; rw [h1, h2])
  dsimp only at t2
  have w3 := want_tot ts (by omega) (i2, e2) sIs (by decide)
  have c3 := wt_c (ts := ts) (s := sIs) (p := (i2, e2)) c2
  obtain ⟨⟨i3, e3⟩, h3⟩ : ∃ p, WT ts sIs (i2, e2) = p := ⟨_, rfl⟩
  rw [h3] at w3 c3
  dsimp only at w3 c3
  have w4 := expr_tot ts hl (i3, e3) c3
  have c4 := ot_c (ts := ts) (G := RR ts S 0) (p := (i3, e3)) (fun j hj => (RR_ok hS 0 j hj).ok) c3
  rw [show Qx ts 1 = RR ts S 0 from rfl] at w4
  obtain ⟨⟨⟨tx4, tl4⟩, i4, e4⟩, h4⟩ : ∃ r, OT (RR ts S 0) (i3, e3) = r := ⟨_, rfl⟩
  rw [h4] at w4 c4
  dsimp only at w4 c4
  have w5 := want_tot ts (by omega) (i4, e4) sEnd (by decide)
  have c5 := wt_c (ts := ts) (s := sEnd) (p := (i4, e4)) c4
  obtain ⟨⟨i5, e5⟩, h5⟩ : ∃ p, WT ts sEnd (i4, e4) = p := ⟨_, rfl⟩
  rw [h5] at w5 c5
  dsimp only at w5 c5
  rw [ft_start, ft_sgn, h1, ft_nam, h2, ft_sgn, h3, ft_sub (rr_no hS 0) (fun h => (c3 h).2), h4, ft_sgn, h5, ft_end] at hok ⊢
  have n := node_tot ts (by omega) (i5, e5) i ⟨20, 0, xs, 0, 0⟩ [.mk tx4 tl4] (nt_at hok)
  dsimp only at n
  simp only [List.nil_append, List.cons_append]
  obtain ⟨⟨⟨nx, nl⟩, nj, ne⟩, hn⟩ : ∃ r, NT ts i 20 0 xs [.mk tx4 tl4] (i5, e5) = r := ⟨_, rfl⟩
  rw [hn] at n ⊢
  clear hok hS hn
  refine row_of Tryz.func162 rfl rfl (Nat.le_of_ble_eq_true rfl) ?_
  repeat' (first | refine aw_seq ?_ | refine aw_skip ?_ | refine aw_block ?_ | refine aw_exit ?_ | refine aw_ct rfl ?_ | refine aw_cf rfl ?_ | ((first | refine aw_reg (fun K hK => ?_) | refine aw_drw mixd (fun K hK => ?_) | refine ar_call (cb p0 0 ?_) | refine ard_call (db p0 0 ?_) | refine ar_call (cb w1 0 ?_) | refine ard_call (db w1 0 ?_) | refine ar_call (cb w2 0 ?_) | refine ard_call (db w2 0 ?_) | refine ar_call (cb t2 0 ?_) | refine ard_call (db t2 0 ?_) | refine ar_call (cb w3 0 ?_) | refine ard_call (db w3 0 ?_) | refine ar_call (cb w4 0 ?_) | refine ard_call (db w4 0 ?_) | refine ar_call (cb w5 0 ?_) | refine ard_call (db w5 0 ?_) | refine ar_call (cb n 0 ?_) | refine ard_call (db n 0 ?_) | fail); simp -implicitDefEqProofs) | refine hK _ ?_ | refine hK _ _ (by rfl) ?_ | fail)
  refine aw_ret (fin_box ?_); simp -implicitDefEqProofs [FinB, resV, resT] <;> try rfl
set_option maxRecDepth 100000 in
set_option maxHeartbeats 4000000 in
theorem branch_row : Row Tryz.prog 163 [vR] [rd ts i 0] (vT (itH ts (RR ts S) i 23 0 [.sgn wIf, .sub 0, .sub 2, .els] i ⟨#[]⟩ []).1) [some (rd ts (itH ts (RR ts S) i 23 0 [.sgn wIf, .sub 0, .sub 2, .els] i ⟨#[]⟩ []).2.1 (itH ts (RR ts S) i 23 0 [.sgn wIf, .sub 0, .sub 2, .els] i ⟨#[]⟩ []).2.2)] := by
  have hok := (itG_ok (n := 0) (RR_ok hS) i 23 [.sgn wIf, .sub 0, .sub 2, .els] i ⟨#[]⟩ [] 0 (by simp [sm]) hi (by simp [Cr])).ok
  have p0 := place_row ts i 0
  have c0 : (0 : Int) = 0 → i ≤ i ∧ i ≤ ts.length := fun _ => ⟨Nat.le_refl _, hi⟩
  have w1 := want_tot ts (by omega) (i, 0) wIf (by decide)
  have c1 := wt_c (ts := ts) (s := wIf) (p := (i, 0)) c0
  obtain ⟨⟨i1, e1⟩, h1⟩ : ∃ p, WT ts wIf (i, 0) = p := ⟨_, rfl⟩
  rw [h1] at w1 c1
  dsimp only at w1 c1
  have w2 := expr_tot ts hl (i1, e1) c1
  have c2 := ot_c (ts := ts) (G := RR ts S 0) (p := (i1, e1)) (fun j hj => (RR_ok hS 0 j hj).ok) c1
  rw [show Qx ts 1 = RR ts S 0 from rfl] at w2
  obtain ⟨⟨⟨tx2, tl2⟩, i2, e2⟩, h2⟩ : ∃ r, OT (RR ts S 0) (i1, e1) = r := ⟨_, rfl⟩
  rw [h2] at w2 c2
  dsimp only at w2 c2
  have w3 := block_tot ts hl S hS hS2 i hrow (i2, e2) c2
  have c3 := ot_c (ts := ts) (G := RR ts S 2) (p := (i2, e2)) (fun j hj => (RR_ok hS 2 j hj).ok) c2
  have d3 := bl_to (ts := ts) (S := S) (p := (i2, e2))
  rw [show blG ts S = RR ts S 2 from rfl] at w3
  rw [show blG ts S = RR ts S 2 from rfl] at d3
  obtain ⟨⟨⟨tx3, tl3⟩, i3, e3⟩, h3⟩ : ∃ r, OT (RR ts S 2) (i2, e2) = r := ⟨_, rfl⟩
  rw [h3] at w3 c3 d3
  dsimp only at w3 c3 d3
  by_cases hels : TT ts wElse (i3, e3) = true; rotate_left
  · have hels : TT ts wElse (i3, e3) = false := by simpa using hels
    have t4 := take_no' ts (i3, e3) wElse (by decide) hels
    dsimp only at t4
    rw [ft_start, ft_sgn, h1, ft_sub (rr_no hS 0) (fun h => (c1 h).2), h2, ft_sub (rr_no hS 2) (fun h => (c2 h).2), h3, ft_els_no hels, ft_end] at hok ⊢
    have n := node_tot ts (by omega) (i3, e3) i ⟨23, 0, ⟨#[]⟩, 0, 0⟩ [.mk tx2 tl2, .mk tx3 tl3, .mk ⟨29, 0, ⟨#[]⟩, tx3.t, tx3.t⟩ []] (nt_at hok)
    simp only [List.nil_append, List.cons_append] at hok ⊢
    have hq : NT ts i 23 0 ⟨#[]⟩ [.mk tx2 tl2, .mk tx3 tl3, emB ts i3] (i3, e3) = NT ts i 23 0 ⟨#[]⟩ [.mk tx2 tl2, .mk tx3 tl3, .mk ⟨29, 0, ⟨#[]⟩, tx3.t, tx3.t⟩ []] (i3, e3) := nt_err (fun h => by rw [show emB ts i3 = .mk ⟨29, 0, ⟨#[]⟩, tx3.t, tx3.t⟩ [] by unfold emB; rw [← d3 h]; rfl])
    dsimp only at hq n ⊢
    rw [hq]
    obtain ⟨⟨⟨nx, nl⟩, nj, ne⟩, hn⟩ : ∃ r, NT ts i 23 0 ⟨#[]⟩ [.mk tx2 tl2, .mk tx3 tl3, .mk ⟨29, 0, ⟨#[]⟩, tx3.t, tx3.t⟩ []] (i3, e3) = r := ⟨_, rfl⟩
    rw [hn] at n ⊢
    clear hok hrow hS hS2 hn hq hels
    refine row_of Tryz.func163 rfl rfl (Nat.le_of_ble_eq_true rfl) ?_
    repeat' (first | refine aw_seq ?_ | refine aw_skip ?_ | refine aw_block ?_ | refine aw_exit ?_ | refine aw_ct rfl ?_ | refine aw_cf rfl ?_ | ((first | refine aw_reg (fun K hK => ?_) | refine aw_drw mixd (fun K hK => ?_) | refine ar_call (cb p0 0 ?_) | refine ard_call (db p0 0 ?_) | refine ar_call (cb w1 0 ?_) | refine ard_call (db w1 0 ?_) | refine ar_call (cb w2 0 ?_) | refine ard_call (db w2 0 ?_) | refine ar_call (cb w3 0 ?_) | refine ard_call (db w3 0 ?_) | refine ar_call (cb t4 0 ?_) | refine ard_call (db t4 0 ?_) | refine ar_call (cb n 0 ?_) | refine ard_call (db n 0 ?_) | fail); simp -implicitDefEqProofs) | refine hK _ ?_ | refine hK _ _ (by rfl) ?_ | fail)
    refine aw_ret (fin_box ?_); simp -implicitDefEqProofs [FinB, resV, resT] <;> try rfl
  have t4 := take_yes' ts (by omega) (i3, e3) wElse (by decide) hels
  have he3 : e3 = 0 := by unfold TT at hels; simp at hels; exact hels.1
  have hlt : i3 < ts.length := by unfold TT at hels; simp at hels; exact isK_lt hels.2
  subst he3
  have hc3 := c3 rfl
  have w5 := block_tot ts hl S hS hS2 i hrow (i3 + 1, 0) (fun _ => by dsimp only; omega)
  rw [ft_start, ft_sgn, h1, ft_sub (rr_no hS 0) (fun h => (c1 h).2), h2, ft_sub (rr_no hS 2) (fun h => (c2 h).2), h3, ft_els_yes (rr_no hS 2) hels, ft_end] at hok ⊢
  rw [show OT (blG ts S) (i3 + 1, 0) = RR ts S 2 (i3 + 1) from if_pos rfl] at w5
  dsimp only at hok t4 w5 ⊢
  obtain ⟨⟨⟨tx5, tl5⟩, i5, e5⟩, h5⟩ : ∃ r, RR ts S 2 (i3 + 1) = r := ⟨_, rfl⟩
  rw [h5] at w5 hok ⊢
  dsimp only at hok w5 ⊢
  have n := node_tot ts (by omega) (i5, e5) i ⟨23, 0, ⟨#[]⟩, 0, 0⟩ [.mk tx2 tl2, .mk tx3 tl3, .mk tx5 tl5] (nt_at hok)
  simp only [List.nil_append, List.cons_append] at hok ⊢
  dsimp only at n
  obtain ⟨⟨⟨nx, nl⟩, nj, ne⟩, hn⟩ : ∃ r, NT ts i 23 0 ⟨#[]⟩ [.mk tx2 tl2, .mk tx3 tl3, .mk tx5 tl5] (i5, e5) = r := ⟨_, rfl⟩
  rw [hn] at n ⊢
  clear hok hrow hS hS2 hn hels
  refine row_of Tryz.func163 rfl rfl (Nat.le_of_ble_eq_true rfl) ?_
  repeat' (first | refine aw_seq ?_ | refine aw_skip ?_ | refine aw_block ?_ | refine aw_exit ?_ | refine aw_ct rfl ?_ | refine aw_cf rfl ?_ | ((first | refine aw_reg (fun K hK => ?_) | refine aw_drw mixd (fun K hK => ?_) | refine ar_call (cb p0 0 ?_) | refine ard_call (db p0 0 ?_) | refine ar_call (cb w1 0 ?_) | refine ard_call (db w1 0 ?_) | refine ar_call (cb w2 0 ?_) | refine ard_call (db w2 0 ?_) | refine ar_call (cb w3 0 ?_) | refine ard_call (db w3 0 ?_) | refine ar_call (cb t4 0 ?_) | refine ard_call (db t4 0 ?_) | refine ar_call (cb w5 0 ?_) | refine ard_call (db w5 0 ?_) | refine ar_call (cb n 0 ?_) | refine ard_call (db n 0 ?_) | fail); simp -implicitDefEqProofs) | refine hK _ ?_ | refine hK _ _ (by rfl) ?_ | fail)
  refine aw_ret (fin_box ?_); simp -implicitDefEqProofs [FinB, resV, resT] <;> try rfl
omit hS2 hrow in
set_option maxRecDepth 100000 in
set_option maxHeartbeats 4000000 in
theorem print_row8 (h : TT ts wPrin (i, 0) = true) : Row Tryz.prog 166 [vR] [rd ts i 0] (vT (itH ts (RR ts S) i 26 0 [.sgn wPrin, .sub 0, .sgn sEnd] i ⟨#[]⟩ []).1) [some (rd ts (itH ts (RR ts S) i 26 0 [.sgn wPrin, .sub 0, .sgn sEnd] i ⟨#[]⟩ []).2.1 (itH ts (RR ts S) i 26 0 [.sgn wPrin, .sub 0, .sgn sEnd] i ⟨#[]⟩ []).2.2)] := by
  have hok := (itG_ok (n := 0) (RR_ok hS) i 26 [.sgn wPrin, .sub 0, .sgn sEnd] i ⟨#[]⟩ [] 0 (by simp [sm]) hi (by simp [Cr])).ok
  have p0 := place_row ts i 0
  have c0 : (0 : Int) = 0 → i ≤ i ∧ i ≤ ts.length := fun _ => ⟨Nat.le_refl _, hi⟩
  have w1 := take_yes' ts (by omega) (i, 0) wPrin (by decide) h
  have y1 : WT ts wPrin (i, 0) = (i + 1, 0) := wt_of_tt h
  have c1 := wt_c (ts := ts) (s := wPrin) (p := (i, 0)) c0
  rw [y1] at c1
  dsimp only at w1 c1
  obtain ⟨i1, z1⟩ : ∃ p, i + 1 = p := ⟨_, rfl⟩
  rw [z1] at w1 y1 c1
  have w2 := expr_tot ts hl (i1, 0) c1
  have c2 := ot_c (ts := ts) (G := RR ts S 0) (p := (i1, 0)) (fun j hj => (RR_ok hS 0 j hj).ok) c1
  rw [show Qx ts 1 = RR ts S 0 from rfl] at w2
  obtain ⟨⟨⟨tx2, tl2⟩, i2, e2⟩, h2⟩ : ∃ r, OT (RR ts S 0) (i1, 0) = r := ⟨_, rfl⟩
  rw [h2] at w2 c2
  dsimp only at w2 c2
  have w3 := want_tot ts (by omega) (i2, e2) sEnd (by decide)
  have c3 := wt_c (ts := ts) (s := sEnd) (p := (i2, e2)) c2
  obtain ⟨⟨i3, e3⟩, h3⟩ : ∃ p, WT ts sEnd (i2, e2) = p := ⟨_, rfl⟩
  rw [h3] at w3 c3
  dsimp only at w3 c3
  rw [ft_start, ft_sgn, y1, ft_sub (rr_no hS 0) (fun h => (c1 h).2), h2, ft_sgn, h3, ft_end] at hok ⊢
  have n := node_tot ts (by omega) (i3, e3) i ⟨26, 0, ⟨#[]⟩, 0, 0⟩ [.mk tx2 tl2] (nt_at hok)
  dsimp only at n
  simp only [List.nil_append, List.cons_append]
  obtain ⟨⟨⟨nx, nl⟩, nj, ne⟩, hn⟩ : ∃ r, NT ts i 26 0 ⟨#[]⟩ [.mk tx2 tl2] (i3, e3) = r := ⟨_, rfl⟩
  rw [hn] at n ⊢
  clear hok hS hn
  refine row_of Tryz.func166 rfl rfl (Nat.le_of_ble_eq_true rfl) ?_
  repeat' (first | refine aw_seq ?_ | refine aw_skip ?_ | refine aw_block ?_ | refine aw_exit ?_ | refine aw_ct rfl ?_ | refine aw_cf rfl ?_ | ((first | refine aw_reg (fun K hK => ?_) | refine aw_drw mixd (fun K hK => ?_) | refine ar_call (cb p0 0 ?_) | refine ard_call (db p0 0 ?_) | refine ar_call (cb w1 0 ?_) | refine ard_call (db w1 0 ?_) | refine ar_call (cb w2 0 ?_) | refine ard_call (db w2 0 ?_) | refine ar_call (cb w3 0 ?_) | refine ard_call (db w3 0 ?_) | refine ar_call (cb n 0 ?_) | refine ard_call (db n 0 ?_) | fail); simp -implicitDefEqProofs) | refine hK _ ?_ | refine hK _ _ (by rfl) ?_ | fail)
  refine aw_ret (fin_box ?_); simp -implicitDefEqProofs [FinB, resV, resT] <;> try rfl
omit hS2 hrow in
set_option maxRecDepth 100000 in
set_option maxHeartbeats 4000000 in
theorem return_row8 (g : TT ts wPrin (i, 0) = false) (h : TT ts wRet (i, 0) = true) : Row Tryz.prog 166 [vR] [rd ts i 0] (vT (itH ts (RR ts S) i 27 0 [.sgn wRet, .sub 0, .sgn sEnd] i ⟨#[]⟩ []).1) [some (rd ts (itH ts (RR ts S) i 27 0 [.sgn wRet, .sub 0, .sgn sEnd] i ⟨#[]⟩ []).2.1 (itH ts (RR ts S) i 27 0 [.sgn wRet, .sub 0, .sgn sEnd] i ⟨#[]⟩ []).2.2)] := by
  have hok := (itG_ok (n := 0) (RR_ok hS) i 27 [.sgn wRet, .sub 0, .sgn sEnd] i ⟨#[]⟩ [] 0 (by simp [sm]) hi (by simp [Cr])).ok
  have p0 := place_row ts i 0
  have c0 : (0 : Int) = 0 → i ≤ i ∧ i ≤ ts.length := fun _ => ⟨Nat.le_refl _, hi⟩
  have t0 := take_no' ts (i, 0) wPrin (by decide) g
  dsimp only at t0
  have w1 := take_yes' ts (by omega) (i, 0) wRet (by decide) h
  have y1 : WT ts wRet (i, 0) = (i + 1, 0) := wt_of_tt h
  have c1 := wt_c (ts := ts) (s := wRet) (p := (i, 0)) c0
  rw [y1] at c1
  dsimp only at w1 c1
  obtain ⟨i1, z1⟩ : ∃ p, i + 1 = p := ⟨_, rfl⟩
  rw [z1] at w1 y1 c1
  have w2 := expr_tot ts hl (i1, 0) c1
  have c2 := ot_c (ts := ts) (G := RR ts S 0) (p := (i1, 0)) (fun j hj => (RR_ok hS 0 j hj).ok) c1
  rw [show Qx ts 1 = RR ts S 0 from rfl] at w2
  obtain ⟨⟨⟨tx2, tl2⟩, i2, e2⟩, h2⟩ : ∃ r, OT (RR ts S 0) (i1, 0) = r := ⟨_, rfl⟩
  rw [h2] at w2 c2
  dsimp only at w2 c2
  have w3 := want_tot ts (by omega) (i2, e2) sEnd (by decide)
  have c3 := wt_c (ts := ts) (s := sEnd) (p := (i2, e2)) c2
  obtain ⟨⟨i3, e3⟩, h3⟩ : ∃ p, WT ts sEnd (i2, e2) = p := ⟨_, rfl⟩
  rw [h3] at w3 c3
  dsimp only at w3 c3
  rw [ft_start, ft_sgn, y1, ft_sub (rr_no hS 0) (fun h => (c1 h).2), h2, ft_sgn, h3, ft_end] at hok ⊢
  have n := node_tot ts (by omega) (i3, e3) i ⟨27, 0, ⟨#[]⟩, 0, 0⟩ [.mk tx2 tl2] (nt_at hok)
  dsimp only at n
  simp only [List.nil_append, List.cons_append]
  obtain ⟨⟨⟨nx, nl⟩, nj, ne⟩, hn⟩ : ∃ r, NT ts i 27 0 ⟨#[]⟩ [.mk tx2 tl2] (i3, e3) = r := ⟨_, rfl⟩
  rw [hn] at n ⊢
  clear hok hS hn
  refine row_of Tryz.func166 rfl rfl (Nat.le_of_ble_eq_true rfl) ?_
  repeat' (first | refine aw_seq ?_ | refine aw_skip ?_ | refine aw_block ?_ | refine aw_exit ?_ | refine aw_ct rfl ?_ | refine aw_cf rfl ?_ | ((first | refine aw_reg (fun K hK => ?_) | refine aw_drw mixd (fun K hK => ?_) | refine ar_call (cb p0 0 ?_) | refine ard_call (db p0 0 ?_) | refine ar_call (cb t0 0 ?_) | refine ard_call (db t0 0 ?_) | refine ar_call (cb w1 0 ?_) | refine ard_call (db w1 0 ?_) | refine ar_call (cb w2 0 ?_) | refine ard_call (db w2 0 ?_) | refine ar_call (cb w3 0 ?_) | refine ard_call (db w3 0 ?_) | refine ar_call (cb n 0 ?_) | refine ard_call (db n 0 ?_) | fail); simp -implicitDefEqProofs) | refine hK _ ?_ | refine hK _ _ (by rfl) ?_ | fail)
  refine aw_ret (fin_box ?_); simp -implicitDefEqProofs [FinB, resV, resT] <;> try rfl
omit hS2 hrow in
set_option maxRecDepth 100000 in
set_option maxHeartbeats 4000000 in
theorem do_row8 (g : TT ts wPrin (i, 0) = false) (h : TT ts wRet (i, 0) = false) : Row Tryz.prog 166 [vR] [rd ts i 0] (vT (itH ts (RR ts S) i 28 0 [.sgn wDo, .sub 0, .sgn sEnd] i ⟨#[]⟩ []).1) [some (rd ts (itH ts (RR ts S) i 28 0 [.sgn wDo, .sub 0, .sgn sEnd] i ⟨#[]⟩ []).2.1 (itH ts (RR ts S) i 28 0 [.sgn wDo, .sub 0, .sgn sEnd] i ⟨#[]⟩ []).2.2)] := by
  have hok := (itG_ok (n := 0) (RR_ok hS) i 28 [.sgn wDo, .sub 0, .sgn sEnd] i ⟨#[]⟩ [] 0 (by simp [sm]) hi (by simp [Cr])).ok
  have p0 := place_row ts i 0
  have c0 : (0 : Int) = 0 → i ≤ i ∧ i ≤ ts.length := fun _ => ⟨Nat.le_refl _, hi⟩
  have t0 := take_no' ts (i, 0) wPrin (by decide) g
  dsimp only at t0
  have t02 := take_no' ts (i, 0) wRet (by decide) h
  dsimp only at t02
  have w1 := want_tot ts (by omega) (i, 0) wDo (by decide)
  have c1 := wt_c (ts := ts) (s := wDo) (p := (i, 0)) c0
  obtain ⟨⟨i1, e1⟩, h1⟩ : ∃ p, WT ts wDo (i, 0) = p := ⟨_, rfl⟩
  rw [h1] at w1 c1
  dsimp only at w1 c1
  have w2 := expr_tot ts hl (i1, e1) c1
  have c2 := ot_c (ts := ts) (G := RR ts S 0) (p := (i1, e1)) (fun j hj => (RR_ok hS 0 j hj).ok) c1
  rw [show Qx ts 1 = RR ts S 0 from rfl] at w2
  obtain ⟨⟨⟨tx2, tl2⟩, i2, e2⟩, h2⟩ : ∃ r, OT (RR ts S 0) (i1, e1) = r := ⟨_, rfl⟩
  rw [h2] at w2 c2
  dsimp only at w2 c2
  have w3 := want_tot ts (by omega) (i2, e2) sEnd (by decide)
  have c3 := wt_c (ts := ts) (s := sEnd) (p := (i2, e2)) c2
  obtain ⟨⟨i3, e3⟩, h3⟩ : ∃ p, WT ts sEnd (i2, e2) = p := ⟨_, rfl⟩
  rw [h3] at w3 c3
  dsimp only at w3 c3
  rw [ft_start, ft_sgn, h1, ft_sub (rr_no hS 0) (fun h => (c1 h).2), h2, ft_sgn, h3, ft_end] at hok ⊢
  have n := node_tot ts (by omega) (i3, e3) i ⟨28, 0, ⟨#[]⟩, 0, 0⟩ [.mk tx2 tl2] (nt_at hok)
  dsimp only at n
  simp only [List.nil_append, List.cons_append]
  obtain ⟨⟨⟨nx, nl⟩, nj, ne⟩, hn⟩ : ∃ r, NT ts i 28 0 ⟨#[]⟩ [.mk tx2 tl2] (i3, e3) = r := ⟨_, rfl⟩
  rw [hn] at n ⊢
  clear hok hS hn
  refine row_of Tryz.func166 rfl rfl (Nat.le_of_ble_eq_true rfl) ?_
  repeat' (first | refine aw_seq ?_ | refine aw_skip ?_ | refine aw_block ?_ | refine aw_exit ?_ | refine aw_ct rfl ?_ | refine aw_cf rfl ?_ | ((first | refine aw_reg (fun K hK => ?_) | refine aw_drw mixd (fun K hK => ?_) | refine ar_call (cb p0 0 ?_) | refine ard_call (db p0 0 ?_) | refine ar_call (cb t0 0 ?_) | refine ard_call (db t0 0 ?_) | refine ar_call (cb t02 0 ?_) | refine ard_call (db t02 0 ?_) | refine ar_call (cb w1 0 ?_) | refine ard_call (db w1 0 ?_) | refine ar_call (cb w2 0 ?_) | refine ard_call (db w2 0 ?_) | refine ar_call (cb w3 0 ?_) | refine ard_call (db w3 0 ?_) | refine ar_call (cb n 0 ?_) | refine ard_call (db n 0 ?_) | fail); simp -implicitDefEqProofs) | refine hK _ ?_ | refine hK _ _ (by rfl) ?_ | fail)
  refine aw_ret (fin_box ?_); simp -implicitDefEqProofs [FinB, resV, resT] <;> try rfl
end
end Go.Proofs.YtlkggpjdaaglmaaGreatDoor.am
end
section
namespace Go.Proofs.YtlkggpjdaaglmaaGreatDoor.am
open Go.ChangeShapes Go.WideShapes Go.ChangeAt Go.RowKit
open vt
set_option linter.unusedVariables false
set_option linter.unusedSimpArgs false
section
variable (ts : List Tok) (i : Nat)
theorem is_at {s : ByteArray} (hs : s.size ≤ 1000) {b : Bool} (h : isK s (nxt ts i) = b) : Row Tryz.prog 101 [vR, vS s] [rd ts i 0] (vB b) [some (rd ts i 0)] := by
  have := is7_row ts i 0 s hs
  rwa [h, show (decide ((0 : Int) = 0) && b) = b by simp] at this
set_option maxRecDepth 100000 in
set_option maxHeartbeats 4000000 in
theorem kind_bra (h : isK sBra (nxt ts i) = true) : Row Tryz.prog 151 [vR] [rd ts i 0] (vFg 130) [some (rd ts i 0)] := by
  have a1 := is_at ts i (s := sBra) (by decide) h
  clear h
  refine row_of Tryz.func151 rfl rfl (Nat.le_of_ble_eq_true rfl) ?_
  repeat' (first | refine aw_seq ?_ | refine aw_skip ?_ | refine aw_block ?_ | refine aw_exit ?_ | refine aw_ct rfl ?_ | refine aw_cf rfl ?_ | ((first | refine aw_reg (fun K hK => ?_) | refine aw_drw mixd (fun K hK => ?_) | refine ar_call (cb a1 0 ?_) | refine ard_call (db a1 0 ?_) | fail); simp -implicitDefEqProofs) | refine hK _ ?_ | refine hK _ _ (by rfl) ?_ | fail)
  refine aw_ret (fin_box ?_); simp -implicitDefEqProofs [FinB, resV, resT] <;> try rfl
set_option maxRecDepth 100000 in
set_option maxHeartbeats 4000000 in
theorem kind_let (h : isK wLet (nxt ts i) = true) : Row Tryz.prog 151 [vR] [rd ts i 0] (vFg 162) [some (rd ts i 0)] := by
  have a1 := is_at ts i (s := sBra) (by decide) (isK_no h (by decide))
  have a2 := is_at ts i (s := wLet) (by decide) h
  clear h
  refine row_of Tryz.func151 rfl rfl (Nat.le_of_ble_eq_true rfl) ?_
  repeat' (first | refine aw_seq ?_ | refine aw_skip ?_ | refine aw_block ?_ | refine aw_exit ?_ | refine aw_ct rfl ?_ | refine aw_cf rfl ?_ | ((first | refine aw_reg (fun K hK => ?_) | refine aw_drw mixd (fun K hK => ?_) | refine ar_call (cb a1 0 ?_) | refine ard_call (db a1 0 ?_) | refine ar_call (cb a2 0 ?_) | refine ard_call (db a2 0 ?_) | fail); simp -implicitDefEqProofs) | refine hK _ ?_ | refine hK _ _ (by rfl) ?_ | fail)
  refine aw_ret (fin_box ?_); simp -implicitDefEqProofs [FinB, resV, resT] <;> try rfl
set_option maxRecDepth 100000 in
set_option maxHeartbeats 4000000 in
theorem kind_if (h : isK wIf (nxt ts i) = true) : Row Tryz.prog 151 [vR] [rd ts i 0] (vFg 163) [some (rd ts i 0)] := by
  have a1 := is_at ts i (s := sBra) (by decide) (isK_no h (by decide))
  have a2 := is_at ts i (s := wLet) (by decide) (isK_no h (by decide))
  have a3 := is_at ts i (s := wIf) (by decide) h
  clear h
  refine row_of Tryz.func151 rfl rfl (Nat.le_of_ble_eq_true rfl) ?_
  repeat' (first | refine aw_seq ?_ | refine aw_skip ?_ | refine aw_block ?_ | refine aw_exit ?_ | refine aw_ct rfl ?_ | refine aw_cf rfl ?_ | ((first | refine aw_reg (fun K hK => ?_) | refine aw_drw mixd (fun K hK => ?_) | refine ar_call (cb a1 0 ?_) | refine ard_call (db a1 0 ?_) | refine ar_call (cb a2 0 ?_) | refine ard_call (db a2 0 ?_) | refine ar_call (cb a3 0 ?_) | refine ard_call (db a3 0 ?_) | fail); simp -implicitDefEqProofs) | refine hK _ ?_ | refine hK _ _ (by rfl) ?_ | fail)
  refine aw_ret (fin_box ?_); simp -implicitDefEqProofs [FinB, resV, resT] <;> try rfl
set_option maxRecDepth 100000 in
set_option maxHeartbeats 4000000 in
theorem kind_while (h : isK wWhil (nxt ts i) = true) : Row Tryz.prog 151 [vR] [rd ts i 0] (vFg 164) [some (rd ts i 0)] := by
  have a1 := is_at ts i (s := sBra) (by decide) (isK_no h (by decide))
  have a2 := is_at ts i (s := wLet) (by decide) (isK_no h (by decide))
  have a3 := is_at ts i (s := wIf) (by decide) (isK_no h (by decide))
  have a4 := is_at ts i (s := wWhil) (by decide) h
  clear h
  refine row_of Tryz.func151 rfl rfl (Nat.le_of_ble_eq_true rfl) ?_
  repeat' (first | refine aw_seq ?_ | refine aw_skip ?_ | refine aw_block ?_ | refine aw_exit ?_ | refine aw_ct rfl ?_ | refine aw_cf rfl ?_ | ((first | refine aw_reg (fun K hK => ?_) | refine aw_drw mixd (fun K hK => ?_) | refine ar_call (cb a1 0 ?_) | refine ard_call (db a1 0 ?_) | refine ar_call (cb a2 0 ?_) | refine ard_call (db a2 0 ?_) | refine ar_call (cb a3 0 ?_) | refine ard_call (db a3 0 ?_) | refine ar_call (cb a4 0 ?_) | refine ard_call (db a4 0 ?_) | fail); simp -implicitDefEqProofs) | refine hK _ ?_ | refine hK _ _ (by rfl) ?_ | fail)
  refine aw_ret (fin_box ?_); simp -implicitDefEqProofs [FinB, resV, resT] <;> try rfl
set_option maxRecDepth 100000 in
set_option maxHeartbeats 4000000 in
theorem kind_for (h : isK wFor (nxt ts i) = true) : Row Tryz.prog 151 [vR] [rd ts i 0] (vFg 165) [some (rd ts i 0)] := by
  have a1 := is_at ts i (s := sBra) (by decide) (isK_no h (by decide))
  have a2 := is_at ts i (s := wLet) (by decide) (isK_no h (by decide))
  have a3 := is_at ts i (s := wIf) (by decide) (isK_no h (by decide))
  have a4 := is_at ts i (s := wWhil) (by decide) (isK_no h (by decide))
  have a5 := is_at ts i (s := wFor) (by decide) h
  clear h
  refine row_of Tryz.func151 rfl rfl (Nat.le_of_ble_eq_true rfl) ?_
  repeat' (first | refine aw_seq ?_ | refine aw_skip ?_ | refine aw_block ?_ | refine aw_exit ?_ | refine aw_ct rfl ?_ | refine aw_cf rfl ?_ | ((first | refine aw_reg (fun K hK => ?_) | refine aw_drw mixd (fun K hK => ?_) | refine ar_call (cb a1 0 ?_) | refine ard_call (db a1 0 ?_) | refine ar_call (cb a2 0 ?_) | refine ard_call (db a2 0 ?_) | refine ar_call (cb a3 0 ?_) | refine ard_call (db a3 0 ?_) | refine ar_call (cb a4 0 ?_) | refine ard_call (db a4 0 ?_) | refine ar_call (cb a5 0 ?_) | refine ard_call (db a5 0 ?_) | fail); simp -implicitDefEqProofs) | refine hK _ ?_ | refine hK _ _ (by rfl) ?_ | fail)
  refine aw_ret (fin_box ?_); simp -implicitDefEqProofs [FinB, resV, resT] <;> try rfl
set_option maxRecDepth 100000 in
set_option maxHeartbeats 4000000 in
theorem kind_word (a : ByteArray) (ha : a = wPrin ∨ a = wRet ∨ a = wDo) (h : isK a (nxt ts i) = true) : Row Tryz.prog 151 [vR] [rd ts i 0] (vFg 166) [some (rd ts i 0)] := by
  have a1 := is_at ts i (s := sBra) (by decide) (isK_no h (by rcases ha with rfl | rfl | rfl <;> decide))
  have a2 := is_at ts i (s := wLet) (by decide) (isK_no h (by rcases ha with rfl | rfl | rfl <;> decide))
  have a3 := is_at ts i (s := wIf) (by decide) (isK_no h (by rcases ha with rfl | rfl | rfl <;> decide))
  have a4 := is_at ts i (s := wWhil) (by decide) (isK_no h (by rcases ha with rfl | rfl | rfl <;> decide))
  have a5 := is_at ts i (s := wFor) (by decide) (isK_no h (by rcases ha with rfl | rfl | rfl <;> decide))
  rcases ha with rfl | rfl | rfl
  · have a6 := is_at ts i (s := wPrin) (by decide) h
    clear h
    refine row_of Tryz.func151 rfl rfl (Nat.le_of_ble_eq_true rfl) ?_
    repeat' (first | refine aw_seq ?_ | refine aw_skip ?_ | refine aw_block ?_ | refine aw_exit ?_ | refine aw_ct rfl ?_ | refine aw_cf rfl ?_ | ((first | refine aw_reg (fun K hK => ?_) | refine aw_drw mixd (fun K hK => ?_) | refine ar_call (cb a1 0 ?_) | refine ard_call (db a1 0 ?_) | refine ar_call (cb a2 0 ?_) | refine ard_call (db a2 0 ?_) | refine ar_call (cb a3 0 ?_) | refine ard_call (db a3 0 ?_) | refine ar_call (cb a4 0 ?_) | refine ard_call (db a4 0 ?_) | refine ar_call (cb a5 0 ?_) | refine ard_call (db a5 0 ?_) | refine ar_call (cb a6 0 ?_) | refine ard_call (db a6 0 ?_) | fail); simp -implicitDefEqProofs) | refine hK _ ?_ | refine hK _ _ (by rfl) ?_ | fail)
    refine aw_ret (fin_box ?_); simp -implicitDefEqProofs [FinB, resV, resT] <;> try rfl
  · have a6 := is_at ts i (s := wPrin) (by decide) (isK_no h (by decide))
    have a7 := is_at ts i (s := wRet) (by decide) h
    clear h
    refine row_of Tryz.func151 rfl rfl (Nat.le_of_ble_eq_true rfl) ?_
    repeat' (first | refine aw_seq ?_ | refine aw_skip ?_ | refine aw_block ?_ | refine aw_exit ?_ | refine aw_ct rfl ?_ | refine aw_cf rfl ?_ | ((first | refine aw_reg (fun K hK => ?_) | refine aw_drw mixd (fun K hK => ?_) | refine ar_call (cb a1 0 ?_) | refine ard_call (db a1 0 ?_) | refine ar_call (cb a2 0 ?_) | refine ard_call (db a2 0 ?_) | refine ar_call (cb a3 0 ?_) | refine ard_call (db a3 0 ?_) | refine ar_call (cb a4 0 ?_) | refine ard_call (db a4 0 ?_) | refine ar_call (cb a5 0 ?_) | refine ard_call (db a5 0 ?_) | refine ar_call (cb a6 0 ?_) | refine ard_call (db a6 0 ?_) | refine ar_call (cb a7 0 ?_) | refine ard_call (db a7 0 ?_) | fail); simp -implicitDefEqProofs) | refine hK _ ?_ | refine hK _ _ (by rfl) ?_ | fail)
    refine aw_ret (fin_box ?_); simp -implicitDefEqProofs [FinB, resV, resT] <;> try rfl
  · have a6 := is_at ts i (s := wPrin) (by decide) (isK_no h (by decide))
    have a7 := is_at ts i (s := wRet) (by decide) (isK_no h (by decide))
    have a8 := is_at ts i (s := wDo) (by decide) h
    clear h
    refine row_of Tryz.func151 rfl rfl (Nat.le_of_ble_eq_true rfl) ?_
    repeat' (first | refine aw_seq ?_ | refine aw_skip ?_ | refine aw_block ?_ | refine aw_exit ?_ | refine aw_ct rfl ?_ | refine aw_cf rfl ?_ | ((first | refine aw_reg (fun K hK => ?_) | refine aw_drw mixd (fun K hK => ?_) | refine ar_call (cb a1 0 ?_) | refine ard_call (db a1 0 ?_) | refine ar_call (cb a2 0 ?_) | refine ard_call (db a2 0 ?_) | refine ar_call (cb a3 0 ?_) | refine ard_call (db a3 0 ?_) | refine ar_call (cb a4 0 ?_) | refine ard_call (db a4 0 ?_) | refine ar_call (cb a5 0 ?_) | refine ard_call (db a5 0 ?_) | refine ar_call (cb a6 0 ?_) | refine ard_call (db a6 0 ?_) | refine ar_call (cb a7 0 ?_) | refine ard_call (db a7 0 ?_) | refine ar_call (cb a8 0 ?_) | refine ard_call (db a8 0 ?_) | fail); simp -implicitDefEqProofs) | refine hK _ ?_ | refine hK _ _ (by rfl) ?_ | fail)
    refine aw_ret (fin_box ?_); simp -implicitDefEqProofs [FinB, resV, resT] <;> try rfl
set_option maxRecDepth 100000 in
set_option maxHeartbeats 4000000 in
theorem kind_set (h1 : isK sBra (nxt ts i) = false) (h2 : isK wLet (nxt ts i) = false) (h3 : isK wIf (nxt ts i) = false) (h4 : isK wWhil (nxt ts i) = false) (h5 : isK wFor (nxt ts i) = false) (h6 : isK wPrin (nxt ts i) = false) (h7 : isK wRet (nxt ts i) = false) (h8 : isK wDo (nxt ts i) = false) : Row Tryz.prog 151 [vR] [rd ts i 0] (vFg 167) [some (rd ts i 0)] := by
  have a1 := is_at ts i (s := sBra) (by decide) h1
  have a2 := is_at ts i (s := wLet) (by decide) h2
  have a3 := is_at ts i (s := wIf) (by decide) h3
  have a4 := is_at ts i (s := wWhil) (by decide) h4
  have a5 := is_at ts i (s := wFor) (by decide) h5
  have a6 := is_at ts i (s := wPrin) (by decide) h6
  have a7 := is_at ts i (s := wRet) (by decide) h7
  have a8 := is_at ts i (s := wDo) (by decide) h8
  clear h1 h2 h3 h4 h5 h6 h7 h8
  refine row_of Tryz.func151 rfl rfl (Nat.le_of_ble_eq_true rfl) ?_
  repeat' (first | refine aw_seq ?_ | refine aw_skip ?_ | refine aw_block ?_ | refine aw_exit ?_ | refine aw_ct rfl ?_ | refine aw_cf rfl ?_ | ((first | refine aw_reg (fun K hK => ?_) | refine aw_drw mixd (fun K hK => ?_) | refine ar_call (cb a1 0 ?_) | refine ard_call (db a1 0 ?_) | refine ar_call (cb a2 0 ?_) | refine ard_call (db a2 0 ?_) | refine ar_call (cb a3 0 ?_) | refine ard_call (db a3 0 ?_) | refine ar_call (cb a4 0 ?_) | refine ard_call (db a4 0 ?_) | refine ar_call (cb a5 0 ?_) | refine ard_call (db a5 0 ?_) | refine ar_call (cb a6 0 ?_) | refine ard_call (db a6 0 ?_) | refine ar_call (cb a7 0 ?_) | refine ard_call (db a7 0 ?_) | refine ar_call (cb a8 0 ?_) | refine ard_call (db a8 0 ?_) | fail); simp -implicitDefEqProofs) | refine hK _ ?_ | refine hK _ _ (by rfl) ?_ | fail)
  refine aw_ret (fin_box ?_); simp -implicitDefEqProofs [FinB, resV, resT] <;> try rfl
set_option maxRecDepth 100000 in
set_option maxHeartbeats 4000000 in
theorem stmt_of (g : Nat) (R : Got) (k : Row Tryz.prog 151 [vR] [rd ts i 0] (vFg g) [some (rd ts i 0)]) (r : Row Tryz.prog g [vR] [rd ts i 0] (vT R.1) [some (rd ts R.2.1 R.2.2)]) : Row Tryz.prog 141 [vR] [rd ts i 0] (vT R.1) [some (rd ts R.2.1 R.2.2)] := by
  have g0 := goes_row ts i 0
  obtain ⟨⟨px, pl⟩, j, e⟩ := R
  refine row_of Tryz.func141 rfl rfl (Nat.le_of_ble_eq_true rfl) ?_
  repeat' (first | refine aw_seq ?_ | refine aw_skip ?_ | refine aw_block ?_ | refine aw_exit ?_ | refine aw_ct rfl ?_ | refine aw_cf rfl ?_ | ((first | refine aw_reg (fun K hK => ?_) | refine aw_drw mixd (fun K hK => ?_) | refine ar_call (cb g0 0 ?_) | refine ard_call (db g0 0 ?_) | refine ar_call (cb k 0 ?_) | refine ard_call (db k 0 ?_) | refine ar_call (cb r 0 ?_) | refine ard_call (db r 0 ?_) | fail); simp -implicitDefEqProofs) | refine hK _ ?_ | refine hK _ _ (by rfl) ?_ | fail)
  refine aw_ret (fin_box ?_); simp -implicitDefEqProofs [FinB, resV, resT] <;> try rfl
end
section
variable (ts : List Tok) (hl : ts.length ≤ 3000000000000)
theorem let_col (i : Nat) (h : isK wLet (nxt ts i) = true) : TT ts sCol (KT ts 1 (WT ts wLet (i, 0))).2 = (decide ((nxt ts (i + 1)).k = 1) && isK sCol (nxt ts (i + 2))) := by
  rw [show WT ts wLet (i, 0) = (i + 1, 0) by unfold WT; simp [h]]
  unfold KT TT
  by_cases h1 : (nxt ts (i + 1)).k = 1
  · simp [h1]
  · simp [h1]
theorem tt_at (i : Nat) (s : ByteArray) : TT ts s (i, 0) = isK s (nxt ts i) := by unfold TT; simp
include hl
set_option maxRecDepth 100000 in
set_option maxHeartbeats 4000000 in
theorem stmt_rows : ∀ n i, ts.length - i < n → i ≤ ts.length → Row Tryz.prog 141 [vR] [rd ts i 0] (vT (sG ts n i).1) [some (rd ts (sG ts n i).2.1 (sG ts n i).2.2)] := by
  intro n
  induction n with
  | zero => intro i h; omega
  | succ n ih =>
    intro i hn hi
    have hrow : ∀ j, i < j → j ≤ ts.length → Row Tryz.prog 141 [vR] [rd ts j 0] (vT (sG ts n j).1) [some (rd ts (sG ts n j).2.1 (sG ts n j).2.2)] := fun j h1 h2 => ih j (by omega) h2
    have hS := sG_ok (ts := ts) n
    by_cases hb : isK sBra (nxt ts i) = true
    · rw [show sG ts (n + 1) i = blG ts (sG ts n) i from if_pos hb]
      have b := block_tot ts hl (sG ts n) hS (sG_two n) i hrow (i, 0) (fun _ => ⟨Nat.le_refl _, hi⟩)
      rw [show OT (blG ts (sG ts n)) (i, 0) = blG ts (sG ts n) i from if_pos rfl] at b
      exact stmt_of ts i _ _ (kind_bra ts i hb) b
    rw [show sG ts (n + 1) i = itH ts (RR ts (sG ts n)) i (frmG ts i).1 0 (frmG ts i).2 i ⟨#[]⟩ [] from if_neg hb]
    unfold frmG
    have hb : isK sBra (nxt ts i) = false := by simpa using hb
    by_cases h1 : isK wLet (nxt ts i) = true
    · rw [if_pos h1]
      have hc := let_col ts i h1
      by_cases h2 : (nxt ts (i + 1)).k = 1 ∧ isK sCol (nxt ts (i + 2)) = true
      · rw [if_pos h2]
        exact stmt_of ts i _ _ (kind_let ts i h1) (let_new ts hl (sG ts n) hS i hi (by rw [hc, h2.2]; simp [h2.1]))
      · rw [if_neg h2]
        refine stmt_of ts i _ _ (kind_let ts i h1) (let_let ts hl (sG ts n) hS i hi ?_)
        rw [hc]
        by_cases h3 : (nxt ts (i + 1)).k = 1
        · have : isK sCol (nxt ts (i + 2)) = false := by simpa using fun h => h2 ⟨h3, h⟩
          simp [this]
        · simp [h3]
    rw [if_neg h1]
    by_cases h2 : isK wIf (nxt ts i) = true
    · rw [if_pos h2]; exact stmt_of ts i _ _ (kind_if ts i h2) (branch_row ts hl (sG ts n) hS (sG_two n) i hi hrow)
    rw [if_neg h2]
    by_cases h3 : isK wWhil (nxt ts i) = true
    · rw [if_pos h3]; exact stmt_of ts i _ _ (kind_while ts i h3) (while_row ts hl (sG ts n) hS (sG_two n) i hi hrow)
    rw [if_neg h3]
    by_cases h4 : isK wFor (nxt ts i) = true
    · rw [if_pos h4]; exact stmt_of ts i _ _ (kind_for ts i h4) (count_row ts hl (sG ts n) hS (sG_two n) i hi hrow)
    rw [if_neg h4]
    by_cases h5 : isK wPrin (nxt ts i) = true
    · rw [if_pos h5]; exact stmt_of ts i _ _ (kind_word ts i _ (.inl rfl) h5) (print_row8 ts hl (sG ts n) hS i hi (by rw [tt_at ts]; exact h5))
    rw [if_neg h5]
    by_cases h6 : isK wRet (nxt ts i) = true
    · rw [if_pos h6]; exact stmt_of ts i _ _ (kind_word ts i _ (.inr (.inl rfl)) h6) (return_row8 ts hl (sG ts n) hS i hi (by rw [tt_at ts]; simpa using h5) (by rw [tt_at ts]; exact h6))
    rw [if_neg h6]
    by_cases h7 : isK wDo (nxt ts i) = true
    · rw [if_pos h7]; exact stmt_of ts i _ _ (kind_word ts i _ (.inr (.inr rfl)) h7) (do_row8 ts hl (sG ts n) hS i hi (by rw [tt_at ts]; simpa using h5) (by rw [tt_at ts]; simpa using h6))
    rw [if_neg h7]
    exact stmt_of ts i _ _ (kind_set ts i hb (by simpa using h1) (by simpa using h2) (by simpa using h3) (by simpa using h4) (by simpa using h5) (by simpa using h6) (by simpa using h7)) (set_row8 ts hl (sG ts n) hS i hi)
end
set_option maxRecDepth 100000 in
set_option maxHeartbeats 4000000 in
theorem begin8_yes (ts : List Tok) (i : Nat) (h : i ≤ ts.length) (g : Nat) (r : Got) (hr : Row Tryz.prog g [vR] [rd ts i 0] (vT r.1) [some (rd ts r.2.1 r.2.2)]) (hz : r.2.2 ≠ 0 → r.1 = z0) : Row Tryz.prog 129 [vKs ts, vI i, .v (.c (.fn (.func g) [] []))] [] (vT3 r) [] := by
  have h1 := new_yes ts i h
  obtain ⟨⟨px, pl⟩, j, e⟩ := r
  have g1 := goes_row ts j e
  have p1 := place_row ts j e
  have e1 := err_row ts j e
  dsimp only at hr hz
  by_cases he : e = 0
  · subst he
    clear hz
    refine row_of Tryz.func129 rfl rfl (Nat.le_of_ble_eq_true rfl) ?_
    repeat' (first | refine aw_seq ?_ | refine aw_skip ?_ | refine aw_block ?_ | refine aw_exit ?_ | refine aw_ct rfl ?_ | refine aw_cf rfl ?_ | ((first | refine aw_reg (fun K hK => ?_) | refine aw_drw mixd (fun K hK => ?_) | refine ar_call (cp h1 ?_) | refine ard_call (dp h1 ?_) | refine ar_call (cb hr 23 ?_) | refine ard_call (db hr 23 ?_) | refine ar_call (cb g1 23 ?_) | refine ard_call (db g1 23 ?_) | refine ar_call (cb p1 23 ?_) | refine ard_call (db p1 23 ?_) | fail); simp -implicitDefEqProofs) | refine hK _ ?_ | refine hK _ _ (by rfl) ?_ | fail)
    refine aw_ret (fin_ret ?_); simp -implicitDefEqProofs [FinP, resV, resT] <;> try rfl
  · have hz := hz he
    rw [show (Tr.mk px pl, j, e) = (z0, j, e) by rw [hz]]
    clear hz
    refine row_of Tryz.func129 rfl rfl (Nat.le_of_ble_eq_true rfl) ?_
    repeat' (first | refine aw_seq ?_ | refine aw_skip ?_ | refine aw_block ?_ | refine aw_exit ?_ | refine aw_ct rfl ?_ | refine aw_cf rfl ?_ | ((first | refine aw_reg (fun K hK => ?_) | refine aw_drw mixd (fun K hK => ?_) | refine ar_call (cp h1 ?_) | refine ard_call (dp h1 ?_) | refine ar_call (cb hr 23 ?_) | refine ard_call (db hr 23 ?_) | refine ar_call (cb g1 23 ?_) | refine ard_call (db g1 23 ?_) | refine ar_call (cb p1 23 ?_) | refine ard_call (db p1 23 ?_) | refine ar_call (cb e1 23 ?_) | refine ard_call (db e1 23 ?_) | fail); simp -implicitDefEqProofs [he]) | refine hK _ ?_ | refine hK _ _ (by rfl) ?_ | fail)
    refine aw_ret (fin_ret ?_); simp -implicitDefEqProofs [FinP, resV, resT, z0] <;> try rfl
noncomputable def Bx8 (ts : List Tok) (i : Nat) : Got := blG ts (sG ts (ts.length + 1)) i
set_option maxRecDepth 100000 in
set_option maxHeartbeats 4000000 in
theorem sblock_yes (ts : List Tok) (hl : ts.length ≤ 3000000000000) (i : Nat) (h : i ≤ ts.length) : Row Tryz.prog 112 [vKs ts, vI i] [] (vT3 (Bx8 ts i)) [] := by
  have hb := block_tot ts hl (sG ts (ts.length + 1)) (sG_ok _) (sG_two _) i (fun j h1 h2 => stmt_rows ts hl _ j (by omega) h2) (i, 0) (fun _ => ⟨Nat.le_refl _, h⟩)
  rw [show OT (blG ts (sG ts (ts.length + 1))) (i, 0) = Bx8 ts i from if_pos rfl] at hb
  have h1 := begin8_yes ts i h 130 _ hb (fun hh => ((blG_ok (sG_ok (ts := ts) _) i h).ok.no hh).2)
  clear hb
  obtain ⟨⟨⟨px, pl⟩, j, e⟩, hr⟩ : ∃ r, Bx8 ts i = r := ⟨_, rfl⟩
  rw [hr] at h1 ⊢
  refine row_of Tryz.func112 rfl rfl (Nat.le_of_ble_eq_true rfl) ?_
  repeat' (first | refine aw_seq ?_ | refine aw_skip ?_ | refine aw_block ?_ | refine aw_exit ?_ | refine aw_ct rfl ?_ | refine aw_cf rfl ?_ | ((first | refine aw_reg (fun K hK => ?_) | refine aw_drw mixd (fun K hK => ?_) | refine ar_call (cp h1 ?_) | refine ard_call (dp h1 ?_) | fail); simp -implicitDefEqProofs) | refine hK _ ?_ | refine hK _ _ (by rfl) ?_ | fail)
  refine aw_ret (fin_ret ?_); simp -implicitDefEqProofs [FinP, resV, resT] <;> try rfl
end Go.Proofs.YtlkggpjdaaglmaaGreatDoor.am
end
