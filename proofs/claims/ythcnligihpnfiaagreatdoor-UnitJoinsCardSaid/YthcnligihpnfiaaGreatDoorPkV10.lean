import Derived.Test.YthcnligihpnfiaaGreatDoorPkV9
section
namespace Go.Proofs.YthcnligihpnfiaaGreatDoor.am
open Go.ChangeShapes Go.WideShapes Go.ChangeAt Go.RowKit
open vt
set_option linter.unusedVariables false
set_option linter.unusedSimpArgs false
section
variable (ts : List Tok) (hl : ts.length ≤ 3000000000000) (S : Nat → Got) (hS : ∀ j, j ≤ ts.length → OkS ts 0 j (S j)) (hS2 : ∀ j, j ≤ ts.length → (S j).2.2 = 0 → j + 2 ≤ (S j).2.1) (i : Nat) (hi : i ≤ ts.length)
  (hrow : ∀ j, i < j → j ≤ ts.length → Row Tryz.prog 140 [vR] [rd ts j 0] (vT (S j).1) [some (rd ts (S j).2.1 (S j).2.2)])
include hl hS hS2 hi hrow
set_option maxRecDepth 100000 in
set_option maxHeartbeats 4000000 in
theorem while_row : Row Tryz.prog 166 [vR] [rd ts i 0] (vT (itH ts (RR ts S) i 24 0 [.sgn wWhil, .sub 0, .sub 2] i ⟨#[]⟩ []).1) [some (rd ts (itH ts (RR ts S) i 24 0 [.sgn wWhil, .sub 0, .sub 2] i ⟨#[]⟩ []).2.1 (itH ts (RR ts S) i 24 0 [.sgn wWhil, .sub 0, .sub 2] i ⟨#[]⟩ []).2.2)] := by
  have hok := (itG_ok (n := 0) (RR_ok hS) i 24 [.sgn wWhil, .sub 0, .sub 2] i ⟨#[]⟩ [] 0 (by simp [sm]) hi (by simp [Cr])).ok
  have p0 := place_row ts i 0
  have c0 : (0 : Int) = 0 → i ≤ i ∧ i ≤ ts.length := fun _ => ⟨Nat.le_refl _, hi⟩
  have w1 := want_tot ts (by omega) (i, 0) wWhil (by decide)
  have c1 := wt_c (ts := ts) (s := wWhil) (p := (i, 0)) c0
  obtain ⟨⟨i1, e1⟩, h1⟩ : ∃ p, WT ts wWhil (i, 0) = p := ⟨_, rfl⟩
  rw [h1] at w1 c1
  dsimp only at w1 c1
  have w2 := expr_tot ts hl (i1, e1) c1
  have c2 := ot_c (ts := ts) (G := RR ts S 0) (p := (i1, e1)) (fun j hj => (RR_ok hS 0 j hj).ok) c1
  rw [show Qx ts 1 = RR ts S 0 from rfl] at w2
  obtain ⟨⟨⟨tx2, tl2⟩, i2, e2⟩, h2⟩ : ∃ r, OT (RR ts S 0) (i1, e1) = r := ⟨_, rfl⟩
  rw [h2] at w2 c2
  dsimp only at w2 c2
  have w3 := block_tot ts hl S hS hS2 i hrow (i2, e2) c2
  have c3 := ot_c (ts := ts) (G := RR ts S 2) (p := (i2, e2)) (fun j hj => (RR_ok hS 2 j hj).ok) c2
  have d3 := bl_to (ts := ts) (S := S) (p := (i2, e2))
  rw [show blG ts S = RR ts S 2 from rfl] at w3
  rw [show blG ts S = RR ts S 2 from rfl] at d3
  obtain ⟨⟨⟨tx3, tl3⟩, i3, e3⟩, h3⟩ : ∃ r, OT (RR ts S 2) (i2, e2) = r := ⟨_, rfl⟩
  rw [h3] at w3 c3 d3
  dsimp only at w3 c3 d3
  rw [ft_start, ft_sgn, h1, ft_sub (rr_no hS 0) (fun h => (c1 h).2), h2, ft_sub (rr_no hS 2) (fun h => (c2 h).2), h3, ft_end] at hok ⊢
  have n := node_tot ts (by omega) (i3, e3) i ⟨24, 0, ⟨#[]⟩, 0, 0⟩ [.mk tx2 tl2, .mk tx3 tl3] (nt_at hok)
  dsimp only at n
  simp only [List.nil_append, List.cons_append]
  obtain ⟨⟨⟨nx, nl⟩, nj, ne⟩, hn⟩ : ∃ r, NT ts i 24 0 ⟨#[]⟩ [.mk tx2 tl2, .mk tx3 tl3] (i3, e3) = r := ⟨_, rfl⟩
  rw [hn] at n ⊢
  clear hok hS hn hS2 hrow
  refine row_of Tryz.func166 rfl rfl (Nat.le_of_ble_eq_true rfl) ?_
  repeat' (first | refine aw_seq ?_ | refine aw_skip ?_ | refine aw_block ?_ | refine aw_exit ?_ | refine aw_cond rfl (fun _ => ?_) (fun hb => absurd hb (by decide)) | refine aw_cond rfl (fun hb => absurd hb (by decide)) (fun _ => ?_) | (refine aw_reg (fun K hK => ?_); simp -implicitDefEqProofs) | (refine aw_drw mixd (fun K hK => ?_); simp -implicitDefEqProofs) | refine hK _ ?_ | refine hK _ _ (by rfl) ?_ | (refine ar_call (cb p0 0 ?_); simp -implicitDefEqProofs) | (refine ard_call (db p0 0 ?_); simp -implicitDefEqProofs) | (refine ar_call (cb w1 0 ?_); simp -implicitDefEqProofs) | (refine ard_call (db w1 0 ?_); simp -implicitDefEqProofs) | (refine ar_call (cb w2 0 ?_); simp -implicitDefEqProofs) | (refine ard_call (db w2 0 ?_); simp -implicitDefEqProofs) | (refine ar_call (cb w3 0 ?_); simp -implicitDefEqProofs) | (refine ard_call (db w3 0 ?_); simp -implicitDefEqProofs) | (refine ar_call (cb n 0 ?_); simp -implicitDefEqProofs) | (refine ard_call (db n 0 ?_); simp -implicitDefEqProofs) | fail)
  refine aw_ret (fin_box ?_); simp -implicitDefEqProofs [FinB, resV, resT] <;> try rfl
set_option maxRecDepth 100000 in
set_option maxHeartbeats 4000000 in
theorem count_row : Row Tryz.prog 167 [vR] [rd ts i 0] (vT (itH ts (RR ts S) i 25 0 [.sgn wFor, .nam, .sgn sIs, .sub 0, .sgn wTo, .sub 0, .sub 2] i ⟨#[]⟩ []).1) [some (rd ts (itH ts (RR ts S) i 25 0 [.sgn wFor, .nam, .sgn sIs, .sub 0, .sgn wTo, .sub 0, .sub 2] i ⟨#[]⟩ []).2.1 (itH ts (RR ts S) i 25 0 [.sgn wFor, .nam, .sgn sIs, .sub 0, .sgn wTo, .sub 0, .sub 2] i ⟨#[]⟩ []).2.2)] := by
  have hok := (itG_ok (n := 0) (RR_ok hS) i 25 [.sgn wFor, .nam, .sgn sIs, .sub 0, .sgn wTo, .sub 0, .sub 2] i ⟨#[]⟩ [] 0 (by simp [sm]) hi (by simp [Cr])).ok
  have p0 := place_row ts i 0
  have c0 : (0 : Int) = 0 → i ≤ i ∧ i ≤ ts.length := fun _ => ⟨Nat.le_refl _, hi⟩
  have w1 := want_tot ts (by omega) (i, 0) wFor (by decide)
  have c1 := wt_c (ts := ts) (s := wFor) (p := (i, 0)) c0
  obtain ⟨⟨i1, e1⟩, h1⟩ : ∃ p, WT ts wFor (i, 0) = p := ⟨_, rfl⟩
  rw [h1] at w1 c1
  dsimp only at w1 c1
  have w2 := kind_tot ts (by omega) (i1, e1) 1 (by decide)
  have c2 := kt_c (ts := ts) (p := (i1, e1)) (k := 1) (by decide) c1
  obtain ⟨⟨⟨xk, xn, xs, xf, xt⟩, i2, e2⟩, h2⟩ : ∃ p, KT ts 1 (i1, e1) = p := ⟨_, rfl⟩
  rw [h2] at w2 c2
  dsimp only at w2 c2
  have w3 := want_tot ts (by omega) (i2, e2) sIs (by decide)
  have c3 := wt_c (ts := ts) (s := sIs) (p := (i2, e2)) c2
  obtain ⟨⟨i3, e3⟩, h3⟩ : ∃ p, WT ts sIs (i2, e2) = p := ⟨_, rfl⟩
  rw [h3] at w3 c3
  dsimp only at w3 c3
  have w4 := expr_tot ts hl (i3, e3) c3
  have c4 := ot_c (ts := ts) (G := RR ts S 0) (p := (i3, e3)) (fun j hj => (RR_ok hS 0 j hj).ok) c3
  rw [show Qx ts 1 = RR ts S 0 from rfl] at w4
  obtain ⟨⟨⟨tx4, tl4⟩, i4, e4⟩, h4⟩ : ∃ r, OT (RR ts S 0) (i3, e3) = r := ⟨_, rfl⟩
  rw [h4] at w4 c4
  dsimp only at w4 c4
  have w5 := want_tot ts (by omega) (i4, e4) wTo (by decide)
  have c5 := wt_c (ts := ts) (s := wTo) (p := (i4, e4)) c4
  obtain ⟨⟨i5, e5⟩, h5⟩ : ∃ p, WT ts wTo (i4, e4) = p := ⟨_, rfl⟩
  rw [h5] at w5 c5
  dsimp only at w5 c5
  have w6 := expr_tot ts hl (i5, e5) c5
  have c6 := ot_c (ts := ts) (G := RR ts S 0) (p := (i5, e5)) (fun j hj => (RR_ok hS 0 j hj).ok) c5
  rw [show Qx ts 1 = RR ts S 0 from rfl] at w6
  obtain ⟨⟨⟨tx6, tl6⟩, i6, e6⟩, h6⟩ : ∃ r, OT (RR ts S 0) (i5, e5) = r := ⟨_, rfl⟩
  rw [h6] at w6 c6
  dsimp only at w6 c6
  have w7 := block_tot ts hl S hS hS2 i hrow (i6, e6) c6
  have c7 := ot_c (ts := ts) (G := RR ts S 2) (p := (i6, e6)) (fun j hj => (RR_ok hS 2 j hj).ok) c6
  have d7 := bl_to (ts := ts) (S := S) (p := (i6, e6))
  rw [show blG ts S = RR ts S 2 from rfl] at w7
  rw [show blG ts S = RR ts S 2 from rfl] at d7
  obtain ⟨⟨⟨tx7, tl7⟩, i7, e7⟩, h7⟩ : ∃ r, OT (RR ts S 2) (i6, e6) = r := ⟨_, rfl⟩
  rw [h7] at w7 c7 d7
  dsimp only at w7 c7 d7
  rw [ft_start, ft_sgn, h1, ft_nam, h2, ft_sgn, h3, ft_sub (rr_no hS 0) (fun h => (c3 h).2), h4, ft_sgn, h5, ft_sub (rr_no hS 0) (fun h => (c5 h).2), h6, ft_sub (rr_no hS 2) (fun h => (c6 h).2), h7, ft_end] at hok ⊢
  have n := node_tot ts (by omega) (i7, e7) i ⟨25, 0, xs, 0, 0⟩ [.mk tx4 tl4, .mk tx6 tl6, .mk tx7 tl7] (nt_at hok)
  dsimp only at n
  simp only [List.nil_append, List.cons_append]
  obtain ⟨⟨⟨nx, nl⟩, nj, ne⟩, hn⟩ : ∃ r, NT ts i 25 0 xs [.mk tx4 tl4, .mk tx6 tl6, .mk tx7 tl7] (i7, e7) = r := ⟨_, rfl⟩
  rw [hn] at n ⊢
  clear hok hS hn hS2 hrow
  refine row_of Tryz.func167 rfl rfl (Nat.le_of_ble_eq_true rfl) ?_
  repeat' (first | refine aw_seq ?_ | refine aw_skip ?_ | refine aw_block ?_ | refine aw_exit ?_ | refine aw_cond rfl (fun _ => ?_) (fun hb => absurd hb (by decide)) | refine aw_cond rfl (fun hb => absurd hb (by decide)) (fun _ => ?_) | (refine aw_reg (fun K hK => ?_); simp -implicitDefEqProofs) | (refine aw_drw mixd (fun K hK => ?_); simp -implicitDefEqProofs) | refine hK _ ?_ | refine hK _ _ (by rfl) ?_ | (refine ar_call (cb p0 0 ?_); simp -implicitDefEqProofs) | (refine ard_call (db p0 0 ?_); simp -implicitDefEqProofs) | (refine ar_call (cb w1 0 ?_); simp -implicitDefEqProofs) | (refine ard_call (db w1 0 ?_); simp -implicitDefEqProofs) | (refine ar_call (cb w2 0 ?_); simp -implicitDefEqProofs) | (refine ard_call (db w2 0 ?_); simp -implicitDefEqProofs) | (refine ar_call (cb w3 0 ?_); simp -implicitDefEqProofs) | (refine ard_call (db w3 0 ?_); simp -implicitDefEqProofs) | (refine ar_call (cb w4 0 ?_); simp -implicitDefEqProofs) | (refine ard_call (db w4 0 ?_); simp -implicitDefEqProofs) | (refine ar_call (cb w5 0 ?_); simp -implicitDefEqProofs) | (refine ard_call (db w5 0 ?_); simp -implicitDefEqProofs) | (refine ar_call (cb w6 0 ?_); simp -implicitDefEqProofs) | (refine ard_call (db w6 0 ?_); simp -implicitDefEqProofs) | (refine ar_call (cb w7 0 ?_); simp -implicitDefEqProofs) | (refine ard_call (db w7 0 ?_); simp -implicitDefEqProofs) | (refine ar_call (cb n 0 ?_); simp -implicitDefEqProofs) | (refine ard_call (db n 0 ?_); simp -implicitDefEqProofs) | fail)
  refine aw_ret (fin_box ?_); simp -implicitDefEqProofs [FinB, resV, resT] <;> try rfl
omit hS2 hrow in
set_option maxRecDepth 100000 in
set_option maxHeartbeats 4000000 in
theorem set_row8 : Row Tryz.prog 169 [vR] [rd ts i 0] (vT (itH ts (RR ts S) i 22 0 [.sub 0, .sgn sIs, .sub 0, .sgn sEnd] i ⟨#[]⟩ []).1) [some (rd ts (itH ts (RR ts S) i 22 0 [.sub 0, .sgn sIs, .sub 0, .sgn sEnd] i ⟨#[]⟩ []).2.1 (itH ts (RR ts S) i 22 0 [.sub 0, .sgn sIs, .sub 0, .sgn sEnd] i ⟨#[]⟩ []).2.2)] := by
  have hok := (itG_ok (n := 0) (RR_ok hS) i 22 [.sub 0, .sgn sIs, .sub 0, .sgn sEnd] i ⟨#[]⟩ [] 0 (by simp [sm]) hi (by simp [Cr])).ok
  have p0 := place_row ts i 0
  have c0 : (0 : Int) = 0 → i ≤ i ∧ i ≤ ts.length := fun _ => ⟨Nat.le_refl _, hi⟩
  have w1 := expr_tot ts hl (i, 0) c0
  have c1 := ot_c (ts := ts) (G := RR ts S 0) (p := (i, 0)) (fun j hj => (RR_ok hS 0 j hj).ok) c0
  rw [show Qx ts 1 = RR ts S 0 from rfl] at w1
  obtain ⟨⟨⟨tx1, tl1⟩, i1, e1⟩, h1⟩ : ∃ r, OT (RR ts S 0) (i, 0) = r := ⟨_, rfl⟩
  rw [h1] at w1 c1
  dsimp only at w1 c1
  have w2 := want_tot ts (by omega) (i1, e1) sIs (by decide)
  have c2 := wt_c (ts := ts) (s := sIs) (p := (i1, e1)) c1
  obtain ⟨⟨i2, e2⟩, h2⟩ : ∃ p, WT ts sIs (i1, e1) = p := ⟨_, rfl⟩
  rw [h2] at w2 c2
  dsimp only at w2 c2
  have w3 := expr_tot ts hl (i2, e2) c2
  have c3 := ot_c (ts := ts) (G := RR ts S 0) (p := (i2, e2)) (fun j hj => (RR_ok hS 0 j hj).ok) c2
  rw [show Qx ts 1 = RR ts S 0 from rfl] at w3
  obtain ⟨⟨⟨tx3, tl3⟩, i3, e3⟩, h3⟩ : ∃ r, OT (RR ts S 0) (i2, e2) = r := ⟨_, rfl⟩
  rw [h3] at w3 c3
  dsimp only at w3 c3
  have w4 := want_tot ts (by omega) (i3, e3) sEnd (by decide)
  have c4 := wt_c (ts := ts) (s := sEnd) (p := (i3, e3)) c3
  obtain ⟨⟨i4, e4⟩, h4⟩ : ∃ p, WT ts sEnd (i3, e3) = p := ⟨_, rfl⟩
  rw [h4] at w4 c4
  dsimp only at w4 c4
  rw [ft_start, ft_sub (rr_no hS 0) (fun h => (c0 h).2), h1, ft_sgn, h2, ft_sub (rr_no hS 0) (fun h => (c2 h).2), h3, ft_sgn, h4, ft_end] at hok ⊢
  have n := node_tot ts (by omega) (i4, e4) i ⟨22, 0, ⟨#[]⟩, 0, 0⟩ [.mk tx1 tl1, .mk tx3 tl3] (nt_at hok)
  dsimp only at n
  simp only [List.nil_append, List.cons_append]
  obtain ⟨⟨⟨nx, nl⟩, nj, ne⟩, hn⟩ : ∃ r, NT ts i 22 0 ⟨#[]⟩ [.mk tx1 tl1, .mk tx3 tl3] (i4, e4) = r := ⟨_, rfl⟩
  rw [hn] at n ⊢
  clear hok hS hn
  refine row_of Tryz.func169 rfl rfl (Nat.le_of_ble_eq_true rfl) ?_
  repeat' (first | refine aw_seq ?_ | refine aw_skip ?_ | refine aw_block ?_ | refine aw_exit ?_ | refine aw_cond rfl (fun _ => ?_) (fun hb => absurd hb (by decide)) | refine aw_cond rfl (fun hb => absurd hb (by decide)) (fun _ => ?_) | (refine aw_reg (fun K hK => ?_); simp -implicitDefEqProofs) | (refine aw_drw mixd (fun K hK => ?_); simp -implicitDefEqProofs) | refine hK _ ?_ | refine hK _ _ (by rfl) ?_ | (refine ar_call (cb p0 0 ?_); simp -implicitDefEqProofs) | (refine ard_call (db p0 0 ?_); simp -implicitDefEqProofs) | (refine ar_call (cb w1 0 ?_); simp -implicitDefEqProofs) | (refine ard_call (db w1 0 ?_); simp -implicitDefEqProofs) | (refine ar_call (cb w2 0 ?_); simp -implicitDefEqProofs) | (refine ard_call (db w2 0 ?_); simp -implicitDefEqProofs) | (refine ar_call (cb w3 0 ?_); simp -implicitDefEqProofs) | (refine ard_call (db w3 0 ?_); simp -implicitDefEqProofs) | (refine ar_call (cb w4 0 ?_); simp -implicitDefEqProofs) | (refine ard_call (db w4 0 ?_); simp -implicitDefEqProofs) | (refine ar_call (cb n 0 ?_); simp -implicitDefEqProofs) | (refine ard_call (db n 0 ?_); simp -implicitDefEqProofs) | fail)
  refine aw_ret (fin_box ?_); simp -implicitDefEqProofs [FinB, resV, resT] <;> try rfl
omit hS2 hrow in
set_option maxRecDepth 100000 in
set_option maxHeartbeats 4000000 in
theorem let_new (hcol : TT ts sCol (KT ts 1 (WT ts wLet (i, 0))).2 = true) : Row Tryz.prog 164 [vR] [rd ts i 0] (vT (itH ts (RR ts S) i 21 0 [.sgn wLet, .nam, .sgn sCol, .sub 1, .sgn sEnd] i ⟨#[]⟩ []).1) [some (rd ts (itH ts (RR ts S) i 21 0 [.sgn wLet, .nam, .sgn sCol, .sub 1, .sgn sEnd] i ⟨#[]⟩ []).2.1 (itH ts (RR ts S) i 21 0 [.sgn wLet, .nam, .sgn sCol, .sub 1, .sgn sEnd] i ⟨#[]⟩ []).2.2)] := by
  have hok := (itG_ok (n := 0) (RR_ok hS) i 21 [.sgn wLet, .nam, .sgn sCol, .sub 1, .sgn sEnd] i ⟨#[]⟩ [] 0 (by simp [sm]) hi (by simp [Cr])).ok
  have p0 := place_row ts i 0
  have c0 : (0 : Int) = 0 → i ≤ i ∧ i ≤ ts.length := fun _ => ⟨Nat.le_refl _, hi⟩
  have w1 := want_tot ts (by omega) (i, 0) wLet (by decide)
  have c1 := wt_c (ts := ts) (s := wLet) (p := (i, 0)) c0
  obtain ⟨⟨i1, e1⟩, h1⟩ : ∃ p, WT ts wLet (i, 0) = p := ⟨_, rfl⟩
  rw [h1] at w1 c1
  dsimp only at w1 c1
  have w2 := kind_tot ts (by omega) (i1, e1) 1 (by decide)
  have c2 := kt_c (ts := ts) (p := (i1, e1)) (k := 1) (by decide) c1
  obtain ⟨⟨⟨xk, xn, xs, xf, xt⟩, i2, e2⟩, h2⟩ : ∃ p, KT ts 1 (i1, e1) = p := ⟨_, rfl⟩
  rw [h2] at w2 c2
  dsimp only at w2 c2
  have w3 := take_yes' ts (by omega) (i2, e2) sCol (by decide) (by rw [← hcol]; rw [h1, h2])
  have y3 : WT ts sCol (i2, e2) = (i2 + 1, 0) := wt_of_tt (by rw [← hcol]; rw [h1, h2])
  have c3 := wt_c (ts := ts) (s := sCol) (p := (i2, e2)) c2
  rw [y3] at c3
  dsimp only at w3 c3
  obtain ⟨i3, z3⟩ : ∃ p, i2 + 1 = p := ⟨_, rfl⟩
  rw [z3] at w3 y3 c3
  have w4 := type_tot ts hl (i3, 0) c3
  have c4 := ot_c (ts := ts) (G := RR ts S 1) (p := (i3, 0)) (fun j hj => (RR_ok hS 1 j hj).ok) c3
  rw [show tyG ts (ts.length + 1) = RR ts S 1 from rfl] at w4
  obtain ⟨⟨⟨tx4, tl4⟩, i4, e4⟩, h4⟩ : ∃ r, OT (RR ts S 1) (i3, 0) = r := ⟨_, rfl⟩
  rw [h4] at w4 c4
  dsimp only at w4 c4
  have w5 := want_tot ts (by omega) (i4, e4) sEnd (by decide)
  have c5 := wt_c (ts := ts) (s := sEnd) (p := (i4, e4)) c4
  obtain ⟨⟨i5, e5⟩, h5⟩ : ∃ p, WT ts sEnd (i4, e4) = p := ⟨_, rfl⟩
  rw [h5] at w5 c5
  dsimp only at w5 c5
  rw [ft_start, ft_sgn, h1, ft_nam, h2, ft_sgn, y3, ft_sub (rr_no hS 1) (fun h => (c3 h).2), h4, ft_sgn, h5, ft_end] at hok ⊢
  have n := node_tot ts (by omega) (i5, e5) i ⟨21, 0, xs, 0, 0⟩ [.mk tx4 tl4] (nt_at hok)
  dsimp only at n
  simp only [List.nil_append, List.cons_append]
  obtain ⟨⟨⟨nx, nl⟩, nj, ne⟩, hn⟩ : ∃ r, NT ts i 21 0 xs [.mk tx4 tl4] (i5, e5) = r := ⟨_, rfl⟩
  rw [hn] at n ⊢
  clear hok hS hn
  refine row_of Tryz.func164 rfl rfl (Nat.le_of_ble_eq_true rfl) ?_
  repeat' (first | refine aw_seq ?_ | refine aw_skip ?_ | refine aw_block ?_ | refine aw_exit ?_ | refine aw_cond rfl (fun _ => ?_) (fun hb => absurd hb (by decide)) | refine aw_cond rfl (fun hb => absurd hb (by decide)) (fun _ => ?_) | (refine aw_reg (fun K hK => ?_); simp -implicitDefEqProofs) | (refine aw_drw mixd (fun K hK => ?_); simp -implicitDefEqProofs) | refine hK _ ?_ | refine hK _ _ (by rfl) ?_ | (refine ar_call (cb p0 0 ?_); simp -implicitDefEqProofs) | (refine ard_call (db p0 0 ?_); simp -implicitDefEqProofs) | (refine ar_call (cb w1 0 ?_); simp -implicitDefEqProofs) | (refine ard_call (db w1 0 ?_); simp -implicitDefEqProofs) | (refine ar_call (cb w2 0 ?_); simp -implicitDefEqProofs) | (refine ard_call (db w2 0 ?_); simp -implicitDefEqProofs) | (refine ar_call (cb w3 0 ?_); simp -implicitDefEqProofs) | (refine ard_call (db w3 0 ?_); simp -implicitDefEqProofs) | (refine ar_call (cb w4 0 ?_); simp -implicitDefEqProofs) | (refine ard_call (db w4 0 ?_); simp -implicitDefEqProofs) | (refine ar_call (cb w5 0 ?_); simp -implicitDefEqProofs) | (refine ard_call (db w5 0 ?_); simp -implicitDefEqProofs) | (refine ar_call (cb n 0 ?_); simp -implicitDefEqProofs) | (refine ard_call (db n 0 ?_); simp -implicitDefEqProofs) | fail)
  refine aw_ret (fin_box ?_); simp -implicitDefEqProofs [FinB, resV, resT] <;> try rfl
omit hS2 hrow in
set_option maxRecDepth 100000 in
set_option maxHeartbeats 4000000 in
theorem let_let (hcol : TT ts sCol (KT ts 1 (WT ts wLet (i, 0))).2 = false) : Row Tryz.prog 164 [vR] [rd ts i 0] (vT (itH ts (RR ts S) i 20 0 [.sgn wLet, .nam, .sgn sIs, .sub 0, .sgn sEnd] i ⟨#[]⟩ []).1) [some (rd ts (itH ts (RR ts S) i 20 0 [.sgn wLet, .nam, .sgn sIs, .sub 0, .sgn sEnd] i ⟨#[]⟩ []).2.1 (itH ts (RR ts S) i 20 0 [.sgn wLet, .nam, .sgn sIs, .sub 0, .sgn sEnd] i ⟨#[]⟩ []).2.2)] := by
  have hok := (itG_ok (n := 0) (RR_ok hS) i 20 [.sgn wLet, .nam, .sgn sIs, .sub 0, .sgn sEnd] i ⟨#[]⟩ [] 0 (by simp [sm]) hi (by simp [Cr])).ok
  have p0 := place_row ts i 0
  have c0 : (0 : Int) = 0 → i ≤ i ∧ i ≤ ts.length := fun _ => ⟨Nat.le_refl _, hi⟩
  have w1 := want_tot ts (by omega) (i, 0) wLet (by decide)
  have c1 := wt_c (ts := ts) (s := wLet) (p := (i, 0)) c0
  obtain ⟨⟨i1, e1⟩, h1⟩ : ∃ p, WT ts wLet (i, 0) = p := ⟨_, rfl⟩
  rw [h1] at w1 c1
  dsimp only at w1 c1
  have w2 := kind_tot ts (by omega) (i1, e1) 1 (by decide)
  have c2 := kt_c (ts := ts) (p := (i1, e1)) (k := 1) (by decide) c1
  obtain ⟨⟨⟨xk, xn, xs, xf, xt⟩, i2, e2⟩, h2⟩ : ∃ p, KT ts 1 (i1, e1) = p := ⟨_, rfl⟩
  rw [h2] at w2 c2
  dsimp only at w2 c2
  have t2 := take_no' ts (i2, e2) sCol (by decide) (by rw [← hcol]; rw [h1, h2])
  dsimp only at t2
  have w3 := want_tot ts (by omega) (i2, e2) sIs (by decide)
  have c3 := wt_c (ts := ts) (s := sIs) (p := (i2, e2)) c2
  obtain ⟨⟨i3, e3⟩, h3⟩ : ∃ p, WT ts sIs (i2, e2) = p := ⟨_, rfl⟩
  rw [h3] at w3 c3
  dsimp only at w3 c3
  have w4 := expr_tot ts hl (i3, e3) c3
  have c4 := ot_c (ts := ts) (G := RR ts S 0) (p := (i3, e3)) (fun j hj => (RR_ok hS 0 j hj).ok) c3
  rw [show Qx ts 1 = RR ts S 0 from rfl] at w4
  obtain ⟨⟨⟨tx4, tl4⟩, i4, e4⟩, h4⟩ : ∃ r, OT (RR ts S 0) (i3, e3) = r := ⟨_, rfl⟩
  rw [h4] at w4 c4
  dsimp only at w4 c4
  have w5 := want_tot ts (by omega) (i4, e4) sEnd (by decide)
  have c5 := wt_c (ts := ts) (s := sEnd) (p := (i4, e4)) c4
  obtain ⟨⟨i5, e5⟩, h5⟩ : ∃ p, WT ts sEnd (i4, e4) = p := ⟨_, rfl⟩
  rw [h5] at w5 c5
  dsimp only at w5 c5
  rw [ft_start, ft_sgn, h1, ft_nam, h2, ft_sgn, h3, ft_sub (rr_no hS 0) (fun h => (c3 h).2), h4, ft_sgn, h5, ft_end] at hok ⊢
  have n := node_tot ts (by omega) (i5, e5) i ⟨20, 0, xs, 0, 0⟩ [.mk tx4 tl4] (nt_at hok)
  dsimp only at n
  simp only [List.nil_append, List.cons_append]
  obtain ⟨⟨⟨nx, nl⟩, nj, ne⟩, hn⟩ : ∃ r, NT ts i 20 0 xs [.mk tx4 tl4] (i5, e5) = r := ⟨_, rfl⟩
  rw [hn] at n ⊢
  clear hok hS hn
  refine row_of Tryz.func164 rfl rfl (Nat.le_of_ble_eq_true rfl) ?_
  repeat' (first | refine aw_seq ?_ | refine aw_skip ?_ | refine aw_block ?_ | refine aw_exit ?_ | refine aw_cond rfl (fun _ => ?_) (fun hb => absurd hb (by decide)) | refine aw_cond rfl (fun hb => absurd hb (by decide)) (fun _ => ?_) | (refine aw_reg (fun K hK => ?_); simp -implicitDefEqProofs) | (refine aw_drw mixd (fun K hK => ?_); simp -implicitDefEqProofs) | refine hK _ ?_ | refine hK _ _ (by rfl) ?_ | (refine ar_call (cb p0 0 ?_); simp -implicitDefEqProofs) | (refine ard_call (db p0 0 ?_); simp -implicitDefEqProofs) | (refine ar_call (cb w1 0 ?_); simp -implicitDefEqProofs) | (refine ard_call (db w1 0 ?_); simp -implicitDefEqProofs) | (refine ar_call (cb w2 0 ?_); simp -implicitDefEqProofs) | (refine ard_call (db w2 0 ?_); simp -implicitDefEqProofs) | (refine ar_call (cb t2 0 ?_); simp -implicitDefEqProofs) | (refine ard_call (db t2 0 ?_); simp -implicitDefEqProofs) | (refine ar_call (cb w3 0 ?_); simp -implicitDefEqProofs) | (refine ard_call (db w3 0 ?_); simp -implicitDefEqProofs) | (refine ar_call (cb w4 0 ?_); simp -implicitDefEqProofs) | (refine ard_call (db w4 0 ?_); simp -implicitDefEqProofs) | (refine ar_call (cb w5 0 ?_); simp -implicitDefEqProofs) | (refine ard_call (db w5 0 ?_); simp -implicitDefEqProofs) | (refine ar_call (cb n 0 ?_); simp -implicitDefEqProofs) | (refine ard_call (db n 0 ?_); simp -implicitDefEqProofs) | fail)
  refine aw_ret (fin_box ?_); simp -implicitDefEqProofs [FinB, resV, resT] <;> try rfl
set_option maxRecDepth 100000 in
set_option maxHeartbeats 4000000 in
theorem branch_row : Row Tryz.prog 165 [vR] [rd ts i 0] (vT (itH ts (RR ts S) i 23 0 [.sgn wIf, .sub 0, .sub 2, .els] i ⟨#[]⟩ []).1) [some (rd ts (itH ts (RR ts S) i 23 0 [.sgn wIf, .sub 0, .sub 2, .els] i ⟨#[]⟩ []).2.1 (itH ts (RR ts S) i 23 0 [.sgn wIf, .sub 0, .sub 2, .els] i ⟨#[]⟩ []).2.2)] := by
  have hok := (itG_ok (n := 0) (RR_ok hS) i 23 [.sgn wIf, .sub 0, .sub 2, .els] i ⟨#[]⟩ [] 0 (by simp [sm]) hi (by simp [Cr])).ok
  have p0 := place_row ts i 0
  have c0 : (0 : Int) = 0 → i ≤ i ∧ i ≤ ts.length := fun _ => ⟨Nat.le_refl _, hi⟩
  have w1 := want_tot ts (by omega) (i, 0) wIf (by decide)
  have c1 := wt_c (ts := ts) (s := wIf) (p := (i, 0)) c0
  obtain ⟨⟨i1, e1⟩, h1⟩ : ∃ p, WT ts wIf (i, 0) = p := ⟨_, rfl⟩
  rw [h1] at w1 c1
  dsimp only at w1 c1
  have w2 := expr_tot ts hl (i1, e1) c1
  have c2 := ot_c (ts := ts) (G := RR ts S 0) (p := (i1, e1)) (fun j hj => (RR_ok hS 0 j hj).ok) c1
  rw [show Qx ts 1 = RR ts S 0 from rfl] at w2
  obtain ⟨⟨⟨tx2, tl2⟩, i2, e2⟩, h2⟩ : ∃ r, OT (RR ts S 0) (i1, e1) = r := ⟨_, rfl⟩
  rw [h2] at w2 c2
  dsimp only at w2 c2
  have w3 := block_tot ts hl S hS hS2 i hrow (i2, e2) c2
  have c3 := ot_c (ts := ts) (G := RR ts S 2) (p := (i2, e2)) (fun j hj => (RR_ok hS 2 j hj).ok) c2
  have d3 := bl_to (ts := ts) (S := S) (p := (i2, e2))
  rw [show blG ts S = RR ts S 2 from rfl] at w3
  rw [show blG ts S = RR ts S 2 from rfl] at d3
  obtain ⟨⟨⟨tx3, tl3⟩, i3, e3⟩, h3⟩ : ∃ r, OT (RR ts S 2) (i2, e2) = r := ⟨_, rfl⟩
  rw [h3] at w3 c3 d3
  dsimp only at w3 c3 d3
  by_cases hels : TT ts wElse (i3, e3) = true; rotate_left
  · have hels : TT ts wElse (i3, e3) = false := by simpa using hels
    have t4 := take_no' ts (i3, e3) wElse (by decide) hels
    dsimp only at t4
    rw [ft_start, ft_sgn, h1, ft_sub (rr_no hS 0) (fun h => (c1 h).2), h2, ft_sub (rr_no hS 2) (fun h => (c2 h).2), h3, ft_els_no hels, ft_end] at hok ⊢
    have n := node_tot ts (by omega) (i3, e3) i ⟨23, 0, ⟨#[]⟩, 0, 0⟩ [.mk tx2 tl2, .mk tx3 tl3, .mk ⟨29, 0, ⟨#[]⟩, tx3.t, tx3.t⟩ []] (nt_at hok)
    simp only [List.nil_append, List.cons_append] at hok ⊢
    have hq : NT ts i 23 0 ⟨#[]⟩ [.mk tx2 tl2, .mk tx3 tl3, emB ts i3] (i3, e3) = NT ts i 23 0 ⟨#[]⟩ [.mk tx2 tl2, .mk tx3 tl3, .mk ⟨29, 0, ⟨#[]⟩, tx3.t, tx3.t⟩ []] (i3, e3) := nt_err (fun h => by rw [show emB ts i3 = .mk ⟨29, 0, ⟨#[]⟩, tx3.t, tx3.t⟩ [] by unfold emB; rw [← d3 h]; rfl])
    dsimp only at hq n ⊢
    rw [hq]
    obtain ⟨⟨⟨nx, nl⟩, nj, ne⟩, hn⟩ : ∃ r, NT ts i 23 0 ⟨#[]⟩ [.mk tx2 tl2, .mk tx3 tl3, .mk ⟨29, 0, ⟨#[]⟩, tx3.t, tx3.t⟩ []] (i3, e3) = r := ⟨_, rfl⟩
    rw [hn] at n ⊢
    clear hok hrow hS hS2 hn hq hels
    refine row_of Tryz.func165 rfl rfl (Nat.le_of_ble_eq_true rfl) ?_
    repeat' (first | refine aw_seq ?_ | refine aw_skip ?_ | refine aw_block ?_ | refine aw_exit ?_ | refine aw_cond rfl (fun _ => ?_) (fun hb => absurd hb (by decide)) | refine aw_cond rfl (fun hb => absurd hb (by decide)) (fun _ => ?_) | (refine aw_reg (fun K hK => ?_); simp -implicitDefEqProofs) | (refine aw_drw mixd (fun K hK => ?_); simp -implicitDefEqProofs) | refine hK _ ?_ | refine hK _ _ (by rfl) ?_ | (refine ar_call (cb p0 0 ?_); simp -implicitDefEqProofs) | (refine ard_call (db p0 0 ?_); simp -implicitDefEqProofs) | (refine ar_call (cb w1 0 ?_); simp -implicitDefEqProofs) | (refine ard_call (db w1 0 ?_); simp -implicitDefEqProofs) | (refine ar_call (cb w2 0 ?_); simp -implicitDefEqProofs) | (refine ard_call (db w2 0 ?_); simp -implicitDefEqProofs) | (refine ar_call (cb w3 0 ?_); simp -implicitDefEqProofs) | (refine ard_call (db w3 0 ?_); simp -implicitDefEqProofs) | (refine ar_call (cb t4 0 ?_); simp -implicitDefEqProofs) | (refine ard_call (db t4 0 ?_); simp -implicitDefEqProofs) | (refine ar_call (cb n 0 ?_); simp -implicitDefEqProofs) | (refine ard_call (db n 0 ?_); simp -implicitDefEqProofs) | fail)
    refine aw_ret (fin_box ?_); simp -implicitDefEqProofs [FinB, resV, resT] <;> try rfl
  have t4 := take_yes' ts (by omega) (i3, e3) wElse (by decide) hels
  have he3 : e3 = 0 := by unfold TT at hels; simp at hels; exact hels.1
  have hlt : i3 < ts.length := by unfold TT at hels; simp at hels; exact isK_lt hels.2
  subst he3
  have hc3 := c3 rfl
  have w5 := block_tot ts hl S hS hS2 i hrow (i3 + 1, 0) (fun _ => by dsimp only; omega)
  rw [ft_start, ft_sgn, h1, ft_sub (rr_no hS 0) (fun h => (c1 h).2), h2, ft_sub (rr_no hS 2) (fun h => (c2 h).2), h3, ft_els_yes (rr_no hS 2) hels, ft_end] at hok ⊢
  rw [show OT (blG ts S) (i3 + 1, 0) = RR ts S 2 (i3 + 1) from if_pos rfl] at w5
  dsimp only at hok t4 w5 ⊢
  obtain ⟨⟨⟨tx5, tl5⟩, i5, e5⟩, h5⟩ : ∃ r, RR ts S 2 (i3 + 1) = r := ⟨_, rfl⟩
  rw [h5] at w5 hok ⊢
  dsimp only at hok w5 ⊢
  have n := node_tot ts (by omega) (i5, e5) i ⟨23, 0, ⟨#[]⟩, 0, 0⟩ [.mk tx2 tl2, .mk tx3 tl3, .mk tx5 tl5] (nt_at hok)
  simp only [List.nil_append, List.cons_append] at hok ⊢
  dsimp only at n
  obtain ⟨⟨⟨nx, nl⟩, nj, ne⟩, hn⟩ : ∃ r, NT ts i 23 0 ⟨#[]⟩ [.mk tx2 tl2, .mk tx3 tl3, .mk tx5 tl5] (i5, e5) = r := ⟨_, rfl⟩
  rw [hn] at n ⊢
  clear hok hrow hS hS2 hn hels
  refine row_of Tryz.func165 rfl rfl (Nat.le_of_ble_eq_true rfl) ?_
  repeat' (first | refine aw_seq ?_ | refine aw_skip ?_ | refine aw_block ?_ | refine aw_exit ?_ | refine aw_cond rfl (fun _ => ?_) (fun hb => absurd hb (by decide)) | refine aw_cond rfl (fun hb => absurd hb (by decide)) (fun _ => ?_) | (refine aw_reg (fun K hK => ?_); simp -implicitDefEqProofs) | (refine aw_drw mixd (fun K hK => ?_); simp -implicitDefEqProofs) | refine hK _ ?_ | refine hK _ _ (by rfl) ?_ | (refine ar_call (cb p0 0 ?_); simp -implicitDefEqProofs) | (refine ard_call (db p0 0 ?_); simp -implicitDefEqProofs) | (refine ar_call (cb w1 0 ?_); simp -implicitDefEqProofs) | (refine ard_call (db w1 0 ?_); simp -implicitDefEqProofs) | (refine ar_call (cb w2 0 ?_); simp -implicitDefEqProofs) | (refine ard_call (db w2 0 ?_); simp -implicitDefEqProofs) | (refine ar_call (cb w3 0 ?_); simp -implicitDefEqProofs) | (refine ard_call (db w3 0 ?_); simp -implicitDefEqProofs) | (refine ar_call (cb t4 0 ?_); simp -implicitDefEqProofs) | (refine ard_call (db t4 0 ?_); simp -implicitDefEqProofs) | (refine ar_call (cb w5 0 ?_); simp -implicitDefEqProofs) | (refine ard_call (db w5 0 ?_); simp -implicitDefEqProofs) | (refine ar_call (cb n 0 ?_); simp -implicitDefEqProofs) | (refine ard_call (db n 0 ?_); simp -implicitDefEqProofs) | fail)
  refine aw_ret (fin_box ?_); simp -implicitDefEqProofs [FinB, resV, resT] <;> try rfl
omit hS2 hrow in
set_option maxRecDepth 100000 in
set_option maxHeartbeats 4000000 in
theorem print_row8 (h : TT ts wPrin (i, 0) = true) : Row Tryz.prog 168 [vR] [rd ts i 0] (vT (itH ts (RR ts S) i 26 0 [.sgn wPrin, .sub 0, .sgn sEnd] i ⟨#[]⟩ []).1) [some (rd ts (itH ts (RR ts S) i 26 0 [.sgn wPrin, .sub 0, .sgn sEnd] i ⟨#[]⟩ []).2.1 (itH ts (RR ts S) i 26 0 [.sgn wPrin, .sub 0, .sgn sEnd] i ⟨#[]⟩ []).2.2)] := by
  have hok := (itG_ok (n := 0) (RR_ok hS) i 26 [.sgn wPrin, .sub 0, .sgn sEnd] i ⟨#[]⟩ [] 0 (by simp [sm]) hi (by simp [Cr])).ok
  have p0 := place_row ts i 0
  have c0 : (0 : Int) = 0 → i ≤ i ∧ i ≤ ts.length := fun _ => ⟨Nat.le_refl _, hi⟩
  have w1 := take_yes' ts (by omega) (i, 0) wPrin (by decide) h
  have y1 : WT ts wPrin (i, 0) = (i + 1, 0) := wt_of_tt h
  have c1 := wt_c (ts := ts) (s := wPrin) (p := (i, 0)) c0
  rw [y1] at c1
  dsimp only at w1 c1
  obtain ⟨i1, z1⟩ : ∃ p, i + 1 = p := ⟨_, rfl⟩
  rw [z1] at w1 y1 c1
  have w2 := expr_tot ts hl (i1, 0) c1
  have c2 := ot_c (ts := ts) (G := RR ts S 0) (p := (i1, 0)) (fun j hj => (RR_ok hS 0 j hj).ok) c1
  rw [show Qx ts 1 = RR ts S 0 from rfl] at w2
  obtain ⟨⟨⟨tx2, tl2⟩, i2, e2⟩, h2⟩ : ∃ r, OT (RR ts S 0) (i1, 0) = r := ⟨_, rfl⟩
  rw [h2] at w2 c2
  dsimp only at w2 c2
  have w3 := want_tot ts (by omega) (i2, e2) sEnd (by decide)
  have c3 := wt_c (ts := ts) (s := sEnd) (p := (i2, e2)) c2
  obtain ⟨⟨i3, e3⟩, h3⟩ : ∃ p, WT ts sEnd (i2, e2) = p := ⟨_, rfl⟩
  rw [h3] at w3 c3
  dsimp only at w3 c3
  rw [ft_start, ft_sgn, y1, ft_sub (rr_no hS 0) (fun h => (c1 h).2), h2, ft_sgn, h3, ft_end] at hok ⊢
  have n := node_tot ts (by omega) (i3, e3) i ⟨26, 0, ⟨#[]⟩, 0, 0⟩ [.mk tx2 tl2] (nt_at hok)
  dsimp only at n
  simp only [List.nil_append, List.cons_append]
  obtain ⟨⟨⟨nx, nl⟩, nj, ne⟩, hn⟩ : ∃ r, NT ts i 26 0 ⟨#[]⟩ [.mk tx2 tl2] (i3, e3) = r := ⟨_, rfl⟩
  rw [hn] at n ⊢
  clear hok hS hn
  refine row_of Tryz.func168 rfl rfl (Nat.le_of_ble_eq_true rfl) ?_
  repeat' (first | refine aw_seq ?_ | refine aw_skip ?_ | refine aw_block ?_ | refine aw_exit ?_ | refine aw_cond rfl (fun _ => ?_) (fun hb => absurd hb (by decide)) | refine aw_cond rfl (fun hb => absurd hb (by decide)) (fun _ => ?_) | (refine aw_reg (fun K hK => ?_); simp -implicitDefEqProofs) | (refine aw_drw mixd (fun K hK => ?_); simp -implicitDefEqProofs) | refine hK _ ?_ | refine hK _ _ (by rfl) ?_ | (refine ar_call (cb p0 0 ?_); simp -implicitDefEqProofs) | (refine ard_call (db p0 0 ?_); simp -implicitDefEqProofs) | (refine ar_call (cb w1 0 ?_); simp -implicitDefEqProofs) | (refine ard_call (db w1 0 ?_); simp -implicitDefEqProofs) | (refine ar_call (cb w2 0 ?_); simp -implicitDefEqProofs) | (refine ard_call (db w2 0 ?_); simp -implicitDefEqProofs) | (refine ar_call (cb w3 0 ?_); simp -implicitDefEqProofs) | (refine ard_call (db w3 0 ?_); simp -implicitDefEqProofs) | (refine ar_call (cb n 0 ?_); simp -implicitDefEqProofs) | (refine ard_call (db n 0 ?_); simp -implicitDefEqProofs) | fail)
  refine aw_ret (fin_box ?_); simp -implicitDefEqProofs [FinB, resV, resT] <;> try rfl
omit hS2 hrow in
set_option maxRecDepth 100000 in
set_option maxHeartbeats 4000000 in
theorem return_row8 (g : TT ts wPrin (i, 0) = false) (h : TT ts wRet (i, 0) = true) : Row Tryz.prog 168 [vR] [rd ts i 0] (vT (itH ts (RR ts S) i 27 0 [.sgn wRet, .sub 0, .sgn sEnd] i ⟨#[]⟩ []).1) [some (rd ts (itH ts (RR ts S) i 27 0 [.sgn wRet, .sub 0, .sgn sEnd] i ⟨#[]⟩ []).2.1 (itH ts (RR ts S) i 27 0 [.sgn wRet, .sub 0, .sgn sEnd] i ⟨#[]⟩ []).2.2)] := by
  have hok := (itG_ok (n := 0) (RR_ok hS) i 27 [.sgn wRet, .sub 0, .sgn sEnd] i ⟨#[]⟩ [] 0 (by simp [sm]) hi (by simp [Cr])).ok
  have p0 := place_row ts i 0
  have c0 : (0 : Int) = 0 → i ≤ i ∧ i ≤ ts.length := fun _ => ⟨Nat.le_refl _, hi⟩
  have t0 := take_no' ts (i, 0) wPrin (by decide) g
  dsimp only at t0
  have w1 := take_yes' ts (by omega) (i, 0) wRet (by decide) h
  have y1 : WT ts wRet (i, 0) = (i + 1, 0) := wt_of_tt h
  have c1 := wt_c (ts := ts) (s := wRet) (p := (i, 0)) c0
  rw [y1] at c1
  dsimp only at w1 c1
  obtain ⟨i1, z1⟩ : ∃ p, i + 1 = p := ⟨_, rfl⟩
  rw [z1] at w1 y1 c1
  have w2 := expr_tot ts hl (i1, 0) c1
  have c2 := ot_c (ts := ts) (G := RR ts S 0) (p := (i1, 0)) (fun j hj => (RR_ok hS 0 j hj).ok) c1
  rw [show Qx ts 1 = RR ts S 0 from rfl] at w2
  obtain ⟨⟨⟨tx2, tl2⟩, i2, e2⟩, h2⟩ : ∃ r, OT (RR ts S 0) (i1, 0) = r := ⟨_, rfl⟩
  rw [h2] at w2 c2
  dsimp only at w2 c2
  have w3 := want_tot ts (by omega) (i2, e2) sEnd (by decide)
  have c3 := wt_c (ts := ts) (s := sEnd) (p := (i2, e2)) c2
  obtain ⟨⟨i3, e3⟩, h3⟩ : ∃ p, WT ts sEnd (i2, e2) = p := ⟨_, rfl⟩
  rw [h3] at w3 c3
  dsimp only at w3 c3
  rw [ft_start, ft_sgn, y1, ft_sub (rr_no hS 0) (fun h => (c1 h).2), h2, ft_sgn, h3, ft_end] at hok ⊢
  have n := node_tot ts (by omega) (i3, e3) i ⟨27, 0, ⟨#[]⟩, 0, 0⟩ [.mk tx2 tl2] (nt_at hok)
  dsimp only at n
  simp only [List.nil_append, List.cons_append]
  obtain ⟨⟨⟨nx, nl⟩, nj, ne⟩, hn⟩ : ∃ r, NT ts i 27 0 ⟨#[]⟩ [.mk tx2 tl2] (i3, e3) = r := ⟨_, rfl⟩
  rw [hn] at n ⊢
  clear hok hS hn
  refine row_of Tryz.func168 rfl rfl (Nat.le_of_ble_eq_true rfl) ?_
  repeat' (first | refine aw_seq ?_ | refine aw_skip ?_ | refine aw_block ?_ | refine aw_exit ?_ | refine aw_cond rfl (fun _ => ?_) (fun hb => absurd hb (by decide)) | refine aw_cond rfl (fun hb => absurd hb (by decide)) (fun _ => ?_) | (refine aw_reg (fun K hK => ?_); simp -implicitDefEqProofs) | (refine aw_drw mixd (fun K hK => ?_); simp -implicitDefEqProofs) | refine hK _ ?_ | refine hK _ _ (by rfl) ?_ | (refine ar_call (cb p0 0 ?_); simp -implicitDefEqProofs) | (refine ard_call (db p0 0 ?_); simp -implicitDefEqProofs) | (refine ar_call (cb t0 0 ?_); simp -implicitDefEqProofs) | (refine ard_call (db t0 0 ?_); simp -implicitDefEqProofs) | (refine ar_call (cb w1 0 ?_); simp -implicitDefEqProofs) | (refine ard_call (db w1 0 ?_); simp -implicitDefEqProofs) | (refine ar_call (cb w2 0 ?_); simp -implicitDefEqProofs) | (refine ard_call (db w2 0 ?_); simp -implicitDefEqProofs) | (refine ar_call (cb w3 0 ?_); simp -implicitDefEqProofs) | (refine ard_call (db w3 0 ?_); simp -implicitDefEqProofs) | (refine ar_call (cb n 0 ?_); simp -implicitDefEqProofs) | (refine ard_call (db n 0 ?_); simp -implicitDefEqProofs) | fail)
  refine aw_ret (fin_box ?_); simp -implicitDefEqProofs [FinB, resV, resT] <;> try rfl
omit hS2 hrow in
set_option maxRecDepth 100000 in
set_option maxHeartbeats 4000000 in
theorem do_row8 (g : TT ts wPrin (i, 0) = false) (h : TT ts wRet (i, 0) = false) : Row Tryz.prog 168 [vR] [rd ts i 0] (vT (itH ts (RR ts S) i 28 0 [.sgn wDo, .sub 0, .sgn sEnd] i ⟨#[]⟩ []).1) [some (rd ts (itH ts (RR ts S) i 28 0 [.sgn wDo, .sub 0, .sgn sEnd] i ⟨#[]⟩ []).2.1 (itH ts (RR ts S) i 28 0 [.sgn wDo, .sub 0, .sgn sEnd] i ⟨#[]⟩ []).2.2)] := by
  have hok := (itG_ok (n := 0) (RR_ok hS) i 28 [.sgn wDo, .sub 0, .sgn sEnd] i ⟨#[]⟩ [] 0 (by simp [sm]) hi (by simp [Cr])).ok
  have p0 := place_row ts i 0
  have c0 : (0 : Int) = 0 → i ≤ i ∧ i ≤ ts.length := fun _ => ⟨Nat.le_refl _, hi⟩
  have t0 := take_no' ts (i, 0) wPrin (by decide) g
  dsimp only at t0
  have t02 := take_no' ts (i, 0) wRet (by decide) h
  dsimp only at t02
  have w1 := want_tot ts (by omega) (i, 0) wDo (by decide)
  have c1 := wt_c (ts := ts) (s := wDo) (p := (i, 0)) c0
  obtain ⟨⟨i1, e1⟩, h1⟩ : ∃ p, WT ts wDo (i, 0) = p := ⟨_, rfl⟩
  rw [h1] at w1 c1
  dsimp only at w1 c1
  have w2 := expr_tot ts hl (i1, e1) c1
  have c2 := ot_c (ts := ts) (G := RR ts S 0) (p := (i1, e1)) (fun j hj => (RR_ok hS 0 j hj).ok) c1
  rw [show Qx ts 1 = RR ts S 0 from rfl] at w2
  obtain ⟨⟨⟨tx2, tl2⟩, i2, e2⟩, h2⟩ : ∃ r, OT (RR ts S 0) (i1, e1) = r := ⟨_, rfl⟩
  rw [h2] at w2 c2
  dsimp only at w2 c2
  have w3 := want_tot ts (by omega) (i2, e2) sEnd (by decide)
  have c3 := wt_c (ts := ts) (s := sEnd) (p := (i2, e2)) c2
  obtain ⟨⟨i3, e3⟩, h3⟩ : ∃ p, WT ts sEnd (i2, e2) = p := ⟨_, rfl⟩
  rw [h3] at w3 c3
  dsimp only at w3 c3
  rw [ft_start, ft_sgn, h1, ft_sub (rr_no hS 0) (fun h => (c1 h).2), h2, ft_sgn, h3, ft_end] at hok ⊢
  have n := node_tot ts (by omega) (i3, e3) i ⟨28, 0, ⟨#[]⟩, 0, 0⟩ [.mk tx2 tl2] (nt_at hok)
  dsimp only at n
  simp only [List.nil_append, List.cons_append]
  obtain ⟨⟨⟨nx, nl⟩, nj, ne⟩, hn⟩ : ∃ r, NT ts i 28 0 ⟨#[]⟩ [.mk tx2 tl2] (i3, e3) = r := ⟨_, rfl⟩
  rw [hn] at n ⊢
  clear hok hS hn
  refine row_of Tryz.func168 rfl rfl (Nat.le_of_ble_eq_true rfl) ?_
  repeat' (first | refine aw_seq ?_ | refine aw_skip ?_ | refine aw_block ?_ | refine aw_exit ?_ | refine aw_cond rfl (fun _ => ?_) (fun hb => absurd hb (by decide)) | refine aw_cond rfl (fun hb => absurd hb (by decide)) (fun _ => ?_) | (refine aw_reg (fun K hK => ?_); simp -implicitDefEqProofs) | (refine aw_drw mixd (fun K hK => ?_); simp -implicitDefEqProofs) | refine hK _ ?_ | refine hK _ _ (by rfl) ?_ | (refine ar_call (cb p0 0 ?_); simp -implicitDefEqProofs) | (refine ard_call (db p0 0 ?_); simp -implicitDefEqProofs) | (refine ar_call (cb t0 0 ?_); simp -implicitDefEqProofs) | (refine ard_call (db t0 0 ?_); simp -implicitDefEqProofs) | (refine ar_call (cb t02 0 ?_); simp -implicitDefEqProofs) | (refine ard_call (db t02 0 ?_); simp -implicitDefEqProofs) | (refine ar_call (cb w1 0 ?_); simp -implicitDefEqProofs) | (refine ard_call (db w1 0 ?_); simp -implicitDefEqProofs) | (refine ar_call (cb w2 0 ?_); simp -implicitDefEqProofs) | (refine ard_call (db w2 0 ?_); simp -implicitDefEqProofs) | (refine ar_call (cb w3 0 ?_); simp -implicitDefEqProofs) | (refine ard_call (db w3 0 ?_); simp -implicitDefEqProofs) | (refine ar_call (cb n 0 ?_); simp -implicitDefEqProofs) | (refine ard_call (db n 0 ?_); simp -implicitDefEqProofs) | fail)
  refine aw_ret (fin_box ?_); simp -implicitDefEqProofs [FinB, resV, resT] <;> try rfl
end
end Go.Proofs.YthcnligihpnfiaaGreatDoor.am
end
