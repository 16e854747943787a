import Derived.Test.YthcnligihpnfiaaGreatDoorPkV13
import Derived.ChangeOld
import Derived.OpenShut
import Derived.Below
import Derived.Test.YthcnligihpnfiaaGreatDoorPkV3
import Derived.Test.YthcnligihpnfiaaGreatDoorPkV2
section
namespace Go.Proofs.YthcnligihpnfiaaGreatDoor.am
open Go.ChangeShapes Go.WideShapes Go.ChangeAt Go.RowKit
open vt
set_option linter.unusedVariables false
set_option linter.unusedSimpArgs false
section
variable (ts : List Tok) (hl : ts.length ≤ 3000000000000)
include hl
set_option maxRecDepth 100000 in
set_option maxHeartbeats 4000000 in
theorem record9_row (i : Nat) (hi : i < ts.length) : Row Tryz.prog 39 [vR, vI i] [rd ts (i + 1) 0] (vT (recG ts i).1) [some (rd ts (recG ts i).2.1 (recG ts i).2.2)] := by
  have w1 := kind_tot ts (by omega) (i + 1, 0) 1 (by decide)
  unfold recG
  by_cases h1 : (nxt ts (i + 1)).k = 1; rotate_left
  · rw [if_neg h1]
    rw [show KT ts 1 (i + 1, 0) = (zK, i + 1, 6) by unfold KT; simp [h1]] at w1
    have w2 := want_no ts (i + 1) 6 sBra (by decide) (.inl (by decide))
    have a := listF_err ts hl (i + 1) 6 (by decide)
    have w3 := want_no ts (i + 1) 6 sKet (by decide) (.inl (by decide))
    have n := node_no ts (i + 1) 6 (by decide) i (.mk ⟨30, 0, ⟨#[]⟩, 0, 0⟩ [z0])
    rw [show er 6 = 6 from rfl] at w2 w3
    clear h1
    refine row_of Tryz.func39 rfl rfl (Nat.le_of_ble_eq_true rfl) ?_
    repeat' (first | refine aw_seq ?_ | refine aw_skip ?_ | refine aw_block ?_ | refine aw_exit ?_ | refine aw_cond rfl (fun _ => ?_) (fun hb => absurd hb (by decide)) | refine aw_cond rfl (fun hb => absurd hb (by decide)) (fun _ => ?_) | (refine aw_reg (fun K hK => ?_); simp -implicitDefEqProofs [zK]) | (refine aw_drw mixd (fun K hK => ?_); simp -implicitDefEqProofs [zK]) | refine hK _ ?_ | refine hK _ _ (by rfl) ?_ | (refine ar_call (cb w1 0 ?_); simp -implicitDefEqProofs [zK]) | (refine ard_call (db w1 0 ?_); simp -implicitDefEqProofs [zK]) | (refine ar_call (cb w2 0 ?_); simp -implicitDefEqProofs [zK]) | (refine ard_call (db w2 0 ?_); simp -implicitDefEqProofs [zK]) | (refine ar_call (cb a 0 ?_); simp -implicitDefEqProofs [zK]) | (refine ard_call (db a 0 ?_); simp -implicitDefEqProofs [zK]) | (refine ar_call (cb w3 0 ?_); simp -implicitDefEqProofs [zK]) | (refine ard_call (db w3 0 ?_); simp -implicitDefEqProofs [zK]) | (refine ar_call (cb n 0 ?_); simp -implicitDefEqProofs [zK]) | (refine ard_call (db n 0 ?_); simp -implicitDefEqProofs [zK]) | fail)
    refine aw_ret (fin_box ?_); simp -implicitDefEqProofs [FinB, resV, resT, bad7, z0] <;> try rfl
  rw [if_pos h1]
  have hlt := k_lt h1 (by decide)
  rw [show KT ts 1 (i + 1, 0) = (nxt ts (i + 1), i + 1 + 1, 0) by unfold KT; simp [h1]] at w1
  obtain ⟨⟨xk, xn, xs, xf, xt⟩, hx⟩ : ∃ x, nxt ts (i + 1) = x := ⟨_, rfl⟩
  rw [hx] at w1 ⊢
  dsimp only at w1 ⊢
  clear h1 hx
  by_cases h2 : isK sBra (nxt ts (i + 1 + 1)) = true; rotate_left
  · have h2 : isK sBra (nxt ts (i + 1 + 1)) = false := by simpa using h2
    rw [show isK sBra (nxt ts (i + 2)) = false from h2, if_neg (by simp)]
    have w2 := want_no ts (i + 1 + 1) 0 sBra (by decide) (.inr h2)
    have a := listF_err ts hl (i + 1 + 1) 6 (by decide)
    have w3 := want_no ts (i + 1 + 1) 6 sKet (by decide) (.inl (by decide))
    have n := node_no ts (i + 1 + 1) 6 (by decide) i (.mk ⟨30, 0, xs, 0, 0⟩ [z0])
    rw [show er 0 = 6 from rfl] at w2
    rw [show er 6 = 6 from rfl] at w3
    clear h2
    refine row_of Tryz.func39 rfl rfl (Nat.le_of_ble_eq_true rfl) ?_
    repeat' (first | refine aw_seq ?_ | refine aw_skip ?_ | refine aw_block ?_ | refine aw_exit ?_ | refine aw_cond rfl (fun _ => ?_) (fun hb => absurd hb (by decide)) | refine aw_cond rfl (fun hb => absurd hb (by decide)) (fun _ => ?_) | (refine aw_reg (fun K hK => ?_); simp -implicitDefEqProofs) | (refine aw_drw mixd (fun K hK => ?_); simp -implicitDefEqProofs) | refine hK _ ?_ | refine hK _ _ (by rfl) ?_ | (refine ar_call (cb w1 0 ?_); simp -implicitDefEqProofs) | (refine ard_call (db w1 0 ?_); simp -implicitDefEqProofs) | (refine ar_call (cb w2 0 ?_); simp -implicitDefEqProofs) | (refine ard_call (db w2 0 ?_); simp -implicitDefEqProofs) | (refine ar_call (cb a 0 ?_); simp -implicitDefEqProofs) | (refine ard_call (db a 0 ?_); simp -implicitDefEqProofs) | (refine ar_call (cb w3 0 ?_); simp -implicitDefEqProofs) | (refine ard_call (db w3 0 ?_); simp -implicitDefEqProofs) | (refine ar_call (cb n 0 ?_); simp -implicitDefEqProofs) | (refine ard_call (db n 0 ?_); simp -implicitDefEqProofs) | fail)
    refine aw_ret (fin_box ?_); simp -implicitDefEqProofs [FinB, resV, resT, bad7, z0] <;> try rfl
  rw [show isK sBra (nxt ts (i + 2)) = true from h2, if_pos rfl]
  have hlt2 := isK_lt h2
  have w2 := want_yes ts (i + 1 + 1) sBra (by decide) (by omega) h2
  have a := listF_row ts hl (i + 1 + 1 + 1) hlt2
  have hls := lsF_eq (ts.length + 1) (i + 1 + 1 + 1) [] hlt2 (by omega) (by simp)
  obtain ⟨l1, l2⟩ := lpF_of (ts := ts) (ts.length + 1) (i + 1 + 1 + 1) []
  have hok := lpF_ok (ts := ts) (ts.length + 1) (i + 1 + 1 + 1) [] hlt2
  obtain ⟨L, hL⟩ : ∃ L, lsF ts (ts.length + 1) (i + 1 + 1 + 1) [] = L := ⟨_, rfl⟩
  obtain ⟨⟨c1, c2, c3⟩, hC⟩ : ∃ C, lpF0 ts (ts.length + 1) (i + 1 + 1 + 1) [] = C := ⟨_, rfl⟩
  rw [hC] at a hls l1 l2
  rw [hL] at a hls
  dsimp only at a hls l1 l2
  rw [show lpF ts (ts.length + 1) (i + 3) [] = lpF ts (ts.length + 1) (i + 1 + 1 + 1) [] from rfl]
  by_cases h3 : c3 = 0
  · subst h3
    have hls := hls rfl
    subst hls
    obtain ⟨l1, l3⟩ := l1 rfl
    rw [l1] at hok ⊢
    have hle := hok.le
    dsimp only at hle
    have w3 := want_yes ts c2 sKet (by decide) (by omega) l3
    have n := node_yes ts (c2 + 1) i ⟨30, 0, xs, 0, 0⟩ L hi (by omega) hle.2 (by omega)
    rw [show finC ts i 30 xs (L, c2 + 1, 0) = mk7 ts i (c2 + 1) 30 0 xs L from if_neg (by simp)]
    clear l1 l2 l3 hok h2 hL hC
    refine row_of Tryz.func39 rfl rfl (Nat.le_of_ble_eq_true rfl) ?_
    repeat' (first | refine aw_seq ?_ | refine aw_skip ?_ | refine aw_block ?_ | refine aw_exit ?_ | refine aw_cond rfl (fun _ => ?_) (fun hb => absurd hb (by decide)) | refine aw_cond rfl (fun hb => absurd hb (by decide)) (fun _ => ?_) | (refine aw_reg (fun K hK => ?_); simp -implicitDefEqProofs) | (refine aw_drw mixd (fun K hK => ?_); simp -implicitDefEqProofs) | refine hK _ ?_ | refine hK _ _ (by rfl) ?_ | (refine ar_call (cb w1 0 ?_); simp -implicitDefEqProofs) | (refine ard_call (db w1 0 ?_); simp -implicitDefEqProofs) | (refine ar_call (cb w2 0 ?_); simp -implicitDefEqProofs) | (refine ard_call (db w2 0 ?_); simp -implicitDefEqProofs) | (refine ar_call (cb a 0 ?_); simp -implicitDefEqProofs) | (refine ard_call (db a 0 ?_); simp -implicitDefEqProofs) | (refine ar_call (cb w3 0 ?_); simp -implicitDefEqProofs) | (refine ard_call (db w3 0 ?_); simp -implicitDefEqProofs) | (refine ar_call (cb n 0 ?_); simp -implicitDefEqProofs) | (refine ard_call (db n 0 ?_); simp -implicitDefEqProofs) | fail)
    refine aw_ret (fin_box ?_); simp -implicitDefEqProofs [FinB, resV, resT, mk7] <;> try rfl
  · have l2 := l2 h3
    have w3 := want_no ts c2 c3 sKet (by decide) (.inl h3)
    have n := node_no ts c2 c3 h3 i (.mk ⟨30, 0, xs, 0, 0⟩ L)
    rw [show er c3 = c3 from if_neg h3] at w3
    rw [show finC ts i 30 xs (lpF ts (ts.length + 1) (i + 1 + 1 + 1) []) = (z0, c2, c3) by unfold finC; rw [show (lpF ts (ts.length + 1) (i + 1 + 1 + 1) []).2.2 = c3 by rw [l2], show (lpF ts (ts.length + 1) (i + 1 + 1 + 1) []).2.1 = c2 by rw [l2], if_pos h3]]
    clear l1 l2 hok h2 hL hC hls
    refine row_of Tryz.func39 rfl rfl (Nat.le_of_ble_eq_true rfl) ?_
    repeat' (first | refine aw_seq ?_ | refine aw_skip ?_ | refine aw_block ?_ | refine aw_exit ?_ | refine aw_cond rfl (fun _ => ?_) (fun hb => absurd hb (by decide)) | refine aw_cond rfl (fun hb => absurd hb (by decide)) (fun _ => ?_) | (refine aw_reg (fun K hK => ?_); simp -implicitDefEqProofs) | (refine aw_drw mixd (fun K hK => ?_); simp -implicitDefEqProofs) | refine hK _ ?_ | refine hK _ _ (by rfl) ?_ | (refine ar_call (cb w1 0 ?_); simp -implicitDefEqProofs) | (refine ard_call (db w1 0 ?_); simp -implicitDefEqProofs) | (refine ar_call (cb w2 0 ?_); simp -implicitDefEqProofs) | (refine ard_call (db w2 0 ?_); simp -implicitDefEqProofs) | (refine ar_call (cb a 0 ?_); simp -implicitDefEqProofs) | (refine ard_call (db a 0 ?_); simp -implicitDefEqProofs) | (refine ar_call (cb w3 0 ?_); simp -implicitDefEqProofs) | (refine ard_call (db w3 0 ?_); simp -implicitDefEqProofs) | (refine ar_call (cb n 0 ?_); simp -implicitDefEqProofs) | (refine ard_call (db n 0 ?_); simp -implicitDefEqProofs) | fail)
    refine aw_ret (fin_box ?_); simp -implicitDefEqProofs [FinB, resV, resT, z0] <;> try rfl
set_option maxRecDepth 100000 in
set_option maxHeartbeats 4000000 in
theorem define9_row (p : Nat × Int) (a : Nat) (h : p.2 = 0 → a + 1 ≤ p.1 ∧ p.1 ≤ ts.length) : Row Tryz.prog 40 [vR, vI a] [rd ts p.1 p.2] (vT (FT ts (R9 ts) a 31 0 [.nam, .sgn sIs, .sub 3, .sgn sEnd] p ⟨#[]⟩ []).1) [some (rd ts (FT ts (R9 ts) a 31 0 [.nam, .sgn sIs, .sub 3, .sgn sEnd] p ⟨#[]⟩ []).2.1 (FT ts (R9 ts) a 31 0 [.nam, .sgn sIs, .sub 3, .sgn sEnd] p ⟨#[]⟩ []).2.2)] := by
  obtain ⟨i, e⟩ := p
  dsimp only at h ⊢
  have w1 := kind_tot ts (by omega) (i, e) 1 (by decide)
  have c1 := kt_c (ts := ts) (a := a + 1) (p := (i, e)) (k := 1) (by decide) h
  obtain ⟨⟨⟨xk, xn, xs, xf, xt⟩, i1, e1⟩, h1⟩ : ∃ p, KT ts 1 (i, e) = p := ⟨_, rfl⟩
  rw [h1] at w1 c1
  dsimp only at w1 c1
  have w2 := want_tot ts (by omega) (i1, e1) sIs (by decide)
  have c2 := wt_c (ts := ts) (s := sIs) (p := (i1, e1)) c1
  obtain ⟨⟨i2, e2⟩, h2⟩ : ∃ p, WT ts sIs (i1, e1) = p := ⟨_, rfl⟩
  rw [h2] at w2 c2
  dsimp only at w2 c2
  have w3 := literal9_row ts hl (i2, e2) (fun hh => (c2 hh).2)
  have c3 := ot_c (ts := ts) (G := R9 ts 3) (p := (i2, e2)) (fun j hj => (R9_ok 3 j hj).ok) c2
  rw [show litG ts = R9 ts 3 from rfl] at w3
  obtain ⟨⟨⟨tx, tl⟩, i3, e3⟩, h3⟩ : ∃ r, OT (R9 ts 3) (i2, e2) = r := ⟨_, rfl⟩
  rw [h3] at w3 c3
  dsimp only at w3 c3
  have w4 := want_tot ts (by omega) (i3, e3) sEnd (by decide)
  have c4 := wt_c (ts := ts) (s := sEnd) (p := (i3, e3)) c3
  obtain ⟨⟨i4, e4⟩, h4⟩ : ∃ p, WT ts sEnd (i3, e3) = p := ⟨_, rfl⟩
  rw [h4] at w4 c4
  dsimp only at w4 c4
  have n := node_tot ts (by omega) (i4, e4) a ⟨31, 0, xs, 0, 0⟩ [.mk tx tl] (fun hh => by have := c4 hh; dsimp only; omega)
  rw [ft_nam, h1, ft_sgn, h2, ft_sub (R9_no 3) (fun hh => (c2 hh).2), h3, ft_sgn, h4, ft_end]
  simp only [List.nil_append]
  dsimp only at n ⊢
  obtain ⟨⟨⟨nx, nl⟩, nj, ne⟩, hn⟩ : ∃ r, NT ts a 31 0 xs [.mk tx tl] (i4, e4) = r := ⟨_, rfl⟩
  rw [hn] at n ⊢
  clear hn h1 h2 h3 h4 c1 c2 c3 c4
  refine row_of Tryz.func40 rfl rfl (Nat.le_of_ble_eq_true rfl) ?_
  repeat' (first | refine aw_seq ?_ | refine aw_skip ?_ | refine aw_block ?_ | refine aw_exit ?_ | refine aw_cond rfl (fun _ => ?_) (fun hb => absurd hb (by decide)) | refine aw_cond rfl (fun hb => absurd hb (by decide)) (fun _ => ?_) | (refine aw_reg (fun K hK => ?_); simp -implicitDefEqProofs) | (refine aw_drw mixd (fun K hK => ?_); simp -implicitDefEqProofs) | refine hK _ ?_ | refine hK _ _ (by rfl) ?_ | (refine ar_call (cb w1 0 ?_); simp -implicitDefEqProofs) | (refine ard_call (db w1 0 ?_); simp -implicitDefEqProofs) | (refine ar_call (cb w2 0 ?_); simp -implicitDefEqProofs) | (refine ard_call (db w2 0 ?_); simp -implicitDefEqProofs) | (refine ar_call (cb w3 0 ?_); simp -implicitDefEqProofs) | (refine ard_call (db w3 0 ?_); simp -implicitDefEqProofs) | (refine ar_call (cb w4 0 ?_); simp -implicitDefEqProofs) | (refine ard_call (db w4 0 ?_); simp -implicitDefEqProofs) | (refine ar_call (cb n 0 ?_); simp -implicitDefEqProofs) | (refine ard_call (db n 0 ?_); simp -implicitDefEqProofs) | fail)
  refine aw_ret (fin_box ?_); simp -implicitDefEqProofs [FinB, resV, resT] <;> try rfl
omit hl in
theorem par_e (i : Nat) (e : Int) (he : e ≠ 0) : OT (parG ts) (i, e) = (z0, i, e) := if_neg he
set_option maxRecDepth 100000 in
set_option maxHeartbeats 4000000 in
theorem function9_row (p : Nat × Int) (a : Nat) (N : Int) (h : p.2 = 0 → a + 1 ≤ p.1 ∧ p.1 ≤ ts.length) : Row Tryz.prog 44 [vR, vI a, vI N] [rd ts p.1 p.2] (vT (FT ts (R9 ts) a 33 N [.nam, .sub 4, .sgn sCol, .sub 1, .sub 2] p ⟨#[]⟩ []).1) [some (rd ts (FT ts (R9 ts) a 33 N [.nam, .sub 4, .sgn sCol, .sub 1, .sub 2] p ⟨#[]⟩ []).2.1 (FT ts (R9 ts) a 33 N [.nam, .sub 4, .sgn sCol, .sub 1, .sub 2] p ⟨#[]⟩ []).2.2)] := by
  obtain ⟨i, e⟩ := p
  dsimp only at h ⊢
  have w1 := kind_tot ts (by omega) (i, e) 1 (by decide)
  have c1 := kt_c (ts := ts) (a := a + 1) (p := (i, e)) (k := 1) (by decide) h
  obtain ⟨⟨⟨xk, xn, xs, xf, xt⟩, i1, e1⟩, h1⟩ : ∃ p, KT ts 1 (i, e) = p := ⟨_, rfl⟩
  rw [h1] at w1 c1
  dsimp only at w1 c1
  have pl := place_row ts i1 e1
  have c2 := ot_c (ts := ts) (G := R9 ts 4) (p := (i1, e1)) (fun j hj => (R9_ok 4 j hj).ok) c1
  have main : ∀ (tx : Lab) (tlp : List VT) (i2 : Nat) (e2 : Int), OT (R9 ts 4) (i1, e1) = (.mk tx tlp, i2, e2) → True := fun _ _ _ _ _ => trivial
  obtain ⟨⟨⟨tx, tl⟩, i2, e2⟩, h2⟩ : ∃ r, OT (R9 ts 4) (i1, e1) = r := ⟨_, rfl⟩
  rw [h2] at c2
  dsimp only at c2
  have w3 := want_tot ts (by omega) (i2, e2) sCol (by decide)
  have c3 := wt_c (ts := ts) (s := sCol) (p := (i2, e2)) c2
  obtain ⟨⟨i3, e3⟩, h3⟩ : ∃ p, WT ts sCol (i2, e2) = p := ⟨_, rfl⟩
  rw [h3] at w3 c3
  dsimp only at w3 c3
  have w4 := type_tot ts hl (i3, e3) c3
  have c4 := ot_c (ts := ts) (G := R9 ts 1) (p := (i3, e3)) (fun j hj => (R9_ok 1 j hj).ok) c3
  rw [show tyG ts (ts.length + 1) = R9 ts 1 from rfl] at w4
  obtain ⟨⟨⟨ux, ul⟩, i4, e4⟩, h4⟩ : ∃ r, OT (R9 ts 1) (i3, e3) = r := ⟨_, rfl⟩
  rw [h4] at w4 c4
  dsimp only at w4 c4
  have w5 := below_tot ts (i4, e4) 90 (Blk9 ts) (fun h0 => sblock_yes ts hl i4 (c4 h0).2)
  have c5 := ot_c (ts := ts) (G := R9 ts 2) (p := (i4, e4)) (fun j hj => (R9_ok 2 j hj).ok) c4
  rw [show Blk9 ts = R9 ts 2 from rfl] at w5
  obtain ⟨⟨⟨bx, bl⟩, i5, e5⟩, h5⟩ : ∃ r, OT (R9 ts 2) (i4, e4) = r := ⟨_, rfl⟩
  rw [h5] at w5 c5
  dsimp only at w5 c5
  have n := node_tot ts (by omega) (i5, e5) a ⟨33, N, xs, 0, 0⟩ [.mk tx tl, .mk ux ul, .mk bx bl] (fun hh => by have := c5 hh; dsimp only; omega)
  rw [ft_nam, h1, ft_sub (R9_no 4) (fun hh => (c1 hh).2), h2, ft_sgn, h3, ft_sub (R9_no 1) (fun hh => (c3 hh).2), h4, ft_sub (R9_no 2) (fun hh => (c4 hh).2), h5, ft_end]
  simp only [List.nil_append, List.cons_append]
  dsimp only at n ⊢
  obtain ⟨⟨⟨nx, nl⟩, nj, ne⟩, hn⟩ : ∃ r, NT ts a 33 N xs [.mk tx tl, .mk ux ul, .mk bx bl] (i5, e5) = r := ⟨_, rfl⟩
  rw [hn] at n ⊢
  clear hn h1 h3 h4 h5 c2 c3 c4 c5 main
  rw [show R9 ts 4 = parG ts from rfl] at h2
  by_cases he : e1 = 0; rotate_left
  · rw [par_e ts i1 e1 he] at h2
    unfold z0 at h2
    simp only [Prod.mk.injEq, Tr.mk.injEq] at h2
    obtain ⟨⟨rfl, rfl⟩, rfl, rfl⟩ := h2
    have q1 := want_no ts i1 e1 sParO (by decide) (.inl he)
    have q2 := take_no ts i1 e1 sParS (by decide) (.inl he)
    have q3 := listP_err ts hl i1 e1 he
    have q4 := want_no ts i1 e1 sParS (by decide) (.inl he)
    have q5 := node_no ts i1 e1 he i1 (.mk ⟨35, 0, ⟨#[]⟩, 0, 0⟩ [z0])
    rw [show er e1 = e1 from if_neg he] at q1 q4
    unfold z0 at q5
    clear c1 he
    refine row_of Tryz.func44 rfl rfl (Nat.le_of_ble_eq_true rfl) ?_
    repeat' (first | refine aw_seq ?_ | refine aw_skip ?_ | refine aw_block ?_ | refine aw_exit ?_ | refine aw_cond rfl (fun _ => ?_) (fun hb => absurd hb (by decide)) | refine aw_cond rfl (fun hb => absurd hb (by decide)) (fun _ => ?_) | (refine aw_reg (fun K hK => ?_); simp -implicitDefEqProofs [z0]) | (refine aw_drw mixd (fun K hK => ?_); simp -implicitDefEqProofs [z0]) | refine hK _ ?_ | refine hK _ _ (by rfl) ?_ | (refine ar_call (cb w1 0 ?_); simp -implicitDefEqProofs [z0]) | (refine ard_call (db w1 0 ?_); simp -implicitDefEqProofs [z0]) | (refine ar_call (cb pl 0 ?_); simp -implicitDefEqProofs [z0]) | (refine ard_call (db pl 0 ?_); simp -implicitDefEqProofs [z0]) | (refine ar_call (cb q1 0 ?_); simp -implicitDefEqProofs [z0]) | (refine ard_call (db q1 0 ?_); simp -implicitDefEqProofs [z0]) | (refine ar_call (cb q2 0 ?_); simp -implicitDefEqProofs [z0]) | (refine ard_call (db q2 0 ?_); simp -implicitDefEqProofs [z0]) | (refine ar_call (cb q3 0 ?_); simp -implicitDefEqProofs [z0]) | (refine ard_call (db q3 0 ?_); simp -implicitDefEqProofs [z0]) | (refine ar_call (cb q4 0 ?_); simp -implicitDefEqProofs [z0]) | (refine ard_call (db q4 0 ?_); simp -implicitDefEqProofs [z0]) | (refine ar_call (cb q5 0 ?_); simp -implicitDefEqProofs [z0]) | (refine ard_call (db q5 0 ?_); simp -implicitDefEqProofs [z0]) | (refine ar_call (cb w3 0 ?_); simp -implicitDefEqProofs [z0]) | (refine ard_call (db w3 0 ?_); simp -implicitDefEqProofs [z0]) | (refine ar_call (cb w4 0 ?_); simp -implicitDefEqProofs [z0]) | (refine ard_call (db w4 0 ?_); simp -implicitDefEqProofs [z0]) | (refine ar_call (cb w5 0 ?_); simp -implicitDefEqProofs [z0]) | (refine ard_call (db w5 0 ?_); simp -implicitDefEqProofs [z0]) | (refine ar_call (cb n 0 ?_); simp -implicitDefEqProofs [z0]) | (refine ard_call (db n 0 ?_); simp -implicitDefEqProofs [z0]) | fail)
    refine aw_ret (fin_box ?_); simp -implicitDefEqProofs [FinB, resV, resT] <;> try rfl
  subst he
  have c1 := c1 rfl
  rw [show OT (parG ts) (i1, 0) = parG ts i1 from if_pos rfl] at h2
  unfold parG cloG at h2
  by_cases k1 : isK sParO (nxt ts i1) = true; rotate_left
  · have k1 : isK sParO (nxt ts i1) = false := by simpa using k1
    rw [if_pos k1] at h2
    unfold finC at h2
    rw [if_pos (by simp)] at h2
    unfold z0 at h2
    simp only [Prod.mk.injEq, Tr.mk.injEq] at h2
    obtain ⟨⟨rfl, rfl⟩, rfl, rfl⟩ := h2
    have q1 := want_no ts i1 0 sParO (by decide) (.inr k1)
    have q2 := take_no ts i1 6 sParS (by decide) (.inl (by decide))
    have q3 := listP_err ts hl i1 6 (by decide)
    have q4 := want_no ts i1 6 sParS (by decide) (.inl (by decide))
    have q5 := node_no ts i1 6 (by decide) i1 (.mk ⟨35, 0, ⟨#[]⟩, 0, 0⟩ [z0])
    rw [show er 0 = 6 from rfl] at q1
    rw [show er 6 = 6 from rfl] at q4
    unfold z0 at q5
    clear c1 k1
    refine row_of Tryz.func44 rfl rfl (Nat.le_of_ble_eq_true rfl) ?_
    repeat' (first | refine aw_seq ?_ | refine aw_skip ?_ | refine aw_block ?_ | refine aw_exit ?_ | refine aw_cond rfl (fun _ => ?_) (fun hb => absurd hb (by decide)) | refine aw_cond rfl (fun hb => absurd hb (by decide)) (fun _ => ?_) | (refine aw_reg (fun K hK => ?_); simp -implicitDefEqProofs [z0]) | (refine aw_drw mixd (fun K hK => ?_); simp -implicitDefEqProofs [z0]) | refine hK _ ?_ | refine hK _ _ (by rfl) ?_ | (refine ar_call (cb w1 0 ?_); simp -implicitDefEqProofs [z0]) | (refine ard_call (db w1 0 ?_); simp -implicitDefEqProofs [z0]) | (refine ar_call (cb pl 0 ?_); simp -implicitDefEqProofs [z0]) | (refine ard_call (db pl 0 ?_); simp -implicitDefEqProofs [z0]) | (refine ar_call (cb q1 0 ?_); simp -implicitDefEqProofs [z0]) | (refine ard_call (db q1 0 ?_); simp -implicitDefEqProofs [z0]) | (refine ar_call (cb q2 0 ?_); simp -implicitDefEqProofs [z0]) | (refine ard_call (db q2 0 ?_); simp -implicitDefEqProofs [z0]) | (refine ar_call (cb q3 0 ?_); simp -implicitDefEqProofs [z0]) | (refine ard_call (db q3 0 ?_); simp -implicitDefEqProofs [z0]) | (refine ar_call (cb q4 0 ?_); simp -implicitDefEqProofs [z0]) | (refine ard_call (db q4 0 ?_); simp -implicitDefEqProofs [z0]) | (refine ar_call (cb q5 0 ?_); simp -implicitDefEqProofs [z0]) | (refine ard_call (db q5 0 ?_); simp -implicitDefEqProofs [z0]) | (refine ar_call (cb w3 0 ?_); simp -implicitDefEqProofs [z0]) | (refine ard_call (db w3 0 ?_); simp -implicitDefEqProofs [z0]) | (refine ar_call (cb w4 0 ?_); simp -implicitDefEqProofs [z0]) | (refine ard_call (db w4 0 ?_); simp -implicitDefEqProofs [z0]) | (refine ar_call (cb w5 0 ?_); simp -implicitDefEqProofs [z0]) | (refine ard_call (db w5 0 ?_); simp -implicitDefEqProofs [z0]) | (refine ar_call (cb n 0 ?_); simp -implicitDefEqProofs [z0]) | (refine ard_call (db n 0 ?_); simp -implicitDefEqProofs [z0]) | fail)
    refine aw_ret (fin_box ?_); simp -implicitDefEqProofs [FinB, resV, resT] <;> try rfl
  have hlt := isK_lt k1
  rw [if_neg (by simp [k1])] at h2
  have q1 := want_yes ts i1 sParO (by decide) (by omega) k1
  by_cases k2 : isK sParS (nxt ts (i1 + 1)) = true
  · rw [if_pos ⟨rfl, k2⟩] at h2
    have hlt2 := isK_lt k2
    have q2 := take_yes ts (i1 + 1) sParS (by decide) (by omega) k2
    have q5 := node_yes ts (i1 + 1 + 1) i1 ⟨35, 0, ⟨#[]⟩, 0, 0⟩ [] hlt (by omega) hlt2 (by omega)
    unfold finC mk7 at h2
    rw [if_neg (by simp), show i1 + 2 = i1 + 1 + 1 from rfl] at h2
    simp only [Prod.mk.injEq, Tr.mk.injEq] at h2
    obtain ⟨⟨rfl, rfl⟩, rfl, rfl⟩ := h2
    clear c1 k1 k2
    refine row_of Tryz.func44 rfl rfl (Nat.le_of_ble_eq_true rfl) ?_
    repeat' (first | refine aw_seq ?_ | refine aw_skip ?_ | refine aw_block ?_ | refine aw_exit ?_ | refine aw_cond rfl (fun _ => ?_) (fun hb => absurd hb (by decide)) | refine aw_cond rfl (fun hb => absurd hb (by decide)) (fun _ => ?_) | (refine aw_reg (fun K hK => ?_); simp -implicitDefEqProofs) | (refine aw_drw mixd (fun K hK => ?_); simp -implicitDefEqProofs) | refine hK _ ?_ | refine hK _ _ (by rfl) ?_ | (refine ar_call (cb w1 0 ?_); simp -implicitDefEqProofs) | (refine ard_call (db w1 0 ?_); simp -implicitDefEqProofs) | (refine ar_call (cb pl 0 ?_); simp -implicitDefEqProofs) | (refine ard_call (db pl 0 ?_); simp -implicitDefEqProofs) | (refine ar_call (cb q1 0 ?_); simp -implicitDefEqProofs) | (refine ard_call (db q1 0 ?_); simp -implicitDefEqProofs) | (refine ar_call (cb q2 0 ?_); simp -implicitDefEqProofs) | (refine ard_call (db q2 0 ?_); simp -implicitDefEqProofs) | (refine ar_call (cb q5 0 ?_); simp -implicitDefEqProofs) | (refine ard_call (db q5 0 ?_); simp -implicitDefEqProofs) | (refine ar_call (cb w3 0 ?_); simp -implicitDefEqProofs) | (refine ard_call (db w3 0 ?_); simp -implicitDefEqProofs) | (refine ar_call (cb w4 0 ?_); simp -implicitDefEqProofs) | (refine ard_call (db w4 0 ?_); simp -implicitDefEqProofs) | (refine ar_call (cb w5 0 ?_); simp -implicitDefEqProofs) | (refine ard_call (db w5 0 ?_); simp -implicitDefEqProofs) | (refine ar_call (cb n 0 ?_); simp -implicitDefEqProofs) | (refine ard_call (db n 0 ?_); simp -implicitDefEqProofs) | fail)
    refine aw_ret (fin_box ?_); simp -implicitDefEqProofs [FinB, resV, resT] <;> try rfl
  have k2 : isK sParS (nxt ts (i1 + 1)) = false := by simpa using k2
  rw [if_neg (by simp [k2])] at h2
  have q2 := take_no ts (i1 + 1) 0 sParS (by decide) (.inr k2)
  have q3 := listP_row ts hl (i1 + 1) hlt
  have hls := lsG_eq ts (fun j => (partG ts j).1) (partG ts) part_ok (ts.length + 1) (i1 + 1) [] hlt (fun _ _ _ _ => rfl)
  have hok := lpC_ok (part_ok (ts := ts)) (ts.length + 1) (i1 + 1) [] hlt
  obtain ⟨L, hL⟩ : ∃ L, lsG ts (fun j => (partG ts j).1) (partG ts) (ts.length + 1) (i1 + 1) [] = L := ⟨_, rfl⟩
  obtain ⟨⟨d1, d2, d3⟩, hD⟩ : ∃ C, lpC ts (partG ts) (ts.length + 1) (i1 + 1) [] = C := ⟨_, rfl⟩
  rw [hD] at h2 q3 hls hok
  rw [hL] at q3 hls
  dsimp only at h2 q3 hls
  have hle := hok.le
  dsimp only at hle
  by_cases h3 : d3 = 0; rotate_left
  · rw [if_pos h3] at h2
    unfold finC at h2
    rw [if_pos h3] at h2
    unfold z0 at h2
    simp only [Prod.mk.injEq, Tr.mk.injEq] at h2
    obtain ⟨⟨rfl, rfl⟩, rfl, rfl⟩ := h2
    have q4 := want_no ts d2 d3 sParS (by decide) (.inl h3)
    have q5 := node_no ts d2 d3 h3 i1 (.mk ⟨35, 0, ⟨#[]⟩, 0, 0⟩ L)
    rw [show er d3 = d3 from if_neg h3] at q4
    unfold z0 at q5
    clear c1 k1 k2 hls hok hL hD
    refine row_of Tryz.func44 rfl rfl (Nat.le_of_ble_eq_true rfl) ?_
    repeat' (first | refine aw_seq ?_ | refine aw_skip ?_ | refine aw_block ?_ | refine aw_exit ?_ | refine aw_cond rfl (fun _ => ?_) (fun hb => absurd hb (by decide)) | refine aw_cond rfl (fun hb => absurd hb (by decide)) (fun _ => ?_) | (refine aw_reg (fun K hK => ?_); simp -implicitDefEqProofs) | (refine aw_drw mixd (fun K hK => ?_); simp -implicitDefEqProofs) | refine hK _ ?_ | refine hK _ _ (by rfl) ?_ | (refine ar_call (cb w1 0 ?_); simp -implicitDefEqProofs) | (refine ard_call (db w1 0 ?_); simp -implicitDefEqProofs) | (refine ar_call (cb pl 0 ?_); simp -implicitDefEqProofs) | (refine ard_call (db pl 0 ?_); simp -implicitDefEqProofs) | (refine ar_call (cb q1 0 ?_); simp -implicitDefEqProofs) | (refine ard_call (db q1 0 ?_); simp -implicitDefEqProofs) | (refine ar_call (cb q2 0 ?_); simp -implicitDefEqProofs) | (refine ard_call (db q2 0 ?_); simp -implicitDefEqProofs) | (refine ar_call (cb q3 0 ?_); simp -implicitDefEqProofs) | (refine ard_call (db q3 0 ?_); simp -implicitDefEqProofs) | (refine ar_call (cb q4 0 ?_); simp -implicitDefEqProofs) | (refine ard_call (db q4 0 ?_); simp -implicitDefEqProofs) | (refine ar_call (cb q5 0 ?_); simp -implicitDefEqProofs) | (refine ard_call (db q5 0 ?_); simp -implicitDefEqProofs) | (refine ar_call (cb w3 0 ?_); simp -implicitDefEqProofs) | (refine ard_call (db w3 0 ?_); simp -implicitDefEqProofs) | (refine ar_call (cb w4 0 ?_); simp -implicitDefEqProofs) | (refine ard_call (db w4 0 ?_); simp -implicitDefEqProofs) | (refine ar_call (cb w5 0 ?_); simp -implicitDefEqProofs) | (refine ard_call (db w5 0 ?_); simp -implicitDefEqProofs) | (refine ar_call (cb n 0 ?_); simp -implicitDefEqProofs) | (refine ard_call (db n 0 ?_); simp -implicitDefEqProofs) | fail)
    refine aw_ret (fin_box ?_); simp -implicitDefEqProofs [FinB, resV, resT] <;> try rfl
  subst h3
  have hls := hls rfl
  subst hls
  rw [if_neg (by simp)] at h2
  by_cases k3 : isK sParS (nxt ts d2) = true; rotate_left
  · have k3 : isK sParS (nxt ts d2) = false := by simpa using k3
    rw [if_pos k3] at h2
    unfold finC at h2
    rw [if_pos (by simp)] at h2
    unfold z0 at h2
    simp only [Prod.mk.injEq, Tr.mk.injEq] at h2
    obtain ⟨⟨rfl, rfl⟩, rfl, rfl⟩ := h2
    have q4 := want_no ts d2 0 sParS (by decide) (.inr k3)
    have q5 := node_no ts d2 6 (by decide) i1 (.mk ⟨35, 0, ⟨#[]⟩, 0, 0⟩ L)
    rw [show er 0 = 6 from rfl] at q4
    unfold z0 at q5
    clear c1 k1 k2 k3 hok hL hD
    refine row_of Tryz.func44 rfl rfl (Nat.le_of_ble_eq_true rfl) ?_
    repeat' (first | refine aw_seq ?_ | refine aw_skip ?_ | refine aw_block ?_ | refine aw_exit ?_ | refine aw_cond rfl (fun _ => ?_) (fun hb => absurd hb (by decide)) | refine aw_cond rfl (fun hb => absurd hb (by decide)) (fun _ => ?_) | (refine aw_reg (fun K hK => ?_); simp -implicitDefEqProofs) | (refine aw_drw mixd (fun K hK => ?_); simp -implicitDefEqProofs) | refine hK _ ?_ | refine hK _ _ (by rfl) ?_ | (refine ar_call (cb w1 0 ?_); simp -implicitDefEqProofs) | (refine ard_call (db w1 0 ?_); simp -implicitDefEqProofs) | (refine ar_call (cb pl 0 ?_); simp -implicitDefEqProofs) | (refine ard_call (db pl 0 ?_); simp -implicitDefEqProofs) | (refine ar_call (cb q1 0 ?_); simp -implicitDefEqProofs) | (refine ard_call (db q1 0 ?_); simp -implicitDefEqProofs) | (refine ar_call (cb q2 0 ?_); simp -implicitDefEqProofs) | (refine ard_call (db q2 0 ?_); simp -implicitDefEqProofs) | (refine ar_call (cb q3 0 ?_); simp -implicitDefEqProofs) | (refine ard_call (db q3 0 ?_); simp -implicitDefEqProofs) | (refine ar_call (cb q4 0 ?_); simp -implicitDefEqProofs) | (refine ard_call (db q4 0 ?_); simp -implicitDefEqProofs) | (refine ar_call (cb q5 0 ?_); simp -implicitDefEqProofs) | (refine ard_call (db q5 0 ?_); simp -implicitDefEqProofs) | (refine ar_call (cb w3 0 ?_); simp -implicitDefEqProofs) | (refine ard_call (db w3 0 ?_); simp -implicitDefEqProofs) | (refine ar_call (cb w4 0 ?_); simp -implicitDefEqProofs) | (refine ard_call (db w4 0 ?_); simp -implicitDefEqProofs) | (refine ar_call (cb w5 0 ?_); simp -implicitDefEqProofs) | (refine ard_call (db w5 0 ?_); simp -implicitDefEqProofs) | (refine ar_call (cb n 0 ?_); simp -implicitDefEqProofs) | (refine ard_call (db n 0 ?_); simp -implicitDefEqProofs) | fail)
    refine aw_ret (fin_box ?_); simp -implicitDefEqProofs [FinB, resV, resT] <;> try rfl
  rw [if_neg (by simp [k3])] at h2
  have hlt3 := isK_lt k3
  have q4 := want_yes ts d2 sParS (by decide) (by omega) k3
  have q5 := node_yes ts (d2 + 1) i1 ⟨35, 0, ⟨#[]⟩, 0, 0⟩ L hlt (by omega) hlt3 (by omega)
  unfold finC mk7 at h2
  rw [if_neg (by simp)] at h2
  simp only [Prod.mk.injEq, Tr.mk.injEq] at h2
  obtain ⟨⟨rfl, rfl⟩, rfl, rfl⟩ := h2
  clear c1 k1 k2 k3 hok hL hD
  refine row_of Tryz.func44 rfl rfl (Nat.le_of_ble_eq_true rfl) ?_
  repeat' (first | refine aw_seq ?_ | refine aw_skip ?_ | refine aw_block ?_ | refine aw_exit ?_ | refine aw_cond rfl (fun _ => ?_) (fun hb => absurd hb (by decide)) | refine aw_cond rfl (fun hb => absurd hb (by decide)) (fun _ => ?_) | (refine aw_reg (fun K hK => ?_); simp -implicitDefEqProofs) | (refine aw_drw mixd (fun K hK => ?_); simp -implicitDefEqProofs) | refine hK _ ?_ | refine hK _ _ (by rfl) ?_ | (refine ar_call (cb w1 0 ?_); simp -implicitDefEqProofs) | (refine ard_call (db w1 0 ?_); simp -implicitDefEqProofs) | (refine ar_call (cb pl 0 ?_); simp -implicitDefEqProofs) | (refine ard_call (db pl 0 ?_); simp -implicitDefEqProofs) | (refine ar_call (cb q1 0 ?_); simp -implicitDefEqProofs) | (refine ard_call (db q1 0 ?_); simp -implicitDefEqProofs) | (refine ar_call (cb q2 0 ?_); simp -implicitDefEqProofs) | (refine ard_call (db q2 0 ?_); simp -implicitDefEqProofs) | (refine ar_call (cb q3 0 ?_); simp -implicitDefEqProofs) | (refine ard_call (db q3 0 ?_); simp -implicitDefEqProofs) | (refine ar_call (cb q4 0 ?_); simp -implicitDefEqProofs) | (refine ard_call (db q4 0 ?_); simp -implicitDefEqProofs) | (refine ar_call (cb q5 0 ?_); simp -implicitDefEqProofs) | (refine ard_call (db q5 0 ?_); simp -implicitDefEqProofs) | (refine ar_call (cb w3 0 ?_); simp -implicitDefEqProofs) | (refine ard_call (db w3 0 ?_); simp -implicitDefEqProofs) | (refine ar_call (cb w4 0 ?_); simp -implicitDefEqProofs) | (refine ard_call (db w4 0 ?_); simp -implicitDefEqProofs) | (refine ar_call (cb w5 0 ?_); simp -implicitDefEqProofs) | (refine ard_call (db w5 0 ?_); simp -implicitDefEqProofs) | (refine ar_call (cb n 0 ?_); simp -implicitDefEqProofs) | (refine ard_call (db n 0 ?_); simp -implicitDefEqProofs) | fail)
  refine aw_ret (fin_box ?_); simp -implicitDefEqProofs [FinB, resV, resT] <;> try rfl
theorem take_at (i : Nat) {s : ByteArray} (hs : s.size ≤ 1000) (h : isK s (nxt ts i) = true) : Row Tryz.prog 38 [vR, vS s] [rd ts i 0] (vB true) [some (rd ts (i + 1) 0)] := take_yes ts i s hs (by omega) h
omit hl in
theorem notake_at (i : Nat) {s : ByteArray} (hs : s.size ≤ 1000) (h : isK s (nxt ts i) = false) : Row Tryz.prog 38 [vR, vS s] [rd ts i 0] (vB false) [some (rd ts i 0)] := take_no ts i 0 s hs (.inr h)
set_option maxRecDepth 100000 in
set_option maxHeartbeats 4000000 in
theorem decl9_row (i : Nat) (hi : i ≤ ts.length) : Row Tryz.prog 22 [vR] [rd ts i 0] (vT (declG ts i).1) [some (rd ts (declG ts i).2.1 (declG ts i).2.2)] := by
  have p0 := place_row ts i 0
  unfold declG
  by_cases h1 : isK wConst (nxt ts i) = true
  · rw [if_pos h1]
    have hlt := isK_lt h1
    have t1 := notake_at ts i (s := wRec) (by decide) (isK_no h1 (by decide))
    have t2 := take_at ts hl i (s := wConst) (by decide) h1
    have d := define9_row ts hl (i + 1, 0) i (fun _ => ⟨Nat.le_refl _, hlt⟩)
    rw [ft_start, ft_sgn, show WT ts wConst (i, 0) = (i + 1, 0) by unfold WT; simp [h1]]
    obtain ⟨⟨⟨nx, nl⟩, nj, ne⟩, hn⟩ : ∃ r, FT ts (R9 ts) i 31 0 [.nam, .sgn sIs, .sub 3, .sgn sEnd] (i + 1, 0) ⟨#[]⟩ [] = r := ⟨_, rfl⟩
    rw [hn] at d ⊢
    clear hn h1
    refine row_of Tryz.func22 rfl rfl (Nat.le_of_ble_eq_true rfl) ?_
    repeat' (first | refine aw_seq ?_ | refine aw_skip ?_ | refine aw_block ?_ | refine aw_exit ?_ | refine aw_cond rfl (fun _ => ?_) (fun hb => absurd hb (by decide)) | refine aw_cond rfl (fun hb => absurd hb (by decide)) (fun _ => ?_) | (refine aw_reg (fun K hK => ?_); simp -implicitDefEqProofs) | (refine aw_drw mixd (fun K hK => ?_); simp -implicitDefEqProofs) | refine hK _ ?_ | refine hK _ _ (by rfl) ?_ | (refine ar_call (cb p0 0 ?_); simp -implicitDefEqProofs) | (refine ard_call (db p0 0 ?_); simp -implicitDefEqProofs) | (refine ar_call (cb t1 0 ?_); simp -implicitDefEqProofs) | (refine ard_call (db t1 0 ?_); simp -implicitDefEqProofs) | (refine ar_call (cb t2 0 ?_); simp -implicitDefEqProofs) | (refine ard_call (db t2 0 ?_); simp -implicitDefEqProofs) | (refine ar_call (cb d 0 ?_); simp -implicitDefEqProofs) | (refine ard_call (db d 0 ?_); simp -implicitDefEqProofs) | fail)
    refine aw_ret (fin_box ?_); simp -implicitDefEqProofs [FinB, resV, resT] <;> try rfl
  rw [if_neg h1]
  by_cases h2 : isK wVar (nxt ts i) = true
  · rw [if_pos h2]
    have hlt := isK_lt h2
    have t1 := notake_at ts i (s := wRec) (by decide) (isK_no h2 (by decide))
    have t2 := notake_at ts i (s := wConst) (by decide) (isK_no h2 (by decide))
    have t3 := take_at ts hl i (s := wVar) (by decide) h2
    have d := part9_row ts hl (i + 1, 0) (fun _ => hlt)
    have c := ot_c (ts := ts) (a := i + 1) (G := partG ts) (p := (i + 1, 0)) part_ok (fun _ => ⟨Nat.le_refl _, hlt⟩)
    rw [var_eq i hlt h2]
    obtain ⟨⟨⟨tx, tl⟩, i1, e1⟩, hp⟩ : ∃ r, OT (partG ts) (i + 1, 0) = r := ⟨_, rfl⟩
    rw [hp] at d c ⊢
    dsimp only [Tr.lab, Tr.kids] at d c ⊢
    have w := want_tot ts (by omega) (i1, e1) sEnd (by decide)
    have c2 := wt_c (ts := ts) (s := sEnd) (p := (i1, e1)) c
    obtain ⟨⟨i2, e2⟩, hw⟩ : ∃ p, WT ts sEnd (i1, e1) = p := ⟨_, rfl⟩
    rw [hw] at w c2 ⊢
    dsimp only at w c2
    have n := node_tot ts (by omega) (i2, e2) i ⟨32, 0, tx.s, 0, 0⟩ tl (fun hh => by have := c2 hh; dsimp only; omega)
    dsimp only at n
    obtain ⟨⟨⟨nx, nl⟩, nj, ne⟩, hn⟩ : ∃ r, NT ts i 32 0 tx.s tl (i2, e2) = r := ⟨_, rfl⟩
    rw [hn] at n ⊢
    clear hn h1 h2 hp hw c c2
    refine row_of Tryz.func22 rfl rfl (Nat.le_of_ble_eq_true rfl) ?_
    repeat' (first | refine aw_seq ?_ | refine aw_skip ?_ | refine aw_block ?_ | refine aw_exit ?_ | refine aw_cond rfl (fun _ => ?_) (fun hb => absurd hb (by decide)) | refine aw_cond rfl (fun hb => absurd hb (by decide)) (fun _ => ?_) | (refine aw_reg (fun K hK => ?_); simp -implicitDefEqProofs) | (refine aw_drw mixd (fun K hK => ?_); simp -implicitDefEqProofs) | refine hK _ ?_ | refine hK _ _ (by rfl) ?_ | (refine ar_call (cb p0 0 ?_); simp -implicitDefEqProofs) | (refine ard_call (db p0 0 ?_); simp -implicitDefEqProofs) | (refine ar_call (cb t1 0 ?_); simp -implicitDefEqProofs) | (refine ard_call (db t1 0 ?_); simp -implicitDefEqProofs) | (refine ar_call (cb t2 0 ?_); simp -implicitDefEqProofs) | (refine ard_call (db t2 0 ?_); simp -implicitDefEqProofs) | (refine ar_call (cb t3 0 ?_); simp -implicitDefEqProofs) | (refine ard_call (db t3 0 ?_); simp -implicitDefEqProofs) | (refine ar_call (cb d 0 ?_); simp -implicitDefEqProofs) | (refine ard_call (db d 0 ?_); simp -implicitDefEqProofs) | (refine ar_call (cb w 0 ?_); simp -implicitDefEqProofs) | (refine ard_call (db w 0 ?_); simp -implicitDefEqProofs) | (refine ar_call (cb n 0 ?_); simp -implicitDefEqProofs) | (refine ard_call (db n 0 ?_); simp -implicitDefEqProofs) | fail)
    refine aw_ret (fin_box ?_); simp -implicitDefEqProofs [FinB, resV, resT] <;> try rfl
  rw [if_neg h2]
  by_cases h3 : isK wPub (nxt ts i) = true
  · rw [if_pos h3]
    have hlt := isK_lt h3
    have t1 := notake_at ts i (s := wRec) (by decide) (isK_no h3 (by decide))
    have t2 := notake_at ts i (s := wConst) (by decide) (isK_no h3 (by decide))
    have t3 := notake_at ts i (s := wVar) (by decide) (isK_no h3 (by decide))
    have t4 := take_at ts hl i (s := wPub) (by decide) h3
    have w := want_tot ts (by omega) (i + 1, 0) wFn (by decide)
    have c := wt_c (ts := ts) (a := i + 1) (s := wFn) (p := (i + 1, 0)) (fun _ => ⟨Nat.le_refl _, hlt⟩)
    rw [ft_start, ft_sgn, show WT ts wPub (i, 0) = (i + 1, 0) by unfold WT; simp [h3], ft_sgn]
    obtain ⟨⟨i2, e2⟩, hw⟩ : ∃ p, WT ts wFn (i + 1, 0) = p := ⟨_, rfl⟩
    rw [hw] at w c ⊢
    dsimp only at w c
    have d := function9_row ts hl (i2, e2) i 1 c
    obtain ⟨⟨⟨nx, nl⟩, nj, ne⟩, hn⟩ : ∃ r, FT ts (R9 ts) i 33 1 [.nam, .sub 4, .sgn sCol, .sub 1, .sub 2] (i2, e2) ⟨#[]⟩ [] = r := ⟨_, rfl⟩
    rw [hn] at d ⊢
    clear hn h1 h2 h3 hw c
    refine row_of Tryz.func22 rfl rfl (Nat.le_of_ble_eq_true rfl) ?_
    repeat' (first | refine aw_seq ?_ | refine aw_skip ?_ | refine aw_block ?_ | refine aw_exit ?_ | refine aw_cond rfl (fun _ => ?_) (fun hb => absurd hb (by decide)) | refine aw_cond rfl (fun hb => absurd hb (by decide)) (fun _ => ?_) | (refine aw_reg (fun K hK => ?_); simp -implicitDefEqProofs) | (refine aw_drw mixd (fun K hK => ?_); simp -implicitDefEqProofs) | refine hK _ ?_ | refine hK _ _ (by rfl) ?_ | (refine ar_call (cb p0 0 ?_); simp -implicitDefEqProofs) | (refine ard_call (db p0 0 ?_); simp -implicitDefEqProofs) | (refine ar_call (cb t1 0 ?_); simp -implicitDefEqProofs) | (refine ard_call (db t1 0 ?_); simp -implicitDefEqProofs) | (refine ar_call (cb t2 0 ?_); simp -implicitDefEqProofs) | (refine ard_call (db t2 0 ?_); simp -implicitDefEqProofs) | (refine ar_call (cb t3 0 ?_); simp -implicitDefEqProofs) | (refine ard_call (db t3 0 ?_); simp -implicitDefEqProofs) | (refine ar_call (cb t4 0 ?_); simp -implicitDefEqProofs) | (refine ard_call (db t4 0 ?_); simp -implicitDefEqProofs) | (refine ar_call (cb w 0 ?_); simp -implicitDefEqProofs) | (refine ard_call (db w 0 ?_); simp -implicitDefEqProofs) | (refine ar_call (cb d 0 ?_); simp -implicitDefEqProofs) | (refine ard_call (db d 0 ?_); simp -implicitDefEqProofs) | fail)
    refine aw_ret (fin_box ?_); simp -implicitDefEqProofs [FinB, resV, resT] <;> try rfl
  rw [if_neg h3]
  by_cases h5 : isK wRec (nxt ts i) = true
  · have h4 : ¬ isK wFn (nxt ts i) = true := by rw [isK_no h5 (by decide)]; simp
    rw [if_neg h4, if_pos h5]
    have hlt := isK_lt h5
    have t1 := take_at ts hl i (s := wRec) (by decide) h5
    have d := record9_row ts hl i hlt
    obtain ⟨⟨⟨nx, nl⟩, nj, ne⟩, hn⟩ : ∃ r, recG ts i = r := ⟨_, rfl⟩
    rw [hn] at d ⊢
    clear hn h1 h2 h3 h4 h5
    refine row_of Tryz.func22 rfl rfl (Nat.le_of_ble_eq_true rfl) ?_
    repeat' (first | refine aw_seq ?_ | refine aw_skip ?_ | refine aw_block ?_ | refine aw_exit ?_ | refine aw_cond rfl (fun _ => ?_) (fun hb => absurd hb (by decide)) | refine aw_cond rfl (fun hb => absurd hb (by decide)) (fun _ => ?_) | (refine aw_reg (fun K hK => ?_); simp -implicitDefEqProofs) | (refine aw_drw mixd (fun K hK => ?_); simp -implicitDefEqProofs) | refine hK _ ?_ | refine hK _ _ (by rfl) ?_ | (refine ar_call (cb p0 0 ?_); simp -implicitDefEqProofs) | (refine ard_call (db p0 0 ?_); simp -implicitDefEqProofs) | (refine ar_call (cb t1 0 ?_); simp -implicitDefEqProofs) | (refine ard_call (db t1 0 ?_); simp -implicitDefEqProofs) | (refine ar_call (cb d 0 ?_); simp -implicitDefEqProofs) | (refine ard_call (db d 0 ?_); simp -implicitDefEqProofs) | fail)
    refine aw_ret (fin_box ?_); simp -implicitDefEqProofs [FinB, resV, resT] <;> try rfl
  have t1 := notake_at ts i (s := wRec) (by decide) (by simpa using h5)
  have t2 := notake_at ts i (s := wConst) (by decide) (by simpa using h1)
  have t3 := notake_at ts i (s := wVar) (by decide) (by simpa using h2)
  have t4 := notake_at ts i (s := wPub) (by decide) (by simpa using h3)
  have w := want_tot ts (by omega) (i, 0) wFn (by decide)
  have hq : (if isK wFn (nxt ts i) = true then itH ts (R9 ts) i 33 0 [.sgn wFn, .nam, .sub 4, .sgn sCol, .sub 1, .sub 2] i ⟨#[]⟩ [] else if isK wRec (nxt ts i) = true then recG ts i else bad7 i) = FT ts (R9 ts) i 33 0 [.nam, .sub 4, .sgn sCol, .sub 1, .sub 2] (WT ts wFn (i, 0)) ⟨#[]⟩ [] := by
    rw [← ft_sgn, ← ft_start]
    by_cases h4 : isK wFn (nxt ts i) = true
    · rw [if_pos h4]
    · rw [if_neg h4, if_neg h5, itG_sgn, if_neg h4]
  rw [hq]
  have c : (WT ts wFn (i, 0)).2 = 0 → i + 1 ≤ (WT ts wFn (i, 0)).1 ∧ (WT ts wFn (i, 0)).1 ≤ ts.length := fun h => ⟨wt_lt h, (wt_c (ts := ts) (a := i) (s := wFn) (p := (i, 0)) (fun _ => ⟨Nat.le_refl _, hi⟩) h).2⟩
  obtain ⟨⟨i2, e2⟩, hw⟩ : ∃ p, WT ts wFn (i, 0) = p := ⟨_, rfl⟩
  rw [hw] at w c ⊢
  dsimp only at w c
  have d := function9_row ts hl (i2, e2) i 0 c
  obtain ⟨⟨⟨nx, nl⟩, nj, ne⟩, hn⟩ : ∃ r, FT ts (R9 ts) i 33 0 [.nam, .sub 4, .sgn sCol, .sub 1, .sub 2] (i2, e2) ⟨#[]⟩ [] = r := ⟨_, rfl⟩
  rw [hn] at d ⊢
  clear hn h1 h2 h3 h5 hw c hq
  refine row_of Tryz.func22 rfl rfl (Nat.le_of_ble_eq_true rfl) ?_
  repeat' (first | refine aw_seq ?_ | refine aw_skip ?_ | refine aw_block ?_ | refine aw_exit ?_ | refine aw_cond rfl (fun _ => ?_) (fun hb => absurd hb (by decide)) | refine aw_cond rfl (fun hb => absurd hb (by decide)) (fun _ => ?_) | (refine aw_reg (fun K hK => ?_); simp -implicitDefEqProofs) | (refine aw_drw mixd (fun K hK => ?_); simp -implicitDefEqProofs) | refine hK _ ?_ | refine hK _ _ (by rfl) ?_ | (refine ar_call (cb p0 0 ?_); simp -implicitDefEqProofs) | (refine ard_call (db p0 0 ?_); simp -implicitDefEqProofs) | (refine ar_call (cb t1 0 ?_); simp -implicitDefEqProofs) | (refine ard_call (db t1 0 ?_); simp -implicitDefEqProofs) | (refine ar_call (cb t2 0 ?_); simp -implicitDefEqProofs) | (refine ard_call (db t2 0 ?_); simp -implicitDefEqProofs) | (refine ar_call (cb t3 0 ?_); simp -implicitDefEqProofs) | (refine ard_call (db t3 0 ?_); simp -implicitDefEqProofs) | (refine ar_call (cb t4 0 ?_); simp -implicitDefEqProofs) | (refine ard_call (db t4 0 ?_); simp -implicitDefEqProofs) | (refine ar_call (cb w 0 ?_); simp -implicitDefEqProofs) | (refine ard_call (db w 0 ?_); simp -implicitDefEqProofs) | (refine ar_call (cb d 0 ?_); simp -implicitDefEqProofs) | (refine ard_call (db d 0 ?_); simp -implicitDefEqProofs) | fail)
  refine aw_ret (fin_box ?_); simp -implicitDefEqProofs [FinB, resV, resT] <;> try rfl
end
end Go.Proofs.YthcnligihpnfiaaGreatDoor.am
end
section
namespace Go.Proofs.YthcnligihpnfiaaGreatDoor.am
open Go.ChangeShapes Go.WideShapes Go.ChangeAt Go.RowKit
set_option linter.unusedVariables false
set_option linter.unusedSimpArgs false
def oldS (w : World) : CS := fun b _ => b < w.heap.size
section
variable {P : Program} {S : CS} {w : World}
theorem RepPs.take {vs : List Value} {l : List PV} (h : RepPs S w vs l) (n : Nat) : RepPs S w (vs.take n) (l.take n) := by
  have := (RepPs.cs (γ := fun _ => .un)).1 h
  refine (RepPs.cs (γ := fun _ => .un)).2 ?_
  rw [List.map_take]; exact RepCs.take this n
end
end Go.Proofs.YthcnligihpnfiaaGreatDoor.am
end
section
namespace Go.Proofs.YthcnligihpnfiaaGreatDoor.am
open Go.ChangeShapes Go.WideShapes Go.ChangeAt Go.RowKit
set_option linter.unusedVariables false
abbrev newS (S : CS) (w w' : World) : CS := fun b o => S b o ∨ (w.heap.size ≤ b ∧ b < w'.heap.size)
theorem Mem.below {γ : Nat → G} {S : CS} {w w' : World} {ch : List AO} (hm : Mem ⟨w, S, γ⟩ (fun x => ch[x]?) (fun x => ch.length ≤ x) γ S w) (hb : Below w.heap.size w w') :
    Mem ⟨w, S, γ⟩ (fun x => ((ch.map some)[x]?).join) (fun x => (ch.map some).length ≤ x) γ (newS S w w') w' := by
  have hj : ∀ x, ((ch.map some)[x]?).join = ch[x]? := fun x => by
    rw [List.getElem?_map]
    cases ch[x]? <;> rfl
  refine ⟨hb.os, hb.tape, hb.output, hb.size, fun b h _ => hb.block b h, fun b o h => ⟨.inl h, hb.cell (p := ⟨b, o, none⟩) (hm.inb b o h)⟩, fun b o h => h.elim .inl (fun h => .inr (.inl h.1)), fun b o h => h.elim (fun h => Nat.lt_of_lt_of_le (hm.inb b o h) hb.size) (fun h => h.2), GOn.refl _,
    fun x hx => hm.un x (by rw [List.length_map] at hx; exact hx), fun x hx => hm.off x (by rw [← hj]; exact hx), fun x o hx => ?_, hm.dist, fun x b h => ⟨Nat.lt_of_lt_of_le (hm.live x b h).1 hb.size, (hm.live x b h).2⟩⟩
  refine Obj'.on (hm.obj x o (by rw [← hj]; exact hx)) rfl (GOn.refl _) (fun _ _ h => .inl h) (fun b o h => hb.cell (p := ⟨b, o, none⟩) (hm.inb b o h)) (fun b hbk => ⟨hb.block b (hm.live x b hbk).1, fun o h => h.elim (fun h => h) (fun h => ?_)⟩)
  have := (hm.live x b hbk).1
  exact absurd h.1 (Nat.not_le.2 this)
theorem spec_of_below {P : Program} {f : FuncId} {args : List AV} {ch : List AO} {res : AV}
    (h : ∀ (γ : Nat → G) (S : CS) (w : World) (vs : List Value), Mem ⟨w, S, γ⟩ (fun x => ch[x]?) (fun x => ch.length ≤ x) γ S w → RepVs γ S w vs args →
      Calls P f vs.toArray w fun e w' => ∃ v, e = .returned v ∧ Below w.heap.size w w' ∧ RepV γ (newS S w w') w' v res) : Spec P f args ch res (ch.map some) := fun γ S w vs hm hv => by
  refine (h γ S w vs hm hv).mono ?_
  rintro e w' ⟨v, h1, h2, h3⟩
  exact ⟨v, γ, newS S w w', h1, hm.below h2, h3⟩
theorem lib_block {γ : Nat → G} {S : CS} {w : World} {x : Nat} {L : List (Nat × Array Value)} (h : Obj' γ S w x (.lib L)) {g : Nat} {cs : Array Value} (hg : (g, cs) ∈ L) (hne : 0 < cs.size) : ∃ t z, w.heap[g]? = some (.cells cs t z) := by
  have hc := fun o => (h.2 _ hg o).2
  dsimp only at hc
  have h0 := hc 0
  unfold World.cell? at hc h0
  cases hh : w.heap[g]? with
  | none => rw [hh] at h0; rw [Array.getElem?_eq_getElem hne] at h0; cases h0
  | some ob =>
    cases ob with
    | cells c t z =>
      refine ⟨t, z, ?_⟩
      have : c = cs := by
        apply Array.ext_getElem?
        intro i
        have := hc i
        rw [hh] at this
        simpa using this
      rw [this]
    | _ => rw [hh] at h0; rw [Array.getElem?_eq_getElem hne] at h0; cases h0
theorem lib_var {P : Program} {γ : Nat → G} {S : CS} {w : World} {x : Nat} {L : List (Nat × Array Value)} (h : Obj' γ S w x (.lib L)) {n : String} {g : Nat} (hn : P.globalNamed n = some g) {cs : Array Value} (hg : (g, cs) ∈ L) (hne : 0 < cs.size) : w.var? P n = some cs := by
  obtain ⟨t, z, hb⟩ := lib_block h hg hne
  unfold World.var?
  rw [hn]
  show (match w.heap[g]? with | some (.cells cs _ _) => some cs | _ => none) = _
  rw [hb]
theorem var_lib {P : Program} {w : World} {n : String} {g : Nat} (hn : P.globalNamed n = some g) {cs : Array Value} (h : w.var? P n = some cs) : ∀ o, g < w.heap.size ∧ w.cell? ⟨g, o, none⟩ = cs[o]? := by
  unfold World.var? at h
  rw [hn] at h
  have h : (match w.heap[g]? with | some (.cells cs _ _) => some cs | _ => none) = some cs := h
  intro o
  cases hh : w.heap[g]? with
  | none => rw [hh] at h; cases h
  | some ob =>
    refine ⟨(Array.getElem?_eq_some_iff.1 hh).1, ?_⟩
    cases ob with
    | cells c t z =>
      rw [hh] at h
      obtain rfl := Option.some.inj h
      unfold World.cell?
      rw [hh]
      rfl
    | _ => rw [hh] at h; cases h
theorem calls_of_lib {P : Program} {w : World} {f : FuncId} {args : List AV} {vs : List Value} {L : List (Nat × Array Value)} (h : Row P f args [.lib L] (.v (.c (.pv (.lit (.bool true))))) [some (.lib L)]) (hL : ∀ p ∈ L, ∀ o, p.1 < w.heap.size ∧ w.cell? ⟨p.1, o, none⟩ = p.2[o]?)
    (hv : RepVs (fun _ => .un) (oldS w) w vs args) : Calls P f vs.toArray w fun e w' => e = .returned (.bool true) ∧ Below w.heap.size w w' := by
  have hbk : ∀ x b, (((fun x : Nat => if x = 0 then G.lib else G.un) x).bk = some b) → False := fun x b h => by
    dsimp only at h
    by_cases hx : x = 0
    · rw [if_pos hx] at h; cases h
    · rw [if_neg hx] at h; cases h
  have hm : Mem ⟨w, oldS w, fun x => if x = 0 then .lib else .un⟩ (fun x => [AO.lib L][x]?) (fun x => [AO.lib L].length ≤ x) (fun x => if x = 0 then .lib else .un) (oldS w) w := by
    refine ⟨rfl, rfl, rfl, Nat.le_refl _, fun _ _ _ => rfl, fun _ _ h => ⟨h, rfl⟩, fun _ _ h => .inl h, fun _ _ h => h, GOn.refl _, fun x hx => ?_, fun x hx => ?_, fun x o hx => ?_, fun x y _ b h _ => hbk x b h, fun x b h => (hbk x b h).elim⟩
    · have hx : 1 ≤ x := hx
      exact if_neg (by omega)
    · left
      cases x with
      | zero => cases hx
      | succ x => rfl
    · cases x with
      | zero =>
        obtain rfl := Option.some.inj hx
        exact ⟨rfl, fun p hp o => hL p hp o⟩
      | succ x => simp at hx
  have hmono : ∀ (vs : List Value) (args : List AV), RepVs (fun _ => .un) (oldS w) w vs args → RepVs (fun x => if x = 0 then .lib else .un) (oldS w) w vs args := by
    intro vs
    induction vs with
    | nil => intro args h; cases args with
      | nil => trivial
      | cons _ _ => exact h.elim
    | cons v vs ih => intro args h; cases args with
      | nil => exact h.elim
      | cons a args => exact ⟨RepV.mono (fun _ => .inl rfl) (fun _ _ h => h) (fun _ _ _ => rfl) h.1, ih args h.2⟩
  refine (h.spec _ _ w vs hm (hmono vs args hv)).mono ?_
  rintro e w' ⟨v, γ', S', rfl, m, hr⟩
  obtain ⟨rfl, _⟩ := lit_inv hr
  exact ⟨rfl, m.os, m.tape, m.output, m.size, fun b hb => m.frame b hb (fun x h => hbk x b h)⟩
end Go.Proofs.YthcnligihpnfiaaGreatDoor.am
end
