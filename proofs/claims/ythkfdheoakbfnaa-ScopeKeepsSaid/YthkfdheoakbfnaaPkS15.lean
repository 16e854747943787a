import Derived.Test.YthkfdheoakbfnaaPkS14
section
namespace Go.Proofs.Ythkfdheoakbfnaa.am
open Go.ChangeShapes Go.WideShapes Go.ChangeAt Go.RowKit
open vt
set_option linter.unusedVariables false
set_option linter.unusedSimpArgs false
section
variable (ts : List Tok) (hl : ts.length ≤ 1000000000)
include hl
theorem ratom9 (i : Nat) (hi : i ≤ ts.length) : Row Try.prog 110 [vKs ts, vI i] [] (vG (Qx ts 8 i)) [] := (all_rows ts hl _ 8 i (by decide) (by decide) hi (Nat.lt_succ_self _)).2.2.2 rfl
omit hl in
theorem lit_atom (i : Nat) (hi : i ≤ ts.length) (h : (nxt ts i).k = 2 ∨ isK wTrue (nxt ts i) = true ∨ isK wFals (nxt ts i) = true) : Qx ts 8 i = litG ts i := by
  rw [Q_eq 8 i (by decide) (by decide) hi]
  unfold bG atoG litG
  rw [if_neg (by decide), if_neg (by decide), if_neg (by decide)]
  by_cases h1 : (nxt ts i).k = 2
  · rw [if_pos h1, if_pos h1]
  rw [if_neg h1, if_neg h1]
  by_cases h2 : isK wTrue (nxt ts i) = true
  · rw [if_pos h2, if_pos h2]
  rw [if_neg h2, if_neg h2]
  by_cases h3 : isK wFals (nxt ts i) = true
  · rw [if_pos h3, if_pos h3]
  · rcases h with h | h | h
    · exact absurd h h1
    · exact absurd h h2
    · exact absurd h h3
omit hl in
theorem short_eq (i : Nat) (k : Int) (w s : ByteArray) (r : Nat) (hw : isK w (nxt ts i) = true) : itH ts (R9 ts) i k 0 [.sgn w, .nam, .sgn s, .sub r, .sgn sEnd] i ⟨#[]⟩ [] = if (nxt ts (i + 1)).k = 1 then if isK s (nxt ts (i + 2)) = true then if (R9 ts r (i + 3)).2.2 = 0 then if isK sEnd (nxt ts (R9 ts r (i + 3)).2.1) = true then mk7 ts i ((R9 ts r (i + 3)).2.1 + 1) k 0 (nxt ts (i + 1)).s [(R9 ts r (i + 3)).1] else bad7 (R9 ts r (i + 3)).2.1 else R9 ts r (i + 3) else bad7 (i + 2) else bad7 (i + 1) := by
  rw [itG_sgn, if_pos hw, itG_nam, itG_sgn, itG_sub, itG_sgn, itH]
  rfl
set_option maxRecDepth 100000 in
set_option maxHeartbeats 4000000 in
theorem rshort_row (i : Nat) (hi : i < ts.length) (b : Bool) (hb : isK wConst (nxt ts i) = b) (hv : b = false → isK wVar (nxt ts i) = true) (k : Int) (w s : ByteArray) (r : Nat) (hk : k = if b then 31 else 32) (hw : w = if b then wConst else wVar) (hs : s = if b then sIs else sCol) (hr : r = if b then 3 else 1) : Row Try.prog 63 [vKs ts, vI i] [] (vG (itH ts (R9 ts) i k 0 [.sgn w, .nam, .sgn s, .sub r, .sgn sEnd] i ⟨#[]⟩ [])) [] := by
  have hww : isK w (nxt ts i) = true := by
    cases b
    · rw [hw]; exact hv rfl
    · rw [hw]; exact hb
  rw [short_eq ts i k w s r hww]
  have o := now_row ts (i + 1)
  have c := word_row ts i wConst
  rw [word_is q_con, hb] at c
  have w1 : IntKind.i64.wrap ((i : Nat) + 1 : Int) = (i : Nat) + 1 := i64i _ (by omega) (by omega)
  have w2 : IntKind.i64.wrap ((i : Nat) + 2 : Int) = (i : Nat) + 2 := i64i _ (by omega) (by omega)
  have w3 : IntKind.i64.wrap ((i : Nat) + 3 : Int) = (i : Nat) + 3 := i64i _ (by omega) (by omega)
  by_cases h1 : (nxt ts (i + 1)).k = 1; rotate_left
  · rw [if_neg h1]
    have bd := bad_row (i + 1)
    obtain ⟨⟨xk, xn, xs, xf, xt⟩, hx⟩ : ∃ x, nxt ts (i + 1) = x := ⟨_, rfl⟩
    rw [hx] at o h1
    dsimp only at h1
    clear hx hv hw hs hr hk hww
    refine row_of Try.func63 rfl rfl (Nat.le_of_ble_eq_true rfl) ?_
    repeat' (first | refine aw_seq ?_ | refine aw_skip ?_ | refine aw_block ?_ | refine aw_exit ?_ | refine aw_cond rfl (fun _ => ?_) (fun hb => absurd hb (by decide)) | refine aw_cond rfl (fun hb => absurd hb (by decide)) (fun _ => ?_) | (refine aw_reg (fun K hK => ?_); simp -implicitDefEqProofs [h1, w1, w2, w3]) | (refine aw_drw mixd (fun K hK => ?_); simp -implicitDefEqProofs [h1, w1, w2, w3]) | refine hK _ ?_ | refine hK _ _ (by rfl) ?_ | (refine ar_call (cp o ?_); simp -implicitDefEqProofs [h1, w1, w2, w3]) | (refine ard_call (dp o ?_); simp -implicitDefEqProofs [h1, w1, w2, w3]) | (refine ar_call (cp bd ?_); simp -implicitDefEqProofs [h1, w1, w2, w3]) | (refine ard_call (dp bd ?_); simp -implicitDefEqProofs [h1, w1, w2, w3]) | fail)
    refine aw_ret (fin_ret ?_); simp -implicitDefEqProofs [FinP, resV, resT, bad7, z0] <;> try rfl
  rw [if_pos h1]
  obtain ⟨x, hx, hxn, hxk⟩ := kind_at h1 (by decide)
  have hx' := (List.getElem?_eq_some_iff.1 hx).2
  have hlt := (List.getElem?_eq_some_iff.1 hx).1
  rw [hxn] at o ⊢
  have tn : ((i : Nat) + 1 : Int).toNat = i + 1 := by omega
  have t0 : ((0 : Int) ≤ (i : Nat) + 1) = True := eq_true (by omega)
  obtain ⟨xk, xn, xs, xf, xt⟩ := x
  dsimp only at hxk ⊢
  subst hxk
  clear h1 hxn hww
  have sg := sign_row ts (i + 2) s
  rw [sign_is (by rw [hs]; cases b <;> decide)] at sg
  by_cases h2 : isK s (nxt ts (i + 2)) = true; rotate_left
  · rw [if_neg h2]
    rw [show isK s (nxt ts (i + 2)) = false by simpa using h2] at sg
    have bd := bad_row (i + 2)
    clear h2 hv hw hr hk hb
    cases b
    · simp only [if_neg, Bool.false_eq_true, reduceIte] at hs
      subst hs
      refine row_of Try.func63 rfl rfl (Nat.le_of_ble_eq_true rfl) ?_
      repeat' (first | refine aw_seq ?_ | refine aw_skip ?_ | refine aw_block ?_ | refine aw_exit ?_ | refine aw_cond rfl (fun _ => ?_) (fun hb => absurd hb (by decide)) | refine aw_cond rfl (fun hb => absurd hb (by decide)) (fun _ => ?_) | (refine aw_reg (fun K hK => ?_); simp -implicitDefEqProofs [w1, w2, w3]) | (refine aw_drw mixd (fun K hK => ?_); simp -implicitDefEqProofs [w1, w2, w3]) | refine hK _ ?_ | refine hK _ _ (by rfl) ?_ | (refine ar_call (cp o ?_); simp -implicitDefEqProofs [w1, w2, w3]) | (refine ard_call (dp o ?_); simp -implicitDefEqProofs [w1, w2, w3]) | (refine ar_call (cp c ?_); simp -implicitDefEqProofs [w1, w2, w3]) | (refine ard_call (dp c ?_); simp -implicitDefEqProofs [w1, w2, w3]) | (refine ar_call (cp sg ?_); simp -implicitDefEqProofs [w1, w2, w3]) | (refine ard_call (dp sg ?_); simp -implicitDefEqProofs [w1, w2, w3]) | (refine ar_call (cp bd ?_); simp -implicitDefEqProofs [w1, w2, w3]) | (refine ard_call (dp bd ?_); simp -implicitDefEqProofs [w1, w2, w3]) | fail)
      refine aw_ret (fin_ret ?_); simp -implicitDefEqProofs [FinP, resV, resT, bad7, z0] <;> try rfl
    · simp only [if_pos, reduceIte] at hs
      subst hs
      refine row_of Try.func63 rfl rfl (Nat.le_of_ble_eq_true rfl) ?_
      repeat' (first | refine aw_seq ?_ | refine aw_skip ?_ | refine aw_block ?_ | refine aw_exit ?_ | refine aw_cond rfl (fun _ => ?_) (fun hb => absurd hb (by decide)) | refine aw_cond rfl (fun hb => absurd hb (by decide)) (fun _ => ?_) | (refine aw_reg (fun K hK => ?_); simp -implicitDefEqProofs [w1, w2, w3]) | (refine aw_drw mixd (fun K hK => ?_); simp -implicitDefEqProofs [w1, w2, w3]) | refine hK _ ?_ | refine hK _ _ (by rfl) ?_ | (refine ar_call (cp o ?_); simp -implicitDefEqProofs [w1, w2, w3]) | (refine ard_call (dp o ?_); simp -implicitDefEqProofs [w1, w2, w3]) | (refine ar_call (cp c ?_); simp -implicitDefEqProofs [w1, w2, w3]) | (refine ard_call (dp c ?_); simp -implicitDefEqProofs [w1, w2, w3]) | (refine ar_call (cp sg ?_); simp -implicitDefEqProofs [w1, w2, w3]) | (refine ard_call (dp sg ?_); simp -implicitDefEqProofs [w1, w2, w3]) | (refine ar_call (cp bd ?_); simp -implicitDefEqProofs [w1, w2, w3]) | (refine ard_call (dp bd ?_); simp -implicitDefEqProofs [w1, w2, w3]) | fail)
      refine aw_ret (fin_ret ?_); simp -implicitDefEqProofs [FinP, resV, resT, bad7, z0] <;> try rfl
  rw [if_pos h2]
  have hlt2 := isK_lt h2
  rw [h2] at sg
  have hko := R9_ok (ts := ts) r (i + 3) (by omega)
  cases b
  · simp only [if_neg, Bool.false_eq_true, reduceIte] at hs hr hk hw
    subst hs hr hk
    have t := rtype9 ts hl (i + 3) (by omega)
    rw [show R9 ts 1 (i + 3) = tyG ts (ts.length + 1) (i + 3) from rfl] at hko ⊢
    obtain ⟨⟨⟨tx, tl⟩, j, e⟩, hrr⟩ : ∃ r, tyG ts (ts.length + 1) (i + 3) = r := ⟨_, rfl⟩
    rw [hrr] at t hko ⊢
    dsimp only
    clear hrr h2 hv hw hb
    by_cases he : e = 0; rotate_left
    · rw [if_neg he]
      clear hko
      refine row_of Try.func63 rfl rfl (Nat.le_of_ble_eq_true rfl) ?_
      repeat' (first | refine aw_seq ?_ | refine aw_skip ?_ | refine aw_block ?_ | refine aw_exit ?_ | refine aw_cond rfl (fun _ => ?_) (fun hb => absurd hb (by decide)) | refine aw_cond rfl (fun hb => absurd hb (by decide)) (fun _ => ?_) | (refine aw_reg (fun K hK => ?_); simp -implicitDefEqProofs [w1, w2, w3, he]) | (refine aw_drw mixd (fun K hK => ?_); simp -implicitDefEqProofs [w1, w2, w3, he]) | refine hK _ ?_ | refine hK _ _ (by rfl) ?_ | (refine ar_call (cp o ?_); simp -implicitDefEqProofs [w1, w2, w3, he]) | (refine ard_call (dp o ?_); simp -implicitDefEqProofs [w1, w2, w3, he]) | (refine ar_call (cp c ?_); simp -implicitDefEqProofs [w1, w2, w3, he]) | (refine ard_call (dp c ?_); simp -implicitDefEqProofs [w1, w2, w3, he]) | (refine ar_call (cp sg ?_); simp -implicitDefEqProofs [w1, w2, w3, he]) | (refine ard_call (dp sg ?_); simp -implicitDefEqProofs [w1, w2, w3, he]) | (refine ar_call (cp t ?_); simp -implicitDefEqProofs [w1, w2, w3, he]) | (refine ard_call (dp t ?_); simp -implicitDefEqProofs [w1, w2, w3, he]) | fail)
      refine aw_ret (fin_ret ?_); simp -implicitDefEqProofs [FinP, resV, resT] <;> try rfl
    subst he
    rw [if_pos rfl]
    have hy := hko.ok.yes rfl
    dsimp only at hy
    have en := sign_row ts j sEnd
    rw [sign_is q_end] at en
    by_cases h4 : isK sEnd (nxt ts j) = true
    · rw [if_pos h4]
      have hlt4 := isK_lt h4
      rw [h4] at en
      have wj : IntKind.i64.wrap ((j : Nat) + 1 : Int) = (j : Nat) + 1 := i64i _ (by omega) (by omega)
      have m : Row Try.prog 69 [vKs ts, vI i, vI (j + 1 : Nat), vI 32, vI 0, vS xs, vLs [.mk tx tl]] [] (vG (mk7 ts i (j + 1) 32 0 xs [.mk tx tl])) [] := rmk_row ts hl i (j + 1) 32 0 xs [.mk tx tl] (by omega) (by omega)
      clear hko h4
      refine row_of Try.func63 rfl rfl (Nat.le_of_ble_eq_true rfl) ?_
      repeat' (first | refine aw_seq ?_ | refine aw_skip ?_ | refine aw_block ?_ | refine aw_exit ?_ | refine aw_cond rfl (fun _ => ?_) (fun hb => absurd hb (by decide)) | refine aw_cond rfl (fun hb => absurd hb (by decide)) (fun _ => ?_) | (refine aw_reg (fun K hK => ?_); simp -implicitDefEqProofs [w1, w2, w3, wj, hlt, hx, hx', tn, t0]) | (refine aw_drw mixd (fun K hK => ?_); simp -implicitDefEqProofs [w1, w2, w3, wj, hlt, hx, hx', tn, t0]) | refine hK _ ?_ | refine hK _ _ (by rfl) ?_ | (refine ar_call (cp o ?_); simp -implicitDefEqProofs [w1, w2, w3, wj, hlt, hx, hx', tn, t0]) | (refine ard_call (dp o ?_); simp -implicitDefEqProofs [w1, w2, w3, wj, hlt, hx, hx', tn, t0]) | (refine ar_call (cp c ?_); simp -implicitDefEqProofs [w1, w2, w3, wj, hlt, hx, hx', tn, t0]) | (refine ard_call (dp c ?_); simp -implicitDefEqProofs [w1, w2, w3, wj, hlt, hx, hx', tn, t0]) | (refine ar_call (cp sg ?_); simp -implicitDefEqProofs [w1, w2, w3, wj, hlt, hx, hx', tn, t0]) | (refine ard_call (dp sg ?_); simp -implicitDefEqProofs [w1, w2, w3, wj, hlt, hx, hx', tn, t0]) | (refine ar_call (cp t ?_); simp -implicitDefEqProofs [w1, w2, w3, wj, hlt, hx, hx', tn, t0]) | (refine ard_call (dp t ?_); simp -implicitDefEqProofs [w1, w2, w3, wj, hlt, hx, hx', tn, t0]) | (refine ar_call (cp en ?_); simp -implicitDefEqProofs [w1, w2, w3, wj, hlt, hx, hx', tn, t0]) | (refine ard_call (dp en ?_); simp -implicitDefEqProofs [w1, w2, w3, wj, hlt, hx, hx', tn, t0]) | (refine ar_call (cp m ?_); simp -implicitDefEqProofs [w1, w2, w3, wj, hlt, hx, hx', tn, t0]) | (refine ard_call (dp m ?_); simp -implicitDefEqProofs [w1, w2, w3, wj, hlt, hx, hx', tn, t0]) | fail)
      refine aw_ret (fin_ret ?_); simp -implicitDefEqProofs [FinP, resV, resT, mk7] <;> try rfl
    · rw [if_neg h4]
      rw [show isK sEnd (nxt ts j) = false by simpa using h4] at en
      have bd := bad_row j
      clear hko h4
      refine row_of Try.func63 rfl rfl (Nat.le_of_ble_eq_true rfl) ?_
      repeat' (first | refine aw_seq ?_ | refine aw_skip ?_ | refine aw_block ?_ | refine aw_exit ?_ | refine aw_cond rfl (fun _ => ?_) (fun hb => absurd hb (by decide)) | refine aw_cond rfl (fun hb => absurd hb (by decide)) (fun _ => ?_) | (refine aw_reg (fun K hK => ?_); simp -implicitDefEqProofs [w1, w2, w3]) | (refine aw_drw mixd (fun K hK => ?_); simp -implicitDefEqProofs [w1, w2, w3]) | refine hK _ ?_ | refine hK _ _ (by rfl) ?_ | (refine ar_call (cp o ?_); simp -implicitDefEqProofs [w1, w2, w3]) | (refine ard_call (dp o ?_); simp -implicitDefEqProofs [w1, w2, w3]) | (refine ar_call (cp c ?_); simp -implicitDefEqProofs [w1, w2, w3]) | (refine ard_call (dp c ?_); simp -implicitDefEqProofs [w1, w2, w3]) | (refine ar_call (cp sg ?_); simp -implicitDefEqProofs [w1, w2, w3]) | (refine ard_call (dp sg ?_); simp -implicitDefEqProofs [w1, w2, w3]) | (refine ar_call (cp t ?_); simp -implicitDefEqProofs [w1, w2, w3]) | (refine ard_call (dp t ?_); simp -implicitDefEqProofs [w1, w2, w3]) | (refine ar_call (cp en ?_); simp -implicitDefEqProofs [w1, w2, w3]) | (refine ard_call (dp en ?_); simp -implicitDefEqProofs [w1, w2, w3]) | (refine ar_call (cp bd ?_); simp -implicitDefEqProofs [w1, w2, w3]) | (refine ard_call (dp bd ?_); simp -implicitDefEqProofs [w1, w2, w3]) | fail)
      refine aw_ret (fin_ret ?_); simp -implicitDefEqProofs [FinP, resV, resT, bad7, z0] <;> try rfl
  · simp only [if_pos, reduceIte] at hs hr hk hw
    subst hs hr hk
    rw [show R9 ts 3 (i + 3) = litG ts (i + 3) from rfl] at hko ⊢
    have o3 := now_row ts (i + 3)
    have wt := word_row ts (i + 3) wTrue
    rw [word_is q_tru] at wt
    have wf := word_row ts (i + 3) wFals
    rw [word_is q_fal] at wf
    by_cases hlit : (nxt ts (i + 3)).k = 2 ∨ isK wTrue (nxt ts (i + 3)) = true ∨ isK wFals (nxt ts (i + 3)) = true; rotate_left
    · rw [not_or, not_or] at hlit
      obtain ⟨l1, l2, l3⟩ := hlit
      rw [show isK wTrue (nxt ts (i + 3)) = false by simpa using l2] at wt
      rw [show isK wFals (nxt ts (i + 3)) = false by simpa using l3] at wf
      rw [show litG ts (i + 3) = bad7 (i + 3) by unfold litG; rw [if_neg l1, if_neg l2, if_neg l3]]
      have bd := bad_row (i + 3)
      unfold bad7 z0
      rw [if_neg (by simp)]
      unfold z0 at bd
      obtain ⟨⟨yk, yn, ys, yf, yt⟩, hy⟩ : ∃ x, nxt ts (i + 3) = x := ⟨_, rfl⟩
      rw [hy] at o3 l1
      dsimp only at l1
      clear hy l2 l3 h2 hv hw hb hko
      refine row_of Try.func63 rfl rfl (Nat.le_of_ble_eq_true rfl) ?_
      repeat' (first | refine aw_seq ?_ | refine aw_skip ?_ | refine aw_block ?_ | refine aw_exit ?_ | refine aw_cond rfl (fun _ => ?_) (fun hb => absurd hb (by decide)) | refine aw_cond rfl (fun hb => absurd hb (by decide)) (fun _ => ?_) | (refine aw_reg (fun K hK => ?_); simp -implicitDefEqProofs [w1, w2, w3, l1]) | (refine aw_drw mixd (fun K hK => ?_); simp -implicitDefEqProofs [w1, w2, w3, l1]) | refine hK _ ?_ | refine hK _ _ (by rfl) ?_ | (refine ar_call (cp o ?_); simp -implicitDefEqProofs [w1, w2, w3, l1]) | (refine ard_call (dp o ?_); simp -implicitDefEqProofs [w1, w2, w3, l1]) | (refine ar_call (cp c ?_); simp -implicitDefEqProofs [w1, w2, w3, l1]) | (refine ard_call (dp c ?_); simp -implicitDefEqProofs [w1, w2, w3, l1]) | (refine ar_call (cp sg ?_); simp -implicitDefEqProofs [w1, w2, w3, l1]) | (refine ard_call (dp sg ?_); simp -implicitDefEqProofs [w1, w2, w3, l1]) | (refine ar_call (cp o3 ?_); simp -implicitDefEqProofs [w1, w2, w3, l1]) | (refine ard_call (dp o3 ?_); simp -implicitDefEqProofs [w1, w2, w3, l1]) | (refine ar_call (cp wt ?_); simp -implicitDefEqProofs [w1, w2, w3, l1]) | (refine ard_call (dp wt ?_); simp -implicitDefEqProofs [w1, w2, w3, l1]) | (refine ar_call (cp wf ?_); simp -implicitDefEqProofs [w1, w2, w3, l1]) | (refine ard_call (dp wf ?_); simp -implicitDefEqProofs [w1, w2, w3, l1]) | (refine ar_call (cp bd ?_); simp -implicitDefEqProofs [w1, w2, w3, l1]) | (refine ard_call (dp bd ?_); simp -implicitDefEqProofs [w1, w2, w3, l1]) | fail)
      refine aw_ret (fin_ret ?_); simp -implicitDefEqProofs [FinP, resV, resT] <;> try rfl
    have at3 := ratom9 ts hl (i + 3) (by omega)
    rw [lit_atom ts (i + 3) (by omega) hlit] at at3
    obtain ⟨⟨yk, yn, ys, yf, yt⟩, hy⟩ : ∃ x, nxt ts (i + 3) = x := ⟨_, rfl⟩
    have o3' := o3
    rw [hy] at o3'
    obtain ⟨bt, hbt⟩ : ∃ b, isK wTrue (nxt ts (i + 3)) = b := ⟨_, rfl⟩
    obtain ⟨bf, hbf⟩ : ∃ b, isK wFals (nxt ts (i + 3)) = b := ⟨_, rfl⟩
    rw [hbt] at wt hlit
    rw [hbf] at wf hlit
    rw [hy] at hlit
    dsimp only at hlit
    obtain ⟨⟨⟨tx, tl⟩, j, e⟩, hrr⟩ : ∃ r, litG ts (i + 3) = r := ⟨_, rfl⟩
    rw [hrr] at at3 hko ⊢
    dsimp only
    have he : e = 0 := by
      have : (litG ts (i + 3)).2.2 = 0 := by
        unfold litG
        rw [hbt, hbf, hy]
        rcases hlit with h | h | h
        · rw [if_pos h]; rfl
        · subst h; split
          · rfl
          · rfl
        · subst h; split
          · rfl
          · split <;> rfl
      rw [hrr] at this
      exact this
    subst he
    rw [if_pos rfl]
    have hyy := hko.ok.yes rfl
    dsimp only at hyy
    have en := sign_row ts j sEnd
    rw [sign_is q_end] at en
    clear o3 hy hbt hbf hrr h2 hv hw hb hko
    have run : (yk = 2) ∨ (¬ yk = 2 ∧ bt = true) ∨ (¬ yk = 2 ∧ bt = false ∧ bf = true) := by
      by_cases h5 : yk = 2
      · exact .inl h5
      · rcases hlit with h | h | h
        · exact absurd h h5
        · exact .inr (.inl ⟨h5, h⟩)
        · cases bt
          · exact .inr (.inr ⟨h5, rfl, h⟩)
          · exact .inr (.inl ⟨h5, rfl⟩)
    clear hlit
    by_cases h4 : isK sEnd (nxt ts j) = true
    · rw [if_pos h4]
      have hlt4 := isK_lt h4
      rw [h4] at en
      have wj : IntKind.i64.wrap ((j : Nat) + 1 : Int) = (j : Nat) + 1 := i64i _ (by omega) (by omega)
      have m : Row Try.prog 69 [vKs ts, vI i, vI (j + 1 : Nat), vI 31, vI 0, vS xs, vLs [.mk tx tl]] [] (vG (mk7 ts i (j + 1) 31 0 xs [.mk tx tl])) [] := rmk_row ts hl i (j + 1) 31 0 xs [.mk tx tl] (by omega) (by omega)
      clear h4
      rcases run with h5 | ⟨h5, rfl⟩ | ⟨h5, rfl, rfl⟩
      · subst h5
        refine row_of Try.func63 rfl rfl (Nat.le_of_ble_eq_true rfl) ?_
        repeat' (first | refine aw_seq ?_ | refine aw_skip ?_ | refine aw_block ?_ | refine aw_exit ?_ | refine aw_cond rfl (fun _ => ?_) (fun hb => absurd hb (by decide)) | refine aw_cond rfl (fun hb => absurd hb (by decide)) (fun _ => ?_) | (refine aw_reg (fun K hK => ?_); simp -implicitDefEqProofs [w1, w2, w3, wj, hlt, hx, hx', tn, t0]) | (refine aw_drw mixd (fun K hK => ?_); simp -implicitDefEqProofs [w1, w2, w3, wj, hlt, hx, hx', tn, t0]) | refine hK _ ?_ | refine hK _ _ (by rfl) ?_ | (refine ar_call (cp o ?_); simp -implicitDefEqProofs [w1, w2, w3, wj, hlt, hx, hx', tn, t0]) | (refine ard_call (dp o ?_); simp -implicitDefEqProofs [w1, w2, w3, wj, hlt, hx, hx', tn, t0]) | (refine ar_call (cp c ?_); simp -implicitDefEqProofs [w1, w2, w3, wj, hlt, hx, hx', tn, t0]) | (refine ard_call (dp c ?_); simp -implicitDefEqProofs [w1, w2, w3, wj, hlt, hx, hx', tn, t0]) | (refine ar_call (cp sg ?_); simp -implicitDefEqProofs [w1, w2, w3, wj, hlt, hx, hx', tn, t0]) | (refine ard_call (dp sg ?_); simp -implicitDefEqProofs [w1, w2, w3, wj, hlt, hx, hx', tn, t0]) | (refine ar_call (cp o3' ?_); simp -implicitDefEqProofs [w1, w2, w3, wj, hlt, hx, hx', tn, t0]) | (refine ard_call (dp o3' ?_); simp -implicitDefEqProofs [w1, w2, w3, wj, hlt, hx, hx', tn, t0]) | (refine ar_call (cp wt ?_); simp -implicitDefEqProofs [w1, w2, w3, wj, hlt, hx, hx', tn, t0]) | (refine ard_call (dp wt ?_); simp -implicitDefEqProofs [w1, w2, w3, wj, hlt, hx, hx', tn, t0]) | (refine ar_call (cp wf ?_); simp -implicitDefEqProofs [w1, w2, w3, wj, hlt, hx, hx', tn, t0]) | (refine ard_call (dp wf ?_); simp -implicitDefEqProofs [w1, w2, w3, wj, hlt, hx, hx', tn, t0]) | (refine ar_call (cp at3 ?_); simp -implicitDefEqProofs [w1, w2, w3, wj, hlt, hx, hx', tn, t0]) | (refine ard_call (dp at3 ?_); simp -implicitDefEqProofs [w1, w2, w3, wj, hlt, hx, hx', tn, t0]) | (refine ar_call (cp en ?_); simp -implicitDefEqProofs [w1, w2, w3, wj, hlt, hx, hx', tn, t0]) | (refine ard_call (dp en ?_); simp -implicitDefEqProofs [w1, w2, w3, wj, hlt, hx, hx', tn, t0]) | (refine ar_call (cp m ?_); simp -implicitDefEqProofs [w1, w2, w3, wj, hlt, hx, hx', tn, t0]) | (refine ard_call (dp m ?_); simp -implicitDefEqProofs [w1, w2, w3, wj, hlt, hx, hx', tn, t0]) | fail)
        refine aw_ret (fin_ret ?_); simp -implicitDefEqProofs [FinP, resV, resT, mk7] <;> try rfl
      · refine row_of Try.func63 rfl rfl (Nat.le_of_ble_eq_true rfl) ?_
        repeat' (first | refine aw_seq ?_ | refine aw_skip ?_ | refine aw_block ?_ | refine aw_exit ?_ | refine aw_cond rfl (fun _ => ?_) (fun hb => absurd hb (by decide)) | refine aw_cond rfl (fun hb => absurd hb (by decide)) (fun _ => ?_) | (refine aw_reg (fun K hK => ?_); simp -implicitDefEqProofs [w1, w2, w3, wj, hlt, hx, hx', h5, tn, t0]) | (refine aw_drw mixd (fun K hK => ?_); simp -implicitDefEqProofs [w1, w2, w3, wj, hlt, hx, hx', h5, tn, t0]) | refine hK _ ?_ | refine hK _ _ (by rfl) ?_ | (refine ar_call (cp o ?_); simp -implicitDefEqProofs [w1, w2, w3, wj, hlt, hx, hx', h5, tn, t0]) | (refine ard_call (dp o ?_); simp -implicitDefEqProofs [w1, w2, w3, wj, hlt, hx, hx', h5, tn, t0]) | (refine ar_call (cp c ?_); simp -implicitDefEqProofs [w1, w2, w3, wj, hlt, hx, hx', h5, tn, t0]) | (refine ard_call (dp c ?_); simp -implicitDefEqProofs [w1, w2, w3, wj, hlt, hx, hx', h5, tn, t0]) | (refine ar_call (cp sg ?_); simp -implicitDefEqProofs [w1, w2, w3, wj, hlt, hx, hx', h5, tn, t0]) | (refine ard_call (dp sg ?_); simp -implicitDefEqProofs [w1, w2, w3, wj, hlt, hx, hx', h5, tn, t0]) | (refine ar_call (cp o3' ?_); simp -implicitDefEqProofs [w1, w2, w3, wj, hlt, hx, hx', h5, tn, t0]) | (refine ard_call (dp o3' ?_); simp -implicitDefEqProofs [w1, w2, w3, wj, hlt, hx, hx', h5, tn, t0]) | (refine ar_call (cp wt ?_); simp -implicitDefEqProofs [w1, w2, w3, wj, hlt, hx, hx', h5, tn, t0]) | (refine ard_call (dp wt ?_); simp -implicitDefEqProofs [w1, w2, w3, wj, hlt, hx, hx', h5, tn, t0]) | (refine ar_call (cp wf ?_); simp -implicitDefEqProofs [w1, w2, w3, wj, hlt, hx, hx', h5, tn, t0]) | (refine ard_call (dp wf ?_); simp -implicitDefEqProofs [w1, w2, w3, wj, hlt, hx, hx', h5, tn, t0]) | (refine ar_call (cp at3 ?_); simp -implicitDefEqProofs [w1, w2, w3, wj, hlt, hx, hx', h5, tn, t0]) | (refine ard_call (dp at3 ?_); simp -implicitDefEqProofs [w1, w2, w3, wj, hlt, hx, hx', h5, tn, t0]) | (refine ar_call (cp en ?_); simp -implicitDefEqProofs [w1, w2, w3, wj, hlt, hx, hx', h5, tn, t0]) | (refine ard_call (dp en ?_); simp -implicitDefEqProofs [w1, w2, w3, wj, hlt, hx, hx', h5, tn, t0]) | (refine ar_call (cp m ?_); simp -implicitDefEqProofs [w1, w2, w3, wj, hlt, hx, hx', h5, tn, t0]) | (refine ard_call (dp m ?_); simp -implicitDefEqProofs [w1, w2, w3, wj, hlt, hx, hx', h5, tn, t0]) | fail)
        refine aw_ret (fin_ret ?_); simp -implicitDefEqProofs [FinP, resV, resT, mk7] <;> try rfl
      · refine row_of Try.func63 rfl rfl (Nat.le_of_ble_eq_true rfl) ?_
        repeat' (first | refine aw_seq ?_ | refine aw_skip ?_ | refine aw_block ?_ | refine aw_exit ?_ | refine aw_cond rfl (fun _ => ?_) (fun hb => absurd hb (by decide)) | refine aw_cond rfl (fun hb => absurd hb (by decide)) (fun _ => ?_) | (refine aw_reg (fun K hK => ?_); simp -implicitDefEqProofs [w1, w2, w3, wj, hlt, hx, hx', h5, tn, t0]) | (refine aw_drw mixd (fun K hK => ?_); simp -implicitDefEqProofs [w1, w2, w3, wj, hlt, hx, hx', h5, tn, t0]) | refine hK _ ?_ | refine hK _ _ (by rfl) ?_ | (refine ar_call (cp o ?_); simp -implicitDefEqProofs [w1, w2, w3, wj, hlt, hx, hx', h5, tn, t0]) | (refine ard_call (dp o ?_); simp -implicitDefEqProofs [w1, w2, w3, wj, hlt, hx, hx', h5, tn, t0]) | (refine ar_call (cp c ?_); simp -implicitDefEqProofs [w1, w2, w3, wj, hlt, hx, hx', h5, tn, t0]) | (refine ard_call (dp c ?_); simp -implicitDefEqProofs [w1, w2, w3, wj, hlt, hx, hx', h5, tn, t0]) | (refine ar_call (cp sg ?_); simp -implicitDefEqProofs [w1, w2, w3, wj, hlt, hx, hx', h5, tn, t0]) | (refine ard_call (dp sg ?_); simp -implicitDefEqProofs [w1, w2, w3, wj, hlt, hx, hx', h5, tn, t0]) | (refine ar_call (cp o3' ?_); simp -implicitDefEqProofs [w1, w2, w3, wj, hlt, hx, hx', h5, tn, t0]) | (refine ard_call (dp o3' ?_); simp -implicitDefEqProofs [w1, w2, w3, wj, hlt, hx, hx', h5, tn, t0]) | (refine ar_call (cp wt ?_); simp -implicitDefEqProofs [w1, w2, w3, wj, hlt, hx, hx', h5, tn, t0]) | (refine ard_call (dp wt ?_); simp -implicitDefEqProofs [w1, w2, w3, wj, hlt, hx, hx', h5, tn, t0]) | (refine ar_call (cp wf ?_); simp -implicitDefEqProofs [w1, w2, w3, wj, hlt, hx, hx', h5, tn, t0]) | (refine ard_call (dp wf ?_); simp -implicitDefEqProofs [w1, w2, w3, wj, hlt, hx, hx', h5, tn, t0]) | (refine ar_call (cp at3 ?_); simp -implicitDefEqProofs [w1, w2, w3, wj, hlt, hx, hx', h5, tn, t0]) | (refine ard_call (dp at3 ?_); simp -implicitDefEqProofs [w1, w2, w3, wj, hlt, hx, hx', h5, tn, t0]) | (refine ar_call (cp en ?_); simp -implicitDefEqProofs [w1, w2, w3, wj, hlt, hx, hx', h5, tn, t0]) | (refine ard_call (dp en ?_); simp -implicitDefEqProofs [w1, w2, w3, wj, hlt, hx, hx', h5, tn, t0]) | (refine ar_call (cp m ?_); simp -implicitDefEqProofs [w1, w2, w3, wj, hlt, hx, hx', h5, tn, t0]) | (refine ard_call (dp m ?_); simp -implicitDefEqProofs [w1, w2, w3, wj, hlt, hx, hx', h5, tn, t0]) | fail)
        refine aw_ret (fin_ret ?_); simp -implicitDefEqProofs [FinP, resV, resT, mk7] <;> try rfl
    · rw [if_neg h4]
      rw [show isK sEnd (nxt ts j) = false by simpa using h4] at en
      have bd := bad_row j
      clear h4
      rcases run with h5 | ⟨h5, rfl⟩ | ⟨h5, rfl, rfl⟩
      · subst h5
        refine row_of Try.func63 rfl rfl (Nat.le_of_ble_eq_true rfl) ?_
        repeat' (first | refine aw_seq ?_ | refine aw_skip ?_ | refine aw_block ?_ | refine aw_exit ?_ | refine aw_cond rfl (fun _ => ?_) (fun hb => absurd hb (by decide)) | refine aw_cond rfl (fun hb => absurd hb (by decide)) (fun _ => ?_) | (refine aw_reg (fun K hK => ?_); simp -implicitDefEqProofs [w1, w2, w3]) | (refine aw_drw mixd (fun K hK => ?_); simp -implicitDefEqProofs [w1, w2, w3]) | refine hK _ ?_ | refine hK _ _ (by rfl) ?_ | (refine ar_call (cp o ?_); simp -implicitDefEqProofs [w1, w2, w3]) | (refine ard_call (dp o ?_); simp -implicitDefEqProofs [w1, w2, w3]) | (refine ar_call (cp c ?_); simp -implicitDefEqProofs [w1, w2, w3]) | (refine ard_call (dp c ?_); simp -implicitDefEqProofs [w1, w2, w3]) | (refine ar_call (cp sg ?_); simp -implicitDefEqProofs [w1, w2, w3]) | (refine ard_call (dp sg ?_); simp -implicitDefEqProofs [w1, w2, w3]) | (refine ar_call (cp o3' ?_); simp -implicitDefEqProofs [w1, w2, w3]) | (refine ard_call (dp o3' ?_); simp -implicitDefEqProofs [w1, w2, w3]) | (refine ar_call (cp wt ?_); simp -implicitDefEqProofs [w1, w2, w3]) | (refine ard_call (dp wt ?_); simp -implicitDefEqProofs [w1, w2, w3]) | (refine ar_call (cp wf ?_); simp -implicitDefEqProofs [w1, w2, w3]) | (refine ard_call (dp wf ?_); simp -implicitDefEqProofs [w1, w2, w3]) | (refine ar_call (cp at3 ?_); simp -implicitDefEqProofs [w1, w2, w3]) | (refine ard_call (dp at3 ?_); simp -implicitDefEqProofs [w1, w2, w3]) | (refine ar_call (cp en ?_); simp -implicitDefEqProofs [w1, w2, w3]) | (refine ard_call (dp en ?_); simp -implicitDefEqProofs [w1, w2, w3]) | (refine ar_call (cp bd ?_); simp -implicitDefEqProofs [w1, w2, w3]) | (refine ard_call (dp bd ?_); simp -implicitDefEqProofs [w1, w2, w3]) | fail)
        refine aw_ret (fin_ret ?_); simp -implicitDefEqProofs [FinP, resV, resT, bad7, z0] <;> try rfl
      · refine row_of Try.func63 rfl rfl (Nat.le_of_ble_eq_true rfl) ?_
        repeat' (first | refine aw_seq ?_ | refine aw_skip ?_ | refine aw_block ?_ | refine aw_exit ?_ | refine aw_cond rfl (fun _ => ?_) (fun hb => absurd hb (by decide)) | refine aw_cond rfl (fun hb => absurd hb (by decide)) (fun _ => ?_) | (refine aw_reg (fun K hK => ?_); simp -implicitDefEqProofs [w1, w2, w3, h5]) | (refine aw_drw mixd (fun K hK => ?_); simp -implicitDefEqProofs [w1, w2, w3, h5]) | refine hK _ ?_ | refine hK _ _ (by rfl) ?_ | (refine ar_call (cp o ?_); simp -implicitDefEqProofs [w1, w2, w3, h5]) | (refine ard_call (dp o ?_); simp -implicitDefEqProofs [w1, w2, w3, h5]) | (refine ar_call (cp c ?_); simp -implicitDefEqProofs [w1, w2, w3, h5]) | (refine ard_call (dp c ?_); simp -implicitDefEqProofs [w1, w2, w3, h5]) | (refine ar_call (cp sg ?_); simp -implicitDefEqProofs [w1, w2, w3, h5]) | (refine ard_call (dp sg ?_); simp -implicitDefEqProofs [w1, w2, w3, h5]) | (refine ar_call (cp o3' ?_); simp -implicitDefEqProofs [w1, w2, w3, h5]) | (refine ard_call (dp o3' ?_); simp -implicitDefEqProofs [w1, w2, w3, h5]) | (refine ar_call (cp wt ?_); simp -implicitDefEqProofs [w1, w2, w3, h5]) | (refine ard_call (dp wt ?_); simp -implicitDefEqProofs [w1, w2, w3, h5]) | (refine ar_call (cp wf ?_); simp -implicitDefEqProofs [w1, w2, w3, h5]) | (refine ard_call (dp wf ?_); simp -implicitDefEqProofs [w1, w2, w3, h5]) | (refine ar_call (cp at3 ?_); simp -implicitDefEqProofs [w1, w2, w3, h5]) | (refine ard_call (dp at3 ?_); simp -implicitDefEqProofs [w1, w2, w3, h5]) | (refine ar_call (cp en ?_); simp -implicitDefEqProofs [w1, w2, w3, h5]) | (refine ard_call (dp en ?_); simp -implicitDefEqProofs [w1, w2, w3, h5]) | (refine ar_call (cp bd ?_); simp -implicitDefEqProofs [w1, w2, w3, h5]) | (refine ard_call (dp bd ?_); simp -implicitDefEqProofs [w1, w2, w3, h5]) | fail)
        refine aw_ret (fin_ret ?_); simp -implicitDefEqProofs [FinP, resV, resT, bad7, z0] <;> try rfl
      · refine row_of Try.func63 rfl rfl (Nat.le_of_ble_eq_true rfl) ?_
        repeat' (first | refine aw_seq ?_ | refine aw_skip ?_ | refine aw_block ?_ | refine aw_exit ?_ | refine aw_cond rfl (fun _ => ?_) (fun hb => absurd hb (by decide)) | refine aw_cond rfl (fun hb => absurd hb (by decide)) (fun _ => ?_) | (refine aw_reg (fun K hK => ?_); simp -implicitDefEqProofs [w1, w2, w3, h5]) | (refine aw_drw mixd (fun K hK => ?_); simp -implicitDefEqProofs [w1, w2, w3, h5]) | refine hK _ ?_ | refine hK _ _ (by rfl) ?_ | (refine ar_call (cp o ?_); simp -implicitDefEqProofs [w1, w2, w3, h5]) | (refine ard_call (dp o ?_); simp -implicitDefEqProofs [w1, w2, w3, h5]) | (refine ar_call (cp c ?_); simp -implicitDefEqProofs [w1, w2, w3, h5]) | (refine ard_call (dp c ?_); simp -implicitDefEqProofs [w1, w2, w3, h5]) | (refine ar_call (cp sg ?_); simp -implicitDefEqProofs [w1, w2, w3, h5]) | (refine ard_call (dp sg ?_); simp -implicitDefEqProofs [w1, w2, w3, h5]) | (refine ar_call (cp o3' ?_); simp -implicitDefEqProofs [w1, w2, w3, h5]) | (refine ard_call (dp o3' ?_); simp -implicitDefEqProofs [w1, w2, w3, h5]) | (refine ar_call (cp wt ?_); simp -implicitDefEqProofs [w1, w2, w3, h5]) | (refine ard_call (dp wt ?_); simp -implicitDefEqProofs [w1, w2, w3, h5]) | (refine ar_call (cp wf ?_); simp -implicitDefEqProofs [w1, w2, w3, h5]) | (refine ard_call (dp wf ?_); simp -implicitDefEqProofs [w1, w2, w3, h5]) | (refine ar_call (cp at3 ?_); simp -implicitDefEqProofs [w1, w2, w3, h5]) | (refine ard_call (dp at3 ?_); simp -implicitDefEqProofs [w1, w2, w3, h5]) | (refine ar_call (cp en ?_); simp -implicitDefEqProofs [w1, w2, w3, h5]) | (refine ard_call (dp en ?_); simp -implicitDefEqProofs [w1, w2, w3, h5]) | (refine ar_call (cp bd ?_); simp -implicitDefEqProofs [w1, w2, w3, h5]) | (refine ard_call (dp bd ?_); simp -implicitDefEqProofs [w1, w2, w3, h5]) | fail)
        refine aw_ret (fin_ret ?_); simp -implicitDefEqProofs [FinP, resV, resT, bad7, z0] <;> try rfl
omit hl in
theorem fn_eq (a j : Nat) (N : Int) : itH ts (R9 ts) a 33 N [.sgn wFn, .nam, .sub 4, .sgn sCol, .sub 1, .sub 2] j ⟨#[]⟩ [] =
    if isK wFn (nxt ts j) = true then if (nxt ts (j + 1)).k = 1 then if (parG ts (j + 2)).2.2 = 0 then if isK sCol (nxt ts (parG ts (j + 2)).2.1) = true then
      if (tyG ts (ts.length + 1) ((parG ts (j + 2)).2.1 + 1)).2.2 = 0 then
        if (Blk9 ts (tyG ts (ts.length + 1) ((parG ts (j + 2)).2.1 + 1)).2.1).2.2 = 0 then mk7 ts a (Blk9 ts (tyG ts (ts.length + 1) ((parG ts (j + 2)).2.1 + 1)).2.1).2.1 33 N (nxt ts (j + 1)).s [(parG ts (j + 2)).1, (tyG ts (ts.length + 1) ((parG ts (j + 2)).2.1 + 1)).1, (Blk9 ts (tyG ts (ts.length + 1) ((parG ts (j + 2)).2.1 + 1)).2.1).1]
        else Blk9 ts (tyG ts (ts.length + 1) ((parG ts (j + 2)).2.1 + 1)).2.1
      else tyG ts (ts.length + 1) ((parG ts (j + 2)).2.1 + 1)
      else bad7 (parG ts (j + 2)).2.1 else parG ts (j + 2) else bad7 (j + 1) else bad7 j := by
  rw [itG_sgn, itG_nam, itG_sub, itG_sgn, itG_sub, itG_sub, itH]
  rfl
set_option maxRecDepth 100000 in
set_option maxHeartbeats 4000000 in
theorem rfn_row (a j : Nat) (N : Int) (ha : a ≤ j) (hj : j ≤ ts.length) : Row Try.prog 64 [vKs ts, vI a, vI j, vI N] [] (vG (itH ts (R9 ts) a 33 N [.sgn wFn, .nam, .sub 4, .sgn sCol, .sub 1, .sub 2] j ⟨#[]⟩ [])) [] := by
  rw [fn_eq ts]
  have tn : ((j : Nat) + 1 : Int).toNat = j + 1 := by omega
  have t0 : ((0 : Int) ≤ (j : Nat) + 1) = True := eq_true (by omega)
  have q := word_row ts j wFn
  rw [word_is q_fn] at q
  have w1 : IntKind.i64.wrap ((j : Nat) + 1 : Int) = (j : Nat) + 1 := i64i _ (by omega) (by omega)
  have w2 : IntKind.i64.wrap ((j : Nat) + 2 : Int) = (j : Nat) + 2 := i64i _ (by omega) (by omega)
  by_cases h0 : isK wFn (nxt ts j) = true; rotate_left
  · rw [if_neg h0]
    rw [show isK wFn (nxt ts j) = false by simpa using h0] at q
    have bd := bad_row j
    clear h0
    refine row_of Try.func64 rfl rfl (Nat.le_of_ble_eq_true rfl) ?_
    repeat' (first | refine aw_seq ?_ | refine aw_skip ?_ | refine aw_block ?_ | refine aw_exit ?_ | refine aw_cond rfl (fun _ => ?_) (fun hb => absurd hb (by decide)) | refine aw_cond rfl (fun hb => absurd hb (by decide)) (fun _ => ?_) | (refine aw_reg (fun K hK => ?_); simp -implicitDefEqProofs [w1, w2]) | (refine aw_drw mixd (fun K hK => ?_); simp -implicitDefEqProofs [w1, w2]) | refine hK _ ?_ | refine hK _ _ (by rfl) ?_ | (refine ar_call (cp q ?_); simp -implicitDefEqProofs [w1, w2]) | (refine ard_call (dp q ?_); simp -implicitDefEqProofs [w1, w2]) | (refine ar_call (cp bd ?_); simp -implicitDefEqProofs [w1, w2]) | (refine ard_call (dp bd ?_); simp -implicitDefEqProofs [w1, w2]) | fail)
    refine aw_ret (fin_ret ?_); simp -implicitDefEqProofs [FinP, resV, resT, bad7, z0] <;> try rfl
  rw [if_pos h0]
  have hlt0 := isK_lt h0
  rw [h0] at q
  have o := now_row ts (j + 1)
  clear h0
  by_cases h1 : (nxt ts (j + 1)).k = 1; rotate_left
  · rw [if_neg h1]
    have bd := bad_row (j + 1)
    obtain ⟨⟨xk, xn, xs, xf, xt⟩, hx⟩ : ∃ x, nxt ts (j + 1) = x := ⟨_, rfl⟩
    rw [hx] at o h1
    dsimp only at h1
    clear hx
    refine row_of Try.func64 rfl rfl (Nat.le_of_ble_eq_true rfl) ?_
    repeat' (first | refine aw_seq ?_ | refine aw_skip ?_ | refine aw_block ?_ | refine aw_exit ?_ | refine aw_cond rfl (fun _ => ?_) (fun hb => absurd hb (by decide)) | refine aw_cond rfl (fun hb => absurd hb (by decide)) (fun _ => ?_) | (refine aw_reg (fun K hK => ?_); simp -implicitDefEqProofs [h1, w1, w2]) | (refine aw_drw mixd (fun K hK => ?_); simp -implicitDefEqProofs [h1, w1, w2]) | refine hK _ ?_ | refine hK _ _ (by rfl) ?_ | (refine ar_call (cp q ?_); simp -implicitDefEqProofs [h1, w1, w2]) | (refine ard_call (dp q ?_); simp -implicitDefEqProofs [h1, w1, w2]) | (refine ar_call (cp o ?_); simp -implicitDefEqProofs [h1, w1, w2]) | (refine ard_call (dp o ?_); simp -implicitDefEqProofs [h1, w1, w2]) | (refine ar_call (cp bd ?_); simp -implicitDefEqProofs [h1, w1, w2]) | (refine ard_call (dp bd ?_); simp -implicitDefEqProofs [h1, w1, w2]) | fail)
    refine aw_ret (fin_ret ?_); simp -implicitDefEqProofs [FinP, resV, resT, bad7, z0] <;> try rfl
  rw [if_pos h1]
  obtain ⟨x, hx, hxn, hxk⟩ := kind_at h1 (by decide)
  have hx' := (List.getElem?_eq_some_iff.1 hx).2
  have hlt := (List.getElem?_eq_some_iff.1 hx).1
  rw [hxn] at o ⊢
  obtain ⟨xk, xn, xs, xf, xt⟩ := x
  dsimp only at hxk ⊢
  subst hxk
  clear h1 hxn
  have p := rparams_row ts hl (j + 2) (by omega)
  have kp := (par_oks (ts := ts) (j + 2) (by omega)).ok
  obtain ⟨⟨⟨px, pl⟩, p2, p3⟩, hp⟩ : ∃ r, parG ts (j + 2) = r := ⟨_, rfl⟩
  rw [hp] at p kp ⊢
  dsimp only
  clear hp
  by_cases h2 : p3 = 0; rotate_left
  · rw [if_neg h2]
    clear kp
    refine row_of Try.func64 rfl rfl (Nat.le_of_ble_eq_true rfl) ?_
    repeat' (first | refine aw_seq ?_ | refine aw_skip ?_ | refine aw_block ?_ | refine aw_exit ?_ | refine aw_cond rfl (fun _ => ?_) (fun hb => absurd hb (by decide)) | refine aw_cond rfl (fun hb => absurd hb (by decide)) (fun _ => ?_) | (refine aw_reg (fun K hK => ?_); simp -implicitDefEqProofs [w1, w2, h2]) | (refine aw_drw mixd (fun K hK => ?_); simp -implicitDefEqProofs [w1, w2, h2]) | refine hK _ ?_ | refine hK _ _ (by rfl) ?_ | (refine ar_call (cp q ?_); simp -implicitDefEqProofs [w1, w2, h2]) | (refine ard_call (dp q ?_); simp -implicitDefEqProofs [w1, w2, h2]) | (refine ar_call (cp o ?_); simp -implicitDefEqProofs [w1, w2, h2]) | (refine ard_call (dp o ?_); simp -implicitDefEqProofs [w1, w2, h2]) | (refine ar_call (cp p ?_); simp -implicitDefEqProofs [w1, w2, h2]) | (refine ard_call (dp p ?_); simp -implicitDefEqProofs [w1, w2, h2]) | fail)
    refine aw_ret (fin_ret ?_); simp -implicitDefEqProofs [FinP, resV, resT] <;> try rfl
  subst h2
  rw [if_pos rfl]
  have yp := kp.yes rfl
  dsimp only at yp
  have c := sign_row ts p2 sCol
  rw [sign_is q_col] at c
  by_cases h3 : isK sCol (nxt ts p2) = true; rotate_left
  · rw [if_neg h3]
    rw [show isK sCol (nxt ts p2) = false by simpa using h3] at c
    have bd := bad_row p2
    clear kp h3
    refine row_of Try.func64 rfl rfl (Nat.le_of_ble_eq_true rfl) ?_
    repeat' (first | refine aw_seq ?_ | refine aw_skip ?_ | refine aw_block ?_ | refine aw_exit ?_ | refine aw_cond rfl (fun _ => ?_) (fun hb => absurd hb (by decide)) | refine aw_cond rfl (fun hb => absurd hb (by decide)) (fun _ => ?_) | (refine aw_reg (fun K hK => ?_); simp -implicitDefEqProofs [w1, w2]) | (refine aw_drw mixd (fun K hK => ?_); simp -implicitDefEqProofs [w1, w2]) | refine hK _ ?_ | refine hK _ _ (by rfl) ?_ | (refine ar_call (cp q ?_); simp -implicitDefEqProofs [w1, w2]) | (refine ard_call (dp q ?_); simp -implicitDefEqProofs [w1, w2]) | (refine ar_call (cp o ?_); simp -implicitDefEqProofs [w1, w2]) | (refine ard_call (dp o ?_); simp -implicitDefEqProofs [w1, w2]) | (refine ar_call (cp p ?_); simp -implicitDefEqProofs [w1, w2]) | (refine ard_call (dp p ?_); simp -implicitDefEqProofs [w1, w2]) | (refine ar_call (cp c ?_); simp -implicitDefEqProofs [w1, w2]) | (refine ard_call (dp c ?_); simp -implicitDefEqProofs [w1, w2]) | (refine ar_call (cp bd ?_); simp -implicitDefEqProofs [w1, w2]) | (refine ard_call (dp bd ?_); simp -implicitDefEqProofs [w1, w2]) | fail)
    refine aw_ret (fin_ret ?_); simp -implicitDefEqProofs [FinP, resV, resT, bad7, z0] <;> try rfl
  rw [if_pos h3]
  have hlt3 := isK_lt h3
  rw [h3] at c
  have w3 : IntKind.i64.wrap ((p2 : Nat) + 1 : Int) = (p2 : Nat) + 1 := i64i _ (by omega) (by omega)
  have t := rtype9 ts hl (p2 + 1) (by omega)
  have kt := (tyG_oks (ts := ts) (p2 + 1) (by omega)).ok
  obtain ⟨⟨⟨tx, tl⟩, t2, t3⟩, ht⟩ : ∃ r, tyG ts (ts.length + 1) (p2 + 1) = r := ⟨_, rfl⟩
  rw [ht] at t kt ⊢
  dsimp only
  clear ht h3
  by_cases h4 : t3 = 0; rotate_left
  · rw [if_neg h4]
    clear kp kt
    refine row_of Try.func64 rfl rfl (Nat.le_of_ble_eq_true rfl) ?_
    repeat' (first | refine aw_seq ?_ | refine aw_skip ?_ | refine aw_block ?_ | refine aw_exit ?_ | refine aw_cond rfl (fun _ => ?_) (fun hb => absurd hb (by decide)) | refine aw_cond rfl (fun hb => absurd hb (by decide)) (fun _ => ?_) | (refine aw_reg (fun K hK => ?_); simp -implicitDefEqProofs [w1, w2, w3, h4]) | (refine aw_drw mixd (fun K hK => ?_); simp -implicitDefEqProofs [w1, w2, w3, h4]) | refine hK _ ?_ | refine hK _ _ (by rfl) ?_ | (refine ar_call (cp q ?_); simp -implicitDefEqProofs [w1, w2, w3, h4]) | (refine ard_call (dp q ?_); simp -implicitDefEqProofs [w1, w2, w3, h4]) | (refine ar_call (cp o ?_); simp -implicitDefEqProofs [w1, w2, w3, h4]) | (refine ard_call (dp o ?_); simp -implicitDefEqProofs [w1, w2, w3, h4]) | (refine ar_call (cp p ?_); simp -implicitDefEqProofs [w1, w2, w3, h4]) | (refine ard_call (dp p ?_); simp -implicitDefEqProofs [w1, w2, w3, h4]) | (refine ar_call (cp c ?_); simp -implicitDefEqProofs [w1, w2, w3, h4]) | (refine ard_call (dp c ?_); simp -implicitDefEqProofs [w1, w2, w3, h4]) | (refine ar_call (cp t ?_); simp -implicitDefEqProofs [w1, w2, w3, h4]) | (refine ard_call (dp t ?_); simp -implicitDefEqProofs [w1, w2, w3, h4]) | fail)
    refine aw_ret (fin_ret ?_); simp -implicitDefEqProofs [FinP, resV, resT] <;> try rfl
  subst h4
  rw [if_pos rfl]
  have yt := kt.yes rfl
  dsimp only at yt
  have b := rblock_top ts hl t2 yt.2
  rw [show blG ts (sG ts (ts.length + 1)) t2 = Blk9 ts t2 from rfl] at b
  have kb := (R9_ok (ts := ts) 2 t2 yt.2).ok
  rw [show R9 ts 2 t2 = Blk9 ts t2 from rfl] at kb
  obtain ⟨⟨⟨bx, bl⟩, b2, b3⟩, hb⟩ : ∃ r, Blk9 ts t2 = r := ⟨_, rfl⟩
  rw [hb] at b kb ⊢
  dsimp only
  clear hb
  by_cases h5 : b3 = 0; rotate_left
  · rw [if_neg h5]
    clear kp kt kb
    refine row_of Try.func64 rfl rfl (Nat.le_of_ble_eq_true rfl) ?_
    repeat' (first | refine aw_seq ?_ | refine aw_skip ?_ | refine aw_block ?_ | refine aw_exit ?_ | refine aw_cond rfl (fun _ => ?_) (fun hb => absurd hb (by decide)) | refine aw_cond rfl (fun hb => absurd hb (by decide)) (fun _ => ?_) | (refine aw_reg (fun K hK => ?_); simp -implicitDefEqProofs [w1, w2, w3, h5]) | (refine aw_drw mixd (fun K hK => ?_); simp -implicitDefEqProofs [w1, w2, w3, h5]) | refine hK _ ?_ | refine hK _ _ (by rfl) ?_ | (refine ar_call (cp q ?_); simp -implicitDefEqProofs [w1, w2, w3, h5]) | (refine ard_call (dp q ?_); simp -implicitDefEqProofs [w1, w2, w3, h5]) | (refine ar_call (cp o ?_); simp -implicitDefEqProofs [w1, w2, w3, h5]) | (refine ard_call (dp o ?_); simp -implicitDefEqProofs [w1, w2, w3, h5]) | (refine ar_call (cp p ?_); simp -implicitDefEqProofs [w1, w2, w3, h5]) | (refine ard_call (dp p ?_); simp -implicitDefEqProofs [w1, w2, w3, h5]) | (refine ar_call (cp c ?_); simp -implicitDefEqProofs [w1, w2, w3, h5]) | (refine ard_call (dp c ?_); simp -implicitDefEqProofs [w1, w2, w3, h5]) | (refine ar_call (cp t ?_); simp -implicitDefEqProofs [w1, w2, w3, h5]) | (refine ard_call (dp t ?_); simp -implicitDefEqProofs [w1, w2, w3, h5]) | (refine ar_call (cp b ?_); simp -implicitDefEqProofs [w1, w2, w3, h5]) | (refine ard_call (dp b ?_); simp -implicitDefEqProofs [w1, w2, w3, h5]) | fail)
    refine aw_ret (fin_ret ?_); simp -implicitDefEqProofs [FinP, resV, resT] <;> try rfl
  subst h5
  rw [if_pos rfl]
  have yb := kb.yes rfl
  dsimp only at yb
  have m := rmk_row ts hl a b2 33 N xs [.mk px pl, .mk tx tl, .mk bx bl] (by omega) yb.2
  clear kp kt kb
  refine row_of Try.func64 rfl rfl (Nat.le_of_ble_eq_true rfl) ?_
  repeat' (first | refine aw_seq ?_ | refine aw_skip ?_ | refine aw_block ?_ | refine aw_exit ?_ | refine aw_cond rfl (fun _ => ?_) (fun hb => absurd hb (by decide)) | refine aw_cond rfl (fun hb => absurd hb (by decide)) (fun _ => ?_) | (refine aw_reg (fun K hK => ?_); simp -implicitDefEqProofs [w1, w2, w3, hlt, hx, hx', tn, t0]) | (refine aw_drw mixd (fun K hK => ?_); simp -implicitDefEqProofs [w1, w2, w3, hlt, hx, hx', tn, t0]) | refine hK _ ?_ | refine hK _ _ (by rfl) ?_ | (refine ar_call (cp q ?_); simp -implicitDefEqProofs [w1, w2, w3, hlt, hx, hx', tn, t0]) | (refine ard_call (dp q ?_); simp -implicitDefEqProofs [w1, w2, w3, hlt, hx, hx', tn, t0]) | (refine ar_call (cp o ?_); simp -implicitDefEqProofs [w1, w2, w3, hlt, hx, hx', tn, t0]) | (refine ard_call (dp o ?_); simp -implicitDefEqProofs [w1, w2, w3, hlt, hx, hx', tn, t0]) | (refine ar_call (cp p ?_); simp -implicitDefEqProofs [w1, w2, w3, hlt, hx, hx', tn, t0]) | (refine ard_call (dp p ?_); simp -implicitDefEqProofs [w1, w2, w3, hlt, hx, hx', tn, t0]) | (refine ar_call (cp c ?_); simp -implicitDefEqProofs [w1, w2, w3, hlt, hx, hx', tn, t0]) | (refine ard_call (dp c ?_); simp -implicitDefEqProofs [w1, w2, w3, hlt, hx, hx', tn, t0]) | (refine ar_call (cp t ?_); simp -implicitDefEqProofs [w1, w2, w3, hlt, hx, hx', tn, t0]) | (refine ard_call (dp t ?_); simp -implicitDefEqProofs [w1, w2, w3, hlt, hx, hx', tn, t0]) | (refine ar_call (cp b ?_); simp -implicitDefEqProofs [w1, w2, w3, hlt, hx, hx', tn, t0]) | (refine ard_call (dp b ?_); simp -implicitDefEqProofs [w1, w2, w3, hlt, hx, hx', tn, t0]) | (refine ar_call (cp m ?_); simp -implicitDefEqProofs [w1, w2, w3, hlt, hx, hx', tn, t0]) | (refine ard_call (dp m ?_); simp -implicitDefEqProofs [w1, w2, w3, hlt, hx, hx', tn, t0]) | fail)
  refine aw_ret (fin_ret ?_); simp -implicitDefEqProofs [FinP, resV, resT, mk7] <;> try rfl
end
end Go.Proofs.Ythkfdheoakbfnaa.am
end
