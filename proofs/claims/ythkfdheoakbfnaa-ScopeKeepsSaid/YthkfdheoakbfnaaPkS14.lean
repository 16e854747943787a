import Derived.Test.YthkfdheoakbfnaaPkS13
import Derived.Test.YthkfdheoakbfnaaPkS7
section
namespace Go.Proofs.Ythkfdheoakbfnaa.am
open Go.ChangeShapes Go.WideShapes Go.ChangeAt Go.RowKit
open vt
set_option linter.unusedVariables false
set_option linter.unusedSimpArgs false
theorem q_con : quo wConst = 3 := by decide
theorem q_var : quo wVar = 3 := by decide
theorem q_pub : quo wPub = 3 := by decide
theorem q_fn : quo wFn = 3 := by decide
theorem q_rec : quo wRec = 3 := by decide
theorem q_tru : quo wTrue = 3 := by decide
theorem q_fal : quo wFals = 3 := by decide
theorem q_po : quo sParO = 4 := by decide
theorem q_ps : quo sParS = 4 := by decide
theorem q_com : quo sCom = 4 := by decide
theorem partG_eq (ts : List Tok) (i : Nat) : partG ts i = if (nxt ts i).k = 1 then if isK sCol (nxt ts (i + 1)) = true then if (tyG ts (ts.length + 1) (i + 2)).2.2 = 0 then mk7 ts i (tyG ts (ts.length + 1) (i + 2)).2.1 34 0 (nxt ts i).s [(tyG ts (ts.length + 1) (i + 2)).1] else tyG ts (ts.length + 1) (i + 2) else bad7 (i + 1) else bad7 i := by
  unfold partG
  rw [itG_nam, itG_sgn, itG_sub, itH]
  rfl
section
variable (ts : List Tok) (hl : ts.length ≤ 1000000000)
include hl
theorem rtype9 (i : Nat) (hi : i ≤ ts.length) : Row Try.prog 109 [vKs ts, vI i] [] (vG (tyG ts (ts.length + 1) i)) [] := rtype_row ts (by omega) (ts.length + 1) i (by omega) hi
set_option maxRecDepth 100000 in
set_option maxHeartbeats 4000000 in
theorem rpart9_row (i : Nat) (hi : i ≤ ts.length) : Row Try.prog 113 [vKs ts, vI i] [] (vG (partG ts i)) [] := by
  have o := now_row ts i
  have w1 : IntKind.i64.wrap ((i : Nat) + 1 : Int) = (i : Nat) + 1 := i64i _ (by omega) (by omega)
  have w2 : IntKind.i64.wrap ((i : Nat) + 2 : Int) = (i : Nat) + 2 := i64i _ (by omega) (by omega)
  rw [partG_eq]
  by_cases h1 : (nxt ts i).k = 1; rotate_left
  · rw [if_neg h1]
    have b := bad_row i
    obtain ⟨⟨xk, xn, xs, xf, xt⟩, hx⟩ : ∃ x, nxt ts i = x := ⟨_, rfl⟩
    rw [hx] at o h1
    dsimp only at h1
    clear hx
    refine row_of Try.func113 rfl rfl (Nat.le_of_ble_eq_true rfl) ?_
    repeat' (first | refine aw_seq ?_ | refine aw_skip ?_ | refine aw_block ?_ | refine aw_exit ?_ | refine aw_cond rfl (fun _ => ?_) (fun hb => absurd hb (by decide)) | refine aw_cond rfl (fun hb => absurd hb (by decide)) (fun _ => ?_) | (refine aw_reg (fun K hK => ?_); simp -implicitDefEqProofs [h1, w1, w2]) | (refine aw_drw mixd (fun K hK => ?_); simp -implicitDefEqProofs [h1, w1, w2]) | refine hK _ ?_ | refine hK _ _ (by rfl) ?_ | (refine ar_call (cp o ?_); simp -implicitDefEqProofs [h1, w1, w2]) | (refine ard_call (dp o ?_); simp -implicitDefEqProofs [h1, w1, w2]) | (refine ar_call (cp b ?_); simp -implicitDefEqProofs [h1, w1, w2]) | (refine ard_call (dp b ?_); simp -implicitDefEqProofs [h1, w1, w2]) | fail)
    refine aw_ret (fin_ret ?_); simp -implicitDefEqProofs [FinP, resV, resT, bad7, z0] <;> try rfl
  rw [if_pos h1]
  obtain ⟨x, hx, hxn, hxk⟩ := kind_at h1 (by decide)
  have hx' := (List.getElem?_eq_some_iff.1 hx).2
  have hlt := (List.getElem?_eq_some_iff.1 hx).1
  rw [hxn] at o ⊢
  obtain ⟨xk, xn, xs, xf, xt⟩ := x
  dsimp only at hxk ⊢
  subst hxk
  have q := sign_row ts (i + 1) sCol
  rw [sign_is q_col] at q
  clear h1 hxn
  by_cases h2 : isK sCol (nxt ts (i + 1)) = true; rotate_left
  · rw [if_neg h2]
    rw [show isK sCol (nxt ts (i + 1)) = false by simpa using h2] at q
    have b := bad_row (i + 1)
    clear h2
    refine row_of Try.func113 rfl rfl (Nat.le_of_ble_eq_true rfl) ?_
    repeat' (first | refine aw_seq ?_ | refine aw_skip ?_ | refine aw_block ?_ | refine aw_exit ?_ | refine aw_cond rfl (fun _ => ?_) (fun hb => absurd hb (by decide)) | refine aw_cond rfl (fun hb => absurd hb (by decide)) (fun _ => ?_) | (refine aw_reg (fun K hK => ?_); simp -implicitDefEqProofs [w1, w2]) | (refine aw_drw mixd (fun K hK => ?_); simp -implicitDefEqProofs [w1, w2]) | refine hK _ ?_ | refine hK _ _ (by rfl) ?_ | (refine ar_call (cp o ?_); simp -implicitDefEqProofs [w1, w2]) | (refine ard_call (dp o ?_); simp -implicitDefEqProofs [w1, w2]) | (refine ar_call (cp q ?_); simp -implicitDefEqProofs [w1, w2]) | (refine ard_call (dp q ?_); simp -implicitDefEqProofs [w1, w2]) | (refine ar_call (cp b ?_); simp -implicitDefEqProofs [w1, w2]) | (refine ard_call (dp b ?_); simp -implicitDefEqProofs [w1, w2]) | fail)
    refine aw_ret (fin_ret ?_); simp -implicitDefEqProofs [FinP, resV, resT, bad7, z0] <;> try rfl
  rw [if_pos h2]
  rw [h2] at q
  have hlt2 := isK_lt h2
  have t := rtype9 ts hl (i + 2) (by omega)
  have hk := (tyG_ok ts (ts.length + 1) (i + 2)).1
  obtain ⟨⟨⟨tx, tl⟩, j, e⟩, hr⟩ : ∃ r, tyG ts (ts.length + 1) (i + 2) = r := ⟨_, rfl⟩
  rw [hr] at t hk ⊢
  dsimp only at hk ⊢
  clear hr h2
  by_cases he : e = 0; rotate_left
  · rw [if_neg he]
    clear hk
    refine row_of Try.func113 rfl rfl (Nat.le_of_ble_eq_true rfl) ?_
    repeat' (first | refine aw_seq ?_ | refine aw_skip ?_ | refine aw_block ?_ | refine aw_exit ?_ | refine aw_cond rfl (fun _ => ?_) (fun hb => absurd hb (by decide)) | refine aw_cond rfl (fun hb => absurd hb (by decide)) (fun _ => ?_) | (refine aw_reg (fun K hK => ?_); simp -implicitDefEqProofs [w1, w2, he]) | (refine aw_drw mixd (fun K hK => ?_); simp -implicitDefEqProofs [w1, w2, he]) | refine hK _ ?_ | refine hK _ _ (by rfl) ?_ | (refine ar_call (cp o ?_); simp -implicitDefEqProofs [w1, w2, he]) | (refine ard_call (dp o ?_); simp -implicitDefEqProofs [w1, w2, he]) | (refine ar_call (cp q ?_); simp -implicitDefEqProofs [w1, w2, he]) | (refine ard_call (dp q ?_); simp -implicitDefEqProofs [w1, w2, he]) | (refine ar_call (cp t ?_); simp -implicitDefEqProofs [w1, w2, he]) | (refine ard_call (dp t ?_); simp -implicitDefEqProofs [w1, w2, he]) | fail)
    refine aw_ret (fin_ret ?_); simp -implicitDefEqProofs [FinP, resV, resT] <;> try rfl
  subst he
  rw [if_pos rfl]
  have hy := hk rfl
  have m := rmk_row ts hl i j 34 0 xs [.mk tx tl] (by omega) hy.2
  clear hk hy
  refine row_of Try.func113 rfl rfl (Nat.le_of_ble_eq_true rfl) ?_
  repeat' (first | refine aw_seq ?_ | refine aw_skip ?_ | refine aw_block ?_ | refine aw_exit ?_ | refine aw_cond rfl (fun _ => ?_) (fun hb => absurd hb (by decide)) | refine aw_cond rfl (fun hb => absurd hb (by decide)) (fun _ => ?_) | (refine aw_reg (fun K hK => ?_); simp -implicitDefEqProofs [w1, w2, hlt, hx, hx']) | (refine aw_drw mixd (fun K hK => ?_); simp -implicitDefEqProofs [w1, w2, hlt, hx, hx']) | refine hK _ ?_ | refine hK _ _ (by rfl) ?_ | (refine ar_call (cp o ?_); simp -implicitDefEqProofs [w1, w2, hlt, hx, hx']) | (refine ard_call (dp o ?_); simp -implicitDefEqProofs [w1, w2, hlt, hx, hx']) | (refine ar_call (cp q ?_); simp -implicitDefEqProofs [w1, w2, hlt, hx, hx']) | (refine ard_call (dp q ?_); simp -implicitDefEqProofs [w1, w2, hlt, hx, hx']) | (refine ar_call (cp t ?_); simp -implicitDefEqProofs [w1, w2, hlt, hx, hx']) | (refine ard_call (dp t ?_); simp -implicitDefEqProofs [w1, w2, hlt, hx, hx']) | (refine ar_call (cp m ?_); simp -implicitDefEqProofs [w1, w2, hlt, hx, hx']) | (refine ard_call (dp m ?_); simp -implicitDefEqProofs [w1, w2, hlt, hx, hx']) | fail)
  refine aw_ret (fin_ret ?_); simp -implicitDefEqProofs [FinP, resV, resT, mk7] <;> try rfl
structure InvRF (i : Nat) (C : List VT × Nat × Int) (x : Nat × Nat × List VT) : Prop where
  eq : lpF ts x.1 x.2.1 x.2.2 = C
  le : i ≤ x.2.1 ∧ x.2.1 ≤ ts.length
  fuel : ts.length < x.1 + x.2.1
  few : x.2.2.length + x.1 ≤ ts.length + 1
set_option maxRecDepth 100000 in
set_option maxHeartbeats 4000000 in
theorem rfields_row (i : Nat) (hi : i ≤ ts.length) : Row Try.prog 68 [vKs ts, vI i] [] (vC3 (lpF ts (ts.length + 1) i [])) [] := by
  have h0 : InvRF ts i (lpF ts (ts.length + 1) i []) (ts.length + 1, i, []) := ⟨rfl, ⟨Nat.le_refl _, hi⟩, by dsimp only; omega, by simp⟩
  obtain ⟨C, hC⟩ : ∃ C, lpF ts (ts.length + 1) i [] = C := ⟨_, rfl⟩
  rw [hC] at h0 ⊢
  clear hC
  refine row_of Try.func68 rfl rfl (Nat.le_of_ble_eq_true rfl) ?_
  repeat (first | refine aw_seq ?_ | refine aw_skip ?_ | refine aw_block ?_ | refine aw_exit ?_ | refine aw_cond rfl (fun _ => ?_) (fun hb => absurd hb (by decide)) | refine aw_cond rfl (fun hb => absurd hb (by decide)) (fun _ => ?_) | (refine aw_reg (fun K hK => ?_); simp -implicitDefEqProofs; refine hK _ ?_) | (refine aw_drw mixd (fun K hK => ?_); simp -implicitDefEqProofs; refine hK _ _ (by rfl) ?_) | fail)
  refine aw_lp (ι := Nat × Nat × List VT) (fun x => mkSt [(0, vKs ts), (1, vI (x.2.1 : Nat)), (7, .v (.c (.row 0 6 (x.2.2.map tc))))] [some (.row 25 6)]) (InvRF ts i C) (fun x => x.1) (ts.length + 1, i, []) h0 (cov_intro [3] (by simp -implicitDefEqProofs) (by simp -implicitDefEqProofs) (by decide) rfl (by simp)) (fun Z hI x hx => ?_)
  clear h0
  obtain ⟨m, j, acc⟩ := x
  obtain ⟨x1, x2, x3, x4⟩ := hx
  dsimp only at x1 x2 x3 x4 ⊢
  obtain ⟨m, rfl⟩ : ∃ m', m = m' + 1 := ⟨m - 1, by omega⟩
  have q := sign_row ts j sKet
  rw [sign_is q_ket] at q
  have w1 : IntKind.i64.wrap ((j : Nat) + 1 : Int) = (j : Nat) + 1 := i64i _ (by omega) (by omega)
  rw [lpF] at x1
  by_cases h1 : acc ≠ [] ∧ isK sKet (nxt ts j) = true
  · rw [if_pos h1] at x1
    rw [← x1]
    obtain ⟨h2, h3⟩ := h1
    rw [h3] at q
    obtain ⟨y, l, rfl⟩ : ∃ y l, acc = y :: l := by cases acc with
      | nil => exact absurd rfl h2
      | cons y l => exact ⟨y, l, rfl⟩
    have hz : ¬ ((l.length : Int) + 1 = 0) := by omega
    clear x1 h2 h3
    repeat' (first | refine aw_seq ?_ | refine aw_skip ?_ | refine aw_block ?_ | refine aw_exit ?_ | refine aw_cond rfl (fun _ => ?_) (fun hb => absurd hb (by decide)) | refine aw_cond rfl (fun hb => absurd hb (by decide)) (fun _ => ?_) | (refine aw_reg (fun K hK => ?_); simp -implicitDefEqProofs [w1, hz]) | (refine aw_drw mixd (fun K hK => ?_); simp -implicitDefEqProofs [w1, hz]) | refine hK _ ?_ | refine hK _ _ (by rfl) ?_ | (refine ar_call (cp q ?_); simp -implicitDefEqProofs [w1, hz]) | (refine ard_call (dp q ?_); simp -implicitDefEqProofs [w1, hz]) | fail)
    refine aw_ret (fin_ret ?_); simp -implicitDefEqProofs [FinP, resV, resT] <;> try rfl
  rw [if_neg h1] at x1
  have p := rpart9_row ts hl j x2.2
  have hk := part_ok (ts := ts) j x2.2
  obtain ⟨⟨⟨tx, tl⟩, r2, r3⟩, hr⟩ : ∃ r, partG ts j = r := ⟨_, rfl⟩
  rw [hr] at x1 p hk
  dsimp only at x1
  have b1 : (acc.length + 1) * 72 ≤ 140737488355328 := by omega
  have b2 : acc.length + 1 ≤ 140737488355328 := by omega
  have go : (acc.length : Int) = 0 ∨ (¬ acc = [] ∧ isK sKet (nxt ts j) = false) := by
    by_cases hz : acc = []
    · left; rw [hz]; rfl
    · right
      refine ⟨hz, ?_⟩
      cases hb : isK sKet (nxt ts j) with
      | false => rfl
      | true => exact absurd ⟨hz, hb⟩ h1
  by_cases h3 : r3 = 0; rotate_left
  · rw [if_pos h3] at x1
    rw [← x1]
    clear x1 hk hr h1
    rcases go with hz | ⟨hz, hb⟩
    · have hz' : acc = [] := List.length_eq_zero_iff.1 (by omega)
      subst hz'
      repeat' (first | refine aw_seq ?_ | refine aw_skip ?_ | refine aw_block ?_ | refine aw_exit ?_ | refine aw_cond rfl (fun _ => ?_) (fun hb => absurd hb (by decide)) | refine aw_cond rfl (fun hb => absurd hb (by decide)) (fun _ => ?_) | (refine aw_reg (fun K hK => ?_); simp -implicitDefEqProofs [h3]) | (refine aw_drw mixd (fun K hK => ?_); simp -implicitDefEqProofs [h3]) | refine hK _ ?_ | refine hK _ _ (by rfl) ?_ | (refine ar_call (cp q ?_); simp -implicitDefEqProofs [h3]) | (refine ard_call (dp q ?_); simp -implicitDefEqProofs [h3]) | (refine ar_call (cp p ?_); simp -implicitDefEqProofs [h3]) | (refine ard_call (dp p ?_); simp -implicitDefEqProofs [h3]) | fail)
      refine aw_ret (fin_ret ?_); simp -implicitDefEqProofs [FinP, resV, resT] <;> try rfl
    · rw [hb] at q
      clear hb
      repeat' (first | refine aw_seq ?_ | refine aw_skip ?_ | refine aw_block ?_ | refine aw_exit ?_ | refine aw_cond rfl (fun _ => ?_) (fun hb => absurd hb (by decide)) | refine aw_cond rfl (fun hb => absurd hb (by decide)) (fun _ => ?_) | (refine aw_reg (fun K hK => ?_); simp -implicitDefEqProofs [h3, hz]) | (refine aw_drw mixd (fun K hK => ?_); simp -implicitDefEqProofs [h3, hz]) | refine hK _ ?_ | refine hK _ _ (by rfl) ?_ | (refine ar_call (cp q ?_); simp -implicitDefEqProofs [h3, hz]) | (refine ard_call (dp q ?_); simp -implicitDefEqProofs [h3, hz]) | (refine ar_call (cp p ?_); simp -implicitDefEqProofs [h3, hz]) | (refine ard_call (dp p ?_); simp -implicitDefEqProofs [h3, hz]) | fail)
      refine aw_ret (fin_ret ?_); simp -implicitDefEqProofs [FinP, resV, resT] <;> try rfl
  subst h3
  rw [if_neg (by simp)] at x1
  have hy := hk.yes rfl
  dsimp only at hy
  have s := sign_row ts r2 sEnd
  rw [sign_is q_end] at s
  by_cases h4 : isK sEnd (nxt ts r2) = true
  · rw [if_pos h4] at x1
    rw [h4] at s
    have hlt := isK_lt h4
    have w2 : IntKind.i64.wrap ((r2 : Nat) + 1 : Int) = (r2 : Nat) + 1 := i64i _ (by omega) (by omega)
    have nx : InvRF ts i C (m, r2 + 1, acc ++ [.mk tx tl]) := ⟨x1, by dsimp only; omega, by dsimp only; omega, by dsimp only; rw [List.length_append, List.length_singleton]; omega⟩
    clear x1 hk hr h1 h4
    rcases go with hz | ⟨hz, hb⟩
    · have hz' : acc = [] := List.length_eq_zero_iff.1 (by omega)
      subst hz'
      repeat' (first | refine aw_seq ?_ | refine aw_skip ?_ | refine aw_block ?_ | refine aw_exit ?_ | refine aw_cond rfl (fun _ => ?_) (fun hb => absurd hb (by decide)) | refine aw_cond rfl (fun hb => absurd hb (by decide)) (fun _ => ?_) | (refine aw_reg (fun K hK => ?_); simp -implicitDefEqProofs [b1, b2, w2]) | (refine aw_drw mixd (fun K hK => ?_); simp -implicitDefEqProofs [b1, b2, w2]) | refine hK _ ?_ | refine hK _ _ (by rfl) ?_ | (refine ar_call (cp q ?_); simp -implicitDefEqProofs [b1, b2, w2]) | (refine ard_call (dp q ?_); simp -implicitDefEqProofs [b1, b2, w2]) | (refine ar_call (cp p ?_); simp -implicitDefEqProofs [b1, b2, w2]) | (refine ard_call (dp p ?_); simp -implicitDefEqProofs [b1, b2, w2]) | (refine ar_call (cp s ?_); simp -implicitDefEqProofs [b1, b2, w2]) | (refine ard_call (dp s ?_); simp -implicitDefEqProofs [b1, b2, w2]) | fail)
      refine ⟨(_, _, _), nx, (by dsimp only; omega), ?_⟩; rw [hI]; exact cov_intro [37] (by simp -implicitDefEqProofs) (by simp -implicitDefEqProofs) (by decide) rfl (by simp)
    · rw [hb] at q
      clear hb
      repeat' (first | refine aw_seq ?_ | refine aw_skip ?_ | refine aw_block ?_ | refine aw_exit ?_ | refine aw_cond rfl (fun _ => ?_) (fun hb => absurd hb (by decide)) | refine aw_cond rfl (fun hb => absurd hb (by decide)) (fun _ => ?_) | (refine aw_reg (fun K hK => ?_); simp -implicitDefEqProofs [b1, b2, w2, hz]) | (refine aw_drw mixd (fun K hK => ?_); simp -implicitDefEqProofs [b1, b2, w2, hz]) | refine hK _ ?_ | refine hK _ _ (by rfl) ?_ | (refine ar_call (cp q ?_); simp -implicitDefEqProofs [b1, b2, w2, hz]) | (refine ard_call (dp q ?_); simp -implicitDefEqProofs [b1, b2, w2, hz]) | (refine ar_call (cp p ?_); simp -implicitDefEqProofs [b1, b2, w2, hz]) | (refine ard_call (dp p ?_); simp -implicitDefEqProofs [b1, b2, w2, hz]) | (refine ar_call (cp s ?_); simp -implicitDefEqProofs [b1, b2, w2, hz]) | (refine ard_call (dp s ?_); simp -implicitDefEqProofs [b1, b2, w2, hz]) | fail)
      refine ⟨(_, _, _), nx, (by dsimp only; omega), ?_⟩; rw [hI]; exact cov_intro [48] (by simp -implicitDefEqProofs) (by simp -implicitDefEqProofs) (by decide) rfl (by simp)
  · have h4 : isK sEnd (nxt ts r2) = false := by simpa using h4
    rw [if_neg (by simp [h4])] at x1
    rw [h4] at s
    rw [← x1]
    clear x1 hk hr h1 h4
    rcases go with hz | ⟨hz, hb⟩
    · have hz' : acc = [] := List.length_eq_zero_iff.1 (by omega)
      subst hz'
      repeat' (first | refine aw_seq ?_ | refine aw_skip ?_ | refine aw_block ?_ | refine aw_exit ?_ | refine aw_cond rfl (fun _ => ?_) (fun hb => absurd hb (by decide)) | refine aw_cond rfl (fun hb => absurd hb (by decide)) (fun _ => ?_) | (refine aw_reg (fun K hK => ?_); simp -implicitDefEqProofs) | (refine aw_drw mixd (fun K hK => ?_); simp -implicitDefEqProofs) | refine hK _ ?_ | refine hK _ _ (by rfl) ?_ | (refine ar_call (cp q ?_); simp -implicitDefEqProofs) | (refine ard_call (dp q ?_); simp -implicitDefEqProofs) | (refine ar_call (cp p ?_); simp -implicitDefEqProofs) | (refine ard_call (dp p ?_); simp -implicitDefEqProofs) | (refine ar_call (cp s ?_); simp -implicitDefEqProofs) | (refine ard_call (dp s ?_); simp -implicitDefEqProofs) | fail)
      refine aw_ret (fin_ret ?_); simp -implicitDefEqProofs [FinP, resV, resT] <;> try rfl
    · rw [hb] at q
      clear hb
      repeat' (first | refine aw_seq ?_ | refine aw_skip ?_ | refine aw_block ?_ | refine aw_exit ?_ | refine aw_cond rfl (fun _ => ?_) (fun hb => absurd hb (by decide)) | refine aw_cond rfl (fun hb => absurd hb (by decide)) (fun _ => ?_) | (refine aw_reg (fun K hK => ?_); simp -implicitDefEqProofs [hz]) | (refine aw_drw mixd (fun K hK => ?_); simp -implicitDefEqProofs [hz]) | refine hK _ ?_ | refine hK _ _ (by rfl) ?_ | (refine ar_call (cp q ?_); simp -implicitDefEqProofs [hz]) | (refine ard_call (dp q ?_); simp -implicitDefEqProofs [hz]) | (refine ar_call (cp p ?_); simp -implicitDefEqProofs [hz]) | (refine ard_call (dp p ?_); simp -implicitDefEqProofs [hz]) | (refine ar_call (cp s ?_); simp -implicitDefEqProofs [hz]) | (refine ard_call (dp s ?_); simp -implicitDefEqProofs [hz]) | fail)
      refine aw_ret (fin_ret ?_); simp -implicitDefEqProofs [FinP, resV, resT] <;> try rfl
structure InvRP (i : Nat) (C : List VT × Nat × Int) (x : Nat × Nat × List VT × Bool) : Prop where
  go : x.2.2.2 = true → lpC ts (partG ts) x.1 x.2.1 x.2.2.1 = C
  no : x.2.2.2 = false → C = (x.2.2.1, x.2.1, 0)
  le : i ≤ x.2.1 ∧ x.2.1 ≤ ts.length
  fuel : x.2.2.2 = true → ts.length < x.1 + x.2.1
  few : x.2.2.1.length + x.1 ≤ ts.length + 2
set_option maxRecDepth 100000 in
set_option maxHeartbeats 4000000 in
theorem rparams_row (i : Nat) (hi : i ≤ ts.length) : Row Try.prog 111 [vKs ts, vI i] [] (vG (parG ts i)) [] := by
  have q1 := sign_row ts i sParO
  rw [sign_is q_po] at q1
  have w1 : IntKind.i64.wrap ((i : Nat) + 1 : Int) = (i : Nat) + 1 := i64i _ (by omega) (by omega)
  unfold parG cloG
  by_cases k1 : isK sParO (nxt ts i) = true; rotate_left
  · have k1 : isK sParO (nxt ts i) = false := by simpa using k1
    rw [if_pos k1]
    rw [k1] at q1
    have b := bad_row i
    clear k1
    refine row_of Try.func111 rfl rfl (Nat.le_of_ble_eq_true rfl) ?_
    repeat' (first | refine aw_seq ?_ | refine aw_skip ?_ | refine aw_block ?_ | refine aw_exit ?_ | refine aw_cond rfl (fun _ => ?_) (fun hb => absurd hb (by decide)) | refine aw_cond rfl (fun hb => absurd hb (by decide)) (fun _ => ?_) | (refine aw_reg (fun K hK => ?_); simp -implicitDefEqProofs) | (refine aw_drw mixd (fun K hK => ?_); simp -implicitDefEqProofs) | refine hK _ ?_ | refine hK _ _ (by rfl) ?_ | (refine ar_call (cp q1 ?_); simp -implicitDefEqProofs) | (refine ard_call (dp q1 ?_); simp -implicitDefEqProofs) | (refine ar_call (cp b ?_); simp -implicitDefEqProofs) | (refine ard_call (dp b ?_); simp -implicitDefEqProofs) | fail)
    refine aw_ret (fin_ret ?_); simp -implicitDefEqProofs [FinP, resV, resT, finC, z0] <;> try rfl
  have hlt := isK_lt k1
  rw [if_neg (by simp [k1])]
  rw [k1] at q1
  have q2 := sign_row ts (i + 1) sParS
  rw [sign_is q_ps] at q2
  have w2 : IntKind.i64.wrap ((i : Nat) + 1 + 1 : Int) = (i : Nat) + 1 + 1 := i64i _ (by omega) (by omega)
  by_cases k2 : isK sParS (nxt ts (i + 1)) = true
  · rw [if_pos ⟨rfl, k2⟩]
    rw [k2] at q2
    have hlt2 := isK_lt k2
    have m : Row Try.prog 69 [vKs ts, vI i, vI (i + 1 + 1 : Nat), vI 35, vI 0, vS ⟨#[]⟩, vLs []] [] (vG (mk7 ts i (i + 1 + 1) 35 0 ⟨#[]⟩ [])) [] := rmk_row ts hl i (i + 1 + 1) 35 0 ⟨#[]⟩ [] (by omega) (by omega)
    rw [show finC ts i 35 ⟨#[]⟩ ([], i + 2, 0) = mk7 ts i (i + 1 + 1) 35 0 ⟨#[]⟩ [] from if_neg (by simp)]
    clear k1 k2
    refine row_of Try.func111 rfl rfl (Nat.le_of_ble_eq_true rfl) ?_
    repeat' (first | refine aw_seq ?_ | refine aw_skip ?_ | refine aw_block ?_ | refine aw_exit ?_ | refine aw_cond rfl (fun _ => ?_) (fun hb => absurd hb (by decide)) | refine aw_cond rfl (fun hb => absurd hb (by decide)) (fun _ => ?_) | (refine aw_reg (fun K hK => ?_); simp -implicitDefEqProofs [w1, w2]) | (refine aw_drw mixd (fun K hK => ?_); simp -implicitDefEqProofs [w1, w2]) | refine hK _ ?_ | refine hK _ _ (by rfl) ?_ | (refine ar_call (cp q1 ?_); simp -implicitDefEqProofs [w1, w2]) | (refine ard_call (dp q1 ?_); simp -implicitDefEqProofs [w1, w2]) | (refine ar_call (cp q2 ?_); simp -implicitDefEqProofs [w1, w2]) | (refine ard_call (dp q2 ?_); simp -implicitDefEqProofs [w1, w2]) | (refine ar_call (cp m ?_); simp -implicitDefEqProofs [w1, w2]) | (refine ard_call (dp m ?_); simp -implicitDefEqProofs [w1, w2]) | fail)
    refine aw_ret (fin_ret ?_); simp -implicitDefEqProofs [FinP, resV, resT, mk7] <;> try rfl
  have k2 : isK sParS (nxt ts (i + 1)) = false := by simpa using k2
  rw [if_neg (by simp [k2])]
  rw [k2] at q2
  have hokc := lpC_ok (part_ok (ts := ts)) (ts.length + 1) (i + 1) [] hlt
  have h0 : InvRP ts (i + 1) (lpC ts (partG ts) (ts.length + 1) (i + 1) []) (ts.length + 1, i + 1, [], true) := ⟨fun _ => rfl, (fun h => by cases h), ⟨Nat.le_refl _, hlt⟩, (fun _ => by dsimp only; omega), by simp⟩
  obtain ⟨C, hC⟩ : ∃ C, lpC ts (partG ts) (ts.length + 1) (i + 1) [] = C := ⟨_, rfl⟩
  rw [hC] at h0 hokc ⊢
  clear hC k1 k2
  refine row_of Try.func111 rfl rfl (Nat.le_of_ble_eq_true rfl) ?_
  repeat' (first | refine aw_seq ?_ | refine aw_skip ?_ | refine aw_block ?_ | refine aw_exit ?_ | refine aw_cond rfl (fun _ => ?_) (fun hb => absurd hb (by decide)) | refine aw_cond rfl (fun hb => absurd hb (by decide)) (fun _ => ?_) | (refine aw_reg (fun K hK => ?_); simp -implicitDefEqProofs [w1]) | (refine aw_drw mixd (fun K hK => ?_); simp -implicitDefEqProofs [w1]) | refine hK _ ?_ | refine hK _ _ (by rfl) ?_ | (refine ar_call (cp q1 ?_); simp -implicitDefEqProofs [w1]) | (refine ard_call (dp q1 ?_); simp -implicitDefEqProofs [w1]) | (refine ar_call (cp q2 ?_); simp -implicitDefEqProofs [w1]) | (refine ard_call (dp q2 ?_); simp -implicitDefEqProofs [w1]) | fail)
  refine aw_lp (ι := Nat × Nat × List VT × Bool) (fun x => mkSt [(0, vKs ts), (1, vI i), (4, .v (.c (.ptr 0 0))), (5, .v (.c (.row 1 6 (x.2.2.1.map tc)))), (6, vI (x.2.1 : Nat)), (7, vB x.2.2.2)] [some zG, some (.row 25 6)]) (InvRP ts (i + 1) C) (fun x => x.1 + (if x.2.2.2 = true then 1 else 0)) (ts.length + 1, i + 1, [], true) h0 (cov_intro [0, 1] (by simp -implicitDefEqProofs) (by simp -implicitDefEqProofs) (by decide) rfl (by simp)) (fun Z hI x hx => ?_)
  clear h0 q1 q2
  obtain ⟨m, j, acc, more⟩ := x
  obtain ⟨x1, x2, x3, x4, x5⟩ := hx
  dsimp only at x1 x2 x3 x4 x5 ⊢
  cases more with
  | false =>
    have x2 := x2 rfl
    subst x2
    have s := sign_row ts j sParS
    rw [sign_is q_ps] at s
    have wj : IntKind.i64.wrap ((j : Nat) + 1 : Int) = (j : Nat) + 1 := i64i _ (by omega) (by omega)
    by_cases k3 : isK sParS (nxt ts j) = true
    · have hlt3 := isK_lt k3
      rw [if_neg (by simp), if_neg (by simp [k3])]
      rw [k3] at s
      have mk : Row Try.prog 69 [vKs ts, vI i, vI (j + 1 : Nat), vI 35, vI 0, vS ⟨#[]⟩, vLs acc] [] (vG (mk7 ts i (j + 1) 35 0 ⟨#[]⟩ acc)) [] := rmk_row ts hl i (j + 1) 35 0 ⟨#[]⟩ acc (by omega) (by omega)
      rw [show finC ts i 35 ⟨#[]⟩ (acc, j + 1, 0) = mk7 ts i (j + 1) 35 0 ⟨#[]⟩ acc from if_neg (by simp)]
      clear k3 x1 hokc
      repeat' (first | refine aw_seq ?_ | refine aw_skip ?_ | refine aw_block ?_ | refine aw_exit ?_ | refine aw_cond rfl (fun _ => ?_) (fun hb => absurd hb (by decide)) | refine aw_cond rfl (fun hb => absurd hb (by decide)) (fun _ => ?_) | (refine aw_reg (fun K hK => ?_); simp -implicitDefEqProofs [wj]) | (refine aw_drw mixd (fun K hK => ?_); simp -implicitDefEqProofs [wj]) | refine hK _ ?_ | refine hK _ _ (by rfl) ?_ | (refine ar_call (cp s ?_); simp -implicitDefEqProofs [wj]) | (refine ard_call (dp s ?_); simp -implicitDefEqProofs [wj]) | (refine ar_call (cp mk ?_); simp -implicitDefEqProofs [wj]) | (refine ard_call (dp mk ?_); simp -implicitDefEqProofs [wj]) | fail)
      refine aw_ret (fin_ret ?_); simp -implicitDefEqProofs [FinP, resV, resT, mk7] <;> try rfl
    · have k3 : isK sParS (nxt ts j) = false := by simpa using k3
      rw [if_neg (by simp), if_pos k3]
      rw [k3] at s
      have b := bad_row j
      clear k3 x1 hokc
      repeat' (first | refine aw_seq ?_ | refine aw_skip ?_ | refine aw_block ?_ | refine aw_exit ?_ | refine aw_cond rfl (fun _ => ?_) (fun hb => absurd hb (by decide)) | refine aw_cond rfl (fun hb => absurd hb (by decide)) (fun _ => ?_) | (refine aw_reg (fun K hK => ?_); simp -implicitDefEqProofs [wj]) | (refine aw_drw mixd (fun K hK => ?_); simp -implicitDefEqProofs [wj]) | refine hK _ ?_ | refine hK _ _ (by rfl) ?_ | (refine ar_call (cp s ?_); simp -implicitDefEqProofs [wj]) | (refine ard_call (dp s ?_); simp -implicitDefEqProofs [wj]) | (refine ar_call (cp b ?_); simp -implicitDefEqProofs [wj]) | (refine ard_call (dp b ?_); simp -implicitDefEqProofs [wj]) | fail)
      refine aw_ret (fin_ret ?_); simp -implicitDefEqProofs [FinP, resV, resT, finC, z0] <;> try rfl
  | true =>
    have x1 := x1 rfl
    have x4 := x4 rfl
    obtain ⟨m, rfl⟩ : ∃ m', m = m' + 1 := ⟨m - 1, by omega⟩
    have p := rpart9_row ts hl j x3.2
    have hk := part_ok (ts := ts) j x3.2
    rw [lpC] at x1
    obtain ⟨⟨⟨tx, tl⟩, r2, r3⟩, hr⟩ : ∃ r, partG ts j = r := ⟨_, rfl⟩
    rw [hr] at x1 p hk
    dsimp only at x1
    have b1 : (acc.length + 1) * 72 ≤ 140737488355328 := by omega
    have b2 : acc.length + 1 ≤ 140737488355328 := by omega
    by_cases h3 : r3 = 0; rotate_left
    · rw [if_pos h3] at x1
      rw [← x1, if_pos h3]
      rw [show finC ts i 35 ⟨#[]⟩ (acc, r2, r3) = (z0, r2, r3) from if_pos h3]
      have hz := (hk.no h3).2
      dsimp only at hz
      unfold z0 at hz ⊢
      simp only [Tr.mk.injEq] at hz
      obtain ⟨rfl, rfl⟩ := hz
      clear x1 hk hr x2 hokc
      repeat' (first | refine aw_seq ?_ | refine aw_skip ?_ | refine aw_block ?_ | refine aw_exit ?_ | refine aw_cond rfl (fun _ => ?_) (fun hb => absurd hb (by decide)) | refine aw_cond rfl (fun hb => absurd hb (by decide)) (fun _ => ?_) | (refine aw_reg (fun K hK => ?_); simp -implicitDefEqProofs [h3]) | (refine aw_drw mixd (fun K hK => ?_); simp -implicitDefEqProofs [h3]) | refine hK _ ?_ | refine hK _ _ (by rfl) ?_ | (refine ar_call (cp p ?_); simp -implicitDefEqProofs [h3]) | (refine ard_call (dp p ?_); simp -implicitDefEqProofs [h3]) | fail)
      refine aw_ret (fin_ret ?_); simp -implicitDefEqProofs [FinP, resV, resT] <;> try rfl
    subst h3
    rw [if_neg (by simp)] at x1
    have hy := hk.yes rfl
    dsimp only at hy
    have s := sign_row ts r2 sCom
    rw [sign_is q_com] at s
    by_cases h4 : isK sCom (nxt ts r2) = true
    · have hlt4 := isK_lt h4
      rw [if_neg (by simp [h4])] at x1
      rw [h4] at s
      have wr : IntKind.i64.wrap ((r2 : Nat) + 1 : Int) = (r2 : Nat) + 1 := i64i _ (by omega) (by omega)
      have nx : InvRP ts (i + 1) C (m, r2 + 1, acc ++ [.mk tx tl], true) := ⟨fun _ => x1, (fun h => by cases h), by dsimp only; omega, fun _ => by dsimp only; omega, by dsimp only; rw [List.length_append, List.length_singleton]; omega⟩
      clear x1 hk hr h4 x2 hokc
      repeat' (first | refine aw_seq ?_ | refine aw_skip ?_ | refine aw_block ?_ | refine aw_exit ?_ | refine aw_cond rfl (fun _ => ?_) (fun hb => absurd hb (by decide)) | refine aw_cond rfl (fun hb => absurd hb (by decide)) (fun _ => ?_) | (refine aw_reg (fun K hK => ?_); simp -implicitDefEqProofs [b1, b2, wr]) | (refine aw_drw mixd (fun K hK => ?_); simp -implicitDefEqProofs [b1, b2, wr]) | refine hK _ ?_ | refine hK _ _ (by rfl) ?_ | (refine ar_call (cp p ?_); simp -implicitDefEqProofs [b1, b2, wr]) | (refine ard_call (dp p ?_); simp -implicitDefEqProofs [b1, b2, wr]) | (refine ar_call (cp s ?_); simp -implicitDefEqProofs [b1, b2, wr]) | (refine ard_call (dp s ?_); simp -implicitDefEqProofs [b1, b2, wr]) | fail)
      refine ⟨(_, _, _, true), nx, (by simp), ?_⟩; rw [hI]; exact cov_intro [0, 22] (by simp -implicitDefEqProofs) (by simp -implicitDefEqProofs) (by decide) rfl (by simp)
    · have h4 : isK sCom (nxt ts r2) = false := by simpa using h4
      rw [if_pos h4] at x1
      rw [h4] at s
      have nx : InvRP ts (i + 1) C (m, r2, acc ++ [.mk tx tl], false) := ⟨(fun h => by cases h), fun _ => x1.symm, by dsimp only; omega, (fun h => by cases h), by dsimp only; rw [List.length_append, List.length_singleton]; omega⟩
      clear x1 hk hr h4 x2 hokc
      repeat' (first | refine aw_seq ?_ | refine aw_skip ?_ | refine aw_block ?_ | refine aw_exit ?_ | refine aw_cond rfl (fun _ => ?_) (fun hb => absurd hb (by decide)) | refine aw_cond rfl (fun hb => absurd hb (by decide)) (fun _ => ?_) | (refine aw_reg (fun K hK => ?_); simp -implicitDefEqProofs [b1, b2]) | (refine aw_drw mixd (fun K hK => ?_); simp -implicitDefEqProofs [b1, b2]) | refine hK _ ?_ | refine hK _ _ (by rfl) ?_ | (refine ar_call (cp p ?_); simp -implicitDefEqProofs [b1, b2]) | (refine ard_call (dp p ?_); simp -implicitDefEqProofs [b1, b2]) | (refine ar_call (cp s ?_); simp -implicitDefEqProofs [b1, b2]) | (refine ard_call (dp s ?_); simp -implicitDefEqProofs [b1, b2]) | fail)
      refine ⟨(_, _, _, false), nx, (by simp; omega), ?_⟩; rw [hI]; exact cov_intro [0, 22] (by simp -implicitDefEqProofs) (by simp -implicitDefEqProofs) (by decide) rfl (by simp)
end
end Go.Proofs.Ythkfdheoakbfnaa.am
end
