/-
  Layer 7: types out of tokens: the document's; the program's Type.
-/
import Derived.Test.YthcnligihpnfiaaTypRow
namespace Go.Proofs.Ythcnligihpnfiaa.am
open Go.ChangeShapes Go.WideShapes Go.ChangeAt Go.RowKit
open vt
set_option linter.unusedVariables false
set_option linter.unusedSimpArgs false
theorem td_got : td Try.prog 37 = some ⟨true, 8, 88, [.lit (.int .i64 0), .lit (.int .i64 0), .lit (.string ⟨#[]⟩), .nilS, .lit (.int .i64 0), .lit (.int .i64 0), .lit (.int .i64 0), .lit (.int .i64 0)], [(0, 6, true), (6, 1, false), (7, 1, false)], .struct⟩ := Eq.trans (by kernel_rfl) (Eq.refl _)
attribute [simp] td_got
noncomputable abbrev vG (r : VT × Nat × Int) : AV := .v (.agg (((tc r.1) ++ [I (r.2.1 : Nat), I r.2.2]).map .pv))
theorem vG_ren (r : VT × Nat × Int) (ρ : Nat → Nat) : (vG r).ren ρ = vG r := by
  show AV.v (.agg (((tc r.1 ++ [I (r.2.1 : Nat), I r.2.2]).map AC.pv).map (AC.ren ρ))) = _
  rw [ren_pure]
set_option maxRecDepth 100000 in
set_option maxHeartbeats 4000000 in
theorem now_row (ts : List Tok) (i : Nat) : Row Try.prog 28 [vKs ts, vI i] [] (vK (nxt ts i)) [] := by
  by_cases h : i < ts.length
  · obtain ⟨x, hx⟩ : ∃ x, ts[i]? = some x := ⟨_, List.getElem?_eq_getElem h⟩
    have hx' := (List.getElem?_eq_some_iff.1 hx).2
    rw [nxt_some hx]
    refine row_of Try.func28 rfl rfl (Nat.le_of_ble_eq_true rfl) ?_
    repeat (first | refine aw_seq ?_ | refine aw_skip ?_ | refine aw_block ?_ | refine aw_exit ?_ | refine aw_cond rfl (fun _ => ?_) (fun hb => absurd hb (by decide)) | refine aw_cond rfl (fun hb => absurd hb (by decide)) (fun _ => ?_) | (refine aw_reg (fun K hK => ?_); simp -implicitDefEqProofs [h, hx, hx']; refine hK _ ?_) | (refine aw_drw mixd (fun K hK => ?_); simp -implicitDefEqProofs [h, hx, hx']; refine hK _ _ (by rfl) ?_) | fail)
    refine aw_ret (fin_ret ?_); simp -implicitDefEqProofs [FinP, resV, resT] <;> try rfl
  · rw [nxt_none (by omega)]
    refine row_of Try.func28 rfl rfl (Nat.le_of_ble_eq_true rfl) ?_
    repeat (first | refine aw_seq ?_ | refine aw_skip ?_ | refine aw_block ?_ | refine aw_exit ?_ | refine aw_cond rfl (fun _ => ?_) (fun hb => absurd hb (by decide)) | refine aw_cond rfl (fun hb => absurd hb (by decide)) (fun _ => ?_) | (refine aw_reg (fun K hK => ?_); simp -implicitDefEqProofs [h]; refine hK _ ?_) | (refine aw_drw mixd (fun K hK => ?_); simp -implicitDefEqProofs [h]; refine hK _ _ (by rfl) ?_) | fail)
    refine aw_ret (fin_ret ?_); simp -implicitDefEqProofs [FinP, resV, resT, endK] <;> try rfl
set_option maxRecDepth 100000 in
set_option maxHeartbeats 4000000 in
theorem word_row (ts : List Tok) (i : Nat) (s : ByteArray) : Row Try.prog 26 [vKs ts, vI i, vS s] [] (vB (decide ((nxt ts i).k = 3) && decide ((nxt ts i).s = s))) [] := by
  have h := now_row ts i
  obtain ⟨⟨k, n, x, f, t⟩, hx⟩ : ∃ x, nxt ts i = x := ⟨_, rfl⟩
  rw [hx] at h ⊢
  refine row_of Try.func26 rfl rfl (Nat.le_of_ble_eq_true rfl) ?_
  repeat' (first | refine aw_seq ?_ | refine aw_skip ?_ | refine aw_block ?_ | refine aw_exit ?_ | refine aw_cond rfl (fun _ => ?_) (fun hb => absurd hb (by decide)) | refine aw_cond rfl (fun hb => absurd hb (by decide)) (fun _ => ?_) | (refine aw_reg (fun K hK => ?_); simp -implicitDefEqProofs [*]) | (refine aw_drw mixd (fun K hK => ?_); simp -implicitDefEqProofs [*]) | refine hK _ ?_ | refine hK _ _ (by rfl) ?_ | (refine ar_call (cp h ?_); simp -implicitDefEqProofs [*]) | (refine ard_call (dp h ?_); simp -implicitDefEqProofs [*]) | (refine aw_cond rfl (fun hb => ?_) (fun hb => ?_) <;> ((try simp only [decide_eq_true_eq, decide_eq_false_iff_not, Bool.not_eq_true', Bool.not_eq_false', Bool.not_eq_eq_eq_not, Bool.not_true, Bool.not_false, beq_iff_eq, beq_true, beq_false, bne_iff_ne, ne_eq, Decidable.not_not, Bool.and_eq_true, Bool.or_eq_true, Bool.and_eq_false_iff, Bool.or_eq_false_iff] at hb) <;> repeat' (refine Or.elim hb (fun hb => ?_) (fun hb => ?_)))) | (refine gx_split (fun hb => ?_) (fun hb => ?_) <;> ((try simp only [decide_eq_true_eq, decide_eq_false_iff_not, Bool.not_eq_true', Bool.not_eq_false', Bool.not_eq_eq_eq_not, Bool.not_true, Bool.not_false, beq_iff_eq, beq_true, beq_false, bne_iff_ne, ne_eq, Decidable.not_not, Bool.and_eq_true, Bool.or_eq_true, Bool.and_eq_false_iff, Bool.or_eq_false_iff] at hb) <;> repeat' (refine Or.elim hb (fun hb => ?_) (fun hb => ?_))) <;> simp -implicitDefEqProofs [*]) | (refine gxd_split (fun hb => ?_) (fun hb => ?_) <;> ((try simp only [decide_eq_true_eq, decide_eq_false_iff_not, Bool.not_eq_true', Bool.not_eq_false', Bool.not_eq_eq_eq_not, Bool.not_true, Bool.not_false, beq_iff_eq, beq_true, beq_false, bne_iff_ne, ne_eq, Decidable.not_not, Bool.and_eq_true, Bool.or_eq_true, Bool.and_eq_false_iff, Bool.or_eq_false_iff] at hb) <;> repeat' (refine Or.elim hb (fun hb => ?_) (fun hb => ?_))) <;> simp -implicitDefEqProofs [*]) | fail)
  all_goals (refine aw_ret (fin_ret ?_); simp -implicitDefEqProofs [FinP, resV, resT, *] <;> try rfl)
set_option maxRecDepth 100000 in
set_option maxHeartbeats 4000000 in
theorem sign_row (ts : List Tok) (i : Nat) (s : ByteArray) : Row Try.prog 24 [vKs ts, vI i, vS s] [] (vB (decide ((nxt ts i).k = 4) && decide ((nxt ts i).s = s))) [] := by
  have h := now_row ts i
  obtain ⟨⟨k, n, x, f, t⟩, hx⟩ : ∃ x, nxt ts i = x := ⟨_, rfl⟩
  rw [hx] at h ⊢
  refine row_of Try.func24 rfl rfl (Nat.le_of_ble_eq_true rfl) ?_
  repeat' (first | refine aw_seq ?_ | refine aw_skip ?_ | refine aw_block ?_ | refine aw_exit ?_ | refine aw_cond rfl (fun _ => ?_) (fun hb => absurd hb (by decide)) | refine aw_cond rfl (fun hb => absurd hb (by decide)) (fun _ => ?_) | (refine aw_reg (fun K hK => ?_); simp -implicitDefEqProofs [*]) | (refine aw_drw mixd (fun K hK => ?_); simp -implicitDefEqProofs [*]) | refine hK _ ?_ | refine hK _ _ (by rfl) ?_ | (refine ar_call (cp h ?_); simp -implicitDefEqProofs [*]) | (refine ard_call (dp h ?_); simp -implicitDefEqProofs [*]) | (refine aw_cond rfl (fun hb => ?_) (fun hb => ?_) <;> ((try simp only [decide_eq_true_eq, decide_eq_false_iff_not, Bool.not_eq_true', Bool.not_eq_false', Bool.not_eq_eq_eq_not, Bool.not_true, Bool.not_false, beq_iff_eq, beq_true, beq_false, bne_iff_ne, ne_eq, Decidable.not_not, Bool.and_eq_true, Bool.or_eq_true, Bool.and_eq_false_iff, Bool.or_eq_false_iff] at hb) <;> repeat' (refine Or.elim hb (fun hb => ?_) (fun hb => ?_)))) | (refine gx_split (fun hb => ?_) (fun hb => ?_) <;> ((try simp only [decide_eq_true_eq, decide_eq_false_iff_not, Bool.not_eq_true', Bool.not_eq_false', Bool.not_eq_eq_eq_not, Bool.not_true, Bool.not_false, beq_iff_eq, beq_true, beq_false, bne_iff_ne, ne_eq, Decidable.not_not, Bool.and_eq_true, Bool.or_eq_true, Bool.and_eq_false_iff, Bool.or_eq_false_iff] at hb) <;> repeat' (refine Or.elim hb (fun hb => ?_) (fun hb => ?_))) <;> simp -implicitDefEqProofs [*]) | (refine gxd_split (fun hb => ?_) (fun hb => ?_) <;> ((try simp only [decide_eq_true_eq, decide_eq_false_iff_not, Bool.not_eq_true', Bool.not_eq_false', Bool.not_eq_eq_eq_not, Bool.not_true, Bool.not_false, beq_iff_eq, beq_true, beq_false, bne_iff_ne, ne_eq, Decidable.not_not, Bool.and_eq_true, Bool.or_eq_true, Bool.and_eq_false_iff, Bool.or_eq_false_iff] at hb) <;> repeat' (refine Or.elim hb (fun hb => ?_) (fun hb => ?_))) <;> simp -implicitDefEqProofs [*]) | fail)
  all_goals (refine aw_ret (fin_ret ?_); simp -implicitDefEqProofs [FinP, resV, resT, *] <;> try rfl)
set_option maxRecDepth 100000 in
set_option maxHeartbeats 4000000 in
theorem bad_row (i : Nat) : Row Try.prog 27 [vI i] [] (vG (z0, i, 6)) [] := by
  refine row_of Try.func27 rfl rfl (Nat.le_of_ble_eq_true rfl) ?_
  repeat (first | refine aw_seq ?_ | refine aw_skip ?_ | refine aw_block ?_ | refine aw_exit ?_ | refine aw_cond rfl (fun _ => ?_) (fun hb => absurd hb (by decide)) | refine aw_cond rfl (fun hb => absurd hb (by decide)) (fun _ => ?_) | (refine aw_reg (fun K hK => ?_); simp -implicitDefEqProofs; refine hK _ ?_) | (refine aw_drw mixd (fun K hK => ?_); simp -implicitDefEqProofs; refine hK _ _ (by rfl) ?_) | fail)
  refine aw_ret (fin_ret ?_); simp -implicitDefEqProofs [FinP, resV, resT, z0] <;> try rfl
set_option maxRecDepth 100000 in
set_option maxHeartbeats 4000000 in
theorem make7_row (ts : List Tok) (a b : Nat) (k n : Int) (s : ByteArray) (l : List VT) (ha : a < ts.length) (hb : 0 < b) (hbl : b ≤ ts.length) (hl : ts.length ≤ 9223372036854775807) : Row Try.prog 30 [vKs ts, vI a, vI b, vI k, vI n, vS s, vLs l] [] (vG (.mk ⟨k, n, s, frT ts a, toT ts (b - 1)⟩ l, b, 0)) [] := by
  obtain ⟨y, hy⟩ : ∃ y, ts[a]? = some y := ⟨_, List.getElem?_eq_getElem ha⟩
  have hy' := (List.getElem?_eq_some_iff.1 hy).2
  obtain ⟨j, rfl⟩ : ∃ j, b = j + 1 := ⟨b - 1, by omega⟩
  have hi1 : j < ts.length := by omega
  obtain ⟨z, hz⟩ : ∃ z, ts[j]? = some z := ⟨_, List.getElem?_eq_getElem hi1⟩
  have hz' := (List.getElem?_eq_some_iff.1 hz).2
  rw [show frT ts a = y.f by unfold frT; rw [nxt_some hy], show toT ts (j + 1 - 1) = z.t by unfold toT; rw [Nat.add_sub_cancel, nxt_some hz]]
  have wj : IntKind.i64.wrap ((j : Nat) : Int) = (j : Nat) := i64i _ (by omega) (by omega)
  refine row_of Try.func30 rfl rfl (Nat.le_of_ble_eq_true rfl) ?_
  repeat (first | refine aw_seq ?_ | refine aw_skip ?_ | refine aw_block ?_ | refine aw_exit ?_ | refine aw_cond rfl (fun _ => ?_) (fun hb => absurd hb (by decide)) | refine aw_cond rfl (fun hb => absurd hb (by decide)) (fun _ => ?_) | (refine aw_reg (fun K hK => ?_); simp -implicitDefEqProofs [ha, hy, hy', hz, hz', hi1, wj]; refine hK _ ?_) | (refine aw_drw mixd (fun K hK => ?_); simp -implicitDefEqProofs [ha, hy, hy', hz, hz', hi1, wj]; refine hK _ _ (by rfl) ?_) | fail)
  refine aw_ret (fin_ret ?_); simp -implicitDefEqProofs [FinP, resV, resT] <;> try rfl
theorem word_is {s : ByteArray} (h : quo s = 3) (x : Tok) : (decide (x.k = 3) && decide (x.s = s)) = isK s x := by unfold isK; rw [h]
theorem sign_is {s : ByteArray} (h : quo s = 4) (x : Tok) : (decide (x.k = 4) && decide (x.s = s)) = isK s x := by unfold isK; rw [h]
set_option maxRecDepth 100000 in
set_option maxHeartbeats 4000000 in
theorem rtype_row (ts : List Tok) (hl : ts.length ≤ 9223372036854775000) : ∀ n i, ts.length - i < n → i ≤ ts.length → Row Try.prog 48 [vKs ts, vI i] [] (vG (tyG ts n i)) [] := by
  intro n
  induction n with
  | zero => intro i h; omega
  | succ n ih =>
  intro i hn hi
  have q1 := word_row ts i wInt
  rw [word_is (by decide)] at q1
  have q2 := word_row ts i wBool
  rw [word_is (by decide)] at q2
  have q3 := sign_row ts i sOpen
  rw [sign_is (by decide)] at q3
  have o := now_row ts i
  have w1 : IntKind.i64.wrap ((i : Nat) + 1 : Int) = (i : Nat) + 1 := i64i _ (by omega) (by omega)
  have w2 : IntKind.i64.wrap ((i : Nat) + 2 : Int) = (i : Nat) + 2 := i64i _ (by omega) (by omega)
  have w3 : IntKind.i64.wrap ((i : Nat) + 3 : Int) = (i : Nat) + 3 := i64i _ (by omega) (by omega)
  by_cases h1 : isK wInt (nxt ts i) = true
  · rw [tyG_int h1]
    rw [h1] at q1
    obtain ⟨x, hx, _⟩ := isK_at h1
    have hil := (List.getElem?_eq_some_iff.1 hx).1
    have m := make7_row ts i (i + 1) 1 0 ⟨#[]⟩ [] hil (by omega) (by omega) (by omega)
    rw [Nat.add_sub_cancel] at m
    refine row_of Try.func48 rfl rfl (Nat.le_of_ble_eq_true rfl) ?_
    repeat' (first | refine aw_seq ?_ | refine aw_skip ?_ | refine aw_block ?_ | refine aw_exit ?_ | refine aw_cond rfl (fun _ => ?_) (fun hb => absurd hb (by decide)) | refine aw_cond rfl (fun hb => absurd hb (by decide)) (fun _ => ?_) | (refine aw_reg (fun K hK => ?_); simp -implicitDefEqProofs [w1]) | (refine aw_drw mixd (fun K hK => ?_); simp -implicitDefEqProofs [w1]) | refine hK _ ?_ | refine hK _ _ (by rfl) ?_ | (refine ar_call (cp q1 ?_); simp -implicitDefEqProofs [w1]) | (refine ard_call (dp q1 ?_); simp -implicitDefEqProofs [w1]) | (refine ar_call (cp m ?_); simp -implicitDefEqProofs [w1]) | (refine ard_call (dp m ?_); simp -implicitDefEqProofs [w1]) | fail)
    refine aw_ret (fin_ret ?_); simp -implicitDefEqProofs [FinP, resV, resT] <;> try rfl
  have h1 : isK wInt (nxt ts i) = false := by simpa using h1
  rw [h1] at q1
  by_cases h2 : isK wBool (nxt ts i) = true
  · rw [tyG_bool h1 h2]
    rw [h2] at q2
    obtain ⟨x, hx, _⟩ := isK_at h2
    have hil := (List.getElem?_eq_some_iff.1 hx).1
    have m := make7_row ts i (i + 1) 2 0 ⟨#[]⟩ [] hil (by omega) (by omega) (by omega)
    rw [Nat.add_sub_cancel] at m
    refine row_of Try.func48 rfl rfl (Nat.le_of_ble_eq_true rfl) ?_
    repeat' (first | refine aw_seq ?_ | refine aw_skip ?_ | refine aw_block ?_ | refine aw_exit ?_ | refine aw_cond rfl (fun _ => ?_) (fun hb => absurd hb (by decide)) | refine aw_cond rfl (fun hb => absurd hb (by decide)) (fun _ => ?_) | (refine aw_reg (fun K hK => ?_); simp -implicitDefEqProofs [w1]) | (refine aw_drw mixd (fun K hK => ?_); simp -implicitDefEqProofs [w1]) | refine hK _ ?_ | refine hK _ _ (by rfl) ?_ | (refine ar_call (cp q1 ?_); simp -implicitDefEqProofs [w1]) | (refine ard_call (dp q1 ?_); simp -implicitDefEqProofs [w1]) | (refine ar_call (cp q2 ?_); simp -implicitDefEqProofs [w1]) | (refine ard_call (dp q2 ?_); simp -implicitDefEqProofs [w1]) | (refine ar_call (cp m ?_); simp -implicitDefEqProofs [w1]) | (refine ard_call (dp m ?_); simp -implicitDefEqProofs [w1]) | fail)
    refine aw_ret (fin_ret ?_); simp -implicitDefEqProofs [FinP, resV, resT] <;> try rfl
  have h2 : isK wBool (nxt ts i) = false := by simpa using h2
  rw [h2] at q2
  by_cases h4 : (nxt ts i).k = 1
  · have h3 : isK sOpen (nxt ts i) = false := by unfold isK; rw [h4]; rfl
    rw [tyG_rec h1 h2 h3, if_pos h4]
    obtain ⟨x, hx, hxn, hxk⟩ := kind_at h4 (by omega)
    have hil := (List.getElem?_eq_some_iff.1 hx).1
    rw [hxn] at o ⊢
    obtain ⟨xk, xn, xs, xf, xt⟩ := x
    dsimp only at hxk
    subst hxk
    have m := make7_row ts i (i + 1) 4 0 xs [] hil (by omega) (by omega) (by omega)
    rw [Nat.add_sub_cancel] at m
    clear h1 h2 h3 h4 hx hxn
    refine row_of Try.func48 rfl rfl (Nat.le_of_ble_eq_true rfl) ?_
    repeat' (first | refine aw_seq ?_ | refine aw_skip ?_ | refine aw_block ?_ | refine aw_exit ?_ | refine aw_cond rfl (fun _ => ?_) (fun hb => absurd hb (by decide)) | refine aw_cond rfl (fun hb => absurd hb (by decide)) (fun _ => ?_) | (refine aw_reg (fun K hK => ?_); simp -implicitDefEqProofs [w1]) | (refine aw_drw mixd (fun K hK => ?_); simp -implicitDefEqProofs [w1]) | refine hK _ ?_ | refine hK _ _ (by rfl) ?_ | (refine ar_call (cp q1 ?_); simp -implicitDefEqProofs [w1]) | (refine ard_call (dp q1 ?_); simp -implicitDefEqProofs [w1]) | (refine ar_call (cp q2 ?_); simp -implicitDefEqProofs [w1]) | (refine ard_call (dp q2 ?_); simp -implicitDefEqProofs [w1]) | (refine ar_call (cp o ?_); simp -implicitDefEqProofs [w1]) | (refine ard_call (dp o ?_); simp -implicitDefEqProofs [w1]) | (refine ar_call (cp m ?_); simp -implicitDefEqProofs [w1]) | (refine ard_call (dp m ?_); simp -implicitDefEqProofs [w1]) | fail)
    refine aw_ret (fin_ret ?_); simp -implicitDefEqProofs [FinP, resV, resT] <;> try rfl
  obtain ⟨⟨ok, on, os, of', ot⟩, hon⟩ : ∃ x, nxt ts i = x := ⟨_, rfl⟩
  have h4' : ¬ ok = 1 := by rw [hon] at h4; exact h4
  by_cases h3 : isK sOpen (nxt ts i) = true; rotate_left
  · have h3 : isK sOpen (nxt ts i) = false := by simpa using h3
    rw [tyG_rec h1 h2 h3, if_neg h4]
    rw [h3] at q3
    rw [hon] at o
    have b := bad_row i
    clear h1 h2 h3 h4 hon
    refine row_of Try.func48 rfl rfl (Nat.le_of_ble_eq_true rfl) ?_
    repeat' (first | refine aw_seq ?_ | refine aw_skip ?_ | refine aw_block ?_ | refine aw_exit ?_ | refine aw_cond rfl (fun _ => ?_) (fun hb => absurd hb (by decide)) | refine aw_cond rfl (fun hb => absurd hb (by decide)) (fun _ => ?_) | (refine aw_reg (fun K hK => ?_); simp -implicitDefEqProofs [h4']) | (refine aw_drw mixd (fun K hK => ?_); simp -implicitDefEqProofs [h4']) | refine hK _ ?_ | refine hK _ _ (by rfl) ?_ | (refine ar_call (cp q1 ?_); simp -implicitDefEqProofs [h4']) | (refine ard_call (dp q1 ?_); simp -implicitDefEqProofs [h4']) | (refine ar_call (cp q2 ?_); simp -implicitDefEqProofs [h4']) | (refine ard_call (dp q2 ?_); simp -implicitDefEqProofs [h4']) | (refine ar_call (cp o ?_); simp -implicitDefEqProofs [h4']) | (refine ard_call (dp o ?_); simp -implicitDefEqProofs [h4']) | (refine ar_call (cp q3 ?_); simp -implicitDefEqProofs [h4']) | (refine ard_call (dp q3 ?_); simp -implicitDefEqProofs [h4']) | (refine ar_call (cp b ?_); simp -implicitDefEqProofs [h4']) | (refine ard_call (dp b ?_); simp -implicitDefEqProofs [h4']) | fail)
    refine aw_ret (fin_ret ?_); simp -implicitDefEqProofs [FinP, resV, resT, z0] <;> try rfl
  rw [tyG_arr h1 h2 h3]
  rw [h3] at q3
  rw [hon] at o
  obtain ⟨x, hx, _⟩ := isK_at h3
  have hil := (List.getElem?_eq_some_iff.1 hx).1
  have o1 := now_row ts (i + 1)
  clear h1 h2 h3 h4 hon hx
  by_cases h5 : (nxt ts (i + 1)).k = 2; rotate_left
  · rw [if_neg h5]
    obtain ⟨⟨pk, pn, ps, pf, pt⟩, hp⟩ : ∃ x, nxt ts (i + 1) = x := ⟨_, rfl⟩
    rw [hp] at o1 h5
    dsimp only at h5
    have b := bad_row (i + 1)
    refine row_of Try.func48 rfl rfl (Nat.le_of_ble_eq_true rfl) ?_
    repeat' (first | refine aw_seq ?_ | refine aw_skip ?_ | refine aw_block ?_ | refine aw_exit ?_ | refine aw_cond rfl (fun _ => ?_) (fun hb => absurd hb (by decide)) | refine aw_cond rfl (fun hb => absurd hb (by decide)) (fun _ => ?_) | (refine aw_reg (fun K hK => ?_); simp -implicitDefEqProofs [h4', h5, w1]) | (refine aw_drw mixd (fun K hK => ?_); simp -implicitDefEqProofs [h4', h5, w1]) | refine hK _ ?_ | refine hK _ _ (by rfl) ?_ | (refine ar_call (cp q1 ?_); simp -implicitDefEqProofs [h4', h5, w1]) | (refine ard_call (dp q1 ?_); simp -implicitDefEqProofs [h4', h5, w1]) | (refine ar_call (cp q2 ?_); simp -implicitDefEqProofs [h4', h5, w1]) | (refine ard_call (dp q2 ?_); simp -implicitDefEqProofs [h4', h5, w1]) | (refine ar_call (cp o ?_); simp -implicitDefEqProofs [h4', h5, w1]) | (refine ard_call (dp o ?_); simp -implicitDefEqProofs [h4', h5, w1]) | (refine ar_call (cp q3 ?_); simp -implicitDefEqProofs [h4', h5, w1]) | (refine ard_call (dp q3 ?_); simp -implicitDefEqProofs [h4', h5, w1]) | (refine ar_call (cp o1 ?_); simp -implicitDefEqProofs [h4', h5, w1]) | (refine ard_call (dp o1 ?_); simp -implicitDefEqProofs [h4', h5, w1]) | (refine ar_call (cp b ?_); simp -implicitDefEqProofs [h4', h5, w1]) | (refine ard_call (dp b ?_); simp -implicitDefEqProofs [h4', h5, w1]) | fail)
    refine aw_ret (fin_ret ?_); simp -implicitDefEqProofs [FinP, resV, resT, z0] <;> try rfl
  rw [if_pos h5]
  obtain ⟨⟨pk, pn, ps, pf, pt⟩, hp⟩ : ∃ x, nxt ts (i + 1) = x := ⟨_, rfl⟩
  rw [hp] at o1 h5 ⊢
  dsimp only at h5 ⊢
  subst h5
  have q4 := sign_row ts (i + 2) sShut
  rw [sign_is (by decide)] at q4
  by_cases h6 : isK sShut (nxt ts (i + 2)) = true; rotate_left
  · rw [if_neg h6]
    rw [show isK sShut (nxt ts (i + 2)) = false by simpa using h6] at q4
    have b := bad_row (i + 2)
    clear h6 hp
    refine row_of Try.func48 rfl rfl (Nat.le_of_ble_eq_true rfl) ?_
    repeat' (first | refine aw_seq ?_ | refine aw_skip ?_ | refine aw_block ?_ | refine aw_exit ?_ | refine aw_cond rfl (fun _ => ?_) (fun hb => absurd hb (by decide)) | refine aw_cond rfl (fun hb => absurd hb (by decide)) (fun _ => ?_) | (refine aw_reg (fun K hK => ?_); simp -implicitDefEqProofs [h4', w1, w2]) | (refine aw_drw mixd (fun K hK => ?_); simp -implicitDefEqProofs [h4', w1, w2]) | refine hK _ ?_ | refine hK _ _ (by rfl) ?_ | (refine ar_call (cp q1 ?_); simp -implicitDefEqProofs [h4', w1, w2]) | (refine ard_call (dp q1 ?_); simp -implicitDefEqProofs [h4', w1, w2]) | (refine ar_call (cp q2 ?_); simp -implicitDefEqProofs [h4', w1, w2]) | (refine ard_call (dp q2 ?_); simp -implicitDefEqProofs [h4', w1, w2]) | (refine ar_call (cp o ?_); simp -implicitDefEqProofs [h4', w1, w2]) | (refine ard_call (dp o ?_); simp -implicitDefEqProofs [h4', w1, w2]) | (refine ar_call (cp q3 ?_); simp -implicitDefEqProofs [h4', w1, w2]) | (refine ard_call (dp q3 ?_); simp -implicitDefEqProofs [h4', w1, w2]) | (refine ar_call (cp o1 ?_); simp -implicitDefEqProofs [h4', w1, w2]) | (refine ard_call (dp o1 ?_); simp -implicitDefEqProofs [h4', w1, w2]) | (refine ar_call (cp q4 ?_); simp -implicitDefEqProofs [h4', w1, w2]) | (refine ard_call (dp q4 ?_); simp -implicitDefEqProofs [h4', w1, w2]) | (refine ar_call (cp b ?_); simp -implicitDefEqProofs [h4', w1, w2]) | (refine ard_call (dp b ?_); simp -implicitDefEqProofs [h4', w1, w2]) | fail)
    refine aw_ret (fin_ret ?_); simp -implicitDefEqProofs [FinP, resV, resT, z0] <;> try rfl
  rw [if_pos h6]
  rw [h6] at q4
  obtain ⟨z, hz, _⟩ := isK_at h6
  have hil2 := (List.getElem?_eq_some_iff.1 hz).1
  have y1 := ih (i + 3) (by omega) (by omega)
  obtain ⟨g1, g2, g3, _⟩ := tyG_ok ts n (i + 3)
  obtain ⟨⟨⟨px, pl⟩, j, e⟩, hr⟩ : ∃ r, tyG ts n (i + 3) = r := ⟨_, rfl⟩
  rw [hr] at y1 g1 g2 g3 ⊢
  dsimp only at g1 g2 g3 ⊢
  clear hr ih hz h6 hp
  by_cases he : e = 0
  · subst he
    rw [if_pos rfl]
    obtain ⟨g4, g5⟩ := g1 rfl
    have m := make7_row ts i j 3 pn ⟨#[]⟩ [.mk px pl] hil (by omega) g5 (by omega)
    refine row_of Try.func48 rfl rfl (Nat.le_of_ble_eq_true rfl) ?_
    repeat' (first | refine aw_seq ?_ | refine aw_skip ?_ | refine aw_block ?_ | refine aw_exit ?_ | refine aw_cond rfl (fun _ => ?_) (fun hb => absurd hb (by decide)) | refine aw_cond rfl (fun hb => absurd hb (by decide)) (fun _ => ?_) | (refine aw_reg (fun K hK => ?_); simp -implicitDefEqProofs [h4', w1, w2, w3]) | (refine aw_drw mixd (fun K hK => ?_); simp -implicitDefEqProofs [h4', w1, w2, w3]) | refine hK _ ?_ | refine hK _ _ (by rfl) ?_ | (refine ar_call (cp q1 ?_); simp -implicitDefEqProofs [h4', w1, w2, w3]) | (refine ard_call (dp q1 ?_); simp -implicitDefEqProofs [h4', w1, w2, w3]) | (refine ar_call (cp q2 ?_); simp -implicitDefEqProofs [h4', w1, w2, w3]) | (refine ard_call (dp q2 ?_); simp -implicitDefEqProofs [h4', w1, w2, w3]) | (refine ar_call (cp o ?_); simp -implicitDefEqProofs [h4', w1, w2, w3]) | (refine ard_call (dp o ?_); simp -implicitDefEqProofs [h4', w1, w2, w3]) | (refine ar_call (cp q3 ?_); simp -implicitDefEqProofs [h4', w1, w2, w3]) | (refine ard_call (dp q3 ?_); simp -implicitDefEqProofs [h4', w1, w2, w3]) | (refine ar_call (cp o1 ?_); simp -implicitDefEqProofs [h4', w1, w2, w3]) | (refine ard_call (dp o1 ?_); simp -implicitDefEqProofs [h4', w1, w2, w3]) | (refine ar_call (cp q4 ?_); simp -implicitDefEqProofs [h4', w1, w2, w3]) | (refine ard_call (dp q4 ?_); simp -implicitDefEqProofs [h4', w1, w2, w3]) | (refine ar_call (cp y1 ?_); simp -implicitDefEqProofs [h4', w1, w2, w3]) | (refine ard_call (dp y1 ?_); simp -implicitDefEqProofs [h4', w1, w2, w3]) | (refine ar_call (cp m ?_); simp -implicitDefEqProofs [h4', w1, w2, w3]) | (refine ard_call (dp m ?_); simp -implicitDefEqProofs [h4', w1, w2, w3]) | fail)
    refine aw_ret (fin_ret ?_); simp -implicitDefEqProofs [FinP, resV, resT] <;> try rfl
  · rw [if_neg he]
    clear g1 g2 g3
    refine row_of Try.func48 rfl rfl (Nat.le_of_ble_eq_true rfl) ?_
    repeat' (first | refine aw_seq ?_ | refine aw_skip ?_ | refine aw_block ?_ | refine aw_exit ?_ | refine aw_cond rfl (fun _ => ?_) (fun hb => absurd hb (by decide)) | refine aw_cond rfl (fun hb => absurd hb (by decide)) (fun _ => ?_) | (refine aw_reg (fun K hK => ?_); simp -implicitDefEqProofs [h4', w1, w2, w3, he]) | (refine aw_drw mixd (fun K hK => ?_); simp -implicitDefEqProofs [h4', w1, w2, w3, he]) | refine hK _ ?_ | refine hK _ _ (by rfl) ?_ | (refine ar_call (cp q1 ?_); simp -implicitDefEqProofs [h4', w1, w2, w3, he]) | (refine ard_call (dp q1 ?_); simp -implicitDefEqProofs [h4', w1, w2, w3, he]) | (refine ar_call (cp q2 ?_); simp -implicitDefEqProofs [h4', w1, w2, w3, he]) | (refine ard_call (dp q2 ?_); simp -implicitDefEqProofs [h4', w1, w2, w3, he]) | (refine ar_call (cp o ?_); simp -implicitDefEqProofs [h4', w1, w2, w3, he]) | (refine ard_call (dp o ?_); simp -implicitDefEqProofs [h4', w1, w2, w3, he]) | (refine ar_call (cp q3 ?_); simp -implicitDefEqProofs [h4', w1, w2, w3, he]) | (refine ard_call (dp q3 ?_); simp -implicitDefEqProofs [h4', w1, w2, w3, he]) | (refine ar_call (cp o1 ?_); simp -implicitDefEqProofs [h4', w1, w2, w3, he]) | (refine ard_call (dp o1 ?_); simp -implicitDefEqProofs [h4', w1, w2, w3, he]) | (refine ar_call (cp q4 ?_); simp -implicitDefEqProofs [h4', w1, w2, w3, he]) | (refine ard_call (dp q4 ?_); simp -implicitDefEqProofs [h4', w1, w2, w3, he]) | (refine ar_call (cp y1 ?_); simp -implicitDefEqProofs [h4', w1, w2, w3, he]) | (refine ard_call (dp y1 ?_); simp -implicitDefEqProofs [h4', w1, w2, w3, he]) | fail)
    refine aw_ret (fin_ret ?_); simp -implicitDefEqProofs [FinP, resV, resT] <;> try rfl
end Go.Proofs.Ythcnligihpnfiaa.am
