/-
  Layers 7 to 9: the program's reader of tokens: what may come, what must; a new term.
-/
import Derived.Test.YthcnligihpnfiaaRowTok
namespace Go.Proofs.Ythcnligihpnfiaa.am
open Go.ChangeShapes Go.WideShapes Go.ChangeAt Go.RowKit
open vt
set_option linter.unusedVariables false
set_option linter.unusedSimpArgs false
set_option maxRecDepth 100000 in
set_option maxHeartbeats 4000000 in
theorem take_yes (ts : List Tok) (i : Nat) (s : ByteArray) (hs : s.size ≤ 1000) (hl : ts.length ≤ 9223372036854775807) (h : isK s (nxt ts i) = true) : Row Try.prog 50 [vR, vS s] [rd ts i 0] (vB true) [some (rd ts (i + 1) 0)] := by
  obtain ⟨x, hx, _⟩ := isK_at h
  have hi := (List.getElem?_eq_some_iff.1 hx).1
  have h1 := is7_row ts i 0 s hs
  have h2 := skip_row ts i 0 hl
  rw [h] at h1
  rw [if_pos ⟨rfl, hi⟩] at h2
  refine row_of Try.func50 rfl rfl (Nat.le_of_ble_eq_true rfl) ?_
  repeat' (first | refine aw_seq ?_ | refine aw_skip ?_ | refine aw_block ?_ | refine aw_exit ?_ | refine aw_cond rfl (fun _ => ?_) (fun hb => absurd hb (by decide)) | refine aw_cond rfl (fun hb => absurd hb (by decide)) (fun _ => ?_) | (refine aw_reg (fun K hK => ?_); simp -implicitDefEqProofs) | (refine aw_drw mixd (fun K hK => ?_); simp -implicitDefEqProofs) | refine hK _ ?_ | refine hK _ _ (by rfl) ?_ | (refine ar_call (cb h1 0 ?_); simp -implicitDefEqProofs) | (refine ard_call (db h1 0 ?_); simp -implicitDefEqProofs) | (refine ar_call (cb h2 0 ?_); simp -implicitDefEqProofs) | (refine ard_call (db h2 0 ?_); simp -implicitDefEqProofs) | fail)
  refine aw_ret (fin_box ?_); simp -implicitDefEqProofs [FinB, resV, resT] <;> try rfl
set_option maxRecDepth 100000 in
set_option maxHeartbeats 4000000 in
theorem take_no (ts : List Tok) (i : Nat) (e : Int) (s : ByteArray) (hs : s.size ≤ 1000) (h : e ≠ 0 ∨ isK s (nxt ts i) = false) : Row Try.prog 50 [vR, vS s] [rd ts i e] (vB false) [some (rd ts i e)] := by
  have h1 := is7_row ts i e s hs
  rw [show (decide (e = 0) && isK s (nxt ts i)) = false by rcases h with h | h <;> simp [h]] at h1
  refine row_of Try.func50 rfl rfl (Nat.le_of_ble_eq_true rfl) ?_
  repeat' (first | refine aw_seq ?_ | refine aw_skip ?_ | refine aw_block ?_ | refine aw_exit ?_ | refine aw_cond rfl (fun _ => ?_) (fun hb => absurd hb (by decide)) | refine aw_cond rfl (fun hb => absurd hb (by decide)) (fun _ => ?_) | (refine aw_reg (fun K hK => ?_); simp -implicitDefEqProofs) | (refine aw_drw mixd (fun K hK => ?_); simp -implicitDefEqProofs) | refine hK _ ?_ | refine hK _ _ (by rfl) ?_ | (refine ar_call (cb h1 0 ?_); simp -implicitDefEqProofs) | (refine ard_call (db h1 0 ?_); simp -implicitDefEqProofs) | fail)
  refine aw_ret (fin_box ?_); simp -implicitDefEqProofs [FinB, resV, resT] <;> try rfl
set_option maxRecDepth 100000 in
set_option maxHeartbeats 4000000 in
theorem want_yes (ts : List Tok) (i : Nat) (s : ByteArray) (hs : s.size ≤ 1000) (hl : ts.length ≤ 9223372036854775807) (h : isK s (nxt ts i) = true) : Row Try.prog 49 [vR, vS s] [rd ts i 0] (.tup []) [some (rd ts (i + 1) 0)] := by
  have h1 := take_yes ts i s hs hl h
  refine row_of Try.func49 rfl rfl (Nat.le_of_ble_eq_true rfl) ?_
  repeat' (first | refine aw_seq ?_ | refine aw_skip ?_ | refine aw_block ?_ | refine aw_exit ?_ | refine aw_cond rfl (fun _ => ?_) (fun hb => absurd hb (by decide)) | refine aw_cond rfl (fun hb => absurd hb (by decide)) (fun _ => ?_) | (refine aw_reg (fun K hK => ?_); simp -implicitDefEqProofs) | (refine aw_drw mixd (fun K hK => ?_); simp -implicitDefEqProofs) | refine hK _ ?_ | refine hK _ _ (by rfl) ?_ | (refine ar_call (cb h1 0 ?_); simp -implicitDefEqProofs) | (refine ard_call (db h1 0 ?_); simp -implicitDefEqProofs) | fail)
  refine fin_fall (fin_box ?_); simp -implicitDefEqProofs [FinB, resV, resT] <;> try rfl
set_option maxRecDepth 100000 in
set_option maxHeartbeats 4000000 in
theorem want_no (ts : List Tok) (i : Nat) (e : Int) (s : ByteArray) (hs : s.size ≤ 1000) (h : e ≠ 0 ∨ isK s (nxt ts i) = false) : Row Try.prog 49 [vR, vS s] [rd ts i e] (.tup []) [some (rd ts i (er e))] := by
  have h1 := take_no ts i e s hs h
  have h2 := fail_row ts i e
  refine row_of Try.func49 rfl rfl (Nat.le_of_ble_eq_true rfl) ?_
  repeat' (first | refine aw_seq ?_ | refine aw_skip ?_ | refine aw_block ?_ | refine aw_exit ?_ | refine aw_cond rfl (fun _ => ?_) (fun hb => absurd hb (by decide)) | refine aw_cond rfl (fun hb => absurd hb (by decide)) (fun _ => ?_) | (refine aw_reg (fun K hK => ?_); simp -implicitDefEqProofs) | (refine aw_drw mixd (fun K hK => ?_); simp -implicitDefEqProofs) | refine hK _ ?_ | refine hK _ _ (by rfl) ?_ | (refine ar_call (cb h1 0 ?_); simp -implicitDefEqProofs) | (refine ard_call (db h1 0 ?_); simp -implicitDefEqProofs) | (refine ar_call (cb h2 0 ?_); simp -implicitDefEqProofs) | (refine ard_call (db h2 0 ?_); simp -implicitDefEqProofs) | fail)
  refine fin_fall (fin_box ?_); simp -implicitDefEqProofs [FinB, resV, resT] <;> try rfl
set_option maxRecDepth 100000 in
set_option maxHeartbeats 4000000 in
theorem kind_yes (ts : List Tok) (i : Nat) (k : Int) (x : Tok) (hl : ts.length ≤ 9223372036854775807) (hx : ts[i]? = some x) (hk : x.k = k) : Row Try.prog 67 [vR, vI k] [rd ts i 0] (vK x) [some (rd ts (i + 1) 0)] := by
  have hi := (List.getElem?_eq_some_iff.1 hx).1
  have h1 := next_row ts i 0
  rw [nxt_some hx] at h1
  have h2 := goes_row ts i 0
  have h3 := skip_row ts i 0 hl
  rw [if_pos ⟨rfl, hi⟩] at h3
  obtain ⟨xk, xn, xs, xf, xt⟩ := x
  dsimp only at hk
  subst hk
  refine row_of Try.func67 rfl rfl (Nat.le_of_ble_eq_true rfl) ?_
  repeat' (first | refine aw_seq ?_ | refine aw_skip ?_ | refine aw_block ?_ | refine aw_exit ?_ | refine aw_cond rfl (fun _ => ?_) (fun hb => absurd hb (by decide)) | refine aw_cond rfl (fun hb => absurd hb (by decide)) (fun _ => ?_) | (refine aw_reg (fun K hK => ?_); simp -implicitDefEqProofs) | (refine aw_drw mixd (fun K hK => ?_); simp -implicitDefEqProofs) | refine hK _ ?_ | refine hK _ _ (by rfl) ?_ | (refine ar_call (cb h1 0 ?_); simp -implicitDefEqProofs) | (refine ard_call (db h1 0 ?_); simp -implicitDefEqProofs) | (refine ar_call (cb h2 0 ?_); simp -implicitDefEqProofs) | (refine ard_call (db h2 0 ?_); simp -implicitDefEqProofs) | (refine ar_call (cb h3 0 ?_); simp -implicitDefEqProofs) | (refine ard_call (db h3 0 ?_); simp -implicitDefEqProofs) | fail)
  refine aw_ret (fin_box ?_); simp -implicitDefEqProofs [FinB, resV, resT] <;> try rfl
set_option maxRecDepth 100000 in
set_option maxHeartbeats 4000000 in
theorem kind_no (ts : List Tok) (i : Nat) (e : Int) (k : Int) (h : e ≠ 0 ∨ (nxt ts i).k ≠ k) : Row Try.prog 67 [vR, vI k] [rd ts i e] (vK zK) [some (rd ts i (er e))] := by
  have h1 := next_row ts i e
  have h2 := goes_row ts i e
  have h3 := fail_row ts i e
  obtain ⟨⟨xk, xn, xs, xf, xt⟩, hx⟩ : ∃ x, nxt ts i = x := ⟨_, rfl⟩
  rw [hx] at h1 h
  dsimp only at h
  refine row_of Try.func67 rfl rfl (Nat.le_of_ble_eq_true rfl) ?_
  by_cases he : e = 0
  · have hk : ¬ xk = k := by rcases h with h | h; exact absurd he h; exact h
    subst he
    repeat' (first | refine aw_seq ?_ | refine aw_skip ?_ | refine aw_block ?_ | refine aw_exit ?_ | refine aw_cond rfl (fun _ => ?_) (fun hb => absurd hb (by decide)) | refine aw_cond rfl (fun hb => absurd hb (by decide)) (fun _ => ?_) | (refine aw_reg (fun K hK => ?_); simp -implicitDefEqProofs [hk]) | (refine aw_drw mixd (fun K hK => ?_); simp -implicitDefEqProofs [hk]) | refine hK _ ?_ | refine hK _ _ (by rfl) ?_ | (refine ar_call (cb h1 0 ?_); simp -implicitDefEqProofs [hk]) | (refine ard_call (db h1 0 ?_); simp -implicitDefEqProofs [hk]) | (refine ar_call (cb h2 0 ?_); simp -implicitDefEqProofs [hk]) | (refine ard_call (db h2 0 ?_); simp -implicitDefEqProofs [hk]) | (refine ar_call (cb h3 0 ?_); simp -implicitDefEqProofs [hk]) | (refine ard_call (db h3 0 ?_); simp -implicitDefEqProofs [hk]) | fail)
    refine aw_ret (fin_box ?_); simp -implicitDefEqProofs [FinB, resV, resT, zK] <;> try rfl
  · repeat' (first | refine aw_seq ?_ | refine aw_skip ?_ | refine aw_block ?_ | refine aw_exit ?_ | refine aw_cond rfl (fun _ => ?_) (fun hb => absurd hb (by decide)) | refine aw_cond rfl (fun hb => absurd hb (by decide)) (fun _ => ?_) | (refine aw_reg (fun K hK => ?_); simp -implicitDefEqProofs [he]) | (refine aw_drw mixd (fun K hK => ?_); simp -implicitDefEqProofs [he]) | refine hK _ ?_ | refine hK _ _ (by rfl) ?_ | (refine ar_call (cb h1 0 ?_); simp -implicitDefEqProofs [he]) | (refine ard_call (db h1 0 ?_); simp -implicitDefEqProofs [he]) | (refine ar_call (cb h2 0 ?_); simp -implicitDefEqProofs [he]) | (refine ard_call (db h2 0 ?_); simp -implicitDefEqProofs [he]) | (refine ar_call (cb h3 0 ?_); simp -implicitDefEqProofs [he]) | (refine ard_call (db h3 0 ?_); simp -implicitDefEqProofs [he]) | fail)
    refine aw_ret (fin_box ?_); simp -implicitDefEqProofs [FinB, resV, resT, zK] <;> try rfl
set_option maxRecDepth 100000 in
set_option maxHeartbeats 4000000 in
theorem node_no (ts : List Tok) (i : Nat) (e : Int) (h : e ≠ 0) (a : Int) (t : VT) : Row Try.prog 51 [vR, vI a, vT t] [rd ts i e] (vT z0) [some (rd ts i e)] := by
  have h2 := goes_row ts i e
  obtain ⟨x, l⟩ := t
  refine row_of Try.func51 rfl rfl (Nat.le_of_ble_eq_true rfl) ?_
  repeat' (first | refine aw_seq ?_ | refine aw_skip ?_ | refine aw_block ?_ | refine aw_exit ?_ | refine aw_cond rfl (fun _ => ?_) (fun hb => absurd hb (by decide)) | refine aw_cond rfl (fun hb => absurd hb (by decide)) (fun _ => ?_) | (refine aw_reg (fun K hK => ?_); simp -implicitDefEqProofs [h]) | (refine aw_drw mixd (fun K hK => ?_); simp -implicitDefEqProofs [h]) | refine hK _ ?_ | refine hK _ _ (by rfl) ?_ | (refine ar_call (cb h2 0 ?_); simp -implicitDefEqProofs [h]) | (refine ard_call (db h2 0 ?_); simp -implicitDefEqProofs [h]) | fail)
  refine aw_ret (fin_box ?_); simp -implicitDefEqProofs [FinB, resV, resT, z0] <;> try rfl
set_option maxRecDepth 100000 in
set_option maxHeartbeats 4000000 in
theorem node_yes (ts : List Tok) (i : Nat) (a : Nat) (x : Lab) (l : List VT) (ha : a < ts.length) (h0 : 0 < i) (hi : i ≤ ts.length) (hl : ts.length ≤ 9223372036854775807) : Row Try.prog 51 [vR, vI a, vT (.mk x l)] [rd ts i 0] (vT (.mk ⟨x.k, x.n, x.s, frT ts a, toT ts (i - 1)⟩ l)) [some (rd ts i 0)] := by
  have h2 := goes_row ts i 0
  obtain ⟨y, hy⟩ : ∃ y, ts[a]? = some y := ⟨_, List.getElem?_eq_getElem ha⟩
  have hy' := (List.getElem?_eq_some_iff.1 hy).2
  have hi1 : i - 1 < ts.length := by omega
  obtain ⟨z, hz⟩ : ∃ z, ts[i - 1]? = some z := ⟨_, List.getElem?_eq_getElem hi1⟩
  have hz' := (List.getElem?_eq_some_iff.1 hz).2
  rw [show frT ts a = y.f by unfold frT; rw [nxt_some hy], show toT ts (i - 1) = z.t by unfold toT; rw [nxt_some hz]]
  obtain ⟨j, rfl⟩ : ∃ j, i = j + 1 := ⟨i - 1, by omega⟩
  have e1 : j + 1 - 1 = j := by omega
  rw [e1] at hz hi1
  have hz' := (List.getElem?_eq_some_iff.1 hz).2
  have w : IntKind.i64.wrap (((j + 1 : Nat) : Int) - 1) = (j : Nat) := by rw [i64i _ (by omega) (by omega)]; omega
  have w' : IntKind.i64.wrap ((j : Int) + 1 - 1) = (j : Nat) := by rw [i64i _ (by omega) (by omega)]; omega
  refine row_of Try.func51 rfl rfl (Nat.le_of_ble_eq_true rfl) ?_
  have wj : IntKind.i64.wrap ((j : Nat) : Int) = (j : Nat) := i64i _ (by omega) (by omega)
  repeat' (first | refine aw_seq ?_ | refine aw_skip ?_ | refine aw_block ?_ | refine aw_exit ?_ | refine aw_cond rfl (fun _ => ?_) (fun hb => absurd hb (by decide)) | refine aw_cond rfl (fun hb => absurd hb (by decide)) (fun _ => ?_) | (refine aw_reg (fun K hK => ?_); simp -implicitDefEqProofs [ha, hy, hy', hz, hz', hi1, w, w', wj]) | (refine aw_drw mixd (fun K hK => ?_); simp -implicitDefEqProofs [ha, hy, hy', hz, hz', hi1, w, w', wj]) | refine hK _ ?_ | refine hK _ _ (by rfl) ?_ | (refine ar_call (cb h2 0 ?_); simp -implicitDefEqProofs [ha, hy, hy', hz, hz', hi1, w, w', wj]) | (refine ard_call (db h2 0 ?_); simp -implicitDefEqProofs [ha, hy, hy', hz, hz', hi1, w, w', wj]) | fail)
  refine aw_ret (fin_box ?_); simp -implicitDefEqProofs [FinB, resV, resT] <;> try rfl
end Go.Proofs.Ythcnligihpnfiaa.am
