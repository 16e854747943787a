import Derived.Test.YtlkggpjdaaglmaaGreatDoorPkB15
import Derived.Test.YtlkggpjdaaglmaaGreatDoorPkB5
import Derived.Test.YtlkggpjdaaglmaaGreatDoorPkB4
section
namespace Go.Proofs.YtlkggpjdaaglmaaGreatDoor.am
open Go.ChangeShapes Go.WideShapes Go.ChangeAt Go.RowKit
open vt
set_option linter.unusedVariables false
set_option linter.unusedSimpArgs false
set_option maxRecDepth 100000 in
set_option maxHeartbeats 4000000 in
theorem take_yes (ts : List Tok) (i : Nat) (s : ByteArray) (hs : s.size ≤ 1000) (hl : ts.length ≤ 9223372036854775807) (h : isK s (nxt ts i) = true) : Row Tryz.prog 54 [vR, vS s] [rd ts i 0] (vB true) [some (rd ts (i + 1) 0)] := by
  obtain ⟨x, hx, _⟩ := isK_at h
  have hi := (List.getElem?_eq_some_iff.1 hx).1
  have h1 := is7_row ts i 0 s hs
  have h2 := skip_row ts i 0 hl
  rw [h] at h1
  rw [if_pos ⟨rfl, hi⟩] at h2
  refine row_of Tryz.func54 rfl rfl (Nat.le_of_ble_eq_true rfl) ?_
  repeat' (first | refine aw_seq ?_ | refine aw_skip ?_ | refine aw_block ?_ | refine aw_exit ?_ | refine aw_ct rfl ?_ | refine aw_cf rfl ?_ | ((first | refine aw_reg (fun K hK => ?_) | refine aw_drw mixd (fun K hK => ?_) | refine ar_call (cb h1 0 ?_) | refine ard_call (db h1 0 ?_) | refine ar_call (cb h2 0 ?_) | refine ard_call (db h2 0 ?_) | fail); simp -implicitDefEqProofs) | refine hK _ ?_ | refine hK _ _ (by rfl) ?_ | fail)
  refine aw_ret (fin_box ?_); simp -implicitDefEqProofs [FinB, resV, resT] <;> try rfl
set_option maxRecDepth 100000 in
set_option maxHeartbeats 4000000 in
theorem take_no (ts : List Tok) (i : Nat) (e : Int) (s : ByteArray) (hs : s.size ≤ 1000) (h : e ≠ 0 ∨ isK s (nxt ts i) = false) : Row Tryz.prog 54 [vR, vS s] [rd ts i e] (vB false) [some (rd ts i e)] := by
  have h1 := is7_row ts i e s hs
  rw [show (decide (e = 0) && isK s (nxt ts i)) = false by rcases h with h | h <;> simp [h]] at h1
  refine row_of Tryz.func54 rfl rfl (Nat.le_of_ble_eq_true rfl) ?_
  repeat' (first | refine aw_seq ?_ | refine aw_skip ?_ | refine aw_block ?_ | refine aw_exit ?_ | refine aw_ct rfl ?_ | refine aw_cf rfl ?_ | ((first | refine aw_reg (fun K hK => ?_) | refine aw_drw mixd (fun K hK => ?_) | refine ar_call (cb h1 0 ?_) | refine ard_call (db h1 0 ?_) | fail); simp -implicitDefEqProofs) | refine hK _ ?_ | refine hK _ _ (by rfl) ?_ | fail)
  refine aw_ret (fin_box ?_); simp -implicitDefEqProofs [FinB, resV, resT] <;> try rfl
set_option maxRecDepth 100000 in
set_option maxHeartbeats 4000000 in
theorem want_yes (ts : List Tok) (i : Nat) (s : ByteArray) (hs : s.size ≤ 1000) (hl : ts.length ≤ 9223372036854775807) (h : isK s (nxt ts i) = true) : Row Tryz.prog 58 [vR, vS s] [rd ts i 0] (.tup []) [some (rd ts (i + 1) 0)] := by
  have h1 := take_yes ts i s hs hl h
  refine row_of Tryz.func58 rfl rfl (Nat.le_of_ble_eq_true rfl) ?_
  repeat' (first | refine aw_seq ?_ | refine aw_skip ?_ | refine aw_block ?_ | refine aw_exit ?_ | refine aw_ct rfl ?_ | refine aw_cf rfl ?_ | ((first | refine aw_reg (fun K hK => ?_) | refine aw_drw mixd (fun K hK => ?_) | refine ar_call (cb h1 0 ?_) | refine ard_call (db h1 0 ?_) | fail); simp -implicitDefEqProofs) | refine hK _ ?_ | refine hK _ _ (by rfl) ?_ | fail)
  refine fin_fall (fin_box ?_); simp -implicitDefEqProofs [FinB, resV, resT] <;> try rfl
set_option maxRecDepth 100000 in
set_option maxHeartbeats 4000000 in
theorem want_no (ts : List Tok) (i : Nat) (e : Int) (s : ByteArray) (hs : s.size ≤ 1000) (h : e ≠ 0 ∨ isK s (nxt ts i) = false) : Row Tryz.prog 58 [vR, vS s] [rd ts i e] (.tup []) [some (rd ts i (er e))] := by
  have h1 := take_no ts i e s hs h
  have h2 := fail_row ts i e
  refine row_of Tryz.func58 rfl rfl (Nat.le_of_ble_eq_true rfl) ?_
  repeat' (first | refine aw_seq ?_ | refine aw_skip ?_ | refine aw_block ?_ | refine aw_exit ?_ | refine aw_ct rfl ?_ | refine aw_cf rfl ?_ | ((first | refine aw_reg (fun K hK => ?_) | refine aw_drw mixd (fun K hK => ?_) | refine ar_call (cb h1 0 ?_) | refine ard_call (db h1 0 ?_) | refine ar_call (cb h2 0 ?_) | refine ard_call (db h2 0 ?_) | fail); simp -implicitDefEqProofs) | refine hK _ ?_ | refine hK _ _ (by rfl) ?_ | fail)
  refine fin_fall (fin_box ?_); simp -implicitDefEqProofs [FinB, resV, resT] <;> try rfl
set_option maxRecDepth 100000 in
set_option maxHeartbeats 4000000 in
theorem kind_yes (ts : List Tok) (i : Nat) (k : Int) (x : Tok) (hl : ts.length ≤ 9223372036854775807) (hx : ts[i]? = some x) (hk : x.k = k) : Row Tryz.prog 103 [vR, vI k] [rd ts i 0] (vK x) [some (rd ts (i + 1) 0)] := by
  have hi := (List.getElem?_eq_some_iff.1 hx).1
  have h1 := next_row ts i 0
  rw [nxt_some hx] at h1
  have h2 := goes_row ts i 0
  have h3 := skip_row ts i 0 hl
  rw [if_pos ⟨rfl, hi⟩] at h3
  obtain ⟨xk, xn, xs, xf, xt⟩ := x
  dsimp only at hk
  subst hk
  refine row_of Tryz.func103 rfl rfl (Nat.le_of_ble_eq_true rfl) ?_
  repeat' (first | refine aw_seq ?_ | refine aw_skip ?_ | refine aw_block ?_ | refine aw_exit ?_ | refine aw_ct rfl ?_ | refine aw_cf rfl ?_ | ((first | refine aw_reg (fun K hK => ?_) | refine aw_drw mixd (fun K hK => ?_) | refine ar_call (cb h1 0 ?_) | refine ard_call (db h1 0 ?_) | refine ar_call (cb h2 0 ?_) | refine ard_call (db h2 0 ?_) | refine ar_call (cb h3 0 ?_) | refine ard_call (db h3 0 ?_) | fail); simp -implicitDefEqProofs) | refine hK _ ?_ | refine hK _ _ (by rfl) ?_ | fail)
  refine aw_ret (fin_box ?_); simp -implicitDefEqProofs [FinB, resV, resT] <;> try rfl
set_option maxRecDepth 100000 in
set_option maxHeartbeats 4000000 in
theorem kind_no (ts : List Tok) (i : Nat) (e : Int) (k : Int) (h : e ≠ 0 ∨ (nxt ts i).k ≠ k) : Row Tryz.prog 103 [vR, vI k] [rd ts i e] (vK zK) [some (rd ts i (er e))] := by
  have h1 := next_row ts i e
  have h2 := goes_row ts i e
  have h3 := fail_row ts i e
  obtain ⟨⟨xk, xn, xs, xf, xt⟩, hx⟩ : ∃ x, nxt ts i = x := ⟨_, rfl⟩
  rw [hx] at h1 h
  dsimp only at h
  refine row_of Tryz.func103 rfl rfl (Nat.le_of_ble_eq_true rfl) ?_
  by_cases he : e = 0
  · have hk : ¬ xk = k := by rcases h with h | h; exact absurd he h; exact h
    subst he
    repeat' (first | refine aw_seq ?_ | refine aw_skip ?_ | refine aw_block ?_ | refine aw_exit ?_ | refine aw_ct rfl ?_ | refine aw_cf rfl ?_ | ((first | refine aw_reg (fun K hK => ?_) | refine aw_drw mixd (fun K hK => ?_) | refine ar_call (cb h1 0 ?_) | refine ard_call (db h1 0 ?_) | refine ar_call (cb h2 0 ?_) | refine ard_call (db h2 0 ?_) | refine ar_call (cb h3 0 ?_) | refine ard_call (db h3 0 ?_) | fail); simp -implicitDefEqProofs [hk]) | refine hK _ ?_ | refine hK _ _ (by rfl) ?_ | fail)
    refine aw_ret (fin_box ?_); simp -implicitDefEqProofs [FinB, resV, resT, zK] <;> try rfl
  · repeat' (first | refine aw_seq ?_ | refine aw_skip ?_ | refine aw_block ?_ | refine aw_exit ?_ | refine aw_ct rfl ?_ | refine aw_cf rfl ?_ | ((first | refine aw_reg (fun K hK => ?_) | refine aw_drw mixd (fun K hK => ?_) | refine ar_call (cb h1 0 ?_) | refine ard_call (db h1 0 ?_) | refine ar_call (cb h2 0 ?_) | refine ard_call (db h2 0 ?_) | refine ar_call (cb h3 0 ?_) | refine ard_call (db h3 0 ?_) | fail); simp -implicitDefEqProofs [he]) | refine hK _ ?_ | refine hK _ _ (by rfl) ?_ | fail)
    refine aw_ret (fin_box ?_); simp -implicitDefEqProofs [FinB, resV, resT, zK] <;> try rfl
set_option maxRecDepth 100000 in
set_option maxHeartbeats 4000000 in
theorem node_no (ts : List Tok) (i : Nat) (e : Int) (h : e ≠ 0) (a : Int) (t : VT) : Row Tryz.prog 59 [vR, vI a, vT t] [rd ts i e] (vT z0) [some (rd ts i e)] := by
  have h2 := goes_row ts i e
  obtain ⟨x, l⟩ := t
  refine row_of Tryz.func59 rfl rfl (Nat.le_of_ble_eq_true rfl) ?_
  repeat' (first | refine aw_seq ?_ | refine aw_skip ?_ | refine aw_block ?_ | refine aw_exit ?_ | refine aw_ct rfl ?_ | refine aw_cf rfl ?_ | ((first | refine aw_reg (fun K hK => ?_) | refine aw_drw mixd (fun K hK => ?_) | refine ar_call (cb h2 0 ?_) | refine ard_call (db h2 0 ?_) | fail); simp -implicitDefEqProofs [h]) | refine hK _ ?_ | refine hK _ _ (by rfl) ?_ | fail)
  refine aw_ret (fin_box ?_); simp -implicitDefEqProofs [FinB, resV, resT, z0] <;> try rfl
set_option maxRecDepth 100000 in
set_option maxHeartbeats 4000000 in
theorem node_yes (ts : List Tok) (i : Nat) (a : Nat) (x : Lab) (l : List VT) (ha : a < ts.length) (h0 : 0 < i) (hi : i ≤ ts.length) (hl : ts.length ≤ 9223372036854775807) : Row Tryz.prog 59 [vR, vI a, vT (.mk x l)] [rd ts i 0] (vT (.mk ⟨x.k, x.n, x.s, frT ts a, toT ts (i - 1)⟩ l)) [some (rd ts i 0)] := by
  have h2 := goes_row ts i 0
  obtain ⟨y, hy⟩ : ∃ y, ts[a]? = some y := ⟨_, List.getElem?_eq_getElem ha⟩
  have hy' := (List.getElem?_eq_some_iff.1 hy).2
  have hi1 : i - 1 < ts.length := by omega
  obtain ⟨z, hz⟩ : ∃ z, ts[i - 1]? = some z := ⟨_, List.getElem?_eq_getElem hi1⟩
  have hz' := (List.getElem?_eq_some_iff.1 hz).2
  rw [show frT ts a = y.f by unfold frT; rw [nxt_some hy], show toT ts (i - 1) = z.t by unfold toT; rw [nxt_some hz]]
  obtain ⟨j, rfl⟩ : ∃ j, i = j + 1 := ⟨i - 1, by omega⟩
  have e1 : j + 1 - 1 = j := by omega
  rw [e1] at hz hi1
  have hz' := (List.getElem?_eq_some_iff.1 hz).2
  have w : IntKind.i64.wrap (((j + 1 : Nat) : Int) - 1) = (j : Nat) := by rw [i64i _ (by omega) (by omega)]; omega
  have w' : IntKind.i64.wrap ((j : Int) + 1 - 1) = (j : Nat) := by rw [i64i _ (by omega) (by omega)]; omega
  refine row_of Tryz.func59 rfl rfl (Nat.le_of_ble_eq_true rfl) ?_
  have wj : IntKind.i64.wrap ((j : Nat) : Int) = (j : Nat) := i64i _ (by omega) (by omega)
  repeat' (first | refine aw_seq ?_ | refine aw_skip ?_ | refine aw_block ?_ | refine aw_exit ?_ | refine aw_ct rfl ?_ | refine aw_cf rfl ?_ | ((first | refine aw_reg (fun K hK => ?_) | refine aw_drw mixd (fun K hK => ?_) | refine ar_call (cb h2 0 ?_) | refine ard_call (db h2 0 ?_) | fail); simp -implicitDefEqProofs [ha, hy, hy', hz, hz', hi1, w, w', wj]) | refine hK _ ?_ | refine hK _ _ (by rfl) ?_ | fail)
  refine aw_ret (fin_box ?_); simp -implicitDefEqProofs [FinB, resV, resT] <;> try rfl
end Go.Proofs.YtlkggpjdaaglmaaGreatDoor.am
end
section
namespace Go.Proofs.YtlkggpjdaaglmaaGreatDoor.am
open Go.ChangeShapes Go.WideShapes Go.ChangeAt Go.RowKit
open vt
set_option linter.unusedVariables false
set_option linter.unusedSimpArgs false
theorem td_exrd : td Tryz.prog 146 = some ⟨true, 3, 40, [.nilS, .lit (.int .i64 0), .lit (.int .i64 0)], [(0, 3, true)], .struct⟩ := Eq.trans (by kernel_rfl) (Eq.refl _)
attribute [simp] td_exrd
set_option maxRecDepth 100000 in
set_option maxHeartbeats 4000000 in
theorem typ_err (ts : List Tok) (i : Nat) (e : Int) (h : e ≠ 0) : Row Tryz.prog 128 [vR] [rd ts i e] (vT z0) [some (rd ts i e)] := by
  have h2 := goes_row ts i e
  refine row_of Tryz.func128 rfl rfl (Nat.le_of_ble_eq_true rfl) ?_
  repeat' (first | refine aw_seq ?_ | refine aw_skip ?_ | refine aw_block ?_ | refine aw_exit ?_ | refine aw_ct rfl ?_ | refine aw_cf rfl ?_ | ((first | refine aw_reg (fun K hK => ?_) | refine aw_drw mixd (fun K hK => ?_) | refine ar_call (cb h2 0 ?_) | refine ard_call (db h2 0 ?_) | fail); simp -implicitDefEqProofs [h]) | refine hK _ ?_ | refine hK _ _ (by rfl) ?_ | fail)
  refine aw_ret (fin_box ?_); simp -implicitDefEqProofs [FinB, resV, resT, z0] <;> try rfl
set_option maxRecDepth 100000 in
set_option maxHeartbeats 4000000 in
theorem typ_row (ts : List Tok) (hl : ts.length ≤ 9223372036854775807) : ∀ n i, ts.length - i < n → i ≤ ts.length → Row Tryz.prog 128 [vR] [rd ts i 0] (vT (tyG ts n i).1) [some (rd ts (tyG ts n i).2.1 (tyG ts n i).2.2)] := by
  intro n
  induction n with
  | zero => intro i h; omega
  | succ n ih =>
  intro i hn hi
  have g0 := goes_row ts i 0
  have p0 := place_row ts i 0
  by_cases h1 : isK wInt (nxt ts i) = true
  · rw [tyG_int h1]
    obtain ⟨x, hx, _⟩ := isK_at h1
    have hil := (List.getElem?_eq_some_iff.1 hx).1
    have t1 := take_yes ts i wInt (by decide) hl h1
    have n1 := node_yes ts (i + 1) i ⟨1, 0, ⟨#[]⟩, 0, 0⟩ [] hil (by omega) (by omega) hl
    rw [Nat.add_sub_cancel] at n1
    refine row_of Tryz.func128 rfl rfl (Nat.le_of_ble_eq_true rfl) ?_
    repeat' (first | refine aw_seq ?_ | refine aw_skip ?_ | refine aw_block ?_ | refine aw_exit ?_ | refine aw_ct rfl ?_ | refine aw_cf rfl ?_ | ((first | refine aw_reg (fun K hK => ?_) | refine aw_drw mixd (fun K hK => ?_) | refine ar_call (cb g0 0 ?_) | refine ard_call (db g0 0 ?_) | refine ar_call (cb p0 0 ?_) | refine ard_call (db p0 0 ?_) | refine ar_call (cb t1 0 ?_) | refine ard_call (db t1 0 ?_) | refine ar_call (cb n1 0 ?_) | refine ard_call (db n1 0 ?_) | fail); simp -implicitDefEqProofs) | refine hK _ ?_ | refine hK _ _ (by rfl) ?_ | fail)
    refine aw_ret (fin_box ?_); simp -implicitDefEqProofs [FinB, resV, resT] <;> try rfl
  have h1 : isK wInt (nxt ts i) = false := by simpa using h1
  have t1 := take_no ts i 0 wInt (by decide) (.inr h1)
  by_cases h2 : isK wBool (nxt ts i) = true
  · rw [tyG_bool h1 h2]
    obtain ⟨x, hx, _⟩ := isK_at h2
    have hil := (List.getElem?_eq_some_iff.1 hx).1
    have t2 := take_yes ts i wBool (by decide) hl h2
    have n1 := node_yes ts (i + 1) i ⟨2, 0, ⟨#[]⟩, 0, 0⟩ [] hil (by omega) (by omega) hl
    rw [Nat.add_sub_cancel] at n1
    refine row_of Tryz.func128 rfl rfl (Nat.le_of_ble_eq_true rfl) ?_
    repeat' (first | refine aw_seq ?_ | refine aw_skip ?_ | refine aw_block ?_ | refine aw_exit ?_ | refine aw_ct rfl ?_ | refine aw_cf rfl ?_ | ((first | refine aw_reg (fun K hK => ?_) | refine aw_drw mixd (fun K hK => ?_) | refine ar_call (cb g0 0 ?_) | refine ard_call (db g0 0 ?_) | refine ar_call (cb p0 0 ?_) | refine ard_call (db p0 0 ?_) | refine ar_call (cb t1 0 ?_) | refine ard_call (db t1 0 ?_) | refine ar_call (cb t2 0 ?_) | refine ard_call (db t2 0 ?_) | refine ar_call (cb n1 0 ?_) | refine ard_call (db n1 0 ?_) | fail); simp -implicitDefEqProofs) | refine hK _ ?_ | refine hK _ _ (by rfl) ?_ | fail)
    refine aw_ret (fin_box ?_); simp -implicitDefEqProofs [FinB, resV, resT] <;> try rfl
  have h2 : isK wBool (nxt ts i) = false := by simpa using h2
  have t2 := take_no ts i 0 wBool (by decide) (.inr h2)
  by_cases h3 : isK sOpen (nxt ts i) = true; rotate_left
  · have h3 : isK sOpen (nxt ts i) = false := by simpa using h3
    have t3 := take_no ts i 0 sOpen (by decide) (.inr h3)
    rw [tyG_rec h1 h2 h3]
    by_cases h4 : (nxt ts i).k = 1
    · rw [if_pos h4]
      obtain ⟨x, hx, hxn, hxk⟩ := kind_at h4 (by omega)
      have hil := (List.getElem?_eq_some_iff.1 hx).1
      have k1 := kind_yes ts i 1 x hl hx hxk
      have n1 := node_yes ts (i + 1) i ⟨4, 0, x.s, 0, 0⟩ [] hil (by omega) (by omega) hl
      rw [Nat.add_sub_cancel] at n1
      rw [hxn]
      clear hxk hx
      refine row_of Tryz.func128 rfl rfl (Nat.le_of_ble_eq_true rfl) ?_
      repeat' (first | refine aw_seq ?_ | refine aw_skip ?_ | refine aw_block ?_ | refine aw_exit ?_ | refine aw_ct rfl ?_ | refine aw_cf rfl ?_ | ((first | refine aw_reg (fun K hK => ?_) | refine aw_drw mixd (fun K hK => ?_) | refine ar_call (cb g0 0 ?_) | refine ard_call (db g0 0 ?_) | refine ar_call (cb p0 0 ?_) | refine ard_call (db p0 0 ?_) | refine ar_call (cb t1 0 ?_) | refine ard_call (db t1 0 ?_) | refine ar_call (cb t2 0 ?_) | refine ard_call (db t2 0 ?_) | refine ar_call (cb t3 0 ?_) | refine ard_call (db t3 0 ?_) | refine ar_call (cb k1 0 ?_) | refine ard_call (db k1 0 ?_) | refine ar_call (cb n1 0 ?_) | refine ard_call (db n1 0 ?_) | fail); simp -implicitDefEqProofs) | refine hK _ ?_ | refine hK _ _ (by rfl) ?_ | fail)
      refine aw_ret (fin_box ?_); simp -implicitDefEqProofs [FinB, resV, resT] <;> try rfl
    · rw [if_neg h4]
      have k1 := kind_no ts i 0 1 (.inr h4)
      have n1 := node_no ts i (er 0) (by decide) i (.mk ⟨4, 0, ⟨#[]⟩, 0, 0⟩ [])
      refine row_of Tryz.func128 rfl rfl (Nat.le_of_ble_eq_true rfl) ?_
      repeat' (first | refine aw_seq ?_ | refine aw_skip ?_ | refine aw_block ?_ | refine aw_exit ?_ | refine aw_ct rfl ?_ | refine aw_cf rfl ?_ | ((first | refine aw_reg (fun K hK => ?_) | refine aw_drw mixd (fun K hK => ?_) | refine ar_call (cb g0 0 ?_) | refine ard_call (db g0 0 ?_) | refine ar_call (cb p0 0 ?_) | refine ard_call (db p0 0 ?_) | refine ar_call (cb t1 0 ?_) | refine ard_call (db t1 0 ?_) | refine ar_call (cb t2 0 ?_) | refine ard_call (db t2 0 ?_) | refine ar_call (cb t3 0 ?_) | refine ard_call (db t3 0 ?_) | refine ar_call (cb k1 0 ?_) | refine ard_call (db k1 0 ?_) | refine ar_call (cb n1 0 ?_) | refine ard_call (db n1 0 ?_) | fail); simp -implicitDefEqProofs [zK]) | refine hK _ ?_ | refine hK _ _ (by rfl) ?_ | fail)
      refine aw_ret (fin_box ?_); simp -implicitDefEqProofs [FinB, resV, resT, z0, er] <;> try rfl
  rw [tyG_arr h1 h2 h3]
  obtain ⟨x, hx, _⟩ := isK_at h3
  have hil := (List.getElem?_eq_some_iff.1 hx).1
  have t3 := take_yes ts i sOpen (by decide) hl h3
  by_cases h4 : (nxt ts (i + 1)).k = 2; rotate_left
  · rw [if_neg h4]
    have k1 := kind_no ts (i + 1) 0 2 (.inr h4)
    have w1 := want_no ts (i + 1) (er 0) sShut (by decide) (.inl (by decide))
    have y1 := typ_err ts (i + 1) (er (er 0)) (by decide)
    have n1 := node_no ts (i + 1) (er (er 0)) (by decide) i (.mk ⟨3, 0, ⟨#[]⟩, 0, 0⟩ [z0])
    simp only [show er (er 0) = 6 from rfl, show er 0 = 6 from rfl] at k1 w1 y1 n1
    unfold z0 at y1 n1
    refine row_of Tryz.func128 rfl rfl (Nat.le_of_ble_eq_true rfl) ?_
    repeat' (first | refine aw_seq ?_ | refine aw_skip ?_ | refine aw_block ?_ | refine aw_exit ?_ | refine aw_ct rfl ?_ | refine aw_cf rfl ?_ | ((first | refine aw_reg (fun K hK => ?_) | refine aw_drw mixd (fun K hK => ?_) | refine ar_call (cb g0 0 ?_) | refine ard_call (db g0 0 ?_) | refine ar_call (cb p0 0 ?_) | refine ard_call (db p0 0 ?_) | refine ar_call (cb t1 0 ?_) | refine ard_call (db t1 0 ?_) | refine ar_call (cb t2 0 ?_) | refine ard_call (db t2 0 ?_) | refine ar_call (cb t3 0 ?_) | refine ard_call (db t3 0 ?_) | refine ar_call (cb k1 0 ?_) | refine ard_call (db k1 0 ?_) | refine ar_call (cb w1 0 ?_) | refine ard_call (db w1 0 ?_) | refine ar_call (cb y1 0 ?_) | refine ard_call (db y1 0 ?_) | refine ar_call (cb n1 0 ?_) | refine ard_call (db n1 0 ?_) | fail); simp -implicitDefEqProofs [zK]) | refine hK _ ?_ | refine hK _ _ (by rfl) ?_ | fail)
    refine aw_ret (fin_box ?_); simp -implicitDefEqProofs [FinB, resV, resT, z0] <;> try rfl
  rw [if_pos h4]
  obtain ⟨y, hy, hyn, hyk⟩ := kind_at h4 (by omega)
  have hil1 := (List.getElem?_eq_some_iff.1 hy).1
  have k1 := kind_yes ts (i + 1) 2 y hl hy hyk
  by_cases h5 : isK sShut (nxt ts (i + 2)) = true; rotate_left
  · rw [if_neg h5]
    have h5 : isK sShut (nxt ts (i + 1 + 1)) = false := by simpa using h5
    have w1 := want_no ts (i + 1 + 1) 0 sShut (by decide) (.inr h5)
    have y1 := typ_err ts (i + 1 + 1) (er 0) (by decide)
    have n1 := node_no ts (i + 1 + 1) (er 0) (by decide) i (.mk ⟨3, y.n, ⟨#[]⟩, 0, 0⟩ [z0])
    simp only [show er 0 = 6 from rfl] at w1 y1 n1
    unfold z0 at y1 n1
    clear hyk hy hyn
    refine row_of Tryz.func128 rfl rfl (Nat.le_of_ble_eq_true rfl) ?_
    repeat' (first | refine aw_seq ?_ | refine aw_skip ?_ | refine aw_block ?_ | refine aw_exit ?_ | refine aw_ct rfl ?_ | refine aw_cf rfl ?_ | ((first | refine aw_reg (fun K hK => ?_) | refine aw_drw mixd (fun K hK => ?_) | refine ar_call (cb g0 0 ?_) | refine ard_call (db g0 0 ?_) | refine ar_call (cb p0 0 ?_) | refine ard_call (db p0 0 ?_) | refine ar_call (cb t1 0 ?_) | refine ard_call (db t1 0 ?_) | refine ar_call (cb t2 0 ?_) | refine ard_call (db t2 0 ?_) | refine ar_call (cb t3 0 ?_) | refine ard_call (db t3 0 ?_) | refine ar_call (cb k1 0 ?_) | refine ard_call (db k1 0 ?_) | refine ar_call (cb w1 0 ?_) | refine ard_call (db w1 0 ?_) | refine ar_call (cb y1 0 ?_) | refine ard_call (db y1 0 ?_) | refine ar_call (cb n1 0 ?_) | refine ard_call (db n1 0 ?_) | fail); simp -implicitDefEqProofs) | refine hK _ ?_ | refine hK _ _ (by rfl) ?_ | fail)
    refine aw_ret (fin_box ?_); simp -implicitDefEqProofs [FinB, resV, resT, z0] <;> try rfl
  rw [if_pos h5, hyn]
  have w1 := want_yes ts (i + 1 + 1) sShut (by decide) hl h5
  obtain ⟨z, hz, _⟩ := isK_at h5
  have hil2 := (List.getElem?_eq_some_iff.1 hz).1
  have y1 : Row Tryz.prog 128 [vR] [rd ts (i + 1 + 1 + 1) 0] (vT (tyG ts n (i + 3)).1) [some (rd ts (tyG ts n (i + 3)).2.1 (tyG ts n (i + 3)).2.2)] := ih (i + 3) (by omega) (by omega)
  obtain ⟨o1, o2, o3, _⟩ := tyG_ok ts n (i + 3)
  obtain ⟨⟨⟨px, pl⟩, j, e⟩, hr⟩ : ∃ r, tyG ts n (i + 3) = r := ⟨_, rfl⟩
  rw [hr] at y1 o1 o2 o3 ⊢
  dsimp only at o1 o2 o3 y1 ⊢
  clear hr ih hx hy hz hyk hyn
  by_cases he : e = 0
  · subst he
    rw [if_pos rfl]
    obtain ⟨o4, o5⟩ := o1 rfl
    have n1 := node_yes ts j i ⟨3, y.n, ⟨#[]⟩, 0, 0⟩ [.mk px pl] hil (by omega) (by omega) hl
    refine row_of Tryz.func128 rfl rfl (Nat.le_of_ble_eq_true rfl) ?_
    repeat' (first | refine aw_seq ?_ | refine aw_skip ?_ | refine aw_block ?_ | refine aw_exit ?_ | refine aw_ct rfl ?_ | refine aw_cf rfl ?_ | ((first | refine aw_reg (fun K hK => ?_) | refine aw_drw mixd (fun K hK => ?_) | refine ar_call (cb g0 0 ?_) | refine ard_call (db g0 0 ?_) | refine ar_call (cb p0 0 ?_) | refine ard_call (db p0 0 ?_) | refine ar_call (cb t1 0 ?_) | refine ard_call (db t1 0 ?_) | refine ar_call (cb t2 0 ?_) | refine ard_call (db t2 0 ?_) | refine ar_call (cb t3 0 ?_) | refine ard_call (db t3 0 ?_) | refine ar_call (cb k1 0 ?_) | refine ard_call (db k1 0 ?_) | refine ar_call (cb w1 0 ?_) | refine ard_call (db w1 0 ?_) | refine ar_call (cb y1 0 ?_) | refine ard_call (db y1 0 ?_) | refine ar_call (cb n1 0 ?_) | refine ard_call (db n1 0 ?_) | fail); simp -implicitDefEqProofs) | refine hK _ ?_ | refine hK _ _ (by rfl) ?_ | fail)
    refine aw_ret (fin_box ?_); simp -implicitDefEqProofs [FinB, resV, resT] <;> try rfl
  · rw [if_neg he]
    obtain ⟨o4, o5⟩ := o2 he
    have n1 := node_no ts j e he i (.mk ⟨3, y.n, ⟨#[]⟩, 0, 0⟩ [.mk px pl])
    rw [← o5] at n1
    clear o5 o1 o2 o3
    refine row_of Tryz.func128 rfl rfl (Nat.le_of_ble_eq_true rfl) ?_
    repeat' (first | refine aw_seq ?_ | refine aw_skip ?_ | refine aw_block ?_ | refine aw_exit ?_ | refine aw_ct rfl ?_ | refine aw_cf rfl ?_ | ((first | refine aw_reg (fun K hK => ?_) | refine aw_drw mixd (fun K hK => ?_) | refine ar_call (cb g0 0 ?_) | refine ard_call (db g0 0 ?_) | refine ar_call (cb p0 0 ?_) | refine ard_call (db p0 0 ?_) | refine ar_call (cb t1 0 ?_) | refine ard_call (db t1 0 ?_) | refine ar_call (cb t2 0 ?_) | refine ard_call (db t2 0 ?_) | refine ar_call (cb t3 0 ?_) | refine ard_call (db t3 0 ?_) | refine ar_call (cb k1 0 ?_) | refine ard_call (db k1 0 ?_) | refine ar_call (cb w1 0 ?_) | refine ard_call (db w1 0 ?_) | refine ar_call (cb y1 0 ?_) | refine ard_call (db y1 0 ?_) | refine ar_call (cb n1 0 ?_) | refine ard_call (db n1 0 ?_) | fail); simp -implicitDefEqProofs) | refine hK _ ?_ | refine hK _ _ (by rfl) ?_ | fail)
    refine aw_ret (fin_box ?_); simp -implicitDefEqProofs [FinB, resV, resT] <;> try rfl
end Go.Proofs.YtlkggpjdaaglmaaGreatDoor.am
end
section
namespace Go.Proofs.YtlkggpjdaaglmaaGreatDoor.am
open Go.ChangeShapes Go.WideShapes Go.ChangeAt Go.RowKit
open vt
set_option linter.unusedVariables false
set_option linter.unusedSimpArgs false
noncomputable abbrev vT3 (r : VT × Nat × Int) : AV := .tup [.agg (ta r.1), .c (.pv (I (r.2.1 : Nat))), .c (.pv (I r.2.2))]
theorem vT3_ren (r : VT × Nat × Int) (ρ : Nat → Nat) : (vT3 r).ren ρ = vT3 r := by
  show AV.tup [.agg (((tc r.1).map AC.pv).map (AC.ren ρ)), _, _] = _
  rw [ren_pure]; rfl
abbrev vRd (ts : List Tok) (i : Nat) (e : Int) : AV := .tup [.agg [.pv (.sl 5 (ts.map kc)), .pv (I i), .pv (I 0)], .c (.pv (I e))]
set_option maxRecDepth 100000 in
set_option maxHeartbeats 4000000 in
theorem new_yes (ts : List Tok) (i : Nat) (h : i ≤ ts.length) : Row Tryz.prog 22 [vKs ts, vI i] [] (vRd ts i 0) [] := by
  have h1 : ¬ (i : Int) < 0 := by omega
  have h2 : ¬ (ts.length : Int) < i := by omega
  have h3 : ¬ ts.length < i := by omega
  refine row_of Tryz.func22 rfl rfl (Nat.le_of_ble_eq_true rfl) ?_
  repeat (first | refine aw_seq ?_ | refine aw_skip ?_ | refine aw_block ?_ | refine aw_exit ?_ | refine aw_ct rfl ?_ | refine aw_cf rfl ?_ | ((first | refine aw_reg (fun K hK => ?_) | refine aw_drw mixd (fun K hK => ?_) | fail); simp -implicitDefEqProofs [h1, h2, h3]; first | refine hK _ ?_ | refine hK _ _ (by rfl) ?_ | fail) | fail)
  refine aw_ret (fin_ret ?_); simp -implicitDefEqProofs [FinP, resV, resT] <;> try rfl
noncomputable def endT (r : VT × Nat × Int) : VT × Nat × Int := if r.2.2 = 0 then r else (z0, r.2.1, r.2.2)
set_option maxRecDepth 100000 in
set_option maxHeartbeats 4000000 in
theorem begin_yes (ts : List Tok) (i : Nat) (h : i ≤ ts.length) (g : Nat) (r : VT × Nat × Int) (hr : Row Tryz.prog g [vR] [rd ts i 0] (vT r.1) [some (rd ts r.2.1 r.2.2)]) : Row Tryz.prog 127 [vKs ts, vI i, .v (.c (.fn (.func g) [] []))] [] (vT3 (endT r)) [] := by
  have h1 := new_yes ts i h
  obtain ⟨⟨px, pl⟩, j, e⟩ := r
  have g1 := goes_row ts j e
  have p1 := place_row ts j e
  have e1 := err_row ts j e
  dsimp only at hr
  by_cases he : e = 0
  · subst he
    rw [show endT (.mk px pl, j, 0) = (.mk px pl, j, 0) from if_pos rfl]
    refine row_of Tryz.func127 rfl rfl (Nat.le_of_ble_eq_true rfl) ?_
    repeat' (first | refine aw_seq ?_ | refine aw_skip ?_ | refine aw_block ?_ | refine aw_exit ?_ | refine aw_ct rfl ?_ | refine aw_cf rfl ?_ | ((first | refine aw_reg (fun K hK => ?_) | refine aw_drw mixd (fun K hK => ?_) | refine ar_call (cp h1 ?_) | refine ard_call (dp h1 ?_) | refine ar_call (cb hr 23 ?_) | refine ard_call (db hr 23 ?_) | refine ar_call (cb g1 23 ?_) | refine ard_call (db g1 23 ?_) | refine ar_call (cb p1 23 ?_) | refine ard_call (db p1 23 ?_) | fail); simp -implicitDefEqProofs) | refine hK _ ?_ | refine hK _ _ (by rfl) ?_ | fail)
    refine aw_ret (fin_ret ?_); simp -implicitDefEqProofs [FinP, resV, resT] <;> try rfl
  · rw [show endT (.mk px pl, j, e) = (z0, j, e) from if_neg he]
    refine row_of Tryz.func127 rfl rfl (Nat.le_of_ble_eq_true rfl) ?_
    repeat' (first | refine aw_seq ?_ | refine aw_skip ?_ | refine aw_block ?_ | refine aw_exit ?_ | refine aw_ct rfl ?_ | refine aw_cf rfl ?_ | ((first | refine aw_reg (fun K hK => ?_) | refine aw_drw mixd (fun K hK => ?_) | refine ar_call (cp h1 ?_) | refine ard_call (dp h1 ?_) | refine ar_call (cb hr 23 ?_) | refine ard_call (db hr 23 ?_) | refine ar_call (cb g1 23 ?_) | refine ard_call (db g1 23 ?_) | refine ar_call (cb p1 23 ?_) | refine ard_call (db p1 23 ?_) | refine ar_call (cb e1 23 ?_) | refine ard_call (db e1 23 ?_) | fail); simp -implicitDefEqProofs [he]) | refine hK _ ?_ | refine hK _ _ (by rfl) ?_ | fail)
    refine aw_ret (fin_ret ?_); simp -implicitDefEqProofs [FinP, resV, resT, z0] <;> try rfl
end Go.Proofs.YtlkggpjdaaglmaaGreatDoor.am
end
section
namespace Go.Proofs.YtlkggpjdaaglmaaGreatDoor.am
open Go.ChangeShapes Go.WideShapes Go.ChangeAt Go.RowKit
open vt
set_option linter.unusedVariables false
set_option linter.unusedSimpArgs false
section
variable (ts : List Tok) (hl : ts.length ≤ 9223372036854775807)
include hl
set_option maxRecDepth 100000 in
set_option maxHeartbeats 4000000 in
theorem want_tot (p : Nat × Int) (s : ByteArray) (hs : s.size ≤ 1000) : Row Tryz.prog 58 [vR, vS s] [rd ts p.1 p.2] (.tup []) [some (rd ts (WT ts s p).1 (WT ts s p).2)] := by
  obtain ⟨i, e⟩ := p
  unfold WT
  dsimp only
  by_cases he : e = 0
  · subst he
    rw [if_pos rfl]
    by_cases h : isK s (nxt ts i) = true
    · rw [if_pos h]; exact want_yes ts i s hs hl h
    · rw [if_neg h]; exact want_no ts i 0 s hs (.inr (by simpa using h))
  · rw [if_neg he]
    have := want_no ts i e s hs (.inl he)
    rwa [show er e = e from if_neg he] at this
set_option maxRecDepth 100000 in
set_option maxHeartbeats 4000000 in
theorem take_yes' (p : Nat × Int) (s : ByteArray) (hs : s.size ≤ 1000) (h : TT ts s p = true) : Row Tryz.prog 54 [vR, vS s] [rd ts p.1 p.2] (vB true) [some (rd ts (p.1 + 1) 0)] := by
  obtain ⟨i, e⟩ := p
  unfold TT at h
  simp at h
  obtain ⟨h0, h1⟩ := h
  try dsimp only at h0 h1
  subst h0
  exact take_yes ts i s hs hl h1
omit hl in
set_option maxRecDepth 100000 in
set_option maxHeartbeats 4000000 in
theorem take_no' (p : Nat × Int) (s : ByteArray) (hs : s.size ≤ 1000) (h : TT ts s p = false) : Row Tryz.prog 54 [vR, vS s] [rd ts p.1 p.2] (vB false) [some (rd ts p.1 p.2)] := by
  obtain ⟨i, e⟩ := p
  refine take_no ts i e s hs ?_
  unfold TT at h
  by_cases he : e = 0
  · right; simpa [he] using h
  · exact .inl he
set_option maxRecDepth 100000 in
set_option maxHeartbeats 4000000 in
theorem kind_tot (p : Nat × Int) (k : Int) (hk : k ≠ 5) : Row Tryz.prog 103 [vR, vI k] [rd ts p.1 p.2] (vK (KT ts k p).1) [some (rd ts (KT ts k p).2.1 (KT ts k p).2.2)] := by
  obtain ⟨i, e⟩ := p
  unfold KT
  dsimp only
  by_cases he : e = 0
  · subst he
    rw [if_pos rfl]
    by_cases h : (nxt ts i).k = k
    · rw [if_pos h]
      obtain ⟨x, hx, hxn, hxk⟩ := kind_at h hk
      rw [hxn]
      exact kind_yes ts i k x hl hx hxk
    · rw [if_neg h]; exact kind_no ts i 0 k (.inr h)
  · rw [if_neg he]
    have := kind_no ts i e k (.inl he)
    rwa [show er e = e from if_neg he] at this
set_option maxRecDepth 100000 in
set_option maxHeartbeats 4000000 in
theorem node_tot (p : Nat × Int) (a : Nat) (x : Lab) (l : List VT) (h : p.2 = 0 → a < p.1 ∧ p.1 ≤ ts.length) : Row Tryz.prog 59 [vR, vI a, vT (.mk x l)] [rd ts p.1 p.2] (vT (NT ts a x.k x.n x.s l p).1) [some (rd ts (NT ts a x.k x.n x.s l p).2.1 (NT ts a x.k x.n x.s l p).2.2)] := by
  obtain ⟨i, e⟩ := p
  unfold NT
  dsimp only at h ⊢
  by_cases he : e = 0
  · subst he
    rw [if_pos rfl]
    obtain ⟨h1, h2⟩ := h rfl
    exact node_yes ts i a x l (by omega) (by omega) h2 hl
  · rw [if_neg he]
    exact node_no ts i e he a (.mk x l)
end
abbrev vFg (g : Nat) : AV := .v (.c (.fn (.func g) [] []))
set_option maxRecDepth 100000 in
set_option maxHeartbeats 4000000 in
theorem below_tot (ts : List Tok) (p : Nat × Int) (g : Nat) (G : Nat → Got) (h : p.2 = 0 → Row Tryz.prog g [vKs ts, vI p.1] [] (vT3 (G p.1)) []) : Row Tryz.prog 108 [vR, vFg g] [rd ts p.1 p.2] (vT (OT G p).1) [some (rd ts (OT G p).2.1 (OT G p).2.2)] := by
  obtain ⟨i, e⟩ := p
  have h2 := goes_row ts i e
  unfold OT
  dsimp only at h ⊢
  by_cases he : e = 0
  · subst he
    rw [if_pos rfl]
    have h1 := h rfl
    clear h
    obtain ⟨⟨⟨px, pl⟩, j, e⟩, hr⟩ : ∃ r, G i = r := ⟨_, rfl⟩
    rw [hr] at h1 ⊢
    clear hr
    refine row_of Tryz.func108 rfl rfl (Nat.le_of_ble_eq_true rfl) ?_
    repeat' (first | refine aw_seq ?_ | refine aw_skip ?_ | refine aw_block ?_ | refine aw_exit ?_ | refine aw_ct rfl ?_ | refine aw_cf rfl ?_ | ((first | refine aw_reg (fun K hK => ?_) | refine aw_drw mixd (fun K hK => ?_) | refine ar_call (cb h2 0 ?_) | refine ard_call (db h2 0 ?_) | refine ar_call (cp h1 ?_) | refine ard_call (dp h1 ?_) | fail); simp -implicitDefEqProofs) | refine hK _ ?_ | refine hK _ _ (by rfl) ?_ | fail)
    refine aw_ret (fin_box ?_); simp -implicitDefEqProofs [FinB, resV, resT] <;> try rfl
  · rw [if_neg he]
    refine row_of Tryz.func108 rfl rfl (Nat.le_of_ble_eq_true rfl) ?_
    repeat' (first | refine aw_seq ?_ | refine aw_skip ?_ | refine aw_block ?_ | refine aw_exit ?_ | refine aw_ct rfl ?_ | refine aw_cf rfl ?_ | ((first | refine aw_reg (fun K hK => ?_) | refine aw_drw mixd (fun K hK => ?_) | refine ar_call (cb h2 0 ?_) | refine ard_call (db h2 0 ?_) | fail); simp -implicitDefEqProofs [he]) | refine hK _ ?_ | refine hK _ _ (by rfl) ?_ | fail)
    refine aw_ret (fin_box ?_); simp -implicitDefEqProofs [FinB, resV, resT, z0] <;> try rfl
end Go.Proofs.YtlkggpjdaaglmaaGreatDoor.am
end
section
namespace Go.Proofs.YtlkggpjdaaglmaaGreatDoor.am
open Go.ChangeShapes Go.WideShapes Go.ChangeAt Go.RowKit
open vt
set_option linter.unusedVariables false
set_option linter.unusedSimpArgs false
theorem td_strs : td Tryz.prog 75 = some ⟨false, 1, 24, [.nilS], [], (.slice 9)⟩ := Eq.trans (by kernel_rfl) (Eq.refl _)
theorem td_intv : td Tryz.prog 122 = some ⟨false, 1, 24, [.nilS], [], (.slice 2)⟩ := Eq.trans (by kernel_rfl) (Eq.refl _)
attribute [simp] td_strs td_intv
abbrev Sg := ByteArray × Int
def pS (x : Sg) : List PV := [Sx x.1]
def pI (x : Sg) : List PV := [I x.2]
attribute [simp] pS pI
end Go.Proofs.YtlkggpjdaaglmaaGreatDoor.am
end
section
namespace Go.Proofs.YtlkggpjdaaglmaaGreatDoor.am
open Go.ChangeShapes Go.WideShapes Go.ChangeAt Go.RowKit
open vt
set_option linter.unusedVariables false
set_option linter.unusedSimpArgs false
section
variable (ts : List Tok) (hl : ts.length ≤ 1000000000)
include hl
structure InvL (l i : Nat) (x : Nat × Nat × Got) : Prop where
  eq : lpL ts (Qx ts (l + 1)) l i x.1 (decide (0 < x.2.1)) x.2.2 = Qx ts l i
  ok : OkG ts i x.2.2
  fuel : x.2.2.2.2 = 0 → ts.length < x.1 + x.2.2.2.1
  few : x.1 + x.2.1 ≤ ts.length + 1
  three : l = 3 → x.2.1 ≤ 1
end
end Go.Proofs.YtlkggpjdaaglmaaGreatDoor.am
end
section
namespace Go.Proofs.YtlkggpjdaaglmaaGreatDoor.am
open Go.ChangeShapes Go.WideShapes Go.ChangeAt Go.RowKit
open vt
set_option linter.unusedVariables false
set_option linter.unusedSimpArgs false
section
variable (ts : List Tok) (hl : ts.length ≤ 1000000000)
structure InvP (i : Nat) (x : Nat × Got) : Prop where
  eq : lpP ts (Qx ts 1) i x.1 x.2 = Qx ts 7 i
  ok : OkG ts i x.2
  fuel : x.2.2.2 = 0 → ts.length < x.1 + x.2.2.1
include hl
structure InvC (E : Nat → Got) (i : Nat) (x : Nat × Nat × List VT) : Prop where
  eq : lpC ts E x.1 x.2.1 x.2.2 = lpC ts E (ts.length + 1) i []
  le : i ≤ x.2.1 ∧ x.2.1 ≤ ts.length
  fuel : ts.length < x.1 + x.2.1
  few : x.2.2.length + x.1 ≤ ts.length + 1
end
end Go.Proofs.YtlkggpjdaaglmaaGreatDoor.am
end
section
namespace Go.Proofs.YtlkggpjdaaglmaaGreatDoor.am
open Go.ChangeShapes Go.WideShapes Go.ChangeAt Go.RowKit
open vt
set_option linter.unusedVariables false
set_option linter.unusedSimpArgs false
section
variable (ts : List Tok) (hl : ts.length ≤ 1000000000)
include hl
structure FinR (i o : Nat) (k : Int) (s : ByteArray) (c : List VT × Nat × Int) : Prop where
  no : c.2.2 ≠ 0 → finC ts i k s c = (z0, c.2.1, c.2.2)
  yes : c.2.2 = 0 → Row Tryz.prog 38 [vKs ts, vI i, vI c.2.1, vI k, vI 0, vS s, vLs c.1] [] (vG (finC ts i k s c)) []
end
end Go.Proofs.YtlkggpjdaaglmaaGreatDoor.am
end
section
namespace Go.Proofs.YtlkggpjdaaglmaaGreatDoor.am
open Go.ChangeShapes Go.WideShapes Go.ChangeAt Go.RowKit
open vt
set_option linter.unusedVariables false
set_option linter.unusedSimpArgs false
abbrev zT : AO := .box [.pv (I 0), .pv (I 0), .pv (Sx ⟨#[]⟩), .pv .nilS, .pv (I 0), .pv (I 0)]
abbrev zU : AO := .box [.pv (I 0), .pv (I 0), .pv (Sx ⟨#[]⟩), .pv (.sl 6 []), .pv (I 0), .pv (I 0)]
abbrev vFn : AV := .v (.c (.fn (.func 178) [.ptr 0 0] []))
section
variable (ts : List Tok) (i : Nat) (e : Int) (h : e ≠ 0)
include h
set_option maxRecDepth 100000 in
set_option maxHeartbeats 4000000 in
theorem atom_err : Row Tryz.prog 183 [vR] [rd ts i e] (vT z0) [some (rd ts i e)] := by
  have g := goes_row ts i e
  refine row_of Tryz.func183 rfl rfl (Nat.le_of_ble_eq_true rfl) ?_
  repeat' (first | refine aw_seq ?_ | refine aw_skip ?_ | refine aw_block ?_ | refine aw_exit ?_ | refine aw_ct rfl ?_ | refine aw_cf rfl ?_ | ((first | refine aw_reg (fun K hK => ?_) | refine aw_drw mixd (fun K hK => ?_) | refine ar_call (cb g 0 ?_) | refine ard_call (db g 0 ?_) | fail); simp -implicitDefEqProofs [h]) | refine hK _ ?_ | refine hK _ _ (by rfl) ?_ | fail)
  refine aw_ret (fin_box ?_); simp -implicitDefEqProofs [FinB, resV, resT, z0] <;> try rfl
set_option maxRecDepth 100000 in
set_option maxHeartbeats 4000000 in
theorem post_err : Row Tryz.prog 182 [vR] [rd ts i e] (vT z0) [some (rd ts i e)] := by
  have g := goes_row ts i e
  have p := place_row ts i e
  have a := atom_err ts i e h
  unfold z0 at a
  refine row_of Tryz.func182 rfl rfl (Nat.le_of_ble_eq_true rfl) ?_
  repeat' (first | refine aw_seq ?_ | refine aw_skip ?_ | refine aw_block ?_ | refine aw_exit ?_ | refine aw_ct rfl ?_ | refine aw_cf rfl ?_ | ((first | refine aw_reg (fun K hK => ?_) | refine aw_drw mixd (fun K hK => ?_) | refine ar_call (cb p 0 ?_) | refine ard_call (db p 0 ?_) | refine ar_call (cb a 0 ?_) | refine ard_call (db a 0 ?_) | fail); simp -implicitDefEqProofs) | refine hK _ ?_ | refine hK _ _ (by rfl) ?_ | fail)
  refine aw_lp (ι := Unit) (fun _ => mkSt [(0, vR), (2, .v (.c (.ptr 1 0))), (4, .v (.c (.ptr 2 0)))] [some (rd ts i e), some zT, some zU]) (fun _ => True) (fun _ => 0) () trivial (cov_intro [0, 1, 23] (by simp -implicitDefEqProofs) (by simp -implicitDefEqProofs) (by decide) rfl (by simp)) (fun Z hI _ _ => ?_)
  repeat' (first | refine aw_seq ?_ | refine aw_skip ?_ | refine aw_block ?_ | refine aw_exit ?_ | refine aw_ct rfl ?_ | refine aw_cf rfl ?_ | ((first | refine aw_reg (fun K hK => ?_) | refine aw_drw mixd (fun K hK => ?_) | refine ar_call (cb g 0 ?_) | refine ard_call (db g 0 ?_) | fail); simp -implicitDefEqProofs [h]) | refine hK _ ?_ | refine hK _ _ (by rfl) ?_ | fail)
  refine aw_ret (fin_box ?_); simp -implicitDefEqProofs [FinB, resV, resT, z0] <;> try rfl
set_option maxRecDepth 100000 in
set_option maxHeartbeats 4000000 in
theorem un_err : Row Tryz.prog 180 [vR] [rd ts i e] (vT z0) [some (rd ts i e)] := by
  have p := place_row ts i e
  have t1 := take_no ts i e sMin (by decide) (.inl h)
  have t2 := take_no ts i e sNot (by decide) (.inl h)
  have a := post_err ts i e h
  unfold z0 at a
  refine row_of Tryz.func180 rfl rfl (Nat.le_of_ble_eq_true rfl) ?_
  repeat' (first | refine aw_seq ?_ | refine aw_skip ?_ | refine aw_block ?_ | refine aw_exit ?_ | refine aw_ct rfl ?_ | refine aw_cf rfl ?_ | ((first | refine aw_reg (fun K hK => ?_) | refine aw_drw mixd (fun K hK => ?_) | refine ar_call (cb p 0 ?_) | refine ard_call (db p 0 ?_) | refine ar_call (cb t1 0 ?_) | refine ard_call (db t1 0 ?_) | refine ar_call (cb t2 0 ?_) | refine ard_call (db t2 0 ?_) | refine ar_call (cb a 0 ?_) | refine ard_call (db a 0 ?_) | fail); simp -implicitDefEqProofs) | refine hK _ ?_ | refine hK _ _ (by rfl) ?_ | fail)
  refine aw_ret (fin_box ?_); simp -implicitDefEqProofs [FinB, resV, resT, z0] <;> try rfl
set_option maxRecDepth 100000 in
set_option maxHeartbeats 4000000 in
theorem line_err (l : Int) : Row Tryz.prog 179 [vR, vI l] [rd ts i e] (vT z0) [some (rd ts i e)] := by
  have p := place_row ts i e
  have g := goes_row ts i e
  have a := un_err ts i e h
  unfold z0 at a
  refine row_of Tryz.func179 rfl rfl (Nat.le_of_ble_eq_true rfl) ?_
  repeat' (first | refine aw_seq ?_ | refine aw_skip ?_ | refine aw_block ?_ | refine aw_exit ?_ | refine aw_ct rfl ?_ | refine aw_cf rfl ?_ | ((first | refine aw_reg (fun K hK => ?_) | refine aw_drw mixd (fun K hK => ?_) | refine ar_call (cb p 0 ?_) | refine ard_call (db p 0 ?_) | refine ar_call (cb a 0 ?_) | refine ard_call (db a 0 ?_) | fail); simp -implicitDefEqProofs) | refine hK _ ?_ | refine hK _ _ (by rfl) ?_ | fail)
  refine aw_lp (ι := Unit) (fun _ => mkSt [(0, vR), (4, .v (.c (.ptr 1 0))), (6, .v (.c (.ptr 2 0)))] [some (rd ts i e), some zT, some zU]) (fun _ => True) (fun _ => 0) () trivial (cov_intro [0, 1, 23] (by simp -implicitDefEqProofs) (by simp -implicitDefEqProofs) (by decide) rfl (by simp)) (fun Z hI _ _ => ?_)
  repeat' (first | refine aw_seq ?_ | refine aw_skip ?_ | refine aw_block ?_ | refine aw_exit ?_ | refine aw_ct rfl ?_ | refine aw_cf rfl ?_ | ((first | refine aw_reg (fun K hK => ?_) | refine aw_drw mixd (fun K hK => ?_) | refine ar_call (cb g 0 ?_) | refine ard_call (db g 0 ?_) | fail); simp -implicitDefEqProofs [h]) | refine hK _ ?_ | refine hK _ _ (by rfl) ?_ | fail)
  refine aw_ret (fin_box ?_); simp -implicitDefEqProofs [FinB, resV, resT, z0] <;> try rfl
set_option maxRecDepth 100000 in
set_option maxHeartbeats 4000000 in
theorem expr_err : Row Tryz.prog 178 [vR] [rd ts i e] (vT z0) [some (rd ts i e)] := by
  have a := line_err ts i e h 1
  unfold z0 at a
  refine row_of Tryz.func178 rfl rfl (Nat.le_of_ble_eq_true rfl) ?_
  repeat' (first | refine aw_seq ?_ | refine aw_skip ?_ | refine aw_block ?_ | refine aw_exit ?_ | refine aw_ct rfl ?_ | refine aw_cf rfl ?_ | ((first | refine aw_reg (fun K hK => ?_) | refine aw_drw mixd (fun K hK => ?_) | refine ar_call (cb a 0 ?_) | refine ard_call (db a 0 ?_) | fail); simp -implicitDefEqProofs) | refine hK _ ?_ | refine hK _ _ (by rfl) ?_ | fail)
  refine aw_ret (fin_box ?_); simp -implicitDefEqProofs [FinB, resV, resT, z0] <;> try rfl
set_option maxRecDepth 100000 in
set_option maxHeartbeats 4000000 in
theorem list_err : Row Tryz.prog 192 [vR, vFn] [rd ts i e] (vLs [z0]) [some (rd ts i e)] := by
  have a := expr_err ts i e h
  have t1 := take_no ts i e sCom (by decide) (.inl h)
  unfold z0 at a
  refine row_of Tryz.func192 rfl rfl (Nat.le_of_ble_eq_true rfl) ?_
  repeat' (first | refine aw_seq ?_ | refine aw_skip ?_ | refine aw_block ?_ | refine aw_exit ?_ | refine aw_ct rfl ?_ | refine aw_cf rfl ?_ | ((first | refine aw_reg (fun K hK => ?_) | refine aw_drw mixd (fun K hK => ?_) | refine ar_call (cb a 0 ?_) | refine ard_call (db a 0 ?_) | fail); simp -implicitDefEqProofs) | refine hK _ ?_ | refine hK _ _ (by rfl) ?_ | fail)
  refine aw_lp (ι := Unit) (fun _ => mkSt [(0, vR), (5, .v (.c (.row 1 6 [tc z0])))] [some (rd ts i e), some (.row 25 6)]) (fun _ => True) (fun _ => 0) () trivial (cov_intro [0, 11] (by simp -implicitDefEqProofs [z0]) (by simp -implicitDefEqProofs [z0]) (by decide) rfl (by simp)) (fun Z hI _ _ => ?_)
  repeat' (first | refine aw_seq ?_ | refine aw_skip ?_ | refine aw_block ?_ | refine aw_exit ?_ | refine aw_ct rfl ?_ | refine aw_cf rfl ?_ | ((first | refine aw_reg (fun K hK => ?_) | refine aw_drw mixd (fun K hK => ?_) | refine ar_call (cb t1 0 ?_) | refine ard_call (db t1 0 ?_) | fail); simp -implicitDefEqProofs [h]) | refine hK _ ?_ | refine hK _ _ (by rfl) ?_ | fail)
  refine aw_ret (fin_box ?_); simp -implicitDefEqProofs [FinB, resV, resT, z0] <;> try rfl
set_option maxRecDepth 100000 in
set_option maxHeartbeats 4000000 in
theorem called_err : Row Tryz.prog 191 [vR] [rd ts i e] (vLs [z0]) [some (rd ts i e)] := by
  have a := list_err ts i e h
  have her : er e = e := if_neg h
  have w1 := want_no ts i e sParO (by decide) (.inl h)
  have t1 := take_no ts i e sParS (by decide) (.inl h)
  have w2 := want_no ts i e sParS (by decide) (.inl h)
  rw [her] at w1 w2
  refine row_of Tryz.func191 rfl rfl (Nat.le_of_ble_eq_true rfl) ?_
  repeat' (first | refine aw_seq ?_ | refine aw_skip ?_ | refine aw_block ?_ | refine aw_exit ?_ | refine aw_ct rfl ?_ | refine aw_cf rfl ?_ | ((first | refine aw_reg (fun K hK => ?_) | refine aw_drw mixd (fun K hK => ?_) | refine ar_call (cb w1 0 ?_) | refine ard_call (db w1 0 ?_) | refine ar_call (cb t1 0 ?_) | refine ard_call (db t1 0 ?_) | refine ar_call (cb a 0 ?_) | refine ard_call (db a 0 ?_) | refine ar_call (cb w2 0 ?_) | refine ard_call (db w2 0 ?_) | fail); simp -implicitDefEqProofs) | refine hK _ ?_ | refine hK _ _ (by rfl) ?_ | fail)
  refine aw_ret (fin_box ?_); simp -implicitDefEqProofs [FinB, resV, resT] <;> try rfl
end
set_option maxRecDepth 100000 in
set_option maxHeartbeats 4000000 in
theorem oper_row (x : Tok) : Row Tryz.prog 181 [vK x] [] (.tup [.c (.pv (I (opK x).1)), .c (.pv (I ((opK x).2 : Nat)))]) [] := by
  obtain ⟨k, n, s, f, t⟩ := x
  by_cases hk : k = 4; rotate_left
  · rw [show opK ⟨k, n, s, f, t⟩ = (0, 6) from if_neg hk]
    refine row_of Tryz.func181 rfl rfl (Nat.le_of_ble_eq_true rfl) ?_
    repeat (first | refine aw_seq ?_ | refine aw_skip ?_ | refine aw_block ?_ | refine aw_exit ?_ | refine aw_ct rfl ?_ | refine aw_cf rfl ?_ | ((first | refine aw_reg (fun K hK => ?_) | refine aw_drw mixd (fun K hK => ?_) | fail); simp -implicitDefEqProofs [hk]; first | refine hK _ ?_ | refine hK _ _ (by rfl) ?_ | fail) | fail)
    refine aw_ret (fin_ret ?_); simp -implicitDefEqProofs [FinP, resV, resT] <;> try rfl
  subst hk
  rw [show opK ⟨4, n, s, f, t⟩ = opS s from if_pos rfl]
  by_cases e0 : s = (⟨#[124, 124]⟩ : ByteArray)
  · subst e0
    rw [show opS (⟨#[124, 124]⟩ : ByteArray) = (1, 1) from rfl]
    refine row_of Tryz.func181 rfl rfl (Nat.le_of_ble_eq_true rfl) ?_
    repeat (first | refine aw_seq ?_ | refine aw_skip ?_ | refine aw_block ?_ | refine aw_exit ?_ | refine aw_ct rfl ?_ | refine aw_cf rfl ?_ | ((first | refine aw_reg (fun K hK => ?_) | refine aw_drw mixd (fun K hK => ?_) | fail); simp -implicitDefEqProofs; first | refine hK _ ?_ | refine hK _ _ (by rfl) ?_ | fail) | fail)
    refine aw_ret (fin_ret ?_); simp -implicitDefEqProofs [FinP, resV, resT] <;> try rfl
  by_cases e1 : s = (⟨#[38, 38]⟩ : ByteArray)
  · subst e1
    rw [show opS (⟨#[38, 38]⟩ : ByteArray) = (2, 2) from rfl]
    refine row_of Tryz.func181 rfl rfl (Nat.le_of_ble_eq_true rfl) ?_
    repeat (first | refine aw_seq ?_ | refine aw_skip ?_ | refine aw_block ?_ | refine aw_exit ?_ | refine aw_ct rfl ?_ | refine aw_cf rfl ?_ | ((first | refine aw_reg (fun K hK => ?_) | refine aw_drw mixd (fun K hK => ?_) | fail); simp -implicitDefEqProofs; first | refine hK _ ?_ | refine hK _ _ (by rfl) ?_ | fail) | fail)
    refine aw_ret (fin_ret ?_); simp -implicitDefEqProofs [FinP, resV, resT] <;> try rfl
  by_cases e2 : s = (⟨#[61, 61]⟩ : ByteArray)
  · subst e2
    rw [show opS (⟨#[61, 61]⟩ : ByteArray) = (3, 3) from rfl]
    refine row_of Tryz.func181 rfl rfl (Nat.le_of_ble_eq_true rfl) ?_
    repeat (first | refine aw_seq ?_ | refine aw_skip ?_ | refine aw_block ?_ | refine aw_exit ?_ | refine aw_ct rfl ?_ | refine aw_cf rfl ?_ | ((first | refine aw_reg (fun K hK => ?_) | refine aw_drw mixd (fun K hK => ?_) | fail); simp -implicitDefEqProofs; first | refine hK _ ?_ | refine hK _ _ (by rfl) ?_ | fail) | fail)
    refine aw_ret (fin_ret ?_); simp -implicitDefEqProofs [FinP, resV, resT] <;> try rfl
  by_cases e3 : s = (⟨#[33, 61]⟩ : ByteArray)
  · subst e3
    rw [show opS (⟨#[33, 61]⟩ : ByteArray) = (4, 3) from rfl]
    refine row_of Tryz.func181 rfl rfl (Nat.le_of_ble_eq_true rfl) ?_
    repeat (first | refine aw_seq ?_ | refine aw_skip ?_ | refine aw_block ?_ | refine aw_exit ?_ | refine aw_ct rfl ?_ | refine aw_cf rfl ?_ | ((first | refine aw_reg (fun K hK => ?_) | refine aw_drw mixd (fun K hK => ?_) | fail); simp -implicitDefEqProofs; first | refine hK _ ?_ | refine hK _ _ (by rfl) ?_ | fail) | fail)
    refine aw_ret (fin_ret ?_); simp -implicitDefEqProofs [FinP, resV, resT] <;> try rfl
  by_cases e4 : s = (⟨#[60]⟩ : ByteArray)
  · subst e4
    rw [show opS (⟨#[60]⟩ : ByteArray) = (5, 3) from rfl]
    refine row_of Tryz.func181 rfl rfl (Nat.le_of_ble_eq_true rfl) ?_
    repeat (first | refine aw_seq ?_ | refine aw_skip ?_ | refine aw_block ?_ | refine aw_exit ?_ | refine aw_ct rfl ?_ | refine aw_cf rfl ?_ | ((first | refine aw_reg (fun K hK => ?_) | refine aw_drw mixd (fun K hK => ?_) | fail); simp -implicitDefEqProofs; first | refine hK _ ?_ | refine hK _ _ (by rfl) ?_ | fail) | fail)
    refine aw_ret (fin_ret ?_); simp -implicitDefEqProofs [FinP, resV, resT] <;> try rfl
  by_cases e5 : s = (⟨#[60, 61]⟩ : ByteArray)
  · subst e5
    rw [show opS (⟨#[60, 61]⟩ : ByteArray) = (6, 3) from rfl]
    refine row_of Tryz.func181 rfl rfl (Nat.le_of_ble_eq_true rfl) ?_
    repeat (first | refine aw_seq ?_ | refine aw_skip ?_ | refine aw_block ?_ | refine aw_exit ?_ | refine aw_ct rfl ?_ | refine aw_cf rfl ?_ | ((first | refine aw_reg (fun K hK => ?_) | refine aw_drw mixd (fun K hK => ?_) | fail); simp -implicitDefEqProofs; first | refine hK _ ?_ | refine hK _ _ (by rfl) ?_ | fail) | fail)
    refine aw_ret (fin_ret ?_); simp -implicitDefEqProofs [FinP, resV, resT] <;> try rfl
  by_cases e6 : s = (⟨#[62]⟩ : ByteArray)
  · subst e6
    rw [show opS (⟨#[62]⟩ : ByteArray) = (7, 3) from rfl]
    refine row_of Tryz.func181 rfl rfl (Nat.le_of_ble_eq_true rfl) ?_
    repeat (first | refine aw_seq ?_ | refine aw_skip ?_ | refine aw_block ?_ | refine aw_exit ?_ | refine aw_ct rfl ?_ | refine aw_cf rfl ?_ | ((first | refine aw_reg (fun K hK => ?_) | refine aw_drw mixd (fun K hK => ?_) | fail); simp -implicitDefEqProofs; first | refine hK _ ?_ | refine hK _ _ (by rfl) ?_ | fail) | fail)
    refine aw_ret (fin_ret ?_); simp -implicitDefEqProofs [FinP, resV, resT] <;> try rfl
  by_cases e7 : s = (⟨#[62, 61]⟩ : ByteArray)
  · subst e7
    rw [show opS (⟨#[62, 61]⟩ : ByteArray) = (8, 3) from rfl]
    refine row_of Tryz.func181 rfl rfl (Nat.le_of_ble_eq_true rfl) ?_
    repeat (first | refine aw_seq ?_ | refine aw_skip ?_ | refine aw_block ?_ | refine aw_exit ?_ | refine aw_ct rfl ?_ | refine aw_cf rfl ?_ | ((first | refine aw_reg (fun K hK => ?_) | refine aw_drw mixd (fun K hK => ?_) | fail); simp -implicitDefEqProofs; first | refine hK _ ?_ | refine hK _ _ (by rfl) ?_ | fail) | fail)
    refine aw_ret (fin_ret ?_); simp -implicitDefEqProofs [FinP, resV, resT] <;> try rfl
  by_cases e8 : s = (⟨#[43]⟩ : ByteArray)
  · subst e8
    rw [show opS (⟨#[43]⟩ : ByteArray) = (9, 4) from rfl]
    refine row_of Tryz.func181 rfl rfl (Nat.le_of_ble_eq_true rfl) ?_
    repeat (first | refine aw_seq ?_ | refine aw_skip ?_ | refine aw_block ?_ | refine aw_exit ?_ | refine aw_ct rfl ?_ | refine aw_cf rfl ?_ | ((first | refine aw_reg (fun K hK => ?_) | refine aw_drw mixd (fun K hK => ?_) | fail); simp -implicitDefEqProofs; first | refine hK _ ?_ | refine hK _ _ (by rfl) ?_ | fail) | fail)
    refine aw_ret (fin_ret ?_); simp -implicitDefEqProofs [FinP, resV, resT] <;> try rfl
  by_cases e9 : s = (⟨#[45]⟩ : ByteArray)
  · subst e9
    rw [show opS (⟨#[45]⟩ : ByteArray) = (10, 4) from rfl]
    refine row_of Tryz.func181 rfl rfl (Nat.le_of_ble_eq_true rfl) ?_
    repeat (first | refine aw_seq ?_ | refine aw_skip ?_ | refine aw_block ?_ | refine aw_exit ?_ | refine aw_ct rfl ?_ | refine aw_cf rfl ?_ | ((first | refine aw_reg (fun K hK => ?_) | refine aw_drw mixd (fun K hK => ?_) | fail); simp -implicitDefEqProofs; first | refine hK _ ?_ | refine hK _ _ (by rfl) ?_ | fail) | fail)
    refine aw_ret (fin_ret ?_); simp -implicitDefEqProofs [FinP, resV, resT] <;> try rfl
  by_cases e10 : s = (⟨#[42]⟩ : ByteArray)
  · subst e10
    rw [show opS (⟨#[42]⟩ : ByteArray) = (11, 5) from rfl]
    refine row_of Tryz.func181 rfl rfl (Nat.le_of_ble_eq_true rfl) ?_
    repeat (first | refine aw_seq ?_ | refine aw_skip ?_ | refine aw_block ?_ | refine aw_exit ?_ | refine aw_ct rfl ?_ | refine aw_cf rfl ?_ | ((first | refine aw_reg (fun K hK => ?_) | refine aw_drw mixd (fun K hK => ?_) | fail); simp -implicitDefEqProofs; first | refine hK _ ?_ | refine hK _ _ (by rfl) ?_ | fail) | fail)
    refine aw_ret (fin_ret ?_); simp -implicitDefEqProofs [FinP, resV, resT] <;> try rfl
  by_cases e11 : s = (⟨#[47]⟩ : ByteArray)
  · subst e11
    rw [show opS (⟨#[47]⟩ : ByteArray) = (12, 5) from rfl]
    refine row_of Tryz.func181 rfl rfl (Nat.le_of_ble_eq_true rfl) ?_
    repeat (first | refine aw_seq ?_ | refine aw_skip ?_ | refine aw_block ?_ | refine aw_exit ?_ | refine aw_ct rfl ?_ | refine aw_cf rfl ?_ | ((first | refine aw_reg (fun K hK => ?_) | refine aw_drw mixd (fun K hK => ?_) | fail); simp -implicitDefEqProofs; first | refine hK _ ?_ | refine hK _ _ (by rfl) ?_ | fail) | fail)
    refine aw_ret (fin_ret ?_); simp -implicitDefEqProofs [FinP, resV, resT] <;> try rfl
  by_cases e12 : s = (⟨#[37]⟩ : ByteArray)
  · subst e12
    rw [show opS (⟨#[37]⟩ : ByteArray) = (13, 5) from rfl]
    refine row_of Tryz.func181 rfl rfl (Nat.le_of_ble_eq_true rfl) ?_
    repeat (first | refine aw_seq ?_ | refine aw_skip ?_ | refine aw_block ?_ | refine aw_exit ?_ | refine aw_ct rfl ?_ | refine aw_cf rfl ?_ | ((first | refine aw_reg (fun K hK => ?_) | refine aw_drw mixd (fun K hK => ?_) | fail); simp -implicitDefEqProofs; first | refine hK _ ?_ | refine hK _ _ (by rfl) ?_ | fail) | fail)
    refine aw_ret (fin_ret ?_); simp -implicitDefEqProofs [FinP, resV, resT] <;> try rfl
  rw [show opS s = (0, 6) by unfold opS; simp [e0, e1, e2, e3, e4, e5, e6, e7, e8, e9, e10, e11, e12]]
  refine row_of Tryz.func181 rfl rfl (Nat.le_of_ble_eq_true rfl) ?_
  repeat (first | refine aw_seq ?_ | refine aw_skip ?_ | refine aw_block ?_ | refine aw_exit ?_ | refine aw_ct rfl ?_ | refine aw_cf rfl ?_ | ((first | refine aw_reg (fun K hK => ?_) | refine aw_drw mixd (fun K hK => ?_) | fail); simp -implicitDefEqProofs [e0, e1, e2, e3, e4, e5, e6, e7, e8, e9, e10, e11, e12]; first | refine hK _ ?_ | refine hK _ _ (by rfl) ?_ | fail) | fail)
  refine aw_ret (fin_ret ?_); simp -implicitDefEqProofs [FinP, resV, resT] <;> try rfl
end Go.Proofs.YtlkggpjdaaglmaaGreatDoor.am
end
