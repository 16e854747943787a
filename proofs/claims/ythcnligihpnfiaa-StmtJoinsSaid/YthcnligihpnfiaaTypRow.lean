/-
  Layer 7: types out of tokens: the program's.
-/
import Derived.Test.YthcnligihpnfiaaRowRdr
namespace Go.Proofs.Ythcnligihpnfiaa.am
open Go.ChangeShapes Go.WideShapes Go.ChangeAt Go.RowKit
open vt
set_option linter.unusedVariables false
set_option linter.unusedSimpArgs false
theorem td_exrd : td Try.prog 75 = some ⟨true, 3, 40, [.nilS, .lit (.int .i64 0), .lit (.int .i64 0)], [(0, 3, true)], .struct⟩ := Eq.trans (by kernel_rfl) (Eq.refl _)
attribute [simp] td_exrd
set_option maxRecDepth 100000 in
set_option maxHeartbeats 4000000 in
theorem typ_err (ts : List Tok) (i : Nat) (e : Int) (h : e ≠ 0) : Row Try.prog 75 [vR] [rd ts i e] (vT z0) [some (rd ts i e)] := by
  have h2 := goes_row ts i e
  refine row_of Try.func75 rfl rfl (Nat.le_of_ble_eq_true rfl) ?_
  repeat' (first | refine aw_seq ?_ | refine aw_skip ?_ | refine aw_block ?_ | refine aw_exit ?_ | refine aw_cond rfl (fun _ => ?_) (fun hb => absurd hb (by decide)) | refine aw_cond rfl (fun hb => absurd hb (by decide)) (fun _ => ?_) | (refine aw_reg (fun K hK => ?_); simp -implicitDefEqProofs [h]) | (refine aw_drw mixd (fun K hK => ?_); simp -implicitDefEqProofs [h]) | refine hK _ ?_ | refine hK _ _ (by rfl) ?_ | (refine ar_call (cb h2 0 ?_); simp -implicitDefEqProofs [h]) | (refine ard_call (db h2 0 ?_); simp -implicitDefEqProofs [h]) | fail)
  refine aw_ret (fin_box ?_); simp -implicitDefEqProofs [FinB, resV, resT, z0] <;> try rfl
theorem tyG_int {ts : List Tok} {n i : Nat} (h : isK wInt (nxt ts i) = true) : tyG ts (n + 1) i = (.mk ⟨1, 0, ⟨#[]⟩, frT ts i, toT ts i⟩ [], i + 1, 0) := by rw [tyG, if_pos h]
theorem tyG_bool {ts : List Tok} {n i : Nat} (h1 : isK wInt (nxt ts i) = false) (h : isK wBool (nxt ts i) = true) : tyG ts (n + 1) i = (.mk ⟨2, 0, ⟨#[]⟩, frT ts i, toT ts i⟩ [], i + 1, 0) := by rw [tyG, if_neg (by simp [h1]), if_pos h]
theorem tyG_arr {ts : List Tok} {n i : Nat} (h1 : isK wInt (nxt ts i) = false) (h2 : isK wBool (nxt ts i) = false) (h : isK sOpen (nxt ts i) = true) : tyG ts (n + 1) i =
      if (nxt ts (i + 1)).k = 2 then
        if isK sShut (nxt ts (i + 2)) = true then
          if (tyG ts n (i + 3)).2.2 = 0 then (.mk ⟨3, (nxt ts (i + 1)).n, ⟨#[]⟩, frT ts i, toT ts ((tyG ts n (i + 3)).2.1 - 1)⟩ [(tyG ts n (i + 3)).1], (tyG ts n (i + 3)).2.1, 0)
          else tyG ts n (i + 3)
        else (z0, i + 2, 6)
      else (z0, i + 1, 6) := by rw [tyG, if_neg (by simp [h1]), if_neg (by simp [h2]), if_pos h]
theorem tyG_rec {ts : List Tok} {n i : Nat} (h1 : isK wInt (nxt ts i) = false) (h2 : isK wBool (nxt ts i) = false) (h3 : isK sOpen (nxt ts i) = false) : tyG ts (n + 1) i = if (nxt ts i).k = 1 then (.mk ⟨4, 0, (nxt ts i).s, frT ts i, toT ts i⟩ [], i + 1, 0) else (z0, i, 6) := by rw [tyG, if_neg (by simp [h1]), if_neg (by simp [h2]), if_neg (by simp [h3])]
theorem kind_at {ts : List Tok} {i : Nat} {k : Int} (h : (nxt ts i).k = k) (hk : k ≠ 5) : ∃ x, ts[i]? = some x ∧ nxt ts i = x ∧ x.k = k := by
  unfold nxt at h ⊢
  cases hx : ts[i]? with
  | none => rw [hx] at h; exact absurd h.symm hk
  | some x => rw [hx] at h; exact ⟨x, rfl, rfl, h⟩
set_option maxRecDepth 100000 in
set_option maxHeartbeats 4000000 in
theorem typ_row (ts : List Tok) (hl : ts.length ≤ 9223372036854775807) : ∀ n i, ts.length - i < n → i ≤ ts.length → Row Try.prog 75 [vR] [rd ts i 0] (vT (tyG ts n i).1) [some (rd ts (tyG ts n i).2.1 (tyG ts n i).2.2)] := by
  intro n
  induction n with
  | zero => intro i h; omega
  | succ n ih =>
  intro i hn hi
  have g0 := goes_row ts i 0
  have p0 := place_row ts i 0
  by_cases h1 : isK wInt (nxt ts i) = true
  · rw [tyG_int h1]
    obtain ⟨x, hx, _⟩ := isK_at h1
    have hil := (List.getElem?_eq_some_iff.1 hx).1
    have t1 := take_yes ts i wInt (by decide) hl h1
    have n1 := node_yes ts (i + 1) i ⟨1, 0, ⟨#[]⟩, 0, 0⟩ [] hil (by omega) (by omega) hl
    rw [Nat.add_sub_cancel] at n1
    refine row_of Try.func75 rfl rfl (Nat.le_of_ble_eq_true rfl) ?_
    repeat' (first | refine aw_seq ?_ | refine aw_skip ?_ | refine aw_block ?_ | refine aw_exit ?_ | refine aw_cond rfl (fun _ => ?_) (fun hb => absurd hb (by decide)) | refine aw_cond rfl (fun hb => absurd hb (by decide)) (fun _ => ?_) | (refine aw_reg (fun K hK => ?_); simp -implicitDefEqProofs) | (refine aw_drw mixd (fun K hK => ?_); simp -implicitDefEqProofs) | refine hK _ ?_ | refine hK _ _ (by rfl) ?_ | (refine ar_call (cb g0 0 ?_); simp -implicitDefEqProofs) | (refine ard_call (db g0 0 ?_); simp -implicitDefEqProofs) | (refine ar_call (cb p0 0 ?_); simp -implicitDefEqProofs) | (refine ard_call (db p0 0 ?_); simp -implicitDefEqProofs) | (refine ar_call (cb t1 0 ?_); simp -implicitDefEqProofs) | (refine ard_call (db t1 0 ?_); simp -implicitDefEqProofs) | (refine ar_call (cb n1 0 ?_); simp -implicitDefEqProofs) | (refine ard_call (db n1 0 ?_); simp -implicitDefEqProofs) | fail)
    refine aw_ret (fin_box ?_); simp -implicitDefEqProofs [FinB, resV, resT] <;> try rfl
  have h1 : isK wInt (nxt ts i) = false := by simpa using h1
  have t1 := take_no ts i 0 wInt (by decide) (.inr h1)
  by_cases h2 : isK wBool (nxt ts i) = true
  · rw [tyG_bool h1 h2]
    obtain ⟨x, hx, _⟩ := isK_at h2
    have hil := (List.getElem?_eq_some_iff.1 hx).1
    have t2 := take_yes ts i wBool (by decide) hl h2
    have n1 := node_yes ts (i + 1) i ⟨2, 0, ⟨#[]⟩, 0, 0⟩ [] hil (by omega) (by omega) hl
    rw [Nat.add_sub_cancel] at n1
    refine row_of Try.func75 rfl rfl (Nat.le_of_ble_eq_true rfl) ?_
    repeat' (first | refine aw_seq ?_ | refine aw_skip ?_ | refine aw_block ?_ | refine aw_exit ?_ | refine aw_cond rfl (fun _ => ?_) (fun hb => absurd hb (by decide)) | refine aw_cond rfl (fun hb => absurd hb (by decide)) (fun _ => ?_) | (refine aw_reg (fun K hK => ?_); simp -implicitDefEqProofs) | (refine aw_drw mixd (fun K hK => ?_); simp -implicitDefEqProofs) | refine hK _ ?_ | refine hK _ _ (by rfl) ?_ | (refine ar_call (cb g0 0 ?_); simp -implicitDefEqProofs) | (refine ard_call (db g0 0 ?_); simp -implicitDefEqProofs) | (refine ar_call (cb p0 0 ?_); simp -implicitDefEqProofs) | (refine ard_call (db p0 0 ?_); simp -implicitDefEqProofs) | (refine ar_call (cb t1 0 ?_); simp -implicitDefEqProofs) | (refine ard_call (db t1 0 ?_); simp -implicitDefEqProofs) | (refine ar_call (cb t2 0 ?_); simp -implicitDefEqProofs) | (refine ard_call (db t2 0 ?_); simp -implicitDefEqProofs) | (refine ar_call (cb n1 0 ?_); simp -implicitDefEqProofs) | (refine ard_call (db n1 0 ?_); simp -implicitDefEqProofs) | fail)
    refine aw_ret (fin_box ?_); simp -implicitDefEqProofs [FinB, resV, resT] <;> try rfl
  have h2 : isK wBool (nxt ts i) = false := by simpa using h2
  have t2 := take_no ts i 0 wBool (by decide) (.inr h2)
  by_cases h3 : isK sOpen (nxt ts i) = true; rotate_left
  · have h3 : isK sOpen (nxt ts i) = false := by simpa using h3
    have t3 := take_no ts i 0 sOpen (by decide) (.inr h3)
    rw [tyG_rec h1 h2 h3]
    by_cases h4 : (nxt ts i).k = 1
    · rw [if_pos h4]
      obtain ⟨x, hx, hxn, hxk⟩ := kind_at h4 (by omega)
      have hil := (List.getElem?_eq_some_iff.1 hx).1
      have k1 := kind_yes ts i 1 x hl hx hxk
      have n1 := node_yes ts (i + 1) i ⟨4, 0, x.s, 0, 0⟩ [] hil (by omega) (by omega) hl
      rw [Nat.add_sub_cancel] at n1
      rw [hxn]
      clear hxk hx
      refine row_of Try.func75 rfl rfl (Nat.le_of_ble_eq_true rfl) ?_
      repeat' (first | refine aw_seq ?_ | refine aw_skip ?_ | refine aw_block ?_ | refine aw_exit ?_ | refine aw_cond rfl (fun _ => ?_) (fun hb => absurd hb (by decide)) | refine aw_cond rfl (fun hb => absurd hb (by decide)) (fun _ => ?_) | (refine aw_reg (fun K hK => ?_); simp -implicitDefEqProofs) | (refine aw_drw mixd (fun K hK => ?_); simp -implicitDefEqProofs) | refine hK _ ?_ | refine hK _ _ (by rfl) ?_ | (refine ar_call (cb g0 0 ?_); simp -implicitDefEqProofs) | (refine ard_call (db g0 0 ?_); simp -implicitDefEqProofs) | (refine ar_call (cb p0 0 ?_); simp -implicitDefEqProofs) | (refine ard_call (db p0 0 ?_); simp -implicitDefEqProofs) | (refine ar_call (cb t1 0 ?_); simp -implicitDefEqProofs) | (refine ard_call (db t1 0 ?_); simp -implicitDefEqProofs) | (refine ar_call (cb t2 0 ?_); simp -implicitDefEqProofs) | (refine ard_call (db t2 0 ?_); simp -implicitDefEqProofs) | (refine ar_call (cb t3 0 ?_); simp -implicitDefEqProofs) | (refine ard_call (db t3 0 ?_); simp -implicitDefEqProofs) | (refine ar_call (cb k1 0 ?_); simp -implicitDefEqProofs) | (refine ard_call (db k1 0 ?_); simp -implicitDefEqProofs) | (refine ar_call (cb n1 0 ?_); simp -implicitDefEqProofs) | (refine ard_call (db n1 0 ?_); simp -implicitDefEqProofs) | fail)
      refine aw_ret (fin_box ?_); simp -implicitDefEqProofs [FinB, resV, resT] <;> try rfl
    · rw [if_neg h4]
      have k1 := kind_no ts i 0 1 (.inr h4)
      have n1 := node_no ts i (er 0) (by decide) i (.mk ⟨4, 0, ⟨#[]⟩, 0, 0⟩ [])
      refine row_of Try.func75 rfl rfl (Nat.le_of_ble_eq_true rfl) ?_
      repeat' (first | refine aw_seq ?_ | refine aw_skip ?_ | refine aw_block ?_ | refine aw_exit ?_ | refine aw_cond rfl (fun _ => ?_) (fun hb => absurd hb (by decide)) | refine aw_cond rfl (fun hb => absurd hb (by decide)) (fun _ => ?_) | (refine aw_reg (fun K hK => ?_); simp -implicitDefEqProofs [zK]) | (refine aw_drw mixd (fun K hK => ?_); simp -implicitDefEqProofs [zK]) | refine hK _ ?_ | refine hK _ _ (by rfl) ?_ | (refine ar_call (cb g0 0 ?_); simp -implicitDefEqProofs [zK]) | (refine ard_call (db g0 0 ?_); simp -implicitDefEqProofs [zK]) | (refine ar_call (cb p0 0 ?_); simp -implicitDefEqProofs [zK]) | (refine ard_call (db p0 0 ?_); simp -implicitDefEqProofs [zK]) | (refine ar_call (cb t1 0 ?_); simp -implicitDefEqProofs [zK]) | (refine ard_call (db t1 0 ?_); simp -implicitDefEqProofs [zK]) | (refine ar_call (cb t2 0 ?_); simp -implicitDefEqProofs [zK]) | (refine ard_call (db t2 0 ?_); simp -implicitDefEqProofs [zK]) | (refine ar_call (cb t3 0 ?_); simp -implicitDefEqProofs [zK]) | (refine ard_call (db t3 0 ?_); simp -implicitDefEqProofs [zK]) | (refine ar_call (cb k1 0 ?_); simp -implicitDefEqProofs [zK]) | (refine ard_call (db k1 0 ?_); simp -implicitDefEqProofs [zK]) | (refine ar_call (cb n1 0 ?_); simp -implicitDefEqProofs [zK]) | (refine ard_call (db n1 0 ?_); simp -implicitDefEqProofs [zK]) | fail)
      refine aw_ret (fin_box ?_); simp -implicitDefEqProofs [FinB, resV, resT, z0, er] <;> try rfl
  rw [tyG_arr h1 h2 h3]
  obtain ⟨x, hx, _⟩ := isK_at h3
  have hil := (List.getElem?_eq_some_iff.1 hx).1
  have t3 := take_yes ts i sOpen (by decide) hl h3
  by_cases h4 : (nxt ts (i + 1)).k = 2; rotate_left
  · rw [if_neg h4]
    have k1 := kind_no ts (i + 1) 0 2 (.inr h4)
    have w1 := want_no ts (i + 1) (er 0) sShut (by decide) (.inl (by decide))
    have y1 := typ_err ts (i + 1) (er (er 0)) (by decide)
    have n1 := node_no ts (i + 1) (er (er 0)) (by decide) i (.mk ⟨3, 0, ⟨#[]⟩, 0, 0⟩ [z0])
    simp only [show er (er 0) = 6 from rfl, show er 0 = 6 from rfl] at k1 w1 y1 n1
    unfold z0 at y1 n1
    refine row_of Try.func75 rfl rfl (Nat.le_of_ble_eq_true rfl) ?_
    repeat' (first | refine aw_seq ?_ | refine aw_skip ?_ | refine aw_block ?_ | refine aw_exit ?_ | refine aw_cond rfl (fun _ => ?_) (fun hb => absurd hb (by decide)) | refine aw_cond rfl (fun hb => absurd hb (by decide)) (fun _ => ?_) | (refine aw_reg (fun K hK => ?_); simp -implicitDefEqProofs [zK]) | (refine aw_drw mixd (fun K hK => ?_); simp -implicitDefEqProofs [zK]) | refine hK _ ?_ | refine hK _ _ (by rfl) ?_ | (refine ar_call (cb g0 0 ?_); simp -implicitDefEqProofs [zK]) | (refine ard_call (db g0 0 ?_); simp -implicitDefEqProofs [zK]) | (refine ar_call (cb p0 0 ?_); simp -implicitDefEqProofs [zK]) | (refine ard_call (db p0 0 ?_); simp -implicitDefEqProofs [zK]) | (refine ar_call (cb t1 0 ?_); simp -implicitDefEqProofs [zK]) | (refine ard_call (db t1 0 ?_); simp -implicitDefEqProofs [zK]) | (refine ar_call (cb t2 0 ?_); simp -implicitDefEqProofs [zK]) | (refine ard_call (db t2 0 ?_); simp -implicitDefEqProofs [zK]) | (refine ar_call (cb t3 0 ?_); simp -implicitDefEqProofs [zK]) | (refine ard_call (db t3 0 ?_); simp -implicitDefEqProofs [zK]) | (refine ar_call (cb k1 0 ?_); simp -implicitDefEqProofs [zK]) | (refine ard_call (db k1 0 ?_); simp -implicitDefEqProofs [zK]) | (refine ar_call (cb w1 0 ?_); simp -implicitDefEqProofs [zK]) | (refine ard_call (db w1 0 ?_); simp -implicitDefEqProofs [zK]) | (refine ar_call (cb y1 0 ?_); simp -implicitDefEqProofs [zK]) | (refine ard_call (db y1 0 ?_); simp -implicitDefEqProofs [zK]) | (refine ar_call (cb n1 0 ?_); simp -implicitDefEqProofs [zK]) | (refine ard_call (db n1 0 ?_); simp -implicitDefEqProofs [zK]) | fail)
    refine aw_ret (fin_box ?_); simp -implicitDefEqProofs [FinB, resV, resT, z0] <;> try rfl
  rw [if_pos h4]
  obtain ⟨y, hy, hyn, hyk⟩ := kind_at h4 (by omega)
  have hil1 := (List.getElem?_eq_some_iff.1 hy).1
  have k1 := kind_yes ts (i + 1) 2 y hl hy hyk
  by_cases h5 : isK sShut (nxt ts (i + 2)) = true; rotate_left
  · rw [if_neg h5]
    have h5 : isK sShut (nxt ts (i + 1 + 1)) = false := by simpa using h5
    have w1 := want_no ts (i + 1 + 1) 0 sShut (by decide) (.inr h5)
    have y1 := typ_err ts (i + 1 + 1) (er 0) (by decide)
    have n1 := node_no ts (i + 1 + 1) (er 0) (by decide) i (.mk ⟨3, y.n, ⟨#[]⟩, 0, 0⟩ [z0])
    simp only [show er 0 = 6 from rfl] at w1 y1 n1
    unfold z0 at y1 n1
    clear hyk hy hyn
    refine row_of Try.func75 rfl rfl (Nat.le_of_ble_eq_true rfl) ?_
    repeat' (first | refine aw_seq ?_ | refine aw_skip ?_ | refine aw_block ?_ | refine aw_exit ?_ | refine aw_cond rfl (fun _ => ?_) (fun hb => absurd hb (by decide)) | refine aw_cond rfl (fun hb => absurd hb (by decide)) (fun _ => ?_) | (refine aw_reg (fun K hK => ?_); simp -implicitDefEqProofs) | (refine aw_drw mixd (fun K hK => ?_); simp -implicitDefEqProofs) | refine hK _ ?_ | refine hK _ _ (by rfl) ?_ | (refine ar_call (cb g0 0 ?_); simp -implicitDefEqProofs) | (refine ard_call (db g0 0 ?_); simp -implicitDefEqProofs) | (refine ar_call (cb p0 0 ?_); simp -implicitDefEqProofs) | (refine ard_call (db p0 0 ?_); simp -implicitDefEqProofs) | (refine ar_call (cb t1 0 ?_); simp -implicitDefEqProofs) | (refine ard_call (db t1 0 ?_); simp -implicitDefEqProofs) | (refine ar_call (cb t2 0 ?_); simp -implicitDefEqProofs) | (refine ard_call (db t2 0 ?_); simp -implicitDefEqProofs) | (refine ar_call (cb t3 0 ?_); simp -implicitDefEqProofs) | (refine ard_call (db t3 0 ?_); simp -implicitDefEqProofs) | (refine ar_call (cb k1 0 ?_); simp -implicitDefEqProofs) | (refine ard_call (db k1 0 ?_); simp -implicitDefEqProofs) | (refine ar_call (cb w1 0 ?_); simp -implicitDefEqProofs) | (refine ard_call (db w1 0 ?_); simp -implicitDefEqProofs) | (refine ar_call (cb y1 0 ?_); simp -implicitDefEqProofs) | (refine ard_call (db y1 0 ?_); simp -implicitDefEqProofs) | (refine ar_call (cb n1 0 ?_); simp -implicitDefEqProofs) | (refine ard_call (db n1 0 ?_); simp -implicitDefEqProofs) | fail)
    refine aw_ret (fin_box ?_); simp -implicitDefEqProofs [FinB, resV, resT, z0] <;> try rfl
  rw [if_pos h5, hyn]
  have w1 := want_yes ts (i + 1 + 1) sShut (by decide) hl h5
  obtain ⟨z, hz, _⟩ := isK_at h5
  have hil2 := (List.getElem?_eq_some_iff.1 hz).1
  have y1 : Row Try.prog 75 [vR] [rd ts (i + 1 + 1 + 1) 0] (vT (tyG ts n (i + 3)).1) [some (rd ts (tyG ts n (i + 3)).2.1 (tyG ts n (i + 3)).2.2)] := ih (i + 3) (by omega) (by omega)
  obtain ⟨o1, o2, o3, _⟩ := tyG_ok ts n (i + 3)
  obtain ⟨⟨⟨px, pl⟩, j, e⟩, hr⟩ : ∃ r, tyG ts n (i + 3) = r := ⟨_, rfl⟩
  rw [hr] at y1 o1 o2 o3 ⊢
  dsimp only at o1 o2 o3 y1 ⊢
  clear hr ih hx hy hz hyk hyn
  by_cases he : e = 0
  · subst he
    rw [if_pos rfl]
    obtain ⟨o4, o5⟩ := o1 rfl
    have n1 := node_yes ts j i ⟨3, y.n, ⟨#[]⟩, 0, 0⟩ [.mk px pl] hil (by omega) (by omega) hl
    refine row_of Try.func75 rfl rfl (Nat.le_of_ble_eq_true rfl) ?_
    repeat' (first | refine aw_seq ?_ | refine aw_skip ?_ | refine aw_block ?_ | refine aw_exit ?_ | refine aw_cond rfl (fun _ => ?_) (fun hb => absurd hb (by decide)) | refine aw_cond rfl (fun hb => absurd hb (by decide)) (fun _ => ?_) | (refine aw_reg (fun K hK => ?_); simp -implicitDefEqProofs) | (refine aw_drw mixd (fun K hK => ?_); simp -implicitDefEqProofs) | refine hK _ ?_ | refine hK _ _ (by rfl) ?_ | (refine ar_call (cb g0 0 ?_); simp -implicitDefEqProofs) | (refine ard_call (db g0 0 ?_); simp -implicitDefEqProofs) | (refine ar_call (cb p0 0 ?_); simp -implicitDefEqProofs) | (refine ard_call (db p0 0 ?_); simp -implicitDefEqProofs) | (refine ar_call (cb t1 0 ?_); simp -implicitDefEqProofs) | (refine ard_call (db t1 0 ?_); simp -implicitDefEqProofs) | (refine ar_call (cb t2 0 ?_); simp -implicitDefEqProofs) | (refine ard_call (db t2 0 ?_); simp -implicitDefEqProofs) | (refine ar_call (cb t3 0 ?_); simp -implicitDefEqProofs) | (refine ard_call (db t3 0 ?_); simp -implicitDefEqProofs) | (refine ar_call (cb k1 0 ?_); simp -implicitDefEqProofs) | (refine ard_call (db k1 0 ?_); simp -implicitDefEqProofs) | (refine ar_call (cb w1 0 ?_); simp -implicitDefEqProofs) | (refine ard_call (db w1 0 ?_); simp -implicitDefEqProofs) | (refine ar_call (cb y1 0 ?_); simp -implicitDefEqProofs) | (refine ard_call (db y1 0 ?_); simp -implicitDefEqProofs) | (refine ar_call (cb n1 0 ?_); simp -implicitDefEqProofs) | (refine ard_call (db n1 0 ?_); simp -implicitDefEqProofs) | fail)
    refine aw_ret (fin_box ?_); simp -implicitDefEqProofs [FinB, resV, resT] <;> try rfl
  · rw [if_neg he]
    obtain ⟨o4, o5⟩ := o2 he
    have n1 := node_no ts j e he i (.mk ⟨3, y.n, ⟨#[]⟩, 0, 0⟩ [.mk px pl])
    rw [← o5] at n1
    clear o5 o1 o2 o3
    refine row_of Try.func75 rfl rfl (Nat.le_of_ble_eq_true rfl) ?_
    repeat' (first | refine aw_seq ?_ | refine aw_skip ?_ | refine aw_block ?_ | refine aw_exit ?_ | refine aw_cond rfl (fun _ => ?_) (fun hb => absurd hb (by decide)) | refine aw_cond rfl (fun hb => absurd hb (by decide)) (fun _ => ?_) | (refine aw_reg (fun K hK => ?_); simp -implicitDefEqProofs) | (refine aw_drw mixd (fun K hK => ?_); simp -implicitDefEqProofs) | refine hK _ ?_ | refine hK _ _ (by rfl) ?_ | (refine ar_call (cb g0 0 ?_); simp -implicitDefEqProofs) | (refine ard_call (db g0 0 ?_); simp -implicitDefEqProofs) | (refine ar_call (cb p0 0 ?_); simp -implicitDefEqProofs) | (refine ard_call (db p0 0 ?_); simp -implicitDefEqProofs) | (refine ar_call (cb t1 0 ?_); simp -implicitDefEqProofs) | (refine ard_call (db t1 0 ?_); simp -implicitDefEqProofs) | (refine ar_call (cb t2 0 ?_); simp -implicitDefEqProofs) | (refine ard_call (db t2 0 ?_); simp -implicitDefEqProofs) | (refine ar_call (cb t3 0 ?_); simp -implicitDefEqProofs) | (refine ard_call (db t3 0 ?_); simp -implicitDefEqProofs) | (refine ar_call (cb k1 0 ?_); simp -implicitDefEqProofs) | (refine ard_call (db k1 0 ?_); simp -implicitDefEqProofs) | (refine ar_call (cb w1 0 ?_); simp -implicitDefEqProofs) | (refine ard_call (db w1 0 ?_); simp -implicitDefEqProofs) | (refine ar_call (cb y1 0 ?_); simp -implicitDefEqProofs) | (refine ard_call (db y1 0 ?_); simp -implicitDefEqProofs) | (refine ar_call (cb n1 0 ?_); simp -implicitDefEqProofs) | (refine ard_call (db n1 0 ?_); simp -implicitDefEqProofs) | fail)
    refine aw_ret (fin_box ?_); simp -implicitDefEqProofs [FinB, resV, resT] <;> try rfl
end Go.Proofs.Ythcnligihpnfiaa.am
