import Derived.Test.YthcnligihpnfiaaGreatDoorPkV4
import Derived.IntWalk
section
namespace Go.Proofs.YthcnligihpnfiaaGreatDoor.am
open Go.ChangeShapes Go.WideShapes Go.ChangeAt Go.RowKit
open vt
set_option linter.unusedVariables false
set_option linter.unusedSimpArgs false
theorem td_exrd : td Tryz.prog 138 = some ⟨true, 3, 40, [.nilS, .lit (.int .i64 0), .lit (.int .i64 0)], [(0, 3, true)], .struct⟩ := Eq.trans (by kernel_rfl) (Eq.refl _)
attribute [simp] td_exrd
set_option maxRecDepth 100000 in
set_option maxHeartbeats 4000000 in
theorem typ_err (ts : List Tok) (i : Nat) (e : Int) (h : e ≠ 0) : Row Tryz.prog 126 [vR] [rd ts i e] (vT z0) [some (rd ts i e)] := by
  have h2 := goes_row ts i e
  refine row_of Tryz.func126 rfl rfl (Nat.le_of_ble_eq_true rfl) ?_
  repeat' (first | refine aw_seq ?_ | refine aw_skip ?_ | refine aw_block ?_ | refine aw_exit ?_ | refine aw_cond rfl (fun _ => ?_) (fun hb => absurd hb (by decide)) | refine aw_cond rfl (fun hb => absurd hb (by decide)) (fun _ => ?_) | (refine aw_reg (fun K hK => ?_); simp -implicitDefEqProofs [h]) | (refine aw_drw mixd (fun K hK => ?_); simp -implicitDefEqProofs [h]) | refine hK _ ?_ | refine hK _ _ (by rfl) ?_ | (refine ar_call (cb h2 0 ?_); simp -implicitDefEqProofs [h]) | (refine ard_call (db h2 0 ?_); simp -implicitDefEqProofs [h]) | fail)
  refine aw_ret (fin_box ?_); simp -implicitDefEqProofs [FinB, resV, resT, z0] <;> try rfl
theorem tyG_int {ts : List Tok} {n i : Nat} (h : isK wInt (nxt ts i) = true) : tyG ts (n + 1) i = (.mk ⟨1, 0, ⟨#[]⟩, frT ts i, toT ts i⟩ [], i + 1, 0) := by rw [tyG, if_pos h]
theorem tyG_bool {ts : List Tok} {n i : Nat} (h1 : isK wInt (nxt ts i) = false) (h : isK wBool (nxt ts i) = true) : tyG ts (n + 1) i = (.mk ⟨2, 0, ⟨#[]⟩, frT ts i, toT ts i⟩ [], i + 1, 0) := by rw [tyG, if_neg (by simp [h1]), if_pos h]
theorem tyG_arr {ts : List Tok} {n i : Nat} (h1 : isK wInt (nxt ts i) = false) (h2 : isK wBool (nxt ts i) = false) (h : isK sOpen (nxt ts i) = true) : tyG ts (n + 1) i =
      if (nxt ts (i + 1)).k = 2 then
        if isK sShut (nxt ts (i + 2)) = true then
          if (tyG ts n (i + 3)).2.2 = 0 then (.mk ⟨3, (nxt ts (i + 1)).n, ⟨#[]⟩, frT ts i, toT ts ((tyG ts n (i + 3)).2.1 - 1)⟩ [(tyG ts n (i + 3)).1], (tyG ts n (i + 3)).2.1, 0)
          else tyG ts n (i + 3)
        else (z0, i + 2, 6)
      else (z0, i + 1, 6) := by rw [tyG, if_neg (by simp [h1]), if_neg (by simp [h2]), if_pos h]
theorem tyG_rec {ts : List Tok} {n i : Nat} (h1 : isK wInt (nxt ts i) = false) (h2 : isK wBool (nxt ts i) = false) (h3 : isK sOpen (nxt ts i) = false) : tyG ts (n + 1) i = if (nxt ts i).k = 1 then (.mk ⟨4, 0, (nxt ts i).s, frT ts i, toT ts i⟩ [], i + 1, 0) else (z0, i, 6) := by rw [tyG, if_neg (by simp [h1]), if_neg (by simp [h2]), if_neg (by simp [h3])]
theorem kind_at {ts : List Tok} {i : Nat} {k : Int} (h : (nxt ts i).k = k) (hk : k ≠ 5) : ∃ x, ts[i]? = some x ∧ nxt ts i = x ∧ x.k = k := by
  unfold nxt at h ⊢
  cases hx : ts[i]? with
  | none => rw [hx] at h; exact absurd h.symm hk
  | some x => rw [hx] at h; exact ⟨x, rfl, rfl, h⟩
set_option maxRecDepth 100000 in
set_option maxHeartbeats 4000000 in
theorem typ_row (ts : List Tok) (hl : ts.length ≤ 9223372036854775807) : ∀ n i, ts.length - i < n → i ≤ ts.length → Row Tryz.prog 126 [vR] [rd ts i 0] (vT (tyG ts n i).1) [some (rd ts (tyG ts n i).2.1 (tyG ts n i).2.2)] := by
  intro n
  induction n with
  | zero => intro i h; omega
  | succ n ih =>
  intro i hn hi
  have g0 := goes_row ts i 0
  have p0 := place_row ts i 0
  by_cases h1 : isK wInt (nxt ts i) = true
  · rw [tyG_int h1]
    obtain ⟨x, hx, _⟩ := isK_at h1
    have hil := (List.getElem?_eq_some_iff.1 hx).1
    have t1 := take_yes ts i wInt (by decide) hl h1
    have n1 := node_yes ts (i + 1) i ⟨1, 0, ⟨#[]⟩, 0, 0⟩ [] hil (by omega) (by omega) hl
    rw [Nat.add_sub_cancel] at n1
    refine row_of Tryz.func126 rfl rfl (Nat.le_of_ble_eq_true rfl) ?_
    repeat' (first | refine aw_seq ?_ | refine aw_skip ?_ | refine aw_block ?_ | refine aw_exit ?_ | refine aw_cond rfl (fun _ => ?_) (fun hb => absurd hb (by decide)) | refine aw_cond rfl (fun hb => absurd hb (by decide)) (fun _ => ?_) | (refine aw_reg (fun K hK => ?_); simp -implicitDefEqProofs) | (refine aw_drw mixd (fun K hK => ?_); simp -implicitDefEqProofs) | refine hK _ ?_ | refine hK _ _ (by rfl) ?_ | (refine ar_call (cb g0 0 ?_); simp -implicitDefEqProofs) | (refine ard_call (db g0 0 ?_); simp -implicitDefEqProofs) | (refine ar_call (cb p0 0 ?_); simp -implicitDefEqProofs) | (refine ard_call (db p0 0 ?_); simp -implicitDefEqProofs) | (refine ar_call (cb t1 0 ?_); simp -implicitDefEqProofs) | (refine ard_call (db t1 0 ?_); simp -implicitDefEqProofs) | (refine ar_call (cb n1 0 ?_); simp -implicitDefEqProofs) | (refine ard_call (db n1 0 ?_); simp -implicitDefEqProofs) | fail)
    refine aw_ret (fin_box ?_); simp -implicitDefEqProofs [FinB, resV, resT] <;> try rfl
  have h1 : isK wInt (nxt ts i) = false := by simpa using h1
  have t1 := take_no ts i 0 wInt (by decide) (.inr h1)
  by_cases h2 : isK wBool (nxt ts i) = true
  · rw [tyG_bool h1 h2]
    obtain ⟨x, hx, _⟩ := isK_at h2
    have hil := (List.getElem?_eq_some_iff.1 hx).1
    have t2 := take_yes ts i wBool (by decide) hl h2
    have n1 := node_yes ts (i + 1) i ⟨2, 0, ⟨#[]⟩, 0, 0⟩ [] hil (by omega) (by omega) hl
    rw [Nat.add_sub_cancel] at n1
    refine row_of Tryz.func126 rfl rfl (Nat.le_of_ble_eq_true rfl) ?_
    repeat' (first | refine aw_seq ?_ | refine aw_skip ?_ | refine aw_block ?_ | refine aw_exit ?_ | refine aw_cond rfl (fun _ => ?_) (fun hb => absurd hb (by decide)) | refine aw_cond rfl (fun hb => absurd hb (by decide)) (fun _ => ?_) | (refine aw_reg (fun K hK => ?_); simp -implicitDefEqProofs) | (refine aw_drw mixd (fun K hK => ?_); simp -implicitDefEqProofs) | refine hK _ ?_ | refine hK _ _ (by rfl) ?_ | (refine ar_call (cb g0 0 ?_); simp -implicitDefEqProofs) | (refine ard_call (db g0 0 ?_); simp -implicitDefEqProofs) | (refine ar_call (cb p0 0 ?_); simp -implicitDefEqProofs) | (refine ard_call (db p0 0 ?_); simp -implicitDefEqProofs) | (refine ar_call (cb t1 0 ?_); simp -implicitDefEqProofs) | (refine ard_call (db t1 0 ?_); simp -implicitDefEqProofs) | (refine ar_call (cb t2 0 ?_); simp -implicitDefEqProofs) | (refine ard_call (db t2 0 ?_); simp -implicitDefEqProofs) | (refine ar_call (cb n1 0 ?_); simp -implicitDefEqProofs) | (refine ard_call (db n1 0 ?_); simp -implicitDefEqProofs) | fail)
    refine aw_ret (fin_box ?_); simp -implicitDefEqProofs [FinB, resV, resT] <;> try rfl
  have h2 : isK wBool (nxt ts i) = false := by simpa using h2
  have t2 := take_no ts i 0 wBool (by decide) (.inr h2)
  by_cases h3 : isK sOpen (nxt ts i) = true; rotate_left
  · have h3 : isK sOpen (nxt ts i) = false := by simpa using h3
    have t3 := take_no ts i 0 sOpen (by decide) (.inr h3)
    rw [tyG_rec h1 h2 h3]
    by_cases h4 : (nxt ts i).k = 1
    · rw [if_pos h4]
      obtain ⟨x, hx, hxn, hxk⟩ := kind_at h4 (by omega)
      have hil := (List.getElem?_eq_some_iff.1 hx).1
      have k1 := kind_yes ts i 1 x hl hx hxk
      have n1 := node_yes ts (i + 1) i ⟨4, 0, x.s, 0, 0⟩ [] hil (by omega) (by omega) hl
      rw [Nat.add_sub_cancel] at n1
      rw [hxn]
      clear hxk hx
      refine row_of Tryz.func126 rfl rfl (Nat.le_of_ble_eq_true rfl) ?_
      repeat' (first | refine aw_seq ?_ | refine aw_skip ?_ | refine aw_block ?_ | refine aw_exit ?_ | refine aw_cond rfl (fun _ => ?_) (fun hb => absurd hb (by decide)) | refine aw_cond rfl (fun hb => absurd hb (by decide)) (fun _ => ?_) | (refine aw_reg (fun K hK => ?_); simp -implicitDefEqProofs) | (refine aw_drw mixd (fun K hK => ?_); simp -implicitDefEqProofs) | refine hK _ ?_ | refine hK _ _ (by rfl) ?_ | (refine ar_call (cb g0 0 ?_); simp -implicitDefEqProofs) | (refine ard_call (db g0 0 ?_); simp -implicitDefEqProofs) | (refine ar_call (cb p0 0 ?_); simp -implicitDefEqProofs) | (refine ard_call (db p0 0 ?_); simp -implicitDefEqProofs) | (refine ar_call (cb t1 0 ?_); simp -implicitDefEqProofs) | (refine ard_call (db t1 0 ?_); simp -implicitDefEqProofs) | (refine ar_call (cb t2 0 ?_); simp -implicitDefEqProofs) | (refine ard_call (db t2 0 ?_); simp -implicitDefEqProofs) | (refine ar_call (cb t3 0 ?_); simp -implicitDefEqProofs) | (refine ard_call (db t3 0 ?_); simp -implicitDefEqProofs) | (refine ar_call (cb k1 0 ?_); simp -implicitDefEqProofs) | (refine ard_call (db k1 0 ?_); simp -implicitDefEqProofs) | (refine ar_call (cb n1 0 ?_); simp -implicitDefEqProofs) | (refine ard_call (db n1 0 ?_); simp -implicitDefEqProofs) | fail)
      refine aw_ret (fin_box ?_); simp -implicitDefEqProofs [FinB, resV, resT] <;> try rfl
    · rw [if_neg h4]
      have k1 := kind_no ts i 0 1 (.inr h4)
      have n1 := node_no ts i (er 0) (by decide) i (.mk ⟨4, 0, ⟨#[]⟩, 0, 0⟩ [])
      refine row_of Tryz.func126 rfl rfl (Nat.le_of_ble_eq_true rfl) ?_
      repeat' (first | refine aw_seq ?_ | refine aw_skip ?_ | refine aw_block ?_ | refine aw_exit ?_ | refine aw_cond rfl (fun _ => ?_) (fun hb => absurd hb (by decide)) | refine aw_cond rfl (fun hb => absurd hb (by decide)) (fun _ => ?_) | (refine aw_reg (fun K hK => ?_); simp -implicitDefEqProofs [zK]) | (refine aw_drw mixd (fun K hK => ?_); simp -implicitDefEqProofs [zK]) | refine hK _ ?_ | refine hK _ _ (by rfl) ?_ | (refine ar_call (cb g0 0 ?_); simp -implicitDefEqProofs [zK]) | (refine ard_call (db g0 0 ?_); simp -implicitDefEqProofs [zK]) | (refine ar_call (cb p0 0 ?_); simp -implicitDefEqProofs [zK]) | (refine ard_call (db p0 0 ?_); simp -implicitDefEqProofs [zK]) | (refine ar_call (cb t1 0 ?_); simp -implicitDefEqProofs [zK]) | (refine ard_call (db t1 0 ?_); simp -implicitDefEqProofs [zK]) | (refine ar_call (cb t2 0 ?_); simp -implicitDefEqProofs [zK]) | (refine ard_call (db t2 0 ?_); simp -implicitDefEqProofs [zK]) | (refine ar_call (cb t3 0 ?_); simp -implicitDefEqProofs [zK]) | (refine ard_call (db t3 0 ?_); simp -implicitDefEqProofs [zK]) | (refine ar_call (cb k1 0 ?_); simp -implicitDefEqProofs [zK]) | (refine ard_call (db k1 0 ?_); simp -implicitDefEqProofs [zK]) | (refine ar_call (cb n1 0 ?_); simp -implicitDefEqProofs [zK]) | (refine ard_call (db n1 0 ?_); simp -implicitDefEqProofs [zK]) | fail)
      refine aw_ret (fin_box ?_); simp -implicitDefEqProofs [FinB, resV, resT, z0, er] <;> try rfl
  rw [tyG_arr h1 h2 h3]
  obtain ⟨x, hx, _⟩ := isK_at h3
  have hil := (List.getElem?_eq_some_iff.1 hx).1
  have t3 := take_yes ts i sOpen (by decide) hl h3
  by_cases h4 : (nxt ts (i + 1)).k = 2; rotate_left
  · rw [if_neg h4]
    have k1 := kind_no ts (i + 1) 0 2 (.inr h4)
    have w1 := want_no ts (i + 1) (er 0) sShut (by decide) (.inl (by decide))
    have y1 := typ_err ts (i + 1) (er (er 0)) (by decide)
    have n1 := node_no ts (i + 1) (er (er 0)) (by decide) i (.mk ⟨3, 0, ⟨#[]⟩, 0, 0⟩ [z0])
    simp only [show er (er 0) = 6 from rfl, show er 0 = 6 from rfl] at k1 w1 y1 n1
    unfold z0 at y1 n1
    refine row_of Tryz.func126 rfl rfl (Nat.le_of_ble_eq_true rfl) ?_
    repeat' (first | refine aw_seq ?_ | refine aw_skip ?_ | refine aw_block ?_ | refine aw_exit ?_ | refine aw_cond rfl (fun _ => ?_) (fun hb => absurd hb (by decide)) | refine aw_cond rfl (fun hb => absurd hb (by decide)) (fun _ => ?_) | (refine aw_reg (fun K hK => ?_); simp -implicitDefEqProofs [zK]) | (refine aw_drw mixd (fun K hK => ?_); simp -implicitDefEqProofs [zK]) | refine hK _ ?_ | refine hK _ _ (by rfl) ?_ | (refine ar_call (cb g0 0 ?_); simp -implicitDefEqProofs [zK]) | (refine ard_call (db g0 0 ?_); simp -implicitDefEqProofs [zK]) | (refine ar_call (cb p0 0 ?_); simp -implicitDefEqProofs [zK]) | (refine ard_call (db p0 0 ?_); simp -implicitDefEqProofs [zK]) | (refine ar_call (cb t1 0 ?_); simp -implicitDefEqProofs [zK]) | (refine ard_call (db t1 0 ?_); simp -implicitDefEqProofs [zK]) | (refine ar_call (cb t2 0 ?_); simp -implicitDefEqProofs [zK]) | (refine ard_call (db t2 0 ?_); simp -implicitDefEqProofs [zK]) | (refine ar_call (cb t3 0 ?_); simp -implicitDefEqProofs [zK]) | (refine ard_call (db t3 0 ?_); simp -implicitDefEqProofs [zK]) | (refine ar_call (cb k1 0 ?_); simp -implicitDefEqProofs [zK]) | (refine ard_call (db k1 0 ?_); simp -implicitDefEqProofs [zK]) | (refine ar_call (cb w1 0 ?_); simp -implicitDefEqProofs [zK]) | (refine ard_call (db w1 0 ?_); simp -implicitDefEqProofs [zK]) | (refine ar_call (cb y1 0 ?_); simp -implicitDefEqProofs [zK]) | (refine ard_call (db y1 0 ?_); simp -implicitDefEqProofs [zK]) | (refine ar_call (cb n1 0 ?_); simp -implicitDefEqProofs [zK]) | (refine ard_call (db n1 0 ?_); simp -implicitDefEqProofs [zK]) | fail)
    refine aw_ret (fin_box ?_); simp -implicitDefEqProofs [FinB, resV, resT, z0] <;> try rfl
  rw [if_pos h4]
  obtain ⟨y, hy, hyn, hyk⟩ := kind_at h4 (by omega)
  have hil1 := (List.getElem?_eq_some_iff.1 hy).1
  have k1 := kind_yes ts (i + 1) 2 y hl hy hyk
  by_cases h5 : isK sShut (nxt ts (i + 2)) = true; rotate_left
  · rw [if_neg h5]
    have h5 : isK sShut (nxt ts (i + 1 + 1)) = false := by simpa using h5
    have w1 := want_no ts (i + 1 + 1) 0 sShut (by decide) (.inr h5)
    have y1 := typ_err ts (i + 1 + 1) (er 0) (by decide)
    have n1 := node_no ts (i + 1 + 1) (er 0) (by decide) i (.mk ⟨3, y.n, ⟨#[]⟩, 0, 0⟩ [z0])
    simp only [show er 0 = 6 from rfl] at w1 y1 n1
    unfold z0 at y1 n1
    clear hyk hy hyn
    refine row_of Tryz.func126 rfl rfl (Nat.le_of_ble_eq_true rfl) ?_
    repeat' (first | refine aw_seq ?_ | refine aw_skip ?_ | refine aw_block ?_ | refine aw_exit ?_ | refine aw_cond rfl (fun _ => ?_) (fun hb => absurd hb (by decide)) | refine aw_cond rfl (fun hb => absurd hb (by decide)) (fun _ => ?_) | (refine aw_reg (fun K hK => ?_); simp -implicitDefEqProofs) | (refine aw_drw mixd (fun K hK => ?_); simp -implicitDefEqProofs) | refine hK _ ?_ | refine hK _ _ (by rfl) ?_ | (refine ar_call (cb g0 0 ?_); simp -implicitDefEqProofs) | (refine ard_call (db g0 0 ?_); simp -implicitDefEqProofs) | (refine ar_call (cb p0 0 ?_); simp -implicitDefEqProofs) | (refine ard_call (db p0 0 ?_); simp -implicitDefEqProofs) | (refine ar_call (cb t1 0 ?_); simp -implicitDefEqProofs) | (refine ard_call (db t1 0 ?_); simp -implicitDefEqProofs) | (refine ar_call (cb t2 0 ?_); simp -implicitDefEqProofs) | (refine ard_call (db t2 0 ?_); simp -implicitDefEqProofs) | (refine ar_call (cb t3 0 ?_); simp -implicitDefEqProofs) | (refine ard_call (db t3 0 ?_); simp -implicitDefEqProofs) | (refine ar_call (cb k1 0 ?_); simp -implicitDefEqProofs) | (refine ard_call (db k1 0 ?_); simp -implicitDefEqProofs) | (refine ar_call (cb w1 0 ?_); simp -implicitDefEqProofs) | (refine ard_call (db w1 0 ?_); simp -implicitDefEqProofs) | (refine ar_call (cb y1 0 ?_); simp -implicitDefEqProofs) | (refine ard_call (db y1 0 ?_); simp -implicitDefEqProofs) | (refine ar_call (cb n1 0 ?_); simp -implicitDefEqProofs) | (refine ard_call (db n1 0 ?_); simp -implicitDefEqProofs) | fail)
    refine aw_ret (fin_box ?_); simp -implicitDefEqProofs [FinB, resV, resT, z0] <;> try rfl
  rw [if_pos h5, hyn]
  have w1 := want_yes ts (i + 1 + 1) sShut (by decide) hl h5
  obtain ⟨z, hz, _⟩ := isK_at h5
  have hil2 := (List.getElem?_eq_some_iff.1 hz).1
  have y1 : Row Tryz.prog 126 [vR] [rd ts (i + 1 + 1 + 1) 0] (vT (tyG ts n (i + 3)).1) [some (rd ts (tyG ts n (i + 3)).2.1 (tyG ts n (i + 3)).2.2)] := ih (i + 3) (by omega) (by omega)
  obtain ⟨o1, o2, o3, _⟩ := tyG_ok ts n (i + 3)
  obtain ⟨⟨⟨px, pl⟩, j, e⟩, hr⟩ : ∃ r, tyG ts n (i + 3) = r := ⟨_, rfl⟩
  rw [hr] at y1 o1 o2 o3 ⊢
  dsimp only at o1 o2 o3 y1 ⊢
  clear hr ih hx hy hz hyk hyn
  by_cases he : e = 0
  · subst he
    rw [if_pos rfl]
    obtain ⟨o4, o5⟩ := o1 rfl
    have n1 := node_yes ts j i ⟨3, y.n, ⟨#[]⟩, 0, 0⟩ [.mk px pl] hil (by omega) (by omega) hl
    refine row_of Tryz.func126 rfl rfl (Nat.le_of_ble_eq_true rfl) ?_
    repeat' (first | refine aw_seq ?_ | refine aw_skip ?_ | refine aw_block ?_ | refine aw_exit ?_ | refine aw_cond rfl (fun _ => ?_) (fun hb => absurd hb (by decide)) | refine aw_cond rfl (fun hb => absurd hb (by decide)) (fun _ => ?_) | (refine aw_reg (fun K hK => ?_); simp -implicitDefEqProofs) | (refine aw_drw mixd (fun K hK => ?_); simp -implicitDefEqProofs) | refine hK _ ?_ | refine hK _ _ (by rfl) ?_ | (refine ar_call (cb g0 0 ?_); simp -implicitDefEqProofs) | (refine ard_call (db g0 0 ?_); simp -implicitDefEqProofs) | (refine ar_call (cb p0 0 ?_); simp -implicitDefEqProofs) | (refine ard_call (db p0 0 ?_); simp -implicitDefEqProofs) | (refine ar_call (cb t1 0 ?_); simp -implicitDefEqProofs) | (refine ard_call (db t1 0 ?_); simp -implicitDefEqProofs) | (refine ar_call (cb t2 0 ?_); simp -implicitDefEqProofs) | (refine ard_call (db t2 0 ?_); simp -implicitDefEqProofs) | (refine ar_call (cb t3 0 ?_); simp -implicitDefEqProofs) | (refine ard_call (db t3 0 ?_); simp -implicitDefEqProofs) | (refine ar_call (cb k1 0 ?_); simp -implicitDefEqProofs) | (refine ard_call (db k1 0 ?_); simp -implicitDefEqProofs) | (refine ar_call (cb w1 0 ?_); simp -implicitDefEqProofs) | (refine ard_call (db w1 0 ?_); simp -implicitDefEqProofs) | (refine ar_call (cb y1 0 ?_); simp -implicitDefEqProofs) | (refine ard_call (db y1 0 ?_); simp -implicitDefEqProofs) | (refine ar_call (cb n1 0 ?_); simp -implicitDefEqProofs) | (refine ard_call (db n1 0 ?_); simp -implicitDefEqProofs) | fail)
    refine aw_ret (fin_box ?_); simp -implicitDefEqProofs [FinB, resV, resT] <;> try rfl
  · rw [if_neg he]
    obtain ⟨o4, o5⟩ := o2 he
    have n1 := node_no ts j e he i (.mk ⟨3, y.n, ⟨#[]⟩, 0, 0⟩ [.mk px pl])
    rw [← o5] at n1
    clear o5 o1 o2 o3
    refine row_of Tryz.func126 rfl rfl (Nat.le_of_ble_eq_true rfl) ?_
    repeat' (first | refine aw_seq ?_ | refine aw_skip ?_ | refine aw_block ?_ | refine aw_exit ?_ | refine aw_cond rfl (fun _ => ?_) (fun hb => absurd hb (by decide)) | refine aw_cond rfl (fun hb => absurd hb (by decide)) (fun _ => ?_) | (refine aw_reg (fun K hK => ?_); simp -implicitDefEqProofs) | (refine aw_drw mixd (fun K hK => ?_); simp -implicitDefEqProofs) | refine hK _ ?_ | refine hK _ _ (by rfl) ?_ | (refine ar_call (cb g0 0 ?_); simp -implicitDefEqProofs) | (refine ard_call (db g0 0 ?_); simp -implicitDefEqProofs) | (refine ar_call (cb p0 0 ?_); simp -implicitDefEqProofs) | (refine ard_call (db p0 0 ?_); simp -implicitDefEqProofs) | (refine ar_call (cb t1 0 ?_); simp -implicitDefEqProofs) | (refine ard_call (db t1 0 ?_); simp -implicitDefEqProofs) | (refine ar_call (cb t2 0 ?_); simp -implicitDefEqProofs) | (refine ard_call (db t2 0 ?_); simp -implicitDefEqProofs) | (refine ar_call (cb t3 0 ?_); simp -implicitDefEqProofs) | (refine ard_call (db t3 0 ?_); simp -implicitDefEqProofs) | (refine ar_call (cb k1 0 ?_); simp -implicitDefEqProofs) | (refine ard_call (db k1 0 ?_); simp -implicitDefEqProofs) | (refine ar_call (cb w1 0 ?_); simp -implicitDefEqProofs) | (refine ard_call (db w1 0 ?_); simp -implicitDefEqProofs) | (refine ar_call (cb y1 0 ?_); simp -implicitDefEqProofs) | (refine ard_call (db y1 0 ?_); simp -implicitDefEqProofs) | (refine ar_call (cb n1 0 ?_); simp -implicitDefEqProofs) | (refine ard_call (db n1 0 ?_); simp -implicitDefEqProofs) | fail)
    refine aw_ret (fin_box ?_); simp -implicitDefEqProofs [FinB, resV, resT] <;> try rfl
end Go.Proofs.YthcnligihpnfiaaGreatDoor.am
end
section
namespace Go.Proofs.YthcnligihpnfiaaGreatDoor.am
open Go.ChangeShapes Go.WideShapes Go.ChangeAt Go.RowKit
open vt
set_option linter.unusedVariables false
set_option linter.unusedSimpArgs false
theorem td_got : td Tryz.prog 52 = some ⟨true, 8, 88, [.lit (.int .i64 0), .lit (.int .i64 0), .lit (.string ⟨#[]⟩), .nilS, .lit (.int .i64 0), .lit (.int .i64 0), .lit (.int .i64 0), .lit (.int .i64 0)], [(0, 6, true), (6, 1, false), (7, 1, false)], .struct⟩ := Eq.trans (by kernel_rfl) (Eq.refl _)
attribute [simp] td_got
noncomputable abbrev vG (r : VT × Nat × Int) : AV := .v (.agg (((tc r.1) ++ [I (r.2.1 : Nat), I r.2.2]).map .pv))
theorem vG_ren (r : VT × Nat × Int) (ρ : Nat → Nat) : (vG r).ren ρ = vG r := by
  show AV.v (.agg (((tc r.1 ++ [I (r.2.1 : Nat), I r.2.2]).map AC.pv).map (AC.ren ρ))) = _
  rw [ren_pure]
end Go.Proofs.YthcnligihpnfiaaGreatDoor.am
end
section
namespace Go.Proofs.YthcnligihpnfiaaGreatDoor.am
open Go.ChangeShapes Go.WideShapes Go.ChangeAt Go.RowKit
open vt
set_option linter.unusedVariables false
set_option linter.unusedSimpArgs false
set_option maxRecDepth 100000 in
set_option maxHeartbeats 4000000 in
theorem rplac_row (t : VT) : t.size ≤ 1000000 → ∀ u : VT, u.size ≤ 1000000 → Row Tryz.prog 11 [vT t, vT u] [] (vB (plac t u)) [] := by
  induction t using Tr.ind with
  | h x l ih =>
  intro hsz u hsu
  obtain ⟨y, m⟩ := u
  have hlen := Tr.len_size (x := x) (l := l)
  rw [show plac (.mk x l) (.mk y m) = _ from eqv_mk pP x y l m]
  refine row_of Tryz.func11 rfl rfl (Nat.le_of_ble_eq_true rfl) ?_
  by_cases hk : x.k = y.k; rotate_left
  · repeat (first | refine aw_seq ?_ | refine aw_skip ?_ | refine aw_block ?_ | refine aw_exit ?_ | refine aw_cond rfl (fun _ => ?_) (fun hb => absurd hb (by decide)) | refine aw_cond rfl (fun hb => absurd hb (by decide)) (fun _ => ?_) | (refine aw_reg (fun K hK => ?_); simp -implicitDefEqProofs [hk]; refine hK _ ?_) | (refine aw_drw mixd (fun K hK => ?_); simp -implicitDefEqProofs [hk]; refine hK _ _ (by rfl) ?_) | fail)
    refine aw_ret (fin_ret ?_); simp -implicitDefEqProofs [FinP, resV, resT, hk, pP] <;> try rfl
  by_cases hn : x.n = y.n; rotate_left
  · repeat (first | refine aw_seq ?_ | refine aw_skip ?_ | refine aw_block ?_ | refine aw_exit ?_ | refine aw_cond rfl (fun _ => ?_) (fun hb => absurd hb (by decide)) | refine aw_cond rfl (fun hb => absurd hb (by decide)) (fun _ => ?_) | (refine aw_reg (fun K hK => ?_); simp -implicitDefEqProofs [hk, hn]; refine hK _ ?_) | (refine aw_drw mixd (fun K hK => ?_); simp -implicitDefEqProofs [hk, hn]; refine hK _ _ (by rfl) ?_) | fail)
    refine aw_ret (fin_ret ?_); simp -implicitDefEqProofs [FinP, resV, resT, hk, hn, pP] <;> try rfl
  by_cases hs : x.s = y.s; rotate_left
  · repeat (first | refine aw_seq ?_ | refine aw_skip ?_ | refine aw_block ?_ | refine aw_exit ?_ | refine aw_cond rfl (fun _ => ?_) (fun hb => absurd hb (by decide)) | refine aw_cond rfl (fun hb => absurd hb (by decide)) (fun _ => ?_) | (refine aw_reg (fun K hK => ?_); simp -implicitDefEqProofs [hk, hn, hs]; refine hK _ ?_) | (refine aw_drw mixd (fun K hK => ?_); simp -implicitDefEqProofs [hk, hn, hs]; refine hK _ _ (by rfl) ?_) | fail)
    refine aw_ret (fin_ret ?_); simp -implicitDefEqProofs [FinP, resV, resT, hk, hn, hs, pP] <;> try rfl
  by_cases hf : x.f = y.f; rotate_left
  · repeat (first | refine aw_seq ?_ | refine aw_skip ?_ | refine aw_block ?_ | refine aw_exit ?_ | refine aw_cond rfl (fun _ => ?_) (fun hb => absurd hb (by decide)) | refine aw_cond rfl (fun hb => absurd hb (by decide)) (fun _ => ?_) | (refine aw_reg (fun K hK => ?_); simp -implicitDefEqProofs [hk, hn, hs, hf]; refine hK _ ?_) | (refine aw_drw mixd (fun K hK => ?_); simp -implicitDefEqProofs [hk, hn, hs, hf]; refine hK _ _ (by rfl) ?_) | fail)
    refine aw_ret (fin_ret ?_); simp -implicitDefEqProofs [FinP, resV, resT, hk, hn, hs, hf, pP] <;> try rfl
  by_cases ht : x.t = y.t; rotate_left
  · repeat (first | refine aw_seq ?_ | refine aw_skip ?_ | refine aw_block ?_ | refine aw_exit ?_ | refine aw_cond rfl (fun _ => ?_) (fun hb => absurd hb (by decide)) | refine aw_cond rfl (fun hb => absurd hb (by decide)) (fun _ => ?_) | (refine aw_reg (fun K hK => ?_); simp -implicitDefEqProofs [hk, hn, hs, hf, ht]; refine hK _ ?_) | (refine aw_drw mixd (fun K hK => ?_); simp -implicitDefEqProofs [hk, hn, hs, hf, ht]; refine hK _ _ (by rfl) ?_) | fail)
    refine aw_ret (fin_ret ?_); simp -implicitDefEqProofs [FinP, resV, resT, hk, hn, hs, hf, ht, pP] <;> try rfl
  by_cases hm : l.length = m.length; rotate_left
  · have hm' : ¬ (l.length : Int) = (m.length : Int) := by omega
    repeat (first | refine aw_seq ?_ | refine aw_skip ?_ | refine aw_block ?_ | refine aw_exit ?_ | refine aw_cond rfl (fun _ => ?_) (fun hb => absurd hb (by decide)) | refine aw_cond rfl (fun hb => absurd hb (by decide)) (fun _ => ?_) | (refine aw_reg (fun K hK => ?_); simp -implicitDefEqProofs [hk, hn, hs, hf, ht, hm, hm']; refine hK _ ?_) | (refine aw_drw mixd (fun K hK => ?_); simp -implicitDefEqProofs [hk, hn, hs, hf, ht, hm, hm']; refine hK _ _ (by rfl) ?_) | fail)
    refine aw_ret (fin_ret ?_); simp -implicitDefEqProofs [FinP, resV, resT, hk, hn, hs, hf, ht, hm, pP] <;> try rfl
  repeat (first | refine aw_seq ?_ | refine aw_skip ?_ | refine aw_block ?_ | refine aw_exit ?_ | refine aw_cond rfl (fun _ => ?_) (fun hb => absurd hb (by decide)) | refine aw_cond rfl (fun hb => absurd hb (by decide)) (fun _ => ?_) | (refine aw_reg (fun K hK => ?_); simp -implicitDefEqProofs [hk, hn, hs, hf, ht, hm]; refine hK _ ?_) | (refine aw_drw mixd (fun K hK => ?_); simp -implicitDefEqProofs [hk, hn, hs, hf, ht, hm]; refine hK _ _ (by rfl) ?_) | fail)
  refine aw_lp (ι := Nat) (fun k => mkSt [(2, .v (.c (.ptr 0 0))), (3, .v (.c (.ptr 1 0))), (5, vI (k : Nat))] [some (.box (ta (.mk x l))), some (.box (ta (.mk y m)))]) (fun k => k ≤ l.length ∧ zipA (eqv pP) l m k = true) (fun k => l.length - k) 0 ⟨Nat.zero_le _, zipA_zero _ _ _⟩ (cov_intro [0, 1] (by simp -implicitDefEqProofs [hk, hn, hs, hf, ht, hm]) (by simp -implicitDefEqProofs [hk, hn, hs, hf, ht, hm]) (by decide) rfl (by simp)) (fun Z hI k hkz => ?_)
  obtain ⟨hkl', hz⟩ := hkz
  by_cases hkl : k < l.length; rotate_left
  · have : k = l.length := by omega
    subst this
    rw [show (pP x y && decide (l.length = m.length) && zipA (eqv pP) l m l.length) = true by rw [hz]; simp [pP, hk, hn, hs, hf, ht, hm]]
    repeat (first | refine aw_seq ?_ | refine aw_skip ?_ | refine aw_block ?_ | refine aw_exit ?_ | refine aw_cond rfl (fun _ => ?_) (fun hb => absurd hb (by decide)) | refine aw_cond rfl (fun hb => absurd hb (by decide)) (fun _ => ?_) | (refine aw_reg (fun K hK => ?_); simp -implicitDefEqProofs; refine hK _ ?_) | (refine aw_drw mixd (fun K hK => ?_); simp -implicitDefEqProofs; refine hK _ _ (by rfl) ?_) | fail)
    refine aw_ret (fin_ret ?_); simp -implicitDefEqProofs [FinP, resV, resT] <;> try rfl
  have hkm : k < m.length := by omega
  obtain ⟨⟨ax, al⟩, ha⟩ : ∃ a, l[k]? = some a := ⟨_, List.getElem?_eq_getElem hkl⟩
  obtain ⟨⟨bx, bl⟩, hb⟩ : ∃ a, m[k]? = some a := ⟨_, List.getElem?_eq_getElem hkm⟩
  have ha' := (List.getElem?_eq_some_iff.1 ha).2
  have hb' := (List.getElem?_eq_some_iff.1 hb).2
  have hsz1 := Tr.size_at (x := x) ha
  have hsz2 := Tr.size_at (x := y) hb
  have w2 : IntKind.i64.wrap ((k : Nat) + 1 : Int) = (k : Nat) + 1 := i64i _ (by omega) (by omega)
  have hzs := zipA_succ (f := eqv pP) ha hb
  repeat (first | refine aw_seq ?_ | refine aw_skip ?_ | refine aw_block ?_ | refine aw_exit ?_ | refine aw_cond rfl (fun _ => ?_) (fun hb => absurd hb (by decide)) | refine aw_cond rfl (fun hb => absurd hb (by decide)) (fun _ => ?_) | (refine aw_reg (fun K hK => ?_); simp -implicitDefEqProofs [hkl]; refine hK _ ?_) | (refine aw_drw mixd (fun K hK => ?_); simp -implicitDefEqProofs [hkl]; refine hK _ _ (by rfl) ?_) | fail)
  refine aw_drw mixd (fun K hK => ?_); simp -implicitDefEqProofs [hkl, hkm, ha, ha', hb, hb']
  refine ard_call (calld_pure (ih _ (List.mem_of_getElem? ha) (by omega) (.mk bx bl) (by omega)) (by simp) (fun _ => rfl) rfl ?_)
  simp -implicitDefEqProofs
  refine hK _ _ (by rfl) ?_
  refine aw_cond rfl (fun hb => ?_) (fun hb => ?_)
  · have hf : plac (.mk ax al) (.mk bx bl) = false := by simpa using hb
    repeat (first | refine aw_seq ?_ | refine aw_skip ?_ | refine aw_block ?_ | refine aw_exit ?_ | refine aw_cond rfl (fun _ => ?_) (fun hb => absurd hb (by decide)) | refine aw_cond rfl (fun hb => absurd hb (by decide)) (fun _ => ?_) | (refine aw_reg (fun K hK => ?_); simp -implicitDefEqProofs; refine hK _ ?_) | (refine aw_drw mixd (fun K hK => ?_); simp -implicitDefEqProofs; refine hK _ _ (by rfl) ?_) | fail)
    have e : zipA (eqv pP) l m l.length = false := by
      have := zipA_mono (l.length - (k + 1)) (show zipA (eqv pP) l m (k + 1) = false by rw [hzs, hz]; simpa using hf)
      rwa [show k + 1 + (l.length - (k + 1)) = l.length by omega] at this
    refine aw_ret (fin_ret ?_); simp -implicitDefEqProofs [FinP, resV, resT, e] <;> try rfl
  · have hf : plac (.mk ax al) (.mk bx bl) = true := by simpa using hb
    repeat (first | refine aw_seq ?_ | refine aw_skip ?_ | refine aw_block ?_ | refine aw_exit ?_ | refine aw_cond rfl (fun _ => ?_) (fun hb => absurd hb (by decide)) | refine aw_cond rfl (fun hb => absurd hb (by decide)) (fun _ => ?_) | (refine aw_reg (fun K hK => ?_); simp -implicitDefEqProofs [w2]; refine hK _ ?_) | (refine aw_drw mixd (fun K hK => ?_); simp -implicitDefEqProofs [w2]; refine hK _ _ (by rfl) ?_) | fail)
    refine ⟨k + 1, ⟨by omega, by rw [hzs, hz]; simpa using hf⟩, (by dsimp only; omega), ?_⟩
    rw [hI]; exact cov_intro [0, 1] (by simp -implicitDefEqProofs) (by simp -implicitDefEqProofs) (by decide) rfl (by simp)
end Go.Proofs.YthcnligihpnfiaaGreatDoor.am
end
section
namespace Go.Proofs.YthcnligihpnfiaaGreatDoor.am
open Go.ChangeShapes Go.WideShapes Go.ChangeAt Go.RowKit
open vt
set_option linter.unusedVariables false
set_option linter.unusedSimpArgs false
noncomputable abbrev vT3 (r : VT × Nat × Int) : AV := .tup [.agg (ta r.1), .c (.pv (I (r.2.1 : Nat))), .c (.pv (I r.2.2))]
theorem vT3_ren (r : VT × Nat × Int) (ρ : Nat → Nat) : (vT3 r).ren ρ = vT3 r := by
  show AV.tup [.agg (((tc r.1).map AC.pv).map (AC.ren ρ)), _, _] = _
  rw [ren_pure]; rfl
abbrev vRd (ts : List Tok) (i : Nat) (e : Int) : AV := .tup [.agg [.pv (.sl 5 (ts.map kc)), .pv (I i), .pv (I 0)], .c (.pv (I e))]
set_option maxRecDepth 100000 in
set_option maxHeartbeats 4000000 in
theorem new_yes (ts : List Tok) (i : Nat) (h : i ≤ ts.length) : Row Tryz.prog 19 [vKs ts, vI i] [] (vRd ts i 0) [] := by
  have h1 : ¬ (i : Int) < 0 := by omega
  have h2 : ¬ (ts.length : Int) < i := by omega
  have h3 : ¬ ts.length < i := by omega
  refine row_of Tryz.func19 rfl rfl (Nat.le_of_ble_eq_true rfl) ?_
  repeat (first | refine aw_seq ?_ | refine aw_skip ?_ | refine aw_block ?_ | refine aw_exit ?_ | refine aw_cond rfl (fun _ => ?_) (fun hb => absurd hb (by decide)) | refine aw_cond rfl (fun hb => absurd hb (by decide)) (fun _ => ?_) | (refine aw_reg (fun K hK => ?_); simp -implicitDefEqProofs [h1, h2, h3]; refine hK _ ?_) | (refine aw_drw mixd (fun K hK => ?_); simp -implicitDefEqProofs [h1, h2, h3]; refine hK _ _ (by rfl) ?_) | fail)
  refine aw_ret (fin_ret ?_); simp -implicitDefEqProofs [FinP, resV, resT] <;> try rfl
noncomputable def endT (r : VT × Nat × Int) : VT × Nat × Int := if r.2.2 = 0 then r else (z0, r.2.1, r.2.2)
set_option maxRecDepth 100000 in
set_option maxHeartbeats 4000000 in
theorem begin_yes (ts : List Tok) (i : Nat) (h : i ≤ ts.length) (g : Nat) (r : VT × Nat × Int) (hr : Row Tryz.prog g [vR] [rd ts i 0] (vT r.1) [some (rd ts r.2.1 r.2.2)]) : Row Tryz.prog 125 [vKs ts, vI i, .v (.c (.fn (.func g) [] []))] [] (vT3 (endT r)) [] := by
  have h1 := new_yes ts i h
  obtain ⟨⟨px, pl⟩, j, e⟩ := r
  have g1 := goes_row ts j e
  have p1 := place_row ts j e
  have e1 := err_row ts j e
  dsimp only at hr
  by_cases he : e = 0
  · subst he
    rw [show endT (.mk px pl, j, 0) = (.mk px pl, j, 0) from if_pos rfl]
    refine row_of Tryz.func125 rfl rfl (Nat.le_of_ble_eq_true rfl) ?_
    repeat' (first | refine aw_seq ?_ | refine aw_skip ?_ | refine aw_block ?_ | refine aw_exit ?_ | refine aw_cond rfl (fun _ => ?_) (fun hb => absurd hb (by decide)) | refine aw_cond rfl (fun hb => absurd hb (by decide)) (fun _ => ?_) | (refine aw_reg (fun K hK => ?_); simp -implicitDefEqProofs) | (refine aw_drw mixd (fun K hK => ?_); simp -implicitDefEqProofs) | refine hK _ ?_ | refine hK _ _ (by rfl) ?_ | (refine ar_call (cp h1 ?_); simp -implicitDefEqProofs) | (refine ard_call (dp h1 ?_); simp -implicitDefEqProofs) | (refine ar_call (cb hr 23 ?_); simp -implicitDefEqProofs) | (refine ard_call (db hr 23 ?_); simp -implicitDefEqProofs) | (refine ar_call (cb g1 23 ?_); simp -implicitDefEqProofs) | (refine ard_call (db g1 23 ?_); simp -implicitDefEqProofs) | (refine ar_call (cb p1 23 ?_); simp -implicitDefEqProofs) | (refine ard_call (db p1 23 ?_); simp -implicitDefEqProofs) | fail)
    refine aw_ret (fin_ret ?_); simp -implicitDefEqProofs [FinP, resV, resT] <;> try rfl
  · rw [show endT (.mk px pl, j, e) = (z0, j, e) from if_neg he]
    refine row_of Tryz.func125 rfl rfl (Nat.le_of_ble_eq_true rfl) ?_
    repeat' (first | refine aw_seq ?_ | refine aw_skip ?_ | refine aw_block ?_ | refine aw_exit ?_ | refine aw_cond rfl (fun _ => ?_) (fun hb => absurd hb (by decide)) | refine aw_cond rfl (fun hb => absurd hb (by decide)) (fun _ => ?_) | (refine aw_reg (fun K hK => ?_); simp -implicitDefEqProofs [he]) | (refine aw_drw mixd (fun K hK => ?_); simp -implicitDefEqProofs [he]) | refine hK _ ?_ | refine hK _ _ (by rfl) ?_ | (refine ar_call (cp h1 ?_); simp -implicitDefEqProofs [he]) | (refine ard_call (dp h1 ?_); simp -implicitDefEqProofs [he]) | (refine ar_call (cb hr 23 ?_); simp -implicitDefEqProofs [he]) | (refine ard_call (db hr 23 ?_); simp -implicitDefEqProofs [he]) | (refine ar_call (cb g1 23 ?_); simp -implicitDefEqProofs [he]) | (refine ard_call (db g1 23 ?_); simp -implicitDefEqProofs [he]) | (refine ar_call (cb p1 23 ?_); simp -implicitDefEqProofs [he]) | (refine ard_call (db p1 23 ?_); simp -implicitDefEqProofs [he]) | (refine ar_call (cb e1 23 ?_); simp -implicitDefEqProofs [he]) | (refine ard_call (db e1 23 ?_); simp -implicitDefEqProofs [he]) | fail)
    refine aw_ret (fin_ret ?_); simp -implicitDefEqProofs [FinP, resV, resT, z0] <;> try rfl
end Go.Proofs.YthcnligihpnfiaaGreatDoor.am
end
section
namespace Go.Proofs.YthcnligihpnfiaaGreatDoor.vt
open Go.Proofs.YthcnligihpnfiaaGreatDoor.am
set_option linter.unusedVariables false
abbrev Got := VT × Nat × Int
def opS (s : ByteArray) : Int × Nat :=
  if s = ⟨#[124, 124]⟩ then (1, 1) else if s = ⟨#[38, 38]⟩ then (2, 2) else if s = ⟨#[61, 61]⟩ then (3, 3) else if s = ⟨#[33, 61]⟩ then (4, 3) else if s = ⟨#[60]⟩ then (5, 3) else if s = ⟨#[60, 61]⟩ then (6, 3)
  else if s = ⟨#[62]⟩ then (7, 3) else if s = ⟨#[62, 61]⟩ then (8, 3) else if s = ⟨#[43]⟩ then (9, 4) else if s = ⟨#[45]⟩ then (10, 4) else if s = ⟨#[42]⟩ then (11, 5) else if s = ⟨#[47]⟩ then (12, 5) else if s = ⟨#[37]⟩ then (13, 5) else (0, 6)
def opK (x : Tok) : Int × Nat := if x.k = 4 then opS x.s else (0, 6)
def mk7 (ts : List Tok) (a b : Nat) (k n : Int) (s : ByteArray) (l : List VT) : Got := (.mk ⟨k, n, s, frT ts a, toT ts (b - 1)⟩ l, b, 0)
def bad7 (i : Nat) : Got := (z0, i, 6)
abbrev sParO : ByteArray := ⟨#[40]⟩
abbrev sParS : ByteArray := ⟨#[41]⟩
abbrev sDot : ByteArray := ⟨#[46]⟩
abbrev sCom : ByteArray := ⟨#[44]⟩
abbrev sAt : ByteArray := ⟨#[64]⟩
abbrev sMin : ByteArray := ⟨#[45]⟩
abbrev sNot : ByteArray := ⟨#[33]⟩
abbrev wTrue : ByteArray := ⟨#[116, 114, 117, 101]⟩
abbrev wFals : ByteArray := ⟨#[102, 97, 108, 115, 101]⟩
abbrev wRead : ByteArray := ⟨#[114, 101, 97, 100]⟩
abbrev wNew : ByteArray := ⟨#[110, 101, 119]⟩
section
variable (ts : List Tok)
def lpL (P : Nat → Got) (l a : Nat) : Nat → Bool → Got → Got
  | 0, _, x => x
  | m + 1, t, x => if x.2.2 ≠ 0 then x else if (opK (nxt ts x.2.1)).2 ≠ l ∨ (l = 3 ∧ t = true) then x
      else if (P (x.2.1 + 1)).2.2 ≠ 0 then P (x.2.1 + 1)
      else lpL P l a m true (mk7 ts a (P (x.2.1 + 1)).2.1 10 (opK (nxt ts x.2.1)).1 ⟨#[]⟩ [x.1, (P (x.2.1 + 1)).1])
def lpP (E : Nat → Got) (a : Nat) : Nat → Got → Got
  | 0, x => x
  | m + 1, x => if x.2.2 ≠ 0 then x else if isK sOpen (nxt ts x.2.1) = true then
        if (E (x.2.1 + 1)).2.2 ≠ 0 then E (x.2.1 + 1)
        else if isK sShut (nxt ts (E (x.2.1 + 1)).2.1) = false then bad7 (E (x.2.1 + 1)).2.1
        else lpP E a m (mk7 ts a ((E (x.2.1 + 1)).2.1 + 1) 12 0 ⟨#[]⟩ [x.1, (E (x.2.1 + 1)).1])
      else if isK sDot (nxt ts x.2.1) = true then
        if (nxt ts (x.2.1 + 1)).k ≠ 1 then bad7 (x.2.1 + 1) else lpP E a m (mk7 ts a (x.2.1 + 2) 13 0 (nxt ts (x.2.1 + 1)).s [x.1])
      else x
def lpC (E : Nat → Got) : Nat → Nat → List VT → List VT × Nat × Int
  | 0, i, acc => (acc, i, 6)
  | m + 1, i, acc => if (E i).2.2 ≠ 0 then (acc, (E i).2.1, (E i).2.2) else if isK sCom (nxt ts (E i).2.1) = false then (acc ++ [(E i).1], (E i).2.1, 0) else lpC E m ((E i).2.1 + 1) (acc ++ [(E i).1])
def cloG (E : Nat → Got) (o : Nat) (few : Bool) (fs ls : ByteArray) : List VT × Nat × Int :=
  if isK fs (nxt ts o) = false then ([], o, 6) else if few = true ∧ isK ls (nxt ts (o + 1)) = true then ([], o + 2, 0)
  else if (lpC ts E (ts.length + 1) (o + 1) []).2.2 ≠ 0 then lpC ts E (ts.length + 1) (o + 1) []
  else if isK ls (nxt ts (lpC ts E (ts.length + 1) (o + 1) []).2.1) = false then ((lpC ts E (ts.length + 1) (o + 1) []).1, (lpC ts E (ts.length + 1) (o + 1) []).2.1, 6)
  else ((lpC ts E (ts.length + 1) (o + 1) []).1, (lpC ts E (ts.length + 1) (o + 1) []).2.1 + 1, 0)
def finC (i : Nat) (k : Int) (s : ByteArray) (c : List VT × Nat × Int) : Got := if c.2.2 ≠ 0 then (z0, c.2.1, c.2.2) else mk7 ts i c.2.1 k 0 s c.1
def calG (E : Nat → Got) (i : Nat) : Got :=
  if (nxt ts i).k = 1 then finC ts i 16 (nxt ts i).s (cloG ts E (i + 1) true sParO sParS)
  else if isK sOpen (nxt ts i) = true then finC ts i 14 ⟨#[]⟩ (cloG ts E i false sOpen sShut)
  else if isK sAt (nxt ts i) = true then if (nxt ts (i + 1)).k ≠ 1 then bad7 (i + 1) else finC ts i 17 (nxt ts (i + 1)).s (cloG ts E (i + 2) true sParO sParS)
  else if isK wNew (nxt ts i) = true then if (nxt ts (i + 1)).k ≠ 1 then bad7 (i + 1) else finC ts i 15 (nxt ts (i + 1)).s (cloG ts E (i + 2) false sParO sParS)
  else bad7 i
def atoG (E : Nat → Got) (i : Nat) : Got :=
  if (nxt ts i).k = 2 then mk7 ts i (i + 1) 5 (nxt ts i).n ⟨#[]⟩ []
  else if isK wTrue (nxt ts i) = true then mk7 ts i (i + 1) 6 1 ⟨#[]⟩ []
  else if isK wFals (nxt ts i) = true then mk7 ts i (i + 1) 6 0 ⟨#[]⟩ []
  else if isK wRead (nxt ts i) = true then mk7 ts i (i + 1) 18 0 ⟨#[]⟩ []
  else if (nxt ts i).k = 1 ∧ isK sParO (nxt ts (i + 1)) = false then mk7 ts i (i + 1) 19 0 (nxt ts i).s []
  else if isK sParO (nxt ts i) = true then
    if (E (i + 1)).2.2 ≠ 0 then E (i + 1) else if isK sParS (nxt ts (E (i + 1)).2.1) = false then bad7 (E (i + 1)).2.1 else ((E (i + 1)).1, (E (i + 1)).2.1 + 1, 0)
  else calG ts E i
def unN (i : Nat) : Int := if isK sNot (nxt ts i) = true then 2 else if isK sMin (nxt ts i) = true then 1 else 0
def bG (R : Nat → Nat → Got) (w i : Nat) : Got :=
  if w ≤ 5 then lpL ts (R (w + 1)) w i (ts.length + 1) false (R (w + 1) i)
  else if w = 6 then
    if unN ts i = 0 then R 7 i else if (R 6 (i + 1)).2.2 ≠ 0 then R 6 (i + 1) else mk7 ts i (R 6 (i + 1)).2.1 11 (unN ts i) ⟨#[]⟩ [(R 6 (i + 1)).1]
  else if w = 7 then lpP ts (R 1) i (ts.length + 1) (R 8 i)
  else atoG ts (R 1) i
def pG : Nat → Nat → Nat → Got
  | 0, _, i => bad7 i
  | n + 1, w, i => bG ts (pG n) w i
end
section
variable {ts : List Tok}
structure OkG (ts : List Tok) (i : Nat) (x : Got) : Prop where
  yes : x.2.2 = 0 → i < x.2.1 ∧ x.2.1 ≤ ts.length
  no : x.2.2 ≠ 0 → x.2.2 = 6 ∧ x.1 = z0
  le : i ≤ ts.length → i ≤ x.2.1 ∧ x.2.1 ≤ ts.length
theorem isK_lt {s : ByteArray} {i : Nat} (h : isK s (nxt ts i) = true) : i < ts.length := by
  obtain ⟨x, h1, _⟩ := isK_at h
  exact (List.getElem?_eq_some_iff.1 h1).1
theorem k_lt {k : Int} {i : Nat} (h : (nxt ts i).k = k) (hk : k ≠ 5) : i < ts.length := by
  rcases Nat.lt_or_ge i ts.length with h1 | h1
  · exact h1
  · rw [nxt_none h1] at h; exact absurd h.symm hk
theorem op_lt {l i : Nat} (h : (opK (nxt ts i)).2 = l) (hl : l ≤ 5) : i < ts.length := by
  rcases Nat.lt_or_ge i ts.length with h1 | h1
  · exact h1
  · rw [nxt_none h1] at h
    have : (opK endK).2 = 6 := rfl
    omega
theorem ok_bad {i j : Nat} (h : i ≤ ts.length → i ≤ j ∧ j ≤ ts.length) : OkG ts i (bad7 j) := ⟨fun h => by simp [bad7] at h, fun _ => ⟨rfl, rfl⟩, h⟩
theorem ok_mk {i b : Nat} {k n : Int} {s : ByteArray} {l : List VT} (h : i < b) (hb : b ≤ ts.length) : OkG ts i (mk7 ts i b k n s l) := ⟨fun _ => ⟨h, hb⟩, fun h => absurd rfl h, fun _ => ⟨Nat.le_of_lt h, hb⟩⟩
theorem lpL_ok {P : Nat → Got} {l a : Nat} (hl : l ≤ 5) (hP : ∀ j, j ≤ ts.length → OkG ts j (P j)) : ∀ (m : Nat) (t : Bool) (x : Got), OkG ts a x → OkG ts a (lpL ts P l a m t x)
  | 0, t, x, hx => hx
  | m + 1, t, x, hx => by
    unfold lpL
    split
    · exact hx
    · rename_i h0
      have h0 : x.2.2 = 0 := by simpa using h0
      split
      · exact hx
      · rename_i h1
        have h1 : (opK (nxt ts x.2.1)).2 = l := by simpa using (not_or.1 h1).1
        have hlt := op_lt h1 hl
        have hp := hP (x.2.1 + 1) (by omega)
        have hy := hx.yes h0
        split
        · rename_i h2
          exact ⟨fun h => absurd h h2, hp.no, fun _ => by have := hp.le (by omega); omega⟩
        · rename_i h2
          have h2 : (P (x.2.1 + 1)).2.2 = 0 := by simpa using h2
          have := hp.yes h2
          exact lpL_ok hl hP m true _ (ok_mk (by omega) this.2)
theorem lpL_congr {P P' : Nat → Got} {l a : Nat} (hl : l ≤ 5) (hP : ∀ j, j ≤ ts.length → OkG ts j (P j)) (he : ∀ j, a < j → j ≤ ts.length → P j = P' j) : ∀ (m : Nat) (t : Bool) (x : Got), OkG ts a x → lpL ts P l a m t x = lpL ts P' l a m t x
  | 0, t, x, hx => rfl
  | m + 1, t, x, hx => by
    unfold lpL
    split
    · rfl
    · rename_i h0
      have h0 : x.2.2 = 0 := by simpa using h0
      split
      · rfl
      · rename_i h1
        have h1 : (opK (nxt ts x.2.1)).2 = l := by simpa using (not_or.1 h1).1
        have hlt := op_lt h1 hl
        have hy := hx.yes h0
        have hp := hP (x.2.1 + 1) (by omega)
        rw [← he (x.2.1 + 1) (by omega) (by omega)]
        split
        · rfl
        · rename_i h2
          have h2 : (P (x.2.1 + 1)).2.2 = 0 := by simpa using h2
          have := hp.yes h2
          exact lpL_congr hl hP he m true _ (ok_mk (by omega) this.2)
theorem lpP_ok {E : Nat → Got} {a : Nat} (hE : ∀ j, j ≤ ts.length → OkG ts j (E j)) : ∀ (m : Nat) (x : Got), OkG ts a x → OkG ts a (lpP ts E a m x)
  | 0, x, hx => hx
  | m + 1, x, hx => by
    unfold lpP
    split
    · exact hx
    · rename_i h0
      have h0 : x.2.2 = 0 := by simpa using h0
      have hy := hx.yes h0
      split
      · rename_i h1
        have hlt := isK_lt h1
        have hp := hE (x.2.1 + 1) (by omega)
        split
        · rename_i h2
          exact ⟨fun h => absurd h h2, hp.no, fun _ => by have := hp.le (by omega); omega⟩
        · rename_i h2
          have h2 : (E (x.2.1 + 1)).2.2 = 0 := by simpa using h2
          have hyy := hp.yes h2
          split
          · exact ok_bad (fun _ => by omega)
          · rename_i h3
            have := isK_lt (s := sShut) (ts := ts) (by simpa using h3)
            exact lpP_ok hE m _ (ok_mk (by omega) (by omega))
      · split
        · rename_i h1
          have hlt := isK_lt h1
          split
          · exact ok_bad (fun _ => by omega)
          · rename_i h3
            have := k_lt (ts := ts) (k := 1) (by simpa using h3) (by decide)
            exact lpP_ok hE m _ (ok_mk (by omega) (by omega))
        · exact hx
theorem lpP_congr {E E' : Nat → Got} {a : Nat} (hE : ∀ j, j ≤ ts.length → OkG ts j (E j)) (he : ∀ j, a < j → j ≤ ts.length → E j = E' j) : ∀ (m : Nat) (x : Got), OkG ts a x → lpP ts E a m x = lpP ts E' a m x
  | 0, x, hx => rfl
  | m + 1, x, hx => by
    unfold lpP
    split
    · rfl
    · rename_i h0
      have h0 : x.2.2 = 0 := by simpa using h0
      have hy := hx.yes h0
      split
      · rename_i h1
        have hlt := isK_lt h1
        have hp := hE (x.2.1 + 1) (by omega)
        rw [← he (x.2.1 + 1) (by omega) (by omega)]
        split
        · rfl
        · rename_i h2
          have h2 : (E (x.2.1 + 1)).2.2 = 0 := by simpa using h2
          have hyy := hp.yes h2
          split
          · rfl
          · rename_i h3
            have := isK_lt (s := sShut) (ts := ts) (by simpa using h3)
            exact lpP_congr hE he m _ (ok_mk (by omega) (by omega))
      · split
        · rename_i h1
          have hlt := isK_lt h1
          split
          · rfl
          · rename_i h3
            have := k_lt (ts := ts) (k := 1) (by simpa using h3) (by decide)
            exact lpP_congr hE he m _ (ok_mk (by omega) (by omega))
        · rfl
structure OkC (ts : List Tok) (i : Nat) (x : List VT × Nat × Int) : Prop where
  le : i ≤ x.2.1 ∧ x.2.1 ≤ ts.length
  yes : x.2.2 = 0 → i < x.2.1
  no : x.2.2 ≠ 0 → x.2.2 = 6
theorem lpC_ok {E : Nat → Got} (hE : ∀ j, j ≤ ts.length → OkG ts j (E j)) : ∀ (m i : Nat) (acc : List VT), i ≤ ts.length → OkC ts i (lpC ts E m i acc)
  | 0, i, acc, hi => ⟨⟨Nat.le_refl _, hi⟩, fun h => by simp [lpC] at h, fun _ => rfl⟩
  | m + 1, i, acc, hi => by
    unfold lpC
    have hp := hE i hi
    split
    · rename_i h; exact ⟨hp.le hi, fun h' => absurd h' h, fun _ => (hp.no h).1⟩
    · rename_i h
      have h : (E i).2.2 = 0 := by simpa using h
      have hy := hp.yes h
      split
      · exact ⟨⟨by dsimp only; omega, hy.2⟩, fun _ => hy.1, fun h => absurd rfl h⟩
      · rename_i h3
        have hlt := isK_lt (s := sCom) (ts := ts) (by simpa using h3)
        have := lpC_ok hE m ((E i).2.1 + 1) (acc ++ [(E i).1]) (by omega)
        exact ⟨⟨by have := this.le; omega, this.le.2⟩, fun h => by have := this.yes h; omega, this.no⟩
theorem lpC_congr {E E' : Nat → Got} {a : Nat} (hE : ∀ j, j ≤ ts.length → OkG ts j (E j)) (he : ∀ j, a < j → j ≤ ts.length → E j = E' j) : ∀ (m i : Nat) (acc : List VT), a < i → i ≤ ts.length → lpC ts E m i acc = lpC ts E' m i acc
  | 0, i, acc, _, _ => rfl
  | m + 1, i, acc, ha, hi => by
    unfold lpC
    rw [← he i ha hi]
    split
    · rfl
    · rename_i h
      have h : (E i).2.2 = 0 := by simpa using h
      have hy := (hE i hi).yes h
      split
      · rfl
      · rename_i h3
        have hlt := isK_lt (s := sCom) (ts := ts) (by simpa using h3)
        exact lpC_congr hE he m _ _ (by omega) (by omega)
theorem cloG_ok {E : Nat → Got} (hE : ∀ j, j ≤ ts.length → OkG ts j (E j)) {o : Nat} (few : Bool) (fs ls : ByteArray) (ho : o ≤ ts.length) : OkC ts o (cloG ts E o few fs ls) := by
  unfold cloG
  split
  · exact ⟨⟨Nat.le_refl _, ho⟩, fun h => by simp at h, fun _ => rfl⟩
  · rename_i h0
    have h0 := isK_lt (s := fs) (ts := ts) (by simpa using h0)
    split
    · rename_i h1
      have h1 := isK_lt h1.2
      exact ⟨⟨by dsimp only; omega, by dsimp only; omega⟩, fun _ => by dsimp only; omega, fun h => absurd rfl h⟩
    · have hc := lpC_ok hE (ts.length + 1) (o + 1) [] (by omega)
      split
      · exact ⟨⟨by have := hc.le; omega, hc.le.2⟩, fun h => by have := hc.yes h; omega, hc.no⟩
      · rename_i h2
        split
        · exact ⟨⟨by have := hc.le; dsimp only; omega, hc.le.2⟩, fun h => by simp at h, fun _ => rfl⟩
        · rename_i h3
          have := isK_lt (s := ls) (ts := ts) (by simpa using h3)
          exact ⟨⟨by have := hc.le; dsimp only; omega, by dsimp only; omega⟩, fun _ => by have := hc.le; dsimp only; omega, fun h => absurd rfl h⟩
theorem cloG_congr {E E' : Nat → Got} {a : Nat} (hE : ∀ j, j ≤ ts.length → OkG ts j (E j)) (he : ∀ j, a < j → j ≤ ts.length → E j = E' j) {o : Nat} (few : Bool) (fs ls : ByteArray) (ho : a ≤ o) : cloG ts E o few fs ls = cloG ts E' o few fs ls := by
  unfold cloG
  split
  · rfl
  · rename_i h0
    have h0 := isK_lt (s := fs) (ts := ts) (by simpa using h0)
    rw [lpC_congr hE he (ts.length + 1) (o + 1) [] (by omega) (by omega)]
theorem fin_ok {i o : Nat} {k : Int} {s : ByteArray} {c : List VT × Nat × Int} (h : OkC ts o c) (ho : i ≤ o) : OkG ts i (finC ts i k s c) := by
  unfold finC
  split
  · rename_i h0; exact ⟨fun h' => absurd h' h0, fun _ => ⟨h.no h0, rfl⟩, fun _ => by have := h.le; dsimp only; omega⟩
  · rename_i h0
    exact ok_mk (by have := h.yes (by simpa using h0); omega) h.le.2
theorem calG_ok {E : Nat → Got} (hE : ∀ j, j ≤ ts.length → OkG ts j (E j)) (i : Nat) (hi : i ≤ ts.length) : OkG ts i (calG ts E i) := by
  unfold calG
  split
  · rename_i h; have := k_lt h (by decide); exact fin_ok (cloG_ok hE true sParO sParS (by omega)) (by omega)
  · split
    · rename_i h; have := isK_lt h; exact fin_ok (cloG_ok hE false sOpen sShut (by omega)) (by omega)
    · split
      · rename_i h; have := isK_lt h
        split
        · exact ok_bad (fun _ => by omega)
        · rename_i h2; have := k_lt (ts := ts) (k := 1) (by simpa using h2) (by decide)
          exact fin_ok (cloG_ok hE true sParO sParS (by omega)) (by omega)
      · split
        · rename_i h; have := isK_lt h
          split
          · exact ok_bad (fun _ => by omega)
          · rename_i h2; have := k_lt (ts := ts) (k := 1) (by simpa using h2) (by decide)
            exact fin_ok (cloG_ok hE false sParO sParS (by omega)) (by omega)
        · exact ok_bad (fun _ => by omega)
theorem calG_congr {E E' : Nat → Got} {i : Nat} (hE : ∀ j, j ≤ ts.length → OkG ts j (E j)) (he : ∀ j, i < j → j ≤ ts.length → E j = E' j) : calG ts E i = calG ts E' i := by
  unfold calG
  rw [cloG_congr hE he true sParO sParS (show i ≤ i + 1 by omega), cloG_congr hE he false sOpen sShut (Nat.le_refl i), cloG_congr hE he true sParO sParS (show i ≤ i + 2 by omega), cloG_congr hE he false sParO sParS (show i ≤ i + 2 by omega)]
theorem atoG_ok {E : Nat → Got} (hE : ∀ j, j ≤ ts.length → OkG ts j (E j)) (i : Nat) (hi : i ≤ ts.length) : OkG ts i (atoG ts E i) := by
  unfold atoG
  split
  · rename_i h; have := k_lt h (by decide); exact ok_mk (by omega) (by omega)
  split
  · rename_i h; have := isK_lt h; exact ok_mk (by omega) (by omega)
  split
  · rename_i h; have := isK_lt h; exact ok_mk (by omega) (by omega)
  split
  · rename_i h; have := isK_lt h; exact ok_mk (by omega) (by omega)
  split
  · rename_i h; have := k_lt h.1 (by decide); exact ok_mk (by omega) (by omega)
  split
  · rename_i h
    have := isK_lt h
    have hp := hE (i + 1) (by omega)
    split
    · rename_i h2; exact ⟨fun h => absurd h h2, hp.no, fun _ => by have := hp.le (by omega); omega⟩
    · rename_i h2
      have hy := hp.yes (by simpa using h2)
      split
      · exact ok_bad (fun _ => by omega)
      · rename_i h3
        have := isK_lt (s := sParS) (ts := ts) (by simpa using h3)
        exact ⟨fun _ => by dsimp only; omega, fun h => absurd rfl h, fun _ => by dsimp only; omega⟩
  · exact calG_ok hE i hi
theorem atoG_congr {E E' : Nat → Got} {i : Nat} (hE : ∀ j, j ≤ ts.length → OkG ts j (E j)) (he : ∀ j, i < j → j ≤ ts.length → E j = E' j) : atoG ts E i = atoG ts E' i := by
  unfold atoG
  rw [calG_congr hE he]
  by_cases h : isK sParO (nxt ts i) = true
  · have := isK_lt h
    rw [he (i + 1) (by omega) (by omega)]
  · simp only [h, if_false, Bool.false_eq_true]
theorem bG_ok {R : Nat → Nat → Got} (hR : ∀ w j, j ≤ ts.length → OkG ts j (R w j)) (w i : Nat) (hi : i ≤ ts.length) : OkG ts i (bG ts R w i) := by
  unfold bG
  split
  · rename_i h; exact lpL_ok h (hR _) _ _ _ (hR _ i hi)
  split
  · split
    · exact hR 7 i hi
    · rename_i h
      have hlt : i < ts.length := by
        unfold unN at h
        by_cases h1 : isK sNot (nxt ts i) = true
        · exact isK_lt h1
        · by_cases h2 : isK sMin (nxt ts i) = true
          · exact isK_lt h2
          · simp [h1, h2] at h
      have hp := hR 6 (i + 1) (by omega)
      split
      · rename_i h2; exact ⟨fun h => absurd h h2, hp.no, fun _ => by have := hp.le (by omega); omega⟩
      · rename_i h2
        have hy := hp.yes (by simpa using h2)
        exact ok_mk (by omega) hy.2
  split
  · exact lpP_ok (hR 1) _ _ (hR 8 i hi)
  · exact atoG_ok (hR 1) i hi
theorem pG_ok : ∀ (n w i : Nat), i ≤ ts.length → OkG ts i (pG ts n w i)
  | 0, w, i, hi => ok_bad (fun _ => ⟨Nat.le_refl _, hi⟩)
  | n + 1, w, i, hi => bG_ok (pG_ok n) w i hi
def me (ts : List Tok) (w i : Nat) : Nat := 9 * (ts.length - i) + (9 - w)
theorem bG_congr {R R' : Nat → Nat → Got} (hR : ∀ w j, j ≤ ts.length → OkG ts j (R w j)) {w i : Nat} (hi : i ≤ ts.length) (hw : w ≤ 8) (he : ∀ w' j, w' ≤ 8 → 1 ≤ w' → j ≤ ts.length → me ts w' j < me ts w i → R w' j = R' w' j) : bG ts R w i = bG ts R' w i := by
  have far : ∀ w' j, w' ≤ 8 → 1 ≤ w' → i < j → j ≤ ts.length → R w' j = R' w' j := fun w' j h0 h1 h2 h3 => he w' j h0 h1 h3 (by unfold me; omega)
  unfold bG
  split
  · rename_i h
    rw [lpL_congr h (hR _) (fun j h1 h2 => far (w + 1) j (by omega) (by omega) h1 h2) _ _ _ (hR _ i hi), he (w + 1) i (by omega) (by omega) hi (by unfold me; omega)]
  split
  · rename_i h
    subst h
    rw [he 7 i (by omega) (by omega) hi (by unfold me; omega)]
    split
    · rfl
    · rename_i h
      have hlt : i < ts.length := by
        unfold unN at h
        by_cases h1 : isK sNot (nxt ts i) = true
        · exact isK_lt h1
        · by_cases h2 : isK sMin (nxt ts i) = true
          · exact isK_lt h2
          · simp [h1, h2] at h
      rw [far 6 (i + 1) (by omega) (by omega) (by omega) (by omega)]
  split
  · rename_i h
    subst h
    rw [lpP_congr (hR 1) (fun j h1 h2 => far 1 j (by omega) (by omega) h1 h2) _ _ (hR 8 i hi), he 8 i (by omega) (by omega) hi (by unfold me; omega)]
  · exact atoG_congr (hR 1) (fun j h1 h2 => far 1 j (by omega) (by omega) h1 h2)
theorem pG_irr : ∀ (n n' w i : Nat), i ≤ ts.length → 1 ≤ w → w ≤ 8 → me ts w i < n → me ts w i < n' → pG ts n w i = pG ts n' w i
  | 0, _, _, _, _, _, _, h, _ => by omega
  | _ + 1, 0, _, _, _, _, _, _, h => by omega
  | n + 1, n' + 1, w, i, hi, h1, hw, hn, hn' => by
    show bG ts (pG ts n) w i = bG ts (pG ts n') w i
    exact bG_congr (pG_ok n) hi hw (fun w' j h1 h2 h3 h4 => pG_irr n n' w' j h3 h2 h1 (by omega) (by omega))
def Qx (ts : List Tok) (w i : Nat) : Got := pG ts (9 * ts.length + 10) w i
theorem Q_ok (w i : Nat) (hi : i ≤ ts.length) : OkG ts i (Qx ts w i) := pG_ok _ w i hi
theorem Q_eq (w i : Nat) (h1 : 1 ≤ w) (hw : w ≤ 8) (hi : i ≤ ts.length) : Qx ts w i = bG ts (Qx ts) w i := by
  show bG ts (pG ts (9 * ts.length + 9)) w i = _
  exact bG_congr (pG_ok _) hi hw (fun w' j h1 h2 h3 h4 => pG_irr _ _ w' j h3 h2 h1 (by unfold me; omega) (by unfold me; omega))
end
end Go.Proofs.YthcnligihpnfiaaGreatDoor.vt
end
