import Derived.Test.YthcnligihpnfiaaGreatDoorPkV7
section
namespace Go.Proofs.YthcnligihpnfiaaGreatDoor.am
open Go.ChangeShapes Go.WideShapes Go.ChangeAt Go.RowKit
open vt
set_option linter.unusedVariables false
set_option linter.unusedSimpArgs false
section
variable (ts : List Tok) (hl : ts.length ≤ 3000000000000)
include hl
set_option maxRecDepth 100000 in
set_option maxHeartbeats 4000000 in
theorem pmade_row (i : Nat) (h : isK wNew (nxt ts i) = true) (hE : ∀ j, i < j → j ≤ ts.length → PR 185 [] ts j (Qx ts 1 j)) : PR 196 [] ts i (atoG ts (Qx ts 1) i) := by
  rw [ato_cal ts h (.inr (.inr rfl))]
  have hlt := isK_lt h
  have p := place_row ts i 0
  have w := want_yes ts i wNew (by decide) (by omega) h
  unfold calG
  rw [if_neg (k_sgn h).1, if_neg (by simp [isK_no h (b := sOpen) (by decide)]), if_neg (by simp [isK_no h (b := sAt) (by decide)]), if_pos h]
  clear h
  by_cases h : (nxt ts (i + 1)).k = 1; rotate_left
  · rw [if_pos h]
    have k1 := kind_no ts (i + 1) 0 1 (.inr h)
    have w1 := want_no ts (i + 1) 6 sParO (by decide) (.inl (by decide))
    have q := list_err ts (i + 1) 6 (by decide)
    have w2 := want_no ts (i + 1) 6 sParS (by decide) (.inl (by decide))
    have n := node_no ts (i + 1) 6 (by decide) i (.mk ⟨15, 0, ⟨#[]⟩, 0, 0⟩ [z0])
    rw [show er 0 = 6 from rfl] at k1
    rw [show er 6 = 6 from rfl] at w1 w2
    refine ⟨z0, fun _ => rfl, ?_⟩
    clear hE h
    refine row_of Tryz.func196 rfl rfl (Nat.le_of_ble_eq_true rfl) ?_
    repeat' (first | refine aw_seq ?_ | refine aw_skip ?_ | refine aw_block ?_ | refine aw_exit ?_ | refine aw_cond rfl (fun _ => ?_) (fun hb => absurd hb (by decide)) | refine aw_cond rfl (fun hb => absurd hb (by decide)) (fun _ => ?_) | (refine aw_reg (fun K hK => ?_); simp -implicitDefEqProofs [zK]) | (refine aw_drw mixd (fun K hK => ?_); simp -implicitDefEqProofs [zK]) | refine hK _ ?_ | refine hK _ _ (by rfl) ?_ | (refine ar_call (cb p 0 ?_); simp -implicitDefEqProofs [zK]) | (refine ard_call (db p 0 ?_); simp -implicitDefEqProofs [zK]) | (refine ar_call (cb w 0 ?_); simp -implicitDefEqProofs [zK]) | (refine ard_call (db w 0 ?_); simp -implicitDefEqProofs [zK]) | (refine ar_call (cb k1 0 ?_); simp -implicitDefEqProofs [zK]) | (refine ard_call (db k1 0 ?_); simp -implicitDefEqProofs [zK]) | (refine ar_call (cb w1 0 ?_); simp -implicitDefEqProofs [zK]) | (refine ard_call (db w1 0 ?_); simp -implicitDefEqProofs [zK]) | (refine ar_call (cb q 0 ?_); simp -implicitDefEqProofs [zK]) | (refine ard_call (db q 0 ?_); simp -implicitDefEqProofs [zK]) | (refine ar_call (cb w2 0 ?_); simp -implicitDefEqProofs [zK]) | (refine ard_call (db w2 0 ?_); simp -implicitDefEqProofs [zK]) | (refine ar_call (cb n 0 ?_); simp -implicitDefEqProofs [zK]) | (refine ard_call (db n 0 ?_); simp -implicitDefEqProofs [zK]) | fail)
    refine aw_ret (fin_box ?_); simp -implicitDefEqProofs [FinB, resV, resT, bad7] <;> try rfl
  rw [if_neg (by simp [h])]
  obtain ⟨x, hx, hxn, hxk⟩ := kind_at h (by decide)
  have hlt2 := (List.getElem?_eq_some_iff.1 hx).1
  rw [hxn]
  have k1 := kind_yes ts (i + 1) 1 x (by omega) hx hxk
  obtain ⟨xk, xn, xs, xf, xt⟩ := x
  dsimp only at hxk
  subst hxk
  clear hxn hx h
  unfold cloG
  by_cases e1 : isK sParO (nxt ts (i + 1 + 1)) = true; rotate_left
  · have e1 : isK sParO (nxt ts (i + 1 + 1)) = false := by simpa using e1
    have w1 := want_no ts (i + 1 + 1) 0 sParO (by decide) (.inr e1)
    have q := list_err ts (i + 1 + 1) 6 (by decide)
    have w2 := want_no ts (i + 1 + 1) 6 sParS (by decide) (.inl (by decide))
    have n := node_no ts (i + 1 + 1) 6 (by decide) i (.mk ⟨15, 0, xs, 0, 0⟩ [z0])
    rw [show er 0 = 6 from rfl] at w1
    rw [show er 6 = 6 from rfl] at w2
    rw [show isK sParO (nxt ts (i + 2)) = false from e1, if_pos rfl]
    unfold finC
    rw [if_pos (by simp)]
    refine ⟨z0, fun _ => rfl, ?_⟩
    clear hE e1
    refine row_of Tryz.func196 rfl rfl (Nat.le_of_ble_eq_true rfl) ?_
    repeat' (first | refine aw_seq ?_ | refine aw_skip ?_ | refine aw_block ?_ | refine aw_exit ?_ | refine aw_cond rfl (fun _ => ?_) (fun hb => absurd hb (by decide)) | refine aw_cond rfl (fun hb => absurd hb (by decide)) (fun _ => ?_) | (refine aw_reg (fun K hK => ?_); simp -implicitDefEqProofs) | (refine aw_drw mixd (fun K hK => ?_); simp -implicitDefEqProofs) | refine hK _ ?_ | refine hK _ _ (by rfl) ?_ | (refine ar_call (cb p 0 ?_); simp -implicitDefEqProofs) | (refine ard_call (db p 0 ?_); simp -implicitDefEqProofs) | (refine ar_call (cb w 0 ?_); simp -implicitDefEqProofs) | (refine ard_call (db w 0 ?_); simp -implicitDefEqProofs) | (refine ar_call (cb k1 0 ?_); simp -implicitDefEqProofs) | (refine ard_call (db k1 0 ?_); simp -implicitDefEqProofs) | (refine ar_call (cb w1 0 ?_); simp -implicitDefEqProofs) | (refine ard_call (db w1 0 ?_); simp -implicitDefEqProofs) | (refine ar_call (cb q 0 ?_); simp -implicitDefEqProofs) | (refine ard_call (db q 0 ?_); simp -implicitDefEqProofs) | (refine ar_call (cb w2 0 ?_); simp -implicitDefEqProofs) | (refine ard_call (db w2 0 ?_); simp -implicitDefEqProofs) | (refine ar_call (cb n 0 ?_); simp -implicitDefEqProofs) | (refine ard_call (db n 0 ?_); simp -implicitDefEqProofs) | fail)
    refine aw_ret (fin_box ?_); simp -implicitDefEqProofs [FinB, resV, resT] <;> try rfl
  have w1 := want_yes ts (i + 1 + 1) sParO (by decide) (by omega) e1
  have hlt3 := isK_lt e1
  rw [show isK sParO (nxt ts (i + 2)) = true from e1, if_neg (by simp), if_neg (by simp)]
  clear e1
  obtain ⟨l, hll, hq⟩ := plist_row ts hl (i + 1 + 1 + 1) (by omega) (fun j h1 h2 => hE j (by omega) h2)
  have hc := lpC_ok (Q_ok (ts := ts) 1) (ts.length + 1) (i + 1 + 1 + 1) [] (by omega)
  obtain ⟨⟨c1, c2, c3⟩, hr⟩ : ∃ r, lpC ts (Qx ts 1) (ts.length + 1) (i + 1 + 1 + 1) [] = r := ⟨_, rfl⟩
  rw [hr] at hq hc hll
  rw [show lpC ts (Qx ts 1) (ts.length + 1) (i + 2 + 1) [] = (c1, c2, c3) from hr]
  have hle := hc.le
  dsimp only at hle hll
  clear hE hr
  by_cases hc3 : c3 = 0; rotate_left
  · rw [if_pos hc3]
    have h6 := hc.no hc3
    dsimp only at h6
    subst h6
    have w2 := want_no ts c2 6 sParS (by decide) (.inl (by decide))
    rw [show er 6 = 6 from rfl] at w2
    have n := node_no ts c2 6 (by decide) i (.mk ⟨15, 0, xs, 0, 0⟩ l)
    unfold finC
    rw [if_pos (by simp)]
    refine ⟨z0, fun _ => rfl, ?_⟩
    clear hc hll
    refine row_of Tryz.func196 rfl rfl (Nat.le_of_ble_eq_true rfl) ?_
    repeat' (first | refine aw_seq ?_ | refine aw_skip ?_ | refine aw_block ?_ | refine aw_exit ?_ | refine aw_cond rfl (fun _ => ?_) (fun hb => absurd hb (by decide)) | refine aw_cond rfl (fun hb => absurd hb (by decide)) (fun _ => ?_) | (refine aw_reg (fun K hK => ?_); simp -implicitDefEqProofs) | (refine aw_drw mixd (fun K hK => ?_); simp -implicitDefEqProofs) | refine hK _ ?_ | refine hK _ _ (by rfl) ?_ | (refine ar_call (cb p 0 ?_); simp -implicitDefEqProofs) | (refine ard_call (db p 0 ?_); simp -implicitDefEqProofs) | (refine ar_call (cb w 0 ?_); simp -implicitDefEqProofs) | (refine ard_call (db w 0 ?_); simp -implicitDefEqProofs) | (refine ar_call (cb k1 0 ?_); simp -implicitDefEqProofs) | (refine ard_call (db k1 0 ?_); simp -implicitDefEqProofs) | (refine ar_call (cb w1 0 ?_); simp -implicitDefEqProofs) | (refine ard_call (db w1 0 ?_); simp -implicitDefEqProofs) | (refine ar_call (cb hq 0 ?_); simp -implicitDefEqProofs) | (refine ard_call (db hq 0 ?_); simp -implicitDefEqProofs) | (refine ar_call (cb w2 0 ?_); simp -implicitDefEqProofs) | (refine ard_call (db w2 0 ?_); simp -implicitDefEqProofs) | (refine ar_call (cb n 0 ?_); simp -implicitDefEqProofs) | (refine ard_call (db n 0 ?_); simp -implicitDefEqProofs) | fail)
    refine aw_ret (fin_box ?_); simp -implicitDefEqProofs [FinB, resV, resT] <;> try rfl
  subst hc3
  have hll := hll rfl
  subst hll
  rw [if_neg (by simp)]
  dsimp only
  by_cases e3 : isK sParS (nxt ts c2) = true
  · rw [if_neg (by simp [e3])]
    have hlt2 := isK_lt e3
    have w2 := want_yes ts c2 sParS (by decide) (by omega) e3
    have n := node_yes ts (c2 + 1) i ⟨15, 0, xs, 0, 0⟩ l hlt (by omega) (by omega) (by omega)
    unfold finC
    rw [if_neg (by simp)]
    refine ⟨_, fun _ => rfl, ?_⟩
    clear hc e3
    refine row_of Tryz.func196 rfl rfl (Nat.le_of_ble_eq_true rfl) ?_
    repeat' (first | refine aw_seq ?_ | refine aw_skip ?_ | refine aw_block ?_ | refine aw_exit ?_ | refine aw_cond rfl (fun _ => ?_) (fun hb => absurd hb (by decide)) | refine aw_cond rfl (fun hb => absurd hb (by decide)) (fun _ => ?_) | (refine aw_reg (fun K hK => ?_); simp -implicitDefEqProofs) | (refine aw_drw mixd (fun K hK => ?_); simp -implicitDefEqProofs) | refine hK _ ?_ | refine hK _ _ (by rfl) ?_ | (refine ar_call (cb p 0 ?_); simp -implicitDefEqProofs) | (refine ard_call (db p 0 ?_); simp -implicitDefEqProofs) | (refine ar_call (cb w 0 ?_); simp -implicitDefEqProofs) | (refine ard_call (db w 0 ?_); simp -implicitDefEqProofs) | (refine ar_call (cb k1 0 ?_); simp -implicitDefEqProofs) | (refine ard_call (db k1 0 ?_); simp -implicitDefEqProofs) | (refine ar_call (cb w1 0 ?_); simp -implicitDefEqProofs) | (refine ard_call (db w1 0 ?_); simp -implicitDefEqProofs) | (refine ar_call (cb hq 0 ?_); simp -implicitDefEqProofs) | (refine ard_call (db hq 0 ?_); simp -implicitDefEqProofs) | (refine ar_call (cb w2 0 ?_); simp -implicitDefEqProofs) | (refine ard_call (db w2 0 ?_); simp -implicitDefEqProofs) | (refine ar_call (cb n 0 ?_); simp -implicitDefEqProofs) | (refine ard_call (db n 0 ?_); simp -implicitDefEqProofs) | fail)
    refine aw_ret (fin_box ?_); simp -implicitDefEqProofs [FinB, resV, resT, mk7] <;> try rfl
  · have e3 : isK sParS (nxt ts c2) = false := by simpa using e3
    rw [if_pos e3]
    have w2 := want_no ts c2 0 sParS (by decide) (.inr e3)
    rw [show er 0 = 6 from rfl] at w2
    have n := node_no ts c2 6 (by decide) i (.mk ⟨15, 0, xs, 0, 0⟩ l)
    unfold finC
    rw [if_pos (by simp)]
    refine ⟨z0, fun _ => rfl, ?_⟩
    clear hc e3
    refine row_of Tryz.func196 rfl rfl (Nat.le_of_ble_eq_true rfl) ?_
    repeat' (first | refine aw_seq ?_ | refine aw_skip ?_ | refine aw_block ?_ | refine aw_exit ?_ | refine aw_cond rfl (fun _ => ?_) (fun hb => absurd hb (by decide)) | refine aw_cond rfl (fun hb => absurd hb (by decide)) (fun _ => ?_) | (refine aw_reg (fun K hK => ?_); simp -implicitDefEqProofs) | (refine aw_drw mixd (fun K hK => ?_); simp -implicitDefEqProofs) | refine hK _ ?_ | refine hK _ _ (by rfl) ?_ | (refine ar_call (cb p 0 ?_); simp -implicitDefEqProofs) | (refine ard_call (db p 0 ?_); simp -implicitDefEqProofs) | (refine ar_call (cb w 0 ?_); simp -implicitDefEqProofs) | (refine ard_call (db w 0 ?_); simp -implicitDefEqProofs) | (refine ar_call (cb k1 0 ?_); simp -implicitDefEqProofs) | (refine ard_call (db k1 0 ?_); simp -implicitDefEqProofs) | (refine ar_call (cb w1 0 ?_); simp -implicitDefEqProofs) | (refine ard_call (db w1 0 ?_); simp -implicitDefEqProofs) | (refine ar_call (cb hq 0 ?_); simp -implicitDefEqProofs) | (refine ard_call (db hq 0 ?_); simp -implicitDefEqProofs) | (refine ar_call (cb w2 0 ?_); simp -implicitDefEqProofs) | (refine ard_call (db w2 0 ?_); simp -implicitDefEqProofs) | (refine ar_call (cb n 0 ?_); simp -implicitDefEqProofs) | (refine ard_call (db n 0 ?_); simp -implicitDefEqProofs) | fail)
    refine aw_ret (fin_box ?_); simp -implicitDefEqProofs [FinB, resV, resT] <;> try rfl
set_option maxRecDepth 100000 in
set_option maxHeartbeats 4000000 in
theorem pliteral_row (i : Nat) (hi : i ≤ ts.length) (h1 : (nxt ts i).k ≠ 1) (h2 : isK sAt (nxt ts i) = false) (h3 : isK sParO (nxt ts i) = false) (h4 : isK sOpen (nxt ts i) = false) (h5 : isK wNew (nxt ts i) = false) : PR 197 [] ts i (atoG ts (Qx ts 1) i) := by
  have p := place_row ts i 0
  have o := next_row ts i 0
  have s := skip_row ts i 0 (by omega)
  have i1 := is7_row ts i 0 wTrue (by decide)
  have i2 := is7_row ts i 0 wFals (by decide)
  have i3 := is7_row ts i 0 wRead (by decide)
  have f := fail_row ts i 0
  rw [show er 0 = 6 from rfl] at f
  unfold atoG
  by_cases e1 : (nxt ts i).k = 2
  · have hlt := k_lt e1 (by decide)
    rw [if_pos e1]
    rw [if_pos ⟨rfl, hlt⟩] at s
    have n := node_yes ts (i + 1) i ⟨5, (nxt ts i).n, ⟨#[]⟩, 0, 0⟩ [] hlt (by omega) (by omega) (by omega)
    refine ⟨_, fun _ => rfl, ?_⟩
    refine row_of Tryz.func197 rfl rfl (Nat.le_of_ble_eq_true rfl) ?_
    repeat' (first | refine aw_seq ?_ | refine aw_skip ?_ | refine aw_block ?_ | refine aw_exit ?_ | refine aw_cond rfl (fun _ => ?_) (fun hb => absurd hb (by decide)) | refine aw_cond rfl (fun hb => absurd hb (by decide)) (fun _ => ?_) | (refine aw_reg (fun K hK => ?_); simp -implicitDefEqProofs [e1]) | (refine aw_drw mixd (fun K hK => ?_); simp -implicitDefEqProofs [e1]) | refine hK _ ?_ | refine hK _ _ (by rfl) ?_ | (refine ar_call (cb p 0 ?_); simp -implicitDefEqProofs [e1]) | (refine ard_call (db p 0 ?_); simp -implicitDefEqProofs [e1]) | (refine ar_call (cb o 0 ?_); simp -implicitDefEqProofs [e1]) | (refine ard_call (db o 0 ?_); simp -implicitDefEqProofs [e1]) | (refine ar_call (cb s 0 ?_); simp -implicitDefEqProofs [e1]) | (refine ard_call (db s 0 ?_); simp -implicitDefEqProofs [e1]) | (refine ar_call (cb n 0 ?_); simp -implicitDefEqProofs [e1]) | (refine ard_call (db n 0 ?_); simp -implicitDefEqProofs [e1]) | fail)
    refine aw_ret (fin_box ?_); simp -implicitDefEqProofs [FinB, resV, resT, mk7] <;> try rfl
  rw [if_neg e1]
  by_cases e2 : isK wTrue (nxt ts i) = true
  · have hlt := isK_lt e2
    rw [if_pos e2]
    rw [if_pos ⟨rfl, hlt⟩] at s
    rw [e2] at i1
    have n := node_yes ts (i + 1) i ⟨6, 1, ⟨#[]⟩, 0, 0⟩ [] hlt (by omega) (by omega) (by omega)
    refine ⟨_, fun _ => rfl, ?_⟩
    clear e2
    refine row_of Tryz.func197 rfl rfl (Nat.le_of_ble_eq_true rfl) ?_
    repeat' (first | refine aw_seq ?_ | refine aw_skip ?_ | refine aw_block ?_ | refine aw_exit ?_ | refine aw_cond rfl (fun _ => ?_) (fun hb => absurd hb (by decide)) | refine aw_cond rfl (fun hb => absurd hb (by decide)) (fun _ => ?_) | (refine aw_reg (fun K hK => ?_); simp -implicitDefEqProofs [e1]) | (refine aw_drw mixd (fun K hK => ?_); simp -implicitDefEqProofs [e1]) | refine hK _ ?_ | refine hK _ _ (by rfl) ?_ | (refine ar_call (cb p 0 ?_); simp -implicitDefEqProofs [e1]) | (refine ard_call (db p 0 ?_); simp -implicitDefEqProofs [e1]) | (refine ar_call (cb o 0 ?_); simp -implicitDefEqProofs [e1]) | (refine ard_call (db o 0 ?_); simp -implicitDefEqProofs [e1]) | (refine ar_call (cb i1 0 ?_); simp -implicitDefEqProofs [e1]) | (refine ard_call (db i1 0 ?_); simp -implicitDefEqProofs [e1]) | (refine ar_call (cb s 0 ?_); simp -implicitDefEqProofs [e1]) | (refine ard_call (db s 0 ?_); simp -implicitDefEqProofs [e1]) | (refine ar_call (cb n 0 ?_); simp -implicitDefEqProofs [e1]) | (refine ard_call (db n 0 ?_); simp -implicitDefEqProofs [e1]) | fail)
    refine aw_ret (fin_box ?_); simp -implicitDefEqProofs [FinB, resV, resT, mk7] <;> try rfl
  rw [if_neg e2]
  rw [show isK wTrue (nxt ts i) = false by simpa using e2] at i1
  clear e2
  by_cases e2 : isK wFals (nxt ts i) = true
  · have hlt := isK_lt e2
    rw [if_pos e2]
    rw [if_pos ⟨rfl, hlt⟩] at s
    rw [e2] at i2
    have n := node_yes ts (i + 1) i ⟨6, 0, ⟨#[]⟩, 0, 0⟩ [] hlt (by omega) (by omega) (by omega)
    refine ⟨_, fun _ => rfl, ?_⟩
    clear e2
    refine row_of Tryz.func197 rfl rfl (Nat.le_of_ble_eq_true rfl) ?_
    repeat' (first | refine aw_seq ?_ | refine aw_skip ?_ | refine aw_block ?_ | refine aw_exit ?_ | refine aw_cond rfl (fun _ => ?_) (fun hb => absurd hb (by decide)) | refine aw_cond rfl (fun hb => absurd hb (by decide)) (fun _ => ?_) | (refine aw_reg (fun K hK => ?_); simp -implicitDefEqProofs [e1]) | (refine aw_drw mixd (fun K hK => ?_); simp -implicitDefEqProofs [e1]) | refine hK _ ?_ | refine hK _ _ (by rfl) ?_ | (refine ar_call (cb p 0 ?_); simp -implicitDefEqProofs [e1]) | (refine ard_call (db p 0 ?_); simp -implicitDefEqProofs [e1]) | (refine ar_call (cb o 0 ?_); simp -implicitDefEqProofs [e1]) | (refine ard_call (db o 0 ?_); simp -implicitDefEqProofs [e1]) | (refine ar_call (cb i1 0 ?_); simp -implicitDefEqProofs [e1]) | (refine ard_call (db i1 0 ?_); simp -implicitDefEqProofs [e1]) | (refine ar_call (cb i2 0 ?_); simp -implicitDefEqProofs [e1]) | (refine ard_call (db i2 0 ?_); simp -implicitDefEqProofs [e1]) | (refine ar_call (cb s 0 ?_); simp -implicitDefEqProofs [e1]) | (refine ard_call (db s 0 ?_); simp -implicitDefEqProofs [e1]) | (refine ar_call (cb n 0 ?_); simp -implicitDefEqProofs [e1]) | (refine ard_call (db n 0 ?_); simp -implicitDefEqProofs [e1]) | fail)
    refine aw_ret (fin_box ?_); simp -implicitDefEqProofs [FinB, resV, resT, mk7] <;> try rfl
  rw [if_neg e2]
  rw [show isK wFals (nxt ts i) = false by simpa using e2] at i2
  clear e2
  by_cases e2 : isK wRead (nxt ts i) = true
  · have hlt := isK_lt e2
    rw [if_pos e2]
    rw [if_pos ⟨rfl, hlt⟩] at s
    rw [e2] at i3
    have n := node_yes ts (i + 1) i ⟨18, 0, ⟨#[]⟩, 0, 0⟩ [] hlt (by omega) (by omega) (by omega)
    refine ⟨_, fun _ => rfl, ?_⟩
    clear e2
    refine row_of Tryz.func197 rfl rfl (Nat.le_of_ble_eq_true rfl) ?_
    repeat' (first | refine aw_seq ?_ | refine aw_skip ?_ | refine aw_block ?_ | refine aw_exit ?_ | refine aw_cond rfl (fun _ => ?_) (fun hb => absurd hb (by decide)) | refine aw_cond rfl (fun hb => absurd hb (by decide)) (fun _ => ?_) | (refine aw_reg (fun K hK => ?_); simp -implicitDefEqProofs [e1]) | (refine aw_drw mixd (fun K hK => ?_); simp -implicitDefEqProofs [e1]) | refine hK _ ?_ | refine hK _ _ (by rfl) ?_ | (refine ar_call (cb p 0 ?_); simp -implicitDefEqProofs [e1]) | (refine ard_call (db p 0 ?_); simp -implicitDefEqProofs [e1]) | (refine ar_call (cb o 0 ?_); simp -implicitDefEqProofs [e1]) | (refine ard_call (db o 0 ?_); simp -implicitDefEqProofs [e1]) | (refine ar_call (cb i1 0 ?_); simp -implicitDefEqProofs [e1]) | (refine ard_call (db i1 0 ?_); simp -implicitDefEqProofs [e1]) | (refine ar_call (cb i2 0 ?_); simp -implicitDefEqProofs [e1]) | (refine ard_call (db i2 0 ?_); simp -implicitDefEqProofs [e1]) | (refine ar_call (cb i3 0 ?_); simp -implicitDefEqProofs [e1]) | (refine ard_call (db i3 0 ?_); simp -implicitDefEqProofs [e1]) | (refine ar_call (cb s 0 ?_); simp -implicitDefEqProofs [e1]) | (refine ard_call (db s 0 ?_); simp -implicitDefEqProofs [e1]) | (refine ar_call (cb n 0 ?_); simp -implicitDefEqProofs [e1]) | (refine ard_call (db n 0 ?_); simp -implicitDefEqProofs [e1]) | fail)
    refine aw_ret (fin_box ?_); simp -implicitDefEqProofs [FinB, resV, resT, mk7] <;> try rfl
  rw [if_neg e2, if_neg (fun hh => h1 hh.1), if_neg (by simp [h3])]
  rw [show isK wRead (nxt ts i) = false by simpa using e2] at i3
  unfold calG
  rw [if_neg h1, if_neg (by simp [h4]), if_neg (by simp [h2]), if_neg (by simp [h5])]
  refine ⟨z0, fun _ => rfl, ?_⟩
  clear e2 h2 h3 h4 h5
  refine row_of Tryz.func197 rfl rfl (Nat.le_of_ble_eq_true rfl) ?_
  repeat' (first | refine aw_seq ?_ | refine aw_skip ?_ | refine aw_block ?_ | refine aw_exit ?_ | refine aw_cond rfl (fun _ => ?_) (fun hb => absurd hb (by decide)) | refine aw_cond rfl (fun hb => absurd hb (by decide)) (fun _ => ?_) | (refine aw_reg (fun K hK => ?_); simp -implicitDefEqProofs [e1]) | (refine aw_drw mixd (fun K hK => ?_); simp -implicitDefEqProofs [e1]) | refine hK _ ?_ | refine hK _ _ (by rfl) ?_ | (refine ar_call (cb p 0 ?_); simp -implicitDefEqProofs [e1]) | (refine ard_call (db p 0 ?_); simp -implicitDefEqProofs [e1]) | (refine ar_call (cb o 0 ?_); simp -implicitDefEqProofs [e1]) | (refine ard_call (db o 0 ?_); simp -implicitDefEqProofs [e1]) | (refine ar_call (cb i1 0 ?_); simp -implicitDefEqProofs [e1]) | (refine ard_call (db i1 0 ?_); simp -implicitDefEqProofs [e1]) | (refine ar_call (cb i2 0 ?_); simp -implicitDefEqProofs [e1]) | (refine ard_call (db i2 0 ?_); simp -implicitDefEqProofs [e1]) | (refine ar_call (cb i3 0 ?_); simp -implicitDefEqProofs [e1]) | (refine ard_call (db i3 0 ?_); simp -implicitDefEqProofs [e1]) | (refine ar_call (cb f 0 ?_); simp -implicitDefEqProofs [e1]) | (refine ard_call (db f 0 ?_); simp -implicitDefEqProofs [e1]) | fail)
  refine aw_ret (fin_box ?_); simp -implicitDefEqProofs [FinB, resV, resT, bad7, z0] <;> try rfl
set_option maxRecDepth 100000 in
set_option maxHeartbeats 4000000 in
theorem patom_step (i : Nat) (hi : i ≤ ts.length) (hE : ∀ j, i < j → j ≤ ts.length → PR 185 [] ts j (Qx ts 1 j)) : PR 190 [] ts i (Qx ts 8 i) := by
  rw [Q_eq 8 i (by decide) (by decide) hi, show bG ts (Qx ts) 8 i = atoG ts (Qx ts 1) i by unfold bG; rw [if_neg (by decide), if_neg (by decide), if_neg (by decide)]]
  have g := goes_row ts i 0
  have o := next_row ts i 0
  have i1 := is7_row ts i 0 sAt (by decide)
  have i2 := is7_row ts i 0 sParO (by decide)
  have i3 := is7_row ts i 0 sOpen (by decide)
  have i4 := is7_row ts i 0 wNew (by decide)
  by_cases e1 : (nxt ts i).k = 1
  · obtain ⟨⟨tx, tl⟩, ht, hq⟩ := pname_row ts hl i e1 hE
    refine ⟨.mk tx tl, ht, ?_⟩
    obtain ⟨⟨⟨rx, rl⟩, r2, r3⟩, hr⟩ : ∃ r, atoG ts (Qx ts 1) i = r := ⟨_, rfl⟩
    rw [hr] at hq ⊢
    clear hE ht hr
    refine row_of Tryz.func190 rfl rfl (Nat.le_of_ble_eq_true rfl) ?_
    repeat' (first | refine aw_seq ?_ | refine aw_skip ?_ | refine aw_block ?_ | refine aw_exit ?_ | refine aw_cond rfl (fun _ => ?_) (fun hb => absurd hb (by decide)) | refine aw_cond rfl (fun hb => absurd hb (by decide)) (fun _ => ?_) | (refine aw_reg (fun K hK => ?_); simp -implicitDefEqProofs [e1]) | (refine aw_drw mixd (fun K hK => ?_); simp -implicitDefEqProofs [e1]) | refine hK _ ?_ | refine hK _ _ (by rfl) ?_ | (refine ar_call (cb g 0 ?_); simp -implicitDefEqProofs [e1]) | (refine ard_call (db g 0 ?_); simp -implicitDefEqProofs [e1]) | (refine ar_call (cb o 0 ?_); simp -implicitDefEqProofs [e1]) | (refine ard_call (db o 0 ?_); simp -implicitDefEqProofs [e1]) | (refine ar_call (cb hq 0 ?_); simp -implicitDefEqProofs [e1]) | (refine ard_call (db hq 0 ?_); simp -implicitDefEqProofs [e1]) | fail)
    refine aw_ret (fin_box ?_); simp -implicitDefEqProofs [FinB, resV, resT] <;> try rfl
  by_cases e2 : isK sAt (nxt ts i) = true
  · obtain ⟨⟨tx, tl⟩, ht, hq⟩ := pext_row ts hl i e2 hE
    refine ⟨.mk tx tl, ht, ?_⟩
    obtain ⟨⟨⟨rx, rl⟩, r2, r3⟩, hr⟩ : ∃ r, atoG ts (Qx ts 1) i = r := ⟨_, rfl⟩
    rw [hr] at hq ⊢
    rw [e2] at i1
    clear hE ht hr e2
    refine row_of Tryz.func190 rfl rfl (Nat.le_of_ble_eq_true rfl) ?_
    repeat' (first | refine aw_seq ?_ | refine aw_skip ?_ | refine aw_block ?_ | refine aw_exit ?_ | refine aw_cond rfl (fun _ => ?_) (fun hb => absurd hb (by decide)) | refine aw_cond rfl (fun hb => absurd hb (by decide)) (fun _ => ?_) | (refine aw_reg (fun K hK => ?_); simp -implicitDefEqProofs [e1]) | (refine aw_drw mixd (fun K hK => ?_); simp -implicitDefEqProofs [e1]) | refine hK _ ?_ | refine hK _ _ (by rfl) ?_ | (refine ar_call (cb g 0 ?_); simp -implicitDefEqProofs [e1]) | (refine ard_call (db g 0 ?_); simp -implicitDefEqProofs [e1]) | (refine ar_call (cb o 0 ?_); simp -implicitDefEqProofs [e1]) | (refine ard_call (db o 0 ?_); simp -implicitDefEqProofs [e1]) | (refine ar_call (cb i1 0 ?_); simp -implicitDefEqProofs [e1]) | (refine ard_call (db i1 0 ?_); simp -implicitDefEqProofs [e1]) | (refine ar_call (cb hq 0 ?_); simp -implicitDefEqProofs [e1]) | (refine ard_call (db hq 0 ?_); simp -implicitDefEqProofs [e1]) | fail)
    refine aw_ret (fin_box ?_); simp -implicitDefEqProofs [FinB, resV, resT] <;> try rfl
  rw [show isK sAt (nxt ts i) = false by simpa using e2] at i1
  by_cases e3 : isK sParO (nxt ts i) = true
  · obtain ⟨⟨tx, tl⟩, ht, hq⟩ := pinner_row ts hl i e3 hE
    refine ⟨.mk tx tl, ht, ?_⟩
    obtain ⟨⟨⟨rx, rl⟩, r2, r3⟩, hr⟩ : ∃ r, atoG ts (Qx ts 1) i = r := ⟨_, rfl⟩
    rw [hr] at hq ⊢
    rw [e3] at i2
    clear hE ht hr e2 e3
    refine row_of Tryz.func190 rfl rfl (Nat.le_of_ble_eq_true rfl) ?_
    repeat' (first | refine aw_seq ?_ | refine aw_skip ?_ | refine aw_block ?_ | refine aw_exit ?_ | refine aw_cond rfl (fun _ => ?_) (fun hb => absurd hb (by decide)) | refine aw_cond rfl (fun hb => absurd hb (by decide)) (fun _ => ?_) | (refine aw_reg (fun K hK => ?_); simp -implicitDefEqProofs [e1]) | (refine aw_drw mixd (fun K hK => ?_); simp -implicitDefEqProofs [e1]) | refine hK _ ?_ | refine hK _ _ (by rfl) ?_ | (refine ar_call (cb g 0 ?_); simp -implicitDefEqProofs [e1]) | (refine ard_call (db g 0 ?_); simp -implicitDefEqProofs [e1]) | (refine ar_call (cb o 0 ?_); simp -implicitDefEqProofs [e1]) | (refine ard_call (db o 0 ?_); simp -implicitDefEqProofs [e1]) | (refine ar_call (cb i1 0 ?_); simp -implicitDefEqProofs [e1]) | (refine ard_call (db i1 0 ?_); simp -implicitDefEqProofs [e1]) | (refine ar_call (cb i2 0 ?_); simp -implicitDefEqProofs [e1]) | (refine ard_call (db i2 0 ?_); simp -implicitDefEqProofs [e1]) | (refine ar_call (cb hq 0 ?_); simp -implicitDefEqProofs [e1]) | (refine ard_call (db hq 0 ?_); simp -implicitDefEqProofs [e1]) | fail)
    refine aw_ret (fin_box ?_); simp -implicitDefEqProofs [FinB, resV, resT] <;> try rfl
  rw [show isK sParO (nxt ts i) = false by simpa using e3] at i2
  by_cases e4 : isK sOpen (nxt ts i) = true
  · obtain ⟨⟨tx, tl⟩, ht, hq⟩ := plisted_row ts hl i e4 hE
    refine ⟨.mk tx tl, ht, ?_⟩
    obtain ⟨⟨⟨rx, rl⟩, r2, r3⟩, hr⟩ : ∃ r, atoG ts (Qx ts 1) i = r := ⟨_, rfl⟩
    rw [hr] at hq ⊢
    rw [e4] at i3
    clear hE ht hr e2 e3 e4
    refine row_of Tryz.func190 rfl rfl (Nat.le_of_ble_eq_true rfl) ?_
    repeat' (first | refine aw_seq ?_ | refine aw_skip ?_ | refine aw_block ?_ | refine aw_exit ?_ | refine aw_cond rfl (fun _ => ?_) (fun hb => absurd hb (by decide)) | refine aw_cond rfl (fun hb => absurd hb (by decide)) (fun _ => ?_) | (refine aw_reg (fun K hK => ?_); simp -implicitDefEqProofs [e1]) | (refine aw_drw mixd (fun K hK => ?_); simp -implicitDefEqProofs [e1]) | refine hK _ ?_ | refine hK _ _ (by rfl) ?_ | (refine ar_call (cb g 0 ?_); simp -implicitDefEqProofs [e1]) | (refine ard_call (db g 0 ?_); simp -implicitDefEqProofs [e1]) | (refine ar_call (cb o 0 ?_); simp -implicitDefEqProofs [e1]) | (refine ard_call (db o 0 ?_); simp -implicitDefEqProofs [e1]) | (refine ar_call (cb i1 0 ?_); simp -implicitDefEqProofs [e1]) | (refine ard_call (db i1 0 ?_); simp -implicitDefEqProofs [e1]) | (refine ar_call (cb i2 0 ?_); simp -implicitDefEqProofs [e1]) | (refine ard_call (db i2 0 ?_); simp -implicitDefEqProofs [e1]) | (refine ar_call (cb i3 0 ?_); simp -implicitDefEqProofs [e1]) | (refine ard_call (db i3 0 ?_); simp -implicitDefEqProofs [e1]) | (refine ar_call (cb hq 0 ?_); simp -implicitDefEqProofs [e1]) | (refine ard_call (db hq 0 ?_); simp -implicitDefEqProofs [e1]) | fail)
    refine aw_ret (fin_box ?_); simp -implicitDefEqProofs [FinB, resV, resT] <;> try rfl
  rw [show isK sOpen (nxt ts i) = false by simpa using e4] at i3
  by_cases e5 : isK wNew (nxt ts i) = true
  · obtain ⟨⟨tx, tl⟩, ht, hq⟩ := pmade_row ts hl i e5 hE
    refine ⟨.mk tx tl, ht, ?_⟩
    obtain ⟨⟨⟨rx, rl⟩, r2, r3⟩, hr⟩ : ∃ r, atoG ts (Qx ts 1) i = r := ⟨_, rfl⟩
    rw [hr] at hq ⊢
    rw [e5] at i4
    clear hE ht hr e2 e3 e4 e5
    refine row_of Tryz.func190 rfl rfl (Nat.le_of_ble_eq_true rfl) ?_
    repeat' (first | refine aw_seq ?_ | refine aw_skip ?_ | refine aw_block ?_ | refine aw_exit ?_ | refine aw_cond rfl (fun _ => ?_) (fun hb => absurd hb (by decide)) | refine aw_cond rfl (fun hb => absurd hb (by decide)) (fun _ => ?_) | (refine aw_reg (fun K hK => ?_); simp -implicitDefEqProofs [e1]) | (refine aw_drw mixd (fun K hK => ?_); simp -implicitDefEqProofs [e1]) | refine hK _ ?_ | refine hK _ _ (by rfl) ?_ | (refine ar_call (cb g 0 ?_); simp -implicitDefEqProofs [e1]) | (refine ard_call (db g 0 ?_); simp -implicitDefEqProofs [e1]) | (refine ar_call (cb o 0 ?_); simp -implicitDefEqProofs [e1]) | (refine ard_call (db o 0 ?_); simp -implicitDefEqProofs [e1]) | (refine ar_call (cb i1 0 ?_); simp -implicitDefEqProofs [e1]) | (refine ard_call (db i1 0 ?_); simp -implicitDefEqProofs [e1]) | (refine ar_call (cb i2 0 ?_); simp -implicitDefEqProofs [e1]) | (refine ard_call (db i2 0 ?_); simp -implicitDefEqProofs [e1]) | (refine ar_call (cb i3 0 ?_); simp -implicitDefEqProofs [e1]) | (refine ard_call (db i3 0 ?_); simp -implicitDefEqProofs [e1]) | (refine ar_call (cb i4 0 ?_); simp -implicitDefEqProofs [e1]) | (refine ard_call (db i4 0 ?_); simp -implicitDefEqProofs [e1]) | (refine ar_call (cb hq 0 ?_); simp -implicitDefEqProofs [e1]) | (refine ard_call (db hq 0 ?_); simp -implicitDefEqProofs [e1]) | fail)
    refine aw_ret (fin_box ?_); simp -implicitDefEqProofs [FinB, resV, resT] <;> try rfl
  rw [show isK wNew (nxt ts i) = false by simpa using e5] at i4
  obtain ⟨⟨tx, tl⟩, ht, hq⟩ := pliteral_row ts hl i hi e1 (by simpa using e2) (by simpa using e3) (by simpa using e4) (by simpa using e5)
  refine ⟨.mk tx tl, ht, ?_⟩
  obtain ⟨⟨⟨rx, rl⟩, r2, r3⟩, hr⟩ : ∃ r, atoG ts (Qx ts 1) i = r := ⟨_, rfl⟩
  rw [hr] at hq ⊢
  clear hE ht hr e2 e3 e4 e5
  refine row_of Tryz.func190 rfl rfl (Nat.le_of_ble_eq_true rfl) ?_
  repeat' (first | refine aw_seq ?_ | refine aw_skip ?_ | refine aw_block ?_ | refine aw_exit ?_ | refine aw_cond rfl (fun _ => ?_) (fun hb => absurd hb (by decide)) | refine aw_cond rfl (fun hb => absurd hb (by decide)) (fun _ => ?_) | (refine aw_reg (fun K hK => ?_); simp -implicitDefEqProofs [e1]) | (refine aw_drw mixd (fun K hK => ?_); simp -implicitDefEqProofs [e1]) | refine hK _ ?_ | refine hK _ _ (by rfl) ?_ | (refine ar_call (cb g 0 ?_); simp -implicitDefEqProofs [e1]) | (refine ard_call (db g 0 ?_); simp -implicitDefEqProofs [e1]) | (refine ar_call (cb o 0 ?_); simp -implicitDefEqProofs [e1]) | (refine ard_call (db o 0 ?_); simp -implicitDefEqProofs [e1]) | (refine ar_call (cb i1 0 ?_); simp -implicitDefEqProofs [e1]) | (refine ard_call (db i1 0 ?_); simp -implicitDefEqProofs [e1]) | (refine ar_call (cb i2 0 ?_); simp -implicitDefEqProofs [e1]) | (refine ard_call (db i2 0 ?_); simp -implicitDefEqProofs [e1]) | (refine ar_call (cb i3 0 ?_); simp -implicitDefEqProofs [e1]) | (refine ard_call (db i3 0 ?_); simp -implicitDefEqProofs [e1]) | (refine ar_call (cb i4 0 ?_); simp -implicitDefEqProofs [e1]) | (refine ard_call (db i4 0 ?_); simp -implicitDefEqProofs [e1]) | (refine ar_call (cb hq 0 ?_); simp -implicitDefEqProofs [e1]) | (refine ard_call (db hq 0 ?_); simp -implicitDefEqProofs [e1]) | fail)
  refine aw_ret (fin_box ?_); simp -implicitDefEqProofs [FinB, resV, resT] <;> try rfl
end
end Go.Proofs.YthcnligihpnfiaaGreatDoor.am
end
section
namespace Go.Proofs.YthcnligihpnfiaaGreatDoor.am
open Go.ChangeShapes Go.WideShapes Go.ChangeAt Go.RowKit
open vt
set_option linter.unusedVariables false
set_option linter.unusedSimpArgs false
section
variable (ts : List Tok) (hl : ts.length ≤ 3000000000000)
def bhG (E : Nat → Got) (a : Nat) (x : Got) : Got :=
  if isK sOpen (nxt ts x.2.1) = true then
    if (E (x.2.1 + 1)).2.2 ≠ 0 then E (x.2.1 + 1)
    else if isK sShut (nxt ts (E (x.2.1 + 1)).2.1) = false then bad7 (E (x.2.1 + 1)).2.1
    else mk7 ts a ((E (x.2.1 + 1)).2.1 + 1) 12 0 ⟨#[]⟩ [x.1, (E (x.2.1 + 1)).1]
  else if (nxt ts (x.2.1 + 1)).k ≠ 1 then bad7 (x.2.1 + 1) else mk7 ts a (x.2.1 + 2) 13 0 (nxt ts (x.2.1 + 1)).s [x.1]
theorem lpP_err {E : Nat → Got} {a : Nat} {x : Got} (h : x.2.2 ≠ 0) (m : Nat) : lpP ts E a m x = x := by
  cases m
  · rfl
  · rw [lpP, if_pos h]
theorem lpP_end {E : Nat → Got} {a : Nat} {x : Got} (h1 : isK sOpen (nxt ts x.2.1) = false) (h2 : isK sDot (nxt ts x.2.1) = false) (m : Nat) : lpP ts E a m x = x := by
  cases m
  · rfl
  · rw [lpP]
    split
    · rfl
    · rw [if_neg (by simp [h1]), if_neg (by simp [h2])]
theorem lpP_step {E : Nat → Got} (hE : ∀ j, j ≤ ts.length → OkG ts j (E j)) {a : Nat} {x : Got} (h0 : x.2.2 = 0) (h : isK sOpen (nxt ts x.2.1) = true ∨ isK sDot (nxt ts x.2.1) = true) (m : Nat) : lpP ts E a (m + 1) x = lpP ts E a m (bhG ts E a x) := by
  rw [lpP, if_neg (by simp [h0])]
  unfold bhG
  by_cases h1 : isK sOpen (nxt ts x.2.1) = true
  · rw [if_pos h1, if_pos h1]
    by_cases h2 : (E (x.2.1 + 1)).2.2 = 0; rotate_left
    · rw [if_pos h2, if_pos h2, lpP_err ts h2]
    have n2 : ¬ (E (x.2.1 + 1)).2.2 ≠ 0 := fun hh => hh h2
    rw [if_neg n2, if_neg n2]
    by_cases h3 : isK sShut (nxt ts (E (x.2.1 + 1)).2.1) = false
    · rw [if_pos h3, if_pos h3, lpP_err ts (by simp [bad7])]
    · rw [if_neg h3, if_neg h3]
  · have h2 := h.resolve_left h1
    rw [if_neg h1, if_neg h1, if_pos h2]
    split
    · rw [lpP_err ts (by simp [bad7])]
    · rfl
theorem bh_ok {E : Nat → Got} (hE : ∀ j, j ≤ ts.length → OkG ts j (E j)) {a : Nat} {x : Got} (hx : OkG ts a x) (h0 : x.2.2 = 0) (h : isK sOpen (nxt ts x.2.1) = true ∨ isK sDot (nxt ts x.2.1) = true) : OkG ts a (bhG ts E a x) := by
  have := lpP_ok hE 1 x hx
  rwa [lpP_step ts hE h0 h, lpP] at this
structure InvP0 (i : Nat) (x : Nat × Got) : Prop where
  eq : lpP ts (Qx ts 1) i x.1 x.2 = Qx ts 7 i
  ok : OkG ts i x.2
  fuel : x.2.2.2 = 0 → ts.length < x.1 + x.2.2.1
include hl
set_option maxRecDepth 100000 in
set_option maxHeartbeats 4000000 in
theorem behind_row (a j : Nat) (px : Lab) (pl : List VT) (ha : a < j) (hj : j ≤ ts.length) (hb : isK sOpen (nxt ts j) = true ∨ isK sDot (nxt ts j) = true) (hE : ∀ i, j < i → i ≤ ts.length → PR 185 [] ts i (Qx ts 1 i)) : Row Tryz.prog 191 [vR, vI a, vT (.mk px pl)] [rd ts j 0] (vT (bhG ts (Qx ts 1) a (.mk px pl, j, 0)).1) [some (rd ts (bhG ts (Qx ts 1) a (.mk px pl, j, 0)).2.1 (bhG ts (Qx ts 1) a (.mk px pl, j, 0)).2.2)] := by
  unfold bhG
  dsimp only
  by_cases h1 : isK sOpen (nxt ts j) = true
  · rw [if_pos h1]
    have hlt := isK_lt h1
    have t := take_yes ts j sOpen (by decide) (by omega) h1
    obtain ⟨⟨tx, tl⟩, ht, hq⟩ := hE (j + 1) (by omega) (by omega)
    have hk := Q_ok (ts := ts) 1 (j + 1) (by omega)
    obtain ⟨⟨⟨rx, rl⟩, r2, r3⟩, hr⟩ : ∃ r, Qx ts 1 (j + 1) = r := ⟨_, rfl⟩
    rw [hr] at hq hk ht ⊢
    clear hr hE h1 hb
    by_cases hr3 : r3 = 0; rotate_left
    · rw [if_pos hr3]
      obtain ⟨h6, hz⟩ := hk.no hr3
      dsimp only at h6 hz
      rw [hz]
      subst h6
      have w2 := want_no ts r2 6 sShut (by decide) (.inl (by decide))
      rw [show er 6 = 6 from rfl] at w2
      have n := node_no ts r2 6 (by decide) a (.mk ⟨12, 0, ⟨#[]⟩, 0, 0⟩ [.mk px pl, .mk tx tl])
      clear hk ht hz
      refine row_of Tryz.func191 rfl rfl (Nat.le_of_ble_eq_true rfl) ?_
      repeat' (first | refine aw_seq ?_ | refine aw_skip ?_ | refine aw_block ?_ | refine aw_exit ?_ | refine aw_cond rfl (fun _ => ?_) (fun hb => absurd hb (by decide)) | refine aw_cond rfl (fun hb => absurd hb (by decide)) (fun _ => ?_) | (refine aw_reg (fun K hK => ?_); simp -implicitDefEqProofs) | (refine aw_drw mixd (fun K hK => ?_); simp -implicitDefEqProofs) | refine hK _ ?_ | refine hK _ _ (by rfl) ?_ | (refine ar_call (cb t 0 ?_); simp -implicitDefEqProofs) | (refine ard_call (db t 0 ?_); simp -implicitDefEqProofs) | (refine ar_call (cb hq 0 ?_); simp -implicitDefEqProofs) | (refine ard_call (db hq 0 ?_); simp -implicitDefEqProofs) | (refine ar_call (cb w2 0 ?_); simp -implicitDefEqProofs) | (refine ard_call (db w2 0 ?_); simp -implicitDefEqProofs) | (refine ar_call (cb n 0 ?_); simp -implicitDefEqProofs) | (refine ard_call (db n 0 ?_); simp -implicitDefEqProofs) | fail)
      refine aw_ret (fin_box ?_); simp -implicitDefEqProofs [FinB, resV, resT] <;> try rfl
    subst hr3
    rw [if_neg (by simp)]
    have hyy := hk.yes rfl
    replace ht := ht rfl
    dsimp only at hyy ht ⊢
    injection ht with ht1 ht2
    subst ht1 ht2
    by_cases e : isK sShut (nxt ts r2) = true; rotate_left
    · have e : isK sShut (nxt ts r2) = false := by simpa using e
      rw [if_pos e]
      have w2 := want_no ts r2 0 sShut (by decide) (.inr e)
      rw [show er 0 = 6 from rfl] at w2
      have n := node_no ts r2 6 (by decide) a (.mk ⟨12, 0, ⟨#[]⟩, 0, 0⟩ [.mk px pl, .mk tx tl])
      clear hk e
      refine row_of Tryz.func191 rfl rfl (Nat.le_of_ble_eq_true rfl) ?_
      repeat' (first | refine aw_seq ?_ | refine aw_skip ?_ | refine aw_block ?_ | refine aw_exit ?_ | refine aw_cond rfl (fun _ => ?_) (fun hb => absurd hb (by decide)) | refine aw_cond rfl (fun hb => absurd hb (by decide)) (fun _ => ?_) | (refine aw_reg (fun K hK => ?_); simp -implicitDefEqProofs) | (refine aw_drw mixd (fun K hK => ?_); simp -implicitDefEqProofs) | refine hK _ ?_ | refine hK _ _ (by rfl) ?_ | (refine ar_call (cb t 0 ?_); simp -implicitDefEqProofs) | (refine ard_call (db t 0 ?_); simp -implicitDefEqProofs) | (refine ar_call (cb hq 0 ?_); simp -implicitDefEqProofs) | (refine ard_call (db hq 0 ?_); simp -implicitDefEqProofs) | (refine ar_call (cb w2 0 ?_); simp -implicitDefEqProofs) | (refine ard_call (db w2 0 ?_); simp -implicitDefEqProofs) | (refine ar_call (cb n 0 ?_); simp -implicitDefEqProofs) | (refine ard_call (db n 0 ?_); simp -implicitDefEqProofs) | fail)
      refine aw_ret (fin_box ?_); simp -implicitDefEqProofs [FinB, resV, resT, bad7] <;> try rfl
    rw [if_neg (by simp [e])]
    have hlt2 := isK_lt e
    have w2 := want_yes ts r2 sShut (by decide) (by omega) e
    have n := node_yes ts (r2 + 1) a ⟨12, 0, ⟨#[]⟩, 0, 0⟩ [.mk px pl, .mk tx tl] (by omega) (by omega) (by omega) (by omega)
    clear hk e
    refine row_of Tryz.func191 rfl rfl (Nat.le_of_ble_eq_true rfl) ?_
    repeat' (first | refine aw_seq ?_ | refine aw_skip ?_ | refine aw_block ?_ | refine aw_exit ?_ | refine aw_cond rfl (fun _ => ?_) (fun hb => absurd hb (by decide)) | refine aw_cond rfl (fun hb => absurd hb (by decide)) (fun _ => ?_) | (refine aw_reg (fun K hK => ?_); simp -implicitDefEqProofs) | (refine aw_drw mixd (fun K hK => ?_); simp -implicitDefEqProofs) | refine hK _ ?_ | refine hK _ _ (by rfl) ?_ | (refine ar_call (cb t 0 ?_); simp -implicitDefEqProofs) | (refine ard_call (db t 0 ?_); simp -implicitDefEqProofs) | (refine ar_call (cb hq 0 ?_); simp -implicitDefEqProofs) | (refine ard_call (db hq 0 ?_); simp -implicitDefEqProofs) | (refine ar_call (cb w2 0 ?_); simp -implicitDefEqProofs) | (refine ard_call (db w2 0 ?_); simp -implicitDefEqProofs) | (refine ar_call (cb n 0 ?_); simp -implicitDefEqProofs) | (refine ard_call (db n 0 ?_); simp -implicitDefEqProofs) | fail)
    refine aw_ret (fin_box ?_); simp -implicitDefEqProofs [FinB, resV, resT, mk7] <;> try rfl
  rw [if_neg h1]
  have h2 := hb.resolve_left h1
  have t := take_no ts j 0 sOpen (by decide) (.inr (by simpa using h1))
  have w := want_yes ts j sDot (by decide) (by omega) h2
  have hlt := isK_lt h2
  clear h1 h2 hb hE
  by_cases h : (nxt ts (j + 1)).k = 1; rotate_left
  · rw [if_pos h]
    have k1 := kind_no ts (j + 1) 0 1 (.inr h)
    have n := node_no ts (j + 1) 6 (by decide) a (.mk ⟨13, 0, ⟨#[]⟩, 0, 0⟩ [.mk px pl])
    rw [show er 0 = 6 from rfl] at k1
    clear h
    refine row_of Tryz.func191 rfl rfl (Nat.le_of_ble_eq_true rfl) ?_
    repeat' (first | refine aw_seq ?_ | refine aw_skip ?_ | refine aw_block ?_ | refine aw_exit ?_ | refine aw_cond rfl (fun _ => ?_) (fun hb => absurd hb (by decide)) | refine aw_cond rfl (fun hb => absurd hb (by decide)) (fun _ => ?_) | (refine aw_reg (fun K hK => ?_); simp -implicitDefEqProofs [zK]) | (refine aw_drw mixd (fun K hK => ?_); simp -implicitDefEqProofs [zK]) | refine hK _ ?_ | refine hK _ _ (by rfl) ?_ | (refine ar_call (cb t 0 ?_); simp -implicitDefEqProofs [zK]) | (refine ard_call (db t 0 ?_); simp -implicitDefEqProofs [zK]) | (refine ar_call (cb w 0 ?_); simp -implicitDefEqProofs [zK]) | (refine ard_call (db w 0 ?_); simp -implicitDefEqProofs [zK]) | (refine ar_call (cb k1 0 ?_); simp -implicitDefEqProofs [zK]) | (refine ard_call (db k1 0 ?_); simp -implicitDefEqProofs [zK]) | (refine ar_call (cb n 0 ?_); simp -implicitDefEqProofs [zK]) | (refine ard_call (db n 0 ?_); simp -implicitDefEqProofs [zK]) | fail)
    refine aw_ret (fin_box ?_); simp -implicitDefEqProofs [FinB, resV, resT, bad7] <;> try rfl
  rw [if_neg (by simp [h])]
  obtain ⟨x, hx, hxn, hxk⟩ := kind_at h (by decide)
  have hlt2 := (List.getElem?_eq_some_iff.1 hx).1
  rw [hxn]
  have k1 := kind_yes ts (j + 1) 1 x (by omega) hx hxk
  obtain ⟨xk, xn, xs, xf, xt⟩ := x
  dsimp only at hxk
  subst hxk
  clear hxn hx h
  have n := node_yes ts (j + 1 + 1) a ⟨13, 0, xs, 0, 0⟩ [.mk px pl] (by omega) (by omega) (by omega) (by omega)
  refine row_of Tryz.func191 rfl rfl (Nat.le_of_ble_eq_true rfl) ?_
  repeat' (first | refine aw_seq ?_ | refine aw_skip ?_ | refine aw_block ?_ | refine aw_exit ?_ | refine aw_cond rfl (fun _ => ?_) (fun hb => absurd hb (by decide)) | refine aw_cond rfl (fun hb => absurd hb (by decide)) (fun _ => ?_) | (refine aw_reg (fun K hK => ?_); simp -implicitDefEqProofs) | (refine aw_drw mixd (fun K hK => ?_); simp -implicitDefEqProofs) | refine hK _ ?_ | refine hK _ _ (by rfl) ?_ | (refine ar_call (cb t 0 ?_); simp -implicitDefEqProofs) | (refine ard_call (db t 0 ?_); simp -implicitDefEqProofs) | (refine ar_call (cb w 0 ?_); simp -implicitDefEqProofs) | (refine ard_call (db w 0 ?_); simp -implicitDefEqProofs) | (refine ar_call (cb k1 0 ?_); simp -implicitDefEqProofs) | (refine ard_call (db k1 0 ?_); simp -implicitDefEqProofs) | (refine ar_call (cb n 0 ?_); simp -implicitDefEqProofs) | (refine ard_call (db n 0 ?_); simp -implicitDefEqProofs) | fail)
  refine aw_ret (fin_box ?_); simp -implicitDefEqProofs [FinB, resV, resT, mk7] <;> try rfl
set_option maxRecDepth 100000 in
set_option maxHeartbeats 4000000 in
theorem ppost_step (i : Nat) (hi : i ≤ ts.length) (h8 : PR 190 [] ts i (Qx ts 8 i)) (hE : ∀ j, i < j → j ≤ ts.length → PR 185 [] ts j (Qx ts 1 j)) : PR 189 [] ts i (Qx ts 7 i) := by
  have h0 : Qx ts 7 i = lpP ts (Qx ts 1) i (ts.length + 1) (Qx ts 8 i) := by
    rw [Q_eq 7 i (by decide) (by decide) hi]; unfold bG; rw [if_neg (by decide), if_neg (by decide), if_pos rfl]
  have ho := Q_ok (ts := ts) 8 i hi
  have p := place_row ts i 0
  obtain ⟨⟨tx, tl⟩, ht, hq⟩ := h8
  obtain ⟨⟨⟨ax, al⟩, a2, a3⟩, hr⟩ : ∃ r, Qx ts 8 i = r := ⟨_, rfl⟩
  rw [hr] at hq ht h0 ho
  by_cases ha3 : a3 = 0; rotate_left
  · rw [h0, lpP_err ts ha3]
    have g := goes_row ts a2 a3
    refine ⟨.mk tx tl, ht, ?_⟩
    clear ht hr h0 hE ho
    refine row_of Tryz.func189 rfl rfl (Nat.le_of_ble_eq_true rfl) ?_
    repeat' (first | refine aw_seq ?_ | refine aw_skip ?_ | refine aw_block ?_ | refine aw_exit ?_ | refine aw_cond rfl (fun _ => ?_) (fun hb => absurd hb (by decide)) | refine aw_cond rfl (fun hb => absurd hb (by decide)) (fun _ => ?_) | (refine aw_reg (fun K hK => ?_); simp -implicitDefEqProofs) | (refine aw_drw mixd (fun K hK => ?_); simp -implicitDefEqProofs) | refine hK _ ?_ | refine hK _ _ (by rfl) ?_ | (refine ar_call (cb p 0 ?_); simp -implicitDefEqProofs) | (refine ard_call (db p 0 ?_); simp -implicitDefEqProofs) | (refine ar_call (cb hq 0 ?_); simp -implicitDefEqProofs) | (refine ard_call (db hq 0 ?_); simp -implicitDefEqProofs) | fail)
    refine aw_lp (ι := Unit) (fun _ => mkSt [(0, vR), (2, .v (.c (.ptr 1 0))), (4, .v (.c (.ptr 2 0)))] [some (rd ts a2 a3), some zT, some (.box ((tc (.mk tx tl)).map .pv))]) (fun _ => True) (fun _ => 0) () trivial (cov_intro [0, 1, 23] (by simp -implicitDefEqProofs) (by simp -implicitDefEqProofs) (by decide) rfl (by simp)) (fun Z hI _ _ => ?_)
    repeat' (first | refine aw_seq ?_ | refine aw_skip ?_ | refine aw_block ?_ | refine aw_exit ?_ | refine aw_cond rfl (fun _ => ?_) (fun hb => absurd hb (by decide)) | refine aw_cond rfl (fun hb => absurd hb (by decide)) (fun _ => ?_) | (refine aw_reg (fun K hK => ?_); simp -implicitDefEqProofs [ha3]) | (refine aw_drw mixd (fun K hK => ?_); simp -implicitDefEqProofs [ha3]) | refine hK _ ?_ | refine hK _ _ (by rfl) ?_ | (refine ar_call (cb g 0 ?_); simp -implicitDefEqProofs [ha3]) | (refine ard_call (db g 0 ?_); simp -implicitDefEqProofs [ha3]) | fail)
    refine aw_ret (fin_box ?_); simp -implicitDefEqProofs [FinB, resV, resT] <;> try rfl
  subst ha3
  replace ht := ht rfl
  dsimp only at ht
  injection ht with ht1 ht2
  subst ht1 ht2
  refine ⟨(Qx ts 7 i).1, fun _ => rfl, ?_⟩
  have h1 : InvP0 ts i (ts.length + 1, (.mk tx tl, a2, 0)) := ⟨h0.symm, ho, fun _ => by dsimp only; omega⟩
  clear h0 hr
  refine row_of Tryz.func189 rfl rfl (Nat.le_of_ble_eq_true rfl) ?_
  repeat' (first | refine aw_seq ?_ | refine aw_skip ?_ | refine aw_block ?_ | refine aw_exit ?_ | refine aw_cond rfl (fun _ => ?_) (fun hb => absurd hb (by decide)) | refine aw_cond rfl (fun hb => absurd hb (by decide)) (fun _ => ?_) | (refine aw_reg (fun K hK => ?_); simp -implicitDefEqProofs) | (refine aw_drw mixd (fun K hK => ?_); simp -implicitDefEqProofs) | refine hK _ ?_ | refine hK _ _ (by rfl) ?_ | (refine ar_call (cb p 0 ?_); simp -implicitDefEqProofs) | (refine ard_call (db p 0 ?_); simp -implicitDefEqProofs) | (refine ar_call (cb hq 0 ?_); simp -implicitDefEqProofs) | (refine ard_call (db hq 0 ?_); simp -implicitDefEqProofs) | fail)
  refine aw_lp (ι := Nat × Got) (fun x => mkSt [(0, vR), (2, .v (.c (.ptr 1 0))), (3, vI i), (4, .v (.c (.ptr 2 0)))] [some (rd ts x.2.2.1 x.2.2.2), some zT, some (.box ((tc x.2.1).map .pv))]) (InvP0 ts i) (fun x => x.1) (ts.length + 1, (.mk tx tl, a2, 0)) h1 (cov_intro [0, 1, 23] (by simp -implicitDefEqProofs) (by simp -implicitDefEqProofs) (by decide) rfl (by simp)) (fun Z hI x hx => ?_)
  clear h1 hq ho
  obtain ⟨m, ⟨⟨px, pl⟩, j, e⟩⟩ := x
  obtain ⟨x1, x2, x3⟩ := hx
  dsimp only at x1 x2 x3 ⊢
  have g := goes_row ts j e
  by_cases he : e = 0; rotate_left
  · rw [lpP_err ts he] at x1
    rw [← x1]
    clear x1 hE x2 x3
    repeat' (first | refine aw_seq ?_ | refine aw_skip ?_ | refine aw_block ?_ | refine aw_exit ?_ | refine aw_cond rfl (fun _ => ?_) (fun hb => absurd hb (by decide)) | refine aw_cond rfl (fun hb => absurd hb (by decide)) (fun _ => ?_) | (refine aw_reg (fun K hK => ?_); simp -implicitDefEqProofs [he]) | (refine aw_drw mixd (fun K hK => ?_); simp -implicitDefEqProofs [he]) | refine hK _ ?_ | refine hK _ _ (by rfl) ?_ | (refine ar_call (cb g 0 ?_); simp -implicitDefEqProofs [he]) | (refine ard_call (db g 0 ?_); simp -implicitDefEqProofs [he]) | fail)
    refine aw_ret (fin_box ?_); simp -implicitDefEqProofs [FinB, resV, resT] <;> try rfl
  subst he
  have x3 := x3 rfl
  have hy := x2.yes rfl
  dsimp only at hy
  have i1 := is7_row ts j 0 sOpen (by decide)
  have i2 := is7_row ts j 0 sDot (by decide)
  by_cases hb : isK sOpen (nxt ts j) = true ∨ isK sDot (nxt ts j) = true; rotate_left
  · rw [not_or] at hb
    have b1 : isK sOpen (nxt ts j) = false := by simpa using hb.1
    have b2 : isK sDot (nxt ts j) = false := by simpa using hb.2
    rw [lpP_end ts b1 b2] at x1
    rw [← x1]
    rw [b1] at i1
    rw [b2] at i2
    clear x1 hE x2 hb b1 b2
    repeat' (first | refine aw_seq ?_ | refine aw_skip ?_ | refine aw_block ?_ | refine aw_exit ?_ | refine aw_cond rfl (fun _ => ?_) (fun hb => absurd hb (by decide)) | refine aw_cond rfl (fun hb => absurd hb (by decide)) (fun _ => ?_) | (refine aw_reg (fun K hK => ?_); simp -implicitDefEqProofs) | (refine aw_drw mixd (fun K hK => ?_); simp -implicitDefEqProofs) | refine hK _ ?_ | refine hK _ _ (by rfl) ?_ | (refine ar_call (cb g 0 ?_); simp -implicitDefEqProofs) | (refine ard_call (db g 0 ?_); simp -implicitDefEqProofs) | (refine ar_call (cb i1 0 ?_); simp -implicitDefEqProofs) | (refine ard_call (db i1 0 ?_); simp -implicitDefEqProofs) | (refine ar_call (cb i2 0 ?_); simp -implicitDefEqProofs) | (refine ard_call (db i2 0 ?_); simp -implicitDefEqProofs) | fail)
    refine aw_ret (fin_box ?_); simp -implicitDefEqProofs [FinB, resV, resT] <;> try rfl
  obtain ⟨m, rfl⟩ : ∃ m', m = m' + 1 := ⟨m - 1, by omega⟩
  rw [lpP_step ts (Q_ok (ts := ts) 1) rfl hb] at x1
  have hk := bh_ok ts (Q_ok (ts := ts) 1) x2 rfl hb
  have hbr := behind_row ts hl i j px pl (by omega) hy.2 hb (fun k h1 h2 => hE k (by omega) h2)
  obtain ⟨⟨⟨rx, rl⟩, r2, r3⟩, hr⟩ : ∃ r, bhG ts (Qx ts 1) i (.mk px pl, j, 0) = r := ⟨_, rfl⟩
  have hgt : (bhG ts (Qx ts 1) i (.mk px pl, j, 0)).2.2 = 0 → j < (bhG ts (Qx ts 1) i (.mk px pl, j, 0)).2.1 := by
    unfold bhG
    dsimp only
    split
    · rename_i h4
      have hlt := isK_lt h4
      have hq := Q_ok (ts := ts) 1 (j + 1) (by omega)
      split
      · rename_i h5; exact fun h => absurd h h5
      · rename_i h5
        have := hq.yes (by simpa using h5)
        split
        · intro h; simp [bad7] at h
        · intro h; simp only [mk7]; omega
    · split
      · intro h; simp [bad7] at h
      · intro h; simp only [mk7]; omega
  rw [hr] at hbr hk x1 hgt
  have nx : InvP0 ts i (m, (.mk rx rl, r2, r3)) := ⟨x1, hk, fun h => by have := hgt h; dsimp only at this ⊢; omega⟩
  clear x1 hE x2 hk hr hgt
  rcases hc1 : isK sOpen (nxt ts j) with _ | _
  · have hc2 : isK sDot (nxt ts j) = true := by rw [hc1] at hb; simpa using hb
    rw [hc1] at i1
    rw [hc2] at i2
    clear hb hc1 hc2
    repeat' (first | refine aw_seq ?_ | refine aw_skip ?_ | refine aw_block ?_ | refine aw_exit ?_ | refine aw_cond rfl (fun _ => ?_) (fun hb => absurd hb (by decide)) | refine aw_cond rfl (fun hb => absurd hb (by decide)) (fun _ => ?_) | (refine aw_reg (fun K hK => ?_); simp -implicitDefEqProofs) | (refine aw_drw mixd (fun K hK => ?_); simp -implicitDefEqProofs) | refine hK _ ?_ | refine hK _ _ (by rfl) ?_ | (refine ar_call (cb g 0 ?_); simp -implicitDefEqProofs) | (refine ard_call (db g 0 ?_); simp -implicitDefEqProofs) | (refine ar_call (cb i1 0 ?_); simp -implicitDefEqProofs) | (refine ard_call (db i1 0 ?_); simp -implicitDefEqProofs) | (refine ar_call (cb i2 0 ?_); simp -implicitDefEqProofs) | (refine ard_call (db i2 0 ?_); simp -implicitDefEqProofs) | (refine ar_call (cb hbr 0 ?_); simp -implicitDefEqProofs) | (refine ard_call (db hbr 0 ?_); simp -implicitDefEqProofs) | fail)
    refine ⟨(_, _), nx, (by dsimp only; omega), ?_⟩; rw [hI]; exact cov_intro [0, 1, 2] (by simp -implicitDefEqProofs) (by simp -implicitDefEqProofs) (by decide) rfl (by simp)
  · rw [hc1] at i1
    clear hb hc1
    repeat' (first | refine aw_seq ?_ | refine aw_skip ?_ | refine aw_block ?_ | refine aw_exit ?_ | refine aw_cond rfl (fun _ => ?_) (fun hb => absurd hb (by decide)) | refine aw_cond rfl (fun hb => absurd hb (by decide)) (fun _ => ?_) | (refine aw_reg (fun K hK => ?_); simp -implicitDefEqProofs) | (refine aw_drw mixd (fun K hK => ?_); simp -implicitDefEqProofs) | refine hK _ ?_ | refine hK _ _ (by rfl) ?_ | (refine ar_call (cb g 0 ?_); simp -implicitDefEqProofs) | (refine ard_call (db g 0 ?_); simp -implicitDefEqProofs) | (refine ar_call (cb i1 0 ?_); simp -implicitDefEqProofs) | (refine ard_call (db i1 0 ?_); simp -implicitDefEqProofs) | (refine ar_call (cb i2 0 ?_); simp -implicitDefEqProofs) | (refine ard_call (db i2 0 ?_); simp -implicitDefEqProofs) | (refine ar_call (cb hbr 0 ?_); simp -implicitDefEqProofs) | (refine ard_call (db hbr 0 ?_); simp -implicitDefEqProofs) | fail)
    refine ⟨(_, _), nx, (by dsimp only; omega), ?_⟩; rw [hI]; exact cov_intro [0, 1, 2] (by simp -implicitDefEqProofs) (by simp -implicitDefEqProofs) (by decide) rfl (by simp)
end
end Go.Proofs.YthcnligihpnfiaaGreatDoor.am
end
