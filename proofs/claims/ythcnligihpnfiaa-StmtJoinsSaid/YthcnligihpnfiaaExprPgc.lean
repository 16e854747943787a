/-
  Layer 7: expressions out of tokens: the program's: what stands behind, signs ahead, lines; the whole.
-/
import Derived.Test.YthcnligihpnfiaaExprPgb
namespace Go.Proofs.Ythcnligihpnfiaa.am
open Go.ChangeShapes Go.WideShapes Go.ChangeAt Go.RowKit
open vt
set_option linter.unusedVariables false
set_option linter.unusedSimpArgs false
section
variable (ts : List Tok) (hl : ts.length ≤ 3000000000000)
/-- One step of what stands behind. -/
def bhG (E : Nat → Got) (a : Nat) (x : Got) : Got :=
  if isK sOpen (nxt ts x.2.1) = true then
    if (E (x.2.1 + 1)).2.2 ≠ 0 then E (x.2.1 + 1)
    else if isK sShut (nxt ts (E (x.2.1 + 1)).2.1) = false then bad7 (E (x.2.1 + 1)).2.1
    else mk7 ts a ((E (x.2.1 + 1)).2.1 + 1) 12 0 ⟨#[]⟩ [x.1, (E (x.2.1 + 1)).1]
  else if (nxt ts (x.2.1 + 1)).k ≠ 1 then bad7 (x.2.1 + 1) else mk7 ts a (x.2.1 + 2) 13 0 (nxt ts (x.2.1 + 1)).s [x.1]
theorem lpP_err {E : Nat → Got} {a : Nat} {x : Got} (h : x.2.2 ≠ 0) (m : Nat) : lpP ts E a m x = x := by
  cases m
  · rfl
  · rw [lpP, if_pos h]
theorem lpP_end {E : Nat → Got} {a : Nat} {x : Got} (h1 : isK sOpen (nxt ts x.2.1) = false) (h2 : isK sDot (nxt ts x.2.1) = false) (m : Nat) : lpP ts E a m x = x := by
  cases m
  · rfl
  · rw [lpP]
    split
    · rfl
    · rw [if_neg (by simp [h1]), if_neg (by simp [h2])]
theorem lpP_step {E : Nat → Got} (hE : ∀ j, j ≤ ts.length → OkG ts j (E j)) {a : Nat} {x : Got} (h0 : x.2.2 = 0) (h : isK sOpen (nxt ts x.2.1) = true ∨ isK sDot (nxt ts x.2.1) = true) (m : Nat) : lpP ts E a (m + 1) x = lpP ts E a m (bhG ts E a x) := by
  rw [lpP, if_neg (by simp [h0])]
  unfold bhG
  by_cases h1 : isK sOpen (nxt ts x.2.1) = true
  · rw [if_pos h1, if_pos h1]
    by_cases h2 : (E (x.2.1 + 1)).2.2 = 0; rotate_left
    · rw [if_pos h2, if_pos h2, lpP_err ts h2]
    have n2 : ¬ (E (x.2.1 + 1)).2.2 ≠ 0 := fun hh => hh h2
    rw [if_neg n2, if_neg n2]
    by_cases h3 : isK sShut (nxt ts (E (x.2.1 + 1)).2.1) = false
    · rw [if_pos h3, if_pos h3, lpP_err ts (by simp [bad7])]
    · rw [if_neg h3, if_neg h3]
  · have h2 := h.resolve_left h1
    rw [if_neg h1, if_neg h1, if_pos h2]
    split
    · rw [lpP_err ts (by simp [bad7])]
    · rfl
theorem bh_ok {E : Nat → Got} (hE : ∀ j, j ≤ ts.length → OkG ts j (E j)) {a : Nat} {x : Got} (hx : OkG ts a x) (h0 : x.2.2 = 0) (h : isK sOpen (nxt ts x.2.1) = true ∨ isK sDot (nxt ts x.2.1) = true) : OkG ts a (bhG ts E a x) := by
  have := lpP_ok hE 1 x hx
  rwa [lpP_step ts hE h0 h, lpP] at this
/-- What the loop of what stands behind holds. -/
structure InvP0 (i : Nat) (x : Nat × Got) : Prop where
  eq : lpP ts (Qx ts 1) i x.1 x.2 = Qx ts 7 i
  ok : OkG ts i x.2
  fuel : x.2.2.2 = 0 → ts.length < x.1 + x.2.2.1
include hl
set_option maxRecDepth 100000 in
set_option maxHeartbeats 4000000 in
theorem behind_row (a j : Nat) (px : Lab) (pl : List VT) (ha : a < j) (hj : j ≤ ts.length) (hb : isK sOpen (nxt ts j) = true ∨ isK sDot (nxt ts j) = true) (hE : ∀ i, j < i → i ≤ ts.length → PR 21 [] ts i (Qx ts 1 i)) : Row Try.prog 74 [vR, vI a, vT (.mk px pl)] [rd ts j 0] (vT (bhG ts (Qx ts 1) a (.mk px pl, j, 0)).1) [some (rd ts (bhG ts (Qx ts 1) a (.mk px pl, j, 0)).2.1 (bhG ts (Qx ts 1) a (.mk px pl, j, 0)).2.2)] := by
  unfold bhG
  dsimp only
  by_cases h1 : isK sOpen (nxt ts j) = true
  · rw [if_pos h1]
    have hlt := isK_lt h1
    have t := take_yes ts j sOpen (by decide) (by omega) h1
    obtain ⟨⟨tx, tl⟩, ht, hq⟩ := hE (j + 1) (by omega) (by omega)
    have hk := Q_ok (ts := ts) 1 (j + 1) (by omega)
    obtain ⟨⟨⟨rx, rl⟩, r2, r3⟩, hr⟩ : ∃ r, Qx ts 1 (j + 1) = r := ⟨_, rfl⟩
    rw [hr] at hq hk ht ⊢
    clear hr hE h1 hb
    by_cases hr3 : r3 = 0; rotate_left
    · rw [if_pos hr3]
      obtain ⟨h6, hz⟩ := hk.no hr3
      dsimp only at h6 hz
      rw [hz]
      subst h6
      have w2 := want_no ts r2 6 sShut (by decide) (.inl (by decide))
      rw [show er 6 = 6 from rfl] at w2
      have n := node_no ts r2 6 (by decide) a (.mk ⟨12, 0, ⟨#[]⟩, 0, 0⟩ [.mk px pl, .mk tx tl])
      clear hk ht hz
      refine row_of Try.func74 rfl rfl (Nat.le_of_ble_eq_true rfl) ?_
      repeat' (first | refine aw_seq ?_ | refine aw_skip ?_ | refine aw_block ?_ | refine aw_exit ?_ | refine aw_cond rfl (fun _ => ?_) (fun hb => absurd hb (by decide)) | refine aw_cond rfl (fun hb => absurd hb (by decide)) (fun _ => ?_) | (refine aw_reg (fun K hK => ?_); simp -implicitDefEqProofs) | (refine aw_drw mixd (fun K hK => ?_); simp -implicitDefEqProofs) | refine hK _ ?_ | refine hK _ _ (by rfl) ?_ | (refine ar_call (cb t 0 ?_); simp -implicitDefEqProofs) | (refine ard_call (db t 0 ?_); simp -implicitDefEqProofs) | (refine ar_call (cb hq 0 ?_); simp -implicitDefEqProofs) | (refine ard_call (db hq 0 ?_); simp -implicitDefEqProofs) | (refine ar_call (cb w2 0 ?_); simp -implicitDefEqProofs) | (refine ard_call (db w2 0 ?_); simp -implicitDefEqProofs) | (refine ar_call (cb n 0 ?_); simp -implicitDefEqProofs) | (refine ard_call (db n 0 ?_); simp -implicitDefEqProofs) | fail)
      refine aw_ret (fin_box ?_); simp -implicitDefEqProofs [FinB, resV, resT] <;> try rfl
    subst hr3
    rw [if_neg (by simp)]
    have hyy := hk.yes rfl
    replace ht := ht rfl
    dsimp only at hyy ht ⊢
    injection ht with ht1 ht2
    subst ht1 ht2
    by_cases e : isK sShut (nxt ts r2) = true; rotate_left
    · have e : isK sShut (nxt ts r2) = false := by simpa using e
      rw [if_pos e]
      have w2 := want_no ts r2 0 sShut (by decide) (.inr e)
      rw [show er 0 = 6 from rfl] at w2
      have n := node_no ts r2 6 (by decide) a (.mk ⟨12, 0, ⟨#[]⟩, 0, 0⟩ [.mk px pl, .mk tx tl])
      clear hk e
      refine row_of Try.func74 rfl rfl (Nat.le_of_ble_eq_true rfl) ?_
      repeat' (first | refine aw_seq ?_ | refine aw_skip ?_ | refine aw_block ?_ | refine aw_exit ?_ | refine aw_cond rfl (fun _ => ?_) (fun hb => absurd hb (by decide)) | refine aw_cond rfl (fun hb => absurd hb (by decide)) (fun _ => ?_) | (refine aw_reg (fun K hK => ?_); simp -implicitDefEqProofs) | (refine aw_drw mixd (fun K hK => ?_); simp -implicitDefEqProofs) | refine hK _ ?_ | refine hK _ _ (by rfl) ?_ | (refine ar_call (cb t 0 ?_); simp -implicitDefEqProofs) | (refine ard_call (db t 0 ?_); simp -implicitDefEqProofs) | (refine ar_call (cb hq 0 ?_); simp -implicitDefEqProofs) | (refine ard_call (db hq 0 ?_); simp -implicitDefEqProofs) | (refine ar_call (cb w2 0 ?_); simp -implicitDefEqProofs) | (refine ard_call (db w2 0 ?_); simp -implicitDefEqProofs) | (refine ar_call (cb n 0 ?_); simp -implicitDefEqProofs) | (refine ard_call (db n 0 ?_); simp -implicitDefEqProofs) | fail)
      refine aw_ret (fin_box ?_); simp -implicitDefEqProofs [FinB, resV, resT, bad7] <;> try rfl
    rw [if_neg (by simp [e])]
    have hlt2 := isK_lt e
    have w2 := want_yes ts r2 sShut (by decide) (by omega) e
    have n := node_yes ts (r2 + 1) a ⟨12, 0, ⟨#[]⟩, 0, 0⟩ [.mk px pl, .mk tx tl] (by omega) (by omega) (by omega) (by omega)
    clear hk e
    refine row_of Try.func74 rfl rfl (Nat.le_of_ble_eq_true rfl) ?_
    repeat' (first | refine aw_seq ?_ | refine aw_skip ?_ | refine aw_block ?_ | refine aw_exit ?_ | refine aw_cond rfl (fun _ => ?_) (fun hb => absurd hb (by decide)) | refine aw_cond rfl (fun hb => absurd hb (by decide)) (fun _ => ?_) | (refine aw_reg (fun K hK => ?_); simp -implicitDefEqProofs) | (refine aw_drw mixd (fun K hK => ?_); simp -implicitDefEqProofs) | refine hK _ ?_ | refine hK _ _ (by rfl) ?_ | (refine ar_call (cb t 0 ?_); simp -implicitDefEqProofs) | (refine ard_call (db t 0 ?_); simp -implicitDefEqProofs) | (refine ar_call (cb hq 0 ?_); simp -implicitDefEqProofs) | (refine ard_call (db hq 0 ?_); simp -implicitDefEqProofs) | (refine ar_call (cb w2 0 ?_); simp -implicitDefEqProofs) | (refine ard_call (db w2 0 ?_); simp -implicitDefEqProofs) | (refine ar_call (cb n 0 ?_); simp -implicitDefEqProofs) | (refine ard_call (db n 0 ?_); simp -implicitDefEqProofs) | fail)
    refine aw_ret (fin_box ?_); simp -implicitDefEqProofs [FinB, resV, resT, mk7] <;> try rfl
  rw [if_neg h1]
  have h2 := hb.resolve_left h1
  have t := take_no ts j 0 sOpen (by decide) (.inr (by simpa using h1))
  have w := want_yes ts j sDot (by decide) (by omega) h2
  have hlt := isK_lt h2
  clear h1 h2 hb hE
  by_cases h : (nxt ts (j + 1)).k = 1; rotate_left
  · rw [if_pos h]
    have k1 := kind_no ts (j + 1) 0 1 (.inr h)
    have n := node_no ts (j + 1) 6 (by decide) a (.mk ⟨13, 0, ⟨#[]⟩, 0, 0⟩ [.mk px pl])
    rw [show er 0 = 6 from rfl] at k1
    clear h
    refine row_of Try.func74 rfl rfl (Nat.le_of_ble_eq_true rfl) ?_
    repeat' (first | refine aw_seq ?_ | refine aw_skip ?_ | refine aw_block ?_ | refine aw_exit ?_ | refine aw_cond rfl (fun _ => ?_) (fun hb => absurd hb (by decide)) | refine aw_cond rfl (fun hb => absurd hb (by decide)) (fun _ => ?_) | (refine aw_reg (fun K hK => ?_); simp -implicitDefEqProofs [zK]) | (refine aw_drw mixd (fun K hK => ?_); simp -implicitDefEqProofs [zK]) | refine hK _ ?_ | refine hK _ _ (by rfl) ?_ | (refine ar_call (cb t 0 ?_); simp -implicitDefEqProofs [zK]) | (refine ard_call (db t 0 ?_); simp -implicitDefEqProofs [zK]) | (refine ar_call (cb w 0 ?_); simp -implicitDefEqProofs [zK]) | (refine ard_call (db w 0 ?_); simp -implicitDefEqProofs [zK]) | (refine ar_call (cb k1 0 ?_); simp -implicitDefEqProofs [zK]) | (refine ard_call (db k1 0 ?_); simp -implicitDefEqProofs [zK]) | (refine ar_call (cb n 0 ?_); simp -implicitDefEqProofs [zK]) | (refine ard_call (db n 0 ?_); simp -implicitDefEqProofs [zK]) | fail)
    refine aw_ret (fin_box ?_); simp -implicitDefEqProofs [FinB, resV, resT, bad7] <;> try rfl
  rw [if_neg (by simp [h])]
  obtain ⟨x, hx, hxn, hxk⟩ := kind_at h (by decide)
  have hlt2 := (List.getElem?_eq_some_iff.1 hx).1
  rw [hxn]
  have k1 := kind_yes ts (j + 1) 1 x (by omega) hx hxk
  obtain ⟨xk, xn, xs, xf, xt⟩ := x
  dsimp only at hxk
  subst hxk
  clear hxn hx h
  have n := node_yes ts (j + 1 + 1) a ⟨13, 0, xs, 0, 0⟩ [.mk px pl] (by omega) (by omega) (by omega) (by omega)
  refine row_of Try.func74 rfl rfl (Nat.le_of_ble_eq_true rfl) ?_
  repeat' (first | refine aw_seq ?_ | refine aw_skip ?_ | refine aw_block ?_ | refine aw_exit ?_ | refine aw_cond rfl (fun _ => ?_) (fun hb => absurd hb (by decide)) | refine aw_cond rfl (fun hb => absurd hb (by decide)) (fun _ => ?_) | (refine aw_reg (fun K hK => ?_); simp -implicitDefEqProofs) | (refine aw_drw mixd (fun K hK => ?_); simp -implicitDefEqProofs) | refine hK _ ?_ | refine hK _ _ (by rfl) ?_ | (refine ar_call (cb t 0 ?_); simp -implicitDefEqProofs) | (refine ard_call (db t 0 ?_); simp -implicitDefEqProofs) | (refine ar_call (cb w 0 ?_); simp -implicitDefEqProofs) | (refine ard_call (db w 0 ?_); simp -implicitDefEqProofs) | (refine ar_call (cb k1 0 ?_); simp -implicitDefEqProofs) | (refine ard_call (db k1 0 ?_); simp -implicitDefEqProofs) | (refine ar_call (cb n 0 ?_); simp -implicitDefEqProofs) | (refine ard_call (db n 0 ?_); simp -implicitDefEqProofs) | fail)
  refine aw_ret (fin_box ?_); simp -implicitDefEqProofs [FinB, resV, resT, mk7] <;> try rfl
set_option maxRecDepth 100000 in
set_option maxHeartbeats 4000000 in
theorem ppost_step (i : Nat) (hi : i ≤ ts.length) (h8 : PR 73 [] ts i (Qx ts 8 i)) (hE : ∀ j, i < j → j ≤ ts.length → PR 21 [] ts j (Qx ts 1 j)) : PR 65 [] ts i (Qx ts 7 i) := by
  have h0 : Qx ts 7 i = lpP ts (Qx ts 1) i (ts.length + 1) (Qx ts 8 i) := by
    rw [Q_eq 7 i (by decide) (by decide) hi]; unfold bG; rw [if_neg (by decide), if_neg (by decide), if_pos rfl]
  have ho := Q_ok (ts := ts) 8 i hi
  have p := place_row ts i 0
  obtain ⟨⟨tx, tl⟩, ht, hq⟩ := h8
  obtain ⟨⟨⟨ax, al⟩, a2, a3⟩, hr⟩ : ∃ r, Qx ts 8 i = r := ⟨_, rfl⟩
  rw [hr] at hq ht h0 ho
  by_cases ha3 : a3 = 0; rotate_left
  · rw [h0, lpP_err ts ha3]
    have g := goes_row ts a2 a3
    refine ⟨.mk tx tl, ht, ?_⟩
    clear ht hr h0 hE ho
    refine row_of Try.func65 rfl rfl (Nat.le_of_ble_eq_true rfl) ?_
    repeat' (first | refine aw_seq ?_ | refine aw_skip ?_ | refine aw_block ?_ | refine aw_exit ?_ | refine aw_cond rfl (fun _ => ?_) (fun hb => absurd hb (by decide)) | refine aw_cond rfl (fun hb => absurd hb (by decide)) (fun _ => ?_) | (refine aw_reg (fun K hK => ?_); simp -implicitDefEqProofs) | (refine aw_drw mixd (fun K hK => ?_); simp -implicitDefEqProofs) | refine hK _ ?_ | refine hK _ _ (by rfl) ?_ | (refine ar_call (cb p 0 ?_); simp -implicitDefEqProofs) | (refine ard_call (db p 0 ?_); simp -implicitDefEqProofs) | (refine ar_call (cb hq 0 ?_); simp -implicitDefEqProofs) | (refine ard_call (db hq 0 ?_); simp -implicitDefEqProofs) | fail)
    refine aw_lp (ι := Unit) (fun _ => mkSt [(0, vR), (2, .v (.c (.ptr 1 0))), (4, .v (.c (.ptr 2 0)))] [some (rd ts a2 a3), some zT, some (.box ((tc (.mk tx tl)).map .pv))]) (fun _ => True) (fun _ => 0) () trivial (cov_intro [0, 1, 23] (by simp -implicitDefEqProofs) (by simp -implicitDefEqProofs) (by decide) rfl (by simp)) (fun Z hI _ _ => ?_)
    repeat' (first | refine aw_seq ?_ | refine aw_skip ?_ | refine aw_block ?_ | refine aw_exit ?_ | refine aw_cond rfl (fun _ => ?_) (fun hb => absurd hb (by decide)) | refine aw_cond rfl (fun hb => absurd hb (by decide)) (fun _ => ?_) | (refine aw_reg (fun K hK => ?_); simp -implicitDefEqProofs [ha3]) | (refine aw_drw mixd (fun K hK => ?_); simp -implicitDefEqProofs [ha3]) | refine hK _ ?_ | refine hK _ _ (by rfl) ?_ | (refine ar_call (cb g 0 ?_); simp -implicitDefEqProofs [ha3]) | (refine ard_call (db g 0 ?_); simp -implicitDefEqProofs [ha3]) | fail)
    refine aw_ret (fin_box ?_); simp -implicitDefEqProofs [FinB, resV, resT] <;> try rfl
  subst ha3
  replace ht := ht rfl
  dsimp only at ht
  injection ht with ht1 ht2
  subst ht1 ht2
  refine ⟨(Qx ts 7 i).1, fun _ => rfl, ?_⟩
  have h1 : InvP0 ts i (ts.length + 1, (.mk tx tl, a2, 0)) := ⟨h0.symm, ho, fun _ => by dsimp only; omega⟩
  clear h0 hr
  refine row_of Try.func65 rfl rfl (Nat.le_of_ble_eq_true rfl) ?_
  repeat' (first | refine aw_seq ?_ | refine aw_skip ?_ | refine aw_block ?_ | refine aw_exit ?_ | refine aw_cond rfl (fun _ => ?_) (fun hb => absurd hb (by decide)) | refine aw_cond rfl (fun hb => absurd hb (by decide)) (fun _ => ?_) | (refine aw_reg (fun K hK => ?_); simp -implicitDefEqProofs) | (refine aw_drw mixd (fun K hK => ?_); simp -implicitDefEqProofs) | refine hK _ ?_ | refine hK _ _ (by rfl) ?_ | (refine ar_call (cb p 0 ?_); simp -implicitDefEqProofs) | (refine ard_call (db p 0 ?_); simp -implicitDefEqProofs) | (refine ar_call (cb hq 0 ?_); simp -implicitDefEqProofs) | (refine ard_call (db hq 0 ?_); simp -implicitDefEqProofs) | fail)
  refine aw_lp (ι := Nat × Got) (fun x => mkSt [(0, vR), (2, .v (.c (.ptr 1 0))), (3, vI i), (4, .v (.c (.ptr 2 0)))] [some (rd ts x.2.2.1 x.2.2.2), some zT, some (.box ((tc x.2.1).map .pv))]) (InvP0 ts i) (fun x => x.1) (ts.length + 1, (.mk tx tl, a2, 0)) h1 (cov_intro [0, 1, 23] (by simp -implicitDefEqProofs) (by simp -implicitDefEqProofs) (by decide) rfl (by simp)) (fun Z hI x hx => ?_)
  clear h1 hq ho
  obtain ⟨m, ⟨⟨px, pl⟩, j, e⟩⟩ := x
  obtain ⟨x1, x2, x3⟩ := hx
  dsimp only at x1 x2 x3 ⊢
  have g := goes_row ts j e
  by_cases he : e = 0; rotate_left
  · rw [lpP_err ts he] at x1
    rw [← x1]
    clear x1 hE x2 x3
    repeat' (first | refine aw_seq ?_ | refine aw_skip ?_ | refine aw_block ?_ | refine aw_exit ?_ | refine aw_cond rfl (fun _ => ?_) (fun hb => absurd hb (by decide)) | refine aw_cond rfl (fun hb => absurd hb (by decide)) (fun _ => ?_) | (refine aw_reg (fun K hK => ?_); simp -implicitDefEqProofs [he]) | (refine aw_drw mixd (fun K hK => ?_); simp -implicitDefEqProofs [he]) | refine hK _ ?_ | refine hK _ _ (by rfl) ?_ | (refine ar_call (cb g 0 ?_); simp -implicitDefEqProofs [he]) | (refine ard_call (db g 0 ?_); simp -implicitDefEqProofs [he]) | fail)
    refine aw_ret (fin_box ?_); simp -implicitDefEqProofs [FinB, resV, resT] <;> try rfl
  subst he
  have x3 := x3 rfl
  have hy := x2.yes rfl
  dsimp only at hy
  have i1 := is7_row ts j 0 sOpen (by decide)
  have i2 := is7_row ts j 0 sDot (by decide)
  by_cases hb : isK sOpen (nxt ts j) = true ∨ isK sDot (nxt ts j) = true; rotate_left
  · rw [not_or] at hb
    have b1 : isK sOpen (nxt ts j) = false := by simpa using hb.1
    have b2 : isK sDot (nxt ts j) = false := by simpa using hb.2
    rw [lpP_end ts b1 b2] at x1
    rw [← x1]
    rw [b1] at i1
    rw [b2] at i2
    clear x1 hE x2 hb b1 b2
    repeat' (first | refine aw_seq ?_ | refine aw_skip ?_ | refine aw_block ?_ | refine aw_exit ?_ | refine aw_cond rfl (fun _ => ?_) (fun hb => absurd hb (by decide)) | refine aw_cond rfl (fun hb => absurd hb (by decide)) (fun _ => ?_) | (refine aw_reg (fun K hK => ?_); simp -implicitDefEqProofs) | (refine aw_drw mixd (fun K hK => ?_); simp -implicitDefEqProofs) | refine hK _ ?_ | refine hK _ _ (by rfl) ?_ | (refine ar_call (cb g 0 ?_); simp -implicitDefEqProofs) | (refine ard_call (db g 0 ?_); simp -implicitDefEqProofs) | (refine ar_call (cb i1 0 ?_); simp -implicitDefEqProofs) | (refine ard_call (db i1 0 ?_); simp -implicitDefEqProofs) | (refine ar_call (cb i2 0 ?_); simp -implicitDefEqProofs) | (refine ard_call (db i2 0 ?_); simp -implicitDefEqProofs) | fail)
    refine aw_ret (fin_box ?_); simp -implicitDefEqProofs [FinB, resV, resT] <;> try rfl
  obtain ⟨m, rfl⟩ : ∃ m', m = m' + 1 := ⟨m - 1, by omega⟩
  rw [lpP_step ts (Q_ok (ts := ts) 1) rfl hb] at x1
  have hk := bh_ok ts (Q_ok (ts := ts) 1) x2 rfl hb
  have hbr := behind_row ts hl i j px pl (by omega) hy.2 hb (fun k h1 h2 => hE k (by omega) h2)
  obtain ⟨⟨⟨rx, rl⟩, r2, r3⟩, hr⟩ : ∃ r, bhG ts (Qx ts 1) i (.mk px pl, j, 0) = r := ⟨_, rfl⟩
  have hgt : (bhG ts (Qx ts 1) i (.mk px pl, j, 0)).2.2 = 0 → j < (bhG ts (Qx ts 1) i (.mk px pl, j, 0)).2.1 := by
    unfold bhG
    dsimp only
    split
    · rename_i h4
      have hlt := isK_lt h4
      have hq := Q_ok (ts := ts) 1 (j + 1) (by omega)
      split
      · rename_i h5; exact fun h => absurd h h5
      · rename_i h5
        have := hq.yes (by simpa using h5)
        split
        · intro h; simp [bad7] at h
        · intro h; simp only [mk7]; omega
    · split
      · intro h; simp [bad7] at h
      · intro h; simp only [mk7]; omega
  rw [hr] at hbr hk x1 hgt
  have nx : InvP0 ts i (m, (.mk rx rl, r2, r3)) := ⟨x1, hk, fun h => by have := hgt h; dsimp only at this ⊢; omega⟩
  clear x1 hE x2 hk hr hgt
  rcases hc1 : isK sOpen (nxt ts j) with _ | _
  · have hc2 : isK sDot (nxt ts j) = true := by rw [hc1] at hb; simpa using hb
    rw [hc1] at i1
    rw [hc2] at i2
    clear hb hc1 hc2
    repeat' (first | refine aw_seq ?_ | refine aw_skip ?_ | refine aw_block ?_ | refine aw_exit ?_ | refine aw_cond rfl (fun _ => ?_) (fun hb => absurd hb (by decide)) | refine aw_cond rfl (fun hb => absurd hb (by decide)) (fun _ => ?_) | (refine aw_reg (fun K hK => ?_); simp -implicitDefEqProofs) | (refine aw_drw mixd (fun K hK => ?_); simp -implicitDefEqProofs) | refine hK _ ?_ | refine hK _ _ (by rfl) ?_ | (refine ar_call (cb g 0 ?_); simp -implicitDefEqProofs) | (refine ard_call (db g 0 ?_); simp -implicitDefEqProofs) | (refine ar_call (cb i1 0 ?_); simp -implicitDefEqProofs) | (refine ard_call (db i1 0 ?_); simp -implicitDefEqProofs) | (refine ar_call (cb i2 0 ?_); simp -implicitDefEqProofs) | (refine ard_call (db i2 0 ?_); simp -implicitDefEqProofs) | (refine ar_call (cb hbr 0 ?_); simp -implicitDefEqProofs) | (refine ard_call (db hbr 0 ?_); simp -implicitDefEqProofs) | fail)
    refine ⟨(_, _), nx, (by dsimp only; omega), ?_⟩; rw [hI]; exact cov_intro [0, 1, 2] (by simp -implicitDefEqProofs) (by simp -implicitDefEqProofs) (by decide) rfl (by simp)
  · rw [hc1] at i1
    clear hb hc1
    repeat' (first | refine aw_seq ?_ | refine aw_skip ?_ | refine aw_block ?_ | refine aw_exit ?_ | refine aw_cond rfl (fun _ => ?_) (fun hb => absurd hb (by decide)) | refine aw_cond rfl (fun hb => absurd hb (by decide)) (fun _ => ?_) | (refine aw_reg (fun K hK => ?_); simp -implicitDefEqProofs) | (refine aw_drw mixd (fun K hK => ?_); simp -implicitDefEqProofs) | refine hK _ ?_ | refine hK _ _ (by rfl) ?_ | (refine ar_call (cb g 0 ?_); simp -implicitDefEqProofs) | (refine ard_call (db g 0 ?_); simp -implicitDefEqProofs) | (refine ar_call (cb i1 0 ?_); simp -implicitDefEqProofs) | (refine ard_call (db i1 0 ?_); simp -implicitDefEqProofs) | (refine ar_call (cb i2 0 ?_); simp -implicitDefEqProofs) | (refine ard_call (db i2 0 ?_); simp -implicitDefEqProofs) | (refine ar_call (cb hbr 0 ?_); simp -implicitDefEqProofs) | (refine ard_call (db hbr 0 ?_); simp -implicitDefEqProofs) | fail)
    refine ⟨(_, _), nx, (by dsimp only; omega), ?_⟩; rw [hI]; exact cov_intro [0, 1, 2] (by simp -implicitDefEqProofs) (by simp -implicitDefEqProofs) (by decide) rfl (by simp)
end
end Go.Proofs.Ythcnligihpnfiaa.am
