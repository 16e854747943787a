import Derived.Test.YtlkggpjdaaglmaaGreatDoorPkB17
import Derived.Test.YtlkggpjdaaglmaaGreatDoorPkB16
section
namespace Go.Proofs.YtlkggpjdaaglmaaGreatDoor.am
open Go.ChangeShapes Go.WideShapes Go.ChangeAt Go.RowKit
open vt
set_option linter.unusedVariables false
set_option linter.unusedSimpArgs false
section
variable (ts : List Tok) (hl : ts.length ≤ 3000000000000)
def bhG (E : Nat → Got) (a : Nat) (x : Got) : Got :=
  if isK sOpen (nxt ts x.2.1) = true then
    if (E (x.2.1 + 1)).2.2 ≠ 0 then E (x.2.1 + 1)
    else if isK sShut (nxt ts (E (x.2.1 + 1)).2.1) = false then bad7 (E (x.2.1 + 1)).2.1
    else mk7 ts a ((E (x.2.1 + 1)).2.1 + 1) 12 0 ⟨#[]⟩ [x.1, (E (x.2.1 + 1)).1]
  else if (nxt ts (x.2.1 + 1)).k ≠ 1 then bad7 (x.2.1 + 1) else mk7 ts a (x.2.1 + 2) 13 0 (nxt ts (x.2.1 + 1)).s [x.1]
theorem lpP_err {E : Nat → Got} {a : Nat} {x : Got} (h : x.2.2 ≠ 0) (m : Nat) : lpP ts E a m x = x := by
  cases m
  · rfl
  · rw [lpP, if_pos h]
theorem lpP_end {E : Nat → Got} {a : Nat} {x : Got} (h1 : isK sOpen (nxt ts x.2.1) = false) (h2 : isK sDot (nxt ts x.2.1) = false) (m : Nat) : lpP ts E a m x = x := by
  cases m
  · rfl
  · rw [lpP]
    split
    · rfl
    · rw [if_neg (by simp [h1]), if_neg (by simp [h2])]
theorem lpP_step {E : Nat → Got} (hE : ∀ j, j ≤ ts.length → OkG ts j (E j)) {a : Nat} {x : Got} (h0 : x.2.2 = 0) (h : isK sOpen (nxt ts x.2.1) = true ∨ isK sDot (nxt ts x.2.1) = true) (m : Nat) : lpP ts E a (m + 1) x = lpP ts E a m (bhG ts E a x) := by
  rw [lpP, if_neg (by simp [h0])]
  unfold bhG
  by_cases h1 : isK sOpen (nxt ts x.2.1) = true
  · rw [if_pos h1, if_pos h1]
    by_cases h2 : (E (x.2.1 + 1)).2.2 = 0; rotate_left
    · rw [if_pos h2, if_pos h2, lpP_err ts h2]
    have n2 : ¬ (E (x.2.1 + 1)).2.2 ≠ 0 := fun hh => hh h2
    rw [if_neg n2, if_neg n2]
    by_cases h3 : isK sShut (nxt ts (E (x.2.1 + 1)).2.1) = false
    · rw [if_pos h3, if_pos h3, lpP_err ts (by simp [bad7])]
    · rw [if_neg h3, if_neg h3]
  · have h2 := h.resolve_left h1
    rw [if_neg h1, if_neg h1, if_pos h2]
    split
    · rw [lpP_err ts (by simp [bad7])]
    · rfl
theorem bh_ok {E : Nat → Got} (hE : ∀ j, j ≤ ts.length → OkG ts j (E j)) {a : Nat} {x : Got} (hx : OkG ts a x) (h0 : x.2.2 = 0) (h : isK sOpen (nxt ts x.2.1) = true ∨ isK sDot (nxt ts x.2.1) = true) : OkG ts a (bhG ts E a x) := by
  have := lpP_ok hE 1 x hx
  rwa [lpP_step ts hE h0 h, lpP] at this
structure InvP0 (i : Nat) (x : Nat × Got) : Prop where
  eq : lpP ts (Qx ts 1) i x.1 x.2 = Qx ts 7 i
  ok : OkG ts i x.2
  fuel : x.2.2.2 = 0 → ts.length < x.1 + x.2.2.1
include hl
set_option maxRecDepth 100000 in
set_option maxHeartbeats 4000000 in
theorem behind_row (a j : Nat) (px : Lab) (pl : List VT) (ha : a < j) (hj : j ≤ ts.length) (hb : isK sOpen (nxt ts j) = true ∨ isK sDot (nxt ts j) = true) (hE : ∀ i, j < i → i ≤ ts.length → PR 178 [] ts i (Qx ts 1 i)) : Row Tryz.prog 184 [vR, vI a, vT (.mk px pl)] [rd ts j 0] (vT (bhG ts (Qx ts 1) a (.mk px pl, j, 0)).1) [some (rd ts (bhG ts (Qx ts 1) a (.mk px pl, j, 0)).2.1 (bhG ts (Qx ts 1) a (.mk px pl, j, 0)).2.2)] := by
  unfold bhG
  dsimp only
  by_cases h1 : isK sOpen (nxt ts j) = true
  · rw [if_pos h1]
    have hlt := isK_lt h1
    have t := take_yes ts j sOpen (by decide) (by omega) h1
    obtain ⟨⟨tx, tl⟩, ht, hq⟩ := hE (j + 1) (by omega) (by omega)
    have hk := Q_ok (ts := ts) 1 (j + 1) (by omega)
    obtain ⟨⟨⟨rx, rl⟩, r2, r3⟩, hr⟩ : ∃ r, Qx ts 1 (j + 1) = r := ⟨_, rfl⟩
    rw [hr] at hq hk ht ⊢
    clear hr hE h1 hb
    by_cases hr3 : r3 = 0; rotate_left
    · rw [if_pos hr3]
      obtain ⟨h6, hz⟩ := hk.no hr3
      dsimp only at h6 hz
      rw [hz]
      subst h6
      have w2 := want_no ts r2 6 sShut (by decide) (.inl (by decide))
      rw [show er 6 = 6 from rfl] at w2
      have n := node_no ts r2 6 (by decide) a (.mk ⟨12, 0, ⟨#[]⟩, 0, 0⟩ [.mk px pl, .mk tx tl])
      clear hk ht hz
      refine row_of Tryz.func184 rfl rfl (Nat.le_of_ble_eq_true rfl) ?_
      repeat' (first | refine aw_seq ?_ | refine aw_skip ?_ | refine aw_block ?_ | refine aw_exit ?_ | refine aw_ct rfl ?_ | refine aw_cf rfl ?_ | ((first | refine aw_reg (fun K hK => ?_) | refine aw_drw mixd (fun K hK => ?_) | refine ar_call (cb t 0 ?_) | refine ard_call (db t 0 ?_) | refine ar_call (cb hq 0 ?_) | refine ard_call (db hq 0 ?_) | refine ar_call (cb w2 0 ?_) | refine ard_call (db w2 0 ?_) | refine ar_call (cb n 0 ?_) | refine ard_call (db n 0 ?_) | fail); simp -implicitDefEqProofs) | refine hK _ ?_ | refine hK _ _ (by rfl) ?_ | fail)
      refine aw_ret (fin_box ?_); simp -implicitDefEqProofs [FinB, resV, resT] <;> try rfl
    subst hr3
    rw [if_neg (by simp)]
    have hyy := hk.yes rfl
    replace ht := ht rfl
    dsimp only at hyy ht ⊢
    injection ht with ht1 ht2
    subst ht1 ht2
    by_cases e : isK sShut (nxt ts r2) = true; rotate_left
    · have e : isK sShut (nxt ts r2) = false := by simpa using e
      rw [if_pos e]
      have w2 := want_no ts r2 0 sShut (by decide) (.inr e)
      rw [show er 0 = 6 from rfl] at w2
      have n := node_no ts r2 6 (by decide) a (.mk ⟨12, 0, ⟨#[]⟩, 0, 0⟩ [.mk px pl, .mk tx tl])
      clear hk e
      refine row_of Tryz.func184 rfl rfl (Nat.le_of_ble_eq_true rfl) ?_
      repeat' (first | refine aw_seq ?_ | refine aw_skip ?_ | refine aw_block ?_ | refine aw_exit ?_ | refine aw_ct rfl ?_ | refine aw_cf rfl ?_ | ((first | refine aw_reg (fun K hK => ?_) | refine aw_drw mixd (fun K hK => ?_) | refine ar_call (cb t 0 ?_) | refine ard_call (db t 0 ?_) | refine ar_call (cb hq 0 ?_) | refine ard_call (db hq 0 ?_) | refine ar_call (cb w2 0 ?_) | refine ard_call (db w2 0 ?_) | refine ar_call (cb n 0 ?_) | refine ard_call (db n 0 ?_) | fail); simp -implicitDefEqProofs) | refine hK _ ?_ | refine hK _ _ (by rfl) ?_ | fail)
      refine aw_ret (fin_box ?_); simp -implicitDefEqProofs [FinB, resV, resT, bad7] <;> try rfl
    rw [if_neg (by simp [e])]
    have hlt2 := isK_lt e
    have w2 := want_yes ts r2 sShut (by decide) (by omega) e
    have n := node_yes ts (r2 + 1) a ⟨12, 0, ⟨#[]⟩, 0, 0⟩ [.mk px pl, .mk tx tl] (by omega) (by omega) (by omega) (by omega)
    clear hk e
    refine row_of Tryz.func184 rfl rfl (Nat.le_of_ble_eq_true rfl) ?_
    repeat' (first | refine aw_seq ?_ | refine aw_skip ?_ | refine aw_block ?_ | refine aw_exit ?_ | refine aw_ct rfl ?_ | refine aw_cf rfl ?_ | ((first | refine aw_reg (fun K hK => ?_) | refine aw_drw mixd (fun K hK => ?_) | refine ar_call (cb t 0 ?_) | refine ard_call (db t 0 ?_) | refine ar_call (cb hq 0 ?_) | refine ard_call (db hq 0 ?_) | refine ar_call (cb w2 0 ?_) | refine ard_call (db w2 0 ?_) | refine ar_call (cb n 0 ?_) | refine ard_call (db n 0 ?_) | fail); simp -implicitDefEqProofs) | refine hK _ ?_ | refine hK _ _ (by rfl) ?_ | fail)
    refine aw_ret (fin_box ?_); simp -implicitDefEqProofs [FinB, resV, resT, mk7] <;> try rfl
  rw [if_neg h1]
  have h2 := hb.resolve_left h1
  have t := take_no ts j 0 sOpen (by decide) (.inr (by simpa using h1))
  have w := want_yes ts j sDot (by decide) (by omega) h2
  have hlt := isK_lt h2
  clear h1 h2 hb hE
  by_cases h : (nxt ts (j + 1)).k = 1; rotate_left
  · rw [if_pos h]
    have k1 := kind_no ts (j + 1) 0 1 (.inr h)
    have n := node_no ts (j + 1) 6 (by decide) a (.mk ⟨13, 0, ⟨#[]⟩, 0, 0⟩ [.mk px pl])
    rw [show er 0 = 6 from rfl] at k1
    clear h
    refine row_of Tryz.func184 rfl rfl (Nat.le_of_ble_eq_true rfl) ?_
    repeat' (first | refine aw_seq ?_ | refine aw_skip ?_ | refine aw_block ?_ | refine aw_exit ?_ | refine aw_ct rfl ?_ | refine aw_cf rfl ?_ | ((first | refine aw_reg (fun K hK => ?_) | refine aw_drw mixd (fun K hK => ?_) | refine ar_call (cb t 0 ?_) | refine ard_call (db t 0 ?_) | refine ar_call (cb w 0 ?_) | refine ard_call (db w 0 ?_) | refine ar_call (cb k1 0 ?_) | refine ard_call (db k1 0 ?_) | refine ar_call (cb n 0 ?_) | refine ard_call (db n 0 ?_) | fail); simp -implicitDefEqProofs [zK]) | refine hK _ ?_ | refine hK _ _ (by rfl) ?_ | fail)
    refine aw_ret (fin_box ?_); simp -implicitDefEqProofs [FinB, resV, resT, bad7] <;> try rfl
  rw [if_neg (by simp [h])]
  obtain ⟨x, hx, hxn, hxk⟩ := kind_at h (by decide)
  have hlt2 := (List.getElem?_eq_some_iff.1 hx).1
  rw [hxn]
  have k1 := kind_yes ts (j + 1) 1 x (by omega) hx hxk
  obtain ⟨xk, xn, xs, xf, xt⟩ := x
  dsimp only at hxk
  subst hxk
  clear hxn hx h
  have n := node_yes ts (j + 1 + 1) a ⟨13, 0, xs, 0, 0⟩ [.mk px pl] (by omega) (by omega) (by omega) (by omega)
  refine row_of Tryz.func184 rfl rfl (Nat.le_of_ble_eq_true rfl) ?_
  repeat' (first | refine aw_seq ?_ | refine aw_skip ?_ | refine aw_block ?_ | refine aw_exit ?_ | refine aw_ct rfl ?_ | refine aw_cf rfl ?_ | ((first | refine aw_reg (fun K hK => ?_) | refine aw_drw mixd (fun K hK => ?_) | refine ar_call (cb t 0 ?_) | refine ard_call (db t 0 ?_) | refine ar_call (cb w 0 ?_) | refine ard_call (db w 0 ?_) | refine ar_call (cb k1 0 ?_) | refine ard_call (db k1 0 ?_) | refine ar_call (cb n 0 ?_) | refine ard_call (db n 0 ?_) | fail); simp -implicitDefEqProofs) | refine hK _ ?_ | refine hK _ _ (by rfl) ?_ | fail)
  refine aw_ret (fin_box ?_); simp -implicitDefEqProofs [FinB, resV, resT, mk7] <;> try rfl
set_option maxRecDepth 100000 in
set_option maxHeartbeats 4000000 in
theorem ppost_step (i : Nat) (hi : i ≤ ts.length) (h8 : PR 183 [] ts i (Qx ts 8 i)) (hE : ∀ j, i < j → j ≤ ts.length → PR 178 [] ts j (Qx ts 1 j)) : PR 182 [] ts i (Qx ts 7 i) := by
  have h0 : Qx ts 7 i = lpP ts (Qx ts 1) i (ts.length + 1) (Qx ts 8 i) := by
    rw [Q_eq 7 i (by decide) (by decide) hi]; unfold bG; rw [if_neg (by decide), if_neg (by decide), if_pos rfl]
  have ho := Q_ok (ts := ts) 8 i hi
  have p := place_row ts i 0
  obtain ⟨⟨tx, tl⟩, ht, hq⟩ := h8
  obtain ⟨⟨⟨ax, al⟩, a2, a3⟩, hr⟩ : ∃ r, Qx ts 8 i = r := ⟨_, rfl⟩
  rw [hr] at hq ht h0 ho
  by_cases ha3 : a3 = 0; rotate_left
  · rw [h0, lpP_err ts ha3]
    have g := goes_row ts a2 a3
    refine ⟨.mk tx tl, ht, ?_⟩
    clear ht hr h0 hE ho
    refine row_of Tryz.func182 rfl rfl (Nat.le_of_ble_eq_true rfl) ?_
    repeat' (first | refine aw_seq ?_ | refine aw_skip ?_ | refine aw_block ?_ | refine aw_exit ?_ | refine aw_ct rfl ?_ | refine aw_cf rfl ?_ | ((first | refine aw_reg (fun K hK => ?_) | refine aw_drw mixd (fun K hK => ?_) | refine ar_call (cb p 0 ?_) | refine ard_call (db p 0 ?_) | refine ar_call (cb hq 0 ?_) | refine ard_call (db hq 0 ?_) | fail); simp -implicitDefEqProofs) | refine hK _ ?_ | refine hK _ _ (by rfl) ?_ | fail)
    refine aw_lp (ι := Unit) (fun _ => mkSt [(0, vR), (2, .v (.c (.ptr 1 0))), (4, .v (.c (.ptr 2 0)))] [some (rd ts a2 a3), some zT, some (.box ((tc (.mk tx tl)).map .pv))]) (fun _ => True) (fun _ => 0) () trivial (cov_intro [0, 1, 23] (by simp -implicitDefEqProofs) (by simp -implicitDefEqProofs) (by decide) rfl (by simp)) (fun Z hI _ _ => ?_)
    repeat' (first | refine aw_seq ?_ | refine aw_skip ?_ | refine aw_block ?_ | refine aw_exit ?_ | refine aw_ct rfl ?_ | refine aw_cf rfl ?_ | ((first | refine aw_reg (fun K hK => ?_) | refine aw_drw mixd (fun K hK => ?_) | refine ar_call (cb g 0 ?_) | refine ard_call (db g 0 ?_) | fail); simp -implicitDefEqProofs [ha3]) | refine hK _ ?_ | refine hK _ _ (by rfl) ?_ | fail)
    refine aw_ret (fin_box ?_); simp -implicitDefEqProofs [FinB, resV, resT] <;> try rfl
  subst ha3
  replace ht := ht rfl
  dsimp only at ht
  injection ht with ht1 ht2
  subst ht1 ht2
  refine ⟨(Qx ts 7 i).1, fun _ => rfl, ?_⟩
  have h1 : InvP0 ts i (ts.length + 1, (.mk tx tl, a2, 0)) := ⟨h0.symm, ho, fun _ => by dsimp only; omega⟩
  clear h0 hr
  refine row_of Tryz.func182 rfl rfl (Nat.le_of_ble_eq_true rfl) ?_
  repeat' (first | refine aw_seq ?_ | refine aw_skip ?_ | refine aw_block ?_ | refine aw_exit ?_ | refine aw_ct rfl ?_ | refine aw_cf rfl ?_ | ((first | refine aw_reg (fun K hK => ?_) | refine aw_drw mixd (fun K hK => ?_) | refine ar_call (cb p 0 ?_) | refine ard_call (db p 0 ?_) | refine ar_call (cb hq 0 ?_) | refine ard_call (db hq 0 ?_) | fail); simp -implicitDefEqProofs) | refine hK _ ?_ | refine hK _ _ (by rfl) ?_ | fail)
  refine aw_lp (ι := Nat × Got) (fun x => mkSt [(0, vR), (2, .v (.c (.ptr 1 0))), (3, vI i), (4, .v (.c (.ptr 2 0)))] [some (rd ts x.2.2.1 x.2.2.2), some zT, some (.box ((tc x.2.1).map .pv))]) (InvP0 ts i) (fun x => x.1) (ts.length + 1, (.mk tx tl, a2, 0)) h1 (cov_intro [0, 1, 23] (by simp -implicitDefEqProofs) (by simp -implicitDefEqProofs) (by decide) rfl (by simp)) (fun Z hI x hx => ?_)
  clear h1 hq ho
  obtain ⟨m, ⟨⟨px, pl⟩, j, e⟩⟩ := x
  obtain ⟨x1, x2, x3⟩ := hx
  dsimp only at x1 x2 x3 ⊢
  have g := goes_row ts j e
  by_cases he : e = 0; rotate_left
  · rw [lpP_err ts he] at x1
    rw [← x1]
    clear x1 hE x2 x3
    repeat' (first | refine aw_seq ?_ | refine aw_skip ?_ | refine aw_block ?_ | refine aw_exit ?_ | refine aw_ct rfl ?_ | refine aw_cf rfl ?_ | ((first | refine aw_reg (fun K hK => ?_) | refine aw_drw mixd (fun K hK => ?_) | refine ar_call (cb g 0 ?_) | refine ard_call (db g 0 ?_) | fail); simp -implicitDefEqProofs [he]) | refine hK _ ?_ | refine hK _ _ (by rfl) ?_ | fail)
    refine aw_ret (fin_box ?_); simp -implicitDefEqProofs [FinB, resV, resT] <;> try rfl
  subst he
  have x3 := x3 rfl
  have hy := x2.yes rfl
  dsimp only at hy
  have i1 := is7_row ts j 0 sOpen (by decide)
  have i2 := is7_row ts j 0 sDot (by decide)
  by_cases hb : isK sOpen (nxt ts j) = true ∨ isK sDot (nxt ts j) = true; rotate_left
  · rw [not_or] at hb
    have b1 : isK sOpen (nxt ts j) = false := by simpa using hb.1
    have b2 : isK sDot (nxt ts j) = false := by simpa using hb.2
    rw [lpP_end ts b1 b2] at x1
    rw [← x1]
    rw [b1] at i1
    rw [b2] at i2
    clear x1 hE x2 hb b1 b2
    repeat' (first | refine aw_seq ?_ | refine aw_skip ?_ | refine aw_block ?_ | refine aw_exit ?_ | refine aw_ct rfl ?_ | refine aw_cf rfl ?_ | ((first | refine aw_reg (fun K hK => ?_) | refine aw_drw mixd (fun K hK => ?_) | refine ar_call (cb g 0 ?_) | refine ard_call (db g 0 ?_) | refine ar_call (cb i1 0 ?_) | refine ard_call (db i1 0 ?_) | refine ar_call (cb i2 0 ?_) | refine ard_call (db i2 0 ?_) | fail); simp -implicitDefEqProofs) | refine hK _ ?_ | refine hK _ _ (by rfl) ?_ | fail)
    refine aw_ret (fin_box ?_); simp -implicitDefEqProofs [FinB, resV, resT] <;> try rfl
  obtain ⟨m, rfl⟩ : ∃ m', m = m' + 1 := ⟨m - 1, by omega⟩
  rw [lpP_step ts (Q_ok (ts := ts) 1) rfl hb] at x1
  have hk := bh_ok ts (Q_ok (ts := ts) 1) x2 rfl hb
  have hbr := behind_row ts hl i j px pl (by omega) hy.2 hb (fun k h1 h2 => hE k (by omega) h2)
  obtain ⟨⟨⟨rx, rl⟩, r2, r3⟩, hr⟩ : ∃ r, bhG ts (Qx ts 1) i (.mk px pl, j, 0) = r := ⟨_, rfl⟩
  have hgt : (bhG ts (Qx ts 1) i (.mk px pl, j, 0)).2.2 = 0 → j < (bhG ts (Qx ts 1) i (.mk px pl, j, 0)).2.1 := by
    unfold bhG
    dsimp only
    split
    · rename_i h4
      have hlt := isK_lt h4
      have hq := Q_ok (ts := ts) 1 (j + 1) (by omega)
      split
      · rename_i h5; exact fun h => absurd h h5
      · rename_i h5
        have := hq.yes (by simpa using h5)
        split
        · intro h; simp [bad7] at h
        · intro h; simp only [mk7]; omega
    · split
      · intro h; simp [bad7] at h
      · intro h; simp only [mk7]; omega
  rw [hr] at hbr hk x1 hgt
  have nx : InvP0 ts i (m, (.mk rx rl, r2, r3)) := ⟨x1, hk, fun h => by have := hgt h; dsimp only at this ⊢; omega⟩
  clear x1 hE x2 hk hr hgt
  rcases hc1 : isK sOpen (nxt ts j) with _ | _
  · have hc2 : isK sDot (nxt ts j) = true := by rw [hc1] at hb; simpa using hb
    rw [hc1] at i1
    rw [hc2] at i2
    clear hb hc1 hc2
    repeat' (first | refine aw_seq ?_ | refine aw_skip ?_ | refine aw_block ?_ | refine aw_exit ?_ | refine aw_ct rfl ?_ | refine aw_cf rfl ?_ | ((first | refine aw_reg (fun K hK => ?_) | refine aw_drw mixd (fun K hK => ?_) | refine ar_call (cb g 0 ?_) | refine ard_call (db g 0 ?_) | refine ar_call (cb i1 0 ?_) | refine ard_call (db i1 0 ?_) | refine ar_call (cb i2 0 ?_) | refine ard_call (db i2 0 ?_) | refine ar_call (cb hbr 0 ?_) | refine ard_call (db hbr 0 ?_) | fail); simp -implicitDefEqProofs) | refine hK _ ?_ | refine hK _ _ (by rfl) ?_ | fail)
    refine ⟨(_, _), nx, (by dsimp only; omega), ?_⟩; rw [hI]; exact cov_intro [0, 1, 2] (by simp -implicitDefEqProofs) (by simp -implicitDefEqProofs) (by decide) rfl (by simp)
  · rw [hc1] at i1
    clear hb hc1
    repeat' (first | refine aw_seq ?_ | refine aw_skip ?_ | refine aw_block ?_ | refine aw_exit ?_ | refine aw_ct rfl ?_ | refine aw_cf rfl ?_ | ((first | refine aw_reg (fun K hK => ?_) | refine aw_drw mixd (fun K hK => ?_) | refine ar_call (cb g 0 ?_) | refine ard_call (db g 0 ?_) | refine ar_call (cb i1 0 ?_) | refine ard_call (db i1 0 ?_) | refine ar_call (cb i2 0 ?_) | refine ard_call (db i2 0 ?_) | refine ar_call (cb hbr 0 ?_) | refine ard_call (db hbr 0 ?_) | fail); simp -implicitDefEqProofs) | refine hK _ ?_ | refine hK _ _ (by rfl) ?_ | fail)
    refine ⟨(_, _), nx, (by dsimp only; omega), ?_⟩; rw [hI]; exact cov_intro [0, 1, 2] (by simp -implicitDefEqProofs) (by simp -implicitDefEqProofs) (by decide) rfl (by simp)
end
end Go.Proofs.YtlkggpjdaaglmaaGreatDoor.am
end
section
namespace Go.Proofs.YtlkggpjdaaglmaaGreatDoor.am
open Go.ChangeShapes Go.WideShapes Go.ChangeAt Go.RowKit
open vt
set_option linter.unusedVariables false
set_option linter.unusedSimpArgs false
section
variable (ts : List Tok)
def dn (i l : Nat) : Nat → Got → Got
  | 0, x => x
  | k + 1, x => dn i l k (lpL ts (Qx ts (l + k + 1)) (l + k) i (ts.length + 1) false x)
theorem dn_full {i l : Nat} (h1 : 1 ≤ l) (hi : i ≤ ts.length) : ∀ k, l + k ≤ 6 → dn ts i l k (Qx ts (l + k) i) = Qx ts l i
  | 0, _ => rfl
  | k + 1, h => by
    show dn ts i l k (lpL ts (Qx ts (l + k + 1)) (l + k) i (ts.length + 1) false (Qx ts (l + k + 1) i)) = _
    rw [← dn_full h1 hi k (by omega), Q_eq (l + k) i (by omega) (by omega) hi]
    unfold bG
    rw [if_pos (by omega)]
theorem lpL_err {P : Nat → Got} {l a : Nat} {x : Got} (h : x.2.2 ≠ 0) (m : Nat) (t : Bool) : lpL ts P l a m t x = x := by
  cases m
  · rfl
  · rw [lpL, if_pos h]
theorem lpL_end {P : Nat → Got} {l a : Nat} {x : Got} (h : (opK (nxt ts x.2.1)).2 ≠ l) (m : Nat) (t : Bool) : lpL ts P l a m t x = x := by
  cases m
  · rfl
  · rw [lpL]
    split
    · rfl
    · rw [if_pos (.inl h)]
theorem dn_err {i l : Nat} {x : Got} (h : x.2.2 ≠ 0) : ∀ k, dn ts i l k x = x
  | 0 => rfl
  | k + 1 => by rw [dn, lpL_err ts h, dn_err h k]
theorem dn_end {i l : Nat} {x : Got} : ∀ k, ((opK (nxt ts x.2.1)).2 < l ∨ l + k ≤ (opK (nxt ts x.2.1)).2) → dn ts i l k x = x
  | 0, _ => rfl
  | k + 1, h => by rw [dn, lpL_end ts (by omega), dn_end k (by omega)]
theorem lpL_irr {P : Nat → Got} {l a : Nat} (h5 : l ≤ 5) (h3 : l ≠ 3) (hP : ∀ j, j ≤ ts.length → OkG ts j (P j)) : ∀ (m m' : Nat) (t t' : Bool) (x : Got), OkG ts a x → (x.2.2 = 0 → ts.length < m + x.2.1) → (x.2.2 = 0 → ts.length < m' + x.2.1) → lpL ts P l a m t x = lpL ts P l a m' t' x
  | 0, m', t, t', x, hx, h, h' => by
    by_cases h0 : x.2.2 = 0
    · have := h h0; have := (hx.yes h0).2; omega
    · rw [lpL_err ts h0, lpL_err ts h0]
  | m + 1, 0, t, t', x, hx, h, h' => by
    by_cases h0 : x.2.2 = 0
    · have := h' h0; have := (hx.yes h0).2; omega
    · rw [lpL_err ts h0, lpL_err ts h0]
  | m + 1, m' + 1, t, t', x, hx, h, h' => by
    by_cases h0 : x.2.2 = 0; rotate_left
    · rw [lpL_err ts h0, lpL_err ts h0]
    by_cases ho : (opK (nxt ts x.2.1)).2 = l; rotate_left
    · rw [lpL_end ts ho, lpL_end ts ho]
    have hlt := op_lt ho h5
    have hp := hP (x.2.1 + 1) (by omega)
    have hy := hx.yes h0
    have n0 : ¬ x.2.2 ≠ 0 := fun hh => hh h0
    have n1 : ∀ t : Bool, ¬ ((opK (nxt ts x.2.1)).2 ≠ l ∨ (l = 3 ∧ t = true)) := fun t hh => hh.elim (fun hh => hh ho) (fun hh => h3 hh.1)
    rw [lpL, lpL, if_neg n0, if_neg n0, if_neg (n1 t), if_neg (n1 t')]
    by_cases h2 : (P (x.2.1 + 1)).2.2 ≠ 0
    · rw [if_pos h2, if_pos h2]
    · rw [if_neg h2, if_neg h2]
      have := hp.yes (by simpa using h2)
      have := h h0
      have := h' h0
      exact lpL_irr h5 h3 hP m m' true true _ (ok_mk (by omega) (by omega)) (fun _ => by simp only [mk7]; omega) (fun _ => by simp only [mk7]; omega)
def goG (i l0 : Nat) (x : Got) : Got := if (Qx ts (l0 + 1) (x.2.1 + 1)).2.2 ≠ 0 then Qx ts (l0 + 1) (x.2.1 + 1) else mk7 ts i (Qx ts (l0 + 1) (x.2.1 + 1)).2.1 10 (opK (nxt ts x.2.1)).1 ⟨#[]⟩ [x.1, (Qx ts (l0 + 1) (x.2.1 + 1)).1]
theorem go_ok {i l0 : Nat} {x : Got} (h5 : l0 ≤ 5) (hx : OkG ts i x) (h0 : x.2.2 = 0) (ho : (opK (nxt ts x.2.1)).2 = l0) : OkG ts i (goG ts i l0 x) := by
  have hlt := op_lt ho h5
  have hp := Q_ok (ts := ts) (l0 + 1) (x.2.1 + 1) (by omega)
  have hy := hx.yes h0
  unfold goG
  split
  · rename_i h2
    exact ⟨fun h => absurd h h2, hp.no, fun _ => by have := hp.le (by omega); omega⟩
  · rename_i h2
    have := hp.yes (by simpa using h2)
    exact ok_mk (by omega) this.2
theorem dn_go {i l l0 : Nat} {x : Got} (h5 : l0 ≤ 5) (hx : OkG ts i x) (h0 : x.2.2 = 0) (ho : (opK (nxt ts x.2.1)).2 = l0) (hl0 : l ≤ l0) : ∀ k, l0 < l + k → l + k ≤ 6 → dn ts i l k x = dn ts i l (if l0 = 3 then 3 - l else l0 + 1 - l) (goG ts i l0 x)
  | 0, h, _ => by omega
  | k + 1, h, hk => by
    by_cases he : l + k = l0; rotate_left
    · rw [dn, lpL_end ts (by omega)]
      exact dn_go h5 hx h0 ho hl0 k (by omega) (by omega)
    have hlt := op_lt ho h5
    have hg := go_ok ts h5 hx h0 ho
    have hp := Q_ok (ts := ts) (l0 + 1) (x.2.1 + 1) (by omega)
    have hy := hx.yes h0
    have n0 : ¬ x.2.2 ≠ 0 := fun hh => hh h0
    have n1 : ¬ ((opK (nxt ts x.2.1)).2 ≠ l0 ∨ (l0 = 3 ∧ false = true)) := fun hh => hh.elim (fun hh => hh ho) (fun hh => by cases hh.2)
    rw [dn, he, lpL, if_neg n0, if_neg n1]
    by_cases h2 : (Qx ts (l0 + 1) (x.2.1 + 1)).2.2 ≠ 0
    · rw [if_pos h2]
      have hgg : goG ts i l0 x = Qx ts (l0 + 1) (x.2.1 + 1) := by unfold goG; rw [if_pos h2]
      rw [hgg, dn_err ts h2, dn_err ts h2]
    · rw [if_neg h2]
      have hgg : goG ts i l0 x = mk7 ts i (Qx ts (l0 + 1) (x.2.1 + 1)).2.1 10 (opK (nxt ts x.2.1)).1 ⟨#[]⟩ [x.1, (Qx ts (l0 + 1) (x.2.1 + 1)).1] := by unfold goG; rw [if_neg h2]
      have hpy := hp.yes (by simpa using h2)
      rw [hgg] at hg ⊢
      obtain ⟨y, hye⟩ : ∃ y, mk7 ts i (Qx ts (l0 + 1) (x.2.1 + 1)).2.1 10 (opK (nxt ts x.2.1)).1 ⟨#[]⟩ [x.1, (Qx ts (l0 + 1) (x.2.1 + 1)).1] = y := ⟨_, rfl⟩
      have hy2 : y.2.1 = (Qx ts (l0 + 1) (x.2.1 + 1)).2.1 := by rw [← hye]; rfl
      rw [hye] at hg ⊢
      by_cases h3 : l0 = 3
      · rw [if_pos h3]
        have hs : lpL ts (Qx ts (l0 + 1)) l0 i ts.length true y = y := by
          cases ts.length with
          | zero => rfl
          | succ n =>
            rw [lpL]
            split
            · rfl
            · rw [if_pos (.inr ⟨h3, rfl⟩)]
        rw [hs, show 3 - l = k by omega]
      · rw [if_neg h3, show l0 + 1 - l = k + 1 by omega, dn, he]
        rw [lpL_irr ts h5 h3 (Q_ok (ts := ts) (l0 + 1)) ts.length (ts.length + 1) true false y hg (fun _ => by omega) (fun _ => by omega)]
structure InvN (l i : Nat) (x : Nat × Got) : Prop where
  eq : dn ts i l (x.1 + 1 - l) x.2 = Qx ts l i
  ok : OkG ts i x.2
  most : x.1 ≤ 5 ∧ l ≤ x.1 + 1
variable (hl : ts.length ≤ 3000000000000)
include hl
set_option maxRecDepth 100000 in
set_option maxHeartbeats 4000000 in
theorem pun_step (i : Nat) (hi : i ≤ ts.length) (h7 : PR 182 [] ts i (Qx ts 7 i)) (h6 : i < ts.length → PR 180 [] ts (i + 1) (Qx ts 6 (i + 1))) : PR 180 [] ts i (Qx ts 6 i) := by
  rw [Q_eq 6 i (by decide) (by decide) hi]
  have p := place_row ts i 0
  have main : ∀ (u : Int), u ≠ 0 → unN ts i = u → i < ts.length → (bG ts (Qx ts) 6 i = if (Qx ts 6 (i + 1)).2.2 ≠ 0 then Qx ts 6 (i + 1) else mk7 ts i (Qx ts 6 (i + 1)).2.1 11 u ⟨#[]⟩ [(Qx ts 6 (i + 1)).1]) := fun u hu h hlt => by
    unfold bG; rw [if_neg (by decide), if_pos rfl, h, if_neg hu]
  have hk := Q_ok (ts := ts) 6 (i + 1)
  by_cases e1 : isK sMin (nxt ts i) = true
  · have hlt := isK_lt e1
    have t1 := take_yes ts i sMin (by decide) (by omega) e1
    rw [main 1 (by decide) (by unfold unN; rw [if_neg (by simp [isK_no e1 (b := sNot) (by decide)]), if_pos e1]) hlt]
    obtain ⟨⟨tx, tl⟩, ht, hq⟩ := h6 hlt
    replace hk := hk (by omega)
    obtain ⟨⟨⟨px, pl⟩, j, e⟩, hr⟩ : ∃ r, Qx ts 6 (i + 1) = r := ⟨_, rfl⟩
    rw [hr] at hq ht hk ⊢
    clear main e1 hr h7 h6
    by_cases he : e = 0
    · subst he
      have hy := hk.yes rfl
      replace ht := ht rfl
      dsimp only at hy ht
      injection ht with ht1 ht2
      subst ht1 ht2
      rw [if_neg (by simp)]
      have n := node_yes ts j i ⟨11, 1, ⟨#[]⟩, 0, 0⟩ [.mk tx tl] hlt (by omega) hy.2 (by omega)
      refine ⟨_, fun _ => rfl, ?_⟩
      clear hk
      refine row_of Tryz.func180 rfl rfl (Nat.le_of_ble_eq_true rfl) ?_
      repeat' (first | refine aw_seq ?_ | refine aw_skip ?_ | refine aw_block ?_ | refine aw_exit ?_ | refine aw_ct rfl ?_ | refine aw_cf rfl ?_ | ((first | refine aw_reg (fun K hK => ?_) | refine aw_drw mixd (fun K hK => ?_) | refine ar_call (cb p 0 ?_) | refine ard_call (db p 0 ?_) | refine ar_call (cb t1 0 ?_) | refine ard_call (db t1 0 ?_) | refine ar_call (cb hq 0 ?_) | refine ard_call (db hq 0 ?_) | refine ar_call (cb n 0 ?_) | refine ard_call (db n 0 ?_) | fail); simp -implicitDefEqProofs) | refine hK _ ?_ | refine hK _ _ (by rfl) ?_ | fail)
      refine aw_ret (fin_box ?_); simp -implicitDefEqProofs [FinB, resV, resT, mk7] <;> try rfl
    · rw [if_pos he]
      obtain ⟨h6, hz⟩ := hk.no he
      dsimp only at h6 hz
      subst h6
      have n := node_no ts j 6 (by decide) i (.mk ⟨11, 1, ⟨#[]⟩, 0, 0⟩ [.mk tx tl])
      refine ⟨z0, fun h => by simp at h, ?_⟩
      clear hk ht hz
      refine row_of Tryz.func180 rfl rfl (Nat.le_of_ble_eq_true rfl) ?_
      repeat' (first | refine aw_seq ?_ | refine aw_skip ?_ | refine aw_block ?_ | refine aw_exit ?_ | refine aw_ct rfl ?_ | refine aw_cf rfl ?_ | ((first | refine aw_reg (fun K hK => ?_) | refine aw_drw mixd (fun K hK => ?_) | refine ar_call (cb p 0 ?_) | refine ard_call (db p 0 ?_) | refine ar_call (cb t1 0 ?_) | refine ard_call (db t1 0 ?_) | refine ar_call (cb hq 0 ?_) | refine ard_call (db hq 0 ?_) | refine ar_call (cb n 0 ?_) | refine ard_call (db n 0 ?_) | fail); simp -implicitDefEqProofs) | refine hK _ ?_ | refine hK _ _ (by rfl) ?_ | fail)
      refine aw_ret (fin_box ?_); simp -implicitDefEqProofs [FinB, resV, resT] <;> try rfl
  have e1 : isK sMin (nxt ts i) = false := by simpa using e1
  have t1 := take_no ts i 0 sMin (by decide) (.inr e1)
  by_cases e2 : isK sNot (nxt ts i) = true
  · have hlt := isK_lt e2
    have t2 := take_yes ts i sNot (by decide) (by omega) e2
    rw [main 2 (by decide) (by unfold unN; rw [if_pos e2]) hlt]
    obtain ⟨⟨tx, tl⟩, ht, hq⟩ := h6 hlt
    replace hk := hk (by omega)
    obtain ⟨⟨⟨px, pl⟩, j, e⟩, hr⟩ : ∃ r, Qx ts 6 (i + 1) = r := ⟨_, rfl⟩
    rw [hr] at hq ht hk ⊢
    clear main e1 e2 hr h7 h6
    by_cases he : e = 0
    · subst he
      have hy := hk.yes rfl
      replace ht := ht rfl
      dsimp only at hy ht
      injection ht with ht1 ht2
      subst ht1 ht2
      rw [if_neg (by simp)]
      have n := node_yes ts j i ⟨11, 2, ⟨#[]⟩, 0, 0⟩ [.mk tx tl] hlt (by omega) hy.2 (by omega)
      refine ⟨_, fun _ => rfl, ?_⟩
      clear hk
      refine row_of Tryz.func180 rfl rfl (Nat.le_of_ble_eq_true rfl) ?_
      repeat' (first | refine aw_seq ?_ | refine aw_skip ?_ | refine aw_block ?_ | refine aw_exit ?_ | refine aw_ct rfl ?_ | refine aw_cf rfl ?_ | ((first | refine aw_reg (fun K hK => ?_) | refine aw_drw mixd (fun K hK => ?_) | refine ar_call (cb p 0 ?_) | refine ard_call (db p 0 ?_) | refine ar_call (cb t1 0 ?_) | refine ard_call (db t1 0 ?_) | refine ar_call (cb t2 0 ?_) | refine ard_call (db t2 0 ?_) | refine ar_call (cb hq 0 ?_) | refine ard_call (db hq 0 ?_) | refine ar_call (cb n 0 ?_) | refine ard_call (db n 0 ?_) | fail); simp -implicitDefEqProofs) | refine hK _ ?_ | refine hK _ _ (by rfl) ?_ | fail)
      refine aw_ret (fin_box ?_); simp -implicitDefEqProofs [FinB, resV, resT, mk7] <;> try rfl
    · rw [if_pos he]
      obtain ⟨h6, hz⟩ := hk.no he
      dsimp only at h6 hz
      subst h6
      have n := node_no ts j 6 (by decide) i (.mk ⟨11, 2, ⟨#[]⟩, 0, 0⟩ [.mk tx tl])
      refine ⟨z0, fun h => by simp at h, ?_⟩
      clear hk ht hz
      refine row_of Tryz.func180 rfl rfl (Nat.le_of_ble_eq_true rfl) ?_
      repeat' (first | refine aw_seq ?_ | refine aw_skip ?_ | refine aw_block ?_ | refine aw_exit ?_ | refine aw_ct rfl ?_ | refine aw_cf rfl ?_ | ((first | refine aw_reg (fun K hK => ?_) | refine aw_drw mixd (fun K hK => ?_) | refine ar_call (cb p 0 ?_) | refine ard_call (db p 0 ?_) | refine ar_call (cb t1 0 ?_) | refine ard_call (db t1 0 ?_) | refine ar_call (cb t2 0 ?_) | refine ard_call (db t2 0 ?_) | refine ar_call (cb hq 0 ?_) | refine ard_call (db hq 0 ?_) | refine ar_call (cb n 0 ?_) | refine ard_call (db n 0 ?_) | fail); simp -implicitDefEqProofs) | refine hK _ ?_ | refine hK _ _ (by rfl) ?_ | fail)
      refine aw_ret (fin_box ?_); simp -implicitDefEqProofs [FinB, resV, resT] <;> try rfl
  have e2 : isK sNot (nxt ts i) = false := by simpa using e2
  have t2 := take_no ts i 0 sNot (by decide) (.inr e2)
  rw [show bG ts (Qx ts) 6 i = Qx ts 7 i by unfold bG; rw [if_neg (by decide), if_pos rfl, if_pos (by unfold unN; simp [e1, e2])]]
  obtain ⟨⟨tx, tl⟩, ht, hq⟩ := h7
  obtain ⟨⟨⟨px, pl⟩, j, e⟩, hr⟩ : ∃ r, Qx ts 7 i = r := ⟨_, rfl⟩
  rw [hr] at hq ht ⊢
  refine ⟨.mk tx tl, ht, ?_⟩
  clear main e1 e2 hr hk h6 ht
  refine row_of Tryz.func180 rfl rfl (Nat.le_of_ble_eq_true rfl) ?_
  repeat' (first | refine aw_seq ?_ | refine aw_skip ?_ | refine aw_block ?_ | refine aw_exit ?_ | refine aw_ct rfl ?_ | refine aw_cf rfl ?_ | ((first | refine aw_reg (fun K hK => ?_) | refine aw_drw mixd (fun K hK => ?_) | refine ar_call (cb p 0 ?_) | refine ard_call (db p 0 ?_) | refine ar_call (cb t1 0 ?_) | refine ard_call (db t1 0 ?_) | refine ar_call (cb t2 0 ?_) | refine ard_call (db t2 0 ?_) | refine ar_call (cb hq 0 ?_) | refine ard_call (db hq 0 ?_) | fail); simp -implicitDefEqProofs) | refine hK _ ?_ | refine hK _ _ (by rfl) ?_ | fail)
  refine aw_ret (fin_box ?_); simp -implicitDefEqProofs [FinB, resV, resT] <;> try rfl
set_option maxRecDepth 100000 in
set_option maxHeartbeats 4000000 in
theorem pline_step (l : Nat) (h1 : 1 ≤ l) (h6 : l ≤ 6) (i : Nat) (hi : i ≤ ts.length) (hu : PR 180 [] ts i (Qx ts 6 i)) (hP : ∀ l' j, 1 ≤ l' → l' ≤ 6 → i < j → j ≤ ts.length → PR 179 [vI (l' : Nat)] ts j (Qx ts l' j)) : PR 179 [vI (l : Nat)] ts i (Qx ts l i) := by
  have h0 : dn ts i l (6 - l) (Qx ts 6 i) = Qx ts l i := by
    have := dn_full ts h1 hi (6 - l) (by omega)
    rwa [show l + (6 - l) = 6 by omega] at this
  have ho := Q_ok (ts := ts) 6 i hi
  have p := place_row ts i 0
  obtain ⟨⟨tx, tl⟩, ht, hq⟩ := hu
  obtain ⟨⟨⟨ax, al⟩, a2, a3⟩, hr⟩ : ∃ r, Qx ts 6 i = r := ⟨_, rfl⟩
  rw [hr] at hq ht h0 ho
  by_cases ha3 : a3 = 0; rotate_left
  · rw [← h0, dn_err ts ha3]
    have g := goes_row ts a2 a3
    refine ⟨z0, fun h => absurd h ha3, ?_⟩
    clear ht hr h0 hP ho
    refine row_of Tryz.func179 rfl rfl (Nat.le_of_ble_eq_true rfl) ?_
    repeat' (first | refine aw_seq ?_ | refine aw_skip ?_ | refine aw_block ?_ | refine aw_exit ?_ | refine aw_ct rfl ?_ | refine aw_cf rfl ?_ | ((first | refine aw_reg (fun K hK => ?_) | refine aw_drw mixd (fun K hK => ?_) | refine ar_call (cb p 0 ?_) | refine ard_call (db p 0 ?_) | refine ar_call (cb hq 0 ?_) | refine ard_call (db hq 0 ?_) | fail); simp -implicitDefEqProofs) | refine hK _ ?_ | refine hK _ _ (by rfl) ?_ | fail)
    refine aw_lp (ι := Unit) (fun _ => mkSt [(0, vR), (4, .v (.c (.ptr 1 0))), (6, .v (.c (.ptr 2 0)))] [some (rd ts a2 a3), some zT, some (.box ((tc (.mk tx tl)).map .pv))]) (fun _ => True) (fun _ => 0) () trivial (cov_intro [0, 1, 23] (by simp -implicitDefEqProofs) (by simp -implicitDefEqProofs) (by decide) rfl (by simp)) (fun Z hI _ _ => ?_)
    repeat' (first | refine aw_seq ?_ | refine aw_skip ?_ | refine aw_block ?_ | refine aw_exit ?_ | refine aw_ct rfl ?_ | refine aw_cf rfl ?_ | ((first | refine aw_reg (fun K hK => ?_) | refine aw_drw mixd (fun K hK => ?_) | refine ar_call (cb g 0 ?_) | refine ard_call (db g 0 ?_) | fail); simp -implicitDefEqProofs [ha3]) | refine hK _ ?_ | refine hK _ _ (by rfl) ?_ | fail)
    refine aw_ret (fin_box ?_); simp -implicitDefEqProofs [FinB, resV, resT, z0] <;> try rfl
  subst ha3
  replace ht := ht rfl
  dsimp only at ht
  injection ht with ht1 ht2
  subst ht1 ht2
  refine ⟨(Qx ts l i).1, fun _ => rfl, ?_⟩
  have hi1 : InvN ts l i (5, (.mk tx tl, a2, 0)) := ⟨h0, ho, ⟨Nat.le_refl _, by dsimp only; omega⟩⟩
  clear h0 hr
  refine row_of Tryz.func179 rfl rfl (Nat.le_of_ble_eq_true rfl) ?_
  repeat' (first | refine aw_seq ?_ | refine aw_skip ?_ | refine aw_block ?_ | refine aw_exit ?_ | refine aw_ct rfl ?_ | refine aw_cf rfl ?_ | ((first | refine aw_reg (fun K hK => ?_) | refine aw_drw mixd (fun K hK => ?_) | refine ar_call (cb p 0 ?_) | refine ard_call (db p 0 ?_) | refine ar_call (cb hq 0 ?_) | refine ard_call (db hq 0 ?_) | fail); simp -implicitDefEqProofs) | refine hK _ ?_ | refine hK _ _ (by rfl) ?_ | fail)
  refine aw_lp (ι := Nat × Got) (fun x => mkSt [(0, vR), (1, vI (l : Nat)), (4, .v (.c (.ptr 1 0))), (5, vI i), (6, .v (.c (.ptr 2 0))), (7, vI (x.1 : Nat))] [some (rd ts x.2.2.1 x.2.2.2), some zT, some (.box ((tc x.2.1).map .pv))]) (InvN ts l i) (fun x => if x.2.2.2 = 0 then ts.length + 1 - x.2.2.1 else 0) (5, (.mk tx tl, a2, 0)) hi1 (cov_intro [0, 1, 23] (by simp -implicitDefEqProofs) (by simp -implicitDefEqProofs) (by decide) rfl (by simp)) (fun Z hI x hx => ?_)
  clear hi1 hq ho
  obtain ⟨most, ⟨⟨px, pl⟩, j, e⟩⟩ := x
  obtain ⟨x1, x2, x3⟩ := hx
  dsimp only at x1 x2 x3 ⊢
  have g := goes_row ts j e
  by_cases he : e = 0; rotate_left
  · rw [dn_err ts he] at x1
    have hz := (x2.no he).2
    dsimp only at hz
    rw [← x1, hz]
    clear x1 hP x2 x3 hz
    repeat' (first | refine aw_seq ?_ | refine aw_skip ?_ | refine aw_block ?_ | refine aw_exit ?_ | refine aw_ct rfl ?_ | refine aw_cf rfl ?_ | ((first | refine aw_reg (fun K hK => ?_) | refine aw_drw mixd (fun K hK => ?_) | refine ar_call (cb g 0 ?_) | refine ard_call (db g 0 ?_) | fail); simp -implicitDefEqProofs [he]) | refine hK _ ?_ | refine hK _ _ (by rfl) ?_ | fail)
    refine aw_ret (fin_box ?_); simp -implicitDefEqProofs [FinB, resV, resT, z0] <;> try rfl
  subst he
  have hy := x2.yes rfl
  dsimp only at hy
  have n := next_row ts j 0
  have o := oper_row (nxt ts j)
  by_cases c1 : (opK (nxt ts j)).2 < l
  · have c1' : ((opK (nxt ts j)).2 : Int) < l := by omega
    rw [dn_end ts _ (.inl c1)] at x1
    rw [← x1]
    clear x1 hP x2
    repeat' (first | refine aw_seq ?_ | refine aw_skip ?_ | refine aw_block ?_ | refine aw_exit ?_ | refine aw_ct rfl ?_ | refine aw_cf rfl ?_ | ((first | refine aw_reg (fun K hK => ?_) | refine aw_drw mixd (fun K hK => ?_) | refine ar_call (cb g 0 ?_) | refine ard_call (db g 0 ?_) | refine ar_call (cb n 0 ?_) | refine ard_call (db n 0 ?_) | refine ar_call (cp o ?_) | refine ard_call (dp o ?_) | fail); simp -implicitDefEqProofs [c1, c1']) | refine hK _ ?_ | refine hK _ _ (by rfl) ?_ | fail)
    refine aw_ret (fin_box ?_); simp -implicitDefEqProofs [FinB, resV, resT] <;> try rfl
  have c1' : ¬ ((opK (nxt ts j)).2 : Int) < l := by omega
  by_cases c2 : most < (opK (nxt ts j)).2
  · have c2' : (most : Int) < (opK (nxt ts j)).2 := by omega
    rw [dn_end ts _ (.inr (by dsimp only; omega))] at x1
    rw [← x1]
    clear x1 hP x2
    repeat' (first | refine aw_seq ?_ | refine aw_skip ?_ | refine aw_block ?_ | refine aw_exit ?_ | refine aw_ct rfl ?_ | refine aw_cf rfl ?_ | ((first | refine aw_reg (fun K hK => ?_) | refine aw_drw mixd (fun K hK => ?_) | refine ar_call (cb g 0 ?_) | refine ard_call (db g 0 ?_) | refine ar_call (cb n 0 ?_) | refine ard_call (db n 0 ?_) | refine ar_call (cp o ?_) | refine ard_call (dp o ?_) | fail); simp -implicitDefEqProofs [c1, c1', c2, c2']) | refine hK _ ?_ | refine hK _ _ (by rfl) ?_ | fail)
    refine aw_ret (fin_box ?_); simp -implicitDefEqProofs [FinB, resV, resT] <;> try rfl
  have c2' : ¬ (most : Int) < (opK (nxt ts j)).2 := by omega
  obtain ⟨l0, hl0⟩ : ∃ l0, (opK (nxt ts j)).2 = l0 := ⟨_, rfl⟩
  have h5 : l0 ≤ 5 := by omega
  have hlt := op_lt hl0 h5
  have s := skip_row ts j 0 (by omega)
  rw [if_pos ⟨rfl, hlt⟩] at s
  obtain ⟨⟨sx, sl⟩, ht, hq⟩ := hP (l0 + 1) (j + 1) (by omega) (by omega) (by omega) (by omega)
  rw [dn_go ts h5 x2 rfl hl0 (by omega) _ (by omega) (by omega)] at x1
  have hk := go_ok ts h5 x2 rfl hl0
  have hkq := Q_ok (ts := ts) (l0 + 1) (j + 1) (by omega)
  have w1 : IntKind.i64.wrap ((l0 : Nat) + 1 : Int) = (l0 : Nat) + 1 := i64i _ (by omega) (by omega)
  have nx : ∀ mo : Nat, mo = (if l0 = 3 then 2 else l0) → InvN ts l i (mo, goG ts i l0 (.mk px pl, j, 0)) := fun mo hm => ⟨by
    rw [show mo + 1 - l = (if l0 = 3 then 3 - l else l0 + 1 - l) by split at hm <;> rename_i h3 <;> simp only [h3, if_true, if_false] <;> omega]; exact x1, hk, by split at hm <;> dsimp only <;> omega⟩
  rw [hl0] at c1 c2 c1' c2' o
  unfold goG at nx
  dsimp only at nx
  obtain ⟨⟨⟨rx, rl⟩, r2, r3⟩, hr⟩ : ∃ r, Qx ts (l0 + 1) (j + 1) = r := ⟨_, rfl⟩
  rw [hr] at hq hkq ht nx
  clear x1 hP x2 hk hr
  by_cases hr3 : r3 = 0; rotate_left
  · obtain ⟨h6', hz⟩ := hkq.no hr3
    dsimp only at h6' hz
    subst h6'
    have nn := node_no ts r2 6 (by decide) i (.mk ⟨10, (opK (nxt ts j)).1, ⟨#[]⟩, 0, 0⟩ [.mk px pl, .mk sx sl])
    have nx : ∀ mo : Nat, mo = (if l0 = 3 then 2 else l0) → InvN ts l i (mo, (.mk rx rl, r2, 6)) := fun mo hm => by
      have := nx mo hm
      rwa [if_pos (by simp)] at this
    rw [hz] at nx
    clear hkq ht hz hl0
    by_cases h3 : l0 = 3
    · subst h3
      have w1 : IntKind.i64.wrap (4 : Int) = 4 := by decide
      have d1 : ¬ (3 : Int) < (l : Int) := by omega
      have d2 : ¬ (most : Int) < 3 := by omega
      repeat' (first | refine aw_seq ?_ | refine aw_skip ?_ | refine aw_block ?_ | refine aw_exit ?_ | refine aw_ct rfl ?_ | refine aw_cf rfl ?_ | ((first | refine aw_reg (fun K hK => ?_) | refine aw_drw mixd (fun K hK => ?_) | refine ar_call (cb g 0 ?_) | refine ard_call (db g 0 ?_) | refine ar_call (cb n 0 ?_) | refine ard_call (db n 0 ?_) | refine ar_call (cp o ?_) | refine ard_call (dp o ?_) | refine ar_call (cb s 0 ?_) | refine ard_call (db s 0 ?_) | refine ar_call (cb hq 0 ?_) | refine ard_call (db hq 0 ?_) | refine ar_call (cb nn 0 ?_) | refine ard_call (db nn 0 ?_) | fail); simp -implicitDefEqProofs [c1, c2, d1, d2, w1]) | refine hK _ ?_ | refine hK _ _ (by rfl) ?_ | fail)
      refine ⟨(_, _), nx 2 rfl, (by simp; omega), ?_⟩; rw [hI]; exact cov_intro [0, 1, 2] (by simp -implicitDefEqProofs [z0]) (by simp -implicitDefEqProofs [z0]) (by decide) rfl (by simp)
    · have h3' : ¬ (l0 : Int) = 3 := by omega
      repeat' (first | refine aw_seq ?_ | refine aw_skip ?_ | refine aw_block ?_ | refine aw_exit ?_ | refine aw_ct rfl ?_ | refine aw_cf rfl ?_ | ((first | refine aw_reg (fun K hK => ?_) | refine aw_drw mixd (fun K hK => ?_) | refine ar_call (cb g 0 ?_) | refine ard_call (db g 0 ?_) | refine ar_call (cb n 0 ?_) | refine ard_call (db n 0 ?_) | refine ar_call (cp o ?_) | refine ard_call (dp o ?_) | refine ar_call (cb s 0 ?_) | refine ard_call (db s 0 ?_) | refine ar_call (cb hq 0 ?_) | refine ard_call (db hq 0 ?_) | refine ar_call (cb nn 0 ?_) | refine ard_call (db nn 0 ?_) | fail); simp -implicitDefEqProofs [c1, c2, c1', c2', w1, h3, h3']) | refine hK _ ?_ | refine hK _ _ (by rfl) ?_ | fail)
      refine ⟨(_, _), nx l0 (by rw [if_neg h3]), (by simp; omega), ?_⟩; rw [hI]; exact cov_intro [0, 1, 2] (by simp -implicitDefEqProofs [z0]) (by simp -implicitDefEqProofs [z0]) (by decide) rfl (by simp)
  subst hr3
  have hyy := hkq.yes rfl
  replace ht := ht rfl
  dsimp only at hyy ht
  injection ht with ht1 ht2
  subst ht1 ht2
  have nn := node_yes ts r2 i ⟨10, (opK (nxt ts j)).1, ⟨#[]⟩, 0, 0⟩ [.mk px pl, .mk sx sl] (by omega) (by omega) hyy.2 (by omega)
  have nx : ∀ mo : Nat, mo = (if l0 = 3 then 2 else l0) → InvN ts l i (mo, mk7 ts i r2 10 (opK (nxt ts j)).1 ⟨#[]⟩ [.mk px pl, .mk sx sl]) := fun mo hm => by
    have := nx mo hm
    rwa [if_neg (by simp)] at this
  clear hkq hl0
  by_cases h3 : l0 = 3
  · subst h3
    have w1 : IntKind.i64.wrap (4 : Int) = 4 := by decide
    have d1 : ¬ (3 : Int) < (l : Int) := by omega
    have d2 : ¬ (most : Int) < 3 := by omega
    repeat' (first | refine aw_seq ?_ | refine aw_skip ?_ | refine aw_block ?_ | refine aw_exit ?_ | refine aw_ct rfl ?_ | refine aw_cf rfl ?_ | ((first | refine aw_reg (fun K hK => ?_) | refine aw_drw mixd (fun K hK => ?_) | refine ar_call (cb g 0 ?_) | refine ard_call (db g 0 ?_) | refine ar_call (cb n 0 ?_) | refine ard_call (db n 0 ?_) | refine ar_call (cp o ?_) | refine ard_call (dp o ?_) | refine ar_call (cb s 0 ?_) | refine ard_call (db s 0 ?_) | refine ar_call (cb hq 0 ?_) | refine ard_call (db hq 0 ?_) | refine ar_call (cb nn 0 ?_) | refine ard_call (db nn 0 ?_) | fail); simp -implicitDefEqProofs [c1, c2, d1, d2, w1]) | refine hK _ ?_ | refine hK _ _ (by rfl) ?_ | fail)
    refine ⟨(_, _), nx 2 rfl, (by simp [mk7]; omega), ?_⟩; rw [hI]; exact cov_intro [0, 1, 2] (by simp -implicitDefEqProofs [mk7]) (by simp -implicitDefEqProofs [mk7]) (by decide) rfl (by simp)
  · have h3' : ¬ (l0 : Int) = 3 := by omega
    repeat' (first | refine aw_seq ?_ | refine aw_skip ?_ | refine aw_block ?_ | refine aw_exit ?_ | refine aw_ct rfl ?_ | refine aw_cf rfl ?_ | ((first | refine aw_reg (fun K hK => ?_) | refine aw_drw mixd (fun K hK => ?_) | refine ar_call (cb g 0 ?_) | refine ard_call (db g 0 ?_) | refine ar_call (cb n 0 ?_) | refine ard_call (db n 0 ?_) | refine ar_call (cp o ?_) | refine ard_call (dp o ?_) | refine ar_call (cb s 0 ?_) | refine ard_call (db s 0 ?_) | refine ar_call (cb hq 0 ?_) | refine ard_call (db hq 0 ?_) | refine ar_call (cb nn 0 ?_) | refine ard_call (db nn 0 ?_) | fail); simp -implicitDefEqProofs [c1, c2, c1', c2', w1, h3, h3']) | refine hK _ ?_ | refine hK _ _ (by rfl) ?_ | fail)
    refine ⟨(_, _), nx l0 (by rw [if_neg h3]), (by simp [mk7]; omega), ?_⟩; rw [hI]; exact cov_intro [0, 1, 2] (by simp -implicitDefEqProofs [mk7]) (by simp -implicitDefEqProofs [mk7]) (by decide) rfl (by simp)
omit hl in
set_option maxRecDepth 100000 in
set_option maxHeartbeats 4000000 in
theorem expr_of_line (i : Nat) (h : PR 179 [vI (1 : Nat)] ts i (Qx ts 1 i)) : PR 178 [] ts i (Qx ts 1 i) := by
  obtain ⟨⟨tx, tl⟩, ht, hq⟩ := h
  obtain ⟨⟨⟨px, pl⟩, j, e⟩, hr⟩ : ∃ r, Qx ts 1 i = r := ⟨_, rfl⟩
  rw [hr] at hq ht ⊢
  refine ⟨.mk tx tl, ht, ?_⟩
  clear hr ht
  refine row_of Tryz.func178 rfl rfl (Nat.le_of_ble_eq_true rfl) ?_
  repeat' (first | refine aw_seq ?_ | refine aw_skip ?_ | refine aw_block ?_ | refine aw_exit ?_ | refine aw_ct rfl ?_ | refine aw_cf rfl ?_ | ((first | refine aw_reg (fun K hK => ?_) | refine aw_drw mixd (fun K hK => ?_) | refine ar_call (cb hq 0 ?_) | refine ard_call (db hq 0 ?_) | fail); simp -implicitDefEqProofs) | refine hK _ ?_ | refine hK _ _ (by rfl) ?_ | fail)
  refine aw_ret (fin_box ?_); simp -implicitDefEqProofs [FinB, resV, resT] <;> try rfl
set_option maxRecDepth 100000 in
set_option maxHeartbeats 4000000 in
theorem all_prs : ∀ (n w i : Nat), 1 ≤ w → w ≤ 8 → i ≤ ts.length → me ts w i < n →
    (w ≤ 6 → PR 179 [vI (w : Nat)] ts i (Qx ts w i)) ∧
    (w = 6 → PR 180 [] ts i (Qx ts 6 i)) ∧
    (w = 7 → PR 182 [] ts i (Qx ts 7 i)) ∧
    (w = 8 → PR 183 [] ts i (Qx ts 8 i)) := by
  intro n
  induction n with
  | zero => intro w i _ _ _ h; omega
  | succ n ih =>
  intro w i hw1 hw8 hi hn
  have hE : ∀ j, i < j → j ≤ ts.length → PR 178 [] ts j (Qx ts 1 j) := fun j h1 h2 =>
    expr_of_line ts j ((ih 1 j (by omega) (by omega) h2 (by unfold me at hn ⊢; omega)).1 (by omega))
  have hun : w = 6 → PR 180 [] ts i (Qx ts 6 i) := fun h => by
    subst h
    exact pun_step ts hl i hi ((ih 7 i (by omega) (by omega) hi (by unfold me at hn ⊢; omega)).2.2.1 rfl) (fun hlt => (ih 6 (i + 1) (by omega) (by omega) (by omega) (by unfold me at hn ⊢; omega)).2.1 rfl)
  refine ⟨fun h => ?_, hun, fun h => ?_, fun h => ?_⟩
  · have hu : PR 180 [] ts i (Qx ts 6 i) := by
      by_cases h6 : w = 6
      · exact hun h6
      · exact (ih 6 i (by omega) (by omega) hi (by unfold me at hn ⊢; omega)).2.1 rfl
    exact pline_step ts hl w hw1 h i hi hu (fun l' j h1 h2 h3 h4 => (ih l' j h1 (by omega) h4 (by unfold me at hn ⊢; omega)).1 h2)
  · exact ppost_step ts hl i hi ((ih 8 i (by omega) (by omega) hi (by unfold me at hn ⊢; omega)).2.2.2 rfl) hE
  · exact patom_step ts hl i hi hE
theorem pexpr_pr (i : Nat) (hi : i ≤ ts.length) : PR 178 [] ts i (Qx ts 1 i) :=
  expr_of_line ts i ((all_prs ts hl _ 1 i (by decide) (by decide) hi (Nat.lt_succ_self _)).1 (by decide))
end
end Go.Proofs.YtlkggpjdaaglmaaGreatDoor.am
end
section
namespace Go.Proofs.YtlkggpjdaaglmaaGreatDoor.am
open Go.ChangeShapes Go.WideShapes Go.ChangeAt Go.RowKit
open vt
set_option linter.unusedVariables false
set_option linter.unusedSimpArgs false
set_option maxRecDepth 100000 in
set_option maxHeartbeats 4000000 in
theorem type_yes (ts : List Tok) (i : Nat) (h : i ≤ ts.length) (hl : ts.length ≤ 9223372036854775807) : Row Tryz.prog 109 [vKs ts, vI i] [] (vT3 (endT (tyG ts (ts.length + 1) i))) [] := by
  have h1 := begin_yes ts i h 128 _ (typ_row ts hl (ts.length + 1) i (by omega) h)
  obtain ⟨⟨⟨px, pl⟩, j, e⟩, hr⟩ : ∃ r, endT (tyG ts (ts.length + 1) i) = r := ⟨_, rfl⟩
  rw [hr] at h1 ⊢
  refine row_of Tryz.func109 rfl rfl (Nat.le_of_ble_eq_true rfl) ?_
  repeat' (first | refine aw_seq ?_ | refine aw_skip ?_ | refine aw_block ?_ | refine aw_exit ?_ | refine aw_ct rfl ?_ | refine aw_cf rfl ?_ | ((first | refine aw_reg (fun K hK => ?_) | refine aw_drw mixd (fun K hK => ?_) | refine ar_call (cp h1 ?_) | refine ard_call (dp h1 ?_) | fail); simp -implicitDefEqProofs) | refine hK _ ?_ | refine hK _ _ (by rfl) ?_ | fail)
  refine aw_ret (fin_ret ?_); simp -implicitDefEqProofs [FinP, resV, resT] <;> try rfl
theorem endT_ty (ts : List Tok) (n i : Nat) : endT (tyG ts n i) = tyG ts n i := by
  obtain ⟨_, h2, _, _⟩ := tyG_ok ts n i
  unfold endT
  split
  · rfl
  · rename_i h
    obtain ⟨h3, h4⟩ := h2 h
    rw [← h4]
end Go.Proofs.YtlkggpjdaaglmaaGreatDoor.am
end
section
namespace Go.Proofs.YtlkggpjdaaglmaaGreatDoor.am
open Go.ChangeShapes Go.WideShapes Go.ChangeAt Go.RowKit
open vt
set_option linter.unusedVariables false
set_option linter.unusedSimpArgs false
set_option maxRecDepth 100000 in
set_option maxHeartbeats 4000000 in
theorem begin_any (ts : List Tok) (i : Nat) (h : i ≤ ts.length) (g : Nat) (r : Got) (hp : PR g [] ts i r) (hz : r.2.2 ≠ 0 → r.1 = z0) : Row Tryz.prog 127 [vKs ts, vI i, .v (.c (.fn (.func g) [] []))] [] (vT3 r) [] := by
  obtain ⟨t, ht, hr⟩ := hp
  have := begin_yes ts i h g (t, r.2.1, r.2.2) hr
  have e : endT (t, r.2.1, r.2.2) = r := by
    unfold endT
    obtain ⟨r1, r2, r3⟩ := r
    dsimp only at ht hz ⊢
    by_cases h0 : r3 = 0
    · rw [if_pos h0, ht h0]
    · rw [if_neg h0, hz h0]
  rwa [e] at this
set_option maxRecDepth 100000 in
set_option maxHeartbeats 4000000 in
theorem parse_yes (ts : List Tok) (hl : ts.length ≤ 3000000000000) (i : Nat) (h : i ≤ ts.length) : Row Tryz.prog 177 [vKs ts, vI i] [] (vT3 (Qx ts 1 i)) [] := by
  have h1 := begin_any ts i h 178 _ (pexpr_pr ts hl i h) (fun hh => ((Q_ok (ts := ts) 1 i h).no hh).2)
  obtain ⟨⟨⟨px, pl⟩, j, e⟩, hr⟩ : ∃ r, Qx ts 1 i = r := ⟨_, rfl⟩
  rw [hr] at h1 ⊢
  refine row_of Tryz.func177 rfl rfl (Nat.le_of_ble_eq_true rfl) ?_
  repeat' (first | refine aw_seq ?_ | refine aw_skip ?_ | refine aw_block ?_ | refine aw_exit ?_ | refine aw_ct rfl ?_ | refine aw_cf rfl ?_ | ((first | refine aw_reg (fun K hK => ?_) | refine aw_drw mixd (fun K hK => ?_) | refine ar_call (cp h1 ?_) | refine ard_call (dp h1 ?_) | fail); simp -implicitDefEqProofs) | refine hK _ ?_ | refine hK _ _ (by rfl) ?_ | fail)
  refine aw_ret (fin_ret ?_); simp -implicitDefEqProofs [FinP, resV, resT] <;> try rfl
end Go.Proofs.YtlkggpjdaaglmaaGreatDoor.am
end
section
namespace Go.Proofs.YtlkggpjdaaglmaaGreatDoor.am
open Go.ChangeShapes Go.WideShapes Go.ChangeAt Go.RowKit
open vt
set_option linter.unusedVariables false
set_option linter.unusedSimpArgs false
theorem td_strd : td Tryz.prog 147 = some ⟨true, 3, 40, [.nilS, .lit (.int .i64 0), .lit (.int .i64 0)], [(0, 3, true)], .struct⟩ := Eq.trans (by kernel_rfl) (Eq.refl _)
attribute [simp] td_strd
section
variable (ts : List Tok) (hl : ts.length ≤ 3000000000000)
include hl
set_option maxRecDepth 100000 in
set_option maxHeartbeats 4000000 in
theorem expr_tot (p : Nat × Int) {a : Nat} (h : p.2 = 0 → a ≤ p.1 ∧ p.1 ≤ ts.length) : Row Tryz.prog 174 [vR] [rd ts p.1 p.2] (vT (OT (Qx ts 1) p).1) [some (rd ts (OT (Qx ts 1) p).2.1 (OT (Qx ts 1) p).2.2)] := by
  have h1 := below_tot ts p 177 (Qx ts 1) (fun h0 => parse_yes ts hl p.1 (h h0).2)
  obtain ⟨⟨⟨px, pl⟩, j, e⟩, hr⟩ : ∃ r, OT (Qx ts 1) p = r := ⟨_, rfl⟩
  rw [hr] at h1 ⊢
  refine row_of Tryz.func174 rfl rfl (Nat.le_of_ble_eq_true rfl) ?_
  repeat' (first | refine aw_seq ?_ | refine aw_skip ?_ | refine aw_block ?_ | refine aw_exit ?_ | refine aw_ct rfl ?_ | refine aw_cf rfl ?_ | ((first | refine aw_reg (fun K hK => ?_) | refine aw_drw mixd (fun K hK => ?_) | refine ar_call (cb h1 0 ?_) | refine ard_call (db h1 0 ?_) | fail); simp -implicitDefEqProofs) | refine hK _ ?_ | refine hK _ _ (by rfl) ?_ | fail)
  refine aw_ret (fin_box ?_); simp -implicitDefEqProofs [FinB, resV, resT] <;> try rfl
set_option maxRecDepth 100000 in
set_option maxHeartbeats 4000000 in
theorem type_tot (p : Nat × Int) {a : Nat} (h : p.2 = 0 → a ≤ p.1 ∧ p.1 ≤ ts.length) : Row Tryz.prog 108 [vR, vFg 109] [rd ts p.1 p.2] (vT (OT (tyG ts (ts.length + 1)) p).1) [some (rd ts (OT (tyG ts (ts.length + 1)) p).2.1 (OT (tyG ts (ts.length + 1)) p).2.2)] :=
  below_tot ts p 109 (tyG ts (ts.length + 1)) (fun h0 => by have := type_yes ts p.1 (h h0).2 (by omega); rwa [endT_ty] at this)
variable (S : Nat → Got) (hS : ∀ j, j ≤ ts.length → OkS ts 0 j (S j)) (hS2 : ∀ j, j ≤ ts.length → (S j).2.2 = 0 → j + 2 ≤ (S j).2.1) (i : Nat)
  (hrow : ∀ j, i < j → j ≤ ts.length → Row Tryz.prog 141 [vR] [rd ts j 0] (vT (S j).1) [some (rd ts (S j).2.1 (S j).2.2)])
structure InvB (b : Nat) (R : Got) (x : Nat × Nat × Int × List VT) : Prop where
  go : x.2.2.1 = 0 → lpB ts S b x.1 x.2.1 x.2.2.2 = R ∧ b < x.2.1 ∧ x.2.1 ≤ ts.length ∧ ts.length < x.1 + x.2.1 ∧ 2 * x.2.2.2.length + b + 1 ≤ x.2.1
  no : x.2.2.1 ≠ 0 → R = (z0, x.2.1, x.2.2.1)
omit hl in
theorem invB_start (p : Nat × Int) (h : p.2 = 0 → p.1 ≤ ts.length) : InvB ts S p.1 (OT (blG ts S) p) (ts.length + 1, (WT ts sBra p).1, (WT ts sBra p).2, []) := by
  obtain ⟨b, e⟩ := p
  unfold WT OT blG
  dsimp only
  by_cases he : e = 0
  · subst he
    have h := h rfl
    rw [if_pos rfl, if_pos rfl]
    by_cases hb : isK sBra (nxt ts b) = true
    · have := isK_lt hb
      rw [if_pos hb, if_pos hb]
      exact ⟨fun _ => ⟨rfl, by dsimp only; omega, by dsimp only; omega, by dsimp only; omega, by simp⟩, fun h => absurd rfl h⟩
    · rw [if_neg hb, if_neg hb]
      exact ⟨fun h => absurd (show (6 : Int) = 0 from h) (by decide), fun _ => rfl⟩
  · rw [if_neg he, if_neg he]
    exact ⟨fun h => absurd h he, fun _ => rfl⟩
include hS hS2 hrow
set_option maxRecDepth 100000 in
set_option maxHeartbeats 4000000 in
theorem block_tot (p : Nat × Int) (h : p.2 = 0 → i ≤ p.1 ∧ p.1 ≤ ts.length) : Row Tryz.prog 130 [vR] [rd ts p.1 p.2] (vT (OT (blG ts S) p).1) [some (rd ts (OT (blG ts S) p).2.1 (OT (blG ts S) p).2.2)] := by
  have h0 := invB_start ts S p (fun h0 => (h h0).2)
  have pl := place_row ts p.1 p.2
  have w := want_tot ts (by omega) p sBra (by decide)
  obtain ⟨R, hR⟩ : ∃ R, OT (blG ts S) p = R := ⟨_, rfl⟩
  rw [hR] at h0 ⊢
  obtain ⟨⟨to0, e1⟩, hw⟩ : ∃ q, WT ts sBra p = q := ⟨_, rfl⟩
  have hb : e1 = 0 → i ≤ p.1 := by
    intro he1
    unfold WT at hw
    by_cases h2 : p.2 = 0
    · exact (h h2).1
    · rw [if_neg h2] at hw; rw [hw] at h2; exact absurd he1 h2
  rw [hw] at w h0
  obtain ⟨b, e0⟩ := p
  dsimp only at h0 w pl hb ⊢
  clear hw hR h
  refine row_of Tryz.func130 rfl rfl (Nat.le_of_ble_eq_true rfl) ?_
  repeat' (first | refine aw_seq ?_ | refine aw_skip ?_ | refine aw_block ?_ | refine aw_exit ?_ | refine aw_ct rfl ?_ | refine aw_cf rfl ?_ | ((first | refine aw_reg (fun K hK => ?_) | refine aw_drw mixd (fun K hK => ?_) | refine ar_call (cb pl 0 ?_) | refine ard_call (db pl 0 ?_) | refine ar_call (cb w 0 ?_) | refine ard_call (db w 0 ?_) | fail); simp -implicitDefEqProofs) | refine hK _ ?_ | refine hK _ _ (by rfl) ?_ | fail)
  refine aw_nil 4 25 6 (by simp) ?_
  refine aw_lp (ι := Nat × Nat × Int × List VT) (fun x => mkSt [(0, vR), (2, .v (.c (.ptr 1 0))), (3, vI b), (4, .v (.c (.row 2 6 (x.2.2.2.map tc))))] [some (rd ts x.2.1 x.2.2.1), some zT, some (.row 25 6)]) (fun x => InvB ts S b R x ∧ (x.2.2.1 = 0 → i ≤ b)) (fun x => x.1) (ts.length + 1, to0, e1, []) ⟨h0, hb⟩ (by unfold St.nil; exact cov_intro [0, 1, 26] (by simp -implicitDefEqProofs) (by simp -implicitDefEqProofs) (by decide) rfl (by simp)) (fun Z hI x hx => ?_)
  clear h0 pl w hb
  obtain ⟨m, zto, e, acc⟩ := x
  obtain ⟨⟨x1, x2⟩, x3⟩ := hx
  dsimp only at x1 x2 x3 ⊢
  have g := goes_row ts zto e
  by_cases he : e = 0; rotate_left
  · have hd := x2 he
    have n := node_no ts zto e he b (.mk ⟨29, 0, ⟨#[]⟩, 0, 0⟩ acc)
    rw [hd]
    clear x1 x2 x3 hd hrow hS hS2
    repeat' (first | refine aw_seq ?_ | refine aw_skip ?_ | refine aw_block ?_ | refine aw_exit ?_ | refine aw_ct rfl ?_ | refine aw_cf rfl ?_ | ((first | refine aw_reg (fun K hK => ?_) | refine aw_drw mixd (fun K hK => ?_) | refine ar_call (cb g 0 ?_) | refine ard_call (db g 0 ?_) | refine ar_call (cb n 0 ?_) | refine ard_call (db n 0 ?_) | fail); simp -implicitDefEqProofs [he]) | refine hK _ ?_ | refine hK _ _ (by rfl) ?_ | fail)
    refine aw_ret (fin_box ?_); simp -implicitDefEqProofs [FinB, resV, resT, z0] <;> try rfl
  subst he
  obtain ⟨x1, x4, x5, x6, x7⟩ := x1 rfl
  have x3 := x3 rfl
  obtain ⟨m, rfl⟩ : ∃ m', m = m' + 1 := ⟨m - 1, by omega⟩
  rw [lpB] at x1
  by_cases hk : isK sKet (nxt ts zto) = true
  · have hlt := isK_lt hk
    have t := take_yes ts zto sKet (by decide) (by omega) hk
    have n := node_yes ts (zto + 1) b ⟨29, 0, ⟨#[]⟩, 0, 0⟩ acc (by omega) (by omega) (by omega) (by omega)
    rw [if_pos hk] at x1
    rw [← x1]
    clear x1 x2 hk hrow hS hS2
    repeat' (first | refine aw_seq ?_ | refine aw_skip ?_ | refine aw_block ?_ | refine aw_exit ?_ | refine aw_ct rfl ?_ | refine aw_cf rfl ?_ | ((first | refine aw_reg (fun K hK => ?_) | refine aw_drw mixd (fun K hK => ?_) | refine ar_call (cb g 0 ?_) | refine ard_call (db g 0 ?_) | refine ar_call (cb t 0 ?_) | refine ard_call (db t 0 ?_) | refine ar_call (cb n 0 ?_) | refine ard_call (db n 0 ?_) | fail); simp -implicitDefEqProofs) | refine hK _ ?_ | refine hK _ _ (by rfl) ?_ | fail)
    refine aw_ret (fin_box ?_); simp -implicitDefEqProofs [FinB, resV, resT, mk7] <;> try rfl
  have hk : isK sKet (nxt ts zto) = false := by simpa using hk
  have t := take_no ts zto 0 sKet (by decide) (.inr hk)
  rw [if_neg (by simp [hk])] at x1
  have hq := hrow zto (by omega) x5
  have hs := hS zto x5
  have h2 := hS2 zto x5
  have b1 : (acc.length + 1) * 72 ≤ 140737488355328 := by omega
  have b2 : acc.length + 1 ≤ 140737488355328 := by omega
  obtain ⟨⟨⟨sx, sl⟩, s2, s3⟩, hr⟩ : ∃ r, S zto = r := ⟨_, rfl⟩
  rw [hr] at x1 hq hs h2
  dsimp only at x1 hq h2
  have nx : InvB ts S b R (m, s2, s3, acc ++ [.mk sx sl]) ∧ (s3 = 0 → i ≤ b) := by
    refine ⟨⟨fun h0 => ?_, fun h0 => ?_⟩, fun _ => x3⟩
    · dsimp only at h0
      rw [if_pos h0] at x1
      have := hs.ok.yes h0
      have h2 := h2 h0
      dsimp only at this
      refine ⟨x1, by dsimp only; omega, this.2, by dsimp only; omega, ?_⟩
      dsimp only
      rw [List.length_append, List.length_singleton]
      omega
    · dsimp only at h0
      rw [if_neg h0] at x1
      rw [← x1]
      have := (hs.ok.no h0).2
      dsimp only at this
      rw [this]
  clear x1 x2 hr hs hk hrow hS x4 x5 x6 x7 h2 hS2
  repeat' (first | refine aw_seq ?_ | refine aw_skip ?_ | refine aw_block ?_ | refine aw_exit ?_ | refine aw_ct rfl ?_ | refine aw_cf rfl ?_ | ((first | refine aw_reg (fun K hK => ?_) | refine aw_drw mixd (fun K hK => ?_) | refine ar_call (cb g 0 ?_) | refine ard_call (db g 0 ?_) | refine ar_call (cb t 0 ?_) | refine ard_call (db t 0 ?_) | refine ar_call (cb hq 0 ?_) | refine ard_call (db hq 0 ?_) | fail); simp -implicitDefEqProofs [b1, b2]) | refine hK _ ?_ | refine hK _ _ (by rfl) ?_ | fail)
  refine ⟨(_, _, _, _), nx, (by dsimp only; omega), ?_⟩; rw [hI]; exact cov_intro [0, 1, 39] (by simp -implicitDefEqProofs) (by simp -implicitDefEqProofs) (by decide) rfl (by simp)
end
end Go.Proofs.YtlkggpjdaaglmaaGreatDoor.am
end
