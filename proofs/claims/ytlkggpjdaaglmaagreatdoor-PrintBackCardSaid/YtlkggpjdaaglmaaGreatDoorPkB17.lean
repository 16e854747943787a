import Derived.Test.YtlkggpjdaaglmaaGreatDoorPkB16
section
namespace Go.Proofs.YtlkggpjdaaglmaaGreatDoor.am
open Go.ChangeShapes Go.WideShapes Go.ChangeAt Go.RowKit
open vt
set_option linter.unusedVariables false
set_option linter.unusedSimpArgs false
def PR (f : Nat) (ex : List AV) (ts : List Tok) (i : Nat) (r : Got) : Prop := ∃ t : VT, (r.2.2 = 0 → t = r.1) ∧ Row Tryz.prog f (vR :: ex) [rd ts i 0] (vT t) [some (rd ts r.2.1 r.2.2)]
def PL (f : Nat) (ex : List AV) (ts : List Tok) (i : Nat) (c : List VT × Nat × Int) : Prop := ∃ l : List VT, (c.2.2 = 0 → l = c.1) ∧ Row Tryz.prog f (vR :: ex) [rd ts i 0] (vLs l) [some (rd ts c.2.1 c.2.2)]
section
variable (ts : List Tok)
def lsG (T : Nat → VT) (E : Nat → Got) : Nat → Nat → List VT → List VT
  | 0, i, acc => acc
  | m + 1, i, acc => if (E i).2.2 = 0 ∧ isK sCom (nxt ts (E i).2.1) = true then lsG T E m ((E i).2.1 + 1) (acc ++ [T i]) else acc ++ [T i]
theorem lsG_eq (T : Nat → VT) (E : Nat → Got) (hE : ∀ j, j ≤ ts.length → OkG ts j (E j)) : ∀ (m i : Nat) (acc : List VT), i ≤ ts.length → (∀ j, i ≤ j → j ≤ ts.length → (E j).2.2 = 0 → T j = (E j).1) → (lpC ts E m i acc).2.2 = 0 → lsG ts T E m i acc = (lpC ts E m i acc).1
  | 0, i, acc, _, _, h => by simp [lpC] at h
  | m + 1, i, acc, hi, hT, h => by
    unfold lsG lpC at *
    by_cases h0 : (E i).2.2 = 0; rotate_left
    · rw [if_pos h0] at h; exact absurd h h0
    rw [if_neg (by simp [h0])] at h
    have hy := (hE i hi).yes h0
    by_cases h1 : isK sCom (nxt ts (E i).2.1) = true
    · have hlt := isK_lt h1
      rw [if_neg (by simp [h1])] at h
      rw [if_pos ⟨h0, h1⟩, if_neg (by simp [h0]), if_neg (by simp [h1]), hT i (Nat.le_refl _) hi h0]
      exact lsG_eq T E hE m _ _ (by omega) (fun j h2 h3 => hT j (by omega) h3) h
    · rw [if_neg (by simp [h1]), if_neg (by simp [h0]), if_pos (by simpa using h1), hT i (Nat.le_refl _) hi h0]
structure InvQ (T : Nat → VT) (E : Nat → Got) (i : Nat) (x : Nat × Nat × List VT × List VT) : Prop where
  eq : (lpC ts E (x.1 + 1) x.2.1 x.2.2.2).2 = (lpC ts E (ts.length + 1) i []).2
  ls : lsG ts T E (x.1 + 1) x.2.1 x.2.2.1 = lsG ts T E (ts.length + 1) i []
  le : i ≤ x.2.1 ∧ x.2.1 ≤ ts.length
  fuel : ts.length < x.1 + 1 + x.2.1
  few : 2 * x.2.2.1.length + i ≤ x.2.1
variable (hl : ts.length ≤ 3000000000000)
include hl
set_option maxRecDepth 100000 in
set_option maxHeartbeats 4000000 in
theorem plist_row (i : Nat) (hi : i ≤ ts.length) (hE : ∀ j, i ≤ j → j ≤ ts.length → PR 178 [] ts j (Qx ts 1 j)) : PL 192 [vFn] ts i (lpC ts (Qx ts 1) (ts.length + 1) i []) := by
  obtain ⟨T, hT⟩ : ∃ T : Nat → VT, ∀ j, i ≤ j → j ≤ ts.length → ((Qx ts 1 j).2.2 = 0 → T j = (Qx ts 1 j).1) ∧ Row Tryz.prog 178 [vR] [rd ts j 0] (vT (T j)) [some (rd ts (Qx ts 1 j).2.1 (Qx ts 1 j).2.2)] :=
    ⟨fun j => if h : i ≤ j ∧ j ≤ ts.length then (hE j h.1 h.2).choose else z0, fun j h1 h2 => by
      show (_ → dite _ _ _ = _) ∧ Row _ _ _ _ (vT (dite _ _ _)) _
      rw [dif_pos ⟨h1, h2⟩]
      exact (hE j h1 h2).choose_spec⟩
  refine ⟨lsG ts T (Qx ts 1) (ts.length + 1) i [], fun h => lsG_eq ts T (Qx ts 1) (Q_ok (ts := ts) 1) _ _ _ hi (fun j h1 h2 => (hT j h1 h2).1) h, ?_⟩
  have hq := (hT i (Nat.le_refl _) hi).2
  have h0 : InvQ ts T (Qx ts 1) i (ts.length, i, [], []) := ⟨rfl, rfl, ⟨Nat.le_refl _, hi⟩, by dsimp only; omega, by simp⟩
  obtain ⟨L, hL⟩ : ∃ L, lsG ts T (Qx ts 1) (ts.length + 1) i [] = L := ⟨_, rfl⟩
  rw [hL]
  refine row_of Tryz.func192 rfl rfl (Nat.le_of_ble_eq_true rfl) ?_
  obtain ⟨⟨tx, tl⟩, hti⟩ : ∃ t, T i = t := ⟨_, rfl⟩
  obtain ⟨⟨⟨rx, rl⟩, r2, r3⟩, hr⟩ : ∃ r, Qx ts 1 i = r := ⟨_, rfl⟩
  rw [hti, hr] at hq
  repeat' (first | refine aw_seq ?_ | refine aw_skip ?_ | refine aw_block ?_ | refine aw_exit ?_ | refine aw_ct rfl ?_ | refine aw_cf rfl ?_ | ((first | refine aw_reg (fun K hK => ?_) | refine aw_drw mixd (fun K hK => ?_) | refine ar_call (cb hq 0 ?_) | refine ard_call (db hq 0 ?_) | fail); simp -implicitDefEqProofs) | refine hK _ ?_ | refine hK _ _ (by rfl) ?_ | fail)
  refine aw_lp (ι := Nat × Nat × List VT × List VT) (fun x => mkSt [(0, vR), (1, vFn), (5, .v (.c (.row 1 6 ((x.2.2.1 ++ [T x.2.1]).map tc))))] [some (rd ts (Qx ts 1 x.2.1).2.1 (Qx ts 1 x.2.1).2.2), some (.row 25 6)]) (InvQ ts T (Qx ts 1) i) (fun x => x.1) (ts.length, i, [], []) h0 (cov_intro [0, 11] (by simp -implicitDefEqProofs [hti, hr]) (by simp -implicitDefEqProofs [hti, hr]) (by decide) rfl (by simp)) (fun Z hI x hx => ?_)
  clear h0 hr hti hq
  obtain ⟨m, p, acc, tr⟩ := x
  obtain ⟨x1, x2, x3, x4, x5⟩ := hx
  dsimp only at x1 x2 x3 x4 x5 ⊢
  have hk := Q_ok (ts := ts) 1 p x3.2
  rw [lpC] at x1
  rw [lsG] at x2
  obtain ⟨⟨⟨rx, rl⟩, r2, r3⟩, hr⟩ : ∃ r, Qx ts 1 p = r := ⟨_, rfl⟩
  rw [hr] at hk x1 x2 ⊢
  obtain ⟨acc', ha'⟩ : ∃ l, acc ++ [T p] = l := ⟨_, rfl⟩
  have hal : acc'.length = acc.length + 1 := by rw [← ha']; simp
  rw [ha'] at x2 ⊢
  dsimp only at x1 x2 ⊢
  by_cases hr3 : r3 = 0; rotate_left
  · rw [if_pos hr3] at x1
    rw [if_neg (by simp [hr3])] at x2
    rw [← x1]
    rw [hL] at x2
    rw [← x2]
    have t1 := take_no ts r2 r3 sCom (by decide) (.inl hr3)
    clear x1 hE hT hk hr x2 ha' hL
    dsimp only
    repeat' (first | refine aw_seq ?_ | refine aw_skip ?_ | refine aw_block ?_ | refine aw_exit ?_ | refine aw_ct rfl ?_ | refine aw_cf rfl ?_ | ((first | refine aw_reg (fun K hK => ?_) | refine aw_drw mixd (fun K hK => ?_) | refine ar_call (cb t1 0 ?_) | refine ard_call (db t1 0 ?_) | fail); simp -implicitDefEqProofs) | refine hK _ ?_ | refine hK _ _ (by rfl) ?_ | fail)
    refine aw_ret (fin_box ?_); simp -implicitDefEqProofs [FinB, resV, resT] <;> try rfl
  subst hr3
  rw [if_neg (by simp)] at x1
  have hyy := hk.yes rfl
  dsimp only at hyy x1
  by_cases e3 : isK sCom (nxt ts r2) = true; rotate_left
  · have e3 : isK sCom (nxt ts r2) = false := by simpa using e3
    rw [if_pos e3] at x1
    rw [if_neg (by simp [e3])] at x2
    rw [← x1]
    rw [hL] at x2
    rw [← x2]
    have t1 := take_no ts r2 0 sCom (by decide) (.inr e3)
    clear x1 hE hT hk hr x2 ha' hL e3
    repeat' (first | refine aw_seq ?_ | refine aw_skip ?_ | refine aw_block ?_ | refine aw_exit ?_ | refine aw_ct rfl ?_ | refine aw_cf rfl ?_ | ((first | refine aw_reg (fun K hK => ?_) | refine aw_drw mixd (fun K hK => ?_) | refine ar_call (cb t1 0 ?_) | refine ard_call (db t1 0 ?_) | fail); simp -implicitDefEqProofs) | refine hK _ ?_ | refine hK _ _ (by rfl) ?_ | fail)
    refine aw_ret (fin_box ?_); simp -implicitDefEqProofs [FinB, resV, resT] <;> try rfl
  have hlt2 := isK_lt e3
  rw [if_neg (by simp [e3])] at x1
  rw [if_pos ⟨rfl, e3⟩] at x2
  obtain ⟨m, rfl⟩ : ∃ m', m = m' + 1 := ⟨m - 1, by omega⟩
  have t1 := take_yes ts r2 sCom (by decide) (by omega) e3
  have hq := (hT (r2 + 1) (by omega) (by omega)).2
  have b1 : (acc.length + 1 + 1) * 72 ≤ 140737488355328 := by omega
  have b2 : acc.length + 1 + 1 ≤ 140737488355328 := by omega
  have nx : InvQ ts T (Qx ts 1) i (m, r2 + 1, acc', tr ++ [.mk rx rl]) := ⟨x1, x2, by dsimp only; omega, by dsimp only; omega, by dsimp only; omega⟩
  obtain ⟨⟨tx, tl⟩, hti⟩ : ∃ t, T (r2 + 1) = t := ⟨_, rfl⟩
  obtain ⟨⟨⟨sx, sl⟩, s2, s3⟩, hs⟩ : ∃ r, Qx ts 1 (r2 + 1) = r := ⟨_, rfl⟩
  rw [hti, hs] at hq
  clear x1 hE hT hk hr x2 ha' hL e3
  repeat' (first | refine aw_seq ?_ | refine aw_skip ?_ | refine aw_block ?_ | refine aw_exit ?_ | refine aw_ct rfl ?_ | refine aw_cf rfl ?_ | ((first | refine aw_reg (fun K hK => ?_) | refine aw_drw mixd (fun K hK => ?_) | refine ar_call (cb t1 0 ?_) | refine ard_call (db t1 0 ?_) | refine ar_call (cb hq 0 ?_) | refine ard_call (db hq 0 ?_) | fail); simp -implicitDefEqProofs [b1, b2, hal]) | refine hK _ ?_ | refine hK _ _ (by rfl) ?_ | fail)
  refine ⟨(_, _, _, _), nx, (by dsimp only; omega), ?_⟩; rw [hI]; exact cov_intro [0, 24] (by simp -implicitDefEqProofs [hti, hs]) (by simp -implicitDefEqProofs [hti, hs]) (by decide) rfl (by simp)
set_option maxRecDepth 100000 in
set_option maxHeartbeats 4000000 in
theorem called_row (o : Nat) (ho : o ≤ ts.length) (hE : ∀ j, o < j → j ≤ ts.length → PR 178 [] ts j (Qx ts 1 j)) : PL 191 [] ts o (cloG ts (Qx ts 1) o true sParO sParS) := by
  unfold cloG
  by_cases e1 : isK sParO (nxt ts o) = true; rotate_left
  · have e1 : isK sParO (nxt ts o) = false := by simpa using e1
    rw [if_pos e1]
    have w1 := want_no ts o 0 sParO (by decide) (.inr e1)
    have t1 := take_no ts o 6 sParS (by decide) (.inl (by decide))
    have a := list_err ts o 6 (by decide)
    have w2 := want_no ts o 6 sParS (by decide) (.inl (by decide))
    rw [show er 0 = 6 from rfl] at w1
    rw [show er 6 = 6 from rfl] at w2
    refine ⟨[z0], fun h => by simp at h, ?_⟩
    clear e1 hE
    refine row_of Tryz.func191 rfl rfl (Nat.le_of_ble_eq_true rfl) ?_
    repeat' (first | refine aw_seq ?_ | refine aw_skip ?_ | refine aw_block ?_ | refine aw_exit ?_ | refine aw_ct rfl ?_ | refine aw_cf rfl ?_ | ((first | refine aw_reg (fun K hK => ?_) | refine aw_drw mixd (fun K hK => ?_) | refine ar_call (cb w1 0 ?_) | refine ard_call (db w1 0 ?_) | refine ar_call (cb t1 0 ?_) | refine ard_call (db t1 0 ?_) | refine ar_call (cb a 0 ?_) | refine ard_call (db a 0 ?_) | refine ar_call (cb w2 0 ?_) | refine ard_call (db w2 0 ?_) | fail); simp -implicitDefEqProofs) | refine hK _ ?_ | refine hK _ _ (by rfl) ?_ | fail)
    refine aw_ret (fin_box ?_); simp -implicitDefEqProofs [FinB, resV, resT] <;> try rfl
  have hlt := isK_lt e1
  rw [if_neg (by simp [e1])]
  have w1 := want_yes ts o sParO (by decide) (by omega) e1
  by_cases e2 : isK sParS (nxt ts (o + 1)) = true
  · rw [if_pos ⟨rfl, e2⟩]
    have t1 := take_yes ts (o + 1) sParS (by decide) (by omega) e2
    refine ⟨[], fun h => rfl, ?_⟩
    clear e1 e2 hE
    refine row_of Tryz.func191 rfl rfl (Nat.le_of_ble_eq_true rfl) ?_
    repeat' (first | refine aw_seq ?_ | refine aw_skip ?_ | refine aw_block ?_ | refine aw_exit ?_ | refine aw_ct rfl ?_ | refine aw_cf rfl ?_ | ((first | refine aw_reg (fun K hK => ?_) | refine aw_drw mixd (fun K hK => ?_) | refine ar_call (cb w1 0 ?_) | refine ard_call (db w1 0 ?_) | refine ar_call (cb t1 0 ?_) | refine ard_call (db t1 0 ?_) | fail); simp -implicitDefEqProofs) | refine hK _ ?_ | refine hK _ _ (by rfl) ?_ | fail)
    refine aw_ret (fin_box ?_); simp -implicitDefEqProofs [FinB, resV, resT] <;> try rfl
  rw [if_neg (by simp [e2])]
  have t1 := take_no ts (o + 1) 0 sParS (by decide) (.inr (by simpa using e2))
  obtain ⟨l, hll, hq⟩ := plist_row ts hl (o + 1) (by omega) (fun j h1 h2 => hE j (by omega) h2)
  have hc := lpC_ok (Q_ok (ts := ts) 1) (ts.length + 1) (o + 1) [] (by omega)
  obtain ⟨⟨c1, c2, c3⟩, hr⟩ : ∃ r, lpC ts (Qx ts 1) (ts.length + 1) (o + 1) [] = r := ⟨_, rfl⟩
  rw [hr] at hq hc hll ⊢
  have hle := hc.le
  dsimp only at hle hll
  by_cases hc3 : c3 = 0; rotate_left
  · rw [if_pos hc3]
    have h6 := hc.no hc3
    dsimp only at h6
    subst h6
    have w2 := want_no ts c2 6 sParS (by decide) (.inl (by decide))
    rw [show er 6 = 6 from rfl] at w2
    refine ⟨l, fun h => by simp at h, ?_⟩
    clear hE hr hc e1 e2 hll
    refine row_of Tryz.func191 rfl rfl (Nat.le_of_ble_eq_true rfl) ?_
    repeat' (first | refine aw_seq ?_ | refine aw_skip ?_ | refine aw_block ?_ | refine aw_exit ?_ | refine aw_ct rfl ?_ | refine aw_cf rfl ?_ | ((first | refine aw_reg (fun K hK => ?_) | refine aw_drw mixd (fun K hK => ?_) | refine ar_call (cb w1 0 ?_) | refine ard_call (db w1 0 ?_) | refine ar_call (cb t1 0 ?_) | refine ard_call (db t1 0 ?_) | refine ar_call (cb hq 0 ?_) | refine ard_call (db hq 0 ?_) | refine ar_call (cb w2 0 ?_) | refine ard_call (db w2 0 ?_) | fail); simp -implicitDefEqProofs) | refine hK _ ?_ | refine hK _ _ (by rfl) ?_ | fail)
    refine aw_ret (fin_box ?_); simp -implicitDefEqProofs [FinB, resV, resT] <;> try rfl
  subst hc3
  have hll := hll rfl
  subst hll
  rw [if_neg (by simp)]
  dsimp only
  by_cases e3 : isK sParS (nxt ts c2) = true
  · rw [if_neg (by simp [e3])]
    have w2 := want_yes ts c2 sParS (by decide) (by omega) e3
    refine ⟨l, fun h => rfl, ?_⟩
    clear hE hr hc e1 e2 e3
    refine row_of Tryz.func191 rfl rfl (Nat.le_of_ble_eq_true rfl) ?_
    repeat' (first | refine aw_seq ?_ | refine aw_skip ?_ | refine aw_block ?_ | refine aw_exit ?_ | refine aw_ct rfl ?_ | refine aw_cf rfl ?_ | ((first | refine aw_reg (fun K hK => ?_) | refine aw_drw mixd (fun K hK => ?_) | refine ar_call (cb w1 0 ?_) | refine ard_call (db w1 0 ?_) | refine ar_call (cb t1 0 ?_) | refine ard_call (db t1 0 ?_) | refine ar_call (cb hq 0 ?_) | refine ard_call (db hq 0 ?_) | refine ar_call (cb w2 0 ?_) | refine ard_call (db w2 0 ?_) | fail); simp -implicitDefEqProofs) | refine hK _ ?_ | refine hK _ _ (by rfl) ?_ | fail)
    refine aw_ret (fin_box ?_); simp -implicitDefEqProofs [FinB, resV, resT] <;> try rfl
  · have e3 : isK sParS (nxt ts c2) = false := by simpa using e3
    rw [if_pos e3]
    have w2 := want_no ts c2 0 sParS (by decide) (.inr e3)
    rw [show er 0 = 6 from rfl] at w2
    refine ⟨l, fun h => by simp at h, ?_⟩
    clear hE hr hc e1 e2 e3
    refine row_of Tryz.func191 rfl rfl (Nat.le_of_ble_eq_true rfl) ?_
    repeat' (first | refine aw_seq ?_ | refine aw_skip ?_ | refine aw_block ?_ | refine aw_exit ?_ | refine aw_ct rfl ?_ | refine aw_cf rfl ?_ | ((first | refine aw_reg (fun K hK => ?_) | refine aw_drw mixd (fun K hK => ?_) | refine ar_call (cb w1 0 ?_) | refine ard_call (db w1 0 ?_) | refine ar_call (cb t1 0 ?_) | refine ard_call (db t1 0 ?_) | refine ar_call (cb hq 0 ?_) | refine ard_call (db hq 0 ?_) | refine ar_call (cb w2 0 ?_) | refine ard_call (db w2 0 ?_) | fail); simp -implicitDefEqProofs) | refine hK _ ?_ | refine hK _ _ (by rfl) ?_ | fail)
    refine aw_ret (fin_box ?_); simp -implicitDefEqProofs [FinB, resV, resT] <;> try rfl
end
end Go.Proofs.YtlkggpjdaaglmaaGreatDoor.am
end
section
namespace Go.Proofs.YtlkggpjdaaglmaaGreatDoor.am
open Go.ChangeShapes Go.WideShapes Go.ChangeAt Go.RowKit
open vt
set_option linter.unusedVariables false
set_option linter.unusedSimpArgs false
theorem k_of {a : ByteArray} {x : Tok} (h : isK a x = true) : x.k = quo a ∧ x.s = a := by unfold isK at h; simpa using h
theorem isK_no {a b : ByteArray} {x : Tok} (h : isK a x = true) (hab : a ≠ b) : isK b x = false := by
  have := (k_of h).2
  unfold isK; rw [this]; simp [hab]
theorem isK_kind {b : ByteArray} {x : Tok} (h : x.k = 1 ∨ x.k = 2) : isK b x = false := by
  unfold isK
  rcases quo_34 b with h1 | h1 <;> rcases h with h | h <;> rw [h, h1] <;> rfl
theorem k_sgn {a : ByteArray} {x : Tok} (h : isK a x = true) : x.k ≠ 1 ∧ x.k ≠ 2 := by
  have := (k_of h).1
  rcases quo_34 a with h1 | h1 <;> rw [h1] at this <;> omega
section
variable (ts : List Tok) (hl : ts.length ≤ 3000000000000)
theorem ato_name {E : Nat → Got} {i : Nat} (h : (nxt ts i).k = 1) : atoG ts E i = if isK sParO (nxt ts (i + 1)) = false then mk7 ts i (i + 1) 19 0 (nxt ts i).s [] else finC ts i 16 (nxt ts i).s (cloG ts E (i + 1) true sParO sParS) := by
  have hn : ∀ s, isK s (nxt ts i) = false := fun s => isK_kind (.inl h)
  unfold atoG
  rw [if_neg (by omega), if_neg (by simp [hn]), if_neg (by simp [hn]), if_neg (by simp [hn])]
  by_cases h2 : isK sParO (nxt ts (i + 1)) = false
  · rw [if_pos ⟨h, h2⟩, if_pos h2]
  · rw [if_neg (fun hh => h2 hh.2), if_neg (by simp [hn]), if_neg h2]
    unfold calG
    rw [if_pos h]
theorem ato_par {E : Nat → Got} {i : Nat} (h : isK sParO (nxt ts i) = true) : atoG ts E i = if (E (i + 1)).2.2 ≠ 0 then E (i + 1) else if isK sParS (nxt ts (E (i + 1)).2.1) = false then bad7 (E (i + 1)).2.1 else ((E (i + 1)).1, (E (i + 1)).2.1 + 1, 0) := by
  unfold atoG
  rw [if_neg (k_sgn h).2, if_neg (by simp [isK_no h (b := wTrue) (by decide)]), if_neg (by simp [isK_no h (b := wFals) (by decide)]), if_neg (by simp [isK_no h (b := wRead) (by decide)]), if_neg (fun hh => (k_sgn h).1 hh.1), if_pos h]
theorem ato_cal {E : Nat → Got} {i : Nat} {a : ByteArray} (h : isK a (nxt ts i) = true) (ha : a = sOpen ∨ a = sAt ∨ a = wNew) : atoG ts E i = calG ts E i := by
  have n1 : a ≠ wTrue := by rcases ha with rfl | rfl | rfl <;> decide
  have n2 : a ≠ wFals := by rcases ha with rfl | rfl | rfl <;> decide
  have n3 : a ≠ wRead := by rcases ha with rfl | rfl | rfl <;> decide
  have n4 : a ≠ sParO := by rcases ha with rfl | rfl | rfl <;> decide
  unfold atoG
  rw [if_neg (k_sgn h).2, if_neg (by simp [isK_no h n1]), if_neg (by simp [isK_no h n2]), if_neg (by simp [isK_no h n3]), if_neg (fun hh => (k_sgn h).1 hh.1), if_neg (by simp [isK_no h n4])]
include hl
set_option maxRecDepth 100000 in
set_option maxHeartbeats 4000000 in
theorem pname_row (i : Nat) (h : (nxt ts i).k = 1) (hE : ∀ j, i < j → j ≤ ts.length → PR 178 [] ts j (Qx ts 1 j)) : PR 185 [] ts i (atoG ts (Qx ts 1) i) := by
  rw [ato_name ts h]
  obtain ⟨x, hx, hxn, hxk⟩ := kind_at h (by decide)
  have hlt := (List.getElem?_eq_some_iff.1 hx).1
  rw [hxn]
  have p := place_row ts i 0
  have k1 := kind_yes ts i 1 x (by omega) hx hxk
  have i1 := is7_row ts (i + 1) 0 sParO (by decide)
  obtain ⟨xk, xn, xs, xf, xt⟩ := x
  dsimp only at hxk
  subst hxk
  clear hxn hx h
  by_cases e1 : isK sParO (nxt ts (i + 1)) = true; rotate_left
  · have e1 : isK sParO (nxt ts (i + 1)) = false := by simpa using e1
    rw [if_pos e1]
    rw [e1] at i1
    have n := node_yes ts (i + 1) i ⟨19, 0, xs, 0, 0⟩ [] hlt (by omega) (by omega) (by omega)
    refine ⟨_, fun _ => rfl, ?_⟩
    clear hE e1
    refine row_of Tryz.func185 rfl rfl (Nat.le_of_ble_eq_true rfl) ?_
    repeat' (first | refine aw_seq ?_ | refine aw_skip ?_ | refine aw_block ?_ | refine aw_exit ?_ | refine aw_ct rfl ?_ | refine aw_cf rfl ?_ | ((first | refine aw_reg (fun K hK => ?_) | refine aw_drw mixd (fun K hK => ?_) | refine ar_call (cb p 0 ?_) | refine ard_call (db p 0 ?_) | refine ar_call (cb k1 0 ?_) | refine ard_call (db k1 0 ?_) | refine ar_call (cb i1 0 ?_) | refine ard_call (db i1 0 ?_) | refine ar_call (cb n 0 ?_) | refine ard_call (db n 0 ?_) | fail); simp -implicitDefEqProofs) | refine hK _ ?_ | refine hK _ _ (by rfl) ?_ | fail)
    refine aw_ret (fin_box ?_); simp -implicitDefEqProofs [FinB, resV, resT, mk7] <;> try rfl
  rw [if_neg (by simp [e1])]
  rw [e1] at i1
  obtain ⟨l, hll, hq⟩ := called_row ts hl (i + 1) (by omega) (fun j h1 h2 => hE j (by omega) h2)
  have hc := cloG_ok (Q_ok (ts := ts) 1) true sParO sParS (show i + 1 ≤ ts.length by omega)
  unfold finC
  obtain ⟨⟨c1, c2, c3⟩, hr⟩ : ∃ r, cloG ts (Qx ts 1) (i + 1) true sParO sParS = r := ⟨_, rfl⟩
  rw [hr] at hq hc hll ⊢
  dsimp only at hll ⊢
  have hle := hc.le
  dsimp only at hle
  by_cases hc3 : c3 = 0
  · subst hc3
    have hll := hll rfl
    subst hll
    have n := node_yes ts c2 i ⟨16, 0, xs, 0, 0⟩ l hlt (by omega) hle.2 (by omega)
    rw [if_neg (by simp)]
    refine ⟨_, fun _ => rfl, ?_⟩
    clear hE e1 hr hc
    refine row_of Tryz.func185 rfl rfl (Nat.le_of_ble_eq_true rfl) ?_
    repeat' (first | refine aw_seq ?_ | refine aw_skip ?_ | refine aw_block ?_ | refine aw_exit ?_ | refine aw_ct rfl ?_ | refine aw_cf rfl ?_ | ((first | refine aw_reg (fun K hK => ?_) | refine aw_drw mixd (fun K hK => ?_) | refine ar_call (cb p 0 ?_) | refine ard_call (db p 0 ?_) | refine ar_call (cb k1 0 ?_) | refine ard_call (db k1 0 ?_) | refine ar_call (cb i1 0 ?_) | refine ard_call (db i1 0 ?_) | refine ar_call (cb hq 0 ?_) | refine ard_call (db hq 0 ?_) | refine ar_call (cb n 0 ?_) | refine ard_call (db n 0 ?_) | fail); simp -implicitDefEqProofs) | refine hK _ ?_ | refine hK _ _ (by rfl) ?_ | fail)
    refine aw_ret (fin_box ?_); simp -implicitDefEqProofs [FinB, resV, resT, mk7] <;> try rfl
  · have n := node_no ts c2 c3 hc3 i (.mk ⟨16, 0, xs, 0, 0⟩ l)
    rw [if_pos hc3]
    refine ⟨z0, fun _ => rfl, ?_⟩
    clear hE e1 hr hc hll
    refine row_of Tryz.func185 rfl rfl (Nat.le_of_ble_eq_true rfl) ?_
    repeat' (first | refine aw_seq ?_ | refine aw_skip ?_ | refine aw_block ?_ | refine aw_exit ?_ | refine aw_ct rfl ?_ | refine aw_cf rfl ?_ | ((first | refine aw_reg (fun K hK => ?_) | refine aw_drw mixd (fun K hK => ?_) | refine ar_call (cb p 0 ?_) | refine ard_call (db p 0 ?_) | refine ar_call (cb k1 0 ?_) | refine ard_call (db k1 0 ?_) | refine ar_call (cb i1 0 ?_) | refine ard_call (db i1 0 ?_) | refine ar_call (cb hq 0 ?_) | refine ard_call (db hq 0 ?_) | refine ar_call (cb n 0 ?_) | refine ard_call (db n 0 ?_) | fail); simp -implicitDefEqProofs) | refine hK _ ?_ | refine hK _ _ (by rfl) ?_ | fail)
    refine aw_ret (fin_box ?_); simp -implicitDefEqProofs [FinB, resV, resT] <;> try rfl
set_option maxRecDepth 100000 in
set_option maxHeartbeats 4000000 in
theorem pext_row (i : Nat) (h : isK sAt (nxt ts i) = true) (hE : ∀ j, i < j → j ≤ ts.length → PR 178 [] ts j (Qx ts 1 j)) : PR 186 [] ts i (atoG ts (Qx ts 1) i) := by
  rw [ato_cal ts h (.inr (.inl rfl))]
  have hlt := isK_lt h
  have p := place_row ts i 0
  have w := want_yes ts i sAt (by decide) (by omega) h
  unfold calG
  rw [if_neg (k_sgn h).1, if_neg (by simp [isK_no h (b := sOpen) (by decide)]), if_pos h]
  clear h
  by_cases h : (nxt ts (i + 1)).k = 1; rotate_left
  · rw [if_pos h]
    have k1 := kind_no ts (i + 1) 0 1 (.inr h)
    have q := called_err ts (i + 1) 6 (by decide)
    have n := node_no ts (i + 1) 6 (by decide) i (.mk ⟨17, 0, ⟨#[]⟩, 0, 0⟩ [z0])
    rw [show er 0 = 6 from rfl] at k1
    refine ⟨z0, fun _ => rfl, ?_⟩
    clear hE h
    refine row_of Tryz.func186 rfl rfl (Nat.le_of_ble_eq_true rfl) ?_
    repeat' (first | refine aw_seq ?_ | refine aw_skip ?_ | refine aw_block ?_ | refine aw_exit ?_ | refine aw_ct rfl ?_ | refine aw_cf rfl ?_ | ((first | refine aw_reg (fun K hK => ?_) | refine aw_drw mixd (fun K hK => ?_) | refine ar_call (cb p 0 ?_) | refine ard_call (db p 0 ?_) | refine ar_call (cb w 0 ?_) | refine ard_call (db w 0 ?_) | refine ar_call (cb k1 0 ?_) | refine ard_call (db k1 0 ?_) | refine ar_call (cb q 0 ?_) | refine ard_call (db q 0 ?_) | refine ar_call (cb n 0 ?_) | refine ard_call (db n 0 ?_) | fail); simp -implicitDefEqProofs [zK]) | refine hK _ ?_ | refine hK _ _ (by rfl) ?_ | fail)
    refine aw_ret (fin_box ?_); simp -implicitDefEqProofs [FinB, resV, resT, bad7] <;> try rfl
  rw [if_neg (by simp [h])]
  obtain ⟨x, hx, hxn, hxk⟩ := kind_at h (by decide)
  have hlt2 := (List.getElem?_eq_some_iff.1 hx).1
  rw [hxn]
  have k1 := kind_yes ts (i + 1) 1 x (by omega) hx hxk
  obtain ⟨xk, xn, xs, xf, xt⟩ := x
  dsimp only at hxk
  subst hxk
  clear hxn hx h
  obtain ⟨l, hll, hq⟩ := called_row ts hl (i + 1 + 1) (by omega) (fun j h1 h2 => hE j (by omega) h2)
  have hc := cloG_ok (Q_ok (ts := ts) 1) true sParO sParS (show i + 1 + 1 ≤ ts.length by omega)
  unfold finC
  obtain ⟨⟨c1, c2, c3⟩, hr⟩ : ∃ r, cloG ts (Qx ts 1) (i + 1 + 1) true sParO sParS = r := ⟨_, rfl⟩
  rw [hr] at hq hc hll
  rw [show cloG ts (Qx ts 1) (i + 2) true sParO sParS = (c1, c2, c3) from hr]
  dsimp only at hll ⊢
  have hle := hc.le
  dsimp only at hle
  by_cases hc3 : c3 = 0
  · subst hc3
    have hll := hll rfl
    subst hll
    have n := node_yes ts c2 i ⟨17, 0, xs, 0, 0⟩ l hlt (by omega) hle.2 (by omega)
    rw [if_neg (by simp)]
    refine ⟨_, fun _ => rfl, ?_⟩
    clear hE hr hc
    refine row_of Tryz.func186 rfl rfl (Nat.le_of_ble_eq_true rfl) ?_
    repeat' (first | refine aw_seq ?_ | refine aw_skip ?_ | refine aw_block ?_ | refine aw_exit ?_ | refine aw_ct rfl ?_ | refine aw_cf rfl ?_ | ((first | refine aw_reg (fun K hK => ?_) | refine aw_drw mixd (fun K hK => ?_) | refine ar_call (cb p 0 ?_) | refine ard_call (db p 0 ?_) | refine ar_call (cb w 0 ?_) | refine ard_call (db w 0 ?_) | refine ar_call (cb k1 0 ?_) | refine ard_call (db k1 0 ?_) | refine ar_call (cb hq 0 ?_) | refine ard_call (db hq 0 ?_) | refine ar_call (cb n 0 ?_) | refine ard_call (db n 0 ?_) | fail); simp -implicitDefEqProofs) | refine hK _ ?_ | refine hK _ _ (by rfl) ?_ | fail)
    refine aw_ret (fin_box ?_); simp -implicitDefEqProofs [FinB, resV, resT, mk7] <;> try rfl
  · have n := node_no ts c2 c3 hc3 i (.mk ⟨17, 0, xs, 0, 0⟩ l)
    rw [if_pos hc3]
    refine ⟨z0, fun _ => rfl, ?_⟩
    clear hE hr hc hll
    refine row_of Tryz.func186 rfl rfl (Nat.le_of_ble_eq_true rfl) ?_
    repeat' (first | refine aw_seq ?_ | refine aw_skip ?_ | refine aw_block ?_ | refine aw_exit ?_ | refine aw_ct rfl ?_ | refine aw_cf rfl ?_ | ((first | refine aw_reg (fun K hK => ?_) | refine aw_drw mixd (fun K hK => ?_) | refine ar_call (cb p 0 ?_) | refine ard_call (db p 0 ?_) | refine ar_call (cb w 0 ?_) | refine ard_call (db w 0 ?_) | refine ar_call (cb k1 0 ?_) | refine ard_call (db k1 0 ?_) | refine ar_call (cb hq 0 ?_) | refine ard_call (db hq 0 ?_) | refine ar_call (cb n 0 ?_) | refine ard_call (db n 0 ?_) | fail); simp -implicitDefEqProofs) | refine hK _ ?_ | refine hK _ _ (by rfl) ?_ | fail)
    refine aw_ret (fin_box ?_); simp -implicitDefEqProofs [FinB, resV, resT] <;> try rfl
set_option maxRecDepth 100000 in
set_option maxHeartbeats 4000000 in
theorem pinner_row (i : Nat) (h : isK sParO (nxt ts i) = true) (hE : ∀ j, i < j → j ≤ ts.length → PR 178 [] ts j (Qx ts 1 j)) : PR 187 [] ts i (atoG ts (Qx ts 1) i) := by
  rw [ato_par ts h]
  have hlt := isK_lt h
  have w := want_yes ts i sParO (by decide) (by omega) h
  obtain ⟨⟨tx, tl⟩, ht, hq⟩ := hE (i + 1) (by omega) (by omega)
  have hk := Q_ok (ts := ts) 1 (i + 1) (by omega)
  obtain ⟨⟨⟨rx, rl⟩, r2, r3⟩, hr⟩ : ∃ r, Qx ts 1 (i + 1) = r := ⟨_, rfl⟩
  rw [hr] at hq hk ht ⊢
  clear h hr hE
  by_cases hr3 : r3 = 0; rotate_left
  · rw [if_pos hr3]
    have h6 := (hk.no hr3).1
    dsimp only at h6
    subst h6
    have w2 := want_no ts r2 6 sParS (by decide) (.inl (by decide))
    rw [show er 6 = 6 from rfl] at w2
    refine ⟨.mk tx tl, fun h => by simp at h, ?_⟩
    clear hk ht
    refine row_of Tryz.func187 rfl rfl (Nat.le_of_ble_eq_true rfl) ?_
    repeat' (first | refine aw_seq ?_ | refine aw_skip ?_ | refine aw_block ?_ | refine aw_exit ?_ | refine aw_ct rfl ?_ | refine aw_cf rfl ?_ | ((first | refine aw_reg (fun K hK => ?_) | refine aw_drw mixd (fun K hK => ?_) | refine ar_call (cb w 0 ?_) | refine ard_call (db w 0 ?_) | refine ar_call (cb hq 0 ?_) | refine ard_call (db hq 0 ?_) | refine ar_call (cb w2 0 ?_) | refine ard_call (db w2 0 ?_) | fail); simp -implicitDefEqProofs) | refine hK _ ?_ | refine hK _ _ (by rfl) ?_ | fail)
    refine aw_ret (fin_box ?_); simp -implicitDefEqProofs [FinB, resV, resT] <;> try rfl
  subst hr3
  rw [if_neg (by simp)]
  have hyy := hk.yes rfl
  replace ht := ht rfl
  dsimp only at hyy ht ⊢
  injection ht with ht1 ht2
  subst ht1 ht2
  by_cases e : isK sParS (nxt ts r2) = true; rotate_left
  · have e : isK sParS (nxt ts r2) = false := by simpa using e
    rw [if_pos e]
    have w2 := want_no ts r2 0 sParS (by decide) (.inr e)
    rw [show er 0 = 6 from rfl] at w2
    refine ⟨.mk tx tl, fun h => by simp [bad7] at h, ?_⟩
    clear hk e
    refine row_of Tryz.func187 rfl rfl (Nat.le_of_ble_eq_true rfl) ?_
    repeat' (first | refine aw_seq ?_ | refine aw_skip ?_ | refine aw_block ?_ | refine aw_exit ?_ | refine aw_ct rfl ?_ | refine aw_cf rfl ?_ | ((first | refine aw_reg (fun K hK => ?_) | refine aw_drw mixd (fun K hK => ?_) | refine ar_call (cb w 0 ?_) | refine ard_call (db w 0 ?_) | refine ar_call (cb hq 0 ?_) | refine ard_call (db hq 0 ?_) | refine ar_call (cb w2 0 ?_) | refine ard_call (db w2 0 ?_) | fail); simp -implicitDefEqProofs) | refine hK _ ?_ | refine hK _ _ (by rfl) ?_ | fail)
    refine aw_ret (fin_box ?_); simp -implicitDefEqProofs [FinB, resV, resT, bad7] <;> try rfl
  rw [if_neg (by simp [e])]
  have hlt2 := isK_lt e
  have w2 := want_yes ts r2 sParS (by decide) (by omega) e
  refine ⟨.mk tx tl, fun _ => rfl, ?_⟩
  clear hk e
  refine row_of Tryz.func187 rfl rfl (Nat.le_of_ble_eq_true rfl) ?_
  repeat' (first | refine aw_seq ?_ | refine aw_skip ?_ | refine aw_block ?_ | refine aw_exit ?_ | refine aw_ct rfl ?_ | refine aw_cf rfl ?_ | ((first | refine aw_reg (fun K hK => ?_) | refine aw_drw mixd (fun K hK => ?_) | refine ar_call (cb w 0 ?_) | refine ard_call (db w 0 ?_) | refine ar_call (cb hq 0 ?_) | refine ard_call (db hq 0 ?_) | refine ar_call (cb w2 0 ?_) | refine ard_call (db w2 0 ?_) | fail); simp -implicitDefEqProofs) | refine hK _ ?_ | refine hK _ _ (by rfl) ?_ | fail)
  refine aw_ret (fin_box ?_); simp -implicitDefEqProofs [FinB, resV, resT] <;> try rfl
set_option maxRecDepth 100000 in
set_option maxHeartbeats 4000000 in
theorem plisted_row (i : Nat) (h : isK sOpen (nxt ts i) = true) (hE : ∀ j, i < j → j ≤ ts.length → PR 178 [] ts j (Qx ts 1 j)) : PR 188 [] ts i (atoG ts (Qx ts 1) i) := by
  rw [ato_cal ts h (.inl rfl)]
  have hlt := isK_lt h
  have p := place_row ts i 0
  have w := want_yes ts i sOpen (by decide) (by omega) h
  unfold calG
  rw [if_neg (k_sgn h).1, if_pos h]
  unfold cloG
  rw [if_neg (by simp [h]), if_neg (by simp)]
  clear h
  obtain ⟨l, hll, hq⟩ := plist_row ts hl (i + 1) (by omega) (fun j h1 h2 => hE j (by omega) h2)
  have hc := lpC_ok (Q_ok (ts := ts) 1) (ts.length + 1) (i + 1) [] (by omega)
  obtain ⟨⟨c1, c2, c3⟩, hr⟩ : ∃ r, lpC ts (Qx ts 1) (ts.length + 1) (i + 1) [] = r := ⟨_, rfl⟩
  rw [hr] at hq hc hll ⊢
  have hle := hc.le
  dsimp only at hle hll
  clear hE hr
  by_cases hc3 : c3 = 0; rotate_left
  · rw [if_pos hc3]
    have h6 := hc.no hc3
    dsimp only at h6
    subst h6
    have w2 := want_no ts c2 6 sShut (by decide) (.inl (by decide))
    rw [show er 6 = 6 from rfl] at w2
    have n := node_no ts c2 6 (by decide) i (.mk ⟨14, 0, ⟨#[]⟩, 0, 0⟩ l)
    unfold finC
    rw [if_pos (by simp)]
    refine ⟨z0, fun _ => rfl, ?_⟩
    clear hc hll
    refine row_of Tryz.func188 rfl rfl (Nat.le_of_ble_eq_true rfl) ?_
    repeat' (first | refine aw_seq ?_ | refine aw_skip ?_ | refine aw_block ?_ | refine aw_exit ?_ | refine aw_ct rfl ?_ | refine aw_cf rfl ?_ | ((first | refine aw_reg (fun K hK => ?_) | refine aw_drw mixd (fun K hK => ?_) | refine ar_call (cb p 0 ?_) | refine ard_call (db p 0 ?_) | refine ar_call (cb w 0 ?_) | refine ard_call (db w 0 ?_) | refine ar_call (cb hq 0 ?_) | refine ard_call (db hq 0 ?_) | refine ar_call (cb w2 0 ?_) | refine ard_call (db w2 0 ?_) | refine ar_call (cb n 0 ?_) | refine ard_call (db n 0 ?_) | fail); simp -implicitDefEqProofs) | refine hK _ ?_ | refine hK _ _ (by rfl) ?_ | fail)
    refine aw_ret (fin_box ?_); simp -implicitDefEqProofs [FinB, resV, resT] <;> try rfl
  subst hc3
  have hll := hll rfl
  subst hll
  rw [if_neg (by simp)]
  dsimp only
  by_cases e3 : isK sShut (nxt ts c2) = true
  · rw [if_neg (by simp [e3])]
    have hlt2 := isK_lt e3
    have w2 := want_yes ts c2 sShut (by decide) (by omega) e3
    have n := node_yes ts (c2 + 1) i ⟨14, 0, ⟨#[]⟩, 0, 0⟩ l hlt (by omega) (by omega) (by omega)
    unfold finC
    rw [if_neg (by simp)]
    refine ⟨_, fun _ => rfl, ?_⟩
    clear hc e3
    refine row_of Tryz.func188 rfl rfl (Nat.le_of_ble_eq_true rfl) ?_
    repeat' (first | refine aw_seq ?_ | refine aw_skip ?_ | refine aw_block ?_ | refine aw_exit ?_ | refine aw_ct rfl ?_ | refine aw_cf rfl ?_ | ((first | refine aw_reg (fun K hK => ?_) | refine aw_drw mixd (fun K hK => ?_) | refine ar_call (cb p 0 ?_) | refine ard_call (db p 0 ?_) | refine ar_call (cb w 0 ?_) | refine ard_call (db w 0 ?_) | refine ar_call (cb hq 0 ?_) | refine ard_call (db hq 0 ?_) | refine ar_call (cb w2 0 ?_) | refine ard_call (db w2 0 ?_) | refine ar_call (cb n 0 ?_) | refine ard_call (db n 0 ?_) | fail); simp -implicitDefEqProofs) | refine hK _ ?_ | refine hK _ _ (by rfl) ?_ | fail)
    refine aw_ret (fin_box ?_); simp -implicitDefEqProofs [FinB, resV, resT, mk7] <;> try rfl
  · have e3 : isK sShut (nxt ts c2) = false := by simpa using e3
    rw [if_pos e3]
    have w2 := want_no ts c2 0 sShut (by decide) (.inr e3)
    rw [show er 0 = 6 from rfl] at w2
    have n := node_no ts c2 6 (by decide) i (.mk ⟨14, 0, ⟨#[]⟩, 0, 0⟩ l)
    unfold finC
    rw [if_pos (by simp)]
    refine ⟨z0, fun _ => rfl, ?_⟩
    clear hc e3
    refine row_of Tryz.func188 rfl rfl (Nat.le_of_ble_eq_true rfl) ?_
    repeat' (first | refine aw_seq ?_ | refine aw_skip ?_ | refine aw_block ?_ | refine aw_exit ?_ | refine aw_ct rfl ?_ | refine aw_cf rfl ?_ | ((first | refine aw_reg (fun K hK => ?_) | refine aw_drw mixd (fun K hK => ?_) | refine ar_call (cb p 0 ?_) | refine ard_call (db p 0 ?_) | refine ar_call (cb w 0 ?_) | refine ard_call (db w 0 ?_) | refine ar_call (cb hq 0 ?_) | refine ard_call (db hq 0 ?_) | refine ar_call (cb w2 0 ?_) | refine ard_call (db w2 0 ?_) | refine ar_call (cb n 0 ?_) | refine ard_call (db n 0 ?_) | fail); simp -implicitDefEqProofs) | refine hK _ ?_ | refine hK _ _ (by rfl) ?_ | fail)
    refine aw_ret (fin_box ?_); simp -implicitDefEqProofs [FinB, resV, resT] <;> try rfl
end
end Go.Proofs.YtlkggpjdaaglmaaGreatDoor.am
end
section
namespace Go.Proofs.YtlkggpjdaaglmaaGreatDoor.am
open Go.ChangeShapes Go.WideShapes Go.ChangeAt Go.RowKit
open vt
set_option linter.unusedVariables false
set_option linter.unusedSimpArgs false
section
variable (ts : List Tok) (hl : ts.length ≤ 3000000000000)
include hl
set_option maxRecDepth 100000 in
set_option maxHeartbeats 4000000 in
theorem pmade_row (i : Nat) (h : isK wNew (nxt ts i) = true) (hE : ∀ j, i < j → j ≤ ts.length → PR 178 [] ts j (Qx ts 1 j)) : PR 189 [] ts i (atoG ts (Qx ts 1) i) := by
  rw [ato_cal ts h (.inr (.inr rfl))]
  have hlt := isK_lt h
  have p := place_row ts i 0
  have w := want_yes ts i wNew (by decide) (by omega) h
  unfold calG
  rw [if_neg (k_sgn h).1, if_neg (by simp [isK_no h (b := sOpen) (by decide)]), if_neg (by simp [isK_no h (b := sAt) (by decide)]), if_pos h]
  clear h
  by_cases h : (nxt ts (i + 1)).k = 1; rotate_left
  · rw [if_pos h]
    have k1 := kind_no ts (i + 1) 0 1 (.inr h)
    have w1 := want_no ts (i + 1) 6 sParO (by decide) (.inl (by decide))
    have q := list_err ts (i + 1) 6 (by decide)
    have w2 := want_no ts (i + 1) 6 sParS (by decide) (.inl (by decide))
    have n := node_no ts (i + 1) 6 (by decide) i (.mk ⟨15, 0, ⟨#[]⟩, 0, 0⟩ [z0])
    rw [show er 0 = 6 from rfl] at k1
    rw [show er 6 = 6 from rfl] at w1 w2
    refine ⟨z0, fun _ => rfl, ?_⟩
    clear hE h
    refine row_of Tryz.func189 rfl rfl (Nat.le_of_ble_eq_true rfl) ?_
    repeat' (first | refine aw_seq ?_ | refine aw_skip ?_ | refine aw_block ?_ | refine aw_exit ?_ | refine aw_ct rfl ?_ | refine aw_cf rfl ?_ | ((first | refine aw_reg (fun K hK => ?_) | refine aw_drw mixd (fun K hK => ?_) | refine ar_call (cb p 0 ?_) | refine ard_call (db p 0 ?_) | refine ar_call (cb w 0 ?_) | refine ard_call (db w 0 ?_) | refine ar_call (cb k1 0 ?_) | refine ard_call (db k1 0 ?_) | refine ar_call (cb w1 0 ?_) | refine ard_call (db w1 0 ?_) | refine ar_call (cb q 0 ?_) | refine ard_call (db q 0 ?_) | refine ar_call (cb w2 0 ?_) | refine ard_call (db w2 0 ?_) | refine ar_call (cb n 0 ?_) | refine ard_call (db n 0 ?_) | fail); simp -implicitDefEqProofs [zK]) | refine hK _ ?_ | refine hK _ _ (by rfl) ?_ | fail)
    refine aw_ret (fin_box ?_); simp -implicitDefEqProofs [FinB, resV, resT, bad7] <;> try rfl
  rw [if_neg (by simp [h])]
  obtain ⟨x, hx, hxn, hxk⟩ := kind_at h (by decide)
  have hlt2 := (List.getElem?_eq_some_iff.1 hx).1
  rw [hxn]
  have k1 := kind_yes ts (i + 1) 1 x (by omega) hx hxk
  obtain ⟨xk, xn, xs, xf, xt⟩ := x
  dsimp only at hxk
  subst hxk
  clear hxn hx h
  unfold cloG
  by_cases e1 : isK sParO (nxt ts (i + 1 + 1)) = true; rotate_left
  · have e1 : isK sParO (nxt ts (i + 1 + 1)) = false := by simpa using e1
    have w1 := want_no ts (i + 1 + 1) 0 sParO (by decide) (.inr e1)
    have q := list_err ts (i + 1 + 1) 6 (by decide)
    have w2 := want_no ts (i + 1 + 1) 6 sParS (by decide) (.inl (by decide))
    have n := node_no ts (i + 1 + 1) 6 (by decide) i (.mk ⟨15, 0, xs, 0, 0⟩ [z0])
    rw [show er 0 = 6 from rfl] at w1
    rw [show er 6 = 6 from rfl] at w2
    rw [show isK sParO (nxt ts (i + 2)) = false from e1, if_pos rfl]
    unfold finC
    rw [if_pos (by simp)]
    refine ⟨z0, fun _ => rfl, ?_⟩
    clear hE e1
    refine row_of Tryz.func189 rfl rfl (Nat.le_of_ble_eq_true rfl) ?_
    repeat' (first | refine aw_seq ?_ | refine aw_skip ?_ | refine aw_block ?_ | refine aw_exit ?_ | refine aw_ct rfl ?_ | refine aw_cf rfl ?_ | ((first | refine aw_reg (fun K hK => ?_) | refine aw_drw mixd (fun K hK => ?_) | refine ar_call (cb p 0 ?_) | refine ard_call (db p 0 ?_) | refine ar_call (cb w 0 ?_) | refine ard_call (db w 0 ?_) | refine ar_call (cb k1 0 ?_) | refine ard_call (db k1 0 ?_) | refine ar_call (cb w1 0 ?_) | refine ard_call (db w1 0 ?_) | refine ar_call (cb q 0 ?_) | refine ard_call (db q 0 ?_) | refine ar_call (cb w2 0 ?_) | refine ard_call (db w2 0 ?_) | refine ar_call (cb n 0 ?_) | refine ard_call (db n 0 ?_) | fail); simp -implicitDefEqProofs) | refine hK _ ?_ | refine hK _ _ (by rfl) ?_ | fail)
    refine aw_ret (fin_box ?_); simp -implicitDefEqProofs [FinB, resV, resT] <;> try rfl
  have w1 := want_yes ts (i + 1 + 1) sParO (by decide) (by omega) e1
  have hlt3 := isK_lt e1
  rw [show isK sParO (nxt ts (i + 2)) = true from e1, if_neg (by simp), if_neg (by simp)]
  clear e1
  obtain ⟨l, hll, hq⟩ := plist_row ts hl (i + 1 + 1 + 1) (by omega) (fun j h1 h2 => hE j (by omega) h2)
  have hc := lpC_ok (Q_ok (ts := ts) 1) (ts.length + 1) (i + 1 + 1 + 1) [] (by omega)
  obtain ⟨⟨c1, c2, c3⟩, hr⟩ : ∃ r, lpC ts (Qx ts 1) (ts.length + 1) (i + 1 + 1 + 1) [] = r := ⟨_, rfl⟩
  rw [hr] at hq hc hll
  rw [show lpC ts (Qx ts 1) (ts.length + 1) (i + 2 + 1) [] = (c1, c2, c3) from hr]
  have hle := hc.le
  dsimp only at hle hll
  clear hE hr
  by_cases hc3 : c3 = 0; rotate_left
  · rw [if_pos hc3]
    have h6 := hc.no hc3
    dsimp only at h6
    subst h6
    have w2 := want_no ts c2 6 sParS (by decide) (.inl (by decide))
    rw [show er 6 = 6 from rfl] at w2
    have n := node_no ts c2 6 (by decide) i (.mk ⟨15, 0, xs, 0, 0⟩ l)
    unfold finC
    rw [if_pos (by simp)]
    refine ⟨z0, fun _ => rfl, ?_⟩
    clear hc hll
    refine row_of Tryz.func189 rfl rfl (Nat.le_of_ble_eq_true rfl) ?_
    repeat' (first | refine aw_seq ?_ | refine aw_skip ?_ | refine aw_block ?_ | refine aw_exit ?_ | refine aw_ct rfl ?_ | refine aw_cf rfl ?_ | ((first | refine aw_reg (fun K hK => ?_) | refine aw_drw mixd (fun K hK => ?_) | refine ar_call (cb p 0 ?_) | refine ard_call (db p 0 ?_) | refine ar_call (cb w 0 ?_) | refine ard_call (db w 0 ?_) | refine ar_call (cb k1 0 ?_) | refine ard_call (db k1 0 ?_) | refine ar_call (cb w1 0 ?_) | refine ard_call (db w1 0 ?_) | refine ar_call (cb hq 0 ?_) | refine ard_call (db hq 0 ?_) | refine ar_call (cb w2 0 ?_) | refine ard_call (db w2 0 ?_) | refine ar_call (cb n 0 ?_) | refine ard_call (db n 0 ?_) | fail); simp -implicitDefEqProofs) | refine hK _ ?_ | refine hK _ _ (by rfl) ?_ | fail)
    refine aw_ret (fin_box ?_); simp -implicitDefEqProofs [FinB, resV, resT] <;> try rfl
  subst hc3
  have hll := hll rfl
  subst hll
  rw [if_neg (by simp)]
  dsimp only
  by_cases e3 : isK sParS (nxt ts c2) = true
  · rw [if_neg (by simp [e3])]
    have hlt2 := isK_lt e3
    have w2 := want_yes ts c2 sParS (by decide) (by omega) e3
    have n := node_yes ts (c2 + 1) i ⟨15, 0, xs, 0, 0⟩ l hlt (by omega) (by omega) (by omega)
    unfold finC
    rw [if_neg (by simp)]
    refine ⟨_, fun _ => rfl, ?_⟩
    clear hc e3
    refine row_of Tryz.func189 rfl rfl (Nat.le_of_ble_eq_true rfl) ?_
    repeat' (first | refine aw_seq ?_ | refine aw_skip ?_ | refine aw_block ?_ | refine aw_exit ?_ | refine aw_ct rfl ?_ | refine aw_cf rfl ?_ | ((first | refine aw_reg (fun K hK => ?_) | refine aw_drw mixd (fun K hK => ?_) | refine ar_call (cb p 0 ?_) | refine ard_call (db p 0 ?_) | refine ar_call (cb w 0 ?_) | refine ard_call (db w 0 ?_) | refine ar_call (cb k1 0 ?_) | refine ard_call (db k1 0 ?_) | refine ar_call (cb w1 0 ?_) | refine ard_call (db w1 0 ?_) | refine ar_call (cb hq 0 ?_) | refine ard_call (db hq 0 ?_) | refine ar_call (cb w2 0 ?_) | refine ard_call (db w2 0 ?_) | refine ar_call (cb n 0 ?_) | refine ard_call (db n 0 ?_) | fail); simp -implicitDefEqProofs) | refine hK _ ?_ | refine hK _ _ (by rfl) ?_ | fail)
    refine aw_ret (fin_box ?_); simp -implicitDefEqProofs [FinB, resV, resT, mk7] <;> try rfl
  · have e3 : isK sParS (nxt ts c2) = false := by simpa using e3
    rw [if_pos e3]
    have w2 := want_no ts c2 0 sParS (by decide) (.inr e3)
    rw [show er 0 = 6 from rfl] at w2
    have n := node_no ts c2 6 (by decide) i (.mk ⟨15, 0, xs, 0, 0⟩ l)
    unfold finC
    rw [if_pos (by simp)]
    refine ⟨z0, fun _ => rfl, ?_⟩
    clear hc e3
    refine row_of Tryz.func189 rfl rfl (Nat.le_of_ble_eq_true rfl) ?_
    repeat' (first | refine aw_seq ?_ | refine aw_skip ?_ | refine aw_block ?_ | refine aw_exit ?_ | refine aw_ct rfl ?_ | refine aw_cf rfl ?_ | ((first | refine aw_reg (fun K hK => ?_) | refine aw_drw mixd (fun K hK => ?_) | refine ar_call (cb p 0 ?_) | refine ard_call (db p 0 ?_) | refine ar_call (cb w 0 ?_) | refine ard_call (db w 0 ?_) | refine ar_call (cb k1 0 ?_) | refine ard_call (db k1 0 ?_) | refine ar_call (cb w1 0 ?_) | refine ard_call (db w1 0 ?_) | refine ar_call (cb hq 0 ?_) | refine ard_call (db hq 0 ?_) | refine ar_call (cb w2 0 ?_) | refine ard_call (db w2 0 ?_) | refine ar_call (cb n 0 ?_) | refine ard_call (db n 0 ?_) | fail); simp -implicitDefEqProofs) | refine hK _ ?_ | refine hK _ _ (by rfl) ?_ | fail)
    refine aw_ret (fin_box ?_); simp -implicitDefEqProofs [FinB, resV, resT] <;> try rfl
set_option maxRecDepth 100000 in
set_option maxHeartbeats 4000000 in
theorem pliteral_row (i : Nat) (hi : i ≤ ts.length) (h1 : (nxt ts i).k ≠ 1) (h2 : isK sAt (nxt ts i) = false) (h3 : isK sParO (nxt ts i) = false) (h4 : isK sOpen (nxt ts i) = false) (h5 : isK wNew (nxt ts i) = false) : PR 190 [] ts i (atoG ts (Qx ts 1) i) := by
  have p := place_row ts i 0
  have o := next_row ts i 0
  have s := skip_row ts i 0 (by omega)
  have i1 := is7_row ts i 0 wTrue (by decide)
  have i2 := is7_row ts i 0 wFals (by decide)
  have i3 := is7_row ts i 0 wRead (by decide)
  have f := fail_row ts i 0
  rw [show er 0 = 6 from rfl] at f
  unfold atoG
  by_cases e1 : (nxt ts i).k = 2
  · have hlt := k_lt e1 (by decide)
    rw [if_pos e1]
    rw [if_pos ⟨rfl, hlt⟩] at s
    have n := node_yes ts (i + 1) i ⟨5, (nxt ts i).n, ⟨#[]⟩, 0, 0⟩ [] hlt (by omega) (by omega) (by omega)
    refine ⟨_, fun _ => rfl, ?_⟩
    refine row_of Tryz.func190 rfl rfl (Nat.le_of_ble_eq_true rfl) ?_
    repeat' (first | refine aw_seq ?_ | refine aw_skip ?_ | refine aw_block ?_ | refine aw_exit ?_ | refine aw_ct rfl ?_ | refine aw_cf rfl ?_ | ((first | refine aw_reg (fun K hK => ?_) | refine aw_drw mixd (fun K hK => ?_) | refine ar_call (cb p 0 ?_) | refine ard_call (db p 0 ?_) | refine ar_call (cb o 0 ?_) | refine ard_call (db o 0 ?_) | refine ar_call (cb s 0 ?_) | refine ard_call (db s 0 ?_) | refine ar_call (cb n 0 ?_) | refine ard_call (db n 0 ?_) | fail); simp -implicitDefEqProofs [e1]) | refine hK _ ?_ | refine hK _ _ (by rfl) ?_ | fail)
    refine aw_ret (fin_box ?_); simp -implicitDefEqProofs [FinB, resV, resT, mk7] <;> try rfl
  rw [if_neg e1]
  by_cases e2 : isK wTrue (nxt ts i) = true
  · have hlt := isK_lt e2
    rw [if_pos e2]
    rw [if_pos ⟨rfl, hlt⟩] at s
    rw [e2] at i1
    have n := node_yes ts (i + 1) i ⟨6, 1, ⟨#[]⟩, 0, 0⟩ [] hlt (by omega) (by omega) (by omega)
    refine ⟨_, fun _ => rfl, ?_⟩
    clear e2
    refine row_of Tryz.func190 rfl rfl (Nat.le_of_ble_eq_true rfl) ?_
    repeat' (first | refine aw_seq ?_ | refine aw_skip ?_ | refine aw_block ?_ | refine aw_exit ?_ | refine aw_ct rfl ?_ | refine aw_cf rfl ?_ | ((first | refine aw_reg (fun K hK => ?_) | refine aw_drw mixd (fun K hK => ?_) | refine ar_call (cb p 0 ?_) | refine ard_call (db p 0 ?_) | refine ar_call (cb o 0 ?_) | refine ard_call (db o 0 ?_) | refine ar_call (cb i1 0 ?_) | refine ard_call (db i1 0 ?_) | refine ar_call (cb s 0 ?_) | refine ard_call (db s 0 ?_) | refine ar_call (cb n 0 ?_) | refine ard_call (db n 0 ?_) | fail); simp -implicitDefEqProofs [e1]) | refine hK _ ?_ | refine hK _ _ (by rfl) ?_ | fail)
    refine aw_ret (fin_box ?_); simp -implicitDefEqProofs [FinB, resV, resT, mk7] <;> try rfl
  rw [if_neg e2]
  rw [show isK wTrue (nxt ts i) = false by simpa using e2] at i1
  clear e2
  by_cases e2 : isK wFals (nxt ts i) = true
  · have hlt := isK_lt e2
    rw [if_pos e2]
    rw [if_pos ⟨rfl, hlt⟩] at s
    rw [e2] at i2
    have n := node_yes ts (i + 1) i ⟨6, 0, ⟨#[]⟩, 0, 0⟩ [] hlt (by omega) (by omega) (by omega)
    refine ⟨_, fun _ => rfl, ?_⟩
    clear e2
    refine row_of Tryz.func190 rfl rfl (Nat.le_of_ble_eq_true rfl) ?_
    repeat' (first | refine aw_seq ?_ | refine aw_skip ?_ | refine aw_block ?_ | refine aw_exit ?_ | refine aw_ct rfl ?_ | refine aw_cf rfl ?_ | ((first | refine aw_reg (fun K hK => ?_) | refine aw_drw mixd (fun K hK => ?_) | refine ar_call (cb p 0 ?_) | refine ard_call (db p 0 ?_) | refine ar_call (cb o 0 ?_) | refine ard_call (db o 0 ?_) | refine ar_call (cb i1 0 ?_) | refine ard_call (db i1 0 ?_) | refine ar_call (cb i2 0 ?_) | refine ard_call (db i2 0 ?_) | refine ar_call (cb s 0 ?_) | refine ard_call (db s 0 ?_) | refine ar_call (cb n 0 ?_) | refine ard_call (db n 0 ?_) | fail); simp -implicitDefEqProofs [e1]) | refine hK _ ?_ | refine hK _ _ (by rfl) ?_ | fail)
    refine aw_ret (fin_box ?_); simp -implicitDefEqProofs [FinB, resV, resT, mk7] <;> try rfl
  rw [if_neg e2]
  rw [show isK wFals (nxt ts i) = false by simpa using e2] at i2
  clear e2
  by_cases e2 : isK wRead (nxt ts i) = true
  · have hlt := isK_lt e2
    rw [if_pos e2]
    rw [if_pos ⟨rfl, hlt⟩] at s
    rw [e2] at i3
    have n := node_yes ts (i + 1) i ⟨18, 0, ⟨#[]⟩, 0, 0⟩ [] hlt (by omega) (by omega) (by omega)
    refine ⟨_, fun _ => rfl, ?_⟩
    clear e2
    refine row_of Tryz.func190 rfl rfl (Nat.le_of_ble_eq_true rfl) ?_
    repeat' (first | refine aw_seq ?_ | refine aw_skip ?_ | refine aw_block ?_ | refine aw_exit ?_ | refine aw_ct rfl ?_ | refine aw_cf rfl ?_ | ((first | refine aw_reg (fun K hK => ?_) | refine aw_drw mixd (fun K hK => ?_) | refine ar_call (cb p 0 ?_) | refine ard_call (db p 0 ?_) | refine ar_call (cb o 0 ?_) | refine ard_call (db o 0 ?_) | refine ar_call (cb i1 0 ?_) | refine ard_call (db i1 0 ?_) | refine ar_call (cb i2 0 ?_) | refine ard_call (db i2 0 ?_) | refine ar_call (cb i3 0 ?_) | refine ard_call (db i3 0 ?_) | refine ar_call (cb s 0 ?_) | refine ard_call (db s 0 ?_) | refine ar_call (cb n 0 ?_) | refine ard_call (db n 0 ?_) | fail); simp -implicitDefEqProofs [e1]) | refine hK _ ?_ | refine hK _ _ (by rfl) ?_ | fail)
    refine aw_ret (fin_box ?_); simp -implicitDefEqProofs [FinB, resV, resT, mk7] <;> try rfl
  rw [if_neg e2, if_neg (fun hh => h1 hh.1), if_neg (by simp [h3])]
  rw [show isK wRead (nxt ts i) = false by simpa using e2] at i3
  unfold calG
  rw [if_neg h1, if_neg (by simp [h4]), if_neg (by simp [h2]), if_neg (by simp [h5])]
  refine ⟨z0, fun _ => rfl, ?_⟩
  clear e2 h2 h3 h4 h5
  refine row_of Tryz.func190 rfl rfl (Nat.le_of_ble_eq_true rfl) ?_
  repeat' (first | refine aw_seq ?_ | refine aw_skip ?_ | refine aw_block ?_ | refine aw_exit ?_ | refine aw_ct rfl ?_ | refine aw_cf rfl ?_ | ((first | refine aw_reg (fun K hK => ?_) | refine aw_drw mixd (fun K hK => ?_) | refine ar_call (cb p 0 ?_) | refine ard_call (db p 0 ?_) | refine ar_call (cb o 0 ?_) | refine ard_call (db o 0 ?_) | refine ar_call (cb i1 0 ?_) | refine ard_call (db i1 0 ?_) | refine ar_call (cb i2 0 ?_) | refine ard_call (db i2 0 ?_) | refine ar_call (cb i3 0 ?_) | refine ard_call (db i3 0 ?_) | refine ar_call (cb f 0 ?_) | refine ard_call (db f 0 ?_) | fail); simp -implicitDefEqProofs [e1]) | refine hK _ ?_ | refine hK _ _ (by rfl) ?_ | fail)
  refine aw_ret (fin_box ?_); simp -implicitDefEqProofs [FinB, resV, resT, bad7, z0] <;> try rfl
set_option maxRecDepth 100000 in
set_option maxHeartbeats 4000000 in
theorem patom_step (i : Nat) (hi : i ≤ ts.length) (hE : ∀ j, i < j → j ≤ ts.length → PR 178 [] ts j (Qx ts 1 j)) : PR 183 [] ts i (Qx ts 8 i) := by
  rw [Q_eq 8 i (by decide) (by decide) hi, show bG ts (Qx ts) 8 i = atoG ts (Qx ts 1) i by unfold bG; rw [if_neg (by decide), if_neg (by decide), if_neg (by decide)]]
  have g := goes_row ts i 0
  have o := next_row ts i 0
  have i1 := is7_row ts i 0 sAt (by decide)
  have i2 := is7_row ts i 0 sParO (by decide)
  have i3 := is7_row ts i 0 sOpen (by decide)
  have i4 := is7_row ts i 0 wNew (by decide)
  by_cases e1 : (nxt ts i).k = 1
  · obtain ⟨⟨tx, tl⟩, ht, hq⟩ := pname_row ts hl i e1 hE
    refine ⟨.mk tx tl, ht, ?_⟩
    obtain ⟨⟨⟨rx, rl⟩, r2, r3⟩, hr⟩ : ∃ r, atoG ts (Qx ts 1) i = r := ⟨_, rfl⟩
    rw [hr] at hq ⊢
    clear hE ht hr
    refine row_of Tryz.func183 rfl rfl (Nat.le_of_ble_eq_true rfl) ?_
    repeat' (first | refine aw_seq ?_ | refine aw_skip ?_ | refine aw_block ?_ | refine aw_exit ?_ | refine aw_ct rfl ?_ | refine aw_cf rfl ?_ | ((first | refine aw_reg (fun K hK => ?_) | refine aw_drw mixd (fun K hK => ?_) | refine ar_call (cb g 0 ?_) | refine ard_call (db g 0 ?_) | refine ar_call (cb o 0 ?_) | refine ard_call (db o 0 ?_) | refine ar_call (cb hq 0 ?_) | refine ard_call (db hq 0 ?_) | fail); simp -implicitDefEqProofs [e1]) | refine hK _ ?_ | refine hK _ _ (by rfl) ?_ | fail)
    refine aw_ret (fin_box ?_); simp -implicitDefEqProofs [FinB, resV, resT] <;> try rfl
  by_cases e2 : isK sAt (nxt ts i) = true
  · obtain ⟨⟨tx, tl⟩, ht, hq⟩ := pext_row ts hl i e2 hE
    refine ⟨.mk tx tl, ht, ?_⟩
    obtain ⟨⟨⟨rx, rl⟩, r2, r3⟩, hr⟩ : ∃ r, atoG ts (Qx ts 1) i = r := ⟨_, rfl⟩
    rw [hr] at hq ⊢
    rw [e2] at i1
    clear hE ht hr e2
    refine row_of Tryz.func183 rfl rfl (Nat.le_of_ble_eq_true rfl) ?_
    repeat' (first | refine aw_seq ?_ | refine aw_skip ?_ | refine aw_block ?_ | refine aw_exit ?_ | refine aw_ct rfl ?_ | refine aw_cf rfl ?_ | ((first | refine aw_reg (fun K hK => ?_) | refine aw_drw mixd (fun K hK => ?_) | refine ar_call (cb g 0 ?_) | refine ard_call (db g 0 ?_) | refine ar_call (cb o 0 ?_) | refine ard_call (db o 0 ?_) | refine ar_call (cb i1 0 ?_) | refine ard_call (db i1 0 ?_) | refine ar_call (cb hq 0 ?_) | refine ard_call (db hq 0 ?_) | fail); simp -implicitDefEqProofs [e1]) | refine hK _ ?_ | refine hK _ _ (by rfl) ?_ | fail)
    refine aw_ret (fin_box ?_); simp -implicitDefEqProofs [FinB, resV, resT] <;> try rfl
  rw [show isK sAt (nxt ts i) = false by simpa using e2] at i1
  by_cases e3 : isK sParO (nxt ts i) = true
  · obtain ⟨⟨tx, tl⟩, ht, hq⟩ := pinner_row ts hl i e3 hE
    refine ⟨.mk tx tl, ht, ?_⟩
    obtain ⟨⟨⟨rx, rl⟩, r2, r3⟩, hr⟩ : ∃ r, atoG ts (Qx ts 1) i = r := ⟨_, rfl⟩
    rw [hr] at hq ⊢
    rw [e3] at i2
    clear hE ht hr e2 e3
    refine row_of Tryz.func183 rfl rfl (Nat.le_of_ble_eq_true rfl) ?_
    repeat' (first | refine aw_seq ?_ | refine aw_skip ?_ | refine aw_block ?_ | refine aw_exit ?_ | refine aw_ct rfl ?_ | refine aw_cf rfl ?_ | ((first | refine aw_reg (fun K hK => ?_) | refine aw_drw mixd (fun K hK => ?_) | refine ar_call (cb g 0 ?_) | refine ard_call (db g 0 ?_) | refine ar_call (cb o 0 ?_) | refine ard_call (db o 0 ?_) | refine ar_call (cb i1 0 ?_) | refine ard_call (db i1 0 ?_) | refine ar_call (cb i2 0 ?_) | refine ard_call (db i2 0 ?_) | refine ar_call (cb hq 0 ?_) | refine ard_call (db hq 0 ?_) | fail); simp -implicitDefEqProofs [e1]) | refine hK _ ?_ | refine hK _ _ (by rfl) ?_ | fail)
    refine aw_ret (fin_box ?_); simp -implicitDefEqProofs [FinB, resV, resT] <;> try rfl
  rw [show isK sParO (nxt ts i) = false by simpa using e3] at i2
  by_cases e4 : isK sOpen (nxt ts i) = true
  · obtain ⟨⟨tx, tl⟩, ht, hq⟩ := plisted_row ts hl i e4 hE
    refine ⟨.mk tx tl, ht, ?_⟩
    obtain ⟨⟨⟨rx, rl⟩, r2, r3⟩, hr⟩ : ∃ r, atoG ts (Qx ts 1) i = r := ⟨_, rfl⟩
    rw [hr] at hq ⊢
    rw [e4] at i3
    clear hE ht hr e2 e3 e4
    refine row_of Tryz.func183 rfl rfl (Nat.le_of_ble_eq_true rfl) ?_
    repeat' (first | refine aw_seq ?_ | refine aw_skip ?_ | refine aw_block ?_ | refine aw_exit ?_ | refine aw_ct rfl ?_ | refine aw_cf rfl ?_ | ((first | refine aw_reg (fun K hK => ?_) | refine aw_drw mixd (fun K hK => ?_) | refine ar_call (cb g 0 ?_) | refine ard_call (db g 0 ?_) | refine ar_call (cb o 0 ?_) | refine ard_call (db o 0 ?_) | refine ar_call (cb i1 0 ?_) | refine ard_call (db i1 0 ?_) | refine ar_call (cb i2 0 ?_) | refine ard_call (db i2 0 ?_) | refine ar_call (cb i3 0 ?_) | refine ard_call (db i3 0 ?_) | refine ar_call (cb hq 0 ?_) | refine ard_call (db hq 0 ?_) | fail); simp -implicitDefEqProofs [e1]) | refine hK _ ?_ | refine hK _ _ (by rfl) ?_ | fail)
    refine aw_ret (fin_box ?_); simp -implicitDefEqProofs [FinB, resV, resT] <;> try rfl
  rw [show isK sOpen (nxt ts i) = false by simpa using e4] at i3
  by_cases e5 : isK wNew (nxt ts i) = true
  · obtain ⟨⟨tx, tl⟩, ht, hq⟩ := pmade_row ts hl i e5 hE
    refine ⟨.mk tx tl, ht, ?_⟩
    obtain ⟨⟨⟨rx, rl⟩, r2, r3⟩, hr⟩ : ∃ r, atoG ts (Qx ts 1) i = r := ⟨_, rfl⟩
    rw [hr] at hq ⊢
    rw [e5] at i4
    clear hE ht hr e2 e3 e4 e5
    refine row_of Tryz.func183 rfl rfl (Nat.le_of_ble_eq_true rfl) ?_
    repeat' (first | refine aw_seq ?_ | refine aw_skip ?_ | refine aw_block ?_ | refine aw_exit ?_ | refine aw_ct rfl ?_ | refine aw_cf rfl ?_ | ((first | refine aw_reg (fun K hK => ?_) | refine aw_drw mixd (fun K hK => ?_) | refine ar_call (cb g 0 ?_) | refine ard_call (db g 0 ?_) | refine ar_call (cb o 0 ?_) | refine ard_call (db o 0 ?_) | refine ar_call (cb i1 0 ?_) | refine ard_call (db i1 0 ?_) | refine ar_call (cb i2 0 ?_) | refine ard_call (db i2 0 ?_) | refine ar_call (cb i3 0 ?_) | refine ard_call (db i3 0 ?_) | refine ar_call (cb i4 0 ?_) | refine ard_call (db i4 0 ?_) | refine ar_call (cb hq 0 ?_) | refine ard_call (db hq 0 ?_) | fail); simp -implicitDefEqProofs [e1]) | refine hK _ ?_ | refine hK _ _ (by rfl) ?_ | fail)
    refine aw_ret (fin_box ?_); simp -implicitDefEqProofs [FinB, resV, resT] <;> try rfl
  rw [show isK wNew (nxt ts i) = false by simpa using e5] at i4
  obtain ⟨⟨tx, tl⟩, ht, hq⟩ := pliteral_row ts hl i hi e1 (by simpa using e2) (by simpa using e3) (by simpa using e4) (by simpa using e5)
  refine ⟨.mk tx tl, ht, ?_⟩
  obtain ⟨⟨⟨rx, rl⟩, r2, r3⟩, hr⟩ : ∃ r, atoG ts (Qx ts 1) i = r := ⟨_, rfl⟩
  rw [hr] at hq ⊢
  clear hE ht hr e2 e3 e4 e5
  refine row_of Tryz.func183 rfl rfl (Nat.le_of_ble_eq_true rfl) ?_
  repeat' (first | refine aw_seq ?_ | refine aw_skip ?_ | refine aw_block ?_ | refine aw_exit ?_ | refine aw_ct rfl ?_ | refine aw_cf rfl ?_ | ((first | refine aw_reg (fun K hK => ?_) | refine aw_drw mixd (fun K hK => ?_) | refine ar_call (cb g 0 ?_) | refine ard_call (db g 0 ?_) | refine ar_call (cb o 0 ?_) | refine ard_call (db o 0 ?_) | refine ar_call (cb i1 0 ?_) | refine ard_call (db i1 0 ?_) | refine ar_call (cb i2 0 ?_) | refine ard_call (db i2 0 ?_) | refine ar_call (cb i3 0 ?_) | refine ard_call (db i3 0 ?_) | refine ar_call (cb i4 0 ?_) | refine ard_call (db i4 0 ?_) | refine ar_call (cb hq 0 ?_) | refine ard_call (db hq 0 ?_) | fail); simp -implicitDefEqProofs [e1]) | refine hK _ ?_ | refine hK _ _ (by rfl) ?_ | fail)
  refine aw_ret (fin_box ?_); simp -implicitDefEqProofs [FinB, resV, resT] <;> try rfl
end
end Go.Proofs.YtlkggpjdaaglmaaGreatDoor.am
end
