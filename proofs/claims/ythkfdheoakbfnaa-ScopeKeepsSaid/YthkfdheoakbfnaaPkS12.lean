import Derived.Test.YthkfdheoakbfnaaPkS11
section
namespace Go.Proofs.Ythkfdheoakbfnaa.am
open Go.ChangeShapes Go.WideShapes Go.ChangeAt Go.RowKit
open vt
set_option linter.unusedVariables false
set_option linter.unusedSimpArgs false
section
variable (ts : List Tok) (hl : ts.length ≤ 1000000000)
structure InvP (i : Nat) (x : Nat × Got) : Prop where
  eq : lpP ts (Qx ts 1) i x.1 x.2 = Qx ts 7 i
  ok : OkG ts i x.2
  fuel : x.2.2.2 = 0 → ts.length < x.1 + x.2.2.1
include hl
set_option maxRecDepth 100000 in
set_option maxHeartbeats 4000000 in
theorem post_step (i : Nat) (hi : i ≤ ts.length) (h8 : Row Try.prog 110 [vKs ts, vI i] [] (vG (Qx ts 8 i)) []) (hE : ∀ j, i < j → j ≤ ts.length → Row Try.prog 128 [vKs ts, vI j] [] (vG (Qx ts 1 j)) []) : Row Try.prog 142 [vKs ts, vI i] [] (vG (Qx ts 7 i)) [] := by
  have h0 : InvP ts i (ts.length + 1, Qx ts 8 i) := by
    have ho := Q_ok (ts := ts) 8 i hi
    refine ⟨?_, ho, fun h => by dsimp only; omega⟩
    rw [Q_eq 7 i (by decide) (by decide) hi]; unfold bG; rw [if_neg (by decide), if_neg (by decide), if_pos rfl]
  refine row_of Try.func142 rfl rfl (Nat.le_of_ble_eq_true rfl) ?_
  obtain ⟨⟨⟨ax, al⟩, a2, a3⟩, hr⟩ : ∃ r, Qx ts 8 i = r := ⟨_, rfl⟩
  rw [hr] at h8 h0
  repeat' (first | refine aw_seq ?_ | refine aw_skip ?_ | refine aw_block ?_ | refine aw_exit ?_ | refine aw_ct rfl ?_ | refine aw_cf rfl ?_ | ((first | refine aw_reg (fun K hK => ?_) | refine aw_drw mixd (fun K hK => ?_) | refine ar_call (cp h8 ?_) | refine ard_call (dp h8 ?_) | fail); simp -implicitDefEqProofs) | refine hK _ ?_ | refine hK _ _ (by rfl) ?_ | fail)
  refine aw_lp (ι := Nat × Got) (fun x => mkSt [(0, vKs ts), (1, vI i), (4, .v (.c (.ptr 0 0))), (5, .v (.c (.ptr 1 0)))] [some zG, some (gb x.2)]) (InvP ts i) (fun x => x.1) (ts.length + 1, (.mk ax al, a2, a3)) h0 (cov_intro [0, 11] (by simp -implicitDefEqProofs) (by simp -implicitDefEqProofs) (by decide) rfl (by simp)) (fun Z hI x hx => ?_)
  clear h0 hr h8
  obtain ⟨m, ⟨⟨px, pl⟩, j, e⟩⟩ := x
  obtain ⟨x1, x2, x3⟩ := hx
  dsimp only at x1 x2 x3 ⊢
  by_cases he : e = 0; rotate_left
  · have hd : Qx ts 7 i = (.mk px pl, j, e) := by
      rw [← x1]
      cases m
      · rfl
      · rw [lpP, if_pos he]
    rw [hd]
    repeat (first | refine aw_seq ?_ | refine aw_skip ?_ | refine aw_block ?_ | refine aw_exit ?_ | refine aw_ct rfl ?_ | refine aw_cf rfl ?_ | ((first | refine aw_reg (fun K hK => ?_) | refine aw_drw mixd (fun K hK => ?_) | fail); simp -implicitDefEqProofs [he]; first | refine hK _ ?_ | refine hK _ _ (by rfl) ?_ | fail) | fail)
    refine aw_ret (fin_ret ?_); simp -implicitDefEqProofs [FinP, resV, resT] <;> try rfl
  subst he
  have x3 := x3 rfl
  have hy := x2.yes rfl
  dsimp only at hy
  obtain ⟨m, rfl⟩ : ∃ m', m = m' + 1 := ⟨m - 1, by omega⟩
  have q1 := sign_row ts j sOpen
  rw [sign_is (by decide)] at q1
  have q2 := sign_row ts j sDot
  rw [sign_is (by decide)] at q2
  have w1 : IntKind.i64.wrap ((j : Nat) + 1 : Int) = (j : Nat) + 1 := i64i _ (by omega) (by omega)
  rw [lpP, if_neg (by simp)] at x1
  dsimp only at x1
  by_cases e1 : isK sOpen (nxt ts j) = true
  · have hlt := isK_lt e1
    rw [if_pos e1] at x1
    rw [e1] at q1
    have hq := hE (j + 1) (by omega) (by omega)
    have hk := Q_ok (ts := ts) 1 (j + 1) (by omega)
    obtain ⟨⟨⟨rx, rl⟩, r2, r3⟩, hr⟩ : ∃ r, Qx ts 1 (j + 1) = r := ⟨_, rfl⟩
    rw [hr] at hq hk x1
    by_cases hr3 : r3 = 0; rotate_left
    · rw [if_pos hr3] at x1
      rw [← x1]
      clear x1 hr hE x2 hk q2 e1
      repeat' (first | refine aw_seq ?_ | refine aw_skip ?_ | refine aw_block ?_ | refine aw_exit ?_ | refine aw_ct rfl ?_ | refine aw_cf rfl ?_ | ((first | refine aw_reg (fun K hK => ?_) | refine aw_drw mixd (fun K hK => ?_) | refine ar_call (cp q1 ?_) | refine ard_call (dp q1 ?_) | refine ar_call (cp hq ?_) | refine ard_call (dp hq ?_) | fail); simp -implicitDefEqProofs [hr3, w1]) | refine hK _ ?_ | refine hK _ _ (by rfl) ?_ | fail)
      refine aw_ret (fin_ret ?_); simp -implicitDefEqProofs [FinP, resV, resT] <;> try rfl
    subst hr3
    rw [if_neg (by simp)] at x1
    have hyy := hk.yes rfl
    dsimp only at hyy x1
    have q3 := sign_row ts r2 sShut
    rw [sign_is (by decide)] at q3
    by_cases e3 : isK sShut (nxt ts r2) = true; rotate_left
    · have e3 : isK sShut (nxt ts r2) = false := by simpa using e3
      rw [if_pos e3] at x1
      rw [← x1]
      rw [e3] at q3
      have b := bad_row r2
      clear x1 hr hE x2 hk q2 e1 e3
      repeat' (first | refine aw_seq ?_ | refine aw_skip ?_ | refine aw_block ?_ | refine aw_exit ?_ | refine aw_ct rfl ?_ | refine aw_cf rfl ?_ | ((first | refine aw_reg (fun K hK => ?_) | refine aw_drw mixd (fun K hK => ?_) | refine ar_call (cp q1 ?_) | refine ard_call (dp q1 ?_) | refine ar_call (cp hq ?_) | refine ard_call (dp hq ?_) | refine ar_call (cp q3 ?_) | refine ard_call (dp q3 ?_) | refine ar_call (cp b ?_) | refine ard_call (dp b ?_) | fail); simp -implicitDefEqProofs [w1]) | refine hK _ ?_ | refine hK _ _ (by rfl) ?_ | fail)
      refine aw_ret (fin_ret ?_); simp -implicitDefEqProofs [FinP, resV, resT, bad7, z0] <;> try rfl
    have hlt2 := isK_lt e3
    have w2 : IntKind.i64.wrap ((r2 : Nat) + 1 : Int) = (r2 : Nat) + 1 := i64i _ (by omega) (by omega)
    rw [if_neg (by simp [e3])] at x1
    rw [e3] at q3
    have m7 := rmk_row ts hl i (r2 + 1) 12 0 ⟨#[]⟩ [.mk px pl, .mk rx rl] (by omega) (by omega)
    have nx : InvP ts i (m, mk7 ts i (r2 + 1) 12 0 ⟨#[]⟩ [.mk px pl, .mk rx rl]) := ⟨x1, ok_mk (by omega) (by omega), fun _ => by show ts.length < m + (r2 + 1); omega⟩
    clear x1 hr hE x2 hk q2 e1 e3
    repeat' (first | refine aw_seq ?_ | refine aw_skip ?_ | refine aw_block ?_ | refine aw_exit ?_ | refine aw_ct rfl ?_ | refine aw_cf rfl ?_ | ((first | refine aw_reg (fun K hK => ?_) | refine aw_drw mixd (fun K hK => ?_) | refine ar_call (cp q1 ?_) | refine ard_call (dp q1 ?_) | refine ar_call (cp hq ?_) | refine ard_call (dp hq ?_) | refine ar_call (cp q3 ?_) | refine ard_call (dp q3 ?_) | refine ar_call (cp m7 ?_) | refine ard_call (dp m7 ?_) | fail); simp -implicitDefEqProofs [w1, w2]) | refine hK _ ?_ | refine hK _ _ (by rfl) ?_ | fail)
    refine ⟨(_, _), nx, (by dsimp only; omega), ?_⟩; rw [hI]; exact cov_intro [0, 1] (by simp -implicitDefEqProofs [mk7]) (by simp -implicitDefEqProofs [mk7]) (by decide) rfl (by simp)
  have e1 : isK sOpen (nxt ts j) = false := by simpa using e1
  rw [if_neg (by simp [e1])] at x1
  rw [e1] at q1
  by_cases e2 : isK sDot (nxt ts j) = true; rotate_left
  · rw [if_neg e2] at x1
    rw [← x1]
    rw [show isK sDot (nxt ts j) = false by simpa using e2] at q2
    clear x1 hE x2 e1 e2
    repeat' (first | refine aw_seq ?_ | refine aw_skip ?_ | refine aw_block ?_ | refine aw_exit ?_ | refine aw_ct rfl ?_ | refine aw_cf rfl ?_ | ((first | refine aw_reg (fun K hK => ?_) | refine aw_drw mixd (fun K hK => ?_) | refine ar_call (cp q1 ?_) | refine ard_call (dp q1 ?_) | refine ar_call (cp q2 ?_) | refine ard_call (dp q2 ?_) | fail); simp -implicitDefEqProofs) | refine hK _ ?_ | refine hK _ _ (by rfl) ?_ | fail)
    refine aw_ret (fin_ret ?_); simp -implicitDefEqProofs [FinP, resV, resT] <;> try rfl
  rw [if_pos e2] at x1
  rw [e2] at q2
  have hlt := isK_lt e2
  have o := now_row ts (j + 1)
  by_cases e4 : (nxt ts (j + 1)).k = 1; rotate_left
  · rw [if_pos e4] at x1
    rw [← x1]
    have b := bad_row (j + 1)
    clear x1 hE x2 e1 e2
    repeat' (first | refine aw_seq ?_ | refine aw_skip ?_ | refine aw_block ?_ | refine aw_exit ?_ | refine aw_ct rfl ?_ | refine aw_cf rfl ?_ | ((first | refine aw_reg (fun K hK => ?_) | refine aw_drw mixd (fun K hK => ?_) | refine ar_call (cp q1 ?_) | refine ard_call (dp q1 ?_) | refine ar_call (cp q2 ?_) | refine ard_call (dp q2 ?_) | refine ar_call (cp o ?_) | refine ard_call (dp o ?_) | refine ar_call (cp b ?_) | refine ard_call (dp b ?_) | fail); simp -implicitDefEqProofs [w1, e4]) | refine hK _ ?_ | refine hK _ _ (by rfl) ?_ | fail)
    refine aw_ret (fin_ret ?_); simp -implicitDefEqProofs [FinP, resV, resT, bad7, z0] <;> try rfl
  rw [if_neg (by simp [e4])] at x1
  have hlt2 := k_lt e4 (by decide)
  have w2 : IntKind.i64.wrap ((j : Nat) + 2 : Int) = (j : Nat) + 2 := i64i _ (by omega) (by omega)
  have m7 := rmk_row ts hl i (j + 2) 13 0 (nxt ts (j + 1)).s [.mk px pl] (by omega) (by omega)
  have nx : InvP ts i (m, mk7 ts i (j + 2) 13 0 (nxt ts (j + 1)).s [.mk px pl]) := ⟨x1, ok_mk (by omega) (by omega), fun _ => by show ts.length < m + (j + 2); omega⟩
  clear x1 hE x2 e1 e2
  repeat' (first | refine aw_seq ?_ | refine aw_skip ?_ | refine aw_block ?_ | refine aw_exit ?_ | refine aw_ct rfl ?_ | refine aw_cf rfl ?_ | ((first | refine aw_reg (fun K hK => ?_) | refine aw_drw mixd (fun K hK => ?_) | refine ar_call (cp q1 ?_) | refine ard_call (dp q1 ?_) | refine ar_call (cp q2 ?_) | refine ard_call (dp q2 ?_) | refine ar_call (cp o ?_) | refine ard_call (dp o ?_) | refine ar_call (cp m7 ?_) | refine ard_call (dp m7 ?_) | fail); simp -implicitDefEqProofs [w1, w2, e4]) | refine hK _ ?_ | refine hK _ _ (by rfl) ?_ | fail)
  refine ⟨(_, _), nx, (by dsimp only; omega), ?_⟩; rw [hI]; exact cov_intro [0, 1] (by simp -implicitDefEqProofs [mk7]) (by simp -implicitDefEqProofs [mk7]) (by decide) rfl (by simp)
structure InvC (E : Nat → Got) (i : Nat) (x : Nat × Nat × List VT) : Prop where
  eq : lpC ts E x.1 x.2.1 x.2.2 = lpC ts E (ts.length + 1) i []
  le : i ≤ x.2.1 ∧ x.2.1 ≤ ts.length
  fuel : ts.length < x.1 + x.2.1
  few : x.2.2.length + x.1 ≤ ts.length + 1
set_option maxRecDepth 100000 in
set_option maxHeartbeats 4000000 in
theorem list_row (i : Nat) (hi : i ≤ ts.length) (hE : ∀ j, i ≤ j → j ≤ ts.length → Row Try.prog 128 [vKs ts, vI j] [] (vG (Qx ts 1 j)) []) : Row Try.prog 141 [vKs ts, vI i] [] (vC3 (lpC ts (Qx ts 1) (ts.length + 1) i [])) [] := by
  have h0 : InvC ts (Qx ts 1) i (ts.length + 1, i, []) := ⟨rfl, ⟨Nat.le_refl _, hi⟩, by dsimp only; omega, by simp⟩
  refine row_of Try.func141 rfl rfl (Nat.le_of_ble_eq_true rfl) ?_
  repeat (first | refine aw_seq ?_ | refine aw_skip ?_ | refine aw_block ?_ | refine aw_exit ?_ | refine aw_ct rfl ?_ | refine aw_cf rfl ?_ | ((first | refine aw_reg (fun K hK => ?_) | refine aw_drw mixd (fun K hK => ?_) | fail); simp -implicitDefEqProofs; first | refine hK _ ?_ | refine hK _ _ (by rfl) ?_ | fail) | fail)
  refine aw_lp (ι := Nat × Nat × List VT) (fun x => mkSt [(0, vKs ts), (1, vI (x.2.1 : Nat)), (7, .v (.c (.row 0 6 (x.2.2.map tc))))] [some (.row 25 6)]) (InvC ts (Qx ts 1) i) (fun x => x.1) (ts.length + 1, i, []) h0 (cov_intro [3] (by simp -implicitDefEqProofs) (by simp -implicitDefEqProofs) (by decide) rfl (by simp)) (fun Z hI x hx => ?_)
  clear h0
  obtain ⟨m, j, acc⟩ := x
  obtain ⟨x1, x2, x3, x4⟩ := hx
  dsimp only at x1 x2 x3 x4 ⊢
  obtain ⟨m, rfl⟩ : ∃ m', m = m' + 1 := ⟨m - 1, by omega⟩
  have hq := hE j x2.1 x2.2
  have hk := Q_ok (ts := ts) 1 j x2.2
  rw [lpC] at x1
  obtain ⟨⟨⟨rx, rl⟩, r2, r3⟩, hr⟩ : ∃ r, Qx ts 1 j = r := ⟨_, rfl⟩
  rw [hr] at hq hk x1
  by_cases hr3 : r3 = 0; rotate_left
  · rw [if_pos hr3] at x1
    rw [← x1]
    clear x1 hr hE hk
    repeat' (first | refine aw_seq ?_ | refine aw_skip ?_ | refine aw_block ?_ | refine aw_exit ?_ | refine aw_ct rfl ?_ | refine aw_cf rfl ?_ | ((first | refine aw_reg (fun K hK => ?_) | refine aw_drw mixd (fun K hK => ?_) | refine ar_call (cp hq ?_) | refine ard_call (dp hq ?_) | fail); simp -implicitDefEqProofs [hr3]) | refine hK _ ?_ | refine hK _ _ (by rfl) ?_ | fail)
    refine aw_ret (fin_ret ?_); simp -implicitDefEqProofs [FinP, resV, resT] <;> try rfl
  subst hr3
  rw [if_neg (by simp)] at x1
  have hyy := hk.yes rfl
  dsimp only at hyy x1
  have b1 : (acc.length + 1) * 72 ≤ 140737488355328 := by omega
  have b2 : acc.length + 1 ≤ 140737488355328 := by omega
  have q3 := sign_row ts r2 sCom
  rw [sign_is (by decide)] at q3
  by_cases e3 : isK sCom (nxt ts r2) = true; rotate_left
  · have e3 : isK sCom (nxt ts r2) = false := by simpa using e3
    rw [if_pos e3] at x1
    rw [← x1]
    rw [e3] at q3
    clear x1 hr hE hk e3
    repeat' (first | refine aw_seq ?_ | refine aw_skip ?_ | refine aw_block ?_ | refine aw_exit ?_ | refine aw_ct rfl ?_ | refine aw_cf rfl ?_ | ((first | refine aw_reg (fun K hK => ?_) | refine aw_drw mixd (fun K hK => ?_) | refine ar_call (cp hq ?_) | refine ard_call (dp hq ?_) | refine ar_call (cp q3 ?_) | refine ard_call (dp q3 ?_) | fail); simp -implicitDefEqProofs [b1, b2]) | refine hK _ ?_ | refine hK _ _ (by rfl) ?_ | fail)
    refine aw_ret (fin_ret ?_); simp -implicitDefEqProofs [FinP, resV, resT] <;> try rfl
  have hlt2 := isK_lt e3
  have w2 : IntKind.i64.wrap ((r2 : Nat) + 1 : Int) = (r2 : Nat) + 1 := i64i _ (by omega) (by omega)
  rw [if_neg (by simp [e3])] at x1
  rw [e3] at q3
  have nx : InvC ts (Qx ts 1) i (m, r2 + 1, acc ++ [.mk rx rl]) := ⟨x1, by dsimp only; omega, by dsimp only; omega, by dsimp only; rw [List.length_append]; simp only [List.length_cons, List.length_nil]; omega⟩
  clear x1 hr hE hk e3
  repeat' (first | refine aw_seq ?_ | refine aw_skip ?_ | refine aw_block ?_ | refine aw_exit ?_ | refine aw_ct rfl ?_ | refine aw_cf rfl ?_ | ((first | refine aw_reg (fun K hK => ?_) | refine aw_drw mixd (fun K hK => ?_) | refine ar_call (cp hq ?_) | refine ard_call (dp hq ?_) | refine ar_call (cp q3 ?_) | refine ard_call (dp q3 ?_) | fail); simp -implicitDefEqProofs [b1, b2, w2]) | refine hK _ ?_ | refine hK _ _ (by rfl) ?_ | fail)
  refine ⟨(_, _, _), nx, (by dsimp only; omega), ?_⟩; rw [hI]; exact cov_intro [20] (by simp -implicitDefEqProofs) (by simp -implicitDefEqProofs) (by decide) rfl (by simp)
end
end Go.Proofs.Ythkfdheoakbfnaa.am
end
section
namespace Go.Proofs.Ythkfdheoakbfnaa.am
open Go.ChangeShapes Go.WideShapes Go.ChangeAt Go.RowKit
open vt
set_option linter.unusedVariables false
set_option linter.unusedSimpArgs false
section
variable (ts : List Tok) (hl : ts.length ≤ 1000000000)
include hl
set_option maxRecDepth 100000 in
set_option maxHeartbeats 4000000 in
theorem closed_row (o : Nat) (few : Bool) (fs ls : ByteArray) (hf : quo fs = 4) (hs : quo ls = 4) (ho : o ≤ ts.length) (hE : ∀ j, o < j → j ≤ ts.length → Row Try.prog 128 [vKs ts, vI j] [] (vG (Qx ts 1 j)) []) : Row Try.prog 135 [vKs ts, vI o, vB few, vS fs, vS ls] [] (vC3 (cloG ts (Qx ts 1) o few fs ls)) [] := by
  have q1 := sign_row ts o fs
  rw [sign_is hf] at q1
  have w1 : IntKind.i64.wrap ((o : Nat) + 1 : Int) = (o : Nat) + 1 := i64i _ (by omega) (by omega)
  have w2 : IntKind.i64.wrap ((o : Nat) + 2 : Int) = (o : Nat) + 2 := i64i _ (by omega) (by omega)
  unfold cloG
  by_cases e1 : isK fs (nxt ts o) = true; rotate_left
  · have e1 : isK fs (nxt ts o) = false := by simpa using e1
    rw [if_pos e1]
    rw [e1] at q1
    clear e1 hE
    refine row_of Try.func135 rfl rfl (Nat.le_of_ble_eq_true rfl) ?_
    repeat' (first | refine aw_seq ?_ | refine aw_skip ?_ | refine aw_block ?_ | refine aw_exit ?_ | refine aw_ct rfl ?_ | refine aw_cf rfl ?_ | ((first | refine aw_reg (fun K hK => ?_) | refine aw_drw mixd (fun K hK => ?_) | refine ar_call (cp q1 ?_) | refine ard_call (dp q1 ?_) | fail); simp -implicitDefEqProofs) | refine hK _ ?_ | refine hK _ _ (by rfl) ?_ | fail)
    refine aw_ret (fin_ret ?_); simp -implicitDefEqProofs [FinP, resV, resT] <;> try rfl
  have hlt := isK_lt e1
  rw [if_neg (by simp [e1])]
  rw [e1] at q1
  have q2 := sign_row ts (o + 1) ls
  rw [sign_is hs] at q2
  by_cases e2 : few = true ∧ isK ls (nxt ts (o + 1)) = true
  · rw [if_pos e2]
    obtain ⟨rfl, e2⟩ := e2
    rw [e2] at q2
    clear e1 e2 hE
    refine row_of Try.func135 rfl rfl (Nat.le_of_ble_eq_true rfl) ?_
    repeat' (first | refine aw_seq ?_ | refine aw_skip ?_ | refine aw_block ?_ | refine aw_exit ?_ | refine aw_ct rfl ?_ | refine aw_cf rfl ?_ | ((first | refine aw_reg (fun K hK => ?_) | refine aw_drw mixd (fun K hK => ?_) | refine ar_call (cp q1 ?_) | refine ard_call (dp q1 ?_) | refine ar_call (cp q2 ?_) | refine ard_call (dp q2 ?_) | fail); simp -implicitDefEqProofs [w1, w2]) | refine hK _ ?_ | refine hK _ _ (by rfl) ?_ | fail)
    refine aw_ret (fin_ret ?_); simp -implicitDefEqProofs [FinP, resV, resT] <;> try rfl
  rw [if_neg e2]
  have hq := list_row ts hl (o + 1) (by omega) (fun j h1 h2 => hE j (by omega) h2)
  have hc := lpC_ok (Q_ok (ts := ts) 1) (ts.length + 1) (o + 1) [] (by omega)
  obtain ⟨⟨c1, c2, c3⟩, hr⟩ : ∃ r, lpC ts (Qx ts 1) (ts.length + 1) (o + 1) [] = r := ⟨_, rfl⟩
  rw [hr] at hq hc ⊢
  obtain ⟨b2, hb2⟩ : ∃ b, isK ls (nxt ts (o + 1)) = b := ⟨_, rfl⟩
  rw [hb2] at q2 e2
  have q3 := sign_row ts c2 ls
  rw [sign_is hs] at q3
  have hle := hc.le
  dsimp only at hle
  have w3 : IntKind.i64.wrap ((c2 : Nat) + 1 : Int) = (c2 : Nat) + 1 := i64i _ (by omega) (by omega)
  by_cases hc3 : c3 = 0; rotate_left
  · rw [if_pos hc3]
    clear hE hr hb2 hc e1
    cases few
    · refine row_of Try.func135 rfl rfl (Nat.le_of_ble_eq_true rfl) ?_
      repeat' (first | refine aw_seq ?_ | refine aw_skip ?_ | refine aw_block ?_ | refine aw_exit ?_ | refine aw_ct rfl ?_ | refine aw_cf rfl ?_ | ((first | refine aw_reg (fun K hK => ?_) | refine aw_drw mixd (fun K hK => ?_) | refine ar_call (cp q1 ?_) | refine ard_call (dp q1 ?_) | refine ar_call (cp q2 ?_) | refine ard_call (dp q2 ?_) | refine ar_call (cp hq ?_) | refine ard_call (dp hq ?_) | fail); simp -implicitDefEqProofs [w1, w2, hc3]) | refine hK _ ?_ | refine hK _ _ (by rfl) ?_ | fail)
      refine aw_ret (fin_ret ?_); simp -implicitDefEqProofs [FinP, resV, resT] <;> try rfl
    · obtain rfl : b2 = false := by simpa using e2
      refine row_of Try.func135 rfl rfl (Nat.le_of_ble_eq_true rfl) ?_
      repeat' (first | refine aw_seq ?_ | refine aw_skip ?_ | refine aw_block ?_ | refine aw_exit ?_ | refine aw_ct rfl ?_ | refine aw_cf rfl ?_ | ((first | refine aw_reg (fun K hK => ?_) | refine aw_drw mixd (fun K hK => ?_) | refine ar_call (cp q1 ?_) | refine ard_call (dp q1 ?_) | refine ar_call (cp q2 ?_) | refine ard_call (dp q2 ?_) | refine ar_call (cp hq ?_) | refine ard_call (dp hq ?_) | fail); simp -implicitDefEqProofs [w1, w2, hc3]) | refine hK _ ?_ | refine hK _ _ (by rfl) ?_ | fail)
      refine aw_ret (fin_ret ?_); simp -implicitDefEqProofs [FinP, resV, resT] <;> try rfl
  subst hc3
  rw [if_neg (by simp)]
  dsimp only
  by_cases e3 : isK ls (nxt ts c2) = true
  · rw [if_neg (by simp [e3])]
    rw [e3] at q3
    clear hE hr hb2 hc e1 e3
    cases few
    · refine row_of Try.func135 rfl rfl (Nat.le_of_ble_eq_true rfl) ?_
      repeat' (first | refine aw_seq ?_ | refine aw_skip ?_ | refine aw_block ?_ | refine aw_exit ?_ | refine aw_ct rfl ?_ | refine aw_cf rfl ?_ | ((first | refine aw_reg (fun K hK => ?_) | refine aw_drw mixd (fun K hK => ?_) | refine ar_call (cp q1 ?_) | refine ard_call (dp q1 ?_) | refine ar_call (cp q2 ?_) | refine ard_call (dp q2 ?_) | refine ar_call (cp hq ?_) | refine ard_call (dp hq ?_) | refine ar_call (cp q3 ?_) | refine ard_call (dp q3 ?_) | fail); simp -implicitDefEqProofs [w1, w2, w3]) | refine hK _ ?_ | refine hK _ _ (by rfl) ?_ | fail)
      refine aw_ret (fin_ret ?_); simp -implicitDefEqProofs [FinP, resV, resT] <;> try rfl
    · obtain rfl : b2 = false := by simpa using e2
      refine row_of Try.func135 rfl rfl (Nat.le_of_ble_eq_true rfl) ?_
      repeat' (first | refine aw_seq ?_ | refine aw_skip ?_ | refine aw_block ?_ | refine aw_exit ?_ | refine aw_ct rfl ?_ | refine aw_cf rfl ?_ | ((first | refine aw_reg (fun K hK => ?_) | refine aw_drw mixd (fun K hK => ?_) | refine ar_call (cp q1 ?_) | refine ard_call (dp q1 ?_) | refine ar_call (cp q2 ?_) | refine ard_call (dp q2 ?_) | refine ar_call (cp hq ?_) | refine ard_call (dp hq ?_) | refine ar_call (cp q3 ?_) | refine ard_call (dp q3 ?_) | fail); simp -implicitDefEqProofs [w1, w2, w3]) | refine hK _ ?_ | refine hK _ _ (by rfl) ?_ | fail)
      refine aw_ret (fin_ret ?_); simp -implicitDefEqProofs [FinP, resV, resT] <;> try rfl
  · have e3 : isK ls (nxt ts c2) = false := by simpa using e3
    rw [if_pos e3]
    rw [e3] at q3
    clear hE hr hb2 hc e1 e3
    cases few
    · refine row_of Try.func135 rfl rfl (Nat.le_of_ble_eq_true rfl) ?_
      repeat' (first | refine aw_seq ?_ | refine aw_skip ?_ | refine aw_block ?_ | refine aw_exit ?_ | refine aw_ct rfl ?_ | refine aw_cf rfl ?_ | ((first | refine aw_reg (fun K hK => ?_) | refine aw_drw mixd (fun K hK => ?_) | refine ar_call (cp q1 ?_) | refine ard_call (dp q1 ?_) | refine ar_call (cp q2 ?_) | refine ard_call (dp q2 ?_) | refine ar_call (cp hq ?_) | refine ard_call (dp hq ?_) | refine ar_call (cp q3 ?_) | refine ard_call (dp q3 ?_) | fail); simp -implicitDefEqProofs [w1, w2, w3]) | refine hK _ ?_ | refine hK _ _ (by rfl) ?_ | fail)
      refine aw_ret (fin_ret ?_); simp -implicitDefEqProofs [FinP, resV, resT] <;> try rfl
    · obtain rfl : b2 = false := by simpa using e2
      refine row_of Try.func135 rfl rfl (Nat.le_of_ble_eq_true rfl) ?_
      repeat' (first | refine aw_seq ?_ | refine aw_skip ?_ | refine aw_block ?_ | refine aw_exit ?_ | refine aw_ct rfl ?_ | refine aw_cf rfl ?_ | ((first | refine aw_reg (fun K hK => ?_) | refine aw_drw mixd (fun K hK => ?_) | refine ar_call (cp q1 ?_) | refine ard_call (dp q1 ?_) | refine ar_call (cp q2 ?_) | refine ard_call (dp q2 ?_) | refine ar_call (cp hq ?_) | refine ard_call (dp hq ?_) | refine ar_call (cp q3 ?_) | refine ard_call (dp q3 ?_) | fail); simp -implicitDefEqProofs [w1, w2, w3]) | refine hK _ ?_ | refine hK _ _ (by rfl) ?_ | fail)
      refine aw_ret (fin_ret ?_); simp -implicitDefEqProofs [FinP, resV, resT] <;> try rfl
structure FinR (i o : Nat) (k : Int) (s : ByteArray) (c : List VT × Nat × Int) : Prop where
  no : c.2.2 ≠ 0 → finC ts i k s c = (z0, c.2.1, c.2.2)
  yes : c.2.2 = 0 → Row Try.prog 69 [vKs ts, vI i, vI c.2.1, vI k, vI 0, vS s, vLs c.1] [] (vG (finC ts i k s c)) []
set_option maxRecDepth 100000 in
set_option maxHeartbeats 4000000 in
theorem fin_row (i o : Nat) (k : Int) (s : ByteArray) (c : List VT × Nat × Int) (h : OkC ts o c) (hi : i ≤ o) : FinR ts i o k s c := by
  refine ⟨fun h => by unfold finC; rw [if_pos h], fun h0 => ?_⟩
  unfold finC
  rw [if_neg (by simp [h0])]
  have := h.yes h0
  exact rmk_row ts hl i c.2.1 k 0 s c.1 (by omega) h.le.2
set_option maxRecDepth 100000 in
set_option maxHeartbeats 4000000 in
theorem called_step (i : Nat) (hi : i ≤ ts.length) (hE : ∀ j, i < j → j ≤ ts.length → Row Try.prog 128 [vKs ts, vI j] [] (vG (Qx ts 1 j)) []) : Row Try.prog 129 [vKs ts, vI i] [] (vG (calG ts (Qx ts 1) i)) [] := by
  have o := now_row ts i
  have q1 := sign_row ts i sOpen
  rw [sign_is (by decide)] at q1
  have q2 := sign_row ts i sAt
  rw [sign_is (by decide)] at q2
  have q3 := word_row ts i wNew
  rw [word_is (by decide)] at q3
  have w1 : IntKind.i64.wrap ((i : Nat) + 1 : Int) = (i : Nat) + 1 := i64i _ (by omega) (by omega)
  have w2 : IntKind.i64.wrap ((i : Nat) + 2 : Int) = (i : Nat) + 2 := i64i _ (by omega) (by omega)
  unfold calG
  by_cases e1 : (nxt ts i).k = 1
  · have hlt := k_lt e1 (by decide)
    rw [if_pos e1]
    have hq := closed_row ts hl (i + 1) true sParO sParS (by decide) (by decide) (by omega) (fun j h1 h2 => hE j (by omega) h2)
    have hf := fin_row ts hl i (i + 1) 16 (nxt ts i).s _ (cloG_ok (Q_ok (ts := ts) 1) true sParO sParS (by omega)) (by omega)
    obtain ⟨⟨c1, c2, c3⟩, hr⟩ : ∃ r, cloG ts (Qx ts 1) (i + 1) true sParO sParS = r := ⟨_, rfl⟩
    rw [hr] at hq hf ⊢
    clear hE hr
    by_cases h3 : c3 = 0
    · subst h3
      have m := hf.yes rfl
      dsimp only at m
      refine row_of Try.func129 rfl rfl (Nat.le_of_ble_eq_true rfl) ?_
      repeat' (first | refine aw_seq ?_ | refine aw_skip ?_ | refine aw_block ?_ | refine aw_exit ?_ | refine aw_ct rfl ?_ | refine aw_cf rfl ?_ | ((first | refine aw_reg (fun K hK => ?_) | refine aw_drw mixd (fun K hK => ?_) | refine ar_call (cp o ?_) | refine ard_call (dp o ?_) | refine ar_call (cp hq ?_) | refine ard_call (dp hq ?_) | refine ar_call (cp m ?_) | refine ard_call (dp m ?_) | fail); simp -implicitDefEqProofs [w1, e1]) | refine hK _ ?_ | refine hK _ _ (by rfl) ?_ | fail)
      refine aw_ret (fin_ret ?_); simp -implicitDefEqProofs [FinP, resV, resT, finC, mk7] <;> try rfl
    · rw [hf.no h3]
      refine row_of Try.func129 rfl rfl (Nat.le_of_ble_eq_true rfl) ?_
      repeat' (first | refine aw_seq ?_ | refine aw_skip ?_ | refine aw_block ?_ | refine aw_exit ?_ | refine aw_ct rfl ?_ | refine aw_cf rfl ?_ | ((first | refine aw_reg (fun K hK => ?_) | refine aw_drw mixd (fun K hK => ?_) | refine ar_call (cp o ?_) | refine ard_call (dp o ?_) | refine ar_call (cp hq ?_) | refine ard_call (dp hq ?_) | fail); simp -implicitDefEqProofs [w1, e1, h3]) | refine hK _ ?_ | refine hK _ _ (by rfl) ?_ | fail)
      refine aw_ret (fin_ret ?_); simp -implicitDefEqProofs [FinP, resV, resT, z0] <;> try rfl
  rw [if_neg e1]
  by_cases e2 : isK sOpen (nxt ts i) = true
  · have hlt := isK_lt e2
    rw [if_pos e2]
    rw [e2] at q1
    have hq := closed_row ts hl i false sOpen sShut (by decide) (by decide) (by omega) (fun j h1 h2 => hE j (by omega) h2)
    have hf := fin_row ts hl i i 14 ⟨#[]⟩ _ (cloG_ok (Q_ok (ts := ts) 1) false sOpen sShut (by omega)) (by omega)
    obtain ⟨⟨c1, c2, c3⟩, hr⟩ : ∃ r, cloG ts (Qx ts 1) i false sOpen sShut = r := ⟨_, rfl⟩
    rw [hr] at hq hf ⊢
    clear hE hr
    by_cases h3 : c3 = 0
    · subst h3
      have m := hf.yes rfl
      dsimp only at m
      refine row_of Try.func129 rfl rfl (Nat.le_of_ble_eq_true rfl) ?_
      repeat' (first | refine aw_seq ?_ | refine aw_skip ?_ | refine aw_block ?_ | refine aw_exit ?_ | refine aw_ct rfl ?_ | refine aw_cf rfl ?_ | ((first | refine aw_reg (fun K hK => ?_) | refine aw_drw mixd (fun K hK => ?_) | refine ar_call (cp o ?_) | refine ard_call (dp o ?_) | refine ar_call (cp q1 ?_) | refine ard_call (dp q1 ?_) | refine ar_call (cp hq ?_) | refine ard_call (dp hq ?_) | refine ar_call (cp m ?_) | refine ard_call (dp m ?_) | fail); simp -implicitDefEqProofs [w1, e1]) | refine hK _ ?_ | refine hK _ _ (by rfl) ?_ | fail)
      refine aw_ret (fin_ret ?_); simp -implicitDefEqProofs [FinP, resV, resT, finC, mk7] <;> try rfl
    · rw [hf.no h3]
      refine row_of Try.func129 rfl rfl (Nat.le_of_ble_eq_true rfl) ?_
      repeat' (first | refine aw_seq ?_ | refine aw_skip ?_ | refine aw_block ?_ | refine aw_exit ?_ | refine aw_ct rfl ?_ | refine aw_cf rfl ?_ | ((first | refine aw_reg (fun K hK => ?_) | refine aw_drw mixd (fun K hK => ?_) | refine ar_call (cp o ?_) | refine ard_call (dp o ?_) | refine ar_call (cp q1 ?_) | refine ard_call (dp q1 ?_) | refine ar_call (cp hq ?_) | refine ard_call (dp hq ?_) | fail); simp -implicitDefEqProofs [w1, e1, h3]) | refine hK _ ?_ | refine hK _ _ (by rfl) ?_ | fail)
      refine aw_ret (fin_ret ?_); simp -implicitDefEqProofs [FinP, resV, resT, z0] <;> try rfl
  rw [if_neg e2]
  rw [show isK sOpen (nxt ts i) = false by simpa using e2] at q1
  have o1 := now_row ts (i + 1)
  by_cases e3 : isK sAt (nxt ts i) = true
  · have hlt := isK_lt e3
    rw [if_pos e3]
    rw [e3] at q2
    have e4 : isK wNew (nxt ts i) = false := by
      unfold isK at e3 ⊢
      have h4 : quo wNew = 3 := by decide
      have h5 : quo sAt = 4 := by decide
      rw [h5] at e3
      rw [h4]
      simp at e3 ⊢
      intro h; omega
    rw [e4] at q3
    by_cases e5 : (nxt ts (i + 1)).k = 1; rotate_left
    · rw [if_pos e5]
      have b := bad_row (i + 1)
      clear hE e2 e3 e4
      refine row_of Try.func129 rfl rfl (Nat.le_of_ble_eq_true rfl) ?_
      repeat' (first | refine aw_seq ?_ | refine aw_skip ?_ | refine aw_block ?_ | refine aw_exit ?_ | refine aw_ct rfl ?_ | refine aw_cf rfl ?_ | ((first | refine aw_reg (fun K hK => ?_) | refine aw_drw mixd (fun K hK => ?_) | refine ar_call (cp o ?_) | refine ard_call (dp o ?_) | refine ar_call (cp q1 ?_) | refine ard_call (dp q1 ?_) | refine ar_call (cp q2 ?_) | refine ard_call (dp q2 ?_) | refine ar_call (cp q3 ?_) | refine ard_call (dp q3 ?_) | refine ar_call (cp o1 ?_) | refine ard_call (dp o1 ?_) | refine ar_call (cp b ?_) | refine ard_call (dp b ?_) | fail); simp -implicitDefEqProofs [w1, e1, e5]) | refine hK _ ?_ | refine hK _ _ (by rfl) ?_ | fail)
      refine aw_ret (fin_ret ?_); simp -implicitDefEqProofs [FinP, resV, resT, bad7, z0] <;> try rfl
    have hlt2 := k_lt e5 (by decide)
    rw [if_neg (by simp [e5])]
    have hq := closed_row ts hl (i + 2) true sParO sParS (by decide) (by decide) (by omega) (fun j h1 h2 => hE j (by omega) h2)
    have hf := fin_row ts hl i (i + 2) 17 (nxt ts (i + 1)).s _ (cloG_ok (Q_ok (ts := ts) 1) true sParO sParS (by omega)) (by omega)
    obtain ⟨⟨c1, c2, c3⟩, hr⟩ : ∃ r, cloG ts (Qx ts 1) (i + 2) true sParO sParS = r := ⟨_, rfl⟩
    rw [hr] at hq hf ⊢
    clear hE hr e2 e3 e4
    by_cases h3 : c3 = 0
    · subst h3
      have m := hf.yes rfl
      dsimp only at m
      refine row_of Try.func129 rfl rfl (Nat.le_of_ble_eq_true rfl) ?_
      repeat' (first | refine aw_seq ?_ | refine aw_skip ?_ | refine aw_block ?_ | refine aw_exit ?_ | refine aw_ct rfl ?_ | refine aw_cf rfl ?_ | ((first | refine aw_reg (fun K hK => ?_) | refine aw_drw mixd (fun K hK => ?_) | refine ar_call (cp o ?_) | refine ard_call (dp o ?_) | refine ar_call (cp q1 ?_) | refine ard_call (dp q1 ?_) | refine ar_call (cp q2 ?_) | refine ard_call (dp q2 ?_) | refine ar_call (cp q3 ?_) | refine ard_call (dp q3 ?_) | refine ar_call (cp o1 ?_) | refine ard_call (dp o1 ?_) | refine ar_call (cp hq ?_) | refine ard_call (dp hq ?_) | refine ar_call (cp m ?_) | refine ard_call (dp m ?_) | fail); simp -implicitDefEqProofs [w1, w2, e1, e5]) | refine hK _ ?_ | refine hK _ _ (by rfl) ?_ | fail)
      refine aw_ret (fin_ret ?_); simp -implicitDefEqProofs [FinP, resV, resT, finC, mk7] <;> try rfl
    · rw [hf.no h3]
      refine row_of Try.func129 rfl rfl (Nat.le_of_ble_eq_true rfl) ?_
      repeat' (first | refine aw_seq ?_ | refine aw_skip ?_ | refine aw_block ?_ | refine aw_exit ?_ | refine aw_ct rfl ?_ | refine aw_cf rfl ?_ | ((first | refine aw_reg (fun K hK => ?_) | refine aw_drw mixd (fun K hK => ?_) | refine ar_call (cp o ?_) | refine ard_call (dp o ?_) | refine ar_call (cp q1 ?_) | refine ard_call (dp q1 ?_) | refine ar_call (cp q2 ?_) | refine ard_call (dp q2 ?_) | refine ar_call (cp q3 ?_) | refine ard_call (dp q3 ?_) | refine ar_call (cp o1 ?_) | refine ard_call (dp o1 ?_) | refine ar_call (cp hq ?_) | refine ard_call (dp hq ?_) | fail); simp -implicitDefEqProofs [w1, w2, e1, e5, h3]) | refine hK _ ?_ | refine hK _ _ (by rfl) ?_ | fail)
      refine aw_ret (fin_ret ?_); simp -implicitDefEqProofs [FinP, resV, resT, z0] <;> try rfl
  rw [if_neg e3]
  rw [show isK sAt (nxt ts i) = false by simpa using e3] at q2
  by_cases e4 : isK wNew (nxt ts i) = true
  · have hlt := isK_lt e4
    rw [if_pos e4]
    rw [e4] at q3
    by_cases e5 : (nxt ts (i + 1)).k = 1; rotate_left
    · rw [if_pos e5]
      have b := bad_row (i + 1)
      clear hE e2 e3 e4
      refine row_of Try.func129 rfl rfl (Nat.le_of_ble_eq_true rfl) ?_
      repeat' (first | refine aw_seq ?_ | refine aw_skip ?_ | refine aw_block ?_ | refine aw_exit ?_ | refine aw_ct rfl ?_ | refine aw_cf rfl ?_ | ((first | refine aw_reg (fun K hK => ?_) | refine aw_drw mixd (fun K hK => ?_) | refine ar_call (cp o ?_) | refine ard_call (dp o ?_) | refine ar_call (cp q1 ?_) | refine ard_call (dp q1 ?_) | refine ar_call (cp q2 ?_) | refine ard_call (dp q2 ?_) | refine ar_call (cp q3 ?_) | refine ard_call (dp q3 ?_) | refine ar_call (cp o1 ?_) | refine ard_call (dp o1 ?_) | refine ar_call (cp b ?_) | refine ard_call (dp b ?_) | fail); simp -implicitDefEqProofs [w1, e1, e5]) | refine hK _ ?_ | refine hK _ _ (by rfl) ?_ | fail)
      refine aw_ret (fin_ret ?_); simp -implicitDefEqProofs [FinP, resV, resT, bad7, z0] <;> try rfl
    have hlt2 := k_lt e5 (by decide)
    rw [if_neg (by simp [e5])]
    have hq := closed_row ts hl (i + 2) false sParO sParS (by decide) (by decide) (by omega) (fun j h1 h2 => hE j (by omega) h2)
    have hf := fin_row ts hl i (i + 2) 15 (nxt ts (i + 1)).s _ (cloG_ok (Q_ok (ts := ts) 1) false sParO sParS (by omega)) (by omega)
    obtain ⟨⟨c1, c2, c3⟩, hr⟩ : ∃ r, cloG ts (Qx ts 1) (i + 2) false sParO sParS = r := ⟨_, rfl⟩
    rw [hr] at hq hf ⊢
    clear hE hr e2 e3 e4
    by_cases h3 : c3 = 0
    · subst h3
      have m := hf.yes rfl
      dsimp only at m
      refine row_of Try.func129 rfl rfl (Nat.le_of_ble_eq_true rfl) ?_
      repeat' (first | refine aw_seq ?_ | refine aw_skip ?_ | refine aw_block ?_ | refine aw_exit ?_ | refine aw_ct rfl ?_ | refine aw_cf rfl ?_ | ((first | refine aw_reg (fun K hK => ?_) | refine aw_drw mixd (fun K hK => ?_) | refine ar_call (cp o ?_) | refine ard_call (dp o ?_) | refine ar_call (cp q1 ?_) | refine ard_call (dp q1 ?_) | refine ar_call (cp q2 ?_) | refine ard_call (dp q2 ?_) | refine ar_call (cp q3 ?_) | refine ard_call (dp q3 ?_) | refine ar_call (cp o1 ?_) | refine ard_call (dp o1 ?_) | refine ar_call (cp hq ?_) | refine ard_call (dp hq ?_) | refine ar_call (cp m ?_) | refine ard_call (dp m ?_) | fail); simp -implicitDefEqProofs [w1, w2, e1, e5]) | refine hK _ ?_ | refine hK _ _ (by rfl) ?_ | fail)
      refine aw_ret (fin_ret ?_); simp -implicitDefEqProofs [FinP, resV, resT, finC, mk7] <;> try rfl
    · rw [hf.no h3]
      refine row_of Try.func129 rfl rfl (Nat.le_of_ble_eq_true rfl) ?_
      repeat' (first | refine aw_seq ?_ | refine aw_skip ?_ | refine aw_block ?_ | refine aw_exit ?_ | refine aw_ct rfl ?_ | refine aw_cf rfl ?_ | ((first | refine aw_reg (fun K hK => ?_) | refine aw_drw mixd (fun K hK => ?_) | refine ar_call (cp o ?_) | refine ard_call (dp o ?_) | refine ar_call (cp q1 ?_) | refine ard_call (dp q1 ?_) | refine ar_call (cp q2 ?_) | refine ard_call (dp q2 ?_) | refine ar_call (cp q3 ?_) | refine ard_call (dp q3 ?_) | refine ar_call (cp o1 ?_) | refine ard_call (dp o1 ?_) | refine ar_call (cp hq ?_) | refine ard_call (dp hq ?_) | fail); simp -implicitDefEqProofs [w1, w2, e1, e5, h3]) | refine hK _ ?_ | refine hK _ _ (by rfl) ?_ | fail)
      refine aw_ret (fin_ret ?_); simp -implicitDefEqProofs [FinP, resV, resT, z0] <;> try rfl
  rw [if_neg e4]
  rw [show isK wNew (nxt ts i) = false by simpa using e4] at q3
  have b := bad_row i
  clear hE e2 e3 e4
  refine row_of Try.func129 rfl rfl (Nat.le_of_ble_eq_true rfl) ?_
  repeat' (first | refine aw_seq ?_ | refine aw_skip ?_ | refine aw_block ?_ | refine aw_exit ?_ | refine aw_ct rfl ?_ | refine aw_cf rfl ?_ | ((first | refine aw_reg (fun K hK => ?_) | refine aw_drw mixd (fun K hK => ?_) | refine ar_call (cp o ?_) | refine ard_call (dp o ?_) | refine ar_call (cp q1 ?_) | refine ard_call (dp q1 ?_) | refine ar_call (cp q2 ?_) | refine ard_call (dp q2 ?_) | refine ar_call (cp q3 ?_) | refine ard_call (dp q3 ?_) | refine ar_call (cp b ?_) | refine ard_call (dp b ?_) | fail); simp -implicitDefEqProofs [w1, e1]) | refine hK _ ?_ | refine hK _ _ (by rfl) ?_ | fail)
  refine aw_ret (fin_ret ?_); simp -implicitDefEqProofs [FinP, resV, resT, bad7, z0] <;> try rfl
set_option maxRecDepth 100000 in
set_option maxHeartbeats 4000000 in
theorem atom_step (i : Nat) (hi : i ≤ ts.length) (hE : ∀ j, i < j → j ≤ ts.length → Row Try.prog 128 [vKs ts, vI j] [] (vG (Qx ts 1 j)) []) : Row Try.prog 110 [vKs ts, vI i] [] (vG (Qx ts 8 i)) [] := by
  have o := now_row ts i
  have q1 := word_row ts i wTrue
  rw [word_is (by decide)] at q1
  have q2 := word_row ts i wFals
  rw [word_is (by decide)] at q2
  have q3 := word_row ts i wRead
  rw [word_is (by decide)] at q3
  have q4 := sign_row ts (i + 1) sParO
  rw [sign_is (by decide)] at q4
  have q5 := sign_row ts i sParO
  rw [sign_is (by decide)] at q5
  have w1 : IntKind.i64.wrap ((i : Nat) + 1 : Int) = (i : Nat) + 1 := i64i _ (by omega) (by omega)
  rw [Q_eq 8 i (by decide) (by decide) hi]
  unfold bG
  rw [if_neg (by decide), if_neg (by decide), if_neg (by decide)]
  unfold atoG
  by_cases e1 : (nxt ts i).k = 2
  · have hlt := k_lt e1 (by decide)
    rw [if_pos e1]
    have m := rmk_row ts hl i (i + 1) 5 (nxt ts i).n ⟨#[]⟩ [] (by omega) (by omega)
    clear hE
    refine row_of Try.func110 rfl rfl (Nat.le_of_ble_eq_true rfl) ?_
    repeat' (first | refine aw_seq ?_ | refine aw_skip ?_ | refine aw_block ?_ | refine aw_exit ?_ | refine aw_ct rfl ?_ | refine aw_cf rfl ?_ | ((first | refine aw_reg (fun K hK => ?_) | refine aw_drw mixd (fun K hK => ?_) | refine ar_call (cp o ?_) | refine ard_call (dp o ?_) | refine ar_call (cp m ?_) | refine ard_call (dp m ?_) | fail); simp -implicitDefEqProofs [w1, e1]) | refine hK _ ?_ | refine hK _ _ (by rfl) ?_ | fail)
    refine aw_ret (fin_ret ?_); simp -implicitDefEqProofs [FinP, resV, resT, mk7] <;> try rfl
  rw [if_neg e1]
  by_cases e2 : isK wTrue (nxt ts i) = true
  · have hlt := isK_lt e2
    rw [if_pos e2]
    rw [e2] at q1
    have m := rmk_row ts hl i (i + 1) 6 1 ⟨#[]⟩ [] (by omega) (by omega)
    clear hE e2
    refine row_of Try.func110 rfl rfl (Nat.le_of_ble_eq_true rfl) ?_
    repeat' (first | refine aw_seq ?_ | refine aw_skip ?_ | refine aw_block ?_ | refine aw_exit ?_ | refine aw_ct rfl ?_ | refine aw_cf rfl ?_ | ((first | refine aw_reg (fun K hK => ?_) | refine aw_drw mixd (fun K hK => ?_) | refine ar_call (cp o ?_) | refine ard_call (dp o ?_) | refine ar_call (cp q1 ?_) | refine ard_call (dp q1 ?_) | refine ar_call (cp m ?_) | refine ard_call (dp m ?_) | fail); simp -implicitDefEqProofs [w1, e1]) | refine hK _ ?_ | refine hK _ _ (by rfl) ?_ | fail)
    refine aw_ret (fin_ret ?_); simp -implicitDefEqProofs [FinP, resV, resT, mk7] <;> try rfl
  rw [if_neg e2]
  rw [show isK wTrue (nxt ts i) = false by simpa using e2] at q1
  clear e2
  by_cases e2 : isK wFals (nxt ts i) = true
  · have hlt := isK_lt e2
    rw [if_pos e2]
    rw [e2] at q2
    have m := rmk_row ts hl i (i + 1) 6 0 ⟨#[]⟩ [] (by omega) (by omega)
    clear hE e2
    refine row_of Try.func110 rfl rfl (Nat.le_of_ble_eq_true rfl) ?_
    repeat' (first | refine aw_seq ?_ | refine aw_skip ?_ | refine aw_block ?_ | refine aw_exit ?_ | refine aw_ct rfl ?_ | refine aw_cf rfl ?_ | ((first | refine aw_reg (fun K hK => ?_) | refine aw_drw mixd (fun K hK => ?_) | refine ar_call (cp o ?_) | refine ard_call (dp o ?_) | refine ar_call (cp q1 ?_) | refine ard_call (dp q1 ?_) | refine ar_call (cp q2 ?_) | refine ard_call (dp q2 ?_) | refine ar_call (cp m ?_) | refine ard_call (dp m ?_) | fail); simp -implicitDefEqProofs [w1, e1]) | refine hK _ ?_ | refine hK _ _ (by rfl) ?_ | fail)
    refine aw_ret (fin_ret ?_); simp -implicitDefEqProofs [FinP, resV, resT, mk7] <;> try rfl
  rw [if_neg e2]
  rw [show isK wFals (nxt ts i) = false by simpa using e2] at q2
  clear e2
  by_cases e2 : isK wRead (nxt ts i) = true
  · have hlt := isK_lt e2
    rw [if_pos e2]
    rw [e2] at q3
    have m := rmk_row ts hl i (i + 1) 18 0 ⟨#[]⟩ [] (by omega) (by omega)
    clear hE e2
    refine row_of Try.func110 rfl rfl (Nat.le_of_ble_eq_true rfl) ?_
    repeat' (first | refine aw_seq ?_ | refine aw_skip ?_ | refine aw_block ?_ | refine aw_exit ?_ | refine aw_ct rfl ?_ | refine aw_cf rfl ?_ | ((first | refine aw_reg (fun K hK => ?_) | refine aw_drw mixd (fun K hK => ?_) | refine ar_call (cp o ?_) | refine ard_call (dp o ?_) | refine ar_call (cp q1 ?_) | refine ard_call (dp q1 ?_) | refine ar_call (cp q2 ?_) | refine ard_call (dp q2 ?_) | refine ar_call (cp q3 ?_) | refine ard_call (dp q3 ?_) | refine ar_call (cp m ?_) | refine ard_call (dp m ?_) | fail); simp -implicitDefEqProofs [w1, e1]) | refine hK _ ?_ | refine hK _ _ (by rfl) ?_ | fail)
    refine aw_ret (fin_ret ?_); simp -implicitDefEqProofs [FinP, resV, resT, mk7] <;> try rfl
  rw [if_neg e2]
  rw [show isK wRead (nxt ts i) = false by simpa using e2] at q3
  clear e2
  by_cases e2 : (nxt ts i).k = 1 ∧ isK sParO (nxt ts (i + 1)) = false
  · have hlt := k_lt e2.1 (by decide)
    rw [if_pos e2]
    rw [e2.2] at q4
    have e3 := e2.1
    have m := rmk_row ts hl i (i + 1) 19 0 (nxt ts i).s [] (by omega) (by omega)
    clear hE e2
    refine row_of Try.func110 rfl rfl (Nat.le_of_ble_eq_true rfl) ?_
    repeat' (first | refine aw_seq ?_ | refine aw_skip ?_ | refine aw_block ?_ | refine aw_exit ?_ | refine aw_ct rfl ?_ | refine aw_cf rfl ?_ | ((first | refine aw_reg (fun K hK => ?_) | refine aw_drw mixd (fun K hK => ?_) | refine ar_call (cp o ?_) | refine ard_call (dp o ?_) | refine ar_call (cp q1 ?_) | refine ard_call (dp q1 ?_) | refine ar_call (cp q2 ?_) | refine ard_call (dp q2 ?_) | refine ar_call (cp q3 ?_) | refine ard_call (dp q3 ?_) | refine ar_call (cp q4 ?_) | refine ard_call (dp q4 ?_) | refine ar_call (cp m ?_) | refine ard_call (dp m ?_) | fail); simp -implicitDefEqProofs [w1, e1, e3]) | refine hK _ ?_ | refine hK _ _ (by rfl) ?_ | fail)
    refine aw_ret (fin_ret ?_); simp -implicitDefEqProofs [FinP, resV, resT, mk7] <;> try rfl
  rw [if_neg e2]
  have hc := called_step ts hl i hi hE
  by_cases e3 : (nxt ts i).k = 1
  · rw [show isK sParO (nxt ts (i + 1)) = true by simpa [e3] using e2] at q4
    have e5 : isK sParO (nxt ts i) = false := by unfold isK; rw [e3, show quo sParO = 4 by decide]; rfl
    rw [e5] at q5 ⊢
    rw [if_neg (by decide)]
    obtain ⟨⟨⟨rx, rl⟩, r2, r3⟩, hr⟩ : ∃ r, calG ts (Qx ts 1) i = r := ⟨_, rfl⟩
    rw [hr] at hc ⊢
    clear hE e2 hr e5
    refine row_of Try.func110 rfl rfl (Nat.le_of_ble_eq_true rfl) ?_
    repeat' (first | refine aw_seq ?_ | refine aw_skip ?_ | refine aw_block ?_ | refine aw_exit ?_ | refine aw_ct rfl ?_ | refine aw_cf rfl ?_ | ((first | refine aw_reg (fun K hK => ?_) | refine aw_drw mixd (fun K hK => ?_) | refine ar_call (cp o ?_) | refine ard_call (dp o ?_) | refine ar_call (cp q1 ?_) | refine ard_call (dp q1 ?_) | refine ar_call (cp q2 ?_) | refine ard_call (dp q2 ?_) | refine ar_call (cp q3 ?_) | refine ard_call (dp q3 ?_) | refine ar_call (cp q4 ?_) | refine ard_call (dp q4 ?_) | refine ar_call (cp q5 ?_) | refine ard_call (dp q5 ?_) | refine ar_call (cp hc ?_) | refine ard_call (dp hc ?_) | fail); simp -implicitDefEqProofs [w1, e1, e3]) | refine hK _ ?_ | refine hK _ _ (by rfl) ?_ | fail)
    refine aw_ret (fin_ret ?_); simp -implicitDefEqProofs [FinP, resV, resT] <;> try rfl
  clear e2
  by_cases e5 : isK sParO (nxt ts i) = true; rotate_left
  · rw [if_neg e5]
    rw [show isK sParO (nxt ts i) = false by simpa using e5] at q5
    obtain ⟨⟨⟨rx, rl⟩, r2, r3⟩, hr⟩ : ∃ r, calG ts (Qx ts 1) i = r := ⟨_, rfl⟩
    rw [hr] at hc ⊢
    clear hE hr e5
    refine row_of Try.func110 rfl rfl (Nat.le_of_ble_eq_true rfl) ?_
    repeat' (first | refine aw_seq ?_ | refine aw_skip ?_ | refine aw_block ?_ | refine aw_exit ?_ | refine aw_ct rfl ?_ | refine aw_cf rfl ?_ | ((first | refine aw_reg (fun K hK => ?_) | refine aw_drw mixd (fun K hK => ?_) | refine ar_call (cp o ?_) | refine ard_call (dp o ?_) | refine ar_call (cp q1 ?_) | refine ard_call (dp q1 ?_) | refine ar_call (cp q2 ?_) | refine ard_call (dp q2 ?_) | refine ar_call (cp q3 ?_) | refine ard_call (dp q3 ?_) | refine ar_call (cp q4 ?_) | refine ard_call (dp q4 ?_) | refine ar_call (cp q5 ?_) | refine ard_call (dp q5 ?_) | refine ar_call (cp hc ?_) | refine ard_call (dp hc ?_) | fail); simp -implicitDefEqProofs [w1, e1, e3]) | refine hK _ ?_ | refine hK _ _ (by rfl) ?_ | fail)
    refine aw_ret (fin_ret ?_); simp -implicitDefEqProofs [FinP, resV, resT] <;> try rfl
  rw [if_pos e5]
  have hlt := isK_lt e5
  rw [e5] at q5
  have hq := hE (i + 1) (by omega) (by omega)
  have hk := Q_ok (ts := ts) 1 (i + 1) (by omega)
  obtain ⟨⟨⟨rx, rl⟩, r2, r3⟩, hr⟩ : ∃ r, Qx ts 1 (i + 1) = r := ⟨_, rfl⟩
  rw [hr] at hq hk ⊢
  by_cases hr3 : r3 = 0; rotate_left
  · rw [if_pos hr3]
    clear hr hE hk e5 hc
    refine row_of Try.func110 rfl rfl (Nat.le_of_ble_eq_true rfl) ?_
    repeat' (first | refine aw_seq ?_ | refine aw_skip ?_ | refine aw_block ?_ | refine aw_exit ?_ | refine aw_ct rfl ?_ | refine aw_cf rfl ?_ | ((first | refine aw_reg (fun K hK => ?_) | refine aw_drw mixd (fun K hK => ?_) | refine ar_call (cp o ?_) | refine ard_call (dp o ?_) | refine ar_call (cp q1 ?_) | refine ard_call (dp q1 ?_) | refine ar_call (cp q2 ?_) | refine ard_call (dp q2 ?_) | refine ar_call (cp q3 ?_) | refine ard_call (dp q3 ?_) | refine ar_call (cp q4 ?_) | refine ard_call (dp q4 ?_) | refine ar_call (cp q5 ?_) | refine ard_call (dp q5 ?_) | refine ar_call (cp hq ?_) | refine ard_call (dp hq ?_) | fail); simp -implicitDefEqProofs [hr3, w1, e1, e3]) | refine hK _ ?_ | refine hK _ _ (by rfl) ?_ | fail)
    refine aw_ret (fin_ret ?_); simp -implicitDefEqProofs [FinP, resV, resT] <;> try rfl
  subst hr3
  rw [if_neg (by simp)]
  have hyy := hk.yes rfl
  dsimp only at hyy ⊢
  have q6 := sign_row ts r2 sParS
  rw [sign_is (by decide)] at q6
  have w2 : IntKind.i64.wrap ((r2 : Nat) + 1 : Int) = (r2 : Nat) + 1 := i64i _ (by omega) (by omega)
  by_cases e6 : isK sParS (nxt ts r2) = true; rotate_left
  · have e6 : isK sParS (nxt ts r2) = false := by simpa using e6
    rw [if_pos e6]
    rw [e6] at q6
    have b := bad_row r2
    clear hr hE hk e5 hc e6
    refine row_of Try.func110 rfl rfl (Nat.le_of_ble_eq_true rfl) ?_
    repeat' (first | refine aw_seq ?_ | refine aw_skip ?_ | refine aw_block ?_ | refine aw_exit ?_ | refine aw_ct rfl ?_ | refine aw_cf rfl ?_ | ((first | refine aw_reg (fun K hK => ?_) | refine aw_drw mixd (fun K hK => ?_) | refine ar_call (cp o ?_) | refine ard_call (dp o ?_) | refine ar_call (cp q1 ?_) | refine ard_call (dp q1 ?_) | refine ar_call (cp q2 ?_) | refine ard_call (dp q2 ?_) | refine ar_call (cp q3 ?_) | refine ard_call (dp q3 ?_) | refine ar_call (cp q4 ?_) | refine ard_call (dp q4 ?_) | refine ar_call (cp q5 ?_) | refine ard_call (dp q5 ?_) | refine ar_call (cp hq ?_) | refine ard_call (dp hq ?_) | refine ar_call (cp q6 ?_) | refine ard_call (dp q6 ?_) | refine ar_call (cp b ?_) | refine ard_call (dp b ?_) | fail); simp -implicitDefEqProofs [w1, e1, e3]) | refine hK _ ?_ | refine hK _ _ (by rfl) ?_ | fail)
    refine aw_ret (fin_ret ?_); simp -implicitDefEqProofs [FinP, resV, resT, bad7, z0] <;> try rfl
  rw [if_neg (by simp [e6])]
  rw [e6] at q6
  clear hr hE hk e5 hc e6
  refine row_of Try.func110 rfl rfl (Nat.le_of_ble_eq_true rfl) ?_
  repeat' (first | refine aw_seq ?_ | refine aw_skip ?_ | refine aw_block ?_ | refine aw_exit ?_ | refine aw_ct rfl ?_ | refine aw_cf rfl ?_ | ((first | refine aw_reg (fun K hK => ?_) | refine aw_drw mixd (fun K hK => ?_) | refine ar_call (cp o ?_) | refine ard_call (dp o ?_) | refine ar_call (cp q1 ?_) | refine ard_call (dp q1 ?_) | refine ar_call (cp q2 ?_) | refine ard_call (dp q2 ?_) | refine ar_call (cp q3 ?_) | refine ard_call (dp q3 ?_) | refine ar_call (cp q4 ?_) | refine ard_call (dp q4 ?_) | refine ar_call (cp q5 ?_) | refine ard_call (dp q5 ?_) | refine ar_call (cp hq ?_) | refine ard_call (dp hq ?_) | refine ar_call (cp q6 ?_) | refine ard_call (dp q6 ?_) | fail); simp -implicitDefEqProofs [w1, w2, e1, e3]) | refine hK _ ?_ | refine hK _ _ (by rfl) ?_ | fail)
  refine aw_ret (fin_ret ?_); simp -implicitDefEqProofs [FinP, resV, resT] <;> try rfl
set_option maxRecDepth 100000 in
set_option maxHeartbeats 4000000 in
theorem all_rows : ∀ (n w i : Nat), 1 ≤ w → w ≤ 8 → i ≤ ts.length → me ts w i < n →
    (w ≤ 6 → Row Try.prog 134 [vKs ts, vI i, vI (w : Nat)] [] (vG (Qx ts w i)) []) ∧
    (w = 6 → Row Try.prog 139 [vKs ts, vI i] [] (vG (Qx ts 6 i)) []) ∧
    (w = 7 → Row Try.prog 142 [vKs ts, vI i] [] (vG (Qx ts 7 i)) []) ∧
    (w = 8 → Row Try.prog 110 [vKs ts, vI i] [] (vG (Qx ts 8 i)) []) := by
  intro n
  induction n with
  | zero => intro w i _ _ _ h; omega
  | succ n ih =>
  intro w i hw1 hw8 hi hn
  have hE : ∀ j, i < j → j ≤ ts.length → Row Try.prog 128 [vKs ts, vI j] [] (vG (Qx ts 1 j)) [] := fun j h1 h2 =>
    expr_of ts j ((ih 1 j (by omega) (by omega) h2 (by unfold me at hn ⊢; omega)).1 (by omega))
  have hun : w = 6 → Row Try.prog 139 [vKs ts, vI i] [] (vG (Qx ts 6 i)) [] := fun h => by
    subst h
    exact un_step ts hl i hi ((ih 7 i (by omega) (by omega) hi (by unfold me at hn ⊢; omega)).2.2.1 rfl) (fun hlt => (ih 6 (i + 1) (by omega) (by omega) (by omega) (by unfold me at hn ⊢; omega)).2.1 rfl)
  refine ⟨fun h => ?_, hun, fun h => ?_, fun h => ?_⟩
  · by_cases h6 : w = 6
    · subst h6
      exact lev6_row ts i (hun rfl)
    · exact lev_step ts hl w hw1 (by omega) i hi (fun j h1 h2 => (ih (w + 1) j (by omega) (by omega) h2 (by unfold me at hn ⊢; omega)).1 (by omega))
  · exact post_step ts hl i hi ((ih 8 i (by omega) (by omega) hi (by unfold me at hn ⊢; omega)).2.2.2 rfl) hE
  · exact atom_step ts hl i hi hE
theorem rexpr_row (i : Nat) (hi : i ≤ ts.length) : Row Try.prog 128 [vKs ts, vI i] [] (vG (Qx ts 1 i)) [] :=
  expr_of ts i ((all_rows ts hl _ 1 i (by decide) (by decide) hi (Nat.lt_succ_self _)).1 (by decide))
end
end Go.Proofs.Ythkfdheoakbfnaa.am
end
section
namespace Go.Proofs.Ythkfdheoakbfnaa.am
open Go.ChangeShapes Go.WideShapes Go.ChangeAt Go.RowKit
open vt
set_option linter.unusedVariables false
set_option linter.unusedSimpArgs false
set_option maxRecDepth 100000 in
set_option maxHeartbeats 4000000 in
theorem rtype_row (ts : List Tok) (hl : ts.length ≤ 9223372036854775000) : ∀ n i, ts.length - i < n → i ≤ ts.length → Row Try.prog 109 [vKs ts, vI i] [] (vG (tyG ts n i)) [] := by
  intro n
  induction n with
  | zero => intro i h; omega
  | succ n ih =>
  intro i hn hi
  have q1 := word_row ts i wInt
  rw [word_is (by decide)] at q1
  have q2 := word_row ts i wBool
  rw [word_is (by decide)] at q2
  have q3 := sign_row ts i sOpen
  rw [sign_is (by decide)] at q3
  have o := now_row ts i
  have w1 : IntKind.i64.wrap ((i : Nat) + 1 : Int) = (i : Nat) + 1 := i64i _ (by omega) (by omega)
  have w2 : IntKind.i64.wrap ((i : Nat) + 2 : Int) = (i : Nat) + 2 := i64i _ (by omega) (by omega)
  have w3 : IntKind.i64.wrap ((i : Nat) + 3 : Int) = (i : Nat) + 3 := i64i _ (by omega) (by omega)
  by_cases h1 : isK wInt (nxt ts i) = true
  · rw [tyG_int h1]
    rw [h1] at q1
    obtain ⟨x, hx, _⟩ := isK_at h1
    have hil := (List.getElem?_eq_some_iff.1 hx).1
    have m := make7_row ts i (i + 1) 1 0 ⟨#[]⟩ [] hil (by omega) (by omega) (by omega)
    rw [Nat.add_sub_cancel] at m
    refine row_of Try.func109 rfl rfl (Nat.le_of_ble_eq_true rfl) ?_
    repeat' (first | refine aw_seq ?_ | refine aw_skip ?_ | refine aw_block ?_ | refine aw_exit ?_ | refine aw_ct rfl ?_ | refine aw_cf rfl ?_ | ((first | refine aw_reg (fun K hK => ?_) | refine aw_drw mixd (fun K hK => ?_) | refine ar_call (cp q1 ?_) | refine ard_call (dp q1 ?_) | refine ar_call (cp m ?_) | refine ard_call (dp m ?_) | fail); simp -implicitDefEqProofs [w1]) | refine hK _ ?_ | refine hK _ _ (by rfl) ?_ | fail)
    refine aw_ret (fin_ret ?_); simp -implicitDefEqProofs [FinP, resV, resT] <;> try rfl
  have h1 : isK wInt (nxt ts i) = false := by simpa using h1
  rw [h1] at q1
  by_cases h2 : isK wBool (nxt ts i) = true
  · rw [tyG_bool h1 h2]
    rw [h2] at q2
    obtain ⟨x, hx, _⟩ := isK_at h2
    have hil := (List.getElem?_eq_some_iff.1 hx).1
    have m := make7_row ts i (i + 1) 2 0 ⟨#[]⟩ [] hil (by omega) (by omega) (by omega)
    rw [Nat.add_sub_cancel] at m
    refine row_of Try.func109 rfl rfl (Nat.le_of_ble_eq_true rfl) ?_
    repeat' (first | refine aw_seq ?_ | refine aw_skip ?_ | refine aw_block ?_ | refine aw_exit ?_ | refine aw_ct rfl ?_ | refine aw_cf rfl ?_ | ((first | refine aw_reg (fun K hK => ?_) | refine aw_drw mixd (fun K hK => ?_) | refine ar_call (cp q1 ?_) | refine ard_call (dp q1 ?_) | refine ar_call (cp q2 ?_) | refine ard_call (dp q2 ?_) | refine ar_call (cp m ?_) | refine ard_call (dp m ?_) | fail); simp -implicitDefEqProofs [w1]) | refine hK _ ?_ | refine hK _ _ (by rfl) ?_ | fail)
    refine aw_ret (fin_ret ?_); simp -implicitDefEqProofs [FinP, resV, resT] <;> try rfl
  have h2 : isK wBool (nxt ts i) = false := by simpa using h2
  rw [h2] at q2
  by_cases h4 : (nxt ts i).k = 1
  · have h3 : isK sOpen (nxt ts i) = false := by unfold isK; rw [h4]; rfl
    rw [tyG_rec h1 h2 h3, if_pos h4]
    obtain ⟨x, hx, hxn, hxk⟩ := kind_at h4 (by omega)
    have hil := (List.getElem?_eq_some_iff.1 hx).1
    rw [hxn] at o ⊢
    obtain ⟨xk, xn, xs, xf, xt⟩ := x
    dsimp only at hxk
    subst hxk
    have m := make7_row ts i (i + 1) 4 0 xs [] hil (by omega) (by omega) (by omega)
    rw [Nat.add_sub_cancel] at m
    clear h1 h2 h3 h4 hx hxn
    refine row_of Try.func109 rfl rfl (Nat.le_of_ble_eq_true rfl) ?_
    repeat' (first | refine aw_seq ?_ | refine aw_skip ?_ | refine aw_block ?_ | refine aw_exit ?_ | refine aw_ct rfl ?_ | refine aw_cf rfl ?_ | ((first | refine aw_reg (fun K hK => ?_) | refine aw_drw mixd (fun K hK => ?_) | refine ar_call (cp q1 ?_) | refine ard_call (dp q1 ?_) | refine ar_call (cp q2 ?_) | refine ard_call (dp q2 ?_) | refine ar_call (cp o ?_) | refine ard_call (dp o ?_) | refine ar_call (cp m ?_) | refine ard_call (dp m ?_) | fail); simp -implicitDefEqProofs [w1]) | refine hK _ ?_ | refine hK _ _ (by rfl) ?_ | fail)
    refine aw_ret (fin_ret ?_); simp -implicitDefEqProofs [FinP, resV, resT] <;> try rfl
  obtain ⟨⟨ok, on, os, of', ot⟩, hon⟩ : ∃ x, nxt ts i = x := ⟨_, rfl⟩
  have h4' : ¬ ok = 1 := by rw [hon] at h4; exact h4
  by_cases h3 : isK sOpen (nxt ts i) = true; rotate_left
  · have h3 : isK sOpen (nxt ts i) = false := by simpa using h3
    rw [tyG_rec h1 h2 h3, if_neg h4]
    rw [h3] at q3
    rw [hon] at o
    have b := bad_row i
    clear h1 h2 h3 h4 hon
    refine row_of Try.func109 rfl rfl (Nat.le_of_ble_eq_true rfl) ?_
    repeat' (first | refine aw_seq ?_ | refine aw_skip ?_ | refine aw_block ?_ | refine aw_exit ?_ | refine aw_ct rfl ?_ | refine aw_cf rfl ?_ | ((first | refine aw_reg (fun K hK => ?_) | refine aw_drw mixd (fun K hK => ?_) | refine ar_call (cp q1 ?_) | refine ard_call (dp q1 ?_) | refine ar_call (cp q2 ?_) | refine ard_call (dp q2 ?_) | refine ar_call (cp o ?_) | refine ard_call (dp o ?_) | refine ar_call (cp q3 ?_) | refine ard_call (dp q3 ?_) | refine ar_call (cp b ?_) | refine ard_call (dp b ?_) | fail); simp -implicitDefEqProofs [h4']) | refine hK _ ?_ | refine hK _ _ (by rfl) ?_ | fail)
    refine aw_ret (fin_ret ?_); simp -implicitDefEqProofs [FinP, resV, resT, z0] <;> try rfl
  rw [tyG_arr h1 h2 h3]
  rw [h3] at q3
  rw [hon] at o
  obtain ⟨x, hx, _⟩ := isK_at h3
  have hil := (List.getElem?_eq_some_iff.1 hx).1
  have o1 := now_row ts (i + 1)
  clear h1 h2 h3 h4 hon hx
  by_cases h5 : (nxt ts (i + 1)).k = 2; rotate_left
  · rw [if_neg h5]
    obtain ⟨⟨pk, pn, ps, pf, pt⟩, hp⟩ : ∃ x, nxt ts (i + 1) = x := ⟨_, rfl⟩
    rw [hp] at o1 h5
    dsimp only at h5
    have b := bad_row (i + 1)
    refine row_of Try.func109 rfl rfl (Nat.le_of_ble_eq_true rfl) ?_
    repeat' (first | refine aw_seq ?_ | refine aw_skip ?_ | refine aw_block ?_ | refine aw_exit ?_ | refine aw_ct rfl ?_ | refine aw_cf rfl ?_ | ((first | refine aw_reg (fun K hK => ?_) | refine aw_drw mixd (fun K hK => ?_) | refine ar_call (cp q1 ?_) | refine ard_call (dp q1 ?_) | refine ar_call (cp q2 ?_) | refine ard_call (dp q2 ?_) | refine ar_call (cp o ?_) | refine ard_call (dp o ?_) | refine ar_call (cp q3 ?_) | refine ard_call (dp q3 ?_) | refine ar_call (cp o1 ?_) | refine ard_call (dp o1 ?_) | refine ar_call (cp b ?_) | refine ard_call (dp b ?_) | fail); simp -implicitDefEqProofs [h4', h5, w1]) | refine hK _ ?_ | refine hK _ _ (by rfl) ?_ | fail)
    refine aw_ret (fin_ret ?_); simp -implicitDefEqProofs [FinP, resV, resT, z0] <;> try rfl
  rw [if_pos h5]
  obtain ⟨⟨pk, pn, ps, pf, pt⟩, hp⟩ : ∃ x, nxt ts (i + 1) = x := ⟨_, rfl⟩
  rw [hp] at o1 h5 ⊢
  dsimp only at h5 ⊢
  subst h5
  have q4 := sign_row ts (i + 2) sShut
  rw [sign_is (by decide)] at q4
  by_cases h6 : isK sShut (nxt ts (i + 2)) = true; rotate_left
  · rw [if_neg h6]
    rw [show isK sShut (nxt ts (i + 2)) = false by simpa using h6] at q4
    have b := bad_row (i + 2)
    clear h6 hp
    refine row_of Try.func109 rfl rfl (Nat.le_of_ble_eq_true rfl) ?_
    repeat' (first | refine aw_seq ?_ | refine aw_skip ?_ | refine aw_block ?_ | refine aw_exit ?_ | refine aw_ct rfl ?_ | refine aw_cf rfl ?_ | ((first | refine aw_reg (fun K hK => ?_) | refine aw_drw mixd (fun K hK => ?_) | refine ar_call (cp q1 ?_) | refine ard_call (dp q1 ?_) | refine ar_call (cp q2 ?_) | refine ard_call (dp q2 ?_) | refine ar_call (cp o ?_) | refine ard_call (dp o ?_) | refine ar_call (cp q3 ?_) | refine ard_call (dp q3 ?_) | refine ar_call (cp o1 ?_) | refine ard_call (dp o1 ?_) | refine ar_call (cp q4 ?_) | refine ard_call (dp q4 ?_) | refine ar_call (cp b ?_) | refine ard_call (dp b ?_) | fail); simp -implicitDefEqProofs [h4', w1, w2]) | refine hK _ ?_ | refine hK _ _ (by rfl) ?_ | fail)
    refine aw_ret (fin_ret ?_); simp -implicitDefEqProofs [FinP, resV, resT, z0] <;> try rfl
  rw [if_pos h6]
  rw [h6] at q4
  obtain ⟨z, hz, _⟩ := isK_at h6
  have hil2 := (List.getElem?_eq_some_iff.1 hz).1
  have y1 := ih (i + 3) (by omega) (by omega)
  obtain ⟨g1, g2, g3, _⟩ := tyG_ok ts n (i + 3)
  obtain ⟨⟨⟨px, pl⟩, j, e⟩, hr⟩ : ∃ r, tyG ts n (i + 3) = r := ⟨_, rfl⟩
  rw [hr] at y1 g1 g2 g3 ⊢
  dsimp only at g1 g2 g3 ⊢
  clear hr ih hz h6 hp
  by_cases he : e = 0
  · subst he
    rw [if_pos rfl]
    obtain ⟨g4, g5⟩ := g1 rfl
    have m := make7_row ts i j 3 pn ⟨#[]⟩ [.mk px pl] hil (by omega) g5 (by omega)
    refine row_of Try.func109 rfl rfl (Nat.le_of_ble_eq_true rfl) ?_
    repeat' (first | refine aw_seq ?_ | refine aw_skip ?_ | refine aw_block ?_ | refine aw_exit ?_ | refine aw_ct rfl ?_ | refine aw_cf rfl ?_ | ((first | refine aw_reg (fun K hK => ?_) | refine aw_drw mixd (fun K hK => ?_) | refine ar_call (cp q1 ?_) | refine ard_call (dp q1 ?_) | refine ar_call (cp q2 ?_) | refine ard_call (dp q2 ?_) | refine ar_call (cp o ?_) | refine ard_call (dp o ?_) | refine ar_call (cp q3 ?_) | refine ard_call (dp q3 ?_) | refine ar_call (cp o1 ?_) | refine ard_call (dp o1 ?_) | refine ar_call (cp q4 ?_) | refine ard_call (dp q4 ?_) | refine ar_call (cp y1 ?_) | refine ard_call (dp y1 ?_) | refine ar_call (cp m ?_) | refine ard_call (dp m ?_) | fail); simp -implicitDefEqProofs [h4', w1, w2, w3]) | refine hK _ ?_ | refine hK _ _ (by rfl) ?_ | fail)
    refine aw_ret (fin_ret ?_); simp -implicitDefEqProofs [FinP, resV, resT] <;> try rfl
  · rw [if_neg he]
    clear g1 g2 g3
    refine row_of Try.func109 rfl rfl (Nat.le_of_ble_eq_true rfl) ?_
    repeat' (first | refine aw_seq ?_ | refine aw_skip ?_ | refine aw_block ?_ | refine aw_exit ?_ | refine aw_ct rfl ?_ | refine aw_cf rfl ?_ | ((first | refine aw_reg (fun K hK => ?_) | refine aw_drw mixd (fun K hK => ?_) | refine ar_call (cp q1 ?_) | refine ard_call (dp q1 ?_) | refine ar_call (cp q2 ?_) | refine ard_call (dp q2 ?_) | refine ar_call (cp o ?_) | refine ard_call (dp o ?_) | refine ar_call (cp q3 ?_) | refine ard_call (dp q3 ?_) | refine ar_call (cp o1 ?_) | refine ard_call (dp o1 ?_) | refine ar_call (cp q4 ?_) | refine ard_call (dp q4 ?_) | refine ar_call (cp y1 ?_) | refine ard_call (dp y1 ?_) | fail); simp -implicitDefEqProofs [h4', w1, w2, w3, he]) | refine hK _ ?_ | refine hK _ _ (by rfl) ?_ | fail)
    refine aw_ret (fin_ret ?_); simp -implicitDefEqProofs [FinP, resV, resT] <;> try rfl
end Go.Proofs.Ythkfdheoakbfnaa.am
end
