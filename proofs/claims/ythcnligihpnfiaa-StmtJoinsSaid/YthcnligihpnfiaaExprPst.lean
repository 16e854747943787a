/-
  Layer 7: expressions out of tokens: the document's: what stands behind; lists; atoms.
-/
import Derived.Test.YthcnligihpnfiaaExprRef
namespace Go.Proofs.Ythcnligihpnfiaa.am
open Go.ChangeShapes Go.WideShapes Go.ChangeAt Go.RowKit
open vt
set_option linter.unusedVariables false
set_option linter.unusedSimpArgs false
section
variable (ts : List Tok) (hl : ts.length ≤ 1000000000)
/-- What the loop of what stands behind holds. -/
structure InvP (i : Nat) (x : Nat × Got) : Prop where
  eq : lpP ts (Qx ts 1) i x.1 x.2 = Qx ts 7 i
  ok : OkG ts i x.2
  fuel : x.2.2.2 = 0 → ts.length < x.1 + x.2.2.1
include hl
set_option maxRecDepth 100000 in
set_option maxHeartbeats 4000000 in
theorem post_step (i : Nat) (hi : i ≤ ts.length) (h8 : Row Try.prog 84 [vKs ts, vI i] [] (vG (Qx ts 8 i)) []) (hE : ∀ j, i < j → j ≤ ts.length → Row Try.prog 47 [vKs ts, vI j] [] (vG (Qx ts 1 j)) []) : Row Try.prog 76 [vKs ts, vI i] [] (vG (Qx ts 7 i)) [] := by
  have h0 : InvP ts i (ts.length + 1, Qx ts 8 i) := by
    have ho := Q_ok (ts := ts) 8 i hi
    refine ⟨?_, ho, fun h => by dsimp only; omega⟩
    rw [Q_eq 7 i (by decide) (by decide) hi]; unfold bG; rw [if_neg (by decide), if_neg (by decide), if_pos rfl]
  refine row_of Try.func76 rfl rfl (Nat.le_of_ble_eq_true rfl) ?_
  obtain ⟨⟨⟨ax, al⟩, a2, a3⟩, hr⟩ : ∃ r, Qx ts 8 i = r := ⟨_, rfl⟩
  rw [hr] at h8 h0
  repeat' (first | refine aw_seq ?_ | refine aw_skip ?_ | refine aw_block ?_ | refine aw_exit ?_ | refine aw_cond rfl (fun _ => ?_) (fun hb => absurd hb (by decide)) | refine aw_cond rfl (fun hb => absurd hb (by decide)) (fun _ => ?_) | (refine aw_reg (fun K hK => ?_); simp -implicitDefEqProofs) | (refine aw_drw mixd (fun K hK => ?_); simp -implicitDefEqProofs) | refine hK _ ?_ | refine hK _ _ (by rfl) ?_ | (refine ar_call (cp h8 ?_); simp -implicitDefEqProofs) | (refine ard_call (dp h8 ?_); simp -implicitDefEqProofs) | fail)
  refine aw_lp (ι := Nat × Got) (fun x => mkSt [(0, vKs ts), (1, vI i), (4, .v (.c (.ptr 0 0))), (5, .v (.c (.ptr 1 0)))] [some zG, some (gb x.2)]) (InvP ts i) (fun x => x.1) (ts.length + 1, (.mk ax al, a2, a3)) h0 (cov_intro [0, 11] (by simp -implicitDefEqProofs) (by simp -implicitDefEqProofs) (by decide) rfl (by simp)) (fun Z hI x hx => ?_)
  clear h0 hr h8
  obtain ⟨m, ⟨⟨px, pl⟩, j, e⟩⟩ := x
  obtain ⟨x1, x2, x3⟩ := hx
  dsimp only at x1 x2 x3 ⊢
  by_cases he : e = 0; rotate_left
  · have hd : Qx ts 7 i = (.mk px pl, j, e) := by
      rw [← x1]
      cases m
      · rfl
      · rw [lpP, if_pos he]
    rw [hd]
    repeat (first | refine aw_seq ?_ | refine aw_skip ?_ | refine aw_block ?_ | refine aw_exit ?_ | refine aw_cond rfl (fun _ => ?_) (fun hb => absurd hb (by decide)) | refine aw_cond rfl (fun hb => absurd hb (by decide)) (fun _ => ?_) | (refine aw_reg (fun K hK => ?_); simp -implicitDefEqProofs [he]; refine hK _ ?_) | (refine aw_drw mixd (fun K hK => ?_); simp -implicitDefEqProofs [he]; refine hK _ _ (by rfl) ?_) | fail)
    refine aw_ret (fin_ret ?_); simp -implicitDefEqProofs [FinP, resV, resT] <;> try rfl
  subst he
  have x3 := x3 rfl
  have hy := x2.yes rfl
  dsimp only at hy
  obtain ⟨m, rfl⟩ : ∃ m', m = m' + 1 := ⟨m - 1, by omega⟩
  have q1 := sign_row ts j sOpen
  rw [sign_is (by decide)] at q1
  have q2 := sign_row ts j sDot
  rw [sign_is (by decide)] at q2
  have w1 : IntKind.i64.wrap ((j : Nat) + 1 : Int) = (j : Nat) + 1 := i64i _ (by omega) (by omega)
  rw [lpP, if_neg (by simp)] at x1
  dsimp only at x1
  by_cases e1 : isK sOpen (nxt ts j) = true
  · have hlt := isK_lt e1
    rw [if_pos e1] at x1
    rw [e1] at q1
    have hq := hE (j + 1) (by omega) (by omega)
    have hk := Q_ok (ts := ts) 1 (j + 1) (by omega)
    obtain ⟨⟨⟨rx, rl⟩, r2, r3⟩, hr⟩ : ∃ r, Qx ts 1 (j + 1) = r := ⟨_, rfl⟩
    rw [hr] at hq hk x1
    by_cases hr3 : r3 = 0; rotate_left
    · rw [if_pos hr3] at x1
      rw [← x1]
      clear x1 hr hE x2 hk q2 e1
      repeat' (first | refine aw_seq ?_ | refine aw_skip ?_ | refine aw_block ?_ | refine aw_exit ?_ | refine aw_cond rfl (fun _ => ?_) (fun hb => absurd hb (by decide)) | refine aw_cond rfl (fun hb => absurd hb (by decide)) (fun _ => ?_) | (refine aw_reg (fun K hK => ?_); simp -implicitDefEqProofs [hr3, w1]) | (refine aw_drw mixd (fun K hK => ?_); simp -implicitDefEqProofs [hr3, w1]) | refine hK _ ?_ | refine hK _ _ (by rfl) ?_ | (refine ar_call (cp q1 ?_); simp -implicitDefEqProofs [hr3, w1]) | (refine ard_call (dp q1 ?_); simp -implicitDefEqProofs [hr3, w1]) | (refine ar_call (cp hq ?_); simp -implicitDefEqProofs [hr3, w1]) | (refine ard_call (dp hq ?_); simp -implicitDefEqProofs [hr3, w1]) | fail)
      refine aw_ret (fin_ret ?_); simp -implicitDefEqProofs [FinP, resV, resT] <;> try rfl
    subst hr3
    rw [if_neg (by simp)] at x1
    have hyy := hk.yes rfl
    dsimp only at hyy x1
    have q3 := sign_row ts r2 sShut
    rw [sign_is (by decide)] at q3
    by_cases e3 : isK sShut (nxt ts r2) = true; rotate_left
    · have e3 : isK sShut (nxt ts r2) = false := by simpa using e3
      rw [if_pos e3] at x1
      rw [← x1]
      rw [e3] at q3
      have b := bad_row r2
      clear x1 hr hE x2 hk q2 e1 e3
      repeat' (first | refine aw_seq ?_ | refine aw_skip ?_ | refine aw_block ?_ | refine aw_exit ?_ | refine aw_cond rfl (fun _ => ?_) (fun hb => absurd hb (by decide)) | refine aw_cond rfl (fun hb => absurd hb (by decide)) (fun _ => ?_) | (refine aw_reg (fun K hK => ?_); simp -implicitDefEqProofs [w1]) | (refine aw_drw mixd (fun K hK => ?_); simp -implicitDefEqProofs [w1]) | refine hK _ ?_ | refine hK _ _ (by rfl) ?_ | (refine ar_call (cp q1 ?_); simp -implicitDefEqProofs [w1]) | (refine ard_call (dp q1 ?_); simp -implicitDefEqProofs [w1]) | (refine ar_call (cp hq ?_); simp -implicitDefEqProofs [w1]) | (refine ard_call (dp hq ?_); simp -implicitDefEqProofs [w1]) | (refine ar_call (cp q3 ?_); simp -implicitDefEqProofs [w1]) | (refine ard_call (dp q3 ?_); simp -implicitDefEqProofs [w1]) | (refine ar_call (cp b ?_); simp -implicitDefEqProofs [w1]) | (refine ard_call (dp b ?_); simp -implicitDefEqProofs [w1]) | fail)
      refine aw_ret (fin_ret ?_); simp -implicitDefEqProofs [FinP, resV, resT, bad7, z0] <;> try rfl
    have hlt2 := isK_lt e3
    have w2 : IntKind.i64.wrap ((r2 : Nat) + 1 : Int) = (r2 : Nat) + 1 := i64i _ (by omega) (by omega)
    rw [if_neg (by simp [e3])] at x1
    rw [e3] at q3
    have m7 := rmk_row ts hl i (r2 + 1) 12 0 ⟨#[]⟩ [.mk px pl, .mk rx rl] (by omega) (by omega)
    have nx : InvP ts i (m, mk7 ts i (r2 + 1) 12 0 ⟨#[]⟩ [.mk px pl, .mk rx rl]) := ⟨x1, ok_mk (by omega) (by omega), fun _ => by show ts.length < m + (r2 + 1); omega⟩
    clear x1 hr hE x2 hk q2 e1 e3
    repeat' (first | refine aw_seq ?_ | refine aw_skip ?_ | refine aw_block ?_ | refine aw_exit ?_ | refine aw_cond rfl (fun _ => ?_) (fun hb => absurd hb (by decide)) | refine aw_cond rfl (fun hb => absurd hb (by decide)) (fun _ => ?_) | (refine aw_reg (fun K hK => ?_); simp -implicitDefEqProofs [w1, w2]) | (refine aw_drw mixd (fun K hK => ?_); simp -implicitDefEqProofs [w1, w2]) | refine hK _ ?_ | refine hK _ _ (by rfl) ?_ | (refine ar_call (cp q1 ?_); simp -implicitDefEqProofs [w1, w2]) | (refine ard_call (dp q1 ?_); simp -implicitDefEqProofs [w1, w2]) | (refine ar_call (cp hq ?_); simp -implicitDefEqProofs [w1, w2]) | (refine ard_call (dp hq ?_); simp -implicitDefEqProofs [w1, w2]) | (refine ar_call (cp q3 ?_); simp -implicitDefEqProofs [w1, w2]) | (refine ard_call (dp q3 ?_); simp -implicitDefEqProofs [w1, w2]) | (refine ar_call (cp m7 ?_); simp -implicitDefEqProofs [w1, w2]) | (refine ard_call (dp m7 ?_); simp -implicitDefEqProofs [w1, w2]) | fail)
    refine ⟨(_, _), nx, (by dsimp only; omega), ?_⟩; rw [hI]; exact cov_intro [0, 1] (by simp -implicitDefEqProofs [mk7]) (by simp -implicitDefEqProofs [mk7]) (by decide) rfl (by simp)
  have e1 : isK sOpen (nxt ts j) = false := by simpa using e1
  rw [if_neg (by simp [e1])] at x1
  rw [e1] at q1
  by_cases e2 : isK sDot (nxt ts j) = true; rotate_left
  · rw [if_neg e2] at x1
    rw [← x1]
    rw [show isK sDot (nxt ts j) = false by simpa using e2] at q2
    clear x1 hE x2 e1 e2
    repeat' (first | refine aw_seq ?_ | refine aw_skip ?_ | refine aw_block ?_ | refine aw_exit ?_ | refine aw_cond rfl (fun _ => ?_) (fun hb => absurd hb (by decide)) | refine aw_cond rfl (fun hb => absurd hb (by decide)) (fun _ => ?_) | (refine aw_reg (fun K hK => ?_); simp -implicitDefEqProofs) | (refine aw_drw mixd (fun K hK => ?_); simp -implicitDefEqProofs) | refine hK _ ?_ | refine hK _ _ (by rfl) ?_ | (refine ar_call (cp q1 ?_); simp -implicitDefEqProofs) | (refine ard_call (dp q1 ?_); simp -implicitDefEqProofs) | (refine ar_call (cp q2 ?_); simp -implicitDefEqProofs) | (refine ard_call (dp q2 ?_); simp -implicitDefEqProofs) | fail)
    refine aw_ret (fin_ret ?_); simp -implicitDefEqProofs [FinP, resV, resT] <;> try rfl
  rw [if_pos e2] at x1
  rw [e2] at q2
  have hlt := isK_lt e2
  have o := now_row ts (j + 1)
  by_cases e4 : (nxt ts (j + 1)).k = 1; rotate_left
  · rw [if_pos e4] at x1
    rw [← x1]
    have b := bad_row (j + 1)
    clear x1 hE x2 e1 e2
    repeat' (first | refine aw_seq ?_ | refine aw_skip ?_ | refine aw_block ?_ | refine aw_exit ?_ | refine aw_cond rfl (fun _ => ?_) (fun hb => absurd hb (by decide)) | refine aw_cond rfl (fun hb => absurd hb (by decide)) (fun _ => ?_) | (refine aw_reg (fun K hK => ?_); simp -implicitDefEqProofs [w1, e4]) | (refine aw_drw mixd (fun K hK => ?_); simp -implicitDefEqProofs [w1, e4]) | refine hK _ ?_ | refine hK _ _ (by rfl) ?_ | (refine ar_call (cp q1 ?_); simp -implicitDefEqProofs [w1, e4]) | (refine ard_call (dp q1 ?_); simp -implicitDefEqProofs [w1, e4]) | (refine ar_call (cp q2 ?_); simp -implicitDefEqProofs [w1, e4]) | (refine ard_call (dp q2 ?_); simp -implicitDefEqProofs [w1, e4]) | (refine ar_call (cp o ?_); simp -implicitDefEqProofs [w1, e4]) | (refine ard_call (dp o ?_); simp -implicitDefEqProofs [w1, e4]) | (refine ar_call (cp b ?_); simp -implicitDefEqProofs [w1, e4]) | (refine ard_call (dp b ?_); simp -implicitDefEqProofs [w1, e4]) | fail)
    refine aw_ret (fin_ret ?_); simp -implicitDefEqProofs [FinP, resV, resT, bad7, z0] <;> try rfl
  rw [if_neg (by simp [e4])] at x1
  have hlt2 := k_lt e4 (by decide)
  have w2 : IntKind.i64.wrap ((j : Nat) + 2 : Int) = (j : Nat) + 2 := i64i _ (by omega) (by omega)
  have m7 := rmk_row ts hl i (j + 2) 13 0 (nxt ts (j + 1)).s [.mk px pl] (by omega) (by omega)
  have nx : InvP ts i (m, mk7 ts i (j + 2) 13 0 (nxt ts (j + 1)).s [.mk px pl]) := ⟨x1, ok_mk (by omega) (by omega), fun _ => by show ts.length < m + (j + 2); omega⟩
  clear x1 hE x2 e1 e2
  repeat' (first | refine aw_seq ?_ | refine aw_skip ?_ | refine aw_block ?_ | refine aw_exit ?_ | refine aw_cond rfl (fun _ => ?_) (fun hb => absurd hb (by decide)) | refine aw_cond rfl (fun hb => absurd hb (by decide)) (fun _ => ?_) | (refine aw_reg (fun K hK => ?_); simp -implicitDefEqProofs [w1, w2, e4]) | (refine aw_drw mixd (fun K hK => ?_); simp -implicitDefEqProofs [w1, w2, e4]) | refine hK _ ?_ | refine hK _ _ (by rfl) ?_ | (refine ar_call (cp q1 ?_); simp -implicitDefEqProofs [w1, w2, e4]) | (refine ard_call (dp q1 ?_); simp -implicitDefEqProofs [w1, w2, e4]) | (refine ar_call (cp q2 ?_); simp -implicitDefEqProofs [w1, w2, e4]) | (refine ard_call (dp q2 ?_); simp -implicitDefEqProofs [w1, w2, e4]) | (refine ar_call (cp o ?_); simp -implicitDefEqProofs [w1, w2, e4]) | (refine ard_call (dp o ?_); simp -implicitDefEqProofs [w1, w2, e4]) | (refine ar_call (cp m7 ?_); simp -implicitDefEqProofs [w1, w2, e4]) | (refine ard_call (dp m7 ?_); simp -implicitDefEqProofs [w1, w2, e4]) | fail)
  refine ⟨(_, _), nx, (by dsimp only; omega), ?_⟩; rw [hI]; exact cov_intro [0, 1] (by simp -implicitDefEqProofs [mk7]) (by simp -implicitDefEqProofs [mk7]) (by decide) rfl (by simp)
/-- What the loop of a list holds. -/
structure InvC (E : Nat → Got) (i : Nat) (x : Nat × Nat × List VT) : Prop where
  eq : lpC ts E x.1 x.2.1 x.2.2 = lpC ts E (ts.length + 1) i []
  le : i ≤ x.2.1 ∧ x.2.1 ≤ ts.length
  fuel : ts.length < x.1 + x.2.1
  few : x.2.2.length + x.1 ≤ ts.length + 1
set_option maxRecDepth 100000 in
set_option maxHeartbeats 4000000 in
theorem list_row (i : Nat) (hi : i ≤ ts.length) (hE : ∀ j, i ≤ j → j ≤ ts.length → Row Try.prog 47 [vKs ts, vI j] [] (vG (Qx ts 1 j)) []) : Row Try.prog 89 [vKs ts, vI i] [] (vC3 (lpC ts (Qx ts 1) (ts.length + 1) i [])) [] := by
  have h0 : InvC ts (Qx ts 1) i (ts.length + 1, i, []) := ⟨rfl, ⟨Nat.le_refl _, hi⟩, by dsimp only; omega, by simp⟩
  refine row_of Try.func89 rfl rfl (Nat.le_of_ble_eq_true rfl) ?_
  repeat (first | refine aw_seq ?_ | refine aw_skip ?_ | refine aw_block ?_ | refine aw_exit ?_ | refine aw_cond rfl (fun _ => ?_) (fun hb => absurd hb (by decide)) | refine aw_cond rfl (fun hb => absurd hb (by decide)) (fun _ => ?_) | (refine aw_reg (fun K hK => ?_); simp -implicitDefEqProofs; refine hK _ ?_) | (refine aw_drw mixd (fun K hK => ?_); simp -implicitDefEqProofs; refine hK _ _ (by rfl) ?_) | fail)
  refine aw_lp (ι := Nat × Nat × List VT) (fun x => mkSt [(0, vKs ts), (1, vI (x.2.1 : Nat)), (7, .v (.c (.row 0 6 (x.2.2.map tc))))] [some (.row 29 6)]) (InvC ts (Qx ts 1) i) (fun x => x.1) (ts.length + 1, i, []) h0 (cov_intro [3] (by simp -implicitDefEqProofs) (by simp -implicitDefEqProofs) (by decide) rfl (by simp)) (fun Z hI x hx => ?_)
  clear h0
  obtain ⟨m, j, acc⟩ := x
  obtain ⟨x1, x2, x3, x4⟩ := hx
  dsimp only at x1 x2 x3 x4 ⊢
  obtain ⟨m, rfl⟩ : ∃ m', m = m' + 1 := ⟨m - 1, by omega⟩
  have hq := hE j x2.1 x2.2
  have hk := Q_ok (ts := ts) 1 j x2.2
  rw [lpC] at x1
  obtain ⟨⟨⟨rx, rl⟩, r2, r3⟩, hr⟩ : ∃ r, Qx ts 1 j = r := ⟨_, rfl⟩
  rw [hr] at hq hk x1
  by_cases hr3 : r3 = 0; rotate_left
  · rw [if_pos hr3] at x1
    rw [← x1]
    clear x1 hr hE hk
    repeat' (first | refine aw_seq ?_ | refine aw_skip ?_ | refine aw_block ?_ | refine aw_exit ?_ | refine aw_cond rfl (fun _ => ?_) (fun hb => absurd hb (by decide)) | refine aw_cond rfl (fun hb => absurd hb (by decide)) (fun _ => ?_) | (refine aw_reg (fun K hK => ?_); simp -implicitDefEqProofs [hr3]) | (refine aw_drw mixd (fun K hK => ?_); simp -implicitDefEqProofs [hr3]) | refine hK _ ?_ | refine hK _ _ (by rfl) ?_ | (refine ar_call (cp hq ?_); simp -implicitDefEqProofs [hr3]) | (refine ard_call (dp hq ?_); simp -implicitDefEqProofs [hr3]) | fail)
    refine aw_ret (fin_ret ?_); simp -implicitDefEqProofs [FinP, resV, resT] <;> try rfl
  subst hr3
  rw [if_neg (by simp)] at x1
  have hyy := hk.yes rfl
  dsimp only at hyy x1
  have b1 : (acc.length + 1) * 72 ≤ 140737488355328 := by omega
  have b2 : acc.length + 1 ≤ 140737488355328 := by omega
  have q3 := sign_row ts r2 sCom
  rw [sign_is (by decide)] at q3
  by_cases e3 : isK sCom (nxt ts r2) = true; rotate_left
  · have e3 : isK sCom (nxt ts r2) = false := by simpa using e3
    rw [if_pos e3] at x1
    rw [← x1]
    rw [e3] at q3
    clear x1 hr hE hk e3
    repeat' (first | refine aw_seq ?_ | refine aw_skip ?_ | refine aw_block ?_ | refine aw_exit ?_ | refine aw_cond rfl (fun _ => ?_) (fun hb => absurd hb (by decide)) | refine aw_cond rfl (fun hb => absurd hb (by decide)) (fun _ => ?_) | (refine aw_reg (fun K hK => ?_); simp -implicitDefEqProofs [b1, b2]) | (refine aw_drw mixd (fun K hK => ?_); simp -implicitDefEqProofs [b1, b2]) | refine hK _ ?_ | refine hK _ _ (by rfl) ?_ | (refine ar_call (cp hq ?_); simp -implicitDefEqProofs [b1, b2]) | (refine ard_call (dp hq ?_); simp -implicitDefEqProofs [b1, b2]) | (refine ar_call (cp q3 ?_); simp -implicitDefEqProofs [b1, b2]) | (refine ard_call (dp q3 ?_); simp -implicitDefEqProofs [b1, b2]) | fail)
    refine aw_ret (fin_ret ?_); simp -implicitDefEqProofs [FinP, resV, resT] <;> try rfl
  have hlt2 := isK_lt e3
  have w2 : IntKind.i64.wrap ((r2 : Nat) + 1 : Int) = (r2 : Nat) + 1 := i64i _ (by omega) (by omega)
  rw [if_neg (by simp [e3])] at x1
  rw [e3] at q3
  have nx : InvC ts (Qx ts 1) i (m, r2 + 1, acc ++ [.mk rx rl]) := ⟨x1, by dsimp only; omega, by dsimp only; omega, by dsimp only; rw [List.length_append]; simp only [List.length_cons, List.length_nil]; omega⟩
  clear x1 hr hE hk e3
  repeat' (first | refine aw_seq ?_ | refine aw_skip ?_ | refine aw_block ?_ | refine aw_exit ?_ | refine aw_cond rfl (fun _ => ?_) (fun hb => absurd hb (by decide)) | refine aw_cond rfl (fun hb => absurd hb (by decide)) (fun _ => ?_) | (refine aw_reg (fun K hK => ?_); simp -implicitDefEqProofs [b1, b2, w2]) | (refine aw_drw mixd (fun K hK => ?_); simp -implicitDefEqProofs [b1, b2, w2]) | refine hK _ ?_ | refine hK _ _ (by rfl) ?_ | (refine ar_call (cp hq ?_); simp -implicitDefEqProofs [b1, b2, w2]) | (refine ard_call (dp hq ?_); simp -implicitDefEqProofs [b1, b2, w2]) | (refine ar_call (cp q3 ?_); simp -implicitDefEqProofs [b1, b2, w2]) | (refine ard_call (dp q3 ?_); simp -implicitDefEqProofs [b1, b2, w2]) | fail)
  refine ⟨(_, _, _), nx, (by dsimp only; omega), ?_⟩; rw [hI]; exact cov_intro [20] (by simp -implicitDefEqProofs) (by simp -implicitDefEqProofs) (by decide) rfl (by simp)
end
end Go.Proofs.Ythcnligihpnfiaa.am
