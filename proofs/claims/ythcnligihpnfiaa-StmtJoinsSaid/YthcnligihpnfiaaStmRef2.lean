/-
  Layer 8: statements out of tokens: the document's, by forms.
-/
import Derived.Test.YthcnligihpnfiaaStmRef
namespace Go.Proofs.Ythcnligihpnfiaa.am
open Go.ChangeShapes Go.WideShapes Go.ChangeAt Go.RowKit
open vt
set_option linter.unusedVariables false
set_option linter.unusedSimpArgs false
theorem frm_good (ts : List Tok) (i : Nat) : (frmG ts i).2.length ≤ 7 ∧ ∀ w, It.sub w ∈ (frmG ts i).2 → w ≤ 2 := by
  unfold frmG
  repeat' split
  all_goals (refine ⟨by simp, fun w h => ?_⟩; simp at h; omega)
section
variable (ts : List Tok) (hl : ts.length ≤ 1000000000) (S : Nat → Got) (hS : ∀ j, j ≤ ts.length → OkS ts 0 j (S j)) (i : Nat) (hi : i ≤ ts.length)
  (hrow : ∀ j, i < j → j ≤ ts.length → Row Try.prog 13 [vKs ts, vI j] [] (vG (S j)) [])
/-- What the loop along a form holds. -/
structure InvF (kd : Int) (L : List It) (R : Got) (x : Nat × Nat × ByteArray × List VT) : Prop where
  eq : itH ts (RR ts S) i kd 0 (L.drop x.1) x.2.1 x.2.2.1 x.2.2.2 = R
  le : x.1 ≤ L.length
  at' : i ≤ x.2.1 ∧ x.2.1 ≤ ts.length
  cr : ∃ c, c + sm x.2.2.2 + i ≤ x.2.1 ∧ Cr c (L.drop x.1)
  few : x.2.2.2.length ≤ x.1
include hl hS hi hrow
set_option maxRecDepth 100000 in
set_option maxHeartbeats 4000000 in
theorem rstmt_form (R : Got) (hb : isK sBra (nxt ts i) = false) (hR : itH ts (RR ts S) i (frmG ts i).1 0 (frmG ts i).2 i ⟨#[]⟩ [] = R) : Row Try.prog 13 [vKs ts, vI i] [] (vG R) [] := by
  have q := sign_row ts i sBra
  rw [sign_is q_bra, hb] at q
  have f := form_row ts hl i hi
  have hg := frm_good ts i
  have hc := frm_cr (ts := ts) i
  obtain ⟨⟨kd, L⟩, hL⟩ : ∃ r, frmG ts i = r := ⟨_, rfl⟩
  rw [hL] at f hg hc hR
  dsimp only at hg hc hR
  obtain ⟨hg1, hg2⟩ := hg
  have h0 : InvF ts S i kd L R (0, i, ⟨#[]⟩, []) := ⟨hR, Nat.zero_le _, ⟨Nat.le_refl _, hi⟩, ⟨0, by simp [sm], hc⟩, Nat.le_refl _⟩
  clear hR hc hL hb
  refine row_of Try.func13 rfl rfl (Nat.le_of_ble_eq_true rfl) ?_
  repeat' (first | refine aw_seq ?_ | refine aw_skip ?_ | refine aw_block ?_ | refine aw_exit ?_ | refine aw_cond rfl (fun _ => ?_) (fun hb => absurd hb (by decide)) | refine aw_cond rfl (fun hb => absurd hb (by decide)) (fun _ => ?_) | (refine aw_reg (fun K hK => ?_); simp -implicitDefEqProofs) | (refine aw_drw mixd (fun K hK => ?_); simp -implicitDefEqProofs) | refine hK _ ?_ | refine hK _ _ (by rfl) ?_ | (refine ar_call (cp q ?_); simp -implicitDefEqProofs) | (refine ard_call (dp q ?_); simp -implicitDefEqProofs) | (refine ar_call (cp f ?_); simp -implicitDefEqProofs) | (refine ard_call (dp f ?_); simp -implicitDefEqProofs) | fail)
  refine aw_lp (ι := Nat × Nat × ByteArray × List VT) (fun x => mkSt [(0, vKs ts), (1, vI i), (4, .v (.c (.ptr 0 0))), (5, vI kd), (6, .v (.c (.pv (.sl 2 (L.map ic))))), (7, .v (.c (.row 1 6 (x.2.2.2.map tc)))), (8, vS x.2.2.1), (9, vI (x.2.1 : Nat)), (10, vI (x.1 : Nat))] [some zG, some (.row 29 6)]) (InvF ts S i kd L R) (fun x => L.length - x.1) (0, i, ⟨#[]⟩, []) h0 (cov_intro [0, 26] (by simp -implicitDefEqProofs) (by simp -implicitDefEqProofs) (by decide) rfl (by simp)) (fun Z hI x hx => ?_)
  clear h0 q f
  obtain ⟨k, to, name, ps⟩ := x
  obtain ⟨x1, x2, x3, x4, x5⟩ := hx
  dsimp only at x1 x2 x3 x4 x5 ⊢
  obtain ⟨c, c1, c2⟩ := x4
  by_cases hkl : k < L.length; rotate_left
  · have hkl' : k = L.length := by omega
    subst hkl'
    rw [List.drop_length] at x1 c2
    unfold Cr at c2
    rw [itH] at x1
    rw [← x1]
    have m7 := rmk_row ts hl i to kd 0 name ps (by omega) x3.2
    clear x1 c1 c2 x2 hg2 hrow hS
    repeat' (first | refine aw_seq ?_ | refine aw_skip ?_ | refine aw_block ?_ | refine aw_exit ?_ | refine aw_cond rfl (fun _ => ?_) (fun hb => absurd hb (by decide)) | refine aw_cond rfl (fun hb => absurd hb (by decide)) (fun _ => ?_) | (refine aw_reg (fun K hK => ?_); simp -implicitDefEqProofs) | (refine aw_drw mixd (fun K hK => ?_); simp -implicitDefEqProofs) | refine hK _ ?_ | refine hK _ _ (by rfl) ?_ | (refine ar_call (cp m7 ?_); simp -implicitDefEqProofs) | (refine ard_call (dp m7 ?_); simp -implicitDefEqProofs) | fail)
    refine aw_ret (fin_ret ?_); simp -implicitDefEqProofs [FinP, resV, resT, mk7] <;> try rfl
  obtain ⟨it, hy⟩ : ∃ y, L[k]? = some y := ⟨_, List.getElem?_eq_getElem hkl⟩
  have hy' := (List.getElem?_eq_some_iff.1 hy).2
  have hmem := List.mem_of_getElem? hy
  rw [List.drop_eq_getElem_cons hkl, hy'] at x1 c2
  have wk : IntKind.i64.wrap ((k : Nat) + 1 : Int) = (k : Nat) + 1 := i64i _ (by omega) (by omega)
  have w1 : IntKind.i64.wrap ((to : Nat) + 1 : Int) = (to : Nat) + 1 := i64i _ (by omega) (by omega)
  have b1 : (ps.length + 1) * 72 ≤ 140737488355328 := by omega
  have b2 : ps.length + 1 ≤ 140737488355328 := by omega
  cases it with
  | sgn s =>
    rw [itG_sgn] at x1
    unfold Cr at c2
    by_cases h : isK s (nxt ts to) = true
    · have hlt := isK_lt h
      rw [if_pos h] at x1
      have nx : InvF ts S i kd L R (k + 1, to + 1, name, ps) := ⟨x1, hkl, by dsimp only; omega, ⟨c + 1, by dsimp only; omega, c2⟩, by dsimp only; omega⟩
      rcases quo_34 s with h3 | h3
      · have q := word_row ts to s
        rw [word_is h3, h] at q
        clear x1 c1 c2 hg2 hrow hS h
        repeat' (first | refine aw_seq ?_ | refine aw_skip ?_ | refine aw_block ?_ | refine aw_exit ?_ | refine aw_cond rfl (fun _ => ?_) (fun hb => absurd hb (by decide)) | refine aw_cond rfl (fun hb => absurd hb (by decide)) (fun _ => ?_) | (refine aw_reg (fun K hK => ?_); simp -implicitDefEqProofs [hkl, hy, hy', ic, h3, wk, w1]) | (refine aw_drw mixd (fun K hK => ?_); simp -implicitDefEqProofs [hkl, hy, hy', ic, h3, wk, w1]) | refine hK _ ?_ | refine hK _ _ (by rfl) ?_ | (refine ar_call (cp q ?_); simp -implicitDefEqProofs [hkl, hy, hy', ic, h3, wk, w1]) | (refine ard_call (dp q ?_); simp -implicitDefEqProofs [hkl, hy, hy', ic, h3, wk, w1]) | fail)
        refine ⟨(_, _, _, _), nx, (by dsimp only; omega), ?_⟩; rw [hI]; exact cov_intro [0, 1] (by simp -implicitDefEqProofs) (by simp -implicitDefEqProofs) (by decide) rfl (by simp)
      · have q := sign_row ts to s
        rw [sign_is h3, h] at q
        clear x1 c1 c2 hg2 hrow hS h
        repeat' (first | refine aw_seq ?_ | refine aw_skip ?_ | refine aw_block ?_ | refine aw_exit ?_ | refine aw_cond rfl (fun _ => ?_) (fun hb => absurd hb (by decide)) | refine aw_cond rfl (fun hb => absurd hb (by decide)) (fun _ => ?_) | (refine aw_reg (fun K hK => ?_); simp -implicitDefEqProofs [hkl, hy, hy', ic, h3, wk, w1]) | (refine aw_drw mixd (fun K hK => ?_); simp -implicitDefEqProofs [hkl, hy, hy', ic, h3, wk, w1]) | refine hK _ ?_ | refine hK _ _ (by rfl) ?_ | (refine ar_call (cp q ?_); simp -implicitDefEqProofs [hkl, hy, hy', ic, h3, wk, w1]) | (refine ard_call (dp q ?_); simp -implicitDefEqProofs [hkl, hy, hy', ic, h3, wk, w1]) | fail)
        refine ⟨(_, _, _, _), nx, (by dsimp only; omega), ?_⟩; rw [hI]; exact cov_intro [0, 1] (by simp -implicitDefEqProofs) (by simp -implicitDefEqProofs) (by decide) rfl (by simp)
    · have h : isK s (nxt ts to) = false := by simpa using h
      rw [if_neg (by simp [h])] at x1
      rw [← x1]
      have bd := bad_row to
      rcases quo_34 s with h3 | h3
      · have q := word_row ts to s
        rw [word_is h3, h] at q
        clear x1 c1 c2 hg2 hrow hS h
        repeat' (first | refine aw_seq ?_ | refine aw_skip ?_ | refine aw_block ?_ | refine aw_exit ?_ | refine aw_cond rfl (fun _ => ?_) (fun hb => absurd hb (by decide)) | refine aw_cond rfl (fun hb => absurd hb (by decide)) (fun _ => ?_) | (refine aw_reg (fun K hK => ?_); simp -implicitDefEqProofs [hkl, hy, hy', ic, h3, wk, w1]) | (refine aw_drw mixd (fun K hK => ?_); simp -implicitDefEqProofs [hkl, hy, hy', ic, h3, wk, w1]) | refine hK _ ?_ | refine hK _ _ (by rfl) ?_ | (refine ar_call (cp q ?_); simp -implicitDefEqProofs [hkl, hy, hy', ic, h3, wk, w1]) | (refine ard_call (dp q ?_); simp -implicitDefEqProofs [hkl, hy, hy', ic, h3, wk, w1]) | (refine ar_call (cp bd ?_); simp -implicitDefEqProofs [hkl, hy, hy', ic, h3, wk, w1]) | (refine ard_call (dp bd ?_); simp -implicitDefEqProofs [hkl, hy, hy', ic, h3, wk, w1]) | fail)
        refine aw_ret (fin_ret ?_); simp -implicitDefEqProofs [FinP, resV, resT, bad7, z0] <;> try rfl
      · have q := sign_row ts to s
        rw [sign_is h3, h] at q
        clear x1 c1 c2 hg2 hrow hS h
        repeat' (first | refine aw_seq ?_ | refine aw_skip ?_ | refine aw_block ?_ | refine aw_exit ?_ | refine aw_cond rfl (fun _ => ?_) (fun hb => absurd hb (by decide)) | refine aw_cond rfl (fun hb => absurd hb (by decide)) (fun _ => ?_) | (refine aw_reg (fun K hK => ?_); simp -implicitDefEqProofs [hkl, hy, hy', ic, h3, wk, w1]) | (refine aw_drw mixd (fun K hK => ?_); simp -implicitDefEqProofs [hkl, hy, hy', ic, h3, wk, w1]) | refine hK _ ?_ | refine hK _ _ (by rfl) ?_ | (refine ar_call (cp q ?_); simp -implicitDefEqProofs [hkl, hy, hy', ic, h3, wk, w1]) | (refine ard_call (dp q ?_); simp -implicitDefEqProofs [hkl, hy, hy', ic, h3, wk, w1]) | (refine ar_call (cp bd ?_); simp -implicitDefEqProofs [hkl, hy, hy', ic, h3, wk, w1]) | (refine ard_call (dp bd ?_); simp -implicitDefEqProofs [hkl, hy, hy', ic, h3, wk, w1]) | fail)
        refine aw_ret (fin_ret ?_); simp -implicitDefEqProofs [FinP, resV, resT, bad7, z0] <;> try rfl
  | nam =>
    rw [itG_nam] at x1
    unfold Cr at c2
    have q := now_row ts to
    by_cases h : (nxt ts to).k = 1
    · obtain ⟨t, ht, htn, htk⟩ := kind_at h (by decide)
      have ht' := (List.getElem?_eq_some_iff.1 ht).2
      have hlt := (List.getElem?_eq_some_iff.1 ht).1
      rw [if_pos h, htn] at x1
      rw [htn] at q
      have nx : InvF ts S i kd L R (k + 1, to + 1, t.s, ps) := ⟨x1, hkl, by dsimp only; omega, ⟨c + 1, by dsimp only; omega, c2⟩, by dsimp only; omega⟩
      obtain ⟨tk, tn, tss, tf, tt⟩ := t
      dsimp only at htk nx
      clear x1 c1 c2 hg2 hrow hS h htn
      repeat' (first | refine aw_seq ?_ | refine aw_skip ?_ | refine aw_block ?_ | refine aw_exit ?_ | refine aw_cond rfl (fun _ => ?_) (fun hb => absurd hb (by decide)) | refine aw_cond rfl (fun hb => absurd hb (by decide)) (fun _ => ?_) | (refine aw_reg (fun K hK => ?_); simp -implicitDefEqProofs [hkl, hy, hy', ic, wk, w1, htk, hlt, ht, ht']) | (refine aw_drw mixd (fun K hK => ?_); simp -implicitDefEqProofs [hkl, hy, hy', ic, wk, w1, htk, hlt, ht, ht']) | refine hK _ ?_ | refine hK _ _ (by rfl) ?_ | (refine ar_call (cp q ?_); simp -implicitDefEqProofs [hkl, hy, hy', ic, wk, w1, htk, hlt, ht, ht']) | (refine ard_call (dp q ?_); simp -implicitDefEqProofs [hkl, hy, hy', ic, wk, w1, htk, hlt, ht, ht']) | fail)
      refine ⟨(_, _, _, _), nx, (by dsimp only; omega), ?_⟩; rw [hI]; exact cov_intro [0, 1] (by simp -implicitDefEqProofs) (by simp -implicitDefEqProofs) (by decide) rfl (by simp)
    · rw [if_neg h] at x1
      rw [← x1]
      have bd := bad_row to
      obtain ⟨⟨tk, tn, tss, tf, tt⟩, ht⟩ : ∃ t, nxt ts to = t := ⟨_, rfl⟩
      rw [ht] at q h
      dsimp only at h
      clear x1 c1 c2 hg2 hrow hS ht
      repeat' (first | refine aw_seq ?_ | refine aw_skip ?_ | refine aw_block ?_ | refine aw_exit ?_ | refine aw_cond rfl (fun _ => ?_) (fun hb => absurd hb (by decide)) | refine aw_cond rfl (fun hb => absurd hb (by decide)) (fun _ => ?_) | (refine aw_reg (fun K hK => ?_); simp -implicitDefEqProofs [hkl, hy, hy', ic, wk, w1, h]) | (refine aw_drw mixd (fun K hK => ?_); simp -implicitDefEqProofs [hkl, hy, hy', ic, wk, w1, h]) | refine hK _ ?_ | refine hK _ _ (by rfl) ?_ | (refine ar_call (cp q ?_); simp -implicitDefEqProofs [hkl, hy, hy', ic, wk, w1, h]) | (refine ard_call (dp q ?_); simp -implicitDefEqProofs [hkl, hy, hy', ic, wk, w1, h]) | (refine ar_call (cp bd ?_); simp -implicitDefEqProofs [hkl, hy, hy', ic, wk, w1, h]) | (refine ard_call (dp bd ?_); simp -implicitDefEqProofs [hkl, hy, hy', ic, wk, w1, h]) | fail)
      refine aw_ret (fin_ret ?_); simp -implicitDefEqProofs [FinP, resV, resT, bad7, z0] <;> try rfl
  | sub w =>
    have hw := hg2 w hmem
    rw [itG_sub] at x1
    unfold Cr at c2
    have p := rpart_row ts hl S hS i hrow w hw to x3.1 x3.2
    have hr := RR_ok hS w to x3.2
    obtain ⟨⟨⟨px, pl⟩, p2, p3⟩, hp⟩ : ∃ r, RR ts S w to = r := ⟨_, rfl⟩
    rw [hp] at x1 p hr
    by_cases h3 : p3 = 0; rotate_left
    · rw [if_neg h3] at x1
      rw [← x1]
      have hw : w = 0 ∨ w = 1 ∨ w = 2 := by omega
      clear x1 c1 c2 hg2 hrow hS hr hp
      rcases hw with rfl | rfl | rfl
      all_goals (
        simp only [if_pos, if_neg, Nat.one_ne_zero, Nat.succ_ne_zero, reduceIte] at p
        repeat' (first | refine aw_seq ?_ | refine aw_skip ?_ | refine aw_block ?_ | refine aw_exit ?_ | refine aw_cond rfl (fun _ => ?_) (fun hb => absurd hb (by decide)) | refine aw_cond rfl (fun hb => absurd hb (by decide)) (fun _ => ?_) | (refine aw_reg (fun K hK => ?_); simp -implicitDefEqProofs [hkl, hy, hy', ic, wk, h3]) | (refine aw_drw mixd (fun K hK => ?_); simp -implicitDefEqProofs [hkl, hy, hy', ic, wk, h3]) | refine hK _ ?_ | refine hK _ _ (by rfl) ?_ | (refine ar_call (cp p ?_); simp -implicitDefEqProofs [hkl, hy, hy', ic, wk, h3]) | (refine ard_call (dp p ?_); simp -implicitDefEqProofs [hkl, hy, hy', ic, wk, h3]) | fail)
        refine aw_ret (fin_ret ?_); simp -implicitDefEqProofs [FinP, resV, resT] <;> try rfl)
    subst h3
    rw [if_pos rfl] at x1
    have hys := hr.ok.yes rfl
    have hsz := hr.sz rfl
    dsimp only at hys hsz x1
    have nx : InvF ts S i kd L R (k + 1, p2, name, ps ++ [.mk px pl]) := by
      refine ⟨x1, hkl, by dsimp only; omega, ⟨_, ?_, c2⟩, by dsimp only; rw [List.length_append, List.length_singleton]; omega⟩
      dsimp only
      rw [sm_app]
      split at hsz <;> split <;> omega
    have hw : w = 0 ∨ w = 1 ∨ w = 2 := by omega
    clear x1 c1 c2 hg2 hrow hS hr hp
    rcases hw with rfl | rfl | rfl
    all_goals (
      simp only [if_pos, if_neg, Nat.one_ne_zero, Nat.succ_ne_zero, reduceIte] at p
      repeat' (first | refine aw_seq ?_ | refine aw_skip ?_ | refine aw_block ?_ | refine aw_exit ?_ | refine aw_cond rfl (fun _ => ?_) (fun hb => absurd hb (by decide)) | refine aw_cond rfl (fun hb => absurd hb (by decide)) (fun _ => ?_) | (refine aw_reg (fun K hK => ?_); simp -implicitDefEqProofs [hkl, hy, hy', ic, wk, b1, b2]) | (refine aw_drw mixd (fun K hK => ?_); simp -implicitDefEqProofs [hkl, hy, hy', ic, wk, b1, b2]) | refine hK _ ?_ | refine hK _ _ (by rfl) ?_ | (refine ar_call (cp p ?_); simp -implicitDefEqProofs [hkl, hy, hy', ic, wk, b1, b2]) | (refine ard_call (dp p ?_); simp -implicitDefEqProofs [hkl, hy, hy', ic, wk, b1, b2]) | fail)
      refine ⟨(_, _, _, _), nx, (by dsimp only; omega), ?_⟩; rw [hI]; exact cov_intro [0, 46] (by simp -implicitDefEqProofs) (by simp -implicitDefEqProofs) (by decide) rfl (by simp))
  | els =>
    rw [itG_els] at x1
    unfold Cr at c2
    have q := word_row ts to wElse
    rw [word_is q_else] at q
    by_cases h : isK wElse (nxt ts to) = true
    · have hlt := isK_lt h
      rw [if_pos h] at x1
      rw [h] at q
      have p := rpart_els ts hl S hS i hrow (to + 1) (by omega) (by omega)
      have hr := RR_ok hS 2 (to + 1) (by omega)
      rw [if_pos rfl] at hr
      obtain ⟨⟨⟨px, pl⟩, p2, p3⟩, hp⟩ : ∃ r, RR ts S 2 (to + 1) = r := ⟨_, rfl⟩
      rw [hp] at x1 p hr
      by_cases h3 : p3 = 0; rotate_left
      · rw [if_neg h3] at x1
        rw [← x1]
        clear x1 c1 c2 hg2 hrow hS hr hp h
        repeat' (first | refine aw_seq ?_ | refine aw_skip ?_ | refine aw_block ?_ | refine aw_exit ?_ | refine aw_cond rfl (fun _ => ?_) (fun hb => absurd hb (by decide)) | refine aw_cond rfl (fun hb => absurd hb (by decide)) (fun _ => ?_) | (refine aw_reg (fun K hK => ?_); simp -implicitDefEqProofs [hkl, hy, hy', ic, wk, w1, h3]) | (refine aw_drw mixd (fun K hK => ?_); simp -implicitDefEqProofs [hkl, hy, hy', ic, wk, w1, h3]) | refine hK _ ?_ | refine hK _ _ (by rfl) ?_ | (refine ar_call (cp q ?_); simp -implicitDefEqProofs [hkl, hy, hy', ic, wk, w1, h3]) | (refine ard_call (dp q ?_); simp -implicitDefEqProofs [hkl, hy, hy', ic, wk, w1, h3]) | (refine ar_call (cp p ?_); simp -implicitDefEqProofs [hkl, hy, hy', ic, wk, w1, h3]) | (refine ard_call (dp p ?_); simp -implicitDefEqProofs [hkl, hy, hy', ic, wk, w1, h3]) | fail)
        refine aw_ret (fin_ret ?_); simp -implicitDefEqProofs [FinP, resV, resT] <;> try rfl
      subst h3
      rw [if_pos rfl] at x1
      have hys := hr.ok.yes rfl
      have hsz := hr.sz rfl
      dsimp only at hys hsz x1
      have nx : InvF ts S i kd L R (k + 1, p2, name, ps ++ [.mk px pl]) := ⟨x1, hkl, by dsimp only; omega, ⟨_, by dsimp only; rw [sm_app]; omega, c2.2⟩, by dsimp only; rw [List.length_append, List.length_singleton]; omega⟩
      clear x1 c1 c2 hg2 hrow hS hr hp h
      repeat' (first | refine aw_seq ?_ | refine aw_skip ?_ | refine aw_block ?_ | refine aw_exit ?_ | refine aw_cond rfl (fun _ => ?_) (fun hb => absurd hb (by decide)) | refine aw_cond rfl (fun hb => absurd hb (by decide)) (fun _ => ?_) | (refine aw_reg (fun K hK => ?_); simp -implicitDefEqProofs [hkl, hy, hy', ic, wk, w1, b1, b2]) | (refine aw_drw mixd (fun K hK => ?_); simp -implicitDefEqProofs [hkl, hy, hy', ic, wk, w1, b1, b2]) | refine hK _ ?_ | refine hK _ _ (by rfl) ?_ | (refine ar_call (cp q ?_); simp -implicitDefEqProofs [hkl, hy, hy', ic, wk, w1, b1, b2]) | (refine ard_call (dp q ?_); simp -implicitDefEqProofs [hkl, hy, hy', ic, wk, w1, b1, b2]) | (refine ar_call (cp p ?_); simp -implicitDefEqProofs [hkl, hy, hy', ic, wk, w1, b1, b2]) | (refine ard_call (dp p ?_); simp -implicitDefEqProofs [hkl, hy, hy', ic, wk, w1, b1, b2]) | fail)
      refine ⟨(_, _, _, _), nx, (by dsimp only; omega), ?_⟩; rw [hI]; exact cov_intro [0, 60] (by simp -implicitDefEqProofs) (by simp -implicitDefEqProofs) (by decide) rfl (by simp)
    · have h : isK wElse (nxt ts to) = false := by simpa using h
      rw [if_neg (by simp [h])] at x1
      rw [h] at q
      obtain ⟨j, rfl⟩ : ∃ j, to = j + 1 := ⟨to - 1, by omega⟩
      have hjl : j < ts.length := by omega
      obtain ⟨t, ht⟩ : ∃ t, ts[j]? = some t := ⟨_, List.getElem?_eq_getElem hjl⟩
      have ht' := (List.getElem?_eq_some_iff.1 ht).2
      have he : emB ts (j + 1) = .mk ⟨29, 0, ⟨#[]⟩, t.t, t.t⟩ [] := by unfold emB toT; rw [Nat.add_sub_cancel, nxt_some ht]
      rw [he] at x1
      have nx : InvF ts S i kd L R (k + 1, j + 1, name, ps ++ [.mk ⟨29, 0, ⟨#[]⟩, t.t, t.t⟩ []]) := ⟨x1, hkl, by dsimp only; omega, ⟨c - 1, by dsimp only; rw [sm_app, Tr.size_mk]; have := c2.1; simp; omega, c2.2⟩, by dsimp only; rw [List.length_append, List.length_singleton]; omega⟩
      have wj : IntKind.i64.wrap (((j + 1 : Nat) : Int) - 1) = (j : Nat) := by rw [i64i _ (by omega) (by omega)]; omega
      have wj' : IntKind.i64.wrap ((j : Int) + 1 - 1) = (j : Nat) := by rw [i64i _ (by omega) (by omega)]; omega
      have wj2 : IntKind.i64.wrap ((j : Nat) : Int) = (j : Nat) := i64i _ (by omega) (by omega)
      obtain ⟨tk, tn, tss, tf, tt⟩ := t
      dsimp only at nx
      clear x1 c1 c2 hg2 hrow hS h he
      repeat' (first | refine aw_seq ?_ | refine aw_skip ?_ | refine aw_block ?_ | refine aw_exit ?_ | refine aw_cond rfl (fun _ => ?_) (fun hb => absurd hb (by decide)) | refine aw_cond rfl (fun hb => absurd hb (by decide)) (fun _ => ?_) | (refine aw_reg (fun K hK => ?_); simp -implicitDefEqProofs [hkl, hy, hy', ic, wk, wj, wj', wj2, b1, b2, hjl, ht, ht']) | (refine aw_drw mixd (fun K hK => ?_); simp -implicitDefEqProofs [hkl, hy, hy', ic, wk, wj, wj', wj2, b1, b2, hjl, ht, ht']) | refine hK _ ?_ | refine hK _ _ (by rfl) ?_ | (refine ar_call (cp q ?_); simp -implicitDefEqProofs [hkl, hy, hy', ic, wk, wj, wj', wj2, b1, b2, hjl, ht, ht']) | (refine ard_call (dp q ?_); simp -implicitDefEqProofs [hkl, hy, hy', ic, wk, wj, wj', wj2, b1, b2, hjl, ht, ht']) | fail)
      refine ⟨(_, _, _, _), nx, (by dsimp only; omega), ?_⟩; rw [hI]; exact cov_intro [0, 47] (by simp -implicitDefEqProofs) (by simp -implicitDefEqProofs) (by decide) rfl (by simp)
end
set_option maxRecDepth 100000 in
set_option maxHeartbeats 4000000 in
theorem rstmt_rows (ts : List Tok) (hl : ts.length ≤ 1000000000) : ∀ n i, ts.length - i < n → i ≤ ts.length → Row Try.prog 13 [vKs ts, vI i] [] (vG (sG ts n i)) [] := by
  intro n
  induction n with
  | zero => intro i h; omega
  | succ n ih =>
    intro i hn hi
    have hrow : ∀ j, i < j → j ≤ ts.length → Row Try.prog 13 [vKs ts, vI j] [] (vG (sG ts n j)) [] := fun j h1 h2 => ih j (by omega) h2
    by_cases hb : isK sBra (nxt ts i) = true
    · have b := rblock_row ts hl (sG ts n) (sG_ok n) i hrow i (Nat.le_refl _) hi
      rw [show sG ts (n + 1) i = blG ts (sG ts n) i from if_pos hb]
      have q := sign_row ts i sBra
      rw [sign_is q_bra, hb] at q
      obtain ⟨⟨⟨px, pl⟩, j, e⟩, hr⟩ : ∃ r, blG ts (sG ts n) i = r := ⟨_, rfl⟩
      rw [hr] at b ⊢
      clear hrow ih hr hb
      refine row_of Try.func13 rfl rfl (Nat.le_of_ble_eq_true rfl) ?_
      repeat' (first | refine aw_seq ?_ | refine aw_skip ?_ | refine aw_block ?_ | refine aw_exit ?_ | refine aw_cond rfl (fun _ => ?_) (fun hb => absurd hb (by decide)) | refine aw_cond rfl (fun hb => absurd hb (by decide)) (fun _ => ?_) | (refine aw_reg (fun K hK => ?_); simp -implicitDefEqProofs) | (refine aw_drw mixd (fun K hK => ?_); simp -implicitDefEqProofs) | refine hK _ ?_ | refine hK _ _ (by rfl) ?_ | (refine ar_call (cp q ?_); simp -implicitDefEqProofs) | (refine ard_call (dp q ?_); simp -implicitDefEqProofs) | (refine ar_call (cp b ?_); simp -implicitDefEqProofs) | (refine ard_call (dp b ?_); simp -implicitDefEqProofs) | fail)
      refine aw_ret (fin_ret ?_); simp -implicitDefEqProofs [FinP, resV, resT] <;> try rfl
    · exact rstmt_form ts hl (sG ts n) (sG_ok n) i hi hrow _ (by simpa using hb) (if_neg hb).symm
set_option maxRecDepth 100000 in
set_option maxHeartbeats 4000000 in
theorem rblock_top (ts : List Tok) (hl : ts.length ≤ 1000000000) (i : Nat) (hi : i ≤ ts.length) : Row Try.prog 16 [vKs ts, vI i] [] (vG (blG ts (sG ts (ts.length + 1)) i)) [] :=
  rblock_row ts hl (sG ts (ts.length + 1)) (sG_ok _) i (fun j h1 h2 => rstmt_rows ts hl _ j (by omega) h2) i (Nat.le_refl _) hi
end Go.Proofs.Ythcnligihpnfiaa.am
