import Derived.Test.YtlkggpjdaaglmaaPkF5
import Derived.Scope
import Derived.Test.YtlkggpjdaaglmaaPkF4
section
namespace Go.Proofs.Ytlkggpjdaaglmaa.am
open Go.ChangeShapes Go.WideShapes Go.ChangeAt Go.RowKit
open vt bs
set_option linter.unusedVariables false
set_option linter.unusedSimpArgs false
set_option maxRecDepth 100000 in
set_option maxHeartbeats 4000000 in
theorem rplace_row (m t : VT) (P : List Int) (hp : P.length ≤ 1000000) (h : atO P m = some t) : ∀ n, n ≤ P.length → Row Try.prog 37 [vT m, vIs (P.take n)] [] (vB (plc m P n)) [] := by
  obtain ⟨mx, ml⟩ := m
  intro n
  induction n with
  | zero =>
    intro _
    refine row_of Try.func37 rfl rfl (Nat.le_of_ble_eq_true rfl) ?_
    repeat (first | refine aw_seq ?_ | refine aw_skip ?_ | refine aw_block ?_ | refine aw_exit ?_ | refine aw_cond rfl (fun _ => ?_) (fun hb => absurd hb (by decide)) | refine aw_cond rfl (fun hb => absurd hb (by decide)) (fun _ => ?_) | (refine aw_reg (fun K hK => ?_); simp -implicitDefEqProofs; refine hK _ ?_) | (refine aw_drw mixd (fun K hK => ?_); simp -implicitDefEqProofs; refine hK _ _ (by rfl) ?_) | fail)
    refine aw_ret (fin_ret ?_); simp -implicitDefEqProofs [FinP, resV, resT, plc] <;> try rfl
  | succ n ih =>
    intro hn
    have ih := ih (by omega)
    obtain ⟨a, ha⟩ : ∃ a, P[n]? = some a := ⟨_, List.getElem?_eq_getElem (by omega)⟩
    obtain ⟨ux, ul, hu⟩ := at_pre h n
    have hkd : kdA (.mk mx ml) P n = ux.k := by unfold kdA; rw [hu]; rfl
    have e := rat_row (P.take n) (.mk mx ml) (.mk ux ul) (by rw [List.length_take]; omega) hu
    have hns : plc (.mk mx ml) P (n + 1) = (decide (a = 0) && (decide (ux.k = 22) || (decide (ux.k = 12) || decide (ux.k = 13)) && plc (.mk mx ml) P n)) := by
      rw [plc, hkd, ha]; simp
    rw [hns]
    generalize plc (.mk mx ml) P n = b at ih ⊢
    have hq1 : (P.take (n + 1)).length = n + 1 := by rw [List.length_take]; omega
    have hq2 : (P.take (n + 1))[n]? = some a := by rw [List.getElem?_take, if_pos (by omega)]; exact ha
    have hq3 : (P.take (n + 1)).take n = P.take n := by rw [List.take_take, Nat.min_eq_left (by omega)]
    generalize P.take n = R at e ih hq3
    generalize P.take (n + 1) = Q at hq1 hq2 hq3 ⊢
    have hq4 := (List.getElem?_eq_some_iff.1 hq2).2
    have hq5 : n < Q.length := by omega
    have hq6 : List.take n (Q.map fun z => [I z]) = R.map fun z => [I z] := by rw [← List.map_take, hq3]
    have hz : ¬ ((n : Int) + 1 = 0) := by omega
    have w3 : IntKind.i64.wrap (n : Int) = (n : Int) := i64i _ (by omega) (by omega)
    have hq7 : n ≤ n + 1 := by omega
    by_cases c4 : a = 0; rotate_left
    · refine row_of Try.func37 rfl rfl (Nat.le_of_ble_eq_true rfl) ?_
      repeat' (first | refine aw_seq ?_ | refine aw_skip ?_ | refine aw_block ?_ | refine aw_exit ?_ | refine aw_cond rfl (fun _ => ?_) (fun hb => absurd hb (by decide)) | refine aw_cond rfl (fun hb => absurd hb (by decide)) (fun _ => ?_) | (refine aw_reg (fun K hK => ?_); simp -implicitDefEqProofs [hq1, hq2, hq4, hq5, hq6, hq7, hz, w3, c4]) | (refine aw_drw mixd (fun K hK => ?_); simp -implicitDefEqProofs [hq1, hq2, hq4, hq5, hq6, hq7, hz, w3, c4]) | refine hK _ ?_ | refine hK _ _ (by rfl) ?_ | (refine ar_call (cp e ?_); simp -implicitDefEqProofs [hq1, hq2, hq4, hq5, hq6, hq7, hz, w3, c4]) | (refine ard_call (dp e ?_); simp -implicitDefEqProofs [hq1, hq2, hq4, hq5, hq6, hq7, hz, w3, c4]) | (refine ar_call (cp ih ?_); simp -implicitDefEqProofs [hq1, hq2, hq4, hq5, hq6, hq7, hz, w3, c4]) | (refine ard_call (dp ih ?_); simp -implicitDefEqProofs [hq1, hq2, hq4, hq5, hq6, hq7, hz, w3, c4]) | fail)
      refine aw_ret (fin_ret ?_); simp -implicitDefEqProofs [FinP, resV, resT, c4] <;> try rfl
    by_cases c5 : ux.k = 22
    · refine row_of Try.func37 rfl rfl (Nat.le_of_ble_eq_true rfl) ?_
      repeat' (first | refine aw_seq ?_ | refine aw_skip ?_ | refine aw_block ?_ | refine aw_exit ?_ | refine aw_cond rfl (fun _ => ?_) (fun hb => absurd hb (by decide)) | refine aw_cond rfl (fun hb => absurd hb (by decide)) (fun _ => ?_) | (refine aw_reg (fun K hK => ?_); simp -implicitDefEqProofs [hq1, hq2, hq4, hq5, hq6, hq7, hz, w3, c4, c5]) | (refine aw_drw mixd (fun K hK => ?_); simp -implicitDefEqProofs [hq1, hq2, hq4, hq5, hq6, hq7, hz, w3, c4, c5]) | refine hK _ ?_ | refine hK _ _ (by rfl) ?_ | (refine ar_call (cp e ?_); simp -implicitDefEqProofs [hq1, hq2, hq4, hq5, hq6, hq7, hz, w3, c4, c5]) | (refine ard_call (dp e ?_); simp -implicitDefEqProofs [hq1, hq2, hq4, hq5, hq6, hq7, hz, w3, c4, c5]) | (refine ar_call (cp ih ?_); simp -implicitDefEqProofs [hq1, hq2, hq4, hq5, hq6, hq7, hz, w3, c4, c5]) | (refine ard_call (dp ih ?_); simp -implicitDefEqProofs [hq1, hq2, hq4, hq5, hq6, hq7, hz, w3, c4, c5]) | fail)
      refine aw_ret (fin_ret ?_); simp -implicitDefEqProofs [FinP, resV, resT, c4, c5] <;> try rfl
    by_cases c6 : ux.k = 12
    · refine row_of Try.func37 rfl rfl (Nat.le_of_ble_eq_true rfl) ?_
      repeat' (first | refine aw_seq ?_ | refine aw_skip ?_ | refine aw_block ?_ | refine aw_exit ?_ | refine aw_cond rfl (fun _ => ?_) (fun hb => absurd hb (by decide)) | refine aw_cond rfl (fun hb => absurd hb (by decide)) (fun _ => ?_) | (refine aw_reg (fun K hK => ?_); simp -implicitDefEqProofs [hq1, hq2, hq4, hq5, hq6, hq7, hz, w3, c4, c5, c6]) | (refine aw_drw mixd (fun K hK => ?_); simp -implicitDefEqProofs [hq1, hq2, hq4, hq5, hq6, hq7, hz, w3, c4, c5, c6]) | refine hK _ ?_ | refine hK _ _ (by rfl) ?_ | (refine ar_call (cp e ?_); simp -implicitDefEqProofs [hq1, hq2, hq4, hq5, hq6, hq7, hz, w3, c4, c5, c6]) | (refine ard_call (dp e ?_); simp -implicitDefEqProofs [hq1, hq2, hq4, hq5, hq6, hq7, hz, w3, c4, c5, c6]) | (refine ar_call (cp ih ?_); simp -implicitDefEqProofs [hq1, hq2, hq4, hq5, hq6, hq7, hz, w3, c4, c5, c6]) | (refine ard_call (dp ih ?_); simp -implicitDefEqProofs [hq1, hq2, hq4, hq5, hq6, hq7, hz, w3, c4, c5, c6]) | fail)
      refine aw_ret (fin_ret ?_); simp -implicitDefEqProofs [FinP, resV, resT, c4, c5, c6] <;> try rfl
    by_cases c7 : ux.k = 13
    · refine row_of Try.func37 rfl rfl (Nat.le_of_ble_eq_true rfl) ?_
      repeat' (first | refine aw_seq ?_ | refine aw_skip ?_ | refine aw_block ?_ | refine aw_exit ?_ | refine aw_cond rfl (fun _ => ?_) (fun hb => absurd hb (by decide)) | refine aw_cond rfl (fun hb => absurd hb (by decide)) (fun _ => ?_) | (refine aw_reg (fun K hK => ?_); simp -implicitDefEqProofs [hq1, hq2, hq4, hq5, hq6, hq7, hz, w3, c4, c5, c6, c7]) | (refine aw_drw mixd (fun K hK => ?_); simp -implicitDefEqProofs [hq1, hq2, hq4, hq5, hq6, hq7, hz, w3, c4, c5, c6, c7]) | refine hK _ ?_ | refine hK _ _ (by rfl) ?_ | (refine ar_call (cp e ?_); simp -implicitDefEqProofs [hq1, hq2, hq4, hq5, hq6, hq7, hz, w3, c4, c5, c6, c7]) | (refine ard_call (dp e ?_); simp -implicitDefEqProofs [hq1, hq2, hq4, hq5, hq6, hq7, hz, w3, c4, c5, c6, c7]) | (refine ar_call (cp ih ?_); simp -implicitDefEqProofs [hq1, hq2, hq4, hq5, hq6, hq7, hz, w3, c4, c5, c6, c7]) | (refine ard_call (dp ih ?_); simp -implicitDefEqProofs [hq1, hq2, hq4, hq5, hq6, hq7, hz, w3, c4, c5, c6, c7]) | fail)
      refine aw_ret (fin_ret ?_); simp -implicitDefEqProofs [FinP, resV, resT, c4, c5, c6, c7] <;> try rfl
    · refine row_of Try.func37 rfl rfl (Nat.le_of_ble_eq_true rfl) ?_
      repeat' (first | refine aw_seq ?_ | refine aw_skip ?_ | refine aw_block ?_ | refine aw_exit ?_ | refine aw_cond rfl (fun _ => ?_) (fun hb => absurd hb (by decide)) | refine aw_cond rfl (fun hb => absurd hb (by decide)) (fun _ => ?_) | (refine aw_reg (fun K hK => ?_); simp -implicitDefEqProofs [hq1, hq2, hq4, hq5, hq6, hq7, hz, w3, c4, c5, c6, c7]) | (refine aw_drw mixd (fun K hK => ?_); simp -implicitDefEqProofs [hq1, hq2, hq4, hq5, hq6, hq7, hz, w3, c4, c5, c6, c7]) | refine hK _ ?_ | refine hK _ _ (by rfl) ?_ | (refine ar_call (cp e ?_); simp -implicitDefEqProofs [hq1, hq2, hq4, hq5, hq6, hq7, hz, w3, c4, c5, c6, c7]) | (refine ard_call (dp e ?_); simp -implicitDefEqProofs [hq1, hq2, hq4, hq5, hq6, hq7, hz, w3, c4, c5, c6, c7]) | (refine ar_call (cp ih ?_); simp -implicitDefEqProofs [hq1, hq2, hq4, hq5, hq6, hq7, hz, w3, c4, c5, c6, c7]) | (refine ard_call (dp ih ?_); simp -implicitDefEqProofs [hq1, hq2, hq4, hq5, hq6, hq7, hz, w3, c4, c5, c6, c7]) | fail)
      refine aw_ret (fin_ret ?_); simp -implicitDefEqProofs [FinP, resV, resT, c4, c5, c6, c7] <;> try rfl
def vlD (m : VT) (p : List Int) : Bool := decide (2 < p.length) && decide (kdA m p 1 = 33) && decide (p[1]? = some 2) && isE (kdA m p p.length) && !plc m p p.length
set_option maxRecDepth 100000 in
set_option maxHeartbeats 4000000 in
theorem risval_row (m t : VT) (p : List Int) (hp : p.length ≤ 1000000) (h : atO p m = some t) : Row Try.prog 16 [vT m, vIs p] [] (vB (vlD m p)) [] := by
  have e2 := rplace_row m t p hp h p.length (Nat.le_refl _)
  rw [List.take_length] at e2
  have e1 := rat_row p m t hp h
  obtain ⟨mx, ml⟩ := m
  obtain ⟨tx, tl⟩ := t
  have e3 := risexpr_row tx tl
  have hkt : kdA (.mk mx ml) p p.length = tx.k := by unfold kdA; rw [List.take_length, h]; rfl
  by_cases h2 : 2 < p.length; rotate_left
  · have e : vlD (.mk mx ml) p = false := by unfold vlD; simp; intro h; omega
    have h2' : ¬ (2 : Int) < p.length := by omega
    rw [e]
    refine row_of Try.func16 rfl rfl (Nat.le_of_ble_eq_true rfl) ?_
    repeat (first | refine aw_seq ?_ | refine aw_skip ?_ | refine aw_block ?_ | refine aw_exit ?_ | refine aw_cond rfl (fun _ => ?_) (fun hb => absurd hb (by decide)) | refine aw_cond rfl (fun hb => absurd hb (by decide)) (fun _ => ?_) | (refine aw_reg (fun K hK => ?_); simp -implicitDefEqProofs [h2, h2']; refine hK _ ?_) | (refine aw_drw mixd (fun K hK => ?_); simp -implicitDefEqProofs [h2, h2']; refine hK _ _ (by rfl) ?_) | fail)
    refine aw_ret (fin_ret ?_); simp -implicitDefEqProofs [FinP, resV, resT] <;> try rfl
  obtain ⟨p0, p1, p', rfl⟩ : ∃ a b q, p = a :: b :: q := by
    match p, h2 with
    | a :: b :: q, _ => exact ⟨a, b, q, rfl⟩
    | [a], h => exact absurd h (by simp)
    | [], h => exact absurd h (by simp)
  obtain ⟨g0, g1, ⟨dx, dl⟩, g2, g3⟩ := at_head h
  have g2' := (List.getElem?_eq_some_iff.1 g2).2
  have g4 : p0 < ml.length := by omega
  have hk1 : kdA (.mk mx ml) (p0 :: p1 :: p') 1 = dx.k := by
    unfold kdA
    show (match atO [p0] (.mk mx ml) with | some u => u.lab.k | none => 0) = _
    rw [atO, if_pos g0, g2]; rfl
  have h2' : (2 : Int) < (p'.length : Int) + 1 + 1 := by simp at h2; omega
  have hv : vlD (.mk mx ml) (p0 :: p1 :: p') = (decide (dx.k = 33) && decide (p1 = 2) && isE tx.k && !plc (.mk mx ml) (p0 :: p1 :: p') (p0 :: p1 :: p').length) := by
    unfold vlD; rw [hk1, hkt]
    have : decide (2 < (p0 :: p1 :: p').length) = true := decide_eq_true h2
    rw [this]; simp
  rw [hv]
  clear hv hk1 hkt
  generalize plc (.mk mx ml) (p0 :: p1 :: p') (p0 :: p1 :: p').length = b at e2 ⊢
  generalize isE tx.k = q at e3 ⊢
  by_cases c1 : dx.k = 33; rotate_left
  · refine row_of Try.func16 rfl rfl (Nat.le_of_ble_eq_true rfl) ?_
    repeat (first | refine aw_seq ?_ | refine aw_skip ?_ | refine aw_block ?_ | refine aw_exit ?_ | refine aw_cond rfl (fun _ => ?_) (fun hb => absurd hb (by decide)) | refine aw_cond rfl (fun hb => absurd hb (by decide)) (fun _ => ?_) | (refine aw_reg (fun K hK => ?_); simp -implicitDefEqProofs [h2', g0, g1, g2, g2', g4, c1]; refine hK _ ?_) | (refine aw_drw mixd (fun K hK => ?_); simp -implicitDefEqProofs [h2', g0, g1, g2, g2', g4, c1]; refine hK _ _ (by rfl) ?_) | fail)
    refine aw_ret (fin_ret ?_); simp -implicitDefEqProofs [FinP, resV, resT, c1] <;> try rfl
  by_cases c2 : p1 = 2; rotate_left
  · refine row_of Try.func16 rfl rfl (Nat.le_of_ble_eq_true rfl) ?_
    repeat (first | refine aw_seq ?_ | refine aw_skip ?_ | refine aw_block ?_ | refine aw_exit ?_ | refine aw_cond rfl (fun _ => ?_) (fun hb => absurd hb (by decide)) | refine aw_cond rfl (fun hb => absurd hb (by decide)) (fun _ => ?_) | (refine aw_reg (fun K hK => ?_); simp -implicitDefEqProofs [h2', g0, g1, g2, g2', g4, c1, c2]; refine hK _ ?_) | (refine aw_drw mixd (fun K hK => ?_); simp -implicitDefEqProofs [h2', g0, g1, g2, g2', g4, c1, c2]; refine hK _ _ (by rfl) ?_) | fail)
    refine aw_ret (fin_ret ?_); simp -implicitDefEqProofs [FinP, resV, resT, c1, c2] <;> try rfl
  subst c2
  cases q
  · refine row_of Try.func16 rfl rfl (Nat.le_of_ble_eq_true rfl) ?_
    repeat' (first | refine aw_seq ?_ | refine aw_skip ?_ | refine aw_block ?_ | refine aw_exit ?_ | refine aw_cond rfl (fun _ => ?_) (fun hb => absurd hb (by decide)) | refine aw_cond rfl (fun hb => absurd hb (by decide)) (fun _ => ?_) | (refine aw_reg (fun K hK => ?_); simp -implicitDefEqProofs [h2', g0, g1, g2, g2', g4, c1]) | (refine aw_drw mixd (fun K hK => ?_); simp -implicitDefEqProofs [h2', g0, g1, g2, g2', g4, c1]) | refine hK _ ?_ | refine hK _ _ (by rfl) ?_ | (refine ar_call (cp e1 ?_); simp -implicitDefEqProofs [h2', g0, g1, g2, g2', g4, c1]) | (refine ard_call (dp e1 ?_); simp -implicitDefEqProofs [h2', g0, g1, g2, g2', g4, c1]) | (refine ar_call (cp e2 ?_); simp -implicitDefEqProofs [h2', g0, g1, g2, g2', g4, c1]) | (refine ard_call (dp e2 ?_); simp -implicitDefEqProofs [h2', g0, g1, g2, g2', g4, c1]) | (refine ar_call (cp e3 ?_); simp -implicitDefEqProofs [h2', g0, g1, g2, g2', g4, c1]) | (refine ard_call (dp e3 ?_); simp -implicitDefEqProofs [h2', g0, g1, g2, g2', g4, c1]) | fail)
    refine aw_ret (fin_ret ?_); simp -implicitDefEqProofs [FinP, resV, resT, c1] <;> try rfl
  · refine row_of Try.func16 rfl rfl (Nat.le_of_ble_eq_true rfl) ?_
    repeat' (first | refine aw_seq ?_ | refine aw_skip ?_ | refine aw_block ?_ | refine aw_exit ?_ | refine aw_cond rfl (fun _ => ?_) (fun hb => absurd hb (by decide)) | refine aw_cond rfl (fun hb => absurd hb (by decide)) (fun _ => ?_) | (refine aw_reg (fun K hK => ?_); simp -implicitDefEqProofs [h2', g0, g1, g2, g2', g4, c1]) | (refine aw_drw mixd (fun K hK => ?_); simp -implicitDefEqProofs [h2', g0, g1, g2, g2', g4, c1]) | refine hK _ ?_ | refine hK _ _ (by rfl) ?_ | (refine ar_call (cp e1 ?_); simp -implicitDefEqProofs [h2', g0, g1, g2, g2', g4, c1]) | (refine ard_call (dp e1 ?_); simp -implicitDefEqProofs [h2', g0, g1, g2, g2', g4, c1]) | (refine ar_call (cp e2 ?_); simp -implicitDefEqProofs [h2', g0, g1, g2, g2', g4, c1]) | (refine ard_call (dp e2 ?_); simp -implicitDefEqProofs [h2', g0, g1, g2, g2', g4, c1]) | (refine ar_call (cp e3 ?_); simp -implicitDefEqProofs [h2', g0, g1, g2, g2', g4, c1]) | (refine ard_call (dp e3 ?_); simp -implicitDefEqProofs [h2', g0, g1, g2, g2', g4, c1]) | fail)
    refine aw_ret (fin_ret ?_); simp -implicitDefEqProofs [FinP, resV, resT, c1] <;> try rfl
end Go.Proofs.Ytlkggpjdaaglmaa.am
end
section
namespace Go.Proofs.Ytlkggpjdaaglmaa.am
open Go.ChangeShapes Go.WideShapes Go.ChangeAt Go.RowKit
set_option linter.unusedVariables false
def ScQ (Q : Exit → St → Prop) : Exit → St → Prop
  | .goto _, _ => False
  | e, st => Q e st
theorem aw_scope {P : Program} {N nb : Nat} {c : Code} {st : St} {Q : Exit → St → Prop} (h : AW P N nb c st (ScQ Q)) : AW P N nb (.scope c) st Q := fun X hX a w hr Q' hQ =>
  wp_scope_straight (h X hX a w hr _ (fun e st' a' w' h1 h2 => by
    cases e with
    | goto l => exact h1.elim
    | _ => exact hQ _ _ _ _ h1 h2))
theorem aw_label {P : Program} {N nb : Nat} {l : Nat} {st : St} {Q : Exit → St → Prop} (h : Q .normal st) : AW P N nb (.label l) st Q := fun X hX a w hr Q' hQ => wp_label (hQ _ _ _ _ h hr)
end Go.Proofs.Ytlkggpjdaaglmaa.am
end
section
namespace Go.Proofs.Ytlkggpjdaaglmaa.am
open Go.ChangeShapes Go.WideShapes Go.ChangeAt Go.RowKit
open vt bs
set_option linter.unusedVariables false
set_option linter.unusedSimpArgs false
theorem flat_lead {f : VT → List (List Int)} {x : Lab} {l : List VT} (hf : ∀ u q, q ∈ f u → ∃ v, atO q u = some v) {q : List Int} (k : Nat) (h : q ∈ flatK f l k) : ∃ v, atO q (.mk x l) = some v := by
  obtain ⟨j, u, r, hu, hr, rfl⟩ := flat_mem k h
  obtain ⟨v, hv⟩ := hf u r hr
  refine ⟨v, ?_⟩
  rw [atO, if_pos (by omega), Int.toNat_natCast, hu]
  exact hv
theorem pts_lead : ∀ (n : Nat) (t : VT) (q : List Int), q ∈ ptsD n t → ∃ v, atO q t = some v
  | 0, t, q, h => by cases h
  | n + 1, .mk x l, q, h => by
    rw [ptsD] at h
    rcases List.mem_cons.1 h with rfl | h
    · exact ⟨_, rfl⟩
    · exact flat_lead (fun u q hq => pts_lead n u q hq) _ h
def fndV (Q : List (List Int)) (c : List Int → Bool) : List Int × Bool := match Q.find? c with | some q => (q, true) | none => ([], false)
theorem fnd_hit {Q : List (List Int)} {c : List Int → Bool} {k : Nat} {q : List Int} (hz : ∀ (j : Nat) q, Q[j]? = some q → j < k → c q = false) (hq : Q[k]? = some q) (hc : c q = true) : fndV Q c = (q, true) := by
  unfold fndV
  have : Q.find? c = some q := by
    rw [List.find?_eq_some_iff_getElem]
    obtain ⟨h1, h2⟩ := (List.getElem?_eq_some_iff.1 hq)
    exact ⟨hc, k, h1, h2, fun j hj => by rw [hz j Q[j] (List.getElem?_eq_getElem (by omega)) hj]; rfl⟩
  rw [this]
theorem fnd_end {Q : List (List Int)} {c : List Int → Bool} (hz : ∀ (j : Nat) q, Q[j]? = some q → j < Q.length → c q = false) : fndV Q c = ([], false) := by
  unfold fndV
  have : Q.find? c = none := by
    rw [List.find?_eq_none]
    intro q hq
    obtain ⟨j, hj⟩ := List.mem_iff_getElem?.1 hq
    rw [hz j q hj (List.getElem?_eq_some_iff.1 hj).1]; simp
  rw [this]
theorem nxt_no {Q : List (List Int)} {c : List Int → Bool} {k : Nat} {q : List Int} (hz : ∀ (j : Nat) q, Q[j]? = some q → j < k → c q = false) (hq : Q[k]? = some q) (hc : c q = false) : ∀ (j : Nat) q, Q[j]? = some q → j < k + 1 → c q = false := fun j r hj hlt => by
  by_cases hjk : j = k
  · subst hjk; rw [hq] at hj; cases hj; exact hc
  · exact hz j r hj (by omega)
abbrev vPB (r : List Int × Bool) : AV := .tup [.c (.pv (Is r.1)), .c (.pv (Bo r.2))]
def cV (m : VT) (fr zto : Int) (q : List Int) : Bool := match atO q m with | some u => decide (u.lab.f = fr) && decide (u.lab.t = zto) && isE u.lab.k && vlP m q | none => false
set_option maxRecDepth 100000 in
set_option maxHeartbeats 4000000 in
theorem value_row (mx : Lab) (ml : List VT) (hs : (Tr.mk mx ml).size ≤ 900000) (fr zto : Int) : Row Try.prog 10 [vT (.mk mx ml), vI fr, vI zto] [] (vPB (fndV (ptsD (Tr.mk mx ml).size (.mk mx ml)) (cV (.mk mx ml) fr zto))) [] := by
  have e0 := paths_row mx ml hs
  have hQ := fun q hq => pts_lead (Tr.mk mx ml).size (.mk mx ml) q hq
  have hD := fun q hq => pts_deep (Tr.mk mx ml).size (.mk mx ml) q hq
  have hL := pts_len (Tr.mk mx ml).size (.mk mx ml)
  generalize ptsD (Tr.mk mx ml).size (.mk mx ml) = Q at e0 hQ hD hL ⊢
  refine row_of Try.func10 rfl rfl (Nat.le_of_ble_eq_true rfl) ?_
  repeat' (first | refine aw_seq ?_ | refine aw_skip ?_ | refine aw_block ?_ | refine aw_exit ?_ | refine aw_cond rfl (fun _ => ?_) (fun hb => absurd hb (by decide)) | refine aw_cond rfl (fun hb => absurd hb (by decide)) (fun _ => ?_) | (refine aw_reg (fun K hK => ?_); simp -implicitDefEqProofs) | (refine aw_drw mixd (fun K hK => ?_); simp -implicitDefEqProofs) | refine hK _ ?_ | refine hK _ _ (by rfl) ?_ | (refine ar_call (cp e0 ?_); simp -implicitDefEqProofs) | (refine ard_call (dp e0 ?_); simp -implicitDefEqProofs) | fail)
  refine aw_scope ?_
  repeat' (first | refine aw_seq ?_ | refine aw_skip ?_ | refine aw_block ?_ | refine aw_exit ?_ | refine aw_cond rfl (fun _ => ?_) (fun hb => absurd hb (by decide)) | refine aw_cond rfl (fun hb => absurd hb (by decide)) (fun _ => ?_) | (refine aw_reg (fun K hK => ?_); simp -implicitDefEqProofs) | (refine aw_drw mixd (fun K hK => ?_); simp -implicitDefEqProofs) | refine hK _ ?_ | refine hK _ _ (by rfl) ?_ | (refine ar_call (cp e0 ?_); simp -implicitDefEqProofs) | (refine ard_call (dp e0 ?_); simp -implicitDefEqProofs) | fail)
  refine aw_label ?_
  repeat' (first | refine aw_seq ?_ | refine aw_skip ?_ | refine aw_block ?_ | refine aw_exit ?_ | refine aw_cond rfl (fun _ => ?_) (fun hb => absurd hb (by decide)) | refine aw_cond rfl (fun hb => absurd hb (by decide)) (fun _ => ?_) | (refine aw_reg (fun K hK => ?_); simp -implicitDefEqProofs) | (refine aw_drw mixd (fun K hK => ?_); simp -implicitDefEqProofs) | refine hK _ ?_ | refine hK _ _ (by rfl) ?_ | (refine ar_call (cp e0 ?_); simp -implicitDefEqProofs) | (refine ard_call (dp e0 ?_); simp -implicitDefEqProofs) | fail)
  refine aw_lp (ι := Nat) (fun k => mkSt [(1, vI fr), (2, vI zto), (3, .v (.c (.ptr 0 0))), (8, .v (.c (.pv .nilS))), (9, vB false), (15, vPs' Q), (16, vI (Q.length : Nat)), (17, vI (k : Nat))] [some (.box (ta (.mk mx ml)))]) (fun k => k ≤ Q.length ∧ ∀ (j : Nat) q, Q[j]? = some q → j < k → cV (.mk mx ml) fr zto q = false) (fun k => Q.length - k) 0 ⟨Nat.zero_le _, fun j q _ h => by omega⟩ (cov_intro [0] (by simp -implicitDefEqProofs) (by simp -implicitDefEqProofs) (by decide) rfl (by simp)) (fun Z hI k hk => ?_)
  obtain ⟨hk, hz⟩ := hk
  by_cases hkl : k < Q.length; rotate_left
  · have hke : k = Q.length := by omega
    subst hke
    rw [fnd_end hz]
    repeat (first | refine aw_seq ?_ | refine aw_skip ?_ | refine aw_block ?_ | refine aw_exit ?_ | refine aw_cond rfl (fun _ => ?_) (fun hb => absurd hb (by decide)) | refine aw_cond rfl (fun hb => absurd hb (by decide)) (fun _ => ?_) | (refine aw_reg (fun K hK => ?_); simp -implicitDefEqProofs; refine hK _ ?_) | (refine aw_drw mixd (fun K hK => ?_); simp -implicitDefEqProofs; refine hK _ _ (by rfl) ?_) | fail)
    refine aw_ret (fin_ret ?_); simp -implicitDefEqProofs [FinP, resV, resT] <;> try rfl
  obtain ⟨q, hq⟩ : ∃ a, Q[k]? = some a := ⟨_, List.getElem?_eq_getElem hkl⟩
  have hq' := (List.getElem?_eq_some_iff.1 hq).2
  have hqm := List.mem_of_getElem? hq
  obtain ⟨⟨ux, ul⟩, hu⟩ := hQ q hqm
  have hqd := hD q hqm
  have e1 := at_row q (.mk mx ml) (by omega)
  have eg : atG q (.mk mx ml) = (.mk ux ul, true) := by unfold atG; rw [hu]
  rw [eg] at e1
  have e2 := isexpr_row ux ul
  have e3 := isval_row (.mk mx ml) (.mk ux ul) q (by omega) hu
  have w2 : IntKind.i64.wrap ((k : Nat) + 1 : Int) = (k : Nat) + 1 := i64i _ (by omega) (by omega)
  have hc : cV (.mk mx ml) fr zto q = (decide (ux.f = fr) && decide (ux.t = zto) && isE ux.k && vlP (.mk mx ml) q) := by unfold cV; rw [hu]; rfl
  by_cases c1 : ux.f = fr; rotate_left
  · have hcf : cV (.mk mx ml) fr zto q = false := by rw [hc]; simp [c1]
    repeat' (first | refine aw_seq ?_ | refine aw_skip ?_ | refine aw_block ?_ | refine aw_exit ?_ | refine aw_cond rfl (fun _ => ?_) (fun hb => absurd hb (by decide)) | refine aw_cond rfl (fun hb => absurd hb (by decide)) (fun _ => ?_) | (refine aw_reg (fun K hK => ?_); simp -implicitDefEqProofs [hkl, hq, hq', w2, c1]) | (refine aw_drw mixd (fun K hK => ?_); simp -implicitDefEqProofs [hkl, hq, hq', w2, c1]) | refine hK _ ?_ | refine hK _ _ (by rfl) ?_ | (refine ar_call (cp e1 ?_); simp -implicitDefEqProofs [hkl, hq, hq', w2, c1]) | (refine ard_call (dp e1 ?_); simp -implicitDefEqProofs [hkl, hq, hq', w2, c1]) | (refine ar_call (cp e2 ?_); simp -implicitDefEqProofs [hkl, hq, hq', w2, c1]) | (refine ard_call (dp e2 ?_); simp -implicitDefEqProofs [hkl, hq, hq', w2, c1]) | (refine ar_call (cp e3 ?_); simp -implicitDefEqProofs [hkl, hq, hq', w2, c1]) | (refine ard_call (dp e3 ?_); simp -implicitDefEqProofs [hkl, hq, hq', w2, c1]) | fail)
    refine ⟨k + 1, ⟨by omega, nxt_no hz hq hcf⟩, (by dsimp only; omega), ?_⟩
    rw [hI]; exact cov_intro [0] (by simp -implicitDefEqProofs) (by simp -implicitDefEqProofs) (by decide) rfl (by simp)
  by_cases c2 : ux.t = zto; rotate_left
  · have hcf : cV (.mk mx ml) fr zto q = false := by rw [hc]; simp [c2]
    repeat' (first | refine aw_seq ?_ | refine aw_skip ?_ | refine aw_block ?_ | refine aw_exit ?_ | refine aw_cond rfl (fun _ => ?_) (fun hb => absurd hb (by decide)) | refine aw_cond rfl (fun hb => absurd hb (by decide)) (fun _ => ?_) | (refine aw_reg (fun K hK => ?_); simp -implicitDefEqProofs [hkl, hq, hq', w2, c1, c2]) | (refine aw_drw mixd (fun K hK => ?_); simp -implicitDefEqProofs [hkl, hq, hq', w2, c1, c2]) | refine hK _ ?_ | refine hK _ _ (by rfl) ?_ | (refine ar_call (cp e1 ?_); simp -implicitDefEqProofs [hkl, hq, hq', w2, c1, c2]) | (refine ard_call (dp e1 ?_); simp -implicitDefEqProofs [hkl, hq, hq', w2, c1, c2]) | (refine ar_call (cp e2 ?_); simp -implicitDefEqProofs [hkl, hq, hq', w2, c1, c2]) | (refine ard_call (dp e2 ?_); simp -implicitDefEqProofs [hkl, hq, hq', w2, c1, c2]) | (refine ar_call (cp e3 ?_); simp -implicitDefEqProofs [hkl, hq, hq', w2, c1, c2]) | (refine ard_call (dp e3 ?_); simp -implicitDefEqProofs [hkl, hq, hq', w2, c1, c2]) | fail)
    refine ⟨k + 1, ⟨by omega, nxt_no hz hq hcf⟩, (by dsimp only; omega), ?_⟩
    rw [hI]; exact cov_intro [0] (by simp -implicitDefEqProofs) (by simp -implicitDefEqProofs) (by decide) rfl (by simp)
  have c1' := eq_true c1
  have c2' := eq_true c2
  by_cases c3 : isE ux.k = true; rotate_left
  · have c3 : isE ux.k = false := by simpa using c3
    have hcf : cV (.mk mx ml) fr zto q = false := by rw [hc, c3]; simp
    rw [c3] at e2
    repeat' (first | refine aw_seq ?_ | refine aw_skip ?_ | refine aw_block ?_ | refine aw_exit ?_ | refine aw_cond rfl (fun _ => ?_) (fun hb => absurd hb (by decide)) | refine aw_cond rfl (fun hb => absurd hb (by decide)) (fun _ => ?_) | (refine aw_reg (fun K hK => ?_); simp -implicitDefEqProofs [hkl, hq, hq', w2, c1', c2']) | (refine aw_drw mixd (fun K hK => ?_); simp -implicitDefEqProofs [hkl, hq, hq', w2, c1', c2']) | refine hK _ ?_ | refine hK _ _ (by rfl) ?_ | (refine ar_call (cp e1 ?_); simp -implicitDefEqProofs [hkl, hq, hq', w2, c1', c2']) | (refine ard_call (dp e1 ?_); simp -implicitDefEqProofs [hkl, hq, hq', w2, c1', c2']) | (refine ar_call (cp e2 ?_); simp -implicitDefEqProofs [hkl, hq, hq', w2, c1', c2']) | (refine ard_call (dp e2 ?_); simp -implicitDefEqProofs [hkl, hq, hq', w2, c1', c2']) | (refine ar_call (cp e3 ?_); simp -implicitDefEqProofs [hkl, hq, hq', w2, c1', c2']) | (refine ard_call (dp e3 ?_); simp -implicitDefEqProofs [hkl, hq, hq', w2, c1', c2']) | fail)
    refine ⟨k + 1, ⟨by omega, nxt_no hz hq hcf⟩, (by dsimp only; omega), ?_⟩
    rw [hI]; exact cov_intro [0] (by simp -implicitDefEqProofs) (by simp -implicitDefEqProofs) (by decide) rfl (by simp)
  rw [c3] at e2
  by_cases c4 : vlP (.mk mx ml) q = true; rotate_left
  · have c4 : vlP (.mk mx ml) q = false := by simpa using c4
    have hcf : cV (.mk mx ml) fr zto q = false := by rw [hc, c4]; simp
    rw [c4] at e3
    repeat' (first | refine aw_seq ?_ | refine aw_skip ?_ | refine aw_block ?_ | refine aw_exit ?_ | refine aw_cond rfl (fun _ => ?_) (fun hb => absurd hb (by decide)) | refine aw_cond rfl (fun hb => absurd hb (by decide)) (fun _ => ?_) | (refine aw_reg (fun K hK => ?_); simp -implicitDefEqProofs [hkl, hq, hq', w2, c1', c2']) | (refine aw_drw mixd (fun K hK => ?_); simp -implicitDefEqProofs [hkl, hq, hq', w2, c1', c2']) | refine hK _ ?_ | refine hK _ _ (by rfl) ?_ | (refine ar_call (cp e1 ?_); simp -implicitDefEqProofs [hkl, hq, hq', w2, c1', c2']) | (refine ard_call (dp e1 ?_); simp -implicitDefEqProofs [hkl, hq, hq', w2, c1', c2']) | (refine ar_call (cp e2 ?_); simp -implicitDefEqProofs [hkl, hq, hq', w2, c1', c2']) | (refine ard_call (dp e2 ?_); simp -implicitDefEqProofs [hkl, hq, hq', w2, c1', c2']) | (refine ar_call (cp e3 ?_); simp -implicitDefEqProofs [hkl, hq, hq', w2, c1', c2']) | (refine ard_call (dp e3 ?_); simp -implicitDefEqProofs [hkl, hq, hq', w2, c1', c2']) | fail)
    refine ⟨k + 1, ⟨by omega, nxt_no hz hq hcf⟩, (by dsimp only; omega), ?_⟩
    rw [hI]; exact cov_intro [0] (by simp -implicitDefEqProofs) (by simp -implicitDefEqProofs) (by decide) rfl (by simp)
  have hct : cV (.mk mx ml) fr zto q = true := by rw [hc, c3, c4]; simp [c1, c2]
  rw [fnd_hit hz hq hct]
  rw [c4] at e3
  repeat' (first | refine aw_seq ?_ | refine aw_skip ?_ | refine aw_block ?_ | refine aw_exit ?_ | refine aw_cond rfl (fun _ => ?_) (fun hb => absurd hb (by decide)) | refine aw_cond rfl (fun hb => absurd hb (by decide)) (fun _ => ?_) | (refine aw_reg (fun K hK => ?_); simp -implicitDefEqProofs [hkl, hq, hq', w2, c1', c2']) | (refine aw_drw mixd (fun K hK => ?_); simp -implicitDefEqProofs [hkl, hq, hq', w2, c1', c2']) | refine hK _ ?_ | refine hK _ _ (by rfl) ?_ | (refine ar_call (cp e1 ?_); simp -implicitDefEqProofs [hkl, hq, hq', w2, c1', c2']) | (refine ard_call (dp e1 ?_); simp -implicitDefEqProofs [hkl, hq, hq', w2, c1', c2']) | (refine ar_call (cp e2 ?_); simp -implicitDefEqProofs [hkl, hq, hq', w2, c1', c2']) | (refine ard_call (dp e2 ?_); simp -implicitDefEqProofs [hkl, hq, hq', w2, c1', c2']) | (refine ar_call (cp e3 ?_); simp -implicitDefEqProofs [hkl, hq, hq', w2, c1', c2']) | (refine ard_call (dp e3 ?_); simp -implicitDefEqProofs [hkl, hq, hq', w2, c1', c2']) | fail)
  refine aw_ret (fin_ret ?_); simp -implicitDefEqProofs [FinP, resV, resT] <;> try rfl
end Go.Proofs.Ytlkggpjdaaglmaa.am
end
section
namespace Go.Proofs.Ytlkggpjdaaglmaa.am
open Go.ChangeShapes Go.WideShapes Go.ChangeAt Go.RowKit
open vt bs
set_option linter.unusedVariables false
set_option linter.unusedSimpArgs false
def cD (m : VT) (fr zto : Int) (q : List Int) : Bool := match atO q m with | some u => decide (u.lab.f = fr) && decide (u.lab.t = zto) && vlD m q | none => false
set_option maxRecDepth 100000 in
set_option maxHeartbeats 4000000 in
theorem rvalue_row (mx : Lab) (ml : List VT) (hs : (Tr.mk mx ml).size ≤ 900000) (fr zto : Int) : Row Try.prog 11 [vT (.mk mx ml), vI fr, vI zto] [] (vPB (fndV (ptsD (Tr.mk mx ml).size (.mk mx ml)) (cD (.mk mx ml) fr zto))) [] := by
  have e0 := rpaths_row _ mx ml (Nat.le_refl _) hs
  have hQ := fun q hq => pts_lead (Tr.mk mx ml).size (.mk mx ml) q hq
  have hD := fun q hq => pts_deep (Tr.mk mx ml).size (.mk mx ml) q hq
  have hL := pts_len (Tr.mk mx ml).size (.mk mx ml)
  generalize ptsD (Tr.mk mx ml).size (.mk mx ml) = Q at e0 hQ hD hL ⊢
  refine row_of Try.func11 rfl rfl (Nat.le_of_ble_eq_true rfl) ?_
  repeat' (first | refine aw_seq ?_ | refine aw_skip ?_ | refine aw_block ?_ | refine aw_exit ?_ | refine aw_cond rfl (fun _ => ?_) (fun hb => absurd hb (by decide)) | refine aw_cond rfl (fun hb => absurd hb (by decide)) (fun _ => ?_) | (refine aw_reg (fun K hK => ?_); simp -implicitDefEqProofs) | (refine aw_drw mixd (fun K hK => ?_); simp -implicitDefEqProofs) | refine hK _ ?_ | refine hK _ _ (by rfl) ?_ | (refine ar_call (cp e0 ?_); simp -implicitDefEqProofs) | (refine ard_call (dp e0 ?_); simp -implicitDefEqProofs) | fail)
  refine aw_lp (ι := Nat) (fun k => mkSt [(1, vI fr), (2, vI zto), (3, .v (.c (.ptr 0 0))), (8, vPs' Q), (9, vI (k : Nat))] [some (.box (ta (.mk mx ml)))]) (fun k => k ≤ Q.length ∧ ∀ (j : Nat) q, Q[j]? = some q → j < k → cD (.mk mx ml) fr zto q = false) (fun k => Q.length - k) 0 ⟨Nat.zero_le _, fun j q _ h => by omega⟩ (cov_intro [0] (by simp -implicitDefEqProofs) (by simp -implicitDefEqProofs) (by decide) rfl (by simp)) (fun Z hI k hk => ?_)
  obtain ⟨hk, hz⟩ := hk
  by_cases hkl : k < Q.length; rotate_left
  · have hke : k = Q.length := by omega
    subst hke
    rw [fnd_end hz]
    repeat (first | refine aw_seq ?_ | refine aw_skip ?_ | refine aw_block ?_ | refine aw_exit ?_ | refine aw_cond rfl (fun _ => ?_) (fun hb => absurd hb (by decide)) | refine aw_cond rfl (fun hb => absurd hb (by decide)) (fun _ => ?_) | (refine aw_reg (fun K hK => ?_); simp -implicitDefEqProofs; refine hK _ ?_) | (refine aw_drw mixd (fun K hK => ?_); simp -implicitDefEqProofs; refine hK _ _ (by rfl) ?_) | fail)
    refine aw_ret (fin_ret ?_); simp -implicitDefEqProofs [FinP, resV, resT] <;> try rfl
  obtain ⟨q, hq⟩ : ∃ a, Q[k]? = some a := ⟨_, List.getElem?_eq_getElem hkl⟩
  have hq' := (List.getElem?_eq_some_iff.1 hq).2
  have hqm := List.mem_of_getElem? hq
  obtain ⟨⟨ux, ul⟩, hu⟩ := hQ q hqm
  have hqd := hD q hqm
  have e1 := rat_row q (.mk mx ml) (.mk ux ul) (by omega) hu
  have e3 := risval_row (.mk mx ml) (.mk ux ul) q (by omega) hu
  have w2 : IntKind.i64.wrap ((k : Nat) + 1 : Int) = (k : Nat) + 1 := i64i _ (by omega) (by omega)
  have hc : cD (.mk mx ml) fr zto q = (decide (ux.f = fr) && decide (ux.t = zto) && vlD (.mk mx ml) q) := by unfold cD; rw [hu]; rfl
  by_cases c1 : ux.f = fr; rotate_left
  · have hcf : cD (.mk mx ml) fr zto q = false := by rw [hc]; simp [c1]
    repeat' (first | refine aw_seq ?_ | refine aw_skip ?_ | refine aw_block ?_ | refine aw_exit ?_ | refine aw_cond rfl (fun _ => ?_) (fun hb => absurd hb (by decide)) | refine aw_cond rfl (fun hb => absurd hb (by decide)) (fun _ => ?_) | (refine aw_reg (fun K hK => ?_); simp -implicitDefEqProofs [hkl, hq, hq', w2, c1]) | (refine aw_drw mixd (fun K hK => ?_); simp -implicitDefEqProofs [hkl, hq, hq', w2, c1]) | refine hK _ ?_ | refine hK _ _ (by rfl) ?_ | (refine ar_call (cp e1 ?_); simp -implicitDefEqProofs [hkl, hq, hq', w2, c1]) | (refine ard_call (dp e1 ?_); simp -implicitDefEqProofs [hkl, hq, hq', w2, c1]) | (refine ar_call (cp e3 ?_); simp -implicitDefEqProofs [hkl, hq, hq', w2, c1]) | (refine ard_call (dp e3 ?_); simp -implicitDefEqProofs [hkl, hq, hq', w2, c1]) | fail)
    refine ⟨k + 1, ⟨by omega, nxt_no hz hq hcf⟩, (by dsimp only; omega), ?_⟩
    rw [hI]; exact cov_intro [0] (by simp -implicitDefEqProofs) (by simp -implicitDefEqProofs) (by decide) rfl (by simp)
  by_cases c2 : ux.t = zto; rotate_left
  · have hcf : cD (.mk mx ml) fr zto q = false := by rw [hc]; simp [c2]
    repeat' (first | refine aw_seq ?_ | refine aw_skip ?_ | refine aw_block ?_ | refine aw_exit ?_ | refine aw_cond rfl (fun _ => ?_) (fun hb => absurd hb (by decide)) | refine aw_cond rfl (fun hb => absurd hb (by decide)) (fun _ => ?_) | (refine aw_reg (fun K hK => ?_); simp -implicitDefEqProofs [hkl, hq, hq', w2, c1, c2]) | (refine aw_drw mixd (fun K hK => ?_); simp -implicitDefEqProofs [hkl, hq, hq', w2, c1, c2]) | refine hK _ ?_ | refine hK _ _ (by rfl) ?_ | (refine ar_call (cp e1 ?_); simp -implicitDefEqProofs [hkl, hq, hq', w2, c1, c2]) | (refine ard_call (dp e1 ?_); simp -implicitDefEqProofs [hkl, hq, hq', w2, c1, c2]) | (refine ar_call (cp e3 ?_); simp -implicitDefEqProofs [hkl, hq, hq', w2, c1, c2]) | (refine ard_call (dp e3 ?_); simp -implicitDefEqProofs [hkl, hq, hq', w2, c1, c2]) | fail)
    refine ⟨k + 1, ⟨by omega, nxt_no hz hq hcf⟩, (by dsimp only; omega), ?_⟩
    rw [hI]; exact cov_intro [0] (by simp -implicitDefEqProofs) (by simp -implicitDefEqProofs) (by decide) rfl (by simp)
  have c1' := eq_true c1
  have c2' := eq_true c2
  by_cases c4 : vlD (.mk mx ml) q = true; rotate_left
  · have c4 : vlD (.mk mx ml) q = false := by simpa using c4
    have hcf : cD (.mk mx ml) fr zto q = false := by rw [hc, c4]; simp
    rw [c4] at e3
    repeat' (first | refine aw_seq ?_ | refine aw_skip ?_ | refine aw_block ?_ | refine aw_exit ?_ | refine aw_cond rfl (fun _ => ?_) (fun hb => absurd hb (by decide)) | refine aw_cond rfl (fun hb => absurd hb (by decide)) (fun _ => ?_) | (refine aw_reg (fun K hK => ?_); simp -implicitDefEqProofs [hkl, hq, hq', w2, c1', c2']) | (refine aw_drw mixd (fun K hK => ?_); simp -implicitDefEqProofs [hkl, hq, hq', w2, c1', c2']) | refine hK _ ?_ | refine hK _ _ (by rfl) ?_ | (refine ar_call (cp e1 ?_); simp -implicitDefEqProofs [hkl, hq, hq', w2, c1', c2']) | (refine ard_call (dp e1 ?_); simp -implicitDefEqProofs [hkl, hq, hq', w2, c1', c2']) | (refine ar_call (cp e3 ?_); simp -implicitDefEqProofs [hkl, hq, hq', w2, c1', c2']) | (refine ard_call (dp e3 ?_); simp -implicitDefEqProofs [hkl, hq, hq', w2, c1', c2']) | fail)
    refine ⟨k + 1, ⟨by omega, nxt_no hz hq hcf⟩, (by dsimp only; omega), ?_⟩
    rw [hI]; exact cov_intro [0] (by simp -implicitDefEqProofs) (by simp -implicitDefEqProofs) (by decide) rfl (by simp)
  have hct : cD (.mk mx ml) fr zto q = true := by rw [hc, c4]; simp [c1, c2]
  rw [fnd_hit hz hq hct]
  rw [c4] at e3
  repeat' (first | refine aw_seq ?_ | refine aw_skip ?_ | refine aw_block ?_ | refine aw_exit ?_ | refine aw_cond rfl (fun _ => ?_) (fun hb => absurd hb (by decide)) | refine aw_cond rfl (fun hb => absurd hb (by decide)) (fun _ => ?_) | (refine aw_reg (fun K hK => ?_); simp -implicitDefEqProofs [hkl, hq, hq', w2, c1', c2']) | (refine aw_drw mixd (fun K hK => ?_); simp -implicitDefEqProofs [hkl, hq, hq', w2, c1', c2']) | refine hK _ ?_ | refine hK _ _ (by rfl) ?_ | (refine ar_call (cp e1 ?_); simp -implicitDefEqProofs [hkl, hq, hq', w2, c1', c2']) | (refine ard_call (dp e1 ?_); simp -implicitDefEqProofs [hkl, hq, hq', w2, c1', c2']) | (refine ar_call (cp e3 ?_); simp -implicitDefEqProofs [hkl, hq, hq', w2, c1', c2']) | (refine ard_call (dp e3 ?_); simp -implicitDefEqProofs [hkl, hq, hq', w2, c1', c2']) | fail)
  refine aw_ret (fin_ret ?_); simp -implicitDefEqProofs [FinP, resV, resT] <;> try rfl
def arF (Q : List (List Int)) (c : List Int → Bool) : Nat → List Int × Bool
  | 0 => ([], false)
  | k + 1 => match Q[k]? with
    | some q => if (c q && (!(arF Q c k).2 || decide ((arF Q c k).1.length < q.length))) = true then (q, true) else arF Q c k
    | none => arF Q c k
theorem arF_len {Q : List (List Int)} {c : List Int → Bool} {B : Nat} (h : ∀ q ∈ Q, q.length ≤ B) : ∀ k, (arF Q c k).1.length ≤ B
  | 0 => Nat.zero_le _
  | k + 1 => by
    have ih := arF_len (c := c) h k
    rw [arF]
    cases hq : Q[k]? with
    | none => exact ih
    | some q =>
      dsimp only
      split
      · exact h q (List.mem_of_getElem? hq)
      · exact ih
def cK (m : VT) (pl kd : Int) (q : List Int) : Bool := match atO q m with | some u => decide (u.lab.k = kd) && decide (u.lab.f ≤ pl) && decide (pl < u.lab.t) | none => false
set_option maxRecDepth 100000 in
set_option maxHeartbeats 4000000 in
theorem around_row (mx : Lab) (ml : List VT) (hs : (Tr.mk mx ml).size ≤ 900000) (pl kd : Int) : Row Try.prog 12 [vT (.mk mx ml), vI pl, vI kd] [] (vPB (arF (ptsD (Tr.mk mx ml).size (.mk mx ml)) (cK (.mk mx ml) pl kd) (ptsD (Tr.mk mx ml).size (.mk mx ml)).length)) [] := by
  have e0 := paths_row mx ml hs
  have hQ := fun q hq => pts_lead (Tr.mk mx ml).size (.mk mx ml) q hq
  have hD := fun q hq => pts_deep (Tr.mk mx ml).size (.mk mx ml) q hq
  have hL := pts_len (Tr.mk mx ml).size (.mk mx ml)
  generalize ptsD (Tr.mk mx ml).size (.mk mx ml) = Q at e0 hQ hD hL ⊢
  refine row_of Try.func12 rfl rfl (Nat.le_of_ble_eq_true rfl) ?_
  repeat' (first | refine aw_seq ?_ | refine aw_skip ?_ | refine aw_block ?_ | refine aw_exit ?_ | refine aw_cond rfl (fun _ => ?_) (fun hb => absurd hb (by decide)) | refine aw_cond rfl (fun hb => absurd hb (by decide)) (fun _ => ?_) | (refine aw_reg (fun K hK => ?_); simp -implicitDefEqProofs) | (refine aw_drw mixd (fun K hK => ?_); simp -implicitDefEqProofs) | refine hK _ ?_ | refine hK _ _ (by rfl) ?_ | (refine ar_call (cp e0 ?_); simp -implicitDefEqProofs) | (refine ard_call (dp e0 ?_); simp -implicitDefEqProofs) | fail)
  refine aw_scope ?_
  repeat' (first | refine aw_seq ?_ | refine aw_skip ?_ | refine aw_block ?_ | refine aw_exit ?_ | refine aw_cond rfl (fun _ => ?_) (fun hb => absurd hb (by decide)) | refine aw_cond rfl (fun hb => absurd hb (by decide)) (fun _ => ?_) | (refine aw_reg (fun K hK => ?_); simp -implicitDefEqProofs) | (refine aw_drw mixd (fun K hK => ?_); simp -implicitDefEqProofs) | refine hK _ ?_ | refine hK _ _ (by rfl) ?_ | (refine ar_call (cp e0 ?_); simp -implicitDefEqProofs) | (refine ard_call (dp e0 ?_); simp -implicitDefEqProofs) | fail)
  refine aw_label ?_
  repeat' (first | refine aw_seq ?_ | refine aw_skip ?_ | refine aw_block ?_ | refine aw_exit ?_ | refine aw_cond rfl (fun _ => ?_) (fun hb => absurd hb (by decide)) | refine aw_cond rfl (fun hb => absurd hb (by decide)) (fun _ => ?_) | (refine aw_reg (fun K hK => ?_); simp -implicitDefEqProofs) | (refine aw_drw mixd (fun K hK => ?_); simp -implicitDefEqProofs) | refine hK _ ?_ | refine hK _ _ (by rfl) ?_ | (refine ar_call (cp e0 ?_); simp -implicitDefEqProofs) | (refine ard_call (dp e0 ?_); simp -implicitDefEqProofs) | fail)
  refine aw_lp (ι := Nat) (fun k => mkSt [(1, vI pl), (2, vI kd), (3, .v (.c (.ptr 0 0))), (8, vIs (arF Q (cK (.mk mx ml) pl kd) k).1), (9, vB (arF Q (cK (.mk mx ml) pl kd) k).2), (15, vPs' Q), (16, vI (Q.length : Nat)), (17, vI (k : Nat))] [some (.box (ta (.mk mx ml)))]) (fun k => k ≤ Q.length) (fun k => Q.length - k) 0 (Nat.zero_le _) (cov_intro [0] (by simp -implicitDefEqProofs [arF]) (by simp -implicitDefEqProofs [arF]) (by decide) rfl (by simp)) (fun Z hI k hk => ?_)
  by_cases hkl : k < Q.length; rotate_left
  · have hke : k = Q.length := by omega
    subst hke
    repeat (first | refine aw_seq ?_ | refine aw_skip ?_ | refine aw_block ?_ | refine aw_exit ?_ | refine aw_cond rfl (fun _ => ?_) (fun hb => absurd hb (by decide)) | refine aw_cond rfl (fun hb => absurd hb (by decide)) (fun _ => ?_) | (refine aw_reg (fun K hK => ?_); simp -implicitDefEqProofs; refine hK _ ?_) | (refine aw_drw mixd (fun K hK => ?_); simp -implicitDefEqProofs; refine hK _ _ (by rfl) ?_) | fail)
    refine aw_ret (fin_ret ?_); simp -implicitDefEqProofs [FinP, resV, resT] <;> try rfl
  obtain ⟨q, hq⟩ : ∃ a, Q[k]? = some a := ⟨_, List.getElem?_eq_getElem hkl⟩
  have hq' := (List.getElem?_eq_some_iff.1 hq).2
  have hqm := List.mem_of_getElem? hq
  obtain ⟨⟨ux, ul⟩, hu⟩ := hQ q hqm
  have hqd := hD q hqm
  have e1 := at_row q (.mk mx ml) (by omega)
  have eg : atG q (.mk mx ml) = (.mk ux ul, true) := by unfold atG; rw [hu]
  rw [eg] at e1
  have w2 : IntKind.i64.wrap ((k : Nat) + 1 : Int) = (k : Nat) + 1 := i64i _ (by omega) (by omega)
  have hc : cK (.mk mx ml) pl kd q = (decide (ux.k = kd) && decide (ux.f ≤ pl) && decide (pl < ux.t)) := by unfold cK; rw [hu]; rfl
  have hs2 : arF Q (cK (.mk mx ml) pl kd) (k + 1) = if (cK (.mk mx ml) pl kd q && (!(arF Q (cK (.mk mx ml) pl kd) k).2 || decide ((arF Q (cK (.mk mx ml) pl kd) k).1.length < q.length))) = true then (q, true) else arF Q (cK (.mk mx ml) pl kd) k := by rw [arF, hq]
  rw [hc] at hs2
  generalize arF Q (cK (.mk mx ml) pl kd) k = r at hs2
  obtain ⟨b, fd⟩ := r
  dsimp only at hs2
  by_cases c1 : ux.k = kd; rotate_left
  · have e3 : arF Q (cK (.mk mx ml) pl kd) (k + 1) = (b, fd) := by rw [hs2, if_neg (by simp [c1])]
    repeat' (first | refine aw_seq ?_ | refine aw_skip ?_ | refine aw_block ?_ | refine aw_exit ?_ | refine aw_cond rfl (fun _ => ?_) (fun hb => absurd hb (by decide)) | refine aw_cond rfl (fun hb => absurd hb (by decide)) (fun _ => ?_) | (refine aw_reg (fun K hK => ?_); simp -implicitDefEqProofs [hkl, hq, hq', w2, c1]) | (refine aw_drw mixd (fun K hK => ?_); simp -implicitDefEqProofs [hkl, hq, hq', w2, c1]) | refine hK _ ?_ | refine hK _ _ (by rfl) ?_ | (refine ar_call (cp e1 ?_); simp -implicitDefEqProofs [hkl, hq, hq', w2, c1]) | (refine ard_call (dp e1 ?_); simp -implicitDefEqProofs [hkl, hq, hq', w2, c1]) | fail)
    refine ⟨k + 1, by omega, (by dsimp only; omega), ?_⟩; rw [hI]; exact cov_intro [0] (by simp -implicitDefEqProofs [e3]) (by simp -implicitDefEqProofs [e3]) (by decide) rfl (by simp)
  have c1' := eq_true c1
  by_cases c2 : ux.f ≤ pl; rotate_left
  · have e3 : arF Q (cK (.mk mx ml) pl kd) (k + 1) = (b, fd) := by rw [hs2, if_neg (by simp [c2])]
    have c2' : pl < ux.f := by omega
    repeat' (first | refine aw_seq ?_ | refine aw_skip ?_ | refine aw_block ?_ | refine aw_exit ?_ | refine aw_cond rfl (fun _ => ?_) (fun hb => absurd hb (by decide)) | refine aw_cond rfl (fun hb => absurd hb (by decide)) (fun _ => ?_) | (refine aw_reg (fun K hK => ?_); simp -implicitDefEqProofs [hkl, hq, hq', w2, c1', c2, c2']) | (refine aw_drw mixd (fun K hK => ?_); simp -implicitDefEqProofs [hkl, hq, hq', w2, c1', c2, c2']) | refine hK _ ?_ | refine hK _ _ (by rfl) ?_ | (refine ar_call (cp e1 ?_); simp -implicitDefEqProofs [hkl, hq, hq', w2, c1', c2, c2']) | (refine ard_call (dp e1 ?_); simp -implicitDefEqProofs [hkl, hq, hq', w2, c1', c2, c2']) | fail)
    refine ⟨k + 1, by omega, (by dsimp only; omega), ?_⟩; rw [hI]; exact cov_intro [0] (by simp -implicitDefEqProofs [e3]) (by simp -implicitDefEqProofs [e3]) (by decide) rfl (by simp)
  have c2' : ¬ pl < ux.f := by omega
  by_cases c3 : pl < ux.t; rotate_left
  · have e3 : arF Q (cK (.mk mx ml) pl kd) (k + 1) = (b, fd) := by rw [hs2, if_neg (by simp [c3])]
    have c3' : ux.t ≤ pl := by omega
    repeat' (first | refine aw_seq ?_ | refine aw_skip ?_ | refine aw_block ?_ | refine aw_exit ?_ | refine aw_cond rfl (fun _ => ?_) (fun hb => absurd hb (by decide)) | refine aw_cond rfl (fun hb => absurd hb (by decide)) (fun _ => ?_) | (refine aw_reg (fun K hK => ?_); simp -implicitDefEqProofs [hkl, hq, hq', w2, c1', c2, c2', c3, c3']) | (refine aw_drw mixd (fun K hK => ?_); simp -implicitDefEqProofs [hkl, hq, hq', w2, c1', c2, c2', c3, c3']) | refine hK _ ?_ | refine hK _ _ (by rfl) ?_ | (refine ar_call (cp e1 ?_); simp -implicitDefEqProofs [hkl, hq, hq', w2, c1', c2, c2', c3, c3']) | (refine ard_call (dp e1 ?_); simp -implicitDefEqProofs [hkl, hq, hq', w2, c1', c2, c2', c3, c3']) | fail)
    refine ⟨k + 1, by omega, (by dsimp only; omega), ?_⟩; rw [hI]; exact cov_intro [0] (by simp -implicitDefEqProofs [e3]) (by simp -implicitDefEqProofs [e3]) (by decide) rfl (by simp)
  have c3' : ¬ ux.t ≤ pl := by omega
  cases fd with
  | false =>
    have e3 : arF Q (cK (.mk mx ml) pl kd) (k + 1) = (q, true) := by rw [hs2, if_pos (by simp [c1, c2, c3])]
    repeat' (first | refine aw_seq ?_ | refine aw_skip ?_ | refine aw_block ?_ | refine aw_exit ?_ | refine aw_cond rfl (fun _ => ?_) (fun hb => absurd hb (by decide)) | refine aw_cond rfl (fun hb => absurd hb (by decide)) (fun _ => ?_) | (refine aw_reg (fun K hK => ?_); simp -implicitDefEqProofs [hkl, hq, hq', w2, c1', c2, c2', c3, c3']) | (refine aw_drw mixd (fun K hK => ?_); simp -implicitDefEqProofs [hkl, hq, hq', w2, c1', c2, c2', c3, c3']) | refine hK _ ?_ | refine hK _ _ (by rfl) ?_ | (refine ar_call (cp e1 ?_); simp -implicitDefEqProofs [hkl, hq, hq', w2, c1', c2, c2', c3, c3']) | (refine ard_call (dp e1 ?_); simp -implicitDefEqProofs [hkl, hq, hq', w2, c1', c2, c2', c3, c3']) | fail)
    refine ⟨k + 1, by omega, (by dsimp only; omega), ?_⟩; rw [hI]; exact cov_intro [0] (by simp -implicitDefEqProofs [e3]) (by simp -implicitDefEqProofs [e3]) (by decide) rfl (by simp)
  | true =>
    by_cases c4 : b.length < q.length
    · have e3 : arF Q (cK (.mk mx ml) pl kd) (k + 1) = (q, true) := by rw [hs2, if_pos (by simp [c1, c2, c3, c4])]
      have c4' : (b.length : Int) < q.length := by omega
      repeat' (first | refine aw_seq ?_ | refine aw_skip ?_ | refine aw_block ?_ | refine aw_exit ?_ | refine aw_cond rfl (fun _ => ?_) (fun hb => absurd hb (by decide)) | refine aw_cond rfl (fun hb => absurd hb (by decide)) (fun _ => ?_) | (refine aw_reg (fun K hK => ?_); simp -implicitDefEqProofs [hkl, hq, hq', w2, c1', c2, c2', c3, c3', c4, c4']) | (refine aw_drw mixd (fun K hK => ?_); simp -implicitDefEqProofs [hkl, hq, hq', w2, c1', c2, c2', c3, c3', c4, c4']) | refine hK _ ?_ | refine hK _ _ (by rfl) ?_ | (refine ar_call (cp e1 ?_); simp -implicitDefEqProofs [hkl, hq, hq', w2, c1', c2, c2', c3, c3', c4, c4']) | (refine ard_call (dp e1 ?_); simp -implicitDefEqProofs [hkl, hq, hq', w2, c1', c2, c2', c3, c3', c4, c4']) | fail)
      refine ⟨k + 1, by omega, (by dsimp only; omega), ?_⟩; rw [hI]; exact cov_intro [0] (by simp -implicitDefEqProofs [e3]) (by simp -implicitDefEqProofs [e3]) (by decide) rfl (by simp)
    · have e3 : arF Q (cK (.mk mx ml) pl kd) (k + 1) = (b, true) := by rw [hs2, if_neg (by simp; intros; omega)]
      have c4' : ¬ (b.length : Int) < q.length := by omega
      repeat' (first | refine aw_seq ?_ | refine aw_skip ?_ | refine aw_block ?_ | refine aw_exit ?_ | refine aw_cond rfl (fun _ => ?_) (fun hb => absurd hb (by decide)) | refine aw_cond rfl (fun hb => absurd hb (by decide)) (fun _ => ?_) | (refine aw_reg (fun K hK => ?_); simp -implicitDefEqProofs [hkl, hq, hq', w2, c1', c2, c2', c3, c3', c4, c4']) | (refine aw_drw mixd (fun K hK => ?_); simp -implicitDefEqProofs [hkl, hq, hq', w2, c1', c2, c2', c3, c3', c4, c4']) | refine hK _ ?_ | refine hK _ _ (by rfl) ?_ | (refine ar_call (cp e1 ?_); simp -implicitDefEqProofs [hkl, hq, hq', w2, c1', c2, c2', c3, c3', c4, c4']) | (refine ard_call (dp e1 ?_); simp -implicitDefEqProofs [hkl, hq, hq', w2, c1', c2, c2', c3, c3', c4, c4']) | fail)
      refine ⟨k + 1, by omega, (by dsimp only; omega), ?_⟩; rw [hI]; exact cov_intro [0] (by simp -implicitDefEqProofs [e3]) (by simp -implicitDefEqProofs [e3]) (by decide) rfl (by simp)
end Go.Proofs.Ytlkggpjdaaglmaa.am
end
