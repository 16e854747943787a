/-
  Layer 7: expressions: what the statement says.
-/
import Derived.Test.YthifckknijdgfaaExprAtm
import Derived.Test.YthifckknijdgfaaExprPgd
import Derived.Test.YthifckknijdgfaaAwkRow
namespace Go.Proofs.Ythifckknijdgfaa.am
open Go.ChangeShapes Go.WideShapes Go.ChangeAt Go.RowKit
open vt
set_option linter.unusedVariables false
set_option linter.unusedSimpArgs false
set_option maxRecDepth 100000 in
set_option maxHeartbeats 4000000 in
theorem parse_no (ts : List Tok) (a : Int) (h : a < 0 ∨ (ts.length : Int) < a) : Row Try.prog 13 [vKs ts, vI a] [] (vT3 (z0, 0, 13)) [] := by
  have h1 := begin_no ts a h 53
  unfold z0 at h1 ⊢
  refine row_of Try.func13 rfl rfl (Nat.le_of_ble_eq_true rfl) ?_
  repeat' (first | refine aw_seq ?_ | refine aw_skip ?_ | refine aw_block ?_ | refine aw_exit ?_ | refine aw_cond rfl (fun _ => ?_) (fun hb => absurd hb (by decide)) | refine aw_cond rfl (fun hb => absurd hb (by decide)) (fun _ => ?_) | (refine aw_reg (fun K hK => ?_); simp -implicitDefEqProofs) | (refine aw_drw mixd (fun K hK => ?_); simp -implicitDefEqProofs) | refine hK _ ?_ | refine hK _ _ (by rfl) ?_ | (refine ar_call (call_pure (h1) ?_ ?_ rfl ?_); (focus (simp [*]; done)); (focus (first | exact (fun _ => rfl) | exact (vT_ren _) | exact (vLs_ren _) | exact (vTB_ren _) | exact (vG_ren _) | exact (vT3_ren _) | (intro ρ; simp [AV.ren, AT.ren, AC.ren]; done))); simp -implicitDefEqProofs) | (refine ard_call (calld_pure (h1) ?_ ?_ rfl ?_); (focus (simp [*]; done)); (focus (first | exact (fun _ => rfl) | exact (vT_ren _) | exact (vLs_ren _) | exact (vTB_ren _) | exact (vG_ren _) | exact (vT3_ren _) | (intro ρ; simp [AV.ren, AT.ren, AC.ren]; done))); simp -implicitDefEqProofs) | fail)
  refine aw_ret (fin_ret ?_); simp -implicitDefEqProofs [FinP, resV, resT] <;> try rfl
set_option maxRecDepth 100000 in
set_option maxHeartbeats 4000000 in
theorem begin_any (ts : List Tok) (i : Nat) (h : i ≤ ts.length) (g : Nat) (r : Got) (hp : PR g [] ts i r) (hz : r.2.2 ≠ 0 → r.1 = z0) : Row Try.prog 52 [vKs ts, vI i, .v (.c (.fn (.func g) [] []))] [] (vT3 r) [] := by
  obtain ⟨t, ht, hr⟩ := hp
  have := begin_yes ts i h g (t, r.2.1, r.2.2) hr
  have e : endT (t, r.2.1, r.2.2) = r := by
    unfold endT
    obtain ⟨r1, r2, r3⟩ := r
    dsimp only at ht hz ⊢
    by_cases h0 : r3 = 0
    · rw [if_pos h0, ht h0]
    · rw [if_neg h0, hz h0]
  rwa [e] at this
set_option maxRecDepth 100000 in
set_option maxHeartbeats 4000000 in
theorem parse_yes (ts : List Tok) (hl : ts.length ≤ 3000000000000) (i : Nat) (h : i ≤ ts.length) : Row Try.prog 13 [vKs ts, vI i] [] (vT3 (Qx ts 1 i)) [] := by
  have h1 := begin_any ts i h 53 _ (pexpr_pr ts hl i h) (fun hh => ((Q_ok (ts := ts) 1 i h).no hh).2)
  obtain ⟨⟨⟨px, pl⟩, j, e⟩, hr⟩ : ∃ r, Qx ts 1 i = r := ⟨_, rfl⟩
  rw [hr] at h1 ⊢
  refine row_of Try.func13 rfl rfl (Nat.le_of_ble_eq_true rfl) ?_
  repeat' (first | refine aw_seq ?_ | refine aw_skip ?_ | refine aw_block ?_ | refine aw_exit ?_ | refine aw_cond rfl (fun _ => ?_) (fun hb => absurd hb (by decide)) | refine aw_cond rfl (fun hb => absurd hb (by decide)) (fun _ => ?_) | (refine aw_reg (fun K hK => ?_); simp -implicitDefEqProofs) | (refine aw_drw mixd (fun K hK => ?_); simp -implicitDefEqProofs) | refine hK _ ?_ | refine hK _ _ (by rfl) ?_ | (refine ar_call (call_pure (h1) ?_ ?_ rfl ?_); (focus (simp [*]; done)); (focus (first | exact (fun _ => rfl) | exact (vT_ren _) | exact (vLs_ren _) | exact (vTB_ren _) | exact (vG_ren _) | exact (vT3_ren _) | (intro ρ; simp [AV.ren, AT.ren, AC.ren]; done))); simp -implicitDefEqProofs) | (refine ard_call (calld_pure (h1) ?_ ?_ rfl ?_); (focus (simp [*]; done)); (focus (first | exact (fun _ => rfl) | exact (vT_ren _) | exact (vLs_ren _) | exact (vTB_ren _) | exact (vG_ren _) | exact (vT3_ren _) | (intro ρ; simp [AV.ren, AT.ren, AC.ren]; done))); simp -implicitDefEqProofs) | fail)
  refine aw_ret (fin_ret ?_); simp -implicitDefEqProofs [FinP, resV, resT] <;> try rfl
set_option maxRecDepth 100000 in
set_option maxHeartbeats 4000000 in
theorem law_reads7_row (ts : List Tok) (a : Int) (hl : ts.length ≤ 3000000000000) (hsz : ∀ i, i ≤ ts.length → ts.length ≤ 300 → (Qx ts 1 i).1.size ≤ 1000000) : Row Try.prog 3 [vKs ts, vI a] [] (vB true) [] := by
  have haw := awake07_row
  have hz := rplac_row z0 (by simp [z0, Tr.size_mk]) z0 (by simp [z0, Tr.size_mk])
  rw [plac0] at hz
  unfold z0 at hz
  by_cases h0 : a < 0
  · have h := parse_no ts a (.inl h0)
    unfold z0 at h
    refine row_of Try.func3 rfl rfl (Nat.le_of_ble_eq_true rfl) ?_
    repeat' (first | refine aw_seq ?_ | refine aw_skip ?_ | refine aw_block ?_ | refine aw_exit ?_ | refine aw_cond rfl (fun _ => ?_) (fun hb => absurd hb (by decide)) | refine aw_cond rfl (fun hb => absurd hb (by decide)) (fun _ => ?_) | (refine aw_reg (fun K hK => ?_); simp -implicitDefEqProofs [h0]) | (refine aw_drw mixd (fun K hK => ?_); simp -implicitDefEqProofs [h0]) | refine hK _ ?_ | refine hK _ _ (by rfl) ?_ | (refine ar_call (call_pure (h) ?_ ?_ rfl ?_); (focus (simp [*]; done)); (focus (first | exact (fun _ => rfl) | exact (vT_ren _) | exact (vLs_ren _) | exact (vTB_ren _) | exact (vG_ren _) | exact (vT3_ren _) | (intro ρ; simp [AV.ren, AT.ren, AC.ren]; done))); simp -implicitDefEqProofs [h0]) | (refine ard_call (calld_pure (h) ?_ ?_ rfl ?_); (focus (simp [*]; done)); (focus (first | exact (fun _ => rfl) | exact (vT_ren _) | exact (vLs_ren _) | exact (vTB_ren _) | exact (vG_ren _) | exact (vT3_ren _) | (intro ρ; simp [AV.ren, AT.ren, AC.ren]; done))); simp -implicitDefEqProofs [h0]) | (refine ar_call (call_pure (hz) ?_ ?_ rfl ?_); (focus (simp [*]; done)); (focus (first | exact (fun _ => rfl) | exact (vT_ren _) | exact (vLs_ren _) | exact (vTB_ren _) | exact (vG_ren _) | exact (vT3_ren _) | (intro ρ; simp [AV.ren, AT.ren, AC.ren]; done))); simp -implicitDefEqProofs [h0]) | (refine ard_call (calld_pure (hz) ?_ ?_ rfl ?_); (focus (simp [*]; done)); (focus (first | exact (fun _ => rfl) | exact (vT_ren _) | exact (vLs_ren _) | exact (vTB_ren _) | exact (vG_ren _) | exact (vT3_ren _) | (intro ρ; simp [AV.ren, AT.ren, AC.ren]; done))); simp -implicitDefEqProofs [h0]) | fail)
    refine aw_ret (fin_ret ?_); simp -implicitDefEqProofs [FinP, resV, resT] <;> try rfl
  by_cases h1 : (ts.length : Int) < a
  · have h := parse_no ts a (.inr h1)
    unfold z0 at h
    refine row_of Try.func3 rfl rfl (Nat.le_of_ble_eq_true rfl) ?_
    repeat' (first | refine aw_seq ?_ | refine aw_skip ?_ | refine aw_block ?_ | refine aw_exit ?_ | refine aw_cond rfl (fun _ => ?_) (fun hb => absurd hb (by decide)) | refine aw_cond rfl (fun hb => absurd hb (by decide)) (fun _ => ?_) | (refine aw_reg (fun K hK => ?_); simp -implicitDefEqProofs [h0, h1]) | (refine aw_drw mixd (fun K hK => ?_); simp -implicitDefEqProofs [h0, h1]) | refine hK _ ?_ | refine hK _ _ (by rfl) ?_ | (refine ar_call (call_pure (h) ?_ ?_ rfl ?_); (focus (simp [*]; done)); (focus (first | exact (fun _ => rfl) | exact (vT_ren _) | exact (vLs_ren _) | exact (vTB_ren _) | exact (vG_ren _) | exact (vT3_ren _) | (intro ρ; simp [AV.ren, AT.ren, AC.ren]; done))); simp -implicitDefEqProofs [h0, h1]) | (refine ard_call (calld_pure (h) ?_ ?_ rfl ?_); (focus (simp [*]; done)); (focus (first | exact (fun _ => rfl) | exact (vT_ren _) | exact (vLs_ren _) | exact (vTB_ren _) | exact (vG_ren _) | exact (vT3_ren _) | (intro ρ; simp [AV.ren, AT.ren, AC.ren]; done))); simp -implicitDefEqProofs [h0, h1]) | (refine ar_call (call_pure (hz) ?_ ?_ rfl ?_); (focus (simp [*]; done)); (focus (first | exact (fun _ => rfl) | exact (vT_ren _) | exact (vLs_ren _) | exact (vTB_ren _) | exact (vG_ren _) | exact (vT3_ren _) | (intro ρ; simp [AV.ren, AT.ren, AC.ren]; done))); simp -implicitDefEqProofs [h0, h1]) | (refine ard_call (calld_pure (hz) ?_ ?_ rfl ?_); (focus (simp [*]; done)); (focus (first | exact (fun _ => rfl) | exact (vT_ren _) | exact (vLs_ren _) | exact (vTB_ren _) | exact (vG_ren _) | exact (vT3_ren _) | (intro ρ; simp [AV.ren, AT.ren, AC.ren]; done))); simp -implicitDefEqProofs [h0, h1]) | fail)
    refine aw_ret (fin_ret ?_); simp -implicitDefEqProofs [FinP, resV, resT] <;> try rfl
  obtain ⟨i, rfl⟩ : ∃ i : Nat, a = i := ⟨a.toNat, by omega⟩
  have hi : i ≤ ts.length := by omega
  have h1' : ¬ ts.length < i := by omega
  have h := parse_yes ts hl i hi
  by_cases h3 : 300 < ts.length
  · have h3' : (300 : Int) < ts.length := by omega
    obtain ⟨⟨⟨px, pl⟩, j, e⟩, hr⟩ : ∃ r, Qx ts 1 i = r := ⟨_, rfl⟩
    rw [hr] at h
    clear hz hsz
    refine row_of Try.func3 rfl rfl (Nat.le_of_ble_eq_true rfl) ?_
    repeat' (first | refine aw_seq ?_ | refine aw_skip ?_ | refine aw_block ?_ | refine aw_exit ?_ | refine aw_cond rfl (fun _ => ?_) (fun hb => absurd hb (by decide)) | refine aw_cond rfl (fun hb => absurd hb (by decide)) (fun _ => ?_) | (refine aw_reg (fun K hK => ?_); simp -implicitDefEqProofs [h0, h1, h1', h3, h3']) | (refine aw_drw mixd (fun K hK => ?_); simp -implicitDefEqProofs [h0, h1, h1', h3, h3']) | refine hK _ ?_ | refine hK _ _ (by rfl) ?_ | (refine ar_call (call_pure (h) ?_ ?_ rfl ?_); (focus (simp [*]; done)); (focus (first | exact (fun _ => rfl) | exact (vT_ren _) | exact (vLs_ren _) | exact (vTB_ren _) | exact (vG_ren _) | exact (vT3_ren _) | (intro ρ; simp [AV.ren, AT.ren, AC.ren]; done))); simp -implicitDefEqProofs [h0, h1, h1', h3, h3']) | (refine ard_call (calld_pure (h) ?_ ?_ rfl ?_); (focus (simp [*]; done)); (focus (first | exact (fun _ => rfl) | exact (vT_ren _) | exact (vLs_ren _) | exact (vTB_ren _) | exact (vG_ren _) | exact (vT3_ren _) | (intro ρ; simp [AV.ren, AT.ren, AC.ren]; done))); simp -implicitDefEqProofs [h0, h1, h1', h3, h3']) | (refine ar_call (call_pure (haw) ?_ ?_ rfl ?_); (focus (simp [*]; done)); (focus (first | exact (fun _ => rfl) | exact (vT_ren _) | exact (vLs_ren _) | exact (vTB_ren _) | exact (vG_ren _) | exact (vT3_ren _) | (intro ρ; simp [AV.ren, AT.ren, AC.ren]; done))); simp -implicitDefEqProofs [h0, h1, h1', h3, h3']) | (refine ard_call (calld_pure (haw) ?_ ?_ rfl ?_); (focus (simp [*]; done)); (focus (first | exact (fun _ => rfl) | exact (vT_ren _) | exact (vLs_ren _) | exact (vTB_ren _) | exact (vG_ren _) | exact (vT3_ren _) | (intro ρ; simp [AV.ren, AT.ren, AC.ren]; done))); simp -implicitDefEqProofs [h0, h1, h1', h3, h3']) | fail)
    refine aw_ret (fin_ret ?_); simp -implicitDefEqProofs [FinP, resV, resT] <;> try rfl
  have h3' : ¬ (300 : Int) < ts.length := by omega
  have hr2 := rexpr_row ts (by omega) i hi
  have hs := hsz i hi (by omega)
  obtain ⟨⟨⟨px, pl⟩, j, e⟩, hr⟩ : ∃ r, Qx ts 1 i = r := ⟨_, rfl⟩
  rw [hr] at h hr2 hs
  have hp := rplac_row (.mk px pl) (by dsimp only at hs; omega) (.mk px pl) (by dsimp only at hs; omega)
  rw [plac_refl] at hp
  clear hz hs hsz
  refine row_of Try.func3 rfl rfl (Nat.le_of_ble_eq_true rfl) ?_
  repeat' (first | refine aw_seq ?_ | refine aw_skip ?_ | refine aw_block ?_ | refine aw_exit ?_ | refine aw_cond rfl (fun _ => ?_) (fun hb => absurd hb (by decide)) | refine aw_cond rfl (fun hb => absurd hb (by decide)) (fun _ => ?_) | (refine aw_reg (fun K hK => ?_); simp -implicitDefEqProofs [h0, h1, h1', h3, h3']) | (refine aw_drw mixd (fun K hK => ?_); simp -implicitDefEqProofs [h0, h1, h1', h3, h3']) | refine hK _ ?_ | refine hK _ _ (by rfl) ?_ | (refine ar_call (call_pure (h) ?_ ?_ rfl ?_); (focus (simp [*]; done)); (focus (first | exact (fun _ => rfl) | exact (vT_ren _) | exact (vLs_ren _) | exact (vTB_ren _) | exact (vG_ren _) | exact (vT3_ren _) | (intro ρ; simp [AV.ren, AT.ren, AC.ren]; done))); simp -implicitDefEqProofs [h0, h1, h1', h3, h3']) | (refine ard_call (calld_pure (h) ?_ ?_ rfl ?_); (focus (simp [*]; done)); (focus (first | exact (fun _ => rfl) | exact (vT_ren _) | exact (vLs_ren _) | exact (vTB_ren _) | exact (vG_ren _) | exact (vT3_ren _) | (intro ρ; simp [AV.ren, AT.ren, AC.ren]; done))); simp -implicitDefEqProofs [h0, h1, h1', h3, h3']) | (refine ar_call (call_pure (hr2) ?_ ?_ rfl ?_); (focus (simp [*]; done)); (focus (first | exact (fun _ => rfl) | exact (vT_ren _) | exact (vLs_ren _) | exact (vTB_ren _) | exact (vG_ren _) | exact (vT3_ren _) | (intro ρ; simp [AV.ren, AT.ren, AC.ren]; done))); simp -implicitDefEqProofs [h0, h1, h1', h3, h3']) | (refine ard_call (calld_pure (hr2) ?_ ?_ rfl ?_); (focus (simp [*]; done)); (focus (first | exact (fun _ => rfl) | exact (vT_ren _) | exact (vLs_ren _) | exact (vTB_ren _) | exact (vG_ren _) | exact (vT3_ren _) | (intro ρ; simp [AV.ren, AT.ren, AC.ren]; done))); simp -implicitDefEqProofs [h0, h1, h1', h3, h3']) | (refine ar_call (call_pure (hp) ?_ ?_ rfl ?_); (focus (simp [*]; done)); (focus (first | exact (fun _ => rfl) | exact (vT_ren _) | exact (vLs_ren _) | exact (vTB_ren _) | exact (vG_ren _) | exact (vT3_ren _) | (intro ρ; simp [AV.ren, AT.ren, AC.ren]; done))); simp -implicitDefEqProofs [h0, h1, h1', h3, h3']) | (refine ard_call (calld_pure (hp) ?_ ?_ rfl ?_); (focus (simp [*]; done)); (focus (first | exact (fun _ => rfl) | exact (vT_ren _) | exact (vLs_ren _) | exact (vTB_ren _) | exact (vG_ren _) | exact (vT3_ren _) | (intro ρ; simp [AV.ren, AT.ren, AC.ren]; done))); simp -implicitDefEqProofs [h0, h1, h1', h3, h3']) | (refine ar_call (call_pure (haw) ?_ ?_ rfl ?_); (focus (simp [*]; done)); (focus (first | exact (fun _ => rfl) | exact (vT_ren _) | exact (vLs_ren _) | exact (vTB_ren _) | exact (vG_ren _) | exact (vT3_ren _) | (intro ρ; simp [AV.ren, AT.ren, AC.ren]; done))); simp -implicitDefEqProofs [h0, h1, h1', h3, h3']) | (refine ard_call (calld_pure (haw) ?_ ?_ rfl ?_); (focus (simp [*]; done)); (focus (first | exact (fun _ => rfl) | exact (vT_ren _) | exact (vLs_ren _) | exact (vTB_ren _) | exact (vG_ren _) | exact (vT3_ren _) | (intro ρ; simp [AV.ren, AT.ren, AC.ren]; done))); simp -implicitDefEqProofs [h0, h1, h1', h3, h3']) | fail)
  refine aw_ret (fin_ret ?_); simp -implicitDefEqProofs [FinP, resV, resT] <;> try rfl
end Go.Proofs.Ythifckknijdgfaa.am
