/-
  Layer 7: expressions stand apart: what the statement says.
-/
import Derived.Test.YthifckknijdgfaaExprLaw
import Derived.Test.YthifckknijdgfaaVtExApt
import Derived.Test.YthifckknijdgfaaVtExSz
namespace Go.Proofs.Ythifckknijdgfaa.am
open Go.ChangeShapes Go.WideShapes Go.ChangeAt Go.RowKit
open vt
set_option linter.unusedVariables false
set_option linter.unusedSimpArgs false
abbrev semK : Tok := ⟨4, 0, ⟨#[59]⟩, 0, 0⟩
set_option maxRecDepth 100000 in
set_option maxHeartbeats 4000000 in
theorem law_apart_row (a t b : List Tok) (la : a.length ≤ 9223372036854775807) (lt : t.length ≤ 9223372036854775807) (lb : b.length ≤ 9223372036854775807) : Row Try.prog 6 [vKs a, vKs t, vKs b] [] (vB true) [] := by
  have haw := awake07_row
  by_cases ha : 100 < a.length
  · have ha' : (100 : Int) < a.length := by omega
    refine row_of Try.func6 rfl rfl (Nat.le_of_ble_eq_true rfl) ?_
    repeat' (first | refine aw_seq ?_ | refine aw_skip ?_ | refine aw_block ?_ | refine aw_exit ?_ | refine aw_cond rfl (fun _ => ?_) (fun hb => absurd hb (by decide)) | refine aw_cond rfl (fun hb => absurd hb (by decide)) (fun _ => ?_) | (refine aw_reg (fun K hK => ?_); simp -implicitDefEqProofs [ha, ha']) | (refine aw_drw mixd (fun K hK => ?_); simp -implicitDefEqProofs [ha, ha']) | refine hK _ ?_ | refine hK _ _ (by rfl) ?_ | (refine ar_call (call_pure (haw) ?_ ?_ rfl ?_); (focus (simp [*]; done)); (focus (first | exact (fun _ => rfl) | exact (vT_ren _) | exact (vLs_ren _) | exact (vTB_ren _) | exact (vG_ren _) | exact (vT3_ren _) | (intro ρ; simp [AV.ren, AT.ren, AC.ren]; done))); simp -implicitDefEqProofs [ha, ha']) | (refine ard_call (calld_pure (haw) ?_ ?_ rfl ?_); (focus (simp [*]; done)); (focus (first | exact (fun _ => rfl) | exact (vT_ren _) | exact (vLs_ren _) | exact (vTB_ren _) | exact (vG_ren _) | exact (vT3_ren _) | (intro ρ; simp [AV.ren, AT.ren, AC.ren]; done))); simp -implicitDefEqProofs [ha, ha']) | fail)
    refine aw_ret (fin_ret ?_); simp -implicitDefEqProofs [FinP, resV, resT] <;> try rfl
  have ha' : ¬ (100 : Int) < a.length := by omega
  by_cases ht : 200 < t.length
  · have ht' : (200 : Int) < t.length := by omega
    refine row_of Try.func6 rfl rfl (Nat.le_of_ble_eq_true rfl) ?_
    repeat' (first | refine aw_seq ?_ | refine aw_skip ?_ | refine aw_block ?_ | refine aw_exit ?_ | refine aw_cond rfl (fun _ => ?_) (fun hb => absurd hb (by decide)) | refine aw_cond rfl (fun hb => absurd hb (by decide)) (fun _ => ?_) | (refine aw_reg (fun K hK => ?_); simp -implicitDefEqProofs [ha, ha', ht, ht']) | (refine aw_drw mixd (fun K hK => ?_); simp -implicitDefEqProofs [ha, ha', ht, ht']) | refine hK _ ?_ | refine hK _ _ (by rfl) ?_ | (refine ar_call (call_pure (haw) ?_ ?_ rfl ?_); (focus (simp [*]; done)); (focus (first | exact (fun _ => rfl) | exact (vT_ren _) | exact (vLs_ren _) | exact (vTB_ren _) | exact (vG_ren _) | exact (vT3_ren _) | (intro ρ; simp [AV.ren, AT.ren, AC.ren]; done))); simp -implicitDefEqProofs [ha, ha', ht, ht']) | (refine ard_call (calld_pure (haw) ?_ ?_ rfl ?_); (focus (simp [*]; done)); (focus (first | exact (fun _ => rfl) | exact (vT_ren _) | exact (vLs_ren _) | exact (vTB_ren _) | exact (vG_ren _) | exact (vT3_ren _) | (intro ρ; simp [AV.ren, AT.ren, AC.ren]; done))); simp -implicitDefEqProofs [ha, ha', ht, ht']) | fail)
    refine aw_ret (fin_ret ?_); simp -implicitDefEqProofs [FinP, resV, resT] <;> try rfl
  have ht' : ¬ (200 : Int) < t.length := by omega
  by_cases hb : 100 < b.length
  · have hb' : (100 : Int) < b.length := by omega
    refine row_of Try.func6 rfl rfl (Nat.le_of_ble_eq_true rfl) ?_
    repeat' (first | refine aw_seq ?_ | refine aw_skip ?_ | refine aw_block ?_ | refine aw_exit ?_ | refine aw_cond rfl (fun _ => ?_) (fun hb => absurd hb (by decide)) | refine aw_cond rfl (fun hb => absurd hb (by decide)) (fun _ => ?_) | (refine aw_reg (fun K hK => ?_); simp -implicitDefEqProofs [ha, ha', ht, ht', hb, hb']) | (refine aw_drw mixd (fun K hK => ?_); simp -implicitDefEqProofs [ha, ha', ht, ht', hb, hb']) | refine hK _ ?_ | refine hK _ _ (by rfl) ?_ | (refine ar_call (call_pure (haw) ?_ ?_ rfl ?_); (focus (simp [*]; done)); (focus (first | exact (fun _ => rfl) | exact (vT_ren _) | exact (vLs_ren _) | exact (vTB_ren _) | exact (vG_ren _) | exact (vT3_ren _) | (intro ρ; simp [AV.ren, AT.ren, AC.ren]; done))); simp -implicitDefEqProofs [ha, ha', ht, ht', hb, hb']) | (refine ard_call (calld_pure (haw) ?_ ?_ rfl ?_); (focus (simp [*]; done)); (focus (first | exact (fun _ => rfl) | exact (vT_ren _) | exact (vLs_ren _) | exact (vTB_ren _) | exact (vG_ren _) | exact (vT3_ren _) | (intro ρ; simp [AV.ren, AT.ren, AC.ren]; done))); simp -implicitDefEqProofs [ha, ha', ht, ht', hb, hb']) | fail)
    refine aw_ret (fin_ret ?_); simp -implicitDefEqProofs [FinP, resV, resT] <;> try rfl
  have hb' : ¬ (100 : Int) < b.length := by omega
  have h := parse_yes t (by omega) 0 (Nat.zero_le _)
  have hap := vt.apart (ts := t) a b semK ⟨rfl, rfl⟩
  have hsz := vt.Q_sz (ts := t) 1 0 (Nat.zero_le _)
  obtain ⟨⟨⟨px, pl⟩, j, e⟩, hr⟩ : ∃ r, Qx t 1 0 = r := ⟨_, rfl⟩
  rw [hr] at h hap hsz
  dsimp only at hap hsz
  by_cases he : e = 0; rotate_left
  · clear hap hsz hr
    refine row_of Try.func6 rfl rfl (Nat.le_of_ble_eq_true rfl) ?_
    repeat' (first | refine aw_seq ?_ | refine aw_skip ?_ | refine aw_block ?_ | refine aw_exit ?_ | refine aw_cond rfl (fun _ => ?_) (fun hb => absurd hb (by decide)) | refine aw_cond rfl (fun hb => absurd hb (by decide)) (fun _ => ?_) | (refine aw_reg (fun K hK => ?_); simp -implicitDefEqProofs [ha, ha', ht, ht', hb, hb', he]) | (refine aw_drw mixd (fun K hK => ?_); simp -implicitDefEqProofs [ha, ha', ht, ht', hb, hb', he]) | refine hK _ ?_ | refine hK _ _ (by rfl) ?_ | (refine ar_call (call_pure (h) ?_ ?_ rfl ?_); (focus (simp [*]; done)); (focus (first | exact (fun _ => rfl) | exact (vT_ren _) | exact (vLs_ren _) | exact (vTB_ren _) | exact (vG_ren _) | exact (vT3_ren _) | (intro ρ; simp [AV.ren, AT.ren, AC.ren]; done))); simp -implicitDefEqProofs [ha, ha', ht, ht', hb, hb', he]) | (refine ard_call (calld_pure (h) ?_ ?_ rfl ?_); (focus (simp [*]; done)); (focus (first | exact (fun _ => rfl) | exact (vT_ren _) | exact (vLs_ren _) | exact (vTB_ren _) | exact (vG_ren _) | exact (vT3_ren _) | (intro ρ; simp [AV.ren, AT.ren, AC.ren]; done))); simp -implicitDefEqProofs [ha, ha', ht, ht', hb, hb', he]) | (refine ar_call (call_pure (haw) ?_ ?_ rfl ?_); (focus (simp [*]; done)); (focus (first | exact (fun _ => rfl) | exact (vT_ren _) | exact (vLs_ren _) | exact (vTB_ren _) | exact (vG_ren _) | exact (vT3_ren _) | (intro ρ; simp [AV.ren, AT.ren, AC.ren]; done))); simp -implicitDefEqProofs [ha, ha', ht, ht', hb, hb', he]) | (refine ard_call (calld_pure (haw) ?_ ?_ rfl ?_); (focus (simp [*]; done)); (focus (first | exact (fun _ => rfl) | exact (vT_ren _) | exact (vLs_ren _) | exact (vTB_ren _) | exact (vG_ren _) | exact (vT3_ren _) | (intro ρ; simp [AV.ren, AT.ren, AC.ren]; done))); simp -implicitDefEqProofs [ha, ha', ht, ht', hb, hb', he]) | fail)
    refine aw_ret (fin_ret ?_); simp -implicitDefEqProofs [FinP, resV, resT] <;> try rfl
  subst he
  by_cases hj : j = t.length; rotate_left
  · have hj' : ¬ (j : Int) = t.length := by omega
    clear hap hsz hr
    refine row_of Try.func6 rfl rfl (Nat.le_of_ble_eq_true rfl) ?_
    repeat' (first | refine aw_seq ?_ | refine aw_skip ?_ | refine aw_block ?_ | refine aw_exit ?_ | refine aw_cond rfl (fun _ => ?_) (fun hb => absurd hb (by decide)) | refine aw_cond rfl (fun hb => absurd hb (by decide)) (fun _ => ?_) | (refine aw_reg (fun K hK => ?_); simp -implicitDefEqProofs [ha, ha', ht, ht', hb, hb', hj, hj']) | (refine aw_drw mixd (fun K hK => ?_); simp -implicitDefEqProofs [ha, ha', ht, ht', hb, hb', hj, hj']) | refine hK _ ?_ | refine hK _ _ (by rfl) ?_ | (refine ar_call (call_pure (h) ?_ ?_ rfl ?_); (focus (simp [*]; done)); (focus (first | exact (fun _ => rfl) | exact (vT_ren _) | exact (vLs_ren _) | exact (vTB_ren _) | exact (vG_ren _) | exact (vT3_ren _) | (intro ρ; simp [AV.ren, AT.ren, AC.ren]; done))); simp -implicitDefEqProofs [ha, ha', ht, ht', hb, hb', hj, hj']) | (refine ard_call (calld_pure (h) ?_ ?_ rfl ?_); (focus (simp [*]; done)); (focus (first | exact (fun _ => rfl) | exact (vT_ren _) | exact (vLs_ren _) | exact (vTB_ren _) | exact (vG_ren _) | exact (vT3_ren _) | (intro ρ; simp [AV.ren, AT.ren, AC.ren]; done))); simp -implicitDefEqProofs [ha, ha', ht, ht', hb, hb', hj, hj']) | (refine ar_call (call_pure (haw) ?_ ?_ rfl ?_); (focus (simp [*]; done)); (focus (first | exact (fun _ => rfl) | exact (vT_ren _) | exact (vLs_ren _) | exact (vTB_ren _) | exact (vG_ren _) | exact (vT3_ren _) | (intro ρ; simp [AV.ren, AT.ren, AC.ren]; done))); simp -implicitDefEqProofs [ha, ha', ht, ht', hb, hb', hj, hj']) | (refine ard_call (calld_pure (haw) ?_ ?_ rfl ?_); (focus (simp [*]; done)); (focus (first | exact (fun _ => rfl) | exact (vT_ren _) | exact (vLs_ren _) | exact (vTB_ren _) | exact (vG_ren _) | exact (vT3_ren _) | (intro ρ; simp [AV.ren, AT.ren, AC.ren]; done))); simp -implicitDefEqProofs [ha, ha', ht, ht', hb, hb', hj, hj']) | fail)
    refine aw_ret (fin_ret ?_); simp -implicitDefEqProofs [FinP, resV, resT] <;> try rfl
  subst hj
  have hap := hap rfl
  have hlen : (a ++ t ++ [semK] ++ b).length = a.length + t.length + 1 + b.length := by simp only [List.length_append, List.length_cons, List.length_nil]
  have h2 := parse_yes (a ++ t ++ [semK] ++ b) (by rw [hlen]; omega) a.length (by rw [hlen]; omega)
  rw [hap] at h2
  clear hlen hap
  have hp := rplac_row (.mk px pl) (by omega) (.mk px pl) (by omega)
  rw [plac_refl] at hp
  have w1 : IntKind.i64.wrap ((a.length : Int) + t.length) = (a.length : Int) + t.length := i64i _ (by omega) (by omega)
  have b1 : a.length * 48 ≤ 140737488355328 := by omega
  have b2 : a.length ≤ 140737488355328 := by omega
  have b3 : (a.length + t.length) * 48 ≤ 140737488355328 := by omega
  have b4 : a.length + t.length ≤ 140737488355328 := by omega
  have b5 : (a.length + t.length + 1) * 48 ≤ 140737488355328 := by omega
  have b6 : a.length + t.length + 1 ≤ 140737488355328 := by omega
  have b7 : (a.length + t.length + 1 + b.length) * 48 ≤ 140737488355328 := by omega
  have b8 : a.length + t.length + 1 + b.length ≤ 140737488355328 := by omega
  have c5 : (a.length + (t.length + 1)) * 48 ≤ 140737488355328 := by omega
  have c6 : a.length + (t.length + 1) ≤ 140737488355328 := by omega
  have c8' : a.length + (t.length + 1) + b.length ≤ 1000 := by omega
  have c7 : (a.length + (t.length + 1) + b.length) * 48 ≤ 140737488355328 := Nat.le_trans (Nat.mul_le_mul_right 48 c8') (by decide)
  have c8 : a.length + (t.length + 1) + b.length ≤ 140737488355328 := Nat.le_trans c8' (by decide)
  clear hsz hr
  refine row_of Try.func6 rfl rfl (Nat.le_of_ble_eq_true rfl) ?_
  repeat' (first | refine aw_seq ?_ | refine aw_skip ?_ | refine aw_block ?_ | refine aw_exit ?_ | refine aw_cond rfl (fun _ => ?_) (fun hb => absurd hb (by decide)) | refine aw_cond rfl (fun hb => absurd hb (by decide)) (fun _ => ?_) | (refine aw_reg (fun K hK => ?_); simp -implicitDefEqProofs [ha, ha', ht, ht', hb, hb', b1, b2, b3, b4, b5, b6, b7, b8, c5, c6, c7, c8, w1]) | (refine aw_drw mixd (fun K hK => ?_); simp -implicitDefEqProofs [ha, ha', ht, ht', hb, hb', b1, b2, b3, b4, b5, b6, b7, b8, c5, c6, c7, c8, w1]) | refine hK _ ?_ | refine hK _ _ (by rfl) ?_ | (refine ar_call (call_pure (h) ?_ ?_ rfl ?_); (focus (simp [*]; done)); (focus (first | exact (fun _ => rfl) | exact (vT_ren _) | exact (vLs_ren _) | exact (vTB_ren _) | exact (vG_ren _) | exact (vT3_ren _) | (intro ρ; simp [AV.ren, AT.ren, AC.ren]; done))); simp -implicitDefEqProofs [ha, ha', ht, ht', hb, hb', b1, b2, b3, b4, b5, b6, b7, b8, c5, c6, c7, c8, w1]) | (refine ard_call (calld_pure (h) ?_ ?_ rfl ?_); (focus (simp [*]; done)); (focus (first | exact (fun _ => rfl) | exact (vT_ren _) | exact (vLs_ren _) | exact (vTB_ren _) | exact (vG_ren _) | exact (vT3_ren _) | (intro ρ; simp [AV.ren, AT.ren, AC.ren]; done))); simp -implicitDefEqProofs [ha, ha', ht, ht', hb, hb', b1, b2, b3, b4, b5, b6, b7, b8, c5, c6, c7, c8, w1]) | (refine ar_call (call_pure (h2) ?_ ?_ rfl ?_); (focus (simp [*]; done)); (focus (first | exact (fun _ => rfl) | exact (vT_ren _) | exact (vLs_ren _) | exact (vTB_ren _) | exact (vG_ren _) | exact (vT3_ren _) | (intro ρ; simp [AV.ren, AT.ren, AC.ren]; done))); simp -implicitDefEqProofs [ha, ha', ht, ht', hb, hb', b1, b2, b3, b4, b5, b6, b7, b8, c5, c6, c7, c8, w1]) | (refine ard_call (calld_pure (h2) ?_ ?_ rfl ?_); (focus (simp [*]; done)); (focus (first | exact (fun _ => rfl) | exact (vT_ren _) | exact (vLs_ren _) | exact (vTB_ren _) | exact (vG_ren _) | exact (vT3_ren _) | (intro ρ; simp [AV.ren, AT.ren, AC.ren]; done))); simp -implicitDefEqProofs [ha, ha', ht, ht', hb, hb', b1, b2, b3, b4, b5, b6, b7, b8, c5, c6, c7, c8, w1]) | (refine ar_call (call_pure (hp) ?_ ?_ rfl ?_); (focus (simp [*]; done)); (focus (first | exact (fun _ => rfl) | exact (vT_ren _) | exact (vLs_ren _) | exact (vTB_ren _) | exact (vG_ren _) | exact (vT3_ren _) | (intro ρ; simp [AV.ren, AT.ren, AC.ren]; done))); simp -implicitDefEqProofs [ha, ha', ht, ht', hb, hb', b1, b2, b3, b4, b5, b6, b7, b8, c5, c6, c7, c8, w1]) | (refine ard_call (calld_pure (hp) ?_ ?_ rfl ?_); (focus (simp [*]; done)); (focus (first | exact (fun _ => rfl) | exact (vT_ren _) | exact (vLs_ren _) | exact (vTB_ren _) | exact (vG_ren _) | exact (vT3_ren _) | (intro ρ; simp [AV.ren, AT.ren, AC.ren]; done))); simp -implicitDefEqProofs [ha, ha', ht, ht', hb, hb', b1, b2, b3, b4, b5, b6, b7, b8, c5, c6, c7, c8, w1]) | (refine ar_call (call_pure (haw) ?_ ?_ rfl ?_); (focus (simp [*]; done)); (focus (first | exact (fun _ => rfl) | exact (vT_ren _) | exact (vLs_ren _) | exact (vTB_ren _) | exact (vG_ren _) | exact (vT3_ren _) | (intro ρ; simp [AV.ren, AT.ren, AC.ren]; done))); simp -implicitDefEqProofs [ha, ha', ht, ht', hb, hb', b1, b2, b3, b4, b5, b6, b7, b8, c5, c6, c7, c8, w1]) | (refine ard_call (calld_pure (haw) ?_ ?_ rfl ?_); (focus (simp [*]; done)); (focus (first | exact (fun _ => rfl) | exact (vT_ren _) | exact (vLs_ren _) | exact (vTB_ren _) | exact (vG_ren _) | exact (vT3_ren _) | (intro ρ; simp [AV.ren, AT.ren, AC.ren]; done))); simp -implicitDefEqProofs [ha, ha', ht, ht', hb, hb', b1, b2, b3, b4, b5, b6, b7, b8, c5, c6, c7, c8, w1]) | fail)
  refine aw_ret (fin_ret ?_); simp -implicitDefEqProofs [FinP, resV, resT] <;> try rfl
end Go.Proofs.Ythifckknijdgfaa.am
