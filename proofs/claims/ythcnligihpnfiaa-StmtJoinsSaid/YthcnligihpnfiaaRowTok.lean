/-
  Layers 7 to 9: the program's reader of tokens.
-/
import Derived.Test.YthcnligihpnfiaaVtTok
import Derived.Test.YthcnligihpnfiaaTd
import Derived.Test.YthcnligihpnfiaaAmB
namespace Go.Proofs.Ythcnligihpnfiaa.am
open Go.ChangeShapes Go.WideShapes Go.ChangeAt Go.RowKit
open vt
set_option linter.unusedVariables false
set_option linter.unusedSimpArgs false
theorem td_tok : td Try.prog 33 = some ⟨true, 5, 48, [.lit (.int .i64 0), .lit (.int .i64 0), .lit (.string ⟨#[]⟩), .lit (.int .i64 0), .lit (.int .i64 0)], [(0, 1, false), (1, 1, false), (2, 1, false), (3, 1, false), (4, 1, false)], .struct⟩ := Eq.trans (by kernel_rfl) (Eq.refl _)
theorem td_toks : td Try.prog 22 = some ⟨false, 1, 24, [.nilS], [], (.slice 33)⟩ := Eq.trans (by kernel_rfl) (Eq.refl _)
theorem td_rdr : td Try.prog 71 = some ⟨true, 3, 40, [.nilS, .lit (.int .i64 0), .lit (.int .i64 0)], [(0, 1, false), (1, 1, false), (2, 1, false)], .struct⟩ := Eq.trans (by kernel_rfl) (Eq.refl _)
theorem td_u8 : td Try.prog 5 = some ⟨false, 1, 1, [.lit (.int .u8 0)], [], (.int .u8)⟩ := Eq.trans (by kernel_rfl) (Eq.refl _)
theorem td_errno : td Try.prog 23 = some ⟨false, 1, 8, [.lit (.int .i64 0)], [], (.int .i64)⟩ := Eq.trans (by kernel_rfl) (Eq.refl _)
attribute [simp] td_tok td_toks td_rdr td_u8 td_errno
theorem rd_ren (ts : List Tok) (i : Nat) (e : Int) (ρ : Nat → Nat) : (rd ts i e).ren ρ = rd ts i e := rfl
attribute [simp] kc
abbrev vR : AV := .v (.c (.ptr 0 0))
set_option maxRecDepth 100000 in
set_option maxHeartbeats 4000000 in
theorem goes_row (ts : List Tok) (i : Nat) (e : Int) : Row Try.prog 42 [vR] [rd ts i e] (vB (decide (e = 0))) [some (rd ts i e)] := by
  refine row_of Try.func42 rfl rfl (Nat.le_of_ble_eq_true rfl) ?_
  repeat (first | refine aw_seq ?_ | refine aw_skip ?_ | refine aw_block ?_ | refine aw_exit ?_ | refine aw_cond rfl (fun _ => ?_) (fun hb => absurd hb (by decide)) | refine aw_cond rfl (fun hb => absurd hb (by decide)) (fun _ => ?_) | (refine aw_reg (fun K hK => ?_); simp -implicitDefEqProofs; refine hK _ ?_) | (refine aw_drw mixd (fun K hK => ?_); simp -implicitDefEqProofs; refine hK _ _ (by rfl) ?_) | fail)
  refine aw_ret (fin_box ?_); simp -implicitDefEqProofs [FinB, resV, resT] <;> try rfl
set_option maxRecDepth 100000 in
set_option maxHeartbeats 4000000 in
theorem place_row (ts : List Tok) (i : Nat) (e : Int) : Row Try.prog 43 [vR] [rd ts i e] (vI i) [some (rd ts i e)] := by
  refine row_of Try.func43 rfl rfl (Nat.le_of_ble_eq_true rfl) ?_
  repeat (first | refine aw_seq ?_ | refine aw_skip ?_ | refine aw_block ?_ | refine aw_exit ?_ | refine aw_cond rfl (fun _ => ?_) (fun hb => absurd hb (by decide)) | refine aw_cond rfl (fun hb => absurd hb (by decide)) (fun _ => ?_) | (refine aw_reg (fun K hK => ?_); simp -implicitDefEqProofs; refine hK _ ?_) | (refine aw_drw mixd (fun K hK => ?_); simp -implicitDefEqProofs; refine hK _ _ (by rfl) ?_) | fail)
  refine aw_ret (fin_box ?_); simp -implicitDefEqProofs [FinB, resV, resT] <;> try rfl
set_option maxRecDepth 100000 in
set_option maxHeartbeats 4000000 in
theorem err_row (ts : List Tok) (i : Nat) (e : Int) : Row Try.prog 44 [vR] [rd ts i e] (vI e) [some (rd ts i e)] := by
  refine row_of Try.func44 rfl rfl (Nat.le_of_ble_eq_true rfl) ?_
  repeat (first | refine aw_seq ?_ | refine aw_skip ?_ | refine aw_block ?_ | refine aw_exit ?_ | refine aw_cond rfl (fun _ => ?_) (fun hb => absurd hb (by decide)) | refine aw_cond rfl (fun hb => absurd hb (by decide)) (fun _ => ?_) | (refine aw_reg (fun K hK => ?_); simp -implicitDefEqProofs; refine hK _ ?_) | (refine aw_drw mixd (fun K hK => ?_); simp -implicitDefEqProofs; refine hK _ _ (by rfl) ?_) | fail)
  refine aw_ret (fin_box ?_); simp -implicitDefEqProofs [FinB, resV, resT] <;> try rfl
set_option maxRecDepth 100000 in
set_option maxHeartbeats 4000000 in
theorem next_row (ts : List Tok) (i : Nat) (e : Int) : Row Try.prog 54 [vR] [rd ts i e] (vK (nxt ts i)) [some (rd ts i e)] := by
  by_cases h : i < ts.length
  · obtain ⟨x, hx⟩ : ∃ x, ts[i]? = some x := ⟨_, List.getElem?_eq_getElem h⟩
    have hx' := (List.getElem?_eq_some_iff.1 hx).2
    rw [nxt_some hx]
    refine row_of Try.func54 rfl rfl (Nat.le_of_ble_eq_true rfl) ?_
    repeat (first | refine aw_seq ?_ | refine aw_skip ?_ | refine aw_block ?_ | refine aw_exit ?_ | refine aw_cond rfl (fun _ => ?_) (fun hb => absurd hb (by decide)) | refine aw_cond rfl (fun hb => absurd hb (by decide)) (fun _ => ?_) | (refine aw_reg (fun K hK => ?_); simp -implicitDefEqProofs [h, hx, hx']; refine hK _ ?_) | (refine aw_drw mixd (fun K hK => ?_); simp -implicitDefEqProofs [h, hx, hx']; refine hK _ _ (by rfl) ?_) | fail)
    refine aw_ret (fin_box ?_); simp -implicitDefEqProofs [FinB, resV, resT] <;> try rfl
  · rw [nxt_none (by omega)]
    refine row_of Try.func54 rfl rfl (Nat.le_of_ble_eq_true rfl) ?_
    repeat (first | refine aw_seq ?_ | refine aw_skip ?_ | refine aw_block ?_ | refine aw_exit ?_ | refine aw_cond rfl (fun _ => ?_) (fun hb => absurd hb (by decide)) | refine aw_cond rfl (fun hb => absurd hb (by decide)) (fun _ => ?_) | (refine aw_reg (fun K hK => ?_); simp -implicitDefEqProofs [h]; refine hK _ ?_) | (refine aw_drw mixd (fun K hK => ?_); simp -implicitDefEqProofs [h]; refine hK _ _ (by rfl) ?_) | fail)
    refine aw_ret (fin_box ?_); simp -implicitDefEqProofs [FinB, resV, resT, endK] <;> try rfl
set_option maxRecDepth 100000 in
set_option maxHeartbeats 4000000 in
theorem fail_row (ts : List Tok) (i : Nat) (e : Int) : Row Try.prog 64 [vR] [rd ts i e] (.tup []) [some (rd ts i (er e))] := by
  have hg := goes_row ts i e
  by_cases h : e = 0
  · subst h
    refine row_of Try.func64 rfl rfl (Nat.le_of_ble_eq_true rfl) ?_
    repeat' (first | refine aw_seq ?_ | refine aw_skip ?_ | refine aw_block ?_ | refine aw_exit ?_ | refine aw_cond rfl (fun _ => ?_) (fun hb => absurd hb (by decide)) | refine aw_cond rfl (fun hb => absurd hb (by decide)) (fun _ => ?_) | (refine aw_reg (fun K hK => ?_); simp -implicitDefEqProofs) | (refine aw_drw mixd (fun K hK => ?_); simp -implicitDefEqProofs) | refine hK _ ?_ | refine hK _ _ (by rfl) ?_ | (refine ar_call (cb hg 0 ?_); simp -implicitDefEqProofs) | (refine ard_call (db hg 0 ?_); simp -implicitDefEqProofs) | fail)
    refine fin_fall (fin_box ?_); simp -implicitDefEqProofs [FinB, resV, resT, er] <;> try rfl
  · refine row_of Try.func64 rfl rfl (Nat.le_of_ble_eq_true rfl) ?_
    repeat' (first | refine aw_seq ?_ | refine aw_skip ?_ | refine aw_block ?_ | refine aw_exit ?_ | refine aw_cond rfl (fun _ => ?_) (fun hb => absurd hb (by decide)) | refine aw_cond rfl (fun hb => absurd hb (by decide)) (fun _ => ?_) | (refine aw_reg (fun K hK => ?_); simp -implicitDefEqProofs [h]) | (refine aw_drw mixd (fun K hK => ?_); simp -implicitDefEqProofs [h]) | refine hK _ ?_ | refine hK _ _ (by rfl) ?_ | (refine ar_call (cb hg 0 ?_); simp -implicitDefEqProofs [h]) | (refine ard_call (db hg 0 ?_); simp -implicitDefEqProofs [h]) | fail)
    refine fin_fall (fin_box ?_); simp -implicitDefEqProofs [FinB, resV, resT, er, h] <;> try rfl
set_option maxRecDepth 100000 in
set_option maxHeartbeats 4000000 in
theorem skip_row (ts : List Tok) (i : Nat) (e : Int) (hl : ts.length ≤ 9223372036854775807) : Row Try.prog 55 [vR] [rd ts i e] (.tup []) [some (rd ts (if e = 0 ∧ i < ts.length then i + 1 else i) e)] := by
  have hg := goes_row ts i e
  by_cases h : e = 0
  · subst h
    by_cases hi : i < ts.length
    · have w : IntKind.i64.wrap ((i : Nat) + 1 : Int) = (i : Nat) + 1 := i64i _ (by omega) (by omega)
      refine row_of Try.func55 rfl rfl (Nat.le_of_ble_eq_true rfl) ?_
      repeat' (first | refine aw_seq ?_ | refine aw_skip ?_ | refine aw_block ?_ | refine aw_exit ?_ | refine aw_cond rfl (fun _ => ?_) (fun hb => absurd hb (by decide)) | refine aw_cond rfl (fun hb => absurd hb (by decide)) (fun _ => ?_) | (refine aw_reg (fun K hK => ?_); simp -implicitDefEqProofs [hi, w]) | (refine aw_drw mixd (fun K hK => ?_); simp -implicitDefEqProofs [hi, w]) | refine hK _ ?_ | refine hK _ _ (by rfl) ?_ | (refine ar_call (cb hg 0 ?_); simp -implicitDefEqProofs [hi, w]) | (refine ard_call (db hg 0 ?_); simp -implicitDefEqProofs [hi, w]) | fail)
      refine fin_fall (fin_box ?_); simp -implicitDefEqProofs [FinB, resV, resT, hi] <;> try rfl
    · refine row_of Try.func55 rfl rfl (Nat.le_of_ble_eq_true rfl) ?_
      repeat' (first | refine aw_seq ?_ | refine aw_skip ?_ | refine aw_block ?_ | refine aw_exit ?_ | refine aw_cond rfl (fun _ => ?_) (fun hb => absurd hb (by decide)) | refine aw_cond rfl (fun hb => absurd hb (by decide)) (fun _ => ?_) | (refine aw_reg (fun K hK => ?_); simp -implicitDefEqProofs [hi]) | (refine aw_drw mixd (fun K hK => ?_); simp -implicitDefEqProofs [hi]) | refine hK _ ?_ | refine hK _ _ (by rfl) ?_ | (refine ar_call (cb hg 0 ?_); simp -implicitDefEqProofs [hi]) | (refine ard_call (db hg 0 ?_); simp -implicitDefEqProofs [hi]) | fail)
      refine fin_fall (fin_box ?_); simp -implicitDefEqProofs [FinB, resV, resT, hi] <;> try rfl
  · refine row_of Try.func55 rfl rfl (Nat.le_of_ble_eq_true rfl) ?_
    repeat' (first | refine aw_seq ?_ | refine aw_skip ?_ | refine aw_block ?_ | refine aw_exit ?_ | refine aw_cond rfl (fun _ => ?_) (fun hb => absurd hb (by decide)) | refine aw_cond rfl (fun hb => absurd hb (by decide)) (fun _ => ?_) | (refine aw_reg (fun K hK => ?_); simp -implicitDefEqProofs [h]) | (refine aw_drw mixd (fun K hK => ?_); simp -implicitDefEqProofs [h]) | refine hK _ ?_ | refine hK _ _ (by rfl) ?_ | (refine ar_call (cb hg 0 ?_); simp -implicitDefEqProofs [h]) | (refine ard_call (db hg 0 ?_); simp -implicitDefEqProofs [h]) | fail)
    refine fin_fall (fin_box ?_); simp -implicitDefEqProofs [FinB, resV, resT, h] <;> try rfl
set_option maxRecDepth 100000 in
set_option maxHeartbeats 4000000 in
theorem quoted_row (s : ByteArray) (hs : s.size ≤ 1000) : Row Try.prog 66 [vS s] [] (vI (quo s)) [] := by
  by_cases h0 : s = ⟨#[]⟩
  · subst h0
    refine row_of Try.func66 rfl rfl (Nat.le_of_ble_eq_true rfl) ?_
    repeat (first | refine aw_seq ?_ | refine aw_skip ?_ | refine aw_block ?_ | refine aw_exit ?_ | refine aw_cond rfl (fun _ => ?_) (fun hb => absurd hb (by decide)) | refine aw_cond rfl (fun hb => absurd hb (by decide)) (fun _ => ?_) | (refine aw_reg (fun K hK => ?_); simp -implicitDefEqProofs; refine hK _ ?_) | (refine aw_drw mixd (fun K hK => ?_); simp -implicitDefEqProofs; refine hK _ _ (by rfl) ?_) | fail)
    refine aw_ret (fin_ret ?_); simp -implicitDefEqProofs [FinP, resV, resT, quo] <;> try rfl
  obtain ⟨c, l, e3, e2⟩ : ∃ c l, s.data.toList = c :: l ∧ s[0]? = some c := by
    obtain ⟨⟨l⟩⟩ := s
    cases l with
    | nil => exact absurd rfl h0
    | cons c l => exact ⟨c, l, rfl, rfl⟩
  have hq : quo s = if 97 ≤ c.toNat ∧ c.toNat ≤ 122 then 3 else 4 := by unfold quo; rw [e3]
  rw [hq]
  clear e3 hq
  refine row_of Try.func66 rfl rfl (Nat.le_of_ble_eq_true rfl) ?_
  by_cases h1 : 97 ≤ c.toNat
  · have h1' : (97 : Int) ≤ c.toNat := by omega
    by_cases h2 : c.toNat ≤ 122
    · have h2' : (c.toNat : Int) ≤ 122 := by omega
      repeat (first | refine aw_seq ?_ | refine aw_skip ?_ | refine aw_block ?_ | refine aw_exit ?_ | refine aw_cond rfl (fun _ => ?_) (fun hb => absurd hb (by decide)) | refine aw_cond rfl (fun hb => absurd hb (by decide)) (fun _ => ?_) | (refine aw_reg (fun K hK => ?_); simp -implicitDefEqProofs [h0, e2, h1, h2, h1', h2']; refine hK _ ?_) | (refine aw_drw mixd (fun K hK => ?_); simp -implicitDefEqProofs [h0, e2, h1, h2, h1', h2']; refine hK _ _ (by rfl) ?_) | fail)
      refine aw_ret (fin_ret ?_); simp -implicitDefEqProofs [FinP, resV, resT, h1, h2] <;> try rfl
    · have h2' : ¬ (c.toNat : Int) ≤ 122 := by omega
      repeat (first | refine aw_seq ?_ | refine aw_skip ?_ | refine aw_block ?_ | refine aw_exit ?_ | refine aw_cond rfl (fun _ => ?_) (fun hb => absurd hb (by decide)) | refine aw_cond rfl (fun hb => absurd hb (by decide)) (fun _ => ?_) | (refine aw_reg (fun K hK => ?_); simp -implicitDefEqProofs [h0, e2, h1, h2, h1', h2']; refine hK _ ?_) | (refine aw_drw mixd (fun K hK => ?_); simp -implicitDefEqProofs [h0, e2, h1, h2, h1', h2']; refine hK _ _ (by rfl) ?_) | fail)
      refine aw_ret (fin_ret ?_); simp -implicitDefEqProofs [FinP, resV, resT, h1, h2] <;> try rfl
  · have h1' : ¬ (97 : Int) ≤ c.toNat := by omega
    repeat (first | refine aw_seq ?_ | refine aw_skip ?_ | refine aw_block ?_ | refine aw_exit ?_ | refine aw_cond rfl (fun _ => ?_) (fun hb => absurd hb (by decide)) | refine aw_cond rfl (fun hb => absurd hb (by decide)) (fun _ => ?_) | (refine aw_reg (fun K hK => ?_); simp -implicitDefEqProofs [h0, e2, h1, h1']; refine hK _ ?_) | (refine aw_drw mixd (fun K hK => ?_); simp -implicitDefEqProofs [h0, e2, h1, h1']; refine hK _ _ (by rfl) ?_) | fail)
    refine aw_ret (fin_ret ?_); simp -implicitDefEqProofs [FinP, resV, resT, h1] <;> try rfl
set_option maxRecDepth 100000 in
set_option maxHeartbeats 4000000 in
theorem is7_row (ts : List Tok) (i : Nat) (e : Int) (s : ByteArray) (hs : s.size ≤ 1000) : Row Try.prog 56 [vR, vS s] [rd ts i e] (vB (decide (e = 0) && isK s (nxt ts i))) [some (rd ts i e)] := by
  have h1 := next_row ts i e
  have h2 := goes_row ts i e
  have h3 := quoted_row s hs
  obtain ⟨⟨k, n, x, f, t⟩, hx⟩ : ∃ x, nxt ts i = x := ⟨_, rfl⟩
  rw [hx] at h1 ⊢
  refine row_of Try.func56 rfl rfl (Nat.le_of_ble_eq_true rfl) ?_
  repeat' (first | refine aw_seq ?_ | refine aw_skip ?_ | refine aw_block ?_ | refine aw_exit ?_ | refine aw_cond rfl (fun _ => ?_) (fun hb => absurd hb (by decide)) | refine aw_cond rfl (fun hb => absurd hb (by decide)) (fun _ => ?_) | (refine aw_reg (fun K hK => ?_); simp -implicitDefEqProofs [*]) | (refine aw_drw mixd (fun K hK => ?_); simp -implicitDefEqProofs [*]) | refine hK _ ?_ | refine hK _ _ (by rfl) ?_ | (refine ar_call (cb h1 0 ?_); simp -implicitDefEqProofs [*]) | (refine ard_call (db h1 0 ?_); simp -implicitDefEqProofs [*]) | (refine ar_call (cb h2 0 ?_); simp -implicitDefEqProofs [*]) | (refine ard_call (db h2 0 ?_); simp -implicitDefEqProofs [*]) | (refine ar_call (cp h3 ?_); simp -implicitDefEqProofs [*]) | (refine ard_call (dp h3 ?_); simp -implicitDefEqProofs [*]) | (refine aw_cond rfl (fun hb => ?_) (fun hb => ?_) <;> ((try simp only [decide_eq_true_eq, decide_eq_false_iff_not, Bool.not_eq_true', Bool.not_eq_false', Bool.not_eq_eq_eq_not, Bool.not_true, Bool.not_false, beq_iff_eq, beq_true, beq_false, bne_iff_ne, ne_eq, Decidable.not_not, Bool.and_eq_true, Bool.or_eq_true, Bool.and_eq_false_iff, Bool.or_eq_false_iff] at hb) <;> repeat' (refine Or.elim hb (fun hb => ?_) (fun hb => ?_)))) | (refine gx_split (fun hb => ?_) (fun hb => ?_) <;> ((try simp only [decide_eq_true_eq, decide_eq_false_iff_not, Bool.not_eq_true', Bool.not_eq_false', Bool.not_eq_eq_eq_not, Bool.not_true, Bool.not_false, beq_iff_eq, beq_true, beq_false, bne_iff_ne, ne_eq, Decidable.not_not, Bool.and_eq_true, Bool.or_eq_true, Bool.and_eq_false_iff, Bool.or_eq_false_iff] at hb) <;> repeat' (refine Or.elim hb (fun hb => ?_) (fun hb => ?_))) <;> simp -implicitDefEqProofs [*]) | (refine gxd_split (fun hb => ?_) (fun hb => ?_) <;> ((try simp only [decide_eq_true_eq, decide_eq_false_iff_not, Bool.not_eq_true', Bool.not_eq_false', Bool.not_eq_eq_eq_not, Bool.not_true, Bool.not_false, beq_iff_eq, beq_true, beq_false, bne_iff_ne, ne_eq, Decidable.not_not, Bool.and_eq_true, Bool.or_eq_true, Bool.and_eq_false_iff, Bool.or_eq_false_iff] at hb) <;> repeat' (refine Or.elim hb (fun hb => ?_) (fun hb => ?_))) <;> simp -implicitDefEqProofs [*]) | fail)
  all_goals (refine aw_ret (fin_box ?_); simp -implicitDefEqProofs [FinB, resV, resT, isK, *] <;> try rfl)
end Go.Proofs.Ythcnligihpnfiaa.am
