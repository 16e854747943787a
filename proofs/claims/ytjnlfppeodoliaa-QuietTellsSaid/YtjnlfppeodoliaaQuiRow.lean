/-
  Layer 24: quiet terms: the program's.
-/
import Derived.Test.YtjnlfppeodoliaaDecRow
import Derived.Test.YtjnlfppeodoliaaVtQuiet
namespace Go.Proofs.Ytjnlfppeodoliaa.am
open Go.ChangeShapes Go.WideShapes Go.ChangeAt Go.RowKit
open vt
set_option linter.unusedVariables false
set_option linter.unusedSimpArgs false
set_option maxRecDepth 100000 in
set_option maxHeartbeats 4000000 in
theorem divides_row (x : Lab) (l : List VT) (hl : l.length ≤ 1000000) : Row Try.prog 60 [vT (.mk x l)] [] (vB (divB x l)) [] := by
  have c1 : (1 : Nat) < l.length ↔ ¬ (l.length : Int) < 2 := by omega
  by_cases hn : x.n = 12 ∨ x.n = 13; rotate_left
  · have h12 : ¬ x.n = 12 := fun h => hn (.inl h)
    have h13 : ¬ x.n = 13 := fun h => hn (.inr h)
    rw [show divB x l = false by simp [divB, h12, h13]]
    refine row_of Try.func60 rfl rfl (Nat.le_of_ble_eq_true rfl) ?_
    repeat (first | refine aw_seq ?_ | refine aw_skip ?_ | refine aw_block ?_ | refine aw_exit ?_ | refine aw_cond rfl (fun _ => ?_) (fun hb => absurd hb (by decide)) | refine aw_cond rfl (fun hb => absurd hb (by decide)) (fun _ => ?_) | (refine aw_reg (fun K hK => ?_); simp -implicitDefEqProofs [h12, h13]; refine hK _ ?_) | (refine aw_drw mixd (fun K hK => ?_); simp -implicitDefEqProofs [h12, h13]; refine hK _ _ (by rfl) ?_) | fail)
    refine aw_ret (fin_ret ?_); simp -implicitDefEqProofs [FinP, resV, resT] <;> try rfl
  have hd : divB x l = (match l[1]? with | some b => !decide (b.lab.k = 5) || decide (b.lab.n = 0) | none => true) := by
    unfold divB; rcases hn with h | h <;> simp [h] <;> rfl
  rw [hd]
  clear hd
  by_cases h2 : (l.length : Int) < 2
  · have e : l[1]? = none := List.getElem?_eq_none (by omega)
    rw [e]
    rcases hn with h | h
    · refine row_of Try.func60 rfl rfl (Nat.le_of_ble_eq_true rfl) ?_
      repeat (first | refine aw_seq ?_ | refine aw_skip ?_ | refine aw_block ?_ | refine aw_exit ?_ | refine aw_cond rfl (fun _ => ?_) (fun hb => absurd hb (by decide)) | refine aw_cond rfl (fun hb => absurd hb (by decide)) (fun _ => ?_) | (refine aw_reg (fun K hK => ?_); simp -implicitDefEqProofs [h, h2]; refine hK _ ?_) | (refine aw_drw mixd (fun K hK => ?_); simp -implicitDefEqProofs [h, h2]; refine hK _ _ (by rfl) ?_) | fail)
      refine aw_ret (fin_ret ?_); simp -implicitDefEqProofs [FinP, resV, resT] <;> try rfl
    · refine row_of Try.func60 rfl rfl (Nat.le_of_ble_eq_true rfl) ?_
      repeat (first | refine aw_seq ?_ | refine aw_skip ?_ | refine aw_block ?_ | refine aw_exit ?_ | refine aw_cond rfl (fun _ => ?_) (fun hb => absurd hb (by decide)) | refine aw_cond rfl (fun hb => absurd hb (by decide)) (fun _ => ?_) | (refine aw_reg (fun K hK => ?_); simp -implicitDefEqProofs [h, h2]; refine hK _ ?_) | (refine aw_drw mixd (fun K hK => ?_); simp -implicitDefEqProofs [h, h2]; refine hK _ _ (by rfl) ?_) | fail)
      refine aw_ret (fin_ret ?_); simp -implicitDefEqProofs [FinP, resV, resT] <;> try rfl
  have h1 := c1.2 h2
  obtain ⟨⟨bx, bl⟩, hb⟩ : ∃ b, l[1]? = some b := ⟨_, List.getElem?_eq_getElem h1⟩
  have hb' := (List.getElem?_eq_some_iff.1 hb).2
  rw [hb]
  by_cases h5 : bx.k = 5
  · by_cases h0 : bx.n = 0
    · rcases hn with h | h
      · refine row_of Try.func60 rfl rfl (Nat.le_of_ble_eq_true rfl) ?_
        repeat (first | refine aw_seq ?_ | refine aw_skip ?_ | refine aw_block ?_ | refine aw_exit ?_ | refine aw_cond rfl (fun _ => ?_) (fun hb => absurd hb (by decide)) | refine aw_cond rfl (fun hb => absurd hb (by decide)) (fun _ => ?_) | (refine aw_reg (fun K hK => ?_); simp -implicitDefEqProofs [h, h2, h1, hb, hb', h5, h0]; refine hK _ ?_) | (refine aw_drw mixd (fun K hK => ?_); simp -implicitDefEqProofs [h, h2, h1, hb, hb', h5, h0]; refine hK _ _ (by rfl) ?_) | fail)
        refine aw_ret (fin_ret ?_); simp -implicitDefEqProofs [FinP, resV, resT, Tr.lab, h5, h0] <;> try rfl
      · refine row_of Try.func60 rfl rfl (Nat.le_of_ble_eq_true rfl) ?_
        repeat (first | refine aw_seq ?_ | refine aw_skip ?_ | refine aw_block ?_ | refine aw_exit ?_ | refine aw_cond rfl (fun _ => ?_) (fun hb => absurd hb (by decide)) | refine aw_cond rfl (fun hb => absurd hb (by decide)) (fun _ => ?_) | (refine aw_reg (fun K hK => ?_); simp -implicitDefEqProofs [h, h2, h1, hb, hb', h5, h0]; refine hK _ ?_) | (refine aw_drw mixd (fun K hK => ?_); simp -implicitDefEqProofs [h, h2, h1, hb, hb', h5, h0]; refine hK _ _ (by rfl) ?_) | fail)
        refine aw_ret (fin_ret ?_); simp -implicitDefEqProofs [FinP, resV, resT, Tr.lab, h5, h0] <;> try rfl
    · rcases hn with h | h
      · refine row_of Try.func60 rfl rfl (Nat.le_of_ble_eq_true rfl) ?_
        repeat (first | refine aw_seq ?_ | refine aw_skip ?_ | refine aw_block ?_ | refine aw_exit ?_ | refine aw_cond rfl (fun _ => ?_) (fun hb => absurd hb (by decide)) | refine aw_cond rfl (fun hb => absurd hb (by decide)) (fun _ => ?_) | (refine aw_reg (fun K hK => ?_); simp -implicitDefEqProofs [h, h2, h1, hb, hb', h5, h0]; refine hK _ ?_) | (refine aw_drw mixd (fun K hK => ?_); simp -implicitDefEqProofs [h, h2, h1, hb, hb', h5, h0]; refine hK _ _ (by rfl) ?_) | fail)
        refine aw_ret (fin_ret ?_); simp -implicitDefEqProofs [FinP, resV, resT, Tr.lab, h5, h0] <;> try rfl
      · refine row_of Try.func60 rfl rfl (Nat.le_of_ble_eq_true rfl) ?_
        repeat (first | refine aw_seq ?_ | refine aw_skip ?_ | refine aw_block ?_ | refine aw_exit ?_ | refine aw_cond rfl (fun _ => ?_) (fun hb => absurd hb (by decide)) | refine aw_cond rfl (fun hb => absurd hb (by decide)) (fun _ => ?_) | (refine aw_reg (fun K hK => ?_); simp -implicitDefEqProofs [h, h2, h1, hb, hb', h5, h0]; refine hK _ ?_) | (refine aw_drw mixd (fun K hK => ?_); simp -implicitDefEqProofs [h, h2, h1, hb, hb', h5, h0]; refine hK _ _ (by rfl) ?_) | fail)
        refine aw_ret (fin_ret ?_); simp -implicitDefEqProofs [FinP, resV, resT, Tr.lab, h5, h0] <;> try rfl
  · rcases hn with h | h
    · refine row_of Try.func60 rfl rfl (Nat.le_of_ble_eq_true rfl) ?_
      repeat (first | refine aw_seq ?_ | refine aw_skip ?_ | refine aw_block ?_ | refine aw_exit ?_ | refine aw_cond rfl (fun _ => ?_) (fun hb => absurd hb (by decide)) | refine aw_cond rfl (fun hb => absurd hb (by decide)) (fun _ => ?_) | (refine aw_reg (fun K hK => ?_); simp -implicitDefEqProofs [h, h2, h1, hb, hb', h5]; refine hK _ ?_) | (refine aw_drw mixd (fun K hK => ?_); simp -implicitDefEqProofs [h, h2, h1, hb, hb', h5]; refine hK _ _ (by rfl) ?_) | fail)
      refine aw_ret (fin_ret ?_); simp -implicitDefEqProofs [FinP, resV, resT, Tr.lab, h5] <;> try rfl
    · refine row_of Try.func60 rfl rfl (Nat.le_of_ble_eq_true rfl) ?_
      repeat (first | refine aw_seq ?_ | refine aw_skip ?_ | refine aw_block ?_ | refine aw_exit ?_ | refine aw_cond rfl (fun _ => ?_) (fun hb => absurd hb (by decide)) | refine aw_cond rfl (fun hb => absurd hb (by decide)) (fun _ => ?_) | (refine aw_reg (fun K hK => ?_); simp -implicitDefEqProofs [h, h2, h1, hb, hb', h5]; refine hK _ ?_) | (refine aw_drw mixd (fun K hK => ?_); simp -implicitDefEqProofs [h, h2, h1, hb, hb', h5]; refine hK _ _ (by rfl) ?_) | fail)
      refine aw_ret (fin_ret ?_); simp -implicitDefEqProofs [FinP, resV, resT, Tr.lab, h5] <;> try rfl
end Go.Proofs.Ytjnlfppeodoliaa.am
