/-
  Layer 24: quiet terms: what the statement says.
-/
import Derived.Test.YtjnlfppeodoliaaQuiRd2
import Derived.Test.YtjnlfppeodoliaaRowLarge
namespace Go.Proofs.Ytjnlfppeodoliaa.am
open Go.ChangeShapes Go.WideShapes Go.ChangeAt Go.RowKit
open vt
set_option linter.unusedVariables false
set_option linter.unusedSimpArgs false
theorem lab1_in {x : Lab} (h : x.ok) : in64 (.mk x []) := (Tr.all_mk _ _ _).2 ⟨h, fun y hy => by simp at hy⟩
theorem set_one (z : Int) : setL [z] = [z] := (set_of (by unfold UpL; simp) (fun y => Iff.rfl)).symm
set_option maxRecDepth 100000 in
set_option maxHeartbeats 4000000 in
theorem awake24_row (hsr : SortR) (hcr : CompR) : Row Try.prog 24 [] [] (vB true) [] := by
  have h1 := quiet_row (.mk ⟨5, 0, ⟨#[]⟩, 0, 0⟩ []) (lab1_in (by simp [Lab.ok])) (by simp [Tr.size_mk])
  have h2 := reads_row hsr hcr (.mk ⟨9, 3, ⟨#[]⟩, 0, 0⟩ []) (lab1_in (by simp [Lab.ok])) (by simp [Tr.size_mk])
  rw [show quT (.mk ⟨5, 0, ⟨#[]⟩, 0, 0⟩ []) = true by rw [quT_mk]; simp [okK, plK]] at h1
  rw [show glT (.mk ⟨9, 3, ⟨#[]⟩, 0, 0⟩ []) = [3] by rw [glT_mk]; simp, set_one] at h2
  refine row_of Try.func24 rfl rfl (Nat.le_of_ble_eq_true rfl) ?_
  repeat' (first | refine aw_seq ?_ | refine aw_skip ?_ | refine aw_block ?_ | refine aw_exit ?_ | refine aw_cond rfl (fun _ => ?_) (fun hb => absurd hb (by decide)) | refine aw_cond rfl (fun hb => absurd hb (by decide)) (fun _ => ?_) | (refine aw_reg (fun K hK => ?_); simp -implicitDefEqProofs) | (refine aw_drw mixd (fun K hK => ?_); simp -implicitDefEqProofs) | refine hK _ ?_ | refine hK _ _ (by rfl) ?_ | (refine ar_call (cp h1 ?_); simp -implicitDefEqProofs) | (refine ard_call (dp h1 ?_); simp -implicitDefEqProofs) | (refine ar_call (cp h2 ?_); simp -implicitDefEqProofs) | (refine ard_call (dp h2 ?_); simp -implicitDefEqProofs) | fail)
  refine aw_ret (fin_ret ?_); simp -implicitDefEqProofs [FinP, resV, resT] <;> try rfl
set_option maxRecDepth 100000 in
set_option maxHeartbeats 4000000 in
theorem law_tells_row (hsr : SortR) (hcr : CompR) (t : VT) (ht : in64 t) : Row Try.prog 5 [vT t] [] (vB true) [] := by
  have haw := awake24_row hsr hcr
  have hL := rlarge_row t
  by_cases gl : large t = true
  · rw [gl] at hL
    obtain ⟨lx, ll⟩ := t
    refine row_of Try.func5 rfl rfl (Nat.le_of_ble_eq_true rfl) ?_
    repeat' (first | refine aw_seq ?_ | refine aw_skip ?_ | refine aw_block ?_ | refine aw_exit ?_ | refine aw_cond rfl (fun _ => ?_) (fun hb => absurd hb (by decide)) | refine aw_cond rfl (fun hb => absurd hb (by decide)) (fun _ => ?_) | (refine aw_reg (fun K hK => ?_); simp -implicitDefEqProofs) | (refine aw_drw mixd (fun K hK => ?_); simp -implicitDefEqProofs) | refine hK _ ?_ | refine hK _ _ (by rfl) ?_ | (refine ar_call (cp hL ?_); simp -implicitDefEqProofs) | (refine ard_call (dp hL ?_); simp -implicitDefEqProofs) | (refine ar_call (cp haw ?_); simp -implicitDefEqProofs) | (refine ard_call (dp haw ?_); simp -implicitDefEqProofs) | fail)
    refine aw_ret (fin_ret ?_); simp -implicitDefEqProofs [FinP, resV, resT] <;> try rfl
  have gl : large t = false := by simpa using gl
  rw [gl] at hL
  have sl := large_size gl
  have h1 := quiet_row t ht (by omega)
  have h2 := rquiet_row t ht (by omega)
  have h3 := reads_row hsr hcr t ht (by omega)
  have h4 := rreads_row t ht (by omega)
  have hl := set_len (glT t)
  have hl2 := glT_len t
  have h5 := places_row (setL (glT t)) (by omega)
  obtain ⟨q, hq⟩ : ∃ q, quT t = q := ⟨_, rfl⟩
  obtain ⟨S, hS⟩ : ∃ S, setL (glT t) = S := ⟨_, rfl⟩
  rw [hq] at h1 h2
  rw [hS] at h3 h4 h5
  clear hq hS gl hl hl2
  obtain ⟨lx, ll⟩ := t
  refine row_of Try.func5 rfl rfl (Nat.le_of_ble_eq_true rfl) ?_
  repeat' (first | refine aw_seq ?_ | refine aw_skip ?_ | refine aw_block ?_ | refine aw_exit ?_ | refine aw_cond rfl (fun _ => ?_) (fun hb => absurd hb (by decide)) | refine aw_cond rfl (fun hb => absurd hb (by decide)) (fun _ => ?_) | (refine aw_reg (fun K hK => ?_); simp -implicitDefEqProofs) | (refine aw_drw mixd (fun K hK => ?_); simp -implicitDefEqProofs) | refine hK _ ?_ | refine hK _ _ (by rfl) ?_ | (refine ar_call (cp hL ?_); simp -implicitDefEqProofs) | (refine ard_call (dp hL ?_); simp -implicitDefEqProofs) | (refine ar_call (cp h1 ?_); simp -implicitDefEqProofs) | (refine ard_call (dp h1 ?_); simp -implicitDefEqProofs) | (refine ar_call (cp h2 ?_); simp -implicitDefEqProofs) | (refine ard_call (dp h2 ?_); simp -implicitDefEqProofs) | (refine ar_call (cp h3 ?_); simp -implicitDefEqProofs) | (refine ard_call (dp h3 ?_); simp -implicitDefEqProofs) | (refine ar_call (cp h4 ?_); simp -implicitDefEqProofs) | (refine ard_call (dp h4 ?_); simp -implicitDefEqProofs) | (refine ar_call (cp h5 ?_); simp -implicitDefEqProofs) | (refine ard_call (dp h5 ?_); simp -implicitDefEqProofs) | (refine ar_call (cp haw ?_); simp -implicitDefEqProofs) | (refine ard_call (dp haw ?_); simp -implicitDefEqProofs) | fail)
  refine aw_ret (fin_ret ?_); simp -implicitDefEqProofs [FinP, resV, resT] <;> try rfl
end Go.Proofs.Ytjnlfppeodoliaa.am
