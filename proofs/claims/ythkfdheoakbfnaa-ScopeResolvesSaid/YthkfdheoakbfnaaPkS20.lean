import Derived.Test.YthkfdheoakbfnaaPkS19
import Derived.Test.YthkfdheoakbfnaaChecked
import Derived.Test.YthkfdheoakbfnaaPkS10
import Derived.Test.YthkfdheoakbfnaaPkS4
import Derived.ChangeMaps5
section
namespace Go.Proofs.Ythkfdheoakbfnaa.am
open Go.ChangeShapes Go.WideShapes Go.ChangeAt Go.RowKit
open vt
set_option linter.unusedVariables false
set_option linter.unusedSimpArgs false
theorem awk13 : resS ⟨36, 0, ⟨#[]⟩, 0, 0⟩ [.mk ⟨32, 0, ⟨#[97]⟩, 0, 0⟩ [.mk ⟨1, 0, ⟨#[]⟩, 0, 0⟩ []]] = ⟨.mk ⟨36, 0, ⟨#[]⟩, 0, 0⟩ [.mk ⟨32, 0, ⟨#[]⟩, 0, 0⟩ [.mk ⟨1, 0, ⟨#[]⟩, 0, 0⟩ []]], 0, 0⟩ := by
  have h1 : ∀ ml L, anyT ml (.mk ⟨1, 0, ⟨#[]⟩, 0, 0⟩ []) L = ⟨.mk ⟨1, 0, ⟨#[]⟩, 0, 0⟩ [], 0, 0⟩ := fun ml L => by
    rw [anyT_mk, if_neg (by decide), if_neg (by simp [wrgS]), seqT]
    simp [outS]
  simp [resS, twcS, hasS, decsS, decS, Tr.lab, anyT_mk, wrgS, seqT, h1, outS, wrpS, knwS, knxS]
set_option maxRecDepth 100000 in
set_option maxHeartbeats 4000000 in
theorem awake13_row : Row Try.prog 9 [] [] (vB true) [] := by
  have hres := sres_row ⟨36, 0, ⟨#[]⟩, 0, 0⟩ [.mk ⟨32, 0, ⟨#[97]⟩, 0, 0⟩ [.mk ⟨1, 0, ⟨#[]⟩, 0, 0⟩ []]] (by simp) (fun d hd => by
    simp at hd
    subst hd
    refine sdecl_ok _ (by simp) _ ?_ (by simp [kndD, Tr.lab]) (by simp [Tr.size_mk])
    unfold scpD
    rw [if_neg (by simp [Tr.lab]), if_neg (by simp [Tr.lab])]
    exact (scpT_mk _ _).2 ⟨fun h => by simp at h, fun h => by simp at h, fun y hy => by simp at hy; subst hy; exact (scpT_mk _ _).2 ⟨fun h => by simp at h, fun h => by simp at h, fun y hy => by simp at hy⟩⟩)
  rw [awk13] at hres
  refine row_of Try.func9 rfl rfl (Nat.le_of_ble_eq_true rfl) ?_
  repeat' (first | refine aw_seq ?_ | refine aw_skip ?_ | refine aw_block ?_ | refine aw_exit ?_ | refine aw_ct rfl ?_ | refine aw_cf rfl ?_ | ((first | refine aw_reg (fun K hK => ?_) | refine aw_drw mixd (fun K hK => ?_) | refine ar_call (cp hres ?_) | refine ard_call (dp hres ?_) | fail); simp -implicitDefEqProofs) | refine hK _ ?_ | refine hK _ _ (by rfl) ?_ | fail)
  refine aw_ret (fin_ret ?_); simp -implicitDefEqProofs [FinP, resV, resT] <;> try rfl
set_option maxRecDepth 100000 in
set_option maxHeartbeats 4000000 in
theorem law_sres_row (s : ByteArray) : Row Try.prog 3 [vS s] [] (vB true) [] := by
  have haw := awake13_row
  by_cases h3 : 2000 < s.size
  · have h3' : (2000 : Int) < s.size := by omega
    refine row_of Try.func3 rfl rfl (Nat.le_of_ble_eq_true rfl) ?_
    repeat' (first | refine aw_seq ?_ | refine aw_skip ?_ | refine aw_block ?_ | refine aw_exit ?_ | refine aw_ct rfl ?_ | refine aw_cf rfl ?_ | ((first | refine aw_reg (fun K hK => ?_) | refine aw_drw mixd (fun K hK => ?_) | refine ar_call (cp haw ?_) | refine ard_call (dp haw ?_) | fail); simp -implicitDefEqProofs [h3, h3']) | refine hK _ ?_ | refine hK _ _ (by rfl) ?_ | fail)
    refine aw_ret (fin_ret ?_); simp -implicitDefEqProofs [FinP, resV, resT] <;> try rfl
  have h3' : ¬ (2000 : Int) < s.size := by omega
  have h := ruparse_row s (by omega)
  have hz := unit_sz13 s (by omega)
  have hk := fun x l e => @unit_knd s x l e
  have hs := fun x l e => @unit_scp s x l e
  obtain ⟨⟨⟨mx, ml⟩, a, e⟩, hr⟩ : ∃ r, unitG s = r := ⟨_, rfl⟩
  rw [hr] at h hz hk hs
  dsimp only at hz hk hs
  have hk := hk mx ml rfl
  have hs := hs mx ml rfl
  clear hr
  by_cases he : e = 0; rotate_left
  · refine row_of Try.func3 rfl rfl (Nat.le_of_ble_eq_true rfl) ?_
    repeat' (first | refine aw_seq ?_ | refine aw_skip ?_ | refine aw_block ?_ | refine aw_exit ?_ | refine aw_ct rfl ?_ | refine aw_cf rfl ?_ | ((first | refine aw_reg (fun K hK => ?_) | refine aw_drw mixd (fun K hK => ?_) | refine ar_call (cp h ?_) | refine ard_call (dp h ?_) | refine ar_call (cp haw ?_) | refine ard_call (dp haw ?_) | fail); simp -implicitDefEqProofs [h3, h3', he]) | refine hK _ ?_ | refine hK _ _ (by rfl) ?_ | fail)
    refine aw_ret (fin_ret ?_); simp -implicitDefEqProofs [FinP, resV, resT] <;> try rfl
  subst he
  have hlen := Tr.len_size (x := mx) (l := ml)
  have hpart : ∀ d ∈ ml, d.size ≤ 40000 := fun d hd => by
    obtain ⟨i, hi⟩ := List.mem_iff_getElem?.1 hd
    have := Tr.size_at (x := mx) hi
    omega
  have r1 := sres_row mx ml (by omega) (fun d hd => sdecl_ok ml (by omega) d (hs d hd) (hk d hd) (hpart d hd))
  have r2 := srres_row mx ml (by omega) (fun d hd => ⟨hs d hd, hpart d hd⟩)
  have hr := res_sz mx ml hs
  obtain ⟨⟨⟨ox, ol⟩, b, f⟩, hq⟩ : ∃ r, resS mx ml = r := ⟨_, rfl⟩
  rw [hq] at r1 r2 hr
  dsimp only at r1 r2 hr
  have hp := rplac_row (.mk ox ol) (by omega) (.mk ox ol) (by omega)
  rw [plac_refl] at hp
  refine row_of Try.func3 rfl rfl (Nat.le_of_ble_eq_true rfl) ?_
  repeat' (first | refine aw_seq ?_ | refine aw_skip ?_ | refine aw_block ?_ | refine aw_exit ?_ | refine aw_ct rfl ?_ | refine aw_cf rfl ?_ | ((first | refine aw_reg (fun K hK => ?_) | refine aw_drw mixd (fun K hK => ?_) | refine ar_call (cp h ?_) | refine ard_call (dp h ?_) | refine ar_call (cp r1 ?_) | refine ard_call (dp r1 ?_) | refine ar_call (cp r2 ?_) | refine ard_call (dp r2 ?_) | refine ar_call (cp hp ?_) | refine ard_call (dp hp ?_) | refine ar_call (cp haw ?_) | refine ard_call (dp haw ?_) | fail); simp -implicitDefEqProofs [h3, h3']) | refine hK _ ?_ | refine hK _ _ (by rfl) ?_ | fail)
  refine aw_ret (fin_ret ?_); simp -implicitDefEqProofs [FinP, resV, resT] <;> try rfl
set_option maxRecDepth 100000 in
set_option maxHeartbeats 4000000 in
theorem law_skeeps_row (s : ByteArray) : Row Try.prog 5 [vS s] [] (vB true) [] := by
  have haw := awake13_row
  by_cases h3 : 1000 < s.size
  · have h3' : (1000 : Int) < s.size := by omega
    refine row_of Try.func5 rfl rfl (Nat.le_of_ble_eq_true rfl) ?_
    repeat' (first | refine aw_seq ?_ | refine aw_skip ?_ | refine aw_block ?_ | refine aw_exit ?_ | refine aw_ct rfl ?_ | refine aw_cf rfl ?_ | ((first | refine aw_reg (fun K hK => ?_) | refine aw_drw mixd (fun K hK => ?_) | refine ar_call (cp haw ?_) | refine ard_call (dp haw ?_) | fail); simp -implicitDefEqProofs [h3, h3']) | refine hK _ ?_ | refine hK _ _ (by rfl) ?_ | fail)
    refine aw_ret (fin_ret ?_); simp -implicitDefEqProofs [FinP, resV, resT] <;> try rfl
  have h3' : ¬ (1000 : Int) < s.size := by omega
  have h := ruparse_row s (by omega)
  have hz := unit_sz13 s (by omega)
  have hk := fun x l e => @unit_knd s x l e
  have hs := fun x l e => @unit_scp s x l e
  have h6 := fun x l e => @unit_36 s x l e
  obtain ⟨⟨⟨mx, ml⟩, a, e⟩, hr⟩ : ∃ r, unitG s = r := ⟨_, rfl⟩
  rw [hr] at h hz hk hs h6
  dsimp only at hz hk hs h6
  have hk := hk mx ml rfl
  have hs := hs mx ml rfl
  have h6 := h6 mx ml rfl
  clear hr
  by_cases he : e = 0; rotate_left
  · refine row_of Try.func5 rfl rfl (Nat.le_of_ble_eq_true rfl) ?_
    repeat' (first | refine aw_seq ?_ | refine aw_skip ?_ | refine aw_block ?_ | refine aw_exit ?_ | refine aw_ct rfl ?_ | refine aw_cf rfl ?_ | ((first | refine aw_reg (fun K hK => ?_) | refine aw_drw mixd (fun K hK => ?_) | refine ar_call (cp h ?_) | refine ard_call (dp h ?_) | refine ar_call (cp haw ?_) | refine ard_call (dp haw ?_) | fail); simp -implicitDefEqProofs [h3, h3', he]) | refine hK _ ?_ | refine hK _ _ (by rfl) ?_ | fail)
    refine aw_ret (fin_ret ?_); simp -implicitDefEqProofs [FinP, resV, resT] <;> try rfl
  subst he
  have h6 := h6 rfl
  have hlen := Tr.len_size (x := mx) (l := ml)
  have hpart : ∀ d ∈ ml, d.size ≤ 40000 := fun d hd => by
    obtain ⟨i, hi⟩ := List.mem_iff_getElem?.1 hd
    have := Tr.size_at (x := mx) hi
    omega
  have r1 := sres_row mx ml (by omega) (fun d hd => sdecl_ok ml (by omega) d (hs d hd) (hk d hd) (hpart d hd))
  have hr := res_sz mx ml hs
  have hkp := res_kept mx ml h6 hs
  obtain ⟨⟨⟨ox, ol⟩, b, f⟩, hq⟩ : ∃ r, resS mx ml = r := ⟨_, rfl⟩
  rw [hq] at r1 hr hkp
  dsimp only at r1 hr hkp
  by_cases hf : f = 0; rotate_left
  · refine row_of Try.func5 rfl rfl (Nat.le_of_ble_eq_true rfl) ?_
    repeat' (first | refine aw_seq ?_ | refine aw_skip ?_ | refine aw_block ?_ | refine aw_exit ?_ | refine aw_ct rfl ?_ | refine aw_cf rfl ?_ | ((first | refine aw_reg (fun K hK => ?_) | refine aw_drw mixd (fun K hK => ?_) | refine ar_call (cp h ?_) | refine ard_call (dp h ?_) | refine ar_call (cp r1 ?_) | refine ard_call (dp r1 ?_) | refine ar_call (cp haw ?_) | refine ard_call (dp haw ?_) | fail); simp -implicitDefEqProofs [h3, h3', hf]) | refine hK _ ?_ | refine hK _ _ (by rfl) ?_ | fail)
    refine aw_ret (fin_ret ?_); simp -implicitDefEqProofs [FinP, resV, resT] <;> try rfl
  have hp := rkept_row (.mk mx ml) (by omega) (.mk ox ol) (by omega)
  rw [hkp hf] at hp
  subst hf
  refine row_of Try.func5 rfl rfl (Nat.le_of_ble_eq_true rfl) ?_
  repeat' (first | refine aw_seq ?_ | refine aw_skip ?_ | refine aw_block ?_ | refine aw_exit ?_ | refine aw_ct rfl ?_ | refine aw_cf rfl ?_ | ((first | refine aw_reg (fun K hK => ?_) | refine aw_drw mixd (fun K hK => ?_) | refine ar_call (cp h ?_) | refine ard_call (dp h ?_) | refine ar_call (cp r1 ?_) | refine ard_call (dp r1 ?_) | refine ar_call (cp hp ?_) | refine ard_call (dp hp ?_) | refine ar_call (cp haw ?_) | refine ard_call (dp haw ?_) | fail); simp -implicitDefEqProofs [h3, h3']) | refine hK _ ?_ | refine hK _ _ (by rfl) ?_ | fail)
  refine aw_ret (fin_ret ?_); simp -implicitDefEqProofs [FinP, resV, resT] <;> try rfl
end Go.Proofs.Ythkfdheoakbfnaa.am
end
section
namespace Go.Proofs.Ythkfdheoakbfnaa.am
open Go.ChangeShapes Go.WideShapes Go.ChangeAt Go.RowKit
open vt
set_option linter.unusedVariables false
set_option linter.unusedSimpArgs false
set_option maxRecDepth 100000
end Go.Proofs.Ythkfdheoakbfnaa.am
end
section
namespace Go.Proofs.Ythkfdheoakbfnaa.am
open Go.ChangeShapes Go.WideShapes Go.ChangeAt Go.RowKit
open vt
set_option linter.unusedVariables false
set_option maxRecDepth 100000 in
theorem open_vstring {H : Type} {enc : TypeId × Value → H} {w : World} {r : Reach} {b0 : Nat} {v : Value} {d : DataW H} {p : List MemPlace}
    (hv : Value.okWide Try.prog w r b0 9 v) (h : DataW.Trod enc Try.prog w 0 (fun _ => true) true 9 v d p) : ∃ s : ByteArray, RepV (fun _ => .un) (oldS w) w v (vS s) ∧ s.size ≤ 9223372036854775807 := by
  obtain ⟨s, rfl, _, _, h1⟩ := Go.ChangeMaps.open_string Try.underlying9 hv h
  exact ⟨s, .lit _ rfl, by unfold maxLen at h1; omega⟩
end Go.Proofs.Ythkfdheoakbfnaa.am
end
