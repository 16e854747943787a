import Derived.Test.YthmdllhhmhbhbaaPkD14
import Derived.Test.YthmdllhhmhbhbaaPkD12
section
namespace Go.Proofs.Ythmdllhhmhbhbaa.am
open Go.ChangeShapes Go.WideShapes Go.ChangeAt Go.RowKit
open vt
set_option linter.unusedVariables false
set_option linter.unusedSimpArgs false
set_option maxRecDepth 100000 in
set_option maxHeartbeats 4000000 in
theorem rdecl_row (m : VT) (hm : in64 m) (hms : m.size ≤ 100000) (i : Nat) (t : VT) (hi : m.kids[i]? = some t) : Row Try.prog 19 [vT m, vI (i : Nat)] [] (vGr (decT m i t)) [] := by
  have hts := kid_size (List.mem_of_getElem? hi)
  have hti := kidk_ok hm (List.mem_of_getElem? hi)
  obtain ⟨x, l⟩ := t
  have hfn := rfn_row m hm hms x l hti (by omega)
  have hsh := rshaped_row (.mk x l) (by omega)
  have hb := fun e => rbad16_row x l e
  have hnm := rnml_row (.mk x l) (by omega)
  obtain ⟨⟨nx, nl⟩, hnn⟩ : ∃ g, nmlT (.mk x l) = g := ⟨_, rfl⟩
  unfold decT
  rw [Tr.lab, Tr.kids]
  rw [hnn] at hnm ⊢
  clear hnn
  have hce : ∀ y, in64 y → y.size ≤ 100000 → Row Try.prog 27 [vT m, vT y] [] (vI (cels m y)) [] := fun y h1 h2 => rcells_row m y hm (by omega) h1 (by omega)
  have hcr := hce (.mk ⟨4, i, ⟨#[]⟩, 0, 0⟩ []) ((Tr.all_mk _ _ _).2 ⟨⟨by simp, by
    have h1 := (List.getElem?_eq_some_iff.1 hi).1
    have h2 : m.kids.length < m.size := by obtain ⟨mx, ml⟩ := m; exact Tr.len_size (x := mx) (l := ml)
    constructor <;> (dsimp only; omega), by simp, by simp⟩, fun y hy => by simp at hy⟩) (by simp [Tr.size_mk])
  obtain ⟨c, hcc⟩ : ∃ c, cels m (.mk ⟨4, i, ⟨#[]⟩, 0, 0⟩ []) = c := ⟨_, rfl⟩
  rw [hcc] at hcr ⊢
  have hml : m.kids.length < m.size := by obtain ⟨mx, ml⟩ := m; exact Tr.len_size (x := mx) (l := ml)
  have hil := (List.getElem?_eq_some_iff.1 hi).1
  have w0 : IntKind.i64.wrap ((i : Nat) : Int) = (i : Nat) := i64i _ (by omega) (by omega)
  have hi' := (List.getElem?_eq_some_iff.1 hi).2
  by_cases c33 : x.k = 33
  · rw [if_pos c33]
    obtain ⟨⟨⟨bx, bl⟩, gp, ge⟩, hG⟩ : ∃ g, fnT m x l = g := ⟨_, rfl⟩
    rw [hG] at hfn ⊢
    clear hG hce hcc
    obtain ⟨mx, ml⟩ := m
    rw [Tr.kids] at hi
    simp only [Tr.kids] at hil hi'
    refine row_of Try.func19 rfl rfl (Nat.le_of_ble_eq_true rfl) ?_
    repeat' (first | refine aw_seq ?_ | refine aw_skip ?_ | refine aw_block ?_ | refine aw_exit ?_ | refine aw_cond rfl (fun _ => ?_) (fun hb => absurd hb (by decide)) | refine aw_cond rfl (fun hb => absurd hb (by decide)) (fun _ => ?_) | (refine aw_reg (fun K hK => ?_); simp -implicitDefEqProofs [hil, hi, hi', c33]) | (refine aw_drw mixd (fun K hK => ?_); simp -implicitDefEqProofs [hil, hi, hi', c33]) | refine hK _ ?_ | refine hK _ _ (by rfl) ?_ | (refine ar_call (cp hfn ?_); simp -implicitDefEqProofs [hil, hi, hi', c33]) | (refine ard_call (dp hfn ?_); simp -implicitDefEqProofs [hil, hi, hi', c33]) | fail)
    refine aw_ret (fin_ret ?_); simp -implicitDefEqProofs [FinP, resV, resT] <;> try rfl
  rw [if_neg c33]
  clear hfn
  by_cases c30 : x.k = 30
  · rw [if_pos c30]
    have hb12 := hb 12
    have hb11 := hb 11
    unfold badR at hb12 hb11 ⊢
    obtain ⟨q, hq⟩ : ∃ q, shpB (.mk x l) = q := ⟨_, rfl⟩
    rw [hq] at hsh ⊢
    clear hce hcc hq hb
    obtain ⟨mx, ml⟩ := m
    rw [Tr.kids] at hi
    simp only [Tr.kids] at hil hi'
    cases q with
    | false =>
      rw [if_pos rfl]
      refine row_of Try.func19 rfl rfl (Nat.le_of_ble_eq_true rfl) ?_
      repeat' (first | refine aw_seq ?_ | refine aw_skip ?_ | refine aw_block ?_ | refine aw_exit ?_ | refine aw_cond rfl (fun _ => ?_) (fun hb => absurd hb (by decide)) | refine aw_cond rfl (fun hb => absurd hb (by decide)) (fun _ => ?_) | (refine aw_reg (fun K hK => ?_); simp -implicitDefEqProofs [hil, hi, hi', c33, c30, w0]) | (refine aw_drw mixd (fun K hK => ?_); simp -implicitDefEqProofs [hil, hi, hi', c33, c30, w0]) | refine hK _ ?_ | refine hK _ _ (by rfl) ?_ | (refine ar_call (cp hsh ?_); simp -implicitDefEqProofs [hil, hi, hi', c33, c30, w0]) | (refine ard_call (dp hsh ?_); simp -implicitDefEqProofs [hil, hi, hi', c33, c30, w0]) | (refine ar_call (cp hb12 ?_); simp -implicitDefEqProofs [hil, hi, hi', c33, c30, w0]) | (refine ard_call (dp hb12 ?_); simp -implicitDefEqProofs [hil, hi, hi', c33, c30, w0]) | fail)
      refine aw_ret (fin_ret ?_); simp -implicitDefEqProofs [FinP, resV, resT] <;> try rfl
    | true =>
      rw [if_neg (by simp)]
      by_cases c0 : c = 0
      · rw [if_pos c0]
        refine row_of Try.func19 rfl rfl (Nat.le_of_ble_eq_true rfl) ?_
        repeat' (first | refine aw_seq ?_ | refine aw_skip ?_ | refine aw_block ?_ | refine aw_exit ?_ | refine aw_cond rfl (fun _ => ?_) (fun hb => absurd hb (by decide)) | refine aw_cond rfl (fun hb => absurd hb (by decide)) (fun _ => ?_) | (refine aw_reg (fun K hK => ?_); simp -implicitDefEqProofs [hil, hi, hi', c33, c30, w0, c0]) | (refine aw_drw mixd (fun K hK => ?_); simp -implicitDefEqProofs [hil, hi, hi', c33, c30, w0, c0]) | refine hK _ ?_ | refine hK _ _ (by rfl) ?_ | (refine ar_call (cp hsh ?_); simp -implicitDefEqProofs [hil, hi, hi', c33, c30, w0, c0]) | (refine ard_call (dp hsh ?_); simp -implicitDefEqProofs [hil, hi, hi', c33, c30, w0, c0]) | (refine ar_call (cp hcr ?_); simp -implicitDefEqProofs [hil, hi, hi', c33, c30, w0, c0]) | (refine ard_call (dp hcr ?_); simp -implicitDefEqProofs [hil, hi, hi', c33, c30, w0, c0]) | (refine ar_call (cp hb11 ?_); simp -implicitDefEqProofs [hil, hi, hi', c33, c30, w0, c0]) | (refine ard_call (dp hb11 ?_); simp -implicitDefEqProofs [hil, hi, hi', c33, c30, w0, c0]) | fail)
        refine aw_ret (fin_ret ?_); simp -implicitDefEqProofs [FinP, resV, resT] <;> try rfl
      · rw [if_neg c0]
        refine row_of Try.func19 rfl rfl (Nat.le_of_ble_eq_true rfl) ?_
        repeat' (first | refine aw_seq ?_ | refine aw_skip ?_ | refine aw_block ?_ | refine aw_exit ?_ | refine aw_cond rfl (fun _ => ?_) (fun hb => absurd hb (by decide)) | refine aw_cond rfl (fun hb => absurd hb (by decide)) (fun _ => ?_) | (refine aw_reg (fun K hK => ?_); simp -implicitDefEqProofs [hil, hi, hi', c33, c30, w0, c0]) | (refine aw_drw mixd (fun K hK => ?_); simp -implicitDefEqProofs [hil, hi, hi', c33, c30, w0, c0]) | refine hK _ ?_ | refine hK _ _ (by rfl) ?_ | (refine ar_call (cp hsh ?_); simp -implicitDefEqProofs [hil, hi, hi', c33, c30, w0, c0]) | (refine ard_call (dp hsh ?_); simp -implicitDefEqProofs [hil, hi, hi', c33, c30, w0, c0]) | (refine ar_call (cp hcr ?_); simp -implicitDefEqProofs [hil, hi, hi', c33, c30, w0, c0]) | (refine ard_call (dp hcr ?_); simp -implicitDefEqProofs [hil, hi, hi', c33, c30, w0, c0]) | (refine ar_call (cp hnm ?_); simp -implicitDefEqProofs [hil, hi, hi', c33, c30, w0, c0]) | (refine ard_call (dp hnm ?_); simp -implicitDefEqProofs [hil, hi, hi', c33, c30, w0, c0]) | fail)
        refine aw_ret (fin_ret ?_); simp -implicitDefEqProofs [FinP, resV, resT] <;> try rfl
  rw [if_neg c30]
  clear hsh hcr hcc
  by_cases c32 : x.k = 32 ∧ l.length = 1
  · rw [if_pos c32]
    obtain ⟨c32, l1⟩ := c32
    obtain ⟨⟨ax, al⟩, rfl⟩ := one_of l1
    have hs1 := Tr.size_at (x := x) (l := [Tr.mk ax al]) (i := 0) rfl
    have hca := hce (.mk ax al) (((Tr.all_mk _ _ _).1 hti).2 _ (by simp)) (by omega)
    have hba := rbad16_row ax al 11
    rw [show [Tr.mk ax al].getD 0 z0T = .mk ax al from rfl, Tr.lab]
    obtain ⟨q, hq⟩ : ∃ q, cels m (.mk ax al) = q := ⟨_, rfl⟩
    rw [hq] at hca ⊢
    unfold badR at hba ⊢
    clear hce hq hb
    obtain ⟨mx, ml⟩ := m
    rw [Tr.kids] at hi
    simp only [Tr.kids] at hil hi'
    by_cases c0 : q = 0
    · rw [if_pos c0]
      refine row_of Try.func19 rfl rfl (Nat.le_of_ble_eq_true rfl) ?_
      repeat' (first | refine aw_seq ?_ | refine aw_skip ?_ | refine aw_block ?_ | refine aw_exit ?_ | refine aw_cond rfl (fun _ => ?_) (fun hb => absurd hb (by decide)) | refine aw_cond rfl (fun hb => absurd hb (by decide)) (fun _ => ?_) | (refine aw_reg (fun K hK => ?_); simp -implicitDefEqProofs [hil, hi, hi', c32, c0]) | (refine aw_drw mixd (fun K hK => ?_); simp -implicitDefEqProofs [hil, hi, hi', c32, c0]) | refine hK _ ?_ | refine hK _ _ (by rfl) ?_ | (refine ar_call (cp hca ?_); simp -implicitDefEqProofs [hil, hi, hi', c32, c0]) | (refine ard_call (dp hca ?_); simp -implicitDefEqProofs [hil, hi, hi', c32, c0]) | (refine ar_call (cp hba ?_); simp -implicitDefEqProofs [hil, hi, hi', c32, c0]) | (refine ard_call (dp hba ?_); simp -implicitDefEqProofs [hil, hi, hi', c32, c0]) | fail)
      refine aw_ret (fin_ret ?_); simp -implicitDefEqProofs [FinP, resV, resT] <;> try rfl
    · rw [if_neg c0]
      refine row_of Try.func19 rfl rfl (Nat.le_of_ble_eq_true rfl) ?_
      repeat' (first | refine aw_seq ?_ | refine aw_skip ?_ | refine aw_block ?_ | refine aw_exit ?_ | refine aw_cond rfl (fun _ => ?_) (fun hb => absurd hb (by decide)) | refine aw_cond rfl (fun hb => absurd hb (by decide)) (fun _ => ?_) | (refine aw_reg (fun K hK => ?_); simp -implicitDefEqProofs [hil, hi, hi', c32, c0]) | (refine aw_drw mixd (fun K hK => ?_); simp -implicitDefEqProofs [hil, hi, hi', c32, c0]) | refine hK _ ?_ | refine hK _ _ (by rfl) ?_ | (refine ar_call (cp hca ?_); simp -implicitDefEqProofs [hil, hi, hi', c32, c0]) | (refine ard_call (dp hca ?_); simp -implicitDefEqProofs [hil, hi, hi', c32, c0]) | (refine ar_call (cp hnm ?_); simp -implicitDefEqProofs [hil, hi, hi', c32, c0]) | (refine ard_call (dp hnm ?_); simp -implicitDefEqProofs [hil, hi, hi', c32, c0]) | fail)
      refine aw_ret (fin_ret ?_); simp -implicitDefEqProofs [FinP, resV, resT] <;> try rfl
  rw [if_neg c32]
  clear hce
  have hb12 := hb 12
  clear hb
  have hgo : ∀ P : Prop, P ∨ ¬ P := Classical.em
  have c32' : ¬ x.k = 32 ∨ (x.k = 32 ∧ ¬ l.length = 1 ∧ ¬ (l.length : Int) = 1) := by
    by_cases h : x.k = 32
    · exact .inr ⟨h, fun g => c32 ⟨h, g⟩, fun g => c32 ⟨h, by omega⟩⟩
    · exact .inl h
  clear c32
  rcases c32' with c32 | ⟨c32, l1, l1'⟩; rotate_left
  · rw [if_pos (.inl (by omega))]
    unfold badR at hb12 ⊢
    obtain ⟨mx, ml⟩ := m
    rw [Tr.kids] at hi
    simp only [Tr.kids] at hil hi'
    refine row_of Try.func19 rfl rfl (Nat.le_of_ble_eq_true rfl) ?_
    repeat' (first | refine aw_seq ?_ | refine aw_skip ?_ | refine aw_block ?_ | refine aw_exit ?_ | refine aw_cond rfl (fun _ => ?_) (fun hb => absurd hb (by decide)) | refine aw_cond rfl (fun hb => absurd hb (by decide)) (fun _ => ?_) | (refine aw_reg (fun K hK => ?_); simp -implicitDefEqProofs [hil, hi, hi', c32, l1, l1']) | (refine aw_drw mixd (fun K hK => ?_); simp -implicitDefEqProofs [hil, hi, hi', c32, l1, l1']) | refine hK _ ?_ | refine hK _ _ (by rfl) ?_ | (refine ar_call (cp hb12 ?_); simp -implicitDefEqProofs [hil, hi, hi', c32, l1, l1']) | (refine ard_call (dp hb12 ?_); simp -implicitDefEqProofs [hil, hi, hi', c32, l1, l1']) | fail)
    refine aw_ret (fin_ret ?_); simp -implicitDefEqProofs [FinP, resV, resT] <;> try rfl
  by_cases c31 : x.k = 31; rotate_left
  · rw [if_pos (.inl c31)]
    unfold badR at hb12 ⊢
    obtain ⟨mx, ml⟩ := m
    rw [Tr.kids] at hi
    simp only [Tr.kids] at hil hi'
    refine row_of Try.func19 rfl rfl (Nat.le_of_ble_eq_true rfl) ?_
    repeat' (first | refine aw_seq ?_ | refine aw_skip ?_ | refine aw_block ?_ | refine aw_exit ?_ | refine aw_cond rfl (fun _ => ?_) (fun hb => absurd hb (by decide)) | refine aw_cond rfl (fun hb => absurd hb (by decide)) (fun _ => ?_) | (refine aw_reg (fun K hK => ?_); simp -implicitDefEqProofs [hil, hi, hi', c33, c30, c32, c31]) | (refine aw_drw mixd (fun K hK => ?_); simp -implicitDefEqProofs [hil, hi, hi', c33, c30, c32, c31]) | refine hK _ ?_ | refine hK _ _ (by rfl) ?_ | (refine ar_call (cp hb12 ?_); simp -implicitDefEqProofs [hil, hi, hi', c33, c30, c32, c31]) | (refine ard_call (dp hb12 ?_); simp -implicitDefEqProofs [hil, hi, hi', c33, c30, c32, c31]) | fail)
    refine aw_ret (fin_ret ?_); simp -implicitDefEqProofs [FinP, resV, resT] <;> try rfl
  by_cases l1 : l.length = 1; rotate_left
  · have l1' : ¬ (l.length : Int) = 1 := by omega
    rw [if_pos (.inr (.inl l1))]
    unfold badR at hb12 ⊢
    obtain ⟨mx, ml⟩ := m
    rw [Tr.kids] at hi
    simp only [Tr.kids] at hil hi'
    refine row_of Try.func19 rfl rfl (Nat.le_of_ble_eq_true rfl) ?_
    repeat' (first | refine aw_seq ?_ | refine aw_skip ?_ | refine aw_block ?_ | refine aw_exit ?_ | refine aw_cond rfl (fun _ => ?_) (fun hb => absurd hb (by decide)) | refine aw_cond rfl (fun hb => absurd hb (by decide)) (fun _ => ?_) | (refine aw_reg (fun K hK => ?_); simp -implicitDefEqProofs [hil, hi, hi', c31, l1, l1']) | (refine aw_drw mixd (fun K hK => ?_); simp -implicitDefEqProofs [hil, hi, hi', c31, l1, l1']) | refine hK _ ?_ | refine hK _ _ (by rfl) ?_ | (refine ar_call (cp hb12 ?_); simp -implicitDefEqProofs [hil, hi, hi', c31, l1, l1']) | (refine ard_call (dp hb12 ?_); simp -implicitDefEqProofs [hil, hi, hi', c31, l1, l1']) | fail)
    refine aw_ret (fin_ret ?_); simp -implicitDefEqProofs [FinP, resV, resT] <;> try rfl
  obtain ⟨⟨ax, al⟩, rfl⟩ := one_of l1
  rw [show [Tr.mk ax al].getD 0 z0T = .mk ax al from rfl, Tr.lab, Tr.kids]
  by_cases a0 : 0 < al.length
  · have a0' : (0 : Int) < (al.length : Int) := by omega
    rw [if_pos (.inr (.inr (.inl a0)))]
    unfold badR at hb12 ⊢
    obtain ⟨mx, ml⟩ := m
    rw [Tr.kids] at hi
    simp only [Tr.kids] at hil hi'
    refine row_of Try.func19 rfl rfl (Nat.le_of_ble_eq_true rfl) ?_
    repeat' (first | refine aw_seq ?_ | refine aw_skip ?_ | refine aw_block ?_ | refine aw_exit ?_ | refine aw_cond rfl (fun _ => ?_) (fun hb => absurd hb (by decide)) | refine aw_cond rfl (fun hb => absurd hb (by decide)) (fun _ => ?_) | (refine aw_reg (fun K hK => ?_); simp -implicitDefEqProofs [hil, hi, hi', c31, a0, a0']) | (refine aw_drw mixd (fun K hK => ?_); simp -implicitDefEqProofs [hil, hi, hi', c31, a0, a0']) | refine hK _ ?_ | refine hK _ _ (by rfl) ?_ | (refine ar_call (cp hb12 ?_); simp -implicitDefEqProofs [hil, hi, hi', c31, a0, a0']) | (refine ard_call (dp hb12 ?_); simp -implicitDefEqProofs [hil, hi, hi', c31, a0, a0']) | fail)
    refine aw_ret (fin_ret ?_); simp -implicitDefEqProofs [FinP, resV, resT] <;> try rfl
  have : al = [] := List.eq_nil_of_length_eq_zero (by omega)
  subst this
  have hlt := rlit_row (.mk ax [])
  have hlk := litT_k (.mk ax [])
  rw [Tr.lab] at hlk
  obtain ⟨⟨ux, ul⟩, hu⟩ : ∃ g, litT (.mk ax []) = g := ⟨_, rfl⟩
  rw [hu] at hlt hlk ⊢
  rw [Tr.lab] at hlk ⊢
  clear hu
  by_cases c0 : ux.k = 0
  · rw [if_pos (.inr (.inr (.inr (.inl c0))))]
    unfold badR at hb12 ⊢
    obtain ⟨mx, ml⟩ := m
    rw [Tr.kids] at hi
    simp only [Tr.kids] at hil hi'
    refine row_of Try.func19 rfl rfl (Nat.le_of_ble_eq_true rfl) ?_
    repeat' (first | refine aw_seq ?_ | refine aw_skip ?_ | refine aw_block ?_ | refine aw_exit ?_ | refine aw_cond rfl (fun _ => ?_) (fun hb => absurd hb (by decide)) | refine aw_cond rfl (fun hb => absurd hb (by decide)) (fun _ => ?_) | (refine aw_reg (fun K hK => ?_); simp -implicitDefEqProofs [hil, hi, hi', c31, c0]) | (refine aw_drw mixd (fun K hK => ?_); simp -implicitDefEqProofs [hil, hi, hi', c31, c0]) | refine hK _ ?_ | refine hK _ _ (by rfl) ?_ | (refine ar_call (cp hlt ?_); simp -implicitDefEqProofs [hil, hi, hi', c31, c0]) | (refine ard_call (dp hlt ?_); simp -implicitDefEqProofs [hil, hi, hi', c31, c0]) | (refine ar_call (cp hb12 ?_); simp -implicitDefEqProofs [hil, hi, hi', c31, c0]) | (refine ard_call (dp hb12 ?_); simp -implicitDefEqProofs [hil, hi, hi', c31, c0]) | fail)
    refine aw_ret (fin_ret ?_); simp -implicitDefEqProofs [FinP, resV, resT] <;> try rfl
  clear hlk
  by_cases c6 : ax.k = 6; rotate_left
  · rw [if_neg (by simp [c31, c0, c6])]
    obtain ⟨mx, ml⟩ := m
    rw [Tr.kids] at hi
    simp only [Tr.kids] at hil hi'
    refine row_of Try.func19 rfl rfl (Nat.le_of_ble_eq_true rfl) ?_
    repeat' (first | refine aw_seq ?_ | refine aw_skip ?_ | refine aw_block ?_ | refine aw_exit ?_ | refine aw_cond rfl (fun _ => ?_) (fun hb => absurd hb (by decide)) | refine aw_cond rfl (fun hb => absurd hb (by decide)) (fun _ => ?_) | (refine aw_reg (fun K hK => ?_); simp -implicitDefEqProofs [hil, hi, hi', c31, c0, c6]) | (refine aw_drw mixd (fun K hK => ?_); simp -implicitDefEqProofs [hil, hi, hi', c31, c0, c6]) | refine hK _ ?_ | refine hK _ _ (by rfl) ?_ | (refine ar_call (cp hlt ?_); simp -implicitDefEqProofs [hil, hi, hi', c31, c0, c6]) | (refine ard_call (dp hlt ?_); simp -implicitDefEqProofs [hil, hi, hi', c31, c0, c6]) | (refine ar_call (cp hnm ?_); simp -implicitDefEqProofs [hil, hi, hi', c31, c0, c6]) | (refine ard_call (dp hnm ?_); simp -implicitDefEqProofs [hil, hi, hi', c31, c0, c6]) | fail)
    refine aw_ret (fin_ret ?_); simp -implicitDefEqProofs [FinP, resV, resT] <;> try rfl
  by_cases n0 : ax.n = 0
  · rw [if_neg (by simp [c31, c0, c6, n0])]
    obtain ⟨mx, ml⟩ := m
    rw [Tr.kids] at hi
    simp only [Tr.kids] at hil hi'
    refine row_of Try.func19 rfl rfl (Nat.le_of_ble_eq_true rfl) ?_
    repeat' (first | refine aw_seq ?_ | refine aw_skip ?_ | refine aw_block ?_ | refine aw_exit ?_ | refine aw_cond rfl (fun _ => ?_) (fun hb => absurd hb (by decide)) | refine aw_cond rfl (fun hb => absurd hb (by decide)) (fun _ => ?_) | (refine aw_reg (fun K hK => ?_); simp -implicitDefEqProofs [hil, hi, hi', c31, c0, c6, n0]) | (refine aw_drw mixd (fun K hK => ?_); simp -implicitDefEqProofs [hil, hi, hi', c31, c0, c6, n0]) | refine hK _ ?_ | refine hK _ _ (by rfl) ?_ | (refine ar_call (cp hlt ?_); simp -implicitDefEqProofs [hil, hi, hi', c31, c0, c6, n0]) | (refine ard_call (dp hlt ?_); simp -implicitDefEqProofs [hil, hi, hi', c31, c0, c6, n0]) | (refine ar_call (cp hnm ?_); simp -implicitDefEqProofs [hil, hi, hi', c31, c0, c6, n0]) | (refine ard_call (dp hnm ?_); simp -implicitDefEqProofs [hil, hi, hi', c31, c0, c6, n0]) | fail)
    refine aw_ret (fin_ret ?_); simp -implicitDefEqProofs [FinP, resV, resT] <;> try rfl
  by_cases n1 : ax.n = 1
  · rw [if_neg (by simp [c31, c0, c6, n1])]
    obtain ⟨mx, ml⟩ := m
    rw [Tr.kids] at hi
    simp only [Tr.kids] at hil hi'
    refine row_of Try.func19 rfl rfl (Nat.le_of_ble_eq_true rfl) ?_
    repeat' (first | refine aw_seq ?_ | refine aw_skip ?_ | refine aw_block ?_ | refine aw_exit ?_ | refine aw_cond rfl (fun _ => ?_) (fun hb => absurd hb (by decide)) | refine aw_cond rfl (fun hb => absurd hb (by decide)) (fun _ => ?_) | (refine aw_reg (fun K hK => ?_); simp -implicitDefEqProofs [hil, hi, hi', c31, c0, c6, n1]) | (refine aw_drw mixd (fun K hK => ?_); simp -implicitDefEqProofs [hil, hi, hi', c31, c0, c6, n1]) | refine hK _ ?_ | refine hK _ _ (by rfl) ?_ | (refine ar_call (cp hlt ?_); simp -implicitDefEqProofs [hil, hi, hi', c31, c0, c6, n1]) | (refine ard_call (dp hlt ?_); simp -implicitDefEqProofs [hil, hi, hi', c31, c0, c6, n1]) | (refine ar_call (cp hnm ?_); simp -implicitDefEqProofs [hil, hi, hi', c31, c0, c6, n1]) | (refine ard_call (dp hnm ?_); simp -implicitDefEqProofs [hil, hi, hi', c31, c0, c6, n1]) | fail)
    refine aw_ret (fin_ret ?_); simp -implicitDefEqProofs [FinP, resV, resT] <;> try rfl
  · rw [if_pos (.inr (.inr (.inr (.inr ⟨c6, n0, n1⟩))))]
    unfold badR at hb12 ⊢
    obtain ⟨mx, ml⟩ := m
    rw [Tr.kids] at hi
    simp only [Tr.kids] at hil hi'
    refine row_of Try.func19 rfl rfl (Nat.le_of_ble_eq_true rfl) ?_
    repeat' (first | refine aw_seq ?_ | refine aw_skip ?_ | refine aw_block ?_ | refine aw_exit ?_ | refine aw_cond rfl (fun _ => ?_) (fun hb => absurd hb (by decide)) | refine aw_cond rfl (fun hb => absurd hb (by decide)) (fun _ => ?_) | (refine aw_reg (fun K hK => ?_); simp -implicitDefEqProofs [hil, hi, hi', c31, c0, c6, n0, n1]) | (refine aw_drw mixd (fun K hK => ?_); simp -implicitDefEqProofs [hil, hi, hi', c31, c0, c6, n0, n1]) | refine hK _ ?_ | refine hK _ _ (by rfl) ?_ | (refine ar_call (cp hlt ?_); simp -implicitDefEqProofs [hil, hi, hi', c31, c0, c6, n0, n1]) | (refine ard_call (dp hlt ?_); simp -implicitDefEqProofs [hil, hi, hi', c31, c0, c6, n0, n1]) | (refine ar_call (cp hb12 ?_); simp -implicitDefEqProofs [hil, hi, hi', c31, c0, c6, n0, n1]) | (refine ard_call (dp hb12 ?_); simp -implicitDefEqProofs [hil, hi, hi', c31, c0, c6, n0, n1]) | fail)
    refine aw_ret (fin_ret ?_); simp -implicitDefEqProofs [FinP, resV, resT] <;> try rfl
theorem decsT_get (m : VT) : ∀ (l : List VT) (i k : Nat), (decsT m i l)[k]? = (l[k]?).map (decT m (i + k))
  | [], i, k => by simp [decsT]
  | y :: r, i, 0 => by simp [decsT]
  | y :: r, i, k + 1 => by
    rw [decsT, List.getElem?_cons_succ, decsT_get m r (i + 1) k, List.getElem?_cons_succ, show i + 1 + k = i + (k + 1) by omega]
theorem decsT_len (m : VT) : ∀ (l : List VT) (i : Nat), (decsT m i l).length = l.length
  | [], i => rfl
  | y :: r, i => by rw [decsT, List.length_cons, decsT_len m r, List.length_cons]
noncomputable abbrev vTIE (g : GR) : AV := .tup [.agg (ta g.t), .c (.pv (I g.pl)), .c (.pv (I g.er))]
set_option maxRecDepth 100000 in
set_option maxHeartbeats 4000000 in
theorem rmodule_row (m : VT) (hm : in64 m) (hms : m.size ≤ 100000) : Row Try.prog 13 [vT m] [] (vTIE (modR m)) [] := by
  have hde := fun i t h => rdecl_row m hm hms i t h
  obtain ⟨x, l⟩ := m
  have hlen := Tr.len_size (x := x) (l := l)
  by_cases c36 : x.k = 36; rotate_left
  · rw [show modR (.mk x l) = badR x 12 by unfold modR; exact if_pos c36]
    unfold badR
    clear hde
    refine row_of Try.func13 rfl rfl (Nat.le_of_ble_eq_true rfl) ?_
    repeat (first | refine aw_seq ?_ | refine aw_skip ?_ | refine aw_block ?_ | refine aw_exit ?_ | refine aw_cond rfl (fun _ => ?_) (fun hb => absurd hb (by decide)) | refine aw_cond rfl (fun hb => absurd hb (by decide)) (fun _ => ?_) | (refine aw_reg (fun K hK => ?_); simp -implicitDefEqProofs [c36]; refine hK _ ?_) | (refine aw_drw mixd (fun K hK => ?_); simp -implicitDefEqProofs [c36]; refine hK _ _ (by rfl) ?_) | fail)
    refine aw_ret (fin_ret ?_); simp -implicitDefEqProofs [FinP, resV, resT] <;> try rfl
  obtain ⟨F, hF⟩ : ∃ F, modR (.mk x l) = F := ⟨_, rfl⟩
  rw [hF]
  have hF2 : (match (decsT (.mk x l) 0 l).find? (fun g => !decide (g.er = 0)) with
    | some g => ⟨z0T, g.pl, g.er⟩
    | none => ⟨.mk ⟨x.k, x.n, ⟨#[]⟩, 0, 0⟩ ((decsT (.mk x l) 0 l).map GR.t), 0, 0⟩ : GR) = F := by
    rw [← hF]
    unfold modR
    exact (if_neg (fun h => h c36)).symm
  obtain ⟨P, hP⟩ : ∃ P, decsT (.mk x l) 0 l = P := ⟨_, rfl⟩
  have hPg : ∀ (k : Nat) y, l[k]? = some y → P[k]? = some (decT (.mk x l) k y) := fun k y hy => by
    rw [← hP, decsT_get, hy, Nat.zero_add]; rfl
  have hPl : P.length = l.length := by rw [← hP, decsT_len]
  rw [hP] at hF2
  have hat : ∀ (k : Nat) y, l[k]? = some y → ¬ (decT (.mk x l) k y).er = 0 → (∀ g ∈ P.take k, g.er = 0) → F = ⟨z0T, (decT (.mk x l) k y).pl, (decT (.mk x l) k y).er⟩ := by
    intro k y hy he hno
    rw [← hF2, find_at (k := k) (hPg k y hy) (by simpa using he) (fun g hg => by simpa using hno g hg)]
  obtain ⟨Q, hQ⟩ : ∃ Q : List VT, P.map GR.t = Q := ⟨_, rfl⟩
  have hend : (∀ g ∈ P, g.er = 0) → F = ⟨.mk ⟨x.k, x.n, ⟨#[]⟩, 0, 0⟩ Q, 0, 0⟩ := by
    intro hno
    rw [← hF2, List.find?_eq_none.2 (fun g hg => by simpa using hno g hg), ← hQ]
  have hQl : Q.length = l.length := by rw [← hQ, List.length_map, hPl]
  have hQk : ∀ (k : Nat) y, l[k]? = some y → Q.take (k + 1) = Q.take k ++ [(decT (.mk x l) k y).t] := fun k y h => by
    rw [List.take_add_one, ← hQ, List.getElem?_map, hPg k y h]; rfl
  have hPk : ∀ (k : Nat) y, l[k]? = some y → P.take (k + 1) = P.take k ++ [decT (.mk x l) k y] := fun k y h => by
    rw [List.take_add_one, hPg k y h]; rfl
  clear hF hF2 hP hQ hPg
  refine row_of Try.func13 rfl rfl (Nat.le_of_ble_eq_true rfl) ?_
  repeat (first | refine aw_seq ?_ | refine aw_skip ?_ | refine aw_block ?_ | refine aw_exit ?_ | refine aw_cond rfl (fun _ => ?_) (fun hb => absurd hb (by decide)) | refine aw_cond rfl (fun hb => absurd hb (by decide)) (fun _ => ?_) | (refine aw_reg (fun K hK => ?_); simp -implicitDefEqProofs [c36]; refine hK _ ?_) | (refine aw_drw mixd (fun K hK => ?_); simp -implicitDefEqProofs [c36]; refine hK _ _ (by rfl) ?_) | fail)
  refine aw_lp (ι := Nat) (fun k => mkSt [(1, .v (.c (.ptr 0 0))), (2, .v (.c (.ptr 1 0))), (5, .v (.c (.ptr 2 0))), (6, vI (k : Nat))] [some (.box (ta (.mk x l))), some (.box (ta z0T)), some (.box [.pv (I x.k), .pv (I x.n), .pv (Sx ⟨#[]⟩), .row 3 6 ((Q.take k).map tc), .pv (I 0), .pv (I 0)]), some (.row 24 6)]) (fun k => k ≤ l.length ∧ ∀ g ∈ P.take k, g.er = 0) (fun k => l.length - k) 0 ⟨Nat.zero_le _, by simp⟩ (cov_intro [0, 1, 13, 11] (by simp -implicitDefEqProofs [c36]) (by simp -implicitDefEqProofs [c36]) (by decide) rfl (by simp)) (fun Z hI k hk => ?_)
  obtain ⟨hk, hz⟩ := hk
  by_cases hkl : k < l.length; rotate_left
  · have : k = l.length := by omega
    subst this
    rw [List.take_of_length_le (by omega)] at hz
    have hF := hend hz
    subst hF
    have e2 : Q.take l.length = Q := List.take_of_length_le (by omega)
    rw [e2]
    clear hat hend hPk hQk hde
    repeat (first | refine aw_seq ?_ | refine aw_skip ?_ | refine aw_block ?_ | refine aw_exit ?_ | refine aw_cond rfl (fun _ => ?_) (fun hb => absurd hb (by decide)) | refine aw_cond rfl (fun hb => absurd hb (by decide)) (fun _ => ?_) | (refine aw_reg (fun K hK => ?_); simp -implicitDefEqProofs; refine hK _ ?_) | (refine aw_drw mixd (fun K hK => ?_); simp -implicitDefEqProofs; refine hK _ _ (by rfl) ?_) | fail)
    refine aw_ret (fin_ret ?_); simp -implicitDefEqProofs [FinP, resV, resT] <;> try rfl
  obtain ⟨y, ha⟩ : ∃ a, l[k]? = some a := ⟨_, List.getElem?_eq_getElem hkl⟩
  have hc := hde k y ha
  have w2 : IntKind.i64.wrap ((k : Nat) + 1 : Int) = (k : Nat) + 1 := i64i _ (by omega) (by omega)
  have hs := hQk k _ ha
  have hpk := hPk k _ ha
  have hto := hat k y ha
  have hQkl : (Q.take k).length = k := by rw [List.length_take]; omega
  obtain ⟨QK, hQK⟩ : ∃ QK, Q.take k = QK := ⟨_, rfl⟩
  obtain ⟨⟨⟨bx, bl⟩, gp, ge⟩, hG⟩ : ∃ g, decT (.mk x l) k y = g := ⟨_, rfl⟩
  rw [hG] at hc hs hpk hto
  rw [hQK] at hs hQkl ⊢
  clear hG hQK hat hend hPk hQk hde
  have b1 : (k + 1) * 72 ≤ 140737488355328 := by omega
  have b2 : k + 1 ≤ 140737488355328 := by omega
  by_cases he : ge = 0
  · subst he
    repeat' (first | refine aw_seq ?_ | refine aw_skip ?_ | refine aw_block ?_ | refine aw_exit ?_ | refine aw_cond rfl (fun _ => ?_) (fun hb => absurd hb (by decide)) | refine aw_cond rfl (fun hb => absurd hb (by decide)) (fun _ => ?_) | (refine aw_reg (fun K hK => ?_); simp -implicitDefEqProofs [hkl, hQkl, b1, b2, w2]) | (refine aw_drw mixd (fun K hK => ?_); simp -implicitDefEqProofs [hkl, hQkl, b1, b2, w2]) | refine hK _ ?_ | refine hK _ _ (by rfl) ?_ | (refine ar_call (cp hc ?_); simp -implicitDefEqProofs [hkl, hQkl, b1, b2, w2]) | (refine ard_call (dp hc ?_); simp -implicitDefEqProofs [hkl, hQkl, b1, b2, w2]) | fail)
    refine ⟨k + 1, ⟨by omega, fun g hg => ?_⟩, (by dsimp only; omega), ?_⟩
    · rw [hpk] at hg
      rcases List.mem_append.1 hg with hg | hg
      · exact hz g hg
      · simp at hg; subst hg; rfl
    · rw [hI, hs]; exact cov_intro [0, 1, 2, 29] (by simp -implicitDefEqProofs) (by simp -implicitDefEqProofs) (by decide) rfl (by simp)
  · have hF := hto he hz
    subst hF
    repeat' (first | refine aw_seq ?_ | refine aw_skip ?_ | refine aw_block ?_ | refine aw_exit ?_ | refine aw_cond rfl (fun _ => ?_) (fun hb => absurd hb (by decide)) | refine aw_cond rfl (fun hb => absurd hb (by decide)) (fun _ => ?_) | (refine aw_reg (fun K hK => ?_); simp -implicitDefEqProofs [hkl, he]) | (refine aw_drw mixd (fun K hK => ?_); simp -implicitDefEqProofs [hkl, he]) | refine hK _ ?_ | refine hK _ _ (by rfl) ?_ | (refine ar_call (cp hc ?_); simp -implicitDefEqProofs [hkl, he]) | (refine ard_call (dp hc ?_); simp -implicitDefEqProofs [hkl, he]) | fail)
    refine aw_ret (fin_ret ?_); simp -implicitDefEqProofs [FinP, resV, resT] <;> try rfl
theorem decT_size (m : VT) (i : Nat) (t : VT) : (decT m i t).t.size ≤ t.size := by
  have hn : (nmlT t).size ≤ t.size := by rw [nmlT_size]; exact Nat.le_refl _
  obtain ⟨x, l⟩ := t
  unfold decT
  rw [Tr.lab, Tr.kids]
  split
  · unfold fnT
    split
    · exact badR_size _ _ _
    · rename_i hno
      split
      · exact badR_size _ _ _
      · split
        · exact badR_size _ _ _
        · have h3 : l.length = 3 := Classical.byContradiction fun h => hno (.inr (.inl h))
          obtain ⟨a, b, c, rfl⟩ := three_of h3
          rw [show [a, b, c].getD 0 z0T = a from rfl, show [a, b, c].getD 1 z0T = b from rfl, show [a, b, c].getD 2 z0T = c from rfl]
          have hs := stmT_size m b c (typsT (.mk x [a, b, c]))
          split
          · rw [Tr.size_mk, Tr.size_mk]
            simp only [List.map_cons, List.map_nil, List.sum_cons, List.sum_nil, nmlT_size]
            omega
          · have := kid_lt (x := x) (l := [a, b, c]) (y := c) (by simp)
            omega
  · split
    · split
      · exact badR_size _ _ _
      · split
        · exact badR_size _ _ _
        · exact hn
    · split
      · split
        · exact badR_size _ _ _
        · exact hn
      · split
        · exact badR_size _ _ _
        · exact hn
theorem decsT_size (m : VT) : ∀ (l : List VT) (i : Nat), (((decsT m i l).map GR.t).map Tr.size).sum ≤ (l.map Tr.size).sum
  | [], i => by simp [decsT]
  | y :: r, i => by
    rw [decsT]
    simp only [List.map_cons, List.sum_cons]
    have h1 := decT_size m i y
    have h2 := decsT_size m r (i + 1)
    omega
theorem modR_size (m : VT) : (modR m).t.size ≤ m.size := by
  unfold modR
  split
  · exact badR_size _ _ _
  · split
    · show z0T.size ≤ _
      have := Tr.size_pos m
      rw [show z0T.size = 1 by simp [Tr.size_mk]]; exact this
    · show (Tr.mk _ _).size ≤ _
      obtain ⟨x, l⟩ := m
      rw [Tr.size_mk, Tr.size_mk]
      exact Nat.add_le_add_left (decsT_size _ l 0) 1
noncomputable def rgtB (m : VT) : Bool := decide ((modR m).er = 0) && plac (modR m).t m
set_option maxRecDepth 100000 in
set_option maxHeartbeats 4000000 in
theorem rright_row (m : VT) (hm : in64 m) (hms : m.size ≤ 100000) : Row Try.prog 5 [vT m] [] (vB (rgtB m)) [] := by
  have hmo := rmodule_row m hm hms
  have hpl := rplac_row (modR m).t (by have := modR_size m; omega) m (by omega)
  unfold rgtB
  obtain ⟨⟨⟨ax, al⟩, gp, ge⟩, hG⟩ : ∃ g, modR m = g := ⟨_, rfl⟩
  rw [hG] at hmo hpl ⊢
  dsimp only at hpl ⊢
  obtain ⟨q, hq⟩ : ∃ q, plac (.mk ax al) m = q := ⟨_, rfl⟩
  rw [hq] at hpl ⊢
  clear hG hq
  obtain ⟨x, l⟩ := m
  by_cases he : ge = 0
  · subst he
    refine row_of Try.func5 rfl rfl (Nat.le_of_ble_eq_true rfl) ?_
    repeat' (first | refine aw_seq ?_ | refine aw_skip ?_ | refine aw_block ?_ | refine aw_exit ?_ | refine aw_cond rfl (fun _ => ?_) (fun hb => absurd hb (by decide)) | refine aw_cond rfl (fun hb => absurd hb (by decide)) (fun _ => ?_) | (refine aw_reg (fun K hK => ?_); simp -implicitDefEqProofs) | (refine aw_drw mixd (fun K hK => ?_); simp -implicitDefEqProofs) | refine hK _ ?_ | refine hK _ _ (by rfl) ?_ | (refine ar_call (cp hmo ?_); simp -implicitDefEqProofs) | (refine ard_call (dp hmo ?_); simp -implicitDefEqProofs) | (refine ar_call (cp hpl ?_); simp -implicitDefEqProofs) | (refine ard_call (dp hpl ?_); simp -implicitDefEqProofs) | fail)
    refine aw_ret (fin_ret ?_); simp -implicitDefEqProofs [FinP, resV, resT] <;> try rfl
  · refine row_of Try.func5 rfl rfl (Nat.le_of_ble_eq_true rfl) ?_
    repeat' (first | refine aw_seq ?_ | refine aw_skip ?_ | refine aw_block ?_ | refine aw_exit ?_ | refine aw_cond rfl (fun _ => ?_) (fun hb => absurd hb (by decide)) | refine aw_cond rfl (fun hb => absurd hb (by decide)) (fun _ => ?_) | (refine aw_reg (fun K hK => ?_); simp -implicitDefEqProofs [he]) | (refine aw_drw mixd (fun K hK => ?_); simp -implicitDefEqProofs [he]) | refine hK _ ?_ | refine hK _ _ (by rfl) ?_ | (refine ar_call (cp hmo ?_); simp -implicitDefEqProofs [he]) | (refine ard_call (dp hmo ?_); simp -implicitDefEqProofs [he]) | (refine ar_call (cp hpl ?_); simp -implicitDefEqProofs [he]) | (refine ard_call (dp hpl ?_); simp -implicitDefEqProofs [he]) | fail)
    refine aw_ret (fin_ret ?_); simp -implicitDefEqProofs [FinP, resV, resT, he] <;> try rfl
end Go.Proofs.Ythmdllhhmhbhbaa.am
end
section
namespace Go.Proofs.Ythmdllhhmhbhbaa.am
open Go.ChangeShapes Go.WideShapes Go.ChangeAt Go.RowKit
open vt
set_option linter.unusedVariables false
set_option linter.unusedSimpArgs false
noncomputable def mvS (to : List Int) (g : GR) : GR := ⟨renum to g.t, g.pl, g.er⟩
theorem mvS_bad (to : List Int) {x y : Lab} (h : y.f = x.f) (e : Int) : badR y e = mvS to (badR x e) := by
  unfold badR mvS
  rw [rn_z0, h]
theorem map_nm {P : Int → Prop} {L : List VT} {a : VT} (hL : ∀ b ∈ L, Nm P b) (ha : Nm P a) : ∀ b ∈ L ++ [a], Nm P b := by
  intro b hb
  rcases List.mem_append.1 hb with h | h
  · exact hL b h
  · have : b = a := by simpa using h
    rw [this]; exact ha
section
variable {m m' : VT} {to : List Int} {P : Int → Prop} (M : Mv m m' to P)
include M
theorem Mv.brg {L : List VT} (hL : ∀ b ∈ L, Nm P b) {t : VT} (ht : Nm P t) : brgT m' (L.map (renum to)) (renum to t) = (brgT m L t).map (renum to) ∧ ∀ b ∈ brgT m L t, Nm P b := by
  unfold brgT
  rw [rn_k, rn_kids, List.length_map, rn_getD]
  obtain ⟨a1, a2⟩ := M.ofE hL _ (ht.at0 0)
  by_cases h1 : t.lab.k = 20 ∧ t.kids.length = 1
  · rw [if_pos h1, if_pos h1, a1, List.map_append]
    exact ⟨rfl, map_nm hL a2⟩
  rw [if_neg h1, if_neg h1]
  by_cases h2 : t.lab.k = 21 ∧ t.kids.length = 1
  · rw [if_pos h2, if_pos h2, List.map_append]
    exact ⟨rfl, map_nm hL (ht.at0 0)⟩
  rw [if_neg h2, if_neg h2]
  exact ⟨rfl, hL⟩
theorem Mv.onl {L : List VT} (hL : ∀ b ∈ L, Nm P b) {t : VT} (ht : Nm P t) (a b : Int) : onlT m' (L.map (renum to)) (renum to t) a b = mvS to (onlT m L t a b) := by
  unfold onlT
  rw [(M.ofE hL t ht).1]
  have ea : ∀ k, isT (mvG to (ofT m L t)).ty k = isT (ofT m L t).ty k := fun k => rn_isT to _ k
  rw [ea, ea]
  by_cases h : (ofT m L t).er = 0 ∧ isT (ofT m L t).ty a = false ∧ isT (ofT m L t).ty b = false
  · refine (if_pos h).trans ?_
    rw [if_pos h]
    exact mvS_bad to (rn_f to t) 10
  · refine (if_neg h).trans ?_
    rw [if_neg h]
    rfl
theorem Mv.prt {ret : VT} (hr : Nm P ret) {L : List VT} (hL : ∀ b ∈ L, Nm P b) (x : Lab) {y : VT} (hy : Nm P y) {f f' : List VT → GR} (hf : ∀ L : List VT, (∀ b ∈ L, Nm P b) → f' (L.map (renum to)) = mvS to (f L)) (i : Nat) : prtG m' (renum to ret) (L.map (renum to)) { x with n := nwN to x } i (renum to y) f' = mvS to (prtG m ret L x i y f) := by
  unfold prtG
  dsimp only
  by_cases h1 : (prtN x.k).1 - (prtN x.k).2 ≤ i
  · rw [if_pos h1, if_pos h1]
    by_cases h : x.k = 25
    · rw [if_pos h, if_pos h, ← hf _ (map_nm hL (nm_ty P (.inl rfl))), List.map_append, List.map_cons, List.map_nil, rn_ty to (.inl rfl)]
    · rw [if_neg h, if_neg h, hf _ hL]
  rw [if_neg h1, if_neg h1]
  by_cases h2 : x.k = 21
  · rw [if_pos h2, if_pos h2, M.cels hy, mvS_bad to (rn_f to y), rn_nml]
    by_cases h : vt.cels m y = 0
    · rw [if_pos h, if_pos h]
    · rw [if_neg h, if_neg h]; rfl
  rw [if_neg h2, if_neg h2]
  by_cases h3 : x.k = 23 ∨ x.k = 24
  · rw [if_pos h3, if_pos h3, M.onl hL hy]
  rw [if_neg h3, if_neg h3]
  by_cases h4 : x.k = 25
  · rw [if_pos h4, if_pos h4, M.onl hL hy]
  rw [if_neg h4, if_neg h4]
  by_cases h5 : x.k = 26
  · rw [if_pos h5, if_pos h5, M.onl hL hy]
  rw [if_neg h5, if_neg h5, rn_k]
  by_cases h6 : x.k = 28 ∧ ¬ y.lab.k = 16
  · rw [if_pos h6, if_pos h6, mvS_bad to (rn_f to y)]
  rw [if_neg h6, if_neg h6]
  obtain ⟨a1, a2⟩ := M.ofE hL y hy
  have e : (vt.same (ofT m' (L.map (renum to)) (renum to y)).ty (barT (renum to ret))) = vt.same (ofT m L y).ty (barT ret) := by
    rw [a1, rn_bar]
    exact M.same _ _ a2 (bar_nm hr)
  rw [e, a1]
  by_cases h7 : x.k = 27 ∧ (ofT m L y).er = 0 ∧ vt.same (ofT m L y).ty (barT ret) = false
  · refine (if_pos h7).trans ?_
    rw [if_pos h7]
    exact mvS_bad to (rn_f to y) 10
  · refine (if_neg h7).trans ?_
    rw [if_neg h7]
    rfl
theorem Mv.endE {L : List VT} (hL : ∀ b ∈ L, Nm P b) (x : Lab) {l : List VT} (hl : ∀ b ∈ l, Nm P b) (gs : List GR) : endG m' (L.map (renum to)) { x with n := nwN to x } (l.map (renum to)) (gs.map (mvS to)) = mvS to (endG m L x l gs) := by
  unfold endG
  have g0 := getD_nm hl 0
  have g1 := getD_nm hl 1
  have s1 : vt.same (ofT m' (L.map (renum to)) (renum to (l.getD 0 z0T))).ty (ofT m' (L.map (renum to)) (renum to (l.getD 1 z0T))).ty = vt.same (ofT m L (l.getD 0 z0T)).ty (ofT m L (l.getD 1 z0T)).ty := by
    rw [(M.ofE hL _ g0).1, (M.ofE hL _ g1).1]
    exact M.same _ _ (M.ofE hL _ g0).2 (M.ofE hL _ g1).2
  rw [rn_getD, rn_getD, rn_root, s1]
  by_cases h1 : x.k = 22 ∧ ¬ ((rootT (l.getD 0 z0T)).lab.k = 7 ∨ (rootT (l.getD 0 z0T)).lab.k = 9)
  · refine (if_pos h1).trans ?_
    rw [if_pos h1]
    exact mvS_bad to (rn_f to _) 12
  refine (if_neg h1).trans ?_
  rw [if_neg h1]
  by_cases h2 : x.k = 22 ∧ vt.same (ofT m L (l.getD 0 z0T)).ty (ofT m L (l.getD 1 z0T)).ty = false
  · refine (if_pos h2).trans ?_
    rw [if_pos h2]
    exact mvS_bad to (x := x) rfl 10
  refine (if_neg h2).trans ?_
  rw [if_neg h2]
  unfold mvS
  rw [renum_mk, List.map_map, List.map_map]
  rfl
theorem Mv.stm {ret : VT} (hr : Nm P ret) (t : VT) : Nm P t → ∀ L : List VT, (∀ b ∈ L, Nm P b) → stmT m' (renum to ret) (renum to t) (L.map (renum to)) = mvS to (stmT m ret t L) := by
  induction t using Tr.ind with
  | h x l ih =>
  intro ht L hL
  obtain ⟨hx, hl⟩ := (Tr.all_mk _ _ _).1 ht
  rw [renum_mk, stmT_eq, stmT_eq]
  have es : shpS { x with n := nwN to x } (l.map (renum to)) = shpS x l := by
    unfold shpS
    dsimp only
    rw [List.length_map, ← List.map_drop, List.all_map]
    congr 1
    congr 1
    exact List.all_congr rfl (fun y => by show decide ((renum to y).lab.k = 29) = _; rw [rn_k]; rfl)
  rw [es]
  by_cases h1 : shpS x l = false
  · rw [if_pos h1, if_pos h1]
    exact mvS_bad to (x := x) rfl 12
  rw [if_neg h1, if_neg h1]
  dsimp only
  by_cases h2 : x.k = 29
  · rw [if_pos h2, if_pos h2]
    have key : ∀ (l : List VT), (∀ y ∈ l, Nm P y) → (∀ y ∈ l, ∀ L : List VT, (∀ b ∈ L, Nm P b) → stmT m' (renum to ret) (renum to y) (L.map (renum to)) = mvS to (stmT m ret y L)) → ∀ (L acc : List VT), (∀ b ∈ L, Nm P b) → blkT m' (renum to ret) { x with n := nwN to x } (l.map (renum to)) (L.map (renum to)) (acc.map (renum to)) = mvS to (blkT m ret x l L acc) := by
      intro l
      induction l with
      | nil =>
        intro _ _ L acc _
        rw [List.map_nil]
        unfold blkT mvS
        rw [renum_mk]
        rfl
      | cons y r ihr =>
        intro h1 h2 L acc hL
        rw [List.map_cons]
        unfold blkT
        rw [h2 y (by simp) L hL]
        by_cases he : (stmT m ret y L).er = 0
        · refine (if_pos he).trans ?_
          rw [if_pos he, (M.brg hL (h1 y (by simp))).1, show acc.map (renum to) ++ [(mvS to (stmT m ret y L)).t] = (acc ++ [(stmT m ret y L).t]).map (renum to) by rw [List.map_append]; rfl]
          exact ihr (fun z hz => h1 z (by simp [hz])) (fun z hz => h2 z (by simp [hz])) _ _ (M.brg hL (h1 y (by simp))).2
        · refine (if_neg he).trans ?_
          rw [if_neg he]
    exact key l hl (fun y hy => ih y hy (hl y hy)) L [] hL
  rw [if_neg h2, if_neg h2]
  have hp : ∀ (l : List VT) (i : Nat), (∀ y ∈ l, Nm P y) → (∀ y ∈ l, ∀ L : List VT, (∀ b ∈ L, Nm P b) → stmT m' (renum to ret) (renum to y) (L.map (renum to)) = mvS to (stmT m ret y L)) → prtsT m' (renum to ret) (L.map (renum to)) { x with n := nwN to x } i (l.map (renum to)) = (prtsT m ret L x i l).map (mvS to) := by
    intro l
    induction l with
    | nil => intro i _ _; rfl
    | cons y r ihr =>
      intro i h1 h2
      rw [List.map_cons]
      unfold prtsT
      rw [List.map_cons, ihr (i + 1) (fun z hz => h1 z (by simp [hz])) (fun z hz => h2 z (by simp [hz]))]
      congr 1
      exact M.prt hr hL x (h1 y (by simp)) (h2 y (by simp)) i
  rw [hp l 0 hl (fun y hy => ih y hy (hl y hy)), find_map_er (mvS to) GR.er (fun a => rfl)]
  cases (prtsT m ret L x 0 l).find? (fun g => !decide (g.er = 0)) with
  | some g => rfl
  | none => exact M.endE hL x hl _
omit M in
theorem typs_mv {x : Lab} {l : List VT} (hl : ∀ b ∈ l, Nm P b) (y : Lab) : typsT (.mk y (l.map (renum to))) = (typsT (.mk x l)).map (renum to) ∧ ∀ b ∈ typsT (.mk x l), Nm P b := by
  have g0 := getD_nm hl 0
  refine ⟨?_, fun b hb => ?_⟩
  · show ((l.map (renum to)).getD 0 z0T).kids.map (fun q => q.kids.getD 0 z0T) = ((l.getD 0 z0T).kids.map (fun q => q.kids.getD 0 z0T)).map (renum to)
    rw [rn_getD, rn_kids, List.map_map, List.map_map]
    exact List.map_congr_left (fun q _ => by show (renum to q).kids.getD 0 z0T = renum to (q.kids.getD 0 z0T); rw [rn_kids, rn_getD])
  · obtain ⟨q, hq, rfl⟩ := List.mem_map.1 (show b ∈ (l.getD 0 z0T).kids.map (fun q => q.kids.getD 0 z0T) from hb)
    exact (g0.kid hq).at0 0
theorem Mv.fn {x : Lab} (hk : x.k = 33) {l : List VT} (hl : ∀ b ∈ l, Nm P b) : fnT m' { x with n := nwN to x } (l.map (renum to)) = mvS to (fnT m x l) := by
  have g0 := getD_nm hl 0
  have g1 := getD_nm hl 1
  have g2 := getD_nm hl 2
  have en : nwN to x = x.n := nwN_no (by simp [nmK, hk]) (by omega)
  obtain ⟨t1, t2⟩ := typs_mv (to := to) (x := x) hl { x with n := nwN to x }
  have hA : ∀ b ∈ typsT (.mk x l) ++ [l.getD 1 z0T], Nm P b := map_nm t2 g1
  have hz : ∀ (p q : VT → Bool) (A : List VT), (∀ b ∈ A, p (renum to b) = q b) → (A.map (renum to)).find? p = (A.find? q).map (renum to) := by
    intro p q A h
    rw [List.find?_map]
    congr 1
    induction A with
    | nil => rfl
    | cons a A ih =>
      rw [List.find?_cons, List.find?_cons, show (p ∘ renum to) a = q a from h a (by simp), ih (fun b hb => h b (by simp [hb]))]
  unfold fnT
  rw [t1, rn_getD, rn_getD, rn_getD, rn_k, rn_k, rn_kids, List.length_map]
  dsimp only
  rw [en, show ptdB (((l.getD 0 z0T).kids).map (renum to)) = ptdB (l.getD 0 z0T).kids by unfold ptdB; rw [List.all_map]; exact List.all_congr rfl (fun y => rn_partB to y), mvS_bad to (x := x) (y := ⟨x.k, x.n, x.s, x.f, x.t⟩) rfl]
  split
  · rfl
  rw [show (typsT (.mk x l)).map (renum to) ++ [renum to (l.getD 1 z0T)] = (typsT (.mk x l) ++ [l.getD 1 z0T]).map (renum to) by rw [List.map_append]; rfl,
    hz (fun a => decide (vt.cels m' a = 0)) (fun a => decide (vt.cels m a = 0)) _ (fun b hb => by show decide (vt.cels m' (renum to b) = 0) = _; rw [M.cels (hA b hb)]),
    hz (fun a => decide (x.n = 1) && !(decide (0 < vt.cels m' a) && vt.frT a)) (fun a => decide (x.n = 1) && !(decide (0 < vt.cels m a) && vt.frT a)) _ (fun b hb => by show (decide (x.n = 1) && !(decide (0 < vt.cels m' (renum to b)) && vt.frT (renum to b))) = _; rw [M.cels (hA b hb), rn_fr])]
  cases (typsT (.mk x l) ++ [l.getD 1 z0T]).find? (fun a => decide (vt.cels m a = 0)) with
  | some a => exact mvS_bad to (rn_f to a) 11
  | none =>
    rw [Option.map_none]
    dsimp only
    cases (typsT (.mk x l) ++ [l.getD 1 z0T]).find? (fun a => decide (x.n = 1) && !(decide (0 < vt.cels m a) && frT a)) with
    | some a => exact mvS_bad to (rn_f to a) 12
    | none =>
      rw [Option.map_none]
      dsimp only
      rw [M.stm g1 _ g2 _ t2]
      by_cases he : (stmT m (l.getD 1 z0T) (l.getD 2 z0T) (typsT (.mk x l))).er = 0
      · refine (if_pos he).trans ?_
        rw [if_pos he, rn_nml, rn_nml]
        unfold mvS
        rw [renum_mk, nwN_no (x := ⟨x.k, x.n, ⟨#[]⟩, 0, 0⟩) (by simp [nmK, hk]) (by show ¬ x.k = 13; omega)]
        rfl
      · refine (if_neg he).trans ?_
        rw [if_neg he]
theorem Mv.dec {i : Nat} {d : VT} (hP : P i) (hd : m.kids[i]? = some d) {j : Nat} (hj : plc to i = j) : decT m' j (renum to d) = mvS to (decT m i d) := by
  have hn := (M.at' i d hP hd).1
  unfold decT
  rw [rn_k, rn_kids, List.length_map, rn_getD, (rn_lit to _).1, rn_k, rn_kids, List.length_map, rn_shpB]
  by_cases h33 : d.lab.k = 33
  · rw [if_pos h33, if_pos h33]
    have e : (renum to d).lab = { d.lab with n := nwN to d.lab } := by obtain ⟨x, l⟩ := d; rw [renum_mk]; rfl
    rw [e]
    exact M.fn h33 (fun b hb => hn.kid hb)
  rw [if_neg h33, if_neg h33]
  have hb : ∀ e, badR (renum to d).lab e = mvS to (badR d.lab e) := fun e => mvS_bad to (rn_f to d) e
  by_cases h30 : d.lab.k = 30
  · rw [if_pos h30, if_pos h30]
    have hA : Nm P (.mk ⟨4, i, ⟨#[]⟩, 0, 0⟩ []) := (Tr.all_mk _ _ _).2 ⟨⟨fun _ => hP, fun h => by simp at h⟩, fun y hy => by simp at hy⟩
    have eA : (.mk ⟨4, j, ⟨#[]⟩, 0, 0⟩ [] : VT) = renum to (.mk ⟨4, i, ⟨#[]⟩, 0, 0⟩ []) := by
      rw [renum_mk, nwN_nm (by simp [nmK]), ← hj]; rfl
    rw [eA, M.cels hA, hb, hb, rn_nml]
    split
    · rfl
    · split <;> rfl
  rw [if_neg h30, if_neg h30]
  by_cases h32 : d.lab.k = 32 ∧ d.kids.length = 1
  · rw [if_pos h32, if_pos h32, M.cels (hn.at0 0), mvS_bad to (rn_f to _), rn_nml]
    split <;> rfl
  rw [if_neg h32, if_neg h32, hb, rn_nml]
  by_cases h6 : (d.kids.getD 0 z0T).lab.k = 6
  · rw [rn_n, nwN_no (x := (d.kids.getD 0 z0T).lab) (by rw [h6]; rfl) (by omega)]
    split <;> rfl
  · simp only [h6, false_and]
    split <;> rfl
end
theorem decsT_er (m : VT) : ∀ (l : List VT) (i : Nat), (decsT m i l).find? (fun g => !decide (g.er = 0)) = none ↔ ∀ (k : Nat) d, l[k]? = some d → (decT m (i + k) d).er = 0
  | [], i => by unfold decsT; simp
  | t :: r, i => by
    unfold decsT
    rw [List.find?_cons]
    by_cases h : (decT m i t).er = 0
    · simp only [h, decide_true, Bool.not_true]
      rw [decsT_er m r (i + 1)]
      constructor
      · intro g k d hd
        cases k with
        | zero => cases hd; exact h
        | succ k => rw [show i + (k + 1) = i + 1 + k by omega]; exact g k d hd
      · intro g k d hd
        rw [show i + 1 + k = i + (k + 1) by omega]; exact g (k + 1) d hd
    · simp only [h, decide_false, Bool.not_false]
      constructor
      · intro g; cases g
      · intro g; exact absurd (g 0 t rfl) h
theorem decs_at (m : VT) : ∀ (l : List VT) (i k : Nat), (decsT m i l)[k]? = (l[k]?).map (decT m (i + k))
  | [], i, k => by unfold decsT; simp
  | t :: r, i, 0 => by unfold decsT; rfl
  | t :: r, i, k + 1 => by
    unfold decsT
    rw [List.getElem?_cons_succ, List.getElem?_cons_succ, decs_at m r (i + 1) k, show i + 1 + k = i + (k + 1) by omega]
theorem zipA_iff (f : VT → VT → Bool) : ∀ (a b : List VT), a.length = b.length → (zipA f a b a.length = true ↔ ∀ (k : Nat) u v, a[k]? = some u → b[k]? = some v → f u v = true) := by
  intro a b hab
  unfold zipA
  rw [List.all_eq_true]
  constructor
  · intro h k u v hu hv
    refine h (u, v) (List.mem_of_getElem? (i := k) ?_)
    rw [List.getElem?_take_of_lt (List.getElem?_eq_some_iff.1 hu).1]
    exact List.getElem?_zip_eq_some.2 ⟨hu, hv⟩
  · intro h q hq
    obtain ⟨i, hi⟩ := List.mem_iff_getElem?.1 (List.mem_of_mem_take hq)
    obtain ⟨g1, g2⟩ := List.getElem?_zip_eq_some.1 hi
    exact h i q.1 q.2 g1 g2
theorem plac_at (X : Lab) (A : List VT) (m : VT) (h : A.length = m.kids.length) : plac (.mk X A) m = (pP X m.lab && zipA plac A m.kids A.length) := by
  obtain ⟨x, l⟩ := m
  unfold plac
  rw [eqv_mk, decide_eq_true (show A.length = l.length from h), Bool.and_true]
  rfl
theorem rgtB_iff (m : VT) : rgtB m = true ↔ m.lab.k = 36 ∧ pP ⟨m.lab.k, m.lab.n, ⟨#[]⟩, 0, 0⟩ m.lab = true ∧ ∀ (i : Nat) d, m.kids[i]? = some d → (decT m i d).er = 0 ∧ plac (decT m i d).t d = true := by
  unfold rgtB modR
  by_cases hk : m.lab.k = 36; rotate_left
  · rw [if_pos hk]; simp [badR, hk]
  rw [if_neg (show ¬ ¬ m.lab.k = 36 from fun h => h hk)]
  have hlen : ((decsT m 0 m.kids).map GR.t).length = m.kids.length := by
    rw [List.length_map]
    have : ∀ (l : List VT) (i : Nat), (decsT m i l).length = l.length := by
      intro l
      induction l with
      | nil => intro i; rfl
      | cons a r ih => intro i; unfold decsT; rw [List.length_cons, List.length_cons, ih]
    exact this _ _
  cases hf : (decsT m 0 m.kids).find? (fun g => !decide (g.er = 0)) with
  | some g =>
    have he := List.find?_some hf
    dsimp only
    simp only [Bool.not_eq_true', decide_eq_false_iff_not] at he
    rw [decide_eq_false he, Bool.false_and]
    constructor
    · intro h; cases h
    · intro h
      have := (decsT_er m m.kids 0).2 (fun k d hd => by rw [Nat.zero_add]; exact (h.2.2 k d hd).1)
      rw [hf] at this; cases this
  | none =>
    have h0 := (decsT_er m m.kids 0).1 hf
    dsimp only
    show (true && _) = true ↔ _
    rw [Bool.true_and]
    have hz := zipA_iff plac ((decsT m 0 m.kids).map GR.t) m.kids hlen
    rw [plac_at _ _ _ hlen, Bool.and_eq_true, hz]
    constructor
    · intro h
      refine ⟨hk, h.1, fun i d hd => ⟨by have := h0 i d hd; rwa [Nat.zero_add] at this, h.2 i _ d ?_ hd⟩⟩
      rw [List.getElem?_map, decs_at, hd, Nat.zero_add]; rfl
    · intro h
      refine ⟨h.2.1, fun k u v hu hv => ?_⟩
      rw [List.getElem?_map, decs_at, hv, Nat.zero_add] at hu
      cases hu
      exact (h.2.2 k v hv).2
theorem rgt_mv {m m' : VT} {to : List Int} {P : Int → Prop} (M : Mv m m' to P) (hl : m'.lab = m.lab) (ho : ∀ (j : Nat) d', m'.kids[j]? = some d' → ∃ (i : Nat) (d : VT), P i ∧ m.kids[i]? = some d ∧ plc to i = j ∧ d' = renum to d) (h : rgtB m = true) : rgtB m' = true := by
  rw [rgtB_iff] at h ⊢
  rw [hl]
  refine ⟨h.1, h.2.1, fun j d' hd' => ?_⟩
  obtain ⟨i, d, hP, hd, hj, rfl⟩ := ho j d' hd'
  rw [M.dec hP hd hj]
  obtain ⟨e1, e2⟩ := h.2.2 i d hd
  exact ⟨e1, rn_plac to _ _ e2⟩
end Go.Proofs.Ythmdllhhmhbhbaa.am
end
