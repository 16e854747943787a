import Derived.Test.YtjjnboenehomgaaPkF12
import Derived.Test.YtjjnboenehomgaaPkF4
import Derived.Sort.Grow
import Derived.Lib.SlicesCompact
section
namespace Go.Proofs.Ytjjnboenehomgaa.am
open Go.ChangeShapes Go.WideShapes Go.ChangeAt Go.RowKit
open vt
set_option linter.unusedVariables false
set_option linter.unusedSimpArgs false
set_option maxRecDepth 100000 in
set_option maxHeartbeats 4000000 in
theorem rdecl_row (m : VT) (hm : in64 m) (hms : m.size ≤ 100000) (i : Nat) (t : VT) (hi : m.kids[i]? = some t) : Row Try.prog 44 [vT m, vI (i : Nat)] [] (vGr (decT m i t)) [] := by
  have hts := kid_size (List.mem_of_getElem? hi)
  have hti := kidk_ok hm (List.mem_of_getElem? hi)
  obtain ⟨x, l⟩ := t
  have hfn := rfn_row m hm hms x l hti (by omega)
  have hsh := rshaped_row (.mk x l) (by omega)
  have hb := fun e => rbad16_row x l e
  have hnm := rnml_row (.mk x l) (by omega)
  obtain ⟨⟨nx, nl⟩, hnn⟩ : ∃ g, nmlT (.mk x l) = g := ⟨_, rfl⟩
  unfold decT
  rw [Tr.lab, Tr.kids]
  rw [hnn] at hnm ⊢
  clear hnn
  have hce : ∀ y, in64 y → y.size ≤ 100000 → Row Try.prog 75 [vT m, vT y] [] (vI (cels m y)) [] := fun y h1 h2 => rcells_row m y hm (by omega) h1 (by omega)
  have hcr := hce (.mk ⟨4, i, ⟨#[]⟩, 0, 0⟩ []) ((Tr.all_mk _ _ _).2 ⟨⟨by simp, by
    have h1 := (List.getElem?_eq_some_iff.1 hi).1
    have h2 : m.kids.length < m.size := by obtain ⟨mx, ml⟩ := m; exact Tr.len_size (x := mx) (l := ml)
    constructor <;> (dsimp only; omega), by simp, by simp⟩, fun y hy => by simp at hy⟩) (by simp [Tr.size_mk])
  obtain ⟨c, hcc⟩ : ∃ c, cels m (.mk ⟨4, i, ⟨#[]⟩, 0, 0⟩ []) = c := ⟨_, rfl⟩
  rw [hcc] at hcr ⊢
  have hml : m.kids.length < m.size := by obtain ⟨mx, ml⟩ := m; exact Tr.len_size (x := mx) (l := ml)
  have hil := (List.getElem?_eq_some_iff.1 hi).1
  have w0 : IntKind.i64.wrap ((i : Nat) : Int) = (i : Nat) := i64i _ (by omega) (by omega)
  have hi' := (List.getElem?_eq_some_iff.1 hi).2
  by_cases c33 : x.k = 33
  · rw [if_pos c33]
    obtain ⟨⟨⟨bx, bl⟩, gp, ge⟩, hG⟩ : ∃ g, fnT m x l = g := ⟨_, rfl⟩
    rw [hG] at hfn ⊢
    clear hG hce hcc
    obtain ⟨mx, ml⟩ := m
    rw [Tr.kids] at hi
    simp only [Tr.kids] at hil hi'
    refine row_of Try.func44 rfl rfl (Nat.le_of_ble_eq_true rfl) ?_
    repeat' (first | refine aw_seq ?_ | refine aw_skip ?_ | refine aw_block ?_ | refine aw_exit ?_ | refine aw_cond rfl (fun _ => ?_) (fun hb => absurd hb (by decide)) | refine aw_cond rfl (fun hb => absurd hb (by decide)) (fun _ => ?_) | (refine aw_reg (fun K hK => ?_); simp -implicitDefEqProofs [hil, hi, hi', c33]) | (refine aw_drw mixd (fun K hK => ?_); simp -implicitDefEqProofs [hil, hi, hi', c33]) | refine hK _ ?_ | refine hK _ _ (by rfl) ?_ | (refine ar_call (cp hfn ?_); simp -implicitDefEqProofs [hil, hi, hi', c33]) | (refine ard_call (dp hfn ?_); simp -implicitDefEqProofs [hil, hi, hi', c33]) | fail)
    refine aw_ret (fin_ret ?_); simp -implicitDefEqProofs [FinP, resV, resT] <;> try rfl
  rw [if_neg c33]
  clear hfn
  by_cases c30 : x.k = 30
  · rw [if_pos c30]
    have hb12 := hb 12
    have hb11 := hb 11
    unfold badR at hb12 hb11 ⊢
    obtain ⟨q, hq⟩ : ∃ q, shpB (.mk x l) = q := ⟨_, rfl⟩
    rw [hq] at hsh ⊢
    clear hce hcc hq hb
    obtain ⟨mx, ml⟩ := m
    rw [Tr.kids] at hi
    simp only [Tr.kids] at hil hi'
    cases q with
    | false =>
      rw [if_pos rfl]
      refine row_of Try.func44 rfl rfl (Nat.le_of_ble_eq_true rfl) ?_
      repeat' (first | refine aw_seq ?_ | refine aw_skip ?_ | refine aw_block ?_ | refine aw_exit ?_ | refine aw_cond rfl (fun _ => ?_) (fun hb => absurd hb (by decide)) | refine aw_cond rfl (fun hb => absurd hb (by decide)) (fun _ => ?_) | (refine aw_reg (fun K hK => ?_); simp -implicitDefEqProofs [hil, hi, hi', c33, c30, w0]) | (refine aw_drw mixd (fun K hK => ?_); simp -implicitDefEqProofs [hil, hi, hi', c33, c30, w0]) | refine hK _ ?_ | refine hK _ _ (by rfl) ?_ | (refine ar_call (cp hsh ?_); simp -implicitDefEqProofs [hil, hi, hi', c33, c30, w0]) | (refine ard_call (dp hsh ?_); simp -implicitDefEqProofs [hil, hi, hi', c33, c30, w0]) | (refine ar_call (cp hb12 ?_); simp -implicitDefEqProofs [hil, hi, hi', c33, c30, w0]) | (refine ard_call (dp hb12 ?_); simp -implicitDefEqProofs [hil, hi, hi', c33, c30, w0]) | fail)
      refine aw_ret (fin_ret ?_); simp -implicitDefEqProofs [FinP, resV, resT] <;> try rfl
    | true =>
      rw [if_neg (by simp)]
      by_cases c0 : c = 0
      · rw [if_pos c0]
        refine row_of Try.func44 rfl rfl (Nat.le_of_ble_eq_true rfl) ?_
        repeat' (first | refine aw_seq ?_ | refine aw_skip ?_ | refine aw_block ?_ | refine aw_exit ?_ | refine aw_cond rfl (fun _ => ?_) (fun hb => absurd hb (by decide)) | refine aw_cond rfl (fun hb => absurd hb (by decide)) (fun _ => ?_) | (refine aw_reg (fun K hK => ?_); simp -implicitDefEqProofs [hil, hi, hi', c33, c30, w0, c0]) | (refine aw_drw mixd (fun K hK => ?_); simp -implicitDefEqProofs [hil, hi, hi', c33, c30, w0, c0]) | refine hK _ ?_ | refine hK _ _ (by rfl) ?_ | (refine ar_call (cp hsh ?_); simp -implicitDefEqProofs [hil, hi, hi', c33, c30, w0, c0]) | (refine ard_call (dp hsh ?_); simp -implicitDefEqProofs [hil, hi, hi', c33, c30, w0, c0]) | (refine ar_call (cp hcr ?_); simp -implicitDefEqProofs [hil, hi, hi', c33, c30, w0, c0]) | (refine ard_call (dp hcr ?_); simp -implicitDefEqProofs [hil, hi, hi', c33, c30, w0, c0]) | (refine ar_call (cp hb11 ?_); simp -implicitDefEqProofs [hil, hi, hi', c33, c30, w0, c0]) | (refine ard_call (dp hb11 ?_); simp -implicitDefEqProofs [hil, hi, hi', c33, c30, w0, c0]) | fail)
        refine aw_ret (fin_ret ?_); simp -implicitDefEqProofs [FinP, resV, resT] <;> try rfl
      · rw [if_neg c0]
        refine row_of Try.func44 rfl rfl (Nat.le_of_ble_eq_true rfl) ?_
        repeat' (first | refine aw_seq ?_ | refine aw_skip ?_ | refine aw_block ?_ | refine aw_exit ?_ | refine aw_cond rfl (fun _ => ?_) (fun hb => absurd hb (by decide)) | refine aw_cond rfl (fun hb => absurd hb (by decide)) (fun _ => ?_) | (refine aw_reg (fun K hK => ?_); simp -implicitDefEqProofs [hil, hi, hi', c33, c30, w0, c0]) | (refine aw_drw mixd (fun K hK => ?_); simp -implicitDefEqProofs [hil, hi, hi', c33, c30, w0, c0]) | refine hK _ ?_ | refine hK _ _ (by rfl) ?_ | (refine ar_call (cp hsh ?_); simp -implicitDefEqProofs [hil, hi, hi', c33, c30, w0, c0]) | (refine ard_call (dp hsh ?_); simp -implicitDefEqProofs [hil, hi, hi', c33, c30, w0, c0]) | (refine ar_call (cp hcr ?_); simp -implicitDefEqProofs [hil, hi, hi', c33, c30, w0, c0]) | (refine ard_call (dp hcr ?_); simp -implicitDefEqProofs [hil, hi, hi', c33, c30, w0, c0]) | (refine ar_call (cp hnm ?_); simp -implicitDefEqProofs [hil, hi, hi', c33, c30, w0, c0]) | (refine ard_call (dp hnm ?_); simp -implicitDefEqProofs [hil, hi, hi', c33, c30, w0, c0]) | fail)
        refine aw_ret (fin_ret ?_); simp -implicitDefEqProofs [FinP, resV, resT] <;> try rfl
  rw [if_neg c30]
  clear hsh hcr hcc
  by_cases c32 : x.k = 32 ∧ l.length = 1
  · rw [if_pos c32]
    obtain ⟨c32, l1⟩ := c32
    obtain ⟨⟨ax, al⟩, rfl⟩ := one_of l1
    have hs1 := Tr.size_at (x := x) (l := [Tr.mk ax al]) (i := 0) rfl
    have hca := hce (.mk ax al) (((Tr.all_mk _ _ _).1 hti).2 _ (by simp)) (by omega)
    have hba := rbad16_row ax al 11
    rw [show [Tr.mk ax al].getD 0 z0T = .mk ax al from rfl, Tr.lab]
    obtain ⟨q, hq⟩ : ∃ q, cels m (.mk ax al) = q := ⟨_, rfl⟩
    rw [hq] at hca ⊢
    unfold badR at hba ⊢
    clear hce hq hb
    obtain ⟨mx, ml⟩ := m
    rw [Tr.kids] at hi
    simp only [Tr.kids] at hil hi'
    by_cases c0 : q = 0
    · rw [if_pos c0]
      refine row_of Try.func44 rfl rfl (Nat.le_of_ble_eq_true rfl) ?_
      repeat' (first | refine aw_seq ?_ | refine aw_skip ?_ | refine aw_block ?_ | refine aw_exit ?_ | refine aw_cond rfl (fun _ => ?_) (fun hb => absurd hb (by decide)) | refine aw_cond rfl (fun hb => absurd hb (by decide)) (fun _ => ?_) | (refine aw_reg (fun K hK => ?_); simp -implicitDefEqProofs [hil, hi, hi', c32, c0]) | (refine aw_drw mixd (fun K hK => ?_); simp -implicitDefEqProofs [hil, hi, hi', c32, c0]) | refine hK _ ?_ | refine hK _ _ (by rfl) ?_ | (refine ar_call (cp hca ?_); simp -implicitDefEqProofs [hil, hi, hi', c32, c0]) | (refine ard_call (dp hca ?_); simp -implicitDefEqProofs [hil, hi, hi', c32, c0]) | (refine ar_call (cp hba ?_); simp -implicitDefEqProofs [hil, hi, hi', c32, c0]) | (refine ard_call (dp hba ?_); simp -implicitDefEqProofs [hil, hi, hi', c32, c0]) | fail)
      refine aw_ret (fin_ret ?_); simp -implicitDefEqProofs [FinP, resV, resT] <;> try rfl
    · rw [if_neg c0]
      refine row_of Try.func44 rfl rfl (Nat.le_of_ble_eq_true rfl) ?_
      repeat' (first | refine aw_seq ?_ | refine aw_skip ?_ | refine aw_block ?_ | refine aw_exit ?_ | refine aw_cond rfl (fun _ => ?_) (fun hb => absurd hb (by decide)) | refine aw_cond rfl (fun hb => absurd hb (by decide)) (fun _ => ?_) | (refine aw_reg (fun K hK => ?_); simp -implicitDefEqProofs [hil, hi, hi', c32, c0]) | (refine aw_drw mixd (fun K hK => ?_); simp -implicitDefEqProofs [hil, hi, hi', c32, c0]) | refine hK _ ?_ | refine hK _ _ (by rfl) ?_ | (refine ar_call (cp hca ?_); simp -implicitDefEqProofs [hil, hi, hi', c32, c0]) | (refine ard_call (dp hca ?_); simp -implicitDefEqProofs [hil, hi, hi', c32, c0]) | (refine ar_call (cp hnm ?_); simp -implicitDefEqProofs [hil, hi, hi', c32, c0]) | (refine ard_call (dp hnm ?_); simp -implicitDefEqProofs [hil, hi, hi', c32, c0]) | fail)
      refine aw_ret (fin_ret ?_); simp -implicitDefEqProofs [FinP, resV, resT] <;> try rfl
  rw [if_neg c32]
  clear hce
  have hb12 := hb 12
  clear hb
  have hgo : ∀ P : Prop, P ∨ ¬ P := Classical.em
  have c32' : ¬ x.k = 32 ∨ (x.k = 32 ∧ ¬ l.length = 1 ∧ ¬ (l.length : Int) = 1) := by
    by_cases h : x.k = 32
    · exact .inr ⟨h, fun g => c32 ⟨h, g⟩, fun g => c32 ⟨h, by omega⟩⟩
    · exact .inl h
  clear c32
  rcases c32' with c32 | ⟨c32, l1, l1'⟩; rotate_left
  · rw [if_pos (.inl (by omega))]
    unfold badR at hb12 ⊢
    obtain ⟨mx, ml⟩ := m
    rw [Tr.kids] at hi
    simp only [Tr.kids] at hil hi'
    refine row_of Try.func44 rfl rfl (Nat.le_of_ble_eq_true rfl) ?_
    repeat' (first | refine aw_seq ?_ | refine aw_skip ?_ | refine aw_block ?_ | refine aw_exit ?_ | refine aw_cond rfl (fun _ => ?_) (fun hb => absurd hb (by decide)) | refine aw_cond rfl (fun hb => absurd hb (by decide)) (fun _ => ?_) | (refine aw_reg (fun K hK => ?_); simp -implicitDefEqProofs [hil, hi, hi', c32, l1, l1']) | (refine aw_drw mixd (fun K hK => ?_); simp -implicitDefEqProofs [hil, hi, hi', c32, l1, l1']) | refine hK _ ?_ | refine hK _ _ (by rfl) ?_ | (refine ar_call (cp hb12 ?_); simp -implicitDefEqProofs [hil, hi, hi', c32, l1, l1']) | (refine ard_call (dp hb12 ?_); simp -implicitDefEqProofs [hil, hi, hi', c32, l1, l1']) | fail)
    refine aw_ret (fin_ret ?_); simp -implicitDefEqProofs [FinP, resV, resT] <;> try rfl
  by_cases c31 : x.k = 31; rotate_left
  · rw [if_pos (.inl c31)]
    unfold badR at hb12 ⊢
    obtain ⟨mx, ml⟩ := m
    rw [Tr.kids] at hi
    simp only [Tr.kids] at hil hi'
    refine row_of Try.func44 rfl rfl (Nat.le_of_ble_eq_true rfl) ?_
    repeat' (first | refine aw_seq ?_ | refine aw_skip ?_ | refine aw_block ?_ | refine aw_exit ?_ | refine aw_cond rfl (fun _ => ?_) (fun hb => absurd hb (by decide)) | refine aw_cond rfl (fun hb => absurd hb (by decide)) (fun _ => ?_) | (refine aw_reg (fun K hK => ?_); simp -implicitDefEqProofs [hil, hi, hi', c33, c30, c32, c31]) | (refine aw_drw mixd (fun K hK => ?_); simp -implicitDefEqProofs [hil, hi, hi', c33, c30, c32, c31]) | refine hK _ ?_ | refine hK _ _ (by rfl) ?_ | (refine ar_call (cp hb12 ?_); simp -implicitDefEqProofs [hil, hi, hi', c33, c30, c32, c31]) | (refine ard_call (dp hb12 ?_); simp -implicitDefEqProofs [hil, hi, hi', c33, c30, c32, c31]) | fail)
    refine aw_ret (fin_ret ?_); simp -implicitDefEqProofs [FinP, resV, resT] <;> try rfl
  by_cases l1 : l.length = 1; rotate_left
  · have l1' : ¬ (l.length : Int) = 1 := by omega
    rw [if_pos (.inr (.inl l1))]
    unfold badR at hb12 ⊢
    obtain ⟨mx, ml⟩ := m
    rw [Tr.kids] at hi
    simp only [Tr.kids] at hil hi'
    refine row_of Try.func44 rfl rfl (Nat.le_of_ble_eq_true rfl) ?_
    repeat' (first | refine aw_seq ?_ | refine aw_skip ?_ | refine aw_block ?_ | refine aw_exit ?_ | refine aw_cond rfl (fun _ => ?_) (fun hb => absurd hb (by decide)) | refine aw_cond rfl (fun hb => absurd hb (by decide)) (fun _ => ?_) | (refine aw_reg (fun K hK => ?_); simp -implicitDefEqProofs [hil, hi, hi', c31, l1, l1']) | (refine aw_drw mixd (fun K hK => ?_); simp -implicitDefEqProofs [hil, hi, hi', c31, l1, l1']) | refine hK _ ?_ | refine hK _ _ (by rfl) ?_ | (refine ar_call (cp hb12 ?_); simp -implicitDefEqProofs [hil, hi, hi', c31, l1, l1']) | (refine ard_call (dp hb12 ?_); simp -implicitDefEqProofs [hil, hi, hi', c31, l1, l1']) | fail)
    refine aw_ret (fin_ret ?_); simp -implicitDefEqProofs [FinP, resV, resT] <;> try rfl
  obtain ⟨⟨ax, al⟩, rfl⟩ := one_of l1
  rw [show [Tr.mk ax al].getD 0 z0T = .mk ax al from rfl, Tr.lab, Tr.kids]
  by_cases a0 : 0 < al.length
  · have a0' : (0 : Int) < (al.length : Int) := by omega
    rw [if_pos (.inr (.inr (.inl a0)))]
    unfold badR at hb12 ⊢
    obtain ⟨mx, ml⟩ := m
    rw [Tr.kids] at hi
    simp only [Tr.kids] at hil hi'
    refine row_of Try.func44 rfl rfl (Nat.le_of_ble_eq_true rfl) ?_
    repeat' (first | refine aw_seq ?_ | refine aw_skip ?_ | refine aw_block ?_ | refine aw_exit ?_ | refine aw_cond rfl (fun _ => ?_) (fun hb => absurd hb (by decide)) | refine aw_cond rfl (fun hb => absurd hb (by decide)) (fun _ => ?_) | (refine aw_reg (fun K hK => ?_); simp -implicitDefEqProofs [hil, hi, hi', c31, a0, a0']) | (refine aw_drw mixd (fun K hK => ?_); simp -implicitDefEqProofs [hil, hi, hi', c31, a0, a0']) | refine hK _ ?_ | refine hK _ _ (by rfl) ?_ | (refine ar_call (cp hb12 ?_); simp -implicitDefEqProofs [hil, hi, hi', c31, a0, a0']) | (refine ard_call (dp hb12 ?_); simp -implicitDefEqProofs [hil, hi, hi', c31, a0, a0']) | fail)
    refine aw_ret (fin_ret ?_); simp -implicitDefEqProofs [FinP, resV, resT] <;> try rfl
  have : al = [] := List.eq_nil_of_length_eq_zero (by omega)
  subst this
  have hlt := rlit_row (.mk ax [])
  have hlk := litT_k (.mk ax [])
  rw [Tr.lab] at hlk
  obtain ⟨⟨ux, ul⟩, hu⟩ : ∃ g, litT (.mk ax []) = g := ⟨_, rfl⟩
  rw [hu] at hlt hlk ⊢
  rw [Tr.lab] at hlk ⊢
  clear hu
  by_cases c0 : ux.k = 0
  · rw [if_pos (.inr (.inr (.inr (.inl c0))))]
    unfold badR at hb12 ⊢
    obtain ⟨mx, ml⟩ := m
    rw [Tr.kids] at hi
    simp only [Tr.kids] at hil hi'
    refine row_of Try.func44 rfl rfl (Nat.le_of_ble_eq_true rfl) ?_
    repeat' (first | refine aw_seq ?_ | refine aw_skip ?_ | refine aw_block ?_ | refine aw_exit ?_ | refine aw_cond rfl (fun _ => ?_) (fun hb => absurd hb (by decide)) | refine aw_cond rfl (fun hb => absurd hb (by decide)) (fun _ => ?_) | (refine aw_reg (fun K hK => ?_); simp -implicitDefEqProofs [hil, hi, hi', c31, c0]) | (refine aw_drw mixd (fun K hK => ?_); simp -implicitDefEqProofs [hil, hi, hi', c31, c0]) | refine hK _ ?_ | refine hK _ _ (by rfl) ?_ | (refine ar_call (cp hlt ?_); simp -implicitDefEqProofs [hil, hi, hi', c31, c0]) | (refine ard_call (dp hlt ?_); simp -implicitDefEqProofs [hil, hi, hi', c31, c0]) | (refine ar_call (cp hb12 ?_); simp -implicitDefEqProofs [hil, hi, hi', c31, c0]) | (refine ard_call (dp hb12 ?_); simp -implicitDefEqProofs [hil, hi, hi', c31, c0]) | fail)
    refine aw_ret (fin_ret ?_); simp -implicitDefEqProofs [FinP, resV, resT] <;> try rfl
  clear hlk
  by_cases c6 : ax.k = 6; rotate_left
  · rw [if_neg (by simp [c31, c0, c6])]
    obtain ⟨mx, ml⟩ := m
    rw [Tr.kids] at hi
    simp only [Tr.kids] at hil hi'
    refine row_of Try.func44 rfl rfl (Nat.le_of_ble_eq_true rfl) ?_
    repeat' (first | refine aw_seq ?_ | refine aw_skip ?_ | refine aw_block ?_ | refine aw_exit ?_ | refine aw_cond rfl (fun _ => ?_) (fun hb => absurd hb (by decide)) | refine aw_cond rfl (fun hb => absurd hb (by decide)) (fun _ => ?_) | (refine aw_reg (fun K hK => ?_); simp -implicitDefEqProofs [hil, hi, hi', c31, c0, c6]) | (refine aw_drw mixd (fun K hK => ?_); simp -implicitDefEqProofs [hil, hi, hi', c31, c0, c6]) | refine hK _ ?_ | refine hK _ _ (by rfl) ?_ | (refine ar_call (cp hlt ?_); simp -implicitDefEqProofs [hil, hi, hi', c31, c0, c6]) | (refine ard_call (dp hlt ?_); simp -implicitDefEqProofs [hil, hi, hi', c31, c0, c6]) | (refine ar_call (cp hnm ?_); simp -implicitDefEqProofs [hil, hi, hi', c31, c0, c6]) | (refine ard_call (dp hnm ?_); simp -implicitDefEqProofs [hil, hi, hi', c31, c0, c6]) | fail)
    refine aw_ret (fin_ret ?_); simp -implicitDefEqProofs [FinP, resV, resT] <;> try rfl
  by_cases n0 : ax.n = 0
  · rw [if_neg (by simp [c31, c0, c6, n0])]
    obtain ⟨mx, ml⟩ := m
    rw [Tr.kids] at hi
    simp only [Tr.kids] at hil hi'
    refine row_of Try.func44 rfl rfl (Nat.le_of_ble_eq_true rfl) ?_
    repeat' (first | refine aw_seq ?_ | refine aw_skip ?_ | refine aw_block ?_ | refine aw_exit ?_ | refine aw_cond rfl (fun _ => ?_) (fun hb => absurd hb (by decide)) | refine aw_cond rfl (fun hb => absurd hb (by decide)) (fun _ => ?_) | (refine aw_reg (fun K hK => ?_); simp -implicitDefEqProofs [hil, hi, hi', c31, c0, c6, n0]) | (refine aw_drw mixd (fun K hK => ?_); simp -implicitDefEqProofs [hil, hi, hi', c31, c0, c6, n0]) | refine hK _ ?_ | refine hK _ _ (by rfl) ?_ | (refine ar_call (cp hlt ?_); simp -implicitDefEqProofs [hil, hi, hi', c31, c0, c6, n0]) | (refine ard_call (dp hlt ?_); simp -implicitDefEqProofs [hil, hi, hi', c31, c0, c6, n0]) | (refine ar_call (cp hnm ?_); simp -implicitDefEqProofs [hil, hi, hi', c31, c0, c6, n0]) | (refine ard_call (dp hnm ?_); simp -implicitDefEqProofs [hil, hi, hi', c31, c0, c6, n0]) | fail)
    refine aw_ret (fin_ret ?_); simp -implicitDefEqProofs [FinP, resV, resT] <;> try rfl
  by_cases n1 : ax.n = 1
  · rw [if_neg (by simp [c31, c0, c6, n1])]
    obtain ⟨mx, ml⟩ := m
    rw [Tr.kids] at hi
    simp only [Tr.kids] at hil hi'
    refine row_of Try.func44 rfl rfl (Nat.le_of_ble_eq_true rfl) ?_
    repeat' (first | refine aw_seq ?_ | refine aw_skip ?_ | refine aw_block ?_ | refine aw_exit ?_ | refine aw_cond rfl (fun _ => ?_) (fun hb => absurd hb (by decide)) | refine aw_cond rfl (fun hb => absurd hb (by decide)) (fun _ => ?_) | (refine aw_reg (fun K hK => ?_); simp -implicitDefEqProofs [hil, hi, hi', c31, c0, c6, n1]) | (refine aw_drw mixd (fun K hK => ?_); simp -implicitDefEqProofs [hil, hi, hi', c31, c0, c6, n1]) | refine hK _ ?_ | refine hK _ _ (by rfl) ?_ | (refine ar_call (cp hlt ?_); simp -implicitDefEqProofs [hil, hi, hi', c31, c0, c6, n1]) | (refine ard_call (dp hlt ?_); simp -implicitDefEqProofs [hil, hi, hi', c31, c0, c6, n1]) | (refine ar_call (cp hnm ?_); simp -implicitDefEqProofs [hil, hi, hi', c31, c0, c6, n1]) | (refine ard_call (dp hnm ?_); simp -implicitDefEqProofs [hil, hi, hi', c31, c0, c6, n1]) | fail)
    refine aw_ret (fin_ret ?_); simp -implicitDefEqProofs [FinP, resV, resT] <;> try rfl
  · rw [if_pos (.inr (.inr (.inr (.inr ⟨c6, n0, n1⟩))))]
    unfold badR at hb12 ⊢
    obtain ⟨mx, ml⟩ := m
    rw [Tr.kids] at hi
    simp only [Tr.kids] at hil hi'
    refine row_of Try.func44 rfl rfl (Nat.le_of_ble_eq_true rfl) ?_
    repeat' (first | refine aw_seq ?_ | refine aw_skip ?_ | refine aw_block ?_ | refine aw_exit ?_ | refine aw_cond rfl (fun _ => ?_) (fun hb => absurd hb (by decide)) | refine aw_cond rfl (fun hb => absurd hb (by decide)) (fun _ => ?_) | (refine aw_reg (fun K hK => ?_); simp -implicitDefEqProofs [hil, hi, hi', c31, c0, c6, n0, n1]) | (refine aw_drw mixd (fun K hK => ?_); simp -implicitDefEqProofs [hil, hi, hi', c31, c0, c6, n0, n1]) | refine hK _ ?_ | refine hK _ _ (by rfl) ?_ | (refine ar_call (cp hlt ?_); simp -implicitDefEqProofs [hil, hi, hi', c31, c0, c6, n0, n1]) | (refine ard_call (dp hlt ?_); simp -implicitDefEqProofs [hil, hi, hi', c31, c0, c6, n0, n1]) | (refine ar_call (cp hb12 ?_); simp -implicitDefEqProofs [hil, hi, hi', c31, c0, c6, n0, n1]) | (refine ard_call (dp hb12 ?_); simp -implicitDefEqProofs [hil, hi, hi', c31, c0, c6, n0, n1]) | fail)
    refine aw_ret (fin_ret ?_); simp -implicitDefEqProofs [FinP, resV, resT] <;> try rfl
theorem decsT_get (m : VT) : ∀ (l : List VT) (i k : Nat), (decsT m i l)[k]? = (l[k]?).map (decT m (i + k))
  | [], i, k => by simp [decsT]
  | y :: r, i, 0 => by simp [decsT]
  | y :: r, i, k + 1 => by
    rw [decsT, List.getElem?_cons_succ, decsT_get m r (i + 1) k, List.getElem?_cons_succ, show i + 1 + k = i + (k + 1) by omega]
theorem decsT_len (m : VT) : ∀ (l : List VT) (i : Nat), (decsT m i l).length = l.length
  | [], i => rfl
  | y :: r, i => by rw [decsT, List.length_cons, decsT_len m r, List.length_cons]
noncomputable abbrev vTIE (g : GR) : AV := .tup [.agg (ta g.t), .c (.pv (I g.pl)), .c (.pv (I g.er))]
set_option maxRecDepth 100000 in
set_option maxHeartbeats 4000000 in
theorem rmodule_row (m : VT) (hm : in64 m) (hms : m.size ≤ 100000) : Row Try.prog 23 [vT m] [] (vTIE (modR m)) [] := by
  have hde := fun i t h => rdecl_row m hm hms i t h
  obtain ⟨x, l⟩ := m
  have hlen := Tr.len_size (x := x) (l := l)
  by_cases c36 : x.k = 36; rotate_left
  · rw [show modR (.mk x l) = badR x 12 by unfold modR; exact if_pos c36]
    unfold badR
    clear hde
    refine row_of Try.func23 rfl rfl (Nat.le_of_ble_eq_true rfl) ?_
    repeat (first | refine aw_seq ?_ | refine aw_skip ?_ | refine aw_block ?_ | refine aw_exit ?_ | refine aw_cond rfl (fun _ => ?_) (fun hb => absurd hb (by decide)) | refine aw_cond rfl (fun hb => absurd hb (by decide)) (fun _ => ?_) | (refine aw_reg (fun K hK => ?_); simp -implicitDefEqProofs [c36]; refine hK _ ?_) | (refine aw_drw mixd (fun K hK => ?_); simp -implicitDefEqProofs [c36]; refine hK _ _ (by rfl) ?_) | fail)
    refine aw_ret (fin_ret ?_); simp -implicitDefEqProofs [FinP, resV, resT] <;> try rfl
  obtain ⟨F, hF⟩ : ∃ F, modR (.mk x l) = F := ⟨_, rfl⟩
  rw [hF]
  have hF2 : (match (decsT (.mk x l) 0 l).find? (fun g => !decide (g.er = 0)) with
    | some g => ⟨z0T, g.pl, g.er⟩
    | none => ⟨.mk ⟨x.k, x.n, ⟨#[]⟩, 0, 0⟩ ((decsT (.mk x l) 0 l).map GR.t), 0, 0⟩ : GR) = F := by
    rw [← hF]
    unfold modR
    exact (if_neg (fun h => h c36)).symm
  obtain ⟨P, hP⟩ : ∃ P, decsT (.mk x l) 0 l = P := ⟨_, rfl⟩
  have hPg : ∀ (k : Nat) y, l[k]? = some y → P[k]? = some (decT (.mk x l) k y) := fun k y hy => by
    rw [← hP, decsT_get, hy, Nat.zero_add]; rfl
  have hPl : P.length = l.length := by rw [← hP, decsT_len]
  rw [hP] at hF2
  have hat : ∀ (k : Nat) y, l[k]? = some y → ¬ (decT (.mk x l) k y).er = 0 → (∀ g ∈ P.take k, g.er = 0) → F = ⟨z0T, (decT (.mk x l) k y).pl, (decT (.mk x l) k y).er⟩ := by
    intro k y hy he hno
    rw [← hF2, find_at (k := k) (hPg k y hy) (by simpa using he) (fun g hg => by simpa using hno g hg)]
  obtain ⟨Q, hQ⟩ : ∃ Q : List VT, P.map GR.t = Q := ⟨_, rfl⟩
  have hend : (∀ g ∈ P, g.er = 0) → F = ⟨.mk ⟨x.k, x.n, ⟨#[]⟩, 0, 0⟩ Q, 0, 0⟩ := by
    intro hno
    rw [← hF2, List.find?_eq_none.2 (fun g hg => by simpa using hno g hg), ← hQ]
  have hQl : Q.length = l.length := by rw [← hQ, List.length_map, hPl]
  have hQk : ∀ (k : Nat) y, l[k]? = some y → Q.take (k + 1) = Q.take k ++ [(decT (.mk x l) k y).t] := fun k y h => by
    rw [List.take_add_one, ← hQ, List.getElem?_map, hPg k y h]; rfl
  have hPk : ∀ (k : Nat) y, l[k]? = some y → P.take (k + 1) = P.take k ++ [decT (.mk x l) k y] := fun k y h => by
    rw [List.take_add_one, hPg k y h]; rfl
  clear hF hF2 hP hQ hPg
  refine row_of Try.func23 rfl rfl (Nat.le_of_ble_eq_true rfl) ?_
  repeat (first | refine aw_seq ?_ | refine aw_skip ?_ | refine aw_block ?_ | refine aw_exit ?_ | refine aw_cond rfl (fun _ => ?_) (fun hb => absurd hb (by decide)) | refine aw_cond rfl (fun hb => absurd hb (by decide)) (fun _ => ?_) | (refine aw_reg (fun K hK => ?_); simp -implicitDefEqProofs [c36]; refine hK _ ?_) | (refine aw_drw mixd (fun K hK => ?_); simp -implicitDefEqProofs [c36]; refine hK _ _ (by rfl) ?_) | fail)
  refine aw_lp (ι := Nat) (fun k => mkSt [(1, .v (.c (.ptr 0 0))), (2, .v (.c (.ptr 1 0))), (5, .v (.c (.ptr 2 0))), (6, vI (k : Nat))] [some (.box (ta (.mk x l))), some (.box (ta z0T)), some (.box [.pv (I x.k), .pv (I x.n), .pv (Sx ⟨#[]⟩), .row 3 6 ((Q.take k).map tc), .pv (I 0), .pv (I 0)]), some (.row 24 6)]) (fun k => k ≤ l.length ∧ ∀ g ∈ P.take k, g.er = 0) (fun k => l.length - k) 0 ⟨Nat.zero_le _, by simp⟩ (cov_intro [0, 1, 13, 11] (by simp -implicitDefEqProofs [c36]) (by simp -implicitDefEqProofs [c36]) (by decide) rfl (by simp)) (fun Z hI k hk => ?_)
  obtain ⟨hk, hz⟩ := hk
  by_cases hkl : k < l.length; rotate_left
  · have : k = l.length := by omega
    subst this
    rw [List.take_of_length_le (by omega)] at hz
    have hF := hend hz
    subst hF
    have e2 : Q.take l.length = Q := List.take_of_length_le (by omega)
    rw [e2]
    clear hat hend hPk hQk hde
    repeat (first | refine aw_seq ?_ | refine aw_skip ?_ | refine aw_block ?_ | refine aw_exit ?_ | refine aw_cond rfl (fun _ => ?_) (fun hb => absurd hb (by decide)) | refine aw_cond rfl (fun hb => absurd hb (by decide)) (fun _ => ?_) | (refine aw_reg (fun K hK => ?_); simp -implicitDefEqProofs; refine hK _ ?_) | (refine aw_drw mixd (fun K hK => ?_); simp -implicitDefEqProofs; refine hK _ _ (by rfl) ?_) | fail)
    refine aw_ret (fin_ret ?_); simp -implicitDefEqProofs [FinP, resV, resT] <;> try rfl
  obtain ⟨y, ha⟩ : ∃ a, l[k]? = some a := ⟨_, List.getElem?_eq_getElem hkl⟩
  have hc := hde k y ha
  have w2 : IntKind.i64.wrap ((k : Nat) + 1 : Int) = (k : Nat) + 1 := i64i _ (by omega) (by omega)
  have hs := hQk k _ ha
  have hpk := hPk k _ ha
  have hto := hat k y ha
  have hQkl : (Q.take k).length = k := by rw [List.length_take]; omega
  obtain ⟨QK, hQK⟩ : ∃ QK, Q.take k = QK := ⟨_, rfl⟩
  obtain ⟨⟨⟨bx, bl⟩, gp, ge⟩, hG⟩ : ∃ g, decT (.mk x l) k y = g := ⟨_, rfl⟩
  rw [hG] at hc hs hpk hto
  rw [hQK] at hs hQkl ⊢
  clear hG hQK hat hend hPk hQk hde
  have b1 : (k + 1) * 72 ≤ 140737488355328 := by omega
  have b2 : k + 1 ≤ 140737488355328 := by omega
  by_cases he : ge = 0
  · subst he
    repeat' (first | refine aw_seq ?_ | refine aw_skip ?_ | refine aw_block ?_ | refine aw_exit ?_ | refine aw_cond rfl (fun _ => ?_) (fun hb => absurd hb (by decide)) | refine aw_cond rfl (fun hb => absurd hb (by decide)) (fun _ => ?_) | (refine aw_reg (fun K hK => ?_); simp -implicitDefEqProofs [hkl, hQkl, b1, b2, w2]) | (refine aw_drw mixd (fun K hK => ?_); simp -implicitDefEqProofs [hkl, hQkl, b1, b2, w2]) | refine hK _ ?_ | refine hK _ _ (by rfl) ?_ | (refine ar_call (cp hc ?_); simp -implicitDefEqProofs [hkl, hQkl, b1, b2, w2]) | (refine ard_call (dp hc ?_); simp -implicitDefEqProofs [hkl, hQkl, b1, b2, w2]) | fail)
    refine ⟨k + 1, ⟨by omega, fun g hg => ?_⟩, (by dsimp only; omega), ?_⟩
    · rw [hpk] at hg
      rcases List.mem_append.1 hg with hg | hg
      · exact hz g hg
      · simp at hg; subst hg; rfl
    · rw [hI, hs]; exact cov_intro [0, 1, 2, 29] (by simp -implicitDefEqProofs) (by simp -implicitDefEqProofs) (by decide) rfl (by simp)
  · have hF := hto he hz
    subst hF
    repeat' (first | refine aw_seq ?_ | refine aw_skip ?_ | refine aw_block ?_ | refine aw_exit ?_ | refine aw_cond rfl (fun _ => ?_) (fun hb => absurd hb (by decide)) | refine aw_cond rfl (fun hb => absurd hb (by decide)) (fun _ => ?_) | (refine aw_reg (fun K hK => ?_); simp -implicitDefEqProofs [hkl, he]) | (refine aw_drw mixd (fun K hK => ?_); simp -implicitDefEqProofs [hkl, he]) | refine hK _ ?_ | refine hK _ _ (by rfl) ?_ | (refine ar_call (cp hc ?_); simp -implicitDefEqProofs [hkl, he]) | (refine ard_call (dp hc ?_); simp -implicitDefEqProofs [hkl, he]) | fail)
    refine aw_ret (fin_ret ?_); simp -implicitDefEqProofs [FinP, resV, resT] <;> try rfl
theorem decT_size (m : VT) (i : Nat) (t : VT) : (decT m i t).t.size ≤ t.size := by
  have hn : (nmlT t).size ≤ t.size := by rw [nmlT_size]; exact Nat.le_refl _
  obtain ⟨x, l⟩ := t
  unfold decT
  rw [Tr.lab, Tr.kids]
  split
  · unfold fnT
    split
    · exact badR_size _ _ _
    · rename_i hno
      split
      · exact badR_size _ _ _
      · split
        · exact badR_size _ _ _
        · have h3 : l.length = 3 := Classical.byContradiction fun h => hno (.inr (.inl h))
          obtain ⟨a, b, c, rfl⟩ := three_of h3
          rw [show [a, b, c].getD 0 z0T = a from rfl, show [a, b, c].getD 1 z0T = b from rfl, show [a, b, c].getD 2 z0T = c from rfl]
          have hs := stmT_size m b c (typsT (.mk x [a, b, c]))
          split
          · rw [Tr.size_mk, Tr.size_mk]
            simp only [List.map_cons, List.map_nil, List.sum_cons, List.sum_nil, nmlT_size]
            omega
          · have := kid_lt (x := x) (l := [a, b, c]) (y := c) (by simp)
            omega
  · split
    · split
      · exact badR_size _ _ _
      · split
        · exact badR_size _ _ _
        · exact hn
    · split
      · split
        · exact badR_size _ _ _
        · exact hn
      · split
        · exact badR_size _ _ _
        · exact hn
theorem decsT_size (m : VT) : ∀ (l : List VT) (i : Nat), (((decsT m i l).map GR.t).map Tr.size).sum ≤ (l.map Tr.size).sum
  | [], i => by simp [decsT]
  | y :: r, i => by
    rw [decsT]
    simp only [List.map_cons, List.sum_cons]
    have h1 := decT_size m i y
    have h2 := decsT_size m r (i + 1)
    omega
theorem modR_size (m : VT) : (modR m).t.size ≤ m.size := by
  unfold modR
  split
  · exact badR_size _ _ _
  · split
    · show z0T.size ≤ _
      have := Tr.size_pos m
      rw [show z0T.size = 1 by simp [Tr.size_mk]]; exact this
    · show (Tr.mk _ _).size ≤ _
      obtain ⟨x, l⟩ := m
      rw [Tr.size_mk, Tr.size_mk]
      exact Nat.add_le_add_left (decsT_size _ l 0) 1
noncomputable def rgtB (m : VT) : Bool := decide ((modR m).er = 0) && plac (modR m).t m
set_option maxRecDepth 100000 in
set_option maxHeartbeats 4000000 in
theorem rright_row (m : VT) (hm : in64 m) (hms : m.size ≤ 100000) : Row Try.prog 8 [vT m] [] (vB (rgtB m)) [] := by
  have hmo := rmodule_row m hm hms
  have hpl := rplac_row (modR m).t (by have := modR_size m; omega) m (by omega)
  unfold rgtB
  obtain ⟨⟨⟨ax, al⟩, gp, ge⟩, hG⟩ : ∃ g, modR m = g := ⟨_, rfl⟩
  rw [hG] at hmo hpl ⊢
  dsimp only at hpl ⊢
  obtain ⟨q, hq⟩ : ∃ q, plac (.mk ax al) m = q := ⟨_, rfl⟩
  rw [hq] at hpl ⊢
  clear hG hq
  obtain ⟨x, l⟩ := m
  by_cases he : ge = 0
  · subst he
    refine row_of Try.func8 rfl rfl (Nat.le_of_ble_eq_true rfl) ?_
    repeat' (first | refine aw_seq ?_ | refine aw_skip ?_ | refine aw_block ?_ | refine aw_exit ?_ | refine aw_cond rfl (fun _ => ?_) (fun hb => absurd hb (by decide)) | refine aw_cond rfl (fun hb => absurd hb (by decide)) (fun _ => ?_) | (refine aw_reg (fun K hK => ?_); simp -implicitDefEqProofs) | (refine aw_drw mixd (fun K hK => ?_); simp -implicitDefEqProofs) | refine hK _ ?_ | refine hK _ _ (by rfl) ?_ | (refine ar_call (cp hmo ?_); simp -implicitDefEqProofs) | (refine ard_call (dp hmo ?_); simp -implicitDefEqProofs) | (refine ar_call (cp hpl ?_); simp -implicitDefEqProofs) | (refine ard_call (dp hpl ?_); simp -implicitDefEqProofs) | fail)
    refine aw_ret (fin_ret ?_); simp -implicitDefEqProofs [FinP, resV, resT] <;> try rfl
  · refine row_of Try.func8 rfl rfl (Nat.le_of_ble_eq_true rfl) ?_
    repeat' (first | refine aw_seq ?_ | refine aw_skip ?_ | refine aw_block ?_ | refine aw_exit ?_ | refine aw_cond rfl (fun _ => ?_) (fun hb => absurd hb (by decide)) | refine aw_cond rfl (fun hb => absurd hb (by decide)) (fun _ => ?_) | (refine aw_reg (fun K hK => ?_); simp -implicitDefEqProofs [he]) | (refine aw_drw mixd (fun K hK => ?_); simp -implicitDefEqProofs [he]) | refine hK _ ?_ | refine hK _ _ (by rfl) ?_ | (refine ar_call (cp hmo ?_); simp -implicitDefEqProofs [he]) | (refine ard_call (dp hmo ?_); simp -implicitDefEqProofs [he]) | (refine ar_call (cp hpl ?_); simp -implicitDefEqProofs [he]) | (refine ard_call (dp hpl ?_); simp -implicitDefEqProofs [he]) | fail)
    refine aw_ret (fin_ret ?_); simp -implicitDefEqProofs [FinP, resV, resT, he] <;> try rfl
end Go.Proofs.Ytjjnboenehomgaa.am
end
section
namespace Go.Proofs.Ytjjnboenehomgaa.vt
open Go.Proofs.Ytjjnboenehomgaa.am
set_option linter.unusedVariables false
def divB (x : Lab) (l : List VT) : Bool := (decide (x.n = 12) || decide (x.n = 13)) && (match l[1]? with | some b => !decide (b.lab.k = 5) || decide (b.lab.n = 0) | none => true)
def plK (k : Int) : Bool := decide (k = 5) || decide (k = 6) || decide (k = 7) || decide (k = 8) || decide (k = 9) || decide (k = 11) || decide (k = 13) || decide (k = 14) || decide (k = 15)
def okK (x : Lab) (l : List VT) : Bool := if x.k = 10 then !divB x l else plK x.k
noncomputable def quT (t : VT) : Bool := Tr.fold (fun x l bs => okK x l && bs.all id) t
theorem quT_mk (x : Lab) (l : List VT) : quT (.mk x l) = (okK x l && l.all quT) := by
  unfold quT; rw [Tr.fold_mk, List.all_map]; rfl
end Go.Proofs.Ytjjnboenehomgaa.vt
end
section
namespace Go.Proofs.Ytjjnboenehomgaa.am
open Go.ChangeShapes Go.WideShapes Go.ChangeAt Go.RowKit
open vt
set_option linter.unusedVariables false
set_option linter.unusedSimpArgs false
set_option maxRecDepth 100000 in
set_option maxHeartbeats 4000000 in
theorem divides_row (x : Lab) (l : List VT) (hl : l.length ≤ 1000000) : Row Try.prog 106 [vT (.mk x l)] [] (vB (divB x l)) [] := by
  have c1 : (1 : Nat) < l.length ↔ ¬ (l.length : Int) < 2 := by omega
  by_cases hn : x.n = 12 ∨ x.n = 13; rotate_left
  · have h12 : ¬ x.n = 12 := fun h => hn (.inl h)
    have h13 : ¬ x.n = 13 := fun h => hn (.inr h)
    rw [show divB x l = false by simp [divB, h12, h13]]
    refine row_of Try.func106 rfl rfl (Nat.le_of_ble_eq_true rfl) ?_
    repeat (first | refine aw_seq ?_ | refine aw_skip ?_ | refine aw_block ?_ | refine aw_exit ?_ | refine aw_cond rfl (fun _ => ?_) (fun hb => absurd hb (by decide)) | refine aw_cond rfl (fun hb => absurd hb (by decide)) (fun _ => ?_) | (refine aw_reg (fun K hK => ?_); simp -implicitDefEqProofs [h12, h13]; refine hK _ ?_) | (refine aw_drw mixd (fun K hK => ?_); simp -implicitDefEqProofs [h12, h13]; refine hK _ _ (by rfl) ?_) | fail)
    refine aw_ret (fin_ret ?_); simp -implicitDefEqProofs [FinP, resV, resT] <;> try rfl
  have hd : divB x l = (match l[1]? with | some b => !decide (b.lab.k = 5) || decide (b.lab.n = 0) | none => true) := by
    unfold divB; rcases hn with h | h <;> simp [h] <;> rfl
  rw [hd]
  clear hd
  by_cases h2 : (l.length : Int) < 2
  · have e : l[1]? = none := List.getElem?_eq_none (by omega)
    rw [e]
    rcases hn with h | h
    · refine row_of Try.func106 rfl rfl (Nat.le_of_ble_eq_true rfl) ?_
      repeat (first | refine aw_seq ?_ | refine aw_skip ?_ | refine aw_block ?_ | refine aw_exit ?_ | refine aw_cond rfl (fun _ => ?_) (fun hb => absurd hb (by decide)) | refine aw_cond rfl (fun hb => absurd hb (by decide)) (fun _ => ?_) | (refine aw_reg (fun K hK => ?_); simp -implicitDefEqProofs [h, h2]; refine hK _ ?_) | (refine aw_drw mixd (fun K hK => ?_); simp -implicitDefEqProofs [h, h2]; refine hK _ _ (by rfl) ?_) | fail)
      refine aw_ret (fin_ret ?_); simp -implicitDefEqProofs [FinP, resV, resT] <;> try rfl
    · refine row_of Try.func106 rfl rfl (Nat.le_of_ble_eq_true rfl) ?_
      repeat (first | refine aw_seq ?_ | refine aw_skip ?_ | refine aw_block ?_ | refine aw_exit ?_ | refine aw_cond rfl (fun _ => ?_) (fun hb => absurd hb (by decide)) | refine aw_cond rfl (fun hb => absurd hb (by decide)) (fun _ => ?_) | (refine aw_reg (fun K hK => ?_); simp -implicitDefEqProofs [h, h2]; refine hK _ ?_) | (refine aw_drw mixd (fun K hK => ?_); simp -implicitDefEqProofs [h, h2]; refine hK _ _ (by rfl) ?_) | fail)
      refine aw_ret (fin_ret ?_); simp -implicitDefEqProofs [FinP, resV, resT] <;> try rfl
  have h1 := c1.2 h2
  obtain ⟨⟨bx, bl⟩, hb⟩ : ∃ b, l[1]? = some b := ⟨_, List.getElem?_eq_getElem h1⟩
  have hb' := (List.getElem?_eq_some_iff.1 hb).2
  rw [hb]
  by_cases h5 : bx.k = 5
  · by_cases h0 : bx.n = 0
    · rcases hn with h | h
      · refine row_of Try.func106 rfl rfl (Nat.le_of_ble_eq_true rfl) ?_
        repeat (first | refine aw_seq ?_ | refine aw_skip ?_ | refine aw_block ?_ | refine aw_exit ?_ | refine aw_cond rfl (fun _ => ?_) (fun hb => absurd hb (by decide)) | refine aw_cond rfl (fun hb => absurd hb (by decide)) (fun _ => ?_) | (refine aw_reg (fun K hK => ?_); simp -implicitDefEqProofs [h, h2, h1, hb, hb', h5, h0]; refine hK _ ?_) | (refine aw_drw mixd (fun K hK => ?_); simp -implicitDefEqProofs [h, h2, h1, hb, hb', h5, h0]; refine hK _ _ (by rfl) ?_) | fail)
        refine aw_ret (fin_ret ?_); simp -implicitDefEqProofs [FinP, resV, resT, Tr.lab, h5, h0] <;> try rfl
      · refine row_of Try.func106 rfl rfl (Nat.le_of_ble_eq_true rfl) ?_
        repeat (first | refine aw_seq ?_ | refine aw_skip ?_ | refine aw_block ?_ | refine aw_exit ?_ | refine aw_cond rfl (fun _ => ?_) (fun hb => absurd hb (by decide)) | refine aw_cond rfl (fun hb => absurd hb (by decide)) (fun _ => ?_) | (refine aw_reg (fun K hK => ?_); simp -implicitDefEqProofs [h, h2, h1, hb, hb', h5, h0]; refine hK _ ?_) | (refine aw_drw mixd (fun K hK => ?_); simp -implicitDefEqProofs [h, h2, h1, hb, hb', h5, h0]; refine hK _ _ (by rfl) ?_) | fail)
        refine aw_ret (fin_ret ?_); simp -implicitDefEqProofs [FinP, resV, resT, Tr.lab, h5, h0] <;> try rfl
    · rcases hn with h | h
      · refine row_of Try.func106 rfl rfl (Nat.le_of_ble_eq_true rfl) ?_
        repeat (first | refine aw_seq ?_ | refine aw_skip ?_ | refine aw_block ?_ | refine aw_exit ?_ | refine aw_cond rfl (fun _ => ?_) (fun hb => absurd hb (by decide)) | refine aw_cond rfl (fun hb => absurd hb (by decide)) (fun _ => ?_) | (refine aw_reg (fun K hK => ?_); simp -implicitDefEqProofs [h, h2, h1, hb, hb', h5, h0]; refine hK _ ?_) | (refine aw_drw mixd (fun K hK => ?_); simp -implicitDefEqProofs [h, h2, h1, hb, hb', h5, h0]; refine hK _ _ (by rfl) ?_) | fail)
        refine aw_ret (fin_ret ?_); simp -implicitDefEqProofs [FinP, resV, resT, Tr.lab, h5, h0] <;> try rfl
      · refine row_of Try.func106 rfl rfl (Nat.le_of_ble_eq_true rfl) ?_
        repeat (first | refine aw_seq ?_ | refine aw_skip ?_ | refine aw_block ?_ | refine aw_exit ?_ | refine aw_cond rfl (fun _ => ?_) (fun hb => absurd hb (by decide)) | refine aw_cond rfl (fun hb => absurd hb (by decide)) (fun _ => ?_) | (refine aw_reg (fun K hK => ?_); simp -implicitDefEqProofs [h, h2, h1, hb, hb', h5, h0]; refine hK _ ?_) | (refine aw_drw mixd (fun K hK => ?_); simp -implicitDefEqProofs [h, h2, h1, hb, hb', h5, h0]; refine hK _ _ (by rfl) ?_) | fail)
        refine aw_ret (fin_ret ?_); simp -implicitDefEqProofs [FinP, resV, resT, Tr.lab, h5, h0] <;> try rfl
  · rcases hn with h | h
    · refine row_of Try.func106 rfl rfl (Nat.le_of_ble_eq_true rfl) ?_
      repeat (first | refine aw_seq ?_ | refine aw_skip ?_ | refine aw_block ?_ | refine aw_exit ?_ | refine aw_cond rfl (fun _ => ?_) (fun hb => absurd hb (by decide)) | refine aw_cond rfl (fun hb => absurd hb (by decide)) (fun _ => ?_) | (refine aw_reg (fun K hK => ?_); simp -implicitDefEqProofs [h, h2, h1, hb, hb', h5]; refine hK _ ?_) | (refine aw_drw mixd (fun K hK => ?_); simp -implicitDefEqProofs [h, h2, h1, hb, hb', h5]; refine hK _ _ (by rfl) ?_) | fail)
      refine aw_ret (fin_ret ?_); simp -implicitDefEqProofs [FinP, resV, resT, Tr.lab, h5] <;> try rfl
    · refine row_of Try.func106 rfl rfl (Nat.le_of_ble_eq_true rfl) ?_
      repeat (first | refine aw_seq ?_ | refine aw_skip ?_ | refine aw_block ?_ | refine aw_exit ?_ | refine aw_cond rfl (fun _ => ?_) (fun hb => absurd hb (by decide)) | refine aw_cond rfl (fun hb => absurd hb (by decide)) (fun _ => ?_) | (refine aw_reg (fun K hK => ?_); simp -implicitDefEqProofs [h, h2, h1, hb, hb', h5]; refine hK _ ?_) | (refine aw_drw mixd (fun K hK => ?_); simp -implicitDefEqProofs [h, h2, h1, hb, hb', h5]; refine hK _ _ (by rfl) ?_) | fail)
      refine aw_ret (fin_ret ?_); simp -implicitDefEqProofs [FinP, resV, resT, Tr.lab, h5] <;> try rfl
end Go.Proofs.Ytjjnboenehomgaa.am
end
section
namespace Go.Proofs.Ytjjnboenehomgaa.am
open Go.ChangeShapes Go.WideShapes Go.ChangeAt Go.RowKit
set_option linter.unusedVariables false
set_option linter.unusedSectionVars false
section
variable {X : Ctx} {H : Nat → Option AO} {U : Nat → Prop} {γ : Nat → G} {S : CS} {w : World}
end
end Go.Proofs.Ytjjnboenehomgaa.am
end
section
namespace Go.Proofs.Ytjjnboenehomgaa.am
open Go.ChangeShapes Go.WideShapes Go.ChangeAt Go.RowKit
open vt
set_option linter.unusedVariables false
set_option linter.unusedSimpArgs false
theorem plK_iff (k : Int) : plK k = true ↔ (k = 5 ∨ k = 6 ∨ k = 7 ∨ k = 8 ∨ k = 9 ∨ k = 11 ∨ k = 13 ∨ k = 14 ∨ k = 15) := by simp [plK, or_assoc]
theorem plK_no (k : Int) : plK k = false ↔ (¬ k = 5 ∧ ¬ k = 6 ∧ ¬ k = 7 ∧ ¬ k = 8 ∧ ¬ k = 9 ∧ ¬ k = 11 ∧ ¬ k = 13 ∧ ¬ k = 14 ∧ ¬ k = 15) := by simp [plK, and_assoc]
theorem divB_no {x : Lab} {l : List VT} (h : divB x l = false) : (¬ x.n = 12 ∧ ¬ x.n = 13) ∨ ((x.n = 12 ∨ x.n = 13) ∧ ∃ b, l[1]? = some b ∧ b.lab.k = 5 ∧ ¬ b.lab.n = 0) := by
  by_cases hn : x.n = 12 ∨ x.n = 13
  · refine .inr ⟨hn, ?_⟩
    cases hb : l[1]? with
    | none => unfold divB at h; rw [hb] at h; rcases hn with e | e <;> simp [e] at h
    | some b =>
      refine ⟨b, rfl, ?_⟩
      unfold divB at h; rw [hb] at h
      rcases hn with e | e <;> simp [e] at h <;> exact h
  · exact .inl ⟨fun e => hn (.inl e), fun e => hn (.inr e)⟩
theorem divB_yes {x : Lab} {l : List VT} (h : divB x l = true) : (x.n = 12 ∨ x.n = 13) ∧ (l[1]? = none ∨ ∃ b, l[1]? = some b ∧ (¬ b.lab.k = 5 ∨ (b.lab.k = 5 ∧ b.lab.n = 0))) := by
  unfold divB at h
  rw [Bool.and_eq_true] at h
  obtain ⟨h1, h2⟩ := h
  refine ⟨by simpa using h1, ?_⟩
  cases hb : l[1]? with
  | none => exact .inl rfl
  | some b =>
    rw [hb] at h2
    refine .inr ⟨b, rfl, ?_⟩
    by_cases h5 : b.lab.k = 5
    · exact .inr ⟨h5, by simpa [h5] using h2⟩
    · exact .inl h5
set_option maxRecDepth 100000 in
set_option maxHeartbeats 4000000 in
theorem rquiet_row (t : VT) : in64 t → t.size ≤ 1000000 → Row Try.prog 84 [vT t] [] (vB (quT t)) [] := by
  induction t using Tr.ind with
  | h x l ih =>
  intro hx hsz
  have hlen := Tr.len_size (x := x) (l := l)
  rw [quT_mk]
  cases hok : okK x l with
  | false =>
    rw [Bool.false_and]
    unfold okK at hok
    by_cases h10 : x.k = 10
    · rw [if_pos h10, Bool.not_eq_false'] at hok
      obtain ⟨hn, hb⟩ := divB_yes hok
      clear ih hok
      rcases hb with hb | ⟨⟨bx, bl⟩, hb, hb5⟩
      · have h2 : (l.length : Int) < 2 := by have := List.getElem?_eq_none_iff.1 hb; omega
        rcases hn with h | h
        · refine row_of Try.func84 rfl rfl (Nat.le_of_ble_eq_true rfl) ?_
          repeat (first | refine aw_seq ?_ | refine aw_skip ?_ | refine aw_block ?_ | refine aw_exit ?_ | refine aw_cond rfl (fun _ => ?_) (fun hb => absurd hb (by decide)) | refine aw_cond rfl (fun hb => absurd hb (by decide)) (fun _ => ?_) | (refine aw_reg (fun K hK => ?_); simp -implicitDefEqProofs [h10, h, h2]; refine hK _ ?_) | (refine aw_drw mixd (fun K hK => ?_); simp -implicitDefEqProofs [h10, h, h2]; refine hK _ _ (by rfl) ?_) | fail)
          refine aw_ret (fin_ret ?_); simp -implicitDefEqProofs [FinP, resV, resT] <;> try rfl
        · refine row_of Try.func84 rfl rfl (Nat.le_of_ble_eq_true rfl) ?_
          repeat (first | refine aw_seq ?_ | refine aw_skip ?_ | refine aw_block ?_ | refine aw_exit ?_ | refine aw_cond rfl (fun _ => ?_) (fun hb => absurd hb (by decide)) | refine aw_cond rfl (fun hb => absurd hb (by decide)) (fun _ => ?_) | (refine aw_reg (fun K hK => ?_); simp -implicitDefEqProofs [h10, h, h2]; refine hK _ ?_) | (refine aw_drw mixd (fun K hK => ?_); simp -implicitDefEqProofs [h10, h, h2]; refine hK _ _ (by rfl) ?_) | fail)
          refine aw_ret (fin_ret ?_); simp -implicitDefEqProofs [FinP, resV, resT] <;> try rfl
      · have hlt := (List.getElem?_eq_some_iff.1 hb).1
        have hb' := (List.getElem?_eq_some_iff.1 hb).2
        have h2 : ¬ (l.length : Int) < 2 := by omega
        rw [Tr.lab] at hb5
        rcases hb5 with h5 | ⟨h5, h0⟩
        · rcases hn with h | h
          · refine row_of Try.func84 rfl rfl (Nat.le_of_ble_eq_true rfl) ?_
            repeat (first | refine aw_seq ?_ | refine aw_skip ?_ | refine aw_block ?_ | refine aw_exit ?_ | refine aw_cond rfl (fun _ => ?_) (fun hb => absurd hb (by decide)) | refine aw_cond rfl (fun hb => absurd hb (by decide)) (fun _ => ?_) | (refine aw_reg (fun K hK => ?_); simp -implicitDefEqProofs [h10, h, h2, hlt, hb, hb', h5]; refine hK _ ?_) | (refine aw_drw mixd (fun K hK => ?_); simp -implicitDefEqProofs [h10, h, h2, hlt, hb, hb', h5]; refine hK _ _ (by rfl) ?_) | fail)
            refine aw_ret (fin_ret ?_); simp -implicitDefEqProofs [FinP, resV, resT] <;> try rfl
          · refine row_of Try.func84 rfl rfl (Nat.le_of_ble_eq_true rfl) ?_
            repeat (first | refine aw_seq ?_ | refine aw_skip ?_ | refine aw_block ?_ | refine aw_exit ?_ | refine aw_cond rfl (fun _ => ?_) (fun hb => absurd hb (by decide)) | refine aw_cond rfl (fun hb => absurd hb (by decide)) (fun _ => ?_) | (refine aw_reg (fun K hK => ?_); simp -implicitDefEqProofs [h10, h, h2, hlt, hb, hb', h5]; refine hK _ ?_) | (refine aw_drw mixd (fun K hK => ?_); simp -implicitDefEqProofs [h10, h, h2, hlt, hb, hb', h5]; refine hK _ _ (by rfl) ?_) | fail)
            refine aw_ret (fin_ret ?_); simp -implicitDefEqProofs [FinP, resV, resT] <;> try rfl
        · rcases hn with h | h
          · refine row_of Try.func84 rfl rfl (Nat.le_of_ble_eq_true rfl) ?_
            repeat (first | refine aw_seq ?_ | refine aw_skip ?_ | refine aw_block ?_ | refine aw_exit ?_ | refine aw_cond rfl (fun _ => ?_) (fun hb => absurd hb (by decide)) | refine aw_cond rfl (fun hb => absurd hb (by decide)) (fun _ => ?_) | (refine aw_reg (fun K hK => ?_); simp -implicitDefEqProofs [h10, h, h2, hlt, hb, hb', h5, h0]; refine hK _ ?_) | (refine aw_drw mixd (fun K hK => ?_); simp -implicitDefEqProofs [h10, h, h2, hlt, hb, hb', h5, h0]; refine hK _ _ (by rfl) ?_) | fail)
            refine aw_ret (fin_ret ?_); simp -implicitDefEqProofs [FinP, resV, resT] <;> try rfl
          · refine row_of Try.func84 rfl rfl (Nat.le_of_ble_eq_true rfl) ?_
            repeat (first | refine aw_seq ?_ | refine aw_skip ?_ | refine aw_block ?_ | refine aw_exit ?_ | refine aw_cond rfl (fun _ => ?_) (fun hb => absurd hb (by decide)) | refine aw_cond rfl (fun hb => absurd hb (by decide)) (fun _ => ?_) | (refine aw_reg (fun K hK => ?_); simp -implicitDefEqProofs [h10, h, h2, hlt, hb, hb', h5, h0]; refine hK _ ?_) | (refine aw_drw mixd (fun K hK => ?_); simp -implicitDefEqProofs [h10, h, h2, hlt, hb, hb', h5, h0]; refine hK _ _ (by rfl) ?_) | fail)
            refine aw_ret (fin_ret ?_); simp -implicitDefEqProofs [FinP, resV, resT] <;> try rfl
    · rw [if_neg h10] at hok
      obtain ⟨a1, a2, a3, a4, a5, a6, a7, a8, a9⟩ := (plK_no _).1 hok
      clear ih hok
      refine row_of Try.func84 rfl rfl (Nat.le_of_ble_eq_true rfl) ?_
      repeat (first | refine aw_seq ?_ | refine aw_skip ?_ | refine aw_block ?_ | refine aw_exit ?_ | refine aw_cond rfl (fun _ => ?_) (fun hb => absurd hb (by decide)) | refine aw_cond rfl (fun hb => absurd hb (by decide)) (fun _ => ?_) | (refine aw_reg (fun K hK => ?_); simp -implicitDefEqProofs [h10, a1, a2, a3, a4, a5, a6, a7, a8, a9]; refine hK _ ?_) | (refine aw_drw mixd (fun K hK => ?_); simp -implicitDefEqProofs [h10, a1, a2, a3, a4, a5, a6, a7, a8, a9]; refine hK _ _ (by rfl) ?_) | fail)
      refine aw_ret (fin_ret ?_); simp -implicitDefEqProofs [FinP, resV, resT] <;> try rfl
  | true =>
  rw [Bool.true_and]
  unfold okK at hok
  refine row_of Try.func84 rfl rfl (Nat.le_of_ble_eq_true rfl) ?_
  refine aw_seq ?_
  refine aw_reg (fun K hK => ?_); simp -implicitDefEqProofs; refine hK _ ?_
  refine aw_seq ?_
  refine aw_reg (fun K hK => ?_); simp -implicitDefEqProofs; refine hK _ ?_
  refine aw_meet (ι := Unit) (fun _ => mkSt [(1, .v (.c (.ptr 0 0))), (3, vI x.k)] [some (.box (ta (.mk x l)))]) (fun _ => True) (fun I hI => ?_) (fun _ _ => ?_)
  · have hk : plK x.k = true ∨ x.k = 10 := by
      by_cases h10 : x.k = 10
      · exact .inr h10
      · rw [if_neg h10] at hok; exact .inl hok
    rw [plK_iff] at hk
    clear ih hok
    rcases hk with (h | h | h | h | h | h | h | h | h) | h <;> ((repeat (first | refine aw_seq ?_ | refine aw_skip ?_ | refine aw_block ?_ | refine aw_exit ?_ | refine aw_cond rfl (fun _ => ?_) (fun hb => absurd hb (by decide)) | refine aw_cond rfl (fun hb => absurd hb (by decide)) (fun _ => ?_) | (refine aw_reg (fun K hK => ?_); simp -implicitDefEqProofs [h]; refine hK _ ?_) | (refine aw_drw mixd (fun K hK => ?_); simp -implicitDefEqProofs [h]; refine hK _ _ (by rfl) ?_) | fail)); refine ⟨(), (by trivial), ?_⟩; rw [hI]; exact cov_intro [0] (by simp -implicitDefEqProofs [h]) (by simp -implicitDefEqProofs [h]) (by decide) rfl (by simp))
  refine aw_meet (ι := Unit) (fun _ => mkSt [(1, .v (.c (.ptr 0 0)))] [some (.box (ta (.mk x l)))]) (fun _ => True) (fun I hI => ?_) (fun _ _ => ?_)
  · clear ih
    by_cases h10 : x.k = 10
    · rw [if_pos h10, Bool.not_eq_true'] at hok
      rcases divB_no hok with ⟨n1, n2⟩ | ⟨hn, ⟨bx, bl⟩, hb, h5, h0⟩
      · repeat (first | refine aw_seq ?_ | refine aw_skip ?_ | refine aw_block ?_ | refine aw_exit ?_ | refine aw_cond rfl (fun _ => ?_) (fun hb => absurd hb (by decide)) | refine aw_cond rfl (fun hb => absurd hb (by decide)) (fun _ => ?_) | (refine aw_reg (fun K hK => ?_); simp -implicitDefEqProofs [h10, n1, n2]; refine hK _ ?_) | (refine aw_drw mixd (fun K hK => ?_); simp -implicitDefEqProofs [h10, n1, n2]; refine hK _ _ (by rfl) ?_) | fail)
        refine ⟨(), (by trivial), ?_⟩; rw [hI]; exact cov_intro [0] (by simp -implicitDefEqProofs [h10]) (by simp -implicitDefEqProofs [h10]) (by decide) rfl (by simp)
      · have hlt := (List.getElem?_eq_some_iff.1 hb).1
        have hb' := (List.getElem?_eq_some_iff.1 hb).2
        have h2 : ¬ (l.length : Int) < 2 := by omega
        rw [Tr.lab] at h5 h0
        rcases hn with h | h <;> ((repeat (first | refine aw_seq ?_ | refine aw_skip ?_ | refine aw_block ?_ | refine aw_exit ?_ | refine aw_cond rfl (fun _ => ?_) (fun hb => absurd hb (by decide)) | refine aw_cond rfl (fun hb => absurd hb (by decide)) (fun _ => ?_) | (refine aw_reg (fun K hK => ?_); simp -implicitDefEqProofs [h10, h, h2, hlt, hb, hb', h5, h0]; refine hK _ ?_) | (refine aw_drw mixd (fun K hK => ?_); simp -implicitDefEqProofs [h10, h, h2, hlt, hb, hb', h5, h0]; refine hK _ _ (by rfl) ?_) | fail)); refine ⟨(), (by trivial), ?_⟩; rw [hI]; exact cov_intro [0] (by simp -implicitDefEqProofs [h10, h]) (by simp -implicitDefEqProofs [h10, h]) (by decide) rfl (by simp))
    · repeat (first | refine aw_seq ?_ | refine aw_skip ?_ | refine aw_block ?_ | refine aw_exit ?_ | refine aw_cond rfl (fun _ => ?_) (fun hb => absurd hb (by decide)) | refine aw_cond rfl (fun hb => absurd hb (by decide)) (fun _ => ?_) | (refine aw_reg (fun K hK => ?_); simp -implicitDefEqProofs [h10]; refine hK _ ?_) | (refine aw_drw mixd (fun K hK => ?_); simp -implicitDefEqProofs [h10]; refine hK _ _ (by rfl) ?_) | fail)
      refine ⟨(), (by trivial), ?_⟩; rw [hI]; exact cov_intro [0] (by simp -implicitDefEqProofs) (by simp -implicitDefEqProofs) (by decide) rfl (by simp)
  repeat (first | refine aw_seq ?_ | refine aw_skip ?_ | refine aw_block ?_ | refine aw_exit ?_ | refine aw_cond rfl (fun _ => ?_) (fun hb => absurd hb (by decide)) | refine aw_cond rfl (fun hb => absurd hb (by decide)) (fun _ => ?_) | (refine aw_reg (fun K hK => ?_); simp -implicitDefEqProofs; refine hK _ ?_) | (refine aw_drw mixd (fun K hK => ?_); simp -implicitDefEqProofs; refine hK _ _ (by rfl) ?_) | fail)
  refine aw_lp (ι := Nat) (fun k => mkSt [(1, .v (.c (.ptr 0 0))), (4, vI (k : Nat))] [some (.box (ta (.mk x l)))]) (fun k => k ≤ l.length ∧ (l.take k).all quT = true) (fun k => l.length - k) 0 ⟨Nat.zero_le _, by simp⟩ (cov_intro [0] (by simp -implicitDefEqProofs) (by simp -implicitDefEqProofs) (by decide) rfl (by simp)) (fun Z hI k hk => ?_)
  obtain ⟨hk, hz⟩ := hk
  by_cases hkl : k < l.length; rotate_left
  · have : k = l.length := by omega
    subst this
    rw [List.take_length] at hz
    repeat (first | refine aw_seq ?_ | refine aw_skip ?_ | refine aw_block ?_ | refine aw_exit ?_ | refine aw_cond rfl (fun _ => ?_) (fun hb => absurd hb (by decide)) | refine aw_cond rfl (fun hb => absurd hb (by decide)) (fun _ => ?_) | (refine aw_reg (fun K hK => ?_); simp -implicitDefEqProofs; refine hK _ ?_) | (refine aw_drw mixd (fun K hK => ?_); simp -implicitDefEqProofs; refine hK _ _ (by rfl) ?_) | fail)
    refine aw_ret (fin_ret ?_); simp -implicitDefEqProofs [FinP, resV, resT, hz] <;> try rfl
  obtain ⟨⟨ax, al⟩, ha⟩ : ∃ a, l[k]? = some a := ⟨_, List.getElem?_eq_getElem hkl⟩
  have ha' := (List.getElem?_eq_some_iff.1 ha).2
  have hsz1 := Tr.size_at (x := x) ha
  have hc := ih _ (List.mem_of_getElem? ha) (kid_ok hx (List.mem_of_getElem? ha)) (by omega)
  have w2 : IntKind.i64.wrap ((k : Nat) + 1 : Int) = (k : Nat) + 1 := i64i _ (by omega) (by omega)
  by_cases hp : quT (.mk ax al) = true
  · rw [hp] at hc
    repeat' (first | refine aw_seq ?_ | refine aw_skip ?_ | refine aw_block ?_ | refine aw_exit ?_ | refine aw_cond rfl (fun _ => ?_) (fun hb => absurd hb (by decide)) | refine aw_cond rfl (fun hb => absurd hb (by decide)) (fun _ => ?_) | (refine aw_reg (fun K hK => ?_); simp -implicitDefEqProofs [hkl, ha, ha', w2]) | (refine aw_drw mixd (fun K hK => ?_); simp -implicitDefEqProofs [hkl, ha, ha', w2]) | refine hK _ ?_ | refine hK _ _ (by rfl) ?_ | (refine ar_call (cp hc ?_); simp -implicitDefEqProofs [hkl, ha, ha', w2]) | (refine ard_call (dp hc ?_); simp -implicitDefEqProofs [hkl, ha, ha', w2]) | fail)
    refine ⟨k + 1, ⟨by omega, by rw [List.take_add_one, ha, Option.toList_some, List.all_append, hz]; simp [hp]⟩, (by dsimp only; omega), ?_⟩
    rw [hI]; exact cov_intro [0] (by simp -implicitDefEqProofs) (by simp -implicitDefEqProofs) (by decide) rfl (by simp)
  · have hp : quT (.mk ax al) = false := by simpa using hp
    rw [hp] at hc
    have e : l.all quT = false := by
      rw [List.all_eq_false]; exact ⟨_, List.mem_of_getElem? ha, by rw [hp]; simp⟩
    repeat' (first | refine aw_seq ?_ | refine aw_skip ?_ | refine aw_block ?_ | refine aw_exit ?_ | refine aw_cond rfl (fun _ => ?_) (fun hb => absurd hb (by decide)) | refine aw_cond rfl (fun hb => absurd hb (by decide)) (fun _ => ?_) | (refine aw_reg (fun K hK => ?_); simp -implicitDefEqProofs [hkl, ha, ha', w2]) | (refine aw_drw mixd (fun K hK => ?_); simp -implicitDefEqProofs [hkl, ha, ha', w2]) | refine hK _ ?_ | refine hK _ _ (by rfl) ?_ | (refine ar_call (cp hc ?_); simp -implicitDefEqProofs [hkl, ha, ha', w2]) | (refine ard_call (dp hc ?_); simp -implicitDefEqProofs [hkl, ha, ha', w2]) | fail)
    refine aw_ret (fin_ret ?_); simp -implicitDefEqProofs [FinP, resV, resT, e] <;> try rfl
end Go.Proofs.Ytjjnboenehomgaa.am
end
