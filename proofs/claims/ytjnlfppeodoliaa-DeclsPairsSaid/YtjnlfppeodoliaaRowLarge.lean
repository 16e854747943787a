/-
  The document's Count, Named, Large.
-/
import Derived.Test.YtjnlfppeodoliaaVtTerm
import Derived.Test.YtjnlfppeodoliaaTd
namespace Go.Proofs.Ytjnlfppeodoliaa.am
open Go.ChangeShapes Go.WideShapes Go.ChangeAt Go.RowKit
open vt
set_option linter.unusedVariables false
set_option linter.unusedSimpArgs false

theorem cntK_len {l : List VT} {lv n : Int} : ∀ k, k ≤ l.length → cntK l lv n k ≤ n ∧ (0 ≤ cntK l lv n k → cntK l lv n k + k ≤ n) := fun k => by
  induction k with
  | zero => intro _; rw [cntK_zero]; omega
  | succ k ih =>
    intro hk
    obtain ⟨i1, i2⟩ := ih (by omega)
    have hy : l[k]? = some (l[k]'(by omega)) := List.getElem?_eq_getElem _
    rw [cntK_succ hy]
    split
    · rename_i hc
      have h1 := cnt_le (l[k]'(by omega)) (cntK l lv n k) (lv - 1) (by omega)
      have h2 := Tr.size_pos (l[k]'(by omega))
      have h3 := i2 hc
      refine ⟨by omega, fun h => ?_⟩
      have := h1.2.2 h
      omega
    · rename_i hc; exact ⟨i1, fun h => absurd h hc⟩
set_option maxRecDepth 100000 in
set_option maxHeartbeats 4000000 in
theorem rcnt_row (t : VT) : ∀ left lv : Int, 0 ≤ left → left ≤ 1000000 → lv ≤ 1000 → -1000000 ≤ lv → Row Try.prog 49 [vT t, vI left, vI lv] [] (vI (cntT t left lv)) [] := by
  induction t using Tr.ind with
  | h x l ih =>
  intro left lv h0 h1 h2 h3
  have hlen := Tr.len_size (x := x) (l := l)
  rw [cnt_mk]
  refine row_of Try.func49 rfl rfl (Nat.le_of_ble_eq_true rfl) ?_
  by_cases hl : lv ≤ 0
  · rw [if_pos hl]
    repeat (first | refine aw_seq ?_ | refine aw_skip ?_ | refine aw_block ?_ | refine aw_exit ?_ | refine aw_cond rfl (fun _ => ?_) (fun hb => absurd hb (by decide)) | refine aw_cond rfl (fun hb => absurd hb (by decide)) (fun _ => ?_) | (refine aw_reg (fun K hK => ?_); simp -implicitDefEqProofs [hl]; refine hK _ ?_) | (refine aw_drw mixd (fun K hK => ?_); simp -implicitDefEqProofs [hl]; refine hK _ _ (by rfl) ?_) | fail)
    refine aw_ret (fin_ret ?_); simp -implicitDefEqProofs [FinP, resV, resT] <;> try rfl
  rw [if_neg hl]
  have w1 : IntKind.i64.wrap (left - 1) = left - 1 := i64i _ (by omega) (by omega)
  have w3 : IntKind.i64.wrap (lv - 1) = lv - 1 := i64i _ (by omega) (by omega)
  repeat (first | refine aw_seq ?_ | refine aw_skip ?_ | refine aw_block ?_ | refine aw_exit ?_ | refine aw_cond rfl (fun _ => ?_) (fun hb => absurd hb (by decide)) | refine aw_cond rfl (fun hb => absurd hb (by decide)) (fun _ => ?_) | (refine aw_reg (fun K hK => ?_); simp -implicitDefEqProofs [hl, w1]; refine hK _ ?_) | (refine aw_drw mixd (fun K hK => ?_); simp -implicitDefEqProofs [hl, w1]; refine hK _ _ (by rfl) ?_) | fail)
  refine aw_lp (ι := Nat) (fun k => mkSt [(1, vI (cntK l lv (left - 1) k)), (2, vI lv), (3, .v (.c (.ptr 0 0))), (7, vI (k : Nat))] [some (.box (ta (.mk x l)))]) (fun k => k ≤ l.length ∧ -2 ≤ cntK l lv (left - 1) k ∧ cntK l lv (left - 1) k ≤ left) (fun k => l.length - k) 0 ⟨Nat.zero_le _, by rw [cntK_zero]; omega, by rw [cntK_zero]; omega⟩ (cov_intro [0] (by simp -implicitDefEqProofs [cntK_zero]) (by simp -implicitDefEqProofs [cntK_zero]) (by decide) rfl (by simp)) (fun Z hI k hkz => ?_)
  obtain ⟨hk, hc1, hc2⟩ := hkz
  by_cases hkl : k < l.length; rotate_left
  · have : k = l.length := by omega
    subst this
    repeat (first | refine aw_seq ?_ | refine aw_skip ?_ | refine aw_block ?_ | refine aw_exit ?_ | refine aw_cond rfl (fun _ => ?_) (fun hb => absurd hb (by decide)) | refine aw_cond rfl (fun hb => absurd hb (by decide)) (fun _ => ?_) | (refine aw_reg (fun K hK => ?_); simp -implicitDefEqProofs; refine hK _ ?_) | (refine aw_drw mixd (fun K hK => ?_); simp -implicitDefEqProofs; refine hK _ _ (by rfl) ?_) | fail)
    refine aw_ret (fin_ret ?_); simp -implicitDefEqProofs [FinP, resV, resT] <;> try rfl
  by_cases hc : 0 ≤ cntK l lv (left - 1) k; rotate_left
  · have := cntK_neg (l := l) (lv := lv) (n := left - 1) (k := k) (by omega) l.length hk (Nat.le_refl _)
    rw [this]
    repeat (first | refine aw_seq ?_ | refine aw_skip ?_ | refine aw_block ?_ | refine aw_exit ?_ | refine aw_cond rfl (fun _ => ?_) (fun hb => absurd hb (by decide)) | refine aw_cond rfl (fun hb => absurd hb (by decide)) (fun _ => ?_) | (refine aw_reg (fun K hK => ?_); simp -implicitDefEqProofs [hkl, hc]; refine hK _ ?_) | (refine aw_drw mixd (fun K hK => ?_); simp -implicitDefEqProofs [hkl, hc]; refine hK _ _ (by rfl) ?_) | fail)
    refine aw_ret (fin_ret ?_); simp -implicitDefEqProofs [FinP, resV, resT] <;> try rfl
  obtain ⟨⟨ax, al⟩, ha⟩ : ∃ a, l[k]? = some a := ⟨_, List.getElem?_eq_getElem hkl⟩
  have ha' := (List.getElem?_eq_some_iff.1 ha).2
  have hsz1 := Tr.size_at (x := x) ha
  have hcs := cntK_succ (lv := lv) (n := left - 1) ha
  have hkn := (cntK_len (l := l) (lv := lv) (n := left - 1) k hk).2 hc
  have w2 : IntKind.i64.wrap ((k : Nat) + 1 : Int) = (k : Nat) + 1 := i64i _ (by omega) (by omega)
  rw [if_pos hc] at hcs
  have hle := cnt_le (.mk ax al) (cntK l lv (left - 1) k) (lv - 1) (by omega)
  repeat (first | refine aw_seq ?_ | refine aw_skip ?_ | refine aw_block ?_ | refine aw_exit ?_ | refine aw_cond rfl (fun _ => ?_) (fun hb => absurd hb (by decide)) | refine aw_cond rfl (fun hb => absurd hb (by decide)) (fun _ => ?_) | (refine aw_reg (fun K hK => ?_); simp -implicitDefEqProofs [hkl, hc]; refine hK _ ?_) | (refine aw_drw mixd (fun K hK => ?_); simp -implicitDefEqProofs [hkl, hc]; refine hK _ _ (by rfl) ?_) | fail)
  refine aw_reg (fun K hK => ?_); simp -implicitDefEqProofs [hkl, ha, ha', w3]
  refine ar_call (call_pure (ih _ (List.mem_of_getElem? ha) (cntK l lv (left - 1) k) (lv - 1) (by omega) (by omega) (by omega) (by omega)) (by simp) (fun _ => rfl) rfl ?_)
  simp -implicitDefEqProofs; refine hK _ ?_
  repeat (first | refine aw_seq ?_ | refine aw_skip ?_ | refine aw_block ?_ | refine aw_exit ?_ | refine aw_cond rfl (fun _ => ?_) (fun hb => absurd hb (by decide)) | refine aw_cond rfl (fun hb => absurd hb (by decide)) (fun _ => ?_) | (refine aw_reg (fun K hK => ?_); simp -implicitDefEqProofs [w2]; refine hK _ ?_) | (refine aw_drw mixd (fun K hK => ?_); simp -implicitDefEqProofs [w2]; refine hK _ _ (by rfl) ?_) | fail)
  refine ⟨k + 1, ⟨by omega, by rw [hcs]; omega, by rw [hcs]; omega⟩, (by dsimp only; omega), ?_⟩
  rw [hI]; exact cov_intro [0] (by simp -implicitDefEqProofs [hcs]) (by simp -implicitDefEqProofs [hcs]) (by decide) rfl (by simp)

set_option maxRecDepth 100000 in
set_option maxHeartbeats 4000000 in
theorem rnmd_row (t : VT) : t.size ≤ 1000000 → Row Try.prog 50 [vT t] [] (vB (nmd t)) [] := by
  induction t using Tr.ind with
  | h x l ih =>
  intro hsz
  have hlen := Tr.len_size (x := x) (l := l)
  rw [nmd_mk]
  refine row_of Try.func50 rfl rfl (Nat.le_of_ble_eq_true rfl) ?_
  by_cases hs : 40 < x.s.size
  · have hs' : (40 : Int) < (x.s.size : Nat) := by omega
    repeat (first | refine aw_seq ?_ | refine aw_skip ?_ | refine aw_block ?_ | refine aw_exit ?_ | refine aw_cond rfl (fun _ => ?_) (fun hb => absurd hb (by decide)) | refine aw_cond rfl (fun hb => absurd hb (by decide)) (fun _ => ?_) | (refine aw_reg (fun K hK => ?_); simp -implicitDefEqProofs [hs, hs']; refine hK _ ?_) | (refine aw_drw mixd (fun K hK => ?_); simp -implicitDefEqProofs [hs, hs']; refine hK _ _ (by rfl) ?_) | fail)
    refine aw_ret (fin_ret ?_); simp -implicitDefEqProofs [FinP, resV, resT, hs] <;> try rfl
  have hs' : ¬ (40 : Int) < (x.s.size : Nat) := by omega
  repeat (first | refine aw_seq ?_ | refine aw_skip ?_ | refine aw_block ?_ | refine aw_exit ?_ | refine aw_cond rfl (fun _ => ?_) (fun hb => absurd hb (by decide)) | refine aw_cond rfl (fun hb => absurd hb (by decide)) (fun _ => ?_) | (refine aw_reg (fun K hK => ?_); simp -implicitDefEqProofs [hs, hs']; refine hK _ ?_) | (refine aw_drw mixd (fun K hK => ?_); simp -implicitDefEqProofs [hs, hs']; refine hK _ _ (by rfl) ?_) | fail)
  refine aw_lp (ι := Nat) (fun k => mkSt [(1, .v (.c (.ptr 0 0))), (3, vI (k : Nat))] [some (.box (ta (.mk x l)))]) (fun k => k ≤ l.length ∧ anyK nmd l k = false) (fun k => l.length - k) 0 ⟨Nat.zero_le _, anyK_zero _ _⟩ (cov_intro [0] (by simp -implicitDefEqProofs) (by simp -implicitDefEqProofs) (by decide) rfl (by simp)) (fun Z hI k hkz => ?_)
  obtain ⟨hk, hz⟩ := hkz
  by_cases hkl : k < l.length; rotate_left
  · have : k = l.length := by omega
    subst this
    rw [anyK_all] at hz
    repeat (first | refine aw_seq ?_ | refine aw_skip ?_ | refine aw_block ?_ | refine aw_exit ?_ | refine aw_cond rfl (fun _ => ?_) (fun hb => absurd hb (by decide)) | refine aw_cond rfl (fun hb => absurd hb (by decide)) (fun _ => ?_) | (refine aw_reg (fun K hK => ?_); simp -implicitDefEqProofs; refine hK _ ?_) | (refine aw_drw mixd (fun K hK => ?_); simp -implicitDefEqProofs; refine hK _ _ (by rfl) ?_) | fail)
    refine aw_ret (fin_ret ?_); simp -implicitDefEqProofs [FinP, resV, resT, hs, hz] <;> try rfl
  obtain ⟨⟨ax, al⟩, ha⟩ : ∃ a, l[k]? = some a := ⟨_, List.getElem?_eq_getElem hkl⟩
  have ha' := (List.getElem?_eq_some_iff.1 ha).2
  have hsz1 := Tr.size_at (x := x) ha
  have w2 : IntKind.i64.wrap ((k : Nat) + 1 : Int) = (k : Nat) + 1 := i64i _ (by omega) (by omega)
  have hcs := anyK_succ (f := nmd) ha
  repeat (first | refine aw_seq ?_ | refine aw_skip ?_ | refine aw_block ?_ | refine aw_exit ?_ | refine aw_cond rfl (fun _ => ?_) (fun hb => absurd hb (by decide)) | refine aw_cond rfl (fun hb => absurd hb (by decide)) (fun _ => ?_) | (refine aw_reg (fun K hK => ?_); simp -implicitDefEqProofs [hkl]; refine hK _ ?_) | (refine aw_drw mixd (fun K hK => ?_); simp -implicitDefEqProofs [hkl]; refine hK _ _ (by rfl) ?_) | fail)
  refine aw_reg (fun K hK => ?_); simp -implicitDefEqProofs [hkl, ha, ha']
  refine ar_call (call_pure (ih _ (List.mem_of_getElem? ha) (by omega)) (by simp) (fun _ => rfl) rfl ?_)
  simp -implicitDefEqProofs; refine hK _ ?_
  refine aw_cond rfl (fun hb => ?_) (fun hb => ?_)
  · have := any_of ha hb
    repeat (first | refine aw_seq ?_ | refine aw_skip ?_ | refine aw_block ?_ | refine aw_exit ?_ | refine aw_cond rfl (fun _ => ?_) (fun hb => absurd hb (by decide)) | refine aw_cond rfl (fun hb => absurd hb (by decide)) (fun _ => ?_) | (refine aw_reg (fun K hK => ?_); simp -implicitDefEqProofs; refine hK _ ?_) | (refine aw_drw mixd (fun K hK => ?_); simp -implicitDefEqProofs; refine hK _ _ (by rfl) ?_) | fail)
    refine aw_ret (fin_ret ?_); simp -implicitDefEqProofs [FinP, resV, resT, this] <;> try rfl
  · repeat (first | refine aw_seq ?_ | refine aw_skip ?_ | refine aw_block ?_ | refine aw_exit ?_ | refine aw_cond rfl (fun _ => ?_) (fun hb => absurd hb (by decide)) | refine aw_cond rfl (fun hb => absurd hb (by decide)) (fun _ => ?_) | (refine aw_reg (fun K hK => ?_); simp -implicitDefEqProofs [w2]; refine hK _ ?_) | (refine aw_drw mixd (fun K hK => ?_); simp -implicitDefEqProofs [w2]; refine hK _ _ (by rfl) ?_) | fail)
    refine ⟨k + 1, ⟨by omega, by rw [hcs, hz, hb]; rfl⟩, (by dsimp only; omega), ?_⟩
    rw [hI]; exact cov_intro [0] (by simp -implicitDefEqProofs) (by simp -implicitDefEqProofs) (by decide) rfl (by simp)

set_option maxRecDepth 100000 in
set_option maxHeartbeats 4000000 in
theorem rlarge_row (t : VT) : Row Try.prog 11 [vT t] [] (vB (large t)) [] := by
  refine row_of Try.func11 rfl rfl (Nat.le_of_ble_eq_true rfl) ?_
  obtain ⟨x, l⟩ := t
  repeat (first | refine aw_seq ?_ | refine aw_skip ?_ | refine aw_block ?_ | refine aw_exit ?_ | refine aw_cond rfl (fun _ => ?_) (fun hb => absurd hb (by decide)) | refine aw_cond rfl (fun hb => absurd hb (by decide)) (fun _ => ?_) | (refine aw_reg (fun K hK => ?_); simp -implicitDefEqProofs; refine hK _ ?_) | (refine aw_drw mixd (fun K hK => ?_); simp -implicitDefEqProofs; refine hK _ _ (by rfl) ?_) | fail)
  refine aw_reg (fun K hK => ?_); simp -implicitDefEqProofs
  refine ar_call (call_pure (rcnt_row (.mk x l) 400 70 (by omega) (by omega) (by omega) (by omega)) (by simp) (fun _ => rfl) rfl ?_)
  by_cases hc : cntT (.mk x l) 400 70 < 0
  · simp -implicitDefEqProofs [hc]; refine hK _ ?_
    refine aw_ret (fin_ret ?_); simp -implicitDefEqProofs [FinP, resV, resT, large, hc] <;> try rfl
  · simp -implicitDefEqProofs [hc]
    refine ar_call (call_pure (rnmd_row (.mk x l) (by have := (cnt_le (.mk x l) 400 70 (by omega)).2.2 (by omega); omega)) (by simp) (fun _ => rfl) rfl ?_)
    simp -implicitDefEqProofs; refine hK _ ?_
    refine aw_ret (fin_ret ?_); simp -implicitDefEqProofs [FinP, resV, resT, large, hc] <;> try rfl
end Go.Proofs.Ytjnlfppeodoliaa.am
