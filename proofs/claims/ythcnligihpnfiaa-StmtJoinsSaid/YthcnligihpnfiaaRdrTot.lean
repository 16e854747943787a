/-
  The program's reader of tokens: each step, whether it has failed or not.
-/
import Derived.Test.YthcnligihpnfiaaTypLaw
import Derived.Test.YthcnligihpnfiaaVtStmt
namespace Go.Proofs.Ythcnligihpnfiaa.am
open Go.ChangeShapes Go.WideShapes Go.ChangeAt Go.RowKit
open vt
set_option linter.unusedVariables false
set_option linter.unusedSimpArgs false
section
variable (ts : List Tok) (hl : ts.length ≤ 9223372036854775807)
include hl
set_option maxRecDepth 100000 in
set_option maxHeartbeats 4000000 in
theorem want_tot (p : Nat × Int) (s : ByteArray) (hs : s.size ≤ 1000) : Row Try.prog 49 [vR, vS s] [rd ts p.1 p.2] (.tup []) [some (rd ts (WT ts s p).1 (WT ts s p).2)] := by
  obtain ⟨i, e⟩ := p
  unfold WT
  dsimp only
  by_cases he : e = 0
  · subst he
    rw [if_pos rfl]
    by_cases h : isK s (nxt ts i) = true
    · rw [if_pos h]; exact want_yes ts i s hs hl h
    · rw [if_neg h]; exact want_no ts i 0 s hs (.inr (by simpa using h))
  · rw [if_neg he]
    have := want_no ts i e s hs (.inl he)
    rwa [show er e = e from if_neg he] at this
set_option maxRecDepth 100000 in
set_option maxHeartbeats 4000000 in
theorem take_yes' (p : Nat × Int) (s : ByteArray) (hs : s.size ≤ 1000) (h : TT ts s p = true) : Row Try.prog 50 [vR, vS s] [rd ts p.1 p.2] (vB true) [some (rd ts (p.1 + 1) 0)] := by
  obtain ⟨i, e⟩ := p
  unfold TT at h
  simp at h
  obtain ⟨h0, h1⟩ := h
  try dsimp only at h0 h1
  subst h0
  exact take_yes ts i s hs hl h1
omit hl in
set_option maxRecDepth 100000 in
set_option maxHeartbeats 4000000 in
theorem take_no' (p : Nat × Int) (s : ByteArray) (hs : s.size ≤ 1000) (h : TT ts s p = false) : Row Try.prog 50 [vR, vS s] [rd ts p.1 p.2] (vB false) [some (rd ts p.1 p.2)] := by
  obtain ⟨i, e⟩ := p
  refine take_no ts i e s hs ?_
  unfold TT at h
  by_cases he : e = 0
  · right; simpa [he] using h
  · exact .inl he
set_option maxRecDepth 100000 in
set_option maxHeartbeats 4000000 in
theorem kind_tot (p : Nat × Int) (k : Int) (hk : k ≠ 5) : Row Try.prog 67 [vR, vI k] [rd ts p.1 p.2] (vK (KT ts k p).1) [some (rd ts (KT ts k p).2.1 (KT ts k p).2.2)] := by
  obtain ⟨i, e⟩ := p
  unfold KT
  dsimp only
  by_cases he : e = 0
  · subst he
    rw [if_pos rfl]
    by_cases h : (nxt ts i).k = k
    · rw [if_pos h]
      obtain ⟨x, hx, hxn, hxk⟩ := kind_at h hk
      rw [hxn]
      exact kind_yes ts i k x hl hx hxk
    · rw [if_neg h]; exact kind_no ts i 0 k (.inr h)
  · rw [if_neg he]
    have := kind_no ts i e k (.inl he)
    rwa [show er e = e from if_neg he] at this
set_option maxRecDepth 100000 in
set_option maxHeartbeats 4000000 in
theorem node_tot (p : Nat × Int) (a : Nat) (x : Lab) (l : List VT) (h : p.2 = 0 → a < p.1 ∧ p.1 ≤ ts.length) : Row Try.prog 51 [vR, vI a, vT (.mk x l)] [rd ts p.1 p.2] (vT (NT ts a x.k x.n x.s l p).1) [some (rd ts (NT ts a x.k x.n x.s l p).2.1 (NT ts a x.k x.n x.s l p).2.2)] := by
  obtain ⟨i, e⟩ := p
  unfold NT
  dsimp only at h ⊢
  by_cases he : e = 0
  · subst he
    rw [if_pos rfl]
    obtain ⟨h1, h2⟩ := h rfl
    exact node_yes ts i a x l (by omega) (by omega) h2 hl
  · rw [if_neg he]
    exact node_no ts i e he a (.mk x l)
end
abbrev vFg (g : Nat) : AV := .v (.c (.fn (.func g) [] []))
set_option maxRecDepth 100000 in
set_option maxHeartbeats 4000000 in
theorem below_tot (ts : List Tok) (p : Nat × Int) (g : Nat) (G : Nat → Got) (h : p.2 = 0 → Row Try.prog g [vKs ts, vI p.1] [] (vT3 (G p.1)) []) : Row Try.prog 68 [vR, vFg g] [rd ts p.1 p.2] (vT (OT G p).1) [some (rd ts (OT G p).2.1 (OT G p).2.2)] := by
  obtain ⟨i, e⟩ := p
  have h2 := goes_row ts i e
  unfold OT
  dsimp only at h ⊢
  by_cases he : e = 0
  · subst he
    rw [if_pos rfl]
    have h1 := h rfl
    clear h
    obtain ⟨⟨⟨px, pl⟩, j, e⟩, hr⟩ : ∃ r, G i = r := ⟨_, rfl⟩
    rw [hr] at h1 ⊢
    clear hr
    refine row_of Try.func68 rfl rfl (Nat.le_of_ble_eq_true rfl) ?_
    repeat' (first | refine aw_seq ?_ | refine aw_skip ?_ | refine aw_block ?_ | refine aw_exit ?_ | refine aw_cond rfl (fun _ => ?_) (fun hb => absurd hb (by decide)) | refine aw_cond rfl (fun hb => absurd hb (by decide)) (fun _ => ?_) | (refine aw_reg (fun K hK => ?_); simp -implicitDefEqProofs) | (refine aw_drw mixd (fun K hK => ?_); simp -implicitDefEqProofs) | refine hK _ ?_ | refine hK _ _ (by rfl) ?_ | (refine ar_call (cb h2 0 ?_); simp -implicitDefEqProofs) | (refine ard_call (db h2 0 ?_); simp -implicitDefEqProofs) | (refine ar_call (cp h1 ?_); simp -implicitDefEqProofs) | (refine ard_call (dp h1 ?_); simp -implicitDefEqProofs) | fail)
    refine aw_ret (fin_box ?_); simp -implicitDefEqProofs [FinB, resV, resT] <;> try rfl
  · rw [if_neg he]
    refine row_of Try.func68 rfl rfl (Nat.le_of_ble_eq_true rfl) ?_
    repeat' (first | refine aw_seq ?_ | refine aw_skip ?_ | refine aw_block ?_ | refine aw_exit ?_ | refine aw_cond rfl (fun _ => ?_) (fun hb => absurd hb (by decide)) | refine aw_cond rfl (fun hb => absurd hb (by decide)) (fun _ => ?_) | (refine aw_reg (fun K hK => ?_); simp -implicitDefEqProofs [he]) | (refine aw_drw mixd (fun K hK => ?_); simp -implicitDefEqProofs [he]) | refine hK _ ?_ | refine hK _ _ (by rfl) ?_ | (refine ar_call (cb h2 0 ?_); simp -implicitDefEqProofs [he]) | (refine ard_call (db h2 0 ?_); simp -implicitDefEqProofs [he]) | fail)
    refine aw_ret (fin_box ?_); simp -implicitDefEqProofs [FinB, resV, resT, z0] <;> try rfl
/-- Where what is read is wrong, it is where it was. -/
theorem nt_eq (ts : List Tok) (a : Nat) (k n : Int) (s : ByteArray) (l : List VT) (p : Nat × Int) : (NT ts a k n s l p).2 = p := by
  obtain ⟨i, e⟩ := p
  unfold NT
  dsimp only
  by_cases he : e = 0
  · subst he; rfl
  · rw [if_neg he]
end Go.Proofs.Ythcnligihpnfiaa.am
