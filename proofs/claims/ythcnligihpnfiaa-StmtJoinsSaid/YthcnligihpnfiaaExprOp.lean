/-
  Layer 7: the document's operators.
-/
import Derived.Test.YthcnligihpnfiaaTypRef
import Derived.Test.YthcnligihpnfiaaVtExpr
namespace Go.Proofs.Ythcnligihpnfiaa.am
open Go.ChangeShapes Go.WideShapes Go.ChangeAt Go.RowKit
open vt
set_option linter.unusedVariables false
set_option linter.unusedSimpArgs false
theorem td_strs : td Try.prog 66 = some ⟨false, 1, 24, [.nilS], [], (.slice 9)⟩ := Eq.trans (by kernel_rfl) (Eq.refl _)
theorem td_intv : td Try.prog 92 = some ⟨false, 1, 24, [.nilS], [], (.slice 2)⟩ := Eq.trans (by kernel_rfl) (Eq.refl _)
attribute [simp] td_strs td_intv
abbrev Sg := ByteArray × Int
def opsL : Nat → List Sg
  | 1 => [(⟨#[124, 124]⟩, 1)]
  | 2 => [(⟨#[38, 38]⟩, 2)]
  | 3 => [(⟨#[61, 61]⟩, 3), (⟨#[33, 61]⟩, 4), (⟨#[60]⟩, 5), (⟨#[60, 61]⟩, 6), (⟨#[62]⟩, 7), (⟨#[62, 61]⟩, 8)]
  | 4 => [(⟨#[43]⟩, 9), (⟨#[45]⟩, 10)]
  | _ => [(⟨#[42]⟩, 11), (⟨#[47]⟩, 12), (⟨#[37]⟩, 13)]
def pS (x : Sg) : List PV := [Sx x.1]
def pI (x : Sg) : List PV := [I x.2]
abbrev vSI (l : List Sg) : AV := .tup [.c (.pv (.sl 1 (l.map pS))), .c (.pv (.sl 1 (l.map pI)))]
attribute [simp] pS pI
def fnd (x : Tok) : List Sg → Int
  | [] => 0
  | y :: l => if x.k = 4 ∧ x.s = y.1 then y.2 else fnd x l
theorem fnd_op (x : Tok) (l : Nat) (h1 : 1 ≤ l) (h5 : l ≤ 5) : fnd x (opsL l) = if (opK x).2 = l then (opK x).1 else 0 := by
  have hl : l = 1 ∨ l = 2 ∨ l = 3 ∨ l = 4 ∨ l = 5 := by omega
  unfold opK
  by_cases hk : x.k = 4; rotate_left
  · rcases hl with rfl | rfl | rfl | rfl | rfl <;> simp [opsL, fnd, hk]
  obtain ⟨k, n, s, f, t⟩ := x
  dsimp only at hk
  subst hk
  rw [if_pos rfl]
  dsimp only
  by_cases e0 : s = (⟨#[124, 124]⟩ : ByteArray)
  · subst e0; rcases hl with rfl | rfl | rfl | rfl | rfl <;> rfl
  by_cases e1 : s = (⟨#[38, 38]⟩ : ByteArray)
  · subst e1; rcases hl with rfl | rfl | rfl | rfl | rfl <;> rfl
  by_cases e2 : s = (⟨#[61, 61]⟩ : ByteArray)
  · subst e2; rcases hl with rfl | rfl | rfl | rfl | rfl <;> rfl
  by_cases e3 : s = (⟨#[33, 61]⟩ : ByteArray)
  · subst e3; rcases hl with rfl | rfl | rfl | rfl | rfl <;> rfl
  by_cases e4 : s = (⟨#[60]⟩ : ByteArray)
  · subst e4; rcases hl with rfl | rfl | rfl | rfl | rfl <;> rfl
  by_cases e5 : s = (⟨#[60, 61]⟩ : ByteArray)
  · subst e5; rcases hl with rfl | rfl | rfl | rfl | rfl <;> rfl
  by_cases e6 : s = (⟨#[62]⟩ : ByteArray)
  · subst e6; rcases hl with rfl | rfl | rfl | rfl | rfl <;> rfl
  by_cases e7 : s = (⟨#[62, 61]⟩ : ByteArray)
  · subst e7; rcases hl with rfl | rfl | rfl | rfl | rfl <;> rfl
  by_cases e8 : s = (⟨#[43]⟩ : ByteArray)
  · subst e8; rcases hl with rfl | rfl | rfl | rfl | rfl <;> rfl
  by_cases e9 : s = (⟨#[45]⟩ : ByteArray)
  · subst e9; rcases hl with rfl | rfl | rfl | rfl | rfl <;> rfl
  by_cases e10 : s = (⟨#[42]⟩ : ByteArray)
  · subst e10; rcases hl with rfl | rfl | rfl | rfl | rfl <;> rfl
  by_cases e11 : s = (⟨#[47]⟩ : ByteArray)
  · subst e11; rcases hl with rfl | rfl | rfl | rfl | rfl <;> rfl
  by_cases e12 : s = (⟨#[37]⟩ : ByteArray)
  · subst e12; rcases hl with rfl | rfl | rfl | rfl | rfl <;> rfl
  rcases hl with rfl | rfl | rfl | rfl | rfl <;> simp [opsL, fnd, opS, e0, e1, e2, e3, e4, e5, e6, e7, e8, e9, e10, e11, e12]
theorem opK_pos (x : Tok) (l : Nat) (h5 : l ≤ 5) (h : (opK x).2 = l) : (opK x).1 ≠ 0 := by
  unfold opK at h ⊢
  by_cases hk : x.k = 4; rotate_left
  · rw [if_neg hk] at h; dsimp only at h; omega
  rw [if_pos hk] at h ⊢
  obtain ⟨k, n, s, f, t⟩ := x
  dsimp only at h ⊢
  clear hk
  by_cases e0 : s = (⟨#[124, 124]⟩ : ByteArray)
  · subst e0; exact fun hh => absurd (show (1 : Int) = 0 from hh) (by decide)
  by_cases e1 : s = (⟨#[38, 38]⟩ : ByteArray)
  · subst e1; exact fun hh => absurd (show (2 : Int) = 0 from hh) (by decide)
  by_cases e2 : s = (⟨#[61, 61]⟩ : ByteArray)
  · subst e2; exact fun hh => absurd (show (3 : Int) = 0 from hh) (by decide)
  by_cases e3 : s = (⟨#[33, 61]⟩ : ByteArray)
  · subst e3; exact fun hh => absurd (show (4 : Int) = 0 from hh) (by decide)
  by_cases e4 : s = (⟨#[60]⟩ : ByteArray)
  · subst e4; exact fun hh => absurd (show (5 : Int) = 0 from hh) (by decide)
  by_cases e5 : s = (⟨#[60, 61]⟩ : ByteArray)
  · subst e5; exact fun hh => absurd (show (6 : Int) = 0 from hh) (by decide)
  by_cases e6 : s = (⟨#[62]⟩ : ByteArray)
  · subst e6; exact fun hh => absurd (show (7 : Int) = 0 from hh) (by decide)
  by_cases e7 : s = (⟨#[62, 61]⟩ : ByteArray)
  · subst e7; exact fun hh => absurd (show (8 : Int) = 0 from hh) (by decide)
  by_cases e8 : s = (⟨#[43]⟩ : ByteArray)
  · subst e8; exact fun hh => absurd (show (9 : Int) = 0 from hh) (by decide)
  by_cases e9 : s = (⟨#[45]⟩ : ByteArray)
  · subst e9; exact fun hh => absurd (show (10 : Int) = 0 from hh) (by decide)
  by_cases e10 : s = (⟨#[42]⟩ : ByteArray)
  · subst e10; exact fun hh => absurd (show (11 : Int) = 0 from hh) (by decide)
  by_cases e11 : s = (⟨#[47]⟩ : ByteArray)
  · subst e11; exact fun hh => absurd (show (12 : Int) = 0 from hh) (by decide)
  by_cases e12 : s = (⟨#[37]⟩ : ByteArray)
  · subst e12; exact fun hh => absurd (show (13 : Int) = 0 from hh) (by decide)
  simp [opS, e0, e1, e2, e3, e4, e5, e6, e7, e8, e9, e10, e11, e12] at h
  omega
set_option maxRecDepth 100000 in
set_option maxHeartbeats 4000000 in
theorem ops_row (l : Nat) (h1 : 1 ≤ l) (h5 : l ≤ 5) : Row Try.prog 77 [vI (l : Nat)] [] (vSI (opsL l)) [] := by
  have hl : l = 1 ∨ l = 2 ∨ l = 3 ∨ l = 4 ∨ l = 5 := by omega
  rcases hl with rfl | rfl | rfl | rfl | rfl
  all_goals (
    refine row_of Try.func77 rfl rfl (Nat.le_of_ble_eq_true rfl) ?_
    repeat (first | refine aw_seq ?_ | refine aw_skip ?_ | refine aw_block ?_ | refine aw_exit ?_ | refine aw_cond rfl (fun _ => ?_) (fun hb => absurd hb (by decide)) | refine aw_cond rfl (fun hb => absurd hb (by decide)) (fun _ => ?_) | (refine aw_reg (fun K hK => ?_); simp -implicitDefEqProofs; refine hK _ ?_) | (refine aw_drw mixd (fun K hK => ?_); simp -implicitDefEqProofs; refine hK _ _ (by rfl) ?_) | fail)
    refine aw_ret (fin_ret ?_); simp -implicitDefEqProofs [FinP, resV, resT, opsL] <;> try rfl)
set_option maxRecDepth 100000 in
set_option maxHeartbeats 4000000 in
theorem op_row (ts : List Tok) (i l : Nat) (h1 : 1 ≤ l) (h5 : l ≤ 5) : Row Try.prog 72 [vKs ts, vI i, vI (l : Nat)] [] (vI (if (opK (nxt ts i)).2 = l then (opK (nxt ts i)).1 else 0)) [] := by
  rw [← fnd_op _ l h1 h5]
  have o := ops_row l h1 h5
  obtain ⟨L, hL⟩ : ∃ L, opsL l = L := ⟨_, rfl⟩
  have hLl : L.length ≤ 6 := by rw [← hL]; unfold opsL; split <;> simp
  rw [hL] at o ⊢
  refine row_of Try.func72 rfl rfl (Nat.le_of_ble_eq_true rfl) ?_
  repeat' (first | refine aw_seq ?_ | refine aw_skip ?_ | refine aw_block ?_ | refine aw_exit ?_ | refine aw_cond rfl (fun _ => ?_) (fun hb => absurd hb (by decide)) | refine aw_cond rfl (fun hb => absurd hb (by decide)) (fun _ => ?_) | (refine aw_reg (fun K hK => ?_); simp -implicitDefEqProofs) | (refine aw_drw mixd (fun K hK => ?_); simp -implicitDefEqProofs) | refine hK _ ?_ | refine hK _ _ (by rfl) ?_ | (refine ar_call (cp o ?_); simp -implicitDefEqProofs) | (refine ard_call (dp o ?_); simp -implicitDefEqProofs) | fail)
  refine aw_lp (ι := Nat) (fun k => mkSt [(0, vKs ts), (1, vI i), (7, .v (.c (.pv (.sl 1 (L.map pS))))), (8, .v (.c (.pv (.sl 1 (L.map pI))))), (9, vI (k : Nat))] []) (fun k => k ≤ L.length ∧ fnd (nxt ts i) (L.drop k) = fnd (nxt ts i) L) (fun k => L.length - k) 0 ⟨Nat.zero_le _, rfl⟩ (cov_intro [] (by simp -implicitDefEqProofs [hL]) (by simp -implicitDefEqProofs [hL]) (by decide) rfl (by simp)) (fun Z hI k hk => ?_)
  obtain ⟨hk, hf⟩ := hk
  by_cases hkl : k < L.length; rotate_left
  · have : k = L.length := by omega
    subst this
    rw [List.drop_length] at hf
    rw [← hf]
    repeat (first | refine aw_seq ?_ | refine aw_skip ?_ | refine aw_block ?_ | refine aw_exit ?_ | refine aw_cond rfl (fun _ => ?_) (fun hb => absurd hb (by decide)) | refine aw_cond rfl (fun hb => absurd hb (by decide)) (fun _ => ?_) | (refine aw_reg (fun K hK => ?_); simp -implicitDefEqProofs; refine hK _ ?_) | (refine aw_drw mixd (fun K hK => ?_); simp -implicitDefEqProofs; refine hK _ _ (by rfl) ?_) | fail)
    refine aw_ret (fin_ret ?_); simp -implicitDefEqProofs [FinP, resV, resT, fnd] <;> try rfl
  obtain ⟨⟨y1, y2⟩, hy⟩ : ∃ y, L[k]? = some y := ⟨_, List.getElem?_eq_getElem hkl⟩
  have hy' := (List.getElem?_eq_some_iff.1 hy).2
  have w2 : IntKind.i64.wrap ((k : Nat) + 1 : Int) = (k : Nat) + 1 := i64i _ (by omega) (by omega)
  have q := sign_row ts i y1
  rw [List.drop_eq_getElem_cons hkl, hy'] at hf
  rw [fnd] at hf
  by_cases hs : (nxt ts i).k = 4 ∧ (nxt ts i).s = y1
  · rw [if_pos hs] at hf
    dsimp only at hf
    rw [show (decide ((nxt ts i).k = 4) && decide ((nxt ts i).s = y1)) = true by simp [hs.1, hs.2]] at q
    rw [← hf]
    clear hf hs
    repeat' (first | refine aw_seq ?_ | refine aw_skip ?_ | refine aw_block ?_ | refine aw_exit ?_ | refine aw_cond rfl (fun _ => ?_) (fun hb => absurd hb (by decide)) | refine aw_cond rfl (fun hb => absurd hb (by decide)) (fun _ => ?_) | (refine aw_reg (fun K hK => ?_); simp -implicitDefEqProofs [hkl, hy, hy']) | (refine aw_drw mixd (fun K hK => ?_); simp -implicitDefEqProofs [hkl, hy, hy']) | refine hK _ ?_ | refine hK _ _ (by rfl) ?_ | (refine ar_call (cp q ?_); simp -implicitDefEqProofs [hkl, hy, hy']) | (refine ard_call (dp q ?_); simp -implicitDefEqProofs [hkl, hy, hy']) | fail)
    refine aw_ret (fin_ret ?_); simp -implicitDefEqProofs [FinP, resV, resT] <;> try rfl
  · rw [if_neg hs] at hf
    rw [show (decide ((nxt ts i).k = 4) && decide ((nxt ts i).s = y1)) = false by simpa using hs] at q
    clear hs
    repeat' (first | refine aw_seq ?_ | refine aw_skip ?_ | refine aw_block ?_ | refine aw_exit ?_ | refine aw_cond rfl (fun _ => ?_) (fun hb => absurd hb (by decide)) | refine aw_cond rfl (fun hb => absurd hb (by decide)) (fun _ => ?_) | (refine aw_reg (fun K hK => ?_); simp -implicitDefEqProofs [hkl, hy, hy', w2]) | (refine aw_drw mixd (fun K hK => ?_); simp -implicitDefEqProofs [hkl, hy, hy', w2]) | refine hK _ ?_ | refine hK _ _ (by rfl) ?_ | (refine ar_call (cp q ?_); simp -implicitDefEqProofs [hkl, hy, hy', w2]) | (refine ard_call (dp q ?_); simp -implicitDefEqProofs [hkl, hy, hy', w2]) | fail)
    refine ⟨k + 1, ⟨by omega, hf⟩, (by dsimp only; omega), ?_⟩; rw [hI]; exact cov_intro [] (by simp -implicitDefEqProofs) (by simp -implicitDefEqProofs) (by decide) rfl (by simp)
end Go.Proofs.Ythcnligihpnfiaa.am
