import Derived.Test.YthkfdheoakbfnaaGreatPkF15
import Derived.Test.YthkfdheoakbfnaaGreatPkF11
set_option maxRecDepth 100000
set_option maxHeartbeats 4000000
section
namespace Go.Proofs.YthkfdheoakbfnaaGreat.am
open Go.ChangeShapes Go.WideShapes Go.ChangeAt Go.RowKit
open vt
set_option linter.unusedVariables false
set_option linter.unusedSimpArgs false
theorem td_got : td Tryz.prog 55 = some ⟨true, 8, 88, [.lit (.int .i64 0), .lit (.int .i64 0), .lit (.string ⟨#[]⟩), .nilS, .lit (.int .i64 0), .lit (.int .i64 0), .lit (.int .i64 0), .lit (.int .i64 0)], [(0, 6, true), (6, 1, false), (7, 1, false)], .struct⟩ := Eq.trans (by kernel_rfl) (Eq.refl _)
attribute [simp] td_got
noncomputable abbrev vG (r : VT × Nat × Int) : AV := .v (.agg (((tc r.1) ++ [I (r.2.1 : Nat), I r.2.2]).map .pv))
theorem c4q (r : VT × Nat × Int) (ρ : Nat → Nat) : (vG r).ren ρ = vG r := by
  show AV.v (.agg (((tc r.1 ++ [I (r.2.1 : Nat), I r.2.2]).map AC.pv).map (AC.ren ρ))) = _
  rw [a7u]
theorem s4 (ts : List Tok) (i : Nat) : Row Tryz.prog 38 [vKs ts, vI i] [] (vK (nxt ts i)) [] := by
  by_cases h : i < ts.length
  · obtain ⟨x, hx⟩ : ∃ x, ts[i]? = some x := ⟨_, List.getElem?_eq_getElem h⟩
    have hx' := (List.getElem?_eq_some_iff.1 hx).2
    rw [y7 hx]
    refine f6 Tryz.func38 rfl rfl (Nat.le_of_ble_eq_true rfl) ?_
    repeat (first | refine d4 ?_ | refine b8 ?_ | refine b7 ?_ | refine b9 ?_ | refine f5 rfl ?_ | refine d8 rfl ?_ | ((first | refine c5 (fun K hK => ?_) | refine d5 f8 (fun K hK => ?_) | fail); simp -implicitDefEqProofs [h, hx, hx']; first | refine hK _ ?_ | refine hK _ _ (by rfl) ?_ | fail) | fail)
    refine d7 (d6 ?_); simp -implicitDefEqProofs [g8, f9, g7] <;> try rfl
  · rw [a2f (by omega)]
    refine f6 Tryz.func38 rfl rfl (Nat.le_of_ble_eq_true rfl) ?_
    repeat (first | refine d4 ?_ | refine b8 ?_ | refine b7 ?_ | refine b9 ?_ | refine f5 rfl ?_ | refine d8 rfl ?_ | ((first | refine c5 (fun K hK => ?_) | refine d5 f8 (fun K hK => ?_) | fail); simp -implicitDefEqProofs [h]; first | refine hK _ ?_ | refine hK _ _ (by rfl) ?_ | fail) | fail)
    refine d7 (d6 ?_); simp -implicitDefEqProofs [g8, f9, g7, endK] <;> try rfl
theorem j9 (ts : List Tok) (i : Nat) (s : ByteArray) : Row Tryz.prog 34 [vKs ts, vI i, vS s] [] (vB (decide ((nxt ts i).k = 3) && decide ((nxt ts i).s = s))) [] := by
  have h := s4 ts i
  obtain ⟨⟨k, n, x, f, t⟩, hx⟩ : ∃ x, nxt ts i = x := ⟨_, rfl⟩
  rw [hx] at h ⊢
  refine f6 Tryz.func34 rfl rfl (Nat.le_of_ble_eq_true rfl) ?_
  repeat' (first | refine d4 ?_ | refine b8 ?_ | refine b7 ?_ | refine b9 ?_ | refine f5 rfl ?_ | refine d8 rfl ?_ | ((first | refine c5 (fun K hK => ?_) | refine d5 f8 (fun K hK => ?_) | refine a9 (cp h ?_) | refine a8 (dp h ?_) | fail); simp -implicitDefEqProofs [*]) | refine hK _ ?_ | refine hK _ _ (by rfl) ?_ | (refine u5 rfl (fun hb => ?_) (fun hb => ?_) <;> ((try simp only [decide_eq_true_eq, decide_eq_false_iff_not, Bool.not_eq_true', Bool.not_eq_false', Bool.not_eq_eq_eq_not, Bool.not_true, Bool.not_false, beq_iff_eq, beq_true, beq_false, bne_iff_ne, ne_eq, Decidable.not_not, Bool.and_eq_true, Bool.or_eq_true, Bool.and_eq_false_iff, Bool.or_eq_false_iff] at hb) <;> repeat' (refine Or.elim hb (fun hb => ?_) (fun hb => ?_)))) | ((first | refine a0h (fun hb => ?_) (fun hb => ?_) | refine x8 (fun hb => ?_) (fun hb => ?_) | fail) <;> ((try simp only [decide_eq_true_eq, decide_eq_false_iff_not, Bool.not_eq_true', Bool.not_eq_false', Bool.not_eq_eq_eq_not, Bool.not_true, Bool.not_false, beq_iff_eq, beq_true, beq_false, bne_iff_ne, ne_eq, Decidable.not_not, Bool.and_eq_true, Bool.or_eq_true, Bool.and_eq_false_iff, Bool.or_eq_false_iff] at hb) <;> repeat' (refine Or.elim hb (fun hb => ?_) (fun hb => ?_))) <;> simp -implicitDefEqProofs [*]) | fail)
  all_goals (refine d7 (d6 ?_); simp -implicitDefEqProofs [g8, f9, g7, *] <;> try rfl)
theorem i5 (ts : List Tok) (i : Nat) (s : ByteArray) : Row Tryz.prog 39 [vKs ts, vI i, vS s] [] (vB (decide ((nxt ts i).k = 4) && decide ((nxt ts i).s = s))) [] := by
  have h := s4 ts i
  obtain ⟨⟨k, n, x, f, t⟩, hx⟩ : ∃ x, nxt ts i = x := ⟨_, rfl⟩
  rw [hx] at h ⊢
  refine f6 Tryz.func39 rfl rfl (Nat.le_of_ble_eq_true rfl) ?_
  repeat' (first | refine d4 ?_ | refine b8 ?_ | refine b7 ?_ | refine b9 ?_ | refine f5 rfl ?_ | refine d8 rfl ?_ | ((first | refine c5 (fun K hK => ?_) | refine d5 f8 (fun K hK => ?_) | refine a9 (cp h ?_) | refine a8 (dp h ?_) | fail); simp -implicitDefEqProofs [*]) | refine hK _ ?_ | refine hK _ _ (by rfl) ?_ | (refine u5 rfl (fun hb => ?_) (fun hb => ?_) <;> ((try simp only [decide_eq_true_eq, decide_eq_false_iff_not, Bool.not_eq_true', Bool.not_eq_false', Bool.not_eq_eq_eq_not, Bool.not_true, Bool.not_false, beq_iff_eq, beq_true, beq_false, bne_iff_ne, ne_eq, Decidable.not_not, Bool.and_eq_true, Bool.or_eq_true, Bool.and_eq_false_iff, Bool.or_eq_false_iff] at hb) <;> repeat' (refine Or.elim hb (fun hb => ?_) (fun hb => ?_)))) | ((first | refine a0h (fun hb => ?_) (fun hb => ?_) | refine x8 (fun hb => ?_) (fun hb => ?_) | fail) <;> ((try simp only [decide_eq_true_eq, decide_eq_false_iff_not, Bool.not_eq_true', Bool.not_eq_false', Bool.not_eq_eq_eq_not, Bool.not_true, Bool.not_false, beq_iff_eq, beq_true, beq_false, bne_iff_ne, ne_eq, Decidable.not_not, Bool.and_eq_true, Bool.or_eq_true, Bool.and_eq_false_iff, Bool.or_eq_false_iff] at hb) <;> repeat' (refine Or.elim hb (fun hb => ?_) (fun hb => ?_))) <;> simp -implicitDefEqProofs [*]) | fail)
  all_goals (refine d7 (d6 ?_); simp -implicitDefEqProofs [g8, f9, g7, *] <;> try rfl)
theorem l6 (i : Nat) : Row Tryz.prog 37 [vI i] [] (vG (z0, i, 6)) [] := by
  refine f6 Tryz.func37 rfl rfl (Nat.le_of_ble_eq_true rfl) ?_
  repeat (first | refine d4 ?_ | refine b8 ?_ | refine b7 ?_ | refine b9 ?_ | refine f5 rfl ?_ | refine d8 rfl ?_ | ((first | refine c5 (fun K hK => ?_) | refine d5 f8 (fun K hK => ?_) | fail); simp -implicitDefEqProofs; first | refine hK _ ?_ | refine hK _ _ (by rfl) ?_ | fail) | fail)
  refine d7 (d6 ?_); simp -implicitDefEqProofs [g8, f9, g7, z0] <;> try rfl
theorem a01 (ts : List Tok) (a b : Nat) (k n : Int) (s : ByteArray) (l : List VT) (ha : a < ts.length) (hb : 0 < b) (hbl : b ≤ ts.length) (hl : ts.length ≤ 9223372036854775807) : Row Tryz.prog 41 [vKs ts, vI a, vI b, vI k, vI n, vS s, vLs l] [] (vG (.mk ⟨k, n, s, frT ts a, toT ts (b - 1)⟩ l, b, 0)) [] := by
  obtain ⟨y, hy⟩ : ∃ y, ts[a]? = some y := ⟨_, List.getElem?_eq_getElem ha⟩
  have hy' := (List.getElem?_eq_some_iff.1 hy).2
  obtain ⟨j, rfl⟩ : ∃ j, b = j + 1 := ⟨b - 1, by omega⟩
  have hi1 : j < ts.length := by omega
  obtain ⟨z, hz⟩ : ∃ z, ts[j]? = some z := ⟨_, List.getElem?_eq_getElem hi1⟩
  have hz' := (List.getElem?_eq_some_iff.1 hz).2
  rw [show frT ts a = y.f by unfold frT; rw [y7 hy], show toT ts (j + 1 - 1) = z.t by unfold toT; rw [Nat.add_sub_cancel, y7 hz]]
  have wj : IntKind.i64.wrap ((j : Nat) : Int) = (j : Nat) := k9 _ (by omega) (by omega)
  refine f6 Tryz.func41 rfl rfl (Nat.le_of_ble_eq_true rfl) ?_
  repeat (first | refine d4 ?_ | refine b8 ?_ | refine b7 ?_ | refine b9 ?_ | refine f5 rfl ?_ | refine d8 rfl ?_ | ((first | refine c5 (fun K hK => ?_) | refine d5 f8 (fun K hK => ?_) | fail); simp -implicitDefEqProofs [ha, hy, hy', hz, hz', hi1, wj]; first | refine hK _ ?_ | refine hK _ _ (by rfl) ?_ | fail) | fail)
  refine d7 (d6 ?_); simp -implicitDefEqProofs [g8, f9, g7] <;> try rfl
theorem l8 {s : ByteArray} (h : quo s = 3) (x : Tok) : (decide (x.k = 3) && decide (x.s = s)) = isK s x := by unfold isK; rw [h]
theorem j0 {s : ByteArray} (h : quo s = 4) (x : Tok) : (decide (x.k = 4) && decide (x.s = s)) = isK s x := by unfold isK; rw [h]
theorem td_strs : td Tryz.prog 83 = some ⟨false, 1, 24, [.nilS], [], (.slice 9)⟩ := Eq.trans (by kernel_rfl) (Eq.refl _)
theorem td_intv : td Tryz.prog 126 = some ⟨false, 1, 24, [.nilS], [], (.slice 2)⟩ := Eq.trans (by kernel_rfl) (Eq.refl _)
attribute [simp] td_strs td_intv
abbrev Sg := ByteArray × Int
def c6k : Nat → List Sg
  | 1 => [(⟨#[124, 124]⟩, 1)]
  | 2 => [(⟨#[38, 38]⟩, 2)]
  | 3 => [(⟨#[61, 61]⟩, 3), (⟨#[33, 61]⟩, 4), (⟨#[60]⟩, 5), (⟨#[60, 61]⟩, 6), (⟨#[62]⟩, 7), (⟨#[62, 61]⟩, 8)]
  | 4 => [(⟨#[43]⟩, 9), (⟨#[45]⟩, 10)]
  | _ => [(⟨#[42]⟩, 11), (⟨#[47]⟩, 12), (⟨#[37]⟩, 13)]
def pS (x : Sg) : List PV := [Sx x.1]
def pI (x : Sg) : List PV := [I x.2]
abbrev vSI (l : List Sg) : AV := .tup [.c (.pv (.sl 1 (l.map pS))), .c (.pv (.sl 1 (l.map pI)))]
attribute [simp] pS pI
def fnd (x : Tok) : List Sg → Int
  | [] => 0
  | y :: l => if x.k = 4 ∧ x.s = y.1 then y.2 else fnd x l
theorem fnd_op (x : Tok) (l : Nat) (h1 : 1 ≤ l) (h5 : l ≤ 5) : fnd x (c6k l) = if (opK x).2 = l then (opK x).1 else 0 := by
  have hl : l = 1 ∨ l = 2 ∨ l = 3 ∨ l = 4 ∨ l = 5 := by omega
  unfold opK
  by_cases hk : x.k = 4; rotate_left
  · rcases hl with rfl | rfl | rfl | rfl | rfl <;> simp [c6k, fnd, hk]
  obtain ⟨k, n, s, f, t⟩ := x
  dsimp only at hk
  subst hk
  rw [if_pos rfl]
  dsimp only
  by_cases e0 : s = (⟨#[124, 124]⟩ : ByteArray)
  · subst e0; rcases hl with rfl | rfl | rfl | rfl | rfl <;> rfl
  by_cases e1 : s = (⟨#[38, 38]⟩ : ByteArray)
  · subst e1; rcases hl with rfl | rfl | rfl | rfl | rfl <;> rfl
  by_cases e2 : s = (⟨#[61, 61]⟩ : ByteArray)
  · subst e2; rcases hl with rfl | rfl | rfl | rfl | rfl <;> rfl
  by_cases e3 : s = (⟨#[33, 61]⟩ : ByteArray)
  · subst e3; rcases hl with rfl | rfl | rfl | rfl | rfl <;> rfl
  by_cases e4 : s = (⟨#[60]⟩ : ByteArray)
  · subst e4; rcases hl with rfl | rfl | rfl | rfl | rfl <;> rfl
  by_cases e5 : s = (⟨#[60, 61]⟩ : ByteArray)
  · subst e5; rcases hl with rfl | rfl | rfl | rfl | rfl <;> rfl
  by_cases e6 : s = (⟨#[62]⟩ : ByteArray)
  · subst e6; rcases hl with rfl | rfl | rfl | rfl | rfl <;> rfl
  by_cases e7 : s = (⟨#[62, 61]⟩ : ByteArray)
  · subst e7; rcases hl with rfl | rfl | rfl | rfl | rfl <;> rfl
  by_cases e8 : s = (⟨#[43]⟩ : ByteArray)
  · subst e8; rcases hl with rfl | rfl | rfl | rfl | rfl <;> rfl
  by_cases e9 : s = (⟨#[45]⟩ : ByteArray)
  · subst e9; rcases hl with rfl | rfl | rfl | rfl | rfl <;> rfl
  by_cases e10 : s = (⟨#[42]⟩ : ByteArray)
  · subst e10; rcases hl with rfl | rfl | rfl | rfl | rfl <;> rfl
  by_cases e11 : s = (⟨#[47]⟩ : ByteArray)
  · subst e11; rcases hl with rfl | rfl | rfl | rfl | rfl <;> rfl
  by_cases e12 : s = (⟨#[37]⟩ : ByteArray)
  · subst e12; rcases hl with rfl | rfl | rfl | rfl | rfl <;> rfl
  rcases hl with rfl | rfl | rfl | rfl | rfl <;> simp [c6k, fnd, opS, e0, e1, e2, e3, e4, e5, e6, e7, e8, e9, e10, e11, e12]
theorem c6i (x : Tok) (l : Nat) (h5 : l ≤ 5) (h : (opK x).2 = l) : (opK x).1 ≠ 0 := by
  unfold opK at h ⊢
  by_cases hk : x.k = 4; rotate_left
  · rw [if_neg hk] at h; dsimp only at h; omega
  rw [if_pos hk] at h ⊢
  obtain ⟨k, n, s, f, t⟩ := x
  dsimp only at h ⊢
  clear hk
  by_cases e0 : s = (⟨#[124, 124]⟩ : ByteArray)
  · subst e0; exact fun hh => absurd (show (1 : Int) = 0 from hh) (by decide)
  by_cases e1 : s = (⟨#[38, 38]⟩ : ByteArray)
  · subst e1; exact fun hh => absurd (show (2 : Int) = 0 from hh) (by decide)
  by_cases e2 : s = (⟨#[61, 61]⟩ : ByteArray)
  · subst e2; exact fun hh => absurd (show (3 : Int) = 0 from hh) (by decide)
  by_cases e3 : s = (⟨#[33, 61]⟩ : ByteArray)
  · subst e3; exact fun hh => absurd (show (4 : Int) = 0 from hh) (by decide)
  by_cases e4 : s = (⟨#[60]⟩ : ByteArray)
  · subst e4; exact fun hh => absurd (show (5 : Int) = 0 from hh) (by decide)
  by_cases e5 : s = (⟨#[60, 61]⟩ : ByteArray)
  · subst e5; exact fun hh => absurd (show (6 : Int) = 0 from hh) (by decide)
  by_cases e6 : s = (⟨#[62]⟩ : ByteArray)
  · subst e6; exact fun hh => absurd (show (7 : Int) = 0 from hh) (by decide)
  by_cases e7 : s = (⟨#[62, 61]⟩ : ByteArray)
  · subst e7; exact fun hh => absurd (show (8 : Int) = 0 from hh) (by decide)
  by_cases e8 : s = (⟨#[43]⟩ : ByteArray)
  · subst e8; exact fun hh => absurd (show (9 : Int) = 0 from hh) (by decide)
  by_cases e9 : s = (⟨#[45]⟩ : ByteArray)
  · subst e9; exact fun hh => absurd (show (10 : Int) = 0 from hh) (by decide)
  by_cases e10 : s = (⟨#[42]⟩ : ByteArray)
  · subst e10; exact fun hh => absurd (show (11 : Int) = 0 from hh) (by decide)
  by_cases e11 : s = (⟨#[47]⟩ : ByteArray)
  · subst e11; exact fun hh => absurd (show (12 : Int) = 0 from hh) (by decide)
  by_cases e12 : s = (⟨#[37]⟩ : ByteArray)
  · subst e12; exact fun hh => absurd (show (13 : Int) = 0 from hh) (by decide)
  simp [opS, e0, e1, e2, e3, e4, e5, e6, e7, e8, e9, e10, e11, e12] at h
  omega
theorem c6l (l : Nat) (h1 : 1 ≤ l) (h5 : l ≤ 5) : Row Tryz.prog 101 [vI (l : Nat)] [] (vSI (c6k l)) [] := by
  have hl : l = 1 ∨ l = 2 ∨ l = 3 ∨ l = 4 ∨ l = 5 := by omega
  rcases hl with rfl | rfl | rfl | rfl | rfl
  all_goals (
    refine f6 Tryz.func101 rfl rfl (Nat.le_of_ble_eq_true rfl) ?_
    repeat (first | refine d4 ?_ | refine b8 ?_ | refine b7 ?_ | refine b9 ?_ | refine f5 rfl ?_ | refine d8 rfl ?_ | ((first | refine c5 (fun K hK => ?_) | refine d5 f8 (fun K hK => ?_) | fail); simp -implicitDefEqProofs; first | refine hK _ ?_ | refine hK _ _ (by rfl) ?_ | fail) | fail)
    refine d7 (d6 ?_); simp -implicitDefEqProofs [g8, f9, g7, c6k] <;> try rfl)
theorem op_row (ts : List Tok) (i l : Nat) (h1 : 1 ≤ l) (h5 : l ≤ 5) : Row Tryz.prog 89 [vKs ts, vI i, vI (l : Nat)] [] (vI (if (opK (nxt ts i)).2 = l then (opK (nxt ts i)).1 else 0)) [] := by
  rw [← fnd_op _ l h1 h5]
  have o := c6l l h1 h5
  obtain ⟨L, hL⟩ : ∃ L, c6k l = L := ⟨_, rfl⟩
  have hLl : L.length ≤ 6 := by rw [← hL]; unfold c6k; split <;> simp
  rw [hL] at o ⊢
  refine f6 Tryz.func89 rfl rfl (Nat.le_of_ble_eq_true rfl) ?_
  repeat' (first | refine d4 ?_ | refine b8 ?_ | refine b7 ?_ | refine b9 ?_ | refine f5 rfl ?_ | refine d8 rfl ?_ | ((first | refine c5 (fun K hK => ?_) | refine d5 f8 (fun K hK => ?_) | refine a9 (cp o ?_) | refine a8 (dp o ?_) | fail); simp -implicitDefEqProofs) | refine hK _ ?_ | refine hK _ _ (by rfl) ?_ | fail)
  refine l7 (ι := Nat) (fun k => s7 [(0, vKs ts), (1, vI i), (7, .v (.c (.pv (.sl 1 (L.map pS))))), (8, .v (.c (.pv (.sl 1 (L.map pI))))), (9, vI (k : Nat))] []) (fun k => k ≤ L.length ∧ fnd (nxt ts i) (L.drop k) = fnd (nxt ts i) L) (fun k => L.length - k) 0 ⟨Nat.zero_le _, rfl⟩ (f7 [] (by simp -implicitDefEqProofs [hL]) (by simp -implicitDefEqProofs [hL]) (by decide) rfl (by simp)) (fun Z hI k hk => ?_)
  obtain ⟨hk, hf⟩ := hk
  by_cases hkl : k < L.length; rotate_left
  · have : k = L.length := by omega
    subst this
    rw [List.drop_length] at hf
    rw [← hf]
    repeat (first | refine d4 ?_ | refine b8 ?_ | refine b7 ?_ | refine b9 ?_ | refine f5 rfl ?_ | refine d8 rfl ?_ | ((first | refine c5 (fun K hK => ?_) | refine d5 f8 (fun K hK => ?_) | fail); simp -implicitDefEqProofs; first | refine hK _ ?_ | refine hK _ _ (by rfl) ?_ | fail) | fail)
    refine d7 (d6 ?_); simp -implicitDefEqProofs [g8, f9, g7, fnd] <;> try rfl
  obtain ⟨⟨y1, y2⟩, hy⟩ : ∃ y, L[k]? = some y := ⟨_, List.getElem?_eq_getElem hkl⟩
  have hy' := (List.getElem?_eq_some_iff.1 hy).2
  have w2 : IntKind.i64.wrap ((k : Nat) + 1 : Int) = (k : Nat) + 1 := k9 _ (by omega) (by omega)
  have q := i5 ts i y1
  rw [List.drop_eq_getElem_cons hkl, hy'] at hf
  rw [fnd] at hf
  by_cases hs : (nxt ts i).k = 4 ∧ (nxt ts i).s = y1
  · rw [if_pos hs] at hf
    dsimp only at hf
    rw [show (decide ((nxt ts i).k = 4) && decide ((nxt ts i).s = y1)) = true by simp [hs.1, hs.2]] at q
    rw [← hf]
    clear hf hs
    repeat' (first | refine d4 ?_ | refine b8 ?_ | refine b7 ?_ | refine b9 ?_ | refine f5 rfl ?_ | refine d8 rfl ?_ | ((first | refine c5 (fun K hK => ?_) | refine d5 f8 (fun K hK => ?_) | refine a9 (cp q ?_) | refine a8 (dp q ?_) | fail); simp -implicitDefEqProofs [hkl, hy, hy']) | refine hK _ ?_ | refine hK _ _ (by rfl) ?_ | fail)
    refine d7 (d6 ?_); simp -implicitDefEqProofs [g8, f9, g7] <;> try rfl
  · rw [if_neg hs] at hf
    rw [show (decide ((nxt ts i).k = 4) && decide ((nxt ts i).s = y1)) = false by simpa using hs] at q
    clear hs
    repeat' (first | refine d4 ?_ | refine b8 ?_ | refine b7 ?_ | refine b9 ?_ | refine f5 rfl ?_ | refine d8 rfl ?_ | ((first | refine c5 (fun K hK => ?_) | refine d5 f8 (fun K hK => ?_) | refine a9 (cp q ?_) | refine a8 (dp q ?_) | fail); simp -implicitDefEqProofs [hkl, hy, hy', w2]) | refine hK _ ?_ | refine hK _ _ (by rfl) ?_ | fail)
    refine ⟨k + 1, ⟨by omega, hf⟩, (by dsimp only; omega), ?_⟩; rw [hI]; exact f7 [] (by simp -implicitDefEqProofs) (by simp -implicitDefEqProofs) (by decide) rfl (by simp)
end Go.Proofs.YthkfdheoakbfnaaGreat.am
end
section
namespace Go.Proofs.YthkfdheoakbfnaaGreat.am
open Go.ChangeShapes Go.WideShapes Go.ChangeAt Go.RowKit
open vt
set_option linter.unusedVariables false
set_option linter.unusedSimpArgs false
noncomputable abbrev vC3 (r : List VT × Nat × Int) : AV := .tup [.c (.pv (.sl 6 (r.1.map tc))), .c (.pv (I (r.2.1 : Nat))), .c (.pv (I r.2.2))]
noncomputable abbrev gb (r : Got) : AO := .box ((tc r.1 ++ [I (r.2.1 : Nat), I r.2.2]).map .pv)
abbrev zG : AO := .box [.pv (I 0), .pv (I 0), .pv (Sx ⟨#[]⟩), .pv .nilS, .pv (I 0), .pv (I 0), .pv (I 0), .pv (I 0)]
section
variable (ts : List Tok) (hl : ts.length ≤ 1000000000)
include hl
theorem o4 (a b : Nat) (k n : Int) (s : ByteArray) (l : List VT) (ha : a < b) (hb : b ≤ ts.length) : Row Tryz.prog 41 [vKs ts, vI a, vI b, vI k, vI n, vS s, vLs l] [] (vG (mk7 ts a b k n s l)) [] := a01 ts a b k n s l (by omega) (by omega) hb (by omega)
theorem c67 (i : Nat) (hi : i ≤ ts.length) (h7 : Row Tryz.prog 100 [vKs ts, vI i] [] (vG (Qx ts 7 i)) []) (h6 : i < ts.length → Row Tryz.prog 88 [vKs ts, vI (i + 1 : Nat)] [] (vG (Qx ts 6 (i + 1))) []) : Row Tryz.prog 88 [vKs ts, vI i] [] (vG (Qx ts 6 i)) [] := by
  rw [Q_eq 6 i (by decide) (by decide) hi]
  have q1 := i5 ts i b87
  rw [j0 (by decide)] at q1
  have q2 := i5 ts i c0g
  rw [j0 (by decide)] at q2
  have w1 : IntKind.i64.wrap ((i : Nat) + 1 : Int) = (i : Nat) + 1 := k9 _ (by omega) (by omega)
  have main : ∀ (u : Int), u ≠ 0 → unN ts i = u → i < ts.length → (bG ts (Qx ts) 6 i = if (Qx ts 6 (i + 1)).2.2 ≠ 0 then Qx ts 6 (i + 1) else mk7 ts i (Qx ts 6 (i + 1)).2.1 11 u ⟨#[]⟩ [(Qx ts 6 (i + 1)).1]) := fun u hu h hlt => by
    unfold bG; rw [if_neg (by decide), if_pos rfl, h, if_neg hu]
  have hk := b4d (ts := ts) 6 (i + 1)
  by_cases e2 : isK c0g (nxt ts i) = true
  · have hlt := g9 e2
    rw [main 2 (by decide) (by unfold unN; rw [if_pos e2]) hlt]
    rw [e2] at q2
    have h6 := h6 hlt
    have hk := hk (by omega)
    obtain ⟨b1, hb1⟩ : ∃ b, isK b87 (nxt ts i) = b := ⟨_, rfl⟩
    rw [hb1] at q1
    obtain ⟨⟨⟨px, pl⟩, j, e⟩, hr⟩ : ∃ r, Qx ts 6 (i + 1) = r := ⟨_, rfl⟩
    rw [hr] at h6 hk ⊢
    clear main e2 hb1 hr h7
    by_cases he : e = 0
    · subst he
      have hy := hk.yes rfl
      dsimp only at hy
      rw [if_neg (by simp)]
      have m := o4 ts hl i j 11 2 ⟨#[]⟩ [.mk px pl] (by omega) hy.2
      cases b1
      · refine f6 Tryz.func88 rfl rfl (Nat.le_of_ble_eq_true rfl) ?_
        repeat' (first | refine d4 ?_ | refine b8 ?_ | refine b7 ?_ | refine b9 ?_ | refine f5 rfl ?_ | refine d8 rfl ?_ | ((first | refine c5 (fun K hK => ?_) | refine d5 f8 (fun K hK => ?_) | refine a9 (cp q1 ?_) | refine a8 (dp q1 ?_) | refine a9 (cp q2 ?_) | refine a8 (dp q2 ?_) | refine a9 (cp h6 ?_) | refine a8 (dp h6 ?_) | refine a9 (cp m ?_) | refine a8 (dp m ?_) | fail); simp -implicitDefEqProofs [w1]) | refine hK _ ?_ | refine hK _ _ (by rfl) ?_ | fail)
        refine d7 (d6 ?_); simp -implicitDefEqProofs [g8, f9, g7, mk7] <;> try rfl
      · refine f6 Tryz.func88 rfl rfl (Nat.le_of_ble_eq_true rfl) ?_
        repeat' (first | refine d4 ?_ | refine b8 ?_ | refine b7 ?_ | refine b9 ?_ | refine f5 rfl ?_ | refine d8 rfl ?_ | ((first | refine c5 (fun K hK => ?_) | refine d5 f8 (fun K hK => ?_) | refine a9 (cp q1 ?_) | refine a8 (dp q1 ?_) | refine a9 (cp q2 ?_) | refine a8 (dp q2 ?_) | refine a9 (cp h6 ?_) | refine a8 (dp h6 ?_) | refine a9 (cp m ?_) | refine a8 (dp m ?_) | fail); simp -implicitDefEqProofs [w1]) | refine hK _ ?_ | refine hK _ _ (by rfl) ?_ | fail)
        refine d7 (d6 ?_); simp -implicitDefEqProofs [g8, f9, g7, mk7] <;> try rfl
    · rw [if_pos he]
      cases b1
      · refine f6 Tryz.func88 rfl rfl (Nat.le_of_ble_eq_true rfl) ?_
        repeat' (first | refine d4 ?_ | refine b8 ?_ | refine b7 ?_ | refine b9 ?_ | refine f5 rfl ?_ | refine d8 rfl ?_ | ((first | refine c5 (fun K hK => ?_) | refine d5 f8 (fun K hK => ?_) | refine a9 (cp q1 ?_) | refine a8 (dp q1 ?_) | refine a9 (cp q2 ?_) | refine a8 (dp q2 ?_) | refine a9 (cp h6 ?_) | refine a8 (dp h6 ?_) | fail); simp -implicitDefEqProofs [w1, he]) | refine hK _ ?_ | refine hK _ _ (by rfl) ?_ | fail)
        refine d7 (d6 ?_); simp -implicitDefEqProofs [g8, f9, g7] <;> try rfl
      · refine f6 Tryz.func88 rfl rfl (Nat.le_of_ble_eq_true rfl) ?_
        repeat' (first | refine d4 ?_ | refine b8 ?_ | refine b7 ?_ | refine b9 ?_ | refine f5 rfl ?_ | refine d8 rfl ?_ | ((first | refine c5 (fun K hK => ?_) | refine d5 f8 (fun K hK => ?_) | refine a9 (cp q1 ?_) | refine a8 (dp q1 ?_) | refine a9 (cp q2 ?_) | refine a8 (dp q2 ?_) | refine a9 (cp h6 ?_) | refine a8 (dp h6 ?_) | fail); simp -implicitDefEqProofs [w1, he]) | refine hK _ ?_ | refine hK _ _ (by rfl) ?_ | fail)
        refine d7 (d6 ?_); simp -implicitDefEqProofs [g8, f9, g7] <;> try rfl
  have e2 : isK c0g (nxt ts i) = false := by simpa using e2
  rw [e2] at q2
  by_cases e1 : isK b87 (nxt ts i) = true
  · have hlt := g9 e1
    rw [main 1 (by decide) (by unfold unN; rw [if_neg (by simp [e2]), if_pos e1]) hlt]
    rw [e1] at q1
    have h6 := h6 hlt
    have hk := hk (by omega)
    obtain ⟨⟨⟨px, pl⟩, j, e⟩, hr⟩ : ∃ r, Qx ts 6 (i + 1) = r := ⟨_, rfl⟩
    rw [hr] at h6 hk ⊢
    clear main e1 e2 hr h7
    by_cases he : e = 0
    · subst he
      have hy := hk.yes rfl
      dsimp only at hy
      rw [if_neg (by simp)]
      have m := o4 ts hl i j 11 1 ⟨#[]⟩ [.mk px pl] (by omega) hy.2
      refine f6 Tryz.func88 rfl rfl (Nat.le_of_ble_eq_true rfl) ?_
      repeat' (first | refine d4 ?_ | refine b8 ?_ | refine b7 ?_ | refine b9 ?_ | refine f5 rfl ?_ | refine d8 rfl ?_ | ((first | refine c5 (fun K hK => ?_) | refine d5 f8 (fun K hK => ?_) | refine a9 (cp q1 ?_) | refine a8 (dp q1 ?_) | refine a9 (cp q2 ?_) | refine a8 (dp q2 ?_) | refine a9 (cp h6 ?_) | refine a8 (dp h6 ?_) | refine a9 (cp m ?_) | refine a8 (dp m ?_) | fail); simp -implicitDefEqProofs [w1]) | refine hK _ ?_ | refine hK _ _ (by rfl) ?_ | fail)
      refine d7 (d6 ?_); simp -implicitDefEqProofs [g8, f9, g7, mk7] <;> try rfl
    · rw [if_pos he]
      refine f6 Tryz.func88 rfl rfl (Nat.le_of_ble_eq_true rfl) ?_
      repeat' (first | refine d4 ?_ | refine b8 ?_ | refine b7 ?_ | refine b9 ?_ | refine f5 rfl ?_ | refine d8 rfl ?_ | ((first | refine c5 (fun K hK => ?_) | refine d5 f8 (fun K hK => ?_) | refine a9 (cp q1 ?_) | refine a8 (dp q1 ?_) | refine a9 (cp q2 ?_) | refine a8 (dp q2 ?_) | refine a9 (cp h6 ?_) | refine a8 (dp h6 ?_) | fail); simp -implicitDefEqProofs [w1, he]) | refine hK _ ?_ | refine hK _ _ (by rfl) ?_ | fail)
      refine d7 (d6 ?_); simp -implicitDefEqProofs [g8, f9, g7] <;> try rfl
  have e1 : isK b87 (nxt ts i) = false := by simpa using e1
  rw [e1] at q1
  rw [show bG ts (Qx ts) 6 i = Qx ts 7 i by unfold bG; rw [if_neg (by decide), if_pos rfl, if_pos (by unfold unN; simp [e1, e2])]]
  obtain ⟨⟨⟨px, pl⟩, j, e⟩, hr⟩ : ∃ r, Qx ts 7 i = r := ⟨_, rfl⟩
  rw [hr] at h7 ⊢
  clear main e1 e2 hr hk h6
  refine f6 Tryz.func88 rfl rfl (Nat.le_of_ble_eq_true rfl) ?_
  repeat' (first | refine d4 ?_ | refine b8 ?_ | refine b7 ?_ | refine b9 ?_ | refine f5 rfl ?_ | refine d8 rfl ?_ | ((first | refine c5 (fun K hK => ?_) | refine d5 f8 (fun K hK => ?_) | refine a9 (cp q1 ?_) | refine a8 (dp q1 ?_) | refine a9 (cp q2 ?_) | refine a8 (dp q2 ?_) | refine a9 (cp h7 ?_) | refine a8 (dp h7 ?_) | fail); simp -implicitDefEqProofs) | refine hK _ ?_ | refine hK _ _ (by rfl) ?_ | fail)
  refine d7 (d6 ?_); simp -implicitDefEqProofs [g8, f9, g7] <;> try rfl
omit hl in
theorem c1p (i : Nat) (h6 : Row Tryz.prog 88 [vKs ts, vI i] [] (vG (Qx ts 6 i)) []) : Row Tryz.prog 80 [vKs ts, vI i, vI (6 : Nat)] [] (vG (Qx ts 6 i)) [] := by
  obtain ⟨⟨⟨px, pl⟩, j, e⟩, hr⟩ : ∃ r, Qx ts 6 i = r := ⟨_, rfl⟩
  rw [hr] at h6 ⊢
  refine f6 Tryz.func80 rfl rfl (Nat.le_of_ble_eq_true rfl) ?_
  repeat' (first | refine d4 ?_ | refine b8 ?_ | refine b7 ?_ | refine b9 ?_ | refine f5 rfl ?_ | refine d8 rfl ?_ | ((first | refine c5 (fun K hK => ?_) | refine d5 f8 (fun K hK => ?_) | refine a9 (cp h6 ?_) | refine a8 (dp h6 ?_) | fail); simp -implicitDefEqProofs) | refine hK _ ?_ | refine hK _ _ (by rfl) ?_ | fail)
  refine d7 (d6 ?_); simp -implicitDefEqProofs [g8, f9, g7] <;> try rfl
omit hl in
theorem b7b (i : Nat) (h1 : Row Tryz.prog 80 [vKs ts, vI i, vI (1 : Nat)] [] (vG (Qx ts 1 i)) []) : Row Tryz.prog 73 [vKs ts, vI i] [] (vG (Qx ts 1 i)) [] := by
  obtain ⟨⟨⟨px, pl⟩, j, e⟩, hr⟩ : ∃ r, Qx ts 1 i = r := ⟨_, rfl⟩
  rw [hr] at h1 ⊢
  refine f6 Tryz.func73 rfl rfl (Nat.le_of_ble_eq_true rfl) ?_
  repeat' (first | refine d4 ?_ | refine b8 ?_ | refine b7 ?_ | refine b9 ?_ | refine f5 rfl ?_ | refine d8 rfl ?_ | ((first | refine c5 (fun K hK => ?_) | refine d5 f8 (fun K hK => ?_) | refine a9 (cp h1 ?_) | refine a8 (dp h1 ?_) | fail); simp -implicitDefEqProofs) | refine hK _ ?_ | refine hK _ _ (by rfl) ?_ | fail)
  refine d7 (d6 ?_); simp -implicitDefEqProofs [g8, f9, g7] <;> try rfl
structure InvL (l i : Nat) (x : Nat × Nat × Got) : Prop where
  eq : lpL ts (Qx ts (l + 1)) l i x.1 (decide (0 < x.2.1)) x.2.2 = Qx ts l i
  ok : OkG ts i x.2.2
  fuel : x.2.2.2.2 = 0 → ts.length < x.1 + x.2.2.2.1
  few : x.1 + x.2.1 ≤ ts.length + 1
  three : l = 3 → x.2.1 ≤ 1
theorem c1q (l : Nat) (h1 : 1 ≤ l) (h5 : l ≤ 5) (i : Nat) (hi : i ≤ ts.length) (hP : ∀ j, i ≤ j → j ≤ ts.length → Row Tryz.prog 80 [vKs ts, vI j, vI (l + 1 : Nat)] [] (vG (Qx ts (l + 1) j)) []) : Row Tryz.prog 80 [vKs ts, vI i, vI (l : Nat)] [] (vG (Qx ts l i)) [] := by
  have q := hP i (Nat.le_refl i) hi
  have wl : IntKind.i64.wrap ((l : Nat) + 1 : Int) = (l : Nat) + 1 := k9 _ (by omega) (by omega)
  have nl : ¬ (l : Int) = 6 := by omega
  have h0 : InvL ts l i (ts.length + 1, 0, Qx ts (l + 1) i) := by
    have ho := b4d (ts := ts) (l + 1) i hi
    refine ⟨?_, ho, fun h => by dsimp only; omega, Nat.le_refl _, fun _ => Nat.zero_le _⟩
    rw [Q_eq l i h1 (by omega) hi]; unfold bG; rw [if_pos h5]; rfl
  refine f6 Tryz.func80 rfl rfl (Nat.le_of_ble_eq_true rfl) ?_
  obtain ⟨⟨⟨ax, al⟩, a2, a3⟩, hr⟩ : ∃ r, Qx ts (l + 1) i = r := ⟨_, rfl⟩
  rw [hr] at q h0
  repeat' (first | refine d4 ?_ | refine b8 ?_ | refine b7 ?_ | refine b9 ?_ | refine f5 rfl ?_ | refine d8 rfl ?_ | ((first | refine c5 (fun K hK => ?_) | refine d5 f8 (fun K hK => ?_) | refine a9 (cp q ?_) | refine a8 (dp q ?_) | fail); simp -implicitDefEqProofs [wl, nl]) | refine hK _ ?_ | refine hK _ _ (by rfl) ?_ | fail)
  refine l7 (ι := Nat × Nat × Got) (fun x => s7 [(0, vKs ts), (1, vI i), (2, vI (l : Nat)), (6, .v (.c (.ptr 0 0))), (7, .v (.c (.ptr 1 0))), (8, vI (x.2.1 : Nat))] [some zG, some (gb x.2.2)]) (InvL ts l i) (fun x => x.1) (ts.length + 1, 0, (.mk ax al, a2, a3)) h0 (f7 [0, 15] (by simp -implicitDefEqProofs) (by simp -implicitDefEqProofs) (by decide) rfl (by simp)) (fun Z hI x hx => ?_)
  clear h0 hr q
  obtain ⟨m, t, ⟨⟨px, pl⟩, j, e⟩⟩ := x
  obtain ⟨x1, x2, x3, x4, x5⟩ := hx
  dsimp only at x1 x2 x3 x4 x5 ⊢
  by_cases he : e = 0; rotate_left
  · have hd : Qx ts l i = (.mk px pl, j, e) := by
      rw [← x1]
      cases m
      · rfl
      · rw [lpL, if_pos he]
    rw [hd]
    repeat (first | refine d4 ?_ | refine b8 ?_ | refine b7 ?_ | refine b9 ?_ | refine f5 rfl ?_ | refine d8 rfl ?_ | ((first | refine c5 (fun K hK => ?_) | refine d5 f8 (fun K hK => ?_) | fail); simp -implicitDefEqProofs [he]; first | refine hK _ ?_ | refine hK _ _ (by rfl) ?_ | fail) | fail)
    refine d7 (d6 ?_); simp -implicitDefEqProofs [g8, f9, g7] <;> try rfl
  subst he
  have x3 := x3 rfl
  have hy := x2.yes rfl
  dsimp only at hy
  obtain ⟨m, rfl⟩ : ∃ m', m = m' + 1 := ⟨m - 1, by omega⟩
  have o := op_row ts j l h1 h5
  by_cases ho : (opK (nxt ts j)).2 = l; rotate_left
  · have hd : Qx ts l i = (.mk px pl, j, 0) := by rw [← x1, lpL, if_neg (by simp), if_pos (.inl ho)]
    rw [hd]
    rw [if_neg ho] at o
    repeat' (first | refine d4 ?_ | refine b8 ?_ | refine b7 ?_ | refine b9 ?_ | refine f5 rfl ?_ | refine d8 rfl ?_ | ((first | refine c5 (fun K hK => ?_) | refine d5 f8 (fun K hK => ?_) | refine a9 (cp o ?_) | refine a8 (dp o ?_) | fail); simp -implicitDefEqProofs) | refine hK _ ?_ | refine hK _ _ (by rfl) ?_ | fail)
    refine d7 (d6 ?_); simp -implicitDefEqProofs [g8, f9, g7] <;> try rfl
  rw [if_pos ho] at o
  have on := c6i _ l h5 ho
  have hlt := b4v ho h5
  by_cases h3 : l = 3 ∧ 0 < t
  · have hd : Qx ts l i = (.mk px pl, j, 0) := by rw [← x1, lpL, if_neg (by simp), if_pos (.inr ⟨h3.1, by simp [h3.2]⟩)]
    rw [hd]
    have ht := x5 h3.1
    obtain ⟨rfl, h3⟩ := h3
    obtain rfl : t = 1 := by omega
    repeat' (first | refine d4 ?_ | refine b8 ?_ | refine b7 ?_ | refine b9 ?_ | refine f5 rfl ?_ | refine d8 rfl ?_ | ((first | refine c5 (fun K hK => ?_) | refine d5 f8 (fun K hK => ?_) | refine a9 (cp o ?_) | refine a8 (dp o ?_) | fail); simp -implicitDefEqProofs [on]) | refine hK _ ?_ | refine hK _ _ (by rfl) ?_ | fail)
    refine d7 (d6 ?_); simp -implicitDefEqProofs [g8, f9, g7] <;> try rfl
  have hq := hP (j + 1) (by omega) (by omega)
  have w1 : IntKind.i64.wrap ((j : Nat) + 1 : Int) = (j : Nat) + 1 := k9 _ (by omega) (by omega)
  have w2 : IntKind.i64.wrap ((t : Nat) + 1 : Int) = (t : Nat) + 1 := k9 _ (by omega) (by omega)
  rw [lpL, if_neg (by simp), if_neg (by rw [not_or]; exact ⟨by simpa using ho, by simpa using h3⟩)] at x1
  have hk := b4d (ts := ts) (l + 1) (j + 1) (by omega)
  dsimp only at x1
  obtain ⟨⟨⟨rx, rl⟩, r2, r3⟩, hr⟩ : ∃ r, Qx ts (l + 1) (j + 1) = r := ⟨_, rfl⟩
  rw [hr] at hq hk x1
  have n3 : ¬ (l : Int) = 3 ∨ t = 0 := by omega
  by_cases hr3 : r3 = 0; rotate_left
  · rw [if_pos hr3] at x1
    rw [← x1]
    clear x1 hr hP x2 hk ho
    by_cases n3' : l = 3
    · subst n3'
      obtain rfl : t = 0 := by omega
      have wl : IntKind.i64.wrap (4 : Int) = 4 := by decide
      repeat' (first | refine d4 ?_ | refine b8 ?_ | refine b7 ?_ | refine b9 ?_ | refine f5 rfl ?_ | refine d8 rfl ?_ | ((first | refine c5 (fun K hK => ?_) | refine d5 f8 (fun K hK => ?_) | refine a9 (cp o ?_) | refine a8 (dp o ?_) | refine a9 (cp hq ?_) | refine a8 (dp hq ?_) | fail); simp -implicitDefEqProofs [on, w1, wl, hr3]) | refine hK _ ?_ | refine hK _ _ (by rfl) ?_ | fail)
      refine d7 (d6 ?_); simp -implicitDefEqProofs [g8, f9, g7] <;> try rfl
    · have n3 : ¬ (l : Int) = 3 := by omega
      repeat' (first | refine d4 ?_ | refine b8 ?_ | refine b7 ?_ | refine b9 ?_ | refine f5 rfl ?_ | refine d8 rfl ?_ | ((first | refine c5 (fun K hK => ?_) | refine d5 f8 (fun K hK => ?_) | refine a9 (cp o ?_) | refine a8 (dp o ?_) | refine a9 (cp hq ?_) | refine a8 (dp hq ?_) | fail); simp -implicitDefEqProofs [on, n3, w1, wl, hr3]) | refine hK _ ?_ | refine hK _ _ (by rfl) ?_ | fail)
      refine d7 (d6 ?_); simp -implicitDefEqProofs [g8, f9, g7] <;> try rfl
  subst hr3
  rw [if_neg (by simp)] at x1
  have hyy := hk.yes rfl
  dsimp only at hyy x1
  have m7 := o4 ts hl i r2 10 (opK (nxt ts j)).1 ⟨#[]⟩ [.mk px pl, .mk rx rl] (by omega) hyy.2
  have nx : InvL ts l i (m, t + 1, mk7 ts i r2 10 (opK (nxt ts j)).1 ⟨#[]⟩ [.mk px pl, .mk rx rl]) := ⟨by rw [show decide (0 < t + 1) = true by simp]; exact x1, t5 (by omega) hyy.2, fun _ => by show ts.length < m + r2; omega, by show m + (t + 1) ≤ _; omega, fun h => by show t + 1 ≤ 1; omega⟩
  clear x1 hr hP x2 hk ho
  by_cases n3' : l = 3
  · subst n3'
    obtain rfl : t = 0 := by omega
    have wl : IntKind.i64.wrap (4 : Int) = 4 := by decide
    have w2 : IntKind.i64.wrap (1 : Int) = 1 := by decide
    repeat' (first | refine d4 ?_ | refine b8 ?_ | refine b7 ?_ | refine b9 ?_ | refine f5 rfl ?_ | refine d8 rfl ?_ | ((first | refine c5 (fun K hK => ?_) | refine d5 f8 (fun K hK => ?_) | refine a9 (cp o ?_) | refine a8 (dp o ?_) | refine a9 (cp hq ?_) | refine a8 (dp hq ?_) | refine a9 (cp m7 ?_) | refine a8 (dp m7 ?_) | fail); simp -implicitDefEqProofs [on, w1, w2, wl]) | refine hK _ ?_ | refine hK _ _ (by rfl) ?_ | fail)
    refine ⟨(_, _, _), nx, (by dsimp only; omega), ?_⟩; rw [hI]; exact f7 [0, 1] (by simp -implicitDefEqProofs [mk7, z0, w2]) (by simp -implicitDefEqProofs [mk7, z0, w2]) (by decide) rfl (by simp)
  · have n3 : ¬ (l : Int) = 3 := by omega
    repeat' (first | refine d4 ?_ | refine b8 ?_ | refine b7 ?_ | refine b9 ?_ | refine f5 rfl ?_ | refine d8 rfl ?_ | ((first | refine c5 (fun K hK => ?_) | refine d5 f8 (fun K hK => ?_) | refine a9 (cp o ?_) | refine a8 (dp o ?_) | refine a9 (cp hq ?_) | refine a8 (dp hq ?_) | refine a9 (cp m7 ?_) | refine a8 (dp m7 ?_) | fail); simp -implicitDefEqProofs [on, n3, w1, w2, wl]) | refine hK _ ?_ | refine hK _ _ (by rfl) ?_ | fail)
    refine ⟨(_, _, _), nx, (by dsimp only; omega), ?_⟩; rw [hI]; exact f7 [0, 1] (by simp -implicitDefEqProofs [mk7, z0, w2]) (by simp -implicitDefEqProofs [mk7, z0, w2]) (by decide) rfl (by simp)
end
end Go.Proofs.YthkfdheoakbfnaaGreat.am
end
section
namespace Go.Proofs.YthkfdheoakbfnaaGreat.am
open Go.ChangeShapes Go.WideShapes Go.ChangeAt Go.RowKit
open vt
set_option linter.unusedVariables false
set_option linter.unusedSimpArgs false
section
variable (ts : List Tok) (hl : ts.length ≤ 1000000000)
structure InvP (i : Nat) (x : Nat × Got) : Prop where
  eq : lpP ts (Qx ts 1) i x.1 x.2 = Qx ts 7 i
  ok : OkG ts i x.2
  fuel : x.2.2.2 = 0 → ts.length < x.1 + x.2.2.1
include hl
theorem b8j (i : Nat) (hi : i ≤ ts.length) (h8 : Row Tryz.prog 58 [vKs ts, vI i] [] (vG (Qx ts 8 i)) []) (hE : ∀ j, i < j → j ≤ ts.length → Row Tryz.prog 73 [vKs ts, vI j] [] (vG (Qx ts 1 j)) []) : Row Tryz.prog 100 [vKs ts, vI i] [] (vG (Qx ts 7 i)) [] := by
  have h0 : InvP ts i (ts.length + 1, Qx ts 8 i) := by
    have ho := b4d (ts := ts) 8 i hi
    refine ⟨?_, ho, fun h => by dsimp only; omega⟩
    rw [Q_eq 7 i (by decide) (by decide) hi]; unfold bG; rw [if_neg (by decide), if_neg (by decide), if_pos rfl]
  refine f6 Tryz.func100 rfl rfl (Nat.le_of_ble_eq_true rfl) ?_
  obtain ⟨⟨⟨ax, al⟩, a2, a3⟩, hr⟩ : ∃ r, Qx ts 8 i = r := ⟨_, rfl⟩
  rw [hr] at h8 h0
  repeat' (first | refine d4 ?_ | refine b8 ?_ | refine b7 ?_ | refine b9 ?_ | refine f5 rfl ?_ | refine d8 rfl ?_ | ((first | refine c5 (fun K hK => ?_) | refine d5 f8 (fun K hK => ?_) | refine a9 (cp h8 ?_) | refine a8 (dp h8 ?_) | fail); simp -implicitDefEqProofs) | refine hK _ ?_ | refine hK _ _ (by rfl) ?_ | fail)
  refine l7 (ι := Nat × Got) (fun x => s7 [(0, vKs ts), (1, vI i), (4, .v (.c (.ptr 0 0))), (5, .v (.c (.ptr 1 0)))] [some zG, some (gb x.2)]) (InvP ts i) (fun x => x.1) (ts.length + 1, (.mk ax al, a2, a3)) h0 (f7 [0, 11] (by simp -implicitDefEqProofs) (by simp -implicitDefEqProofs) (by decide) rfl (by simp)) (fun Z hI x hx => ?_)
  clear h0 hr h8
  obtain ⟨m, ⟨⟨px, pl⟩, j, e⟩⟩ := x
  obtain ⟨x1, x2, x3⟩ := hx
  dsimp only at x1 x2 x3 ⊢
  by_cases he : e = 0; rotate_left
  · have hd : Qx ts 7 i = (.mk px pl, j, e) := by
      rw [← x1]
      cases m
      · rfl
      · rw [lpP, if_pos he]
    rw [hd]
    repeat (first | refine d4 ?_ | refine b8 ?_ | refine b7 ?_ | refine b9 ?_ | refine f5 rfl ?_ | refine d8 rfl ?_ | ((first | refine c5 (fun K hK => ?_) | refine d5 f8 (fun K hK => ?_) | fail); simp -implicitDefEqProofs [he]; first | refine hK _ ?_ | refine hK _ _ (by rfl) ?_ | fail) | fail)
    refine d7 (d6 ?_); simp -implicitDefEqProofs [g8, f9, g7] <;> try rfl
  subst he
  have x3 := x3 rfl
  have hy := x2.yes rfl
  dsimp only at hy
  obtain ⟨m, rfl⟩ : ∃ m', m = m' + 1 := ⟨m - 1, by omega⟩
  have q1 := i5 ts j t8
  rw [j0 (by decide)] at q1
  have q2 := i5 ts j sDot
  rw [j0 (by decide)] at q2
  have w1 : IntKind.i64.wrap ((j : Nat) + 1 : Int) = (j : Nat) + 1 := k9 _ (by omega) (by omega)
  rw [lpP, if_neg (by simp)] at x1
  dsimp only at x1
  by_cases e1 : isK t8 (nxt ts j) = true
  · have hlt := g9 e1
    rw [if_pos e1] at x1
    rw [e1] at q1
    have hq := hE (j + 1) (by omega) (by omega)
    have hk := b4d (ts := ts) 1 (j + 1) (by omega)
    obtain ⟨⟨⟨rx, rl⟩, r2, r3⟩, hr⟩ : ∃ r, Qx ts 1 (j + 1) = r := ⟨_, rfl⟩
    rw [hr] at hq hk x1
    by_cases hr3 : r3 = 0; rotate_left
    · rw [if_pos hr3] at x1
      rw [← x1]
      clear x1 hr hE x2 hk q2 e1
      repeat' (first | refine d4 ?_ | refine b8 ?_ | refine b7 ?_ | refine b9 ?_ | refine f5 rfl ?_ | refine d8 rfl ?_ | ((first | refine c5 (fun K hK => ?_) | refine d5 f8 (fun K hK => ?_) | refine a9 (cp q1 ?_) | refine a8 (dp q1 ?_) | refine a9 (cp hq ?_) | refine a8 (dp hq ?_) | fail); simp -implicitDefEqProofs [hr3, w1]) | refine hK _ ?_ | refine hK _ _ (by rfl) ?_ | fail)
      refine d7 (d6 ?_); simp -implicitDefEqProofs [g8, f9, g7] <;> try rfl
    subst hr3
    rw [if_neg (by simp)] at x1
    have hyy := hk.yes rfl
    dsimp only at hyy x1
    have q3 := i5 ts r2 t9
    rw [j0 (by decide)] at q3
    by_cases e3 : isK t9 (nxt ts r2) = true; rotate_left
    · have e3 : isK t9 (nxt ts r2) = false := by simpa using e3
      rw [if_pos e3] at x1
      rw [← x1]
      rw [e3] at q3
      have b := l6 r2
      clear x1 hr hE x2 hk q2 e1 e3
      repeat' (first | refine d4 ?_ | refine b8 ?_ | refine b7 ?_ | refine b9 ?_ | refine f5 rfl ?_ | refine d8 rfl ?_ | ((first | refine c5 (fun K hK => ?_) | refine d5 f8 (fun K hK => ?_) | refine a9 (cp q1 ?_) | refine a8 (dp q1 ?_) | refine a9 (cp hq ?_) | refine a8 (dp hq ?_) | refine a9 (cp q3 ?_) | refine a8 (dp q3 ?_) | refine a9 (cp b ?_) | refine a8 (dp b ?_) | fail); simp -implicitDefEqProofs [w1]) | refine hK _ ?_ | refine hK _ _ (by rfl) ?_ | fail)
      refine d7 (d6 ?_); simp -implicitDefEqProofs [g8, f9, g7, n6, z0] <;> try rfl
    have hlt2 := g9 e3
    have w2 : IntKind.i64.wrap ((r2 : Nat) + 1 : Int) = (r2 : Nat) + 1 := k9 _ (by omega) (by omega)
    rw [if_neg (by simp [e3])] at x1
    rw [e3] at q3
    have m7 := o4 ts hl i (r2 + 1) 12 0 ⟨#[]⟩ [.mk px pl, .mk rx rl] (by omega) (by omega)
    have nx : InvP ts i (m, mk7 ts i (r2 + 1) 12 0 ⟨#[]⟩ [.mk px pl, .mk rx rl]) := ⟨x1, t5 (by omega) (by omega), fun _ => by show ts.length < m + (r2 + 1); omega⟩
    clear x1 hr hE x2 hk q2 e1 e3
    repeat' (first | refine d4 ?_ | refine b8 ?_ | refine b7 ?_ | refine b9 ?_ | refine f5 rfl ?_ | refine d8 rfl ?_ | ((first | refine c5 (fun K hK => ?_) | refine d5 f8 (fun K hK => ?_) | refine a9 (cp q1 ?_) | refine a8 (dp q1 ?_) | refine a9 (cp hq ?_) | refine a8 (dp hq ?_) | refine a9 (cp q3 ?_) | refine a8 (dp q3 ?_) | refine a9 (cp m7 ?_) | refine a8 (dp m7 ?_) | fail); simp -implicitDefEqProofs [w1, w2]) | refine hK _ ?_ | refine hK _ _ (by rfl) ?_ | fail)
    refine ⟨(_, _), nx, (by dsimp only; omega), ?_⟩; rw [hI]; exact f7 [0, 1] (by simp -implicitDefEqProofs [mk7]) (by simp -implicitDefEqProofs [mk7]) (by decide) rfl (by simp)
  have e1 : isK t8 (nxt ts j) = false := by simpa using e1
  rw [if_neg (by simp [e1])] at x1
  rw [e1] at q1
  by_cases e2 : isK sDot (nxt ts j) = true; rotate_left
  · rw [if_neg e2] at x1
    rw [← x1]
    rw [show isK sDot (nxt ts j) = false by simpa using e2] at q2
    clear x1 hE x2 e1 e2
    repeat' (first | refine d4 ?_ | refine b8 ?_ | refine b7 ?_ | refine b9 ?_ | refine f5 rfl ?_ | refine d8 rfl ?_ | ((first | refine c5 (fun K hK => ?_) | refine d5 f8 (fun K hK => ?_) | refine a9 (cp q1 ?_) | refine a8 (dp q1 ?_) | refine a9 (cp q2 ?_) | refine a8 (dp q2 ?_) | fail); simp -implicitDefEqProofs) | refine hK _ ?_ | refine hK _ _ (by rfl) ?_ | fail)
    refine d7 (d6 ?_); simp -implicitDefEqProofs [g8, f9, g7] <;> try rfl
  rw [if_pos e2] at x1
  rw [e2] at q2
  have hlt := g9 e2
  have o := s4 ts (j + 1)
  by_cases e4 : (nxt ts (j + 1)).k = 1; rotate_left
  · rw [if_pos e4] at x1
    rw [← x1]
    have b := l6 (j + 1)
    clear x1 hE x2 e1 e2
    repeat' (first | refine d4 ?_ | refine b8 ?_ | refine b7 ?_ | refine b9 ?_ | refine f5 rfl ?_ | refine d8 rfl ?_ | ((first | refine c5 (fun K hK => ?_) | refine d5 f8 (fun K hK => ?_) | refine a9 (cp q1 ?_) | refine a8 (dp q1 ?_) | refine a9 (cp q2 ?_) | refine a8 (dp q2 ?_) | refine a9 (cp o ?_) | refine a8 (dp o ?_) | refine a9 (cp b ?_) | refine a8 (dp b ?_) | fail); simp -implicitDefEqProofs [w1, e4]) | refine hK _ ?_ | refine hK _ _ (by rfl) ?_ | fail)
    refine d7 (d6 ?_); simp -implicitDefEqProofs [g8, f9, g7, n6, z0] <;> try rfl
  rw [if_neg (by simp [e4])] at x1
  have hlt2 := z4 e4 (by decide)
  have w2 : IntKind.i64.wrap ((j : Nat) + 2 : Int) = (j : Nat) + 2 := k9 _ (by omega) (by omega)
  have m7 := o4 ts hl i (j + 2) 13 0 (nxt ts (j + 1)).s [.mk px pl] (by omega) (by omega)
  have nx : InvP ts i (m, mk7 ts i (j + 2) 13 0 (nxt ts (j + 1)).s [.mk px pl]) := ⟨x1, t5 (by omega) (by omega), fun _ => by show ts.length < m + (j + 2); omega⟩
  clear x1 hE x2 e1 e2
  repeat' (first | refine d4 ?_ | refine b8 ?_ | refine b7 ?_ | refine b9 ?_ | refine f5 rfl ?_ | refine d8 rfl ?_ | ((first | refine c5 (fun K hK => ?_) | refine d5 f8 (fun K hK => ?_) | refine a9 (cp q1 ?_) | refine a8 (dp q1 ?_) | refine a9 (cp q2 ?_) | refine a8 (dp q2 ?_) | refine a9 (cp o ?_) | refine a8 (dp o ?_) | refine a9 (cp m7 ?_) | refine a8 (dp m7 ?_) | fail); simp -implicitDefEqProofs [w1, w2, e4]) | refine hK _ ?_ | refine hK _ _ (by rfl) ?_ | fail)
  refine ⟨(_, _), nx, (by dsimp only; omega), ?_⟩; rw [hI]; exact f7 [0, 1] (by simp -implicitDefEqProofs [mk7]) (by simp -implicitDefEqProofs [mk7]) (by decide) rfl (by simp)
structure InvC (E : Nat → Got) (i : Nat) (x : Nat × Nat × List VT) : Prop where
  eq : lpC ts E x.1 x.2.1 x.2.2 = lpC ts E (ts.length + 1) i []
  le : i ≤ x.2.1 ∧ x.2.1 ≤ ts.length
  fuel : ts.length < x.1 + x.2.1
  few : x.2.2.length + x.1 ≤ ts.length + 1
theorem c1r (i : Nat) (hi : i ≤ ts.length) (hE : ∀ j, i ≤ j → j ≤ ts.length → Row Tryz.prog 73 [vKs ts, vI j] [] (vG (Qx ts 1 j)) []) : Row Tryz.prog 90 [vKs ts, vI i] [] (vC3 (lpC ts (Qx ts 1) (ts.length + 1) i [])) [] := by
  have h0 : InvC ts (Qx ts 1) i (ts.length + 1, i, []) := ⟨rfl, ⟨Nat.le_refl _, hi⟩, by dsimp only; omega, by simp⟩
  refine f6 Tryz.func90 rfl rfl (Nat.le_of_ble_eq_true rfl) ?_
  repeat (first | refine d4 ?_ | refine b8 ?_ | refine b7 ?_ | refine b9 ?_ | refine f5 rfl ?_ | refine d8 rfl ?_ | ((first | refine c5 (fun K hK => ?_) | refine d5 f8 (fun K hK => ?_) | fail); simp -implicitDefEqProofs; first | refine hK _ ?_ | refine hK _ _ (by rfl) ?_ | fail) | fail)
  refine l7 (ι := Nat × Nat × List VT) (fun x => s7 [(0, vKs ts), (1, vI (x.2.1 : Nat)), (7, .v (.c (.row 0 6 (x.2.2.map tc))))] [some (.row 25 6)]) (InvC ts (Qx ts 1) i) (fun x => x.1) (ts.length + 1, i, []) h0 (f7 [3] (by simp -implicitDefEqProofs) (by simp -implicitDefEqProofs) (by decide) rfl (by simp)) (fun Z hI x hx => ?_)
  clear h0
  obtain ⟨m, j, acc⟩ := x
  obtain ⟨x1, x2, x3, x4⟩ := hx
  dsimp only at x1 x2 x3 x4 ⊢
  obtain ⟨m, rfl⟩ : ∃ m', m = m' + 1 := ⟨m - 1, by omega⟩
  have hq := hE j x2.1 x2.2
  have hk := b4d (ts := ts) 1 j x2.2
  rw [lpC] at x1
  obtain ⟨⟨⟨rx, rl⟩, r2, r3⟩, hr⟩ : ∃ r, Qx ts 1 j = r := ⟨_, rfl⟩
  rw [hr] at hq hk x1
  by_cases hr3 : r3 = 0; rotate_left
  · rw [if_pos hr3] at x1
    rw [← x1]
    clear x1 hr hE hk
    repeat' (first | refine d4 ?_ | refine b8 ?_ | refine b7 ?_ | refine b9 ?_ | refine f5 rfl ?_ | refine d8 rfl ?_ | ((first | refine c5 (fun K hK => ?_) | refine d5 f8 (fun K hK => ?_) | refine a9 (cp hq ?_) | refine a8 (dp hq ?_) | fail); simp -implicitDefEqProofs [hr3]) | refine hK _ ?_ | refine hK _ _ (by rfl) ?_ | fail)
    refine d7 (d6 ?_); simp -implicitDefEqProofs [g8, f9, g7] <;> try rfl
  subst hr3
  rw [if_neg (by simp)] at x1
  have hyy := hk.yes rfl
  dsimp only at hyy x1
  have b1 : (acc.length + 1) * 72 ≤ 140737488355328 := by omega
  have b2 : acc.length + 1 ≤ 140737488355328 := by omega
  have q3 := i5 ts r2 a6k
  rw [j0 (by decide)] at q3
  by_cases e3 : isK a6k (nxt ts r2) = true; rotate_left
  · have e3 : isK a6k (nxt ts r2) = false := by simpa using e3
    rw [if_pos e3] at x1
    rw [← x1]
    rw [e3] at q3
    clear x1 hr hE hk e3
    repeat' (first | refine d4 ?_ | refine b8 ?_ | refine b7 ?_ | refine b9 ?_ | refine f5 rfl ?_ | refine d8 rfl ?_ | ((first | refine c5 (fun K hK => ?_) | refine d5 f8 (fun K hK => ?_) | refine a9 (cp hq ?_) | refine a8 (dp hq ?_) | refine a9 (cp q3 ?_) | refine a8 (dp q3 ?_) | fail); simp -implicitDefEqProofs [b1, b2]) | refine hK _ ?_ | refine hK _ _ (by rfl) ?_ | fail)
    refine d7 (d6 ?_); simp -implicitDefEqProofs [g8, f9, g7] <;> try rfl
  have hlt2 := g9 e3
  have w2 : IntKind.i64.wrap ((r2 : Nat) + 1 : Int) = (r2 : Nat) + 1 := k9 _ (by omega) (by omega)
  rw [if_neg (by simp [e3])] at x1
  rw [e3] at q3
  have nx : InvC ts (Qx ts 1) i (m, r2 + 1, acc ++ [.mk rx rl]) := ⟨x1, by dsimp only; omega, by dsimp only; omega, by dsimp only; rw [List.length_append]; simp only [List.length_cons, List.length_nil]; omega⟩
  clear x1 hr hE hk e3
  repeat' (first | refine d4 ?_ | refine b8 ?_ | refine b7 ?_ | refine b9 ?_ | refine f5 rfl ?_ | refine d8 rfl ?_ | ((first | refine c5 (fun K hK => ?_) | refine d5 f8 (fun K hK => ?_) | refine a9 (cp hq ?_) | refine a8 (dp hq ?_) | refine a9 (cp q3 ?_) | refine a8 (dp q3 ?_) | fail); simp -implicitDefEqProofs [b1, b2, w2]) | refine hK _ ?_ | refine hK _ _ (by rfl) ?_ | fail)
  refine ⟨(_, _, _), nx, (by dsimp only; omega), ?_⟩; rw [hI]; exact f7 [20] (by simp -implicitDefEqProofs) (by simp -implicitDefEqProofs) (by decide) rfl (by simp)
end
end Go.Proofs.YthkfdheoakbfnaaGreat.am
end
