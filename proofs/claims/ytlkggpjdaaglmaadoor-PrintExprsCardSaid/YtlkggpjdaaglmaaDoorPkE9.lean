import Derived.Test.YtlkggpjdaaglmaaDoorPkE8
import Derived.Test.YtlkggpjdaaglmaaDoorPkE4
import Derived.Test.YtlkggpjdaaglmaaDoorPkE7
import Derived.Deep.RegionHeld3
import Derived.Deep.RegionHeldLaw
import Derived.Deep.RegionLaw
import Derived.WalkSmall
import Derived.OwnWalk
import Derived.BigQuiet
import Derived.Laws.StructEq
import Derived.Lib.AppendIntMem
import Derived.Laws.IdiomStrings
import Derived.Lib.ItoaLen
import Derived.Test.YtlkggpjdaaglmaaDoorPkE5
import Derived.Test.YtlkggpjdaaglmaaDoorPkE6
section
namespace Go.Proofs.YtlkggpjdaaglmaaDoor.am
open Go.ChangeShapes Go.WideShapes Go.ChangeAt Go.RowKit
open vt
set_option linter.unusedVariables false
set_option linter.unusedSimpArgs false
theorem td_got : td Tryd.prog 40 = some ⟨true, 8, 88, [.lit (.int .i64 0), .lit (.int .i64 0), .lit (.string ⟨#[]⟩), .nilS, .lit (.int .i64 0), .lit (.int .i64 0), .lit (.int .i64 0), .lit (.int .i64 0)], [(0, 6, true), (6, 1, false), (7, 1, false)], .struct⟩ := Eq.trans (by kernel_rfl) (Eq.refl _)
attribute [simp] td_got
noncomputable abbrev vG (r : VT × Nat × Int) : AV := .v (.agg (((tc r.1) ++ [I (r.2.1 : Nat), I r.2.2]).map .pv))
theorem vG_ren (r : VT × Nat × Int) (ρ : Nat → Nat) : (vG r).ren ρ = vG r := by
  show AV.v (.agg (((tc r.1 ++ [I (r.2.1 : Nat), I r.2.2]).map AC.pv).map (AC.ren ρ))) = _
  rw [ren_pure]
set_option maxRecDepth 100000 in
set_option maxHeartbeats 4000000 in
theorem now_row (ts : List Tok) (i : Nat) : Row Tryd.prog 84 [vKs ts, vI i] [] (vK (nxt ts i)) [] := by
  by_cases h : i < ts.length
  · obtain ⟨x, hx⟩ : ∃ x, ts[i]? = some x := ⟨_, List.getElem?_eq_getElem h⟩
    have hx' := (List.getElem?_eq_some_iff.1 hx).2
    rw [nxt_some hx]
    refine row_of Tryd.func84 rfl rfl (Nat.le_of_ble_eq_true rfl) ?_
    repeat (first | refine aw_seq ?_ | refine aw_skip ?_ | refine aw_block ?_ | refine aw_exit ?_ | refine aw_cond rfl (fun _ => ?_) (fun hb => absurd hb (by decide)) | refine aw_cond rfl (fun hb => absurd hb (by decide)) (fun _ => ?_) | (refine aw_reg (fun K hK => ?_); simp -implicitDefEqProofs [h, hx, hx']; refine hK _ ?_) | (refine aw_drw mixd (fun K hK => ?_); simp -implicitDefEqProofs [h, hx, hx']; refine hK _ _ (by rfl) ?_) | fail)
    refine aw_ret (fin_ret ?_); simp -implicitDefEqProofs [FinP, resV, resT] <;> try rfl
  · rw [nxt_none (by omega)]
    refine row_of Tryd.func84 rfl rfl (Nat.le_of_ble_eq_true rfl) ?_
    repeat (first | refine aw_seq ?_ | refine aw_skip ?_ | refine aw_block ?_ | refine aw_exit ?_ | refine aw_cond rfl (fun _ => ?_) (fun hb => absurd hb (by decide)) | refine aw_cond rfl (fun hb => absurd hb (by decide)) (fun _ => ?_) | (refine aw_reg (fun K hK => ?_); simp -implicitDefEqProofs [h]; refine hK _ ?_) | (refine aw_drw mixd (fun K hK => ?_); simp -implicitDefEqProofs [h]; refine hK _ _ (by rfl) ?_) | fail)
    refine aw_ret (fin_ret ?_); simp -implicitDefEqProofs [FinP, resV, resT, endK] <;> try rfl
set_option maxRecDepth 100000 in
set_option maxHeartbeats 4000000 in
theorem word_row (ts : List Tok) (i : Nat) (s : ByteArray) : Row Tryd.prog 91 [vKs ts, vI i, vS s] [] (vB (decide ((nxt ts i).k = 3) && decide ((nxt ts i).s = s))) [] := by
  have h := now_row ts i
  obtain ⟨⟨k, n, x, f, t⟩, hx⟩ : ∃ x, nxt ts i = x := ⟨_, rfl⟩
  rw [hx] at h ⊢
  refine row_of Tryd.func91 rfl rfl (Nat.le_of_ble_eq_true rfl) ?_
  repeat' (first | refine aw_seq ?_ | refine aw_skip ?_ | refine aw_block ?_ | refine aw_exit ?_ | refine aw_cond rfl (fun _ => ?_) (fun hb => absurd hb (by decide)) | refine aw_cond rfl (fun hb => absurd hb (by decide)) (fun _ => ?_) | (refine aw_reg (fun K hK => ?_); simp -implicitDefEqProofs [*]) | (refine aw_drw mixd (fun K hK => ?_); simp -implicitDefEqProofs [*]) | refine hK _ ?_ | refine hK _ _ (by rfl) ?_ | (refine ar_call (cp h ?_); simp -implicitDefEqProofs [*]) | (refine ard_call (dp h ?_); simp -implicitDefEqProofs [*]) | (refine aw_cond rfl (fun hb => ?_) (fun hb => ?_) <;> ((try simp only [decide_eq_true_eq, decide_eq_false_iff_not, Bool.not_eq_true', Bool.not_eq_false', Bool.not_eq_eq_eq_not, Bool.not_true, Bool.not_false, beq_iff_eq, beq_true, beq_false, bne_iff_ne, ne_eq, Decidable.not_not, Bool.and_eq_true, Bool.or_eq_true, Bool.and_eq_false_iff, Bool.or_eq_false_iff] at hb) <;> repeat' (refine Or.elim hb (fun hb => ?_) (fun hb => ?_)))) | (refine gx_split (fun hb => ?_) (fun hb => ?_) <;> ((try simp only [decide_eq_true_eq, decide_eq_false_iff_not, Bool.not_eq_true', Bool.not_eq_false', Bool.not_eq_eq_eq_not, Bool.not_true, Bool.not_false, beq_iff_eq, beq_true, beq_false, bne_iff_ne, ne_eq, Decidable.not_not, Bool.and_eq_true, Bool.or_eq_true, Bool.and_eq_false_iff, Bool.or_eq_false_iff] at hb) <;> repeat' (refine Or.elim hb (fun hb => ?_) (fun hb => ?_))) <;> simp -implicitDefEqProofs [*]) | (refine gxd_split (fun hb => ?_) (fun hb => ?_) <;> ((try simp only [decide_eq_true_eq, decide_eq_false_iff_not, Bool.not_eq_true', Bool.not_eq_false', Bool.not_eq_eq_eq_not, Bool.not_true, Bool.not_false, beq_iff_eq, beq_true, beq_false, bne_iff_ne, ne_eq, Decidable.not_not, Bool.and_eq_true, Bool.or_eq_true, Bool.and_eq_false_iff, Bool.or_eq_false_iff] at hb) <;> repeat' (refine Or.elim hb (fun hb => ?_) (fun hb => ?_))) <;> simp -implicitDefEqProofs [*]) | fail)
  all_goals (refine aw_ret (fin_ret ?_); simp -implicitDefEqProofs [FinP, resV, resT, *] <;> try rfl)
set_option maxRecDepth 100000 in
set_option maxHeartbeats 4000000 in
theorem sign_row (ts : List Tok) (i : Nat) (s : ByteArray) : Row Tryd.prog 73 [vKs ts, vI i, vS s] [] (vB (decide ((nxt ts i).k = 4) && decide ((nxt ts i).s = s))) [] := by
  have h := now_row ts i
  obtain ⟨⟨k, n, x, f, t⟩, hx⟩ : ∃ x, nxt ts i = x := ⟨_, rfl⟩
  rw [hx] at h ⊢
  refine row_of Tryd.func73 rfl rfl (Nat.le_of_ble_eq_true rfl) ?_
  repeat' (first | refine aw_seq ?_ | refine aw_skip ?_ | refine aw_block ?_ | refine aw_exit ?_ | refine aw_cond rfl (fun _ => ?_) (fun hb => absurd hb (by decide)) | refine aw_cond rfl (fun hb => absurd hb (by decide)) (fun _ => ?_) | (refine aw_reg (fun K hK => ?_); simp -implicitDefEqProofs [*]) | (refine aw_drw mixd (fun K hK => ?_); simp -implicitDefEqProofs [*]) | refine hK _ ?_ | refine hK _ _ (by rfl) ?_ | (refine ar_call (cp h ?_); simp -implicitDefEqProofs [*]) | (refine ard_call (dp h ?_); simp -implicitDefEqProofs [*]) | (refine aw_cond rfl (fun hb => ?_) (fun hb => ?_) <;> ((try simp only [decide_eq_true_eq, decide_eq_false_iff_not, Bool.not_eq_true', Bool.not_eq_false', Bool.not_eq_eq_eq_not, Bool.not_true, Bool.not_false, beq_iff_eq, beq_true, beq_false, bne_iff_ne, ne_eq, Decidable.not_not, Bool.and_eq_true, Bool.or_eq_true, Bool.and_eq_false_iff, Bool.or_eq_false_iff] at hb) <;> repeat' (refine Or.elim hb (fun hb => ?_) (fun hb => ?_)))) | (refine gx_split (fun hb => ?_) (fun hb => ?_) <;> ((try simp only [decide_eq_true_eq, decide_eq_false_iff_not, Bool.not_eq_true', Bool.not_eq_false', Bool.not_eq_eq_eq_not, Bool.not_true, Bool.not_false, beq_iff_eq, beq_true, beq_false, bne_iff_ne, ne_eq, Decidable.not_not, Bool.and_eq_true, Bool.or_eq_true, Bool.and_eq_false_iff, Bool.or_eq_false_iff] at hb) <;> repeat' (refine Or.elim hb (fun hb => ?_) (fun hb => ?_))) <;> simp -implicitDefEqProofs [*]) | (refine gxd_split (fun hb => ?_) (fun hb => ?_) <;> ((try simp only [decide_eq_true_eq, decide_eq_false_iff_not, Bool.not_eq_true', Bool.not_eq_false', Bool.not_eq_eq_eq_not, Bool.not_true, Bool.not_false, beq_iff_eq, beq_true, beq_false, bne_iff_ne, ne_eq, Decidable.not_not, Bool.and_eq_true, Bool.or_eq_true, Bool.and_eq_false_iff, Bool.or_eq_false_iff] at hb) <;> repeat' (refine Or.elim hb (fun hb => ?_) (fun hb => ?_))) <;> simp -implicitDefEqProofs [*]) | fail)
  all_goals (refine aw_ret (fin_ret ?_); simp -implicitDefEqProofs [FinP, resV, resT, *] <;> try rfl)
set_option maxRecDepth 100000 in
set_option maxHeartbeats 4000000 in
theorem bad_row (i : Nat) : Row Tryd.prog 86 [vI i] [] (vG (z0, i, 6)) [] := by
  refine row_of Tryd.func86 rfl rfl (Nat.le_of_ble_eq_true rfl) ?_
  repeat (first | refine aw_seq ?_ | refine aw_skip ?_ | refine aw_block ?_ | refine aw_exit ?_ | refine aw_cond rfl (fun _ => ?_) (fun hb => absurd hb (by decide)) | refine aw_cond rfl (fun hb => absurd hb (by decide)) (fun _ => ?_) | (refine aw_reg (fun K hK => ?_); simp -implicitDefEqProofs; refine hK _ ?_) | (refine aw_drw mixd (fun K hK => ?_); simp -implicitDefEqProofs; refine hK _ _ (by rfl) ?_) | fail)
  refine aw_ret (fin_ret ?_); simp -implicitDefEqProofs [FinP, resV, resT, z0] <;> try rfl
set_option maxRecDepth 100000 in
set_option maxHeartbeats 4000000 in
theorem make7_row (ts : List Tok) (a b : Nat) (k n : Int) (s : ByteArray) (l : List VT) (ha : a < ts.length) (hb : 0 < b) (hbl : b ≤ ts.length) (hl : ts.length ≤ 9223372036854775807) : Row Tryd.prog 52 [vKs ts, vI a, vI b, vI k, vI n, vS s, vLs l] [] (vG (.mk ⟨k, n, s, frT ts a, toT ts (b - 1)⟩ l, b, 0)) [] := by
  obtain ⟨y, hy⟩ : ∃ y, ts[a]? = some y := ⟨_, List.getElem?_eq_getElem ha⟩
  have hy' := (List.getElem?_eq_some_iff.1 hy).2
  obtain ⟨j, rfl⟩ : ∃ j, b = j + 1 := ⟨b - 1, by omega⟩
  have hi1 : j < ts.length := by omega
  obtain ⟨z, hz⟩ : ∃ z, ts[j]? = some z := ⟨_, List.getElem?_eq_getElem hi1⟩
  have hz' := (List.getElem?_eq_some_iff.1 hz).2
  rw [show frT ts a = y.f by unfold frT; rw [nxt_some hy], show toT ts (j + 1 - 1) = z.t by unfold toT; rw [Nat.add_sub_cancel, nxt_some hz]]
  have wj : IntKind.i64.wrap ((j : Nat) : Int) = (j : Nat) := i64i _ (by omega) (by omega)
  refine row_of Tryd.func52 rfl rfl (Nat.le_of_ble_eq_true rfl) ?_
  repeat (first | refine aw_seq ?_ | refine aw_skip ?_ | refine aw_block ?_ | refine aw_exit ?_ | refine aw_cond rfl (fun _ => ?_) (fun hb => absurd hb (by decide)) | refine aw_cond rfl (fun hb => absurd hb (by decide)) (fun _ => ?_) | (refine aw_reg (fun K hK => ?_); simp -implicitDefEqProofs [ha, hy, hy', hz, hz', hi1, wj]; refine hK _ ?_) | (refine aw_drw mixd (fun K hK => ?_); simp -implicitDefEqProofs [ha, hy, hy', hz, hz', hi1, wj]; refine hK _ _ (by rfl) ?_) | fail)
  refine aw_ret (fin_ret ?_); simp -implicitDefEqProofs [FinP, resV, resT] <;> try rfl
theorem word_is {s : ByteArray} (h : quo s = 3) (x : Tok) : (decide (x.k = 3) && decide (x.s = s)) = isK s x := by unfold isK; rw [h]
theorem sign_is {s : ByteArray} (h : quo s = 4) (x : Tok) : (decide (x.k = 4) && decide (x.s = s)) = isK s x := by unfold isK; rw [h]
end Go.Proofs.YtlkggpjdaaglmaaDoor.am
end
section
namespace Go.Proofs.YtlkggpjdaaglmaaDoor.am
open Go.ChangeShapes Go.WideShapes Go.ChangeAt Go.RowKit
open vt
set_option linter.unusedVariables false
set_option linter.unusedSimpArgs false
theorem td_strs : td Tryd.prog 83 = some ⟨false, 1, 24, [.nilS], [], (.slice 9)⟩ := Eq.trans (by kernel_rfl) (Eq.refl _)
theorem td_intv : td Tryd.prog 22 = some ⟨false, 1, 24, [.nilS], [], (.slice 2)⟩ := Eq.trans (by kernel_rfl) (Eq.refl _)
attribute [simp] td_strs td_intv
abbrev Sg := ByteArray × Int
def opsL : Nat → List Sg
  | 1 => [(⟨#[124, 124]⟩, 1)]
  | 2 => [(⟨#[38, 38]⟩, 2)]
  | 3 => [(⟨#[61, 61]⟩, 3), (⟨#[33, 61]⟩, 4), (⟨#[60]⟩, 5), (⟨#[60, 61]⟩, 6), (⟨#[62]⟩, 7), (⟨#[62, 61]⟩, 8)]
  | 4 => [(⟨#[43]⟩, 9), (⟨#[45]⟩, 10)]
  | _ => [(⟨#[42]⟩, 11), (⟨#[47]⟩, 12), (⟨#[37]⟩, 13)]
def pS (x : Sg) : List PV := [Sx x.1]
def pI (x : Sg) : List PV := [I x.2]
abbrev vSI (l : List Sg) : AV := .tup [.c (.pv (.sl 1 (l.map pS))), .c (.pv (.sl 1 (l.map pI)))]
attribute [simp] pS pI
def fnd (x : Tok) : List Sg → Int
  | [] => 0
  | y :: l => if x.k = 4 ∧ x.s = y.1 then y.2 else fnd x l
theorem fnd_op (x : Tok) (l : Nat) (h1 : 1 ≤ l) (h5 : l ≤ 5) : fnd x (opsL l) = if (opK x).2 = l then (opK x).1 else 0 := by
  have hl : l = 1 ∨ l = 2 ∨ l = 3 ∨ l = 4 ∨ l = 5 := by omega
  unfold opK
  by_cases hk : x.k = 4; rotate_left
  · rcases hl with rfl | rfl | rfl | rfl | rfl <;> simp [opsL, fnd, hk]
  obtain ⟨k, n, s, f, t⟩ := x
  dsimp only at hk
  subst hk
  rw [if_pos rfl]
  dsimp only
  by_cases e0 : s = (⟨#[124, 124]⟩ : ByteArray)
  · subst e0; rcases hl with rfl | rfl | rfl | rfl | rfl <;> rfl
  by_cases e1 : s = (⟨#[38, 38]⟩ : ByteArray)
  · subst e1; rcases hl with rfl | rfl | rfl | rfl | rfl <;> rfl
  by_cases e2 : s = (⟨#[61, 61]⟩ : ByteArray)
  · subst e2; rcases hl with rfl | rfl | rfl | rfl | rfl <;> rfl
  by_cases e3 : s = (⟨#[33, 61]⟩ : ByteArray)
  · subst e3; rcases hl with rfl | rfl | rfl | rfl | rfl <;> rfl
  by_cases e4 : s = (⟨#[60]⟩ : ByteArray)
  · subst e4; rcases hl with rfl | rfl | rfl | rfl | rfl <;> rfl
  by_cases e5 : s = (⟨#[60, 61]⟩ : ByteArray)
  · subst e5; rcases hl with rfl | rfl | rfl | rfl | rfl <;> rfl
  by_cases e6 : s = (⟨#[62]⟩ : ByteArray)
  · subst e6; rcases hl with rfl | rfl | rfl | rfl | rfl <;> rfl
  by_cases e7 : s = (⟨#[62, 61]⟩ : ByteArray)
  · subst e7; rcases hl with rfl | rfl | rfl | rfl | rfl <;> rfl
  by_cases e8 : s = (⟨#[43]⟩ : ByteArray)
  · subst e8; rcases hl with rfl | rfl | rfl | rfl | rfl <;> rfl
  by_cases e9 : s = (⟨#[45]⟩ : ByteArray)
  · subst e9; rcases hl with rfl | rfl | rfl | rfl | rfl <;> rfl
  by_cases e10 : s = (⟨#[42]⟩ : ByteArray)
  · subst e10; rcases hl with rfl | rfl | rfl | rfl | rfl <;> rfl
  by_cases e11 : s = (⟨#[47]⟩ : ByteArray)
  · subst e11; rcases hl with rfl | rfl | rfl | rfl | rfl <;> rfl
  by_cases e12 : s = (⟨#[37]⟩ : ByteArray)
  · subst e12; rcases hl with rfl | rfl | rfl | rfl | rfl <;> rfl
  rcases hl with rfl | rfl | rfl | rfl | rfl <;> simp [opsL, fnd, opS, e0, e1, e2, e3, e4, e5, e6, e7, e8, e9, e10, e11, e12]
theorem opK_pos (x : Tok) (l : Nat) (h5 : l ≤ 5) (h : (opK x).2 = l) : (opK x).1 ≠ 0 := by
  unfold opK at h ⊢
  by_cases hk : x.k = 4; rotate_left
  · rw [if_neg hk] at h; dsimp only at h; omega
  rw [if_pos hk] at h ⊢
  obtain ⟨k, n, s, f, t⟩ := x
  dsimp only at h ⊢
  clear hk
  by_cases e0 : s = (⟨#[124, 124]⟩ : ByteArray)
  · subst e0; exact fun hh => absurd (show (1 : Int) = 0 from hh) (by decide)
  by_cases e1 : s = (⟨#[38, 38]⟩ : ByteArray)
  · subst e1; exact fun hh => absurd (show (2 : Int) = 0 from hh) (by decide)
  by_cases e2 : s = (⟨#[61, 61]⟩ : ByteArray)
  · subst e2; exact fun hh => absurd (show (3 : Int) = 0 from hh) (by decide)
  by_cases e3 : s = (⟨#[33, 61]⟩ : ByteArray)
  · subst e3; exact fun hh => absurd (show (4 : Int) = 0 from hh) (by decide)
  by_cases e4 : s = (⟨#[60]⟩ : ByteArray)
  · subst e4; exact fun hh => absurd (show (5 : Int) = 0 from hh) (by decide)
  by_cases e5 : s = (⟨#[60, 61]⟩ : ByteArray)
  · subst e5; exact fun hh => absurd (show (6 : Int) = 0 from hh) (by decide)
  by_cases e6 : s = (⟨#[62]⟩ : ByteArray)
  · subst e6; exact fun hh => absurd (show (7 : Int) = 0 from hh) (by decide)
  by_cases e7 : s = (⟨#[62, 61]⟩ : ByteArray)
  · subst e7; exact fun hh => absurd (show (8 : Int) = 0 from hh) (by decide)
  by_cases e8 : s = (⟨#[43]⟩ : ByteArray)
  · subst e8; exact fun hh => absurd (show (9 : Int) = 0 from hh) (by decide)
  by_cases e9 : s = (⟨#[45]⟩ : ByteArray)
  · subst e9; exact fun hh => absurd (show (10 : Int) = 0 from hh) (by decide)
  by_cases e10 : s = (⟨#[42]⟩ : ByteArray)
  · subst e10; exact fun hh => absurd (show (11 : Int) = 0 from hh) (by decide)
  by_cases e11 : s = (⟨#[47]⟩ : ByteArray)
  · subst e11; exact fun hh => absurd (show (12 : Int) = 0 from hh) (by decide)
  by_cases e12 : s = (⟨#[37]⟩ : ByteArray)
  · subst e12; exact fun hh => absurd (show (13 : Int) = 0 from hh) (by decide)
  simp [opS, e0, e1, e2, e3, e4, e5, e6, e7, e8, e9, e10, e11, e12] at h
  omega
set_option maxRecDepth 100000 in
set_option maxHeartbeats 4000000 in
theorem ops_row (l : Nat) (h1 : 1 ≤ l) (h5 : l ≤ 5) : Row Tryd.prog 62 [vI (l : Nat)] [] (vSI (opsL l)) [] := by
  have hl : l = 1 ∨ l = 2 ∨ l = 3 ∨ l = 4 ∨ l = 5 := by omega
  rcases hl with rfl | rfl | rfl | rfl | rfl
  all_goals (
    refine row_of Tryd.func62 rfl rfl (Nat.le_of_ble_eq_true rfl) ?_
    repeat (first | refine aw_seq ?_ | refine aw_skip ?_ | refine aw_block ?_ | refine aw_exit ?_ | refine aw_cond rfl (fun _ => ?_) (fun hb => absurd hb (by decide)) | refine aw_cond rfl (fun hb => absurd hb (by decide)) (fun _ => ?_) | (refine aw_reg (fun K hK => ?_); simp -implicitDefEqProofs; refine hK _ ?_) | (refine aw_drw mixd (fun K hK => ?_); simp -implicitDefEqProofs; refine hK _ _ (by rfl) ?_) | fail)
    refine aw_ret (fin_ret ?_); simp -implicitDefEqProofs [FinP, resV, resT, opsL] <;> try rfl)
set_option maxRecDepth 100000 in
set_option maxHeartbeats 4000000 in
theorem op_row (ts : List Tok) (i l : Nat) (h1 : 1 ≤ l) (h5 : l ≤ 5) : Row Tryd.prog 51 [vKs ts, vI i, vI (l : Nat)] [] (vI (if (opK (nxt ts i)).2 = l then (opK (nxt ts i)).1 else 0)) [] := by
  rw [← fnd_op _ l h1 h5]
  have o := ops_row l h1 h5
  obtain ⟨L, hL⟩ : ∃ L, opsL l = L := ⟨_, rfl⟩
  have hLl : L.length ≤ 6 := by rw [← hL]; unfold opsL; split <;> simp
  rw [hL] at o ⊢
  refine row_of Tryd.func51 rfl rfl (Nat.le_of_ble_eq_true rfl) ?_
  repeat' (first | refine aw_seq ?_ | refine aw_skip ?_ | refine aw_block ?_ | refine aw_exit ?_ | refine aw_cond rfl (fun _ => ?_) (fun hb => absurd hb (by decide)) | refine aw_cond rfl (fun hb => absurd hb (by decide)) (fun _ => ?_) | (refine aw_reg (fun K hK => ?_); simp -implicitDefEqProofs) | (refine aw_drw mixd (fun K hK => ?_); simp -implicitDefEqProofs) | refine hK _ ?_ | refine hK _ _ (by rfl) ?_ | (refine ar_call (cp o ?_); simp -implicitDefEqProofs) | (refine ard_call (dp o ?_); simp -implicitDefEqProofs) | fail)
  refine aw_lp (ι := Nat) (fun k => mkSt [(0, vKs ts), (1, vI i), (7, .v (.c (.pv (.sl 1 (L.map pS))))), (8, .v (.c (.pv (.sl 1 (L.map pI))))), (9, vI (k : Nat))] []) (fun k => k ≤ L.length ∧ fnd (nxt ts i) (L.drop k) = fnd (nxt ts i) L) (fun k => L.length - k) 0 ⟨Nat.zero_le _, rfl⟩ (cov_intro [] (by simp -implicitDefEqProofs [hL]) (by simp -implicitDefEqProofs [hL]) (by decide) rfl (by simp)) (fun Z hI k hk => ?_)
  obtain ⟨hk, hf⟩ := hk
  by_cases hkl : k < L.length; rotate_left
  · have : k = L.length := by omega
    subst this
    rw [List.drop_length] at hf
    rw [← hf]
    repeat (first | refine aw_seq ?_ | refine aw_skip ?_ | refine aw_block ?_ | refine aw_exit ?_ | refine aw_cond rfl (fun _ => ?_) (fun hb => absurd hb (by decide)) | refine aw_cond rfl (fun hb => absurd hb (by decide)) (fun _ => ?_) | (refine aw_reg (fun K hK => ?_); simp -implicitDefEqProofs; refine hK _ ?_) | (refine aw_drw mixd (fun K hK => ?_); simp -implicitDefEqProofs; refine hK _ _ (by rfl) ?_) | fail)
    refine aw_ret (fin_ret ?_); simp -implicitDefEqProofs [FinP, resV, resT, fnd] <;> try rfl
  obtain ⟨⟨y1, y2⟩, hy⟩ : ∃ y, L[k]? = some y := ⟨_, List.getElem?_eq_getElem hkl⟩
  have hy' := (List.getElem?_eq_some_iff.1 hy).2
  have w2 : IntKind.i64.wrap ((k : Nat) + 1 : Int) = (k : Nat) + 1 := i64i _ (by omega) (by omega)
  have q := sign_row ts i y1
  rw [List.drop_eq_getElem_cons hkl, hy'] at hf
  rw [fnd] at hf
  by_cases hs : (nxt ts i).k = 4 ∧ (nxt ts i).s = y1
  · rw [if_pos hs] at hf
    dsimp only at hf
    rw [show (decide ((nxt ts i).k = 4) && decide ((nxt ts i).s = y1)) = true by simp [hs.1, hs.2]] at q
    rw [← hf]
    clear hf hs
    repeat' (first | refine aw_seq ?_ | refine aw_skip ?_ | refine aw_block ?_ | refine aw_exit ?_ | refine aw_cond rfl (fun _ => ?_) (fun hb => absurd hb (by decide)) | refine aw_cond rfl (fun hb => absurd hb (by decide)) (fun _ => ?_) | (refine aw_reg (fun K hK => ?_); simp -implicitDefEqProofs [hkl, hy, hy']) | (refine aw_drw mixd (fun K hK => ?_); simp -implicitDefEqProofs [hkl, hy, hy']) | refine hK _ ?_ | refine hK _ _ (by rfl) ?_ | (refine ar_call (cp q ?_); simp -implicitDefEqProofs [hkl, hy, hy']) | (refine ard_call (dp q ?_); simp -implicitDefEqProofs [hkl, hy, hy']) | fail)
    refine aw_ret (fin_ret ?_); simp -implicitDefEqProofs [FinP, resV, resT] <;> try rfl
  · rw [if_neg hs] at hf
    rw [show (decide ((nxt ts i).k = 4) && decide ((nxt ts i).s = y1)) = false by simpa using hs] at q
    clear hs
    repeat' (first | refine aw_seq ?_ | refine aw_skip ?_ | refine aw_block ?_ | refine aw_exit ?_ | refine aw_cond rfl (fun _ => ?_) (fun hb => absurd hb (by decide)) | refine aw_cond rfl (fun hb => absurd hb (by decide)) (fun _ => ?_) | (refine aw_reg (fun K hK => ?_); simp -implicitDefEqProofs [hkl, hy, hy', w2]) | (refine aw_drw mixd (fun K hK => ?_); simp -implicitDefEqProofs [hkl, hy, hy', w2]) | refine hK _ ?_ | refine hK _ _ (by rfl) ?_ | (refine ar_call (cp q ?_); simp -implicitDefEqProofs [hkl, hy, hy', w2]) | (refine ard_call (dp q ?_); simp -implicitDefEqProofs [hkl, hy, hy', w2]) | fail)
    refine ⟨k + 1, ⟨by omega, hf⟩, (by dsimp only; omega), ?_⟩; rw [hI]; exact cov_intro [] (by simp -implicitDefEqProofs) (by simp -implicitDefEqProofs) (by decide) rfl (by simp)
end Go.Proofs.YtlkggpjdaaglmaaDoor.am
end
section
namespace Go.Proofs.YtlkggpjdaaglmaaDoor.am
open Go.ChangeShapes Go.WideShapes Go.ChangeAt Go.RowKit
open vt
set_option linter.unusedVariables false
set_option linter.unusedSimpArgs false
theorem op_hit {n : Int} {l k : Nat} {y : Sg} (h1 : 1 ≤ l) (h5 : l ≤ 5) (hy : (opsL l)[k]? = some y) (hn : y.2 = n) : opB n = (y.1, (l : Int)) := by
  have hl : l = 1 ∨ l = 2 ∨ l = 3 ∨ l = 4 ∨ l = 5 := by omega
  rcases hl with rfl | rfl | rfl | rfl | rfl
  · match k, hy with
    | 0, hy => cases hy; subst hn; rfl
  · match k, hy with
    | 0, hy => cases hy; subst hn; rfl
  · match k, hy with
    | 0, hy => cases hy; subst hn; rfl
    | 1, hy => cases hy; subst hn; rfl
    | 2, hy => cases hy; subst hn; rfl
    | 3, hy => cases hy; subst hn; rfl
    | 4, hy => cases hy; subst hn; rfl
    | 5, hy => cases hy; subst hn; rfl
  · match k, hy with
    | 0, hy => cases hy; subst hn; rfl
    | 1, hy => cases hy; subst hn; rfl
  · match k, hy with
    | 0, hy => cases hy; subst hn; rfl
    | 1, hy => cases hy; subst hn; rfl
    | 2, hy => cases hy; subst hn; rfl
theorem op_some {n : Int} (h1 : 1 ≤ n) (h2 : n ≤ 13) : ∃ (l k : Nat) (y : Sg), 1 ≤ l ∧ l ≤ 5 ∧ (opsL l)[k]? = some y ∧ y.2 = n := by
  have : n = 1 ∨ n = 2 ∨ n = 3 ∨ n = 4 ∨ n = 5 ∨ n = 6 ∨ n = 7 ∨ n = 8 ∨ n = 9 ∨ n = 10 ∨ n = 11 ∨ n = 12 ∨ n = 13 := by omega
  rcases this with rfl | rfl | rfl | rfl | rfl | rfl | rfl | rfl | rfl | rfl | rfl | rfl | rfl
  · exact ⟨1, 0, _, by decide, by decide, rfl, rfl⟩
  · exact ⟨2, 0, _, by decide, by decide, rfl, rfl⟩
  · exact ⟨3, 0, _, by decide, by decide, rfl, rfl⟩
  · exact ⟨3, 1, _, by decide, by decide, rfl, rfl⟩
  · exact ⟨3, 2, _, by decide, by decide, rfl, rfl⟩
  · exact ⟨3, 3, _, by decide, by decide, rfl, rfl⟩
  · exact ⟨3, 4, _, by decide, by decide, rfl, rfl⟩
  · exact ⟨3, 5, _, by decide, by decide, rfl, rfl⟩
  · exact ⟨4, 0, _, by decide, by decide, rfl, rfl⟩
  · exact ⟨4, 1, _, by decide, by decide, rfl, rfl⟩
  · exact ⟨5, 0, _, by decide, by decide, rfl, rfl⟩
  · exact ⟨5, 1, _, by decide, by decide, rfl, rfl⟩
  · exact ⟨5, 2, _, by decide, by decide, rfl, rfl⟩
def Nof (n : Int) (l : Nat) : Prop := ∀ (m k : Nat) y, 1 ≤ m → m < l → (opsL m)[k]? = some y → y.2 ≠ n
theorem nof_next {n : Int} {l : Nat} (h : Nof n l) (hk : ∀ (j : Nat) y, (opsL l)[j]? = some y → j < (opsL l).length → y.2 ≠ n) : Nof n (l + 1) := fun m k y h1 h2 hy => by
  by_cases e : m = l
  · subst e; exact hk k y hy (List.getElem?_eq_some_iff.1 hy).1
  · exact h m k y h1 (by omega) hy
theorem ops_len (l : Nat) : (opsL l).length ≤ 6 := by
  unfold opsL
  split <;> simp
set_option maxRecDepth 100000 in
set_option maxHeartbeats 4000000 in
theorem rsign_row (n : Int) (h1 : 1 ≤ n) (h2 : n ≤ 13) : Row Tryd.prog 36 [vI n] [] (vS (opB n).1) [] := by
  refine row_of Tryd.func36 rfl rfl (Nat.le_of_ble_eq_true rfl) ?_
  repeat (first | refine aw_seq ?_ | refine aw_skip ?_ | refine aw_block ?_ | refine aw_exit ?_ | refine aw_cond rfl (fun _ => ?_) (fun hb => absurd hb (by decide)) | refine aw_cond rfl (fun hb => absurd hb (by decide)) (fun _ => ?_) | (refine aw_reg (fun K hK => ?_); simp -implicitDefEqProofs; refine hK _ ?_) | (refine aw_drw mixd (fun K hK => ?_); simp -implicitDefEqProofs; refine hK _ _ (by rfl) ?_) | fail)
  refine aw_lp (ι := Nat) (fun l => mkSt [(0, vI n), (3, vI (l : Nat))] []) (fun l => 1 ≤ l ∧ l ≤ 6 ∧ Nof n l) (fun l => 6 - l) 1 ⟨by decide, by decide, fun m k y a b => by omega⟩ (cov_intro [] (by simp -implicitDefEqProofs) (by simp -implicitDefEqProofs) (by decide) rfl (by simp)) (fun Z hI l hl => ?_)
  obtain ⟨hl1, hl6, hno⟩ := hl
  by_cases hl5 : l ≤ 5; rotate_left
  · exfalso
    obtain ⟨m, k, y, a, b, c, d⟩ := op_some h1 h2
    exact hno m k y a (by omega) c d
  have hl' : (l : Int) < 6 := by omega
  have e := ops_row l hl1 hl5
  have hlen := ops_len l
  have w1 : IntKind.i64.wrap ((l : Nat) + 1 : Int) = (l : Nat) + 1 := i64i _ (by omega) (by omega)
  repeat' (first | refine aw_seq ?_ | refine aw_skip ?_ | refine aw_block ?_ | refine aw_exit ?_ | refine aw_cond rfl (fun _ => ?_) (fun hb => absurd hb (by decide)) | refine aw_cond rfl (fun hb => absurd hb (by decide)) (fun _ => ?_) | (refine aw_reg (fun K hK => ?_); simp -implicitDefEqProofs [hl']) | (refine aw_drw mixd (fun K hK => ?_); simp -implicitDefEqProofs [hl']) | refine hK _ ?_ | refine hK _ _ (by rfl) ?_ | (refine ar_call (cp e ?_); simp -implicitDefEqProofs [hl']) | (refine ard_call (dp e ?_); simp -implicitDefEqProofs [hl']) | fail)
  refine aw_lp (ι := Nat) (fun k => mkSt [(0, vI n), (3, vI (l : Nat)), (4, .v (.c (.pv (.sl 1 ((opsL l).map pS))))), (5, .v (.c (.pv (.sl 1 ((opsL l).map pI))))), (6, vI (k : Nat))] []) (fun k => k ≤ (opsL l).length ∧ ∀ (j : Nat) y, (opsL l)[j]? = some y → j < k → y.2 ≠ n) (fun k => (opsL l).length - k) 0 ⟨Nat.zero_le _, fun j y _ h => by omega⟩ (cov_intro [] (by simp -implicitDefEqProofs) (by simp -implicitDefEqProofs) (by decide) rfl (by simp)) (fun Z' hI' k hk => ?_)
  obtain ⟨hk1, hk2⟩ := hk
  have w2 : IntKind.i64.wrap ((k : Nat) + 1 : Int) = (k : Nat) + 1 := i64i _ (by omega) (by omega)
  by_cases hkl : k < (opsL l).length; rotate_left
  · have hke : k = (opsL l).length := by omega
    subst hke
    repeat (first | refine aw_seq ?_ | refine aw_skip ?_ | refine aw_block ?_ | refine aw_exit ?_ | refine aw_cond rfl (fun _ => ?_) (fun hb => absurd hb (by decide)) | refine aw_cond rfl (fun hb => absurd hb (by decide)) (fun _ => ?_) | (refine aw_reg (fun K hK => ?_); simp -implicitDefEqProofs [w1]; refine hK _ ?_) | (refine aw_drw mixd (fun K hK => ?_); simp -implicitDefEqProofs [w1]; refine hK _ _ (by rfl) ?_) | fail)
    refine ⟨l + 1, ⟨by omega, by omega, nof_next hno hk2⟩, (by dsimp only; omega), ?_⟩; rw [hI]; exact cov_intro [] (by simp -implicitDefEqProofs) (by simp -implicitDefEqProofs) (by decide) rfl (by simp)
  obtain ⟨y, hy⟩ : ∃ a, (opsL l)[k]? = some a := ⟨_, List.getElem?_eq_getElem hkl⟩
  have hy' := (List.getElem?_eq_some_iff.1 hy).2
  by_cases c : y.2 = n
  · have q := op_hit hl1 hl5 hy c
    rw [q]
    repeat (first | refine aw_seq ?_ | refine aw_skip ?_ | refine aw_block ?_ | refine aw_exit ?_ | refine aw_cond rfl (fun _ => ?_) (fun hb => absurd hb (by decide)) | refine aw_cond rfl (fun hb => absurd hb (by decide)) (fun _ => ?_) | (refine aw_reg (fun K hK => ?_); simp -implicitDefEqProofs [hkl, hy, hy', c]; refine hK _ ?_) | (refine aw_drw mixd (fun K hK => ?_); simp -implicitDefEqProofs [hkl, hy, hy', c]; refine hK _ _ (by rfl) ?_) | fail)
    refine aw_ret (fin_ret ?_); simp -implicitDefEqProofs [FinP, resV, resT] <;> try rfl
  · repeat (first | refine aw_seq ?_ | refine aw_skip ?_ | refine aw_block ?_ | refine aw_exit ?_ | refine aw_cond rfl (fun _ => ?_) (fun hb => absurd hb (by decide)) | refine aw_cond rfl (fun hb => absurd hb (by decide)) (fun _ => ?_) | (refine aw_reg (fun K hK => ?_); simp -implicitDefEqProofs [hkl, hy, hy', c, w2]; refine hK _ ?_) | (refine aw_drw mixd (fun K hK => ?_); simp -implicitDefEqProofs [hkl, hy, hy', c, w2]; refine hK _ _ (by rfl) ?_) | fail)
    refine ⟨k + 1, ⟨by omega, fun j z hz hj => ?_⟩, (by dsimp only; omega), ?_⟩
    · by_cases e : j = k
      · subst e; rw [hy] at hz; cases hz; exact c
      · exact hk2 j z hz (by omega)
    rw [hI']; exact cov_intro [] (by simp -implicitDefEqProofs) (by simp -implicitDefEqProofs) (by decide) rfl (by simp)
set_option maxRecDepth 100000 in
set_option maxHeartbeats 4000000 in
theorem rbinds_row (x : Lab) (l : List VT) (hx : x.k = 10 → 1 ≤ x.n ∧ x.n ≤ 13) : Row Tryd.prog 34 [vT (.mk x l)] [] (vI (tgh x)) [] := by
  obtain ⟨xk, xn, xs, xf, xt⟩ := x
  by_cases c1 : xk = 11
  · have t : tgh ⟨xk, xn, xs, xf, xt⟩ = 6 := by unfold tgh; rw [if_neg (by dsimp only; omega), if_pos c1]
    rw [t]
    refine row_of Tryd.func34 rfl rfl (Nat.le_of_ble_eq_true rfl) ?_
    repeat (first | refine aw_seq ?_ | refine aw_skip ?_ | refine aw_block ?_ | refine aw_exit ?_ | refine aw_cond rfl (fun _ => ?_) (fun hb => absurd hb (by decide)) | refine aw_cond rfl (fun hb => absurd hb (by decide)) (fun _ => ?_) | (refine aw_reg (fun K hK => ?_); simp -implicitDefEqProofs [c1]; refine hK _ ?_) | (refine aw_drw mixd (fun K hK => ?_); simp -implicitDefEqProofs [c1]; refine hK _ _ (by rfl) ?_) | fail)
    refine aw_ret (fin_ret ?_); simp -implicitDefEqProofs [FinP, resV, resT] <;> try rfl
  by_cases c2 : xk = 10; rotate_left
  · have t : tgh ⟨xk, xn, xs, xf, xt⟩ = 7 := by unfold tgh; rw [if_neg c2, if_neg c1]
    rw [t]
    refine row_of Tryd.func34 rfl rfl (Nat.le_of_ble_eq_true rfl) ?_
    repeat (first | refine aw_seq ?_ | refine aw_skip ?_ | refine aw_block ?_ | refine aw_exit ?_ | refine aw_cond rfl (fun _ => ?_) (fun hb => absurd hb (by decide)) | refine aw_cond rfl (fun hb => absurd hb (by decide)) (fun _ => ?_) | (refine aw_reg (fun K hK => ?_); simp -implicitDefEqProofs [c1, c2]; refine hK _ ?_) | (refine aw_drw mixd (fun K hK => ?_); simp -implicitDefEqProofs [c1, c2]; refine hK _ _ (by rfl) ?_) | fail)
    refine aw_ret (fin_ret ?_); simp -implicitDefEqProofs [FinP, resV, resT] <;> try rfl
  have t : tgh ⟨xk, xn, xs, xf, xt⟩ = (opB xn).2 := by unfold tgh; rw [if_pos c2]
  obtain ⟨h1, h2⟩ := hx c2
  dsimp only at h1 h2
  rw [t]
  refine row_of Tryd.func34 rfl rfl (Nat.le_of_ble_eq_true rfl) ?_
  repeat (first | refine aw_seq ?_ | refine aw_skip ?_ | refine aw_block ?_ | refine aw_exit ?_ | refine aw_cond rfl (fun _ => ?_) (fun hb => absurd hb (by decide)) | refine aw_cond rfl (fun hb => absurd hb (by decide)) (fun _ => ?_) | (refine aw_reg (fun K hK => ?_); simp -implicitDefEqProofs [c1, c2]; refine hK _ ?_) | (refine aw_drw mixd (fun K hK => ?_); simp -implicitDefEqProofs [c1, c2]; refine hK _ _ (by rfl) ?_) | fail)
  refine aw_lp (ι := Nat) (fun l' => mkSt [(1, .v (.c (.ptr 0 0))), (3, vI (l' : Nat))] [some (.box (ta (.mk ⟨xk, xn, xs, xf, xt⟩ l)))]) (fun l => 1 ≤ l ∧ l ≤ 6 ∧ Nof xn l) (fun l => 6 - l) 1 ⟨by decide, by decide, fun m k y a b => by omega⟩ (cov_intro [0] (by simp -implicitDefEqProofs [c2]) (by simp -implicitDefEqProofs [c2]) (by decide) rfl (by simp)) (fun Z hI l' hl => ?_)
  obtain ⟨hl1, hl6, hno⟩ := hl
  by_cases hl5 : l' ≤ 5; rotate_left
  · exfalso
    obtain ⟨m, k, y, a, b, c, d⟩ := op_some h1 h2
    exact hno m k y a (by omega) c d
  have hl' : (l' : Int) < 6 := by omega
  have e := ops_row l' hl1 hl5
  have hlen := ops_len l'
  have w1 : IntKind.i64.wrap ((l' : Nat) + 1 : Int) = (l' : Nat) + 1 := i64i _ (by omega) (by omega)
  repeat' (first | refine aw_seq ?_ | refine aw_skip ?_ | refine aw_block ?_ | refine aw_exit ?_ | refine aw_cond rfl (fun _ => ?_) (fun hb => absurd hb (by decide)) | refine aw_cond rfl (fun hb => absurd hb (by decide)) (fun _ => ?_) | (refine aw_reg (fun K hK => ?_); simp -implicitDefEqProofs [hl']) | (refine aw_drw mixd (fun K hK => ?_); simp -implicitDefEqProofs [hl']) | refine hK _ ?_ | refine hK _ _ (by rfl) ?_ | (refine ar_call (cp e ?_); simp -implicitDefEqProofs [hl']) | (refine ard_call (dp e ?_); simp -implicitDefEqProofs [hl']) | fail)
  refine aw_lp (ι := Nat) (fun k => mkSt [(1, .v (.c (.ptr 0 0))), (3, vI (l' : Nat)), (5, .v (.c (.pv (.sl 1 ((opsL l').map pI))))), (6, vI (k : Nat))] [some (.box (ta (.mk ⟨xk, xn, xs, xf, xt⟩ l)))]) (fun k => k ≤ (opsL l').length ∧ ∀ (j : Nat) y, (opsL l')[j]? = some y → j < k → y.2 ≠ xn) (fun k => (opsL l').length - k) 0 ⟨Nat.zero_le _, fun j y _ h => by omega⟩ (cov_intro [0] (by simp -implicitDefEqProofs) (by simp -implicitDefEqProofs) (by decide) rfl (by simp)) (fun Z' hI' k hk => ?_)
  obtain ⟨hk1, hk2⟩ := hk
  have w2 : IntKind.i64.wrap ((k : Nat) + 1 : Int) = (k : Nat) + 1 := i64i _ (by omega) (by omega)
  by_cases hkl : k < (opsL l').length; rotate_left
  · have hke : k = (opsL l').length := by omega
    subst hke
    repeat (first | refine aw_seq ?_ | refine aw_skip ?_ | refine aw_block ?_ | refine aw_exit ?_ | refine aw_cond rfl (fun _ => ?_) (fun hb => absurd hb (by decide)) | refine aw_cond rfl (fun hb => absurd hb (by decide)) (fun _ => ?_) | (refine aw_reg (fun K hK => ?_); simp -implicitDefEqProofs [w1]; refine hK _ ?_) | (refine aw_drw mixd (fun K hK => ?_); simp -implicitDefEqProofs [w1]; refine hK _ _ (by rfl) ?_) | fail)
    refine ⟨l' + 1, ⟨by omega, by omega, nof_next hno hk2⟩, (by dsimp only; omega), ?_⟩; rw [hI]; exact cov_intro [0] (by simp -implicitDefEqProofs) (by simp -implicitDefEqProofs) (by decide) rfl (by simp)
  obtain ⟨y, hy⟩ : ∃ a, (opsL l')[k]? = some a := ⟨_, List.getElem?_eq_getElem hkl⟩
  have hy' := (List.getElem?_eq_some_iff.1 hy).2
  by_cases c : y.2 = xn
  · have q := op_hit hl1 hl5 hy c
    rw [q]
    repeat (first | refine aw_seq ?_ | refine aw_skip ?_ | refine aw_block ?_ | refine aw_exit ?_ | refine aw_cond rfl (fun _ => ?_) (fun hb => absurd hb (by decide)) | refine aw_cond rfl (fun hb => absurd hb (by decide)) (fun _ => ?_) | (refine aw_reg (fun K hK => ?_); simp -implicitDefEqProofs [hkl, hy, hy', c]; refine hK _ ?_) | (refine aw_drw mixd (fun K hK => ?_); simp -implicitDefEqProofs [hkl, hy, hy', c]; refine hK _ _ (by rfl) ?_) | fail)
    refine aw_ret (fin_ret ?_); simp -implicitDefEqProofs [FinP, resV, resT] <;> try rfl
  · repeat (first | refine aw_seq ?_ | refine aw_skip ?_ | refine aw_block ?_ | refine aw_exit ?_ | refine aw_cond rfl (fun _ => ?_) (fun hb => absurd hb (by decide)) | refine aw_cond rfl (fun hb => absurd hb (by decide)) (fun _ => ?_) | (refine aw_reg (fun K hK => ?_); simp -implicitDefEqProofs [hkl, hy, hy', c, w2]; refine hK _ ?_) | (refine aw_drw mixd (fun K hK => ?_); simp -implicitDefEqProofs [hkl, hy, hy', c, w2]; refine hK _ _ (by rfl) ?_) | fail)
    refine ⟨k + 1, ⟨by omega, fun j z hz hj => ?_⟩, (by dsimp only; omega), ?_⟩
    · by_cases e : j = k
      · subst e; rw [hy] at hz; cases hz; exact c
      · exact hk2 j z hz (by omega)
    rw [hI']; exact cov_intro [0] (by simp -implicitDefEqProofs) (by simp -implicitDefEqProofs) (by decide) rfl (by simp)
end Go.Proofs.YtlkggpjdaaglmaaDoor.am
end
section
namespace Go.Proofs.YtlkggpjdaaglmaaDoor.lx
open Go.ChangeShapes Go.WideShapes Go.ChangeAt Go.RowKit
open bs
set_option linter.unusedVariables false
def StQ (v : ByteArray) (w : World) (e : Ending) (w' : World) : Prop := e = .returned (.string v) ∧ Below w.heap.size w w'
theorem one_text (d : Nat) (hd : d < 256) (W : World) (B0 : Nat) (hc : W.cell? ⟨B0, 0, none⟩ = some (.int .u8 d)) : (convert 49 9 (.slice (some ⟨B0, 0, none⟩) 1 1)).run Tryd.prog W = .ok (.string (mkB [UInt8.ofNat d])) W := by
  have h := run_convert_bytes_back (P := Tryd.prog) W 49 9 5 ⟨B0, 0, none⟩ 1 [UInt8.ofNat d] Tryd.underlying49 Tryd.underlying5 Tryd.underlying9 (fun j hj => by
    have hj0 : j = 0 := by simpa using hj
    subst hj0
    show W.cell? ((⟨B0, 0, none⟩ : Addr).add 0) = _
    have e : (⟨B0, 0, none⟩ : Addr).add 0 = ⟨B0, 0, none⟩ := by unfold Addr.add; split <;> simp_all
    rw [e, hc]
    congr 2
    show (d : Int) = ((UInt8.ofNat d).toNat : Int)
    rw [UInt8.toNat_ofNat']
    omega)
  exact h
theorem numT_one {u : Nat} (h : u < 10) : numT (u : Int) = mkB [UInt8.ofNat (48 + u)] := by rw [numT_nat, dec_small h]
theorem mk_app (l m : List UInt8) : mkB (l ++ m) = mkB l ++ mkB m := by
  unfold mkB
  apply ByteArray.ext
  simp
theorem numT_more {u : Nat} (h : ¬ u < 10) : numT (u : Int) = numT ((u / 10 : Nat) : Int) ++ mkB [UInt8.ofNat (48 + u % 10)] := by rw [numT_nat, dec_big h, mk_app, numT_nat]
theorem numT_neg1 {u : Nat} (h0 : 1 ≤ u) (h : u < 10) : numT (-(u : Int)) = mkB [45] ++ mkB [UInt8.ofNat (48 + u)] := by
  unfold numT
  rw [Lib.itoa_neg u h0, dec_small h, ← mk_app]
  rfl
theorem numT_neg2 {u : Nat} (h : ¬ u < 10) : numT (-(u : Int)) = numT (-((u / 10 : Nat) : Int)) ++ mkB [UInt8.ofNat (48 + u % 10)] := by
  unfold numT
  rw [Lib.itoa_neg u (by omega), Lib.itoa_neg (u / 10) (by omega), dec_big h, ← mk_app]
  rfl
theorem one_text' (w : World) (z : Int) (d : Nat) (hz : z = (d : Int)) (hd : d < 256) : (convert 49 9 (.slice (some ⟨w.heap.size, 0, none⟩) 1 1)).run Tryd.prog (w.alloc (.cells #[.int .u8 z] 5)) = .ok (.string (mkB [UInt8.ofNat d])) (w.alloc (.cells #[.int .u8 z] 5)) := by
  subst hz
  exact one_text d hd _ _ (cell_new w _ _ _ _ rfl)
set_option maxRecDepth 100000 in
set_option maxHeartbeats 8000000 in
theorem rdigits_own (N : Nat) : ∀ (n : Int) (w : World), n.natAbs ≤ N → -9223372036854775808 ≤ n → n ≤ 9223372036854775807 → Calls Tryd.prog 33 #[.int .i64 n] w (StQ (numT n) w) := by
  induction N using Nat.strongRecOn with
  | _ N ih =>
  intro n w hN h0 h1
  by_cases hneg : n < 0
  · obtain ⟨u, rfl⟩ : ∃ u : Nat, n = -(u : Int) := ⟨n.natAbs, by omega⟩
    have hu : 1 ≤ u := by omega
    have d0 : decide (-(u : Int) < 0) = true := decide_eq_true hneg
    by_cases hs : u < 10
    · have HE := Lib.hid (numT_neg1 hu hs)
      have hcv := one_text' w (48 + (u : Int)) (48 + u) (by omega) (by omega)
      have HW := Lib.hid ((Below.refl w.heap.size w).alloc (Nat.le_refl _) (.cells #[.int .u8 (48 + (u : Int))] 5))
      have hz1 : (mkB [UInt8.ofNat (48 + u)]).size = 1 := mk_size _
      obtain ⟨T, hT⟩ : ∃ T, mkB [UInt8.ofNat (48 + u)] = T := ⟨_, rfl⟩
      rw [hT] at HE hcv hz1
      clear hT
      go_enter Tryd.func33, Tryd.ntmps33
      go_wp2
      go_ret
      refine ⟨?_, HW.out⟩
      rw [HE.out]
      rfl
    · have d1 : decide ((-10 : Int) < -(u : Int)) = false := decide_eq_false (by omega)
      have HE := Lib.hid (numT_neg2 hs)
      have hq : IntKind.i64.wrap (-((u : Int) / 10)) = (-((u / 10 : Nat) : Int)) := by rw [IntWalk.i64_in _ (by omega)]; omega
      have hr : (u : Int).tmod 10 = ((u % 10 : Nat) : Int) := by rw [Int.tmod_eq_emod_of_nonneg (by omega)]; omega
      have hw1 : IntKind.i64.wrap (48 + ((u % 10 : Nat) : Int)) = ((48 + u % 10 : Nat) : Int) := by rw [IntWalk.i64_in _ (by omega)]; omega
      have hw2 : IntKind.u8.wrap ((48 + u % 10 : Nat) : Int) = ((48 + u % 10 : Nat) : Int) := by rw [IntKind.wrap_u8]; omega
      have hd : 48 + u % 10 < 256 := by omega
      have hih := fun V => ih (N - 1) (by omega) (-((u / 10 : Nat) : Int)) V (by omega) (by omega) (by omega)
      obtain ⟨D, hD⟩ : ∃ D, 48 + u % 10 = D := ⟨_, rfl⟩
      rw [hD] at hw1 hw2 hd HE
      obtain ⟨R, hR⟩ : ∃ R, ((u % 10 : Nat) : Int) = R := ⟨_, rfl⟩
      rw [hR] at hr hw1
      obtain ⟨Q, hQ⟩ : ∃ Q, (-((u / 10 : Nat) : Int)) = Q := ⟨_, rfl⟩
      rw [hQ] at hq HE hih
      have hsz : (numT Q).size ≤ 21 := by
        unfold numT
        rw [mk_size]
        exact Lib.itoa_length_le Q (by omega) (by omega)
      obtain ⟨P, hP⟩ : ∃ P, numT Q = P := ⟨_, rfl⟩
      rw [hP] at HE hih hsz
      have cv1 := fun V : World => one_text' V (D : Int) D rfl hd
      have cv2 := fun (W : World) B0 => one_text D hd W B0
      have hT1 : (mkB [UInt8.ofNat D]).size = 1 := mk_size _
      obtain ⟨T, hT⟩ : ∃ T, mkB [UInt8.ofNat D] = T := ⟨_, rfl⟩
      rw [hT] at HE cv1 cv2 hT1
      have a1 : ¬ 9223372036854775807 < P.size + T.size := by omega
      have a2 : ¬ 9223372036854775807 < P.size + 1 := by omega
      have HIH := Lib.hid hih
      have CV1 := Lib.hid cv1; have CV2 := Lib.hid cv2
      have HBD : Hid (Below w.heap.size w w.drew) := Lib.hid (Below.drew (Below.refl _ _))
      have HBA : Hid (Below w.heap.size w (w.drew.alloc (.cells #[.int .u8 (D : Int)] 5))) := Lib.hid (HBD.out.alloc (Nat.le_refl _) _)
      have k2 := CV1.out w.drew
      have c2 : (w.drew.alloc (.cells #[.int .u8 (D : Int)] 5)).cell? ⟨w.heap.size, 0, none⟩ = some (.int .u8 (D : Int)) := cell_new w.drew _ _ _ _ rfl
      have HBB : Hid (Below w.heap.size w ((w.alloc (.cells #[.int .u8 (D : Int)] 5)).drew)) := Lib.hid (Below.drew ((Below.refl _ _).alloc (Nat.le_refl _) _))
      have k4 := CV1.out w
      have c3 : ((w.alloc (.cells #[.int .u8 (D : Int)] 5)).drew).cell? ⟨w.heap.size, 0, none⟩ = some (.int .u8 (D : Int)) := cell_new w _ _ _ _ rfl
      have C3 := Lib.hid c3
      have k5 := CV2.out _ _ c3
      clear c3
      have C2 := Lib.hid c2
      clear hih hsz hd hD hR hQ hP hT hN h0 h1 cv1 cv2 ih c2
      go_enter Tryd.func33, Tryd.ntmps33
      go_wp2_with fail
      go_region_law
        (go_simp; go_at_call 33; first
          | ((with_reducible refine (HIH.out w.drew).mono ?_); rintro e w2 ⟨rfl, hb2⟩; have k1 := CV1.out w2; have HBX : Hid (Below w.heap.size w (w2.alloc (.cells #[.int .u8 (D : Int)] 5))) := Lib.hid ((HBD.out.trans hb2).alloc hb2.size _); clear hb2)
          | ((with_reducible refine (HIH.out ((w.alloc (.cells #[.int .u8 (D : Int)] 5)).drew)).mono ?_); rintro e w2 ⟨rfl, hb2⟩; have k3 := CV2.out w2 w.heap.size (by rw [hb2.cell (p := ⟨w.heap.size, 0, none⟩) (by simp only [World.size_drew, World.size_alloc]; show w.heap.size < w.heap.size + 1; omega)]; exact C3.out); have HBX : Hid (Below w.heap.size w w2) := Lib.hid (HBB.out.trans (hb2.mono HBB.out.size)); clear hb2)
          | ((with_reducible refine (HIH.out (w.drew.alloc (.cells #[.int .u8 (D : Int)] 5))).mono ?_); rintro e w2 ⟨rfl, hb2⟩; have k3 := CV2.out w2 w.heap.size (by rw [hb2.cell (p := ⟨w.heap.size, 0, none⟩) (by simp only [World.size_alloc, World.size_drew]; show w.heap.size < w.heap.size + 1; omega)]; exact C2.out); have HBX : Hid (Below w.heap.size w w2) := Lib.hid (HBA.out.trans (hb2.mono HBA.out.size)); clear hb2))
      all_goals
        go_wp2
        go_ret
        refine ⟨?_, HBX.out⟩
        rw [HE.out]
        rfl
  · obtain ⟨u, rfl⟩ : ∃ u : Nat, n = (u : Int) := ⟨n.toNat, by omega⟩
    have d0 : decide ((u : Int) < 0) = false := decide_eq_false hneg
    by_cases hs : u < 10
    · have d1 : decide ((u : Int) < 10) = true := decide_eq_true (by omega)
      have HE := Lib.hid (numT_one hs)
      have hcv := one_text' w (48 + (u : Int)) (48 + u) (by omega) (by omega)
      have HW := Lib.hid ((Below.refl w.heap.size w).alloc (Nat.le_refl _) (.cells #[.int .u8 (48 + (u : Int))] 5))
      obtain ⟨T, hT⟩ : ∃ T, mkB [UInt8.ofNat (48 + u)] = T := ⟨_, rfl⟩
      rw [hT] at HE hcv
      clear hT
      go_enter Tryd.func33, Tryd.ntmps33
      go_wp2
      go_ret
      refine ⟨?_, HW.out⟩
      rw [HE.out]
      rfl
    · have d1 : decide ((u : Int) < 10) = false := decide_eq_false (by omega)
      have HE := Lib.hid (numT_more hs)
      have hq : IntKind.i64.wrap ((u : Int) / 10) = ((u / 10 : Nat) : Int) := by rw [IntWalk.i64_in _ (by omega)]; omega
      have hr : (u : Int).tmod 10 = ((u % 10 : Nat) : Int) := by rw [Int.tmod_eq_emod_of_nonneg (by omega)]; omega
      have hw1 : IntKind.i64.wrap (48 + ((u % 10 : Nat) : Int)) = ((48 + u % 10 : Nat) : Int) := by rw [IntWalk.i64_in _ (by omega)]; omega
      have hw2 : IntKind.u8.wrap ((48 + u % 10 : Nat) : Int) = ((48 + u % 10 : Nat) : Int) := by rw [IntKind.wrap_u8]; omega
      have hd : 48 + u % 10 < 256 := by omega
      have hih := fun V => ih (N - 1) (by omega) ((u / 10 : Nat) : Int) V (by omega) (by omega) (by omega)
      obtain ⟨D, hD⟩ : ∃ D, 48 + u % 10 = D := ⟨_, rfl⟩
      rw [hD] at hw1 hw2 hd HE
      obtain ⟨R, hR⟩ : ∃ R, ((u % 10 : Nat) : Int) = R := ⟨_, rfl⟩
      rw [hR] at hr hw1
      obtain ⟨Q, hQ⟩ : ∃ Q, ((u / 10 : Nat) : Int) = Q := ⟨_, rfl⟩
      rw [hQ] at hq HE hih
      have hsz : (numT Q).size ≤ 21 := by
        unfold numT
        rw [mk_size]
        exact Lib.itoa_length_le Q (by omega) (by omega)
      obtain ⟨P, hP⟩ : ∃ P, numT Q = P := ⟨_, rfl⟩
      rw [hP] at HE hih hsz
      have cv1 := fun V : World => one_text' V (D : Int) D rfl hd
      have cv2 := fun (W : World) B0 => one_text D hd W B0
      have hT1 : (mkB [UInt8.ofNat D]).size = 1 := mk_size _
      obtain ⟨T, hT⟩ : ∃ T, mkB [UInt8.ofNat D] = T := ⟨_, rfl⟩
      rw [hT] at HE cv1 cv2 hT1
      have a1 : ¬ 9223372036854775807 < P.size + T.size := by omega
      have a2 : ¬ 9223372036854775807 < P.size + 1 := by omega
      have HIH := Lib.hid hih
      have CV1 := Lib.hid cv1; have CV2 := Lib.hid cv2
      have HBD : Hid (Below w.heap.size w w.drew) := Lib.hid (Below.drew (Below.refl _ _))
      have HBA : Hid (Below w.heap.size w (w.drew.alloc (.cells #[.int .u8 (D : Int)] 5))) := Lib.hid (HBD.out.alloc (Nat.le_refl _) _)
      have k2 := CV1.out w.drew
      have c2 : (w.drew.alloc (.cells #[.int .u8 (D : Int)] 5)).cell? ⟨w.heap.size, 0, none⟩ = some (.int .u8 (D : Int)) := cell_new w.drew _ _ _ _ rfl
      have HBB : Hid (Below w.heap.size w ((w.alloc (.cells #[.int .u8 (D : Int)] 5)).drew)) := Lib.hid (Below.drew ((Below.refl _ _).alloc (Nat.le_refl _) _))
      have k4 := CV1.out w
      have c3 : ((w.alloc (.cells #[.int .u8 (D : Int)] 5)).drew).cell? ⟨w.heap.size, 0, none⟩ = some (.int .u8 (D : Int)) := cell_new w _ _ _ _ rfl
      have C3 := Lib.hid c3
      have k5 := CV2.out _ _ c3
      clear c3
      have C2 := Lib.hid c2
      clear hih hsz hd hD hR hQ hP hT hN h0 h1 cv1 cv2 ih c2
      go_enter Tryd.func33, Tryd.ntmps33
      go_wp2_with fail
      go_region_law
        (go_simp; go_at_call 33; first
          | ((with_reducible refine (HIH.out w.drew).mono ?_); rintro e w2 ⟨rfl, hb2⟩; have k1 := CV1.out w2; have HBX : Hid (Below w.heap.size w (w2.alloc (.cells #[.int .u8 (D : Int)] 5))) := Lib.hid ((HBD.out.trans hb2).alloc hb2.size _); clear hb2)
          | ((with_reducible refine (HIH.out ((w.alloc (.cells #[.int .u8 (D : Int)] 5)).drew)).mono ?_); rintro e w2 ⟨rfl, hb2⟩; have k3 := CV2.out w2 w.heap.size (by rw [hb2.cell (p := ⟨w.heap.size, 0, none⟩) (by simp only [World.size_drew, World.size_alloc]; show w.heap.size < w.heap.size + 1; omega)]; exact C3.out); have HBX : Hid (Below w.heap.size w w2) := Lib.hid (HBB.out.trans (hb2.mono HBB.out.size)); clear hb2)
          | ((with_reducible refine (HIH.out (w.drew.alloc (.cells #[.int .u8 (D : Int)] 5))).mono ?_); rintro e w2 ⟨rfl, hb2⟩; have k3 := CV2.out w2 w.heap.size (by rw [hb2.cell (p := ⟨w.heap.size, 0, none⟩) (by simp only [World.size_alloc, World.size_drew]; show w.heap.size < w.heap.size + 1; omega)]; exact C2.out); have HBX : Hid (Below w.heap.size w w2) := Lib.hid (HBA.out.trans (hb2.mono HBA.out.size)); clear hb2))
      all_goals
        go_wp2
        go_ret
        refine ⟨?_, HBX.out⟩
        rw [HE.out]
        rfl
end Go.Proofs.YtlkggpjdaaglmaaDoor.lx
end
section
namespace Go.Proofs.YtlkggpjdaaglmaaDoor.am
open Go.ChangeShapes Go.WideShapes Go.ChangeAt Go.RowKit
open vt
set_option linter.unusedVariables false
set_option linter.unusedSimpArgs false
theorem rdigit_row (n : Int) (h0 : -9223372036854775808 ≤ n) (h1 : n ≤ 9223372036854775807) : Row Tryd.prog 33 [vI n] [] (vS (wNum n)) [] := by
  refine ⟨⟨_, Tryd.func33, rfl, rfl⟩, spec_of_below (ch := []) fun γ S w vs hm hv => ?_⟩
  match vs, hv with
  | [v0], ⟨k0, _⟩ =>
    obtain ⟨rfl, _⟩ := lit_inv k0
    refine (lx.rdigits_own n.natAbs n w (Nat.le_refl _) h0 h1).mono ?_
    rintro e w' ⟨rfl, hb⟩
    exact ⟨_, rfl, hb, .lit _ rfl⟩
theorem app_lit (a b : List UInt8) : (⟨a.toArray⟩ : ByteArray) ++ ⟨b.toArray⟩ = ⟨(a ++ b).toArray⟩ := (mkB_app a b).symm
theorem app_lit2 (a b : List UInt8) (X : ByteArray) : (⟨a.toArray⟩ : ByteArray) ++ (⟨b.toArray⟩ ++ X) = ⟨(a ++ b).toArray⟩ ++ X := by rw [← ByteArray.append_assoc, app_lit a b]
end Go.Proofs.YtlkggpjdaaglmaaDoor.am
end
section
namespace Go.Proofs.YtlkggpjdaaglmaaDoor.am
open Go.ChangeShapes Go.WideShapes Go.ChangeAt Go.RowKit
open vt
set_option linter.unusedVariables false
set_option linter.unusedSimpArgs false
def Sml (W : List ByteArray) : Prop := ∀ w ∈ W, w.size ≤ 8192
theorem sml_app {A B : List ByteArray} : Sml (A ++ B) ↔ Sml A ∧ Sml B := ⟨fun h => ⟨fun w hw => h w (List.mem_append_left _ hw), fun w hw => h w (List.mem_append_right _ hw)⟩, fun h w hw => (List.mem_append.1 hw).elim (h.1 w) (h.2 w)⟩
theorem J_sml {W : List ByteArray} (h : Sml W) (hl : W.length ≤ 100000) : (J W).size ≤ 819300000 := by
  have h1 := J_size_le W h
  have : W.length * (8192 + 1) ≤ 100000 * 8193 := Nat.mul_le_mul_right _ hl
  omega
theorem pre_split (S : List ByteArray) (Ws : List (List ByteArray)) (k : Nat) : ∃ R, pre S Ws = pre S (Ws.take k) ++ R := by
  cases Ws with
  | nil => exact ⟨[], by simp [pre]⟩
  | cons a r =>
    cases k with
    | zero => exact ⟨pre S (a :: r), rfl⟩
    | succ k =>
      refine ⟨((r.drop k).map (S ++ ·)).flatten, ?_⟩
      rw [List.take_succ_cons]
      unfold pre
      rw [List.append_assoc, ← List.flatten_append, ← List.map_append, List.take_append_drop]
set_option maxRecDepth 100000 in
set_option maxHeartbeats 4000000 in
theorem round_row (x : Lab) (l : List VT) (A : List ByteArray) (hx : Opd x) (hA : A ≠ []) (n : Int) (hs : Sml A) (hl : A.length ≤ 100000) (he : Row Tryd.prog 15 [vT (.mk x l)] [] (vS (J A)) []) : Row Tryd.prog 35 [vT (.mk x l), vI n] [] (vS (J (par (tgh x) A n))) [] := by
  have eb := rbinds_row x l hx
  have hz := J_sml hs hl
  by_cases c : n ≤ tgh x
  · have t : par (tgh x) A n = A := by unfold par; rw [if_pos c]
    have c' : ¬ tgh x < n := by omega
    rw [t]
    generalize tgh x = b at *
    generalize J A = D at *
    refine row_of Tryd.func35 rfl rfl (Nat.le_of_ble_eq_true rfl) ?_
    repeat' (first | refine aw_seq ?_ | refine aw_skip ?_ | refine aw_block ?_ | refine aw_exit ?_ | refine aw_cond rfl (fun _ => ?_) (fun hb => absurd hb (by decide)) | refine aw_cond rfl (fun hb => absurd hb (by decide)) (fun _ => ?_) | (refine aw_reg (fun K hK => ?_); simp -implicitDefEqProofs [c, c']) | (refine aw_drw mixd (fun K hK => ?_); simp -implicitDefEqProofs [c, c']) | refine hK _ ?_ | refine hK _ _ (by rfl) ?_ | (refine ar_call (cp eb ?_); simp -implicitDefEqProofs [c, c']) | (refine ard_call (dp eb ?_); simp -implicitDefEqProofs [c, c']) | (refine ar_call (cp he ?_); simp -implicitDefEqProofs [c, c']) | (refine ard_call (dp he ?_); simp -implicitDefEqProofs [c, c']) | fail)
    refine aw_ret (fin_ret ?_); simp -implicitDefEqProofs [FinP, resV, resT] <;> try rfl
  · have t : par (tgh x) A n = [sParO] ++ A ++ [sParS] := by unfold par; rw [if_neg c]
    have c' : tgh x < n := by omega
    have q : J ([sParO] ++ A ++ [sParS]) = ⟨#[40, 32]⟩ ++ J A ++ ⟨#[32, 41]⟩ := by
      rw [J_app (by simp) (by simp), J_app (by simp) hA, J_one, J_one]
      simp only [ByteArray.append_assoc, app_lit, app_lit2, List.cons_append, List.nil_append]
    rw [t, q]
    generalize tgh x = b at *
    generalize J A = D at *
    have z2 : (⟨#[40, 32]⟩ : ByteArray).size = 2 := rfl
    have z3 : (⟨#[32, 41]⟩ : ByteArray).size = 2 := rfl
    have b1 : (⟨#[40, 32]⟩ : ByteArray).size + D.size ≤ 9223372036854775807 := by omega
    have b2 : (⟨#[40, 32]⟩ : ByteArray).size + D.size + (⟨#[32, 41]⟩ : ByteArray).size ≤ 9223372036854775807 := by omega
    refine row_of Tryd.func35 rfl rfl (Nat.le_of_ble_eq_true rfl) ?_
    repeat' (first | refine aw_seq ?_ | refine aw_skip ?_ | refine aw_block ?_ | refine aw_exit ?_ | refine aw_cond rfl (fun _ => ?_) (fun hb => absurd hb (by decide)) | refine aw_cond rfl (fun hb => absurd hb (by decide)) (fun _ => ?_) | (refine aw_reg (fun K hK => ?_); simp -implicitDefEqProofs [c', b1, b2]) | (refine aw_drw mixd (fun K hK => ?_); simp -implicitDefEqProofs [c', b1, b2]) | refine hK _ ?_ | refine hK _ _ (by rfl) ?_ | (refine ar_call (cp eb ?_); simp -implicitDefEqProofs [c', b1, b2]) | (refine ard_call (dp eb ?_); simp -implicitDefEqProofs [c', b1, b2]) | (refine ar_call (cp he ?_); simp -implicitDefEqProofs [c', b1, b2]) | (refine ard_call (dp he ?_); simp -implicitDefEqProofs [c', b1, b2]) | fail)
    refine aw_ret (fin_ret ?_); simp -implicitDefEqProofs [FinP, resV, resT] <;> try rfl
set_option maxRecDepth 100000 in
set_option maxHeartbeats 4000000 in
theorem rlist_row (fi la : ByteArray) (l : List VT) (Ws : List (List ByteArray)) (hl : l.length = Ws.length) (hn : l.length ≤ 100000) (hf : fi.size ≤ 10) (hla : la.size ≤ 10) (hne : ∀ W ∈ Ws, W ≠ []) (hs : Sml (pre [sCom] Ws)) (hL : (pre [sCom] Ws).length ≤ 99990) (he : ∀ (i : Nat) t W, l[i]? = some t → Ws[i]? = some W → Row Tryd.prog 15 [vT t] [] (vS (J W)) []) : Row Tryd.prog 37 [vLs l, vS fi, vS la] [] (vS (J ([fi] ++ (pre [sCom] Ws ++ [la])))) [] := by
  have hsp := pre_split [sCom] Ws
  have hstep := fun k W h => pre_take (sep := [sCom]) (Ws := Ws) (k := k) (W := W) h
  have hsm : ∀ k, (J ([fi] ++ pre [sCom] (Ws.take k))).size ≤ 819300000 := fun k => by
    obtain ⟨R, hR⟩ := hsp k
    rw [hR] at hs hL
    rw [List.length_append] at hL
    exact J_sml (sml_app.2 ⟨fun w hw => by rw [List.mem_singleton.1 hw]; omega, (sml_app.1 hs).1⟩) (by simp; omega)
  have h0 : J ([fi] ++ pre [sCom] (Ws.take 0)) = fi := J_one fi
  have h0' : J [fi] = fi := J_one fi
  have hend : J ([fi] ++ (pre [sCom] Ws ++ [la])) = J ([fi] ++ pre [sCom] (Ws.take Ws.length)) ++ sp ++ la := by
    rw [List.take_length, ← List.append_assoc, J_app (by simp) (by simp), J_one]
  rw [hend]
  refine row_of Tryd.func37 rfl rfl (Nat.le_of_ble_eq_true rfl) ?_
  repeat (first | refine aw_seq ?_ | refine aw_skip ?_ | refine aw_block ?_ | refine aw_exit ?_ | refine aw_cond rfl (fun _ => ?_) (fun hb => absurd hb (by decide)) | refine aw_cond rfl (fun hb => absurd hb (by decide)) (fun _ => ?_) | (refine aw_reg (fun K hK => ?_); simp -implicitDefEqProofs; refine hK _ ?_) | (refine aw_drw mixd (fun K hK => ?_); simp -implicitDefEqProofs; refine hK _ _ (by rfl) ?_) | fail)
  refine aw_lp (ι := Nat) (fun k => mkSt [(0, vLs l), (2, vS la), (7, vS (J ([fi] ++ pre [sCom] (Ws.take k)))), (8, vI (k : Nat))] []) (fun k => k ≤ l.length) (fun k => l.length - k) 0 (Nat.zero_le _) (cov_intro [] (by simp -implicitDefEqProofs [h0', pre]) (by simp -implicitDefEqProofs [h0', pre]) (by decide) rfl (by simp)) (fun Z hI k hk => ?_)
  by_cases hkl : k < l.length; rotate_left
  · have hke : k = Ws.length := by omega
    subst hke
    have hz := hsm Ws.length
    have hlt : ¬ Ws.length < l.length := by omega
    have z1 : sp.size = 1 := rfl
    generalize J ([fi] ++ pre [sCom] (Ws.take Ws.length)) = D at *
    have b1 : D.size + sp.size ≤ 9223372036854775807 := by omega
    have b2 : D.size + sp.size + la.size ≤ 9223372036854775807 := by omega
    repeat (first | refine aw_seq ?_ | refine aw_skip ?_ | refine aw_block ?_ | refine aw_exit ?_ | refine aw_cond rfl (fun _ => ?_) (fun hb => absurd hb (by decide)) | refine aw_cond rfl (fun hb => absurd hb (by decide)) (fun _ => ?_) | (refine aw_reg (fun K hK => ?_); simp -implicitDefEqProofs [hlt, b1, b2]; refine hK _ ?_) | (refine aw_drw mixd (fun K hK => ?_); simp -implicitDefEqProofs [hlt, b1, b2]; refine hK _ _ (by rfl) ?_) | fail)
    refine aw_ret (fin_ret ?_); simp -implicitDefEqProofs [FinP, resV, resT] <;> try rfl
  obtain ⟨⟨ux, ul⟩, hu⟩ : ∃ a, l[k]? = some a := ⟨_, List.getElem?_eq_getElem hkl⟩
  have hu' := (List.getElem?_eq_some_iff.1 hu).2
  obtain ⟨W, hW⟩ : ∃ a, Ws[k]? = some a := ⟨_, List.getElem?_eq_getElem (by omega)⟩
  have hst := hstep k W hW
  have hWn := hne W (List.mem_of_getElem? hW)
  have q := he k _ W hu hW
  have z1 := hsm (k + 1)
  have z0 := hsm k
  have w2 : IntKind.i64.wrap ((k : Nat) + 1 : Int) = (k : Nat) + 1 := i64i _ (by omega) (by omega)
  have zs : sp.size = 1 := rfl
  have zc : (⟨#[32, 44]⟩ : ByteArray).size = 2 := rfl
  by_cases hk0 : k = 0
  · have hkp : ¬ 0 < k := by omega
    have e3 : J ([fi] ++ pre [sCom] (Ws.take (k + 1))) = J ([fi] ++ pre [sCom] (Ws.take k)) ++ sp ++ J W := by
      rw [hst, if_pos hk0, List.nil_append, ← List.append_assoc, J_app (by simp) hWn]
    rw [e3, ByteArray.size_append, ByteArray.size_append] at z1
    obtain ⟨T, hT⟩ : ∃ T, J ([fi] ++ pre [sCom] (Ws.take (k + 1))) = T := ⟨_, rfl⟩
    have hT' : J (fi :: pre [sCom] (Ws.take (k + 1))) = T := hT
    rw [hT] at e3
    generalize J ([fi] ++ pre [sCom] (Ws.take k)) = D at *
    generalize J W = E at *
    have b1 : D.size + sp.size ≤ 9223372036854775807 := by omega
    have b2 : D.size + sp.size + E.size ≤ 9223372036854775807 := by omega
    clear hk0
    repeat' (first | refine aw_seq ?_ | refine aw_skip ?_ | refine aw_block ?_ | refine aw_exit ?_ | refine aw_cond rfl (fun _ => ?_) (fun hb => absurd hb (by decide)) | refine aw_cond rfl (fun hb => absurd hb (by decide)) (fun _ => ?_) | (refine aw_reg (fun K hK => ?_); simp -implicitDefEqProofs [hkl, hu, hu', hkp, b1, b2, w2]) | (refine aw_drw mixd (fun K hK => ?_); simp -implicitDefEqProofs [hkl, hu, hu', hkp, b1, b2, w2]) | refine hK _ ?_ | refine hK _ _ (by rfl) ?_ | (refine ar_call (cp q ?_); simp -implicitDefEqProofs [hkl, hu, hu', hkp, b1, b2, w2]) | (refine ard_call (dp q ?_); simp -implicitDefEqProofs [hkl, hu, hu', hkp, b1, b2, w2]) | fail)
    refine ⟨k + 1, by omega, (by dsimp only; omega), ?_⟩; rw [hI]; exact cov_intro [] (by simp -implicitDefEqProofs [hT', e3]) (by simp -implicitDefEqProofs [hT', e3]) (by decide) rfl (by simp)
  · have hkp : 0 < k := by omega
    have e3 : J ([fi] ++ pre [sCom] (Ws.take (k + 1))) = J ([fi] ++ pre [sCom] (Ws.take k)) ++ ⟨#[32, 44]⟩ ++ sp ++ J W := by
      rw [hst, if_neg hk0, ← List.append_assoc, J_app (by simp) (by simp), J_app (by simp) hWn, J_one]
      simp only [ByteArray.append_assoc, app_lit, app_lit2, List.cons_append, List.nil_append]
    rw [e3, ByteArray.size_append, ByteArray.size_append, ByteArray.size_append] at z1
    obtain ⟨T, hT⟩ : ∃ T, J ([fi] ++ pre [sCom] (Ws.take (k + 1))) = T := ⟨_, rfl⟩
    have hT' : J (fi :: pre [sCom] (Ws.take (k + 1))) = T := hT
    rw [hT] at e3
    generalize J ([fi] ++ pre [sCom] (Ws.take k)) = D at *
    generalize J W = E at *
    have b0 : D.size + (⟨#[32, 44]⟩ : ByteArray).size ≤ 9223372036854775807 := by omega
    have b1 : D.size + (⟨#[32, 44]⟩ : ByteArray).size + sp.size ≤ 9223372036854775807 := by omega
    have b2 : D.size + (⟨#[32, 44]⟩ : ByteArray).size + sp.size + E.size ≤ 9223372036854775807 := by omega
    repeat' (first | refine aw_seq ?_ | refine aw_skip ?_ | refine aw_block ?_ | refine aw_exit ?_ | refine aw_cond rfl (fun _ => ?_) (fun hb => absurd hb (by decide)) | refine aw_cond rfl (fun hb => absurd hb (by decide)) (fun _ => ?_) | (refine aw_reg (fun K hK => ?_); simp -implicitDefEqProofs [hkl, hu, hu', hkp, b0, b1, b2, w2]) | (refine aw_drw mixd (fun K hK => ?_); simp -implicitDefEqProofs [hkl, hu, hu', hkp, b0, b1, b2, w2]) | refine hK _ ?_ | refine hK _ _ (by rfl) ?_ | (refine ar_call (cp q ?_); simp -implicitDefEqProofs [hkl, hu, hu', hkp, b0, b1, b2, w2]) | (refine ard_call (dp q ?_); simp -implicitDefEqProofs [hkl, hu, hu', hkp, b0, b1, b2, w2]) | fail)
    refine ⟨k + 1, by omega, (by dsimp only; omega), ?_⟩; rw [hI]; exact cov_intro [] (by simp -implicitDefEqProofs [hT', e3]) (by simp -implicitDefEqProofs [hT', e3]) (by decide) rfl (by simp)
end Go.Proofs.YtlkggpjdaaglmaaDoor.am
end
