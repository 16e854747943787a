/-
  Layer 14: the program's In, Shift and what they call.
-/
import Derived.Test.YtjmjillfclfkgaaVtShi
import Derived.Test.YtjmjillfclfkgaaTd
import Derived.IntWalk
namespace Go.Proofs.Ytjmjillfclfkgaa.am
open Go.ChangeShapes Go.WideShapes Go.ChangeAt Go.RowKit
open vt
set_option linter.unusedVariables false
set_option linter.unusedSimpArgs false


theorem td_mover : td Try.prog 68 = some ⟨true, 3, 24, [.lit (.int .i64 0), .lit (.int .i64 0), .lit (.bool false)], [(0, 1, false), (1, 1, false), (2, 1, false)], .struct⟩ := Eq.trans (by kernel_rfl) (Eq.refl _)
theorem td_moverp : td Try.prog 66 = some ⟨false, 1, 8, [.lit (.pointer none)], [], (.pointer 68)⟩ := Eq.trans (by kernel_rfl) (Eq.refl _)
theorem td_movef : td Try.prog 70 = some ⟨false, 1, 8, [.lit .nilFunc], [], .func⟩ := Eq.trans (by kernel_rfl) (Eq.refl _)
attribute [simp] td_mover td_moverp td_movef

set_option maxRecDepth 100000 in
set_option maxHeartbeats 4000000 in
theorem outerp_row (x : Lab) (l : List VT) (d : Int) (h : d ≤ x.n → IntKind.i64.wrap (x.n - d) = x.n - d) : Row Try.prog 74 [vT (.mk x l), vI d] [] (vI (outr x.n d)) [] := by
  refine row_of Try.func74 rfl rfl (Nat.le_of_ble_eq_true rfl) ?_
  by_cases hd : x.n < d
  · repeat (first | refine aw_seq ?_ | refine aw_skip ?_ | refine aw_block ?_ | refine aw_exit ?_ | refine aw_cond rfl (fun _ => ?_) (fun hb => absurd hb (by decide)) | refine aw_cond rfl (fun hb => absurd hb (by decide)) (fun _ => ?_) | (refine aw_reg (fun K hK => ?_); simp -implicitDefEqProofs [hd]; refine hK _ ?_) | (refine aw_drw mixd (fun K hK => ?_); simp -implicitDefEqProofs [hd]; refine hK _ _ (by rfl) ?_))
    refine aw_ret (fin_ret ?_); simp -implicitDefEqProofs [FinP, resV, resT, outr, hd] <;> try rfl
  · have h := h (by omega)
    repeat (first | refine aw_seq ?_ | refine aw_skip ?_ | refine aw_block ?_ | refine aw_exit ?_ | refine aw_cond rfl (fun _ => ?_) (fun hb => absurd hb (by decide)) | refine aw_cond rfl (fun hb => absurd hb (by decide)) (fun _ => ?_) | (refine aw_reg (fun K hK => ?_); simp -implicitDefEqProofs [hd, h]; refine hK _ ?_) | (refine aw_drw mixd (fun K hK => ?_); simp -implicitDefEqProofs [hd, h]; refine hK _ _ (by rfl) ?_))
    refine aw_ret (fin_ret ?_); simp -implicitDefEqProofs [FinP, resV, resT, outr, hd] <;> try rfl

set_option maxRecDepth 100000 in
set_option maxHeartbeats 4000000 in
theorem brings_row (x : Lab) (l : List VT) : Row Try.prog 73 [vT (.mk x l)] [] (vB (brB (.mk x l))) [] := by
  refine row_of Try.func73 rfl rfl (Nat.le_of_ble_eq_true rfl) ?_
  by_cases h20 : x.k = 20
  · repeat (first | refine aw_seq ?_ | refine aw_skip ?_ | refine aw_block ?_ | refine aw_exit ?_ | refine aw_cond rfl (fun _ => ?_) (fun hb => absurd hb (by decide)) | refine aw_cond rfl (fun hb => absurd hb (by decide)) (fun _ => ?_) | (refine aw_reg (fun K hK => ?_); simp -implicitDefEqProofs [h20]; refine hK _ ?_) | (refine aw_drw mixd (fun K hK => ?_); simp -implicitDefEqProofs [h20]; refine hK _ _ (by rfl) ?_))
    refine aw_ret (fin_ret ?_); simp -implicitDefEqProofs [FinP, resV, resT, brB, Tr.lab, h20] <;> try rfl
  · repeat (first | refine aw_seq ?_ | refine aw_skip ?_ | refine aw_block ?_ | refine aw_exit ?_ | refine aw_cond rfl (fun _ => ?_) (fun hb => absurd hb (by decide)) | refine aw_cond rfl (fun hb => absurd hb (by decide)) (fun _ => ?_) | (refine aw_reg (fun K hK => ?_); simp -implicitDefEqProofs [h20]; refine hK _ ?_) | (refine aw_drw mixd (fun K hK => ?_); simp -implicitDefEqProofs [h20]; refine hK _ _ (by rfl) ?_))
    refine aw_ret (fin_ret ?_); simp -implicitDefEqProofs [FinP, resV, resT, brB, Tr.lab, h20] <;> try rfl

set_option maxRecDepth 100000 in
set_option maxHeartbeats 4000000 in
theorem brought_row (l : List VT) (hl : l.length ≤ 1000000) : Row Try.prog 80 [vLs l] [] (vI (brC l l.length : Nat)) [] := by
  refine row_of Try.func80 rfl rfl (Nat.le_of_ble_eq_true rfl) ?_
  repeat (first | refine aw_seq ?_ | refine aw_skip ?_ | refine aw_block ?_ | refine aw_exit ?_ | refine aw_cond rfl (fun _ => ?_) (fun hb => absurd hb (by decide)) | refine aw_cond rfl (fun hb => absurd hb (by decide)) (fun _ => ?_) | (refine aw_reg (fun K hK => ?_); simp -implicitDefEqProofs; refine hK _ ?_) | (refine aw_drw mixd (fun K hK => ?_); simp -implicitDefEqProofs; refine hK _ _ (by rfl) ?_))
  refine aw_lp (ι := Nat) (fun k => mkSt [(3, vI (brC l k : Nat)), (6, vLs l), (7, vI (l.length : Nat)), (8, vI (k : Nat))] []) (fun k => k ≤ l.length) (fun k => l.length - k) 0 (Nat.zero_le _) (cov_intro [] (by simp -implicitDefEqProofs [brC_zero]) (by simp -implicitDefEqProofs [brC_zero]) (by decide) rfl (by simp)) (fun Z hI k hk => ?_)
  by_cases hkl : k < l.length
  · obtain ⟨⟨yx, yl⟩, hy⟩ : ∃ y, l[k]? = some y := ⟨_, List.getElem?_eq_getElem hkl⟩
    have hy' := (List.getElem?_eq_some_iff.1 hy).2
    have hs := brC_succ hy
    have hc := brC_le l k
    have w1 : IntKind.i64.wrap ((brC l k : Nat) + 1 : Int) = (brC l k : Nat) + 1 := i64i _ (by omega) (by omega)
    have w2 : IntKind.i64.wrap ((k : Nat) + 1 : Int) = (k : Nat) + 1 := i64i _ (by omega) (by omega)
    repeat (first | refine aw_seq ?_ | refine aw_skip ?_ | refine aw_block ?_ | refine aw_exit ?_ | refine aw_cond rfl (fun _ => ?_) (fun hb => absurd hb (by decide)) | refine aw_cond rfl (fun hb => absurd hb (by decide)) (fun _ => ?_) | (refine aw_reg (fun K hK => ?_); simp -implicitDefEqProofs [hkl, hy, hy']; refine hK _ ?_) | (refine aw_drw mixd (fun K hK => ?_); simp -implicitDefEqProofs [hkl, hy, hy']; refine hK _ _ (by rfl) ?_))
    refine aw_reg (fun K hK => ?_); simp -implicitDefEqProofs
    refine ar_call (call_pure (brings_row yx yl) (by simp) (fun _ => rfl) rfl ?_)
    simp -implicitDefEqProofs; refine hK _ ?_
    refine aw_cond rfl (fun hb => ?_) (fun hb => ?_)
    · repeat (first | refine aw_seq ?_ | refine aw_skip ?_ | refine aw_block ?_ | refine aw_exit ?_ | refine aw_cond rfl (fun _ => ?_) (fun hb => absurd hb (by decide)) | refine aw_cond rfl (fun hb => absurd hb (by decide)) (fun _ => ?_) | (refine aw_reg (fun K hK => ?_); simp -implicitDefEqProofs [hb, w1, w2]; refine hK _ ?_) | (refine aw_drw mixd (fun K hK => ?_); simp -implicitDefEqProofs [hb, w1, w2]; refine hK _ _ (by rfl) ?_))
      refine ⟨k + 1, by omega, (by dsimp only; omega), ?_⟩; rw [hI]; exact cov_intro [] (by simp -implicitDefEqProofs [hs, hb]) (by simp -implicitDefEqProofs [hs, hb]) (by decide) rfl (by simp)
    · repeat (first | refine aw_seq ?_ | refine aw_skip ?_ | refine aw_block ?_ | refine aw_exit ?_ | refine aw_cond rfl (fun _ => ?_) (fun hb => absurd hb (by decide)) | refine aw_cond rfl (fun hb => absurd hb (by decide)) (fun _ => ?_) | (refine aw_reg (fun K hK => ?_); simp -implicitDefEqProofs [hb, w1, w2]; refine hK _ ?_) | (refine aw_drw mixd (fun K hK => ?_); simp -implicitDefEqProofs [hb, w1, w2]; refine hK _ _ (by rfl) ?_))
      refine ⟨k + 1, by omega, (by dsimp only; omega), ?_⟩; rw [hI]; exact cov_intro [] (by simp -implicitDefEqProofs [hs, hb]) (by simp -implicitDefEqProofs [hs, hb]) (by decide) rfl (by simp)
  · have hkj : k = l.length := by omega
    subst hkj
    repeat (first | refine aw_seq ?_ | refine aw_skip ?_ | refine aw_block ?_ | refine aw_exit ?_ | refine aw_cond rfl (fun _ => ?_) (fun hb => absurd hb (by decide)) | refine aw_cond rfl (fun hb => absurd hb (by decide)) (fun _ => ?_) | (refine aw_reg (fun K hK => ?_); simp -implicitDefEqProofs; refine hK _ ?_) | (refine aw_drw mixd (fun K hK => ?_); simp -implicitDefEqProofs; refine hK _ _ (by rfl) ?_))
    refine aw_ret (fin_ret ?_); simp -implicitDefEqProofs [FinP, resV, resT] <;> try rfl

set_option maxRecDepth 100000 in
set_option maxHeartbeats 4000000 in
theorem inp_row (x : Lab) (l : List VT) (i : Int) (hl : l.length ≤ 1000000) : Row Try.prog 72 [vT (.mk x l), vI i] [] (vI (inn x l i)) [] := by
  refine row_of Try.func72 rfl rfl (Nat.le_of_ble_eq_true rfl) ?_
  by_cases h0 : i < 0
  · repeat (first | refine aw_seq ?_ | refine aw_skip ?_ | refine aw_block ?_ | refine aw_exit ?_ | refine aw_cond rfl (fun _ => ?_) (fun hb => absurd hb (by decide)) | refine aw_cond rfl (fun hb => absurd hb (by decide)) (fun _ => ?_) | (refine aw_reg (fun K hK => ?_); simp -implicitDefEqProofs [h0]; refine hK _ ?_) | (refine aw_drw mixd (fun K hK => ?_); simp -implicitDefEqProofs [h0]; refine hK _ _ (by rfl) ?_))
    refine aw_ret (fin_ret ?_); simp -implicitDefEqProofs [FinP, resV, resT, inn, h0] <;> try rfl
  by_cases h1 : (l.length : Int) ≤ i
  · repeat (first | refine aw_seq ?_ | refine aw_skip ?_ | refine aw_block ?_ | refine aw_exit ?_ | refine aw_cond rfl (fun _ => ?_) (fun hb => absurd hb (by decide)) | refine aw_cond rfl (fun hb => absurd hb (by decide)) (fun _ => ?_) | (refine aw_reg (fun K hK => ?_); simp -implicitDefEqProofs [h0, h1]; refine hK _ ?_) | (refine aw_drw mixd (fun K hK => ?_); simp -implicitDefEqProofs [h0, h1]; refine hK _ _ (by rfl) ?_))
    refine aw_ret (fin_ret ?_); simp -implicitDefEqProofs [FinP, resV, resT, inn, h1] <;> try rfl
  obtain ⟨j, rfl⟩ : ∃ j : Nat, i = j := ⟨i.toNat, by omega⟩
  have e0 : ¬ (j : Int) < 0 := by omega
  have e1 : ¬ l.length ≤ j := by omega
  by_cases hk29 : x.k = 29
  · repeat (first | refine aw_seq ?_ | refine aw_skip ?_ | refine aw_block ?_ | refine aw_exit ?_ | refine aw_cond rfl (fun _ => ?_) (fun hb => absurd hb (by decide)) | refine aw_cond rfl (fun hb => absurd hb (by decide)) (fun _ => ?_) | (refine aw_reg (fun K hK => ?_); simp -implicitDefEqProofs [e0, e1, hk29]; refine hK _ ?_) | (refine aw_drw mixd (fun K hK => ?_); simp -implicitDefEqProofs [e0, e1, hk29]; refine hK _ _ (by rfl) ?_))
    have e2 : j ≤ l.length := by omega
    refine aw_reg (fun K hK => ?_); simp -implicitDefEqProofs [e0, e1, e2]
    have e3 : (l.take j).length = j := by rw [List.length_take]; omega
    refine ar_call (call_pure (brought_row (l.take j) (by omega)) (by simp) (fun _ => rfl) rfl ?_)
    have e4 : brC (l.take j) (l.take j).length = brC l j := by rw [e3]; unfold brC; rw [List.take_take, Nat.min_self]
    rw [e4]
    simp -implicitDefEqProofs; refine hK _ ?_
    refine aw_ret (fin_ret ?_); simp -implicitDefEqProofs [FinP, resV, resT, inn, e0, e1, hk29] <;> try rfl
  by_cases h2 : (j : Int) = 2
  · have hj2 : j = 2 := by omega
    subst hj2
    have e2 : ¬ (l.length : Int) ≤ 2 := by omega
    by_cases h25 : x.k = 25
    · repeat (first | refine aw_seq ?_ | refine aw_skip ?_ | refine aw_block ?_ | refine aw_exit ?_ | refine aw_cond rfl (fun _ => ?_) (fun hb => absurd hb (by decide)) | refine aw_cond rfl (fun hb => absurd hb (by decide)) (fun _ => ?_) | (refine aw_reg (fun K hK => ?_); simp -implicitDefEqProofs [e1, e2, hk29, h25]; refine hK _ ?_) | (refine aw_drw mixd (fun K hK => ?_); simp -implicitDefEqProofs [e1, e2, hk29, h25]; refine hK _ _ (by rfl) ?_))
      refine aw_ret (fin_ret ?_); simp -implicitDefEqProofs [FinP, resV, resT, inn, e1, e2, hk29, h25] <;> try rfl
    by_cases h33 : x.k = 33
    · cases l with
      | nil => simp at e1
      | cons z l =>
        obtain ⟨zx, zl⟩ := z
        have e3 : ¬ l.length + 1 ≤ 2 := by simpa using e1
        have e4 : ¬ (l.length : Int) + 1 ≤ 2 := by omega
        repeat (first | refine aw_seq ?_ | refine aw_skip ?_ | refine aw_block ?_ | refine aw_exit ?_ | refine aw_cond rfl (fun _ => ?_) (fun hb => absurd hb (by decide)) | refine aw_cond rfl (fun hb => absurd hb (by decide)) (fun _ => ?_) | (refine aw_reg (fun K hK => ?_); simp -implicitDefEqProofs [e3, e4, hk29, h25, h33]; refine hK _ ?_) | (refine aw_drw mixd (fun K hK => ?_); simp -implicitDefEqProofs [e3, e4, hk29, h25, h33]; refine hK _ _ (by rfl) ?_))
        refine aw_ret (fin_ret ?_); simp -implicitDefEqProofs [FinP, resV, resT, inn, e3, e4, hk29, h25, h33, fst, Tr.kids] <;> try rfl
    repeat (first | refine aw_seq ?_ | refine aw_skip ?_ | refine aw_block ?_ | refine aw_exit ?_ | refine aw_cond rfl (fun _ => ?_) (fun hb => absurd hb (by decide)) | refine aw_cond rfl (fun hb => absurd hb (by decide)) (fun _ => ?_) | (refine aw_reg (fun K hK => ?_); simp -implicitDefEqProofs [e1, e2, hk29, h25, h33]; refine hK _ ?_) | (refine aw_drw mixd (fun K hK => ?_); simp -implicitDefEqProofs [e1, e2, hk29, h25, h33]; refine hK _ _ (by rfl) ?_))
    refine aw_ret (fin_ret ?_); simp -implicitDefEqProofs [FinP, resV, resT, inn, e1, e2, hk29, h25, h33] <;> try rfl
  have h2' : ¬ j = 2 := by omega
  by_cases h25 : x.k = 25
  · repeat (first | refine aw_seq ?_ | refine aw_skip ?_ | refine aw_block ?_ | refine aw_exit ?_ | refine aw_cond rfl (fun _ => ?_) (fun hb => absurd hb (by decide)) | refine aw_cond rfl (fun hb => absurd hb (by decide)) (fun _ => ?_) | (refine aw_reg (fun K hK => ?_); simp -implicitDefEqProofs [e0, e1, hk29, h2, h2', h25]; refine hK _ ?_) | (refine aw_drw mixd (fun K hK => ?_); simp -implicitDefEqProofs [e0, e1, hk29, h2, h2', h25]; refine hK _ _ (by rfl) ?_))
    refine aw_ret (fin_ret ?_); simp -implicitDefEqProofs [FinP, resV, resT, inn, e0, e1, hk29, h2, h2', h25] <;> try rfl
  by_cases h33 : x.k = 33
  · repeat (first | refine aw_seq ?_ | refine aw_skip ?_ | refine aw_block ?_ | refine aw_exit ?_ | refine aw_cond rfl (fun _ => ?_) (fun hb => absurd hb (by decide)) | refine aw_cond rfl (fun hb => absurd hb (by decide)) (fun _ => ?_) | (refine aw_reg (fun K hK => ?_); simp -implicitDefEqProofs [e0, e1, hk29, h2, h2', h25, h33]; refine hK _ ?_) | (refine aw_drw mixd (fun K hK => ?_); simp -implicitDefEqProofs [e0, e1, hk29, h2, h2', h25, h33]; refine hK _ _ (by rfl) ?_))
    refine aw_ret (fin_ret ?_); simp -implicitDefEqProofs [FinP, resV, resT, inn, e0, e1, hk29, h2, h2', h25, h33] <;> try rfl
  repeat (first | refine aw_seq ?_ | refine aw_skip ?_ | refine aw_block ?_ | refine aw_exit ?_ | refine aw_cond rfl (fun _ => ?_) (fun hb => absurd hb (by decide)) | refine aw_cond rfl (fun hb => absurd hb (by decide)) (fun _ => ?_) | (refine aw_reg (fun K hK => ?_); simp -implicitDefEqProofs [e0, e1, hk29, h2, h2', h25, h33]; refine hK _ ?_) | (refine aw_drw mixd (fun K hK => ?_); simp -implicitDefEqProofs [e0, e1, hk29, h2, h2', h25, h33]; refine hK _ _ (by rfl) ?_))
  refine aw_ret (fin_ret ?_); simp -implicitDefEqProofs [FinP, resV, resT, inn, e0, e1, hk29, h2, h2', h25, h33] <;> try rfl

abbrev fMov : AC := .fn (.func 57) [.ptr 0 0] []
abbrev cMov (by' fr : Int) (b : Bool) : List PV := [I by', I fr, Bo b]

set_option maxRecDepth 100000 in
set_option maxHeartbeats 4000000 in
theorem move_row (by' fr : Int) (b0 : -10000 ≤ by') (b1 : by' ≤ 1000000) (f0 : 0 ≤ fr) (f1 : fr ≤ 10000) (b : Bool) (x : Lab) (l : List VT) (hx : x.ok) (d : Int) (d0 : 0 ≤ d) (d1 : d ≤ 1000000) : Row Try.prog 57 [.v (.c (.ptr 0 0)), vT (.mk x l), vI d] [.box ((cMov by' fr b).map .pv)] (vT (movV by' fr b (.mk x l) d).2) [some (.box ((cMov by' fr (movV by' fr b (.mk x l) d).1).map .pv))] := by
  have hn := hx.2.1
  refine row_of Try.func57 rfl rfl (Nat.le_of_ble_eq_true rfl) ?_
  repeat (first | refine aw_seq ?_ | refine aw_skip ?_ | refine aw_block ?_ | refine aw_exit ?_ | refine aw_cond rfl (fun _ => ?_) (fun hb => absurd hb (by decide)) | refine aw_cond rfl (fun hb => absurd hb (by decide)) (fun _ => ?_) | (refine aw_reg (fun K hK => ?_); simp -implicitDefEqProofs; refine hK _ ?_) | (refine aw_drw mixd (fun K hK => ?_); simp -implicitDefEqProofs; refine hK _ _ (by rfl) ?_))
  refine aw_reg (fun K hK => ?_); simp -implicitDefEqProofs
  refine ar_call (call_pure (outerp_row x l d (fun h => i64i _ (by omega) (by omega))) (by simp) (fun _ => rfl) rfl ?_)
  simp -implicitDefEqProofs; refine hK _ ?_
  have w1 : IntKind.i64.wrap (fr - by') = fr - by' := i64i _ (by omega) (by omega)
  by_cases h7 : x.k = 7
  · by_cases hf : outr x.n d < fr
    · have hf' : ¬ fr ≤ outr x.n d := by omega
      repeat (first | refine aw_seq ?_ | refine aw_skip ?_ | refine aw_block ?_ | refine aw_exit ?_ | refine aw_cond rfl (fun _ => ?_) (fun hb => absurd hb (by decide)) | refine aw_cond rfl (fun hb => absurd hb (by decide)) (fun _ => ?_) | (refine aw_reg (fun K hK => ?_); simp -implicitDefEqProofs [h7, hf]; refine hK _ ?_) | (refine aw_drw mixd (fun K hK => ?_); simp -implicitDefEqProofs [h7, hf]; refine hK _ _ (by rfl) ?_))
      refine aw_ret (fin_box ?_); simp -implicitDefEqProofs [FinB, resV, resT, movV, mv, ls, Tr.lab, Tr.kids, h7, hf'] <;> try rfl
    · have hf' : fr ≤ outr x.n d := by omega
      by_cases hl : outr x.n d < fr - by'
      · repeat (first | refine aw_seq ?_ | refine aw_skip ?_ | refine aw_block ?_ | refine aw_exit ?_ | refine aw_cond rfl (fun _ => ?_) (fun hb => absurd hb (by decide)) | refine aw_cond rfl (fun hb => absurd hb (by decide)) (fun _ => ?_) | (refine aw_reg (fun K hK => ?_); simp -implicitDefEqProofs [h7, hf, w1, hl]; refine hK _ ?_) | (refine aw_drw mixd (fun K hK => ?_); simp -implicitDefEqProofs [h7, hf, w1, hl]; refine hK _ _ (by rfl) ?_))
        refine aw_ret (fin_box ?_); simp -implicitDefEqProofs [FinB, resV, resT, movV, mv, ls, Tr.lab, Tr.kids, h7, hf', hl] <;> try rfl
      · repeat (first | refine aw_seq ?_ | refine aw_skip ?_ | refine aw_block ?_ | refine aw_exit ?_ | refine aw_cond rfl (fun _ => ?_) (fun hb => absurd hb (by decide)) | refine aw_cond rfl (fun hb => absurd hb (by decide)) (fun _ => ?_) | (refine aw_reg (fun K hK => ?_); simp -implicitDefEqProofs [h7, hf, w1, hl]; refine hK _ ?_) | (refine aw_drw mixd (fun K hK => ?_); simp -implicitDefEqProofs [h7, hf, w1, hl]; refine hK _ _ (by rfl) ?_))
        refine aw_ret (fin_box ?_); simp -implicitDefEqProofs [FinB, resV, resT, movV, mv, ls, Tr.lab, Tr.kids, h7, hf', hl] <;> try rfl
  · repeat (first | refine aw_seq ?_ | refine aw_skip ?_ | refine aw_block ?_ | refine aw_exit ?_ | refine aw_cond rfl (fun _ => ?_) (fun hb => absurd hb (by decide)) | refine aw_cond rfl (fun hb => absurd hb (by decide)) (fun _ => ?_) | (refine aw_reg (fun K hK => ?_); simp -implicitDefEqProofs [h7]; refine hK _ ?_) | (refine aw_drw mixd (fun K hK => ?_); simp -implicitDefEqProofs [h7]; refine hK _ _ (by rfl) ?_))
    refine aw_ret (fin_box ?_); simp -implicitDefEqProofs [FinB, resV, resT, movV, mv, ls, Tr.lab, Tr.kids, h7] <;> try rfl

section
variable {σ : Type} (vis : σ → VT → Int → σ × VT) (g : Nat) (cs : σ → List PV)
/-- What is asked of what is handed to walk. -/
def Vis : Prop := (∀ s x l d, x.ok → (Tr.mk x l).size ≤ 100000 → 0 ≤ d → d ≤ 1000000 → Row Try.prog g [.v (.c (.ptr 0 0)), vT (.mk x l), vI d] [.box ((cs s).map .pv)] (vT (vis s (.mk x l) d).2) [some (.box ((cs (vis s (.mk x l) d).1).map .pv))]) ∧ ∀ s x l d, x.k = 22 → (vis s (.mk x l) d).2 = .mk x l
theorem box_ren (l : List PV) (ρ : Nat → Nat) : (AO.box (l.map .pv)).ren ρ = .box (l.map .pv) := by
  show AO.box ((l.map AC.pv).map (AC.ren ρ)) = _
  rw [ren_pure]
def td0 : List PV := [I 0, I 0, Sx ⟨#[]⟩, .nilS, I 0, I 0]
def cel (k : Nat) (l : List (List PV)) : AC := if k = 0 then .pv .nilS else .row 3 6 l
def obj (k : Nat) : Option AO := if k = 0 then none else some (.row 24 6)
set_option maxRecDepth 100000 in
set_option maxHeartbeats 4000000 in
theorem walk_row (hv : Vis vis g cs) (t : VT) : in64 t → ∀ (s : σ) (d : Int), 0 ≤ d → d + t.size ≤ 1000000 → t.size ≤ 100000 → Row Try.prog 56 [vT t, vI d, .v (.c (.fn (.func g) [.ptr 0 0] []))] [.box ((cs s).map .pv)] (vT (wk vis t s d).2) [some (.box ((cs (wk vis t s d).1).map .pv))] := by
  induction t using Tr.ind with
  | h x l ih =>
  intro h64 s d hd0 hd1 hsz
  obtain ⟨hx64, hl64⟩ := (Tr.all_mk _ _ _).1 h64
  have hlen := Tr.len_size (x := x) (l := l)
  refine row_of Try.func56 rfl rfl (Nat.le_of_ble_eq_true rfl) ?_
  by_cases h7 : x.k = 7
  · repeat (first | refine aw_seq ?_ | refine aw_skip ?_ | refine aw_block ?_ | refine aw_exit ?_ | refine aw_cond rfl (fun _ => ?_) (fun hb => absurd hb (by decide)) | refine aw_cond rfl (fun hb => absurd hb (by decide)) (fun _ => ?_) | (refine aw_reg (fun K hK => ?_); simp -implicitDefEqProofs [h7]; refine hK _ ?_) | (refine aw_drw mixd (fun K hK => ?_); simp -implicitDefEqProofs [h7]; refine hK _ _ (by rfl) ?_))
    refine aw_reg (fun K hK => ?_); simp -implicitDefEqProofs [h7]
    refine ar_call (call_box (hv.1 s x l d hx64 hsz hd0 (by omega)) 0 (by simp [h7]) (by simp) (vT_ren _) (box_ren _) rfl ?_)
    simp -implicitDefEqProofs; refine hK _ ?_
    refine aw_ret (fin_box ?_); simp -implicitDefEqProofs [FinB, resV, resT, wk_mk, h7] <;> try rfl
  · obtain ⟨s1, hs1⟩ : ∃ s1, s1 = if x.k = 22 then (vis s (.mk x l) d).1 else s := ⟨_, rfl⟩
    rw [wk_mk, if_neg h7, ← hs1]
    refine aw_seq ?_; refine aw_reg (fun K hK => ?_); simp -implicitDefEqProofs; refine hK _ ?_
    refine aw_seq ?_; refine aw_seq ?_; refine aw_reg (fun K hK => ?_); simp -implicitDefEqProofs [h7]; refine hK _ ?_
    refine aw_cond rfl (fun hb => absurd hb (by decide)) (fun _ => ?_)
    refine aw_skip ?_
    refine aw_meet (ι := Unit) (fun _ => mkSt [(1, vI d), (2, .v (.c (.fn (.func g) [.ptr 0 0] []))), (3, .v (.c (.ptr 1 0))), (6, .v (.c (.ptr 2 0)))] [some (.box ((cs s1).map .pv)), some (.box (ta (.mk x l))), some (.box (td0.map .pv))]) (fun _ => True) (fun Z hI => ?_) (fun _ _ => ?_)
    · by_cases h22 : x.k = 22
      · repeat (first | refine aw_seq ?_ | refine aw_skip ?_ | refine aw_block ?_ | refine aw_exit ?_ | refine aw_cond rfl (fun _ => ?_) (fun hb => absurd hb (by decide)) | refine aw_cond rfl (fun hb => absurd hb (by decide)) (fun _ => ?_) | (refine aw_reg (fun K hK => ?_); simp -implicitDefEqProofs [h22]; refine hK _ ?_) | (refine aw_drw mixd (fun K hK => ?_); simp -implicitDefEqProofs [h22]; refine hK _ _ (by rfl) ?_))
        refine aw_reg (fun K hK => ?_); simp -implicitDefEqProofs [h22]
        refine ar_call (call_box (hv.1 s x l d hx64 hsz hd0 (by omega)) 0 (by simp [h22]) (by simp) (vT_ren _) (box_ren _) rfl ?_)
        simp -implicitDefEqProofs [hv.2 s x l d h22, h22]; refine hK _ ?_
        refine ⟨(), (by trivial), ?_⟩; rw [hI]; exact cov_intro [0, 1, 2] (by simp -implicitDefEqProofs [hs1, h22, td0]) (by simp -implicitDefEqProofs [hs1, h22, td0]) (by decide) rfl (by simp)
      · repeat (first | refine aw_seq ?_ | refine aw_skip ?_ | refine aw_block ?_ | refine aw_exit ?_ | refine aw_cond rfl (fun _ => ?_) (fun hb => absurd hb (by decide)) | refine aw_cond rfl (fun hb => absurd hb (by decide)) (fun _ => ?_) | (refine aw_reg (fun K hK => ?_); simp -implicitDefEqProofs [h22]; refine hK _ ?_) | (refine aw_drw mixd (fun K hK => ?_); simp -implicitDefEqProofs [h22]; refine hK _ _ (by rfl) ?_))
        refine ⟨(), (by trivial), ?_⟩; rw [hI]; exact cov_intro [0, 1, 2] (by simp -implicitDefEqProofs [hs1, h22, td0]) (by simp -implicitDefEqProofs [hs1, h22, td0]) (by decide) rfl (by simp)
    repeat (first | refine aw_seq ?_ | refine aw_skip ?_ | refine aw_block ?_ | refine aw_exit ?_ | refine aw_cond rfl (fun _ => ?_) (fun hb => absurd hb (by decide)) | refine aw_cond rfl (fun hb => absurd hb (by decide)) (fun _ => ?_) | (refine aw_reg (fun K hK => ?_); simp -implicitDefEqProofs; refine hK _ ?_) | (refine aw_drw mixd (fun K hK => ?_); simp -implicitDefEqProofs; refine hK _ _ (by rfl) ?_))
    refine aw_lp (ι := Nat) (fun k => mkSt [(1, vI d), (2, .v (.c (.fn (.func g) [.ptr 0 0] []))), (3, .v (.c (.ptr 1 0))), (6, .v (.c (.ptr 2 0))), (7, vLs l), (8, if x.k = 29 then vI (d + (brC l k : Nat)) else .top), (29, vLs l), (30, vI (l.length : Nat)), (31, vI (k : Nat))] [some (.box ((cs (kw vis x l d s1 k).1).map .pv)), some (.box [.pv (I x.k), .pv (I x.n), .pv (Sx x.s), cel k ((kw vis x l d s1 k).2.map tc), .pv (I x.f), .pv (I x.t)]), some (.box (td0.map .pv)), obj k]) (fun k => k ≤ l.length) (fun k => l.length - k) 0 (Nat.zero_le _) (by by_cases h29 : x.k = 29 <;> exact cov_intro [0, 1, 2, 3] (by simp -implicitDefEqProofs [h29, brC_zero, kw_zero, td0, cel, obj]) (by simp -implicitDefEqProofs [h29, brC_zero, kw_zero, td0, cel, obj]) (by decide) rfl (by simp)) (fun Z hI k hk => ?_)
    by_cases hkl : k < l.length
    · obtain ⟨⟨yx, yl⟩, hy⟩ : ∃ y, l[k]? = some y := ⟨_, List.getElem?_eq_getElem hkl⟩
      have hy' := (List.getElem?_eq_some_iff.1 hy).2
      have his := inn_size (x := x) hy
      have hks := kw_succ vis (x := x) (d := d) (s := s1) hy
      have hkn := kw_len vis (x := x) (d := d) (s := s1) hk
      obtain ⟨⟨sk, L⟩, hkw⟩ : ∃ r, kw vis x l d s1 k = r := ⟨_, rfl⟩
      rw [hkw] at hks hkn ⊢
      have w1 : IntKind.i64.wrap (d + (inn x l k : Nat)) = d + (inn x l k : Nat) := i64i _ (by omega) (by omega)
      have w2 : IntKind.i64.wrap ((k : Nat) + 1 : Int) = (k : Nat) + 1 := i64i _ (by omega) (by omega)
      refine aw_seq ?_; refine aw_reg (fun K hK => ?_); simp -implicitDefEqProofs [hkl]; refine hK _ ?_
      refine aw_seq ?_; refine aw_cond rfl (fun _ => ?_) (fun hb => absurd hb (by decide)); refine aw_skip ?_
      refine aw_seq ?_; refine aw_block ?_; refine aw_seq ?_; refine aw_reg (fun K hK => ?_); simp -implicitDefEqProofs [hkl, hy, hy']; refine hK _ ?_
      refine aw_meet (ι := Unit) (fun _ => mkSt [(1, vI d), (2, .v (.c (.fn (.func g) [.ptr 0 0] []))), (3, .v (.c (.ptr 1 0))), (6, .v (.c (.ptr 2 0))), (7, vLs l), (8, vI (d + (inn x l k : Nat))), (10, .v (.c (.ptr 4 0))), (29, vLs l), (30, vI (l.length : Nat)), (31, vI (k : Nat))] [some (.box ((cs sk).map .pv)), some (.box [.pv (I x.k), .pv (I x.n), .pv (Sx x.s), cel k (L.map tc), .pv (I x.f), .pv (I x.t)]), some (.box (td0.map .pv)), obj k, some (.box (ta (.mk yx yl)))]) (fun _ => True) (fun Z hI => ?_) (fun _ _ => ?_)
      · by_cases h29 : x.k = 29
        · repeat (first | refine aw_seq ?_ | refine aw_skip ?_ | refine aw_block ?_ | refine aw_exit ?_ | refine aw_cond rfl (fun _ => ?_) (fun hb => absurd hb (by decide)) | refine aw_cond rfl (fun hb => absurd hb (by decide)) (fun _ => ?_) | (refine aw_reg (fun K hK => ?_); simp -implicitDefEqProofs [h29]; refine hK _ ?_) | (refine aw_drw mixd (fun K hK => ?_); simp -implicitDefEqProofs [h29]; refine hK _ _ (by rfl) ?_))
          by_cases k0 : k = 0
          · refine ⟨(), (by trivial), ?_⟩; rw [hI]; exact cov_intro [0, 1, 2, 3, 8] (by simp -implicitDefEqProofs [h29, inn_block h29 hkl, td0, cel, obj, if_pos k0]) (by simp -implicitDefEqProofs [h29, inn_block h29 hkl, td0, cel, obj, if_pos k0]) (by decide) rfl (by simp)
          · refine ⟨(), (by trivial), ?_⟩; rw [hI]; exact cov_intro [0, 1, 2, 3, 8] (by simp -implicitDefEqProofs [h29, inn_block h29 hkl, td0, cel, obj, if_neg k0]) (by simp -implicitDefEqProofs [h29, inn_block h29 hkl, td0, cel, obj, if_neg k0]) (by decide) rfl (by simp)
        · repeat (first | refine aw_seq ?_ | refine aw_skip ?_ | refine aw_block ?_ | refine aw_exit ?_ | refine aw_cond rfl (fun _ => ?_) (fun hb => absurd hb (by decide)) | refine aw_cond rfl (fun hb => absurd hb (by decide)) (fun _ => ?_) | (refine aw_reg (fun K hK => ?_); simp -implicitDefEqProofs [h29]; refine hK _ ?_) | (refine aw_drw mixd (fun K hK => ?_); simp -implicitDefEqProofs [h29]; refine hK _ _ (by rfl) ?_))
          refine aw_reg (fun K hK => ?_); simp -implicitDefEqProofs [h29]
          refine ar_call (call_pure (inp_row ⟨x.k, 0, ⟨#[]⟩, 0, 0⟩ l k (by omega)) (by simp) (fun _ => rfl) rfl ?_)
          rw [show inn ⟨x.k, 0, ⟨#[]⟩, 0, 0⟩ l k = inn x l k from rfl]
          simp -implicitDefEqProofs [w1]; refine hK _ ?_
          by_cases k0 : k = 0
          · refine ⟨(), (by trivial), ?_⟩; rw [hI]; exact cov_intro [0, 1, 2, 3, 8] (by simp -implicitDefEqProofs [td0, cel, obj, if_pos k0]) (by simp -implicitDefEqProofs [td0, cel, obj, if_pos k0]) (by decide) rfl (by simp)
          · refine ⟨(), (by trivial), ?_⟩; rw [hI]; exact cov_intro [0, 1, 2, 3, 8] (by simp -implicitDefEqProofs [td0, cel, obj, if_neg k0]) (by simp -implicitDefEqProofs [td0, cel, obj, if_neg k0]) (by decide) rfl (by simp)
      refine aw_meet (ι := Unit) (fun _ => mkSt [(1, vI d), (2, .v (.c (.fn (.func g) [.ptr 0 0] []))), (3, .v (.c (.ptr 1 0))), (6, .v (.c (.ptr 2 0))), (7, vLs l), (8, vI (d + (inn x l k : Nat))), (10, .v (.c (.ptr 4 0))), (29, vLs l), (30, vI (l.length : Nat)), (31, vI (k : Nat))] [some (.box ((cs (kw vis x l d s1 (k + 1)).1).map .pv)), some (.box [.pv (I x.k), .pv (I x.n), .pv (Sx x.s), .row 3 6 ((kw vis x l d s1 (k + 1)).2.map tc), .pv (I x.f), .pv (I x.t)]), some (.box (td0.map .pv)), some (.row 24 6), some (.box (ta (.mk yx yl)))]) (fun _ => True) (fun Z hI => ?_) (fun _ _ => ?_)
      · have hkn : L.length = k := hkn
        have b1 : (k + 1) * 72 ≤ 140737488355328 := by omega
        have b2 : k + 1 ≤ 140737488355328 := by omega
        by_cases k0 : k = 0
        · refine aw_drw mixd (fun K hK => ?_); simp -implicitDefEqProofs [cel, obj, if_pos k0]
          refine ard_call (calld_box (ih (.mk yx yl) (List.mem_of_getElem? hy) (hl64 _ (List.mem_of_getElem? hy)) sk (d + (inn x l k : Nat)) (by omega) (by omega) (by omega)) 0 (by simp) (by simp) (vT_ren _) (box_ren _) rfl ?_)
          simp -implicitDefEqProofs [hkn]
          refine hK _ _ (by rfl) ?_
          have hL : L = [] := List.length_eq_zero_iff.1 (by omega)
          refine ⟨(), (by trivial), ?_⟩; rw [hI]; exact cov_intro [0, 1, 2, 61, 4] (by simp -implicitDefEqProofs [hks, td0, hL]) (by simp -implicitDefEqProofs [hks, td0, hL]) (by decide) rfl (by simp)
        · refine aw_drw mixd (fun K hK => ?_); simp -implicitDefEqProofs [cel, obj, if_neg k0]
          refine ard_call (calld_box (ih (.mk yx yl) (List.mem_of_getElem? hy) (hl64 _ (List.mem_of_getElem? hy)) sk (d + (inn x l k : Nat)) (by omega) (by omega) (by omega)) 0 (by simp) (by simp) (vT_ren _) (box_ren _) rfl ?_)
          simp -implicitDefEqProofs [hkn, b1, b2]
          refine hK _ _ (by rfl) ?_
          refine ⟨(), (by trivial), ?_⟩; rw [hI]; exact cov_intro [0, 1, 2, 61, 4] (by simp -implicitDefEqProofs [hks, td0]) (by simp -implicitDefEqProofs [hks, td0]) (by decide) rfl (by simp)
      have hbs := brC_succ hy
      by_cases h29 : x.k = 29
      · have hib := inn_block h29 hkl
        rw [hib]
        repeat (first | refine aw_seq ?_ | refine aw_skip ?_ | refine aw_block ?_ | refine aw_exit ?_ | refine aw_cond rfl (fun _ => ?_) (fun hb => absurd hb (by decide)) | refine aw_cond rfl (fun hb => absurd hb (by decide)) (fun _ => ?_) | (refine aw_reg (fun K hK => ?_); simp -implicitDefEqProofs [h29]; refine hK _ ?_) | (refine aw_drw mixd (fun K hK => ?_); simp -implicitDefEqProofs [h29]; refine hK _ _ (by rfl) ?_))
        refine aw_reg (fun K hK => ?_); simp -implicitDefEqProofs [h29]
        refine ar_call (call_pure (brings_row yx yl) (by simp) (fun _ => rfl) rfl ?_)
        simp -implicitDefEqProofs; refine hK _ ?_
        have hbc := brC_le_k l k
        have w3 : IntKind.i64.wrap (d + (brC l k : Nat) + 1) = d + (brC l k : Nat) + 1 := i64i _ (by omega) (by omega)
        refine aw_cond rfl (fun hb => ?_) (fun hb => ?_)
        · repeat (first | refine aw_seq ?_ | refine aw_skip ?_ | refine aw_block ?_ | refine aw_exit ?_ | refine aw_cond rfl (fun _ => ?_) (fun hb => absurd hb (by decide)) | refine aw_cond rfl (fun hb => absurd hb (by decide)) (fun _ => ?_) | (refine aw_reg (fun K hK => ?_); simp -implicitDefEqProofs [w2, w3]; refine hK _ ?_) | (refine aw_drw mixd (fun K hK => ?_); simp -implicitDefEqProofs [w2, w3]; refine hK _ _ (by rfl) ?_))
          refine ⟨k + 1, by omega, (by dsimp only; omega), ?_⟩; rw [hI]; exact cov_intro [0, 1, 2, 3] (by simp -implicitDefEqProofs [h29, hbs, hb, td0, cel, obj, Int.add_assoc]) (by simp -implicitDefEqProofs [h29, hbs, hb, td0, cel, obj, Int.add_assoc]) (by decide) rfl (by simp)
        · repeat (first | refine aw_seq ?_ | refine aw_skip ?_ | refine aw_block ?_ | refine aw_exit ?_ | refine aw_cond rfl (fun _ => ?_) (fun hb => absurd hb (by decide)) | refine aw_cond rfl (fun hb => absurd hb (by decide)) (fun _ => ?_) | (refine aw_reg (fun K hK => ?_); simp -implicitDefEqProofs [w2, w3]; refine hK _ ?_) | (refine aw_drw mixd (fun K hK => ?_); simp -implicitDefEqProofs [w2, w3]; refine hK _ _ (by rfl) ?_))
          refine ⟨k + 1, by omega, (by dsimp only; omega), ?_⟩; rw [hI]; exact cov_intro [0, 1, 2, 3] (by simp -implicitDefEqProofs [h29, hbs, hb, td0, cel, obj, Int.add_assoc]) (by simp -implicitDefEqProofs [h29, hbs, hb, td0, cel, obj, Int.add_assoc]) (by decide) rfl (by simp)
      · repeat (first | refine aw_seq ?_ | refine aw_skip ?_ | refine aw_block ?_ | refine aw_exit ?_ | refine aw_cond rfl (fun _ => ?_) (fun hb => absurd hb (by decide)) | refine aw_cond rfl (fun hb => absurd hb (by decide)) (fun _ => ?_) | (refine aw_reg (fun K hK => ?_); simp -implicitDefEqProofs [h29, w2]; refine hK _ ?_) | (refine aw_drw mixd (fun K hK => ?_); simp -implicitDefEqProofs [h29, w2]; refine hK _ _ (by rfl) ?_))
        refine ⟨k + 1, by omega, (by dsimp only; omega), ?_⟩; rw [hI]; exact cov_intro [0, 1, 2, 3] (by simp -implicitDefEqProofs [h29, td0, cel, obj]) (by simp -implicitDefEqProofs [h29, td0, cel, obj]) (by decide) rfl (by simp)
    · have hkj : k = l.length := by omega
      subst hkj
      have hkn := kw_len vis (x := x) (d := d) (s := s1) (Nat.le_refl l.length)
      by_cases k0 : l.length = 0
      · have hL : (kw vis x l d s1 l.length).2 = [] := List.length_eq_zero_iff.1 (by omega)
        repeat (first | refine aw_seq ?_ | refine aw_skip ?_ | refine aw_block ?_ | refine aw_exit ?_ | refine aw_cond rfl (fun _ => ?_) (fun hb => absurd hb (by decide)) | refine aw_cond rfl (fun hb => absurd hb (by decide)) (fun _ => ?_) | (refine aw_reg (fun K hK => ?_); simp -implicitDefEqProofs [cel, obj, k0, td0]; refine hK _ ?_) | (refine aw_drw mixd (fun K hK => ?_); simp -implicitDefEqProofs [cel, obj, k0, td0]; refine hK _ _ (by rfl) ?_))
        rw [k0] at hL ⊢
        refine aw_ret (fin_box ?_); simp -implicitDefEqProofs [FinB, resV, resT, hL] <;> try rfl
      · repeat (first | refine aw_seq ?_ | refine aw_skip ?_ | refine aw_block ?_ | refine aw_exit ?_ | refine aw_cond rfl (fun _ => ?_) (fun hb => absurd hb (by decide)) | refine aw_cond rfl (fun hb => absurd hb (by decide)) (fun _ => ?_) | (refine aw_reg (fun K hK => ?_); simp -implicitDefEqProofs [cel, obj, k0, td0]; refine hK _ ?_) | (refine aw_drw mixd (fun K hK => ?_); simp -implicitDefEqProofs [cel, obj, k0, td0]; refine hK _ _ (by rfl) ?_))
        refine aw_ret (fin_box ?_); simp -implicitDefEqProofs [FinB, resV, resT] <;> try rfl
end
theorem mov_vis (by' fr : Int) (b0 : -10000 ≤ by') (b1 : by' ≤ 1000000) (f0 : 0 ≤ fr) (f1 : fr ≤ 10000) : Vis (movV by' fr) 57 (cMov by' fr) :=
  ⟨fun s x l d hx _ d0 d1 => move_row by' fr b0 b1 f0 f1 s x l hx d d0 d1, fun s x l d h => by
    have h7 : ¬ x.k = 7 := by omega
    simp [movV, mv, Tr.lab, Tr.kids, h7]⟩

/-- What Shift answers. -/
def okS (by' fr : Int) : Prop := 0 ≤ fr ∧ fr ≤ 8192 ∧ by' ≤ 8192 ∧ -8192 ≤ by'
def zT : VT := .mk ⟨0, 0, ⟨#[]⟩, 0, 0⟩ []
open Classical in
noncomputable def shT (by' fr : Int) (t : VT) : VT × Bool := if okS by' fr ∧ lo by' fr t 0 = false then (sh by' fr t 0, true) else (zT, false)
noncomputable abbrev vTB (r : VT × Bool) : AV := .tup [.agg (ta r.1), .c (.pv (Bo r.2))]
theorem shT_no {by' fr : Int} {t : VT} (h : ¬ okS by' fr) : shT by' fr t = (zT, false) := if_neg (fun k => h k.1)
set_option maxRecDepth 100000 in
set_option maxHeartbeats 4000000 in
theorem shift_row (by' fr : Int) (t : VT) (h64 : in64 t) (hsz : t.size ≤ 100000) : Row Try.prog 36 [vT t, vI by', vI fr] [] (vTB (shT by' fr t)) [] := by
  refine row_of Try.func36 rfl rfl (Nat.le_of_ble_eq_true rfl) ?_
  obtain ⟨x, l⟩ := t
  by_cases f0 : fr < 0
  · repeat (first | refine aw_seq ?_ | refine aw_skip ?_ | refine aw_block ?_ | refine aw_exit ?_ | refine aw_cond rfl (fun _ => ?_) (fun hb => absurd hb (by decide)) | refine aw_cond rfl (fun hb => absurd hb (by decide)) (fun _ => ?_) | (refine aw_reg (fun K hK => ?_); simp -implicitDefEqProofs [f0]; refine hK _ ?_) | (refine aw_drw mixd (fun K hK => ?_); simp -implicitDefEqProofs [f0]; refine hK _ _ (by rfl) ?_))
    rw [shT_no (fun h => by have h1 := h.1; have h2 := h.2.1; have h3 := h.2.2.1; have h4 := h.2.2.2; omega)]
    refine aw_ret (fin_ret ?_); simp -implicitDefEqProofs [FinP, resV, resT, zT] <;> try rfl
  by_cases f1 : fr > 8192
  · repeat (first | refine aw_seq ?_ | refine aw_skip ?_ | refine aw_block ?_ | refine aw_exit ?_ | refine aw_cond rfl (fun _ => ?_) (fun hb => absurd hb (by decide)) | refine aw_cond rfl (fun hb => absurd hb (by decide)) (fun _ => ?_) | (refine aw_reg (fun K hK => ?_); simp -implicitDefEqProofs [f0, f1]; refine hK _ ?_) | (refine aw_drw mixd (fun K hK => ?_); simp -implicitDefEqProofs [f0, f1]; refine hK _ _ (by rfl) ?_))
    rw [shT_no (fun h => by have h1 := h.1; have h2 := h.2.1; have h3 := h.2.2.1; have h4 := h.2.2.2; omega)]
    refine aw_ret (fin_ret ?_); simp -implicitDefEqProofs [FinP, resV, resT, zT] <;> try rfl
  by_cases b1 : by' > 8192
  · repeat (first | refine aw_seq ?_ | refine aw_skip ?_ | refine aw_block ?_ | refine aw_exit ?_ | refine aw_cond rfl (fun _ => ?_) (fun hb => absurd hb (by decide)) | refine aw_cond rfl (fun hb => absurd hb (by decide)) (fun _ => ?_) | (refine aw_reg (fun K hK => ?_); simp -implicitDefEqProofs [f0, f1, b1]; refine hK _ ?_) | (refine aw_drw mixd (fun K hK => ?_); simp -implicitDefEqProofs [f0, f1, b1]; refine hK _ _ (by rfl) ?_))
    rw [shT_no (fun h => by have h1 := h.1; have h2 := h.2.1; have h3 := h.2.2.1; have h4 := h.2.2.2; omega)]
    refine aw_ret (fin_ret ?_); simp -implicitDefEqProofs [FinP, resV, resT, zT] <;> try rfl
  by_cases b0 : by' < -8192
  · repeat (first | refine aw_seq ?_ | refine aw_skip ?_ | refine aw_block ?_ | refine aw_exit ?_ | refine aw_cond rfl (fun _ => ?_) (fun hb => absurd hb (by decide)) | refine aw_cond rfl (fun hb => absurd hb (by decide)) (fun _ => ?_) | (refine aw_reg (fun K hK => ?_); simp -implicitDefEqProofs [f0, f1, b1, b0]; refine hK _ ?_) | (refine aw_drw mixd (fun K hK => ?_); simp -implicitDefEqProofs [f0, f1, b1, b0]; refine hK _ _ (by rfl) ?_))
    rw [shT_no (fun h => by have h1 := h.1; have h2 := h.2.1; have h3 := h.2.2.1; have h4 := h.2.2.2; omega)]
    refine aw_ret (fin_ret ?_); simp -implicitDefEqProofs [FinP, resV, resT, zT] <;> try rfl
  have hok : okS by' fr := ⟨by omega, by omega, by omega, by omega⟩
  repeat (first | refine aw_seq ?_ | refine aw_skip ?_ | refine aw_block ?_ | refine aw_exit ?_ | refine aw_cond rfl (fun _ => ?_) (fun hb => absurd hb (by decide)) | refine aw_cond rfl (fun hb => absurd hb (by decide)) (fun _ => ?_) | (refine aw_reg (fun K hK => ?_); simp -implicitDefEqProofs [f0, f1, b1, b0]; refine hK _ ?_) | (refine aw_drw mixd (fun K hK => ?_); simp -implicitDefEqProofs [f0, f1, b1, b0]; refine hK _ _ (by rfl) ?_))
  refine aw_reg (fun K hK => ?_); simp -implicitDefEqProofs [f0, f1, b1, b0]
  refine ar_call (call_box (walk_row (movV by' fr) _ (cMov by' fr) (mov_vis by' fr (by omega) (by omega) (by omega) (by omega)) (.mk x l) h64 false 0 (by omega) (by omega) hsz) 20 (by simp) (by simp) (vT_ren _) (box_ren _) rfl ?_)
  rw [wk_mov]
  simp -implicitDefEqProofs; refine hK _ ?_
  by_cases hl : lo by' fr (.mk x l) 0 = true
  · have e : shT by' fr (.mk x l) = (zT, false) := if_neg (fun h => by rw [hl] at h; cases h.2)
    rw [e]
    repeat (first | refine aw_seq ?_ | refine aw_skip ?_ | refine aw_block ?_ | refine aw_exit ?_ | refine aw_cond rfl (fun _ => ?_) (fun hb => absurd hb (by decide)) | refine aw_cond rfl (fun hb => absurd hb (by decide)) (fun _ => ?_) | (refine aw_reg (fun K hK => ?_); simp -implicitDefEqProofs [hl]; refine hK _ ?_) | (refine aw_drw mixd (fun K hK => ?_); simp -implicitDefEqProofs [hl]; refine hK _ _ (by rfl) ?_))
    refine aw_ret (fin_ret ?_); simp -implicitDefEqProofs [FinP, resV, resT, zT] <;> try rfl
  · have hl : lo by' fr (.mk x l) 0 = false := by simpa using hl
    have e : shT by' fr (.mk x l) = (sh by' fr (.mk x l) 0, true) := if_pos ⟨hok, hl⟩
    rw [e]
    repeat (first | refine aw_seq ?_ | refine aw_skip ?_ | refine aw_block ?_ | refine aw_exit ?_ | refine aw_cond rfl (fun _ => ?_) (fun hb => absurd hb (by decide)) | refine aw_cond rfl (fun hb => absurd hb (by decide)) (fun _ => ?_) | (refine aw_reg (fun K hK => ?_); simp -implicitDefEqProofs [hl]; refine hK _ ?_) | (refine aw_drw mixd (fun K hK => ?_); simp -implicitDefEqProofs [hl]; refine hK _ _ (by rfl) ?_))
    refine aw_ret (fin_ret ?_); simp -implicitDefEqProofs [FinP, resV, resT] <;> try rfl
end Go.Proofs.Ytjmjillfclfkgaa.am
