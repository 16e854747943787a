/-
  Layer 18: how faces go over: the program's.
-/
import Derived.Test.YthifckknijdgfaaVtFace
import Derived.Test.YthifckknijdgfaaRowTSame
import Derived.Test.YthifckknijdgfaaAm19
namespace Go.Proofs.Ythifckknijdgfaa.am
open Go.ChangeShapes Go.WideShapes Go.ChangeAt Go.RowKit
open vt
set_option linter.unusedVariables false
set_option linter.unusedSimpArgs false
theorem td_face : td Try.prog 52 = some ⟨true, 9, 120, [.lit (.string ⟨#[]⟩), .nilS, .lit (.int .i64 0), .lit (.int .i64 0), .lit (.string ⟨#[]⟩), .nilS, .lit (.int .i64 0), .lit (.int .i64 0), .lit (.int .i64 0)], [(0, 1, false), (1, 1, false), (2, 6, true), (8, 1, false)], .struct⟩ := Eq.trans (by kernel_rfl) (Eq.refl _)
theorem td_faces : td Try.prog 42 = some ⟨false, 1, 24, [.nilS], [], (.slice 52)⟩ := Eq.trans (by kernel_rfl) (Eq.refl _)
theorem td_pair : td Try.prog 54 = some ⟨true, 2, 16, [.lit (.int .i64 0), .lit (.int .i64 0)], [(0, 1, false), (1, 1, false)], .struct⟩ := Eq.trans (by kernel_rfl) (Eq.refl _)
theorem td_pairs : td Try.prog 43 = some ⟨false, 1, 24, [.nilS], [], (.slice 54)⟩ := Eq.trans (by kernel_rfl) (Eq.refl _)
theorem td_nam : td Try.prog 56 = some ⟨true, 2, 32, [.lit (.string ⟨#[]⟩), .lit (.string ⟨#[]⟩)], [(0, 1, false), (1, 1, false)], .struct⟩ := Eq.trans (by kernel_rfl) (Eq.refl _)
theorem td_nams : td Try.prog 45 = some ⟨false, 1, 24, [.nilS], [], (.slice 56)⟩ := Eq.trans (by kernel_rfl) (Eq.refl _)
attribute [simp] td_face td_faces td_pair td_pairs td_nam td_nams
theorem bx_ren (l : List PV) (ρ : Nat → Nat) : (AO.box (l.map .pv)).ren ρ = .box (l.map .pv) := by
  show AO.box ((l.map AC.pv).map (AC.ren ρ)) = _
  rw [ren_pure]
abbrev vP (x : Pr) : AV := .v (.agg ((pcc x).map .pv))
abbrev vPB (r : Pr × Bool) : AV := .tup [.agg ((pcc r.1).map .pv), .c (.pv (Bo r.2))]
noncomputable abbrev vFB (r : Fc × Bool) : AV := .tup [.agg ((fcc r.1).map .pv), .c (.pv (Bo r.2))]
noncomputable def zF : Fc := ⟨⟨#[]⟩, [], .mk ⟨0, 0, ⟨#[]⟩, 0, 0⟩ [], 0⟩
theorem vPB_ren (r : Pr × Bool) (ρ : Nat → Nat) : (vPB r).ren ρ = vPB r := rfl
theorem vFB_ren (r : Fc × Bool) (ρ : Nat → Nat) : (vFB r).ren ρ = vFB r := by
  show AV.tup [.agg (((fcc r.1).map AC.pv).map (AC.ren ρ)), _] = _
  rw [ren_pure]; rfl
def bx1 (z : Int) : AO := .box [.pv (I z)]
def bx2 (x : Pr) : AO := .box [.pv (I x.1), .pv (I x.2)]
theorem bx1_ren (z : Int) (ρ : Nat → Nat) : (bx1 z).ren ρ = bx1 z := rfl
theorem bx2_ren (x : Pr) (ρ : Nat → Nat) : (bx2 x).ren ρ = bx2 x := rfl
set_option maxRecDepth 100000 in
set_option maxHeartbeats 4000000 in
theorem over1_row (a : Int) (x : Pr) : Row Try.prog 112 [vP x, .v (.c (.ptr 0 0))] [bx1 a] (vB (atA a x)) [some (bx1 a)] := by
  refine row_of Try.func112 rfl rfl (Nat.le_of_ble_eq_true rfl) ?_
  obtain ⟨x1, x2⟩ := x
  repeat (first | refine aw_seq ?_ | refine aw_skip ?_ | refine aw_block ?_ | refine aw_exit ?_ | refine aw_cond rfl (fun _ => ?_) (fun hb => absurd hb (by decide)) | refine aw_cond rfl (fun hb => absurd hb (by decide)) (fun _ => ?_) | (refine aw_reg (fun K hK => ?_); simp -implicitDefEqProofs [bx1]; refine hK _ ?_) | (refine aw_drw mixd (fun K hK => ?_); simp -implicitDefEqProofs [bx1]; refine hK _ _ (by rfl) ?_) | fail)
  refine aw_ret (fin_box ?_); simp -implicitDefEqProofs [FinB, resV, resT, bx1, atA] <;> try rfl
set_option maxRecDepth 100000 in
set_option maxHeartbeats 4000000 in
theorem returns1_row (a : Int) (x : Pr) : Row Try.prog 115 [vP x, .v (.c (.ptr 0 0))] [bx1 a] (vB (atA a x)) [some (bx1 a)] := by
  refine row_of Try.func115 rfl rfl (Nat.le_of_ble_eq_true rfl) ?_
  obtain ⟨x1, x2⟩ := x
  repeat (first | refine aw_seq ?_ | refine aw_skip ?_ | refine aw_block ?_ | refine aw_exit ?_ | refine aw_cond rfl (fun _ => ?_) (fun hb => absurd hb (by decide)) | refine aw_cond rfl (fun hb => absurd hb (by decide)) (fun _ => ?_) | (refine aw_reg (fun K hK => ?_); simp -implicitDefEqProofs [bx1]; refine hK _ ?_) | (refine aw_drw mixd (fun K hK => ?_); simp -implicitDefEqProofs [bx1]; refine hK _ _ (by rfl) ?_) | fail)
  refine aw_ret (fin_box ?_); simp -implicitDefEqProofs [FinB, resV, resT, bx1, atA] <;> try rfl
set_option maxRecDepth 100000 in
set_option maxHeartbeats 4000000 in
theorem over2_row (y : Pr) (f : Fc) : Row Try.prog 114 [vF f, .v (.c (.ptr 0 0))] [bx2 y] (vB (atD y.2 f)) [some (bx2 y)] := by
  refine row_of Try.func114 rfl rfl (Nat.le_of_ble_eq_true rfl) ?_
  obtain ⟨fn, fp, ⟨frx, frl⟩, fd⟩ := f
  repeat (first | refine aw_seq ?_ | refine aw_skip ?_ | refine aw_block ?_ | refine aw_exit ?_ | refine aw_cond rfl (fun _ => ?_) (fun hb => absurd hb (by decide)) | refine aw_cond rfl (fun hb => absurd hb (by decide)) (fun _ => ?_) | (refine aw_reg (fun K hK => ?_); simp -implicitDefEqProofs [bx2]; refine hK _ ?_) | (refine aw_drw mixd (fun K hK => ?_); simp -implicitDefEqProofs [bx2]; refine hK _ _ (by rfl) ?_) | fail)
  refine aw_ret (fin_box ?_); simp -implicitDefEqProofs [FinB, resV, resT, bx2, atD] <;> try rfl
def fstP (o : Option Pr) : Pr × Bool := match o with | some x => (x, true) | none => ((0, 0), false)
noncomputable def fstF (o : Option Fc) : Fc × Bool := match o with | some x => (x, true) | none => (zF, false)
set_option maxRecDepth 100000 in
set_option maxHeartbeats 4000000 in
theorem firstP_row (g : Nat) (a : Int) (hg : ∀ x, Row Try.prog g [vP x, .v (.c (.ptr 0 0))] [bx1 a] (vB (atA a x)) [some (bx1 a)]) (l : List Pr) (hl : l.length ≤ 1000000) : Row Try.prog 111 [vPs l, .v (.c (.fn (.func g) [] [.ptr 0 0]))] [bx1 a] (vPB (fstP (onP l a))) [some (bx1 a)] := by
  refine row_of Try.func111 rfl rfl (Nat.le_of_ble_eq_true rfl) ?_
  repeat (first | refine aw_seq ?_ | refine aw_skip ?_ | refine aw_block ?_ | refine aw_exit ?_ | refine aw_cond rfl (fun _ => ?_) (fun hb => absurd hb (by decide)) | refine aw_cond rfl (fun hb => absurd hb (by decide)) (fun _ => ?_) | (refine aw_reg (fun K hK => ?_); simp -implicitDefEqProofs; refine hK _ ?_) | (refine aw_drw mixd (fun K hK => ?_); simp -implicitDefEqProofs; refine hK _ _ (by rfl) ?_) | fail)
  refine aw_lp (ι := Nat) (fun k => mkSt [(1, .v (.c (.fn (.func g) [] [.ptr 0 0]))), (4, .v (.c (.ptr 1 0))), (9, vPs l), (10, vI (l.length : Nat)), (11, vI (k : Nat))] [some (bx1 a), some (.box [.pv (I 0), .pv (I 0)])]) (fun k => k ≤ l.length ∧ (l.take k).all (fun y => !atA a y) = true) (fun k => l.length - k) 0 ⟨Nat.zero_le _, all_take0 _ _⟩ (cov_intro [0, 1] (by simp -implicitDefEqProofs [bx1]) (by simp -implicitDefEqProofs [bx1]) (by decide) rfl (by simp)) (fun Z hI k hk => ?_)
  obtain ⟨hk, hz⟩ := hk
  by_cases hkl : k < l.length; rotate_left
  · have : k = l.length := by omega
    subst this
    rw [show onP l a = none from find_end hz]
    repeat (first | refine aw_seq ?_ | refine aw_skip ?_ | refine aw_block ?_ | refine aw_exit ?_ | refine aw_cond rfl (fun _ => ?_) (fun hb => absurd hb (by decide)) | refine aw_cond rfl (fun hb => absurd hb (by decide)) (fun _ => ?_) | (refine aw_reg (fun K hK => ?_); simp -implicitDefEqProofs; refine hK _ ?_) | (refine aw_drw mixd (fun K hK => ?_); simp -implicitDefEqProofs; refine hK _ _ (by rfl) ?_) | fail)
    refine aw_ret (fin_box ?_); simp -implicitDefEqProofs [FinB, resV, resT, fstP, bx1] <;> try rfl
  obtain ⟨⟨y1, y2⟩, hy⟩ : ∃ y, l[k]? = some y := ⟨_, List.getElem?_eq_getElem hkl⟩
  have hy' := (List.getElem?_eq_some_iff.1 hy).2
  have hs := all_succ (f := fun y => !atA a y) hy
  have w2 : IntKind.i64.wrap ((k : Nat) + 1 : Int) = (k : Nat) + 1 := i64i _ (by omega) (by omega)
  repeat (first | refine aw_seq ?_ | refine aw_skip ?_ | refine aw_block ?_ | refine aw_exit ?_ | refine aw_cond rfl (fun _ => ?_) (fun hb => absurd hb (by decide)) | refine aw_cond rfl (fun hb => absurd hb (by decide)) (fun _ => ?_) | (refine aw_reg (fun K hK => ?_); simp -implicitDefEqProofs [hkl, hy, hy']; refine hK _ ?_) | (refine aw_drw mixd (fun K hK => ?_); simp -implicitDefEqProofs [hkl, hy, hy']; refine hK _ _ (by rfl) ?_) | fail)
  refine aw_reg (fun K hK => ?_); simp -implicitDefEqProofs
  refine ar_call (call_box (hg (y1, y2)) 0 (by simp) (by simp [bx1]) (fun _ => rfl) (bx1_ren a) rfl ?_)
  simp -implicitDefEqProofs; refine hK _ ?_
  refine aw_cond rfl (fun hb => ?_) (fun hb => ?_)
  · rw [show onP l a = some (y1, y2) from find_hit hz hy hb]
    repeat (first | refine aw_seq ?_ | refine aw_skip ?_ | refine aw_block ?_ | refine aw_exit ?_ | refine aw_cond rfl (fun _ => ?_) (fun hb => absurd hb (by decide)) | refine aw_cond rfl (fun hb => absurd hb (by decide)) (fun _ => ?_) | (refine aw_reg (fun K hK => ?_); simp -implicitDefEqProofs; refine hK _ ?_) | (refine aw_drw mixd (fun K hK => ?_); simp -implicitDefEqProofs; refine hK _ _ (by rfl) ?_) | fail)
    refine aw_ret (fin_box ?_); simp -implicitDefEqProofs [FinB, resV, resT, fstP, bx1] <;> try rfl
  · repeat (first | refine aw_seq ?_ | refine aw_skip ?_ | refine aw_block ?_ | refine aw_exit ?_ | refine aw_cond rfl (fun _ => ?_) (fun hb => absurd hb (by decide)) | refine aw_cond rfl (fun hb => absurd hb (by decide)) (fun _ => ?_) | (refine aw_reg (fun K hK => ?_); simp -implicitDefEqProofs [w2]; refine hK _ ?_) | (refine aw_drw mixd (fun K hK => ?_); simp -implicitDefEqProofs [w2]; refine hK _ _ (by rfl) ?_) | fail)
    refine ⟨k + 1, ⟨by omega, by rw [hs, hz, hb]; rfl⟩, (by dsimp only; omega), ?_⟩
    rw [hI]; exact cov_intro [0, 1] (by simp -implicitDefEqProofs [bx1]) (by simp -implicitDefEqProofs [bx1]) (by decide) rfl (by simp)
set_option maxRecDepth 100000 in
set_option maxHeartbeats 4000000 in
theorem firstF_row (y : Pr) (l : List Fc) (hl : l.length ≤ 1000000) : Row Try.prog 113 [vFs l, .v (.c (.fn (.func 114) [] [.ptr 0 0]))] [bx2 y] (vFB (fstF (findF l y.2))) [some (bx2 y)] := by
  refine row_of Try.func113 rfl rfl (Nat.le_of_ble_eq_true rfl) ?_
  repeat (first | refine aw_seq ?_ | refine aw_skip ?_ | refine aw_block ?_ | refine aw_exit ?_ | refine aw_cond rfl (fun _ => ?_) (fun hb => absurd hb (by decide)) | refine aw_cond rfl (fun hb => absurd hb (by decide)) (fun _ => ?_) | (refine aw_reg (fun K hK => ?_); simp -implicitDefEqProofs; refine hK _ ?_) | (refine aw_drw mixd (fun K hK => ?_); simp -implicitDefEqProofs; refine hK _ _ (by rfl) ?_) | fail)
  refine aw_lp (ι := Nat) (fun k => mkSt [(1, .v (.c (.fn (.func 114) [] [.ptr 0 0]))), (4, .v (.c (.ptr 1 0))), (9, vFs l), (10, vI (l.length : Nat)), (11, vI (k : Nat))] [some (bx2 y), some (.box [.pv (Sx ⟨#[]⟩), .pv .nilS, .pv (I 0), .pv (I 0), .pv (Sx ⟨#[]⟩), .pv .nilS, .pv (I 0), .pv (I 0), .pv (I 0)])]) (fun k => k ≤ l.length ∧ (l.take k).all (fun f => !atD y.2 f) = true) (fun k => l.length - k) 0 ⟨Nat.zero_le _, all_take0 _ _⟩ (cov_intro [0, 1] (by simp -implicitDefEqProofs [bx2]) (by simp -implicitDefEqProofs [bx2]) (by decide) rfl (by simp)) (fun Z hI k hk => ?_)
  obtain ⟨hk, hz⟩ := hk
  by_cases hkl : k < l.length; rotate_left
  · have : k = l.length := by omega
    subst this
    rw [show findF l y.2 = none from find_end hz]
    repeat (first | refine aw_seq ?_ | refine aw_skip ?_ | refine aw_block ?_ | refine aw_exit ?_ | refine aw_cond rfl (fun _ => ?_) (fun hb => absurd hb (by decide)) | refine aw_cond rfl (fun hb => absurd hb (by decide)) (fun _ => ?_) | (refine aw_reg (fun K hK => ?_); simp -implicitDefEqProofs; refine hK _ ?_) | (refine aw_drw mixd (fun K hK => ?_); simp -implicitDefEqProofs; refine hK _ _ (by rfl) ?_) | fail)
    refine aw_ret (fin_box ?_); simp -implicitDefEqProofs [FinB, resV, resT, fstF, zF, bx2] <;> try rfl
  obtain ⟨⟨fn, fp, ⟨frx, frl⟩, fd⟩, hy⟩ : ∃ y, l[k]? = some y := ⟨_, List.getElem?_eq_getElem hkl⟩
  have hy' := (List.getElem?_eq_some_iff.1 hy).2
  have hs := all_succ (f := fun f => !atD y.2 f) hy
  have w2 : IntKind.i64.wrap ((k : Nat) + 1 : Int) = (k : Nat) + 1 := i64i _ (by omega) (by omega)
  repeat (first | refine aw_seq ?_ | refine aw_skip ?_ | refine aw_block ?_ | refine aw_exit ?_ | refine aw_cond rfl (fun _ => ?_) (fun hb => absurd hb (by decide)) | refine aw_cond rfl (fun hb => absurd hb (by decide)) (fun _ => ?_) | (refine aw_reg (fun K hK => ?_); simp -implicitDefEqProofs [hkl, hy, hy']; refine hK _ ?_) | (refine aw_drw mixd (fun K hK => ?_); simp -implicitDefEqProofs [hkl, hy, hy']; refine hK _ _ (by rfl) ?_) | fail)
  refine aw_reg (fun K hK => ?_); simp -implicitDefEqProofs
  refine ar_call (call_box (over2_row y ⟨fn, fp, .mk frx frl, fd⟩) 0 (by simp) (by simp [bx2]) (fun _ => rfl) (bx2_ren y) rfl ?_)
  simp -implicitDefEqProofs; refine hK _ ?_
  refine aw_cond rfl (fun hb => ?_) (fun hb => ?_)
  · rw [show findF l y.2 = some ⟨fn, fp, .mk frx frl, fd⟩ from find_hit hz hy hb]
    repeat (first | refine aw_seq ?_ | refine aw_skip ?_ | refine aw_block ?_ | refine aw_exit ?_ | refine aw_cond rfl (fun _ => ?_) (fun hb => absurd hb (by decide)) | refine aw_cond rfl (fun hb => absurd hb (by decide)) (fun _ => ?_) | (refine aw_reg (fun K hK => ?_); simp -implicitDefEqProofs; refine hK _ ?_) | (refine aw_drw mixd (fun K hK => ?_); simp -implicitDefEqProofs; refine hK _ _ (by rfl) ?_) | fail)
    refine aw_ret (fin_box ?_); simp -implicitDefEqProofs [FinB, resV, resT, fstF, bx2] <;> try rfl
  · repeat (first | refine aw_seq ?_ | refine aw_skip ?_ | refine aw_block ?_ | refine aw_exit ?_ | refine aw_cond rfl (fun _ => ?_) (fun hb => absurd hb (by decide)) | refine aw_cond rfl (fun hb => absurd hb (by decide)) (fun _ => ?_) | (refine aw_reg (fun K hK => ?_); simp -implicitDefEqProofs [w2]; refine hK _ ?_) | (refine aw_drw mixd (fun K hK => ?_); simp -implicitDefEqProofs [w2]; refine hK _ _ (by rfl) ?_) | fail)
    refine ⟨k + 1, ⟨by omega, by rw [hs, hz, hb]; rfl⟩, (by dsimp only; omega), ?_⟩
    rw [hI]; exact cov_intro [0, 1] (by simp -implicitDefEqProofs [bx2]) (by simp -implicitDefEqProofs [bx2]) (by decide) rfl (by simp)
end Go.Proofs.Ythifckknijdgfaa.am
