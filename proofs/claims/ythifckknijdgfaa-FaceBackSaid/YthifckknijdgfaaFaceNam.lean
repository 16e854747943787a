/-
  Layer 18: how faces go over: the program's Names.
-/
import Derived.Test.YthifckknijdgfaaFaceRow
namespace Go.Proofs.Ythifckknijdgfaa.am
open Go.ChangeShapes Go.WideShapes Go.ChangeAt Go.RowKit
open vt
set_option linter.unusedVariables false
set_option linter.unusedSimpArgs false
noncomputable def overT (q : List Fc) (prs : List Pr) (a : Int) : Fc × Bool := match onP prs a with | none => (zF, false) | some x => fstF (findF q x.2)
set_option maxRecDepth 100000 in
set_option maxHeartbeats 4000000 in
theorem over_row (a : Int) (q : List Fc) (prs : List Pr) (hq : q.length ≤ 1000000) (hp : prs.length ≤ 1000000) : Row Try.prog 63 [vI a, vFs q, vPs prs] [] (vFB (overT q prs a)) [] := by
  have h1 := firstP_row 112 a (over1_row a) prs hp
  cases h : onP prs a with
  | none =>
    rw [show overT q prs a = (zF, false) by unfold overT; rw [h]]
    rw [h] at h1
    refine row_of Try.func63 rfl rfl (Nat.le_of_ble_eq_true rfl) ?_
    repeat (first | refine aw_seq ?_ | refine aw_skip ?_ | refine aw_block ?_ | refine aw_exit ?_ | refine aw_cond rfl (fun _ => ?_) (fun hb => absurd hb (by decide)) | refine aw_cond rfl (fun hb => absurd hb (by decide)) (fun _ => ?_) | (refine aw_reg (fun K hK => ?_); simp -implicitDefEqProofs; refine hK _ ?_) | (refine aw_drw mixd (fun K hK => ?_); simp -implicitDefEqProofs; refine hK _ _ (by rfl) ?_) | fail)
    refine aw_reg (fun K hK => ?_); simp -implicitDefEqProofs
    refine ar_call (call_box h1 0 (by simp) (by simp [bx1]) (vPB_ren _) (bx1_ren a) rfl ?_)
    simp -implicitDefEqProofs [fstP]; refine hK _ ?_
    repeat (first | refine aw_seq ?_ | refine aw_skip ?_ | refine aw_block ?_ | refine aw_exit ?_ | refine aw_cond rfl (fun _ => ?_) (fun hb => absurd hb (by decide)) | refine aw_cond rfl (fun hb => absurd hb (by decide)) (fun _ => ?_) | (refine aw_reg (fun K hK => ?_); simp -implicitDefEqProofs; refine hK _ ?_) | (refine aw_drw mixd (fun K hK => ?_); simp -implicitDefEqProofs; refine hK _ _ (by rfl) ?_) | fail)
    refine aw_ret (fin_ret ?_); simp -implicitDefEqProofs [FinP, resV, resT, zF] <;> try rfl
  | some x =>
    obtain ⟨x1, x2⟩ := x
    have h2 := firstF_row (x1, x2) q hq
    rw [show overT q prs a = fstF (findF q x2) by unfold overT; rw [h]]
    rw [h] at h1
    obtain ⟨⟨⟨fn, fp, ⟨frx, frl⟩, fd⟩, b⟩, hr⟩ : ∃ r, fstF (findF q x2) = r := ⟨_, rfl⟩
    rw [show fstF (findF q (x1, x2).2) = _ from hr] at h2
    rw [hr]
    refine row_of Try.func63 rfl rfl (Nat.le_of_ble_eq_true rfl) ?_
    repeat (first | refine aw_seq ?_ | refine aw_skip ?_ | refine aw_block ?_ | refine aw_exit ?_ | refine aw_cond rfl (fun _ => ?_) (fun hb => absurd hb (by decide)) | refine aw_cond rfl (fun hb => absurd hb (by decide)) (fun _ => ?_) | (refine aw_reg (fun K hK => ?_); simp -implicitDefEqProofs; refine hK _ ?_) | (refine aw_drw mixd (fun K hK => ?_); simp -implicitDefEqProofs; refine hK _ _ (by rfl) ?_) | fail)
    refine aw_reg (fun K hK => ?_); simp -implicitDefEqProofs
    refine ar_call (call_box h1 0 (by simp) (by simp [bx1]) (vPB_ren _) (bx1_ren a) rfl ?_)
    simp -implicitDefEqProofs [fstP]; refine hK _ ?_
    repeat (first | refine aw_seq ?_ | refine aw_skip ?_ | refine aw_block ?_ | refine aw_exit ?_ | refine aw_cond rfl (fun _ => ?_) (fun hb => absurd hb (by decide)) | refine aw_cond rfl (fun hb => absurd hb (by decide)) (fun _ => ?_) | (refine aw_reg (fun K hK => ?_); simp -implicitDefEqProofs; refine hK _ ?_) | (refine aw_drw mixd (fun K hK => ?_); simp -implicitDefEqProofs; refine hK _ _ (by rfl) ?_) | fail)
    refine aw_reg (fun K hK => ?_); simp -implicitDefEqProofs
    refine ar_call (call_box h2 16 (by simp) (by simp [bx2]) (vFB_ren _) (bx2_ren _) rfl ?_)
    simp -implicitDefEqProofs; refine hK _ ?_
    repeat (first | refine aw_seq ?_ | refine aw_skip ?_ | refine aw_block ?_ | refine aw_exit ?_ | refine aw_cond rfl (fun _ => ?_) (fun hb => absurd hb (by decide)) | refine aw_cond rfl (fun hb => absurd hb (by decide)) (fun _ => ?_) | (refine aw_reg (fun K hK => ?_); simp -implicitDefEqProofs; refine hK _ ?_) | (refine aw_drw mixd (fun K hK => ?_); simp -implicitDefEqProofs; refine hK _ _ (by rfl) ?_) | fail)
    refine aw_ret (fin_ret ?_); simp -implicitDefEqProofs [FinP, resV, resT] <;> try rfl
noncomputable def backT (prs : List Pr) (a b : Int) : Bool := match onP prs b with | none => false | some z => decide (z.2 = a)
set_option maxRecDepth 100000 in
set_option maxHeartbeats 4000000 in
theorem returns_row (a b : Int) (prs : List Pr) (hp : prs.length ≤ 1000000) : Row Try.prog 65 [vI a, vI b, vPs prs] [] (vB (backT prs a b)) [] := by
  have h1 := firstP_row 115 b (returns1_row b) prs hp
  cases h : onP prs b with
  | none =>
    rw [show backT prs a b = false by unfold backT; rw [h]]
    rw [h] at h1
    refine row_of Try.func65 rfl rfl (Nat.le_of_ble_eq_true rfl) ?_
    repeat (first | refine aw_seq ?_ | refine aw_skip ?_ | refine aw_block ?_ | refine aw_exit ?_ | refine aw_cond rfl (fun _ => ?_) (fun hb => absurd hb (by decide)) | refine aw_cond rfl (fun hb => absurd hb (by decide)) (fun _ => ?_) | (refine aw_reg (fun K hK => ?_); simp -implicitDefEqProofs; refine hK _ ?_) | (refine aw_drw mixd (fun K hK => ?_); simp -implicitDefEqProofs; refine hK _ _ (by rfl) ?_) | fail)
    refine aw_reg (fun K hK => ?_); simp -implicitDefEqProofs
    refine ar_call (call_box h1 0 (by simp) (by simp [bx1]) (vPB_ren _) (bx1_ren b) rfl ?_)
    simp -implicitDefEqProofs [fstP]; refine hK _ ?_
    repeat (first | refine aw_seq ?_ | refine aw_skip ?_ | refine aw_block ?_ | refine aw_exit ?_ | refine aw_cond rfl (fun _ => ?_) (fun hb => absurd hb (by decide)) | refine aw_cond rfl (fun hb => absurd hb (by decide)) (fun _ => ?_) | (refine aw_reg (fun K hK => ?_); simp -implicitDefEqProofs; refine hK _ ?_) | (refine aw_drw mixd (fun K hK => ?_); simp -implicitDefEqProofs; refine hK _ _ (by rfl) ?_) | fail)
    refine aw_ret (fin_ret ?_); simp -implicitDefEqProofs [FinP, resV, resT] <;> try rfl
  | some x =>
    obtain ⟨x1, x2⟩ := x
    rw [show backT prs a b = decide (x2 = a) by unfold backT; rw [h]]
    rw [h] at h1
    refine row_of Try.func65 rfl rfl (Nat.le_of_ble_eq_true rfl) ?_
    repeat (first | refine aw_seq ?_ | refine aw_skip ?_ | refine aw_block ?_ | refine aw_exit ?_ | refine aw_cond rfl (fun _ => ?_) (fun hb => absurd hb (by decide)) | refine aw_cond rfl (fun hb => absurd hb (by decide)) (fun _ => ?_) | (refine aw_reg (fun K hK => ?_); simp -implicitDefEqProofs; refine hK _ ?_) | (refine aw_drw mixd (fun K hK => ?_); simp -implicitDefEqProofs; refine hK _ _ (by rfl) ?_) | fail)
    refine aw_reg (fun K hK => ?_); simp -implicitDefEqProofs
    refine ar_call (call_box h1 0 (by simp) (by simp [bx1]) (vPB_ren _) (bx1_ren b) rfl ?_)
    simp -implicitDefEqProofs [fstP]; refine hK _ ?_
    repeat (first | refine aw_seq ?_ | refine aw_skip ?_ | refine aw_block ?_ | refine aw_exit ?_ | refine aw_cond rfl (fun _ => ?_) (fun hb => absurd hb (by decide)) | refine aw_cond rfl (fun hb => absurd hb (by decide)) (fun _ => ?_) | (refine aw_reg (fun K hK => ?_); simp -implicitDefEqProofs; refine hK _ ?_) | (refine aw_drw mixd (fun K hK => ?_); simp -implicitDefEqProofs; refine hK _ _ (by rfl) ?_) | fail)
    refine aw_ret (fin_ret ?_); simp -implicitDefEqProofs [FinP, resV, resT] <;> try rfl
set_option maxRecDepth 100000 in
set_option maxHeartbeats 4000000 in
theorem turned_row (prs : List Pr) (hp : prs.length ≤ 1000000) : Row Try.prog 66 [vPs prs] [] (vPs (turnP prs)) [] := by
  refine row_of Try.func66 rfl rfl (Nat.le_of_ble_eq_true rfl) ?_
  repeat (first | refine aw_seq ?_ | refine aw_skip ?_ | refine aw_block ?_ | refine aw_exit ?_ | refine aw_cond rfl (fun _ => ?_) (fun hb => absurd hb (by decide)) | refine aw_cond rfl (fun hb => absurd hb (by decide)) (fun _ => ?_) | (refine aw_reg (fun K hK => ?_); simp -implicitDefEqProofs; refine hK _ ?_) | (refine aw_drw mixd (fun K hK => ?_); simp -implicitDefEqProofs; refine hK _ _ (by rfl) ?_) | fail)
  refine aw_nil 3 54 2 (by simp) ?_
  refine aw_lp (ι := Nat) (fun k => mkSt [(3, .v (.c (.row 0 2 ((turnP (prs.take k)).map pcc)))), (6, vPs prs), (7, vI (prs.length : Nat)), (8, vI (k : Nat))] [some (.row 54 2)]) (fun k => k ≤ prs.length) (fun k => prs.length - k) 0 (Nat.zero_le _) (by unfold St.nil; exact cov_intro [5] (by simp -implicitDefEqProofs [turnP]) (by simp -implicitDefEqProofs [turnP]) (by decide) rfl (by simp)) (fun Z hI k hk => ?_)
  by_cases hkl : k < prs.length; rotate_left
  · have : k = prs.length := by omega
    subst this
    rw [List.take_length]
    repeat (first | refine aw_seq ?_ | refine aw_skip ?_ | refine aw_block ?_ | refine aw_exit ?_ | refine aw_cond rfl (fun _ => ?_) (fun hb => absurd hb (by decide)) | refine aw_cond rfl (fun hb => absurd hb (by decide)) (fun _ => ?_) | (refine aw_reg (fun K hK => ?_); simp -implicitDefEqProofs; refine hK _ ?_) | (refine aw_drw mixd (fun K hK => ?_); simp -implicitDefEqProofs; refine hK _ _ (by rfl) ?_) | fail)
    refine aw_ret (fin_ret ?_); simp -implicitDefEqProofs [FinP, resV, resT] <;> try rfl
  obtain ⟨⟨y1, y2⟩, hy⟩ : ∃ y, prs[k]? = some y := ⟨_, List.getElem?_eq_getElem hkl⟩
  have hy' := (List.getElem?_eq_some_iff.1 hy).2
  have w2 : IntKind.i64.wrap ((k : Nat) + 1 : Int) = (k : Nat) + 1 := i64i _ (by omega) (by omega)
  have hs : turnP (prs.take (k + 1)) = turnP (prs.take k) ++ [(y2, y1)] := by unfold turnP; rw [List.take_add_one, hy]; simp
  obtain ⟨L, hL⟩ : ∃ L, turnP (prs.take k) = L := ⟨_, rfl⟩
  have hLl : L.length = k := by rw [← hL]; unfold turnP; rw [List.length_map, List.length_take]; omega
  rw [hL] at hs ⊢
  have b1 : (k + 1) * 16 ≤ 140737488355328 := by omega
  have b2 : k + 1 ≤ 140737488355328 := by omega
  repeat (first | refine aw_seq ?_ | refine aw_skip ?_ | refine aw_block ?_ | refine aw_exit ?_ | refine aw_cond rfl (fun _ => ?_) (fun hb => absurd hb (by decide)) | refine aw_cond rfl (fun hb => absurd hb (by decide)) (fun _ => ?_) | (refine aw_reg (fun K hK => ?_); simp -implicitDefEqProofs [hkl, hy, hy', hLl, b1, b2, w2]; refine hK _ ?_) | (refine aw_drw mixd (fun K hK => ?_); simp -implicitDefEqProofs [hkl, hy, hy', hLl, b1, b2, w2]; refine hK _ _ (by rfl) ?_) | fail)
  refine ⟨k + 1, by omega, (by dsimp only; omega), ?_⟩; rw [hI]; exact cov_intro [13] (by simp -implicitDefEqProofs [hs]) (by simp -implicitDefEqProofs [hs]) (by decide) rfl (by simp)
def okF (f : Fc) : Prop := f.ps.length ≤ 1000000 ∧ (∀ t ∈ f.ps, t.size ≤ 1000000) ∧ f.ret.size ≤ 1000000
set_option maxRecDepth 100000 in
set_option maxHeartbeats 4000000 in
theorem alike_row (f g : Fc) (hf : okF f) (hg : okF g) : Row Try.prog 64 [vF f, vF g] [] (vB (typesF f g)) [] := by
  obtain ⟨fn, fp, ⟨frx, frl⟩, fd⟩ := f
  obtain ⟨gn, gp, ⟨grx, grl⟩, gd⟩ := g
  obtain ⟨f1, f2, f3⟩ := hf
  obtain ⟨g1, g2, g3⟩ := hg
  dsimp only at f1 f2 f3 g1 g2 g3
  have h := tsame_row (.mk frx frl) f3 (.mk grx grl) g3
  refine row_of Try.func64 rfl rfl (Nat.le_of_ble_eq_true rfl) ?_
  by_cases hl : fp.length = gp.length; rotate_left
  · have hl' : ¬ (fp.length : Int) = gp.length := by omega
    repeat (first | refine aw_seq ?_ | refine aw_skip ?_ | refine aw_block ?_ | refine aw_exit ?_ | refine aw_cond rfl (fun _ => ?_) (fun hb => absurd hb (by decide)) | refine aw_cond rfl (fun hb => absurd hb (by decide)) (fun _ => ?_) | (refine aw_reg (fun K hK => ?_); simp -implicitDefEqProofs [hl, hl']; refine hK _ ?_) | (refine aw_drw mixd (fun K hK => ?_); simp -implicitDefEqProofs [hl, hl']; refine hK _ _ (by rfl) ?_) | fail)
    refine aw_ret (fin_ret ?_); simp -implicitDefEqProofs [FinP, resV, resT, typesF, hl] <;> try rfl
  by_cases hr : same (.mk frx frl) (.mk grx grl) = true; rotate_left
  · have hr : same (.mk frx frl) (.mk grx grl) = false := by simpa using hr
    rw [hr] at h
    repeat' (first | refine aw_seq ?_ | refine aw_skip ?_ | refine aw_block ?_ | refine aw_exit ?_ | refine aw_cond rfl (fun _ => ?_) (fun hb => absurd hb (by decide)) | refine aw_cond rfl (fun hb => absurd hb (by decide)) (fun _ => ?_) | (refine aw_reg (fun K hK => ?_); simp -implicitDefEqProofs [hl]) | (refine aw_drw mixd (fun K hK => ?_); simp -implicitDefEqProofs [hl]) | refine hK _ ?_ | refine hK _ _ (by rfl) ?_ | (refine ar_call (call_pure (h) ?_ ?_ rfl ?_); (focus (simp [*]; done)); (focus (first | exact (fun _ => rfl) | exact (vT_ren _) | exact (vLs_ren _) | exact (vTB_ren _) | (intro ρ; simp [AV.ren, AT.ren, AC.ren]; done))); simp -implicitDefEqProofs [hl]) | (refine ard_call (calld_pure (h) ?_ ?_ rfl ?_); (focus (simp [*]; done)); (focus (first | exact (fun _ => rfl) | exact (vT_ren _) | exact (vLs_ren _) | exact (vTB_ren _) | (intro ρ; simp [AV.ren, AT.ren, AC.ren]; done))); simp -implicitDefEqProofs [hl]) | fail)
    refine aw_ret (fin_ret ?_); simp -implicitDefEqProofs [FinP, resV, resT, typesF, hr] <;> try rfl
  rw [hr] at h
  repeat' (first | refine aw_seq ?_ | refine aw_skip ?_ | refine aw_block ?_ | refine aw_exit ?_ | refine aw_cond rfl (fun _ => ?_) (fun hb => absurd hb (by decide)) | refine aw_cond rfl (fun hb => absurd hb (by decide)) (fun _ => ?_) | (refine aw_reg (fun K hK => ?_); simp -implicitDefEqProofs [hl]) | (refine aw_drw mixd (fun K hK => ?_); simp -implicitDefEqProofs [hl]) | refine hK _ ?_ | refine hK _ _ (by rfl) ?_ | (refine ar_call (call_pure (h) ?_ ?_ rfl ?_); (focus (simp [*]; done)); (focus (first | exact (fun _ => rfl) | exact (vT_ren _) | exact (vLs_ren _) | exact (vTB_ren _) | (intro ρ; simp [AV.ren, AT.ren, AC.ren]; done))); simp -implicitDefEqProofs [hl]) | (refine ard_call (calld_pure (h) ?_ ?_ rfl ?_); (focus (simp [*]; done)); (focus (first | exact (fun _ => rfl) | exact (vT_ren _) | exact (vLs_ren _) | exact (vTB_ren _) | (intro ρ; simp [AV.ren, AT.ren, AC.ren]; done))); simp -implicitDefEqProofs [hl]) | fail)
  refine aw_lp (ι := Nat) (fun k => mkSt [(2, .v (.c (.ptr 0 0))), (3, .v (.c (.ptr 1 0))), (23, vI (fp.length : Nat)), (24, vI (k : Nat))] [some (.box ((fcc ⟨fn, fp, .mk frx frl, fd⟩).map .pv)), some (.box ((fcc ⟨gn, gp, .mk grx grl, gd⟩).map .pv))]) (fun k => k ≤ fp.length ∧ zipA same fp gp k = true) (fun k => fp.length - k) 0 ⟨Nat.zero_le _, zipA_zero _ _ _⟩ (cov_intro [0, 1] (by simp -implicitDefEqProofs [hl]) (by simp -implicitDefEqProofs [hl]) (by decide) rfl (by simp)) (fun Z hI k hkz => ?_)
  obtain ⟨hkl', hz⟩ := hkz
  by_cases hkl : k < fp.length; rotate_left
  · have : k = fp.length := by omega
    subst this
    have e : typesF ⟨fn, fp, .mk frx frl, fd⟩ ⟨gn, gp, .mk grx grl, gd⟩ = true := by unfold typesF; rw [hz, hr]; simp [hl]
    rw [e]
    repeat (first | refine aw_seq ?_ | refine aw_skip ?_ | refine aw_block ?_ | refine aw_exit ?_ | refine aw_cond rfl (fun _ => ?_) (fun hb => absurd hb (by decide)) | refine aw_cond rfl (fun hb => absurd hb (by decide)) (fun _ => ?_) | (refine aw_reg (fun K hK => ?_); simp -implicitDefEqProofs; refine hK _ ?_) | (refine aw_drw mixd (fun K hK => ?_); simp -implicitDefEqProofs; refine hK _ _ (by rfl) ?_) | fail)
    refine aw_ret (fin_ret ?_); simp -implicitDefEqProofs [FinP, resV, resT] <;> try rfl
  have hkm : k < gp.length := by omega
  obtain ⟨⟨ax, al⟩, ha⟩ : ∃ a, fp[k]? = some a := ⟨_, List.getElem?_eq_getElem hkl⟩
  obtain ⟨⟨bx, bl⟩, hb⟩ : ∃ a, gp[k]? = some a := ⟨_, List.getElem?_eq_getElem hkm⟩
  have ha' := (List.getElem?_eq_some_iff.1 ha).2
  have hb' := (List.getElem?_eq_some_iff.1 hb).2
  have w2 : IntKind.i64.wrap ((k : Nat) + 1 : Int) = (k : Nat) + 1 := i64i _ (by omega) (by omega)
  have hzs := zipA_succ (f := same) ha hb
  have hc := tsame_row (.mk ax al) (f2 _ (List.mem_of_getElem? ha)) (.mk bx bl) (g2 _ (List.mem_of_getElem? hb))
  by_cases hs : same (.mk ax al) (.mk bx bl) = true
  · rw [hs] at hc
    clear h
    repeat' (first | refine aw_seq ?_ | refine aw_skip ?_ | refine aw_block ?_ | refine aw_exit ?_ | refine aw_cond rfl (fun _ => ?_) (fun hb => absurd hb (by decide)) | refine aw_cond rfl (fun hb => absurd hb (by decide)) (fun _ => ?_) | (refine aw_reg (fun K hK => ?_); simp -implicitDefEqProofs [hkl, hkm, ha, ha', hb, hb', w2]) | (refine aw_drw mixd (fun K hK => ?_); simp -implicitDefEqProofs [hkl, hkm, ha, ha', hb, hb', w2]) | refine hK _ ?_ | refine hK _ _ (by rfl) ?_ | (refine ar_call (call_pure (hc) ?_ ?_ rfl ?_); (focus (simp [*]; done)); (focus (first | exact (fun _ => rfl) | exact (vT_ren _) | exact (vLs_ren _) | exact (vTB_ren _) | (intro ρ; simp [AV.ren, AT.ren, AC.ren]; done))); simp -implicitDefEqProofs [hkl, hkm, ha, ha', hb, hb', w2]) | (refine ard_call (calld_pure (hc) ?_ ?_ rfl ?_); (focus (simp [*]; done)); (focus (first | exact (fun _ => rfl) | exact (vT_ren _) | exact (vLs_ren _) | exact (vTB_ren _) | (intro ρ; simp [AV.ren, AT.ren, AC.ren]; done))); simp -implicitDefEqProofs [hkl, hkm, ha, ha', hb, hb', w2]) | fail)
    refine ⟨k + 1, ⟨by omega, by rw [hzs, hz, hs]; rfl⟩, (by dsimp only; omega), ?_⟩
    rw [hI]; exact cov_intro [0, 1] (by simp -implicitDefEqProofs) (by simp -implicitDefEqProofs) (by decide) rfl (by simp)
  · have hs : same (.mk ax al) (.mk bx bl) = false := by simpa using hs
    rw [hs] at hc
    clear h
    repeat' (first | refine aw_seq ?_ | refine aw_skip ?_ | refine aw_block ?_ | refine aw_exit ?_ | refine aw_cond rfl (fun _ => ?_) (fun hb => absurd hb (by decide)) | refine aw_cond rfl (fun hb => absurd hb (by decide)) (fun _ => ?_) | (refine aw_reg (fun K hK => ?_); simp -implicitDefEqProofs [hkl, hkm, ha, ha', hb, hb', w2]) | (refine aw_drw mixd (fun K hK => ?_); simp -implicitDefEqProofs [hkl, hkm, ha, ha', hb, hb', w2]) | refine hK _ ?_ | refine hK _ _ (by rfl) ?_ | (refine ar_call (call_pure (hc) ?_ ?_ rfl ?_); (focus (simp [*]; done)); (focus (first | exact (fun _ => rfl) | exact (vT_ren _) | exact (vLs_ren _) | exact (vTB_ren _) | (intro ρ; simp [AV.ren, AT.ren, AC.ren]; done))); simp -implicitDefEqProofs [hkl, hkm, ha, ha', hb, hb', w2]) | (refine ard_call (calld_pure (hc) ?_ ?_ rfl ?_); (focus (simp [*]; done)); (focus (first | exact (fun _ => rfl) | exact (vT_ren _) | exact (vLs_ren _) | exact (vTB_ren _) | (intro ρ; simp [AV.ren, AT.ren, AC.ren]; done))); simp -implicitDefEqProofs [hkl, hkm, ha, ha', hb, hb', w2]) | fail)
    have e : zipA same fp gp fp.length = false := by
      have := zipA_mono (fp.length - (k + 1)) (show zipA same fp gp (k + 1) = false by rw [hzs, hz, hs]; rfl)
      rwa [show k + 1 + (fp.length - (k + 1)) = fp.length by omega] at this
    refine aw_ret (fin_ret ?_); simp -implicitDefEqProofs [FinP, resV, resT, typesF, e] <;> try rfl

/-! Names -/
abbrev vNB (r : List Nn × Bool) : AV := .tup [.c (.pv (.sl 2 (r.1.map ncc))), .c (.pv (Bo r.2))]
theorem vNB_ren (r : List Nn × Bool) (ρ : Nat → Nat) : (vNB r).ren ρ = vNB r := rfl
theorem typesF_symm (f g : Fc) : typesF f g = typesF g f := by
  unfold typesF
  by_cases h : f.ps.length = g.ps.length
  · rw [same_symm f.ret g.ret, h]
    congr 1
    have key : ∀ k, k ≤ g.ps.length → zipA same f.ps g.ps k = zipA same g.ps f.ps k := fun k => by
      induction k with
      | zero => intro _; simp [zipA]
      | succ k ihk =>
        intro hk
        have h1 : f.ps[k]? = some (f.ps[k]'(by omega)) := List.getElem?_eq_getElem _
        have h2 : g.ps[k]? = some (g.ps[k]'(by omega)) := List.getElem?_eq_getElem _
        rw [zipA_succ h1 h2, zipA_succ h2 h1, ihk (by omega), same_symm]
    exact key _ (Nat.le_refl _)
  · have h' : ¬ g.ps.length = f.ps.length := fun e => h e.symm
    simp [h, h']
/-- What the program asks of a face: does it go over. -/
theorem goes_over {q : List Fc} {prs : List Pr} {f : Fc} : goesF q prs f = ((overT q prs f.decl).2 && typesF f (overT q prs f.decl).1 && backT (turnP prs) f.decl (overT q prs f.decl).1.decl) := by
  unfold goesF overT
  cases h : onP prs f.decl with
  | none => rfl
  | some x =>
    dsimp only
    unfold fstF
    cases hg : findF q x.2 with
    | none => rfl
    | some g =>
      have hd : g.decl = x.2 := by
        have := List.find?_some hg
        simpa [atD] using this
      dsimp only
      rw [hd]
      unfold backT
      obtain ⟨z, hz⟩ := back_some h
      rw [hz, Bool.true_and, Bool.and_comm]
theorem name_over {q : List Fc} {prs : List Pr} {f : Fc} (h : goesF q prs f = true) : nameF q prs f = (f.name, (overT q prs f.decl).1.name) := by
  unfold goesF at h
  unfold nameF overT
  cases h1 : onP prs f.decl with
  | none => rw [h1] at h; cases h
  | some x =>
    rw [h1] at h
    dsimp only at h ⊢
    cases hg : findF q x.2 with
    | none => rw [hg] at h; cases h
    | some g => rfl
theorem okF_over {q : List Fc} {prs : List Pr} {a : Int} (hq : ∀ f ∈ q, okF f) : okF (overT q prs a).1 := by
  have hz : okF zF := ⟨by simp [zF], by simp [zF], by simp [zF, Tr.size_mk]⟩
  unfold overT
  cases h1 : onP prs a with
  | none => exact hz
  | some x =>
    dsimp only
    cases hg : findF q x.2 with
    | none => exact hz
    | some g => exact hq g (List.mem_of_find?_eq_some hg)
set_option maxRecDepth 100000 in
set_option maxHeartbeats 4000000 in
theorem names_row (p q : List Fc) (prs : List Pr) (hp : p.length ≤ 1000000) (hq : q.length ≤ 1000000) (hr : prs.length ≤ 1000000) (kp : ∀ f ∈ p, okF f) (kq : ∀ f ∈ q, okF f) : Row Try.prog 23 [vFs p, vFs q, vPs prs] [] (vNB (namesF p q prs)) [] := by
  have ht := turned_row prs hr
  refine row_of Try.func23 rfl rfl (Nat.le_of_ble_eq_true rfl) ?_
  repeat (first | refine aw_seq ?_ | refine aw_skip ?_ | refine aw_block ?_ | refine aw_exit ?_ | refine aw_cond rfl (fun _ => ?_) (fun hb => absurd hb (by decide)) | refine aw_cond rfl (fun hb => absurd hb (by decide)) (fun _ => ?_) | (refine aw_reg (fun K hK => ?_); simp -implicitDefEqProofs; refine hK _ ?_) | (refine aw_drw mixd (fun K hK => ?_); simp -implicitDefEqProofs; refine hK _ _ (by rfl) ?_) | fail)
  refine aw_nil 8 56 2 (by simp) ?_
  refine aw_lp (ι := Nat) (fun k => mkSt [(0, vFs p), (1, vFs q), (2, vPs prs), (8, .v (.c (.row 0 2 (((p.take k).map (nameF q prs)).map ncc)))), (17, vFs p), (18, vI (p.length : Nat)), (19, vI (k : Nat))] [some (.row 56 2)]) (fun k => k ≤ p.length ∧ (p.take k).all (goesF q prs) = true) (fun k => p.length - k) 0 ⟨Nat.zero_le _, all_take0 _ _⟩ (by unfold St.nil; exact cov_intro [6] (by simp -implicitDefEqProofs) (by simp -implicitDefEqProofs) (by decide) rfl (by simp)) (fun Z hI k hk => ?_)
  obtain ⟨hk, hz⟩ := hk
  by_cases hkl : k < p.length
  · obtain ⟨f, hy⟩ : ∃ y, p[k]? = some y := ⟨_, List.getElem?_eq_getElem hkl⟩
    have hy' := (List.getElem?_eq_some_iff.1 hy).2
    have hs := all_succ (f := goesF q prs) hy
    have hn : (p.take (k + 1)).map (nameF q prs) = (p.take k).map (nameF q prs) ++ [nameF q prs f] := by rw [List.take_add_one, hy]; simp
    have w2 : IntKind.i64.wrap ((k : Nat) + 1 : Int) = (k : Nat) + 1 := i64i _ (by omega) (by omega)
    have ho := over_row f.decl q prs hq hr
    have hgo := goes_over (q := q) (prs := prs) (f := f)
    have hna := @name_over q prs f
    have hok := okF_over (prs := prs) (a := f.decl) kq
    obtain ⟨L, hL⟩ : ∃ L, (p.take k).map (nameF q prs) = L := ⟨_, rfl⟩
    have hLl : L.length = k := by rw [← hL, List.length_map, List.length_take]; omega
    rw [hL] at hn ⊢
    have b1 : (k + 1) * 32 ≤ 140737488355328 := by omega
    have b2 : k + 1 ≤ 140737488355328 := by omega
    obtain ⟨⟨g, b⟩, hr'⟩ : ∃ r, overT q prs f.decl = r := ⟨_, rfl⟩
    rw [hr'] at ho hgo hna hok
    dsimp only at hgo hna hok
    have ha := alike_row f g (kp f (List.mem_of_getElem? hy)) hok
    have hb := returns_row f.decl g.decl (turnP prs) (by unfold turnP; rw [List.length_map]; exact hr)
    have no : goesF q prs f = false → namesF p q prs = ([], false) := fun h => by
      unfold namesF
      rw [if_neg]
      rw [all_no hy h]; simp
    obtain ⟨tb, htb⟩ : ∃ tb, typesF f g = tb := ⟨_, rfl⟩
    obtain ⟨bb, hbb⟩ : ∃ bb, backT (turnP prs) f.decl g.decl = bb := ⟨_, rfl⟩
    rw [htb] at ha hgo
    rw [hbb] at hb hgo
    obtain ⟨fn, fp, ⟨frx, frl⟩, fd⟩ := f
    obtain ⟨gn, gp, ⟨grx, grl⟩, gd⟩ := g
    clear hok hr' htb hbb
    cases b
    · rw [no (by rw [hgo]; rfl)]
      repeat' (first | refine aw_seq ?_ | refine aw_skip ?_ | refine aw_block ?_ | refine aw_exit ?_ | refine aw_cond rfl (fun _ => ?_) (fun hb => absurd hb (by decide)) | refine aw_cond rfl (fun hb => absurd hb (by decide)) (fun _ => ?_) | (refine aw_reg (fun K hK => ?_); simp -implicitDefEqProofs [hkl, hy, hy', w2]) | (refine aw_drw mixd (fun K hK => ?_); simp -implicitDefEqProofs [hkl, hy, hy', w2]) | refine hK _ ?_ | refine hK _ _ (by rfl) ?_ | (refine ar_call (call_pure (ho) ?_ ?_ rfl ?_); (focus (simp [*]; done)); (focus (first | exact (fun _ => rfl) | exact (vT_ren _) | exact (vLs_ren _) | exact (vTB_ren _) | (intro ρ; simp [AV.ren, AT.ren, AC.ren]; done))); simp -implicitDefEqProofs [hkl, hy, hy', w2]) | (refine ard_call (calld_pure (ho) ?_ ?_ rfl ?_); (focus (simp [*]; done)); (focus (first | exact (fun _ => rfl) | exact (vT_ren _) | exact (vLs_ren _) | exact (vTB_ren _) | (intro ρ; simp [AV.ren, AT.ren, AC.ren]; done))); simp -implicitDefEqProofs [hkl, hy, hy', w2]) | fail)
      refine aw_ret (fin_ret ?_); simp -implicitDefEqProofs [FinP, resV, resT] <;> try rfl
    cases tb
    · rw [no (by rw [hgo]; rfl)]
      repeat' (first | refine aw_seq ?_ | refine aw_skip ?_ | refine aw_block ?_ | refine aw_exit ?_ | refine aw_cond rfl (fun _ => ?_) (fun hb => absurd hb (by decide)) | refine aw_cond rfl (fun hb => absurd hb (by decide)) (fun _ => ?_) | (refine aw_reg (fun K hK => ?_); simp -implicitDefEqProofs [hkl, hy, hy', w2]) | (refine aw_drw mixd (fun K hK => ?_); simp -implicitDefEqProofs [hkl, hy, hy', w2]) | refine hK _ ?_ | refine hK _ _ (by rfl) ?_ | (refine ar_call (call_pure (ho) ?_ ?_ rfl ?_); (focus (simp [*]; done)); (focus (first | exact (fun _ => rfl) | exact (vT_ren _) | exact (vLs_ren _) | exact (vTB_ren _) | (intro ρ; simp [AV.ren, AT.ren, AC.ren]; done))); simp -implicitDefEqProofs [hkl, hy, hy', w2]) | (refine ard_call (calld_pure (ho) ?_ ?_ rfl ?_); (focus (simp [*]; done)); (focus (first | exact (fun _ => rfl) | exact (vT_ren _) | exact (vLs_ren _) | exact (vTB_ren _) | (intro ρ; simp [AV.ren, AT.ren, AC.ren]; done))); simp -implicitDefEqProofs [hkl, hy, hy', w2]) | (refine ar_call (call_pure (ha) ?_ ?_ rfl ?_); (focus (simp [*]; done)); (focus (first | exact (fun _ => rfl) | exact (vT_ren _) | exact (vLs_ren _) | exact (vTB_ren _) | (intro ρ; simp [AV.ren, AT.ren, AC.ren]; done))); simp -implicitDefEqProofs [hkl, hy, hy', w2]) | (refine ard_call (calld_pure (ha) ?_ ?_ rfl ?_); (focus (simp [*]; done)); (focus (first | exact (fun _ => rfl) | exact (vT_ren _) | exact (vLs_ren _) | exact (vTB_ren _) | (intro ρ; simp [AV.ren, AT.ren, AC.ren]; done))); simp -implicitDefEqProofs [hkl, hy, hy', w2]) | fail)
      refine aw_ret (fin_ret ?_); simp -implicitDefEqProofs [FinP, resV, resT] <;> try rfl
    cases bb
    · rw [no (by rw [hgo]; rfl)]
      repeat' (first | refine aw_seq ?_ | refine aw_skip ?_ | refine aw_block ?_ | refine aw_exit ?_ | refine aw_cond rfl (fun _ => ?_) (fun hb => absurd hb (by decide)) | refine aw_cond rfl (fun hb => absurd hb (by decide)) (fun _ => ?_) | (refine aw_reg (fun K hK => ?_); simp -implicitDefEqProofs [hkl, hy, hy', w2]) | (refine aw_drw mixd (fun K hK => ?_); simp -implicitDefEqProofs [hkl, hy, hy', w2]) | refine hK _ ?_ | refine hK _ _ (by rfl) ?_ | (refine ar_call (call_pure (ho) ?_ ?_ rfl ?_); (focus (simp [*]; done)); (focus (first | exact (fun _ => rfl) | exact (vT_ren _) | exact (vLs_ren _) | exact (vTB_ren _) | (intro ρ; simp [AV.ren, AT.ren, AC.ren]; done))); simp -implicitDefEqProofs [hkl, hy, hy', w2]) | (refine ard_call (calld_pure (ho) ?_ ?_ rfl ?_); (focus (simp [*]; done)); (focus (first | exact (fun _ => rfl) | exact (vT_ren _) | exact (vLs_ren _) | exact (vTB_ren _) | (intro ρ; simp [AV.ren, AT.ren, AC.ren]; done))); simp -implicitDefEqProofs [hkl, hy, hy', w2]) | (refine ar_call (call_pure (ha) ?_ ?_ rfl ?_); (focus (simp [*]; done)); (focus (first | exact (fun _ => rfl) | exact (vT_ren _) | exact (vLs_ren _) | exact (vTB_ren _) | (intro ρ; simp [AV.ren, AT.ren, AC.ren]; done))); simp -implicitDefEqProofs [hkl, hy, hy', w2]) | (refine ard_call (calld_pure (ha) ?_ ?_ rfl ?_); (focus (simp [*]; done)); (focus (first | exact (fun _ => rfl) | exact (vT_ren _) | exact (vLs_ren _) | exact (vTB_ren _) | (intro ρ; simp [AV.ren, AT.ren, AC.ren]; done))); simp -implicitDefEqProofs [hkl, hy, hy', w2]) | (refine ar_call (call_pure (hb) ?_ ?_ rfl ?_); (focus (simp [*]; done)); (focus (first | exact (fun _ => rfl) | exact (vT_ren _) | exact (vLs_ren _) | exact (vTB_ren _) | (intro ρ; simp [AV.ren, AT.ren, AC.ren]; done))); simp -implicitDefEqProofs [hkl, hy, hy', w2]) | (refine ard_call (calld_pure (hb) ?_ ?_ rfl ?_); (focus (simp [*]; done)); (focus (first | exact (fun _ => rfl) | exact (vT_ren _) | exact (vLs_ren _) | exact (vTB_ren _) | (intro ρ; simp [AV.ren, AT.ren, AC.ren]; done))); simp -implicitDefEqProofs [hkl, hy, hy', w2]) | (refine ar_call (call_pure (ht) ?_ ?_ rfl ?_); (focus (simp [*]; done)); (focus (first | exact (fun _ => rfl) | exact (vT_ren _) | exact (vLs_ren _) | exact (vTB_ren _) | (intro ρ; simp [AV.ren, AT.ren, AC.ren]; done))); simp -implicitDefEqProofs [hkl, hy, hy', w2]) | (refine ard_call (calld_pure (ht) ?_ ?_ rfl ?_); (focus (simp [*]; done)); (focus (first | exact (fun _ => rfl) | exact (vT_ren _) | exact (vLs_ren _) | exact (vTB_ren _) | (intro ρ; simp [AV.ren, AT.ren, AC.ren]; done))); simp -implicitDefEqProofs [hkl, hy, hy', w2]) | fail)
      refine aw_ret (fin_ret ?_); simp -implicitDefEqProofs [FinP, resV, resT] <;> try rfl
    have hgt : goesF q prs ⟨fn, fp, .mk frx frl, fd⟩ = true := by rw [hgo]; rfl
    rw [hna hgt] at hn
    clear no hna hgo
    repeat' (first | refine aw_seq ?_ | refine aw_skip ?_ | refine aw_block ?_ | refine aw_exit ?_ | refine aw_cond rfl (fun _ => ?_) (fun hb => absurd hb (by decide)) | refine aw_cond rfl (fun hb => absurd hb (by decide)) (fun _ => ?_) | (refine aw_reg (fun K hK => ?_); simp -implicitDefEqProofs [hkl, hy, hy', w2, hLl, b1, b2]) | (refine aw_drw mixd (fun K hK => ?_); simp -implicitDefEqProofs [hkl, hy, hy', w2, hLl, b1, b2]) | refine hK _ ?_ | refine hK _ _ (by rfl) ?_ | (refine ar_call (call_pure (ho) ?_ ?_ rfl ?_); (focus (simp [*]; done)); (focus (first | exact (fun _ => rfl) | exact (vT_ren _) | exact (vLs_ren _) | exact (vTB_ren _) | (intro ρ; simp [AV.ren, AT.ren, AC.ren]; done))); simp -implicitDefEqProofs [hkl, hy, hy', w2, hLl, b1, b2]) | (refine ard_call (calld_pure (ho) ?_ ?_ rfl ?_); (focus (simp [*]; done)); (focus (first | exact (fun _ => rfl) | exact (vT_ren _) | exact (vLs_ren _) | exact (vTB_ren _) | (intro ρ; simp [AV.ren, AT.ren, AC.ren]; done))); simp -implicitDefEqProofs [hkl, hy, hy', w2, hLl, b1, b2]) | (refine ar_call (call_pure (ha) ?_ ?_ rfl ?_); (focus (simp [*]; done)); (focus (first | exact (fun _ => rfl) | exact (vT_ren _) | exact (vLs_ren _) | exact (vTB_ren _) | (intro ρ; simp [AV.ren, AT.ren, AC.ren]; done))); simp -implicitDefEqProofs [hkl, hy, hy', w2, hLl, b1, b2]) | (refine ard_call (calld_pure (ha) ?_ ?_ rfl ?_); (focus (simp [*]; done)); (focus (first | exact (fun _ => rfl) | exact (vT_ren _) | exact (vLs_ren _) | exact (vTB_ren _) | (intro ρ; simp [AV.ren, AT.ren, AC.ren]; done))); simp -implicitDefEqProofs [hkl, hy, hy', w2, hLl, b1, b2]) | (refine ar_call (call_pure (hb) ?_ ?_ rfl ?_); (focus (simp [*]; done)); (focus (first | exact (fun _ => rfl) | exact (vT_ren _) | exact (vLs_ren _) | exact (vTB_ren _) | (intro ρ; simp [AV.ren, AT.ren, AC.ren]; done))); simp -implicitDefEqProofs [hkl, hy, hy', w2, hLl, b1, b2]) | (refine ard_call (calld_pure (hb) ?_ ?_ rfl ?_); (focus (simp [*]; done)); (focus (first | exact (fun _ => rfl) | exact (vT_ren _) | exact (vLs_ren _) | exact (vTB_ren _) | (intro ρ; simp [AV.ren, AT.ren, AC.ren]; done))); simp -implicitDefEqProofs [hkl, hy, hy', w2, hLl, b1, b2]) | (refine ar_call (call_pure (ht) ?_ ?_ rfl ?_); (focus (simp [*]; done)); (focus (first | exact (fun _ => rfl) | exact (vT_ren _) | exact (vLs_ren _) | exact (vTB_ren _) | (intro ρ; simp [AV.ren, AT.ren, AC.ren]; done))); simp -implicitDefEqProofs [hkl, hy, hy', w2, hLl, b1, b2]) | (refine ard_call (calld_pure (ht) ?_ ?_ rfl ?_); (focus (simp [*]; done)); (focus (first | exact (fun _ => rfl) | exact (vT_ren _) | exact (vLs_ren _) | exact (vTB_ren _) | (intro ρ; simp [AV.ren, AT.ren, AC.ren]; done))); simp -implicitDefEqProofs [hkl, hy, hy', w2, hLl, b1, b2]) | fail)
    refine ⟨k + 1, ⟨by omega, by rw [hs, hz, hgt]; rfl⟩, (by dsimp only; omega), ?_⟩
    rw [hI]; exact cov_intro [175] (by simp -implicitDefEqProofs [hn]) (by simp -implicitDefEqProofs [hn]) (by decide) rfl (by simp)
  have hkl : k = p.length := by omega
  subst hkl
  rw [List.take_length] at hz ⊢
  repeat (first | refine aw_seq ?_ | refine aw_skip ?_ | refine aw_block ?_ | refine aw_exit ?_ | refine aw_cond rfl (fun _ => ?_) (fun hb => absurd hb (by decide)) | refine aw_cond rfl (fun hb => absurd hb (by decide)) (fun _ => ?_) | (refine aw_reg (fun K hK => ?_); simp -implicitDefEqProofs; refine hK _ ?_) | (refine aw_drw mixd (fun K hK => ?_); simp -implicitDefEqProofs; refine hK _ _ (by rfl) ?_) | fail)
  refine aw_lp (ι := Nat) (fun k => mkSt [(0, vFs p), (2, vPs prs), (8, .v (.c (.row 0 2 ((p.map (nameF q prs)).map ncc)))), (58, vFs q), (59, vI (q.length : Nat)), (60, vI (k : Nat))] [some (.row 56 2)]) (fun k => k ≤ q.length ∧ (q.take k).all (goesF p (turnP prs)) = true) (fun k => q.length - k) 0 ⟨Nat.zero_le _, all_take0 _ _⟩ (cov_intro [0] (by simp -implicitDefEqProofs) (by simp -implicitDefEqProofs) (by decide) rfl (by simp)) (fun Z hI k hk => ?_)
  obtain ⟨hk, hz2⟩ := hk
  by_cases hkl : k < q.length
  · obtain ⟨f, hy⟩ : ∃ y, q[k]? = some y := ⟨_, List.getElem?_eq_getElem hkl⟩
    have hy' := (List.getElem?_eq_some_iff.1 hy).2
    have hs := all_succ (f := goesF p (turnP prs)) hy
    have w2 : IntKind.i64.wrap ((k : Nat) + 1 : Int) = (k : Nat) + 1 := i64i _ (by omega) (by omega)
    have ho := over_row f.decl p (turnP prs) hp (by unfold turnP; rw [List.length_map]; exact hr)
    have hgo := goes_over (q := p) (prs := turnP prs) (f := f)
    rw [turn_turn] at hgo
    have hok := okF_over (prs := turnP prs) (a := f.decl) kp
    obtain ⟨⟨g, b⟩, hr'⟩ : ∃ r, overT p (turnP prs) f.decl = r := ⟨_, rfl⟩
    rw [hr'] at ho hgo hok
    dsimp only at hgo hok
    have ha := alike_row g f hok (kq f (List.mem_of_getElem? hy))
    rw [typesF_symm] at ha
    have hb := returns_row f.decl g.decl prs hr
    have no : goesF p (turnP prs) f = false → namesF p q prs = ([], false) := fun h => by
      unfold namesF
      rw [if_neg]
      rw [all_no hy h]; simp
    obtain ⟨tb, htb⟩ : ∃ tb, typesF f g = tb := ⟨_, rfl⟩
    obtain ⟨bb, hbb⟩ : ∃ bb, backT prs f.decl g.decl = bb := ⟨_, rfl⟩
    rw [htb] at ha hgo
    rw [hbb] at hb hgo
    obtain ⟨fn, fp, ⟨frx, frl⟩, fd⟩ := f
    obtain ⟨gn, gp, ⟨grx, grl⟩, gd⟩ := g
    clear hok hr' htb hbb
    cases b
    · rw [no (by rw [hgo]; rfl)]
      repeat' (first | refine aw_seq ?_ | refine aw_skip ?_ | refine aw_block ?_ | refine aw_exit ?_ | refine aw_cond rfl (fun _ => ?_) (fun hb => absurd hb (by decide)) | refine aw_cond rfl (fun hb => absurd hb (by decide)) (fun _ => ?_) | (refine aw_reg (fun K hK => ?_); simp -implicitDefEqProofs [hkl, hy, hy', w2]) | (refine aw_drw mixd (fun K hK => ?_); simp -implicitDefEqProofs [hkl, hy, hy', w2]) | refine hK _ ?_ | refine hK _ _ (by rfl) ?_ | (refine ar_call (call_pure (ho) ?_ ?_ rfl ?_); (focus (simp [*]; done)); (focus (first | exact (fun _ => rfl) | exact (vT_ren _) | exact (vLs_ren _) | exact (vTB_ren _) | (intro ρ; simp [AV.ren, AT.ren, AC.ren]; done))); simp -implicitDefEqProofs [hkl, hy, hy', w2]) | (refine ard_call (calld_pure (ho) ?_ ?_ rfl ?_); (focus (simp [*]; done)); (focus (first | exact (fun _ => rfl) | exact (vT_ren _) | exact (vLs_ren _) | exact (vTB_ren _) | (intro ρ; simp [AV.ren, AT.ren, AC.ren]; done))); simp -implicitDefEqProofs [hkl, hy, hy', w2]) | (refine ar_call (call_pure (ht) ?_ ?_ rfl ?_); (focus (simp [*]; done)); (focus (first | exact (fun _ => rfl) | exact (vT_ren _) | exact (vLs_ren _) | exact (vTB_ren _) | (intro ρ; simp [AV.ren, AT.ren, AC.ren]; done))); simp -implicitDefEqProofs [hkl, hy, hy', w2]) | (refine ard_call (calld_pure (ht) ?_ ?_ rfl ?_); (focus (simp [*]; done)); (focus (first | exact (fun _ => rfl) | exact (vT_ren _) | exact (vLs_ren _) | exact (vTB_ren _) | (intro ρ; simp [AV.ren, AT.ren, AC.ren]; done))); simp -implicitDefEqProofs [hkl, hy, hy', w2]) | fail)
      refine aw_ret (fin_ret ?_); simp -implicitDefEqProofs [FinP, resV, resT] <;> try rfl
    cases tb
    · rw [no (by rw [hgo]; rfl)]
      repeat' (first | refine aw_seq ?_ | refine aw_skip ?_ | refine aw_block ?_ | refine aw_exit ?_ | refine aw_cond rfl (fun _ => ?_) (fun hb => absurd hb (by decide)) | refine aw_cond rfl (fun hb => absurd hb (by decide)) (fun _ => ?_) | (refine aw_reg (fun K hK => ?_); simp -implicitDefEqProofs [hkl, hy, hy', w2]) | (refine aw_drw mixd (fun K hK => ?_); simp -implicitDefEqProofs [hkl, hy, hy', w2]) | refine hK _ ?_ | refine hK _ _ (by rfl) ?_ | (refine ar_call (call_pure (ho) ?_ ?_ rfl ?_); (focus (simp [*]; done)); (focus (first | exact (fun _ => rfl) | exact (vT_ren _) | exact (vLs_ren _) | exact (vTB_ren _) | (intro ρ; simp [AV.ren, AT.ren, AC.ren]; done))); simp -implicitDefEqProofs [hkl, hy, hy', w2]) | (refine ard_call (calld_pure (ho) ?_ ?_ rfl ?_); (focus (simp [*]; done)); (focus (first | exact (fun _ => rfl) | exact (vT_ren _) | exact (vLs_ren _) | exact (vTB_ren _) | (intro ρ; simp [AV.ren, AT.ren, AC.ren]; done))); simp -implicitDefEqProofs [hkl, hy, hy', w2]) | (refine ar_call (call_pure (ha) ?_ ?_ rfl ?_); (focus (simp [*]; done)); (focus (first | exact (fun _ => rfl) | exact (vT_ren _) | exact (vLs_ren _) | exact (vTB_ren _) | (intro ρ; simp [AV.ren, AT.ren, AC.ren]; done))); simp -implicitDefEqProofs [hkl, hy, hy', w2]) | (refine ard_call (calld_pure (ha) ?_ ?_ rfl ?_); (focus (simp [*]; done)); (focus (first | exact (fun _ => rfl) | exact (vT_ren _) | exact (vLs_ren _) | exact (vTB_ren _) | (intro ρ; simp [AV.ren, AT.ren, AC.ren]; done))); simp -implicitDefEqProofs [hkl, hy, hy', w2]) | (refine ar_call (call_pure (ht) ?_ ?_ rfl ?_); (focus (simp [*]; done)); (focus (first | exact (fun _ => rfl) | exact (vT_ren _) | exact (vLs_ren _) | exact (vTB_ren _) | (intro ρ; simp [AV.ren, AT.ren, AC.ren]; done))); simp -implicitDefEqProofs [hkl, hy, hy', w2]) | (refine ard_call (calld_pure (ht) ?_ ?_ rfl ?_); (focus (simp [*]; done)); (focus (first | exact (fun _ => rfl) | exact (vT_ren _) | exact (vLs_ren _) | exact (vTB_ren _) | (intro ρ; simp [AV.ren, AT.ren, AC.ren]; done))); simp -implicitDefEqProofs [hkl, hy, hy', w2]) | fail)
      refine aw_ret (fin_ret ?_); simp -implicitDefEqProofs [FinP, resV, resT] <;> try rfl
    cases bb
    · rw [no (by rw [hgo]; rfl)]
      repeat' (first | refine aw_seq ?_ | refine aw_skip ?_ | refine aw_block ?_ | refine aw_exit ?_ | refine aw_cond rfl (fun _ => ?_) (fun hb => absurd hb (by decide)) | refine aw_cond rfl (fun hb => absurd hb (by decide)) (fun _ => ?_) | (refine aw_reg (fun K hK => ?_); simp -implicitDefEqProofs [hkl, hy, hy', w2]) | (refine aw_drw mixd (fun K hK => ?_); simp -implicitDefEqProofs [hkl, hy, hy', w2]) | refine hK _ ?_ | refine hK _ _ (by rfl) ?_ | (refine ar_call (call_pure (ho) ?_ ?_ rfl ?_); (focus (simp [*]; done)); (focus (first | exact (fun _ => rfl) | exact (vT_ren _) | exact (vLs_ren _) | exact (vTB_ren _) | (intro ρ; simp [AV.ren, AT.ren, AC.ren]; done))); simp -implicitDefEqProofs [hkl, hy, hy', w2]) | (refine ard_call (calld_pure (ho) ?_ ?_ rfl ?_); (focus (simp [*]; done)); (focus (first | exact (fun _ => rfl) | exact (vT_ren _) | exact (vLs_ren _) | exact (vTB_ren _) | (intro ρ; simp [AV.ren, AT.ren, AC.ren]; done))); simp -implicitDefEqProofs [hkl, hy, hy', w2]) | (refine ar_call (call_pure (ha) ?_ ?_ rfl ?_); (focus (simp [*]; done)); (focus (first | exact (fun _ => rfl) | exact (vT_ren _) | exact (vLs_ren _) | exact (vTB_ren _) | (intro ρ; simp [AV.ren, AT.ren, AC.ren]; done))); simp -implicitDefEqProofs [hkl, hy, hy', w2]) | (refine ard_call (calld_pure (ha) ?_ ?_ rfl ?_); (focus (simp [*]; done)); (focus (first | exact (fun _ => rfl) | exact (vT_ren _) | exact (vLs_ren _) | exact (vTB_ren _) | (intro ρ; simp [AV.ren, AT.ren, AC.ren]; done))); simp -implicitDefEqProofs [hkl, hy, hy', w2]) | (refine ar_call (call_pure (hb) ?_ ?_ rfl ?_); (focus (simp [*]; done)); (focus (first | exact (fun _ => rfl) | exact (vT_ren _) | exact (vLs_ren _) | exact (vTB_ren _) | (intro ρ; simp [AV.ren, AT.ren, AC.ren]; done))); simp -implicitDefEqProofs [hkl, hy, hy', w2]) | (refine ard_call (calld_pure (hb) ?_ ?_ rfl ?_); (focus (simp [*]; done)); (focus (first | exact (fun _ => rfl) | exact (vT_ren _) | exact (vLs_ren _) | exact (vTB_ren _) | (intro ρ; simp [AV.ren, AT.ren, AC.ren]; done))); simp -implicitDefEqProofs [hkl, hy, hy', w2]) | (refine ar_call (call_pure (ht) ?_ ?_ rfl ?_); (focus (simp [*]; done)); (focus (first | exact (fun _ => rfl) | exact (vT_ren _) | exact (vLs_ren _) | exact (vTB_ren _) | (intro ρ; simp [AV.ren, AT.ren, AC.ren]; done))); simp -implicitDefEqProofs [hkl, hy, hy', w2]) | (refine ard_call (calld_pure (ht) ?_ ?_ rfl ?_); (focus (simp [*]; done)); (focus (first | exact (fun _ => rfl) | exact (vT_ren _) | exact (vLs_ren _) | exact (vTB_ren _) | (intro ρ; simp [AV.ren, AT.ren, AC.ren]; done))); simp -implicitDefEqProofs [hkl, hy, hy', w2]) | fail)
      refine aw_ret (fin_ret ?_); simp -implicitDefEqProofs [FinP, resV, resT] <;> try rfl
    have hgt : goesF p (turnP prs) ⟨fn, fp, .mk frx frl, fd⟩ = true := by rw [hgo]; rfl
    clear no hgo
    repeat' (first | refine aw_seq ?_ | refine aw_skip ?_ | refine aw_block ?_ | refine aw_exit ?_ | refine aw_cond rfl (fun _ => ?_) (fun hb => absurd hb (by decide)) | refine aw_cond rfl (fun hb => absurd hb (by decide)) (fun _ => ?_) | (refine aw_reg (fun K hK => ?_); simp -implicitDefEqProofs [hkl, hy, hy', w2]) | (refine aw_drw mixd (fun K hK => ?_); simp -implicitDefEqProofs [hkl, hy, hy', w2]) | refine hK _ ?_ | refine hK _ _ (by rfl) ?_ | (refine ar_call (call_pure (ho) ?_ ?_ rfl ?_); (focus (simp [*]; done)); (focus (first | exact (fun _ => rfl) | exact (vT_ren _) | exact (vLs_ren _) | exact (vTB_ren _) | (intro ρ; simp [AV.ren, AT.ren, AC.ren]; done))); simp -implicitDefEqProofs [hkl, hy, hy', w2]) | (refine ard_call (calld_pure (ho) ?_ ?_ rfl ?_); (focus (simp [*]; done)); (focus (first | exact (fun _ => rfl) | exact (vT_ren _) | exact (vLs_ren _) | exact (vTB_ren _) | (intro ρ; simp [AV.ren, AT.ren, AC.ren]; done))); simp -implicitDefEqProofs [hkl, hy, hy', w2]) | (refine ar_call (call_pure (ha) ?_ ?_ rfl ?_); (focus (simp [*]; done)); (focus (first | exact (fun _ => rfl) | exact (vT_ren _) | exact (vLs_ren _) | exact (vTB_ren _) | (intro ρ; simp [AV.ren, AT.ren, AC.ren]; done))); simp -implicitDefEqProofs [hkl, hy, hy', w2]) | (refine ard_call (calld_pure (ha) ?_ ?_ rfl ?_); (focus (simp [*]; done)); (focus (first | exact (fun _ => rfl) | exact (vT_ren _) | exact (vLs_ren _) | exact (vTB_ren _) | (intro ρ; simp [AV.ren, AT.ren, AC.ren]; done))); simp -implicitDefEqProofs [hkl, hy, hy', w2]) | (refine ar_call (call_pure (hb) ?_ ?_ rfl ?_); (focus (simp [*]; done)); (focus (first | exact (fun _ => rfl) | exact (vT_ren _) | exact (vLs_ren _) | exact (vTB_ren _) | (intro ρ; simp [AV.ren, AT.ren, AC.ren]; done))); simp -implicitDefEqProofs [hkl, hy, hy', w2]) | (refine ard_call (calld_pure (hb) ?_ ?_ rfl ?_); (focus (simp [*]; done)); (focus (first | exact (fun _ => rfl) | exact (vT_ren _) | exact (vLs_ren _) | exact (vTB_ren _) | (intro ρ; simp [AV.ren, AT.ren, AC.ren]; done))); simp -implicitDefEqProofs [hkl, hy, hy', w2]) | (refine ar_call (call_pure (ht) ?_ ?_ rfl ?_); (focus (simp [*]; done)); (focus (first | exact (fun _ => rfl) | exact (vT_ren _) | exact (vLs_ren _) | exact (vTB_ren _) | (intro ρ; simp [AV.ren, AT.ren, AC.ren]; done))); simp -implicitDefEqProofs [hkl, hy, hy', w2]) | (refine ard_call (calld_pure (ht) ?_ ?_ rfl ?_); (focus (simp [*]; done)); (focus (first | exact (fun _ => rfl) | exact (vT_ren _) | exact (vLs_ren _) | exact (vTB_ren _) | (intro ρ; simp [AV.ren, AT.ren, AC.ren]; done))); simp -implicitDefEqProofs [hkl, hy, hy', w2]) | fail)
    refine ⟨k + 1, ⟨by omega, by rw [hs, hz2, hgt]; rfl⟩, (by dsimp only; omega), ?_⟩
    rw [hI]; exact cov_intro [0] (by simp -implicitDefEqProofs) (by simp -implicitDefEqProofs) (by decide) rfl (by simp)
  have hkl : k = q.length := by omega
  subst hkl
  rw [List.take_length] at hz2
  rw [show namesF p q prs = (p.map (nameF q prs), true) by unfold namesF; rw [if_pos]; rw [hz, hz2]; rfl]
  repeat (first | refine aw_seq ?_ | refine aw_skip ?_ | refine aw_block ?_ | refine aw_exit ?_ | refine aw_cond rfl (fun _ => ?_) (fun hb => absurd hb (by decide)) | refine aw_cond rfl (fun hb => absurd hb (by decide)) (fun _ => ?_) | (refine aw_reg (fun K hK => ?_); simp -implicitDefEqProofs; refine hK _ ?_) | (refine aw_drw mixd (fun K hK => ?_); simp -implicitDefEqProofs; refine hK _ _ (by rfl) ?_) | fail)
  refine aw_ret (fin_ret ?_); simp -implicitDefEqProofs [FinP, resV, resT] <;> try rfl
end Go.Proofs.Ythifckknijdgfaa.am
