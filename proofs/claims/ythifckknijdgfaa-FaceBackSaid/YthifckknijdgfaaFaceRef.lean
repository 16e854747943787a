/-
  Layer 18: how faces go over: the document's.
-/
import Derived.Test.YthifckknijdgfaaFaceNam
import Derived.Test.YthifckknijdgfaaRowRSame
import Derived.Test.YthifckknijdgfaaRowLarge
namespace Go.Proofs.Ythifckknijdgfaa.am
open Go.ChangeShapes Go.WideShapes Go.ChangeAt Go.RowKit
open vt
set_option linter.unusedVariables false
set_option linter.unusedSimpArgs false
theorem find_split {α : Type} {f : α → Bool} {y : α} : ∀ {l : List α}, l.find? f = some y → ∃ k, l[k]? = some y ∧ f y = true ∧ (l.take k).all (fun z => !f z) = true
  | [], h => by simp at h
  | x :: l, h => by
    rw [List.find?_cons] at h
    by_cases hx : f x = true
    · rw [hx] at h; cases h; exact ⟨0, rfl, hx, by simp⟩
    · have hx : f x = false := by simpa using hx
      rw [hx] at h
      obtain ⟨k, h1, h2, h3⟩ := find_split h
      exact ⟨k + 1, by simpa using h1, h2, by simp [hx]; simpa using h3⟩
def onT (prs : List Pr) (a : Int) : Int × Bool := match onP prs a with | some x => (x.2, true) | none => (0, false)
abbrev vIB (r : Int × Bool) : AV := .tup [.c (.pv (I r.1)), .c (.pv (Bo r.2))]
theorem vIB_ren (r : Int × Bool) (ρ : Nat → Nat) : (vIB r).ren ρ = vIB r := rfl
set_option maxRecDepth 100000 in
set_option maxHeartbeats 4000000 in
theorem on_row (l : List Pr) (a : Int) (hl : l.length ≤ 1000000) : Row Try.prog 68 [vPs l, vI a] [] (vIB (onT l a)) [] := by
  unfold onT
  refine row_of Try.func68 rfl rfl (Nat.le_of_ble_eq_true rfl) ?_
  repeat (first | refine aw_seq ?_ | refine aw_skip ?_ | refine aw_block ?_ | refine aw_exit ?_ | refine aw_cond rfl (fun _ => ?_) (fun hb => absurd hb (by decide)) | refine aw_cond rfl (fun hb => absurd hb (by decide)) (fun _ => ?_) | (refine aw_reg (fun K hK => ?_); simp -implicitDefEqProofs; refine hK _ ?_) | (refine aw_drw mixd (fun K hK => ?_); simp -implicitDefEqProofs; refine hK _ _ (by rfl) ?_) | fail)
  refine aw_lp (ι := Nat) (fun k => mkSt [(0, vPs l), (1, vI a), (6, vI (k : Nat))] []) (fun k => k ≤ l.length ∧ (l.take k).all (fun y => !atA a y) = true) (fun k => l.length - k) 0 ⟨Nat.zero_le _, all_take0 _ _⟩ (cov_intro [] (by simp -implicitDefEqProofs) (by simp -implicitDefEqProofs) (by decide) rfl (by simp)) (fun Z hI k hk => ?_)
  obtain ⟨hk, hz⟩ := hk
  by_cases hkl : k < l.length; rotate_left
  · have : k = l.length := by omega
    subst this
    rw [show onP l a = none from find_end hz]
    repeat (first | refine aw_seq ?_ | refine aw_skip ?_ | refine aw_block ?_ | refine aw_exit ?_ | refine aw_cond rfl (fun _ => ?_) (fun hb => absurd hb (by decide)) | refine aw_cond rfl (fun hb => absurd hb (by decide)) (fun _ => ?_) | (refine aw_reg (fun K hK => ?_); simp -implicitDefEqProofs; refine hK _ ?_) | (refine aw_drw mixd (fun K hK => ?_); simp -implicitDefEqProofs; refine hK _ _ (by rfl) ?_) | fail)
    refine aw_ret (fin_ret ?_); simp -implicitDefEqProofs [FinP, resV, resT] <;> try rfl
  obtain ⟨⟨y1, y2⟩, hy⟩ : ∃ y, l[k]? = some y := ⟨_, List.getElem?_eq_getElem hkl⟩
  have hy' := (List.getElem?_eq_some_iff.1 hy).2
  have hs := all_succ (f := fun y => !atA a y) hy
  have w2 : IntKind.i64.wrap ((k : Nat) + 1 : Int) = (k : Nat) + 1 := i64i _ (by omega) (by omega)
  by_cases hb : y1 = a
  · rw [show onP l a = some (y1, y2) from find_hit hz hy (by simp [atA, hb])]
    repeat (first | refine aw_seq ?_ | refine aw_skip ?_ | refine aw_block ?_ | refine aw_exit ?_ | refine aw_cond rfl (fun _ => ?_) (fun hb => absurd hb (by decide)) | refine aw_cond rfl (fun hb => absurd hb (by decide)) (fun _ => ?_) | (refine aw_reg (fun K hK => ?_); simp -implicitDefEqProofs [hkl, hy, hy', hb]; refine hK _ ?_) | (refine aw_drw mixd (fun K hK => ?_); simp -implicitDefEqProofs [hkl, hy, hy', hb]; refine hK _ _ (by rfl) ?_) | fail)
    refine aw_ret (fin_ret ?_); simp -implicitDefEqProofs [FinP, resV, resT] <;> try rfl
  · repeat (first | refine aw_seq ?_ | refine aw_skip ?_ | refine aw_block ?_ | refine aw_exit ?_ | refine aw_cond rfl (fun _ => ?_) (fun hb => absurd hb (by decide)) | refine aw_cond rfl (fun hb => absurd hb (by decide)) (fun _ => ?_) | (refine aw_reg (fun K hK => ?_); simp -implicitDefEqProofs [hkl, hy, hy', hb, w2]; refine hK _ ?_) | (refine aw_drw mixd (fun K hK => ?_); simp -implicitDefEqProofs [hkl, hy, hy', hb, w2]; refine hK _ _ (by rfl) ?_) | fail)
    refine ⟨k + 1, ⟨by omega, by rw [hs, hz]; simp [atA, hb]⟩, (by dsimp only; omega), ?_⟩
    rw [hI]; exact cov_intro [] (by simp -implicitDefEqProofs) (by simp -implicitDefEqProofs) (by decide) rfl (by simp)
set_option maxRecDepth 100000 in
set_option maxHeartbeats 4000000 in
theorem find_no (l : List Fc) (d : Int) (hl : l.length ≤ 1000000) (h : findF l d = none) : Row Try.prog 26 [vFs l, vI d] [] (vI (-1)) [] := by
  refine row_of Try.func26 rfl rfl (Nat.le_of_ble_eq_true rfl) ?_
  repeat (first | refine aw_seq ?_ | refine aw_skip ?_ | refine aw_block ?_ | refine aw_exit ?_ | refine aw_cond rfl (fun _ => ?_) (fun hb => absurd hb (by decide)) | refine aw_cond rfl (fun hb => absurd hb (by decide)) (fun _ => ?_) | (refine aw_reg (fun K hK => ?_); simp -implicitDefEqProofs; refine hK _ ?_) | (refine aw_drw mixd (fun K hK => ?_); simp -implicitDefEqProofs; refine hK _ _ (by rfl) ?_) | fail)
  refine aw_lp (ι := Nat) (fun k => mkSt [(0, vFs l), (1, vI d), (5, vI (k : Nat))] []) (fun k => k ≤ l.length) (fun k => l.length - k) 0 (Nat.zero_le _) (cov_intro [] (by simp -implicitDefEqProofs) (by simp -implicitDefEqProofs) (by decide) rfl (by simp)) (fun Z hI k hk => ?_)
  by_cases hkl : k < l.length; rotate_left
  · repeat (first | refine aw_seq ?_ | refine aw_skip ?_ | refine aw_block ?_ | refine aw_exit ?_ | refine aw_cond rfl (fun _ => ?_) (fun hb => absurd hb (by decide)) | refine aw_cond rfl (fun hb => absurd hb (by decide)) (fun _ => ?_) | (refine aw_reg (fun K hK => ?_); simp -implicitDefEqProofs [hkl]; refine hK _ ?_) | (refine aw_drw mixd (fun K hK => ?_); simp -implicitDefEqProofs [hkl]; refine hK _ _ (by rfl) ?_) | fail)
    refine aw_ret (fin_ret ?_); simp -implicitDefEqProofs [FinP, resV, resT] <;> try rfl
  obtain ⟨⟨fn, fp, ⟨frx, frl⟩, fd⟩, hy⟩ : ∃ y, l[k]? = some y := ⟨_, List.getElem?_eq_getElem hkl⟩
  have hy' := (List.getElem?_eq_some_iff.1 hy).2
  have hb : ¬ fd = d := by
    have := List.find?_eq_none.1 h _ (List.mem_of_getElem? hy)
    simpa [atD] using this
  have w2 : IntKind.i64.wrap ((k : Nat) + 1 : Int) = (k : Nat) + 1 := i64i _ (by omega) (by omega)
  repeat (first | refine aw_seq ?_ | refine aw_skip ?_ | refine aw_block ?_ | refine aw_exit ?_ | refine aw_cond rfl (fun _ => ?_) (fun hb => absurd hb (by decide)) | refine aw_cond rfl (fun hb => absurd hb (by decide)) (fun _ => ?_) | (refine aw_reg (fun K hK => ?_); simp -implicitDefEqProofs [hkl, hy, hy', hb, w2]; refine hK _ ?_) | (refine aw_drw mixd (fun K hK => ?_); simp -implicitDefEqProofs [hkl, hy, hy', hb, w2]; refine hK _ _ (by rfl) ?_) | fail)
  refine ⟨k + 1, by omega, (by dsimp only; omega), ?_⟩; rw [hI]; exact cov_intro [] (by simp -implicitDefEqProofs) (by simp -implicitDefEqProofs) (by decide) rfl (by simp)
set_option maxRecDepth 100000 in
set_option maxHeartbeats 4000000 in
theorem find_yes (l : List Fc) (d : Int) (hl : l.length ≤ 1000000) (g : Fc) (j : Nat) (hj : l[j]? = some g) (hg : atD d g = true) (hn : (l.take j).all (fun z => !atD d z) = true) : Row Try.prog 26 [vFs l, vI d] [] (vI (j : Nat)) [] := by
  have hjl := (List.getElem?_eq_some_iff.1 hj).1
  refine row_of Try.func26 rfl rfl (Nat.le_of_ble_eq_true rfl) ?_
  repeat (first | refine aw_seq ?_ | refine aw_skip ?_ | refine aw_block ?_ | refine aw_exit ?_ | refine aw_cond rfl (fun _ => ?_) (fun hb => absurd hb (by decide)) | refine aw_cond rfl (fun hb => absurd hb (by decide)) (fun _ => ?_) | (refine aw_reg (fun K hK => ?_); simp -implicitDefEqProofs; refine hK _ ?_) | (refine aw_drw mixd (fun K hK => ?_); simp -implicitDefEqProofs; refine hK _ _ (by rfl) ?_) | fail)
  refine aw_lp (ι := Nat) (fun k => mkSt [(0, vFs l), (1, vI d), (5, vI (k : Nat))] []) (fun k => k ≤ j) (fun k => l.length - k) 0 (Nat.zero_le _) (cov_intro [] (by simp -implicitDefEqProofs) (by simp -implicitDefEqProofs) (by decide) rfl (by simp)) (fun Z hI k hk => ?_)
  have hkl : k < l.length := by omega
  obtain ⟨⟨fn, fp, ⟨frx, frl⟩, fd⟩, hy⟩ : ∃ y, l[k]? = some y := ⟨_, List.getElem?_eq_getElem hkl⟩
  have hy' := (List.getElem?_eq_some_iff.1 hy).2
  have w2 : IntKind.i64.wrap ((k : Nat) + 1 : Int) = (k : Nat) + 1 := i64i _ (by omega) (by omega)
  by_cases he : k = j
  · subst he
    rw [hy] at hj; cases hj
    have hb : fd = d := by simpa [atD] using hg
    repeat (first | refine aw_seq ?_ | refine aw_skip ?_ | refine aw_block ?_ | refine aw_exit ?_ | refine aw_cond rfl (fun _ => ?_) (fun hb => absurd hb (by decide)) | refine aw_cond rfl (fun hb => absurd hb (by decide)) (fun _ => ?_) | (refine aw_reg (fun K hK => ?_); simp -implicitDefEqProofs [hkl, hy, hy', hb]; refine hK _ ?_) | (refine aw_drw mixd (fun K hK => ?_); simp -implicitDefEqProofs [hkl, hy, hy', hb]; refine hK _ _ (by rfl) ?_) | fail)
    refine aw_ret (fin_ret ?_); simp -implicitDefEqProofs [FinP, resV, resT] <;> try rfl
  · have hlt : k < j := by omega
    have hb : ¬ fd = d := by
      have := List.all_eq_true.1 hn _ (List.mem_of_getElem? (show (l.take j)[k]? = some _ by rw [List.getElem?_take, if_pos hlt]; exact hy))
      simpa [atD] using this
    repeat (first | refine aw_seq ?_ | refine aw_skip ?_ | refine aw_block ?_ | refine aw_exit ?_ | refine aw_cond rfl (fun _ => ?_) (fun hb => absurd hb (by decide)) | refine aw_cond rfl (fun hb => absurd hb (by decide)) (fun _ => ?_) | (refine aw_reg (fun K hK => ?_); simp -implicitDefEqProofs [hkl, hy, hy', hb, w2]; refine hK _ ?_) | (refine aw_drw mixd (fun K hK => ?_); simp -implicitDefEqProofs [hkl, hy, hy', hb, w2]; refine hK _ _ (by rfl) ?_) | fail)
    refine ⟨k + 1, by omega, (by dsimp only; omega), ?_⟩; rw [hI]; exact cov_intro [] (by simp -implicitDefEqProofs) (by simp -implicitDefEqProofs) (by decide) rfl (by simp)
set_option maxRecDepth 100000 in
set_option maxHeartbeats 4000000 in
theorem rturned_row (prs : List Pr) (hp : prs.length ≤ 1000000) : Row Try.prog 27 [vPs prs] [] (vPs (turnP prs)) [] := by
  refine row_of Try.func27 rfl rfl (Nat.le_of_ble_eq_true rfl) ?_
  repeat (first | refine aw_seq ?_ | refine aw_skip ?_ | refine aw_block ?_ | refine aw_exit ?_ | refine aw_cond rfl (fun _ => ?_) (fun hb => absurd hb (by decide)) | refine aw_cond rfl (fun hb => absurd hb (by decide)) (fun _ => ?_) | (refine aw_reg (fun K hK => ?_); simp -implicitDefEqProofs; refine hK _ ?_) | (refine aw_drw mixd (fun K hK => ?_); simp -implicitDefEqProofs; refine hK _ _ (by rfl) ?_) | fail)
  refine aw_lp (ι := Nat) (fun k => mkSt [(0, vPs prs), (3, .v (.c (.row 0 2 ((turnP (prs.take k)).map pcc)))), (4, vI (k : Nat))] [some (.row 54 2)]) (fun k => k ≤ prs.length) (fun k => prs.length - k) 0 (Nat.zero_le _) (cov_intro [1] (by simp -implicitDefEqProofs [turnP]) (by simp -implicitDefEqProofs [turnP]) (by decide) rfl (by simp)) (fun Z hI k hk => ?_)
  by_cases hkl : k < prs.length; rotate_left
  · have : k = prs.length := by omega
    subst this
    rw [List.take_length]
    repeat (first | refine aw_seq ?_ | refine aw_skip ?_ | refine aw_block ?_ | refine aw_exit ?_ | refine aw_cond rfl (fun _ => ?_) (fun hb => absurd hb (by decide)) | refine aw_cond rfl (fun hb => absurd hb (by decide)) (fun _ => ?_) | (refine aw_reg (fun K hK => ?_); simp -implicitDefEqProofs; refine hK _ ?_) | (refine aw_drw mixd (fun K hK => ?_); simp -implicitDefEqProofs; refine hK _ _ (by rfl) ?_) | fail)
    refine aw_ret (fin_ret ?_); simp -implicitDefEqProofs [FinP, resV, resT] <;> try rfl
  obtain ⟨⟨y1, y2⟩, hy⟩ : ∃ y, prs[k]? = some y := ⟨_, List.getElem?_eq_getElem hkl⟩
  have hy' := (List.getElem?_eq_some_iff.1 hy).2
  have w2 : IntKind.i64.wrap ((k : Nat) + 1 : Int) = (k : Nat) + 1 := i64i _ (by omega) (by omega)
  have hs : turnP (prs.take (k + 1)) = turnP (prs.take k) ++ [(y2, y1)] := by unfold turnP; rw [List.take_add_one, hy]; simp
  obtain ⟨L, hL⟩ : ∃ L, turnP (prs.take k) = L := ⟨_, rfl⟩
  have hLl : L.length = k := by rw [← hL]; unfold turnP; rw [List.length_map, List.length_take]; omega
  rw [hL] at hs ⊢
  have b1 : (k + 1) * 16 ≤ 140737488355328 := by omega
  have b2 : k + 1 ≤ 140737488355328 := by omega
  repeat (first | refine aw_seq ?_ | refine aw_skip ?_ | refine aw_block ?_ | refine aw_exit ?_ | refine aw_cond rfl (fun _ => ?_) (fun hb => absurd hb (by decide)) | refine aw_cond rfl (fun hb => absurd hb (by decide)) (fun _ => ?_) | (refine aw_reg (fun K hK => ?_); simp -implicitDefEqProofs [hkl, hy, hy', hLl, b1, b2, w2]; refine hK _ ?_) | (refine aw_drw mixd (fun K hK => ?_); simp -implicitDefEqProofs [hkl, hy, hy', hLl, b1, b2, w2]; refine hK _ _ (by rfl) ?_) | fail)
  refine ⟨k + 1, by omega, (by dsimp only; omega), ?_⟩; rw [hI]; exact cov_intro [109] (by simp -implicitDefEqProofs [hs]) (by simp -implicitDefEqProofs [hs]) (by decide) rfl (by simp)
set_option maxRecDepth 100000 in
set_option maxHeartbeats 4000000 in
theorem types_row (f g : Fc) (hf : okF f) (hg : okF g) : Row Try.prog 116 [vF f, vF g] [] (vB (typesF f g)) [] := by
  obtain ⟨fn, fp, ⟨frx, frl⟩, fd⟩ := f
  obtain ⟨gn, gp, ⟨grx, grl⟩, gd⟩ := g
  obtain ⟨f1, f2, f3⟩ := hf
  obtain ⟨g1, g2, g3⟩ := hg
  dsimp only at f1 f2 f3 g1 g2 g3
  have h := rsame_row (.mk frx frl) f3 (.mk grx grl) g3
  refine row_of Try.func116 rfl rfl (Nat.le_of_ble_eq_true rfl) ?_
  by_cases hl : fp.length = gp.length; rotate_left
  · have hl' : ¬ (fp.length : Int) = gp.length := by omega
    repeat (first | refine aw_seq ?_ | refine aw_skip ?_ | refine aw_block ?_ | refine aw_exit ?_ | refine aw_cond rfl (fun _ => ?_) (fun hb => absurd hb (by decide)) | refine aw_cond rfl (fun hb => absurd hb (by decide)) (fun _ => ?_) | (refine aw_reg (fun K hK => ?_); simp -implicitDefEqProofs [hl, hl']; refine hK _ ?_) | (refine aw_drw mixd (fun K hK => ?_); simp -implicitDefEqProofs [hl, hl']; refine hK _ _ (by rfl) ?_) | fail)
    refine aw_ret (fin_ret ?_); simp -implicitDefEqProofs [FinP, resV, resT, typesF, hl] <;> try rfl
  by_cases hr : same (.mk frx frl) (.mk grx grl) = true; rotate_left
  · have hr : same (.mk frx frl) (.mk grx grl) = false := by simpa using hr
    rw [hr] at h
    repeat' (first | refine aw_seq ?_ | refine aw_skip ?_ | refine aw_block ?_ | refine aw_exit ?_ | refine aw_cond rfl (fun _ => ?_) (fun hb => absurd hb (by decide)) | refine aw_cond rfl (fun hb => absurd hb (by decide)) (fun _ => ?_) | (refine aw_reg (fun K hK => ?_); simp -implicitDefEqProofs [hl]) | (refine aw_drw mixd (fun K hK => ?_); simp -implicitDefEqProofs [hl]) | refine hK _ ?_ | refine hK _ _ (by rfl) ?_ | (refine ar_call (call_pure (h) ?_ ?_ rfl ?_); (focus (simp [*]; done)); (focus (first | exact (fun _ => rfl) | exact (vT_ren _) | exact (vLs_ren _) | exact (vTB_ren _) | (intro ρ; simp [AV.ren, AT.ren, AC.ren]; done))); simp -implicitDefEqProofs [hl]) | (refine ard_call (calld_pure (h) ?_ ?_ rfl ?_); (focus (simp [*]; done)); (focus (first | exact (fun _ => rfl) | exact (vT_ren _) | exact (vLs_ren _) | exact (vTB_ren _) | (intro ρ; simp [AV.ren, AT.ren, AC.ren]; done))); simp -implicitDefEqProofs [hl]) | fail)
    refine aw_ret (fin_ret ?_); simp -implicitDefEqProofs [FinP, resV, resT, typesF, hr] <;> try rfl
  rw [hr] at h
  repeat' (first | refine aw_seq ?_ | refine aw_skip ?_ | refine aw_block ?_ | refine aw_exit ?_ | refine aw_cond rfl (fun _ => ?_) (fun hb => absurd hb (by decide)) | refine aw_cond rfl (fun hb => absurd hb (by decide)) (fun _ => ?_) | (refine aw_reg (fun K hK => ?_); simp -implicitDefEqProofs [hl]) | (refine aw_drw mixd (fun K hK => ?_); simp -implicitDefEqProofs [hl]) | refine hK _ ?_ | refine hK _ _ (by rfl) ?_ | (refine ar_call (call_pure (h) ?_ ?_ rfl ?_); (focus (simp [*]; done)); (focus (first | exact (fun _ => rfl) | exact (vT_ren _) | exact (vLs_ren _) | exact (vTB_ren _) | (intro ρ; simp [AV.ren, AT.ren, AC.ren]; done))); simp -implicitDefEqProofs [hl]) | (refine ard_call (calld_pure (h) ?_ ?_ rfl ?_); (focus (simp [*]; done)); (focus (first | exact (fun _ => rfl) | exact (vT_ren _) | exact (vLs_ren _) | exact (vTB_ren _) | (intro ρ; simp [AV.ren, AT.ren, AC.ren]; done))); simp -implicitDefEqProofs [hl]) | fail)
  refine aw_lp (ι := Nat) (fun k => mkSt [(2, .v (.c (.ptr 0 0))), (3, .v (.c (.ptr 1 0))), (5, vI (k : Nat))] [some (.box ((fcc ⟨fn, fp, .mk frx frl, fd⟩).map .pv)), some (.box ((fcc ⟨gn, gp, .mk grx grl, gd⟩).map .pv))]) (fun k => k ≤ fp.length ∧ zipA same fp gp k = true) (fun k => fp.length - k) 0 ⟨Nat.zero_le _, zipA_zero _ _ _⟩ (cov_intro [0, 1] (by simp -implicitDefEqProofs [hl]) (by simp -implicitDefEqProofs [hl]) (by decide) rfl (by simp)) (fun Z hI k hkz => ?_)
  obtain ⟨hkl', hz⟩ := hkz
  by_cases hkl : k < fp.length; rotate_left
  · have : k = fp.length := by omega
    subst this
    have e : typesF ⟨fn, fp, .mk frx frl, fd⟩ ⟨gn, gp, .mk grx grl, gd⟩ = true := by unfold typesF; rw [hz, hr]; simp [hl]
    rw [e]
    repeat (first | refine aw_seq ?_ | refine aw_skip ?_ | refine aw_block ?_ | refine aw_exit ?_ | refine aw_cond rfl (fun _ => ?_) (fun hb => absurd hb (by decide)) | refine aw_cond rfl (fun hb => absurd hb (by decide)) (fun _ => ?_) | (refine aw_reg (fun K hK => ?_); simp -implicitDefEqProofs; refine hK _ ?_) | (refine aw_drw mixd (fun K hK => ?_); simp -implicitDefEqProofs; refine hK _ _ (by rfl) ?_) | fail)
    refine aw_ret (fin_ret ?_); simp -implicitDefEqProofs [FinP, resV, resT] <;> try rfl
  have hkm : k < gp.length := by omega
  obtain ⟨⟨ax, al⟩, ha⟩ : ∃ a, fp[k]? = some a := ⟨_, List.getElem?_eq_getElem hkl⟩
  obtain ⟨⟨bx, bl⟩, hb⟩ : ∃ a, gp[k]? = some a := ⟨_, List.getElem?_eq_getElem hkm⟩
  have ha' := (List.getElem?_eq_some_iff.1 ha).2
  have hb' := (List.getElem?_eq_some_iff.1 hb).2
  have w2 : IntKind.i64.wrap ((k : Nat) + 1 : Int) = (k : Nat) + 1 := i64i _ (by omega) (by omega)
  have hzs := zipA_succ (f := same) ha hb
  have hc := rsame_row (.mk ax al) (f2 _ (List.mem_of_getElem? ha)) (.mk bx bl) (g2 _ (List.mem_of_getElem? hb))
  by_cases hs : same (.mk ax al) (.mk bx bl) = true
  · rw [hs] at hc
    clear h
    repeat' (first | refine aw_seq ?_ | refine aw_skip ?_ | refine aw_block ?_ | refine aw_exit ?_ | refine aw_cond rfl (fun _ => ?_) (fun hb => absurd hb (by decide)) | refine aw_cond rfl (fun hb => absurd hb (by decide)) (fun _ => ?_) | (refine aw_reg (fun K hK => ?_); simp -implicitDefEqProofs [hkl, hkm, ha, ha', hb, hb', w2]) | (refine aw_drw mixd (fun K hK => ?_); simp -implicitDefEqProofs [hkl, hkm, ha, ha', hb, hb', w2]) | refine hK _ ?_ | refine hK _ _ (by rfl) ?_ | (refine ar_call (call_pure (hc) ?_ ?_ rfl ?_); (focus (simp [*]; done)); (focus (first | exact (fun _ => rfl) | exact (vT_ren _) | exact (vLs_ren _) | exact (vTB_ren _) | (intro ρ; simp [AV.ren, AT.ren, AC.ren]; done))); simp -implicitDefEqProofs [hkl, hkm, ha, ha', hb, hb', w2]) | (refine ard_call (calld_pure (hc) ?_ ?_ rfl ?_); (focus (simp [*]; done)); (focus (first | exact (fun _ => rfl) | exact (vT_ren _) | exact (vLs_ren _) | exact (vTB_ren _) | (intro ρ; simp [AV.ren, AT.ren, AC.ren]; done))); simp -implicitDefEqProofs [hkl, hkm, ha, ha', hb, hb', w2]) | fail)
    refine ⟨k + 1, ⟨by omega, by rw [hzs, hz, hs]; rfl⟩, (by dsimp only; omega), ?_⟩
    rw [hI]; exact cov_intro [0, 1] (by simp -implicitDefEqProofs) (by simp -implicitDefEqProofs) (by decide) rfl (by simp)
  · have hs : same (.mk ax al) (.mk bx bl) = false := by simpa using hs
    rw [hs] at hc
    clear h
    repeat' (first | refine aw_seq ?_ | refine aw_skip ?_ | refine aw_block ?_ | refine aw_exit ?_ | refine aw_cond rfl (fun _ => ?_) (fun hb => absurd hb (by decide)) | refine aw_cond rfl (fun hb => absurd hb (by decide)) (fun _ => ?_) | (refine aw_reg (fun K hK => ?_); simp -implicitDefEqProofs [hkl, hkm, ha, ha', hb, hb', w2]) | (refine aw_drw mixd (fun K hK => ?_); simp -implicitDefEqProofs [hkl, hkm, ha, ha', hb, hb', w2]) | refine hK _ ?_ | refine hK _ _ (by rfl) ?_ | (refine ar_call (call_pure (hc) ?_ ?_ rfl ?_); (focus (simp [*]; done)); (focus (first | exact (fun _ => rfl) | exact (vT_ren _) | exact (vLs_ren _) | exact (vTB_ren _) | (intro ρ; simp [AV.ren, AT.ren, AC.ren]; done))); simp -implicitDefEqProofs [hkl, hkm, ha, ha', hb, hb', w2]) | (refine ard_call (calld_pure (hc) ?_ ?_ rfl ?_); (focus (simp [*]; done)); (focus (first | exact (fun _ => rfl) | exact (vT_ren _) | exact (vLs_ren _) | exact (vTB_ren _) | (intro ρ; simp [AV.ren, AT.ren, AC.ren]; done))); simp -implicitDefEqProofs [hkl, hkm, ha, ha', hb, hb', w2]) | fail)
    have e : zipA same fp gp fp.length = false := by
      have := zipA_mono (fp.length - (k + 1)) (show zipA same fp gp (k + 1) = false by rw [hzs, hz, hs]; rfl)
      rwa [show k + 1 + (fp.length - (k + 1)) = fp.length by omega] at this
    refine aw_ret (fin_ret ?_); simp -implicitDefEqProofs [FinP, resV, resT, typesF, e] <;> try rfl
set_option maxRecDepth 100000 in
set_option maxHeartbeats 4000000 in
theorem half_row (p q : List Fc) (prs : List Pr) (hp : p.length ≤ 1000000) (hq : q.length ≤ 1000000) (hr : prs.length ≤ 1000000) (kp : ∀ f ∈ p, okF f) (kq : ∀ f ∈ q, okF f) : Row Try.prog 67 [vFs p, vFs q, vPs prs] [] (vB (p.all (goesF q prs))) [] := by
  have ht := rturned_row prs hr
  refine row_of Try.func67 rfl rfl (Nat.le_of_ble_eq_true rfl) ?_
  repeat (first | refine aw_seq ?_ | refine aw_skip ?_ | refine aw_block ?_ | refine aw_exit ?_ | refine aw_cond rfl (fun _ => ?_) (fun hb => absurd hb (by decide)) | refine aw_cond rfl (fun hb => absurd hb (by decide)) (fun _ => ?_) | (refine aw_reg (fun K hK => ?_); simp -implicitDefEqProofs; refine hK _ ?_) | (refine aw_drw mixd (fun K hK => ?_); simp -implicitDefEqProofs; refine hK _ _ (by rfl) ?_) | fail)
  refine aw_lp (ι := Nat) (fun k => mkSt [(0, vFs p), (1, vFs q), (2, vPs prs), (7, vI (k : Nat))] []) (fun k => k ≤ p.length ∧ (p.take k).all (goesF q prs) = true) (fun k => p.length - k) 0 ⟨Nat.zero_le _, all_take0 _ _⟩ (cov_intro [] (by simp -implicitDefEqProofs) (by simp -implicitDefEqProofs) (by decide) rfl (by simp)) (fun Z hI k hk => ?_)
  obtain ⟨hk, hz⟩ := hk
  by_cases hkl : k < p.length; rotate_left
  · have : k = p.length := by omega
    subst this
    rw [List.take_length] at hz
    rw [hz]
    repeat (first | refine aw_seq ?_ | refine aw_skip ?_ | refine aw_block ?_ | refine aw_exit ?_ | refine aw_cond rfl (fun _ => ?_) (fun hb => absurd hb (by decide)) | refine aw_cond rfl (fun hb => absurd hb (by decide)) (fun _ => ?_) | (refine aw_reg (fun K hK => ?_); simp -implicitDefEqProofs; refine hK _ ?_) | (refine aw_drw mixd (fun K hK => ?_); simp -implicitDefEqProofs; refine hK _ _ (by rfl) ?_) | fail)
    refine aw_ret (fin_ret ?_); simp -implicitDefEqProofs [FinP, resV, resT] <;> try rfl
  obtain ⟨f, hy⟩ : ∃ y, p[k]? = some y := ⟨_, List.getElem?_eq_getElem hkl⟩
  have hy' := (List.getElem?_eq_some_iff.1 hy).2
  have hs := all_succ (f := goesF q prs) hy
  have hno := fun h => all_no (f := goesF q prs) hy h
  have kf := kp f (List.mem_of_getElem? hy)
  have w2 : IntKind.i64.wrap ((k : Nat) + 1 : Int) = (k : Nat) + 1 := i64i _ (by omega) (by omega)
  have ho := on_row prs f.decl hr
  have hb := fun b => on_row (turnP prs) b (by unfold turnP; rw [List.length_map]; exact hr)
  obtain ⟨gb, hgb⟩ : ∃ gb, goesF q prs f = gb := ⟨_, rfl⟩
  have hg := hgb
  rw [hgb] at hs hno
  unfold goesF at hg
  unfold onT at ho hb
  cases h1 : onP prs f.decl with
  | none =>
    rw [h1] at ho hg
    dsimp only at hg
    subst hg
    rw [hno rfl]
    obtain ⟨rb, hrb⟩ : ∃ rb, (match onP (turnP prs) 0 with | some x => (x.2, true) | none => ((0 : Int), false)) = rb := ⟨_, rfl⟩
    have hb0 := hb 0
    rw [hrb] at hb0
    obtain ⟨r1, r2⟩ := rb
    obtain ⟨fn, fp, ⟨frx, frl⟩, fd⟩ := f
    clear hb hs hno
    cases hf0 : findF q 0 with
    | none =>
      have hfi := find_no q 0 hq hf0
      repeat' (first | refine aw_seq ?_ | refine aw_skip ?_ | refine aw_block ?_ | refine aw_exit ?_ | refine aw_cond rfl (fun _ => ?_) (fun hb => absurd hb (by decide)) | refine aw_cond rfl (fun hb => absurd hb (by decide)) (fun _ => ?_) | (refine aw_reg (fun K hK => ?_); simp -implicitDefEqProofs [hkl, hy, hy', w2]) | (refine aw_drw mixd (fun K hK => ?_); simp -implicitDefEqProofs [hkl, hy, hy', w2]) | refine hK _ ?_ | refine hK _ _ (by rfl) ?_ | (refine ar_call (call_pure (ho) ?_ ?_ rfl ?_); (focus (simp [*]; done)); (focus (first | exact (fun _ => rfl) | exact (vT_ren _) | exact (vLs_ren _) | exact (vTB_ren _) | (intro ρ; simp [AV.ren, AT.ren, AC.ren]; done))); simp -implicitDefEqProofs [hkl, hy, hy', w2]) | (refine ard_call (calld_pure (ho) ?_ ?_ rfl ?_); (focus (simp [*]; done)); (focus (first | exact (fun _ => rfl) | exact (vT_ren _) | exact (vLs_ren _) | exact (vTB_ren _) | (intro ρ; simp [AV.ren, AT.ren, AC.ren]; done))); simp -implicitDefEqProofs [hkl, hy, hy', w2]) | (refine ar_call (call_pure (ht) ?_ ?_ rfl ?_); (focus (simp [*]; done)); (focus (first | exact (fun _ => rfl) | exact (vT_ren _) | exact (vLs_ren _) | exact (vTB_ren _) | (intro ρ; simp [AV.ren, AT.ren, AC.ren]; done))); simp -implicitDefEqProofs [hkl, hy, hy', w2]) | (refine ard_call (calld_pure (ht) ?_ ?_ rfl ?_); (focus (simp [*]; done)); (focus (first | exact (fun _ => rfl) | exact (vT_ren _) | exact (vLs_ren _) | exact (vTB_ren _) | (intro ρ; simp [AV.ren, AT.ren, AC.ren]; done))); simp -implicitDefEqProofs [hkl, hy, hy', w2]) | (refine ar_call (call_pure (hb0) ?_ ?_ rfl ?_); (focus (simp [*]; done)); (focus (first | exact (fun _ => rfl) | exact (vT_ren _) | exact (vLs_ren _) | exact (vTB_ren _) | (intro ρ; simp [AV.ren, AT.ren, AC.ren]; done))); simp -implicitDefEqProofs [hkl, hy, hy', w2]) | (refine ard_call (calld_pure (hb0) ?_ ?_ rfl ?_); (focus (simp [*]; done)); (focus (first | exact (fun _ => rfl) | exact (vT_ren _) | exact (vLs_ren _) | exact (vTB_ren _) | (intro ρ; simp [AV.ren, AT.ren, AC.ren]; done))); simp -implicitDefEqProofs [hkl, hy, hy', w2]) | (refine ar_call (call_pure (hfi) ?_ ?_ rfl ?_); (focus (simp [*]; done)); (focus (first | exact (fun _ => rfl) | exact (vT_ren _) | exact (vLs_ren _) | exact (vTB_ren _) | (intro ρ; simp [AV.ren, AT.ren, AC.ren]; done))); simp -implicitDefEqProofs [hkl, hy, hy', w2]) | (refine ard_call (calld_pure (hfi) ?_ ?_ rfl ?_); (focus (simp [*]; done)); (focus (first | exact (fun _ => rfl) | exact (vT_ren _) | exact (vLs_ren _) | exact (vTB_ren _) | (intro ρ; simp [AV.ren, AT.ren, AC.ren]; done))); simp -implicitDefEqProofs [hkl, hy, hy', w2]) | fail)
      refine aw_ret (fin_ret ?_); simp -implicitDefEqProofs [FinP, resV, resT] <;> try rfl
    | some g =>
      obtain ⟨j, j1, j2, j3⟩ := find_split hf0
      have hfi := find_yes q 0 hq g j j1 j2 j3
      repeat' (first | refine aw_seq ?_ | refine aw_skip ?_ | refine aw_block ?_ | refine aw_exit ?_ | refine aw_cond rfl (fun _ => ?_) (fun hb => absurd hb (by decide)) | refine aw_cond rfl (fun hb => absurd hb (by decide)) (fun _ => ?_) | (refine aw_reg (fun K hK => ?_); simp -implicitDefEqProofs [hkl, hy, hy', w2]) | (refine aw_drw mixd (fun K hK => ?_); simp -implicitDefEqProofs [hkl, hy, hy', w2]) | refine hK _ ?_ | refine hK _ _ (by rfl) ?_ | (refine ar_call (call_pure (ho) ?_ ?_ rfl ?_); (focus (simp [*]; done)); (focus (first | exact (fun _ => rfl) | exact (vT_ren _) | exact (vLs_ren _) | exact (vTB_ren _) | (intro ρ; simp [AV.ren, AT.ren, AC.ren]; done))); simp -implicitDefEqProofs [hkl, hy, hy', w2]) | (refine ard_call (calld_pure (ho) ?_ ?_ rfl ?_); (focus (simp [*]; done)); (focus (first | exact (fun _ => rfl) | exact (vT_ren _) | exact (vLs_ren _) | exact (vTB_ren _) | (intro ρ; simp [AV.ren, AT.ren, AC.ren]; done))); simp -implicitDefEqProofs [hkl, hy, hy', w2]) | (refine ar_call (call_pure (ht) ?_ ?_ rfl ?_); (focus (simp [*]; done)); (focus (first | exact (fun _ => rfl) | exact (vT_ren _) | exact (vLs_ren _) | exact (vTB_ren _) | (intro ρ; simp [AV.ren, AT.ren, AC.ren]; done))); simp -implicitDefEqProofs [hkl, hy, hy', w2]) | (refine ard_call (calld_pure (ht) ?_ ?_ rfl ?_); (focus (simp [*]; done)); (focus (first | exact (fun _ => rfl) | exact (vT_ren _) | exact (vLs_ren _) | exact (vTB_ren _) | (intro ρ; simp [AV.ren, AT.ren, AC.ren]; done))); simp -implicitDefEqProofs [hkl, hy, hy', w2]) | (refine ar_call (call_pure (hb0) ?_ ?_ rfl ?_); (focus (simp [*]; done)); (focus (first | exact (fun _ => rfl) | exact (vT_ren _) | exact (vLs_ren _) | exact (vTB_ren _) | (intro ρ; simp [AV.ren, AT.ren, AC.ren]; done))); simp -implicitDefEqProofs [hkl, hy, hy', w2]) | (refine ard_call (calld_pure (hb0) ?_ ?_ rfl ?_); (focus (simp [*]; done)); (focus (first | exact (fun _ => rfl) | exact (vT_ren _) | exact (vLs_ren _) | exact (vTB_ren _) | (intro ρ; simp [AV.ren, AT.ren, AC.ren]; done))); simp -implicitDefEqProofs [hkl, hy, hy', w2]) | (refine ar_call (call_pure (hfi) ?_ ?_ rfl ?_); (focus (simp [*]; done)); (focus (first | exact (fun _ => rfl) | exact (vT_ren _) | exact (vLs_ren _) | exact (vTB_ren _) | (intro ρ; simp [AV.ren, AT.ren, AC.ren]; done))); simp -implicitDefEqProofs [hkl, hy, hy', w2]) | (refine ard_call (calld_pure (hfi) ?_ ?_ rfl ?_); (focus (simp [*]; done)); (focus (first | exact (fun _ => rfl) | exact (vT_ren _) | exact (vLs_ren _) | exact (vTB_ren _) | (intro ρ; simp [AV.ren, AT.ren, AC.ren]; done))); simp -implicitDefEqProofs [hkl, hy, hy', w2]) | fail)
      refine aw_ret (fin_ret ?_); simp -implicitDefEqProofs [FinP, resV, resT] <;> try rfl
  | some x =>
    rw [h1] at ho hg
    dsimp only at hg ho
    obtain ⟨z, hzz⟩ := back_some h1
    have hb1 := hb x.2
    rw [hzz] at hb1 hg
    dsimp only at hb1 hg
    clear hb
    cases hf0 : findF q x.2 with
    | none =>
      rw [hf0] at hg
      dsimp only at hg
      subst hg
      rw [hno rfl]
      have hfi := find_no q x.2 hq hf0
      obtain ⟨fn, fp, ⟨frx, frl⟩, fd⟩ := f
      repeat' (first | refine aw_seq ?_ | refine aw_skip ?_ | refine aw_block ?_ | refine aw_exit ?_ | refine aw_cond rfl (fun _ => ?_) (fun hb => absurd hb (by decide)) | refine aw_cond rfl (fun hb => absurd hb (by decide)) (fun _ => ?_) | (refine aw_reg (fun K hK => ?_); simp -implicitDefEqProofs [hkl, hy, hy', w2]) | (refine aw_drw mixd (fun K hK => ?_); simp -implicitDefEqProofs [hkl, hy, hy', w2]) | refine hK _ ?_ | refine hK _ _ (by rfl) ?_ | (refine ar_call (call_pure (ho) ?_ ?_ rfl ?_); (focus (simp [*]; done)); (focus (first | exact (fun _ => rfl) | exact (vT_ren _) | exact (vLs_ren _) | exact (vTB_ren _) | (intro ρ; simp [AV.ren, AT.ren, AC.ren]; done))); simp -implicitDefEqProofs [hkl, hy, hy', w2]) | (refine ard_call (calld_pure (ho) ?_ ?_ rfl ?_); (focus (simp [*]; done)); (focus (first | exact (fun _ => rfl) | exact (vT_ren _) | exact (vLs_ren _) | exact (vTB_ren _) | (intro ρ; simp [AV.ren, AT.ren, AC.ren]; done))); simp -implicitDefEqProofs [hkl, hy, hy', w2]) | (refine ar_call (call_pure (ht) ?_ ?_ rfl ?_); (focus (simp [*]; done)); (focus (first | exact (fun _ => rfl) | exact (vT_ren _) | exact (vLs_ren _) | exact (vTB_ren _) | (intro ρ; simp [AV.ren, AT.ren, AC.ren]; done))); simp -implicitDefEqProofs [hkl, hy, hy', w2]) | (refine ard_call (calld_pure (ht) ?_ ?_ rfl ?_); (focus (simp [*]; done)); (focus (first | exact (fun _ => rfl) | exact (vT_ren _) | exact (vLs_ren _) | exact (vTB_ren _) | (intro ρ; simp [AV.ren, AT.ren, AC.ren]; done))); simp -implicitDefEqProofs [hkl, hy, hy', w2]) | (refine ar_call (call_pure (hb1) ?_ ?_ rfl ?_); (focus (simp [*]; done)); (focus (first | exact (fun _ => rfl) | exact (vT_ren _) | exact (vLs_ren _) | exact (vTB_ren _) | (intro ρ; simp [AV.ren, AT.ren, AC.ren]; done))); simp -implicitDefEqProofs [hkl, hy, hy', w2]) | (refine ard_call (calld_pure (hb1) ?_ ?_ rfl ?_); (focus (simp [*]; done)); (focus (first | exact (fun _ => rfl) | exact (vT_ren _) | exact (vLs_ren _) | exact (vTB_ren _) | (intro ρ; simp [AV.ren, AT.ren, AC.ren]; done))); simp -implicitDefEqProofs [hkl, hy, hy', w2]) | (refine ar_call (call_pure (hfi) ?_ ?_ rfl ?_); (focus (simp [*]; done)); (focus (first | exact (fun _ => rfl) | exact (vT_ren _) | exact (vLs_ren _) | exact (vTB_ren _) | (intro ρ; simp [AV.ren, AT.ren, AC.ren]; done))); simp -implicitDefEqProofs [hkl, hy, hy', w2]) | (refine ard_call (calld_pure (hfi) ?_ ?_ rfl ?_); (focus (simp [*]; done)); (focus (first | exact (fun _ => rfl) | exact (vT_ren _) | exact (vLs_ren _) | exact (vTB_ren _) | (intro ρ; simp [AV.ren, AT.ren, AC.ren]; done))); simp -implicitDefEqProofs [hkl, hy, hy', w2]) | fail)
      refine aw_ret (fin_ret ?_); simp -implicitDefEqProofs [FinP, resV, resT] <;> try rfl
    | some g =>
      rw [hf0] at hg
      dsimp only at hg
      obtain ⟨j, j1, j2, j3⟩ := find_split hf0
      have hfi := find_yes q x.2 hq g j j1 j2 j3
      have hjl := (List.getElem?_eq_some_iff.1 j1).1
      have j1' := (List.getElem?_eq_some_iff.1 j1).2
      have hj0 : ¬ (j : Int) < 0 := by omega
      have hty := types_row f g kf (kq g (List.mem_of_getElem? j1))
      obtain ⟨tb, htb⟩ : ∃ tb, typesF f g = tb := ⟨_, rfl⟩
      rw [htb] at hty hg
      by_cases hd : z.2 = f.decl; rotate_left
      · have : gb = false := by rw [← hg]; simp [hd]
        subst this
        rw [hno rfl]
        obtain ⟨fn, fp, ⟨frx, frl⟩, fd⟩ := f
        obtain ⟨gn, gp, ⟨grx, grl⟩, gd⟩ := g
        repeat' (first | refine aw_seq ?_ | refine aw_skip ?_ | refine aw_block ?_ | refine aw_exit ?_ | refine aw_cond rfl (fun _ => ?_) (fun hb => absurd hb (by decide)) | refine aw_cond rfl (fun hb => absurd hb (by decide)) (fun _ => ?_) | (refine aw_reg (fun K hK => ?_); simp -implicitDefEqProofs [hkl, hy, hy', w2, hd, hj0]) | (refine aw_drw mixd (fun K hK => ?_); simp -implicitDefEqProofs [hkl, hy, hy', w2, hd, hj0]) | refine hK _ ?_ | refine hK _ _ (by rfl) ?_ | (refine ar_call (call_pure (ho) ?_ ?_ rfl ?_); (focus (simp [*]; done)); (focus (first | exact (fun _ => rfl) | exact (vT_ren _) | exact (vLs_ren _) | exact (vTB_ren _) | (intro ρ; simp [AV.ren, AT.ren, AC.ren]; done))); simp -implicitDefEqProofs [hkl, hy, hy', w2, hd, hj0]) | (refine ard_call (calld_pure (ho) ?_ ?_ rfl ?_); (focus (simp [*]; done)); (focus (first | exact (fun _ => rfl) | exact (vT_ren _) | exact (vLs_ren _) | exact (vTB_ren _) | (intro ρ; simp [AV.ren, AT.ren, AC.ren]; done))); simp -implicitDefEqProofs [hkl, hy, hy', w2, hd, hj0]) | (refine ar_call (call_pure (ht) ?_ ?_ rfl ?_); (focus (simp [*]; done)); (focus (first | exact (fun _ => rfl) | exact (vT_ren _) | exact (vLs_ren _) | exact (vTB_ren _) | (intro ρ; simp [AV.ren, AT.ren, AC.ren]; done))); simp -implicitDefEqProofs [hkl, hy, hy', w2, hd, hj0]) | (refine ard_call (calld_pure (ht) ?_ ?_ rfl ?_); (focus (simp [*]; done)); (focus (first | exact (fun _ => rfl) | exact (vT_ren _) | exact (vLs_ren _) | exact (vTB_ren _) | (intro ρ; simp [AV.ren, AT.ren, AC.ren]; done))); simp -implicitDefEqProofs [hkl, hy, hy', w2, hd, hj0]) | (refine ar_call (call_pure (hb1) ?_ ?_ rfl ?_); (focus (simp [*]; done)); (focus (first | exact (fun _ => rfl) | exact (vT_ren _) | exact (vLs_ren _) | exact (vTB_ren _) | (intro ρ; simp [AV.ren, AT.ren, AC.ren]; done))); simp -implicitDefEqProofs [hkl, hy, hy', w2, hd, hj0]) | (refine ard_call (calld_pure (hb1) ?_ ?_ rfl ?_); (focus (simp [*]; done)); (focus (first | exact (fun _ => rfl) | exact (vT_ren _) | exact (vLs_ren _) | exact (vTB_ren _) | (intro ρ; simp [AV.ren, AT.ren, AC.ren]; done))); simp -implicitDefEqProofs [hkl, hy, hy', w2, hd, hj0]) | (refine ar_call (call_pure (hfi) ?_ ?_ rfl ?_); (focus (simp [*]; done)); (focus (first | exact (fun _ => rfl) | exact (vT_ren _) | exact (vLs_ren _) | exact (vTB_ren _) | (intro ρ; simp [AV.ren, AT.ren, AC.ren]; done))); simp -implicitDefEqProofs [hkl, hy, hy', w2, hd, hj0]) | (refine ard_call (calld_pure (hfi) ?_ ?_ rfl ?_); (focus (simp [*]; done)); (focus (first | exact (fun _ => rfl) | exact (vT_ren _) | exact (vLs_ren _) | exact (vTB_ren _) | (intro ρ; simp [AV.ren, AT.ren, AC.ren]; done))); simp -implicitDefEqProofs [hkl, hy, hy', w2, hd, hj0]) | fail)
        refine aw_ret (fin_ret ?_); simp -implicitDefEqProofs [FinP, resV, resT] <;> try rfl
      have hgt : gb = tb := by rw [← hg]; simp [hd]
      subst hgt
      rw [hd] at hb1
      obtain ⟨fn, fp, ⟨frx, frl⟩, fd⟩ := f
      obtain ⟨gn, gp, ⟨grx, grl⟩, gd⟩ := g
      cases gb
      · rw [hno rfl]
        repeat' (first | refine aw_seq ?_ | refine aw_skip ?_ | refine aw_block ?_ | refine aw_exit ?_ | refine aw_cond rfl (fun _ => ?_) (fun hb => absurd hb (by decide)) | refine aw_cond rfl (fun hb => absurd hb (by decide)) (fun _ => ?_) | (refine aw_reg (fun K hK => ?_); simp -implicitDefEqProofs [hkl, hy, hy', w2, hj0, hjl, j1, j1']) | (refine aw_drw mixd (fun K hK => ?_); simp -implicitDefEqProofs [hkl, hy, hy', w2, hj0, hjl, j1, j1']) | refine hK _ ?_ | refine hK _ _ (by rfl) ?_ | (refine ar_call (call_pure (ho) ?_ ?_ rfl ?_); (focus (simp [*]; done)); (focus (first | exact (fun _ => rfl) | exact (vT_ren _) | exact (vLs_ren _) | exact (vTB_ren _) | (intro ρ; simp [AV.ren, AT.ren, AC.ren]; done))); simp -implicitDefEqProofs [hkl, hy, hy', w2, hj0, hjl, j1, j1']) | (refine ard_call (calld_pure (ho) ?_ ?_ rfl ?_); (focus (simp [*]; done)); (focus (first | exact (fun _ => rfl) | exact (vT_ren _) | exact (vLs_ren _) | exact (vTB_ren _) | (intro ρ; simp [AV.ren, AT.ren, AC.ren]; done))); simp -implicitDefEqProofs [hkl, hy, hy', w2, hj0, hjl, j1, j1']) | (refine ar_call (call_pure (ht) ?_ ?_ rfl ?_); (focus (simp [*]; done)); (focus (first | exact (fun _ => rfl) | exact (vT_ren _) | exact (vLs_ren _) | exact (vTB_ren _) | (intro ρ; simp [AV.ren, AT.ren, AC.ren]; done))); simp -implicitDefEqProofs [hkl, hy, hy', w2, hj0, hjl, j1, j1']) | (refine ard_call (calld_pure (ht) ?_ ?_ rfl ?_); (focus (simp [*]; done)); (focus (first | exact (fun _ => rfl) | exact (vT_ren _) | exact (vLs_ren _) | exact (vTB_ren _) | (intro ρ; simp [AV.ren, AT.ren, AC.ren]; done))); simp -implicitDefEqProofs [hkl, hy, hy', w2, hj0, hjl, j1, j1']) | (refine ar_call (call_pure (hb1) ?_ ?_ rfl ?_); (focus (simp [*]; done)); (focus (first | exact (fun _ => rfl) | exact (vT_ren _) | exact (vLs_ren _) | exact (vTB_ren _) | (intro ρ; simp [AV.ren, AT.ren, AC.ren]; done))); simp -implicitDefEqProofs [hkl, hy, hy', w2, hj0, hjl, j1, j1']) | (refine ard_call (calld_pure (hb1) ?_ ?_ rfl ?_); (focus (simp [*]; done)); (focus (first | exact (fun _ => rfl) | exact (vT_ren _) | exact (vLs_ren _) | exact (vTB_ren _) | (intro ρ; simp [AV.ren, AT.ren, AC.ren]; done))); simp -implicitDefEqProofs [hkl, hy, hy', w2, hj0, hjl, j1, j1']) | (refine ar_call (call_pure (hfi) ?_ ?_ rfl ?_); (focus (simp [*]; done)); (focus (first | exact (fun _ => rfl) | exact (vT_ren _) | exact (vLs_ren _) | exact (vTB_ren _) | (intro ρ; simp [AV.ren, AT.ren, AC.ren]; done))); simp -implicitDefEqProofs [hkl, hy, hy', w2, hj0, hjl, j1, j1']) | (refine ard_call (calld_pure (hfi) ?_ ?_ rfl ?_); (focus (simp [*]; done)); (focus (first | exact (fun _ => rfl) | exact (vT_ren _) | exact (vLs_ren _) | exact (vTB_ren _) | (intro ρ; simp [AV.ren, AT.ren, AC.ren]; done))); simp -implicitDefEqProofs [hkl, hy, hy', w2, hj0, hjl, j1, j1']) | (refine ar_call (call_pure (hty) ?_ ?_ rfl ?_); (focus (simp [*]; done)); (focus (first | exact (fun _ => rfl) | exact (vT_ren _) | exact (vLs_ren _) | exact (vTB_ren _) | (intro ρ; simp [AV.ren, AT.ren, AC.ren]; done))); simp -implicitDefEqProofs [hkl, hy, hy', w2, hj0, hjl, j1, j1']) | (refine ard_call (calld_pure (hty) ?_ ?_ rfl ?_); (focus (simp [*]; done)); (focus (first | exact (fun _ => rfl) | exact (vT_ren _) | exact (vLs_ren _) | exact (vTB_ren _) | (intro ρ; simp [AV.ren, AT.ren, AC.ren]; done))); simp -implicitDefEqProofs [hkl, hy, hy', w2, hj0, hjl, j1, j1']) | fail)
        refine aw_ret (fin_ret ?_); simp -implicitDefEqProofs [FinP, resV, resT] <;> try rfl
      · repeat' (first | refine aw_seq ?_ | refine aw_skip ?_ | refine aw_block ?_ | refine aw_exit ?_ | refine aw_cond rfl (fun _ => ?_) (fun hb => absurd hb (by decide)) | refine aw_cond rfl (fun hb => absurd hb (by decide)) (fun _ => ?_) | (refine aw_reg (fun K hK => ?_); simp -implicitDefEqProofs [hkl, hy, hy', w2, hj0, hjl, j1, j1']) | (refine aw_drw mixd (fun K hK => ?_); simp -implicitDefEqProofs [hkl, hy, hy', w2, hj0, hjl, j1, j1']) | refine hK _ ?_ | refine hK _ _ (by rfl) ?_ | (refine ar_call (call_pure (ho) ?_ ?_ rfl ?_); (focus (simp [*]; done)); (focus (first | exact (fun _ => rfl) | exact (vT_ren _) | exact (vLs_ren _) | exact (vTB_ren _) | (intro ρ; simp [AV.ren, AT.ren, AC.ren]; done))); simp -implicitDefEqProofs [hkl, hy, hy', w2, hj0, hjl, j1, j1']) | (refine ard_call (calld_pure (ho) ?_ ?_ rfl ?_); (focus (simp [*]; done)); (focus (first | exact (fun _ => rfl) | exact (vT_ren _) | exact (vLs_ren _) | exact (vTB_ren _) | (intro ρ; simp [AV.ren, AT.ren, AC.ren]; done))); simp -implicitDefEqProofs [hkl, hy, hy', w2, hj0, hjl, j1, j1']) | (refine ar_call (call_pure (ht) ?_ ?_ rfl ?_); (focus (simp [*]; done)); (focus (first | exact (fun _ => rfl) | exact (vT_ren _) | exact (vLs_ren _) | exact (vTB_ren _) | (intro ρ; simp [AV.ren, AT.ren, AC.ren]; done))); simp -implicitDefEqProofs [hkl, hy, hy', w2, hj0, hjl, j1, j1']) | (refine ard_call (calld_pure (ht) ?_ ?_ rfl ?_); (focus (simp [*]; done)); (focus (first | exact (fun _ => rfl) | exact (vT_ren _) | exact (vLs_ren _) | exact (vTB_ren _) | (intro ρ; simp [AV.ren, AT.ren, AC.ren]; done))); simp -implicitDefEqProofs [hkl, hy, hy', w2, hj0, hjl, j1, j1']) | (refine ar_call (call_pure (hb1) ?_ ?_ rfl ?_); (focus (simp [*]; done)); (focus (first | exact (fun _ => rfl) | exact (vT_ren _) | exact (vLs_ren _) | exact (vTB_ren _) | (intro ρ; simp [AV.ren, AT.ren, AC.ren]; done))); simp -implicitDefEqProofs [hkl, hy, hy', w2, hj0, hjl, j1, j1']) | (refine ard_call (calld_pure (hb1) ?_ ?_ rfl ?_); (focus (simp [*]; done)); (focus (first | exact (fun _ => rfl) | exact (vT_ren _) | exact (vLs_ren _) | exact (vTB_ren _) | (intro ρ; simp [AV.ren, AT.ren, AC.ren]; done))); simp -implicitDefEqProofs [hkl, hy, hy', w2, hj0, hjl, j1, j1']) | (refine ar_call (call_pure (hfi) ?_ ?_ rfl ?_); (focus (simp [*]; done)); (focus (first | exact (fun _ => rfl) | exact (vT_ren _) | exact (vLs_ren _) | exact (vTB_ren _) | (intro ρ; simp [AV.ren, AT.ren, AC.ren]; done))); simp -implicitDefEqProofs [hkl, hy, hy', w2, hj0, hjl, j1, j1']) | (refine ard_call (calld_pure (hfi) ?_ ?_ rfl ?_); (focus (simp [*]; done)); (focus (first | exact (fun _ => rfl) | exact (vT_ren _) | exact (vLs_ren _) | exact (vTB_ren _) | (intro ρ; simp [AV.ren, AT.ren, AC.ren]; done))); simp -implicitDefEqProofs [hkl, hy, hy', w2, hj0, hjl, j1, j1']) | (refine ar_call (call_pure (hty) ?_ ?_ rfl ?_); (focus (simp [*]; done)); (focus (first | exact (fun _ => rfl) | exact (vT_ren _) | exact (vLs_ren _) | exact (vTB_ren _) | (intro ρ; simp [AV.ren, AT.ren, AC.ren]; done))); simp -implicitDefEqProofs [hkl, hy, hy', w2, hj0, hjl, j1, j1']) | (refine ard_call (calld_pure (hty) ?_ ?_ rfl ?_); (focus (simp [*]; done)); (focus (first | exact (fun _ => rfl) | exact (vT_ren _) | exact (vLs_ren _) | exact (vTB_ren _) | (intro ρ; simp [AV.ren, AT.ren, AC.ren]; done))); simp -implicitDefEqProofs [hkl, hy, hy', w2, hj0, hjl, j1, j1']) | fail)
        refine ⟨k + 1, ⟨by omega, by rw [hs, hz]; rfl⟩, (by dsimp only; omega), ?_⟩
        rw [hI]; exact cov_intro [] (by simp -implicitDefEqProofs) (by simp -implicitDefEqProofs) (by decide) rfl (by simp)
end Go.Proofs.Ythifckknijdgfaa.am
