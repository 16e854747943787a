/-
  Layer 18: faces that go over go back.
-/
import Derived.Test.YthifckknijdgfaaFaceLaw
namespace Go.Proofs.Ythifckknijdgfaa.am
open Go.ChangeShapes Go.WideShapes Go.ChangeAt Go.RowKit
open vt
set_option linter.unusedVariables false
set_option linter.unusedSimpArgs false
/-- Each at a place of its own. -/
def Apart (p : List Fc) (k : Nat) : Prop := ∀ i j f g, i < k → j < i → p[i]? = some f → p[j]? = some g → g.decl ≠ f.decl
def selfP (p : List Fc) : List Pr := p.map fun f => (f.decl, f.decl)
theorem find_own {p : List Fc} (h : Apart p p.length) {f : Fc} (hf : f ∈ p) : findF p f.decl = some f := by
  obtain ⟨i, hi⟩ := List.mem_iff_getElem?.1 hf
  have hil := (List.getElem?_eq_some_iff.1 hi).1
  refine find_hit (k := i) ?_ hi (by simp [atD])
  rw [List.all_eq_true]
  intro x hx
  obtain ⟨j, hj⟩ := List.mem_iff_getElem?.1 hx
  rw [List.getElem?_take] at hj
  split at hj
  · have := h i j f x hil (by assumption) hi hj
    simp [atD, this]
  · cases hj
theorem self_on {p : List Fc} {f : Fc} (hf : f ∈ p) : onP (selfP p) f.decl = some (f.decl, f.decl) := by
  cases h : onP (selfP p) f.decl with
  | none =>
    have := List.find?_eq_none.1 h (f.decl, f.decl) (List.mem_map.2 ⟨f, hf, rfl⟩)
    simp [atA] at this
  | some x =>
    have h1 := List.find?_some h
    have h2 := List.mem_of_find?_eq_some h
    obtain ⟨g, _, rfl⟩ := List.mem_map.1 h2
    have : g.decl = f.decl := by simpa [atA] using h1
    rw [this]
theorem self_turn (p : List Fc) : turnP (selfP p) = selfP p := by unfold turnP selfP; rw [List.map_map]; rfl
theorem typesF_refl (f : Fc) : typesF f f = true := by
  unfold typesF
  rw [show same f.ret f.ret = true from same_refl _, zipA_refl (fun y _ => same_refl y)]
  simp
theorem self_goes {p : List Fc} (h : Apart p p.length) {f : Fc} (hf : f ∈ p) : goesF p (selfP p) f = true ∧ nameF p (selfP p) f = (f.name, f.name) := by
  have h1 := self_on hf
  have h2 := find_own h hf
  have ht := typesF_refl f
  constructor
  · unfold goesF; rw [h1]; dsimp only; rw [h2, self_turn, h1]; dsimp only; rw [ht]; simp
  · unfold nameF; rw [h1]; dsimp only; rw [h2]
theorem self_names {p : List Fc} (h : Apart p p.length) : namesF p p (selfP p) = (p.map fun f => (f.name, f.name), true) := by
  unfold namesF
  rw [self_turn, if_pos]
  · congr 1
    exact List.map_congr_left fun f hf => (self_goes h hf).2
  · rw [Bool.and_self, List.all_eq_true]
    exact fun f hf => (self_goes h hf).1
theorem back_names {p q : List Fc} {prs : List Pr} (hg : namesF p q prs = (p.map (nameF q prs), true)) (hb : p.all (goesF q prs) = true ∧ q.all (goesF p (turnP prs)) = true) : namesF q p (turnP prs) = (q.map (nameF p (turnP prs)), true) := by
  unfold namesF
  rw [turn_turn, if_pos]
  rw [hb.1, hb.2]; rfl
theorem back_at {p q : List Fc} {prs : List Pr} (h : Apart p p.length) (hb : p.all (goesF q prs) = true ∧ q.all (goesF p (turnP prs)) = true) {f : Fc} (hf : f ∈ p) : ∃ g ∈ q, nameF p (turnP prs) g = ((nameF q prs f).2, (nameF q prs f).1) := by
  have hgo := List.all_eq_true.1 hb.1 f hf
  obtain ⟨x, g, g1, g2, g3⟩ := goes_parts hgo
  have hd : g.decl = x.2 := by
    have := List.find?_some g2
    simpa [atD] using this
  refine ⟨g, List.mem_of_find?_eq_some g2, ?_⟩
  unfold goesF at hgo
  rw [g1] at hgo
  dsimp only at hgo
  rw [g2] at hgo
  dsimp only at hgo
  obtain ⟨z, hz⟩ := back_some g1
  rw [hz] at hgo
  rw [Bool.and_eq_true] at hgo
  have hz2 : z.2 = f.decl := by simpa using hgo.1
  unfold nameF
  rw [hd, hz]
  dsimp only
  rw [hz2, find_own h hf]
  dsimp only
  rw [g1]
  dsimp only
  rw [g2]
set_option maxRecDepth 100000 in
set_option maxHeartbeats 4000000 in
theorem law_back_row (p q : List Fc) (prs : List Pr) : Row Try.prog 8 [vFs p, vFs q, vPs prs] [] (vB true) [] := by
  have h1 := rlargeF_row p
  have h2 := rlargeF_row q
  obtain ⟨b1, hb1⟩ : ∃ b, lgFs p = b := ⟨_, rfl⟩
  obtain ⟨b2, hb2⟩ : ∃ b, lgFs q = b := ⟨_, rfl⟩
  rw [hb1] at h1
  rw [hb2] at h2
  have haw := awake18_row
  refine row_of Try.func8 rfl rfl (Nat.le_of_ble_eq_true rfl) ?_
  cases b1; rotate_left
  · repeat' (first | refine aw_seq ?_ | refine aw_skip ?_ | refine aw_block ?_ | refine aw_exit ?_ | refine aw_cond rfl (fun _ => ?_) (fun hb => absurd hb (by decide)) | refine aw_cond rfl (fun hb => absurd hb (by decide)) (fun _ => ?_) | (refine aw_reg (fun K hK => ?_); simp -implicitDefEqProofs) | (refine aw_drw mixd (fun K hK => ?_); simp -implicitDefEqProofs) | refine hK _ ?_ | refine hK _ _ (by rfl) ?_ | (refine ar_call (call_pure (h1) ?_ ?_ rfl ?_); (focus (simp [*]; done)); (focus (first | exact (fun _ => rfl) | exact (vT_ren _) | exact (vLs_ren _) | exact (vTB_ren _) | (intro ρ; simp [AV.ren, AT.ren, AC.ren]; done))); simp -implicitDefEqProofs) | (refine ard_call (calld_pure (h1) ?_ ?_ rfl ?_); (focus (simp [*]; done)); (focus (first | exact (fun _ => rfl) | exact (vT_ren _) | exact (vLs_ren _) | exact (vTB_ren _) | (intro ρ; simp [AV.ren, AT.ren, AC.ren]; done))); simp -implicitDefEqProofs) | (refine ar_call (call_pure (haw) ?_ ?_ rfl ?_); (focus (simp [*]; done)); (focus (first | exact (fun _ => rfl) | exact (vT_ren _) | exact (vLs_ren _) | exact (vTB_ren _) | (intro ρ; simp [AV.ren, AT.ren, AC.ren]; done))); simp -implicitDefEqProofs) | (refine ard_call (calld_pure (haw) ?_ ?_ rfl ?_); (focus (simp [*]; done)); (focus (first | exact (fun _ => rfl) | exact (vT_ren _) | exact (vLs_ren _) | exact (vTB_ren _) | (intro ρ; simp [AV.ren, AT.ren, AC.ren]; done))); simp -implicitDefEqProofs) | fail)
    refine aw_ret (fin_ret ?_); simp -implicitDefEqProofs [FinP, resV, resT] <;> try rfl
  cases b2; rotate_left
  · repeat' (first | refine aw_seq ?_ | refine aw_skip ?_ | refine aw_block ?_ | refine aw_exit ?_ | refine aw_cond rfl (fun _ => ?_) (fun hb => absurd hb (by decide)) | refine aw_cond rfl (fun hb => absurd hb (by decide)) (fun _ => ?_) | (refine aw_reg (fun K hK => ?_); simp -implicitDefEqProofs) | (refine aw_drw mixd (fun K hK => ?_); simp -implicitDefEqProofs) | refine hK _ ?_ | refine hK _ _ (by rfl) ?_ | (refine ar_call (call_pure (h1) ?_ ?_ rfl ?_); (focus (simp [*]; done)); (focus (first | exact (fun _ => rfl) | exact (vT_ren _) | exact (vLs_ren _) | exact (vTB_ren _) | (intro ρ; simp [AV.ren, AT.ren, AC.ren]; done))); simp -implicitDefEqProofs) | (refine ard_call (calld_pure (h1) ?_ ?_ rfl ?_); (focus (simp [*]; done)); (focus (first | exact (fun _ => rfl) | exact (vT_ren _) | exact (vLs_ren _) | exact (vTB_ren _) | (intro ρ; simp [AV.ren, AT.ren, AC.ren]; done))); simp -implicitDefEqProofs) | (refine ar_call (call_pure (h2) ?_ ?_ rfl ?_); (focus (simp [*]; done)); (focus (first | exact (fun _ => rfl) | exact (vT_ren _) | exact (vLs_ren _) | exact (vTB_ren _) | (intro ρ; simp [AV.ren, AT.ren, AC.ren]; done))); simp -implicitDefEqProofs) | (refine ard_call (calld_pure (h2) ?_ ?_ rfl ?_); (focus (simp [*]; done)); (focus (first | exact (fun _ => rfl) | exact (vT_ren _) | exact (vLs_ren _) | exact (vTB_ren _) | (intro ρ; simp [AV.ren, AT.ren, AC.ren]; done))); simp -implicitDefEqProofs) | (refine ar_call (call_pure (haw) ?_ ?_ rfl ?_); (focus (simp [*]; done)); (focus (first | exact (fun _ => rfl) | exact (vT_ren _) | exact (vLs_ren _) | exact (vTB_ren _) | (intro ρ; simp [AV.ren, AT.ren, AC.ren]; done))); simp -implicitDefEqProofs) | (refine ard_call (calld_pure (haw) ?_ ?_ rfl ?_); (focus (simp [*]; done)); (focus (first | exact (fun _ => rfl) | exact (vT_ren _) | exact (vLs_ren _) | exact (vTB_ren _) | (intro ρ; simp [AV.ren, AT.ren, AC.ren]; done))); simp -implicitDefEqProofs) | fail)
    refine aw_ret (fin_ret ?_); simp -implicitDefEqProofs [FinP, resV, resT] <;> try rfl
  by_cases hr : 60 < prs.length
  · have hr' : (60 : Int) < prs.length := by omega
    repeat' (first | refine aw_seq ?_ | refine aw_skip ?_ | refine aw_block ?_ | refine aw_exit ?_ | refine aw_cond rfl (fun _ => ?_) (fun hb => absurd hb (by decide)) | refine aw_cond rfl (fun hb => absurd hb (by decide)) (fun _ => ?_) | (refine aw_reg (fun K hK => ?_); simp -implicitDefEqProofs [hr, hr']) | (refine aw_drw mixd (fun K hK => ?_); simp -implicitDefEqProofs [hr, hr']) | refine hK _ ?_ | refine hK _ _ (by rfl) ?_ | (refine ar_call (call_pure (h1) ?_ ?_ rfl ?_); (focus (simp [*]; done)); (focus (first | exact (fun _ => rfl) | exact (vT_ren _) | exact (vLs_ren _) | exact (vTB_ren _) | (intro ρ; simp [AV.ren, AT.ren, AC.ren]; done))); simp -implicitDefEqProofs [hr, hr']) | (refine ard_call (calld_pure (h1) ?_ ?_ rfl ?_); (focus (simp [*]; done)); (focus (first | exact (fun _ => rfl) | exact (vT_ren _) | exact (vLs_ren _) | exact (vTB_ren _) | (intro ρ; simp [AV.ren, AT.ren, AC.ren]; done))); simp -implicitDefEqProofs [hr, hr']) | (refine ar_call (call_pure (h2) ?_ ?_ rfl ?_); (focus (simp [*]; done)); (focus (first | exact (fun _ => rfl) | exact (vT_ren _) | exact (vLs_ren _) | exact (vTB_ren _) | (intro ρ; simp [AV.ren, AT.ren, AC.ren]; done))); simp -implicitDefEqProofs [hr, hr']) | (refine ard_call (calld_pure (h2) ?_ ?_ rfl ?_); (focus (simp [*]; done)); (focus (first | exact (fun _ => rfl) | exact (vT_ren _) | exact (vLs_ren _) | exact (vTB_ren _) | (intro ρ; simp [AV.ren, AT.ren, AC.ren]; done))); simp -implicitDefEqProofs [hr, hr']) | (refine ar_call (call_pure (haw) ?_ ?_ rfl ?_); (focus (simp [*]; done)); (focus (first | exact (fun _ => rfl) | exact (vT_ren _) | exact (vLs_ren _) | exact (vTB_ren _) | (intro ρ; simp [AV.ren, AT.ren, AC.ren]; done))); simp -implicitDefEqProofs [hr, hr']) | (refine ard_call (calld_pure (haw) ?_ ?_ rfl ?_); (focus (simp [*]; done)); (focus (first | exact (fun _ => rfl) | exact (vT_ren _) | exact (vLs_ren _) | exact (vTB_ren _) | (intro ρ; simp [AV.ren, AT.ren, AC.ren]; done))); simp -implicitDefEqProofs [hr, hr']) | fail)
    refine aw_ret (fin_ret ?_); simp -implicitDefEqProofs [FinP, resV, resT] <;> try rfl
  have hr' : ¬ (60 : Int) < prs.length := by omega
  obtain ⟨p1, p2⟩ := lgFs_ok hb1
  obtain ⟨q1, q2⟩ := lgFs_ok hb2
  repeat' (first | refine aw_seq ?_ | refine aw_skip ?_ | refine aw_block ?_ | refine aw_exit ?_ | refine aw_cond rfl (fun _ => ?_) (fun hb => absurd hb (by decide)) | refine aw_cond rfl (fun hb => absurd hb (by decide)) (fun _ => ?_) | (refine aw_reg (fun K hK => ?_); simp -implicitDefEqProofs [hr, hr']) | (refine aw_drw mixd (fun K hK => ?_); simp -implicitDefEqProofs [hr, hr']) | refine hK _ ?_ | refine hK _ _ (by rfl) ?_ | (refine ar_call (call_pure (h1) ?_ ?_ rfl ?_); (focus (simp [*]; done)); (focus (first | exact (fun _ => rfl) | exact (vT_ren _) | exact (vLs_ren _) | exact (vTB_ren _) | (intro ρ; simp [AV.ren, AT.ren, AC.ren]; done))); simp -implicitDefEqProofs [hr, hr']) | (refine ard_call (calld_pure (h1) ?_ ?_ rfl ?_); (focus (simp [*]; done)); (focus (first | exact (fun _ => rfl) | exact (vT_ren _) | exact (vLs_ren _) | exact (vTB_ren _) | (intro ρ; simp [AV.ren, AT.ren, AC.ren]; done))); simp -implicitDefEqProofs [hr, hr']) | (refine ar_call (call_pure (h2) ?_ ?_ rfl ?_); (focus (simp [*]; done)); (focus (first | exact (fun _ => rfl) | exact (vT_ren _) | exact (vLs_ren _) | exact (vTB_ren _) | (intro ρ; simp [AV.ren, AT.ren, AC.ren]; done))); simp -implicitDefEqProofs [hr, hr']) | (refine ard_call (calld_pure (h2) ?_ ?_ rfl ?_); (focus (simp [*]; done)); (focus (first | exact (fun _ => rfl) | exact (vT_ren _) | exact (vLs_ren _) | exact (vTB_ren _) | (intro ρ; simp [AV.ren, AT.ren, AC.ren]; done))); simp -implicitDefEqProofs [hr, hr']) | fail)
  clear h1 h2 hb1 hb2
  refine aw_lp (ι := Nat) (fun k => mkSt [(0, vFs p), (1, vFs q), (2, vPs prs), (7, .v (.c (.row 0 2 ((selfP (p.take k)).map pcc)))), (8, vI (k : Nat))] [some (.row 54 2)]) (fun k => k ≤ p.length ∧ Apart p k) (fun k => p.length - k) 0 ⟨Nat.zero_le _, fun i j f g h => by omega⟩ (cov_intro [26] (by simp -implicitDefEqProofs [selfP]) (by simp -implicitDefEqProofs [selfP]) (by decide) rfl (by simp)) (fun Z hI k hk => ?_)
  obtain ⟨hk, hap⟩ := hk
  by_cases hkl : k < p.length
  · obtain ⟨f, hy⟩ : ∃ y, p[k]? = some y := ⟨_, List.getElem?_eq_getElem hkl⟩
    have hy' := (List.getElem?_eq_some_iff.1 hy).2
    have w2 : IntKind.i64.wrap ((k : Nat) + 1 : Int) = (k : Nat) + 1 := i64i _ (by omega) (by omega)
    obtain ⟨g, hg⟩ : ∃ g, findF p f.decl = some g := by
      cases h : findF p f.decl with
      | none =>
        have := List.find?_eq_none.1 h f (List.mem_of_getElem? hy)
        simp [atD] at this
      | some g => exact ⟨g, rfl⟩
    obtain ⟨j, j1, j2, j3⟩ := find_split hg
    have hfi := find_yes p f.decl (by omega) g j j1 j2 j3
    have hjk : j ≤ k := by
      rcases Nat.lt_or_ge k j with h | h
      · have := List.all_eq_true.1 j3 f (List.mem_of_getElem? (show (p.take j)[k]? = some f by rw [List.getElem?_take, if_pos h]; exact hy))
        simp [atD] at this
      · exact h
    by_cases hlt : j < k
    · obtain ⟨fn, fp, ⟨frx, frl⟩, fd⟩ := f
      repeat' (first | refine aw_seq ?_ | refine aw_skip ?_ | refine aw_block ?_ | refine aw_exit ?_ | refine aw_cond rfl (fun _ => ?_) (fun hb => absurd hb (by decide)) | refine aw_cond rfl (fun hb => absurd hb (by decide)) (fun _ => ?_) | (refine aw_reg (fun K hK => ?_); simp -implicitDefEqProofs [hkl, hy, hy', w2, hlt]) | (refine aw_drw mixd (fun K hK => ?_); simp -implicitDefEqProofs [hkl, hy, hy', w2, hlt]) | refine hK _ ?_ | refine hK _ _ (by rfl) ?_ | (refine ar_call (call_pure (hfi) ?_ ?_ rfl ?_); (focus (simp [*]; done)); (focus (first | exact (fun _ => rfl) | exact (vT_ren _) | exact (vLs_ren _) | exact (vTB_ren _) | (intro ρ; simp [AV.ren, AT.ren, AC.ren]; done))); simp -implicitDefEqProofs [hkl, hy, hy', w2, hlt]) | (refine ard_call (calld_pure (hfi) ?_ ?_ rfl ?_); (focus (simp [*]; done)); (focus (first | exact (fun _ => rfl) | exact (vT_ren _) | exact (vLs_ren _) | exact (vTB_ren _) | (intro ρ; simp [AV.ren, AT.ren, AC.ren]; done))); simp -implicitDefEqProofs [hkl, hy, hy', w2, hlt]) | (refine ar_call (call_pure (haw) ?_ ?_ rfl ?_); (focus (simp [*]; done)); (focus (first | exact (fun _ => rfl) | exact (vT_ren _) | exact (vLs_ren _) | exact (vTB_ren _) | (intro ρ; simp [AV.ren, AT.ren, AC.ren]; done))); simp -implicitDefEqProofs [hkl, hy, hy', w2, hlt]) | (refine ard_call (calld_pure (haw) ?_ ?_ rfl ?_); (focus (simp [*]; done)); (focus (first | exact (fun _ => rfl) | exact (vT_ren _) | exact (vLs_ren _) | exact (vTB_ren _) | (intro ρ; simp [AV.ren, AT.ren, AC.ren]; done))); simp -implicitDefEqProofs [hkl, hy, hy', w2, hlt]) | fail)
      refine aw_ret (fin_ret ?_); simp -implicitDefEqProofs [FinP, resV, resT] <;> try rfl
    have hje : j = k := by omega
    subst hje
    have hap' : Apart p (j + 1) := fun i j' f' g' hi hj' h1 h2 => by
      by_cases hij : i = j
      · subst hij
        rw [hy] at h1; cases h1
        have := List.all_eq_true.1 j3 g' (List.mem_of_getElem? (show (p.take i)[j']? = some g' by rw [List.getElem?_take, if_pos hj']; exact h2))
        simpa [atD] using this
      · exact hap i j' f' g' (by omega) hj' h1 h2
    have hs : selfP (p.take (j + 1)) = selfP (p.take j) ++ [(f.decl, f.decl)] := by unfold selfP; rw [List.take_add_one, hy]; simp
    obtain ⟨L, hL⟩ : ∃ L, selfP (p.take j) = L := ⟨_, rfl⟩
    have hLl : L.length = j := by rw [← hL]; unfold selfP; rw [List.length_map, List.length_take]; omega
    rw [hL] at hs ⊢
    have c1 : (j + 1) * 16 ≤ 140737488355328 := by omega
    have c2 : j + 1 ≤ 140737488355328 := by omega
    clear hap hg j1 j2 j3 hlt hjk
    obtain ⟨fn, fp, ⟨frx, frl⟩, fd⟩ := f
    repeat' (first | refine aw_seq ?_ | refine aw_skip ?_ | refine aw_block ?_ | refine aw_exit ?_ | refine aw_cond rfl (fun _ => ?_) (fun hb => absurd hb (by decide)) | refine aw_cond rfl (fun hb => absurd hb (by decide)) (fun _ => ?_) | (refine aw_reg (fun K hK => ?_); simp -implicitDefEqProofs [hkl, hy, hy', w2, hLl, c1, c2]) | (refine aw_drw mixd (fun K hK => ?_); simp -implicitDefEqProofs [hkl, hy, hy', w2, hLl, c1, c2]) | refine hK _ ?_ | refine hK _ _ (by rfl) ?_ | (refine ar_call (call_pure (hfi) ?_ ?_ rfl ?_); (focus (simp [*]; done)); (focus (first | exact (fun _ => rfl) | exact (vT_ren _) | exact (vLs_ren _) | exact (vTB_ren _) | (intro ρ; simp [AV.ren, AT.ren, AC.ren]; done))); simp -implicitDefEqProofs [hkl, hy, hy', w2, hLl, c1, c2]) | (refine ard_call (calld_pure (hfi) ?_ ?_ rfl ?_); (focus (simp [*]; done)); (focus (first | exact (fun _ => rfl) | exact (vT_ren _) | exact (vLs_ren _) | exact (vTB_ren _) | (intro ρ; simp [AV.ren, AT.ren, AC.ren]; done))); simp -implicitDefEqProofs [hkl, hy, hy', w2, hLl, c1, c2]) | fail)
    refine ⟨j + 1, ⟨by omega, hap'⟩, (by dsimp only; omega), ?_⟩
    rw [hI]; exact cov_intro [125] (by simp -implicitDefEqProofs [hs]) (by simp -implicitDefEqProofs [hs]) (by decide) rfl (by simp)
  have hkl : k = p.length := by omega
  subst hkl
  rw [List.take_length]
  have h3 := names_row p p (selfP p) (by omega) (by omega) (by unfold selfP; rw [List.length_map]; omega) p2 p2
  rw [self_names hap] at h3
  repeat' (first | refine aw_seq ?_ | refine aw_skip ?_ | refine aw_block ?_ | refine aw_exit ?_ | refine aw_cond rfl (fun _ => ?_) (fun hb => absurd hb (by decide)) | refine aw_cond rfl (fun hb => absurd hb (by decide)) (fun _ => ?_) | (refine aw_reg (fun K hK => ?_); simp -implicitDefEqProofs) | (refine aw_drw mixd (fun K hK => ?_); simp -implicitDefEqProofs) | refine hK _ ?_ | refine hK _ _ (by rfl) ?_ | (refine ar_call (call_pure (h3) ?_ ?_ rfl ?_); (focus (simp [*]; done)); (focus (first | exact (fun _ => rfl) | exact (vT_ren _) | exact (vLs_ren _) | exact (vTB_ren _) | (intro ρ; simp [AV.ren, AT.ren, AC.ren]; done))); simp -implicitDefEqProofs) | (refine ard_call (calld_pure (h3) ?_ ?_ rfl ?_); (focus (simp [*]; done)); (focus (first | exact (fun _ => rfl) | exact (vT_ren _) | exact (vLs_ren _) | exact (vTB_ren _) | (intro ρ; simp [AV.ren, AT.ren, AC.ren]; done))); simp -implicitDefEqProofs) | fail)
  clear h3
  refine aw_lp (ι := Nat) (fun k => mkSt [(0, vFs p), (1, vFs q), (2, vPs prs), (9, vNs (p.map fun f => (f.name, f.name))), (11, vI (k : Nat))] []) (fun k => k ≤ p.length) (fun k => p.length - k) 0 (Nat.zero_le _) (cov_intro [] (by simp -implicitDefEqProofs) (by simp -implicitDefEqProofs) (by decide) rfl (by simp)) (fun Z2 hI2 k hk => ?_)
  by_cases hkl : k < p.length
  · obtain ⟨f, hy⟩ : ∃ y, p[k]? = some y := ⟨_, List.getElem?_eq_getElem hkl⟩
    have hy' := (List.getElem?_eq_some_iff.1 hy).2
    have w2 : IntKind.i64.wrap ((k : Nat) + 1 : Int) = (k : Nat) + 1 := i64i _ (by omega) (by omega)
    obtain ⟨fn, fp, ⟨frx, frl⟩, fd⟩ := f
    repeat' (first | refine aw_seq ?_ | refine aw_skip ?_ | refine aw_block ?_ | refine aw_exit ?_ | refine aw_cond rfl (fun _ => ?_) (fun hb => absurd hb (by decide)) | refine aw_cond rfl (fun hb => absurd hb (by decide)) (fun _ => ?_) | (refine aw_reg (fun K hK => ?_); simp -implicitDefEqProofs [hkl, hy, hy', w2]) | (refine aw_drw mixd (fun K hK => ?_); simp -implicitDefEqProofs [hkl, hy, hy', w2]) | refine hK _ ?_ | refine hK _ _ (by rfl) ?_ | fail)
    refine ⟨k + 1, by omega, (by dsimp only; omega), ?_⟩
    rw [hI2]; exact cov_intro [] (by simp -implicitDefEqProofs) (by simp -implicitDefEqProofs) (by decide) rfl (by simp)
  have hkl : k = p.length := by omega
  subst hkl
  have h4 := names_row p q prs (by omega) (by omega) (by omega) p2 q2
  by_cases hgood : (p.all (goesF q prs) && q.all (goesF p (turnP prs))) = true; rotate_left
  · rw [show namesF p q prs = ([], false) by unfold namesF; rw [if_neg hgood]] at h4
    repeat' (first | refine aw_seq ?_ | refine aw_skip ?_ | refine aw_block ?_ | refine aw_exit ?_ | refine aw_cond rfl (fun _ => ?_) (fun hb => absurd hb (by decide)) | refine aw_cond rfl (fun hb => absurd hb (by decide)) (fun _ => ?_) | (refine aw_reg (fun K hK => ?_); simp -implicitDefEqProofs) | (refine aw_drw mixd (fun K hK => ?_); simp -implicitDefEqProofs) | refine hK _ ?_ | refine hK _ _ (by rfl) ?_ | (refine ar_call (call_pure (h4) ?_ ?_ rfl ?_); (focus (simp [*]; done)); (focus (first | exact (fun _ => rfl) | exact (vT_ren _) | exact (vLs_ren _) | exact (vTB_ren _) | (intro ρ; simp [AV.ren, AT.ren, AC.ren]; done))); simp -implicitDefEqProofs) | (refine ard_call (calld_pure (h4) ?_ ?_ rfl ?_); (focus (simp [*]; done)); (focus (first | exact (fun _ => rfl) | exact (vT_ren _) | exact (vLs_ren _) | exact (vTB_ren _) | (intro ρ; simp [AV.ren, AT.ren, AC.ren]; done))); simp -implicitDefEqProofs) | (refine ar_call (call_pure (haw) ?_ ?_ rfl ?_); (focus (simp [*]; done)); (focus (first | exact (fun _ => rfl) | exact (vT_ren _) | exact (vLs_ren _) | exact (vTB_ren _) | (intro ρ; simp [AV.ren, AT.ren, AC.ren]; done))); simp -implicitDefEqProofs) | (refine ard_call (calld_pure (haw) ?_ ?_ rfl ?_); (focus (simp [*]; done)); (focus (first | exact (fun _ => rfl) | exact (vT_ren _) | exact (vLs_ren _) | exact (vTB_ren _) | (intro ρ; simp [AV.ren, AT.ren, AC.ren]; done))); simp -implicitDefEqProofs) | fail)
    refine aw_ret (fin_ret ?_); simp -implicitDefEqProofs [FinP, resV, resT] <;> try rfl
  have eN : namesF p q prs = (p.map (nameF q prs), true) := by unfold namesF; rw [if_pos hgood]
  have hb : p.all (goesF q prs) = true ∧ q.all (goesF p (turnP prs)) = true := by simpa using hgood
  have h5 := names_row q p (turnP prs) (by omega) (by omega) (by unfold turnP; rw [List.length_map]; omega) q2 p2
  rw [back_names eN hb] at h5
  rw [eN] at h4
  have ht := rturned_row prs (by omega)
  have hbk := @back_at p q prs hap hb
  clear eN hgood hb hap
  obtain ⟨nL, hnL⟩ : ∃ L, p.map (nameF q prs) = L := ⟨_, rfl⟩
  obtain ⟨bL, hbL⟩ : ∃ L, q.map (nameF p (turnP prs)) = L := ⟨_, rfl⟩
  rw [hnL] at h4
  rw [hbL] at h5
  have hbl : bL.length = q.length := by rw [← hbL, List.length_map]
  have hnl : nL.length = p.length := by rw [← hnL, List.length_map]
  repeat' (first | refine aw_seq ?_ | refine aw_skip ?_ | refine aw_block ?_ | refine aw_exit ?_ | refine aw_cond rfl (fun _ => ?_) (fun hb => absurd hb (by decide)) | refine aw_cond rfl (fun hb => absurd hb (by decide)) (fun _ => ?_) | (refine aw_reg (fun K hK => ?_); simp -implicitDefEqProofs [hbl]) | (refine aw_drw mixd (fun K hK => ?_); simp -implicitDefEqProofs [hbl]) | refine hK _ ?_ | refine hK _ _ (by rfl) ?_ | (refine ar_call (call_pure (h4) ?_ ?_ rfl ?_); (focus (simp [*]; done)); (focus (first | exact (fun _ => rfl) | exact (vT_ren _) | exact (vLs_ren _) | exact (vTB_ren _) | (intro ρ; simp [AV.ren, AT.ren, AC.ren]; done))); simp -implicitDefEqProofs [hbl]) | (refine ard_call (calld_pure (h4) ?_ ?_ rfl ?_); (focus (simp [*]; done)); (focus (first | exact (fun _ => rfl) | exact (vT_ren _) | exact (vLs_ren _) | exact (vTB_ren _) | (intro ρ; simp [AV.ren, AT.ren, AC.ren]; done))); simp -implicitDefEqProofs [hbl]) | (refine ar_call (call_pure (h5) ?_ ?_ rfl ?_); (focus (simp [*]; done)); (focus (first | exact (fun _ => rfl) | exact (vT_ren _) | exact (vLs_ren _) | exact (vTB_ren _) | (intro ρ; simp [AV.ren, AT.ren, AC.ren]; done))); simp -implicitDefEqProofs [hbl]) | (refine ard_call (calld_pure (h5) ?_ ?_ rfl ?_); (focus (simp [*]; done)); (focus (first | exact (fun _ => rfl) | exact (vT_ren _) | exact (vLs_ren _) | exact (vTB_ren _) | (intro ρ; simp [AV.ren, AT.ren, AC.ren]; done))); simp -implicitDefEqProofs [hbl]) | (refine ar_call (call_pure (ht) ?_ ?_ rfl ?_); (focus (simp [*]; done)); (focus (first | exact (fun _ => rfl) | exact (vT_ren _) | exact (vLs_ren _) | exact (vTB_ren _) | (intro ρ; simp [AV.ren, AT.ren, AC.ren]; done))); simp -implicitDefEqProofs [hbl]) | (refine ard_call (calld_pure (ht) ?_ ?_ rfl ?_); (focus (simp [*]; done)); (focus (first | exact (fun _ => rfl) | exact (vT_ren _) | exact (vLs_ren _) | exact (vTB_ren _) | (intro ρ; simp [AV.ren, AT.ren, AC.ren]; done))); simp -implicitDefEqProofs [hbl]) | fail)
  clear h4 h5 ht
  refine aw_lp (ι := Nat) (fun k => mkSt [(12, vNs nL), (13, vNs bL), (15, vI (k : Nat))] []) (fun k => k ≤ nL.length) (fun k => nL.length - k) 0 (Nat.zero_le _) (cov_intro [] (by simp -implicitDefEqProofs) (by simp -implicitDefEqProofs) (by decide) rfl (by simp)) (fun Z3 hI3 k hk => ?_)
  by_cases hkl : k < nL.length; rotate_left
  · repeat' (first | refine aw_seq ?_ | refine aw_skip ?_ | refine aw_block ?_ | refine aw_exit ?_ | refine aw_cond rfl (fun _ => ?_) (fun hb => absurd hb (by decide)) | refine aw_cond rfl (fun hb => absurd hb (by decide)) (fun _ => ?_) | (refine aw_reg (fun K hK => ?_); simp -implicitDefEqProofs [hkl]) | (refine aw_drw mixd (fun K hK => ?_); simp -implicitDefEqProofs [hkl]) | refine hK _ ?_ | refine hK _ _ (by rfl) ?_ | (refine ar_call (call_pure (haw) ?_ ?_ rfl ?_); (focus (simp [*]; done)); (focus (first | exact (fun _ => rfl) | exact (vT_ren _) | exact (vLs_ren _) | exact (vTB_ren _) | (intro ρ; simp [AV.ren, AT.ren, AC.ren]; done))); simp -implicitDefEqProofs [hkl]) | (refine ard_call (calld_pure (haw) ?_ ?_ rfl ?_); (focus (simp [*]; done)); (focus (first | exact (fun _ => rfl) | exact (vT_ren _) | exact (vLs_ren _) | exact (vTB_ren _) | (intro ρ; simp [AV.ren, AT.ren, AC.ren]; done))); simp -implicitDefEqProofs [hkl]) | fail)
    refine aw_ret (fin_ret ?_); simp -implicitDefEqProofs [FinP, resV, resT] <;> try rfl
  obtain ⟨⟨n1, n2⟩, hy⟩ : ∃ y, nL[k]? = some y := ⟨_, List.getElem?_eq_getElem hkl⟩
  have hy' := (List.getElem?_eq_some_iff.1 hy).2
  have w2 : IntKind.i64.wrap ((k : Nat) + 1 : Int) = (k : Nat) + 1 := i64i _ (by omega) (by omega)
  have hany : bL.any (fun y => decide (y.1 = n2) && decide (y.2 = n1)) = true := by
    have hpf := hy
    rw [← hnL, List.getElem?_map] at hpf
    obtain ⟨f, hf1, hf2⟩ := Option.map_eq_some_iff.1 hpf
    obtain ⟨g, hgq, hge⟩ := hbk (List.mem_of_getElem? hf1)
    rw [hf2] at hge
    rw [List.any_eq_true, ← hbL]
    exact ⟨_, List.mem_map_of_mem hgq, by rw [hge]; simp⟩
  repeat (first | refine aw_seq ?_ | refine aw_skip ?_ | refine aw_block ?_ | refine aw_exit ?_ | refine aw_cond rfl (fun _ => ?_) (fun hb => absurd hb (by decide)) | refine aw_cond rfl (fun hb => absurd hb (by decide)) (fun _ => ?_) | (refine aw_reg (fun K hK => ?_); simp -implicitDefEqProofs [hkl]; refine hK _ ?_) | (refine aw_drw mixd (fun K hK => ?_); simp -implicitDefEqProofs [hkl]; refine hK _ _ (by rfl) ?_) | fail)
  refine aw_lp (ι := Nat) (fun m => mkSt [(12, vNs nL), (13, vNs bL), (15, vI (k : Nat)), (16, vB ((bL.take m).any (fun y => decide (y.1 = n2) && decide (y.2 = n1)))), (17, vI (m : Nat))] []) (fun m => m ≤ bL.length) (fun m => bL.length - m) 0 (Nat.zero_le _) (cov_intro [] (by simp -implicitDefEqProofs) (by simp -implicitDefEqProofs) (by decide) rfl (by simp)) (fun Z4 hI4 m hm => ?_)
  by_cases hml : m < bL.length; rotate_left
  · have : m = bL.length := by omega
    subst this
    rw [List.take_length, hany]
    repeat (first | refine aw_seq ?_ | refine aw_skip ?_ | refine aw_block ?_ | refine aw_exit ?_ | refine aw_cond rfl (fun _ => ?_) (fun hb => absurd hb (by decide)) | refine aw_cond rfl (fun hb => absurd hb (by decide)) (fun _ => ?_) | (refine aw_reg (fun K hK => ?_); simp -implicitDefEqProofs [hml, w2]; refine hK _ ?_) | (refine aw_drw mixd (fun K hK => ?_); simp -implicitDefEqProofs [hml, w2]; refine hK _ _ (by rfl) ?_) | fail)
    refine ⟨k + 1, by omega, (by dsimp only; omega), ?_⟩
    rw [hI3]; exact cov_intro [] (by simp -implicitDefEqProofs) (by simp -implicitDefEqProofs) (by decide) rfl (by simp)
  obtain ⟨⟨y1, y2⟩, hz⟩ : ∃ y, bL[m]? = some y := ⟨_, List.getElem?_eq_getElem hml⟩
  have hz' := (List.getElem?_eq_some_iff.1 hz).2
  have w3 : IntKind.i64.wrap ((m : Nat) + 1 : Int) = (m : Nat) + 1 := i64i _ (by omega) (by omega)
  have hs : (bL.take (m + 1)).any (fun y => decide (y.1 = n2) && decide (y.2 = n1)) = ((bL.take m).any (fun y => decide (y.1 = n2) && decide (y.2 = n1)) || (decide (y1 = n2) && decide (y2 = n1))) := by rw [List.take_add_one, hz]; simp
  obtain ⟨fb, hfb⟩ : ∃ fb, (bL.take m).any (fun y => decide (y.1 = n2) && decide (y.2 = n1)) = fb := ⟨_, rfl⟩
  rw [hfb] at hs ⊢
  clear hany hbk hfb
  cases fb; rotate_left
  · repeat (first | refine aw_seq ?_ | refine aw_skip ?_ | refine aw_block ?_ | refine aw_exit ?_ | refine aw_cond rfl (fun _ => ?_) (fun hb => absurd hb (by decide)) | refine aw_cond rfl (fun hb => absurd hb (by decide)) (fun _ => ?_) | (refine aw_reg (fun K hK => ?_); simp -implicitDefEqProofs [hkl, hy, hy', hml, hz, hz', w3]; refine hK _ ?_) | (refine aw_drw mixd (fun K hK => ?_); simp -implicitDefEqProofs [hkl, hy, hy', hml, hz, hz', w3]; refine hK _ _ (by rfl) ?_) | fail)
    refine ⟨m + 1, by omega, (by dsimp only; omega), ?_⟩
    rw [hI4]; exact cov_intro [] (by simp -implicitDefEqProofs [hs]) (by simp -implicitDefEqProofs [hs]) (by decide) rfl (by simp)
  by_cases c1 : y1 = n2; rotate_left
  · repeat (first | refine aw_seq ?_ | refine aw_skip ?_ | refine aw_block ?_ | refine aw_exit ?_ | refine aw_cond rfl (fun _ => ?_) (fun hb => absurd hb (by decide)) | refine aw_cond rfl (fun hb => absurd hb (by decide)) (fun _ => ?_) | (refine aw_reg (fun K hK => ?_); simp -implicitDefEqProofs [hkl, hy, hy', hml, hz, hz', w3, c1]; refine hK _ ?_) | (refine aw_drw mixd (fun K hK => ?_); simp -implicitDefEqProofs [hkl, hy, hy', hml, hz, hz', w3, c1]; refine hK _ _ (by rfl) ?_) | fail)
    refine ⟨m + 1, by omega, (by dsimp only; omega), ?_⟩
    rw [hI4]; exact cov_intro [] (by simp -implicitDefEqProofs [hs, c1]) (by simp -implicitDefEqProofs [hs, c1]) (by decide) rfl (by simp)
  by_cases c2 : y2 = n1
  · have c2' : n1 = y2 := c2.symm
    repeat (first | refine aw_seq ?_ | refine aw_skip ?_ | refine aw_block ?_ | refine aw_exit ?_ | refine aw_cond rfl (fun _ => ?_) (fun hb => absurd hb (by decide)) | refine aw_cond rfl (fun hb => absurd hb (by decide)) (fun _ => ?_) | (refine aw_reg (fun K hK => ?_); simp -implicitDefEqProofs [hkl, hy, hy', hml, hz, hz', w3, c1, c2]; refine hK _ ?_) | (refine aw_drw mixd (fun K hK => ?_); simp -implicitDefEqProofs [hkl, hy, hy', hml, hz, hz', w3, c1, c2]; refine hK _ _ (by rfl) ?_) | fail)
    refine ⟨m + 1, by omega, (by dsimp only; omega), ?_⟩
    rw [hI4]; exact cov_intro [] (by simp -implicitDefEqProofs [hs, c1, c2]) (by simp -implicitDefEqProofs [hs, c1, c2]) (by decide) rfl (by simp)
  · repeat (first | refine aw_seq ?_ | refine aw_skip ?_ | refine aw_block ?_ | refine aw_exit ?_ | refine aw_cond rfl (fun _ => ?_) (fun hb => absurd hb (by decide)) | refine aw_cond rfl (fun hb => absurd hb (by decide)) (fun _ => ?_) | (refine aw_reg (fun K hK => ?_); simp -implicitDefEqProofs [hkl, hy, hy', hml, hz, hz', w3, c1, c2]; refine hK _ ?_) | (refine aw_drw mixd (fun K hK => ?_); simp -implicitDefEqProofs [hkl, hy, hy', hml, hz, hz', w3, c1, c2]; refine hK _ _ (by rfl) ?_) | fail)
    refine ⟨m + 1, by omega, (by dsimp only; omega), ?_⟩
    rw [hI4]; exact cov_intro [] (by simp -implicitDefEqProofs [hs, c1, c2]) (by simp -implicitDefEqProofs [hs, c1, c2]) (by decide) rfl (by simp)
end Go.Proofs.Ythifckknijdgfaa.am
