import Derived.Test.YthmdllhhmhbhbaaPkD11
section
namespace Go.Proofs.Ythmdllhhmhbhbaa.am
open Go.ChangeShapes Go.WideShapes Go.ChangeAt Go.RowKit
open vt
set_option linter.unusedVariables false
set_option linter.unusedSimpArgs false
abbrev RnR (to : List Int) (x : Lab) (r r' : VT × Int × Int) : Prop := r'.1 = renum to r.1 ∧ r'.2.2 = r.2.2 ∧ (r.2.2 = 0 → r'.2.1 = nwN to ⟨x.k, r.2.1, ⟨#[]⟩, 0, 0⟩)
theorem nwN_kn {to : List Int} {x y : Lab} (h1 : x.k = y.k) (h2 : x.n = y.n) : nwN to x = nwN to y := by unfold nwN; rw [h1, h2]
theorem two_nm (P : Int → Prop) (op : Int) (a b : VT) : Nm P (twoT op a b) := by
  rcases twoT_cases op a b with e | e | e <;> rw [e]
  · exact nm_ty P (.inl rfl)
  · exact nm_ty P (.inr rfl)
  · exact nm_z0 P
section
variable {m m' : VT} {to : List Int} {P : Int → Prop} (M : Mv m m' to P)
include M
theorem Mv.rule {x : Lab} (hx : nmOk P x) (hn : (x.k = 15 ∨ x.k = 16) → 0 ≤ x.n) {p : List VT} (hp : ∀ a ∈ p, Nm P a) : RnR to x (ruleT m x p) (ruleT m' { x with n := nwN to x } (p.map (renum to))) ∧ Nm P (ruleT m x p).1 := by
  have g0 := getD_nm hp 0
  have g1 := getD_nm hp 1
  have e0 := rn_getD to p 0
  have e1 := rn_getD to p 1
  have z := rn_z0 to
  have bad : ∀ e : Int, ¬ e = 0 → RnR to x ((z0T, 0, e) : VT × Int × Int) (z0T, 0, e) := fun e he => ⟨z.symm, rfl, fun h => absurd h he⟩
  by_cases h10 : x.k = 10
  · have en : nwN to x = x.n := nwN_no (by simp [nmK, h10]) (by omega)
    have hT : ∀ (m : VT) (p : List VT), ruleT m x p = if ¬ (twoT x.n (p.getD 0 z0T) (p.getD 1 z0T)).lab.k = 0 then (twoT x.n (p.getD 0 z0T) (p.getD 1 z0T), x.n, 0) else (z0T, 0, 10) := by
      intro m p; unfold ruleT; simp [h10]
    rw [en, show ({ x with n := x.n } : Lab) = x from rfl, hT, hT, e0, e1, (rn_two to _ _ _).1]
    by_cases h : ¬ (twoT x.n (p.getD 0 z0T) (p.getD 1 z0T)).lab.k = 0
    · rw [if_pos h]
      exact ⟨⟨((rn_two to _ _ _).2).symm, rfl, fun _ => en.symm.trans (nwN_kn rfl rfl)⟩, two_nm P _ _ _⟩
    · rw [if_neg h]
      exact ⟨bad 10 (by omega), nm_z0 P⟩
  by_cases h11 : x.k = 11
  · have en : nwN to x = x.n := nwN_no (by simp [nmK, h11]) (by omega)
    have hT : ∀ (m : VT) (p : List VT), ruleT m x p = if ((x.n = 1 ∧ isT (p.getD 0 z0T) 1 = true) ∨ (x.n = 2 ∧ isT (p.getD 0 z0T) 2 = true)) then (p.getD 0 z0T, x.n, 0) else (z0T, 0, 10) := by
      intro m p; unfold ruleT; simp [h11]
    rw [en, show ({ x with n := x.n } : Lab) = x from rfl, hT, hT, e0, rn_isT, rn_isT]
    by_cases h : ((x.n = 1 ∧ isT (p.getD 0 z0T) 1 = true) ∨ (x.n = 2 ∧ isT (p.getD 0 z0T) 2 = true))
    · rw [if_pos h, if_pos h]
      exact ⟨⟨rfl, rfl, fun _ => en.symm.trans (nwN_kn rfl rfl)⟩, g0⟩
    · rw [if_neg h, if_neg h]
      exact ⟨bad 10 (by omega), nm_z0 P⟩
  by_cases h12 : x.k = 12
  · have en : nwN to x = x.n := nwN_no (by simp [nmK, h12]) (by omega)
    have hT : ∀ (m : VT) (p : List VT), ruleT m x p = if (p.getD 0 z0T).lab.k = 3 ∧ (p.getD 0 z0T).kids.length = 1 ∧ isT (p.getD 1 z0T) 1 = true then ((p.getD 0 z0T).kids.getD 0 z0T, x.n, 0) else (z0T, 0, 10) := by
      intro m p; unfold ruleT; simp [h12]
    rw [en, show ({ x with n := x.n } : Lab) = x from rfl, hT, hT, e0, e1, rn_isT, rn_k, rn_kids, List.length_map, rn_getD]
    by_cases h : (p.getD 0 z0T).lab.k = 3 ∧ (p.getD 0 z0T).kids.length = 1 ∧ isT (p.getD 1 z0T) 1 = true
    · rw [if_pos h, if_pos h]
      exact ⟨⟨rfl, rfl, fun _ => en.symm.trans (nwN_kn rfl rfl)⟩, g0.at0 0⟩
    · rw [if_neg h, if_neg h]
      exact ⟨bad 10 (by omega), nm_z0 P⟩
  by_cases h13 : x.k = 13
  · have hT : ∀ (m : VT) (x : Lab) (p : List VT), x.k = 13 → ruleT m x p = if (p.getD 0 z0T).lab.k = 4 ∧ (p.getD 0 z0T).kids.length = 0 then
        (if am.fieldN m x (p.getD 0 z0T).lab.n < 0 then (z0T, 0, 8) else (barT ((vt.fldA m (am.fieldN m x (p.getD 0 z0T).lab.n)).getD z0T), am.fieldN m x (p.getD 0 z0T).lab.n, 0)) else (z0T, 0, 10) := by
      intro m x p h13; unfold ruleT; simp [h13]
    rw [hT m x p h13, hT m' { x with n := nwN to x } _ h13, e0, rn_k, rn_kids, List.length_map, rn_n]
    by_cases h : (p.getD 0 z0T).lab.k = 4 ∧ (p.getD 0 z0T).kids.length = 0
    · rw [if_pos h, if_pos h]
      have hk4 : nmK (p.getD 0 z0T).lab.k = true := by rw [h.1]; rfl
      have hP : P (p.getD 0 z0T).lab.n := g0.lab.1 hk4
      rw [nwN_nm (x := (p.getD 0 z0T).lab) hk4, (M.fieldE h13 hx hP).1]
      have hq := (M.fieldE h13 hx hP).2
      obtain ⟨F, hF⟩ : ∃ F, am.fieldN m x (p.getD 0 z0T).lab.n = F := ⟨_, rfl⟩
      rw [hF] at hq ⊢
      by_cases hn : F < 0
      · rw [if_neg (show ¬ 0 ≤ F by omega), if_pos hn, if_pos hn]
        exact ⟨bad 8 (by omega), nm_z0 P⟩
      · have hP' : P (F / 64) := by rw [hq (by omega)]; exact hP
        have p0 := M.pos (F / 64) (by omega)
        rw [if_pos (show 0 ≤ F by omega), if_neg hn, if_neg (by omega), M.fldE (by omega) hP']
        have hm := M.fld_nm (n := F) (by omega) hP'
        refine ⟨⟨?_, rfl, fun _ => ?_⟩, bar_nm hm⟩
        · show barT ((Option.map (renum to) (vt.fldA m F)).getD z0T) = renum to (barT ((vt.fldA m F).getD z0T))
          rw [← rn_bar]
          cases vt.fldA m F with
          | none => show barT z0T = barT (renum to z0T); rw [z]
          | some q => rfl
        · rw [nwN_13 (x := ⟨x.k, F, ⟨#[]⟩, 0, 0⟩) h13, if_pos (show 0 ≤ F by omega)]
    · rw [if_neg h, if_neg h]
      exact ⟨bad 10 (by omega), nm_z0 P⟩
  by_cases h15 : x.k = 15
  · have hP := hx.1 (show nmK x.k = true by simp [nmK, h15])
    have en : nwN to x = plc to x.n := nwN_nm (by simp [nmK, h15])
    have hT : ∀ (m : VT) (x : Lab) (p : List VT), x.k = 15 → ruleT m x p = if fitB p (m.kids.getD x.n.toNat z0T).kids = true then (.mk ⟨4, x.n, ⟨#[]⟩, 0, 0⟩ [], x.n, 0) else (z0T, 0, 10) := by
      intro m x p h15; unfold ruleT; simp [h15]
    rw [hT m x p h15, hT m' { x with n := nwN to x } _ h15, en]
    dsimp only
    have hd := M.nmD (hn (.inl h15)) hP
    rw [M.getD (hn (.inl h15)) hP, rn_kids, M.fit p _ hp (fun q hq => hd.kid hq)]
    by_cases h : fitB p (m.kids.getD x.n.toNat z0T).kids = true
    · rw [if_pos h, if_pos h]
      refine ⟨⟨?_, rfl, fun _ => en.symm.trans (nwN_kn rfl rfl)⟩, (Tr.all_mk _ _ _).2 ⟨⟨fun _ => hP, fun h => by simp at h⟩, fun y hy => by simp at hy⟩⟩
      show _ = renum to _
      rw [renum_mk, nwN_nm (by simp [nmK])]
      rfl
    · rw [if_neg h, if_neg h]
      exact ⟨bad 10 (by omega), nm_z0 P⟩
  by_cases h16 : x.k = 16
  · have hP := hx.1 (show nmK x.k = true by simp [nmK, h16])
    have en : nwN to x = plc to x.n := nwN_nm (by simp [nmK, h16])
    have hT : ∀ (m : VT) (x : Lab) (p : List VT), x.k = 16 → ruleT m x p = if fitB p ((m.kids.getD x.n.toNat z0T).kids.getD 0 z0T).kids = true then (barT ((m.kids.getD x.n.toNat z0T).kids.getD 1 z0T), x.n, 0) else (z0T, 0, 10) := by
      intro m x p h16; unfold ruleT; simp [h16]
    rw [hT m x p h16, hT m' { x with n := nwN to x } _ h16, en]
    dsimp only
    have hd := M.nmD (hn (.inr h16)) hP
    rw [M.getD (hn (.inr h16)) hP, rn_kids, rn_getD, rn_getD, rn_kids, M.fit p _ hp (fun q hq => (hd.at0 0).kid hq), rn_bar]
    by_cases h : fitB p ((m.kids.getD x.n.toNat z0T).kids.getD 0 z0T).kids = true
    · rw [if_pos h, if_pos h]
      exact ⟨⟨rfl, rfl, fun _ => en.symm.trans (nwN_kn rfl rfl)⟩, bar_nm (hd.at0 1)⟩
    · rw [if_neg h, if_neg h]
      exact ⟨bad 10 (by omega), nm_z0 P⟩
  have hT : ∀ (m : VT) (x : Lab) (p : List VT), ¬ x.k = 10 → ¬ x.k = 11 → ¬ x.k = 12 → ¬ x.k = 13 → ¬ x.k = 15 → ¬ x.k = 16 → ruleT m x p = if ¬ x.k = 14 then (z0T, 0, 10) else if p.all (fun a => vt.same a (p.getD 0 z0T)) = true then
    (if vt.cels m (.mk ⟨3, p.length, ⟨#[]⟩, 0, 0⟩ [p.getD 0 z0T]) = 0 then (z0T, 0, 11) else (.mk ⟨3, p.length, ⟨#[]⟩, 0, 0⟩ [p.getD 0 z0T], x.n, 0)) else (z0T, 0, 10) := by
    intro m x p a b c d e f
    unfold ruleT
    rw [if_neg (fun h => a h.1), if_neg (fun h => b h.1), if_neg (fun h => c h.1), if_neg (fun h => d h.1), if_neg (fun h => e h.1), if_neg (fun h => f h.1)]
  rw [hT m x p h10 h11 h12 h13 h15 h16, hT m' { x with n := nwN to x } _ h10 h11 h12 h13 h15 h16, e0]
  by_cases h14 : x.k = 14; rotate_left
  · rw [if_pos h14, if_pos h14]
    exact ⟨bad 10 (by omega), nm_z0 P⟩
  have en : nwN to x = x.n := nwN_no (by simp [nmK, h14]) (by omega)
  rw [en, if_neg (show ¬ ¬ x.k = 14 from fun h => h h14), if_neg (show ¬ ¬ x.k = 14 from fun h => h h14), List.all_map, show ((fun a => vt.same a (renum to (p.getD 0 z0T))) ∘ renum to) = (fun a => vt.same (renum to a) (renum to (p.getD 0 z0T))) from rfl, List.length_map]
  have ha : (p.all fun a => vt.same (renum to a) (renum to (p.getD 0 z0T))) = (p.all fun a => vt.same a (p.getD 0 z0T)) := by
    rw [Bool.eq_iff_iff, List.all_eq_true, List.all_eq_true]
    exact ⟨fun h y hy => by rw [← M.same y _ (hp y hy) g0]; exact h y hy, fun h y hy => by rw [M.same y _ (hp y hy) g0]; exact h y hy⟩
  rw [ha]
  by_cases h : (p.all fun a => vt.same a (p.getD 0 z0T)) = true; rotate_left
  · rw [if_neg h, if_neg h]
    exact ⟨bad 10 (by omega), nm_z0 P⟩
  have hA : Nm P (.mk ⟨3, p.length, ⟨#[]⟩, 0, 0⟩ [p.getD 0 z0T]) := (Tr.all_mk _ _ _).2 ⟨⟨fun h => by simp [nmK] at h, fun h => by simp at h⟩, fun y hy => by simp at hy; subst hy; exact g0⟩
  have eA : (.mk ⟨3, p.length, ⟨#[]⟩, 0, 0⟩ [renum to (p.getD 0 z0T)] : VT) = renum to (.mk ⟨3, p.length, ⟨#[]⟩, 0, 0⟩ [p.getD 0 z0T]) := by
    rw [renum_mk, nwN_no (by simp [nmK]) (by simp)]; rfl
  rw [if_pos h, if_pos h, eA, M.cels hA]
  by_cases hc : vt.cels m (.mk ⟨3, p.length, ⟨#[]⟩, 0, 0⟩ [p.getD 0 z0T]) = 0
  · rw [if_pos hc, if_pos hc]
    exact ⟨bad 11 (by omega), nm_z0 P⟩
  · rw [if_neg hc, if_neg hc]
    exact ⟨⟨rfl, rfl, fun _ => en.symm.trans (nwN_kn rfl rfl)⟩, hA⟩
theorem Mv.alone {x : Lab} (hx : nmOk P x) {L : List VT} (hL : ∀ a ∈ L, Nm P a) (l : List VT) (h89 : x.k = 8 ∨ x.k = 9 → 0 ≤ x.n) : aloT m' (L.map (renum to)) { x with n := nwN to x } (l.map (renum to)) = renum to (aloT m L x l) ∧ Nm P (aloT m L x l) := by
  unfold aloT
  dsimp only
  by_cases h7 : x.k = 7
  · rw [if_pos h7, if_pos h7, nwN_no (by simp [nmK, h7]) (by omega), List.length_map, rn_getD, rn_bar]
    exact ⟨rfl, bar_nm (getD_nm hL _)⟩
  rw [if_neg h7, if_neg h7]
  by_cases h8 : x.k = 8
  · have hP := hx.1 (show nmK x.k = true by simp [nmK, h8])
    rw [if_pos h8, if_pos h8, nwN_nm (by simp [nmK, h8]), M.getD (h89 (.inl h8)) hP, rn_kids, rn_getD, (rn_lit to _).1, (rn_lit to _).2]
    exact ⟨rfl, lit_nm P _⟩
  rw [if_neg h8, if_neg h8]
  by_cases h9 : x.k = 9
  · have hP := hx.1 (show nmK x.k = true by simp [nmK, h9])
    rw [if_pos h9, if_pos h9, nwN_nm (by simp [nmK, h9]), M.getD (h89 (.inr h9)) hP, rn_kids, rn_getD, rn_bar]
    exact ⟨rfl, bar_nm ((M.nmD (h89 (.inr h9)) hP).at0 0)⟩
  rw [if_neg h9, if_neg h9]
  by_cases h18 : x.k = 18
  · rw [if_pos h18, if_pos h18, rn_ty to (.inl rfl)]
    exact ⟨rfl, nm_ty P (.inl rfl)⟩
  rw [if_neg h18, if_neg h18, (rn_lit to _).2]
  exact ⟨by unfold litT; rfl, lit_nm P _⟩
end
noncomputable def mvG (to : List Int) (g : GV) : GV := ⟨renum to g.ty, renum to g.fo, g.pl, g.er⟩
theorem mvG_bad (to : List Int) (x : Lab) (e : Int) : badG { x with n := nwN to x } e = mvG to (badG x e) := by
  unfold badG mvG
  rw [rn_z0]
theorem find_map_er {α : Type} (f : α → α) (er : α → Int) (h : ∀ a, er (f a) = er a) (l : List α) : (l.map f).find? (fun g => !decide (er g = 0)) = (l.find? (fun g => !decide (er g = 0))).map f := by
  rw [List.find?_map]
  congr 2
  exact funext fun a => by show (!decide (er (f a) = 0)) = _; rw [h]
theorem Mv.ofE {m m' : VT} {to : List Int} {P : Int → Prop} (M : Mv m m' to P) {L : List VT} (hL : ∀ a ∈ L, Nm P a) (t : VT) : Nm P t → ofT m' (L.map (renum to)) (renum to t) = mvG to (ofT m L t) ∧ Nm P (ofT m L t).ty := by
  induction t using Tr.ind with
  | h x l ih =>
  intro ht
  obtain ⟨hx, hl⟩ := (Tr.all_mk _ _ _).1 ht
  have hg : ((l.map (renum to)).map (ofT m' (L.map (renum to)))) = (l.map (ofT m L)).map (mvG to) := by
    rw [List.map_map, List.map_map]
    exact List.map_congr_left (fun y hy => (ih y hy (hl y hy)).1)
  have hn : ∀ g ∈ l.map (ofT m L), Nm P g.ty := by
    intro g hg
    obtain ⟨y, hy, rfl⟩ := List.mem_map.1 hg
    exact (ih y hy (hl y hy)).2
  rw [renum_mk, ofT_mk, ofT_mk, hg]
  obtain ⟨gs, hgs⟩ : ∃ gs, l.map (ofT m L) = gs := ⟨_, rfl⟩
  rw [hgs] at hn ⊢
  unfold ofC
  rw [List.length_map, List.length_map, rn_sha, M.namE hx, mvG_bad, mvG_bad, mvG_bad]
  have hb : ∀ e, Nm P (badG x e).ty := fun e => nm_z0 P
  by_cases h1 : shaE x l.length = false
  · rw [if_pos h1, if_pos h1]; exact ⟨rfl, hb _⟩
  rw [if_neg h1, if_neg h1]
  by_cases h2 : vt.namB m L.length x = false
  · rw [if_pos h2, if_pos h2]; exact ⟨rfl, hb _⟩
  rw [if_neg h2, if_neg h2]
  have hnm : x.k = 8 ∨ x.k = 9 ∨ x.k = 15 ∨ x.k = 16 → 0 ≤ x.n := by
    intro h
    have h2' : vt.namB m L.length x = true := by simpa using h2
    have : ∃ k, vt.hasB m x.n k = true := by
      unfold vt.namB at h2'
      rcases h with h | h | h | h
      · exact ⟨31, by simpa [h] using h2'⟩
      · exact ⟨32, by simpa [h] using h2'⟩
      · exact ⟨30, by simpa [h] using h2'⟩
      · exact ⟨33, by simpa [h] using h2'⟩
    obtain ⟨k, hk⟩ := this
    unfold vt.hasB at hk
    split at hk
    · cases hk
    · omega
  by_cases h3 : l.length = 0 ∧ ¬ x.k = 16
  · rw [if_pos h3, if_pos h3]
    obtain ⟨a1, a2⟩ := M.alone hx hL l (fun h => hnm (by omega))
    refine ⟨?_, a2⟩
    rw [a1]
    unfold mvG
    dsimp only
    rw [renum_mk]
    rfl
  rw [if_neg h3, if_neg h3, find_map_er (mvG to) GV.er (fun a => rfl)]
  cases hf : gs.find? (fun g => !decide (g.er = 0)) with
  | some g => exact ⟨rfl, hn g (List.mem_of_find?_eq_some hf)⟩
  | none =>
    rw [Option.map_none]
    dsimp only
    have hp : ∀ a ∈ gs.map GV.ty, Nm P a := by
      intro a ha
      obtain ⟨g, hg, rfl⟩ := List.mem_map.1 ha
      exact hn g hg
    obtain ⟨⟨r1, r2, r3⟩, r4⟩ := M.rule hx (fun h => hnm (by omega)) hp
    rw [show (gs.map (mvG to)).map GV.ty = (gs.map GV.ty).map (renum to) by rw [List.map_map, List.map_map]; rfl, r2]
    by_cases he : (ruleT m x (gs.map GV.ty)).2.2 = 0
    · rw [if_pos he, if_pos he, r1, r3 he]
      refine ⟨?_, r4⟩
      unfold mvG
      dsimp only
      rw [renum_mk, List.map_map, List.map_map]
      rfl
    · rw [if_neg he, if_neg he]; exact ⟨rfl, hb _⟩
end Go.Proofs.Ythmdllhhmhbhbaa.am
end
section
namespace Go.Proofs.Ythmdllhhmhbhbaa.am
open Go.ChangeShapes Go.WideShapes Go.ChangeAt Go.RowKit
open vt
set_option linter.unusedVariables false
set_option linter.unusedSimpArgs false
theorem td_got16 : td Try.prog 47 = some ⟨true, 8, 88, [.lit (.int .i64 0), .lit (.int .i64 0), .lit (.string ⟨#[]⟩), .nilS, .lit (.int .i64 0), .lit (.int .i64 0), .lit (.int .i64 0), .lit (.int .i64 0)], [(0, 6, true), (6, 1, false), (7, 1, false)], .struct⟩ := Eq.trans (by kernel_rfl) (Eq.refl _)
attribute [simp] td_got16
noncomputable abbrev vGr (g : GR) : AV := .v (.agg (ta g.t ++ [.pv (I g.pl), .pv (I g.er)]))
abbrev vII (p : Int × Int) : AV := .tup [.c (.pv (I p.1)), .c (.pv (I p.2))]
set_option maxRecDepth 100000 in
set_option maxHeartbeats 4000000 in
theorem rbad16_row (x : Lab) (l : List VT) (e : Int) : Row Try.prog 26 [vT (.mk x l), vI e] [] (vGr (badR x e)) [] := by
  unfold badR
  refine row_of Try.func26 rfl rfl (Nat.le_of_ble_eq_true rfl) ?_
  repeat (first | refine aw_seq ?_ | refine aw_skip ?_ | refine aw_block ?_ | refine aw_exit ?_ | refine aw_cond rfl (fun _ => ?_) (fun hb => absurd hb (by decide)) | refine aw_cond rfl (fun hb => absurd hb (by decide)) (fun _ => ?_) | (refine aw_reg (fun K hK => ?_); simp -implicitDefEqProofs; refine hK _ ?_) | (refine aw_drw mixd (fun K hK => ?_); simp -implicitDefEqProofs; refine hK _ _ (by rfl) ?_) | fail)
  refine aw_ret (fin_ret ?_); simp -implicitDefEqProofs [FinP, resV, resT] <;> try rfl
set_option maxRecDepth 100000 in
set_option maxHeartbeats 4000000 in
theorem rfrom_row (g : GV) : Row Try.prog 51 [vGt g] [] (vGr (fromG g)) [] := by
  obtain ⟨⟨ax, al⟩, ⟨bx, bl⟩, p, e⟩ := g
  unfold fromG
  refine row_of Try.func51 rfl rfl (Nat.le_of_ble_eq_true rfl) ?_
  repeat (first | refine aw_seq ?_ | refine aw_skip ?_ | refine aw_block ?_ | refine aw_exit ?_ | refine aw_cond rfl (fun _ => ?_) (fun hb => absurd hb (by decide)) | refine aw_cond rfl (fun hb => absurd hb (by decide)) (fun _ => ?_) | (refine aw_reg (fun K hK => ?_); simp -implicitDefEqProofs; refine hK _ ?_) | (refine aw_drw mixd (fun K hK => ?_); simp -implicitDefEqProofs; refine hK _ _ (by rfl) ?_) | fail)
  refine aw_ret (fin_ret ?_); simp -implicitDefEqProofs [FinP, resV, resT] <;> try rfl
set_option maxRecDepth 100000 in
set_option maxHeartbeats 4000000 in
theorem rparts_row (k : Int) : Row Try.prog 48 [vI k] [] (vII (prtN k)) [] := by
  unfold prtN
  by_cases c20 : k = 20
  · subst c20
    refine row_of Try.func48 rfl rfl (Nat.le_of_ble_eq_true rfl) ?_
    repeat (first | refine aw_seq ?_ | refine aw_skip ?_ | refine aw_block ?_ | refine aw_exit ?_ | refine aw_cond rfl (fun _ => ?_) (fun hb => absurd hb (by decide)) | refine aw_cond rfl (fun hb => absurd hb (by decide)) (fun _ => ?_) | (refine aw_reg (fun K hK => ?_); simp -implicitDefEqProofs; refine hK _ ?_) | (refine aw_drw mixd (fun K hK => ?_); simp -implicitDefEqProofs; refine hK _ _ (by rfl) ?_) | fail)
    refine aw_ret (fin_ret ?_); simp -implicitDefEqProofs [FinP, resV, resT] <;> try rfl
  by_cases c21 : k = 21
  · subst c21
    refine row_of Try.func48 rfl rfl (Nat.le_of_ble_eq_true rfl) ?_
    repeat (first | refine aw_seq ?_ | refine aw_skip ?_ | refine aw_block ?_ | refine aw_exit ?_ | refine aw_cond rfl (fun _ => ?_) (fun hb => absurd hb (by decide)) | refine aw_cond rfl (fun hb => absurd hb (by decide)) (fun _ => ?_) | (refine aw_reg (fun K hK => ?_); simp -implicitDefEqProofs; refine hK _ ?_) | (refine aw_drw mixd (fun K hK => ?_); simp -implicitDefEqProofs; refine hK _ _ (by rfl) ?_) | fail)
    refine aw_ret (fin_ret ?_); simp -implicitDefEqProofs [FinP, resV, resT] <;> try rfl
  by_cases c26 : k = 26
  · subst c26
    refine row_of Try.func48 rfl rfl (Nat.le_of_ble_eq_true rfl) ?_
    repeat (first | refine aw_seq ?_ | refine aw_skip ?_ | refine aw_block ?_ | refine aw_exit ?_ | refine aw_cond rfl (fun _ => ?_) (fun hb => absurd hb (by decide)) | refine aw_cond rfl (fun hb => absurd hb (by decide)) (fun _ => ?_) | (refine aw_reg (fun K hK => ?_); simp -implicitDefEqProofs; refine hK _ ?_) | (refine aw_drw mixd (fun K hK => ?_); simp -implicitDefEqProofs; refine hK _ _ (by rfl) ?_) | fail)
    refine aw_ret (fin_ret ?_); simp -implicitDefEqProofs [FinP, resV, resT] <;> try rfl
  by_cases c27 : k = 27
  · subst c27
    refine row_of Try.func48 rfl rfl (Nat.le_of_ble_eq_true rfl) ?_
    repeat (first | refine aw_seq ?_ | refine aw_skip ?_ | refine aw_block ?_ | refine aw_exit ?_ | refine aw_cond rfl (fun _ => ?_) (fun hb => absurd hb (by decide)) | refine aw_cond rfl (fun hb => absurd hb (by decide)) (fun _ => ?_) | (refine aw_reg (fun K hK => ?_); simp -implicitDefEqProofs; refine hK _ ?_) | (refine aw_drw mixd (fun K hK => ?_); simp -implicitDefEqProofs; refine hK _ _ (by rfl) ?_) | fail)
    refine aw_ret (fin_ret ?_); simp -implicitDefEqProofs [FinP, resV, resT] <;> try rfl
  by_cases c28 : k = 28
  · subst c28
    refine row_of Try.func48 rfl rfl (Nat.le_of_ble_eq_true rfl) ?_
    repeat (first | refine aw_seq ?_ | refine aw_skip ?_ | refine aw_block ?_ | refine aw_exit ?_ | refine aw_cond rfl (fun _ => ?_) (fun hb => absurd hb (by decide)) | refine aw_cond rfl (fun hb => absurd hb (by decide)) (fun _ => ?_) | (refine aw_reg (fun K hK => ?_); simp -implicitDefEqProofs; refine hK _ ?_) | (refine aw_drw mixd (fun K hK => ?_); simp -implicitDefEqProofs; refine hK _ _ (by rfl) ?_) | fail)
    refine aw_ret (fin_ret ?_); simp -implicitDefEqProofs [FinP, resV, resT] <;> try rfl
  by_cases c22 : k = 22
  · subst c22
    refine row_of Try.func48 rfl rfl (Nat.le_of_ble_eq_true rfl) ?_
    repeat (first | refine aw_seq ?_ | refine aw_skip ?_ | refine aw_block ?_ | refine aw_exit ?_ | refine aw_cond rfl (fun _ => ?_) (fun hb => absurd hb (by decide)) | refine aw_cond rfl (fun hb => absurd hb (by decide)) (fun _ => ?_) | (refine aw_reg (fun K hK => ?_); simp -implicitDefEqProofs; refine hK _ ?_) | (refine aw_drw mixd (fun K hK => ?_); simp -implicitDefEqProofs; refine hK _ _ (by rfl) ?_) | fail)
    refine aw_ret (fin_ret ?_); simp -implicitDefEqProofs [FinP, resV, resT] <;> try rfl
  by_cases c23 : k = 23
  · subst c23
    refine row_of Try.func48 rfl rfl (Nat.le_of_ble_eq_true rfl) ?_
    repeat (first | refine aw_seq ?_ | refine aw_skip ?_ | refine aw_block ?_ | refine aw_exit ?_ | refine aw_cond rfl (fun _ => ?_) (fun hb => absurd hb (by decide)) | refine aw_cond rfl (fun hb => absurd hb (by decide)) (fun _ => ?_) | (refine aw_reg (fun K hK => ?_); simp -implicitDefEqProofs; refine hK _ ?_) | (refine aw_drw mixd (fun K hK => ?_); simp -implicitDefEqProofs; refine hK _ _ (by rfl) ?_) | fail)
    refine aw_ret (fin_ret ?_); simp -implicitDefEqProofs [FinP, resV, resT] <;> try rfl
  by_cases c24 : k = 24
  · subst c24
    refine row_of Try.func48 rfl rfl (Nat.le_of_ble_eq_true rfl) ?_
    repeat (first | refine aw_seq ?_ | refine aw_skip ?_ | refine aw_block ?_ | refine aw_exit ?_ | refine aw_cond rfl (fun _ => ?_) (fun hb => absurd hb (by decide)) | refine aw_cond rfl (fun hb => absurd hb (by decide)) (fun _ => ?_) | (refine aw_reg (fun K hK => ?_); simp -implicitDefEqProofs; refine hK _ ?_) | (refine aw_drw mixd (fun K hK => ?_); simp -implicitDefEqProofs; refine hK _ _ (by rfl) ?_) | fail)
    refine aw_ret (fin_ret ?_); simp -implicitDefEqProofs [FinP, resV, resT] <;> try rfl
  by_cases c25 : k = 25
  · subst c25
    refine row_of Try.func48 rfl rfl (Nat.le_of_ble_eq_true rfl) ?_
    repeat (first | refine aw_seq ?_ | refine aw_skip ?_ | refine aw_block ?_ | refine aw_exit ?_ | refine aw_cond rfl (fun _ => ?_) (fun hb => absurd hb (by decide)) | refine aw_cond rfl (fun hb => absurd hb (by decide)) (fun _ => ?_) | (refine aw_reg (fun K hK => ?_); simp -implicitDefEqProofs; refine hK _ ?_) | (refine aw_drw mixd (fun K hK => ?_); simp -implicitDefEqProofs; refine hK _ _ (by rfl) ?_) | fail)
    refine aw_ret (fin_ret ?_); simp -implicitDefEqProofs [FinP, resV, resT] <;> try rfl
  refine row_of Try.func48 rfl rfl (Nat.le_of_ble_eq_true rfl) ?_
  repeat (first | refine aw_seq ?_ | refine aw_skip ?_ | refine aw_block ?_ | refine aw_exit ?_ | refine aw_cond rfl (fun _ => ?_) (fun hb => absurd hb (by decide)) | refine aw_cond rfl (fun hb => absurd hb (by decide)) (fun _ => ?_) | (refine aw_reg (fun K hK => ?_); simp -implicitDefEqProofs [c20, c21, c22, c23, c24, c25, c26, c27, c28]; refine hK _ ?_) | (refine aw_drw mixd (fun K hK => ?_); simp -implicitDefEqProofs [c20, c21, c22, c23, c24, c25, c26, c27, c28]; refine hK _ _ (by rfl) ?_) | fail)
  refine aw_ret (fin_ret ?_); simp -implicitDefEqProofs [FinP, resV, resT, c20, c21, c22, c23, c24, c25, c26, c27, c28] <;> try rfl
set_option maxRecDepth 100000 in
set_option maxHeartbeats 4000000 in
theorem ronly_row (m : VT) (L : List VT) (B : Nat) (hm : Fine B m) (hL : ∀ t ∈ L, Fine B t) (hB : B ≤ 400000) (hLl : L.length ≤ 1000000) (t : VT) (ht : in64 t) (hts : t.size ≤ 400000) (a b : Int) : Row Try.prog 49 [vT m, vLs L, vT t, vI a, vI b] [] (vGr (onlT m L t a b)) [] := by
  have hof := rof_row m L B hm hL hB hLl t ht hts
  obtain ⟨x, l⟩ := t
  have hba := rbad16_row x l 10
  unfold onlT
  have hfr := rfrom_row (ofT m L (.mk x l))
  rw [Tr.lab]
  obtain ⟨⟨⟨ax, al⟩, ⟨bx, bl⟩, p, e⟩, hG⟩ : ∃ g, ofT m L (.mk x l) = g := ⟨_, rfl⟩
  rw [hG] at hof hfr ⊢
  have i1 := ris_row (.mk ax al) a
  have i2 := ris_row (.mk ax al) b
  obtain ⟨p1, q1⟩ : ∃ p, isT (.mk ax al) a = p := ⟨_, rfl⟩
  obtain ⟨p2, q2⟩ : ∃ p, isT (.mk ax al) b = p := ⟨_, rfl⟩
  rw [q1] at i1 ⊢
  rw [q2] at i2 ⊢
  unfold badR at hba ⊢
  unfold fromG at hfr ⊢
  clear hG q1 q2
  obtain ⟨mx, ml⟩ := m
  by_cases he : e = 0
  · subst he
    cases p1 <;> cases p2
    · refine row_of Try.func49 rfl rfl (Nat.le_of_ble_eq_true rfl) ?_
      repeat' (first | refine aw_seq ?_ | refine aw_skip ?_ | refine aw_block ?_ | refine aw_exit ?_ | refine aw_cond rfl (fun _ => ?_) (fun hb => absurd hb (by decide)) | refine aw_cond rfl (fun hb => absurd hb (by decide)) (fun _ => ?_) | (refine aw_reg (fun K hK => ?_); simp -implicitDefEqProofs) | (refine aw_drw mixd (fun K hK => ?_); simp -implicitDefEqProofs) | refine hK _ ?_ | refine hK _ _ (by rfl) ?_ | (refine ar_call (cp hof ?_); simp -implicitDefEqProofs) | (refine ard_call (dp hof ?_); simp -implicitDefEqProofs) | (refine ar_call (cp i1 ?_); simp -implicitDefEqProofs) | (refine ard_call (dp i1 ?_); simp -implicitDefEqProofs) | (refine ar_call (cp i2 ?_); simp -implicitDefEqProofs) | (refine ard_call (dp i2 ?_); simp -implicitDefEqProofs) | (refine ar_call (cp hba ?_); simp -implicitDefEqProofs) | (refine ard_call (dp hba ?_); simp -implicitDefEqProofs) | (refine ar_call (cp hfr ?_); simp -implicitDefEqProofs) | (refine ard_call (dp hfr ?_); simp -implicitDefEqProofs) | fail)
      refine aw_ret (fin_ret ?_); simp -implicitDefEqProofs [FinP, resV, resT] <;> try rfl
    · refine row_of Try.func49 rfl rfl (Nat.le_of_ble_eq_true rfl) ?_
      repeat' (first | refine aw_seq ?_ | refine aw_skip ?_ | refine aw_block ?_ | refine aw_exit ?_ | refine aw_cond rfl (fun _ => ?_) (fun hb => absurd hb (by decide)) | refine aw_cond rfl (fun hb => absurd hb (by decide)) (fun _ => ?_) | (refine aw_reg (fun K hK => ?_); simp -implicitDefEqProofs) | (refine aw_drw mixd (fun K hK => ?_); simp -implicitDefEqProofs) | refine hK _ ?_ | refine hK _ _ (by rfl) ?_ | (refine ar_call (cp hof ?_); simp -implicitDefEqProofs) | (refine ard_call (dp hof ?_); simp -implicitDefEqProofs) | (refine ar_call (cp i1 ?_); simp -implicitDefEqProofs) | (refine ard_call (dp i1 ?_); simp -implicitDefEqProofs) | (refine ar_call (cp i2 ?_); simp -implicitDefEqProofs) | (refine ard_call (dp i2 ?_); simp -implicitDefEqProofs) | (refine ar_call (cp hba ?_); simp -implicitDefEqProofs) | (refine ard_call (dp hba ?_); simp -implicitDefEqProofs) | (refine ar_call (cp hfr ?_); simp -implicitDefEqProofs) | (refine ard_call (dp hfr ?_); simp -implicitDefEqProofs) | fail)
      refine aw_ret (fin_ret ?_); simp -implicitDefEqProofs [FinP, resV, resT] <;> try rfl
    · refine row_of Try.func49 rfl rfl (Nat.le_of_ble_eq_true rfl) ?_
      repeat' (first | refine aw_seq ?_ | refine aw_skip ?_ | refine aw_block ?_ | refine aw_exit ?_ | refine aw_cond rfl (fun _ => ?_) (fun hb => absurd hb (by decide)) | refine aw_cond rfl (fun hb => absurd hb (by decide)) (fun _ => ?_) | (refine aw_reg (fun K hK => ?_); simp -implicitDefEqProofs) | (refine aw_drw mixd (fun K hK => ?_); simp -implicitDefEqProofs) | refine hK _ ?_ | refine hK _ _ (by rfl) ?_ | (refine ar_call (cp hof ?_); simp -implicitDefEqProofs) | (refine ard_call (dp hof ?_); simp -implicitDefEqProofs) | (refine ar_call (cp i1 ?_); simp -implicitDefEqProofs) | (refine ard_call (dp i1 ?_); simp -implicitDefEqProofs) | (refine ar_call (cp i2 ?_); simp -implicitDefEqProofs) | (refine ard_call (dp i2 ?_); simp -implicitDefEqProofs) | (refine ar_call (cp hba ?_); simp -implicitDefEqProofs) | (refine ard_call (dp hba ?_); simp -implicitDefEqProofs) | (refine ar_call (cp hfr ?_); simp -implicitDefEqProofs) | (refine ard_call (dp hfr ?_); simp -implicitDefEqProofs) | fail)
      refine aw_ret (fin_ret ?_); simp -implicitDefEqProofs [FinP, resV, resT] <;> try rfl
    · refine row_of Try.func49 rfl rfl (Nat.le_of_ble_eq_true rfl) ?_
      repeat' (first | refine aw_seq ?_ | refine aw_skip ?_ | refine aw_block ?_ | refine aw_exit ?_ | refine aw_cond rfl (fun _ => ?_) (fun hb => absurd hb (by decide)) | refine aw_cond rfl (fun hb => absurd hb (by decide)) (fun _ => ?_) | (refine aw_reg (fun K hK => ?_); simp -implicitDefEqProofs) | (refine aw_drw mixd (fun K hK => ?_); simp -implicitDefEqProofs) | refine hK _ ?_ | refine hK _ _ (by rfl) ?_ | (refine ar_call (cp hof ?_); simp -implicitDefEqProofs) | (refine ard_call (dp hof ?_); simp -implicitDefEqProofs) | (refine ar_call (cp i1 ?_); simp -implicitDefEqProofs) | (refine ard_call (dp i1 ?_); simp -implicitDefEqProofs) | (refine ar_call (cp i2 ?_); simp -implicitDefEqProofs) | (refine ard_call (dp i2 ?_); simp -implicitDefEqProofs) | (refine ar_call (cp hba ?_); simp -implicitDefEqProofs) | (refine ard_call (dp hba ?_); simp -implicitDefEqProofs) | (refine ar_call (cp hfr ?_); simp -implicitDefEqProofs) | (refine ard_call (dp hfr ?_); simp -implicitDefEqProofs) | fail)
      refine aw_ret (fin_ret ?_); simp -implicitDefEqProofs [FinP, resV, resT] <;> try rfl
  · refine row_of Try.func49 rfl rfl (Nat.le_of_ble_eq_true rfl) ?_
    repeat' (first | refine aw_seq ?_ | refine aw_skip ?_ | refine aw_block ?_ | refine aw_exit ?_ | refine aw_cond rfl (fun _ => ?_) (fun hb => absurd hb (by decide)) | refine aw_cond rfl (fun hb => absurd hb (by decide)) (fun _ => ?_) | (refine aw_reg (fun K hK => ?_); simp -implicitDefEqProofs [he]) | (refine aw_drw mixd (fun K hK => ?_); simp -implicitDefEqProofs [he]) | refine hK _ ?_ | refine hK _ _ (by rfl) ?_ | (refine ar_call (cp hof ?_); simp -implicitDefEqProofs [he]) | (refine ard_call (dp hof ?_); simp -implicitDefEqProofs [he]) | (refine ar_call (cp i1 ?_); simp -implicitDefEqProofs [he]) | (refine ard_call (dp i1 ?_); simp -implicitDefEqProofs [he]) | (refine ar_call (cp i2 ?_); simp -implicitDefEqProofs [he]) | (refine ard_call (dp i2 ?_); simp -implicitDefEqProofs [he]) | (refine ar_call (cp hba ?_); simp -implicitDefEqProofs [he]) | (refine ard_call (dp hba ?_); simp -implicitDefEqProofs [he]) | (refine ar_call (cp hfr ?_); simp -implicitDefEqProofs [he]) | (refine ard_call (dp hfr ?_); simp -implicitDefEqProofs [he]) | fail)
    refine aw_ret (fin_ret ?_); simp -implicitDefEqProofs [FinP, resV, resT, he] <;> try rfl
set_option maxRecDepth 100000 in
set_option maxHeartbeats 4000000 in
theorem rbrings_row (m : VT) (L : List VT) (B : Nat) (hm : Fine B m) (hL : ∀ t ∈ L, Fine B t) (hB : B ≤ 400000) (hLl : L.length ≤ 900000) (t : VT) (ht : in64 t) (hts : t.size ≤ 400000) : Row Try.prog 43 [vT m, vLs L, vT t] [] (vLs (brgT m L t)) [] := by
  obtain ⟨x, l⟩ := t
  unfold brgT
  rw [Tr.lab, Tr.kids]
  have b1 : (L.length + 1) * 72 ≤ 140737488355328 := by omega
  have b2 : L.length + 1 ≤ 140737488355328 := by omega
  have b3 : L.length * 72 ≤ 140737488355328 := by omega
  have b4 : L.length ≤ 140737488355328 := by omega
  by_cases h1 : l.length = 1; rotate_left
  · rw [if_neg (fun h => h1 h.2), if_neg (fun h => h1 h.2)]
    have h1' : ¬ (l.length : Int) = 1 := by omega
    obtain ⟨mx, ml⟩ := m
    by_cases c20 : x.k = 20
    · refine row_of Try.func43 rfl rfl (Nat.le_of_ble_eq_true rfl) ?_
      repeat (first | refine aw_seq ?_ | refine aw_skip ?_ | refine aw_block ?_ | refine aw_exit ?_ | refine aw_cond rfl (fun _ => ?_) (fun hb => absurd hb (by decide)) | refine aw_cond rfl (fun hb => absurd hb (by decide)) (fun _ => ?_) | (refine aw_reg (fun K hK => ?_); simp -implicitDefEqProofs [c20, h1, h1']; refine hK _ ?_) | (refine aw_drw mixd (fun K hK => ?_); simp -implicitDefEqProofs [c20, h1, h1']; refine hK _ _ (by rfl) ?_) | fail)
      refine aw_ret (fin_ret ?_); simp -implicitDefEqProofs [FinP, resV, resT] <;> try rfl
    · by_cases c21 : x.k = 21
      · refine row_of Try.func43 rfl rfl (Nat.le_of_ble_eq_true rfl) ?_
        repeat (first | refine aw_seq ?_ | refine aw_skip ?_ | refine aw_block ?_ | refine aw_exit ?_ | refine aw_cond rfl (fun _ => ?_) (fun hb => absurd hb (by decide)) | refine aw_cond rfl (fun hb => absurd hb (by decide)) (fun _ => ?_) | (refine aw_reg (fun K hK => ?_); simp -implicitDefEqProofs [c21, h1, h1']; refine hK _ ?_) | (refine aw_drw mixd (fun K hK => ?_); simp -implicitDefEqProofs [c21, h1, h1']; refine hK _ _ (by rfl) ?_) | fail)
        refine aw_ret (fin_ret ?_); simp -implicitDefEqProofs [FinP, resV, resT] <;> try rfl
      · refine row_of Try.func43 rfl rfl (Nat.le_of_ble_eq_true rfl) ?_
        repeat (first | refine aw_seq ?_ | refine aw_skip ?_ | refine aw_block ?_ | refine aw_exit ?_ | refine aw_cond rfl (fun _ => ?_) (fun hb => absurd hb (by decide)) | refine aw_cond rfl (fun hb => absurd hb (by decide)) (fun _ => ?_) | (refine aw_reg (fun K hK => ?_); simp -implicitDefEqProofs [c20, c21, h1, h1']; refine hK _ ?_) | (refine aw_drw mixd (fun K hK => ?_); simp -implicitDefEqProofs [c20, c21, h1, h1']; refine hK _ _ (by rfl) ?_) | fail)
        refine aw_ret (fin_ret ?_); simp -implicitDefEqProofs [FinP, resV, resT] <;> try rfl
  obtain ⟨⟨ax, al⟩, rfl⟩ := one_of h1
  have hsz1 := Tr.size_at (x := x) (l := [Tr.mk ax al]) (i := 0) rfl
  have hof := rof_row m L B hm hL hB (by omega) (.mk ax al) (((Tr.all_mk _ _ _).1 ht).2 _ (by simp)) (by omega)
  by_cases c20 : x.k = 20
  · rw [if_pos ⟨c20, h1⟩]
    rw [show [Tr.mk ax al].getD 0 z0T = .mk ax al from rfl]
    obtain ⟨⟨⟨cx, cl⟩, ⟨bx, bl⟩, p, e⟩, hG⟩ : ∃ g, ofT m L (.mk ax al) = g := ⟨_, rfl⟩
    rw [hG] at hof ⊢
    clear hG
    obtain ⟨mx, ml⟩ := m
    refine row_of Try.func43 rfl rfl (Nat.le_of_ble_eq_true rfl) ?_
    repeat' (first | refine aw_seq ?_ | refine aw_skip ?_ | refine aw_block ?_ | refine aw_exit ?_ | refine aw_cond rfl (fun _ => ?_) (fun hb => absurd hb (by decide)) | refine aw_cond rfl (fun hb => absurd hb (by decide)) (fun _ => ?_) | (refine aw_reg (fun K hK => ?_); simp -implicitDefEqProofs [c20, b1, b2, b3, b4]) | (refine aw_drw mixd (fun K hK => ?_); simp -implicitDefEqProofs [c20, b1, b2, b3, b4]) | refine hK _ ?_ | refine hK _ _ (by rfl) ?_ | (refine ar_call (cp hof ?_); simp -implicitDefEqProofs [c20, b1, b2, b3, b4]) | (refine ard_call (dp hof ?_); simp -implicitDefEqProofs [c20, b1, b2, b3, b4]) | fail)
    refine aw_ret (fin_ret ?_); simp -implicitDefEqProofs [FinP, resV, resT] <;> try rfl
  · rw [if_neg (fun h => c20 h.1)]
    clear hof
    by_cases c21 : x.k = 21
    · rw [if_pos ⟨c21, h1⟩]
      obtain ⟨mx, ml⟩ := m
      refine row_of Try.func43 rfl rfl (Nat.le_of_ble_eq_true rfl) ?_
      repeat (first | refine aw_seq ?_ | refine aw_skip ?_ | refine aw_block ?_ | refine aw_exit ?_ | refine aw_cond rfl (fun _ => ?_) (fun hb => absurd hb (by decide)) | refine aw_cond rfl (fun hb => absurd hb (by decide)) (fun _ => ?_) | (refine aw_reg (fun K hK => ?_); simp -implicitDefEqProofs [c21, b1, b2, b3, b4]; refine hK _ ?_) | (refine aw_drw mixd (fun K hK => ?_); simp -implicitDefEqProofs [c21, b1, b2, b3, b4]; refine hK _ _ (by rfl) ?_) | fail)
      refine aw_ret (fin_ret ?_); simp -implicitDefEqProofs [FinP, resV, resT] <;> try rfl
    · rw [if_neg (fun h => c21 h.1)]
      obtain ⟨mx, ml⟩ := m
      refine row_of Try.func43 rfl rfl (Nat.le_of_ble_eq_true rfl) ?_
      repeat (first | refine aw_seq ?_ | refine aw_skip ?_ | refine aw_block ?_ | refine aw_exit ?_ | refine aw_cond rfl (fun _ => ?_) (fun hb => absurd hb (by decide)) | refine aw_cond rfl (fun hb => absurd hb (by decide)) (fun _ => ?_) | (refine aw_reg (fun K hK => ?_); simp -implicitDefEqProofs [c20, c21]; refine hK _ ?_) | (refine aw_drw mixd (fun K hK => ?_); simp -implicitDefEqProofs [c20, c21]; refine hK _ _ (by rfl) ?_) | fail)
      refine aw_ret (fin_ret ?_); simp -implicitDefEqProofs [FinP, resV, resT] <;> try rfl
end Go.Proofs.Ythmdllhhmhbhbaa.am
end
section
namespace Go.Proofs.Ythmdllhhmhbhbaa.am
open Go.ChangeShapes Go.WideShapes Go.ChangeAt Go.RowKit
open vt
set_option linter.unusedVariables false
set_option linter.unusedSimpArgs false
theorem prtN_cases (k : Int) : prtN k = (-1, 0) ∨ ∃ n b : Nat, prtN k = ((n : Int), (b : Int)) ∧ b ≤ n ∧ n ≤ 3 := by
  unfold prtN
  split
  · exact .inr ⟨1, 0, rfl, by omega, by omega⟩
  · split
    · exact .inr ⟨2, 0, rfl, by omega, by omega⟩
    · split
      · exact .inr ⟨3, 2, rfl, by omega, by omega⟩
      · split
        · exact .inr ⟨2, 1, rfl, by omega, by omega⟩
        · split
          · exact .inr ⟨3, 1, rfl, by omega, by omega⟩
          · exact .inl rfl
theorem drop_all {l : List VT} {s : Nat} {p : VT → Bool} (h : ∀ j y, s ≤ j → l[j]? = some y → p y = true) : (l.drop s).all p = true := by
  rw [List.all_eq_true]
  intro y hy
  obtain ⟨i, hi⟩ := List.mem_iff_getElem?.1 hy
  rw [List.getElem?_drop] at hi
  exact h (s + i) y (by omega) hi
theorem drop_no {l : List VT} {s j : Nat} {y : VT} {p : VT → Bool} (hj : s ≤ j) (hy : l[j]? = some y) (hp : p y = false) : (l.drop s).all p = false := by
  rw [List.all_eq_false]
  refine ⟨y, List.mem_iff_getElem?.2 ⟨j - s, ?_⟩, by rw [hp]; simp⟩
  rw [List.getElem?_drop, show s + (j - s) = j by omega]
  exact hy
set_option maxRecDepth 100000 in
set_option maxHeartbeats 4000000 in
theorem rshape_row (x : Lab) (l : List VT) (hsz : (Tr.mk x l).size ≤ 1000000) : Row Try.prog 44 [vT (.mk x l)] [] (vB (shpS x l)) [] := by
  have hlen := Tr.len_size (x := x) (l := l)
  by_cases c29 : x.k = 29
  · unfold shpS
    rw [if_pos c29]
    refine row_of Try.func44 rfl rfl (Nat.le_of_ble_eq_true rfl) ?_
    repeat (first | refine aw_seq ?_ | refine aw_skip ?_ | refine aw_block ?_ | refine aw_exit ?_ | refine aw_cond rfl (fun _ => ?_) (fun hb => absurd hb (by decide)) | refine aw_cond rfl (fun hb => absurd hb (by decide)) (fun _ => ?_) | (refine aw_reg (fun K hK => ?_); simp -implicitDefEqProofs [c29]; refine hK _ ?_) | (refine aw_drw mixd (fun K hK => ?_); simp -implicitDefEqProofs [c29]; refine hK _ _ (by rfl) ?_) | fail)
    refine aw_ret (fin_ret ?_); simp -implicitDefEqProofs [FinP, resV, resT] <;> try rfl
  have hp := rparts_row x.k
  have hs : shpS x l = (decide ((l.length : Int) = (prtN x.k).1) && (l.drop ((prtN x.k).1 - (prtN x.k).2).toNat).all blkB) := by unfold shpS; rw [if_neg c29]
  rcases prtN_cases x.k with e | ⟨n, b, e, hb, hn⟩
  · rw [e] at hp hs
    dsimp only at hp hs
    have h1 : ¬ (l.length : Int) = -1 := by omega
    rw [decide_eq_false h1, Bool.false_and] at hs
    rw [hs]
    clear hs e
    refine row_of Try.func44 rfl rfl (Nat.le_of_ble_eq_true rfl) ?_
    repeat' (first | refine aw_seq ?_ | refine aw_skip ?_ | refine aw_block ?_ | refine aw_exit ?_ | refine aw_cond rfl (fun _ => ?_) (fun hb => absurd hb (by decide)) | refine aw_cond rfl (fun hb => absurd hb (by decide)) (fun _ => ?_) | (refine aw_reg (fun K hK => ?_); simp -implicitDefEqProofs [c29, h1]) | (refine aw_drw mixd (fun K hK => ?_); simp -implicitDefEqProofs [c29, h1]) | refine hK _ ?_ | refine hK _ _ (by rfl) ?_ | (refine ar_call (cp hp ?_); simp -implicitDefEqProofs [c29, h1]) | (refine ard_call (dp hp ?_); simp -implicitDefEqProofs [c29, h1]) | fail)
    refine aw_ret (fin_ret ?_); simp -implicitDefEqProofs [FinP, resV, resT] <;> try rfl
  rw [e] at hp hs
  dsimp only at hp hs
  by_cases hl : l.length = n; rotate_left
  · have h1 : ¬ (l.length : Int) = (n : Nat) := by omega
    rw [decide_eq_false h1, Bool.false_and] at hs
    rw [hs]
    clear hs e
    refine row_of Try.func44 rfl rfl (Nat.le_of_ble_eq_true rfl) ?_
    repeat' (first | refine aw_seq ?_ | refine aw_skip ?_ | refine aw_block ?_ | refine aw_exit ?_ | refine aw_cond rfl (fun _ => ?_) (fun hb => absurd hb (by decide)) | refine aw_cond rfl (fun hb => absurd hb (by decide)) (fun _ => ?_) | (refine aw_reg (fun K hK => ?_); simp -implicitDefEqProofs [c29, h1, hl]) | (refine aw_drw mixd (fun K hK => ?_); simp -implicitDefEqProofs [c29, h1, hl]) | refine hK _ ?_ | refine hK _ _ (by rfl) ?_ | (refine ar_call (cp hp ?_); simp -implicitDefEqProofs [c29, h1, hl]) | (refine ard_call (dp hp ?_); simp -implicitDefEqProofs [c29, h1, hl]) | fail)
    refine aw_ret (fin_ret ?_); simp -implicitDefEqProofs [FinP, resV, resT] <;> try rfl
  subst hl
  rw [decide_eq_true rfl, Bool.true_and] at hs
  obtain ⟨s, hsb⟩ : ∃ s : Nat, l.length - b = s := ⟨_, rfl⟩
  have w1 : IntKind.i64.wrap ((l.length : Nat) - (b : Nat) : Int) = (s : Nat) := by rw [i64i _ (by omega) (by omega)]; omega
  rw [show ((l.length : Int) - (b : Int)).toNat = s by omega] at hs
  rw [hs]
  have hno := fun j y h1 h2 h3 => drop_no (l := l) (s := s) (j := j) (y := y) (p := blkB) h1 h2 h3
  have hyes := drop_all (l := l) (s := s) (p := blkB)
  obtain ⟨R, hR⟩ : ∃ R, (l.drop s).all blkB = R := ⟨_, rfl⟩
  rw [hR] at hno hyes ⊢
  clear hs e hR
  refine row_of Try.func44 rfl rfl (Nat.le_of_ble_eq_true rfl) ?_
  repeat' (first | refine aw_seq ?_ | refine aw_skip ?_ | refine aw_block ?_ | refine aw_exit ?_ | refine aw_cond rfl (fun _ => ?_) (fun hb => absurd hb (by decide)) | refine aw_cond rfl (fun hb => absurd hb (by decide)) (fun _ => ?_) | (refine aw_reg (fun K hK => ?_); simp -implicitDefEqProofs [c29, w1]) | (refine aw_drw mixd (fun K hK => ?_); simp -implicitDefEqProofs [c29, w1]) | refine hK _ ?_ | refine hK _ _ (by rfl) ?_ | (refine ar_call (cp hp ?_); simp -implicitDefEqProofs [c29, w1]) | (refine ard_call (dp hp ?_); simp -implicitDefEqProofs [c29, w1]) | fail)
  refine aw_lp (ι := Nat) (fun k => mkSt [(1, .v (.c (.ptr 0 0))), (3, vI (l.length : Nat)), (5, vI (k : Nat))] [some (.box (ta (.mk x l)))]) (fun k => s ≤ k ∧ k ≤ l.length ∧ ∀ j y, s ≤ j → j < k → l[j]? = some y → blkB y = true) (fun k => l.length - k) s ⟨Nat.le_refl _, by omega, fun j y h1 h2 => by omega⟩ (cov_intro [0] (by simp -implicitDefEqProofs) (by simp -implicitDefEqProofs) (by decide) rfl (by simp)) (fun Z hI k hk => ?_)
  obtain ⟨hk0, hk, hz⟩ := hk
  by_cases hkl : k < l.length; rotate_left
  · have : k = l.length := by omega
    subst this
    have hR := hyes (fun j y h1 h2 => hz j y h1 (List.getElem?_eq_some_iff.1 h2).1 h2)
    subst hR
    clear hno hyes
    repeat (first | refine aw_seq ?_ | refine aw_skip ?_ | refine aw_block ?_ | refine aw_exit ?_ | refine aw_cond rfl (fun _ => ?_) (fun hb => absurd hb (by decide)) | refine aw_cond rfl (fun hb => absurd hb (by decide)) (fun _ => ?_) | (refine aw_reg (fun K hK => ?_); simp -implicitDefEqProofs; refine hK _ ?_) | (refine aw_drw mixd (fun K hK => ?_); simp -implicitDefEqProofs; refine hK _ _ (by rfl) ?_) | fail)
    refine aw_ret (fin_ret ?_); simp -implicitDefEqProofs [FinP, resV, resT] <;> try rfl
  obtain ⟨⟨ax, al⟩, ha⟩ : ∃ a, l[k]? = some a := ⟨_, List.getElem?_eq_getElem hkl⟩
  have ha' := (List.getElem?_eq_some_iff.1 ha).2
  have w2 : IntKind.i64.wrap ((k : Nat) + 1 : Int) = (k : Nat) + 1 := i64i _ (by omega) (by omega)
  by_cases ak : ax.k = 29
  · clear hno hyes
    repeat (first | refine aw_seq ?_ | refine aw_skip ?_ | refine aw_block ?_ | refine aw_exit ?_ | refine aw_cond rfl (fun _ => ?_) (fun hb => absurd hb (by decide)) | refine aw_cond rfl (fun hb => absurd hb (by decide)) (fun _ => ?_) | (refine aw_reg (fun K hK => ?_); simp -implicitDefEqProofs [hkl, ha, ha', ak, w2]; refine hK _ ?_) | (refine aw_drw mixd (fun K hK => ?_); simp -implicitDefEqProofs [hkl, ha, ha', ak, w2]; refine hK _ _ (by rfl) ?_) | fail)
    refine ⟨k + 1, ⟨by omega, by omega, fun j y h1 h2 h3 => ?_⟩, (by dsimp only; omega), ?_⟩
    · by_cases hj : j = k
      · subst hj; rw [ha] at h3; cases h3; unfold blkB; simp [Tr.lab, ak]
      · exact hz j y h1 (by omega) h3
    · rw [hI]; exact cov_intro [0] (by simp -implicitDefEqProofs) (by simp -implicitDefEqProofs) (by decide) rfl (by simp)
  · have hR := hno k _ hk0 ha (by unfold blkB; simp [Tr.lab, ak])
    subst hR
    clear hno hyes
    repeat (first | refine aw_seq ?_ | refine aw_skip ?_ | refine aw_block ?_ | refine aw_exit ?_ | refine aw_cond rfl (fun _ => ?_) (fun hb => absurd hb (by decide)) | refine aw_cond rfl (fun hb => absurd hb (by decide)) (fun _ => ?_) | (refine aw_reg (fun K hK => ?_); simp -implicitDefEqProofs [hkl, ha, ha', ak]; refine hK _ ?_) | (refine aw_drw mixd (fun K hK => ?_); simp -implicitDefEqProofs [hkl, ha, ha', ak]; refine hK _ _ (by rfl) ?_) | fail)
    refine aw_ret (fin_ret ?_); simp -implicitDefEqProofs [FinP, resV, resT] <;> try rfl
structure Cn (m : VT) (L : List VT) (ret : VT) (B sz : Nat) : Prop where
  hm : Fine B m
  hL : ∀ t ∈ L, Fine B t
  len : L.length + sz ≤ 400000
  le : B + sz ≤ 400000
  ret : Fine 400000 ret
theorem Cn.less {m : VT} {L : List VT} {ret : VT} {B sz sz' : Nat} (h : Cn m L ret B sz) (hs : sz' ≤ sz) : Cn m L ret B sz' := ⟨h.hm, h.hL, by have := h.len; omega, by have := h.le; omega, h.ret⟩
end Go.Proofs.Ythmdllhhmhbhbaa.am
end
section
namespace Go.Proofs.Ythmdllhhmhbhbaa.am
open Go.ChangeShapes Go.WideShapes Go.ChangeAt Go.RowKit
open vt
set_option linter.unusedVariables false
set_option linter.unusedSimpArgs false
theorem brgT_cn {m : VT} {L : List VT} {ret : VT} {B sz : Nat} {t : VT} (h : Cn m L ret B (t.size + sz)) (ht : in64 t) : Cn m (brgT m L t) ret (B + t.size) sz := by
  have hlen := h.len
  have hle := h.le
  have hL : ∀ y ∈ L, Fine (B + t.size) y := fun y hy => (h.hL y hy).le (by omega)
  obtain ⟨x, l⟩ := t
  have hp := Tr.size_pos (Tr.mk x l)
  unfold brgT
  rw [Tr.lab, Tr.kids]
  have hin : ∀ z, l.length = 1 → Fine (B + (Tr.mk x l).size) z → Cn m (L ++ [z]) ret (B + (Tr.mk x l).size) sz := fun z _ hz => ⟨h.hm.le (by omega), fun y hy => by
    rcases List.mem_append.1 hy with hy | hy
    · exact hL y hy
    · simp at hy; subst hy; exact hz, by simp; omega, by omega, h.ret⟩
  split
  · rename_i hc
    obtain ⟨a, rfl⟩ := one_of hc.2
    have hs := Tr.size_at (x := x) (l := [a]) (i := 0) rfl
    have := (ofT_ok h.hm (by have := h.hm.2; omega) h.hL a (((Tr.all_mk _ _ _).1 ht).2 a (by simp)) (by omega)).ty
    exact hin _ hc.2 (this.le (by omega))
  · split
    · rename_i hc
      obtain ⟨a, rfl⟩ := one_of hc.2
      have hs := Tr.size_at (x := x) (l := [a]) (i := 0) rfl
      refine hin _ hc.2 ⟨((Tr.all_mk _ _ _).1 ht).2 a (by simp), ?_⟩
      show a.size ≤ _
      omega
    · exact ⟨h.hm.le (by omega), hL, by omega, by omega, h.ret⟩
def StR (m ret y : VT) : Prop := ∀ L B, Cn m L ret B y.size → Row Try.prog 42 [vT m, vLs L, vT ret, vT y] [] (vGr (stmT m ret y L)) []
def BlR (m ret y : VT) : Prop := ∀ L B, Cn m L ret B y.size → Row Try.prog 35 [vT m, vLs L, vT ret, vT y] [] (vGr (blkT m ret y.lab y.kids L [])) []
set_option maxRecDepth 100000 in
set_option maxHeartbeats 4000000 in
theorem rblock_row (m ret : VT) (x : Lab) (l : List VT) (ht : in64 (.mk x l)) (ih : ∀ y ∈ l, StR m ret y) : BlR m ret (.mk x l) := by
  intro L B hc
  have hlen := Tr.len_size (x := x) (l := l)
  have hcl := hc.len
  have hcB := hc.le
  have hsum : (l.map Tr.size).sum + 1 = (Tr.mk x l).size := by rw [Tr.size_mk]; omega
  rw [Tr.lab, Tr.kids]
  obtain ⟨R, hR⟩ : ∃ R, blkT m ret x l L [] = R := ⟨_, rfl⟩
  rw [hR]
  have hc0 : Cn m L ret B (l.map Tr.size).sum := hc.less (by omega)
  clear hc
  have hbr := fun (L : List VT) (B sz : Nat) (h : Cn m L ret B sz) (t : VT) (ht : in64 t) (hs : t.size ≤ 400000) => rbrings_row m L B h.hm h.hL (by have := h.le; omega) (by have := h.len; omega) t ht hs
  obtain ⟨⟨mx, ml⟩, rfl⟩ : ∃ q, m = q := ⟨_, rfl⟩
  obtain ⟨⟨rx, rl⟩, rfl⟩ : ∃ q, ret = q := ⟨_, rfl⟩
  refine row_of Try.func35 rfl rfl (Nat.le_of_ble_eq_true rfl) ?_
  repeat (first | refine aw_seq ?_ | refine aw_skip ?_ | refine aw_block ?_ | refine aw_exit ?_ | refine aw_cond rfl (fun _ => ?_) (fun hb => absurd hb (by decide)) | refine aw_cond rfl (fun hb => absurd hb (by decide)) (fun _ => ?_) | (refine aw_reg (fun K hK => ?_); simp -implicitDefEqProofs; refine hK _ ?_) | (refine aw_drw mixd (fun K hK => ?_); simp -implicitDefEqProofs; refine hK _ _ (by rfl) ?_) | fail)
  refine aw_lp (ι := Nat × List VT × List VT) (fun i => mkSt [(1, vLs i.2.1), (4, .v (.c (.ptr 0 0))), (6, .v (.c (.ptr 1 0))), (7, .v (.c (.ptr 2 0))), (8, .v (.c (.ptr 3 0))), (9, .v (.c (.ptr 4 0))), (10, vI (i.1 : Nat))] [some (.box (ta (.mk mx ml))), some (.box (ta (.mk rx rl))), some (.box (ta (.mk x l))), some (.box (ta z0T ++ [.pv (I 0), .pv (I 0)])), some (.box [.pv (I x.k), .pv (I x.n), .pv (Sx ⟨#[]⟩), .row 5 6 (i.2.2.map tc), .pv (I 0), .pv (I 0)]), some (.row 24 6)]) (fun i => i.1 ≤ l.length ∧ i.2.2.length = i.1 ∧ blkT (.mk mx ml) (.mk rx rl) x (l.drop i.1) i.2.1 i.2.2 = R ∧ ∃ C, Cn (.mk mx ml) i.2.1 (.mk rx rl) C ((l.drop i.1).map Tr.size).sum) (fun i => l.length - i.1) (0, L, []) ⟨Nat.zero_le _, rfl, hR, B, hc0⟩ (cov_intro [0, 1, 2, 3, 10, 8] (by simp -implicitDefEqProofs) (by simp -implicitDefEqProofs) (by decide) rfl (by simp)) (fun Z hI i hi => ?_)
  obtain ⟨k, LK, AK⟩ := i
  obtain ⟨hk, hal, hz, C, hC⟩ := hi
  dsimp only at hk hal hz hC ⊢
  by_cases hkl : k < l.length; rotate_left
  · have : k = l.length := by omega
    subst this
    rw [List.drop_length] at hz
    unfold blkT at hz
    subst hz
    repeat (first | refine aw_seq ?_ | refine aw_skip ?_ | refine aw_block ?_ | refine aw_exit ?_ | refine aw_cond rfl (fun _ => ?_) (fun hb => absurd hb (by decide)) | refine aw_cond rfl (fun hb => absurd hb (by decide)) (fun _ => ?_) | (refine aw_reg (fun K hK => ?_); simp -implicitDefEqProofs; refine hK _ ?_) | (refine aw_drw mixd (fun K hK => ?_); simp -implicitDefEqProofs; refine hK _ _ (by rfl) ?_) | fail)
    refine aw_ret (fin_ret ?_); simp -implicitDefEqProofs [FinP, resV, resT] <;> try rfl
  obtain ⟨⟨ax, al⟩, ha⟩ : ∃ a, l[k]? = some a := ⟨_, List.getElem?_eq_getElem hkl⟩
  have ha' := (List.getElem?_eq_some_iff.1 ha).2
  have hmem := List.mem_of_getElem? ha
  have hin := ((Tr.all_mk _ x l).1 ht).2 _ hmem
  have hsz1 := Tr.size_at (x := x) ha
  have hd : l.drop k = .mk ax al :: l.drop (k + 1) := by rw [List.drop_eq_getElem_cons hkl, ha']
  rw [hd] at hz hC
  rw [List.map_cons, List.sum_cons] at hC
  have hc := ih _ hmem LK C (hC.less (by omega))
  have hb := hbr LK C _ hC (.mk ax al) hin (by have := hC.le; omega)
  have hn := brgT_cn hC hin
  have w2 : IntKind.i64.wrap ((k : Nat) + 1 : Int) = (k : Nat) + 1 := i64i _ (by omega) (by omega)
  have b1 : (k + 1) * 72 ≤ 140737488355328 := by omega
  have b2 : k + 1 ≤ 140737488355328 := by omega
  unfold blkT at hz
  obtain ⟨⟨⟨bx, bl⟩, gp, ge⟩, hG⟩ : ∃ g, stmT (.mk mx ml) (.mk rx rl) (.mk ax al) LK = g := ⟨_, rfl⟩
  rw [hG] at hc hz
  obtain ⟨LN, hLN⟩ : ∃ LN, brgT (.mk mx ml) LK (.mk ax al) = LN := ⟨_, rfl⟩
  rw [hLN] at hb hz hn
  clear hG hLN hd hin hC ih hbr
  by_cases he : ge = 0
  · subst he
    rw [if_pos rfl] at hz
    repeat' (first | refine aw_seq ?_ | refine aw_skip ?_ | refine aw_block ?_ | refine aw_exit ?_ | refine aw_cond rfl (fun _ => ?_) (fun hb => absurd hb (by decide)) | refine aw_cond rfl (fun hb => absurd hb (by decide)) (fun _ => ?_) | (refine aw_reg (fun K hK => ?_); simp -implicitDefEqProofs [hkl, ha, ha', hal, b1, b2, w2]) | (refine aw_drw mixd (fun K hK => ?_); simp -implicitDefEqProofs [hkl, ha, ha', hal, b1, b2, w2]) | refine hK _ ?_ | refine hK _ _ (by rfl) ?_ | (refine ar_call (cp hc ?_); simp -implicitDefEqProofs [hkl, ha, ha', hal, b1, b2, w2]) | (refine ard_call (dp hc ?_); simp -implicitDefEqProofs [hkl, ha, ha', hal, b1, b2, w2]) | (refine ar_call (cp hb ?_); simp -implicitDefEqProofs [hkl, ha, ha', hal, b1, b2, w2]) | (refine ard_call (dp hb ?_); simp -implicitDefEqProofs [hkl, ha, ha', hal, b1, b2, w2]) | fail)
    refine ⟨(k + 1, LN, AK ++ [.mk bx bl]), ⟨by omega, by simp [hal], hz, _, hn⟩, (by dsimp only; omega), ?_⟩
    rw [hI]; exact cov_intro [0, 1, 2, 3, 4, 107] (by simp -implicitDefEqProofs) (by simp -implicitDefEqProofs) (by decide) rfl (by simp)
  · rw [if_neg he] at hz
    subst hz
    repeat' (first | refine aw_seq ?_ | refine aw_skip ?_ | refine aw_block ?_ | refine aw_exit ?_ | refine aw_cond rfl (fun _ => ?_) (fun hb => absurd hb (by decide)) | refine aw_cond rfl (fun hb => absurd hb (by decide)) (fun _ => ?_) | (refine aw_reg (fun K hK => ?_); simp -implicitDefEqProofs [hkl, ha, ha', he]) | (refine aw_drw mixd (fun K hK => ?_); simp -implicitDefEqProofs [hkl, ha, ha', he]) | refine hK _ ?_ | refine hK _ _ (by rfl) ?_ | (refine ar_call (cp hc ?_); simp -implicitDefEqProofs [hkl, ha, ha', he]) | (refine ard_call (dp hc ?_); simp -implicitDefEqProofs [hkl, ha, ha', he]) | fail)
    refine aw_ret (fin_ret ?_); simp -implicitDefEqProofs [FinP, resV, resT] <;> try rfl
end Go.Proofs.Ythmdllhhmhbhbaa.am
end
