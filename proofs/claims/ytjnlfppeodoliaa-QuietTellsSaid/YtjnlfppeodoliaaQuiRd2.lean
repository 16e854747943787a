/-
  Layer 24: what a term reads: the document's.
-/
import Derived.Test.YtjnlfppeodoliaaQuiRd
namespace Go.Proofs.Ytjnlfppeodoliaa.am
open Go.ChangeShapes Go.WideShapes Go.ChangeAt Go.RowKit
open vt
set_option linter.unusedVariables false
set_option linter.unusedSimpArgs false
/-- A number put in at its place. -/
theorem set_put {L G : List Int} {z : Int} {p : Nat} (hL : UpL L) (hm : ∀ y, y ∈ L ↔ y ∈ G) (hz : z ∉ L) (hp : p ≤ L.length) (h1 : ∀ y ∈ L.drop p, z < y) (h2 : ∀ y ∈ L.take p, y ≤ z) : L.take p ++ (z :: L.drop p) = setL (G ++ [z]) := by
  refine set_of ?_ (fun y => ?_)
  · have hL' := hL
    unfold UpL at hL' ⊢
    rw [← List.take_append_drop p L] at hL'
    obtain ⟨a, b, c⟩ := List.pairwise_append.1 hL'
    refine List.pairwise_append.2 ⟨a, List.pairwise_cons.2 ⟨fun y hy => h1 y hy, b⟩, fun y hy w hw => ?_⟩
    rcases List.mem_cons.1 hw with e | e
    · subst e
      have := h2 y hy
      have hne : y ≠ w := fun e => hz (e ▸ List.mem_of_mem_take hy)
      omega
    · exact c y hy w e
  · rw [List.mem_append, List.mem_cons, List.mem_append, List.mem_singleton, ← hm]
    conv => rhs; rw [← List.take_append_drop p L, List.mem_append]
    refine ⟨fun h => ?_, fun h => ?_⟩
    · rcases h with h | h | h
      · exact .inl (.inl h)
      · exact .inr h
      · exact .inl (.inr h)
    · rcases h with (h | h) | h
      · exact .inl h
      · exact .inr (.inr h)
      · exact .inr (.inl h)
theorem set_snoc {L : List Int} {z : Int} (h : z ∈ setL L) : setL (L ++ [z]) = setL L := by
  refine (set_of (set_ok L).1 (fun y => ?_)).symm
  rw [(set_ok L).2, List.mem_append, List.mem_singleton]
  exact ⟨.inl, fun k => k.elim id (fun e => by subst e; exact ((set_ok L).2 _).1 h)⟩
set_option maxRecDepth 100000 in
set_option maxHeartbeats 4000000 in
theorem in_arow (L : List Int) (n : Int) (hl : L.length ≤ 1000000) : Row Try.prog 65 [.v (.c (.arr 0 1 L.length)), vI n] [.arr 3 1 (icL L)] (vB (decide (n ∈ L))) [some (.arr 3 1 (icL L))] := by
  refine row_of Try.func65 rfl rfl (Nat.le_of_ble_eq_true rfl) ?_
  repeat (first | refine aw_seq ?_ | refine aw_skip ?_ | refine aw_block ?_ | refine aw_exit ?_ | refine aw_cond rfl (fun _ => ?_) (fun hb => absurd hb (by decide)) | refine aw_cond rfl (fun hb => absurd hb (by decide)) (fun _ => ?_) | (refine aw_reg (fun K hK => ?_); simp -implicitDefEqProofs; refine hK _ ?_) | (refine aw_drw mixd (fun K hK => ?_); simp -implicitDefEqProofs; refine hK _ _ (by rfl) ?_) | fail)
  refine aw_lp (ι := Nat) (fun k => mkSt [(0, .v (.c (.arr 0 1 L.length))), (1, vI n), (5, vI (k : Nat))] [some (.arr 3 1 (icL L))]) (fun k => k ≤ L.length ∧ n ∉ L.take k) (fun k => L.length - k) 0 ⟨Nat.zero_le _, by simp⟩ (cov_intro [0] (by simp -implicitDefEqProofs) (by simp -implicitDefEqProofs) (by decide) rfl (by simp)) (fun Z hI k hk => ?_)
  obtain ⟨hk, hz⟩ := hk
  by_cases hkl : k < L.length; rotate_left
  · have : k = L.length := by omega
    subst this
    rw [List.take_length] at hz
    repeat (first | refine aw_seq ?_ | refine aw_skip ?_ | refine aw_block ?_ | refine aw_exit ?_ | refine aw_cond rfl (fun _ => ?_) (fun hb => absurd hb (by decide)) | refine aw_cond rfl (fun hb => absurd hb (by decide)) (fun _ => ?_) | (refine aw_reg (fun K hK => ?_); simp -implicitDefEqProofs; refine hK _ ?_) | (refine aw_drw mixd (fun K hK => ?_); simp -implicitDefEqProofs; refine hK _ _ (by rfl) ?_) | fail)
    refine aw_ret (fin_g [0] ?_); simp -implicitDefEqProofs [FinG, resV, resT, hz] <;> try rfl
  obtain ⟨z, ha⟩ : ∃ a, L[k]? = some a := ⟨_, List.getElem?_eq_getElem hkl⟩
  have ha' := (List.getElem?_eq_some_iff.1 ha).2
  have w2 : IntKind.i64.wrap ((k : Nat) + 1 : Int) = (k : Nat) + 1 := i64i _ (by omega) (by omega)
  by_cases hp : z = n
  · have e : n ∈ L := by rw [← hp]; exact List.mem_of_getElem? ha
    repeat (first | refine aw_seq ?_ | refine aw_skip ?_ | refine aw_block ?_ | refine aw_exit ?_ | refine aw_cond rfl (fun _ => ?_) (fun hb => absurd hb (by decide)) | refine aw_cond rfl (fun hb => absurd hb (by decide)) (fun _ => ?_) | (refine aw_reg (fun K hK => ?_); simp -implicitDefEqProofs [hkl, ha, ha', hp]; refine hK _ ?_) | (refine aw_drw mixd (fun K hK => ?_); simp -implicitDefEqProofs [hkl, ha, ha', hp]; refine hK _ _ (by rfl) ?_) | fail)
    refine aw_ret (fin_g [0] ?_); simp -implicitDefEqProofs [FinG, resV, resT, e] <;> try rfl
  · repeat (first | refine aw_seq ?_ | refine aw_skip ?_ | refine aw_block ?_ | refine aw_exit ?_ | refine aw_cond rfl (fun _ => ?_) (fun hb => absurd hb (by decide)) | refine aw_cond rfl (fun hb => absurd hb (by decide)) (fun _ => ?_) | (refine aw_reg (fun K hK => ?_); simp -implicitDefEqProofs [hkl, ha, ha', hp, w2]; refine hK _ ?_) | (refine aw_drw mixd (fun K hK => ?_); simp -implicitDefEqProofs [hkl, ha, ha', hp, w2]; refine hK _ _ (by rfl) ?_) | fail)
    refine ⟨k + 1, ⟨by omega, by rw [List.take_add_one, ha]; simp [hz]; exact fun h => hp h.symm⟩, (by dsimp only; omega), ?_⟩
    rw [hI]; exact cov_intro [0] (by simp -implicitDefEqProofs) (by simp -implicitDefEqProofs) (by decide) rfl (by simp)
set_option maxRecDepth 100000 in
set_option maxHeartbeats 4000000 in
theorem rreads_row (t : VT) (ht : in64 t) (hs : t.size ≤ 1000000) : Row Try.prog 29 [vT t] [] (vIs (setL (glT t))) [] := by
  have hg := rglobals_row t ht hs
  have hG := glT_len t
  obtain ⟨G, hq⟩ : ∃ G, glT t = G := ⟨_, rfl⟩
  rw [hq] at hg hG ⊢
  have hG : G.length ≤ 1000000 := by omega
  obtain ⟨tx, tl⟩ := t
  clear hq
  have h00 : icL (setL (G.take 0)) = [] := by simp [setL, srt, compact_nil]
  refine row_of Try.func29 rfl rfl (Nat.le_of_ble_eq_true rfl) ?_
  repeat' (first | refine aw_seq ?_ | refine aw_skip ?_ | refine aw_block ?_ | refine aw_exit ?_ | refine aw_cond rfl (fun _ => ?_) (fun hb => absurd hb (by decide)) | refine aw_cond rfl (fun hb => absurd hb (by decide)) (fun _ => ?_) | (refine aw_reg (fun K hK => ?_); simp -implicitDefEqProofs) | (refine aw_drw mixd (fun K hK => ?_); simp -implicitDefEqProofs) | refine hK _ ?_ | refine hK _ _ (by rfl) ?_ | (refine ar_call (cp hg ?_); simp -implicitDefEqProofs) | (refine ard_call (dp hg ?_); simp -implicitDefEqProofs) | fail)
  refine aw_rowa 4 12 3 1 (by simp) (by simp) ?_
  simp [St.rowa]
  clear hg
  refine aw_lp (ι := Nat) (fun k => mkSt [(3, vIs G), (4, .v (.c (.arr 0 1 (icL (setL (G.take k))).length))), (5, vI (k : Nat))] [some (.arr 3 1 (icL (setL (G.take k))))]) (fun k => k ≤ G.length) (fun k => G.length - k) 0 (Nat.zero_le _) (by rw [h00]; exact cov_intro [12] (by simp -implicitDefEqProofs) (by simp -implicitDefEqProofs) (by decide) rfl (by simp)) (fun Z hI k hk => ?_)
  by_cases hkl : k < G.length; rotate_left
  · have : k = G.length := by omega
    subst this
    rw [List.take_length]
    obtain ⟨T, hT⟩ : ∃ T, setL G = T := ⟨_, rfl⟩
    rw [hT]
    repeat (first | refine aw_seq ?_ | refine aw_skip ?_ | refine aw_block ?_ | refine aw_exit ?_ | refine aw_cond rfl (fun _ => ?_) (fun hb => absurd hb (by decide)) | refine aw_cond rfl (fun hb => absurd hb (by decide)) (fun _ => ?_) | (refine aw_reg (fun K hK => ?_); simp -implicitDefEqProofs; refine hK _ ?_) | (refine aw_drw mixd (fun K hK => ?_); simp -implicitDefEqProofs; refine hK _ _ (by rfl) ?_) | fail)
    refine aw_frz 0 3 1 (icL T) (by simp) ?_
    simp [St.frz, AV.frz, AT.frz, AC.frz, AO.frz]
    refine aw_ret (fin_ret ?_); simp -implicitDefEqProofs [FinP, resV, resT] <;> try rfl
  obtain ⟨z, ha⟩ : ∃ a, G[k]? = some a := ⟨_, List.getElem?_eq_getElem hkl⟩
  have ha' := (List.getElem?_eq_some_iff.1 ha).2
  have w2 : IntKind.i64.wrap ((k : Nat) + 1 : Int) = (k : Nat) + 1 := i64i _ (by omega) (by omega)
  have hs0 : G.take (k + 1) = G.take k ++ [z] := by rw [List.take_add_one, ha]; rfl
  have hsl := set_len (G.take k)
  rw [List.length_take] at hsl
  obtain ⟨hu, hm⟩ := set_ok (G.take k)
  have hsn := set_snoc (L := G.take k) (z := z)
  have hsp := fun p => set_put (p := p) hu hm (z := z)
  obtain ⟨S, hS⟩ : ∃ S, setL (G.take k) = S := ⟨_, rfl⟩
  rw [hS] at hsl hu hm hsn hsp ⊢
  rw [← hs0] at hsn hsp
  have hi := in_arow S z (by omega)
  by_cases hz : z ∈ S
  · have hs1 := hsn hz
    rw [show decide (z ∈ S) = true by simpa using hz] at hi
    clear hsn hsp hm hu hs0
    repeat' (first | refine aw_seq ?_ | refine aw_skip ?_ | refine aw_block ?_ | refine aw_exit ?_ | refine aw_cond rfl (fun _ => ?_) (fun hb => absurd hb (by decide)) | refine aw_cond rfl (fun hb => absurd hb (by decide)) (fun _ => ?_) | (refine aw_reg (fun K hK => ?_); simp -implicitDefEqProofs [hkl, ha, ha', w2]) | (refine aw_drw mixd (fun K hK => ?_); simp -implicitDefEqProofs [hkl, ha, ha', w2]) | refine hK _ ?_ | refine hK _ _ (by rfl) ?_ | (refine ar_call (cg hi [0] ?_); simp -implicitDefEqProofs [hkl, ha, ha', w2]) | (refine ard_call (dg hi [0] ?_); simp -implicitDefEqProofs [hkl, ha, ha', w2]) | fail)
    refine ⟨k + 1, by omega, (by dsimp only; omega), ?_⟩
    rw [hI, hs1]; exact cov_intro [0] (by simp -implicitDefEqProofs) (by simp -implicitDefEqProofs) (by decide) rfl (by simp)
  rw [show decide (z ∈ S) = false by simpa using hz] at hi
  clear hsn
  repeat' (first | refine aw_seq ?_ | refine aw_skip ?_ | refine aw_block ?_ | refine aw_exit ?_ | refine aw_cond rfl (fun _ => ?_) (fun hb => absurd hb (by decide)) | refine aw_cond rfl (fun hb => absurd hb (by decide)) (fun _ => ?_) | (refine aw_reg (fun K hK => ?_); simp -implicitDefEqProofs [hkl, ha, ha', w2]) | (refine aw_drw mixd (fun K hK => ?_); simp -implicitDefEqProofs [hkl, ha, ha', w2]) | refine hK _ ?_ | refine hK _ _ (by rfl) ?_ | (refine ar_call (cg hi [0] ?_); simp -implicitDefEqProofs [hkl, ha, ha', w2]) | (refine ard_call (dg hi [0] ?_); simp -implicitDefEqProofs [hkl, ha, ha', w2]) | fail)
  clear hi
  refine aw_lp (ι := Nat) (fun p => mkSt [(3, vIs G), (4, .v (.c (.arr 0 1 S.length))), (5, vI (k : Nat)), (6, vI (p : Nat))] [some (.arr 3 1 (icL S))]) (fun p => p ≤ S.length ∧ ∀ y ∈ S.drop p, z < y) (fun p => p) S.length ⟨Nat.le_refl _, by simp⟩ (cov_intro [0] (by simp -implicitDefEqProofs) (by simp -implicitDefEqProofs) (by decide) rfl (by simp)) (fun Z3 hI3 p hp => ?_)
  obtain ⟨hp, hd⟩ := hp
  have wp : IntKind.i64.wrap ((p : Nat) : Int) = (p : Nat) := i64i _ (by omega) (by omega)
  have c1 : S.length * 8 ≤ 140737488355328 := by omega
  have c2 : S.length ≤ 140737488355328 := by omega
  have c3 : (1 + S.length) * 8 ≤ 140737488355328 := by omega
  have c4 : 1 + S.length ≤ 140737488355328 := by omega
  have c5 : (S.length + 1) * 8 ≤ 140737488355328 := by omega
  by_cases h0 : p = 0
  · subst h0
    have hs1 := hsp 0 hz hp hd (by simp)
    rw [List.take_zero, List.nil_append, List.drop_zero] at hs1
    clear hsp hm hu
    repeat (first | refine aw_seq ?_ | refine aw_skip ?_ | refine aw_block ?_ | refine aw_exit ?_ | refine aw_cond rfl (fun _ => ?_) (fun hb => absurd hb (by decide)) | refine aw_cond rfl (fun hb => absurd hb (by decide)) (fun _ => ?_) | (refine aw_reg (fun K hK => ?_); simp -implicitDefEqProofs [hkl, ha, ha', w2, c1, c2, c3, c4, c5]; refine hK _ ?_) | (refine aw_drw mixd (fun K hK => ?_); simp -implicitDefEqProofs [hkl, ha, ha', w2, c1, c2, c3, c4, c5]; refine hK _ _ (by rfl) ?_) | fail)
    refine ⟨k + 1, by omega, (by dsimp only; omega), ?_⟩
    rw [hI, ← hs1]; exact cov_intro [199] (by simp -implicitDefEqProofs [Nat.add_comm 1 S.length]) (by simp -implicitDefEqProofs [Nat.add_comm 1 S.length]) (by decide) rfl (by simp)
  obtain ⟨j, hj⟩ : ∃ j, p = j + 1 := ⟨p - 1, by omega⟩
  have hjl : j < S.length := by omega
  have wj : IntKind.i64.wrap ((p : Nat) - 1 : Int) = (j : Nat) := by rw [i64i _ (by omega) (by omega)]; omega
  obtain ⟨y, hy⟩ : ∃ y, S[j]? = some y := ⟨_, List.getElem?_eq_getElem hjl⟩
  have hy' := (List.getElem?_eq_some_iff.1 hy).2
  have hdj : S.drop j = y :: S.drop p := by rw [← hy', hj]; exact List.drop_eq_getElem_cons hjl
  have p0 : (0 : Int) < (p : Nat) := by omega
  have p1 : 0 < p := by omega
  by_cases hzy : z < y
  · clear hsp hm hu
    repeat (first | refine aw_seq ?_ | refine aw_skip ?_ | refine aw_block ?_ | refine aw_exit ?_ | refine aw_cond rfl (fun _ => ?_) (fun hb => absurd hb (by decide)) | refine aw_cond rfl (fun hb => absurd hb (by decide)) (fun _ => ?_) | (refine aw_reg (fun K hK => ?_); simp -implicitDefEqProofs [hjl, wj, hy, hy', p0, p1, hzy, hkl, ha, ha']; refine hK _ ?_) | (refine aw_drw mixd (fun K hK => ?_); simp -implicitDefEqProofs [hjl, wj, hy, hy', p0, p1, hzy, hkl, ha, ha']; refine hK _ _ (by rfl) ?_) | fail)
    refine ⟨j, ⟨by omega, fun x hx => ?_⟩, (by dsimp only; omega), ?_⟩
    · rw [hdj] at hx
      rcases List.mem_cons.1 hx with e | e
      · rw [e]; exact hzy
      · exact hd x e
    · rw [hI3]; exact cov_intro [0] (by simp -implicitDefEqProofs) (by simp -implicitDefEqProofs) (by decide) rfl (by simp)
  have hs1 := hsp p hz hp hd (fun x hx => by
    obtain ⟨i, hi, e⟩ := List.mem_iff_getElem.1 hx
    rw [List.length_take] at hi
    rw [List.getElem_take] at e
    have hij : i ≤ j := by omega
    by_cases hij2 : i = j
    · subst hij2; rw [← e, hy']; omega
    · have := (List.pairwise_iff_getElem.1 hu) i j (by omega) hjl (by omega)
      rw [e, hy'] at this; omega)
  clear hsp hm hu
  have ta : List.take p (icL S) = icL (S.take p) := by unfold icL; rw [List.map_take]
  have tb : List.take (S.length - p) (List.drop p (icL S)) = icL (S.drop p) := by
    unfold icL; rw [List.map_drop, List.take_of_length_le (by rw [List.length_drop, List.length_map]; exact Nat.le_refl _)]
  have hAl : (S.take p).length = p := by rw [List.length_take]; omega
  have hBl : (S.drop p).length = S.length - p := List.length_drop
  obtain ⟨A, hA⟩ : ∃ A, S.take p = A := ⟨_, rfl⟩
  obtain ⟨B, hB⟩ : ∃ B, S.drop p = B := ⟨_, rfl⟩
  rw [hA] at ta hAl hs1
  rw [hB] at tb hBl hs1 hd hdj
  obtain ⟨r, hr⟩ : ∃ r, S.length - p = r := ⟨_, rfl⟩
  rw [hr] at tb hBl
  have d1 : ((p : Nat) : Int) ≤ S.length := by omega
  have d2 : (p + 1) * 8 ≤ 140737488355328 := by omega
  have d3 : p + 1 ≤ 140737488355328 := by omega
  have d4 : r * 8 ≤ 140737488355328 := by omega
  have d5 : r ≤ 140737488355328 := by omega
  have d6 : (p + 1 + r) * 8 ≤ 140737488355328 := by omega
  have d7 : p + 1 + r ≤ 140737488355328 := by omega
  have d8 : p + r ≤ S.length := by omega
  repeat (first | refine aw_seq ?_ | refine aw_skip ?_ | refine aw_block ?_ | refine aw_exit ?_ | refine aw_cond rfl (fun _ => ?_) (fun hb => absurd hb (by decide)) | refine aw_cond rfl (fun hb => absurd hb (by decide)) (fun _ => ?_) | (refine aw_reg (fun K hK => ?_); simp -implicitDefEqProofs [hjl, wj, hy, hy', p0, p1, hzy, hkl, ha, ha', w2, hp, d1, d2, d3, d4, d5, d6, d7, d8, hr, ta, tb, hAl, hBl]; refine hK _ ?_) | (refine aw_drw mixd (fun K hK => ?_); simp -implicitDefEqProofs [hjl, wj, hy, hy', p0, p1, hzy, hkl, ha, ha', w2, hp, d1, d2, d3, d4, d5, d6, d7, d8, hr, ta, tb, hAl, hBl]; refine hK _ _ (by rfl) ?_) | fail)
  refine ⟨k + 1, by omega, (by dsimp only; omega), ?_⟩
  have hlen : A.length + (B.length + 1) = p + 1 + r := by omega
  rw [hI, ← hs1]; exact cov_intro [199] (by simp -implicitDefEqProofs [hlen]) (by simp -implicitDefEqProofs [hlen]) (by decide) rfl (by simp)
end Go.Proofs.Ytjnlfppeodoliaa.am
