/-
  Layer 24: what a term reads: the program's.
-/
import Derived.Test.YtjnlfppeodoliaaQuiPrg
import Derived.Test.YtjnlfppeodoliaaVtSet
namespace Go.Proofs.Ytjnlfppeodoliaa.am
open Go.ChangeShapes Go.WideShapes Go.ChangeAt Go.RowKit
open vt
set_option linter.unusedVariables false
set_option linter.unusedSimpArgs false
abbrev SortR : Prop := SortK Try.prog 62
abbrev CompR : Prop := CompactK Try.prog 63
theorem sort_ent : Ent Try.prog 62 := ⟨_, Try.func62, rfl, rfl⟩
theorem comp_ent : Ent Try.prog 63 := ⟨_, Try.func63, rfl, rfl⟩
theorem sort_row (hk : SortR) (L : List Int) (hl : L.length ≤ 1000000) : Row Try.prog 62 [.v (.c (.arr 0 1 L.length))] [.arr 3 1 (icL L)] (.tup []) [some (.arr 3 1 (icL (srt L)))] := ⟨sort_ent, sort_spec hk _ L hl⟩
theorem comp_row (hk : CompR) (L : List Int) (hl : L.length ≤ 1000000) : Row Try.prog 63 [.v (.c (.arr 0 1 L.length))] [.arr 3 1 (icL L)] (.v (.c (.arr 1 1 (Go.Lib.compact L).length))) [none, some (.arr 3 1 (icL (Go.Lib.compact L)))] := ⟨comp_ent, compact_spec hk _ L hl (compact_len L) compact_nil⟩
set_option maxRecDepth 100000 in
set_option maxHeartbeats 4000000 in
theorem reads_row (hsr : SortR) (hcr : CompR) (t : VT) (ht : in64 t) (hs : t.size ≤ 1000000) : Row Try.prog 28 [vT t] [] (vIs (setL (glT t))) [] := by
  have hG := glT_len t
  have hGi := glT_in ht
  obtain ⟨G, hq⟩ : ∃ G, glT t = G := ⟨_, rfl⟩
  have hin : (∀ y ∈ [t], in64 y) ∧ ([t].map Tr.size).sum ≤ 1000000 ∧ (([] : List Int) ++ ([t].map glT).flatten).Perm G := ⟨by simpa using ht, by simpa using hs, by rw [← hq]; simp⟩
  rw [hq] at hG hGi ⊢
  have hG : G.length ≤ 1000000 := by omega
  obtain ⟨tx, tl⟩ := t
  refine row_of Try.func28 rfl rfl (Nat.le_of_ble_eq_true rfl) ?_
  refine aw_seq ?_
  refine aw_reg (fun K hK => ?_); simp -implicitDefEqProofs; refine hK _ ?_
  refine aw_seq ?_
  refine aw_reg (fun K hK => ?_); simp -implicitDefEqProofs; refine hK _ ?_
  refine aw_seq ?_
  refine aw_big (by dsimp only; omega) ?_; dsimp only
  refine aw_reg (fun K hK => ?_); simp -implicitDefEqProofs; refine hK _ ?_
  refine aw_nila 3 3 1 (by simp) ?_
  simp [St.nila]
  repeat (first | refine aw_seq ?_ | refine aw_skip ?_ | refine aw_block ?_ | refine aw_exit ?_ | refine aw_cond rfl (fun _ => ?_) (fun hb => absurd hb (by decide)) | refine aw_cond rfl (fun hb => absurd hb (by decide)) (fun _ => ?_) | (refine aw_reg (fun K hK => ?_); simp -implicitDefEqProofs; refine hK _ ?_) | (refine aw_drw mixd (fun K hK => ?_); simp -implicitDefEqProofs; refine hK _ _ (by rfl) ?_) | fail)
  refine aw_lp (ι := List VT × List Int) (fun p => mkSt [(3, .v (.c (.arr 0 1 (icL p.2).length))), (4, .v (.c (.arr 1 6 (p.1.map tc).length)))] [some (.arr 3 1 (icL p.2)), some (.arr 25 6 (p.1.map tc))]) (fun p => (∀ y ∈ p.1, in64 y) ∧ (p.1.map Tr.size).sum ≤ 1000000 ∧ (p.2 ++ (p.1.map glT).flatten).Perm G) (fun p => (p.1.map Tr.size).sum) ([.mk tx tl], []) hin (cov_intro [1000003, 1000001] (by simp -implicitDefEqProofs) (by simp -implicitDefEqProofs) (by decide) rfl (by simp)) (fun Z hI p hL => ?_)
  obtain ⟨L, O⟩ := p
  obtain ⟨i1, i2, i3⟩ := hL
  dsimp only at i1 i2 i3 ⊢
  have hOl : O.length ≤ G.length := by rw [← i3.length_eq, List.length_append]; omega
  have b3 : (O.length + 1) * 8 ≤ 140737488355328 := by omega
  have b4 : O.length + 1 ≤ 140737488355328 := by omega
  by_cases h0 : L = []
  · subst h0
    have hset : Go.Lib.compact (srt O) = setL G := by
      refine set_of (set_ok O).1 (fun z => ((set_ok O).2 z).trans ?_)
      simp at i3
      exact i3.mem_iff
    have h1 := sort_row hsr O (by omega)
    have h2 := comp_row hcr (srt O) (by rw [srt_len]; omega)
    rw [srt_len, hset] at h2
    have hSl := srt_len O
    obtain ⟨R, hR⟩ : ∃ R, srt O = R := ⟨_, rfl⟩
    obtain ⟨T, hT⟩ : ∃ T, setL G = T := ⟨_, rfl⟩
    rw [hR] at h1 h2 hSl
    rw [hT] at h2 ⊢
    clear hset i3 hin hq
    repeat' (first | refine aw_seq ?_ | refine aw_skip ?_ | refine aw_block ?_ | refine aw_exit ?_ | refine aw_cond rfl (fun _ => ?_) (fun hb => absurd hb (by decide)) | refine aw_cond rfl (fun hb => absurd hb (by decide)) (fun _ => ?_) | (refine aw_reg (fun K hK => ?_); simp -implicitDefEqProofs) | (refine aw_drw mixd (fun K hK => ?_); simp -implicitDefEqProofs) | refine hK _ ?_ | refine hK _ _ (by rfl) ?_ | (refine ar_call (cg h1 [0] ?_); simp -implicitDefEqProofs) | (refine ard_call (dg h1 [0] ?_); simp -implicitDefEqProofs) | (refine ar_call (cg h2 [0] ?_); simp -implicitDefEqProofs) | (refine ard_call (dg h2 [0] ?_); simp -implicitDefEqProofs) | fail)
    refine aw_frz 15 3 1 (icL T) (by simp) ?_
    simp [St.frz, AV.frz, AT.frz, AC.frz, AO.frz]
    refine aw_ret (fin_ret ?_); simp -implicitDefEqProofs [FinP, resV, resT] <;> try rfl
  obtain ⟨I, x, l, rfl⟩ := last_of L h0
  have h1 := i1 (.mk x l) (by simp)
  have hlen := Tr.len_size (x := x) (l := l)
  rw [List.map_append, List.sum_append] at i2
  simp only [List.map_cons, List.map_nil, List.sum_cons, List.sum_nil] at i2
  have hIl : I.length ≤ (I.map Tr.size).sum := by
    clear i1 i2 i3 h0
    induction I with
    | nil => simp
    | cons a I ih => have := Tr.len_size (x := a.lab) (l := a.kids); have e : a = .mk a.lab a.kids := by cases a; rfl
                     rw [← e] at this; simp only [List.map_cons, List.sum_cons, List.length_cons]; omega
  have em : (I ++ [Tr.mk x l]).map tc = I.map tc ++ [tc (.mk x l)] := by simp
  have en : (I ++ l).map tc = I.map tc ++ l.map tc := by simp
  have hnx : (∀ y ∈ I ++ l, in64 y) ∧ ((I ++ l).map Tr.size).sum ≤ 1000000 ∧ ((I ++ l).map Tr.size).sum < ((I ++ [Tr.mk x l]).map Tr.size).sum := by
    refine ⟨fun y hy => ?_, ?_, ?_⟩
    · rcases List.mem_append.1 hy with h | h
      · exact i1 y (by simp [h])
      · exact kid_ok h1 h
    · rw [Tr.size_mk] at i2; rw [List.map_append, List.sum_append]; omega
    · rw [List.map_append, List.sum_append, List.map_append, List.sum_append]
      simp only [List.map_cons, List.map_nil, List.sum_cons, List.sum_nil, Tr.size_mk]; omega
  have hP : ∀ A : List Int, ((if x.k = 9 then [x.n] else []) = A) → (∀ y ∈ I ++ l, in64 y) ∧ ((I ++ l).map Tr.size).sum ≤ 1000000 ∧ ((O ++ A) ++ ((I ++ l).map glT).flatten).Perm G := fun A hA => by
    refine ⟨hnx.1, hnx.2.1, ?_⟩
    refine List.Perm.trans ?_ i3
    rw [List.map_append, List.flatten_append, List.map_append, List.flatten_append]
    simp only [List.map_cons, List.map_nil, List.flatten_cons, List.flatten_nil, List.append_nil]
    rw [glT_mk, hA, List.append_assoc]
    refine List.Perm.append_left O ?_
    rw [← List.append_assoc, ← List.append_assoc]
    exact List.Perm.append_right _ (List.perm_append_comm)
  have hk9 : x.k = 9 → (O ++ [x.n]).length ≤ G.length := fun h => by
    have := (hP [x.n] (by rw [if_pos h])).2.2.length_eq
    rw [List.length_append] at this; omega
  have hx1 := lab_ok h1
  have w0 : IntKind.i64.wrap x.n = x.n := i64i _ hx1.2.1.1 hx1.2.1.2
  rw [em]
  obtain ⟨E, hE⟩ : ∃ E, I.map tc = E := ⟨_, rfl⟩
  have hEl : E.length = I.length := by rw [← hE, List.length_map]
  rw [hE] at en ⊢
  have g1 := cells_get E (tc (.mk x l))
  have g2 := cells_take E (tc (.mk x l))
  obtain ⟨n, hn⟩ : ∃ n, E.length = n := ⟨_, rfl⟩
  rw [hn] at g1 g2 hEl
  rw [tc_mk] at g1 g2
  have w1 : IntKind.i64.wrap ((n : Nat) : Int) = (n : Nat) := i64i _ (by omega) (by omega)
  have b1 : (n + l.length) * 72 ≤ 140737488355328 := by omega
  have b2 : n + l.length ≤ 140737488355328 := by omega
  have lt1 : ((n : Nat) : Int) < (n : Nat) + 1 := by omega
  have lt2 : ((n : Nat) : Int) ≤ (n : Nat) + 1 := by omega
  have hlt := hnx.2.2
  clear i1 i2 i3 h0 hnx hin hq
  by_cases h9 : x.k = 9
  · have hk := hP [x.n] (by rw [if_pos h9])
    clear hP
    repeat (first | refine aw_seq ?_ | refine aw_skip ?_ | refine aw_block ?_ | refine aw_exit ?_ | refine aw_cond rfl (fun _ => ?_) (fun hb => absurd hb (by decide)) | refine aw_cond rfl (fun hb => absurd hb (by decide)) (fun _ => ?_) | (refine aw_reg (fun K hK => ?_); simp -implicitDefEqProofs [hn, g1, g2, w1, b1, b2, b3, b4, lt1, lt2, h9, w0]; refine hK _ ?_) | (refine aw_drw mixd (fun K hK => ?_); simp -implicitDefEqProofs [hn, g1, g2, w1, b1, b2, b3, b4, lt1, lt2, h9, w0]; refine hK _ _ (by rfl) ?_) | fail)
    refine ⟨(I ++ l, O ++ [x.n]), hk, hlt, ?_⟩
    rw [hI]; dsimp only; rw [en]; exact cov_intro [92, 69] (by simp -implicitDefEqProofs [hn, h9]) (by simp -implicitDefEqProofs [hn, h9]) (by decide) rfl (by simp)
  · have hk := hP [] (by rw [if_neg h9])
    clear hP
    rw [List.append_nil] at hk
    repeat (first | refine aw_seq ?_ | refine aw_skip ?_ | refine aw_block ?_ | refine aw_exit ?_ | refine aw_cond rfl (fun _ => ?_) (fun hb => absurd hb (by decide)) | refine aw_cond rfl (fun hb => absurd hb (by decide)) (fun _ => ?_) | (refine aw_reg (fun K hK => ?_); simp -implicitDefEqProofs [hn, g1, g2, w1, b1, b2, lt1, lt2, h9]; refine hK _ ?_) | (refine aw_drw mixd (fun K hK => ?_); simp -implicitDefEqProofs [hn, g1, g2, w1, b1, b2, lt1, lt2, h9]; refine hK _ _ (by rfl) ?_) | fail)
    refine ⟨(I ++ l, O), hk, hlt, ?_⟩
    rw [hI]; dsimp only; rw [en]; exact cov_intro [0, 69] (by simp -implicitDefEqProofs [hn]) (by simp -implicitDefEqProofs [hn]) (by decide) rfl (by simp)
end Go.Proofs.Ytjnlfppeodoliaa.am
