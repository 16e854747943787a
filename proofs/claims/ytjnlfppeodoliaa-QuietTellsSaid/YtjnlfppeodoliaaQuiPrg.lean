/-
  Layer 24: quiet terms, and what they read: the program's.
-/
import Derived.Test.YtjnlfppeodoliaaQuiRef
import Derived.Test.YtjnlfppeodoliaaAmD
namespace Go.Proofs.Ytjnlfppeodoliaa.am
open Go.ChangeShapes Go.WideShapes Go.ChangeAt Go.RowKit
open vt
set_option linter.unusedVariables false
set_option linter.unusedSimpArgs false
theorem last_of (L : List VT) (h : L ≠ []) : ∃ I x l, L = I ++ [.mk x l] := by
  refine ⟨L.dropLast, (L.getLast h).lab, (L.getLast h).kids, ?_⟩
  conv => lhs; rw [← List.dropLast_concat_getLast h]
  generalize L.getLast h = t
  cases t; rfl
theorem cells_get (E : List (List PV)) (c : List PV) : (E ++ [c])[E.length]? = some c := by simp
theorem cells_take (E : List (List PV)) (c : List PV) : (E ++ [c]).take E.length = E := by simp
set_option maxRecDepth 100000 in
set_option maxHeartbeats 4000000 in
theorem quiet_row (t : VT) (ht : in64 t) (hs : t.size ≤ 1000000) : Row Try.prog 25 [vT t] [] (vB (quT t)) [] := by
  obtain ⟨q, hq⟩ : ∃ q, quT t = q := ⟨_, rfl⟩
  have hin : (∀ y ∈ [t], in64 y) ∧ ([t].map Tr.size).sum ≤ 1000000 ∧ [t].all quT = q := ⟨by simpa using ht, by simpa using hs, by simpa using hq⟩
  rw [hq]
  obtain ⟨tx, tl⟩ := t
  refine row_of Try.func25 rfl rfl (Nat.le_of_ble_eq_true rfl) ?_
  refine aw_seq ?_
  refine aw_reg (fun K hK => ?_); simp -implicitDefEqProofs; refine hK _ ?_
  refine aw_scope ?_
  refine aw_seq ?_
  refine aw_big (by dsimp only; omega) ?_; dsimp only
  refine aw_reg (fun K hK => ?_); simp -implicitDefEqProofs; refine hK _ ?_
  refine aw_seq ?_
  refine aw_reg (fun K hK => ?_); simp -implicitDefEqProofs; refine hK _ ?_
  refine aw_seq ?_
  refine aw_label ?_
  repeat (first | refine aw_seq ?_ | refine aw_skip ?_ | refine aw_block ?_ | refine aw_exit ?_ | refine aw_cond rfl (fun _ => ?_) (fun hb => absurd hb (by decide)) | refine aw_cond rfl (fun hb => absurd hb (by decide)) (fun _ => ?_) | (refine aw_reg (fun K hK => ?_); simp -implicitDefEqProofs; refine hK _ ?_) | (refine aw_drw mixd (fun K hK => ?_); simp -implicitDefEqProofs; refine hK _ _ (by rfl) ?_) | fail)
  refine aw_lp (ι := List VT) (fun L => mkSt [(3, .v (.c (.arr 0 6 (L.map tc).length))), (4, vB true)] [some (.arr 25 6 (L.map tc))]) (fun L => (∀ y ∈ L, in64 y) ∧ (L.map Tr.size).sum ≤ 1000000 ∧ L.all quT = q) (fun L => (L.map Tr.size).sum) [.mk tx tl] hin (cov_intro [1000001] (by simp -implicitDefEqProofs) (by simp -implicitDefEqProofs) (by decide) rfl (by simp)) (fun Z hI L hL => ?_)
  obtain ⟨i1, i2, i3⟩ := hL
  by_cases h0 : L = []
  · subst h0
    have : q = true := by rw [← i3]; rfl
    subst this
    repeat (first | refine aw_seq ?_ | refine aw_skip ?_ | refine aw_block ?_ | refine aw_exit ?_ | refine aw_cond rfl (fun _ => ?_) (fun hb => absurd hb (by decide)) | refine aw_cond rfl (fun hb => absurd hb (by decide)) (fun _ => ?_) | (refine aw_reg (fun K hK => ?_); simp -implicitDefEqProofs; refine hK _ ?_) | (refine aw_drw mixd (fun K hK => ?_); simp -implicitDefEqProofs; refine hK _ _ (by rfl) ?_) | fail)
    refine aw_ret (fin_ret ?_); simp -implicitDefEqProofs [FinP, resV, resT] <;> try rfl
  obtain ⟨I, x, l, rfl⟩ := last_of L h0
  have h1 := i1 (.mk x l) (by simp)
  have hlen := Tr.len_size (x := x) (l := l)
  rw [List.map_append, List.sum_append] at i2
  simp only [List.map_cons, List.map_nil, List.sum_cons, List.sum_nil] at i2
  rw [List.all_append] at i3
  simp only [List.all_cons, List.all_nil, Bool.and_true] at i3
  rw [quT_mk] at i3
  have hIl : I.length ≤ (I.map Tr.size).sum := by
    clear i1 i2 i3 h0
    induction I with
    | nil => simp
    | cons a I ih => have := Tr.len_size (x := a.lab) (l := a.kids); have e : a = .mk a.lab a.kids := by cases a; rfl
                     rw [← e] at this; simp only [List.map_cons, List.sum_cons, List.length_cons]; omega
  have em : (I ++ [Tr.mk x l]).map tc = I.map tc ++ [tc (.mk x l)] := by simp
  have en : (I ++ l).map tc = I.map tc ++ l.map tc := by simp
  have hnx : (∀ y ∈ I ++ l, in64 y) ∧ ((I ++ l).map Tr.size).sum ≤ 1000000 ∧ ((I ++ l).map Tr.size).sum < ((I ++ [Tr.mk x l]).map Tr.size).sum := by
    refine ⟨fun y hy => ?_, ?_, ?_⟩
    · rcases List.mem_append.1 hy with h | h
      · exact i1 y (by simp [h])
      · exact kid_ok h1 h
    · rw [Tr.size_mk] at i2; rw [List.map_append, List.sum_append]; omega
    · rw [List.map_append, List.sum_append, List.map_append, List.sum_append]
      simp only [List.map_cons, List.map_nil, List.sum_cons, List.sum_nil, Tr.size_mk]; omega
  rw [em]
  obtain ⟨E, hE⟩ : ∃ E, I.map tc = E := ⟨_, rfl⟩
  have hEl : E.length = I.length := by rw [← hE, List.length_map]
  rw [hE] at en ⊢
  have g1 := cells_get E (tc (.mk x l))
  have g2 := cells_take E (tc (.mk x l))
  obtain ⟨n, hn⟩ : ∃ n, E.length = n := ⟨_, rfl⟩
  rw [hn] at g1 g2 hEl
  rw [tc_mk] at g1 g2
  have w1 : IntKind.i64.wrap ((n : Nat) : Int) = (n : Nat) := i64i _ (by omega) (by omega)
  have b1 : (n + l.length) * 72 ≤ 140737488355328 := by omega
  have b2 : n + l.length ≤ 140737488355328 := by omega
  have lt1 : ((n : Nat) : Int) < (n : Nat) + 1 := by omega
  have lt2 : ((n : Nat) : Int) ≤ (n : Nat) + 1 := by omega
  have lt3 : ¬ ((n : Nat) : Int) + 1 ≤ 0 := by omega
  have hd := divides_row x l (by omega)
  have hq1 : okK x l = true → (∀ y ∈ I ++ l, in64 y) ∧ ((I ++ l).map Tr.size).sum ≤ 1000000 ∧ (I ++ l).all quT = q := fun h => ⟨hnx.1, hnx.2.1, by rw [← i3, h, List.all_append, Bool.true_and]⟩
  have hq2 : okK x l = false → q = false := fun h => by rw [← i3, h]; simp
  have hlt := hnx.2.2
  clear i1 i2 i3 h0 hnx hin ht hs hq
  by_cases h10 : x.k = 10
  · cases hb : divB x l with
    | false =>
      have hk := hq1 (by unfold okK; rw [if_pos h10, hb]; rfl)
      rw [hb] at hd
      clear hq1 hq2
      repeat' (first | refine aw_seq ?_ | refine aw_skip ?_ | refine aw_block ?_ | refine aw_exit ?_ | refine aw_cond rfl (fun _ => ?_) (fun hb => absurd hb (by decide)) | refine aw_cond rfl (fun hb => absurd hb (by decide)) (fun _ => ?_) | (refine aw_reg (fun K hK => ?_); simp -implicitDefEqProofs [hn, g1, g2, w1, b1, b2, lt1, lt2, h10]) | (refine aw_drw mixd (fun K hK => ?_); simp -implicitDefEqProofs [hn, g1, g2, w1, b1, b2, lt1, lt2, h10]) | refine hK _ ?_ | refine hK _ _ (by rfl) ?_ | (refine ar_call (cp hd ?_); simp -implicitDefEqProofs [hn, g1, g2, w1, b1, b2, lt1, lt2, h10]) | (refine ard_call (dp hd ?_); simp -implicitDefEqProofs [hn, g1, g2, w1, b1, b2, lt1, lt2, h10]) | fail)
      refine ⟨I ++ l, hk, hlt, ?_⟩
      rw [hI, en]; exact cov_intro [68] (by simp -implicitDefEqProofs [hn]) (by simp -implicitDefEqProofs [hn]) (by decide) rfl (by simp)
    | true =>
      have hk := hq2 (by unfold okK; rw [if_pos h10, hb]; rfl)
      rw [hb] at hd
      clear hq1 hq2
      subst hk
      repeat' (first | refine aw_seq ?_ | refine aw_skip ?_ | refine aw_block ?_ | refine aw_exit ?_ | refine aw_cond rfl (fun _ => ?_) (fun hb => absurd hb (by decide)) | refine aw_cond rfl (fun hb => absurd hb (by decide)) (fun _ => ?_) | (refine aw_reg (fun K hK => ?_); simp -implicitDefEqProofs [hn, g1, g2, w1, b1, b2, lt1, lt2, h10]) | (refine aw_drw mixd (fun K hK => ?_); simp -implicitDefEqProofs [hn, g1, g2, w1, b1, b2, lt1, lt2, h10]) | refine hK _ ?_ | refine hK _ _ (by rfl) ?_ | (refine ar_call (cp hd ?_); simp -implicitDefEqProofs [hn, g1, g2, w1, b1, b2, lt1, lt2, h10]) | (refine ard_call (dp hd ?_); simp -implicitDefEqProofs [hn, g1, g2, w1, b1, b2, lt1, lt2, h10]) | fail)
      refine aw_ret (fin_ret ?_); simp -implicitDefEqProofs [FinP, resV, resT] <;> try rfl
  by_cases hp : plK x.k = true
  · have hk := hq1 (by unfold okK; rw [if_neg h10, hp])
    clear hq1 hq2 hd
    rcases (plK_iff _).1 hp with h | h | h | h | h | h | h | h | h <;> ((repeat (first | refine aw_seq ?_ | refine aw_skip ?_ | refine aw_block ?_ | refine aw_exit ?_ | refine aw_cond rfl (fun _ => ?_) (fun hb => absurd hb (by decide)) | refine aw_cond rfl (fun hb => absurd hb (by decide)) (fun _ => ?_) | (refine aw_reg (fun K hK => ?_); simp -implicitDefEqProofs [hn, g1, g2, w1, b1, b2, lt1, lt2, h]; refine hK _ ?_) | (refine aw_drw mixd (fun K hK => ?_); simp -implicitDefEqProofs [hn, g1, g2, w1, b1, b2, lt1, lt2, h]; refine hK _ _ (by rfl) ?_) | fail)); (refine ⟨I ++ l, hk, hlt, ?_⟩); rw [hI, en]; exact cov_intro [68] (by simp -implicitDefEqProofs [hn, h]) (by simp -implicitDefEqProofs [hn, h]) (by decide) rfl (by simp))
  · have hp : plK x.k = false := by simpa using hp
    have hk := hq2 (by unfold okK; rw [if_neg h10, hp])
    obtain ⟨a1, a2, a3, a4, a5, a6, a7, a8, a9⟩ := (plK_no _).1 hp
    clear hq1 hq2 hd
    subst hk
    repeat (first | refine aw_seq ?_ | refine aw_skip ?_ | refine aw_block ?_ | refine aw_exit ?_ | refine aw_cond rfl (fun _ => ?_) (fun hb => absurd hb (by decide)) | refine aw_cond rfl (fun hb => absurd hb (by decide)) (fun _ => ?_) | (refine aw_reg (fun K hK => ?_); simp -implicitDefEqProofs [hn, g1, g2, w1, b1, b2, lt1, lt2, h10, a1, a2, a3, a4, a5, a6, a7, a8, a9]; refine hK _ ?_) | (refine aw_drw mixd (fun K hK => ?_); simp -implicitDefEqProofs [hn, g1, g2, w1, b1, b2, lt1, lt2, h10, a1, a2, a3, a4, a5, a6, a7, a8, a9]; refine hK _ _ (by rfl) ?_) | fail)
    refine aw_ret (fin_ret ?_); simp -implicitDefEqProofs [FinP, resV, resT] <;> try rfl
end Go.Proofs.Ytjnlfppeodoliaa.am
