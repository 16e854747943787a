import Derived.Test.YtbbkmijkllgfaaaGreatDoorPkL5
import Derived.Test.YtbbkmijkllgfaaaGreatDoorPkL4
import Derived.IntWalk
set_option maxRecDepth 100000
set_option maxHeartbeats 4000000
section
namespace Go.Proofs.YtbbkmijkllgfaaaGreatDoor.am
open Go.ChangeShapes Go.WideShapes Go.ChangeAt Go.RowKit
open vt
set_option linter.unusedVariables false
set_option linter.unusedSimpArgs false
noncomputable abbrev vTO (t : VT) (b : Bool) : AV := .tup [.agg (ta t), .c (.pv (Bo b))]
theorem a6g (m : VT) (hsz : m.size ≤ 1000000) (n : Int) (hn : n ≤ 9223372036854775807) : Row Tryz.prog 136 [vT m, vI n] [] (vTO ((fldA m n).getD z0T) (fldA m n).isSome) [] := by
  obtain ⟨mx, ml⟩ := m
  have hml := Tr.len_size (x := mx) (l := ml)
  by_cases h0 : n < 0
  · rw [show fldA (.mk mx ml) n = none by unfold fldA; rw [if_pos h0]]
    refine d7 Tryz.func136 rfl rfl (Nat.le_of_ble_eq_true rfl) ?_
    repeat (first | refine b9 ?_ | refine b6 ?_ | refine a6 ?_ | refine b5 ?_ | refine e7 rfl ?_ | refine d9 rfl ?_ | ((first | refine b8 (fun K hK => ?_) | refine d3 e9 (fun K hK => ?_) | fail); simp -implicitDefEqProofs [h0]; first | refine hK _ ?_ | refine hK _ _ (by rfl) ?_ | fail) | fail)
    refine d6 (d4 ?_); simp -implicitDefEqProofs [f9, f6, f7] <;> try rfl
  obtain ⟨N, rfl⟩ : ∃ N : Nat, n = N := ⟨n.toNat, by omega⟩
  obtain ⟨a, ha⟩ : ∃ a, N / 64 = a := ⟨_, rfl⟩
  obtain ⟨b, hb⟩ : ∃ b, N % 64 = b := ⟨_, rfl⟩
  have e1 : ((N : Nat) : Int).tdiv 64 = (a : Nat) := by rw [Int.tdiv_eq_ediv_of_nonneg (by omega)]; omega
  have e2 : ((N : Nat) : Int).tmod 64 = (b : Nat) := by rw [Int.tmod_eq_emod_of_nonneg (by omega)]; omega
  have w1 : IntKind.i64.wrap ((a : Nat) : Int) = (a : Nat) := l4 _ (by omega) (by omega)
  have w2 : IntKind.i64.wrap ((b : Nat) : Int) = (b : Nat) := l4 _ (by omega) (by omega)
  have hf : fldA (.mk mx ml) (N : Nat) = (match ml[a]? with | none => none | some d => if d.lab.k = 30 then (match d.kids[b]? with | none => none | some q => if j1 q = true then q.kids[0]? else none) else none) := by
    unfold fldA; rw [if_neg h0, Int.toNat_natCast, ha, hb]; rfl
  by_cases hal : a < ml.length; rotate_left
  · have hal' : (ml.length : Int) ≤ (a : Nat) := by omega
    have hal2 : ml.length ≤ a := by omega
    rw [show fldA (.mk mx ml) (N : Nat) = none by rw [hf, List.getElem?_eq_none hal2]]
    clear hf
    refine d7 Tryz.func136 rfl rfl (Nat.le_of_ble_eq_true rfl) ?_
    repeat (first | refine b9 ?_ | refine b6 ?_ | refine a6 ?_ | refine b5 ?_ | refine e7 rfl ?_ | refine d9 rfl ?_ | ((first | refine b8 (fun K hK => ?_) | refine d3 e9 (fun K hK => ?_) | fail); simp -implicitDefEqProofs [h0, e1, e2, w1, w2, hal, hal', hal2]; first | refine hK _ ?_ | refine hK _ _ (by rfl) ?_ | fail) | fail)
    refine d6 (d4 ?_); simp -implicitDefEqProofs [f9, f6, f7] <;> try rfl
  have hal' : ¬ (ml.length : Int) ≤ (a : Nat) := by omega
  have hal2 : ¬ ml.length ≤ a := by omega
  obtain ⟨⟨y, p⟩, hd⟩ : ∃ d, ml[a]? = some d := ⟨_, List.getElem?_eq_getElem hal⟩
  have hd' := (List.getElem?_eq_some_iff.1 hd).2
  rw [hd] at hf
  by_cases h30 : y.k = 30; rotate_left
  · rw [show fldA (.mk mx ml) (N : Nat) = none by rw [hf]; exact if_neg h30]
    clear hf
    refine d7 Tryz.func136 rfl rfl (Nat.le_of_ble_eq_true rfl) ?_
    repeat (first | refine b9 ?_ | refine b6 ?_ | refine a6 ?_ | refine b5 ?_ | refine e7 rfl ?_ | refine d9 rfl ?_ | ((first | refine b8 (fun K hK => ?_) | refine d3 e9 (fun K hK => ?_) | fail); simp -implicitDefEqProofs [h0, e1, e2, w1, w2, hal, hal', hal2, hd, hd', h30]; first | refine hK _ ?_ | refine hK _ _ (by rfl) ?_ | fail) | fail)
    refine d6 (d4 ?_); simp -implicitDefEqProofs [f9, f6, f7] <;> try rfl
  have hf : fldA (.mk mx ml) (N : Nat) = (match p[b]? with | none => none | some q => if j1 q = true then q.kids[0]? else none) := by rw [hf]; exact if_pos h30
  by_cases hbl : b < p.length; rotate_left
  · have hbl' : (p.length : Int) ≤ (b : Nat) := by omega
    have hbl2 : p.length ≤ b := by omega
    rw [show fldA (.mk mx ml) (N : Nat) = none by rw [hf, List.getElem?_eq_none hbl2]]
    clear hf
    refine d7 Tryz.func136 rfl rfl (Nat.le_of_ble_eq_true rfl) ?_
    repeat (first | refine b9 ?_ | refine b6 ?_ | refine a6 ?_ | refine b5 ?_ | refine e7 rfl ?_ | refine d9 rfl ?_ | ((first | refine b8 (fun K hK => ?_) | refine d3 e9 (fun K hK => ?_) | fail); simp -implicitDefEqProofs [h0, e1, e2, w1, w2, hal, hal', hal2, hd, hd', h30, hbl, hbl', hbl2]; first | refine hK _ ?_ | refine hK _ _ (by rfl) ?_ | fail) | fail)
    refine d6 (d4 ?_); simp -implicitDefEqProofs [f9, f6, f7] <;> try rfl
  have hbl' : ¬ (p.length : Int) ≤ (b : Nat) := by omega
  have hbl2 : ¬ p.length ≤ b := by omega
  obtain ⟨⟨qx, ql⟩, hq⟩ : ∃ d, p[b]? = some d := ⟨_, List.getElem?_eq_getElem hbl⟩
  have hq' := (List.getElem?_eq_some_iff.1 hq).2
  rw [hq] at hf
  by_cases h34 : qx.k = 34; rotate_left
  · have hp : j1 (.mk qx ql) = false := by unfold j1; rw [Tr.lab, decide_eq_false h34]; rfl
    rw [show fldA (.mk mx ml) (N : Nat) = none by rw [hf]; exact if_neg (by rw [hp]; simp)]
    clear hf
    refine d7 Tryz.func136 rfl rfl (Nat.le_of_ble_eq_true rfl) ?_
    repeat (first | refine b9 ?_ | refine b6 ?_ | refine a6 ?_ | refine b5 ?_ | refine e7 rfl ?_ | refine d9 rfl ?_ | ((first | refine b8 (fun K hK => ?_) | refine d3 e9 (fun K hK => ?_) | fail); simp -implicitDefEqProofs [h0, e1, e2, w1, w2, hal, hal', hal2, hd, hd', h30, hbl, hbl', hbl2, hq, hq', h34]; first | refine hK _ ?_ | refine hK _ _ (by rfl) ?_ | fail) | fail)
    refine d6 (d4 ?_); simp -implicitDefEqProofs [f9, f6, f7] <;> try rfl
  by_cases h1 : ql.length = 1; rotate_left
  · have h1' : ¬ (ql.length : Int) = 1 := by omega
    have hp : j1 (.mk qx ql) = false := by unfold j1; rw [Tr.kids, decide_eq_false h1, Bool.and_false]
    rw [show fldA (.mk mx ml) (N : Nat) = none by rw [hf]; exact if_neg (by rw [hp]; simp)]
    clear hf
    refine d7 Tryz.func136 rfl rfl (Nat.le_of_ble_eq_true rfl) ?_
    repeat (first | refine b9 ?_ | refine b6 ?_ | refine a6 ?_ | refine b5 ?_ | refine e7 rfl ?_ | refine d9 rfl ?_ | ((first | refine b8 (fun K hK => ?_) | refine d3 e9 (fun K hK => ?_) | fail); simp -implicitDefEqProofs [h0, e1, e2, w1, w2, hal, hal', hal2, hd, hd', h30, hbl, hbl', hbl2, hq, hq', h34, h1, h1']; first | refine hK _ ?_ | refine hK _ _ (by rfl) ?_ | fail) | fail)
    refine d6 (d4 ?_); simp -implicitDefEqProofs [f9, f6, f7] <;> try rfl
  obtain ⟨⟨ux, ul⟩, rfl⟩ := o6 h1
  have hp : j1 (.mk qx [.mk ux ul]) = true := by unfold j1; rw [Tr.lab, Tr.kids, decide_eq_true h34]; rfl
  rw [show fldA (.mk mx ml) (N : Nat) = some (.mk ux ul) by rw [hf]; exact if_pos hp]
  clear hf
  refine d7 Tryz.func136 rfl rfl (Nat.le_of_ble_eq_true rfl) ?_
  repeat (first | refine b9 ?_ | refine b6 ?_ | refine a6 ?_ | refine b5 ?_ | refine e7 rfl ?_ | refine d9 rfl ?_ | ((first | refine b8 (fun K hK => ?_) | refine d3 e9 (fun K hK => ?_) | fail); simp -implicitDefEqProofs [h0, e1, e2, w1, w2, hal, hal', hal2, hd, hd', h30, hbl, hbl', hbl2, hq, hq', h34]; first | refine hK _ ?_ | refine hK _ _ (by rfl) ?_ | fail) | fail)
  refine d6 (d4 ?_); simp -implicitDefEqProofs [f9, f6, f7, Tr.kids] <;> try rfl
theorem c2e (op : Int) (a b : VT) : Row Tryz.prog 133 [vI op, vT a, vT b] [] (vT (a9y op a b)) [] := by
  have i1 := a0p a 1
  have i2 := a0p b 1
  have b1 := a0p a 2
  have b2 := a0p b 2
  have h1 := a7p
  have h2 := a9k
  have hT : a9y op a b = a9y op a b := rfl
  conv at hT => rhs; unfold a9y
  rw [hT]
  clear hT
  obtain ⟨p1, q1⟩ : ∃ p, isT a 1 = p := ⟨_, rfl⟩
  obtain ⟨p2, q2⟩ : ∃ p, isT b 1 = p := ⟨_, rfl⟩
  obtain ⟨p3, q3⟩ : ∃ p, isT a 2 = p := ⟨_, rfl⟩
  obtain ⟨p4, q4⟩ : ∃ p, isT b 2 = p := ⟨_, rfl⟩
  rw [q1] at i1
  rw [q2] at i2
  rw [q3] at b1
  rw [q4] at b2
  rw [q1, q2, q3, q4]
  clear q1 q2 q3 q4
  unfold tyT at h1 h2 ⊢
  obtain ⟨ax, al⟩ := a
  obtain ⟨bx, bl⟩ := b
  obtain ⟨ints, hi⟩ : ∃ p, (p1 && p2) = p := ⟨_, rfl⟩
  obtain ⟨bools, hbo⟩ : ∃ p, (p3 && p4) = p := ⟨_, rfl⟩
  rw [hi, hbo]
  refine d7 Tryz.func133 rfl rfl (Nat.le_of_ble_eq_true rfl) ?_
  refine b9 ?_
  refine b8 (fun K hK => ?_); simp -implicitDefEqProofs; refine hK _ ?_
  refine a36 (ι := Unit) (fun _ => x5 [(0, vI op), (4, .v (.c (.ptr 0 0))), (5, .v (.c (.ptr 1 0))), (6, .v (.c (.ptr 2 0))), (7, vB ints)] [some (.box (ta (.mk ax al))), some (.box (ta (.mk bx bl))), some (.box (ta (.mk ⟨0, 0, ⟨#[]⟩, 0, 0⟩ [])))]) (fun _ => True) (fun I hI => ?_) (fun _ _ => ?_)
  · cases p1 with
    | false =>
      have hi : ints = false := by rw [← hi]; rfl
      subst hi
      repeat' (first | refine b9 ?_ | refine b6 ?_ | refine a6 ?_ | refine b5 ?_ | refine e7 rfl ?_ | refine d9 rfl ?_ | ((first | refine b8 (fun K hK => ?_) | refine d3 e9 (fun K hK => ?_) | refine b7 (cp i1 ?_) | refine a8 (dp i1 ?_) | refine b7 (cp i2 ?_) | refine a8 (dp i2 ?_) | fail); simp -implicitDefEqProofs) | refine hK _ ?_ | refine hK _ _ (by rfl) ?_ | fail)
      refine ⟨(), (by trivial), ?_⟩; rw [hI]; exact e8 [0, 1, 2] (by simp -implicitDefEqProofs) (by simp -implicitDefEqProofs) (by decide) rfl (by simp)
    | true =>
      have hi : ints = p2 := by rw [← hi]; rfl
      subst hi
      repeat' (first | refine b9 ?_ | refine b6 ?_ | refine a6 ?_ | refine b5 ?_ | refine e7 rfl ?_ | refine d9 rfl ?_ | ((first | refine b8 (fun K hK => ?_) | refine d3 e9 (fun K hK => ?_) | refine b7 (cp i1 ?_) | refine a8 (dp i1 ?_) | refine b7 (cp i2 ?_) | refine a8 (dp i2 ?_) | fail); simp -implicitDefEqProofs) | refine hK _ ?_ | refine hK _ _ (by rfl) ?_ | fail)
      refine ⟨(), (by trivial), ?_⟩; rw [hI]; exact e8 [0, 1, 2] (by simp -implicitDefEqProofs) (by simp -implicitDefEqProofs) (by decide) rfl (by simp)
  clear i1 i2 hi
  refine a36 (ι := Unit) (fun _ => x5 [(0, vI op), (6, .v (.c (.ptr 0 0))), (7, vB ints), (8, vB bools)] [some (.box (ta (.mk ⟨0, 0, ⟨#[]⟩, 0, 0⟩ [])))]) (fun _ => True) (fun I hI => ?_) (fun _ _ => ?_)
  · cases p3 with
    | false =>
      have hbo : bools = false := by rw [← hbo]; rfl
      subst hbo
      repeat' (first | refine b9 ?_ | refine b6 ?_ | refine a6 ?_ | refine b5 ?_ | refine e7 rfl ?_ | refine d9 rfl ?_ | ((first | refine b8 (fun K hK => ?_) | refine d3 e9 (fun K hK => ?_) | refine b7 (cp b1 ?_) | refine a8 (dp b1 ?_) | refine b7 (cp b2 ?_) | refine a8 (dp b2 ?_) | fail); simp -implicitDefEqProofs) | refine hK _ ?_ | refine hK _ _ (by rfl) ?_ | fail)
      refine ⟨(), (by trivial), ?_⟩; rw [hI]; exact e8 [2] (by simp -implicitDefEqProofs) (by simp -implicitDefEqProofs) (by decide) rfl (by simp)
    | true =>
      have hbo : bools = p4 := by rw [← hbo]; rfl
      subst hbo
      repeat' (first | refine b9 ?_ | refine b6 ?_ | refine a6 ?_ | refine b5 ?_ | refine e7 rfl ?_ | refine d9 rfl ?_ | ((first | refine b8 (fun K hK => ?_) | refine d3 e9 (fun K hK => ?_) | refine b7 (cp b1 ?_) | refine a8 (dp b1 ?_) | refine b7 (cp b2 ?_) | refine a8 (dp b2 ?_) | fail); simp -implicitDefEqProofs) | refine hK _ ?_ | refine hK _ _ (by rfl) ?_ | fail)
      refine ⟨(), (by trivial), ?_⟩; rw [hI]; exact e8 [2] (by simp -implicitDefEqProofs) (by simp -implicitDefEqProofs) (by decide) rfl (by simp)
  clear b1 b2 hbo
  cases ints <;> cases bools
  · repeat' (first | refine b9 ?_ | refine b6 ?_ | refine a6 ?_ | refine b5 ?_ | refine e7 rfl ?_ | refine d9 rfl ?_ | ((first | refine b8 (fun K hK => ?_) | refine d3 e9 (fun K hK => ?_) | refine b7 (cp h1 ?_) | refine a8 (dp h1 ?_) | refine b7 (cp h2 ?_) | refine a8 (dp h2 ?_) | fail); simp -implicitDefEqProofs [*]) | refine hK _ ?_ | refine hK _ _ (by rfl) ?_ | (refine d8 rfl (fun hb => ?_) (fun hb => ?_) <;> ((try simp only [decide_eq_true_eq, decide_eq_false_iff_not, Bool.not_eq_true', Bool.not_eq_false', Bool.not_eq_eq_eq_not, Bool.not_true, Bool.not_false, beq_iff_eq, beq_true, beq_false, bne_iff_ne, ne_eq, Decidable.not_not, Bool.and_eq_true, Bool.or_eq_true, Bool.and_eq_false_iff, Bool.or_eq_false_iff] at hb) <;> repeat' (refine Or.elim hb (fun hb => ?_) (fun hb => ?_)))) | ((first | refine a1b (fun hb => ?_) (fun hb => ?_) | refine a0g (fun hb => ?_) (fun hb => ?_) | fail) <;> ((try simp only [decide_eq_true_eq, decide_eq_false_iff_not, Bool.not_eq_true', Bool.not_eq_false', Bool.not_eq_eq_eq_not, Bool.not_true, Bool.not_false, beq_iff_eq, beq_true, beq_false, bne_iff_ne, ne_eq, Decidable.not_not, Bool.and_eq_true, Bool.or_eq_true, Bool.and_eq_false_iff, Bool.or_eq_false_iff] at hb) <;> repeat' (refine Or.elim hb (fun hb => ?_) (fun hb => ?_))) <;> simp -implicitDefEqProofs [*]) | fail)
    all_goals (first | contradiction | (refine d6 (d4 ?_); simp -implicitDefEqProofs [f9, f6, f7, *] <;> try rfl))
  · repeat' (first | refine b9 ?_ | refine b6 ?_ | refine a6 ?_ | refine b5 ?_ | refine e7 rfl ?_ | refine d9 rfl ?_ | ((first | refine b8 (fun K hK => ?_) | refine d3 e9 (fun K hK => ?_) | refine b7 (cp h1 ?_) | refine a8 (dp h1 ?_) | refine b7 (cp h2 ?_) | refine a8 (dp h2 ?_) | fail); simp -implicitDefEqProofs [*]) | refine hK _ ?_ | refine hK _ _ (by rfl) ?_ | (refine d8 rfl (fun hb => ?_) (fun hb => ?_) <;> ((try simp only [decide_eq_true_eq, decide_eq_false_iff_not, Bool.not_eq_true', Bool.not_eq_false', Bool.not_eq_eq_eq_not, Bool.not_true, Bool.not_false, beq_iff_eq, beq_true, beq_false, bne_iff_ne, ne_eq, Decidable.not_not, Bool.and_eq_true, Bool.or_eq_true, Bool.and_eq_false_iff, Bool.or_eq_false_iff] at hb) <;> repeat' (refine Or.elim hb (fun hb => ?_) (fun hb => ?_)))) | ((first | refine a1b (fun hb => ?_) (fun hb => ?_) | refine a0g (fun hb => ?_) (fun hb => ?_) | fail) <;> ((try simp only [decide_eq_true_eq, decide_eq_false_iff_not, Bool.not_eq_true', Bool.not_eq_false', Bool.not_eq_eq_eq_not, Bool.not_true, Bool.not_false, beq_iff_eq, beq_true, beq_false, bne_iff_ne, ne_eq, Decidable.not_not, Bool.and_eq_true, Bool.or_eq_true, Bool.and_eq_false_iff, Bool.or_eq_false_iff] at hb) <;> repeat' (refine Or.elim hb (fun hb => ?_) (fun hb => ?_))) <;> simp -implicitDefEqProofs [*]) | fail)
    all_goals (first | contradiction | (refine d6 (d4 ?_); simp -implicitDefEqProofs [f9, f6, f7, *] <;> try rfl))
  · repeat' (first | refine b9 ?_ | refine b6 ?_ | refine a6 ?_ | refine b5 ?_ | refine e7 rfl ?_ | refine d9 rfl ?_ | ((first | refine b8 (fun K hK => ?_) | refine d3 e9 (fun K hK => ?_) | refine b7 (cp h1 ?_) | refine a8 (dp h1 ?_) | refine b7 (cp h2 ?_) | refine a8 (dp h2 ?_) | fail); simp -implicitDefEqProofs [*]) | refine hK _ ?_ | refine hK _ _ (by rfl) ?_ | (refine d8 rfl (fun hb => ?_) (fun hb => ?_) <;> ((try simp only [decide_eq_true_eq, decide_eq_false_iff_not, Bool.not_eq_true', Bool.not_eq_false', Bool.not_eq_eq_eq_not, Bool.not_true, Bool.not_false, beq_iff_eq, beq_true, beq_false, bne_iff_ne, ne_eq, Decidable.not_not, Bool.and_eq_true, Bool.or_eq_true, Bool.and_eq_false_iff, Bool.or_eq_false_iff] at hb) <;> repeat' (refine Or.elim hb (fun hb => ?_) (fun hb => ?_)))) | ((first | refine a1b (fun hb => ?_) (fun hb => ?_) | refine a0g (fun hb => ?_) (fun hb => ?_) | fail) <;> ((try simp only [decide_eq_true_eq, decide_eq_false_iff_not, Bool.not_eq_true', Bool.not_eq_false', Bool.not_eq_eq_eq_not, Bool.not_true, Bool.not_false, beq_iff_eq, beq_true, beq_false, bne_iff_ne, ne_eq, Decidable.not_not, Bool.and_eq_true, Bool.or_eq_true, Bool.and_eq_false_iff, Bool.or_eq_false_iff] at hb) <;> repeat' (refine Or.elim hb (fun hb => ?_) (fun hb => ?_))) <;> simp -implicitDefEqProofs [*]) | fail)
    all_goals (first | contradiction | (refine d6 (d4 ?_); simp -implicitDefEqProofs [f9, f6, f7, *] <;> try rfl))
  · repeat' (first | refine b9 ?_ | refine b6 ?_ | refine a6 ?_ | refine b5 ?_ | refine e7 rfl ?_ | refine d9 rfl ?_ | ((first | refine b8 (fun K hK => ?_) | refine d3 e9 (fun K hK => ?_) | refine b7 (cp h1 ?_) | refine a8 (dp h1 ?_) | refine b7 (cp h2 ?_) | refine a8 (dp h2 ?_) | fail); simp -implicitDefEqProofs [*]) | refine hK _ ?_ | refine hK _ _ (by rfl) ?_ | (refine d8 rfl (fun hb => ?_) (fun hb => ?_) <;> ((try simp only [decide_eq_true_eq, decide_eq_false_iff_not, Bool.not_eq_true', Bool.not_eq_false', Bool.not_eq_eq_eq_not, Bool.not_true, Bool.not_false, beq_iff_eq, beq_true, beq_false, bne_iff_ne, ne_eq, Decidable.not_not, Bool.and_eq_true, Bool.or_eq_true, Bool.and_eq_false_iff, Bool.or_eq_false_iff] at hb) <;> repeat' (refine Or.elim hb (fun hb => ?_) (fun hb => ?_)))) | ((first | refine a1b (fun hb => ?_) (fun hb => ?_) | refine a0g (fun hb => ?_) (fun hb => ?_) | fail) <;> ((try simp only [decide_eq_true_eq, decide_eq_false_iff_not, Bool.not_eq_true', Bool.not_eq_false', Bool.not_eq_eq_eq_not, Bool.not_true, Bool.not_false, beq_iff_eq, beq_true, beq_false, bne_iff_ne, ne_eq, Decidable.not_not, Bool.and_eq_true, Bool.or_eq_true, Bool.and_eq_false_iff, Bool.or_eq_false_iff] at hb) <;> repeat' (refine Or.elim hb (fun hb => ?_) (fun hb => ?_))) <;> simp -implicitDefEqProofs [*]) | fail)
    all_goals (first | contradiction | (refine d6 (d4 ?_); simp -implicitDefEqProofs [f9, f6, f7, *] <;> try rfl))
theorem b3k (m : VT) (hsz : m.size ≤ 1000000) (n kind : Int) (hn : n ≤ 9223372036854775807) : Row Tryz.prog 131 [vT m, vI n, vI kind] [] (vB (a23 m n kind)) [] := by
  obtain ⟨mx, ml⟩ := m
  have hml := Tr.len_size (x := mx) (l := ml)
  by_cases h0 : n < 0
  · rw [show a23 (.mk mx ml) n kind = false by unfold a23; rw [if_pos h0]]
    refine d7 Tryz.func131 rfl rfl (Nat.le_of_ble_eq_true rfl) ?_
    repeat (first | refine b9 ?_ | refine b6 ?_ | refine a6 ?_ | refine b5 ?_ | refine e7 rfl ?_ | refine d9 rfl ?_ | ((first | refine b8 (fun K hK => ?_) | refine d3 e9 (fun K hK => ?_) | fail); simp -implicitDefEqProofs [h0]; first | refine hK _ ?_ | refine hK _ _ (by rfl) ?_ | fail) | fail)
    refine d6 (d4 ?_); simp -implicitDefEqProofs [f9, f6, f7] <;> try rfl
  obtain ⟨a, rfl⟩ : ∃ N : Nat, n = N := ⟨n.toNat, by omega⟩
  have hf : a23 (.mk mx ml) (a : Nat) kind = (match ml[a]? with | none => false | some d => decide (d.lab.k = kind) && b2y d kind) := by
    unfold a23; rw [if_neg h0, Int.toNat_natCast]; rfl
  by_cases hal : a < ml.length; rotate_left
  · have hal' : (ml.length : Int) ≤ (a : Nat) := by omega
    have hal2 : ml.length ≤ a := by omega
    rw [show a23 (.mk mx ml) (a : Nat) kind = false by rw [hf, List.getElem?_eq_none hal2]]
    clear hf
    refine d7 Tryz.func131 rfl rfl (Nat.le_of_ble_eq_true rfl) ?_
    repeat (first | refine b9 ?_ | refine b6 ?_ | refine a6 ?_ | refine b5 ?_ | refine e7 rfl ?_ | refine d9 rfl ?_ | ((first | refine b8 (fun K hK => ?_) | refine d3 e9 (fun K hK => ?_) | fail); simp -implicitDefEqProofs [h0, hal, hal', hal2]; first | refine hK _ ?_ | refine hK _ _ (by rfl) ?_ | fail) | fail)
    refine d6 (d4 ?_); simp -implicitDefEqProofs [f9, f6, f7] <;> try rfl
  have hal' : ¬ (ml.length : Int) ≤ (a : Nat) := by omega
  have hal2 : ¬ ml.length ≤ a := by omega
  have w1 : IntKind.i64.wrap ((a : Nat) : Int) = (a : Nat) := l4 _ (by omega) (by omega)
  obtain ⟨⟨y, p⟩, hd⟩ : ∃ d, ml[a]? = some d := ⟨_, List.getElem?_eq_getElem hal⟩
  have hd' := (List.getElem?_eq_some_iff.1 hd).2
  have hdz := Tr.size_at (x := mx) hd
  have hsh := a1w (.mk y p) (by omega)
  rw [hd] at hf
  by_cases hk : y.k = kind; rotate_left
  · rw [show a23 (.mk mx ml) (a : Nat) kind = false by rw [hf]; show (decide (y.k = kind) && _) = false; rw [decide_eq_false hk]; rfl]
    clear hf hsh
    refine d7 Tryz.func131 rfl rfl (Nat.le_of_ble_eq_true rfl) ?_
    repeat (first | refine b9 ?_ | refine b6 ?_ | refine a6 ?_ | refine b5 ?_ | refine e7 rfl ?_ | refine d9 rfl ?_ | ((first | refine b8 (fun K hK => ?_) | refine d3 e9 (fun K hK => ?_) | fail); simp -implicitDefEqProofs [h0, hal, hal', hal2, w1, hd, hd', hk]; first | refine hK _ ?_ | refine hK _ _ (by rfl) ?_ | fail) | fail)
    refine d6 (d4 ?_); simp -implicitDefEqProofs [f9, f6, f7] <;> try rfl
  have hf : a23 (.mk mx ml) (a : Nat) kind = b2y (.mk y p) kind := by rw [hf]; show (decide (y.k = kind) && _) = _; rw [decide_eq_true hk, Bool.true_and]
  rw [hf]
  clear hf
  subst hk
  unfold b2y
  rw [Tr.kids]
  by_cases c1 : y.k = 31
  · rw [if_pos c1]
    by_cases l1 : p.length = 1
    · have l1' : (p.length : Int) = 1 := by omega
      obtain ⟨⟨ux, ul⟩, rfl⟩ := o6 l1
      have hl := a3x (.mk ux ul)
      have hlk := c3k (.mk ux ul)
      rw [show [Tr.mk ux ul].getD 0 z0T = .mk ux ul from rfl]
      rw [Tr.lab] at hlk
      obtain ⟨⟨vx, vl⟩, hv⟩ : ∃ v, a0u (.mk ux ul) = v := ⟨_, rfl⟩
      rw [hv] at hl hlk ⊢
      rw [Tr.lab] at hlk ⊢
      clear hv hlk hsh
      by_cases c0 : vx.k = 0
      · refine d7 Tryz.func131 rfl rfl (Nat.le_of_ble_eq_true rfl) ?_
        repeat' (first | refine b9 ?_ | refine b6 ?_ | refine a6 ?_ | refine b5 ?_ | refine e7 rfl ?_ | refine d9 rfl ?_ | ((first | refine b8 (fun K hK => ?_) | refine d3 e9 (fun K hK => ?_) | refine b7 (cp hl ?_) | refine a8 (dp hl ?_) | fail); simp -implicitDefEqProofs [h0, hal, hal', hal2, w1, hd, hd', c1, c0]) | refine hK _ ?_ | refine hK _ _ (by rfl) ?_ | fail)
        refine d6 (d4 ?_); simp -implicitDefEqProofs [f9, f6, f7, c0] <;> try rfl
      · refine d7 Tryz.func131 rfl rfl (Nat.le_of_ble_eq_true rfl) ?_
        repeat' (first | refine b9 ?_ | refine b6 ?_ | refine a6 ?_ | refine b5 ?_ | refine e7 rfl ?_ | refine d9 rfl ?_ | ((first | refine b8 (fun K hK => ?_) | refine d3 e9 (fun K hK => ?_) | refine b7 (cp hl ?_) | refine a8 (dp hl ?_) | fail); simp -implicitDefEqProofs [h0, hal, hal', hal2, w1, hd, hd', c1, c0]) | refine hK _ ?_ | refine hK _ _ (by rfl) ?_ | fail)
        refine d6 (d4 ?_); simp -implicitDefEqProofs [f9, f6, f7, c0] <;> try rfl
    · have l1' : ¬ (p.length : Int) = 1 := by omega
      clear hsh
      refine d7 Tryz.func131 rfl rfl (Nat.le_of_ble_eq_true rfl) ?_
      repeat (first | refine b9 ?_ | refine b6 ?_ | refine a6 ?_ | refine b5 ?_ | refine e7 rfl ?_ | refine d9 rfl ?_ | ((first | refine b8 (fun K hK => ?_) | refine d3 e9 (fun K hK => ?_) | fail); simp -implicitDefEqProofs [h0, hal, hal', hal2, w1, hd, hd', c1, l1, l1']; first | refine hK _ ?_ | refine hK _ _ (by rfl) ?_ | fail) | fail)
      refine d6 (d4 ?_); simp -implicitDefEqProofs [f9, f6, f7, l1] <;> try rfl
  rw [if_neg c1]
  by_cases c2 : y.k = 32
  · rw [if_pos c2]
    clear hsh
    by_cases l1 : p.length = 1
    · have l1' : (p.length : Int) = 1 := by omega
      refine d7 Tryz.func131 rfl rfl (Nat.le_of_ble_eq_true rfl) ?_
      repeat (first | refine b9 ?_ | refine b6 ?_ | refine a6 ?_ | refine b5 ?_ | refine e7 rfl ?_ | refine d9 rfl ?_ | ((first | refine b8 (fun K hK => ?_) | refine d3 e9 (fun K hK => ?_) | fail); simp -implicitDefEqProofs [h0, hal, hal', hal2, w1, hd, hd', c2, l1, l1']; first | refine hK _ ?_ | refine hK _ _ (by rfl) ?_ | fail) | fail)
      refine d6 (d4 ?_); simp -implicitDefEqProofs [f9, f6, f7, l1] <;> try rfl
    · have l1' : ¬ (p.length : Int) = 1 := by omega
      refine d7 Tryz.func131 rfl rfl (Nat.le_of_ble_eq_true rfl) ?_
      repeat (first | refine b9 ?_ | refine b6 ?_ | refine a6 ?_ | refine b5 ?_ | refine e7 rfl ?_ | refine d9 rfl ?_ | ((first | refine b8 (fun K hK => ?_) | refine d3 e9 (fun K hK => ?_) | fail); simp -implicitDefEqProofs [h0, hal, hal', hal2, w1, hd, hd', c2, l1, l1']; first | refine hK _ ?_ | refine hK _ _ (by rfl) ?_ | fail) | fail)
      refine d6 (d4 ?_); simp -implicitDefEqProofs [f9, f6, f7, l1] <;> try rfl
  rw [if_neg c2]
  by_cases c3 : y.k = 33
  · rw [if_pos c3]
    clear hsh
    by_cases l1 : p.length = 3
    · have l1' : (p.length : Int) = 3 := by omega
      refine d7 Tryz.func131 rfl rfl (Nat.le_of_ble_eq_true rfl) ?_
      repeat (first | refine b9 ?_ | refine b6 ?_ | refine a6 ?_ | refine b5 ?_ | refine e7 rfl ?_ | refine d9 rfl ?_ | ((first | refine b8 (fun K hK => ?_) | refine d3 e9 (fun K hK => ?_) | fail); simp -implicitDefEqProofs [h0, hal, hal', hal2, w1, hd, hd', c3, l1, l1']; first | refine hK _ ?_ | refine hK _ _ (by rfl) ?_ | fail) | fail)
      refine d6 (d4 ?_); simp -implicitDefEqProofs [f9, f6, f7, l1] <;> try rfl
    · have l1' : ¬ (p.length : Int) = 3 := by omega
      refine d7 Tryz.func131 rfl rfl (Nat.le_of_ble_eq_true rfl) ?_
      repeat (first | refine b9 ?_ | refine b6 ?_ | refine a6 ?_ | refine b5 ?_ | refine e7 rfl ?_ | refine d9 rfl ?_ | ((first | refine b8 (fun K hK => ?_) | refine d3 e9 (fun K hK => ?_) | fail); simp -implicitDefEqProofs [h0, hal, hal', hal2, w1, hd, hd', c3, l1, l1']; first | refine hK _ ?_ | refine hK _ _ (by rfl) ?_ | fail) | fail)
      refine d6 (d4 ?_); simp -implicitDefEqProofs [f9, f6, f7, l1] <;> try rfl
  rw [if_neg c3]
  obtain ⟨sb, hsb⟩ : ∃ b, a44 (.mk y p) = b := ⟨_, rfl⟩
  rw [hsb] at hsh ⊢
  clear hsb
  refine d7 Tryz.func131 rfl rfl (Nat.le_of_ble_eq_true rfl) ?_
  repeat' (first | refine b9 ?_ | refine b6 ?_ | refine a6 ?_ | refine b5 ?_ | refine e7 rfl ?_ | refine d9 rfl ?_ | ((first | refine b8 (fun K hK => ?_) | refine d3 e9 (fun K hK => ?_) | refine b7 (cp hsh ?_) | refine a8 (dp hsh ?_) | fail); simp -implicitDefEqProofs [h0, hal, hal', hal2, w1, hd, hd', c1, c2, c3]) | refine hK _ ?_ | refine hK _ _ (by rfl) ?_ | fail)
  refine d6 (d4 ?_); simp -implicitDefEqProofs [f9, f6, f7] <;> try rfl
theorem c2b (m : VT) (hsz : m.size ≤ 1000000) (L : List VT) (x : Lab) (l : List VT) (hx : x.ok) : Row Tryz.prog 87 [vT m, vLs L, vT (.mk x l)] [] (vB (b53 m L.length x)) [] := by
  have hh := fun k => b3k m hsz x.n k hx.2.1.2
  have h1 := hh 31
  have h2 := hh 32
  have h3 := hh 30
  have h4 := hh 33
  clear hh
  unfold b53
  obtain ⟨p1, q1⟩ : ∃ p, a23 m x.n 31 = p := ⟨_, rfl⟩
  obtain ⟨p2, q2⟩ : ∃ p, a23 m x.n 32 = p := ⟨_, rfl⟩
  obtain ⟨p3, q3⟩ : ∃ p, a23 m x.n 30 = p := ⟨_, rfl⟩
  obtain ⟨p4, q4⟩ : ∃ p, a23 m x.n 33 = p := ⟨_, rfl⟩
  rw [q1] at h1
  rw [q2] at h2
  rw [q3] at h3
  rw [q4] at h4
  rw [q1, q2, q3, q4]
  clear q1 q2 q3 q4
  obtain ⟨mx, ml⟩ := m
  by_cases c7 : x.k = 7
  · rw [if_pos c7]
    by_cases a1 : 0 ≤ x.n
    · by_cases a2 : x.n < L.length
      · refine d7 Tryz.func87 rfl rfl (Nat.le_of_ble_eq_true rfl) ?_
        repeat (first | refine b9 ?_ | refine b6 ?_ | refine a6 ?_ | refine b5 ?_ | refine e7 rfl ?_ | refine d9 rfl ?_ | ((first | refine b8 (fun K hK => ?_) | refine d3 e9 (fun K hK => ?_) | fail); simp -implicitDefEqProofs [c7, a1, a2]; first | refine hK _ ?_ | refine hK _ _ (by rfl) ?_ | fail) | fail)
        refine d6 (d4 ?_); simp -implicitDefEqProofs [f9, f6, f7, a1, a2] <;> try rfl
      · refine d7 Tryz.func87 rfl rfl (Nat.le_of_ble_eq_true rfl) ?_
        repeat (first | refine b9 ?_ | refine b6 ?_ | refine a6 ?_ | refine b5 ?_ | refine e7 rfl ?_ | refine d9 rfl ?_ | ((first | refine b8 (fun K hK => ?_) | refine d3 e9 (fun K hK => ?_) | fail); simp -implicitDefEqProofs [c7, a1, a2]; first | refine hK _ ?_ | refine hK _ _ (by rfl) ?_ | fail) | fail)
        refine d6 (d4 ?_); simp -implicitDefEqProofs [f9, f6, f7, a1, a2] <;> try rfl
    · refine d7 Tryz.func87 rfl rfl (Nat.le_of_ble_eq_true rfl) ?_
      repeat (first | refine b9 ?_ | refine b6 ?_ | refine a6 ?_ | refine b5 ?_ | refine e7 rfl ?_ | refine d9 rfl ?_ | ((first | refine b8 (fun K hK => ?_) | refine d3 e9 (fun K hK => ?_) | fail); simp -implicitDefEqProofs [c7, a1]; first | refine hK _ ?_ | refine hK _ _ (by rfl) ?_ | fail) | fail)
      refine d6 (d4 ?_); simp -implicitDefEqProofs [f9, f6, f7, a1] <;> try rfl
  rw [if_neg c7]
  by_cases c8 : x.k = 8
  · rw [if_pos c8]
    refine d7 Tryz.func87 rfl rfl (Nat.le_of_ble_eq_true rfl) ?_
    repeat' (first | refine b9 ?_ | refine b6 ?_ | refine a6 ?_ | refine b5 ?_ | refine e7 rfl ?_ | refine d9 rfl ?_ | ((first | refine b8 (fun K hK => ?_) | refine d3 e9 (fun K hK => ?_) | refine b7 (cp h1 ?_) | refine a8 (dp h1 ?_) | fail); simp -implicitDefEqProofs [c8]) | refine hK _ ?_ | refine hK _ _ (by rfl) ?_ | fail)
    refine d6 (d4 ?_); simp -implicitDefEqProofs [f9, f6, f7] <;> try rfl
  rw [if_neg c8]
  by_cases c9 : x.k = 9
  · rw [if_pos c9]
    refine d7 Tryz.func87 rfl rfl (Nat.le_of_ble_eq_true rfl) ?_
    repeat' (first | refine b9 ?_ | refine b6 ?_ | refine a6 ?_ | refine b5 ?_ | refine e7 rfl ?_ | refine d9 rfl ?_ | ((first | refine b8 (fun K hK => ?_) | refine d3 e9 (fun K hK => ?_) | refine b7 (cp h2 ?_) | refine a8 (dp h2 ?_) | fail); simp -implicitDefEqProofs [c9]) | refine hK _ ?_ | refine hK _ _ (by rfl) ?_ | fail)
    refine d6 (d4 ?_); simp -implicitDefEqProofs [f9, f6, f7] <;> try rfl
  rw [if_neg c9]
  by_cases c15 : x.k = 15
  · rw [if_pos c15]
    refine d7 Tryz.func87 rfl rfl (Nat.le_of_ble_eq_true rfl) ?_
    repeat' (first | refine b9 ?_ | refine b6 ?_ | refine a6 ?_ | refine b5 ?_ | refine e7 rfl ?_ | refine d9 rfl ?_ | ((first | refine b8 (fun K hK => ?_) | refine d3 e9 (fun K hK => ?_) | refine b7 (cp h3 ?_) | refine a8 (dp h3 ?_) | fail); simp -implicitDefEqProofs [c15]) | refine hK _ ?_ | refine hK _ _ (by rfl) ?_ | fail)
    refine d6 (d4 ?_); simp -implicitDefEqProofs [f9, f6, f7] <;> try rfl
  rw [if_neg c15]
  by_cases c16 : x.k = 16
  · rw [if_pos c16]
    refine d7 Tryz.func87 rfl rfl (Nat.le_of_ble_eq_true rfl) ?_
    repeat' (first | refine b9 ?_ | refine b6 ?_ | refine a6 ?_ | refine b5 ?_ | refine e7 rfl ?_ | refine d9 rfl ?_ | ((first | refine b8 (fun K hK => ?_) | refine d3 e9 (fun K hK => ?_) | refine b7 (cp h4 ?_) | refine a8 (dp h4 ?_) | fail); simp -implicitDefEqProofs [c16]) | refine hK _ ?_ | refine hK _ _ (by rfl) ?_ | fail)
    refine d6 (d4 ?_); simp -implicitDefEqProofs [f9, f6, f7] <;> try rfl
  rw [if_neg c16]
  by_cases c17 : x.k = 17
  · refine d7 Tryz.func87 rfl rfl (Nat.le_of_ble_eq_true rfl) ?_
    repeat (first | refine b9 ?_ | refine b6 ?_ | refine a6 ?_ | refine b5 ?_ | refine e7 rfl ?_ | refine d9 rfl ?_ | ((first | refine b8 (fun K hK => ?_) | refine d3 e9 (fun K hK => ?_) | fail); simp -implicitDefEqProofs [c7, c8, c9, c15, c16, c17]; first | refine hK _ ?_ | refine hK _ _ (by rfl) ?_ | fail) | fail)
    refine d6 (d4 ?_); simp -implicitDefEqProofs [f9, f6, f7, c17] <;> try rfl
  · refine d7 Tryz.func87 rfl rfl (Nat.le_of_ble_eq_true rfl) ?_
    repeat (first | refine b9 ?_ | refine b6 ?_ | refine a6 ?_ | refine b5 ?_ | refine e7 rfl ?_ | refine d9 rfl ?_ | ((first | refine b8 (fun K hK => ?_) | refine d3 e9 (fun K hK => ?_) | fail); simp -implicitDefEqProofs [c7, c8, c9, c15, c16, c17]; first | refine hK _ ?_ | refine hK _ _ (by rfl) ?_ | fail) | fail)
    refine d6 (d4 ?_); simp -implicitDefEqProofs [f9, f6, f7, c17] <;> try rfl
theorem a0h (t : VT) : t.size ≤ 1000000 → Row Tryz.prog 132 [vT t] [] (vT (u9 t)) [] := by
  induction t using Tr.ind with
  | h x l ih =>
  intro hsz
  have hlen := Tr.len_size (x := x) (l := l)
  rw [a1p]
  refine d7 Tryz.func132 rfl rfl (Nat.le_of_ble_eq_true rfl) ?_
  repeat (first | refine b9 ?_ | refine b6 ?_ | refine a6 ?_ | refine b5 ?_ | refine e7 rfl ?_ | refine d9 rfl ?_ | ((first | refine b8 (fun K hK => ?_) | refine d3 e9 (fun K hK => ?_) | fail); simp -implicitDefEqProofs; first | refine hK _ ?_ | refine hK _ _ (by rfl) ?_ | fail) | fail)
  refine m6 (ι := Nat) (fun k => x5 [(1, .v (.c (.ptr 0 0))), (2, .v (.c (.ptr 1 0))), (3, .v (.c (.row 2 6 (((l.take k).map u9).map tc)))), (4, vI (k : Nat))] [some (.box (ta (.mk x l))), some (.box (ta (.mk ⟨0, 0, ⟨#[]⟩, 0, 0⟩ []))), some (.row 24 6)]) (fun k => k ≤ l.length) (fun k => l.length - k) 0 (Nat.zero_le _) (e8 [0, 1, 2] (by simp -implicitDefEqProofs) (by simp -implicitDefEqProofs) (by decide) rfl (by simp)) (fun Z hI k hk => ?_)
  by_cases hkl : k < l.length; rotate_left
  · have : k = l.length := by omega
    subst this
    rw [List.take_length]
    repeat (first | refine b9 ?_ | refine b6 ?_ | refine a6 ?_ | refine b5 ?_ | refine e7 rfl ?_ | refine d9 rfl ?_ | ((first | refine b8 (fun K hK => ?_) | refine d3 e9 (fun K hK => ?_) | fail); simp -implicitDefEqProofs; first | refine hK _ ?_ | refine hK _ _ (by rfl) ?_ | fail) | fail)
    refine d6 (d4 ?_); simp -implicitDefEqProofs [f9, f6, f7] <;> try rfl
  obtain ⟨⟨ax, al⟩, ha⟩ : ∃ a, l[k]? = some a := ⟨_, List.getElem?_eq_getElem hkl⟩
  have ha' := (List.getElem?_eq_some_iff.1 ha).2
  have hsz1 := Tr.size_at (x := x) ha
  have hc := ih _ (List.mem_of_getElem? ha) (by omega)
  have w2 : IntKind.i64.wrap ((k : Nat) + 1 : Int) = (k : Nat) + 1 := l4 _ (by omega) (by omega)
  have hs : (l.take (k + 1)).map u9 = (l.take k).map u9 ++ [u9 (.mk ax al)] := by rw [List.take_add_one, ha]; simp
  obtain ⟨L, hL⟩ : ∃ L, (l.take k).map u9 = L := ⟨_, rfl⟩
  have hLl : L.length = k := by rw [← hL, List.length_map, List.length_take]; omega
  rw [hL] at hs ⊢
  obtain ⟨⟨bx, bl⟩, hb⟩ : ∃ b, u9 (.mk ax al) = b := ⟨_, rfl⟩
  rw [hb] at hc hs
  have b1 : (k + 1) * 72 ≤ 140737488355328 := by omega
  have b2 : k + 1 ≤ 140737488355328 := by omega
  repeat' (first | refine b9 ?_ | refine b6 ?_ | refine a6 ?_ | refine b5 ?_ | refine e7 rfl ?_ | refine d9 rfl ?_ | ((first | refine b8 (fun K hK => ?_) | refine d3 e9 (fun K hK => ?_) | refine b7 (cp hc ?_) | refine a8 (dp hc ?_) | fail); simp -implicitDefEqProofs [hkl, ha, ha', hLl, b1, b2, w2]) | refine hK _ ?_ | refine hK _ _ (by rfl) ?_ | fail)
  refine ⟨k + 1, by omega, (by dsimp only; omega), ?_⟩
  rw [hI, hs]; exact e8 [0, 1, 23] (by simp -implicitDefEqProofs) (by simp -implicitDefEqProofs) (by decide) rfl (by simp)
theorem a04 (t : VT) : t.size ≤ 1000000 → ∀ u : VT, u.size ≤ 1000000 → Row Tryz.prog 22 [vT t, vT u] [] (vB (same t u)) [] := by
  induction t using Tr.ind with
  | h x l ih =>
  intro hsz u hsu
  obtain ⟨y, m⟩ := u
  have hlen := Tr.len_size (x := x) (l := l)
  rw [show same (.mk x l) (.mk y m) = _ from a1m vt.pS x y l m]
  refine d7 Tryz.func22 rfl rfl (Nat.le_of_ble_eq_true rfl) ?_
  by_cases hk : x.k = y.k; rotate_left
  · repeat (first | refine b9 ?_ | refine b6 ?_ | refine a6 ?_ | refine b5 ?_ | refine e7 rfl ?_ | refine d9 rfl ?_ | ((first | refine b8 (fun K hK => ?_) | refine d3 e9 (fun K hK => ?_) | fail); simp -implicitDefEqProofs [hk]; first | refine hK _ ?_ | refine hK _ _ (by rfl) ?_ | fail) | fail)
    refine d6 (d4 ?_); simp -implicitDefEqProofs [f9, f6, f7, hk, vt.pS] <;> try rfl
  by_cases hn : x.n = y.n; rotate_left
  · repeat (first | refine b9 ?_ | refine b6 ?_ | refine a6 ?_ | refine b5 ?_ | refine e7 rfl ?_ | refine d9 rfl ?_ | ((first | refine b8 (fun K hK => ?_) | refine d3 e9 (fun K hK => ?_) | fail); simp -implicitDefEqProofs [hk, hn]; first | refine hK _ ?_ | refine hK _ _ (by rfl) ?_ | fail) | fail)
    refine d6 (d4 ?_); simp -implicitDefEqProofs [f9, f6, f7, hk, hn, vt.pS] <;> try rfl
  by_cases hs : x.s = y.s; rotate_left
  · repeat (first | refine b9 ?_ | refine b6 ?_ | refine a6 ?_ | refine b5 ?_ | refine e7 rfl ?_ | refine d9 rfl ?_ | ((first | refine b8 (fun K hK => ?_) | refine d3 e9 (fun K hK => ?_) | fail); simp -implicitDefEqProofs [hk, hn, hs]; first | refine hK _ ?_ | refine hK _ _ (by rfl) ?_ | fail) | fail)
    refine d6 (d4 ?_); simp -implicitDefEqProofs [f9, f6, f7, hk, hn, hs, vt.pS] <;> try rfl
  by_cases hm : l.length = m.length; rotate_left
  · have hm' : ¬ (l.length : Int) = (m.length : Int) := by omega
    repeat (first | refine b9 ?_ | refine b6 ?_ | refine a6 ?_ | refine b5 ?_ | refine e7 rfl ?_ | refine d9 rfl ?_ | ((first | refine b8 (fun K hK => ?_) | refine d3 e9 (fun K hK => ?_) | fail); simp -implicitDefEqProofs [hk, hn, hs, hm, hm']; first | refine hK _ ?_ | refine hK _ _ (by rfl) ?_ | fail) | fail)
    refine d6 (d4 ?_); simp -implicitDefEqProofs [f9, f6, f7, hk, hn, hs, hm, vt.pS] <;> try rfl
  repeat (first | refine b9 ?_ | refine b6 ?_ | refine a6 ?_ | refine b5 ?_ | refine e7 rfl ?_ | refine d9 rfl ?_ | ((first | refine b8 (fun K hK => ?_) | refine d3 e9 (fun K hK => ?_) | fail); simp -implicitDefEqProofs [hk, hn, hs, hm]; first | refine hK _ ?_ | refine hK _ _ (by rfl) ?_ | fail) | fail)
  refine m6 (ι := Nat) (fun k => x5 [(2, .v (.c (.ptr 0 0))), (3, .v (.c (.ptr 1 0))), (5, vI (k : Nat))] [some (.box (ta (.mk x l))), some (.box (ta (.mk y m)))]) (fun k => k ≤ l.length ∧ a1j (eqv vt.pS) l m k = true) (fun k => l.length - k) 0 ⟨Nat.zero_le _, a5d _ _ _⟩ (e8 [0, 1] (by simp -implicitDefEqProofs [hk, hn, hs, hm]) (by simp -implicitDefEqProofs [hk, hn, hs, hm]) (by decide) rfl (by simp)) (fun Z hI k hkz => ?_)
  obtain ⟨hkl', hz⟩ := hkz
  by_cases hkl : k < l.length; rotate_left
  · have : k = l.length := by omega
    subst this
    rw [show (vt.pS x y && decide (l.length = m.length) && a1j (eqv vt.pS) l m l.length) = true by rw [hz]; simp [vt.pS, hk, hn, hs, hm]]
    repeat (first | refine b9 ?_ | refine b6 ?_ | refine a6 ?_ | refine b5 ?_ | refine e7 rfl ?_ | refine d9 rfl ?_ | ((first | refine b8 (fun K hK => ?_) | refine d3 e9 (fun K hK => ?_) | fail); simp -implicitDefEqProofs; first | refine hK _ ?_ | refine hK _ _ (by rfl) ?_ | fail) | fail)
    refine d6 (d4 ?_); simp -implicitDefEqProofs [f9, f6, f7] <;> try rfl
  have hkm : k < m.length := by omega
  obtain ⟨⟨ax, al⟩, ha⟩ : ∃ a, l[k]? = some a := ⟨_, List.getElem?_eq_getElem hkl⟩
  obtain ⟨⟨bx, bl⟩, hb⟩ : ∃ a, m[k]? = some a := ⟨_, List.getElem?_eq_getElem hkm⟩
  have ha' := (List.getElem?_eq_some_iff.1 ha).2
  have hb' := (List.getElem?_eq_some_iff.1 hb).2
  have hsz1 := Tr.size_at (x := x) ha
  have hsz2 := Tr.size_at (x := y) hb
  have w2 : IntKind.i64.wrap ((k : Nat) + 1 : Int) = (k : Nat) + 1 := l4 _ (by omega) (by omega)
  have hzs := y8 (f := eqv vt.pS) ha hb
  repeat (first | refine b9 ?_ | refine b6 ?_ | refine a6 ?_ | refine b5 ?_ | refine e7 rfl ?_ | refine d9 rfl ?_ | ((first | refine b8 (fun K hK => ?_) | refine d3 e9 (fun K hK => ?_) | fail); simp -implicitDefEqProofs [hkl]; first | refine hK _ ?_ | refine hK _ _ (by rfl) ?_ | fail) | fail)
  refine d3 e9 (fun K hK => ?_); simp -implicitDefEqProofs [hkl, hkm, ha, ha', hb, hb']
  refine a8 (a09 (ih _ (List.mem_of_getElem? ha) (by omega) (.mk bx bl) (by omega)) (by simp) (fun _ => rfl) rfl ?_)
  simp -implicitDefEqProofs
  refine hK _ _ (by rfl) ?_
  refine d8 rfl (fun hb => ?_) (fun hb => ?_)
  · have hf : same (.mk ax al) (.mk bx bl) = false := by simpa using hb
    repeat (first | refine b9 ?_ | refine b6 ?_ | refine a6 ?_ | refine b5 ?_ | refine e7 rfl ?_ | refine d9 rfl ?_ | ((first | refine b8 (fun K hK => ?_) | refine d3 e9 (fun K hK => ?_) | fail); simp -implicitDefEqProofs; first | refine hK _ ?_ | refine hK _ _ (by rfl) ?_ | fail) | fail)
    have e : a1j (eqv vt.pS) l m l.length = false := by
      have := a5c (l.length - (k + 1)) (show a1j (eqv vt.pS) l m (k + 1) = false by rw [hzs, hz]; simpa using hf)
      rwa [show k + 1 + (l.length - (k + 1)) = l.length by omega] at this
    refine d6 (d4 ?_); simp -implicitDefEqProofs [f9, f6, f7, e] <;> try rfl
  · have hf : same (.mk ax al) (.mk bx bl) = true := by simpa using hb
    repeat (first | refine b9 ?_ | refine b6 ?_ | refine a6 ?_ | refine b5 ?_ | refine e7 rfl ?_ | refine d9 rfl ?_ | ((first | refine b8 (fun K hK => ?_) | refine d3 e9 (fun K hK => ?_) | fail); simp -implicitDefEqProofs [w2]; first | refine hK _ ?_ | refine hK _ _ (by rfl) ?_ | fail) | fail)
    refine ⟨k + 1, ⟨by omega, by rw [hzs, hz]; simpa using hf⟩, (by dsimp only; omega), ?_⟩
    rw [hI]; exact e8 [0, 1] (by simp -implicitDefEqProofs) (by simp -implicitDefEqProofs) (by decide) rfl (by simp)
noncomputable def a7a : List VT → List VT → Bool
  | [], [] => true
  | a :: A, p :: P => (decide (p.kids.length = 1) && same a (u9 (p.kids.getD 0 z0T))) && a7a A P
  | _, _ => false
theorem b2j : ∀ {A P : List VT}, A.length ≠ P.length → a7a A P = false
  | [], [], h => absurd rfl h
  | a :: A, p :: P, h => by unfold a7a; rw [b2j (fun e => h (by simp [e])), Bool.and_false]
  | [], _ :: _, _ => rfl
  | _ :: _, [], _ => rfl
theorem b3i (A P : List VT) (hA : ∀ a ∈ A, a.size ≤ 1000000) (hP : ∀ p ∈ P, p.size ≤ 1000000) (hl : P.length ≤ 1000000) (hl2 : A.length ≤ 1000000) : Row Tryz.prog 137 [vLs A, vLs P] [] (vB (a7a A P)) [] := by
  by_cases he : A.length = P.length; rotate_left
  · rw [b2j he]
    have he' : ¬ (A.length : Int) = (P.length : Int) := by omega
    refine d7 Tryz.func137 rfl rfl (Nat.le_of_ble_eq_true rfl) ?_
    repeat (first | refine b9 ?_ | refine b6 ?_ | refine a6 ?_ | refine b5 ?_ | refine e7 rfl ?_ | refine d9 rfl ?_ | ((first | refine b8 (fun K hK => ?_) | refine d3 e9 (fun K hK => ?_) | fail); simp -implicitDefEqProofs [he, he']; first | refine hK _ ?_ | refine hK _ _ (by rfl) ?_ | fail) | fail)
    refine d6 (d4 ?_); simp -implicitDefEqProofs [f9, f6, f7] <;> try rfl
  obtain ⟨R, hR⟩ : ∃ R, a7a A P = R := ⟨_, rfl⟩
  rw [hR]
  refine d7 Tryz.func137 rfl rfl (Nat.le_of_ble_eq_true rfl) ?_
  repeat (first | refine b9 ?_ | refine b6 ?_ | refine a6 ?_ | refine b5 ?_ | refine e7 rfl ?_ | refine d9 rfl ?_ | ((first | refine b8 (fun K hK => ?_) | refine d3 e9 (fun K hK => ?_) | fail); simp -implicitDefEqProofs [he]; first | refine hK _ ?_ | refine hK _ _ (by rfl) ?_ | fail) | fail)
  refine m6 (ι := Nat) (fun k => x5 [(0, vLs A), (1, vLs P), (5, vI (k : Nat))] []) (fun k => k ≤ P.length ∧ a7a (A.drop k) (P.drop k) = R) (fun k => P.length - k) 0 ⟨Nat.zero_le _, by simpa using hR⟩ (e8 [] (by simp -implicitDefEqProofs) (by simp -implicitDefEqProofs) (by decide) rfl (by simp)) (fun Z hI k hk => ?_)
  obtain ⟨hk, hz⟩ := hk
  by_cases hkl : k < P.length; rotate_left
  · have : k = P.length := by omega
    subst this
    rw [List.drop_of_length_le (by omega), List.drop_of_length_le (Nat.le_refl _)] at hz
    have hz : true = R := hz
    subst hz
    repeat (first | refine b9 ?_ | refine b6 ?_ | refine a6 ?_ | refine b5 ?_ | refine e7 rfl ?_ | refine d9 rfl ?_ | ((first | refine b8 (fun K hK => ?_) | refine d3 e9 (fun K hK => ?_) | fail); simp -implicitDefEqProofs; first | refine hK _ ?_ | refine hK _ _ (by rfl) ?_ | fail) | fail)
    refine d6 (d4 ?_); simp -implicitDefEqProofs [f9, f6, f7] <;> try rfl
  have hkA : k < A.length := by omega
  obtain ⟨⟨ax, al⟩, ha⟩ : ∃ a, A[k]? = some a := ⟨_, List.getElem?_eq_getElem hkA⟩
  have ha' := (List.getElem?_eq_some_iff.1 ha).2
  obtain ⟨⟨px, pl⟩, hp⟩ : ∃ a, P[k]? = some a := ⟨_, List.getElem?_eq_getElem hkl⟩
  have hp' := (List.getElem?_eq_some_iff.1 hp).2
  have w2 : IntKind.i64.wrap ((k : Nat) + 1 : Int) = (k : Nat) + 1 := l4 _ (by omega) (by omega)
  have hdA : A.drop k = .mk ax al :: A.drop (k + 1) := by rw [List.drop_eq_getElem_cons hkA, ha']
  have hdP : P.drop k = .mk px pl :: P.drop (k + 1) := by rw [List.drop_eq_getElem_cons hkl, hp']
  rw [hdA, hdP] at hz
  unfold a7a at hz
  rw [Tr.kids] at hz
  by_cases h1 : pl.length = 1; rotate_left
  · rw [decide_eq_false h1] at hz
    have hz : false = R := hz
    subst hz
    have h1' : ¬ (pl.length : Int) = 1 := by omega
    repeat (first | refine b9 ?_ | refine b6 ?_ | refine a6 ?_ | refine b5 ?_ | refine e7 rfl ?_ | refine d9 rfl ?_ | ((first | refine b8 (fun K hK => ?_) | refine d3 e9 (fun K hK => ?_) | fail); simp -implicitDefEqProofs [hkl, hkA, ha, ha', hp, hp', h1, h1']; first | refine hK _ ?_ | refine hK _ _ (by rfl) ?_ | fail) | fail)
    refine d6 (d4 ?_); simp -implicitDefEqProofs [f9, f6, f7] <;> try rfl
  obtain ⟨⟨ux, ul⟩, rfl⟩ := o6 h1
  have hps := hP _ (List.mem_of_getElem? hp)
  have hus := Tr.size_at (x := px) (l := [.mk ux ul]) (i := 0) rfl
  have hb := a0h (.mk ux ul) (by omega)
  have hs := a04 (.mk ax al) (hA _ (List.mem_of_getElem? ha)) (u9 (.mk ux ul)) (by rw [a13]; omega)
  rw [show [Tr.mk ux ul].getD 0 z0T = .mk ux ul from rfl, decide_eq_true h1, Bool.true_and] at hz
  obtain ⟨⟨bx, bl⟩, hbb⟩ : ∃ b, u9 (.mk ux ul) = b := ⟨_, rfl⟩
  rw [hbb] at hb hs hz
  obtain ⟨sm, hsm⟩ : ∃ b, same (.mk ax al) (.mk bx bl) = b := ⟨_, rfl⟩
  rw [hsm] at hs hz
  clear hbb hsm hdA hdP
  cases sm with
  | false =>
    have hz : false = R := hz
    subst hz
    repeat' (first | refine b9 ?_ | refine b6 ?_ | refine a6 ?_ | refine b5 ?_ | refine e7 rfl ?_ | refine d9 rfl ?_ | ((first | refine b8 (fun K hK => ?_) | refine d3 e9 (fun K hK => ?_) | refine b7 (cp hb ?_) | refine a8 (dp hb ?_) | refine b7 (cp hs ?_) | refine a8 (dp hs ?_) | fail); simp -implicitDefEqProofs [hkl, hkA, ha, ha', hp, hp', w2]) | refine hK _ ?_ | refine hK _ _ (by rfl) ?_ | fail)
    refine d6 (d4 ?_); simp -implicitDefEqProofs [f9, f6, f7] <;> try rfl
  | true =>
    rw [Bool.true_and] at hz
    repeat' (first | refine b9 ?_ | refine b6 ?_ | refine a6 ?_ | refine b5 ?_ | refine e7 rfl ?_ | refine d9 rfl ?_ | ((first | refine b8 (fun K hK => ?_) | refine d3 e9 (fun K hK => ?_) | refine b7 (cp hb ?_) | refine a8 (dp hb ?_) | refine b7 (cp hs ?_) | refine a8 (dp hs ?_) | fail); simp -implicitDefEqProofs [hkl, hkA, ha, ha', hp, hp', w2]) | refine hK _ ?_ | refine hK _ _ (by rfl) ?_ | fail)
    refine ⟨k + 1, ⟨by omega, hz⟩, (by dsimp only; omega), ?_⟩
    rw [hI]; exact e8 [] (by simp -implicitDefEqProofs) (by simp -implicitDefEqProofs) (by decide) rfl (by simp)
noncomputable def c3b (m : VT) (L : List VT) (x : Lab) (l : List VT) : VT :=
  if x.k = 7 then u9 (L.getD (L.length - 1 - x.n.toNat) z0T)
  else if x.k = 8 then a0u ((m.kids.getD x.n.toNat z0T).kids.getD 0 z0T)
  else if x.k = 9 then u9 ((m.kids.getD x.n.toNat z0T).kids.getD 0 z0T)
  else if x.k = 18 then tyT 1
  else a0u (.mk x l)
theorem b44 (m : VT) (hsz : m.size ≤ 1000000) (L : List VT) (hL : ∀ t ∈ L, t.size ≤ 1000000) (hLl : L.length ≤ 1000000) (x : Lab) (l : List VT) (h7 : x.k = 7 → 0 ≤ x.n ∧ x.n < L.length) (h89 : x.k = 8 ∨ x.k = 9 → 0 ≤ x.n ∧ ∃ dx e, m.kids[x.n.toNat]? = some (.mk dx [e])) : Row Tryz.prog 88 [vT m, vLs L, vT (.mk x l)] [] (vT (c3b m L x l)) [] := by
  obtain ⟨mx, ml⟩ := m
  have hml := Tr.len_size (x := mx) (l := ml)
  have hint := a7p
  have hlit := a3x (.mk x l)
  unfold c3b
  by_cases c7 : x.k = 7
  · rw [if_pos c7]
    obtain ⟨n0, n1⟩ := h7 c7
    obtain ⟨n, hn⟩ : ∃ n : Nat, x.n = n := ⟨x.n.toNat, by omega⟩
    rw [hn, Int.toNat_natCast]
    obtain ⟨j, hj⟩ : ∃ j, L.length - 1 - n = j := ⟨_, rfl⟩
    have hjl : j < L.length := by omega
    obtain ⟨⟨ax, al⟩, ha⟩ : ∃ a, L[j]? = some a := ⟨_, List.getElem?_eq_getElem hjl⟩
    have ha' := (List.getElem?_eq_some_iff.1 ha).2
    rw [hj, show L.getD j z0T = .mk ax al by simp [List.getD, ha]]
    have hb := a0h (.mk ax al) (hL _ (List.mem_of_getElem? ha))
    have w0 : IntKind.i64.wrap ((n : Nat) : Int) = (n : Nat) := l4 _ (by omega) (by omega)
    have w1 : IntKind.i64.wrap ((L.length : Nat) - 1 : Int) = (L.length : Nat) - 1 := l4 _ (by omega) (by omega)
    have w2 : IntKind.i64.wrap ((L.length : Nat) - 1 - (n : Nat) : Int) = (j : Nat) := by rw [l4 _ (by omega) (by omega)]; omega
    obtain ⟨⟨bx, bl⟩, hbb⟩ : ∃ b, u9 (.mk ax al) = b := ⟨_, rfl⟩
    rw [hbb] at hb ⊢
    clear hbb hint hlit
    refine d7 Tryz.func88 rfl rfl (Nat.le_of_ble_eq_true rfl) ?_
    repeat' (first | refine b9 ?_ | refine b6 ?_ | refine a6 ?_ | refine b5 ?_ | refine e7 rfl ?_ | refine d9 rfl ?_ | ((first | refine b8 (fun K hK => ?_) | refine d3 e9 (fun K hK => ?_) | refine b7 (cp hb ?_) | refine a8 (dp hb ?_) | fail); simp -implicitDefEqProofs [c7, hn, hjl, ha, ha', w0, w1, w2]) | refine hK _ ?_ | refine hK _ _ (by rfl) ?_ | fail)
    refine d6 (d4 ?_); simp -implicitDefEqProofs [f9, f6, f7] <;> try rfl
  rw [if_neg c7]
  by_cases c8 : x.k = 8
  · rw [if_pos c8]
    obtain ⟨n0, dx, ⟨ex, el⟩, hd⟩ := h89 (.inl c8)
    rw [Tr.kids] at hd
    obtain ⟨n, hn⟩ : ∃ n : Nat, x.n = n := ⟨x.n.toNat, by omega⟩
    rw [hn, Int.toNat_natCast] at hd ⊢
    have hnl := (List.getElem?_eq_some_iff.1 hd).1
    have hd' := (List.getElem?_eq_some_iff.1 hd).2
    rw [Tr.kids, show ml.getD n z0T = .mk dx [.mk ex el] by simp [List.getD, hd], Tr.kids]
    have hl := a3x (.mk ex el)
    rw [show [Tr.mk ex el].getD 0 z0T = .mk ex el from rfl]
    have w0 : IntKind.i64.wrap ((n : Nat) : Int) = (n : Nat) := l4 _ (by omega) (by omega)
    obtain ⟨⟨bx, bl⟩, hbb⟩ : ∃ b, a0u (.mk ex el) = b := ⟨_, rfl⟩
    rw [hbb] at hl ⊢
    clear hbb hint hlit
    refine d7 Tryz.func88 rfl rfl (Nat.le_of_ble_eq_true rfl) ?_
    repeat' (first | refine b9 ?_ | refine b6 ?_ | refine a6 ?_ | refine b5 ?_ | refine e7 rfl ?_ | refine d9 rfl ?_ | ((first | refine b8 (fun K hK => ?_) | refine d3 e9 (fun K hK => ?_) | refine b7 (cp hl ?_) | refine a8 (dp hl ?_) | fail); simp -implicitDefEqProofs [c8, hn, hnl, hd, hd', w0]) | refine hK _ ?_ | refine hK _ _ (by rfl) ?_ | fail)
    refine d6 (d4 ?_); simp -implicitDefEqProofs [f9, f6, f7] <;> try rfl
  rw [if_neg c8]
  by_cases c9 : x.k = 9
  · rw [if_pos c9]
    obtain ⟨n0, dx, ⟨ex, el⟩, hd⟩ := h89 (.inr c9)
    rw [Tr.kids] at hd
    obtain ⟨n, hn⟩ : ∃ n : Nat, x.n = n := ⟨x.n.toNat, by omega⟩
    rw [hn, Int.toNat_natCast] at hd ⊢
    have hnl := (List.getElem?_eq_some_iff.1 hd).1
    have hd' := (List.getElem?_eq_some_iff.1 hd).2
    have s1 := Tr.size_at (x := mx) hd
    have s2 := Tr.size_at (x := dx) (l := [.mk ex el]) (i := 0) rfl
    rw [Tr.kids, show ml.getD n z0T = .mk dx [.mk ex el] by simp [List.getD, hd], Tr.kids]
    have hl := a0h (.mk ex el) (by omega)
    rw [show [Tr.mk ex el].getD 0 z0T = .mk ex el from rfl]
    have w0 : IntKind.i64.wrap ((n : Nat) : Int) = (n : Nat) := l4 _ (by omega) (by omega)
    obtain ⟨⟨bx, bl⟩, hbb⟩ : ∃ b, u9 (.mk ex el) = b := ⟨_, rfl⟩
    rw [hbb] at hl ⊢
    clear hbb hint hlit
    refine d7 Tryz.func88 rfl rfl (Nat.le_of_ble_eq_true rfl) ?_
    repeat' (first | refine b9 ?_ | refine b6 ?_ | refine a6 ?_ | refine b5 ?_ | refine e7 rfl ?_ | refine d9 rfl ?_ | ((first | refine b8 (fun K hK => ?_) | refine d3 e9 (fun K hK => ?_) | refine b7 (cp hl ?_) | refine a8 (dp hl ?_) | fail); simp -implicitDefEqProofs [c9, hn, hnl, hd, hd', w0]) | refine hK _ ?_ | refine hK _ _ (by rfl) ?_ | fail)
    refine d6 (d4 ?_); simp -implicitDefEqProofs [f9, f6, f7] <;> try rfl
  rw [if_neg c9]
  by_cases c18 : x.k = 18
  · rw [if_pos c18]
    unfold tyT at hint ⊢
    clear hlit
    refine d7 Tryz.func88 rfl rfl (Nat.le_of_ble_eq_true rfl) ?_
    repeat' (first | refine b9 ?_ | refine b6 ?_ | refine a6 ?_ | refine b5 ?_ | refine e7 rfl ?_ | refine d9 rfl ?_ | ((first | refine b8 (fun K hK => ?_) | refine d3 e9 (fun K hK => ?_) | refine b7 (cp hint ?_) | refine a8 (dp hint ?_) | fail); simp -implicitDefEqProofs [c7, c8, c9, c18]) | refine hK _ ?_ | refine hK _ _ (by rfl) ?_ | fail)
    refine d6 (d4 ?_); simp -implicitDefEqProofs [f9, f6, f7] <;> try rfl
  rw [if_neg c18]
  obtain ⟨⟨bx, bl⟩, hbb⟩ : ∃ b, a0u (.mk x l) = b := ⟨_, rfl⟩
  rw [hbb] at hlit ⊢
  clear hbb hint
  refine d7 Tryz.func88 rfl rfl (Nat.le_of_ble_eq_true rfl) ?_
  repeat' (first | refine b9 ?_ | refine b6 ?_ | refine a6 ?_ | refine b5 ?_ | refine e7 rfl ?_ | refine d9 rfl ?_ | ((first | refine b8 (fun K hK => ?_) | refine d3 e9 (fun K hK => ?_) | refine b7 (cp hlit ?_) | refine a8 (dp hlit ?_) | fail); simp -implicitDefEqProofs [c7, c8, c9, c18]) | refine hK _ ?_ | refine hK _ _ (by rfl) ?_ | fail)
  refine d6 (d4 ?_); simp -implicitDefEqProofs [f9, f6, f7] <;> try rfl
end Go.Proofs.YtbbkmijkllgfaaaGreatDoor.am
end
