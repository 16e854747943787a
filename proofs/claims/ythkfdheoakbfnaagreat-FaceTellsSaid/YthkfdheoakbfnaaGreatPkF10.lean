import Derived.Test.YthkfdheoakbfnaaGreatPkF9
set_option maxRecDepth 100000
set_option maxHeartbeats 4000000
section
namespace Go.Proofs.YthkfdheoakbfnaaGreat.am
open Go.ChangeShapes Go.WideShapes Go.ChangeAt Go.RowKit
open vt
set_option linter.unusedVariables false
set_option linter.unusedSimpArgs false
theorem b9c (ml : List VT) (x : Lab) (L : List ByteArray) : ∀ (l : List VT) (i : Nat) (kn : List ByteArray) (acc : List VT), (a46 ml x L i l kn acc).er ≠ 0 → (a46 ml x L i l kn acc).t = z0T
  | [], i, kn, acc, h => absurd rfl h
  | y :: r, i, kn, acc, h => by
    unfold a46 at h ⊢
    split
    · rfl
    · rename_i c; rw [if_neg c] at h; exact b9c ml x L r _ _ _ h
theorem a5t (ml : List VT) (t : VT) (L : List ByteArray) (h : (u4 ml t L).er ≠ 0) : (u4 ml t L).t = z0T := by
  obtain ⟨x, l⟩ := t
  rw [a2w] at h ⊢
  split
  · rename_i c
    rw [if_pos c] at h
    unfold b5w at h ⊢
    split
    · rename_i n e; rw [e] at h; exact absurd rfl h
    · rename_i e
      rw [e] at h
      dsimp only at h
      split
      · rename_i k1; rw [if_pos k1] at h; exact absurd rfl h
      · rename_i k1
        rw [if_neg k1] at h
        split
        · rename_i k2; rw [if_pos k2] at h; exact absurd rfl h
        · rfl
  · rename_i c
    rw [if_neg c] at h
    split
    · rfl
    · rename_i d; rw [if_neg d] at h; exact b9c ml x L _ _ _ _ h
theorem b4q {x : Lab} {l : List VT} {y : VT} (h : y ∈ l) : l.length + y.size ≤ Tr.size (Tr.mk x l) := by
  rw [Tr.size_mk]
  induction l with
  | nil => cases h
  | cons z l ih =>
    have hz := Tr.size_pos z
    have hl : l.length ≤ (l.map Tr.size).sum := by
      clear ih h
      induction l with
      | nil => simp
      | cons u l ih => have := Tr.size_pos u; simp; omega
    rcases List.mem_cons.1 h with rfl | h
    · simp; omega
    · have := ih h
      simp at this ⊢; omega
abbrev obS (o : Lab) (l : List (List PV)) : AO := .box [.pv (I o.k), .pv (I o.n), .pv (Sx o.s), .row 4 6 l, .pv (I o.f), .pv (I o.t)]
theorem a2m (mx : Lab) (ml : List VT) (hml : ml.length ≤ 100000) (t : VT) : ∀ L : List ByteArray, L.length + t.size ≤ 100000 → Row Tryz.prog 43 [vT (.mk mx ml), b91 L, vT t] [] (vSg (u4 ml t L)) [] := by
  induction t using Tr.ind with
  | h x l ih =>
  intro L hsz
  have hlen := Tr.len_size (x := x) (l := l)
  rw [a2w]
  by_cases k19 : x.k = 19
  · rw [if_pos k19]
    have hn := b5f mx ml hml L (by omega) x l
    generalize b5w ml L x = g at hn ⊢
    obtain ⟨⟨gx, gl⟩, gp, ge⟩ := g
    refine f6 Tryz.func43 rfl rfl (Nat.le_of_ble_eq_true rfl) ?_
    repeat' (first | refine d4 ?_ | refine b8 ?_ | refine b7 ?_ | refine b9 ?_ | refine f5 rfl ?_ | refine d8 rfl ?_ | ((first | refine c5 (fun K hK => ?_) | refine d5 f8 (fun K hK => ?_) | refine a9 (cp hn ?_) | refine a8 (dp hn ?_) | fail); simp -implicitDefEqProofs [k19]) | refine hK _ ?_ | refine hK _ _ (by rfl) ?_ | fail)
    refine d7 (d6 ?_); simp -implicitDefEqProofs [g8, f9, g7] <;> try rfl
  rw [if_neg k19]
  have hkd := a93 mx ml hml x.s
  have hdc := a2l mx ml hml x.s
  have hbd := b3s x l 8
  have hdw : IntKind.i64.wrap (a1j ml x.s) = a1j ml x.s := by
    unfold a1j
    split
    · rename_i i hi; have := a3q hi; exact k9 _ (by omega) (by omega)
    · exact k9 _ (by omega) (by omega)
  have oK : (b5x ml x).k = x.k := rfl
  have oF : (b5x ml x).f = x.f := rfl
  have oT : (b5x ml x).t = x.t := rfl
  have oS : (b5x ml x).s = if x.k = 13 ∨ x.k = 17 then x.s else ⟨#[]⟩ := rfl
  have oN : (b5x ml x).n = if x.k = 16 ∨ x.k = 15 ∨ x.k = 4 then a1j ml x.s else x.n := rfl
  have hW : b5y ml x = ((decide (x.k = 16) && !decide (b1i ml x.s = 33)) || ((decide (x.k = 15) || decide (x.k = 4)) && !decide (b1i ml x.s = 30))) := rfl
  obtain ⟨o, ho⟩ : ∃ o, b5x ml x = o := ⟨_, rfl⟩
  obtain ⟨R, hR⟩ : ∃ R, (if b5y ml x = true then b5s x 8 else a46 ml x L 0 l L []) = R := ⟨_, rfl⟩
  rw [hR]
  have hR1 : b5y ml x = true → R = b5s x 8 := fun h => by rw [← hR, if_pos h]
  have hR2 : b5y ml x = false → a46 ml x L 0 l L [] = R := fun h => by rw [← hR, h]; simp
  clear hR
  rw [ho] at oK oF oT oS oN
  generalize a1j ml x.s = di at hdc hdw oN
  generalize b1i ml x.s = kk at hkd hW
  refine f6 Tryz.func43 rfl rfl (Nat.le_of_ble_eq_true rfl) ?_
  refine d4 ?_; (first | refine c5 (fun K hK => ?_) | refine d5 f8 (fun K hK => ?_) | fail); simp -implicitDefEqProofs; repeat' (first | refine hK _ ?_ | refine hK _ _ (by rfl) ?_ | ((first | fail); simp -implicitDefEqProofs) | fail)
  refine d4 ?_
  refine d4 ?_; (first | refine c5 (fun K hK => ?_) | refine d5 f8 (fun K hK => ?_) | fail); simp -implicitDefEqProofs [k19]; repeat' (first | refine hK _ ?_ | refine hK _ _ (by rfl) ?_ | ((first | fail); simp -implicitDefEqProofs [k19]) | fail)
  refine d8 rfl ?_
  refine b8 ?_
  refine d4 ?_; (first | refine c5 (fun K hK => ?_) | refine d5 f8 (fun K hK => ?_) | fail); simp -implicitDefEqProofs; repeat' (first | refine hK _ ?_ | refine hK _ _ (by rfl) ?_ | ((first | fail); simp -implicitDefEqProofs) | fail)
  refine a35 (ι := Unit) (fun _ => s7 [(1, b91 L), (3, .v (.c (.ptr 0 0))), (5, .v (.c (.ptr 1 0))), (6, .v (.c (.ptr 2 0))), (7, .v (.c (.ptr 3 0)))] [some (.box (ta (.mk mx ml))), some (.box (ta (.mk x l))), some zGb, some (obS ⟨x.k, x.n, o.s, x.f, x.t⟩ []), some (.row 25 6)]) (fun _ => True) (fun Z hI => ?_) (fun _ _ => ?_)
  · by_cases k13 : x.k = 13
    · rw [if_pos (.inl k13)] at oS
      repeat (first | refine d4 ?_ | refine b8 ?_ | refine b7 ?_ | refine b9 ?_ | refine f5 rfl ?_ | refine d8 rfl ?_ | ((first | refine c5 (fun K hK => ?_) | refine d5 f8 (fun K hK => ?_) | fail); simp -implicitDefEqProofs [k13]; first | refine hK _ ?_ | refine hK _ _ (by rfl) ?_ | fail) | fail)
      refine ⟨(), (by trivial), ?_⟩; rw [hI]; exact f7 [0, 1, 2, 16, 10] (by simp -implicitDefEqProofs [k13, oS]) (by simp -implicitDefEqProofs [k13, oS]) (by decide) rfl (by simp)
    by_cases k17 : x.k = 17
    · rw [if_pos (.inr k17)] at oS
      repeat (first | refine d4 ?_ | refine b8 ?_ | refine b7 ?_ | refine b9 ?_ | refine f5 rfl ?_ | refine d8 rfl ?_ | ((first | refine c5 (fun K hK => ?_) | refine d5 f8 (fun K hK => ?_) | fail); simp -implicitDefEqProofs [k13, k17]; first | refine hK _ ?_ | refine hK _ _ (by rfl) ?_ | fail) | fail)
      refine ⟨(), (by trivial), ?_⟩; rw [hI]; exact f7 [0, 1, 2, 16, 10] (by simp -implicitDefEqProofs [k17, oS]) (by simp -implicitDefEqProofs [k17, oS]) (by decide) rfl (by simp)
    · rw [if_neg (by omega)] at oS
      repeat (first | refine d4 ?_ | refine b8 ?_ | refine b7 ?_ | refine b9 ?_ | refine f5 rfl ?_ | refine d8 rfl ?_ | ((first | refine c5 (fun K hK => ?_) | refine d5 f8 (fun K hK => ?_) | fail); simp -implicitDefEqProofs [k13, k17]; first | refine hK _ ?_ | refine hK _ _ (by rfl) ?_ | fail) | fail)
      refine ⟨(), (by trivial), ?_⟩; rw [hI]; exact f7 [0, 1, 2, 16, 10] (by simp -implicitDefEqProofs [oS]) (by simp -implicitDefEqProofs [oS]) (by decide) rfl (by simp)
  refine a35 (ι := Unit) (fun _ => s7 [(1, b91 L), (3, .v (.c (.ptr 0 0))), (5, .v (.c (.ptr 1 0))), (6, .v (.c (.ptr 2 0))), (7, .v (.c (.ptr 3 0)))] [some (.box (ta (.mk mx ml))), some (.box (ta (.mk x l))), some zGb, some (obS ⟨x.k, x.n, o.s, x.f, x.t⟩ []), some (.row 25 6)]) (fun _ => b5y ml x = false) (fun Z hI => ?_) (fun _ hwf => ?_)
  · by_cases k16 : x.k = 16
    · by_cases c : kk = 33
      · have hf : b5y ml x = false := by rw [hW]; simp [k16, c]
        subst c
        repeat' (first | refine d4 ?_ | refine b8 ?_ | refine b7 ?_ | refine b9 ?_ | refine f5 rfl ?_ | refine d8 rfl ?_ | ((first | refine c5 (fun K hK => ?_) | refine d5 f8 (fun K hK => ?_) | refine a9 (cp hkd ?_) | refine a8 (dp hkd ?_) | fail); simp -implicitDefEqProofs [k16]) | refine hK _ ?_ | refine hK _ _ (by rfl) ?_ | fail)
        refine ⟨(), hf, ?_⟩
        rw [hI]; exact f7 [0, 1, 2, 3, 4] (by simp -implicitDefEqProofs [k16]) (by simp -implicitDefEqProofs [k16]) (by decide) rfl (by simp)
      · have hR := hR1 (by rw [hW]; simp [k16, c])
        subst hR
        unfold b5s at hbd ⊢
        repeat' (first | refine d4 ?_ | refine b8 ?_ | refine b7 ?_ | refine b9 ?_ | refine f5 rfl ?_ | refine d8 rfl ?_ | ((first | refine c5 (fun K hK => ?_) | refine d5 f8 (fun K hK => ?_) | refine a9 (cp hkd ?_) | refine a8 (dp hkd ?_) | refine a9 (cp hbd ?_) | refine a8 (dp hbd ?_) | fail); simp -implicitDefEqProofs [k16, c]) | refine hK _ ?_ | refine hK _ _ (by rfl) ?_ | fail)
        refine d7 (d6 ?_); simp -implicitDefEqProofs [g8, f9, g7] <;> try rfl
    by_cases k15 : x.k = 15
    · by_cases c : kk = 30
      · have hf : b5y ml x = false := by rw [hW]; simp [k15, c]
        subst c
        repeat' (first | refine d4 ?_ | refine b8 ?_ | refine b7 ?_ | refine b9 ?_ | refine f5 rfl ?_ | refine d8 rfl ?_ | ((first | refine c5 (fun K hK => ?_) | refine d5 f8 (fun K hK => ?_) | refine a9 (cp hkd ?_) | refine a8 (dp hkd ?_) | fail); simp -implicitDefEqProofs [k15]) | refine hK _ ?_ | refine hK _ _ (by rfl) ?_ | fail)
        refine ⟨(), hf, ?_⟩
        rw [hI]; exact f7 [0, 1, 2, 3, 4] (by simp -implicitDefEqProofs [k15]) (by simp -implicitDefEqProofs [k15]) (by decide) rfl (by simp)
      · have hR := hR1 (by rw [hW]; simp [k15, c])
        subst hR
        unfold b5s at hbd ⊢
        repeat' (first | refine d4 ?_ | refine b8 ?_ | refine b7 ?_ | refine b9 ?_ | refine f5 rfl ?_ | refine d8 rfl ?_ | ((first | refine c5 (fun K hK => ?_) | refine d5 f8 (fun K hK => ?_) | refine a9 (cp hkd ?_) | refine a8 (dp hkd ?_) | refine a9 (cp hbd ?_) | refine a8 (dp hbd ?_) | fail); simp -implicitDefEqProofs [k15, c]) | refine hK _ ?_ | refine hK _ _ (by rfl) ?_ | fail)
        refine d7 (d6 ?_); simp -implicitDefEqProofs [g8, f9, g7] <;> try rfl
    by_cases k4 : x.k = 4
    · by_cases c : kk = 30
      · have hf : b5y ml x = false := by rw [hW]; simp [k4, c]
        subst c
        repeat' (first | refine d4 ?_ | refine b8 ?_ | refine b7 ?_ | refine b9 ?_ | refine f5 rfl ?_ | refine d8 rfl ?_ | ((first | refine c5 (fun K hK => ?_) | refine d5 f8 (fun K hK => ?_) | refine a9 (cp hkd ?_) | refine a8 (dp hkd ?_) | fail); simp -implicitDefEqProofs [k4]) | refine hK _ ?_ | refine hK _ _ (by rfl) ?_ | fail)
        refine ⟨(), hf, ?_⟩
        rw [hI]; exact f7 [0, 1, 2, 3, 4] (by simp -implicitDefEqProofs [k4]) (by simp -implicitDefEqProofs [k4]) (by decide) rfl (by simp)
      · have hR := hR1 (by rw [hW]; simp [k4, c])
        subst hR
        unfold b5s at hbd ⊢
        repeat' (first | refine d4 ?_ | refine b8 ?_ | refine b7 ?_ | refine b9 ?_ | refine f5 rfl ?_ | refine d8 rfl ?_ | ((first | refine c5 (fun K hK => ?_) | refine d5 f8 (fun K hK => ?_) | refine a9 (cp hkd ?_) | refine a8 (dp hkd ?_) | refine a9 (cp hbd ?_) | refine a8 (dp hbd ?_) | fail); simp -implicitDefEqProofs [k4, c]) | refine hK _ ?_ | refine hK _ _ (by rfl) ?_ | fail)
        refine d7 (d6 ?_); simp -implicitDefEqProofs [g8, f9, g7] <;> try rfl
    · have hf : b5y ml x = false := by rw [hW]; simp [k16, k15, k4]
      repeat' (first | refine d4 ?_ | refine b8 ?_ | refine b7 ?_ | refine b9 ?_ | refine f5 rfl ?_ | refine d8 rfl ?_ | ((first | refine c5 (fun K hK => ?_) | refine d5 f8 (fun K hK => ?_) | refine a9 (cp hkd ?_) | refine a8 (dp hkd ?_) | fail); simp -implicitDefEqProofs [k16, k15, k4]) | refine hK _ ?_ | refine hK _ _ (by rfl) ?_ | fail)
      refine ⟨(), hf, ?_⟩
      rw [hI]; exact f7 [0, 1, 2, 3, 4] (by simp -implicitDefEqProofs) (by simp -implicitDefEqProofs) (by decide) rfl (by simp)
  have hR := hR2 hwf
  clear hR1 hR2 hW hwf hkd hbd
  refine a35 (ι := Unit) (fun _ => s7 [(1, b91 L), (3, .v (.c (.ptr 0 0))), (5, .v (.c (.ptr 1 0))), (6, .v (.c (.ptr 2 0))), (7, .v (.c (.ptr 3 0)))] [some (.box (ta (.mk mx ml))), some (.box (ta (.mk x l))), some zGb, some (obS o []), some (.row 25 6)]) (fun _ => True) (fun Z hI => ?_) (fun _ _ => ?_)
  · by_cases k16 : x.k = 16
    · rw [if_pos (.inl k16)] at oN
      repeat' (first | refine d4 ?_ | refine b8 ?_ | refine b7 ?_ | refine b9 ?_ | refine f5 rfl ?_ | refine d8 rfl ?_ | ((first | refine c5 (fun K hK => ?_) | refine d5 f8 (fun K hK => ?_) | refine a9 (cp hdc ?_) | refine a8 (dp hdc ?_) | fail); simp -implicitDefEqProofs [k16, hdw]) | refine hK _ ?_ | refine hK _ _ (by rfl) ?_ | fail)
      refine ⟨(), (by trivial), ?_⟩
      rw [hI]; exact f7 [0, 1, 2, 3, 4] (by simp -implicitDefEqProofs [oK, oF, oT, oN, k16]) (by simp -implicitDefEqProofs [oK, oF, oT, oN, k16]) (by decide) rfl (by simp)
    by_cases k15 : x.k = 15
    · rw [if_pos (.inr (.inl k15))] at oN
      repeat' (first | refine d4 ?_ | refine b8 ?_ | refine b7 ?_ | refine b9 ?_ | refine f5 rfl ?_ | refine d8 rfl ?_ | ((first | refine c5 (fun K hK => ?_) | refine d5 f8 (fun K hK => ?_) | refine a9 (cp hdc ?_) | refine a8 (dp hdc ?_) | fail); simp -implicitDefEqProofs [k15, hdw]) | refine hK _ ?_ | refine hK _ _ (by rfl) ?_ | fail)
      refine ⟨(), (by trivial), ?_⟩
      rw [hI]; exact f7 [0, 1, 2, 3, 4] (by simp -implicitDefEqProofs [oK, oF, oT, oN, k15]) (by simp -implicitDefEqProofs [oK, oF, oT, oN, k15]) (by decide) rfl (by simp)
    by_cases k4 : x.k = 4
    · rw [if_pos (.inr (.inr k4))] at oN
      repeat' (first | refine d4 ?_ | refine b8 ?_ | refine b7 ?_ | refine b9 ?_ | refine f5 rfl ?_ | refine d8 rfl ?_ | ((first | refine c5 (fun K hK => ?_) | refine d5 f8 (fun K hK => ?_) | refine a9 (cp hdc ?_) | refine a8 (dp hdc ?_) | fail); simp -implicitDefEqProofs [k4, hdw]) | refine hK _ ?_ | refine hK _ _ (by rfl) ?_ | fail)
      refine ⟨(), (by trivial), ?_⟩
      rw [hI]; exact f7 [0, 1, 2, 3, 4] (by simp -implicitDefEqProofs [oK, oF, oT, oN, k4]) (by simp -implicitDefEqProofs [oK, oF, oT, oN, k4]) (by decide) rfl (by simp)
    · rw [if_neg (by omega)] at oN
      repeat' (first | refine d4 ?_ | refine b8 ?_ | refine b7 ?_ | refine b9 ?_ | refine f5 rfl ?_ | refine d8 rfl ?_ | ((first | refine c5 (fun K hK => ?_) | refine d5 f8 (fun K hK => ?_) | refine a9 (cp hdc ?_) | refine a8 (dp hdc ?_) | fail); simp -implicitDefEqProofs [k16, k15, k4]) | refine hK _ ?_ | refine hK _ _ (by rfl) ?_ | fail)
      refine ⟨(), (by trivial), ?_⟩
      rw [hI]; exact f7 [0, 1, 2, 3, 4] (by simp -implicitDefEqProofs [oK, oF, oT, oN]) (by simp -implicitDefEqProofs [oK, oF, oT, oN]) (by decide) rfl (by simp)
  clear hdc hdw oS oN oF oT
  repeat (first | refine d4 ?_ | refine b8 ?_ | refine b7 ?_ | refine b9 ?_ | refine f5 rfl ?_ | refine d8 rfl ?_ | ((first | refine c5 (fun K hK => ?_) | refine d5 f8 (fun K hK => ?_) | fail); simp -implicitDefEqProofs; first | refine hK _ ?_ | refine hK _ _ (by rfl) ?_ | fail) | fail)
  refine l7 (ι := Nat × List ByteArray × List VT) (fun z => s7 [(1, b91 L), (3, .v (.c (.ptr 0 0))), (5, .v (.c (.ptr 1 0))), (6, .v (.c (.ptr 2 0))), (7, .v (.c (.ptr 3 0))), (8, b91 z.2.1), (9, vI (z.1 : Nat))] [some (.box (ta (.mk mx ml))), some (.box (ta (.mk x l))), some zGb, some (.box [.pv (I o.k), .pv (I o.n), .pv (Sx o.s), .row 4 6 (z.2.2.map tc), .pv (I o.f), .pv (I o.t)]), some (.row 25 6)]) (fun z => z.1 ≤ l.length ∧ a46 ml x L z.1 (l.drop z.1) z.2.1 z.2.2 = R ∧ z.2.2.length = z.1 ∧ z.2.1.length ≤ L.length + z.1 + 1) (fun z => l.length - z.1) (0, L, []) ⟨Nat.zero_le _, hR, rfl, by dsimp only; omega⟩ (f7 [0, 1, 2, 3, 4] (by simp -implicitDefEqProofs) (by simp -implicitDefEqProofs) (by decide) rfl (by simp)) (fun Z hI z hz => ?_)
  obtain ⟨k, kn, acc⟩ := z
  obtain ⟨hk, hRk, hacc, hkn⟩ := hz
  dsimp only at hk hRk hacc hkn ⊢
  by_cases hkl : k < l.length; rotate_left
  · have : k = l.length := by omega
    subst this
    rw [List.drop_length] at hRk
    unfold a46 at hRk
    rw [ho] at hRk
    subst hRk
    repeat (first | refine d4 ?_ | refine b8 ?_ | refine b7 ?_ | refine b9 ?_ | refine f5 rfl ?_ | refine d8 rfl ?_ | ((first | refine c5 (fun K hK => ?_) | refine d5 f8 (fun K hK => ?_) | fail); simp -implicitDefEqProofs; first | refine hK _ ?_ | refine hK _ _ (by rfl) ?_ | fail) | fail)
    refine d7 (d6 ?_); simp -implicitDefEqProofs [g8, f9, g7] <;> try rfl
  obtain ⟨⟨ax, al⟩, ha⟩ : ∃ a, l[k]? = some a := ⟨_, List.getElem?_eq_getElem hkl⟩
  have ha' := (List.getElem?_eq_some_iff.1 ha).2
  have hs2 := b4q (x := x) (List.mem_of_getElem? ha)
  have w2 : IntKind.i64.wrap ((k : Nat) + 1 : Int) = (k : Nat) + 1 := k9 _ (by omega) (by omega)
  rw [List.drop_eq_getElem_cons hkl, ha'] at hRk
  unfold a46 at hRk
  obtain ⟨kn', hkn'⟩ : ∃ q, a5b x L k kn = q := ⟨_, rfl⟩
  rw [hkn'] at hRk
  have hknl : kn'.length ≤ L.length + k + 1 := by
    rw [← hkn']; unfold a5b
    split
    · rw [List.length_append, List.length_singleton]; omega
    · exact hkn
  have hc := ih _ (List.mem_of_getElem? ha) kn' (by omega)
  have hz0 := a5t ml (.mk ax al) kn'
  have hplz := any_pl ml (.mk ax al) kn'
  generalize u4 ml (.mk ax al) kn' = g at hc hz0 hplz hRk
  obtain ⟨⟨gx, gl⟩, gp, ge⟩ := g
  dsimp only at hz0 hplz hRk
  have b1 : (k + 1) * 72 ≤ 140737488355328 := by omega
  have b2 : k + 1 ≤ 140737488355328 := by omega
  have b3 : (L.length + 1) * 16 ≤ 140737488355328 := by omega
  have b4 : L.length + 1 ≤ 140737488355328 := by omega
  have b5 : L.length * 16 ≤ 140737488355328 := by omega
  have b6 : L.length ≤ 140737488355328 := by omega
  have hmr := b9f kn' (by omega) ax al
  have hml2 : (b1l kn' (.mk ax al)).length ≤ kn'.length + 1 := by unfold b1l; split <;> simp
  have hkq : x.k ≠ 25 → kn' = kn := fun h => by rw [← hkn']; unfold a5b; rw [if_neg (fun c => h c.1)]
  have hkq2 : x.k = 25 → k ≠ 2 → kn' = kn := fun _ h => by rw [← hkn']; unfold a5b; rw [if_neg (fun c => h c.2)]
  have hkq3 : x.k = 25 → k = 2 → kn' = L ++ [x.s] := fun h1 h2 => by rw [← hkn']; unfold a5b; rw [if_pos ⟨h1, h2⟩]
  clear hkn' ih
  by_cases hge : ge = 0
  · subst hge
    have hpz := hplz rfl
    subst hpz
    rw [if_neg (by simp)] at hRk
    clear hz0 hplz
    by_cases k29 : x.k = 29
    · have hkk := hkq (by omega)
      subst hkk
      unfold knxS at hRk
      rw [if_pos k29] at hRk
      repeat' (first | refine d4 ?_ | refine b8 ?_ | refine b7 ?_ | refine b9 ?_ | refine f5 rfl ?_ | refine d8 rfl ?_ | ((first | refine c5 (fun K hK => ?_) | refine d5 f8 (fun K hK => ?_) | refine a9 (cp hc ?_) | refine a8 (dp hc ?_) | refine a9 (cp hmr ?_) | refine a8 (dp hmr ?_) | fail); simp -implicitDefEqProofs [hkl, ha, ha', k29, hacc, b1, b2, w2]) | refine hK _ ?_ | refine hK _ _ (by rfl) ?_ | fail)
      refine ⟨(k + 1, b1l kn' (.mk ax al), acc ++ [.mk gx gl]), ⟨hkl, hRk, by simp [hacc], by dsimp only; omega⟩, (by dsimp only; omega), ?_⟩
      rw [hI]; exact f7 [0, 1, 2, 3, 103] (by simp -implicitDefEqProofs [k29]) (by simp -implicitDefEqProofs [k29]) (by decide) rfl (by simp)
    unfold knxS at hRk
    rw [if_neg k29] at hRk
    clear hmr hml2
    by_cases k25 : x.k = 25
    · by_cases k2 : k = 2
      · have hkk := hkq3 k25 k2
        subst hkk
        have k2' : ((k : Int) = 2) = True := eq_true (by omega)
        clear hkq hkq2 hkq3
        repeat' (first | refine d4 ?_ | refine b8 ?_ | refine b7 ?_ | refine b9 ?_ | refine f5 rfl ?_ | refine d8 rfl ?_ | ((first | refine c5 (fun K hK => ?_) | refine d5 f8 (fun K hK => ?_) | refine a9 (cp hc ?_) | refine a8 (dp hc ?_) | fail); simp -implicitDefEqProofs [hkl, ha, ha', k25, k2', hacc, b1, b2, b3, b4, b5, b6, w2]) | refine hK _ ?_ | refine hK _ _ (by rfl) ?_ | fail)
        refine ⟨(k + 1, L ++ [x.s], acc ++ [.mk gx gl]), ⟨hkl, hRk, by simp [hacc], by dsimp only; omega⟩, (by dsimp only; omega), ?_⟩
        rw [hI]; exact f7 [0, 1, 2, 3, 169] (by simp -implicitDefEqProofs [k25]) (by simp -implicitDefEqProofs [k25]) (by decide) rfl (by simp)
      · have hkk := hkq2 k25 k2
        subst hkk
        have k2' : ¬ (k : Int) = 2 := by omega
        clear hkq hkq2 hkq3
        repeat' (first | refine d4 ?_ | refine b8 ?_ | refine b7 ?_ | refine b9 ?_ | refine f5 rfl ?_ | refine d8 rfl ?_ | ((first | refine c5 (fun K hK => ?_) | refine d5 f8 (fun K hK => ?_) | refine a9 (cp hc ?_) | refine a8 (dp hc ?_) | fail); simp -implicitDefEqProofs [hkl, ha, ha', k25, k2', hacc, b1, b2, w2]) | refine hK _ ?_ | refine hK _ _ (by rfl) ?_ | fail)
        refine ⟨(k + 1, kn', acc ++ [.mk gx gl]), ⟨hkl, hRk, by simp [hacc], by dsimp only; omega⟩, (by dsimp only; omega), ?_⟩
        rw [hI]; exact f7 [0, 1, 2, 3, 105] (by simp -implicitDefEqProofs [k25]) (by simp -implicitDefEqProofs [k25]) (by decide) rfl (by simp)
    · have hkk := hkq k25
      subst hkk
      clear hkq hkq2 hkq3
      repeat' (first | refine d4 ?_ | refine b8 ?_ | refine b7 ?_ | refine b9 ?_ | refine f5 rfl ?_ | refine d8 rfl ?_ | ((first | refine c5 (fun K hK => ?_) | refine d5 f8 (fun K hK => ?_) | refine a9 (cp hc ?_) | refine a8 (dp hc ?_) | fail); simp -implicitDefEqProofs [hkl, ha, ha', k25, k29, hacc, b1, b2, w2]) | refine hK _ ?_ | refine hK _ _ (by rfl) ?_ | fail)
      refine ⟨(k + 1, kn', acc ++ [.mk gx gl]), ⟨hkl, hRk, by simp [hacc], by dsimp only; omega⟩, (by dsimp only; omega), ?_⟩
      rw [hI]; exact f7 [0, 1, 2, 3, 103] (by simp -implicitDefEqProofs) (by simp -implicitDefEqProofs) (by decide) rfl (by simp)
  · have hz := hz0 hge
    obtain ⟨rfl, rfl⟩ := (Tr.mk.injEq _ _ _ _).mp hz
    rw [if_pos hge] at hRk
    subst hRk
    clear hmr hml2 hz0 hplz hz
    by_cases k25 : x.k = 25
    · by_cases k2 : k = 2
      · have hkk := hkq3 k25 k2
        subst hkk
        have k2' : ((k : Int) = 2) = True := eq_true (by omega)
        clear hkq hkq2 hkq3
        repeat' (first | refine d4 ?_ | refine b8 ?_ | refine b7 ?_ | refine b9 ?_ | refine f5 rfl ?_ | refine d8 rfl ?_ | ((first | refine c5 (fun K hK => ?_) | refine d5 f8 (fun K hK => ?_) | refine a9 (cp hc ?_) | refine a8 (dp hc ?_) | fail); simp -implicitDefEqProofs [hkl, ha, ha', k25, k2', hge, b3, b4, b5, b6]) | refine hK _ ?_ | refine hK _ _ (by rfl) ?_ | fail)
        refine d7 (d6 ?_); simp -implicitDefEqProofs [g8, f9, g7] <;> try rfl
      · have hkk := hkq2 k25 k2
        subst hkk
        have k2' : ¬ (k : Int) = 2 := by omega
        clear hkq hkq2 hkq3
        repeat' (first | refine d4 ?_ | refine b8 ?_ | refine b7 ?_ | refine b9 ?_ | refine f5 rfl ?_ | refine d8 rfl ?_ | ((first | refine c5 (fun K hK => ?_) | refine d5 f8 (fun K hK => ?_) | refine a9 (cp hc ?_) | refine a8 (dp hc ?_) | fail); simp -implicitDefEqProofs [hkl, ha, ha', k25, k2', hge]) | refine hK _ ?_ | refine hK _ _ (by rfl) ?_ | fail)
        refine d7 (d6 ?_); simp -implicitDefEqProofs [g8, f9, g7] <;> try rfl
    · have hkk := hkq k25
      subst hkk
      clear hkq hkq2 hkq3
      repeat' (first | refine d4 ?_ | refine b8 ?_ | refine b7 ?_ | refine b9 ?_ | refine f5 rfl ?_ | refine d8 rfl ?_ | ((first | refine c5 (fun K hK => ?_) | refine d5 f8 (fun K hK => ?_) | refine a9 (cp hc ?_) | refine a8 (dp hc ?_) | fail); simp -implicitDefEqProofs [hkl, ha, ha', k25, hge]) | refine hK _ ?_ | refine hK _ _ (by rfl) ?_ | fail)
      refine d7 (d6 ?_); simp -implicitDefEqProofs [g8, f9, g7] <;> try rfl
noncomputable abbrev vPr (l : List VT) (p e : Int) : AV := .tup [.c (.pv (.sl 6 (l.map tc))), .c (.pv (I p)), .c (.pv (I e))]
theorem b3j (ml : List VT) (keep : Bool) : ∀ (l r : List VT) (seen : List ByteArray), (s8 ml keep seen l).2.2 ≠ 0 → (s8 ml keep seen (l ++ r)).2 = (s8 ml keep seen l).2
  | [], r, seen, h => absurd rfl h
  | y :: l, r, seen, h => by
    have ih := b3j ml keep l r (seen ++ [y.lab.s])
    rw [List.cons_append]
    unfold s8 at h ⊢
    by_cases c : a3u seen y.lab.s = true
    · rw [if_pos c, if_pos c]
    rw [if_neg c] at h
    rw [if_neg c, if_neg c]
    by_cases d : (u4 ml y []).er = 0
    · have hd : ¬ (u4 ml y []).er ≠ 0 := by simpa using d
      simp only [if_neg hd] at h ⊢
      by_cases e : (s8 ml keep (seen ++ [y.lab.s]) l).2.2 = 0
      · rw [if_neg (by simpa using e)] at h; exact absurd rfl h
      · have := ih e
        have he : (s8 ml keep (seen ++ [y.lab.s]) l).2.2 ≠ 0 := e
        rw [this]
        simp only [if_pos he]
    · have hd : (u4 ml y []).er ≠ 0 := d
      simp only [if_pos hd]
theorem b8k (ml : List VT) (keep : Bool) (l : List VT) : ∃ j, j ≤ l.length ∧ (∀ k, k ≤ j → (s8 ml keep [] (l.take k)).2.2 = 0) ∧ (j < l.length → (s8 ml keep [] (l.take (j + 1))).2.2 ≠ 0 ∧ (s8 ml keep [] l).2 = (s8 ml keep [] (l.take (j + 1))).2) := by
  have key : ∀ n, n ≤ l.length → (∀ k, k ≤ n → (s8 ml keep [] (l.take k)).2.2 = 0) ∨ ∃ j, j < n ∧ (∀ k, k ≤ j → (s8 ml keep [] (l.take k)).2.2 = 0) ∧ (s8 ml keep [] (l.take (j + 1))).2.2 ≠ 0 := by
    intro n
    induction n with
    | zero => intro _; exact .inl (fun k hk => by have : k = 0 := by omega
                                                  subst this; rfl)
    | succ n ih =>
      intro hn
      rcases ih (by omega) with h | ⟨j, h1, h2, h3⟩
      · by_cases c : (s8 ml keep [] (l.take (n + 1))).2.2 = 0
        · refine .inl (fun k hk => ?_)
          by_cases hk' : k = n + 1
          · subst hk'; exact c
          · exact h k (by omega)
        · exact .inr ⟨n, by omega, h, c⟩
      · exact .inr ⟨j, by omega, h2, h3⟩
  rcases key l.length (Nat.le_refl _) with h | ⟨j, h1, h2, h3⟩
  · exact ⟨l.length, Nat.le_refl _, h, fun h' => by omega⟩
  · refine ⟨j, by omega, h2, fun _ => ⟨h3, ?_⟩⟩
    have := b3j ml keep (l.take (j + 1)) (l.drop (j + 1)) [] h3
    rw [List.take_append_drop] at this
    exact this
theorem c6p (ml : List VT) (keep : Bool) : ∀ (l : List VT) (seen : List ByteArray), (s8 ml keep seen l).2.2 = 0 → (s8 ml keep seen l).2.1 = 0
  | [], seen, _ => rfl
  | y :: l, seen, h => by
    unfold s8 at h ⊢
    split
    · rename_i c; rw [if_pos c] at h; exact absurd (show (9 : Int) = 0 from h) (by decide)
    rename_i c; rw [if_neg c] at h
    split
    · rename_i d; rw [if_pos d] at h; exact absurd h d
    rename_i d; rw [if_neg d] at h
    split
    · rename_i e; rw [if_pos e] at h; exact absurd h e
    · rfl
theorem b8m (ml : List VT) (keep : Bool) : ∀ (l : List VT) (seen : List ByteArray), (s8 ml keep seen l).2.2 = 0 → (s8 ml keep seen l).1.length = l.length
  | [], seen, _ => rfl
  | y :: l, seen, h => by
    unfold s8 at h ⊢
    split
    · rename_i c; rw [if_pos c] at h; exact absurd (show (9 : Int) = 0 from h) (by decide)
    rename_i c; rw [if_neg c] at h
    split
    · rename_i d; rw [if_pos d] at h; exact absurd h d
    rename_i d; rw [if_neg d] at h
    split
    · rename_i e; rw [if_pos e] at h; exact absurd h e
    · rename_i e
      rw [List.length_cons, b8m ml keep l _ (by simpa using e), List.length_cons]
theorem c55 {l : List VT} {s : ByteArray} {i : Nat} (hi : i ≤ l.length) (h : ∀ j y, j < i → l[j]? = some y → y.lab.s ≠ s) : a3u ((l.take i).map (·.lab.s)) s = false := by
  unfold a3u
  rw [List.any_eq_false]
  intro a ha
  obtain ⟨y, hy, rfl⟩ := List.mem_map.1 ha
  obtain ⟨j, hj⟩ := List.mem_iff_getElem?.1 hy
  rw [List.getElem?_take] at hj
  split at hj
  · rename_i hji; simpa using h j y hji hj
  · cases hj
theorem c1m {l : List VT} {s : ByteArray} {i j : Nat} {y : VT} (hj : j < i) (hy : l[j]? = some y) (h : y.lab.s = s) : a3u ((l.take i).map (·.lab.s)) s = true := by
  unfold a3u
  rw [List.any_eq_true]
  exact ⟨y.lab.s, List.mem_map_of_mem (List.mem_iff_getElem?.2 ⟨j, by rw [List.getElem?_take, if_pos hj]; exact hy⟩), by simp [h]⟩
theorem a48 (mx : Lab) (ml : List VT) (hml : ml.length ≤ 100000) (l : List VT) (hlen : l.length ≤ 100000) (hsz : ∀ q ∈ l, q.size ≤ 100000) (keep : Bool) : ∃ acc, ((s8 ml keep [] l).2.2 = 0 → acc = (s8 ml keep [] l).1) ∧ Row Tryz.prog 42 [vT (.mk mx ml), vLs l, vB keep] [] (vPr acc (s8 ml keep [] l).2.1 (s8 ml keep [] l).2.2) [] := by
  obtain ⟨j, hj, h1, h2⟩ := b8k ml keep l
  have hQn : j = l.length → (s8 ml keep [] l).2.2 = 0 ∧ (s8 ml keep [] l).2.1 = 0 := fun h => by
    have := h1 j (Nat.le_refl _)
    rw [h, List.take_length] at this
    exact ⟨this, c6p ml keep l [] this⟩
  refine ⟨(s8 ml keep [] (l.take j)).1, fun h => ?_, ?_⟩
  · by_cases c : j < l.length
    · have := h2 c
      rw [this.2] at h
      exact absurd h this.1
    · rw [List.take_of_length_le (by omega)]
  obtain ⟨Q1, hQ1⟩ : ∃ Q1, (s8 ml keep [] l).2.1 = Q1 := ⟨_, rfl⟩
  obtain ⟨Q2, hQ2⟩ : ∃ Q2, (s8 ml keep [] l).2.2 = Q2 := ⟨_, rfl⟩
  have hQ : j < l.length → (s8 ml keep [] (l.take (j + 1))).2 = (Q1, Q2) := fun h => by rw [← (h2 h).2, ← hQ1, ← hQ2]
  rw [hQ1, hQ2] at hQn ⊢
  clear hQ1 hQ2
  have h2' : j < l.length → (s8 ml keep [] (l.take (j + 1))).2.2 ≠ 0 := fun h => (h2 h).1
  clear h2
  have p0 : (s8 ml keep [] (l.take 0)).1 = [] := rfl
  refine f6 Tryz.func42 rfl rfl (Nat.le_of_ble_eq_true rfl) ?_
  repeat (first | refine d4 ?_ | refine b8 ?_ | refine b7 ?_ | refine b9 ?_ | refine f5 rfl ?_ | refine d8 rfl ?_ | ((first | refine c5 (fun K hK => ?_) | refine d5 f8 (fun K hK => ?_) | fail); simp -implicitDefEqProofs; first | refine hK _ ?_ | refine hK _ _ (by rfl) ?_ | fail) | fail)
  refine l7 (ι := Nat) (fun k => s7 [(1, vLs l), (2, vB keep), (3, .v (.c (.ptr 0 0))), (9, .v (.c (.row 1 6 ((s8 ml keep [] (l.take k)).1.map tc)))), (10, vI (k : Nat))] [some (.box (ta (.mk mx ml))), some (.row 25 6)]) (fun k => k ≤ j) (fun k => l.length - k) 0 (Nat.zero_le _) (by rw [p0]; exact f7 [0, 4] (by simp -implicitDefEqProofs) (by simp -implicitDefEqProofs) (by decide) rfl (by simp)) (fun Z hI k hk => ?_)
  by_cases hkl : k < l.length; rotate_left
  · have e1 : j = l.length := by omega
    have e2 : k = j := by omega
    subst e2
    obtain ⟨rfl, rfl⟩ := hQn e1
    have hkl' : ¬ (k : Int) < (l.length : Nat) := by omega
    repeat (first | refine d4 ?_ | refine b8 ?_ | refine b7 ?_ | refine b9 ?_ | refine f5 rfl ?_ | refine d8 rfl ?_ | ((first | refine c5 (fun K hK => ?_) | refine d5 f8 (fun K hK => ?_) | fail); simp -implicitDefEqProofs [hkl, hkl']; first | refine hK _ ?_ | refine hK _ _ (by rfl) ?_ | fail) | fail)
    refine d7 (d6 ?_); simp -implicitDefEqProofs [g8, f9, g7] <;> try rfl
  obtain ⟨⟨ax, al⟩, hy⟩ : ∃ a, l[k]? = some a := ⟨_, List.getElem?_eq_getElem hkl⟩
  have hy' := (List.getElem?_eq_some_iff.1 hy).2
  have w2 : IntKind.i64.wrap ((k : Nat) + 1 : Int) = (k : Nat) + 1 := k9 _ (by omega) (by omega)
  have hkl' : (k : Int) < (l.length : Nat) := by omega
  have hsn := a9m ml keep (.mk ax al) (l.take k) []
  rw [show l.take k ++ [.mk ax al] = l.take (k + 1) by rw [List.take_add_one, hy]; rfl, if_neg (by simpa using h1 k hk), List.nil_append, Tr.lab] at hsn
  have hal := b8m ml keep (l.take k) [] (h1 k hk)
  rw [List.length_take, Nat.min_eq_left (Nat.le_of_lt hkl)] at hal
  have hacc : k = j → (s8 ml keep [] (l.take k)).1 = (s8 ml keep [] (l.take j)).1 := fun h => by rw [h]
  obtain ⟨acc, hac⟩ : ∃ acc, (s8 ml keep [] (l.take k)).1 = acc := ⟨_, rfl⟩
  rw [hac] at hsn hal hacc ⊢
  have hjk : (s8 ml keep [] (l.take (k + 1))).2.2 ≠ 0 → k = j := fun h => by
    by_cases c : k = j
    · exact c
    · exact absurd (h1 (k + 1) (by omega)) h
  repeat (first | refine d4 ?_ | refine b8 ?_ | refine b7 ?_ | refine b9 ?_ | refine f5 rfl ?_ | refine d8 rfl ?_ | ((first | refine c5 (fun K hK => ?_) | refine d5 f8 (fun K hK => ?_) | fail); simp -implicitDefEqProofs [hkl, hkl', hy, hy']; first | refine hK _ ?_ | refine hK _ _ (by rfl) ?_ | fail) | fail)
  refine l7 (ι := Nat) (fun i => s7 [(1, vLs l), (2, vB keep), (3, .v (.c (.ptr 0 0))), (9, .v (.c (.row 1 6 (acc.map tc)))), (10, vI (k : Nat)), (11, vI (i : Nat))] [some (.box (ta (.mk mx ml))), some (.row 25 6)]) (fun i => i ≤ k ∧ ∀ q y, q < i → l[q]? = some y → y.lab.s ≠ ax.s) (fun i => k - i) 0 ⟨Nat.zero_le _, fun q y h => by omega⟩ (f7 [0, 1] (by simp -implicitDefEqProofs) (by simp -implicitDefEqProofs) (by decide) rfl (by simp)) (fun Z2 hI2 i hi => ?_)
  obtain ⟨hi, hz⟩ := hi
  by_cases hik : i < k
  · obtain ⟨⟨bx, bl⟩, hb⟩ : ∃ a, l[i]? = some a := ⟨_, List.getElem?_eq_getElem (by omega)⟩
    have hb' := (List.getElem?_eq_some_iff.1 hb).2
    have hil : i < l.length := by omega
    have hil' : (i : Int) < (l.length : Nat) := by omega
    have hik' : (i : Int) < (k : Nat) := by omega
    have w3 : IntKind.i64.wrap ((i : Nat) + 1 : Int) = (i : Nat) + 1 := k9 _ (by omega) (by omega)
    by_cases c : bx.s = ax.s
    · have hh := c1m hik hb (show (Tr.mk bx bl).lab.s = ax.s from c)
      rw [if_pos hh] at hsn
      have e := hjk (by rw [hsn]; exact (by decide : (9 : Int) ≠ 0))
      have hq := hQ (by omega)
      rw [← e, hsn] at hq
      obtain ⟨rfl, rfl⟩ := (Prod.mk.injEq _ _ _ _).mp hq
      rw [← hacc e]
      clear h1 h2' hQ hQn hjk hsn hz
      repeat (first | refine d4 ?_ | refine b8 ?_ | refine b7 ?_ | refine b9 ?_ | refine f5 rfl ?_ | refine d8 rfl ?_ | ((first | refine c5 (fun K hK => ?_) | refine d5 f8 (fun K hK => ?_) | fail); simp -implicitDefEqProofs [hik, hik', hil, hil', hb, hb', hkl, hkl', hy, hy', c]; first | refine hK _ ?_ | refine hK _ _ (by rfl) ?_ | fail) | fail)
      refine d7 (d6 ?_); simp -implicitDefEqProofs [g8, f9, g7] <;> try rfl
    · repeat (first | refine d4 ?_ | refine b8 ?_ | refine b7 ?_ | refine b9 ?_ | refine f5 rfl ?_ | refine d8 rfl ?_ | ((first | refine c5 (fun K hK => ?_) | refine d5 f8 (fun K hK => ?_) | fail); simp -implicitDefEqProofs [hik, hik', hil, hil', hb, hb', hkl, hkl', hy, hy', c, w3]; first | refine hK _ ?_ | refine hK _ _ (by rfl) ?_ | fail) | fail)
      refine ⟨i + 1, ⟨by omega, fun q y q1 q2 => ?_⟩, (by dsimp only; omega), ?_⟩
      · by_cases hqi : q = i
        · subst hqi; rw [hb] at q2; cases q2; exact c
        · exact hz q y (by omega) q2
      · rw [hI2]; exact f7 [0, 1] (by simp -implicitDefEqProofs) (by simp -implicitDefEqProofs) (by decide) rfl (by simp)
  have e : i = k := by omega
  subst e
  have hik' : ¬ (i : Int) < (i : Nat) := by omega
  have hh := c55 (Nat.le_of_lt hkl) hz
  rw [if_neg (by rw [hh]; decide)] at hsn
  have hc := a2m mx ml hml (.mk ax al) [] (by have := hsz _ (List.mem_of_getElem? hy); simp; omega)
  have hz0 := a5t ml (.mk ax al) []
  generalize u4 ml (.mk ax al) [] = g at hc hz0 hsn
  obtain ⟨⟨gx, gl⟩, gp, ge⟩ := g
  dsimp only at hz0 hsn
  by_cases hge : ge = 0
  · subst hge
    rw [if_neg (by simp)] at hsn
    have h3 : (s8 ml keep [] (l.take (i + 1))).2.2 = 0 := by rw [hsn]
    have hij : i + 1 ≤ j := by
      by_cases c : i = j
      · subst c; exact absurd h3 (h2' hkl)
      · omega
    have b1 : (i + 1) * 72 ≤ 140737488355328 := by omega
    have b2 : i + 1 ≤ 140737488355328 := by omega
    clear hQ hQn h1 h2' hjk hz
    cases keep with
    | true =>
      unfold b1h at hsn
      rw [if_pos rfl] at hsn
      repeat' (first | refine d4 ?_ | refine b8 ?_ | refine b7 ?_ | refine b9 ?_ | refine f5 rfl ?_ | refine d8 rfl ?_ | ((first | refine c5 (fun K hK => ?_) | refine d5 f8 (fun K hK => ?_) | refine a9 (cp hc ?_) | refine a8 (dp hc ?_) | fail); simp -implicitDefEqProofs [hik, hik', hkl, hkl', hy, hy', hal, b1, b2, w2]) | refine hK _ ?_ | refine hK _ _ (by rfl) ?_ | fail)
      refine ⟨i + 1, hij, (by dsimp only; omega), ?_⟩
      rw [hI, hsn]; exact f7 [0, 93] (by simp -implicitDefEqProofs [Tr.lab, Tr.kids]) (by simp -implicitDefEqProofs [Tr.lab, Tr.kids]) (by decide) rfl (by simp)
    | false =>
      unfold b1h at hsn
      rw [if_neg (by decide)] at hsn
      repeat' (first | refine d4 ?_ | refine b8 ?_ | refine b7 ?_ | refine b9 ?_ | refine f5 rfl ?_ | refine d8 rfl ?_ | ((first | refine c5 (fun K hK => ?_) | refine d5 f8 (fun K hK => ?_) | refine a9 (cp hc ?_) | refine a8 (dp hc ?_) | fail); simp -implicitDefEqProofs [hik, hik', hkl, hkl', hy, hy', hal, b1, b2, w2]) | refine hK _ ?_ | refine hK _ _ (by rfl) ?_ | fail)
      refine ⟨i + 1, hij, (by dsimp only; omega), ?_⟩
      rw [hI, hsn]; exact f7 [0, 85] (by simp -implicitDefEqProofs) (by simp -implicitDefEqProofs) (by decide) rfl (by simp)
  · rw [if_pos hge] at hsn
    have e := hjk (by rw [hsn]; exact hge)
    have hq := hQ (by omega)
    rw [← e, hsn] at hq
    obtain ⟨rfl, rfl⟩ := (Prod.mk.injEq _ _ _ _).mp hq
    rw [← hacc e]
    clear h1 h2' hQ hQn hjk hsn hz
    repeat' (first | refine d4 ?_ | refine b8 ?_ | refine b7 ?_ | refine b9 ?_ | refine f5 rfl ?_ | refine d8 rfl ?_ | ((first | refine c5 (fun K hK => ?_) | refine d5 f8 (fun K hK => ?_) | refine a9 (cp hc ?_) | refine a8 (dp hc ?_) | fail); simp -implicitDefEqProofs [hik, hik', hkl, hkl', hy, hy', hge]) | refine hK _ ?_ | refine hK _ _ (by rfl) ?_ | fail)
    refine d7 (d6 ?_); simp -implicitDefEqProofs [g8, f9, g7] <;> try rfl
theorem b5e (mx : Lab) (ml : List VT) (hml : ml.length ≤ 100000) (d : VT) (hd : b5c d) (hsz : d.size ≤ 40000) : Row Tryz.prog 23 [vT (.mk mx ml), vT d] [] (vSg (a1m ml d)) [] := by
  obtain ⟨x, l⟩ := d
  have hlen := Tr.len_size (x := x) (l := l)
  have hpart : ∀ y, y ∈ l → y.size ≤ 40000 := fun y hy => by
    obtain ⟨i, hi⟩ := List.mem_iff_getElem?.1 hy
    have := Tr.size_at (x := x) hi
    omega
  unfold b5c at hd
  unfold a1m
  rw [Tr.lab] at hd ⊢
  rw [Tr.kids] at hd ⊢
  by_cases k30 : x.k = 30
  · simp only [if_pos k30]
    obtain ⟨acc, a1, hp⟩ := a48 mx ml hml l (by omega) (fun q hq => by have := hpart q hq; omega) true
    generalize s8 ml true [] l = G at a1 hp ⊢
    obtain ⟨g0, g1, g2⟩ := G
    dsimp only at a1 hp ⊢
    unfold b5z
    dsimp only
    by_cases h0 : g2 = 0
    · rw [if_neg (by simpa using h0)]
      have ha := a1 h0
      subst ha
      clear a1 hd hpart
      refine f6 Tryz.func23 rfl rfl (Nat.le_of_ble_eq_true rfl) ?_
      repeat' (first | refine d4 ?_ | refine b8 ?_ | refine b7 ?_ | refine b9 ?_ | refine f5 rfl ?_ | refine d8 rfl ?_ | ((first | refine c5 (fun K hK => ?_) | refine d5 f8 (fun K hK => ?_) | refine a9 (cp hp ?_) | refine a8 (dp hp ?_) | fail); simp -implicitDefEqProofs [k30, h0]) | refine hK _ ?_ | refine hK _ _ (by rfl) ?_ | fail)
      refine d7 (d6 ?_); simp -implicitDefEqProofs [g8, f9, g7, k30] <;> try rfl
    · rw [if_pos h0]
      clear a1 hd hpart
      refine f6 Tryz.func23 rfl rfl (Nat.le_of_ble_eq_true rfl) ?_
      repeat' (first | refine d4 ?_ | refine b8 ?_ | refine b7 ?_ | refine b9 ?_ | refine f5 rfl ?_ | refine d8 rfl ?_ | ((first | refine c5 (fun K hK => ?_) | refine d5 f8 (fun K hK => ?_) | refine a9 (cp hp ?_) | refine a8 (dp hp ?_) | fail); simp -implicitDefEqProofs [k30, h0]) | refine hK _ ?_ | refine hK _ _ (by rfl) ?_ | fail)
      refine d7 (d6 ?_); simp -implicitDefEqProofs [g8, f9, g7, k30] <;> try rfl
  rw [if_neg k30] at hd
  simp only [if_neg k30]
  by_cases k33 : x.k = 33
  · rw [if_pos k33] at hd
    simp only [if_pos k33]
    obtain ⟨p, pl, r, b, hl, hp35, hn, hp, hr, hb⟩ := hd
    subst hl
    simp only [List.getD_cons_zero, List.getD_cons_succ, Tr.lab, Tr.kids]
    have hps := hpart (.mk p pl) (by simp)
    have hpl := Tr.len_size (x := p) (l := pl)
    have hrs := hpart r (by simp)
    have hbs := hpart b (by simp)
    obtain ⟨acc, a1, hp⟩ := a48 mx ml hml pl (by omega) (fun q hq => by
      obtain ⟨i, hi⟩ := List.mem_iff_getElem?.1 hq
      have := Tr.size_at (x := p) hi
      omega) false
    have hrr := a2m mx ml hml r [] (by simp; omega)
    have hrz := a5t ml r []
    obtain ⟨Nm, hNm⟩ : ∃ Nm, pl.map (·.lab.s) = Nm := ⟨_, rfl⟩
    have hNl : Nm.length = pl.length := by rw [← hNm, List.length_map]
    have hNt : ∀ k, k < pl.length → ∀ y, pl[k]? = some y → Nm.take (k + 1) = Nm.take k ++ [y.lab.s] := fun k hk y hy => by
      rw [List.take_add_one, ← hNm, List.getElem?_map, hy]; rfl
    have hNf : Nm.take pl.length = Nm := by rw [← hNl, List.take_length]
    have hbr := a2m mx ml hml b Nm (by omega)
    have hbz := a5t ml b Nm
    unfold fnS
    rw [hNm]
    generalize s8 ml false [] pl = G at a1 hp ⊢
    obtain ⟨g0, g1, g2⟩ := G
    generalize u4 ml r [] = R at hrr hrz ⊢
    obtain ⟨⟨Rx, Rl⟩, Rp, Re⟩ := R
    generalize u4 ml b Nm = B at hbr hbz ⊢
    obtain ⟨⟨Bx, Bl⟩, Bp, Be⟩ := B
    obtain ⟨⟨rx, rl⟩, rfl⟩ : ∃ u, u = r := ⟨_, rfl⟩
    obtain ⟨⟨bx, bl⟩, rfl⟩ : ∃ u, u = b := ⟨_, rfl⟩
    dsimp only at a1 hp hrz hbz ⊢
    clear hr hb hpart
    by_cases h0 : g2 = 0; rotate_left
    · rw [if_pos h0]
      refine f6 Tryz.func23 rfl rfl (Nat.le_of_ble_eq_true rfl) ?_
      repeat' (first | refine d4 ?_ | refine b8 ?_ | refine b7 ?_ | refine b9 ?_ | refine f5 rfl ?_ | refine d8 rfl ?_ | ((first | refine c5 (fun K hK => ?_) | refine d5 f8 (fun K hK => ?_) | refine a9 (cp hp ?_) | refine a8 (dp hp ?_) | fail); simp -implicitDefEqProofs [k33, h0]) | refine hK _ ?_ | refine hK _ _ (by rfl) ?_ | fail)
      refine d7 (d6 ?_); simp -implicitDefEqProofs [g8, f9, g7] <;> try rfl
    rw [if_neg (by simpa using h0)]
    have ha := a1 h0
    subst ha
    clear a1
    by_cases h1 : Re = 0; rotate_left
    · rw [if_pos h1]
      obtain ⟨rfl, rfl⟩ := (Tr.mk.injEq _ _ _ _).mp (hrz h1)
      refine f6 Tryz.func23 rfl rfl (Nat.le_of_ble_eq_true rfl) ?_
      repeat' (first | refine d4 ?_ | refine b8 ?_ | refine b7 ?_ | refine b9 ?_ | refine f5 rfl ?_ | refine d8 rfl ?_ | ((first | refine c5 (fun K hK => ?_) | refine d5 f8 (fun K hK => ?_) | refine a9 (cp hp ?_) | refine a8 (dp hp ?_) | refine a9 (cp hrr ?_) | refine a8 (dp hrr ?_) | fail); simp -implicitDefEqProofs [k33, h0, h1]) | refine hK _ ?_ | refine hK _ _ (by rfl) ?_ | fail)
      refine d7 (d6 ?_); simp -implicitDefEqProofs [g8, f9, g7] <;> try rfl
    rw [if_neg (by simpa using h1)]
    obtain ⟨W, hW⟩ : ∃ W : SG, (if Be ≠ 0 then ⟨z0T, Bp, Be⟩ else ⟨.mk ⟨x.k, x.n, ⟨#[]⟩, x.f, x.t⟩ [.mk ⟨p.k, 0, ⟨#[]⟩, p.f, p.t⟩ acc, .mk Rx Rl, .mk Bx Bl], 0, 0⟩) = W := ⟨_, rfl⟩
    rw [hW]
    have p0 : wsS (Nm.take 0) = [] := rfl
    refine f6 Tryz.func23 rfl rfl (Nat.le_of_ble_eq_true rfl) ?_
    repeat' (first | refine d4 ?_ | refine b8 ?_ | refine b7 ?_ | refine b9 ?_ | refine f5 rfl ?_ | refine d8 rfl ?_ | ((first | refine c5 (fun K hK => ?_) | refine d5 f8 (fun K hK => ?_) | refine a9 (cp hp ?_) | refine a8 (dp hp ?_) | refine a9 (cp hrr ?_) | refine a8 (dp hrr ?_) | fail); simp -implicitDefEqProofs [k33, h0, h1]) | refine hK _ ?_ | refine hK _ _ (by rfl) ?_ | fail)
    refine l7 (ι := Nat) (fun k => s7 [(2, .v (.c (.ptr 0 0))), (3, .v (.c (.ptr 1 0))), (4, .v (.c (.ptr 2 0))), (11, .v (.c (.ptr 3 0))), (12, .v (.c (.ptr 4 0))), (13, .v (.c (.row 5 1 (wsS (Nm.take k))))), (14, vI (k : Nat))] [some (.box (ta (.mk mx ml))), some (.box (ta (.mk x [.mk p pl, .mk rx rl, .mk bx bl]))), some zGb, some (.box [.pv (I p.k), .pv (I 0), .pv (Sx ⟨#[]⟩), .pv (.sl 6 (acc.map tc)), .pv (I p.f), .pv (I p.t)]), some (.box (ta (.mk Rx Rl) ++ [.pv (I Rp), .pv (I 0)])), some (.row 9 1)]) (fun k => k ≤ pl.length) (fun k => pl.length - k) 0 (Nat.zero_le _) (by rw [p0]; exact f7 [0, 1, 2, 259, 331, 350] (by simp -implicitDefEqProofs [k33, h1]) (by simp -implicitDefEqProofs [k33, h1]) (by decide) rfl (by simp)) (fun Z hI k hk => ?_)
    by_cases hkl : k < pl.length
    · obtain ⟨⟨ax, al⟩, hy⟩ : ∃ a, pl[k]? = some a := ⟨_, List.getElem?_eq_getElem hkl⟩
      have hy' := (List.getElem?_eq_some_iff.1 hy).2
      have w2 : IntKind.i64.wrap ((k : Nat) + 1 : Int) = (k : Nat) + 1 := k9 _ (by omega) (by omega)
      have hkl' : (k : Int) < (pl.length : Nat) := by omega
      have hn := hNt k hkl _ hy
      rw [Tr.lab] at hn
      have hln : (Nm.take k).length = k := by rw [List.length_take]; omega
      obtain ⟨V, hV⟩ : ∃ V, Nm.take k = V := ⟨_, rfl⟩
      rw [hV] at hn hln ⊢
      have c1 : (k + 1) * 16 ≤ 140737488355328 := by omega
      have c2 : k + 1 ≤ 140737488355328 := by omega
      repeat (first | refine d4 ?_ | refine b8 ?_ | refine b7 ?_ | refine b9 ?_ | refine f5 rfl ?_ | refine d8 rfl ?_ | ((first | refine c5 (fun K hK => ?_) | refine d5 f8 (fun K hK => ?_) | fail); simp -implicitDefEqProofs [hkl, hkl', hy, hy', w2, hln, c1, c2]; first | refine hK _ ?_ | refine hK _ _ (by rfl) ?_ | fail) | fail)
      refine ⟨k + 1, by omega, (by dsimp only; omega), ?_⟩
      rw [hI, hn]; exact f7 [0, 1, 2, 3, 4, 25] (by simp -implicitDefEqProofs) (by simp -implicitDefEqProofs) (by decide) rfl (by simp)
    have : k = pl.length := by omega
    subst this
    rw [hNf]
    by_cases h2 : Be = 0
    · rw [if_neg (by simpa using h2)] at hW
      subst hW
      repeat' (first | refine d4 ?_ | refine b8 ?_ | refine b7 ?_ | refine b9 ?_ | refine f5 rfl ?_ | refine d8 rfl ?_ | ((first | refine c5 (fun K hK => ?_) | refine d5 f8 (fun K hK => ?_) | refine a9 (cp hbr ?_) | refine a8 (dp hbr ?_) | fail); simp -implicitDefEqProofs [k33, h2]) | refine hK _ ?_ | refine hK _ _ (by rfl) ?_ | fail)
      refine d7 (d6 ?_); simp -implicitDefEqProofs [g8, f9, g7, k33] <;> try rfl
    · rw [if_pos h2] at hW
      subst hW
      obtain ⟨rfl, rfl⟩ := (Tr.mk.injEq _ _ _ _).mp (hbz h2)
      repeat' (first | refine d4 ?_ | refine b8 ?_ | refine b7 ?_ | refine b9 ?_ | refine f5 rfl ?_ | refine d8 rfl ?_ | ((first | refine c5 (fun K hK => ?_) | refine d5 f8 (fun K hK => ?_) | refine a9 (cp hbr ?_) | refine a8 (dp hbr ?_) | fail); simp -implicitDefEqProofs [k33, h2]) | refine hK _ ?_ | refine hK _ _ (by rfl) ?_ | fail)
      refine d7 (d6 ?_); simp -implicitDefEqProofs [g8, f9, g7, k33] <;> try rfl
  · simp only [if_neg k33]
    have hc := a2m mx ml hml (.mk x l) [] (by simp; omega)
    generalize u4 ml (.mk x l) [] = G at hc ⊢
    obtain ⟨⟨gx, gl⟩, gp, ge⟩ := G
    clear hd hpart
    refine f6 Tryz.func23 rfl rfl (Nat.le_of_ble_eq_true rfl) ?_
    repeat' (first | refine d4 ?_ | refine b8 ?_ | refine b7 ?_ | refine b9 ?_ | refine f5 rfl ?_ | refine d8 rfl ?_ | ((first | refine c5 (fun K hK => ?_) | refine d5 f8 (fun K hK => ?_) | refine a9 (cp hc ?_) | refine a8 (dp hc ?_) | fail); simp -implicitDefEqProofs [k30, k33]) | refine hK _ ?_ | refine hK _ _ (by rfl) ?_ | fail)
    refine d7 (d6 ?_); simp -implicitDefEqProofs [g8, f9, g7] <;> try rfl
theorem c3e (ml : List VT) (d : VT) (h : (a1m ml d).er ≠ 0) : (a1m ml d).t = z0T := by
  unfold a1m at h ⊢
  split
  · rename_i c; rw [if_pos c] at h
    unfold b5z at h ⊢
    split
    · rfl
    · rename_i q; rw [if_neg q] at h; exact absurd rfl h
  · rename_i c; rw [if_neg c] at h
    split
    · rename_i c; rw [if_pos c] at h
      unfold fnS at h ⊢
      split
      · rfl
      rename_i c; rw [if_neg c] at h
      split
      · rfl
      rename_i c; rw [if_neg c] at h
      split
      · rfl
      · rename_i c; rw [if_neg c] at h; exact absurd rfl h
    · rename_i c; rw [if_neg c] at h; exact a5t ml d [] h
theorem dcl_at {ml : List VT} {i : Nat} {y : VT} (hy : ml[i]? = some y) (h : a3u ((ml.take i).map (·.lab.s)) y.lab.s = false) : dcl ml y.lab.s = some i := by
  have hi := (List.getElem?_eq_some_iff.1 hy).1
  unfold dcl
  rw [List.findIdx?_eq_some_iff_getElem]
  refine ⟨hi, by rw [(List.getElem?_eq_some_iff.1 hy).2]; simp, fun j hj => ?_⟩
  unfold a3u at h
  rw [List.any_eq_false] at h
  have := h ml[j].lab.s (List.mem_map_of_mem (List.mem_iff_getElem?.2 ⟨j, by rw [List.getElem?_take, if_pos hj]; exact List.getElem?_eq_getElem (by omega)⟩))
  simpa using this
theorem dcl_lt {ml : List VT} {i : Nat} {y : VT} (hi : i < ml.length) (h : a3u ((ml.take i).map (·.lab.s)) y.lab.s = true) : ∃ j, j < i ∧ dcl ml y.lab.s = some j := by
  unfold a3u at h
  rw [List.any_eq_true] at h
  obtain ⟨a, ha, he⟩ := h
  obtain ⟨z, hz, rfl⟩ := List.mem_map.1 ha
  obtain ⟨q, hq⟩ := List.mem_iff_getElem?.1 hz
  rw [List.getElem?_take] at hq
  split at hq
  · rename_i hqi
    have hql := (List.getElem?_eq_some_iff.1 hq).1
    have hqe := (List.getElem?_eq_some_iff.1 hq).2
    unfold dcl
    cases hf : ml.findIdx? (fun d => decide (d.lab.s = y.lab.s)) with
    | none =>
      rw [List.findIdx?_eq_none_iff] at hf
      have := hf z (List.mem_of_getElem? hq)
      rw [he] at this
      cases this
    | some j =>
      refine ⟨j, ?_, rfl⟩
      rw [List.findIdx?_eq_some_iff_getElem] at hf
      obtain ⟨_, _, h3⟩ := hf
      by_cases c : j < i
      · exact c
      · have := h3 q (by omega)
        rw [hqe, he] at this
        exact absurd rfl this
  · cases hq
end Go.Proofs.YthkfdheoakbfnaaGreat.am
end
