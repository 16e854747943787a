import Derived.Test.YthmdllhhmhbhbaaGreatDoorPkR15
set_option maxRecDepth 100000
set_option maxHeartbeats 4000000
section
namespace Go.Proofs.YthmdllhhmhbhbaaGreatDoor.am
open Go.ChangeShapes Go.WideShapes Go.ChangeAt Go.RowKit
open vt
set_option linter.unusedVariables false
set_option linter.unusedSimpArgs false
theorem thn_pl (a b : LR) (h : (thn a b).2.2 = 0) : (thn a b).2.1 = 0 := by
  unfold thn at h ⊢
  split
  · rename_i c; rw [if_pos c] at h; exact absurd h c
  · rename_i c; rw [if_neg c] at h
    split
    · rename_i d; rw [if_pos d] at h; exact absurd h d
    · rfl
theorem b7s {x : Lab} {l : List VT} {y : VT} (h : y ∈ l) : l.length + y.size ≤ Tr.size (Tr.mk x l) := by
  rw [Tr.size_mk]
  induction l with
  | nil => cases h
  | cons z l ih =>
    have hz := Tr.size_pos z
    have hl : l.length ≤ (l.map Tr.size).sum := by
      clear ih h
      induction l with
      | nil => simp
      | cons u l ih => have := Tr.size_pos u; simp; omega
    rcases List.mem_cons.1 h with rfl | h
    · simp; omega
    · have := ih h
      simp at this ⊢; omega
theorem c1o : Row Tryz.prog 134 [.top, vLs []] [] (vLs []) [] := by
  refine e8 Tryz.func134 rfl rfl (Nat.le_of_ble_eq_true rfl) ?_
  repeat (first | refine d7 ?_ | refine b9 ?_ | refine a8 ?_ | refine b8 ?_ | refine f7 rfl ?_ | refine f6 rfl ?_ | ((first | refine d6 (fun K hK => ?_) | refine d8 f8 (fun K hK => ?_) | fail); simp -implicitDefEqProofs; first | refine hK _ ?_ | refine hK _ _ (by rfl) ?_ | fail) | fail)
  refine e7 (e9 ?_); simp -implicitDefEqProofs [j9, g7, g9] <;> try rfl
theorem c1t (ml : List VT) (hml : ml.length ≤ 100000) (t : VT) : c1l t → TOk ml t := by
  induction t using Tr.ind with
  | h x l ih =>
  intro hs L E hE hsz
  obtain ⟨h33, h19, hl⟩ := (a5q x l).1 hs
  have hlen := Tr.len_size (x := x) (l := l)
  have hok : ∀ y ∈ l, TOk ml y := fun y hy => ih y hy (hl y hy)
  have hs2 : ∀ y ∈ l, l.length + y.size ≤ Tr.size (Tr.mk x l) := fun y hy => b7s hy
  clear hs ih hl
  have hL0 : (L.length : Int) ≤ (L.length : Nat) := Int.le_refl _
  rw [a3j]
  by_cases k19 : x.k = 19
  · have hl0 := h19 k19
    subst hl0
    rw [if_pos k19]
    obtain ⟨t', ht, hr⟩ := b8n ml hml L E hE (by omega) x
    refine ⟨t', E, ht, hE, ?_⟩
    obtain ⟨⟨tx, tl⟩, rfl⟩ : ∃ u, u = t' := ⟨_, rfl⟩
    clear ht
    generalize (b40 ml L x).pl = p at hr ⊢
    generalize (b40 ml L x).er = q at hr ⊢
    refine e8 Tryz.func78 rfl rfl (Nat.le_of_ble_eq_true rfl) ?_
    repeat' (first | refine d7 ?_ | refine b9 ?_ | refine a8 ?_ | refine b8 ?_ | refine f7 rfl ?_ | refine f6 rfl ?_ | ((first | refine d6 (fun K hK => ?_) | refine d8 f8 (fun K hK => ?_) | refine b7 (cgS hr 0 rfl ?_) | refine a6 (dgS hr 0 rfl ?_) | fail); simp -implicitDefEqProofs [k19]) | refine hK _ ?_ | refine hK _ _ (by rfl) ?_ | fail)
    refine e7 (r8 [] rfl ?_); simp -implicitDefEqProofs [l4, g7, g9] <;> try rfl
  rw [if_neg k19]
  by_cases k16 : x.k = 16
  · have hp := a15 ml hml L.length 0 0 E x l [33] (by simp)
    by_cases hk : a2r ml x.s = 33
    · have hd : dcl ml x.s ≠ none := fun h => by unfold a2r at hk; rw [h] at hk; simp at hk
      have hm : a2r ml x.s ∈ [(33 : Int)] ∧ dcl ml x.s ≠ none := ⟨by simp [hk], hd⟩
      rw [if_pos hm, if_pos hm, if_pos hm] at hp
      rw [if_neg (by unfold b4c; simp [k16, hk]), a0q ml x L (by omega) l 0 L [] (fun e => by omega)]
      obtain ⟨acc, E2, a1, a2, a3, hr⟩ := p9 ml l hok L E hE (fun y hy => by have := hs2 y hy; omega) (by omega) (by omega) 0 0 (fun _ => rfl)
      rw [if_pos rfl, if_pos rfl] at hr
      have i4 := a3.2
      refine ⟨.mk (a1k ml x) acc, E2, fun h => ?_, a3, ?_⟩
      · rw [u7] at h; rw [a33 _ _ _ h, List.nil_append, a1 rfl h]
      rw [u7, a05 _ _ _ (z6 ml L l)]
      have ho : a1k ml x = ⟨x.k, b0v ml x.s, ⟨#[]⟩, x.f, x.t⟩ := by unfold a1k; simp [k16]
      rw [ho]
      clear a1 hm hd hk ho
      generalize s4 ml L l = g at hr ⊢
      obtain ⟨g0, g1, g2⟩ := g
      dsimp only at hr ⊢
      generalize b0v ml x.s = di at hp ⊢
      refine e8 Tryz.func78 rfl rfl (Nat.le_of_ble_eq_true rfl) ?_
      repeat' (first | refine d7 ?_ | refine b9 ?_ | refine a8 ?_ | refine b8 ?_ | refine f7 rfl ?_ | refine f6 rfl ?_ | ((first | refine d6 (fun K hK => ?_) | refine d8 f8 (fun K hK => ?_) | refine b7 (cgS hp 0 rfl ?_) | refine a6 (dgS hp 0 rfl ?_) | refine b7 (cgS hr 0 rfl ?_) | refine a6 (dgS hr 0 rfl ?_) | fail); simp -implicitDefEqProofs [k16, hL0, i4]) | refine hK _ ?_ | refine hK _ _ (by rfl) ?_ | fail)
      refine e7 (r8 [] rfl ?_); simp -implicitDefEqProofs [l4, g7, g9, k16] <;> try rfl
    · have hm : ¬ (a2r ml x.s ∈ [(33 : Int)] ∧ dcl ml x.s ≠ none) := fun h => hk (by simpa using h.1)
      rw [if_neg hm, if_neg hm, if_neg hm, if_pos rfl, if_pos rfl] at hp
      rw [if_pos (by unfold b4c; simp [k16, hk])]
      obtain ⟨acc, E2, a1, a2, a3, hr⟩ := p9 ml l hok L E hE (fun y hy => by have := hs2 y hy; omega) (by omega) (by omega) x.f 8 (fun h => absurd h (by decide))
      rw [if_neg (by decide), if_neg (by decide)] at hr
      have i4 := a3.2
      refine ⟨.mk ⟨x.k, 0, ⟨#[]⟩, x.f, x.t⟩ acc, E2, fun h => absurd (show (8 : Int) = 0 from h) (by decide), a3, ?_⟩
      unfold vt.a1w
      dsimp only
      clear a1 hm hk
      refine e8 Tryz.func78 rfl rfl (Nat.le_of_ble_eq_true rfl) ?_
      repeat' (first | refine d7 ?_ | refine b9 ?_ | refine a8 ?_ | refine b8 ?_ | refine f7 rfl ?_ | refine f6 rfl ?_ | ((first | refine d6 (fun K hK => ?_) | refine d8 f8 (fun K hK => ?_) | refine b7 (cgS hp 0 rfl ?_) | refine a6 (dgS hp 0 rfl ?_) | refine b7 (cgS hr 0 rfl ?_) | refine a6 (dgS hr 0 rfl ?_) | fail); simp -implicitDefEqProofs [k16, hL0, i4]) | refine hK _ ?_ | refine hK _ _ (by rfl) ?_ | fail)
      refine e7 (r8 [] rfl ?_); simp -implicitDefEqProofs [l4, g7, g9, k16] <;> try rfl
  by_cases k15 : x.k = 15
  · have hp := a15 ml hml L.length 0 0 E x l [30] (by simp)
    by_cases hk : a2r ml x.s = 30
    · have hd : dcl ml x.s ≠ none := fun h => by unfold a2r at hk; rw [h] at hk; simp at hk
      have hm : a2r ml x.s ∈ [(30 : Int)] ∧ dcl ml x.s ≠ none := ⟨by simp [hk], hd⟩
      rw [if_pos hm, if_pos hm, if_pos hm] at hp
      rw [if_neg (by unfold b4c; simp [k15, hk]), a0q ml x L (by omega) l 0 L [] (fun e => by omega)]
      obtain ⟨acc, E2, a1, a2, a3, hr⟩ := p9 ml l hok L E hE (fun y hy => by have := hs2 y hy; omega) (by omega) (by omega) 0 0 (fun _ => rfl)
      rw [if_pos rfl, if_pos rfl] at hr
      have i4 := a3.2
      refine ⟨.mk (a1k ml x) acc, E2, fun h => ?_, a3, ?_⟩
      · rw [u7] at h; rw [a33 _ _ _ h, List.nil_append, a1 rfl h]
      rw [u7, a05 _ _ _ (z6 ml L l)]
      have ho : a1k ml x = ⟨x.k, b0v ml x.s, ⟨#[]⟩, x.f, x.t⟩ := by unfold a1k; simp [k15]
      rw [ho]
      clear a1 hm hd hk ho
      generalize s4 ml L l = g at hr ⊢
      obtain ⟨g0, g1, g2⟩ := g
      dsimp only at hr ⊢
      generalize b0v ml x.s = di at hp ⊢
      refine e8 Tryz.func78 rfl rfl (Nat.le_of_ble_eq_true rfl) ?_
      repeat' (first | refine d7 ?_ | refine b9 ?_ | refine a8 ?_ | refine b8 ?_ | refine f7 rfl ?_ | refine f6 rfl ?_ | ((first | refine d6 (fun K hK => ?_) | refine d8 f8 (fun K hK => ?_) | refine b7 (cgS hp 0 rfl ?_) | refine a6 (dgS hp 0 rfl ?_) | refine b7 (cgS hr 0 rfl ?_) | refine a6 (dgS hr 0 rfl ?_) | fail); simp -implicitDefEqProofs [k15, hL0, i4]) | refine hK _ ?_ | refine hK _ _ (by rfl) ?_ | fail)
      refine e7 (r8 [] rfl ?_); simp -implicitDefEqProofs [l4, g7, g9, k15] <;> try rfl
    · have hm : ¬ (a2r ml x.s ∈ [(30 : Int)] ∧ dcl ml x.s ≠ none) := fun h => hk (by simpa using h.1)
      rw [if_neg hm, if_neg hm, if_neg hm, if_pos rfl, if_pos rfl] at hp
      rw [if_pos (by unfold b4c; simp [k15, hk])]
      obtain ⟨acc, E2, a1, a2, a3, hr⟩ := p9 ml l hok L E hE (fun y hy => by have := hs2 y hy; omega) (by omega) (by omega) x.f 8 (fun h => absurd h (by decide))
      rw [if_neg (by decide), if_neg (by decide)] at hr
      have i4 := a3.2
      refine ⟨.mk ⟨x.k, 0, ⟨#[]⟩, x.f, x.t⟩ acc, E2, fun h => absurd (show (8 : Int) = 0 from h) (by decide), a3, ?_⟩
      unfold vt.a1w
      dsimp only
      clear a1 hm hk
      refine e8 Tryz.func78 rfl rfl (Nat.le_of_ble_eq_true rfl) ?_
      repeat' (first | refine d7 ?_ | refine b9 ?_ | refine a8 ?_ | refine b8 ?_ | refine f7 rfl ?_ | refine f6 rfl ?_ | ((first | refine d6 (fun K hK => ?_) | refine d8 f8 (fun K hK => ?_) | refine b7 (cgS hp 0 rfl ?_) | refine a6 (dgS hp 0 rfl ?_) | refine b7 (cgS hr 0 rfl ?_) | refine a6 (dgS hr 0 rfl ?_) | fail); simp -implicitDefEqProofs [k15, hL0, i4]) | refine hK _ ?_ | refine hK _ _ (by rfl) ?_ | fail)
      refine e7 (r8 [] rfl ?_); simp -implicitDefEqProofs [l4, g7, g9, k15] <;> try rfl
  by_cases k4 : x.k = 4
  · have hp := a15 ml hml L.length 0 0 E x l [30] (by simp)
    by_cases hk : a2r ml x.s = 30
    · have hd : dcl ml x.s ≠ none := fun h => by unfold a2r at hk; rw [h] at hk; simp at hk
      have hm : a2r ml x.s ∈ [(30 : Int)] ∧ dcl ml x.s ≠ none := ⟨by simp [hk], hd⟩
      rw [if_pos hm, if_pos hm, if_pos hm] at hp
      rw [if_neg (by unfold b4c; simp [k4, hk]), a0q ml x L (by omega) l 0 L [] (fun e => by omega)]
      obtain ⟨acc, E2, a1, a2, a3, hr⟩ := p9 ml l hok L E hE (fun y hy => by have := hs2 y hy; omega) (by omega) (by omega) 0 0 (fun _ => rfl)
      rw [if_pos rfl, if_pos rfl] at hr
      have i4 := a3.2
      refine ⟨.mk (a1k ml x) acc, E2, fun h => ?_, a3, ?_⟩
      · rw [u7] at h; rw [a33 _ _ _ h, List.nil_append, a1 rfl h]
      rw [u7, a05 _ _ _ (z6 ml L l)]
      have ho : a1k ml x = ⟨x.k, b0v ml x.s, ⟨#[]⟩, x.f, x.t⟩ := by unfold a1k; simp [k4]
      rw [ho]
      clear a1 hm hd hk ho
      generalize s4 ml L l = g at hr ⊢
      obtain ⟨g0, g1, g2⟩ := g
      dsimp only at hr ⊢
      generalize b0v ml x.s = di at hp ⊢
      refine e8 Tryz.func78 rfl rfl (Nat.le_of_ble_eq_true rfl) ?_
      repeat' (first | refine d7 ?_ | refine b9 ?_ | refine a8 ?_ | refine b8 ?_ | refine f7 rfl ?_ | refine f6 rfl ?_ | ((first | refine d6 (fun K hK => ?_) | refine d8 f8 (fun K hK => ?_) | refine b7 (cgS hp 0 rfl ?_) | refine a6 (dgS hp 0 rfl ?_) | refine b7 (cgS hr 0 rfl ?_) | refine a6 (dgS hr 0 rfl ?_) | fail); simp -implicitDefEqProofs [k4, hL0, i4]) | refine hK _ ?_ | refine hK _ _ (by rfl) ?_ | fail)
      refine e7 (r8 [] rfl ?_); simp -implicitDefEqProofs [l4, g7, g9, k4] <;> try rfl
    · have hm : ¬ (a2r ml x.s ∈ [(30 : Int)] ∧ dcl ml x.s ≠ none) := fun h => hk (by simpa using h.1)
      rw [if_neg hm, if_neg hm, if_neg hm, if_pos rfl, if_pos rfl] at hp
      rw [if_pos (by unfold b4c; simp [k4, hk])]
      obtain ⟨acc, E2, a1, a2, a3, hr⟩ := p9 ml l hok L E hE (fun y hy => by have := hs2 y hy; omega) (by omega) (by omega) x.f 8 (fun h => absurd h (by decide))
      rw [if_neg (by decide), if_neg (by decide)] at hr
      have i4 := a3.2
      refine ⟨.mk ⟨x.k, 0, ⟨#[]⟩, x.f, x.t⟩ acc, E2, fun h => absurd (show (8 : Int) = 0 from h) (by decide), a3, ?_⟩
      unfold vt.a1w
      dsimp only
      clear a1 hm hk
      refine e8 Tryz.func78 rfl rfl (Nat.le_of_ble_eq_true rfl) ?_
      repeat' (first | refine d7 ?_ | refine b9 ?_ | refine a8 ?_ | refine b8 ?_ | refine f7 rfl ?_ | refine f6 rfl ?_ | ((first | refine d6 (fun K hK => ?_) | refine d8 f8 (fun K hK => ?_) | refine b7 (cgS hp 0 rfl ?_) | refine a6 (dgS hp 0 rfl ?_) | refine b7 (cgS hr 0 rfl ?_) | refine a6 (dgS hr 0 rfl ?_) | fail); simp -implicitDefEqProofs [k4, hL0, i4]) | refine hK _ ?_ | refine hK _ _ (by rfl) ?_ | fail)
      refine e7 (r8 [] rfl ?_); simp -implicitDefEqProofs [l4, g7, g9, k4] <;> try rfl
  rw [if_neg (by unfold b4c; simp [k16, k15, k4])]
  by_cases k29 : x.k = 29
  · rw [b3s ml x L k29 l 0 L []]
    obtain ⟨acc, L2, E2, a1, a2, a3, a4, a5, hr⟩ := b5d ml l hok L E hE (fun y hy => by have := hs2 y hy; omega) (by omega)
    have i4 := a5.2
    have i5 : (L.length : Int) ≤ (L2.length : Nat) := by omega
    refine ⟨.mk (a1k ml x) acc, E2, fun h => ?_, ⟨?_, by omega⟩, ?_⟩
    · rw [u7] at h; rw [a33 _ _ _ h, List.nil_append, a1 h]
    · have := congrArg (List.take L.length) a5.1
      rw [List.take_take, Nat.min_eq_left a3, a2] at this
      exact this
    rw [u7, a05 _ _ _ (b6s ml l L)]
    have ho : a1k ml x = ⟨x.k, x.n, ⟨#[]⟩, x.f, x.t⟩ := by unfold a1k; simp [k29]
    rw [ho]
    clear a1 ho
    generalize a4e ml L l = g at hr ⊢
    obtain ⟨g0, g1, g2⟩ := g
    dsimp only at hr ⊢
    refine e8 Tryz.func78 rfl rfl (Nat.le_of_ble_eq_true rfl) ?_
    repeat' (first | refine d7 ?_ | refine b9 ?_ | refine a8 ?_ | refine b8 ?_ | refine f7 rfl ?_ | refine f6 rfl ?_ | ((first | refine d6 (fun K hK => ?_) | refine d8 f8 (fun K hK => ?_) | refine b7 (cgS hr 0 rfl ?_) | refine a6 (dgS hr 0 rfl ?_) | fail); simp -implicitDefEqProofs [k29, i5, i4]) | refine hK _ ?_ | refine hK _ _ (by rfl) ?_ | fail)
    refine e7 (r8 [] rfl ?_); simp -implicitDefEqProofs [l4, g7, g9, k29] <;> try rfl
  by_cases k25 : x.k = 25
  · rw [c1n ml x L k25 l]
    obtain ⟨acc, E2, a1, a3, hr, -⟩ := a98 ml l hok 2 [x.s] L E hE (fun y hy => by have := hs2 y hy; have := Tr.size_pos y; have : 0 < l.length := List.length_pos_of_mem hy; simp; omega) (by omega) (by simp; omega) (by omega)
    have i4 := a3.2
    rw [List.length_append, List.length_singleton] at i4
    rw [List.length_singleton] at hr
    have i5 : (L.length : Int) ≤ (L.length : Nat) + 1 := by omega
    refine ⟨.mk (a1k ml x) acc, E2, fun h => ?_, ⟨?_, by omega⟩, ?_⟩
    · rw [u7] at h; rw [a33 _ _ _ h, List.nil_append, a1 h]
    · have := congrArg (List.take L.length) a3.1
      rw [List.take_take, Nat.min_eq_left (by simp), List.take_left] at this
      exact this
    rw [u7, a05 _ _ _ (thn_pl _ _)]
    have ho : a1k ml x = ⟨x.k, x.n, ⟨#[]⟩, x.f, x.t⟩ := by unfold a1k; simp [k25]
    rw [ho]
    clear a1 ho
    generalize thn (s4 ml L (l.take 2)) (s4 ml (L ++ [x.s]) (l.drop 2)) = g at hr ⊢
    obtain ⟨g0, g1, g2⟩ := g
    dsimp only at hr ⊢
    refine e8 Tryz.func78 rfl rfl (Nat.le_of_ble_eq_true rfl) ?_
    repeat' (first | refine d7 ?_ | refine b9 ?_ | refine a8 ?_ | refine b8 ?_ | refine f7 rfl ?_ | refine f6 rfl ?_ | ((first | refine d6 (fun K hK => ?_) | refine d8 f8 (fun K hK => ?_) | refine b7 (cgS hr 0 rfl ?_) | refine a6 (dgS hr 0 rfl ?_) | fail); simp -implicitDefEqProofs [k25, i5, i4]) | refine hK _ ?_ | refine hK _ _ (by rfl) ?_ | fail)
    refine e7 (r8 [] rfl ?_); simp -implicitDefEqProofs [l4, g7, g9, k25] <;> try rfl
  rw [a0q ml x L k29 l 0 L [] (fun e => absurd e k25)]
  by_cases k33 : x.k = 33
  · have hl0 := h33 k33
    subst hl0
    have hr := c1o
    have i4 := hE.2
    refine ⟨.mk (a1k ml x) [], E, fun h => ?_, hE, ?_⟩
    · rw [u7] at h; rw [a33 _ _ _ h]; rfl
    rw [u7, a05 _ _ _ (z6 ml L [])]
    have ho : a1k ml x = ⟨x.k, x.n, ⟨#[]⟩, x.f, x.t⟩ := by unfold a1k; simp [k33]
    rw [ho]
    unfold s4
    dsimp only
    refine e8 Tryz.func78 rfl rfl (Nat.le_of_ble_eq_true rfl) ?_
    refine l9 1 0 2 _ 9 1 L.length (wsS E) rfl rfl (.inr rfl) (show (1 : Nat) < 3 by decide) (show (0 : Nat) < 3 by decide) ?_
    simp [St.mvw]
    repeat' (first | refine d7 ?_ | refine b9 ?_ | refine a8 ?_ | refine b8 ?_ | refine f7 rfl ?_ | refine f6 rfl ?_ | ((first | refine d6 (fun K hK => ?_) | refine d8 f8 (fun K hK => ?_) | refine b7 (cp hr ?_) | refine a6 (dp hr ?_) | fail); simp -implicitDefEqProofs [k33, hL0, i4]) | refine hK _ ?_ | refine hK _ _ (by rfl) ?_ | fail)
    refine e7 (r8 [] rfl ?_); simp -implicitDefEqProofs [l4, g7, g9, k33] <;> try rfl
  by_cases k13 : x.k = 13
  · obtain ⟨acc, E2, a1, a2, a3, hr⟩ := p9 ml l hok L E hE (fun y hy => by have := hs2 y hy; omega) (by omega) (by omega) 0 0 (fun _ => rfl)
    rw [if_pos rfl, if_pos rfl] at hr
    have i4 := a3.2
    refine ⟨.mk (a1k ml x) acc, E2, fun h => ?_, a3, ?_⟩
    · rw [u7] at h; rw [a33 _ _ _ h, List.nil_append, a1 rfl h]
    rw [u7, a05 _ _ _ (z6 ml L l)]
    have ho : a1k ml x = ⟨x.k, x.n, x.s, x.f, x.t⟩ := by unfold a1k; simp [k13]
    rw [ho]
    clear a1 ho
    generalize s4 ml L l = g at hr ⊢
    obtain ⟨g0, g1, g2⟩ := g
    dsimp only at hr ⊢
    refine e8 Tryz.func78 rfl rfl (Nat.le_of_ble_eq_true rfl) ?_
    repeat' (first | refine d7 ?_ | refine b9 ?_ | refine a8 ?_ | refine b8 ?_ | refine f7 rfl ?_ | refine f6 rfl ?_ | ((first | refine d6 (fun K hK => ?_) | refine d8 f8 (fun K hK => ?_) | refine b7 (cgS hr 0 rfl ?_) | refine a6 (dgS hr 0 rfl ?_) | fail); simp -implicitDefEqProofs [k13, hL0, i4]) | refine hK _ ?_ | refine hK _ _ (by rfl) ?_ | fail)
    refine e7 (r8 [] rfl ?_); simp -implicitDefEqProofs [l4, g7, g9, k13] <;> try rfl
  by_cases k17 : x.k = 17
  · obtain ⟨acc, E2, a1, a2, a3, hr⟩ := p9 ml l hok L E hE (fun y hy => by have := hs2 y hy; omega) (by omega) (by omega) 0 0 (fun _ => rfl)
    rw [if_pos rfl, if_pos rfl] at hr
    have i4 := a3.2
    refine ⟨.mk (a1k ml x) acc, E2, fun h => ?_, a3, ?_⟩
    · rw [u7] at h; rw [a33 _ _ _ h, List.nil_append, a1 rfl h]
    rw [u7, a05 _ _ _ (z6 ml L l)]
    have ho : a1k ml x = ⟨x.k, x.n, x.s, x.f, x.t⟩ := by unfold a1k; simp [k17]
    rw [ho]
    clear a1 ho
    generalize s4 ml L l = g at hr ⊢
    obtain ⟨g0, g1, g2⟩ := g
    dsimp only at hr ⊢
    refine e8 Tryz.func78 rfl rfl (Nat.le_of_ble_eq_true rfl) ?_
    repeat' (first | refine d7 ?_ | refine b9 ?_ | refine a8 ?_ | refine b8 ?_ | refine f7 rfl ?_ | refine f6 rfl ?_ | ((first | refine d6 (fun K hK => ?_) | refine d8 f8 (fun K hK => ?_) | refine b7 (cgS hr 0 rfl ?_) | refine a6 (dgS hr 0 rfl ?_) | fail); simp -implicitDefEqProofs [k17, hL0, i4]) | refine hK _ ?_ | refine hK _ _ (by rfl) ?_ | fail)
    refine e7 (r8 [] rfl ?_); simp -implicitDefEqProofs [l4, g7, g9, k17] <;> try rfl
  obtain ⟨acc, E2, a1, a2, a3, hr⟩ := p9 ml l hok L E hE (fun y hy => by have := hs2 y hy; omega) (by omega) (by omega) 0 0 (fun _ => rfl)
  rw [if_pos rfl, if_pos rfl] at hr
  have i4 := a3.2
  refine ⟨.mk (a1k ml x) acc, E2, fun h => ?_, a3, ?_⟩
  · rw [u7] at h; rw [a33 _ _ _ h, List.nil_append, a1 rfl h]
  rw [u7, a05 _ _ _ (z6 ml L l)]
  have ho : a1k ml x = ⟨x.k, x.n, ⟨#[]⟩, x.f, x.t⟩ := by unfold a1k; simp [k19, k16, k15, k4, k29, k25, k33, k13, k17]
  rw [ho]
  clear a1 ho
  generalize s4 ml L l = g at hr ⊢
  obtain ⟨g0, g1, g2⟩ := g
  dsimp only at hr ⊢
  refine e8 Tryz.func78 rfl rfl (Nat.le_of_ble_eq_true rfl) ?_
  repeat' (first | refine d7 ?_ | refine b9 ?_ | refine a8 ?_ | refine b8 ?_ | refine f7 rfl ?_ | refine f6 rfl ?_ | ((first | refine d6 (fun K hK => ?_) | refine d8 f8 (fun K hK => ?_) | refine b7 (cgS hr 0 rfl ?_) | refine a6 (dgS hr 0 rfl ?_) | fail); simp -implicitDefEqProofs [k19, k16, k15, k4, k29, k25, k33, k13, k17, hL0, i4]) | refine hK _ ?_ | refine hK _ _ (by rfl) ?_ | fail)
  refine e7 (r8 [] rfl ?_); simp -implicitDefEqProofs [l4, g7, g9] <;> try rfl
structure Sp where
  acc : List VT
  M : List (Value × PT)
  E : List ByteArray
  pl : Int
  er : Int
noncomputable def spN (stp : Nat → Sp → Sp) (s0 : Sp) : Nat → Sp
  | 0 => s0
  | k + 1 => stp k (spN stp s0 k)
theorem okE0 (E : List ByteArray) : OkE [] E := ⟨rfl, Nat.zero_le _⟩
theorem c0u {ml l : List VT} (hp : ∀ q ∈ l, ∀ y ∈ q.kids, TOk ml y) (hsz : ∀ q ∈ l, q.size ≤ 100000) : ∃ (fa : Nat → List ByteArray → Int → Int → List VT) (fE : Nat → List ByteArray → Int → Int → List ByteArray), ∀ k q E a e, l[k]? = some q → (e = 0 → a = 0) → (e = 0 → (s4 ml [] q.kids).2.2 = 0 → fa k E a e = (s4 ml [] q.kids).1) ∧ (fa k E a e).length ≤ q.kids.length ∧ Row Tryz.prog 129 [vPt, vLs q.kids] [bxS 1 2 ml 0 a e, arS E, mpS ml] (.v (.c (.row 4 6 ((fa k E a e).map tc)))) [some (bxS 3 2 ml 0 (if e = 0 then (s4 ml [] q.kids).2.1 else a) (if e = 0 then (s4 ml [] q.kids).2.2 else e)), none, some (mpS ml), some (arS (fE k E a e)), some (.row 24 6)] := by
  have key : ∀ (k : Nat) (E : List ByteArray) (a e : Int), ∃ acc E', ∀ q, l[k]? = some q → (e = 0 → a = 0) → (e = 0 → (s4 ml [] q.kids).2.2 = 0 → acc = (s4 ml [] q.kids).1) ∧ acc.length ≤ q.kids.length ∧ Row Tryz.prog 129 [vPt, vLs q.kids] [bxS 1 2 ml 0 a e, arS E, mpS ml] (.v (.c (.row 4 6 (acc.map tc)))) [some (bxS 3 2 ml 0 (if e = 0 then (s4 ml [] q.kids).2.1 else a) (if e = 0 then (s4 ml [] q.kids).2.2 else e)), none, some (mpS ml), some (arS E'), some (.row 24 6)] := by
    intro k E a e
    by_cases hc : ∃ q, l[k]? = some q ∧ (e = 0 → a = 0)
    · obtain ⟨q, h1, h2⟩ := hc
      have hm := List.mem_of_getElem? h1
      obtain ⟨x, kl⟩ := q
      have h0 := hsz _ hm
      have hlen := Tr.len_size (x := x) (l := kl)
      obtain ⟨acc, E', b1, b2, b3, hr⟩ := p9 ml kl (hp _ hm) [] E (okE0 E) (fun y hy => by
        obtain ⟨i, hi⟩ := List.mem_iff_getElem?.1 hy
        have := Tr.size_at (x := x) hi
        simp; omega) (by omega) (by simp) a e h2
      exact ⟨acc, E', fun q hq _ => by rw [h1] at hq; cases hq; exact ⟨b1, b2, hr⟩⟩
    · exact ⟨[], [], fun q h1 h2 => absurd ⟨q, h1, h2⟩ hc⟩
  exact ⟨fun k E a e => Classical.choose (key k E a e), fun k E a e => Classical.choose (Classical.choose_spec (key k E a e)), fun k q E a e h1 h2 => Classical.choose_spec (Classical.choose_spec (key k E a e)) q h1 h2⟩
def twP (M : List (Value × PT)) (y : VT) (p e : Int) : Int × Int := match a3v M (.string y.lab.s) with
  | some _ => (if e = 0 then y.lab.f else p, if e = 0 then 9 else e)
  | none => (p, e)
noncomputable def stP (ml l : List VT) (fa : Nat → List ByteArray → Int → Int → List VT) (fE : Nat → List ByteArray → Int → Int → List ByteArray) (k : Nat) (s : Sp) : Sp :=
  let y := l.getD k z0T
  let t := twP s.M y s.pl s.er
  ⟨s.acc ++ [.mk y.lab (fa k s.E t.1 t.2)], b0x s.M (.string y.lab.s) (.c (I (k : Nat))), fE k s.E t.1 t.2, if t.2 = 0 then (s4 ml [] y.kids).2.1 else t.1, if t.2 = 0 then (s4 ml [] y.kids).2.2 else t.2⟩
structure InvSp (ml l : List VT) (k : Nat) (s : Sp) : Prop where
  len : s.acc.length = k
  pl : s.pl = (a0n ml true [] (l.take k)).2.1
  er : s.er = (a0n ml true [] (l.take k)).2.2
  acc : s.er = 0 → s.acc = (a0n ml true [] (l.take k)).1 ∧ s.M = plF 0 (l.take k) ∧ s.pl = 0
theorem b3l (ml : List VT) {x : Lab} {l : List VT} (hk : x.k = 34) : n8 ml (.mk x l) [] = a2d ⟨x.k, x.n, ⟨#[]⟩, x.f, x.t⟩ [] (s4 ml [] l) := by
  rw [a3j, if_neg (by omega), if_neg (by unfold b4c; simp [hk]), a0q ml x [] (by omega) l 0 [] [] (fun e => by omega)]
  congr 1
  unfold a1k
  simp [hk]
theorem b8q {ml l : List VT} (hk : ∀ q ∈ l, q.lab.k = 34) {E : List ByteArray} {fa : Nat → List ByteArray → Int → Int → List VT} {fE : Nat → List ByteArray → Int → Int → List ByteArray} (hf : ∀ k q E a e, l[k]? = some q → (e = 0 → a = 0) → (e = 0 → (s4 ml [] q.kids).2.2 = 0 → fa k E a e = (s4 ml [] q.kids).1)) : ∀ k, k ≤ l.length → InvSp ml l k (spN (stP ml l fa fE) ⟨[], [], E, 0, 0⟩ k)
  | 0, _ => ⟨rfl, rfl, rfl, fun _ => ⟨rfl, rfl, rfl⟩⟩
  | k + 1, hkl => by
    have ih := b8q (E := E) (fE := fE) hk hf k (by omega)
    obtain ⟨y, hy⟩ : ∃ y, l[k]? = some y := ⟨_, List.getElem?_eq_getElem (by omega)⟩
    have hgd : l.getD k z0T = y := by rw [List.getD_eq_getElem?_getD, hy]; rfl
    have htk : l.take (k + 1) = l.take k ++ [y] := by rw [List.take_add_one, hy]; rfl
    have hy34 := hk y (List.mem_of_getElem? hy)
    obtain ⟨x, kl⟩ := y
    rw [Tr.lab] at hy34
    have hs := a90 ml true (.mk x kl) (l.take k) []
    rw [← htk, b3l ml hy34, List.nil_append, u7, Tr.lab] at hs
    unfold spN
    generalize spN (stP ml l fa fE) ⟨[], [], E, 0, 0⟩ k = s at ih
    obtain ⟨len, pl, er, acc⟩ := ih
    unfold stP
    rw [hgd]
    dsimp only [Tr.lab, Tr.kids]
    have hlt : (l.take k).length = k := by rw [List.length_take]; omega
    by_cases h0 : s.er = 0
    · obtain ⟨q1, q2, q3⟩ := acc h0
      rw [if_neg (by rw [← er]; simpa using h0)] at hs
      have hlk := a4k x.s (l.take k) 0
      cases hd : a6u ((l.take k).map (·.lab.s)) x.s with
      | true =>
        rw [if_pos hd] at hs
        have hdn : dcl (l.take k) x.s ≠ none := fun h => by rw [a4h.1 h] at hd; cases hd
        obtain ⟨i, hi⟩ : ∃ i, dcl (l.take k) x.s = some i := by
          cases hq : dcl (l.take k) x.s with
          | none => exact absurd hq hdn
          | some i => exact ⟨i, rfl⟩
        rw [hi, Option.map_some, ← q2] at hlk
        have ht : twP s.M (.mk x kl) s.pl s.er = (x.f, 9) := by unfold twP; rw [Tr.lab, hlk]; simp [h0]
        rw [ht]
        dsimp only
        refine ⟨by simp [len], ?_, ?_, fun h => absurd (show (9 : Int) = 0 from h) (by decide)⟩
        · rw [hs]; rfl
        · rw [hs]; rfl
      | false =>
        rw [if_neg (by rw [hd]; decide)] at hs
        rw [a4h.2 hd, Option.map_none, ← q2] at hlk
        have ht : twP s.M (.mk x kl) s.pl s.er = (0, 0) := by unfold twP; rw [Tr.lab, hlk]; simp [h0, q3]
        rw [ht]
        dsimp only
        rw [if_pos rfl, if_pos rfl]
        have hfa := hf k _ s.E 0 0 hy (fun _ => rfl) rfl
        rw [Tr.kids] at hfa
        by_cases h2 : (s4 ml [] kl).2.2 = 0
        · rw [if_neg (by simpa using h2), a33 _ _ _ h2] at hs
          refine ⟨by simp [len], ?_, ?_, fun _ => ⟨?_, ?_, z6 ml [] kl h2⟩⟩
          · rw [hs]; exact z6 ml [] kl h2
          · rw [hs]; exact h2
          · rw [hs, q1, hfa h2]
            dsimp only
            unfold c04
            rw [if_pos rfl]
            simp [Tr.lab, Tr.kids]
          · rw [b1z x.s _ _ hlk, q2, htk, a8c]
            simp [Tr.lab, hlt]
        · rw [if_pos h2, a05 _ _ _ (z6 ml [] kl)] at hs
          refine ⟨by simp [len], ?_, ?_, fun h => absurd h h2⟩
          · rw [hs]
          · rw [hs]
    · rw [if_pos (by rw [← er]; exact h0)] at hs
      have ht : twP s.M (.mk x kl) s.pl s.er = (s.pl, s.er) := by unfold twP; rw [Tr.lab]; split <;> simp [h0]
      rw [ht]
      dsimp only
      rw [if_neg h0, if_neg h0]
      refine ⟨by simp [len], ?_, ?_, fun h => absurd h h0⟩
      · rw [hs]; exact pl
      · rw [hs]; exact er
theorem a69 (ml l : List VT) (hk : ∀ q ∈ l, q.lab.k = 34) (hp : ∀ q ∈ l, ∀ y ∈ q.kids, TOk ml y) (hsz : ∀ q ∈ l, q.size ≤ 100000) (hlen : l.length ≤ 100000) (E : List ByteArray) : ∃ acc E', ((a0n ml true [] l).2.2 = 0 → acc = (a0n ml true [] l).1) ∧ acc.length = l.length ∧ Row Tryz.prog 77 [vPt, vLs l] [bxS 1 2 ml 0 0 0, arS E, mpS ml] (.v (.c (.arr 4 6 l.length))) [some (bxS 3 2 ml 0 (a0n ml true [] l).2.1 (a0n ml true [] l).2.2), none, some (mpS ml), some (arS E'), some (.arr 24 6 (acc.map tc))] := by
  obtain ⟨fa, fE, hf⟩ := c0u (ml := ml) (l := l) hp hsz
  have hinv := b8q (ml := ml) (l := l) (E := E) (fE := fE) hk (fun k q E a e h1 h2 => (hf k q E a e h1 h2).1)
  have hstp : ∀ k, spN (stP ml l fa fE) ⟨[], [], E, 0, 0⟩ (k + 1) = stP ml l fa fE k (spN (stP ml l fa fE) ⟨[], [], E, 0, 0⟩ k) := fun k => rfl
  have h00 : spN (stP ml l fa fE) ⟨[], [], E, 0, 0⟩ 0 = ⟨[], [], E, 0, 0⟩ := rfl
  obtain ⟨S, hS⟩ : ∃ S, spN (stP ml l fa fE) ⟨[], [], E, 0, 0⟩ = S := ⟨_, rfl⟩
  rw [hS] at hinv hstp h00
  have hend := hinv l.length (Nat.le_refl _)
  have e1 := hend.pl
  have e2 := hend.er
  rw [List.take_length] at e1 e2
  refine ⟨(S l.length).acc, (S l.length).E, fun h1 => ?_, hend.len, ?_⟩
  · have := (hend.acc (by rw [e2]; exact h1)).1
    rw [List.take_length] at this; exact this
  rw [← e1, ← e2]
  have hll := hend.len
  clear e1 e2 hend hS
  have c1 : (S 0).acc = [] := by rw [h00]
  have c2 : (S 0).E = E := by rw [h00]
  have c3 : (S 0).pl = 0 := by rw [h00]
  have c4 : (S 0).er = 0 := by rw [h00]
  have c5 : (S 0).M = [] := by rw [h00]
  refine e8 Tryz.func77 rfl rfl (Nat.le_of_ble_eq_true rfl) ?_
  repeat (first | refine d7 ?_ | refine b9 ?_ | refine a8 ?_ | refine b8 ?_ | refine f7 rfl ?_ | refine f6 rfl ?_ | ((first | refine d6 (fun K hK => ?_) | refine d8 f8 (fun K hK => ?_) | fail); simp -implicitDefEqProofs; first | refine hK _ ?_ | refine hK _ _ (by rfl) ?_ | fail) | fail)
  refine l9 1 0 2 _ 9 1 0 (wsS E) rfl rfl (.inr rfl) (by dsimp only; omega) (by dsimp only; omega) ?_
  simp [St.mvw]
  refine c33 6 24 6 (by simp) ?_
  refine v7 (ι := Nat) (fun k => a0w [(0, vPt), (5, .v (.c (.map 4))), (6, .v (.c (.arr 5 6 k))), (12, vLs l), (13, vI (l.length : Nat)), (14, vI (k : Nat))] [some (bxS 3 2 ml 0 (S k).pl (S k).er), none, some (mpS ml), some (arS (S k).E), some (.mp none (S k).M), some (.arr 24 6 ((S k).acc.map tc))]) (fun k => k ≤ l.length) (fun k => l.length - k) 0 (Nat.zero_le _) (by rw [c1, c2, c3, c4, c5]; unfold St.nila; exact a17 [4, 11] rfl (by simp -implicitDefEqProofs) (by simp -implicitDefEqProofs) (by first | decide | (simp; done)) rfl (by simp)) (fun Z hI k hk => ?_)
  by_cases hkl : k < l.length; rotate_left
  · have : k = l.length := by omega
    subst this
    repeat (first | refine d7 ?_ | refine b9 ?_ | refine a8 ?_ | refine b8 ?_ | refine f7 rfl ?_ | refine f6 rfl ?_ | ((first | refine d6 (fun K hK => ?_) | refine d8 f8 (fun K hK => ?_) | fail); simp -implicitDefEqProofs; first | refine hK _ ?_ | refine hK _ _ (by rfl) ?_ | fail) | fail)
    refine e7 (r8 [5] rfl ?_); simp -implicitDefEqProofs [l4, g7, g9, hll] <;> try rfl
  obtain ⟨⟨ax, al⟩, hy⟩ : ∃ a, l[k]? = some a := ⟨_, List.getElem?_eq_getElem hkl⟩
  have hy' := (List.getElem?_eq_some_iff.1 hy).2
  have w2 : IntKind.i64.wrap ((k : Nat) + 1 : Int) = (k : Nat) + 1 := v6 _ (by omega) (by omega)
  have hi := hinv k hk
  have hs := hstp k
  have hgd : l.getD k z0T = .mk ax al := by rw [List.getD_eq_getElem?_getD, hy]; rfl
  have hp0 : (S k).er = 0 → (S k).pl = 0 := fun h => (hi.acc h).2.2
  have len := hi.len
  obtain ⟨s, hsk⟩ : ∃ s, S k = s := ⟨_, rfl⟩
  rw [hsk] at hs hp0 len ⊢
  clear hi hinv
  obtain ⟨acc, M, E', p, q⟩ := s
  dsimp only at hs hp0 len ⊢
  unfold stP at hs
  rw [hgd] at hs
  dsimp only [Tr.lab, Tr.kids] at hs
  have b1 : (k + 1) * 72 ≤ 140737488355328 := by omega
  have b2 : k + 1 ≤ 140737488355328 := by omega
  cases hm : a3v M (.string ax.s) with
  | none =>
    have ht : twP M (.mk ax al) p q = (p, q) := by unfold twP; rw [Tr.lab, hm]
    rw [ht] at hs
    dsimp only at hs
    have hr := (hf k _ E' p q hy hp0).2
    obtain ⟨-, hr⟩ := hr
    rw [Tr.kids] at hr
    obtain ⟨F, hF⟩ : ∃ F, fa k E' p q = F := ⟨_, rfl⟩
    obtain ⟨E2, hE2⟩ : ∃ E2, fE k E' p q = E2 := ⟨_, rfl⟩
    obtain ⟨p2, hp2⟩ : ∃ p2, (if q = 0 then (s4 ml [] al).2.1 else p) = p2 := ⟨_, rfl⟩
    obtain ⟨q2, hq2⟩ : ∃ q2, (if q = 0 then (s4 ml [] al).2.2 else q) = q2 := ⟨_, rfl⟩
    rw [hF, hE2, hp2, hq2] at hr hs
    repeat' (first | refine d7 ?_ | refine b9 ?_ | refine a8 ?_ | refine b8 ?_ | refine f7 rfl ?_ | refine f6 rfl ?_ | ((first | refine d6 (fun K hK => ?_) | refine d8 f8 (fun K hK => ?_) | refine b7 (cgS hr 0 rfl ?_) | refine a6 (dgS hr 0 rfl ?_) | fail); simp -implicitDefEqProofs [hkl, hy, hy', w2, b1, b2, hm, len]) | refine hK _ ?_ | refine hK _ _ (by rfl) ?_ | fail)
    refine ⟨k + 1, by omega, (by dsimp only; omega), ?_⟩
    rw [hI, hs]; exact a17 [4, 44] rfl (by simp -implicitDefEqProofs) (by simp -implicitDefEqProofs) (by first | decide | (simp; done)) rfl (by simp)
  | some z =>
    have ht : twP M (.mk ax al) p q = (if q = 0 then ax.f else p, if q = 0 then 9 else q) := by unfold twP; rw [Tr.lab, hm]
    rw [ht] at hs
    dsimp only at hs
    have hfl := b0b ml 0 p q E' ax al 9
    obtain ⟨p1, hp1⟩ : ∃ p1, (if q = 0 then ax.f else p) = p1 := ⟨_, rfl⟩
    obtain ⟨q1, hq1⟩ : ∃ q1, (if q = 0 then (9 : Int) else q) = q1 := ⟨_, rfl⟩
    rw [hp1, hq1] at hs hfl
    have hq1' : q1 = 0 → p1 = 0 := fun h => by
      rw [← hq1] at h
      by_cases c : q = 0
      · rw [if_pos c] at h; exact absurd h (by decide)
      · rw [if_neg c] at h; exact absurd h c
    have hr := (hf k _ E' p1 q1 hy hq1').2
    obtain ⟨-, hr⟩ := hr
    rw [Tr.kids] at hr
    obtain ⟨F, hF⟩ : ∃ F, fa k E' p1 q1 = F := ⟨_, rfl⟩
    obtain ⟨E2, hE2⟩ : ∃ E2, fE k E' p1 q1 = E2 := ⟨_, rfl⟩
    obtain ⟨p2, hp2⟩ : ∃ p2, (if q1 = 0 then (s4 ml [] al).2.1 else p1) = p2 := ⟨_, rfl⟩
    obtain ⟨q2, hq2⟩ : ∃ q2, (if q1 = 0 then (s4 ml [] al).2.2 else q1) = q2 := ⟨_, rfl⟩
    rw [hF, hE2, hp2, hq2] at hr hs
    clear hp1 hq1 hq1' ht
    repeat' (first | refine d7 ?_ | refine b9 ?_ | refine a8 ?_ | refine b8 ?_ | refine f7 rfl ?_ | refine f6 rfl ?_ | ((first | refine d6 (fun K hK => ?_) | refine d8 f8 (fun K hK => ?_) | refine b7 (cgS hfl 0 rfl ?_) | refine a6 (dgS hfl 0 rfl ?_) | refine b7 (cgS hr 0 rfl ?_) | refine a6 (dgS hr 0 rfl ?_) | fail); simp -implicitDefEqProofs [hkl, hy, hy', w2, b1, b2, hm, len]) | refine hK _ ?_ | refine hK _ _ (by rfl) ?_ | fail)
    refine ⟨k + 1, by omega, (by dsimp only; omega), ?_⟩
    rw [hI, hs]; exact a17 [4, 54] rfl (by simp -implicitDefEqProofs) (by simp -implicitDefEqProofs) (by first | decide | (simp; done)) rfl (by simp)
theorem b8e (ml : List VT) (l : List VT) (h : ∀ y ∈ l, TOk ml y) (A : Nat) (Nm : List ByteArray) (E : List ByteArray) (hsz : ∀ y ∈ l, Nm.length + y.size ≤ 100000) (hlen : l.length ≤ 100000) (hA : A ≤ 2) (hL : Nm.length ≤ 100000) (a e : Int) (he : e ≠ 0) : ∃ acc E', OkE Nm E' ∧ acc.length ≤ l.length ∧ Row Tryz.prog 133 [vPt, vLs l, vI (A : Nat), vSs Nm] [bxS 1 2 ml 0 a e, arS E, mpS ml] (vLs acc) [some (bxS 3 2 ml Nm.length a e), none, some (mpS ml), some (arS E')] := by
  obtain ⟨acc1, E1, a1, a2, a3, r1⟩ := p9 ml (l.take A) (fun y hy => h y (List.mem_of_mem_take hy)) [] E (okE0 E) (fun y hy => by have := hsz y (List.mem_of_mem_take hy); simp; omega) (by rw [List.length_take]; omega) (by simp) a e (fun h => absurd h he)
  rw [if_neg he, if_neg he] at r1
  have hE2 : OkE Nm Nm := ⟨List.take_length, Nat.le_refl _⟩
  obtain ⟨acc2, E3, b1, b2, b3, r2⟩ := p9 ml (l.drop A) (fun y hy => h y (List.mem_of_mem_drop hy)) Nm Nm hE2 (fun y hy => hsz y (List.mem_of_mem_drop hy)) (by rw [List.length_drop]; omega) hL a e (fun h => absurd h he)
  rw [if_neg he, if_neg he] at r2
  rw [List.length_take] at a2
  rw [List.length_drop] at b2
  rw [List.length_nil] at r1
  have hacc : acc1.length + acc2.length ≤ l.length := by omega
  refine ⟨acc1 ++ acc2, E3, b3, by rw [List.length_append]; exact hacc, ?_⟩
  have hmin : (if l.length < A then (l.length : Int) else (A : Nat)) = ((min A l.length : Nat) : Int) := by
    by_cases c : l.length < A
    · rw [if_pos c]; omega
    · rw [if_neg c]; omega
  obtain ⟨B, hB⟩ : ∃ B, min A l.length = B := ⟨_, rfl⟩
  rw [hB] at hmin
  have hBl : B ≤ l.length := by omega
  have hBl' : (B : Int) ≤ (l.length : Nat) := by omega
  have hB0 : (0 : Int) ≤ (B : Nat) := by omega
  have ht : l.take A = l.take B := by rw [← hB]; simp [List.take_eq_take_iff]
  have hd : l.drop A = l.drop B := by
    rw [← hB]
    by_cases c : A ≤ l.length
    · rw [Nat.min_eq_left c]
    · rw [Nat.min_eq_right (by omega), List.drop_length, List.drop_eq_nil_of_le (by omega)]
  rw [ht] at r1
  rw [hd] at r2
  have c1 : Nm.length * 16 ≤ 140737488355328 := by omega
  have c2 : Nm.length ≤ 140737488355328 := by omega
  have c3 : (acc1.length + acc2.length) * 72 ≤ 140737488355328 := by omega
  have c4 : acc1.length + acc2.length ≤ 140737488355328 := by omega
  refine e8 Tryz.func133 rfl rfl (Nat.le_of_ble_eq_true rfl) ?_
  refine d7 ?_; (first | refine d6 (fun K hK => ?_) | refine d8 f8 (fun K hK => ?_) | fail); simp -implicitDefEqProofs [hmin, hBl, hBl', hB0]; repeat' (first | refine hK _ ?_ | refine hK _ _ (by rfl) ?_ | ((first | fail); simp -implicitDefEqProofs [hmin, hBl, hBl', hB0]) | fail)
  refine d7 ?_; (first | refine d6 (fun K hK => ?_) | refine d8 f8 (fun K hK => ?_) | fail); simp -implicitDefEqProofs [hmin, hBl, hBl', hB0]; repeat' (first | refine hK _ ?_ | refine hK _ _ (by rfl) ?_ | ((first | fail); simp -implicitDefEqProofs [hmin, hBl, hBl', hB0]) | fail)
  refine d7 ?_; (first | refine d6 (fun K hK => ?_) | refine d8 f8 (fun K hK => ?_) | fail); simp -implicitDefEqProofs [hmin, hBl, hBl', hB0]; repeat' (first | refine hK _ ?_ | refine hK _ _ (by rfl) ?_ | ((first | refine b7 (cgS r1 0 rfl ?_) | refine a6 (dgS r1 0 rfl ?_) | fail); simp -implicitDefEqProofs [hmin, hBl, hBl', hB0]) | fail)
  refine d7 ?_; (first | refine d6 (fun K hK => ?_) | refine d8 f8 (fun K hK => ?_) | fail); simp -implicitDefEqProofs [hmin, c1, c2]; repeat' (first | refine hK _ ?_ | refine hK _ _ (by rfl) ?_ | ((first | fail); simp -implicitDefEqProofs [hmin, c1, c2]) | fail)
  refine l9 28 0 2 _ 9 1 Nm.length (wsS Nm) rfl rfl (.inl rfl) (by dsimp only; omega) (by dsimp only; omega) ?_
  simp [St.mvw]
  repeat' (first | refine d7 ?_ | refine b9 ?_ | refine a8 ?_ | refine b8 ?_ | refine f7 rfl ?_ | refine f6 rfl ?_ | ((first | refine d6 (fun K hK => ?_) | refine d8 f8 (fun K hK => ?_) | refine b7 (cgS r2 0 rfl ?_) | refine a6 (dgS r2 0 rfl ?_) | fail); simp -implicitDefEqProofs [hBl, hBl', hB0, c3, c4]) | refine hK _ ?_ | refine hK _ _ (by rfl) ?_ | fail)
  refine e7 (r8 [] rfl ?_); simp -implicitDefEqProofs [l4, g7, g9] <;> try rfl
noncomputable def b9v (q : VT) : VT := .mk { q.lab with s := ⟨#[]⟩ } q.kids
theorem a91 (ml : List VT) : ∀ (l : List VT) (seen : List ByteArray), (∀ q ∈ l, q.lab.k = 34) → (a0n ml false seen l).2 = (a0n ml true seen l).2 ∧ ((a0n ml true seen l).2.2 = 0 → (a0n ml false seen l).1 = (a0n ml true seen l).1.map b9v)
  | [], seen, _ => ⟨rfl, fun _ => rfl⟩
  | y :: l, seen, hk => by
    have ih := a91 ml l (seen ++ [y.lab.s]) (fun q hq => hk q (.tail _ hq))
    have hk0 := hk y (.head _)
    unfold a0n
    by_cases c : a6u seen y.lab.s = true
    · rw [if_pos c, if_pos c]; exact ⟨rfl, fun h => absurd (show (9 : Int) = 0 from h) (by decide)⟩
    rw [if_neg c, if_neg c]
    by_cases d : (n8 ml y []).er = 0
    · have hd : ¬ (n8 ml y []).er ≠ 0 := by simpa using d
      simp only [if_neg hd, ih.1]
      by_cases e : (a0n ml true (seen ++ [y.lab.s]) l).2.2 = 0
      · have he : ¬ (a0n ml true (seen ++ [y.lab.s]) l).2.2 ≠ 0 := by simpa using e
        simp only [if_neg he]
        refine ⟨by trivial, fun _ => ?_⟩
        rw [List.map_cons, ih.2 e]
        congr 1
        obtain ⟨x, kl⟩ := y
        rw [Tr.lab] at hk0
        rw [b3l ml hk0] at d ⊢
        rw [u7] at d
        rw [a33 _ _ _ d]
        unfold c04 b9v
        simp [Tr.lab, Tr.kids]
      · have he : (a0n ml true (seen ++ [y.lab.s]) l).2.2 ≠ 0 := e
        simp only [if_pos he]; exact ⟨by trivial, fun h => absurd h e⟩
    · have hd : (n8 ml y []).er ≠ 0 := d
      simp only [if_pos hd]; exact ⟨by trivial, fun h => absurd h d⟩
theorem b3m (ml : List VT) (keep : Bool) : ∀ (l : List VT) (seen : List ByteArray), (a0n ml keep seen l).2.2 = 0 → (a0n ml keep seen l).2.1 = 0
  | [], seen, _ => rfl
  | y :: l, seen, h => by
    unfold a0n at h ⊢
    split
    · rename_i c; rw [if_pos c] at h; exact absurd (show (9 : Int) = 0 from h) (by decide)
    rename_i c; rw [if_neg c] at h
    split
    · rename_i d; rw [if_pos d] at h; exact absurd h d
    rename_i d; rw [if_neg d] at h
    split
    · rename_i e; rw [if_pos e] at h; exact absurd h e
    · rfl
noncomputable def a1o (ml : List VT) (pl : List VT) (r b : VT) : LR := if (a0n ml true [] pl).2.2 ≠ 0 then ([], (a0n ml true [] pl).2) else thn (s4 ml [] [r]) (s4 ml (pl.map (·.lab.s)) [b])
noncomputable def b2c (l : List VT) (k : Nat) : List VT := (l.take k).map b9v ++ l.drop k
theorem c5p {l : List VT} {k : Nat} {y : VT} (h : l[k]? = some y) : (b2c l k)[k]? = some y := by
  have hl := (List.getElem?_eq_some_iff.1 h).1
  unfold b2c
  rw [List.getElem?_append_right (by simp; omega)]
  simp [Nat.min_eq_left (Nat.le_of_lt hl), h]
theorem c1u {l : List VT} {k : Nat} {y : VT} (h : l[k]? = some y) : (b2c l k).set k (b9v y) = b2c l (k + 1) := by
  have hl := (List.getElem?_eq_some_iff.1 h).1
  have hy := (List.getElem?_eq_some_iff.1 h).2
  unfold b2c
  rw [List.set_append_right _ _ (by simp; omega), List.length_map, List.length_take, Nat.min_eq_left (Nat.le_of_lt hl), Nat.sub_self, List.drop_eq_getElem_cons hl, hy, List.set_cons_zero, List.take_add_one, h, List.map_append]
  simp
theorem b8l (ml : List VT) (p : Lab) (pl : List VT) (r b : VT) (hk : ∀ q ∈ pl, q.lab.k = 34) (hp : ∀ q ∈ pl, ∀ y ∈ q.kids, TOk ml y) (hr : TOk ml r) (hb : TOk ml b) (hsz : ∀ q ∈ pl, q.size ≤ 50000) (hlen : pl.length ≤ 40000) (hr1 : r.size ≤ 50000) (hb1 : b.size ≤ 50000) (E : List ByteArray) : ∃ acc E', ((a1o ml pl r b).2.2 = 0 → acc = .mk { p with s := ⟨#[]⟩ } ((a0n ml true [] pl).1.map b9v) :: (a1o ml pl r b).1) ∧ OkE (pl.map (·.lab.s)) E' ∧ Row Tryz.prog 134 [vPt, vLs [.mk p pl, r, b]] [bxS 1 2 ml 0 0 0, arS E, mpS ml] (vLs acc) [some (bxS 3 2 ml pl.length (a1o ml pl r b).2.1 (a1o ml pl r b).2.2), none, some (mpS ml), some (arS E')] := by
  obtain ⟨accP, EP, a1, a2, r1⟩ := a69 ml pl hk hp (fun q hq => by have := hsz q hq; omega) (by omega) E
  obtain ⟨Nm, hNm⟩ : ∃ Nm, pl.map (·.lab.s) = Nm := ⟨_, rfl⟩
  have hNl : Nm.length = pl.length := by rw [← hNm, List.length_map]
  have hrb : ∀ y ∈ [r, b], TOk ml y := fun y hy => by simp at hy; rcases hy with rfl | rfl <;> assumption
  have hrbs : ∀ y ∈ [r, b], y.size ≤ 50000 := fun y hy => by simp at hy; rcases hy with rfl | rfl <;> assumption
  obtain ⟨accA, EA, b1, b2, b3, r2⟩ : ∃ accA EA, ((a1o ml pl r b).2.2 = 0 → accA = (a1o ml pl r b).1) ∧ OkE Nm EA ∧ accA.length ≤ 2 ∧ Row Tryz.prog 133 [vPt, vLs [r, b], vI ((1 : Nat) : Int), vSs Nm] [bxS 1 2 ml 0 (a0n ml true [] pl).2.1 (a0n ml true [] pl).2.2, arS EP, mpS ml] (vLs accA) [some (bxS 3 2 ml Nm.length (a1o ml pl r b).2.1 (a1o ml pl r b).2.2), none, some (mpS ml), some (arS EA)] := by
    unfold a1o
    rw [hNm]
    by_cases h0 : (a0n ml true [] pl).2.2 = 0
    · rw [if_neg (by simpa using h0), h0, b3m ml true pl [] h0]
      obtain ⟨acc, E', c1, c2, hrow, c3⟩ := a98 ml [r, b] hrb 1 Nm [] EP (okE0 EP) (fun y hy => by have := hrbs y hy; simp; omega) (by simp) (by simp; omega) (by omega)
      rw [List.nil_append, show [r, b].take 1 = [r] from rfl, show [r, b].drop 1 = [b] from rfl, List.length_nil, Nat.zero_add] at hrow
      rw [List.nil_append] at c2
      rw [List.nil_append, show [r, b].take 1 = [r] from rfl, show [r, b].drop 1 = [b] from rfl] at c1
      exact ⟨acc, E', c1, c2, c3, hrow⟩
    · rw [if_pos h0]
      obtain ⟨acc, E', c2, c3, hrow⟩ := b8e ml [r, b] hrb 1 Nm EP (fun y hy => by have := hrbs y hy; omega) (by simp) (by omega) (by omega) _ _ h0
      exact ⟨acc, E', fun h => absurd h h0, c2, c3, hrow⟩
  obtain ⟨⟨rx, rl⟩, rfl⟩ : ∃ u, u = r := ⟨_, rfl⟩
  obtain ⟨⟨bx, bl⟩, rfl⟩ : ∃ u, u = b := ⟨_, rfl⟩
  refine ⟨.mk { p with s := ⟨#[]⟩ } (accP.map b9v) :: accA, EA, fun h => ?_, by rw [hNm]; exact b2, ?_⟩
  · rw [b1 h, a1 (by
      unfold a1o at h
      by_cases h0 : (a0n ml true [] pl).2.2 = 0
      · exact h0
      · rw [if_pos h0] at h; exact absurd h h0)]
  rw [← hNl]
  generalize a1o ml pl (.mk rx rl) (.mk bx bl) = G at r2 ⊢
  obtain ⟨g0, g1, g2⟩ := G
  generalize a0n ml true [] pl = Q at r1 r2
  obtain ⟨q0, q1, q2⟩ := Q
  dsimp only at r1 r2 ⊢
  clear b1 a1 hrb hrbs hp hk hr hb
  have hNt : ∀ k, k < pl.length → ∀ y, pl[k]? = some y → Nm.take (k + 1) = Nm.take k ++ [y.lab.s] := fun k hk y hy => by
    rw [List.take_add_one, ← hNm, List.getElem?_map, hy]; rfl
  have hNf : Nm.take pl.length = Nm := by rw [← hNl, List.take_length]
  have l3 : (1 : Int) ≤ 3 := by decide
  refine e8 Tryz.func134 rfl rfl (Nat.le_of_ble_eq_true rfl) ?_
  repeat (first | refine d7 ?_ | refine b9 ?_ | refine a8 ?_ | refine b8 ?_ | refine f7 rfl ?_ | refine f6 rfl ?_ | ((first | refine d6 (fun K hK => ?_) | refine d8 f8 (fun K hK => ?_) | fail); simp -implicitDefEqProofs; first | refine hK _ ?_ | refine hK _ _ (by rfl) ?_ | fail) | fail)
  refine l9 1 0 2 _ 9 1 0 (wsS E) rfl rfl (.inr rfl) (by dsimp only; omega) (by dsimp only; omega) ?_
  simp [St.mvw]
  refine a9f 6 9 1 (by simp) ?_
  refine v7 (ι := Nat) (fun k => a0w [(0, vPt), (1, vLs [.mk p pl, .mk rx rl, .mk bx bl]), (5, .v (.c (.ptr 4 0))), (6, .v (.c (.row 5 1 (wsS (Nm.take k))))), (17, vLs pl), (18, vI (pl.length : Nat)), (19, vI (k : Nat))] [some (bxS 3 2 ml 0 0 0), none, some (mpS ml), some (arS E), some (.box (ta (.mk p pl))), some (.row 9 1)]) (fun k => k ≤ pl.length) (fun k => pl.length - k) 0 (Nat.zero_le _) (by unfold St.nil; exact a17 [10, 18] rfl (by simp -implicitDefEqProofs) (by simp -implicitDefEqProofs) (by first | decide | (simp; done)) rfl (by simp)) (fun Z hI k hk => ?_)
  by_cases hkl : k < pl.length
  · obtain ⟨⟨ax, al⟩, hy⟩ : ∃ a, pl[k]? = some a := ⟨_, List.getElem?_eq_getElem hkl⟩
    have hy' := (List.getElem?_eq_some_iff.1 hy).2
    have w2 : IntKind.i64.wrap ((k : Nat) + 1 : Int) = (k : Nat) + 1 := v6 _ (by omega) (by omega)
    have hn := hNt k hkl _ hy
    rw [Tr.lab] at hn
    have hln : (Nm.take k).length = k := by rw [List.length_take]; omega
    obtain ⟨W, hW⟩ : ∃ W, Nm.take k = W := ⟨_, rfl⟩
    rw [hW] at hn hln ⊢
    have c1 : (k + 1) * 16 ≤ 140737488355328 := by omega
    have c2 : k + 1 ≤ 140737488355328 := by omega
    repeat (first | refine d7 ?_ | refine b9 ?_ | refine a8 ?_ | refine b8 ?_ | refine f7 rfl ?_ | refine f6 rfl ?_ | ((first | refine d6 (fun K hK => ?_) | refine d8 f8 (fun K hK => ?_) | fail); simp -implicitDefEqProofs [hkl, hy, hy', w2, hln, c1, c2]; first | refine hK _ ?_ | refine hK _ _ (by rfl) ?_ | fail) | fail)
    refine ⟨k + 1, by omega, (by dsimp only; omega), ?_⟩
    rw [hI, hn]; exact a17 [4, 15] rfl (by simp -implicitDefEqProofs) (by simp -implicitDefEqProofs) (by first | decide | (simp; done)) rfl (by simp)
  have : k = pl.length := by omega
  subst this
  rw [hNf]
  repeat' (first | refine d7 ?_ | refine b9 ?_ | refine a8 ?_ | refine b8 ?_ | refine f7 rfl ?_ | refine f6 rfl ?_ | ((first | refine d6 (fun K hK => ?_) | refine d8 f8 (fun K hK => ?_) | refine b7 (cgS r1 0 rfl ?_) | refine a6 (dgS r1 0 rfl ?_) | fail); simp -implicitDefEqProofs) | refine hK _ ?_ | refine hK _ _ (by rfl) ?_ | fail)
  clear r1
  have s0 : b2c accP 0 = accP := by unfold b2c; simp
  have sN : b2c accP pl.length = accP.map b9v := by unfold b2c; rw [← a2, List.take_length, List.drop_length, List.append_nil]
  have sL : ∀ k, (b2c accP k).length = pl.length := fun k => by unfold b2c; simp; omega
  refine v7 (ι := Nat) (fun k => a0w [(0, vPt), (1, vLs [.mk p pl, .mk rx rl, .mk bx bl]), (5, .v (.c (.ptr 4 0))), (6, .v (.c (.row 5 1 (wsS Nm)))), (37, vI (pl.length : Nat)), (38, vI (k : Nat))] [some (bxS 3 2 ml 0 q1 q2), none, some (mpS ml), some (arS EP), some (.box [.pv (I p.k), .pv (I p.n), .pv (Sx ⟨#[]⟩), .arr 6 6 pl.length, .pv (I p.f), .pv (I p.t)]), some (.row 9 1), some (.arr 24 6 ((b2c accP k).map tc))]) (fun k => k ≤ pl.length) (fun k => pl.length - k) 0 (Nat.zero_le _) (by rw [s0]; exact a17 [4, 5, 13] rfl (by simp -implicitDefEqProofs) (by simp -implicitDefEqProofs) (by first | decide | (simp; done)) rfl (by simp)) (fun Z2 hI2 k hk2 => ?_)
  by_cases hkl2 : k < pl.length
  · obtain ⟨y, hy⟩ : ∃ a, accP[k]? = some a := ⟨_, List.getElem?_eq_getElem (by omega)⟩
    have hM := c5p hy
    have hS := c1u hy
    obtain ⟨⟨ax, al⟩, rfl⟩ : ∃ u, u = y := ⟨_, rfl⟩
    have hMl := sL k
    have w2 : IntKind.i64.wrap ((k : Nat) + 1 : Int) = (k : Nat) + 1 := v6 _ (by omega) (by omega)
    have hset : ((b2c accP k).map tc).set k [I ax.k, I ax.n, Sx ⟨#[]⟩, .sl 6 (al.map tc), I ax.f, I ax.t] = (b2c accP (k + 1)).map tc := by
      rw [← hS, List.map_set]; simp [b9v, Tr.lab, Tr.kids]
    obtain ⟨M, hMM⟩ : ∃ M, b2c accP k = M := ⟨_, rfl⟩
    rw [hMM] at hM hMl hset ⊢
    have hM' := (List.getElem?_eq_some_iff.1 hM).2
    have hMk : k < M.length := (List.getElem?_eq_some_iff.1 hM).1
    repeat (first | refine d7 ?_ | refine b9 ?_ | refine a8 ?_ | refine b8 ?_ | refine f7 rfl ?_ | refine f6 rfl ?_ | ((first | refine d6 (fun K hK => ?_) | refine d8 f8 (fun K hK => ?_) | fail); simp -implicitDefEqProofs [hkl2, hM, hM', hMk, hMl, w2, hset]; first | refine hK _ ?_ | refine hK _ _ (by rfl) ?_ | fail) | fail)
    refine ⟨k + 1, by omega, (by dsimp only; omega), ?_⟩
    rw [hI2]; exact a17 [4, 5, 6] rfl (by simp -implicitDefEqProofs [hset]) (by simp -implicitDefEqProofs [hset]) (by first | decide | (simp; done)) rfl (by simp)
  have : k = pl.length := by omega
  subst this
  rw [sN]
  refine b2m 6 24 6 ((accP.map b9v).map tc) rfl ?_
  simp [St.frz, AV.frz, AT.frz, AC.frz, AO.frz]
  have d1 : (accA.length + 1) * 72 ≤ 140737488355328 := by omega
  have d2 : accA.length + 1 ≤ 140737488355328 := by omega
  have d3 : (1 + accA.length) * 72 ≤ 140737488355328 := by omega
  have d4 : 1 + accA.length ≤ 140737488355328 := by omega
  repeat' (first | refine d7 ?_ | refine b9 ?_ | refine a8 ?_ | refine b8 ?_ | refine f7 rfl ?_ | refine f6 rfl ?_ | ((first | refine d6 (fun K hK => ?_) | refine d8 f8 (fun K hK => ?_) | refine b7 (cgS r2 0 rfl ?_) | refine a6 (dgS r2 0 rfl ?_) | fail); simp -implicitDefEqProofs [d1, d2, d3, d4]) | refine hK _ ?_ | refine hK _ _ (by rfl) ?_ | fail)
  refine e7 (r8 [] rfl ?_); simp -implicitDefEqProofs [l4, g7, g9] <;> try rfl
theorem c4o (ml : List VT) (x p : Lab) (pl : List VT) (r b : VT) (hk : ∀ q ∈ pl, q.lab.k = 34) (hn : p.n = 0) : (vt.fnS ml x p pl r b).er = (a1o ml pl r b).2.2 ∧ (vt.fnS ml x p pl r b).pl = (a1o ml pl r b).2.1 ∧ ((a1o ml pl r b).2.2 = 0 → (vt.fnS ml x p pl r b).t = .mk ⟨x.k, x.n, ⟨#[]⟩, x.f, x.t⟩ (.mk { p with s := ⟨#[]⟩ } ((a0n ml true [] pl).1.map b9v) :: (a1o ml pl r b).1)) := by
  obtain ⟨e1, e2⟩ := a91 ml pl [] hk
  have h1 : ∀ L y, s4 ml L [y] = if (n8 ml y L).er ≠ 0 then ([], (n8 ml y L).pl, (n8 ml y L).er) else ([(n8 ml y L).t], 0, 0) := fun L y => by
    simp only [s4]
    by_cases c : (n8 ml y L).er = 0 <;> simp [c]
  unfold vt.fnS a1o
  rw [h1, h1, e1]
  by_cases c0 : (a0n ml true [] pl).2.2 = 0
  · have c0' : ¬ (a0n ml true [] pl).2.2 ≠ 0 := by simpa using c0
    rw [e2 c0]
    simp only [if_neg c0']
    unfold thn
    by_cases c1 : (n8 ml r []).er = 0
    · have c1' : ¬ (n8 ml r []).er ≠ 0 := by simpa using c1
      simp only [if_neg c1']
      by_cases c2 : (n8 ml b (pl.map (·.lab.s))).er = 0
      · have c2' : ¬ (n8 ml b (pl.map (·.lab.s))).er ≠ 0 := by simpa using c2
        simp only [if_neg c2']
        refine ⟨by simp, by simp, fun _ => ?_⟩
        simp
        obtain ⟨pk, pn, ps, pf, pt⟩ := p
        dsimp only at hn ⊢
        rw [hn]
      · have c2' : (n8 ml b (pl.map (·.lab.s))).er ≠ 0 := c2
        simp only [if_pos c2']
        simp [c2]
    · have c1' : (n8 ml r []).er ≠ 0 := c1
      simp only [if_pos c1']
      simp [c1]
  · have c0' : (a0n ml true [] pl).2.2 ≠ 0 := c0
    simp only [if_pos c0']
    exact ⟨by trivial, by trivial, fun h => absurd h c0⟩
theorem c1s (ml : List VT) (x p : Lab) (pl : List VT) (r b : VT) (k33 : x.k = 33) (hn : p.n = 0) (hk : ∀ q ∈ pl, q.lab.k = 34) (hp : ∀ q ∈ pl, ∀ y ∈ q.kids, TOk ml y) (hr : TOk ml r) (hb : TOk ml b) (hsz : ∀ q ∈ pl, q.size ≤ 50000) (hlen : pl.length ≤ 40000) (hr1 : r.size ≤ 50000) (hb1 : b.size ≤ 50000) (E : List ByteArray) : ∃ t' E', ((vt.fnS ml x p pl r b).er = 0 → t' = (vt.fnS ml x p pl r b).t) ∧ Row Tryz.prog 78 [vPt, vT (.mk x [.mk p pl, r, b])] [bxS 1 2 ml 0 0 0, arS E, mpS ml] (vT t') [some (bxS 3 2 ml 0 (vt.fnS ml x p pl r b).pl (vt.fnS ml x p pl r b).er), none, some (mpS ml), some (arS E')] := by
  obtain ⟨acc, E', a1, a2, hrow⟩ := b8l ml p pl r b hk hp hr hb hsz hlen hr1 hb1 E
  obtain ⟨f1, f2, f3⟩ := c4o ml x p pl r b hk hn
  rw [f1, f2]
  refine ⟨.mk ⟨x.k, x.n, ⟨#[]⟩, x.f, x.t⟩ acc, E', fun h => ?_, ?_⟩
  · rw [f3 h, a1 h]
  have i4 := a2.2
  rw [List.length_map] at i4
  generalize a1o ml pl r b = G at hrow ⊢
  obtain ⟨g0, g1, g2⟩ := G
  obtain ⟨⟨rx, rl⟩, rfl⟩ : ∃ u, u = r := ⟨_, rfl⟩
  obtain ⟨⟨bx, bl⟩, rfl⟩ : ∃ u, u = b := ⟨_, rfl⟩
  dsimp only at hrow ⊢
  clear f1 f2 f3 a1 a2 hp hr hb
  have z1 : (0 : Int) ≤ (pl.length : Nat) := by omega
  refine e8 Tryz.func78 rfl rfl (Nat.le_of_ble_eq_true rfl) ?_
  repeat' (first | refine d7 ?_ | refine b9 ?_ | refine a8 ?_ | refine b8 ?_ | refine f7 rfl ?_ | refine f6 rfl ?_ | ((first | refine d6 (fun K hK => ?_) | refine d8 f8 (fun K hK => ?_) | refine b7 (cgS hrow 0 rfl ?_) | refine a6 (dgS hrow 0 rfl ?_) | fail); simp -implicitDefEqProofs [k33, i4, z1]) | refine hK _ ?_ | refine hK _ _ (by rfl) ?_ | fail)
  refine e7 (r8 [] rfl ?_); simp -implicitDefEqProofs [l4, g7, g9, k33] <;> try rfl
theorem b60 (ml : List VT) {x : Lab} {l : List VT} (hk : x.k = 31 ∨ x.k = 32) : n8 ml (.mk x l) [] = a2d ⟨x.k, x.n, ⟨#[]⟩, x.f, x.t⟩ [] (s4 ml [] l) := by
  rw [a3j, if_neg (by omega), if_neg (by unfold b4c; rcases hk with hk | hk <;> simp [hk]), a0q ml x [] (by omega) l 0 [] [] (fun e => by omega)]
  congr 1
  unfold a1k
  rcases hk with hk | hk <;> simp [hk]
def DOk (ml : List VT) (d : VT) : Prop := ∀ E : List ByteArray, ∃ t' E', ((a1m ml d).er = 0 → t' = (a1m ml d).t) ∧ Row Tryz.prog 51 [vPt, vT d] [bxS 1 2 ml 0 0 0, arS E, mpS ml] (vT t') [some (bxS 3 2 ml 0 (a1m ml d).pl (a1m ml d).er), none, some (mpS ml), some (arS E')]
theorem c1m (ml : List VT) (hml : ml.length ≤ 100000) (d : VT) (hd : scpD d) (hkd : kndD d) (hsz : d.size ≤ 40000) : DOk ml d := by
  obtain ⟨x, l⟩ := d
  have hlen := Tr.len_size (x := x) (l := l)
  have hpart : ∀ y, y ∈ l → y.size ≤ 40000 := fun y hy => by
    obtain ⟨i, hi⟩ := List.mem_iff_getElem?.1 hy
    have := Tr.size_at (x := x) hi
    omega
  have hok : ∀ (y : VT), c1l y → TOk ml y := fun y hy => c1t ml hml y hy
  intro E
  unfold scpD at hd
  unfold kndD at hkd
  unfold a1m
  rw [Tr.lab] at hd hkd ⊢
  rw [Tr.kids] at hd ⊢
  by_cases k30 : x.k = 30
  · rw [if_pos k30] at hd
    simp only [if_pos k30]
    obtain ⟨acc, E', a1, a2, hr⟩ := a69 ml l (fun q hq => (hd q hq).1) (fun q hq y hy => hok y ((hd q hq).2 y hy)) (fun q hq => by have := hpart q hq; omega) (by omega) E
    rw [u7, a05 _ _ _ (b3m ml true l [])]
    refine ⟨.mk ⟨x.k, x.n, ⟨#[]⟩, x.f, x.t⟩ acc, E', fun h => ?_, ?_⟩
    · rw [a33 _ _ _ h, List.nil_append, a1 h]
    clear a1
    generalize a0n ml true [] l = G at hr ⊢
    obtain ⟨g0, g1, g2⟩ := G
    dsimp only at hr ⊢
    refine e8 Tryz.func51 rfl rfl (Nat.le_of_ble_eq_true rfl) ?_
    repeat' (first | refine d7 ?_ | refine b9 ?_ | refine a8 ?_ | refine b8 ?_ | refine f7 rfl ?_ | refine f6 rfl ?_ | ((first | refine d6 (fun K hK => ?_) | refine d8 f8 (fun K hK => ?_) | refine b7 (cgS hr 0 rfl ?_) | refine a6 (dgS hr 0 rfl ?_) | fail); simp -implicitDefEqProofs [k30]) | refine hK _ ?_ | refine hK _ _ (by rfl) ?_ | fail)
    refine b2m 14 24 6 (acc.map tc) rfl ?_
    simp [St.frz, AV.frz, AT.frz, AC.frz, AO.frz]
    refine e7 (r8 [] rfl ?_); simp -implicitDefEqProofs [l4, g7, g9, k30] <;> try rfl
  rw [if_neg k30] at hd
  simp only [if_neg k30]
  by_cases k33 : x.k = 33
  · rw [if_pos k33] at hd
    simp only [if_pos k33]
    obtain ⟨p, pl, r, b, hl, hp35, hn, hp, hr, hb⟩ := hd
    subst hl
    simp only [List.getD_cons_zero, List.getD_cons_succ, Tr.lab, Tr.kids]
    have hps := hpart (.mk p pl) (by simp)
    have hpl := Tr.len_size (x := p) (l := pl)
    obtain ⟨t', E', a1, hrow⟩ := c1s ml { x with s := ⟨#[]⟩ } p pl r b k33 hn (fun q hq => (hp q hq).1) (fun q hq y hy => hok y ((hp q hq).2 y hy)) (hok r hr) (hok b hb) (fun q hq => by
      obtain ⟨i, hi⟩ := List.mem_iff_getElem?.1 hq
      have := Tr.size_at (x := p) hi
      omega) (by omega) (by have := hpart r (by simp); omega) (by have := hpart b (by simp); omega) E
    have hfs : vt.fnS ml { x with s := ⟨#[]⟩ } p pl r b = vt.fnS ml x p pl r b := rfl
    rw [hfs] at a1 hrow
    refine ⟨t', E', a1, ?_⟩
    generalize vt.fnS ml x p pl r b = G at hrow ⊢
    obtain ⟨g0, g1, g2⟩ := G
    obtain ⟨⟨tx, tl⟩, rfl⟩ : ∃ u, u = t' := ⟨_, rfl⟩
    obtain ⟨⟨rx, rl⟩, rfl⟩ : ∃ u, u = r := ⟨_, rfl⟩
    obtain ⟨⟨bx, bl⟩, rfl⟩ : ∃ u, u = b := ⟨_, rfl⟩
    dsimp only at hrow ⊢
    clear a1 hp hr hb hok hpart hfs
    refine e8 Tryz.func51 rfl rfl (Nat.le_of_ble_eq_true rfl) ?_
    repeat' (first | refine d7 ?_ | refine b9 ?_ | refine a8 ?_ | refine b8 ?_ | refine f7 rfl ?_ | refine f6 rfl ?_ | ((first | refine d6 (fun K hK => ?_) | refine d8 f8 (fun K hK => ?_) | refine b7 (cgS hrow 0 rfl ?_) | refine a6 (dgS hrow 0 rfl ?_) | fail); simp -implicitDefEqProofs [k33]) | refine hK _ ?_ | refine hK _ _ (by rfl) ?_ | fail)
    refine e7 (r8 [] rfl ?_); simp -implicitDefEqProofs [l4, g7, g9] <;> try rfl
  · rw [if_neg k33] at hd
    simp only [if_neg k33]
    have hk2 : x.k = 31 ∨ x.k = 32 := by omega
    obtain ⟨q1, q2, q3⟩ := (a5q x l).1 hd
    obtain ⟨t', E', a1, a2, hrow⟩ := hok (.mk { x with s := ⟨#[]⟩ } l) ((a5q _ _).2 ⟨q1, q2, q3⟩) [] E (okE0 E) (by
      have : Tr.size (Tr.mk { x with s := (⟨#[]⟩ : ByteArray) } l) = Tr.size (Tr.mk x l) := by rw [Tr.size_mk, Tr.size_mk]
      simp only [List.length_nil]
      omega)
    have ha : n8 ml (.mk { x with s := ⟨#[]⟩ } l) [] = n8 ml (.mk x l) [] := (b60 ml (x := { x with s := ⟨#[]⟩ }) hk2).trans (b60 ml hk2).symm
    rw [ha] at a1 hrow
    rw [List.length_nil] at hrow
    refine ⟨t', E', a1, ?_⟩
    generalize n8 ml (.mk x l) [] = G at hrow ⊢
    obtain ⟨g0, g1, g2⟩ := G
    obtain ⟨⟨tx, tl⟩, rfl⟩ : ∃ u, u = t' := ⟨_, rfl⟩
    dsimp only at hrow ⊢
    clear a1 ha hok hpart
    refine e8 Tryz.func51 rfl rfl (Nat.le_of_ble_eq_true rfl) ?_
    repeat' (first | refine d7 ?_ | refine b9 ?_ | refine a8 ?_ | refine b8 ?_ | refine f7 rfl ?_ | refine f6 rfl ?_ | ((first | refine d6 (fun K hK => ?_) | refine d8 f8 (fun K hK => ?_) | refine b7 (cgS hrow 0 rfl ?_) | refine a6 (dgS hrow 0 rfl ?_) | fail); simp -implicitDefEqProofs [k30]) | refine hK _ ?_ | refine hK _ _ (by rfl) ?_ | fail)
    refine e7 (r8 [] rfl ?_); simp -implicitDefEqProofs [l4, g7, g9] <;> try rfl
end Go.Proofs.YthmdllhhmhbhbaaGreatDoor.am
end
