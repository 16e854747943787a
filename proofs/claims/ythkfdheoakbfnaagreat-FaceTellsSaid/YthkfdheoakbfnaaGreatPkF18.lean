import Derived.Test.YthkfdheoakbfnaaGreatPkF17
import Derived.Test.YthkfdheoakbfnaaGreatPkF12
set_option maxRecDepth 100000
set_option maxHeartbeats 4000000
section
namespace Go.Proofs.YthkfdheoakbfnaaGreat.am
open Go.ChangeShapes Go.WideShapes Go.ChangeAt Go.RowKit
open vt
set_option linter.unusedVariables false
set_option linter.unusedSimpArgs false
theorem c1l (ts : List Tok) (i : Nat) : (b1g ts i).2.length ≤ 7 ∧ ∀ w, It.sub w ∈ (b1g ts i).2 → w ≤ 2 := by
  unfold b1g
  repeat' split
  all_goals (refine ⟨by simp, fun w h => ?_⟩; simp at h; omega)
section
variable (ts : List Tok) (hl : ts.length ≤ 1000000000) (S : Nat → Got) (hS : ∀ j, j ≤ ts.length → OkS ts 0 j (S j)) (i : Nat) (hi : i ≤ ts.length)
  (hrow : ∀ j, i < j → j ≤ ts.length → Row Tryz.prog 75 [vKs ts, vI j] [] (vG (S j)) [])
structure InvF (kd : Int) (L : List It) (R : Got) (x : Nat × Nat × ByteArray × List VT) : Prop where
  eq : itH ts (RR ts S) i kd 0 (L.drop x.1) x.2.1 x.2.2.1 x.2.2.2 = R
  le : x.1 ≤ L.length
  at' : i ≤ x.2.1 ∧ x.2.1 ≤ ts.length
  cr : ∃ c, c + sm x.2.2.2 + i ≤ x.2.1 ∧ Cr c (L.drop x.1)
  few : x.2.2.2.length ≤ x.1
include hl hS hi hrow
theorem b47 (R : Got) (hb : isK a8g (nxt ts i) = false) (hR : itH ts (RR ts S) i (b1g ts i).1 0 (b1g ts i).2 i ⟨#[]⟩ [] = R) : Row Tryz.prog 75 [vKs ts, vI i] [] (vG R) [] := by
  have q := i5 ts i a8g
  rw [j0 c1y, hb] at q
  have f := c1k ts hl i hi
  have hg := c1l ts i
  have hc := b7j (ts := ts) i
  obtain ⟨⟨kd, L⟩, hL⟩ : ∃ r, b1g ts i = r := ⟨_, rfl⟩
  rw [hL] at f hg hc hR
  dsimp only at hg hc hR
  obtain ⟨hg1, hg2⟩ := hg
  have h0 : InvF ts S i kd L R (0, i, ⟨#[]⟩, []) := ⟨hR, Nat.zero_le _, ⟨Nat.le_refl _, hi⟩, ⟨0, by simp [sm], hc⟩, Nat.le_refl _⟩
  clear hR hc hL hb
  refine f6 Tryz.func75 rfl rfl (Nat.le_of_ble_eq_true rfl) ?_
  repeat' (first | refine d4 ?_ | refine b8 ?_ | refine b7 ?_ | refine b9 ?_ | refine f5 rfl ?_ | refine d8 rfl ?_ | ((first | refine c5 (fun K hK => ?_) | refine d5 f8 (fun K hK => ?_) | refine a9 (cp q ?_) | refine a8 (dp q ?_) | refine a9 (cp f ?_) | refine a8 (dp f ?_) | fail); simp -implicitDefEqProofs) | refine hK _ ?_ | refine hK _ _ (by rfl) ?_ | fail)
  refine l7 (ι := Nat × Nat × ByteArray × List VT) (fun x => s7 [(0, vKs ts), (1, vI i), (4, .v (.c (.ptr 0 0))), (5, vI kd), (6, .v (.c (.pv (.sl 2 (L.map ic))))), (7, .v (.c (.row 1 6 (x.2.2.2.map tc)))), (8, vS x.2.2.1), (9, vI (x.2.1 : Nat)), (10, vI (x.1 : Nat))] [some zG, some (.row 25 6)]) (InvF ts S i kd L R) (fun x => L.length - x.1) (0, i, ⟨#[]⟩, []) h0 (f7 [0, 26] (by simp -implicitDefEqProofs) (by simp -implicitDefEqProofs) (by decide) rfl (by simp)) (fun Z hI x hx => ?_)
  clear h0 q f
  obtain ⟨k, zto, name, ps⟩ := x
  obtain ⟨x1, x2, x3, x4, x5⟩ := hx
  dsimp only at x1 x2 x3 x4 x5 ⊢
  obtain ⟨c, c1, c2⟩ := x4
  by_cases hkl : k < L.length; rotate_left
  · have hkl' : k = L.length := by omega
    subst hkl'
    rw [List.drop_length] at x1 c2
    unfold Cr at c2
    rw [itH] at x1
    rw [← x1]
    have m7 := o4 ts hl i zto kd 0 name ps (by omega) x3.2
    clear x1 c1 c2 x2 hg2 hrow hS
    repeat' (first | refine d4 ?_ | refine b8 ?_ | refine b7 ?_ | refine b9 ?_ | refine f5 rfl ?_ | refine d8 rfl ?_ | ((first | refine c5 (fun K hK => ?_) | refine d5 f8 (fun K hK => ?_) | refine a9 (cp m7 ?_) | refine a8 (dp m7 ?_) | fail); simp -implicitDefEqProofs) | refine hK _ ?_ | refine hK _ _ (by rfl) ?_ | fail)
    refine d7 (d6 ?_); simp -implicitDefEqProofs [g8, f9, g7, mk7] <;> try rfl
  obtain ⟨it, hy⟩ : ∃ y, L[k]? = some y := ⟨_, List.getElem?_eq_getElem hkl⟩
  have hy' := (List.getElem?_eq_some_iff.1 hy).2
  have hmem := List.mem_of_getElem? hy
  rw [List.drop_eq_getElem_cons hkl, hy'] at x1 c2
  have wk : IntKind.i64.wrap ((k : Nat) + 1 : Int) = (k : Nat) + 1 := k9 _ (by omega) (by omega)
  have w1 : IntKind.i64.wrap ((zto : Nat) + 1 : Int) = (zto : Nat) + 1 := k9 _ (by omega) (by omega)
  have b1 : (ps.length + 1) * 72 ≤ 140737488355328 := by omega
  have b2 : ps.length + 1 ≤ 140737488355328 := by omega
  cases it with
  | sgn s =>
    rw [z3] at x1
    unfold Cr at c2
    by_cases h : isK s (nxt ts zto) = true
    · have hlt := g9 h
      rw [if_pos h] at x1
      have nx : InvF ts S i kd L R (k + 1, zto + 1, name, ps) := ⟨x1, hkl, by dsimp only; omega, ⟨c + 1, by dsimp only; omega, c2⟩, by dsimp only; omega⟩
      rcases b3m s with h3 | h3
      · have q := j9 ts zto s
        rw [l8 h3, h] at q
        clear x1 c1 c2 hg2 hrow hS h
        repeat' (first | refine d4 ?_ | refine b8 ?_ | refine b7 ?_ | refine b9 ?_ | refine f5 rfl ?_ | refine d8 rfl ?_ | ((first | refine c5 (fun K hK => ?_) | refine d5 f8 (fun K hK => ?_) | refine a9 (cp q ?_) | refine a8 (dp q ?_) | fail); simp -implicitDefEqProofs [hkl, hy, hy', ic, h3, wk, w1]) | refine hK _ ?_ | refine hK _ _ (by rfl) ?_ | fail)
        refine ⟨(_, _, _, _), nx, (by dsimp only; omega), ?_⟩; rw [hI]; exact f7 [0, 1] (by simp -implicitDefEqProofs) (by simp -implicitDefEqProofs) (by decide) rfl (by simp)
      · have q := i5 ts zto s
        rw [j0 h3, h] at q
        clear x1 c1 c2 hg2 hrow hS h
        repeat' (first | refine d4 ?_ | refine b8 ?_ | refine b7 ?_ | refine b9 ?_ | refine f5 rfl ?_ | refine d8 rfl ?_ | ((first | refine c5 (fun K hK => ?_) | refine d5 f8 (fun K hK => ?_) | refine a9 (cp q ?_) | refine a8 (dp q ?_) | fail); simp -implicitDefEqProofs [hkl, hy, hy', ic, h3, wk, w1]) | refine hK _ ?_ | refine hK _ _ (by rfl) ?_ | fail)
        refine ⟨(_, _, _, _), nx, (by dsimp only; omega), ?_⟩; rw [hI]; exact f7 [0, 1] (by simp -implicitDefEqProofs) (by simp -implicitDefEqProofs) (by decide) rfl (by simp)
    · have h : isK s (nxt ts zto) = false := by simpa using h
      rw [if_neg (by simp [h])] at x1
      rw [← x1]
      have bd := l6 zto
      rcases b3m s with h3 | h3
      · have q := j9 ts zto s
        rw [l8 h3, h] at q
        clear x1 c1 c2 hg2 hrow hS h
        repeat' (first | refine d4 ?_ | refine b8 ?_ | refine b7 ?_ | refine b9 ?_ | refine f5 rfl ?_ | refine d8 rfl ?_ | ((first | refine c5 (fun K hK => ?_) | refine d5 f8 (fun K hK => ?_) | refine a9 (cp q ?_) | refine a8 (dp q ?_) | refine a9 (cp bd ?_) | refine a8 (dp bd ?_) | fail); simp -implicitDefEqProofs [hkl, hy, hy', ic, h3, wk, w1]) | refine hK _ ?_ | refine hK _ _ (by rfl) ?_ | fail)
        refine d7 (d6 ?_); simp -implicitDefEqProofs [g8, f9, g7, n6, z0] <;> try rfl
      · have q := i5 ts zto s
        rw [j0 h3, h] at q
        clear x1 c1 c2 hg2 hrow hS h
        repeat' (first | refine d4 ?_ | refine b8 ?_ | refine b7 ?_ | refine b9 ?_ | refine f5 rfl ?_ | refine d8 rfl ?_ | ((first | refine c5 (fun K hK => ?_) | refine d5 f8 (fun K hK => ?_) | refine a9 (cp q ?_) | refine a8 (dp q ?_) | refine a9 (cp bd ?_) | refine a8 (dp bd ?_) | fail); simp -implicitDefEqProofs [hkl, hy, hy', ic, h3, wk, w1]) | refine hK _ ?_ | refine hK _ _ (by rfl) ?_ | fail)
        refine d7 (d6 ?_); simp -implicitDefEqProofs [g8, f9, g7, n6, z0] <;> try rfl
  | nam =>
    rw [a23] at x1
    unfold Cr at c2
    have q := s4 ts zto
    by_cases h : (nxt ts zto).k = 1
    · obtain ⟨t, ht, htn, htk⟩ := a24 h (by decide)
      have ht' := (List.getElem?_eq_some_iff.1 ht).2
      have hlt := (List.getElem?_eq_some_iff.1 ht).1
      rw [if_pos h, htn] at x1
      rw [htn] at q
      have nx : InvF ts S i kd L R (k + 1, zto + 1, t.s, ps) := ⟨x1, hkl, by dsimp only; omega, ⟨c + 1, by dsimp only; omega, c2⟩, by dsimp only; omega⟩
      obtain ⟨tk, tn, tss, tf, tt⟩ := t
      dsimp only at htk nx
      clear x1 c1 c2 hg2 hrow hS h htn
      repeat' (first | refine d4 ?_ | refine b8 ?_ | refine b7 ?_ | refine b9 ?_ | refine f5 rfl ?_ | refine d8 rfl ?_ | ((first | refine c5 (fun K hK => ?_) | refine d5 f8 (fun K hK => ?_) | refine a9 (cp q ?_) | refine a8 (dp q ?_) | fail); simp -implicitDefEqProofs [hkl, hy, hy', ic, wk, w1, htk, hlt, ht, ht']) | refine hK _ ?_ | refine hK _ _ (by rfl) ?_ | fail)
      refine ⟨(_, _, _, _), nx, (by dsimp only; omega), ?_⟩; rw [hI]; exact f7 [0, 1] (by simp -implicitDefEqProofs) (by simp -implicitDefEqProofs) (by decide) rfl (by simp)
    · rw [if_neg h] at x1
      rw [← x1]
      have bd := l6 zto
      obtain ⟨⟨tk, tn, tss, tf, tt⟩, ht⟩ : ∃ t, nxt ts zto = t := ⟨_, rfl⟩
      rw [ht] at q h
      dsimp only at h
      clear x1 c1 c2 hg2 hrow hS ht
      repeat' (first | refine d4 ?_ | refine b8 ?_ | refine b7 ?_ | refine b9 ?_ | refine f5 rfl ?_ | refine d8 rfl ?_ | ((first | refine c5 (fun K hK => ?_) | refine d5 f8 (fun K hK => ?_) | refine a9 (cp q ?_) | refine a8 (dp q ?_) | refine a9 (cp bd ?_) | refine a8 (dp bd ?_) | fail); simp -implicitDefEqProofs [hkl, hy, hy', ic, wk, w1, h]) | refine hK _ ?_ | refine hK _ _ (by rfl) ?_ | fail)
      refine d7 (d6 ?_); simp -implicitDefEqProofs [g8, f9, g7, n6, z0] <;> try rfl
  | sub w =>
    have hw := hg2 w hmem
    rw [a0z] at x1
    unfold Cr at c2
    have p := b8y ts hl S hS i hrow w hw zto x3.1 x3.2
    have hr := b6h hS w zto x3.2
    obtain ⟨⟨⟨px, pl⟩, p2, p3⟩, hp⟩ : ∃ r, RR ts S w zto = r := ⟨_, rfl⟩
    rw [hp] at x1 p hr
    by_cases h3 : p3 = 0; rotate_left
    · rw [if_neg h3] at x1
      rw [← x1]
      have hw : w = 0 ∨ w = 1 ∨ w = 2 := by omega
      clear x1 c1 c2 hg2 hrow hS hr hp
      rcases hw with rfl | rfl | rfl
      all_goals (
        simp only [if_pos, if_neg, Nat.one_ne_zero, Nat.succ_ne_zero, reduceIte] at p
        repeat' (first | refine d4 ?_ | refine b8 ?_ | refine b7 ?_ | refine b9 ?_ | refine f5 rfl ?_ | refine d8 rfl ?_ | ((first | refine c5 (fun K hK => ?_) | refine d5 f8 (fun K hK => ?_) | refine a9 (cp p ?_) | refine a8 (dp p ?_) | fail); simp -implicitDefEqProofs [hkl, hy, hy', ic, wk, h3]) | refine hK _ ?_ | refine hK _ _ (by rfl) ?_ | fail)
        refine d7 (d6 ?_); simp -implicitDefEqProofs [g8, f9, g7] <;> try rfl)
    subst h3
    rw [if_pos rfl] at x1
    have hys := hr.ok.yes rfl
    have hsz := hr.sz rfl
    dsimp only at hys hsz x1
    have nx : InvF ts S i kd L R (k + 1, p2, name, ps ++ [.mk px pl]) := by
      refine ⟨x1, hkl, by dsimp only; omega, ⟨_, ?_, c2⟩, by dsimp only; rw [List.length_append, List.length_singleton]; omega⟩
      dsimp only
      rw [w9]
      split at hsz <;> split <;> omega
    have hw : w = 0 ∨ w = 1 ∨ w = 2 := by omega
    clear x1 c1 c2 hg2 hrow hS hr hp
    rcases hw with rfl | rfl | rfl
    all_goals (
      simp only [if_pos, if_neg, Nat.one_ne_zero, Nat.succ_ne_zero, reduceIte] at p
      repeat' (first | refine d4 ?_ | refine b8 ?_ | refine b7 ?_ | refine b9 ?_ | refine f5 rfl ?_ | refine d8 rfl ?_ | ((first | refine c5 (fun K hK => ?_) | refine d5 f8 (fun K hK => ?_) | refine a9 (cp p ?_) | refine a8 (dp p ?_) | fail); simp -implicitDefEqProofs [hkl, hy, hy', ic, wk, b1, b2]) | refine hK _ ?_ | refine hK _ _ (by rfl) ?_ | fail)
      refine ⟨(_, _, _, _), nx, (by dsimp only; omega), ?_⟩; rw [hI]; exact f7 [0, 46] (by simp -implicitDefEqProofs) (by simp -implicitDefEqProofs) (by decide) rfl (by simp))
  | els =>
    rw [b7s] at x1
    unfold Cr at c2
    have q := j9 ts zto a79
    rw [l8 q_else] at q
    by_cases h : isK a79 (nxt ts zto) = true
    · have hlt := g9 h
      rw [if_pos h] at x1
      rw [h] at q
      have p := b8x ts hl S hS i hrow (zto + 1) (by omega) (by omega)
      have hr := b6h hS 2 (zto + 1) (by omega)
      rw [if_pos rfl] at hr
      obtain ⟨⟨⟨px, pl⟩, p2, p3⟩, hp⟩ : ∃ r, RR ts S 2 (zto + 1) = r := ⟨_, rfl⟩
      rw [hp] at x1 p hr
      by_cases h3 : p3 = 0; rotate_left
      · rw [if_neg h3] at x1
        rw [← x1]
        clear x1 c1 c2 hg2 hrow hS hr hp h
        repeat' (first | refine d4 ?_ | refine b8 ?_ | refine b7 ?_ | refine b9 ?_ | refine f5 rfl ?_ | refine d8 rfl ?_ | ((first | refine c5 (fun K hK => ?_) | refine d5 f8 (fun K hK => ?_) | refine a9 (cp q ?_) | refine a8 (dp q ?_) | refine a9 (cp p ?_) | refine a8 (dp p ?_) | fail); simp -implicitDefEqProofs [hkl, hy, hy', ic, wk, w1, h3]) | refine hK _ ?_ | refine hK _ _ (by rfl) ?_ | fail)
        refine d7 (d6 ?_); simp -implicitDefEqProofs [g8, f9, g7] <;> try rfl
      subst h3
      rw [if_pos rfl] at x1
      have hys := hr.ok.yes rfl
      have hsz := hr.sz rfl
      dsimp only at hys hsz x1
      have nx : InvF ts S i kd L R (k + 1, p2, name, ps ++ [.mk px pl]) := ⟨x1, hkl, by dsimp only; omega, ⟨_, by dsimp only; rw [w9]; omega, c2.2⟩, by dsimp only; rw [List.length_append, List.length_singleton]; omega⟩
      clear x1 c1 c2 hg2 hrow hS hr hp h
      repeat' (first | refine d4 ?_ | refine b8 ?_ | refine b7 ?_ | refine b9 ?_ | refine f5 rfl ?_ | refine d8 rfl ?_ | ((first | refine c5 (fun K hK => ?_) | refine d5 f8 (fun K hK => ?_) | refine a9 (cp q ?_) | refine a8 (dp q ?_) | refine a9 (cp p ?_) | refine a8 (dp p ?_) | fail); simp -implicitDefEqProofs [hkl, hy, hy', ic, wk, w1, b1, b2]) | refine hK _ ?_ | refine hK _ _ (by rfl) ?_ | fail)
      refine ⟨(_, _, _, _), nx, (by dsimp only; omega), ?_⟩; rw [hI]; exact f7 [0, 60] (by simp -implicitDefEqProofs) (by simp -implicitDefEqProofs) (by decide) rfl (by simp)
    · have h : isK a79 (nxt ts zto) = false := by simpa using h
      rw [if_neg (by simp [h])] at x1
      rw [h] at q
      obtain ⟨j, rfl⟩ : ∃ j, zto = j + 1 := ⟨zto - 1, by omega⟩
      have hjl : j < ts.length := by omega
      obtain ⟨t, ht⟩ : ∃ t, ts[j]? = some t := ⟨_, List.getElem?_eq_getElem hjl⟩
      have ht' := (List.getElem?_eq_some_iff.1 ht).2
      have he : emB ts (j + 1) = .mk ⟨29, 0, ⟨#[]⟩, t.t, t.t⟩ [] := by unfold emB toT; rw [Nat.add_sub_cancel, y7 ht]
      rw [he] at x1
      have nx : InvF ts S i kd L R (k + 1, j + 1, name, ps ++ [.mk ⟨29, 0, ⟨#[]⟩, t.t, t.t⟩ []]) := ⟨x1, hkl, by dsimp only; omega, ⟨c - 1, by dsimp only; rw [w9, Tr.size_mk]; have := c2.1; simp; omega, c2.2⟩, by dsimp only; rw [List.length_append, List.length_singleton]; omega⟩
      have wj : IntKind.i64.wrap (((j + 1 : Nat) : Int) - 1) = (j : Nat) := by rw [k9 _ (by omega) (by omega)]; omega
      have wj' : IntKind.i64.wrap ((j : Int) + 1 - 1) = (j : Nat) := by rw [k9 _ (by omega) (by omega)]; omega
      have wj2 : IntKind.i64.wrap ((j : Nat) : Int) = (j : Nat) := k9 _ (by omega) (by omega)
      obtain ⟨tk, tn, tss, tf, tt⟩ := t
      dsimp only at nx
      clear x1 c1 c2 hg2 hrow hS h he
      repeat' (first | refine d4 ?_ | refine b8 ?_ | refine b7 ?_ | refine b9 ?_ | refine f5 rfl ?_ | refine d8 rfl ?_ | ((first | refine c5 (fun K hK => ?_) | refine d5 f8 (fun K hK => ?_) | refine a9 (cp q ?_) | refine a8 (dp q ?_) | fail); simp -implicitDefEqProofs [hkl, hy, hy', ic, wk, wj, wj', wj2, b1, b2, hjl, ht, ht']) | refine hK _ ?_ | refine hK _ _ (by rfl) ?_ | fail)
      refine ⟨(_, _, _, _), nx, (by dsimp only; omega), ?_⟩; rw [hI]; exact f7 [0, 47] (by simp -implicitDefEqProofs) (by simp -implicitDefEqProofs) (by decide) rfl (by simp)
end
theorem b48 (ts : List Tok) (hl : ts.length ≤ 1000000000) : ∀ n i, ts.length - i < n → i ≤ ts.length → Row Tryz.prog 75 [vKs ts, vI i] [] (vG (sG ts n i)) [] := by
  intro n
  induction n with
  | zero => intro i h; omega
  | succ n ih =>
    intro i hn hi
    have hrow : ∀ j, i < j → j ≤ ts.length → Row Tryz.prog 75 [vKs ts, vI j] [] (vG (sG ts n j)) [] := fun j h1 h2 => ih j (by omega) h2
    by_cases hb : isK a8g (nxt ts i) = true
    · have b := a1e ts hl (sG ts n) (a2k n) i hrow i (Nat.le_refl _) hi
      rw [show sG ts (n + 1) i = blG ts (sG ts n) i from if_pos hb]
      have q := i5 ts i a8g
      rw [j0 c1y, hb] at q
      obtain ⟨⟨⟨px, pl⟩, j, e⟩, hr⟩ : ∃ r, blG ts (sG ts n) i = r := ⟨_, rfl⟩
      rw [hr] at b ⊢
      clear hrow ih hr hb
      refine f6 Tryz.func75 rfl rfl (Nat.le_of_ble_eq_true rfl) ?_
      repeat' (first | refine d4 ?_ | refine b8 ?_ | refine b7 ?_ | refine b9 ?_ | refine f5 rfl ?_ | refine d8 rfl ?_ | ((first | refine c5 (fun K hK => ?_) | refine d5 f8 (fun K hK => ?_) | refine a9 (cp q ?_) | refine a8 (dp q ?_) | refine a9 (cp b ?_) | refine a8 (dp b ?_) | fail); simp -implicitDefEqProofs) | refine hK _ ?_ | refine hK _ _ (by rfl) ?_ | fail)
      refine d7 (d6 ?_); simp -implicitDefEqProofs [g8, f9, g7] <;> try rfl
    · exact b47 ts hl (sG ts n) (a2k n) i hi hrow _ (by simpa using hb) (if_neg hb).symm
theorem b4z (ts : List Tok) (hl : ts.length ≤ 1000000000) (i : Nat) (hi : i ≤ ts.length) : Row Tryz.prog 60 [vKs ts, vI i] [] (vG (blG ts (sG ts (ts.length + 1)) i)) [] :=
  a1e ts hl (sG ts (ts.length + 1)) (a2k _) i (fun j h1 h2 => b48 ts hl _ j (by omega) h2) i (Nat.le_refl _) hi
end Go.Proofs.YthkfdheoakbfnaaGreat.am
end
section
namespace Go.Proofs.YthkfdheoakbfnaaGreat.am
open Go.ChangeShapes Go.WideShapes Go.ChangeAt Go.RowKit
open vt
set_option linter.unusedVariables false
set_option linter.unusedSimpArgs false
theorem q_con : quo a0s = 3 := by decide
theorem q_var : quo b97 = 3 := by decide
theorem q_pub : quo c7f = 3 := by decide
theorem q_fn : quo wFn = 3 := by decide
theorem q_rec : quo wRec = 3 := by decide
theorem q_tru : quo a3f = 3 := by decide
theorem q_fal : quo a3e = 3 := by decide
theorem q_po : quo l4 = 4 := by decide
theorem q_ps : quo l5 = 4 := by decide
theorem q_com : quo a6k = 4 := by decide
theorem c1v (ts : List Tok) (i : Nat) : l9 ts i = if (nxt ts i).k = 1 then if isK a1p (nxt ts (i + 1)) = true then if (tyG ts (ts.length + 1) (i + 2)).2.2 = 0 then mk7 ts i (tyG ts (ts.length + 1) (i + 2)).2.1 34 0 (nxt ts i).s [(tyG ts (ts.length + 1) (i + 2)).1] else tyG ts (ts.length + 1) (i + 2) else n6 (i + 1) else n6 i := by
  unfold l9
  rw [a23, z3, a0z, itH]
  rfl
section
variable (ts : List Tok) (hl : ts.length ≤ 1000000000)
include hl
theorem b84 (i : Nat) (hi : i ≤ ts.length) : Row Tryz.prog 57 [vKs ts, vI i] [] (vG (tyG ts (ts.length + 1) i)) [] := a9v ts (by omega) (ts.length + 1) i (by omega) hi
theorem a6h (i : Nat) (hi : i ≤ ts.length) : Row Tryz.prog 61 [vKs ts, vI i] [] (vG (l9 ts i)) [] := by
  have o := s4 ts i
  have w1 : IntKind.i64.wrap ((i : Nat) + 1 : Int) = (i : Nat) + 1 := k9 _ (by omega) (by omega)
  have w2 : IntKind.i64.wrap ((i : Nat) + 2 : Int) = (i : Nat) + 2 := k9 _ (by omega) (by omega)
  rw [c1v]
  by_cases h1 : (nxt ts i).k = 1; rotate_left
  · rw [if_neg h1]
    have b := l6 i
    obtain ⟨⟨xk, xn, xs, xf, xt⟩, hx⟩ : ∃ x, nxt ts i = x := ⟨_, rfl⟩
    rw [hx] at o h1
    dsimp only at h1
    clear hx
    refine f6 Tryz.func61 rfl rfl (Nat.le_of_ble_eq_true rfl) ?_
    repeat' (first | refine d4 ?_ | refine b8 ?_ | refine b7 ?_ | refine b9 ?_ | refine f5 rfl ?_ | refine d8 rfl ?_ | ((first | refine c5 (fun K hK => ?_) | refine d5 f8 (fun K hK => ?_) | refine a9 (cp o ?_) | refine a8 (dp o ?_) | refine a9 (cp b ?_) | refine a8 (dp b ?_) | fail); simp -implicitDefEqProofs [h1, w1, w2]) | refine hK _ ?_ | refine hK _ _ (by rfl) ?_ | fail)
    refine d7 (d6 ?_); simp -implicitDefEqProofs [g8, f9, g7, n6, z0] <;> try rfl
  rw [if_pos h1]
  obtain ⟨x, hx, hxn, hxk⟩ := a24 h1 (by decide)
  have hx' := (List.getElem?_eq_some_iff.1 hx).2
  have hlt := (List.getElem?_eq_some_iff.1 hx).1
  rw [hxn] at o ⊢
  obtain ⟨xk, xn, xs, xf, xt⟩ := x
  dsimp only at hxk ⊢
  subst hxk
  have q := i5 ts (i + 1) a1p
  rw [j0 c1z] at q
  clear h1 hxn
  by_cases h2 : isK a1p (nxt ts (i + 1)) = true; rotate_left
  · rw [if_neg h2]
    rw [show isK a1p (nxt ts (i + 1)) = false by simpa using h2] at q
    have b := l6 (i + 1)
    clear h2
    refine f6 Tryz.func61 rfl rfl (Nat.le_of_ble_eq_true rfl) ?_
    repeat' (first | refine d4 ?_ | refine b8 ?_ | refine b7 ?_ | refine b9 ?_ | refine f5 rfl ?_ | refine d8 rfl ?_ | ((first | refine c5 (fun K hK => ?_) | refine d5 f8 (fun K hK => ?_) | refine a9 (cp o ?_) | refine a8 (dp o ?_) | refine a9 (cp q ?_) | refine a8 (dp q ?_) | refine a9 (cp b ?_) | refine a8 (dp b ?_) | fail); simp -implicitDefEqProofs [w1, w2]) | refine hK _ ?_ | refine hK _ _ (by rfl) ?_ | fail)
    refine d7 (d6 ?_); simp -implicitDefEqProofs [g8, f9, g7, n6, z0] <;> try rfl
  rw [if_pos h2]
  rw [h2] at q
  have hlt2 := g9 h2
  have t := b84 ts hl (i + 2) (by omega)
  have hk := (b3y ts (ts.length + 1) (i + 2)).1
  obtain ⟨⟨⟨tx, tl⟩, j, e⟩, hr⟩ : ∃ r, tyG ts (ts.length + 1) (i + 2) = r := ⟨_, rfl⟩
  rw [hr] at t hk ⊢
  dsimp only at hk ⊢
  clear hr h2
  by_cases he : e = 0; rotate_left
  · rw [if_neg he]
    clear hk
    refine f6 Tryz.func61 rfl rfl (Nat.le_of_ble_eq_true rfl) ?_
    repeat' (first | refine d4 ?_ | refine b8 ?_ | refine b7 ?_ | refine b9 ?_ | refine f5 rfl ?_ | refine d8 rfl ?_ | ((first | refine c5 (fun K hK => ?_) | refine d5 f8 (fun K hK => ?_) | refine a9 (cp o ?_) | refine a8 (dp o ?_) | refine a9 (cp q ?_) | refine a8 (dp q ?_) | refine a9 (cp t ?_) | refine a8 (dp t ?_) | fail); simp -implicitDefEqProofs [w1, w2, he]) | refine hK _ ?_ | refine hK _ _ (by rfl) ?_ | fail)
    refine d7 (d6 ?_); simp -implicitDefEqProofs [g8, f9, g7] <;> try rfl
  subst he
  rw [if_pos rfl]
  have hy := hk rfl
  have m := o4 ts hl i j 34 0 xs [.mk tx tl] (by omega) hy.2
  clear hk hy
  refine f6 Tryz.func61 rfl rfl (Nat.le_of_ble_eq_true rfl) ?_
  repeat' (first | refine d4 ?_ | refine b8 ?_ | refine b7 ?_ | refine b9 ?_ | refine f5 rfl ?_ | refine d8 rfl ?_ | ((first | refine c5 (fun K hK => ?_) | refine d5 f8 (fun K hK => ?_) | refine a9 (cp o ?_) | refine a8 (dp o ?_) | refine a9 (cp q ?_) | refine a8 (dp q ?_) | refine a9 (cp t ?_) | refine a8 (dp t ?_) | refine a9 (cp m ?_) | refine a8 (dp m ?_) | fail); simp -implicitDefEqProofs [w1, w2, hlt, hx, hx']) | refine hK _ ?_ | refine hK _ _ (by rfl) ?_ | fail)
  refine d7 (d6 ?_); simp -implicitDefEqProofs [g8, f9, g7, mk7] <;> try rfl
structure InvRF (i : Nat) (C : List VT × Nat × Int) (x : Nat × Nat × List VT) : Prop where
  eq : lpF ts x.1 x.2.1 x.2.2 = C
  le : i ≤ x.2.1 ∧ x.2.1 ≤ ts.length
  fuel : ts.length < x.1 + x.2.1
  few : x.2.2.length + x.1 ≤ ts.length + 1
theorem b1v (i : Nat) (hi : i ≤ ts.length) : Row Tryz.prog 40 [vKs ts, vI i] [] (vC3 (lpF ts (ts.length + 1) i [])) [] := by
  have h0 : InvRF ts i (lpF ts (ts.length + 1) i []) (ts.length + 1, i, []) := ⟨rfl, ⟨Nat.le_refl _, hi⟩, by dsimp only; omega, by simp⟩
  obtain ⟨C, hC⟩ : ∃ C, lpF ts (ts.length + 1) i [] = C := ⟨_, rfl⟩
  rw [hC] at h0 ⊢
  clear hC
  refine f6 Tryz.func40 rfl rfl (Nat.le_of_ble_eq_true rfl) ?_
  repeat (first | refine d4 ?_ | refine b8 ?_ | refine b7 ?_ | refine b9 ?_ | refine f5 rfl ?_ | refine d8 rfl ?_ | ((first | refine c5 (fun K hK => ?_) | refine d5 f8 (fun K hK => ?_) | fail); simp -implicitDefEqProofs; first | refine hK _ ?_ | refine hK _ _ (by rfl) ?_ | fail) | fail)
  refine l7 (ι := Nat × Nat × List VT) (fun x => s7 [(0, vKs ts), (1, vI (x.2.1 : Nat)), (7, .v (.c (.row 0 6 (x.2.2.map tc))))] [some (.row 25 6)]) (InvRF ts i C) (fun x => x.1) (ts.length + 1, i, []) h0 (f7 [3] (by simp -implicitDefEqProofs) (by simp -implicitDefEqProofs) (by decide) rfl (by simp)) (fun Z hI x hx => ?_)
  clear h0
  obtain ⟨m, j, acc⟩ := x
  obtain ⟨x1, x2, x3, x4⟩ := hx
  dsimp only at x1 x2 x3 x4 ⊢
  obtain ⟨m, rfl⟩ : ∃ m', m = m' + 1 := ⟨m - 1, by omega⟩
  have q := i5 ts j a90
  rw [j0 q_ket] at q
  have w1 : IntKind.i64.wrap ((j : Nat) + 1 : Int) = (j : Nat) + 1 := k9 _ (by omega) (by omega)
  rw [lpF] at x1
  by_cases h1 : acc ≠ [] ∧ isK a90 (nxt ts j) = true
  · rw [if_pos h1] at x1
    rw [← x1]
    obtain ⟨h2, h3⟩ := h1
    rw [h3] at q
    obtain ⟨y, l, rfl⟩ : ∃ y l, acc = y :: l := by cases acc with
      | nil => exact absurd rfl h2
      | cons y l => exact ⟨y, l, rfl⟩
    have hz : ¬ ((l.length : Int) + 1 = 0) := by omega
    clear x1 h2 h3
    repeat' (first | refine d4 ?_ | refine b8 ?_ | refine b7 ?_ | refine b9 ?_ | refine f5 rfl ?_ | refine d8 rfl ?_ | ((first | refine c5 (fun K hK => ?_) | refine d5 f8 (fun K hK => ?_) | refine a9 (cp q ?_) | refine a8 (dp q ?_) | fail); simp -implicitDefEqProofs [w1, hz]) | refine hK _ ?_ | refine hK _ _ (by rfl) ?_ | fail)
    refine d7 (d6 ?_); simp -implicitDefEqProofs [g8, f9, g7] <;> try rfl
  rw [if_neg h1] at x1
  have p := a6h ts hl j x2.2
  have hk := v7 (ts := ts) j x2.2
  obtain ⟨⟨⟨tx, tl⟩, r2, r3⟩, hr⟩ : ∃ r, l9 ts j = r := ⟨_, rfl⟩
  rw [hr] at x1 p hk
  dsimp only at x1
  have b1 : (acc.length + 1) * 72 ≤ 140737488355328 := by omega
  have b2 : acc.length + 1 ≤ 140737488355328 := by omega
  have go : (acc.length : Int) = 0 ∨ (¬ acc = [] ∧ isK a90 (nxt ts j) = false) := by
    by_cases hz : acc = []
    · left; rw [hz]; rfl
    · right
      refine ⟨hz, ?_⟩
      cases hb : isK a90 (nxt ts j) with
      | false => rfl
      | true => exact absurd ⟨hz, hb⟩ h1
  by_cases h3 : r3 = 0; rotate_left
  · rw [if_pos h3] at x1
    rw [← x1]
    clear x1 hk hr h1
    rcases go with hz | ⟨hz, hb⟩
    · have hz' : acc = [] := List.length_eq_zero_iff.1 (by omega)
      subst hz'
      repeat' (first | refine d4 ?_ | refine b8 ?_ | refine b7 ?_ | refine b9 ?_ | refine f5 rfl ?_ | refine d8 rfl ?_ | ((first | refine c5 (fun K hK => ?_) | refine d5 f8 (fun K hK => ?_) | refine a9 (cp q ?_) | refine a8 (dp q ?_) | refine a9 (cp p ?_) | refine a8 (dp p ?_) | fail); simp -implicitDefEqProofs [h3]) | refine hK _ ?_ | refine hK _ _ (by rfl) ?_ | fail)
      refine d7 (d6 ?_); simp -implicitDefEqProofs [g8, f9, g7] <;> try rfl
    · rw [hb] at q
      clear hb
      repeat' (first | refine d4 ?_ | refine b8 ?_ | refine b7 ?_ | refine b9 ?_ | refine f5 rfl ?_ | refine d8 rfl ?_ | ((first | refine c5 (fun K hK => ?_) | refine d5 f8 (fun K hK => ?_) | refine a9 (cp q ?_) | refine a8 (dp q ?_) | refine a9 (cp p ?_) | refine a8 (dp p ?_) | fail); simp -implicitDefEqProofs [h3, hz]) | refine hK _ ?_ | refine hK _ _ (by rfl) ?_ | fail)
      refine d7 (d6 ?_); simp -implicitDefEqProofs [g8, f9, g7] <;> try rfl
  subst h3
  rw [if_neg (by simp)] at x1
  have hy := hk.yes rfl
  dsimp only at hy
  have s := i5 ts r2 a04
  rw [j0 a5i] at s
  by_cases h4 : isK a04 (nxt ts r2) = true
  · rw [if_pos h4] at x1
    rw [h4] at s
    have hlt := g9 h4
    have w2 : IntKind.i64.wrap ((r2 : Nat) + 1 : Int) = (r2 : Nat) + 1 := k9 _ (by omega) (by omega)
    have nx : InvRF ts i C (m, r2 + 1, acc ++ [.mk tx tl]) := ⟨x1, by dsimp only; omega, by dsimp only; omega, by dsimp only; rw [List.length_append, List.length_singleton]; omega⟩
    clear x1 hk hr h1 h4
    rcases go with hz | ⟨hz, hb⟩
    · have hz' : acc = [] := List.length_eq_zero_iff.1 (by omega)
      subst hz'
      repeat' (first | refine d4 ?_ | refine b8 ?_ | refine b7 ?_ | refine b9 ?_ | refine f5 rfl ?_ | refine d8 rfl ?_ | ((first | refine c5 (fun K hK => ?_) | refine d5 f8 (fun K hK => ?_) | refine a9 (cp q ?_) | refine a8 (dp q ?_) | refine a9 (cp p ?_) | refine a8 (dp p ?_) | refine a9 (cp s ?_) | refine a8 (dp s ?_) | fail); simp -implicitDefEqProofs [b1, b2, w2]) | refine hK _ ?_ | refine hK _ _ (by rfl) ?_ | fail)
      refine ⟨(_, _, _), nx, (by dsimp only; omega), ?_⟩; rw [hI]; exact f7 [37] (by simp -implicitDefEqProofs) (by simp -implicitDefEqProofs) (by decide) rfl (by simp)
    · rw [hb] at q
      clear hb
      repeat' (first | refine d4 ?_ | refine b8 ?_ | refine b7 ?_ | refine b9 ?_ | refine f5 rfl ?_ | refine d8 rfl ?_ | ((first | refine c5 (fun K hK => ?_) | refine d5 f8 (fun K hK => ?_) | refine a9 (cp q ?_) | refine a8 (dp q ?_) | refine a9 (cp p ?_) | refine a8 (dp p ?_) | refine a9 (cp s ?_) | refine a8 (dp s ?_) | fail); simp -implicitDefEqProofs [b1, b2, w2, hz]) | refine hK _ ?_ | refine hK _ _ (by rfl) ?_ | fail)
      refine ⟨(_, _, _), nx, (by dsimp only; omega), ?_⟩; rw [hI]; exact f7 [48] (by simp -implicitDefEqProofs) (by simp -implicitDefEqProofs) (by decide) rfl (by simp)
  · have h4 : isK a04 (nxt ts r2) = false := by simpa using h4
    rw [if_neg (by simp [h4])] at x1
    rw [h4] at s
    rw [← x1]
    clear x1 hk hr h1 h4
    rcases go with hz | ⟨hz, hb⟩
    · have hz' : acc = [] := List.length_eq_zero_iff.1 (by omega)
      subst hz'
      repeat' (first | refine d4 ?_ | refine b8 ?_ | refine b7 ?_ | refine b9 ?_ | refine f5 rfl ?_ | refine d8 rfl ?_ | ((first | refine c5 (fun K hK => ?_) | refine d5 f8 (fun K hK => ?_) | refine a9 (cp q ?_) | refine a8 (dp q ?_) | refine a9 (cp p ?_) | refine a8 (dp p ?_) | refine a9 (cp s ?_) | refine a8 (dp s ?_) | fail); simp -implicitDefEqProofs) | refine hK _ ?_ | refine hK _ _ (by rfl) ?_ | fail)
      refine d7 (d6 ?_); simp -implicitDefEqProofs [g8, f9, g7] <;> try rfl
    · rw [hb] at q
      clear hb
      repeat' (first | refine d4 ?_ | refine b8 ?_ | refine b7 ?_ | refine b9 ?_ | refine f5 rfl ?_ | refine d8 rfl ?_ | ((first | refine c5 (fun K hK => ?_) | refine d5 f8 (fun K hK => ?_) | refine a9 (cp q ?_) | refine a8 (dp q ?_) | refine a9 (cp p ?_) | refine a8 (dp p ?_) | refine a9 (cp s ?_) | refine a8 (dp s ?_) | fail); simp -implicitDefEqProofs [hz]) | refine hK _ ?_ | refine hK _ _ (by rfl) ?_ | fail)
      refine d7 (d6 ?_); simp -implicitDefEqProofs [g8, f9, g7] <;> try rfl
structure InvRP (i : Nat) (C : List VT × Nat × Int) (x : Nat × Nat × List VT × Bool) : Prop where
  go : x.2.2.2 = true → lpC ts (l9 ts) x.1 x.2.1 x.2.2.1 = C
  no : x.2.2.2 = false → C = (x.2.2.1, x.2.1, 0)
  le : i ≤ x.2.1 ∧ x.2.1 ≤ ts.length
  fuel : x.2.2.2 = true → ts.length < x.1 + x.2.1
  few : x.2.2.1.length + x.1 ≤ ts.length + 2
theorem b1y (i : Nat) (hi : i ≤ ts.length) : Row Tryz.prog 59 [vKs ts, vI i] [] (vG (a2g ts i)) [] := by
  have q1 := i5 ts i l4
  rw [j0 q_po] at q1
  have w1 : IntKind.i64.wrap ((i : Nat) + 1 : Int) = (i : Nat) + 1 := k9 _ (by omega) (by omega)
  unfold a2g a0x
  by_cases k1 : isK l4 (nxt ts i) = true; rotate_left
  · have k1 : isK l4 (nxt ts i) = false := by simpa using k1
    rw [if_pos k1]
    rw [k1] at q1
    have b := l6 i
    clear k1
    refine f6 Tryz.func59 rfl rfl (Nat.le_of_ble_eq_true rfl) ?_
    repeat' (first | refine d4 ?_ | refine b8 ?_ | refine b7 ?_ | refine b9 ?_ | refine f5 rfl ?_ | refine d8 rfl ?_ | ((first | refine c5 (fun K hK => ?_) | refine d5 f8 (fun K hK => ?_) | refine a9 (cp q1 ?_) | refine a8 (dp q1 ?_) | refine a9 (cp b ?_) | refine a8 (dp b ?_) | fail); simp -implicitDefEqProofs) | refine hK _ ?_ | refine hK _ _ (by rfl) ?_ | fail)
    refine d7 (d6 ?_); simp -implicitDefEqProofs [g8, f9, g7, a0w, z0] <;> try rfl
  have hlt := g9 k1
  rw [if_neg (by simp [k1])]
  rw [k1] at q1
  have q2 := i5 ts (i + 1) l5
  rw [j0 q_ps] at q2
  have w2 : IntKind.i64.wrap ((i : Nat) + 1 + 1 : Int) = (i : Nat) + 1 + 1 := k9 _ (by omega) (by omega)
  by_cases k2 : isK l5 (nxt ts (i + 1)) = true
  · rw [if_pos ⟨rfl, k2⟩]
    rw [k2] at q2
    have hlt2 := g9 k2
    have m : Row Tryz.prog 41 [vKs ts, vI i, vI (i + 1 + 1 : Nat), vI 35, vI 0, vS ⟨#[]⟩, vLs []] [] (vG (mk7 ts i (i + 1 + 1) 35 0 ⟨#[]⟩ [])) [] := o4 ts hl i (i + 1 + 1) 35 0 ⟨#[]⟩ [] (by omega) (by omega)
    rw [show a0w ts i 35 ⟨#[]⟩ ([], i + 2, 0) = mk7 ts i (i + 1 + 1) 35 0 ⟨#[]⟩ [] from if_neg (by simp)]
    clear k1 k2
    refine f6 Tryz.func59 rfl rfl (Nat.le_of_ble_eq_true rfl) ?_
    repeat' (first | refine d4 ?_ | refine b8 ?_ | refine b7 ?_ | refine b9 ?_ | refine f5 rfl ?_ | refine d8 rfl ?_ | ((first | refine c5 (fun K hK => ?_) | refine d5 f8 (fun K hK => ?_) | refine a9 (cp q1 ?_) | refine a8 (dp q1 ?_) | refine a9 (cp q2 ?_) | refine a8 (dp q2 ?_) | refine a9 (cp m ?_) | refine a8 (dp m ?_) | fail); simp -implicitDefEqProofs [w1, w2]) | refine hK _ ?_ | refine hK _ _ (by rfl) ?_ | fail)
    refine d7 (d6 ?_); simp -implicitDefEqProofs [g8, f9, g7, mk7] <;> try rfl
  have k2 : isK l5 (nxt ts (i + 1)) = false := by simpa using k2
  rw [if_neg (by simp [k2])]
  rw [k2] at q2
  have hokc := a9i (v7 (ts := ts)) (ts.length + 1) (i + 1) [] hlt
  have h0 : InvRP ts (i + 1) (lpC ts (l9 ts) (ts.length + 1) (i + 1) []) (ts.length + 1, i + 1, [], true) := ⟨fun _ => rfl, (fun h => by cases h), ⟨Nat.le_refl _, hlt⟩, (fun _ => by dsimp only; omega), by simp⟩
  obtain ⟨C, hC⟩ : ∃ C, lpC ts (l9 ts) (ts.length + 1) (i + 1) [] = C := ⟨_, rfl⟩
  rw [hC] at h0 hokc ⊢
  clear hC k1 k2
  refine f6 Tryz.func59 rfl rfl (Nat.le_of_ble_eq_true rfl) ?_
  repeat' (first | refine d4 ?_ | refine b8 ?_ | refine b7 ?_ | refine b9 ?_ | refine f5 rfl ?_ | refine d8 rfl ?_ | ((first | refine c5 (fun K hK => ?_) | refine d5 f8 (fun K hK => ?_) | refine a9 (cp q1 ?_) | refine a8 (dp q1 ?_) | refine a9 (cp q2 ?_) | refine a8 (dp q2 ?_) | fail); simp -implicitDefEqProofs [w1]) | refine hK _ ?_ | refine hK _ _ (by rfl) ?_ | fail)
  refine l7 (ι := Nat × Nat × List VT × Bool) (fun x => s7 [(0, vKs ts), (1, vI i), (4, .v (.c (.ptr 0 0))), (5, .v (.c (.row 1 6 (x.2.2.1.map tc)))), (6, vI (x.2.1 : Nat)), (7, vB x.2.2.2)] [some zG, some (.row 25 6)]) (InvRP ts (i + 1) C) (fun x => x.1 + (if x.2.2.2 = true then 1 else 0)) (ts.length + 1, i + 1, [], true) h0 (f7 [0, 1] (by simp -implicitDefEqProofs) (by simp -implicitDefEqProofs) (by decide) rfl (by simp)) (fun Z hI x hx => ?_)
  clear h0 q1 q2
  obtain ⟨m, j, acc, more⟩ := x
  obtain ⟨x1, x2, x3, x4, x5⟩ := hx
  dsimp only at x1 x2 x3 x4 x5 ⊢
  cases more with
  | false =>
    have x2 := x2 rfl
    subst x2
    have s := i5 ts j l5
    rw [j0 q_ps] at s
    have wj : IntKind.i64.wrap ((j : Nat) + 1 : Int) = (j : Nat) + 1 := k9 _ (by omega) (by omega)
    by_cases k3 : isK l5 (nxt ts j) = true
    · have hlt3 := g9 k3
      rw [if_neg (by simp), if_neg (by simp [k3])]
      rw [k3] at s
      have mk : Row Tryz.prog 41 [vKs ts, vI i, vI (j + 1 : Nat), vI 35, vI 0, vS ⟨#[]⟩, vLs acc] [] (vG (mk7 ts i (j + 1) 35 0 ⟨#[]⟩ acc)) [] := o4 ts hl i (j + 1) 35 0 ⟨#[]⟩ acc (by omega) (by omega)
      rw [show a0w ts i 35 ⟨#[]⟩ (acc, j + 1, 0) = mk7 ts i (j + 1) 35 0 ⟨#[]⟩ acc from if_neg (by simp)]
      clear k3 x1 hokc
      repeat' (first | refine d4 ?_ | refine b8 ?_ | refine b7 ?_ | refine b9 ?_ | refine f5 rfl ?_ | refine d8 rfl ?_ | ((first | refine c5 (fun K hK => ?_) | refine d5 f8 (fun K hK => ?_) | refine a9 (cp s ?_) | refine a8 (dp s ?_) | refine a9 (cp mk ?_) | refine a8 (dp mk ?_) | fail); simp -implicitDefEqProofs [wj]) | refine hK _ ?_ | refine hK _ _ (by rfl) ?_ | fail)
      refine d7 (d6 ?_); simp -implicitDefEqProofs [g8, f9, g7, mk7] <;> try rfl
    · have k3 : isK l5 (nxt ts j) = false := by simpa using k3
      rw [if_neg (by simp), if_pos k3]
      rw [k3] at s
      have b := l6 j
      clear k3 x1 hokc
      repeat' (first | refine d4 ?_ | refine b8 ?_ | refine b7 ?_ | refine b9 ?_ | refine f5 rfl ?_ | refine d8 rfl ?_ | ((first | refine c5 (fun K hK => ?_) | refine d5 f8 (fun K hK => ?_) | refine a9 (cp s ?_) | refine a8 (dp s ?_) | refine a9 (cp b ?_) | refine a8 (dp b ?_) | fail); simp -implicitDefEqProofs [wj]) | refine hK _ ?_ | refine hK _ _ (by rfl) ?_ | fail)
      refine d7 (d6 ?_); simp -implicitDefEqProofs [g8, f9, g7, a0w, z0] <;> try rfl
  | true =>
    have x1 := x1 rfl
    have x4 := x4 rfl
    obtain ⟨m, rfl⟩ : ∃ m', m = m' + 1 := ⟨m - 1, by omega⟩
    have p := a6h ts hl j x3.2
    have hk := v7 (ts := ts) j x3.2
    rw [lpC] at x1
    obtain ⟨⟨⟨tx, tl⟩, r2, r3⟩, hr⟩ : ∃ r, l9 ts j = r := ⟨_, rfl⟩
    rw [hr] at x1 p hk
    dsimp only at x1
    have b1 : (acc.length + 1) * 72 ≤ 140737488355328 := by omega
    have b2 : acc.length + 1 ≤ 140737488355328 := by omega
    by_cases h3 : r3 = 0; rotate_left
    · rw [if_pos h3] at x1
      rw [← x1, if_pos h3]
      rw [show a0w ts i 35 ⟨#[]⟩ (acc, r2, r3) = (z0, r2, r3) from if_pos h3]
      have hz := (hk.no h3).2
      dsimp only at hz
      unfold z0 at hz ⊢
      simp only [Tr.mk.injEq] at hz
      obtain ⟨rfl, rfl⟩ := hz
      clear x1 hk hr x2 hokc
      repeat' (first | refine d4 ?_ | refine b8 ?_ | refine b7 ?_ | refine b9 ?_ | refine f5 rfl ?_ | refine d8 rfl ?_ | ((first | refine c5 (fun K hK => ?_) | refine d5 f8 (fun K hK => ?_) | refine a9 (cp p ?_) | refine a8 (dp p ?_) | fail); simp -implicitDefEqProofs [h3]) | refine hK _ ?_ | refine hK _ _ (by rfl) ?_ | fail)
      refine d7 (d6 ?_); simp -implicitDefEqProofs [g8, f9, g7] <;> try rfl
    subst h3
    rw [if_neg (by simp)] at x1
    have hy := hk.yes rfl
    dsimp only at hy
    have s := i5 ts r2 a6k
    rw [j0 q_com] at s
    by_cases h4 : isK a6k (nxt ts r2) = true
    · have hlt4 := g9 h4
      rw [if_neg (by simp [h4])] at x1
      rw [h4] at s
      have wr : IntKind.i64.wrap ((r2 : Nat) + 1 : Int) = (r2 : Nat) + 1 := k9 _ (by omega) (by omega)
      have nx : InvRP ts (i + 1) C (m, r2 + 1, acc ++ [.mk tx tl], true) := ⟨fun _ => x1, (fun h => by cases h), by dsimp only; omega, fun _ => by dsimp only; omega, by dsimp only; rw [List.length_append, List.length_singleton]; omega⟩
      clear x1 hk hr h4 x2 hokc
      repeat' (first | refine d4 ?_ | refine b8 ?_ | refine b7 ?_ | refine b9 ?_ | refine f5 rfl ?_ | refine d8 rfl ?_ | ((first | refine c5 (fun K hK => ?_) | refine d5 f8 (fun K hK => ?_) | refine a9 (cp p ?_) | refine a8 (dp p ?_) | refine a9 (cp s ?_) | refine a8 (dp s ?_) | fail); simp -implicitDefEqProofs [b1, b2, wr]) | refine hK _ ?_ | refine hK _ _ (by rfl) ?_ | fail)
      refine ⟨(_, _, _, true), nx, (by simp), ?_⟩; rw [hI]; exact f7 [0, 22] (by simp -implicitDefEqProofs) (by simp -implicitDefEqProofs) (by decide) rfl (by simp)
    · have h4 : isK a6k (nxt ts r2) = false := by simpa using h4
      rw [if_pos h4] at x1
      rw [h4] at s
      have nx : InvRP ts (i + 1) C (m, r2, acc ++ [.mk tx tl], false) := ⟨(fun h => by cases h), fun _ => x1.symm, by dsimp only; omega, (fun h => by cases h), by dsimp only; rw [List.length_append, List.length_singleton]; omega⟩
      clear x1 hk hr h4 x2 hokc
      repeat' (first | refine d4 ?_ | refine b8 ?_ | refine b7 ?_ | refine b9 ?_ | refine f5 rfl ?_ | refine d8 rfl ?_ | ((first | refine c5 (fun K hK => ?_) | refine d5 f8 (fun K hK => ?_) | refine a9 (cp p ?_) | refine a8 (dp p ?_) | refine a9 (cp s ?_) | refine a8 (dp s ?_) | fail); simp -implicitDefEqProofs [b1, b2]) | refine hK _ ?_ | refine hK _ _ (by rfl) ?_ | fail)
      refine ⟨(_, _, _, false), nx, (by simp; omega), ?_⟩; rw [hI]; exact f7 [0, 22] (by simp -implicitDefEqProofs) (by simp -implicitDefEqProofs) (by decide) rfl (by simp)
end
end Go.Proofs.YthkfdheoakbfnaaGreat.am
end
