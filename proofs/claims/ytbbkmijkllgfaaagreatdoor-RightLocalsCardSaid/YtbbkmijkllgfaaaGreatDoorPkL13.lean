import Derived.Test.YtbbkmijkllgfaaaGreatDoorPkL10
set_option maxRecDepth 100000
set_option maxHeartbeats 4000000
section
namespace Go.Proofs.YtbbkmijkllgfaaaGreatDoor.am
open Go.ChangeShapes Go.WideShapes Go.ChangeAt Go.RowKit
open vt
set_option linter.unusedVariables false
set_option linter.unusedSimpArgs false
theorem td_got16 : td Tryz.prog 50 = some ⟨true, 8, 88, [.lit (.int .i64 0), .lit (.int .i64 0), .lit (.string ⟨#[]⟩), .nilS, .lit (.int .i64 0), .lit (.int .i64 0), .lit (.int .i64 0), .lit (.int .i64 0)], [(0, 6, true), (6, 1, false), (7, 1, false)], .struct⟩ := Eq.trans (by kernel_rfl) (Eq.refl _)
attribute [simp] td_got16
noncomputable abbrev vGr (g : GR) : AV := .v (.agg (ta g.t ++ [.pv (I g.pl), .pv (I g.er)]))
abbrev vII (p : Int × Int) : AV := .tup [.c (.pv (I p.1)), .c (.pv (I p.2))]
theorem n4 (x : Lab) (l : List VT) (e : Int) : Row Tryz.prog 37 [vT (.mk x l), vI e] [] (vGr (m8 x e)) [] := by
  unfold m8
  refine d7 Tryz.func37 rfl rfl (Nat.le_of_ble_eq_true rfl) ?_
  repeat (first | refine b9 ?_ | refine b6 ?_ | refine a6 ?_ | refine b5 ?_ | refine e7 rfl ?_ | refine d9 rfl ?_ | ((first | refine b8 (fun K hK => ?_) | refine d3 e9 (fun K hK => ?_) | fail); simp -implicitDefEqProofs; first | refine hK _ ?_ | refine hK _ _ (by rfl) ?_ | fail) | fail)
  refine d6 (d4 ?_); simp -implicitDefEqProofs [f9, f6, f7] <;> try rfl
theorem a9l (g : GV) : Row Tryz.prog 170 [vGt g] [] (vGr (b4k g)) [] := by
  obtain ⟨⟨ax, al⟩, ⟨bx, bl⟩, p, e⟩ := g
  unfold b4k
  refine d7 Tryz.func170 rfl rfl (Nat.le_of_ble_eq_true rfl) ?_
  repeat (first | refine b9 ?_ | refine b6 ?_ | refine a6 ?_ | refine b5 ?_ | refine e7 rfl ?_ | refine d9 rfl ?_ | ((first | refine b8 (fun K hK => ?_) | refine d3 e9 (fun K hK => ?_) | fail); simp -implicitDefEqProofs; first | refine hK _ ?_ | refine hK _ _ (by rfl) ?_ | fail) | fail)
  refine d6 (d4 ?_); simp -implicitDefEqProofs [f9, f6, f7] <;> try rfl
theorem a6i (k : Int) : Row Tryz.prog 168 [vI k] [] (vII (a03 k)) [] := by
  unfold a03
  by_cases c20 : k = 20
  · subst c20
    refine d7 Tryz.func168 rfl rfl (Nat.le_of_ble_eq_true rfl) ?_
    repeat (first | refine b9 ?_ | refine b6 ?_ | refine a6 ?_ | refine b5 ?_ | refine e7 rfl ?_ | refine d9 rfl ?_ | ((first | refine b8 (fun K hK => ?_) | refine d3 e9 (fun K hK => ?_) | fail); simp -implicitDefEqProofs; first | refine hK _ ?_ | refine hK _ _ (by rfl) ?_ | fail) | fail)
    refine d6 (d4 ?_); simp -implicitDefEqProofs [f9, f6, f7] <;> try rfl
  by_cases c21 : k = 21
  · subst c21
    refine d7 Tryz.func168 rfl rfl (Nat.le_of_ble_eq_true rfl) ?_
    repeat (first | refine b9 ?_ | refine b6 ?_ | refine a6 ?_ | refine b5 ?_ | refine e7 rfl ?_ | refine d9 rfl ?_ | ((first | refine b8 (fun K hK => ?_) | refine d3 e9 (fun K hK => ?_) | fail); simp -implicitDefEqProofs; first | refine hK _ ?_ | refine hK _ _ (by rfl) ?_ | fail) | fail)
    refine d6 (d4 ?_); simp -implicitDefEqProofs [f9, f6, f7] <;> try rfl
  by_cases c26 : k = 26
  · subst c26
    refine d7 Tryz.func168 rfl rfl (Nat.le_of_ble_eq_true rfl) ?_
    repeat (first | refine b9 ?_ | refine b6 ?_ | refine a6 ?_ | refine b5 ?_ | refine e7 rfl ?_ | refine d9 rfl ?_ | ((first | refine b8 (fun K hK => ?_) | refine d3 e9 (fun K hK => ?_) | fail); simp -implicitDefEqProofs; first | refine hK _ ?_ | refine hK _ _ (by rfl) ?_ | fail) | fail)
    refine d6 (d4 ?_); simp -implicitDefEqProofs [f9, f6, f7] <;> try rfl
  by_cases c27 : k = 27
  · subst c27
    refine d7 Tryz.func168 rfl rfl (Nat.le_of_ble_eq_true rfl) ?_
    repeat (first | refine b9 ?_ | refine b6 ?_ | refine a6 ?_ | refine b5 ?_ | refine e7 rfl ?_ | refine d9 rfl ?_ | ((first | refine b8 (fun K hK => ?_) | refine d3 e9 (fun K hK => ?_) | fail); simp -implicitDefEqProofs; first | refine hK _ ?_ | refine hK _ _ (by rfl) ?_ | fail) | fail)
    refine d6 (d4 ?_); simp -implicitDefEqProofs [f9, f6, f7] <;> try rfl
  by_cases c28 : k = 28
  · subst c28
    refine d7 Tryz.func168 rfl rfl (Nat.le_of_ble_eq_true rfl) ?_
    repeat (first | refine b9 ?_ | refine b6 ?_ | refine a6 ?_ | refine b5 ?_ | refine e7 rfl ?_ | refine d9 rfl ?_ | ((first | refine b8 (fun K hK => ?_) | refine d3 e9 (fun K hK => ?_) | fail); simp -implicitDefEqProofs; first | refine hK _ ?_ | refine hK _ _ (by rfl) ?_ | fail) | fail)
    refine d6 (d4 ?_); simp -implicitDefEqProofs [f9, f6, f7] <;> try rfl
  by_cases c22 : k = 22
  · subst c22
    refine d7 Tryz.func168 rfl rfl (Nat.le_of_ble_eq_true rfl) ?_
    repeat (first | refine b9 ?_ | refine b6 ?_ | refine a6 ?_ | refine b5 ?_ | refine e7 rfl ?_ | refine d9 rfl ?_ | ((first | refine b8 (fun K hK => ?_) | refine d3 e9 (fun K hK => ?_) | fail); simp -implicitDefEqProofs; first | refine hK _ ?_ | refine hK _ _ (by rfl) ?_ | fail) | fail)
    refine d6 (d4 ?_); simp -implicitDefEqProofs [f9, f6, f7] <;> try rfl
  by_cases c23 : k = 23
  · subst c23
    refine d7 Tryz.func168 rfl rfl (Nat.le_of_ble_eq_true rfl) ?_
    repeat (first | refine b9 ?_ | refine b6 ?_ | refine a6 ?_ | refine b5 ?_ | refine e7 rfl ?_ | refine d9 rfl ?_ | ((first | refine b8 (fun K hK => ?_) | refine d3 e9 (fun K hK => ?_) | fail); simp -implicitDefEqProofs; first | refine hK _ ?_ | refine hK _ _ (by rfl) ?_ | fail) | fail)
    refine d6 (d4 ?_); simp -implicitDefEqProofs [f9, f6, f7] <;> try rfl
  by_cases c24 : k = 24
  · subst c24
    refine d7 Tryz.func168 rfl rfl (Nat.le_of_ble_eq_true rfl) ?_
    repeat (first | refine b9 ?_ | refine b6 ?_ | refine a6 ?_ | refine b5 ?_ | refine e7 rfl ?_ | refine d9 rfl ?_ | ((first | refine b8 (fun K hK => ?_) | refine d3 e9 (fun K hK => ?_) | fail); simp -implicitDefEqProofs; first | refine hK _ ?_ | refine hK _ _ (by rfl) ?_ | fail) | fail)
    refine d6 (d4 ?_); simp -implicitDefEqProofs [f9, f6, f7] <;> try rfl
  by_cases c25 : k = 25
  · subst c25
    refine d7 Tryz.func168 rfl rfl (Nat.le_of_ble_eq_true rfl) ?_
    repeat (first | refine b9 ?_ | refine b6 ?_ | refine a6 ?_ | refine b5 ?_ | refine e7 rfl ?_ | refine d9 rfl ?_ | ((first | refine b8 (fun K hK => ?_) | refine d3 e9 (fun K hK => ?_) | fail); simp -implicitDefEqProofs; first | refine hK _ ?_ | refine hK _ _ (by rfl) ?_ | fail) | fail)
    refine d6 (d4 ?_); simp -implicitDefEqProofs [f9, f6, f7] <;> try rfl
  refine d7 Tryz.func168 rfl rfl (Nat.le_of_ble_eq_true rfl) ?_
  repeat (first | refine b9 ?_ | refine b6 ?_ | refine a6 ?_ | refine b5 ?_ | refine e7 rfl ?_ | refine d9 rfl ?_ | ((first | refine b8 (fun K hK => ?_) | refine d3 e9 (fun K hK => ?_) | fail); simp -implicitDefEqProofs [c20, c21, c22, c23, c24, c25, c26, c27, c28]; first | refine hK _ ?_ | refine hK _ _ (by rfl) ?_ | fail) | fail)
  refine d6 (d4 ?_); simp -implicitDefEqProofs [f9, f6, f7, c20, c21, c22, c23, c24, c25, c26, c27, c28] <;> try rfl
theorem b8v (m : VT) (L : List VT) (B : Nat) (hm : p6 B m) (hL : ∀ t ∈ L, p6 B t) (hB : B ≤ 400000) (hLl : L.length ≤ 1000000) (t : VT) (ht : m7 t) (hts : t.size ≤ 400000) (a b : Int) : Row Tryz.prog 169 [vT m, vLs L, vT t, vI a, vI b] [] (vGr (b0f m L t a b)) [] := by
  have hof := a7r m L B hm hL hB hLl t ht hts
  obtain ⟨x, l⟩ := t
  have hba := n4 x l 10
  unfold b0f
  have hfr := a9l (ofT m L (.mk x l))
  rw [Tr.lab]
  obtain ⟨⟨⟨ax, al⟩, ⟨bx, bl⟩, p, e⟩, hG⟩ : ∃ g, ofT m L (.mk x l) = g := ⟨_, rfl⟩
  rw [hG] at hof hfr ⊢
  have i1 := a0p (.mk ax al) a
  have i2 := a0p (.mk ax al) b
  obtain ⟨p1, q1⟩ : ∃ p, isT (.mk ax al) a = p := ⟨_, rfl⟩
  obtain ⟨p2, q2⟩ : ∃ p, isT (.mk ax al) b = p := ⟨_, rfl⟩
  rw [q1] at i1 ⊢
  rw [q2] at i2 ⊢
  unfold m8 at hba ⊢
  unfold b4k at hfr ⊢
  clear hG q1 q2
  obtain ⟨mx, ml⟩ := m
  by_cases he : e = 0
  · subst he
    cases p1 <;> cases p2
    · refine d7 Tryz.func169 rfl rfl (Nat.le_of_ble_eq_true rfl) ?_
      repeat' (first | refine b9 ?_ | refine b6 ?_ | refine a6 ?_ | refine b5 ?_ | refine e7 rfl ?_ | refine d9 rfl ?_ | ((first | refine b8 (fun K hK => ?_) | refine d3 e9 (fun K hK => ?_) | refine b7 (cp hof ?_) | refine a8 (dp hof ?_) | refine b7 (cp i1 ?_) | refine a8 (dp i1 ?_) | refine b7 (cp i2 ?_) | refine a8 (dp i2 ?_) | refine b7 (cp hba ?_) | refine a8 (dp hba ?_) | refine b7 (cp hfr ?_) | refine a8 (dp hfr ?_) | fail); simp -implicitDefEqProofs) | refine hK _ ?_ | refine hK _ _ (by rfl) ?_ | fail)
      refine d6 (d4 ?_); simp -implicitDefEqProofs [f9, f6, f7] <;> try rfl
    · refine d7 Tryz.func169 rfl rfl (Nat.le_of_ble_eq_true rfl) ?_
      repeat' (first | refine b9 ?_ | refine b6 ?_ | refine a6 ?_ | refine b5 ?_ | refine e7 rfl ?_ | refine d9 rfl ?_ | ((first | refine b8 (fun K hK => ?_) | refine d3 e9 (fun K hK => ?_) | refine b7 (cp hof ?_) | refine a8 (dp hof ?_) | refine b7 (cp i1 ?_) | refine a8 (dp i1 ?_) | refine b7 (cp i2 ?_) | refine a8 (dp i2 ?_) | refine b7 (cp hba ?_) | refine a8 (dp hba ?_) | refine b7 (cp hfr ?_) | refine a8 (dp hfr ?_) | fail); simp -implicitDefEqProofs) | refine hK _ ?_ | refine hK _ _ (by rfl) ?_ | fail)
      refine d6 (d4 ?_); simp -implicitDefEqProofs [f9, f6, f7] <;> try rfl
    · refine d7 Tryz.func169 rfl rfl (Nat.le_of_ble_eq_true rfl) ?_
      repeat' (first | refine b9 ?_ | refine b6 ?_ | refine a6 ?_ | refine b5 ?_ | refine e7 rfl ?_ | refine d9 rfl ?_ | ((first | refine b8 (fun K hK => ?_) | refine d3 e9 (fun K hK => ?_) | refine b7 (cp hof ?_) | refine a8 (dp hof ?_) | refine b7 (cp i1 ?_) | refine a8 (dp i1 ?_) | refine b7 (cp i2 ?_) | refine a8 (dp i2 ?_) | refine b7 (cp hba ?_) | refine a8 (dp hba ?_) | refine b7 (cp hfr ?_) | refine a8 (dp hfr ?_) | fail); simp -implicitDefEqProofs) | refine hK _ ?_ | refine hK _ _ (by rfl) ?_ | fail)
      refine d6 (d4 ?_); simp -implicitDefEqProofs [f9, f6, f7] <;> try rfl
    · refine d7 Tryz.func169 rfl rfl (Nat.le_of_ble_eq_true rfl) ?_
      repeat' (first | refine b9 ?_ | refine b6 ?_ | refine a6 ?_ | refine b5 ?_ | refine e7 rfl ?_ | refine d9 rfl ?_ | ((first | refine b8 (fun K hK => ?_) | refine d3 e9 (fun K hK => ?_) | refine b7 (cp hof ?_) | refine a8 (dp hof ?_) | refine b7 (cp i1 ?_) | refine a8 (dp i1 ?_) | refine b7 (cp i2 ?_) | refine a8 (dp i2 ?_) | refine b7 (cp hba ?_) | refine a8 (dp hba ?_) | refine b7 (cp hfr ?_) | refine a8 (dp hfr ?_) | fail); simp -implicitDefEqProofs) | refine hK _ ?_ | refine hK _ _ (by rfl) ?_ | fail)
      refine d6 (d4 ?_); simp -implicitDefEqProofs [f9, f6, f7] <;> try rfl
  · refine d7 Tryz.func169 rfl rfl (Nat.le_of_ble_eq_true rfl) ?_
    repeat' (first | refine b9 ?_ | refine b6 ?_ | refine a6 ?_ | refine b5 ?_ | refine e7 rfl ?_ | refine d9 rfl ?_ | ((first | refine b8 (fun K hK => ?_) | refine d3 e9 (fun K hK => ?_) | refine b7 (cp hof ?_) | refine a8 (dp hof ?_) | refine b7 (cp i1 ?_) | refine a8 (dp i1 ?_) | refine b7 (cp i2 ?_) | refine a8 (dp i2 ?_) | refine b7 (cp hba ?_) | refine a8 (dp hba ?_) | refine b7 (cp hfr ?_) | refine a8 (dp hfr ?_) | fail); simp -implicitDefEqProofs [he]) | refine hK _ ?_ | refine hK _ _ (by rfl) ?_ | fail)
    refine d6 (d4 ?_); simp -implicitDefEqProofs [f9, f6, f7, he] <;> try rfl
theorem a41 (m : VT) (L : List VT) (B : Nat) (hm : p6 B m) (hL : ∀ t ∈ L, p6 B t) (hB : B ≤ 400000) (hLl : L.length ≤ 900000) (t : VT) (ht : m7 t) (hts : t.size ≤ 400000) : Row Tryz.prog 34 [vT m, vLs L, vT t] [] (vLs (z6 m L t)) [] := by
  obtain ⟨x, l⟩ := t
  unfold z6
  rw [Tr.lab, Tr.kids]
  have b1 : (L.length + 1) * 72 ≤ 140737488355328 := by omega
  have b2 : L.length + 1 ≤ 140737488355328 := by omega
  have b3 : L.length * 72 ≤ 140737488355328 := by omega
  have b4 : L.length ≤ 140737488355328 := by omega
  by_cases h1 : l.length = 1; rotate_left
  · rw [if_neg (fun h => h1 h.2), if_neg (fun h => h1 h.2)]
    have h1' : ¬ (l.length : Int) = 1 := by omega
    obtain ⟨mx, ml⟩ := m
    by_cases c20 : x.k = 20
    · refine d7 Tryz.func34 rfl rfl (Nat.le_of_ble_eq_true rfl) ?_
      repeat (first | refine b9 ?_ | refine b6 ?_ | refine a6 ?_ | refine b5 ?_ | refine e7 rfl ?_ | refine d9 rfl ?_ | ((first | refine b8 (fun K hK => ?_) | refine d3 e9 (fun K hK => ?_) | fail); simp -implicitDefEqProofs [c20, h1, h1']; first | refine hK _ ?_ | refine hK _ _ (by rfl) ?_ | fail) | fail)
      refine d6 (d4 ?_); simp -implicitDefEqProofs [f9, f6, f7] <;> try rfl
    · by_cases c21 : x.k = 21
      · refine d7 Tryz.func34 rfl rfl (Nat.le_of_ble_eq_true rfl) ?_
        repeat (first | refine b9 ?_ | refine b6 ?_ | refine a6 ?_ | refine b5 ?_ | refine e7 rfl ?_ | refine d9 rfl ?_ | ((first | refine b8 (fun K hK => ?_) | refine d3 e9 (fun K hK => ?_) | fail); simp -implicitDefEqProofs [c21, h1, h1']; first | refine hK _ ?_ | refine hK _ _ (by rfl) ?_ | fail) | fail)
        refine d6 (d4 ?_); simp -implicitDefEqProofs [f9, f6, f7] <;> try rfl
      · refine d7 Tryz.func34 rfl rfl (Nat.le_of_ble_eq_true rfl) ?_
        repeat (first | refine b9 ?_ | refine b6 ?_ | refine a6 ?_ | refine b5 ?_ | refine e7 rfl ?_ | refine d9 rfl ?_ | ((first | refine b8 (fun K hK => ?_) | refine d3 e9 (fun K hK => ?_) | fail); simp -implicitDefEqProofs [c20, c21, h1, h1']; first | refine hK _ ?_ | refine hK _ _ (by rfl) ?_ | fail) | fail)
        refine d6 (d4 ?_); simp -implicitDefEqProofs [f9, f6, f7] <;> try rfl
  obtain ⟨⟨ax, al⟩, rfl⟩ := o6 h1
  have hsz1 := Tr.size_at (x := x) (l := [Tr.mk ax al]) (i := 0) rfl
  have hof := a7r m L B hm hL hB (by omega) (.mk ax al) (((Tr.all_mk _ _ _).1 ht).2 _ (by simp)) (by omega)
  by_cases c20 : x.k = 20
  · rw [if_pos ⟨c20, h1⟩]
    rw [show [Tr.mk ax al].getD 0 z0T = .mk ax al from rfl]
    obtain ⟨⟨⟨cx, cl⟩, ⟨bx, bl⟩, p, e⟩, hG⟩ : ∃ g, ofT m L (.mk ax al) = g := ⟨_, rfl⟩
    rw [hG] at hof ⊢
    clear hG
    obtain ⟨mx, ml⟩ := m
    refine d7 Tryz.func34 rfl rfl (Nat.le_of_ble_eq_true rfl) ?_
    repeat' (first | refine b9 ?_ | refine b6 ?_ | refine a6 ?_ | refine b5 ?_ | refine e7 rfl ?_ | refine d9 rfl ?_ | ((first | refine b8 (fun K hK => ?_) | refine d3 e9 (fun K hK => ?_) | refine b7 (cp hof ?_) | refine a8 (dp hof ?_) | fail); simp -implicitDefEqProofs [c20, b1, b2, b3, b4]) | refine hK _ ?_ | refine hK _ _ (by rfl) ?_ | fail)
    refine d6 (d4 ?_); simp -implicitDefEqProofs [f9, f6, f7] <;> try rfl
  · rw [if_neg (fun h => c20 h.1)]
    clear hof
    by_cases c21 : x.k = 21
    · rw [if_pos ⟨c21, h1⟩]
      obtain ⟨mx, ml⟩ := m
      refine d7 Tryz.func34 rfl rfl (Nat.le_of_ble_eq_true rfl) ?_
      repeat (first | refine b9 ?_ | refine b6 ?_ | refine a6 ?_ | refine b5 ?_ | refine e7 rfl ?_ | refine d9 rfl ?_ | ((first | refine b8 (fun K hK => ?_) | refine d3 e9 (fun K hK => ?_) | fail); simp -implicitDefEqProofs [c21, b1, b2, b3, b4]; first | refine hK _ ?_ | refine hK _ _ (by rfl) ?_ | fail) | fail)
      refine d6 (d4 ?_); simp -implicitDefEqProofs [f9, f6, f7] <;> try rfl
    · rw [if_neg (fun h => c21 h.1)]
      obtain ⟨mx, ml⟩ := m
      refine d7 Tryz.func34 rfl rfl (Nat.le_of_ble_eq_true rfl) ?_
      repeat (first | refine b9 ?_ | refine b6 ?_ | refine a6 ?_ | refine b5 ?_ | refine e7 rfl ?_ | refine d9 rfl ?_ | ((first | refine b8 (fun K hK => ?_) | refine d3 e9 (fun K hK => ?_) | fail); simp -implicitDefEqProofs [c20, c21]; first | refine hK _ ?_ | refine hK _ _ (by rfl) ?_ | fail) | fail)
      refine d6 (d4 ?_); simp -implicitDefEqProofs [f9, f6, f7] <;> try rfl
theorem a6c (k : Int) : a03 k = (-1, 0) ∨ ∃ n b : Nat, a03 k = ((n : Int), (b : Int)) ∧ b ≤ n ∧ n ≤ 3 := by
  unfold a03
  split
  · exact .inr ⟨1, 0, rfl, by omega, by omega⟩
  · split
    · exact .inr ⟨2, 0, rfl, by omega, by omega⟩
    · split
      · exact .inr ⟨3, 2, rfl, by omega, by omega⟩
      · split
        · exact .inr ⟨2, 1, rfl, by omega, by omega⟩
        · split
          · exact .inr ⟨3, 1, rfl, by omega, by omega⟩
          · exact .inl rfl
theorem c1h {l : List VT} {s : Nat} {p : VT → Bool} (h : ∀ j y, s ≤ j → l[j]? = some y → p y = true) : (l.drop s).all p = true := by
  rw [List.all_eq_true]
  intro y hy
  obtain ⟨i, hi⟩ := List.mem_iff_getElem?.1 hy
  rw [List.getElem?_drop] at hi
  exact h (s + i) y (by omega) hi
theorem c47 {l : List VT} {s j : Nat} {y : VT} {p : VT → Bool} (hj : s ≤ j) (hy : l[j]? = some y) (hp : p y = false) : (l.drop s).all p = false := by
  rw [List.all_eq_false]
  refine ⟨y, List.mem_iff_getElem?.2 ⟨j - s, ?_⟩, by rw [hp]; simp⟩
  rw [List.getElem?_drop, show s + (j - s) = j by omega]
  exact hy
theorem b5d (x : Lab) (l : List VT) (hsz : (Tr.mk x l).size ≤ 1000000) : Row Tryz.prog 138 [vT (.mk x l)] [] (vB (b0g x l)) [] := by
  have hlen := Tr.len_size (x := x) (l := l)
  by_cases c29 : x.k = 29
  · unfold b0g
    rw [if_pos c29]
    refine d7 Tryz.func138 rfl rfl (Nat.le_of_ble_eq_true rfl) ?_
    repeat (first | refine b9 ?_ | refine b6 ?_ | refine a6 ?_ | refine b5 ?_ | refine e7 rfl ?_ | refine d9 rfl ?_ | ((first | refine b8 (fun K hK => ?_) | refine d3 e9 (fun K hK => ?_) | fail); simp -implicitDefEqProofs [c29]; first | refine hK _ ?_ | refine hK _ _ (by rfl) ?_ | fail) | fail)
    refine d6 (d4 ?_); simp -implicitDefEqProofs [f9, f6, f7] <;> try rfl
  have hp := a6i x.k
  have hs : b0g x l = (decide ((l.length : Int) = (a03 x.k).1) && (l.drop ((a03 x.k).1 - (a03 x.k).2).toNat).all c09) := by unfold b0g; rw [if_neg c29]
  rcases a6c x.k with e | ⟨n, b, e, hb, hn⟩
  · rw [e] at hp hs
    dsimp only at hp hs
    have h1 : ¬ (l.length : Int) = -1 := by omega
    rw [decide_eq_false h1, Bool.false_and] at hs
    rw [hs]
    clear hs e
    refine d7 Tryz.func138 rfl rfl (Nat.le_of_ble_eq_true rfl) ?_
    repeat' (first | refine b9 ?_ | refine b6 ?_ | refine a6 ?_ | refine b5 ?_ | refine e7 rfl ?_ | refine d9 rfl ?_ | ((first | refine b8 (fun K hK => ?_) | refine d3 e9 (fun K hK => ?_) | refine b7 (cp hp ?_) | refine a8 (dp hp ?_) | fail); simp -implicitDefEqProofs [c29, h1]) | refine hK _ ?_ | refine hK _ _ (by rfl) ?_ | fail)
    refine d6 (d4 ?_); simp -implicitDefEqProofs [f9, f6, f7] <;> try rfl
  rw [e] at hp hs
  dsimp only at hp hs
  by_cases hl : l.length = n; rotate_left
  · have h1 : ¬ (l.length : Int) = (n : Nat) := by omega
    rw [decide_eq_false h1, Bool.false_and] at hs
    rw [hs]
    clear hs e
    refine d7 Tryz.func138 rfl rfl (Nat.le_of_ble_eq_true rfl) ?_
    repeat' (first | refine b9 ?_ | refine b6 ?_ | refine a6 ?_ | refine b5 ?_ | refine e7 rfl ?_ | refine d9 rfl ?_ | ((first | refine b8 (fun K hK => ?_) | refine d3 e9 (fun K hK => ?_) | refine b7 (cp hp ?_) | refine a8 (dp hp ?_) | fail); simp -implicitDefEqProofs [c29, h1, hl]) | refine hK _ ?_ | refine hK _ _ (by rfl) ?_ | fail)
    refine d6 (d4 ?_); simp -implicitDefEqProofs [f9, f6, f7] <;> try rfl
  subst hl
  rw [decide_eq_true rfl, Bool.true_and] at hs
  obtain ⟨s, hsb⟩ : ∃ s : Nat, l.length - b = s := ⟨_, rfl⟩
  have w1 : IntKind.i64.wrap ((l.length : Nat) - (b : Nat) : Int) = (s : Nat) := by rw [l4 _ (by omega) (by omega)]; omega
  rw [show ((l.length : Int) - (b : Int)).toNat = s by omega] at hs
  rw [hs]
  have hno := fun j y h1 h2 h3 => c47 (l := l) (s := s) (j := j) (y := y) (p := c09) h1 h2 h3
  have hyes := c1h (l := l) (s := s) (p := c09)
  obtain ⟨R, hR⟩ : ∃ R, (l.drop s).all c09 = R := ⟨_, rfl⟩
  rw [hR] at hno hyes ⊢
  clear hs e hR
  refine d7 Tryz.func138 rfl rfl (Nat.le_of_ble_eq_true rfl) ?_
  repeat' (first | refine b9 ?_ | refine b6 ?_ | refine a6 ?_ | refine b5 ?_ | refine e7 rfl ?_ | refine d9 rfl ?_ | ((first | refine b8 (fun K hK => ?_) | refine d3 e9 (fun K hK => ?_) | refine b7 (cp hp ?_) | refine a8 (dp hp ?_) | fail); simp -implicitDefEqProofs [c29, w1]) | refine hK _ ?_ | refine hK _ _ (by rfl) ?_ | fail)
  refine m6 (ι := Nat) (fun k => x5 [(1, .v (.c (.ptr 0 0))), (3, vI (l.length : Nat)), (5, vI (k : Nat))] [some (.box (ta (.mk x l)))]) (fun k => s ≤ k ∧ k ≤ l.length ∧ ∀ j y, s ≤ j → j < k → l[j]? = some y → c09 y = true) (fun k => l.length - k) s ⟨Nat.le_refl _, by omega, fun j y h1 h2 => by omega⟩ (e8 [0] (by simp -implicitDefEqProofs) (by simp -implicitDefEqProofs) (by decide) rfl (by simp)) (fun Z hI k hk => ?_)
  obtain ⟨hk0, hk, hz⟩ := hk
  by_cases hkl : k < l.length; rotate_left
  · have : k = l.length := by omega
    subst this
    have hR := hyes (fun j y h1 h2 => hz j y h1 (List.getElem?_eq_some_iff.1 h2).1 h2)
    subst hR
    clear hno hyes
    repeat (first | refine b9 ?_ | refine b6 ?_ | refine a6 ?_ | refine b5 ?_ | refine e7 rfl ?_ | refine d9 rfl ?_ | ((first | refine b8 (fun K hK => ?_) | refine d3 e9 (fun K hK => ?_) | fail); simp -implicitDefEqProofs; first | refine hK _ ?_ | refine hK _ _ (by rfl) ?_ | fail) | fail)
    refine d6 (d4 ?_); simp -implicitDefEqProofs [f9, f6, f7] <;> try rfl
  obtain ⟨⟨ax, al⟩, ha⟩ : ∃ a, l[k]? = some a := ⟨_, List.getElem?_eq_getElem hkl⟩
  have ha' := (List.getElem?_eq_some_iff.1 ha).2
  have w2 : IntKind.i64.wrap ((k : Nat) + 1 : Int) = (k : Nat) + 1 := l4 _ (by omega) (by omega)
  by_cases ak : ax.k = 29
  · clear hno hyes
    repeat (first | refine b9 ?_ | refine b6 ?_ | refine a6 ?_ | refine b5 ?_ | refine e7 rfl ?_ | refine d9 rfl ?_ | ((first | refine b8 (fun K hK => ?_) | refine d3 e9 (fun K hK => ?_) | fail); simp -implicitDefEqProofs [hkl, ha, ha', ak, w2]; first | refine hK _ ?_ | refine hK _ _ (by rfl) ?_ | fail) | fail)
    refine ⟨k + 1, ⟨by omega, by omega, fun j y h1 h2 h3 => ?_⟩, (by dsimp only; omega), ?_⟩
    · by_cases hj : j = k
      · subst hj; rw [ha] at h3; cases h3; unfold c09; simp [Tr.lab, ak]
      · exact hz j y h1 (by omega) h3
    · rw [hI]; exact e8 [0] (by simp -implicitDefEqProofs) (by simp -implicitDefEqProofs) (by decide) rfl (by simp)
  · have hR := hno k _ hk0 ha (by unfold c09; simp [Tr.lab, ak])
    subst hR
    clear hno hyes
    repeat (first | refine b9 ?_ | refine b6 ?_ | refine a6 ?_ | refine b5 ?_ | refine e7 rfl ?_ | refine d9 rfl ?_ | ((first | refine b8 (fun K hK => ?_) | refine d3 e9 (fun K hK => ?_) | fail); simp -implicitDefEqProofs [hkl, ha, ha', ak]; first | refine hK _ ?_ | refine hK _ _ (by rfl) ?_ | fail) | fail)
    refine d6 (d4 ?_); simp -implicitDefEqProofs [f9, f6, f7] <;> try rfl
structure Cn (m : VT) (L : List VT) (ret : VT) (B sz : Nat) : Prop where
  hm : p6 B m
  hL : ∀ t ∈ L, p6 B t
  len : L.length + sz ≤ 400000
  le : B + sz ≤ 400000
  ret : p6 400000 ret
theorem Cn.less {m : VT} {L : List VT} {ret : VT} {B sz sz' : Nat} (h : Cn m L ret B sz) (hs : sz' ≤ sz) : Cn m L ret B sz' := ⟨h.hm, h.hL, by have := h.len; omega, by have := h.le; omega, h.ret⟩
theorem b66 {m : VT} {L : List VT} {ret : VT} {B sz : Nat} {t : VT} (h : Cn m L ret B (t.size + sz)) (ht : m7 t) : Cn m (z6 m L t) ret (B + t.size) sz := by
  have hlen := h.len
  have hle := h.le
  have hL : ∀ y ∈ L, p6 (B + t.size) y := fun y hy => (h.hL y hy).le (by omega)
  obtain ⟨x, l⟩ := t
  have hp := Tr.size_pos (Tr.mk x l)
  unfold z6
  rw [Tr.lab, Tr.kids]
  have hin : ∀ z, l.length = 1 → p6 (B + (Tr.mk x l).size) z → Cn m (L ++ [z]) ret (B + (Tr.mk x l).size) sz := fun z _ hz => ⟨h.hm.le (by omega), fun y hy => by
    rcases List.mem_append.1 hy with hy | hy
    · exact hL y hy
    · simp at hy; subst hy; exact hz, by simp; omega, by omega, h.ret⟩
  split
  · rename_i hc
    obtain ⟨a, rfl⟩ := o6 hc.2
    have hs := Tr.size_at (x := x) (l := [a]) (i := 0) rfl
    have := (a9d h.hm (by have := h.hm.2; omega) h.hL a (((Tr.all_mk _ _ _).1 ht).2 a (by simp)) (by omega)).ty
    exact hin _ hc.2 (this.le (by omega))
  · split
    · rename_i hc
      obtain ⟨a, rfl⟩ := o6 hc.2
      have hs := Tr.size_at (x := x) (l := [a]) (i := 0) rfl
      refine hin _ hc.2 ⟨((Tr.all_mk _ _ _).1 ht).2 a (by simp), ?_⟩
      show a.size ≤ _
      omega
    · exact ⟨h.hm.le (by omega), hL, by omega, by omega, h.ret⟩
def StR (m ret y : VT) : Prop := ∀ L B, Cn m L ret B y.size → Row Tryz.prog 91 [vT m, vLs L, vT ret, vT y] [] (vGr (a0k m ret y L)) []
def BlR (m ret y : VT) : Prop := ∀ L B, Cn m L ret B y.size → Row Tryz.prog 56 [vT m, vLs L, vT ret, vT y] [] (vGr (a2u m ret y.lab y.kids L [])) []
theorem b1o (m ret : VT) (x : Lab) (l : List VT) (ht : m7 (.mk x l)) (ih : ∀ y ∈ l, StR m ret y) : BlR m ret (.mk x l) := by
  intro L B hc
  have hlen := Tr.len_size (x := x) (l := l)
  have hcl := hc.len
  have hcB := hc.le
  have hsum : (l.map Tr.size).sum + 1 = (Tr.mk x l).size := by rw [Tr.size_mk]; omega
  rw [Tr.lab, Tr.kids]
  obtain ⟨R, hR⟩ : ∃ R, a2u m ret x l L [] = R := ⟨_, rfl⟩
  rw [hR]
  have hc0 : Cn m L ret B (l.map Tr.size).sum := hc.less (by omega)
  clear hc
  have hbr := fun (L : List VT) (B sz : Nat) (h : Cn m L ret B sz) (t : VT) (ht : m7 t) (hs : t.size ≤ 400000) => a41 m L B h.hm h.hL (by have := h.le; omega) (by have := h.len; omega) t ht hs
  obtain ⟨⟨mx, ml⟩, rfl⟩ : ∃ q, m = q := ⟨_, rfl⟩
  obtain ⟨⟨rx, rl⟩, rfl⟩ : ∃ q, ret = q := ⟨_, rfl⟩
  refine d7 Tryz.func56 rfl rfl (Nat.le_of_ble_eq_true rfl) ?_
  repeat (first | refine b9 ?_ | refine b6 ?_ | refine a6 ?_ | refine b5 ?_ | refine e7 rfl ?_ | refine d9 rfl ?_ | ((first | refine b8 (fun K hK => ?_) | refine d3 e9 (fun K hK => ?_) | fail); simp -implicitDefEqProofs; first | refine hK _ ?_ | refine hK _ _ (by rfl) ?_ | fail) | fail)
  refine m6 (ι := Nat × List VT × List VT) (fun i => x5 [(1, vLs i.2.1), (4, .v (.c (.ptr 0 0))), (6, .v (.c (.ptr 1 0))), (7, .v (.c (.ptr 2 0))), (8, .v (.c (.ptr 3 0))), (9, .v (.c (.ptr 4 0))), (10, vI (i.1 : Nat))] [some (.box (ta (.mk mx ml))), some (.box (ta (.mk rx rl))), some (.box (ta (.mk x l))), some (.box (ta z0T ++ [.pv (I 0), .pv (I 0)])), some (.box [.pv (I x.k), .pv (I x.n), .pv (Sx ⟨#[]⟩), .row 5 6 (i.2.2.map tc), .pv (I 0), .pv (I 0)]), some (.row 24 6)]) (fun i => i.1 ≤ l.length ∧ i.2.2.length = i.1 ∧ a2u (.mk mx ml) (.mk rx rl) x (l.drop i.1) i.2.1 i.2.2 = R ∧ ∃ C, Cn (.mk mx ml) i.2.1 (.mk rx rl) C ((l.drop i.1).map Tr.size).sum) (fun i => l.length - i.1) (0, L, []) ⟨Nat.zero_le _, rfl, hR, B, hc0⟩ (e8 [0, 1, 2, 3, 10, 8] (by simp -implicitDefEqProofs) (by simp -implicitDefEqProofs) (by decide) rfl (by simp)) (fun Z hI i hi => ?_)
  obtain ⟨k, LK, AK⟩ := i
  obtain ⟨hk, hal, hz, C, hC⟩ := hi
  dsimp only at hk hal hz hC ⊢
  by_cases hkl : k < l.length; rotate_left
  · have : k = l.length := by omega
    subst this
    rw [List.drop_length] at hz
    unfold a2u at hz
    subst hz
    repeat (first | refine b9 ?_ | refine b6 ?_ | refine a6 ?_ | refine b5 ?_ | refine e7 rfl ?_ | refine d9 rfl ?_ | ((first | refine b8 (fun K hK => ?_) | refine d3 e9 (fun K hK => ?_) | fail); simp -implicitDefEqProofs; first | refine hK _ ?_ | refine hK _ _ (by rfl) ?_ | fail) | fail)
    refine d6 (d4 ?_); simp -implicitDefEqProofs [f9, f6, f7] <;> try rfl
  obtain ⟨⟨ax, al⟩, ha⟩ : ∃ a, l[k]? = some a := ⟨_, List.getElem?_eq_getElem hkl⟩
  have ha' := (List.getElem?_eq_some_iff.1 ha).2
  have hmem := List.mem_of_getElem? ha
  have hin := ((Tr.all_mk _ x l).1 ht).2 _ hmem
  have hsz1 := Tr.size_at (x := x) ha
  have hd : l.drop k = .mk ax al :: l.drop (k + 1) := by rw [List.drop_eq_getElem_cons hkl, ha']
  rw [hd] at hz hC
  rw [List.map_cons, List.sum_cons] at hC
  have hc := ih _ hmem LK C (hC.less (by omega))
  have hb := hbr LK C _ hC (.mk ax al) hin (by have := hC.le; omega)
  have hn := b66 hC hin
  have w2 : IntKind.i64.wrap ((k : Nat) + 1 : Int) = (k : Nat) + 1 := l4 _ (by omega) (by omega)
  have b1 : (k + 1) * 72 ≤ 140737488355328 := by omega
  have b2 : k + 1 ≤ 140737488355328 := by omega
  unfold a2u at hz
  obtain ⟨⟨⟨bx, bl⟩, gp, ge⟩, hG⟩ : ∃ g, a0k (.mk mx ml) (.mk rx rl) (.mk ax al) LK = g := ⟨_, rfl⟩
  rw [hG] at hc hz
  obtain ⟨LN, hLN⟩ : ∃ LN, z6 (.mk mx ml) LK (.mk ax al) = LN := ⟨_, rfl⟩
  rw [hLN] at hb hz hn
  clear hG hLN hd hin hC ih hbr
  by_cases he : ge = 0
  · subst he
    rw [if_pos rfl] at hz
    repeat' (first | refine b9 ?_ | refine b6 ?_ | refine a6 ?_ | refine b5 ?_ | refine e7 rfl ?_ | refine d9 rfl ?_ | ((first | refine b8 (fun K hK => ?_) | refine d3 e9 (fun K hK => ?_) | refine b7 (cp hc ?_) | refine a8 (dp hc ?_) | refine b7 (cp hb ?_) | refine a8 (dp hb ?_) | fail); simp -implicitDefEqProofs [hkl, ha, ha', hal, b1, b2, w2]) | refine hK _ ?_ | refine hK _ _ (by rfl) ?_ | fail)
    refine ⟨(k + 1, LN, AK ++ [.mk bx bl]), ⟨by omega, by simp [hal], hz, _, hn⟩, (by dsimp only; omega), ?_⟩
    rw [hI]; exact e8 [0, 1, 2, 3, 4, 107] (by simp -implicitDefEqProofs) (by simp -implicitDefEqProofs) (by decide) rfl (by simp)
  · rw [if_neg he] at hz
    subst hz
    repeat' (first | refine b9 ?_ | refine b6 ?_ | refine a6 ?_ | refine b5 ?_ | refine e7 rfl ?_ | refine d9 rfl ?_ | ((first | refine b8 (fun K hK => ?_) | refine d3 e9 (fun K hK => ?_) | refine b7 (cp hc ?_) | refine a8 (dp hc ?_) | fail); simp -implicitDefEqProofs [hkl, ha, ha', he]) | refine hK _ ?_ | refine hK _ _ (by rfl) ?_ | fail)
    refine d6 (d4 ?_); simp -implicitDefEqProofs [f9, f6, f7] <;> try rfl
theorem b49 (m ret : VT) (L : List VT) (B : Nat) (x : Lab) (l : List VT) (ht : m7 (.mk x l)) (hc : Cn m L ret B (Tr.mk x l).size) (i : Nat) (y : VT) (hy : l[i]? = some y) (hn : (l.length : Int) = (a03 x.k).1) (hb : (a03 x.k).1 - (a03 x.k).2 ≤ i → y.lab.k = 29 ∧ BlR m ret y) : Row Tryz.prog 139 [vT m, vLs L, vT ret, vT (.mk x l), vI (i : Nat)] [] (vGr (a3w m ret L x i y)) [] := by
  have hp := a6i x.k
  have hil := (List.getElem?_eq_some_iff.1 hy).1
  have hy' := (List.getElem?_eq_some_iff.1 hy).2
  have hsz := Tr.size_at (x := x) hy
  have hin := ((Tr.all_mk _ x l).1 ht).2 _ (List.mem_of_getElem? hy)
  have hcl := hc.len
  have hcB := hc.le
  have hms := hc.hm.2
  have b3 : L.length * 72 ≤ 140737488355328 := by omega
  have b4 : L.length ≤ 140737488355328 := by omega
  have b1 : (L.length + 1) * 72 ≤ 140737488355328 := by omega
  have b2 : L.length + 1 ≤ 140737488355328 := by omega
  unfold a3w c3s
  rcases a6c x.k with e | ⟨n, b, e, hbn, hn3⟩
  · rw [e] at hn; dsimp only at hn; omega
  rw [e] at hp hn hb ⊢
  dsimp only at hp hn hb ⊢
  have hln : l.length = n := by omega
  subst hln
  obtain ⟨s, hsb⟩ : ∃ s : Nat, l.length - b = s := ⟨_, rfl⟩
  have w1 : IntKind.i64.wrap ((l.length : Nat) - (b : Nat) : Int) = (s : Nat) := by rw [l4 _ (by omega) (by omega)]; omega
  rw [show ((l.length : Int) - (b : Int)) = (s : Nat) by omega] at hb ⊢
  by_cases hsi : s ≤ i
  · have hsi' : (s : Int) ≤ (i : Int) := by omega
    obtain ⟨h29, hbl⟩ := hb hsi'
    rw [if_pos hsi']
    obtain ⟨yx, yl⟩ := y
    rw [Tr.lab] at h29
    have hst : ∀ L, a0k m ret (.mk yx yl) L = a2u m ret yx yl L [] := fun L => by
      rw [a06, show b0g yx yl = true by unfold b0g; rw [if_pos h29], if_neg (by simp), if_pos h29]
    by_cases c25 : x.k = 25
    · rw [if_pos c25, hst]
      have hk := hbl (L ++ [tyT 1]) B ⟨hc.hm, fun y hy => by
        rcases List.mem_append.1 hy with hy | hy
        · exact hc.hL y hy
        · simp at hy; subst hy; exact y5 (Nat.le_trans (Tr.size_pos m) hc.hm.2) (by omega), by simp; omega, by omega, hc.ret⟩
      rw [Tr.lab, Tr.kids] at hk
      obtain ⟨⟨⟨bx, bl⟩, gp, ge⟩, hG⟩ : ∃ g, a2u m ret yx yl (L ++ [tyT 1]) [] = g := ⟨_, rfl⟩
      rw [hG] at hk ⊢
      clear hG hb hbl hst e
      unfold tyT at hk
      obtain ⟨mx, ml⟩ := m
      obtain ⟨rx, rl⟩ := ret
      refine d7 Tryz.func139 rfl rfl (Nat.le_of_ble_eq_true rfl) ?_
      repeat' (first | refine b9 ?_ | refine b6 ?_ | refine a6 ?_ | refine b5 ?_ | refine e7 rfl ?_ | refine d9 rfl ?_ | ((first | refine b8 (fun K hK => ?_) | refine d3 e9 (fun K hK => ?_) | refine b7 (cp hp ?_) | refine a8 (dp hp ?_) | refine b7 (cp hk ?_) | refine a8 (dp hk ?_) | fail); simp -implicitDefEqProofs [hil, hy, hy', w1, hsi, hsi', c25, b1, b2, b3, b4]) | refine hK _ ?_ | refine hK _ _ (by rfl) ?_ | fail)
      refine d6 (d4 ?_); simp -implicitDefEqProofs [f9, f6, f7] <;> try rfl
    · rw [if_neg c25, hst]
      have hk := hbl L B (hc.less (by omega))
      rw [Tr.lab, Tr.kids] at hk
      obtain ⟨⟨⟨bx, bl⟩, gp, ge⟩, hG⟩ : ∃ g, a2u m ret yx yl L [] = g := ⟨_, rfl⟩
      rw [hG] at hk ⊢
      clear hG hb hbl hst e
      obtain ⟨mx, ml⟩ := m
      obtain ⟨rx, rl⟩ := ret
      refine d7 Tryz.func139 rfl rfl (Nat.le_of_ble_eq_true rfl) ?_
      repeat' (first | refine b9 ?_ | refine b6 ?_ | refine a6 ?_ | refine b5 ?_ | refine e7 rfl ?_ | refine d9 rfl ?_ | ((first | refine b8 (fun K hK => ?_) | refine d3 e9 (fun K hK => ?_) | refine b7 (cp hp ?_) | refine a8 (dp hp ?_) | refine b7 (cp hk ?_) | refine a8 (dp hk ?_) | fail); simp -implicitDefEqProofs [hil, hy, hy', w1, hsi, hsi', c25]) | refine hK _ ?_ | refine hK _ _ (by rfl) ?_ | fail)
      refine d6 (d4 ?_); simp -implicitDefEqProofs [f9, f6, f7] <;> try rfl
  have hsi' : ¬ (s : Int) ≤ (i : Int) := by omega
  rw [if_neg hsi']
  clear hb
  by_cases c21 : x.k = 21
  · rw [if_pos c21]
    have hce := a0i m y hc.hm.1 (by omega) hin (by omega)
    have hnm := a7q y (by omega)
    obtain ⟨yx, yl⟩ := y
    have hba := n4 yx yl 11
    rw [Tr.lab]
    obtain ⟨c, hcc⟩ : ∃ c, z7 m (.mk yx yl) = c := ⟨_, rfl⟩
    obtain ⟨⟨zx, zl⟩, hzz⟩ : ∃ z, l3 (.mk yx yl) = z := ⟨_, rfl⟩
    rw [hcc] at hce ⊢
    rw [hzz] at hnm ⊢
    unfold m8 at hba ⊢
    clear hcc hzz e
    obtain ⟨mx, ml⟩ := m
    obtain ⟨rx, rl⟩ := ret
    by_cases c0 : c = 0
    · rw [if_pos c0]
      refine d7 Tryz.func139 rfl rfl (Nat.le_of_ble_eq_true rfl) ?_
      repeat' (first | refine b9 ?_ | refine b6 ?_ | refine a6 ?_ | refine b5 ?_ | refine e7 rfl ?_ | refine d9 rfl ?_ | ((first | refine b8 (fun K hK => ?_) | refine d3 e9 (fun K hK => ?_) | refine b7 (cp hp ?_) | refine a8 (dp hp ?_) | refine b7 (cp hce ?_) | refine a8 (dp hce ?_) | refine b7 (cp hnm ?_) | refine a8 (dp hnm ?_) | refine b7 (cp hba ?_) | refine a8 (dp hba ?_) | fail); simp -implicitDefEqProofs [hil, hy, hy', w1, hsi, hsi', c21, c0]) | refine hK _ ?_ | refine hK _ _ (by rfl) ?_ | fail)
      refine d6 (d4 ?_); simp -implicitDefEqProofs [f9, f6, f7] <;> try rfl
    · rw [if_neg c0]
      refine d7 Tryz.func139 rfl rfl (Nat.le_of_ble_eq_true rfl) ?_
      repeat' (first | refine b9 ?_ | refine b6 ?_ | refine a6 ?_ | refine b5 ?_ | refine e7 rfl ?_ | refine d9 rfl ?_ | ((first | refine b8 (fun K hK => ?_) | refine d3 e9 (fun K hK => ?_) | refine b7 (cp hp ?_) | refine a8 (dp hp ?_) | refine b7 (cp hce ?_) | refine a8 (dp hce ?_) | refine b7 (cp hnm ?_) | refine a8 (dp hnm ?_) | refine b7 (cp hba ?_) | refine a8 (dp hba ?_) | fail); simp -implicitDefEqProofs [hil, hy, hy', w1, hsi, hsi', c21, c0]) | refine hK _ ?_ | refine hK _ _ (by rfl) ?_ | fail)
      refine d6 (d4 ?_); simp -implicitDefEqProofs [f9, f6, f7] <;> try rfl
  rw [if_neg c21]
  have hon := fun a b => b8v m L B hc.hm hc.hL (by omega) (by omega) y hin (by omega) a b
  by_cases c23 : x.k = 23 ∨ x.k = 24
  · rw [if_pos c23]
    have hk := hon 2 2
    obtain ⟨⟨⟨bx, bl⟩, gp, ge⟩, hG⟩ : ∃ g, b0f m L y 2 2 = g := ⟨_, rfl⟩
    rw [hG] at hk ⊢
    clear hG e hon
    obtain ⟨mx, ml⟩ := m
    obtain ⟨rx, rl⟩ := ret
    obtain ⟨yx, yl⟩ := y
    rcases c23 with c | c
    · refine d7 Tryz.func139 rfl rfl (Nat.le_of_ble_eq_true rfl) ?_
      repeat' (first | refine b9 ?_ | refine b6 ?_ | refine a6 ?_ | refine b5 ?_ | refine e7 rfl ?_ | refine d9 rfl ?_ | ((first | refine b8 (fun K hK => ?_) | refine d3 e9 (fun K hK => ?_) | refine b7 (cp hp ?_) | refine a8 (dp hp ?_) | refine b7 (cp hk ?_) | refine a8 (dp hk ?_) | fail); simp -implicitDefEqProofs [hil, hy, hy', w1, hsi, hsi', c]) | refine hK _ ?_ | refine hK _ _ (by rfl) ?_ | fail)
      refine d6 (d4 ?_); simp -implicitDefEqProofs [f9, f6, f7] <;> try rfl
    · refine d7 Tryz.func139 rfl rfl (Nat.le_of_ble_eq_true rfl) ?_
      repeat' (first | refine b9 ?_ | refine b6 ?_ | refine a6 ?_ | refine b5 ?_ | refine e7 rfl ?_ | refine d9 rfl ?_ | ((first | refine b8 (fun K hK => ?_) | refine d3 e9 (fun K hK => ?_) | refine b7 (cp hp ?_) | refine a8 (dp hp ?_) | refine b7 (cp hk ?_) | refine a8 (dp hk ?_) | fail); simp -implicitDefEqProofs [hil, hy, hy', w1, hsi, hsi', c]) | refine hK _ ?_ | refine hK _ _ (by rfl) ?_ | fail)
      refine d6 (d4 ?_); simp -implicitDefEqProofs [f9, f6, f7] <;> try rfl
  rw [if_neg c23]
  have n23 : ¬ x.k = 23 := fun h => c23 (.inl h)
  have n24 : ¬ x.k = 24 := fun h => c23 (.inr h)
  by_cases c25 : x.k = 25
  · rw [if_pos c25]
    have hk := hon 1 1
    obtain ⟨⟨⟨bx, bl⟩, gp, ge⟩, hG⟩ : ∃ g, b0f m L y 1 1 = g := ⟨_, rfl⟩
    rw [hG] at hk ⊢
    clear hG e hon
    obtain ⟨mx, ml⟩ := m
    obtain ⟨rx, rl⟩ := ret
    obtain ⟨yx, yl⟩ := y
    refine d7 Tryz.func139 rfl rfl (Nat.le_of_ble_eq_true rfl) ?_
    repeat' (first | refine b9 ?_ | refine b6 ?_ | refine a6 ?_ | refine b5 ?_ | refine e7 rfl ?_ | refine d9 rfl ?_ | ((first | refine b8 (fun K hK => ?_) | refine d3 e9 (fun K hK => ?_) | refine b7 (cp hp ?_) | refine a8 (dp hp ?_) | refine b7 (cp hk ?_) | refine a8 (dp hk ?_) | fail); simp -implicitDefEqProofs [hil, hy, hy', w1, hsi, hsi', c25]) | refine hK _ ?_ | refine hK _ _ (by rfl) ?_ | fail)
    refine d6 (d4 ?_); simp -implicitDefEqProofs [f9, f6, f7] <;> try rfl
  rw [if_neg c25]
  by_cases c26 : x.k = 26
  · rw [if_pos c26]
    have hk := hon 1 2
    obtain ⟨⟨⟨bx, bl⟩, gp, ge⟩, hG⟩ : ∃ g, b0f m L y 1 2 = g := ⟨_, rfl⟩
    rw [hG] at hk ⊢
    clear hG e hon
    obtain ⟨mx, ml⟩ := m
    obtain ⟨rx, rl⟩ := ret
    obtain ⟨yx, yl⟩ := y
    refine d7 Tryz.func139 rfl rfl (Nat.le_of_ble_eq_true rfl) ?_
    repeat' (first | refine b9 ?_ | refine b6 ?_ | refine a6 ?_ | refine b5 ?_ | refine e7 rfl ?_ | refine d9 rfl ?_ | ((first | refine b8 (fun K hK => ?_) | refine d3 e9 (fun K hK => ?_) | refine b7 (cp hp ?_) | refine a8 (dp hp ?_) | refine b7 (cp hk ?_) | refine a8 (dp hk ?_) | fail); simp -implicitDefEqProofs [hil, hy, hy', w1, hsi, hsi', c26]) | refine hK _ ?_ | refine hK _ _ (by rfl) ?_ | fail)
    refine d6 (d4 ?_); simp -implicitDefEqProofs [f9, f6, f7] <;> try rfl
  rw [if_neg c26]
  clear hon
  by_cases c28 : x.k = 28 ∧ ¬ y.lab.k = 16
  · rw [if_pos c28]
    obtain ⟨c28, c16⟩ := c28
    obtain ⟨yx, yl⟩ := y
    have hba := n4 yx yl 12
    rw [Tr.lab] at c16 ⊢
    unfold m8 at hba ⊢
    obtain ⟨mx, ml⟩ := m
    obtain ⟨rx, rl⟩ := ret
    refine d7 Tryz.func139 rfl rfl (Nat.le_of_ble_eq_true rfl) ?_
    repeat' (first | refine b9 ?_ | refine b6 ?_ | refine a6 ?_ | refine b5 ?_ | refine e7 rfl ?_ | refine d9 rfl ?_ | ((first | refine b8 (fun K hK => ?_) | refine d3 e9 (fun K hK => ?_) | refine b7 (cp hp ?_) | refine a8 (dp hp ?_) | refine b7 (cp hba ?_) | refine a8 (dp hba ?_) | fail); simp -implicitDefEqProofs [hil, hy, hy', w1, hsi, hsi', c28, c16]) | refine hK _ ?_ | refine hK _ _ (by rfl) ?_ | fail)
    refine d6 (d4 ?_); simp -implicitDefEqProofs [f9, f6, f7] <;> try rfl
  rw [if_neg c28]
  have hof := a7r m L B hc.hm hc.hL (by omega) (by omega) y hin (by omega)
  have hok := a9d hc.hm (by omega) hc.hL y hin (by omega)
  have hsa := a04 (ofT m L y).ty (by have := hok.ty.2; omega) (u9 ret) (by rw [a13]; have := hc.ret.2; omega)
  have hbr := a0h ret (by have := hc.ret.2; omega)
  have hfr := a9l (ofT m L y)
  clear hok
  obtain ⟨⟨⟨ax, al⟩, ⟨bx, bl⟩, gp, ge⟩, hG⟩ : ∃ g, ofT m L y = g := ⟨_, rfl⟩
  rw [hG] at hof hsa hfr ⊢
  dsimp only at hsa ⊢
  obtain ⟨⟨zx, zl⟩, hzz⟩ : ∃ z, u9 ret = z := ⟨_, rfl⟩
  rw [hzz] at hsa hbr ⊢
  obtain ⟨q, hq⟩ : ∃ q, same (.mk ax al) (.mk zx zl) = q := ⟨_, rfl⟩
  rw [hq] at hsa ⊢
  unfold b4k at hfr ⊢
  clear hG hzz hq e
  obtain ⟨yx, yl⟩ := y
  have hba := n4 yx yl 10
  unfold m8 at hba ⊢
  rw [Tr.lab] at c28 ⊢
  have c28' : ¬ x.k = 28 ∨ (x.k = 28 ∧ yx.k = 16) := by
    by_cases h : x.k = 28
    · exact .inr ⟨h, Classical.byContradiction fun g => c28 ⟨h, g⟩⟩
    · exact .inl h
  clear c28
  obtain ⟨mx, ml⟩ := m
  obtain ⟨rx, rl⟩ := ret
  by_cases c27 : x.k = 27; rotate_left
  · rw [if_neg (fun h => c27 h.1)]
    rcases c28' with c28 | ⟨c28, c16⟩
    · refine d7 Tryz.func139 rfl rfl (Nat.le_of_ble_eq_true rfl) ?_
      repeat' (first | refine b9 ?_ | refine b6 ?_ | refine a6 ?_ | refine b5 ?_ | refine e7 rfl ?_ | refine d9 rfl ?_ | ((first | refine b8 (fun K hK => ?_) | refine d3 e9 (fun K hK => ?_) | refine b7 (cp hp ?_) | refine a8 (dp hp ?_) | refine b7 (cp hof ?_) | refine a8 (dp hof ?_) | refine b7 (cp hfr ?_) | refine a8 (dp hfr ?_) | fail); simp -implicitDefEqProofs [hil, hy, hy', w1, hsi, hsi', c21, n23, n24, c25, c26, c27, c28]) | refine hK _ ?_ | refine hK _ _ (by rfl) ?_ | fail)
      refine d6 (d4 ?_); simp -implicitDefEqProofs [f9, f6, f7] <;> try rfl
    · refine d7 Tryz.func139 rfl rfl (Nat.le_of_ble_eq_true rfl) ?_
      repeat' (first | refine b9 ?_ | refine b6 ?_ | refine a6 ?_ | refine b5 ?_ | refine e7 rfl ?_ | refine d9 rfl ?_ | ((first | refine b8 (fun K hK => ?_) | refine d3 e9 (fun K hK => ?_) | refine b7 (cp hp ?_) | refine a8 (dp hp ?_) | refine b7 (cp hof ?_) | refine a8 (dp hof ?_) | refine b7 (cp hfr ?_) | refine a8 (dp hfr ?_) | fail); simp -implicitDefEqProofs [hil, hy, hy', w1, hsi, hsi', c27, c28, c16]) | refine hK _ ?_ | refine hK _ _ (by rfl) ?_ | fail)
      refine d6 (d4 ?_); simp -implicitDefEqProofs [f9, f6, f7] <;> try rfl
  by_cases he : ge = 0; rotate_left
  · rw [if_neg (fun h => he h.2.1)]
    refine d7 Tryz.func139 rfl rfl (Nat.le_of_ble_eq_true rfl) ?_
    repeat' (first | refine b9 ?_ | refine b6 ?_ | refine a6 ?_ | refine b5 ?_ | refine e7 rfl ?_ | refine d9 rfl ?_ | ((first | refine b8 (fun K hK => ?_) | refine d3 e9 (fun K hK => ?_) | refine b7 (cp hp ?_) | refine a8 (dp hp ?_) | refine b7 (cp hof ?_) | refine a8 (dp hof ?_) | refine b7 (cp hfr ?_) | refine a8 (dp hfr ?_) | fail); simp -implicitDefEqProofs [hil, hy, hy', w1, hsi, hsi', c27, he]) | refine hK _ ?_ | refine hK _ _ (by rfl) ?_ | fail)
    refine d6 (d4 ?_); simp -implicitDefEqProofs [f9, f6, f7] <;> try rfl
  cases q with
  | true =>
    rw [if_neg (by simp)]
    refine d7 Tryz.func139 rfl rfl (Nat.le_of_ble_eq_true rfl) ?_
    repeat' (first | refine b9 ?_ | refine b6 ?_ | refine a6 ?_ | refine b5 ?_ | refine e7 rfl ?_ | refine d9 rfl ?_ | ((first | refine b8 (fun K hK => ?_) | refine d3 e9 (fun K hK => ?_) | refine b7 (cp hp ?_) | refine a8 (dp hp ?_) | refine b7 (cp hof ?_) | refine a8 (dp hof ?_) | refine b7 (cp hfr ?_) | refine a8 (dp hfr ?_) | refine b7 (cp hbr ?_) | refine a8 (dp hbr ?_) | refine b7 (cp hsa ?_) | refine a8 (dp hsa ?_) | fail); simp -implicitDefEqProofs [hil, hy, hy', w1, hsi, hsi', c27, he]) | refine hK _ ?_ | refine hK _ _ (by rfl) ?_ | fail)
    refine d6 (d4 ?_); simp -implicitDefEqProofs [f9, f6, f7, he] <;> try rfl
  | false =>
    rw [if_pos ⟨c27, he, rfl⟩]
    refine d7 Tryz.func139 rfl rfl (Nat.le_of_ble_eq_true rfl) ?_
    repeat' (first | refine b9 ?_ | refine b6 ?_ | refine a6 ?_ | refine b5 ?_ | refine e7 rfl ?_ | refine d9 rfl ?_ | ((first | refine b8 (fun K hK => ?_) | refine d3 e9 (fun K hK => ?_) | refine b7 (cp hp ?_) | refine a8 (dp hp ?_) | refine b7 (cp hof ?_) | refine a8 (dp hof ?_) | refine b7 (cp hfr ?_) | refine a8 (dp hfr ?_) | refine b7 (cp hbr ?_) | refine a8 (dp hbr ?_) | refine b7 (cp hsa ?_) | refine a8 (dp hsa ?_) | refine b7 (cp hba ?_) | refine a8 (dp hba ?_) | fail); simp -implicitDefEqProofs [hil, hy, hy', w1, hsi, hsi', c27, he]) | refine hK _ ?_ | refine hK _ _ (by rfl) ?_ | fail)
    refine d6 (d4 ?_); simp -implicitDefEqProofs [f9, f6, f7] <;> try rfl
theorem a4z (m ret : VT) (L : List VT) (x : Lab) : ∀ (l : List VT) (i k : Nat), (y3 m ret L x i l)[k]? = (l[k]?).map (a3w m ret L x (i + k))
  | [], i, k => by simp [y3]
  | y :: r, i, 0 => by simp [y3]
  | y :: r, i, k + 1 => by
    rw [y3, List.getElem?_cons_succ, a4z m ret L x r (i + 1) k, List.getElem?_cons_succ, show i + 1 + k = i + (k + 1) by omega]
theorem a9g (m ret : VT) (L : List VT) (x : Lab) : ∀ (l : List VT) (i : Nat), (y3 m ret L x i l).length = l.length
  | [], i => rfl
  | y :: r, i => by rw [y3, List.length_cons, a9g m ret L x r, List.length_cons]
end Go.Proofs.YtbbkmijkllgfaaaGreatDoor.am
end
