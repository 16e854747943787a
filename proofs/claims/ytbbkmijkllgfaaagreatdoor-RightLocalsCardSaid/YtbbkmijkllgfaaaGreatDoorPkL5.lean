import Derived.Test.YtbbkmijkllgfaaaGreatDoorPkL4
set_option maxRecDepth 100000
set_option maxHeartbeats 4000000
section
namespace Go.Proofs.YtbbkmijkllgfaaaGreatDoor.am
open Go.ChangeShapes Go.WideShapes Go.ChangeAt Go.RowKit
open vt
set_option linter.unusedVariables false
set_option linter.unusedSimpArgs false
theorem a43 (m : VT) (hm : m7 m) (hsz : m.size ≤ 1000000) (S : Nat) (hS : ∀ d ∈ m.kids, d.size ≤ S) : ∀ (f : Nat) (t : VT) (ins : List Int), m7 t → t.size ≤ 1000000 → InsOk m.kids ins → (m.kids.length - ins.length) * S + t.size ≤ f → Row Tryz.prog 57 [vT m, vT t, vIs ins] [] (vI (wth m.kids f t ins)) []
  | 0, t, ins, _, _, _, hf => by
    obtain ⟨x, l⟩ := t
    have := Tr.len_size (x := x) (l := l)
    omega
  | f + 1, t, ins, ht, hts, hio, hf => by
    have ih := a43 m hm hsz S hS f
    obtain ⟨mx, ml⟩ := m
    rw [Tr.kids] at hS ih hio hf ⊢
    have hml := Tr.len_size (x := mx) (l := ml)
    obtain ⟨x, l⟩ := t
    have hlen := Tr.len_size (x := x) (l := l)
    have hx := lab_ok ht
    have hil : ins.length ≤ 1000000 := by
      have := pig ml.length ins hio.nd hio.rg
      omega
    unfold wth
    rw [Tr.lab, Tr.kids]
    by_cases hA : (x.k = 1 ∨ x.k = 2) ∧ l.length = 0
    · rw [if_pos hA]
      obtain ⟨h1, h2⟩ := hA
      have h2' : (l.length : Int) = 0 := by omega
      have h2'' : l = [] := List.eq_nil_of_length_eq_zero h2
      clear ih
      rcases h1 with h | h
      · refine d7 Tryz.func57 rfl rfl (Nat.le_of_ble_eq_true rfl) ?_
        repeat (first | refine b9 ?_ | refine b6 ?_ | refine a6 ?_ | refine b5 ?_ | refine e7 rfl ?_ | refine d9 rfl ?_ | ((first | refine b8 (fun K hK => ?_) | refine d3 e9 (fun K hK => ?_) | fail); simp -implicitDefEqProofs [h, h2, h2', h2'']; first | refine hK _ ?_ | refine hK _ _ (by rfl) ?_ | fail) | fail)
        refine d6 (d4 ?_); simp -implicitDefEqProofs [f9, f6, f7] <;> try rfl
      · refine d7 Tryz.func57 rfl rfl (Nat.le_of_ble_eq_true rfl) ?_
        repeat (first | refine b9 ?_ | refine b6 ?_ | refine a6 ?_ | refine b5 ?_ | refine e7 rfl ?_ | refine d9 rfl ?_ | ((first | refine b8 (fun K hK => ?_) | refine d3 e9 (fun K hK => ?_) | fail); simp -implicitDefEqProofs [h, h2, h2', h2'']; first | refine hK _ ?_ | refine hK _ _ (by rfl) ?_ | fail) | fail)
        refine d6 (d4 ?_); simp -implicitDefEqProofs [f9, f6, f7] <;> try rfl
    rw [if_neg hA]
    by_cases h12 : x.k = 1 ∨ x.k = 2
    · have hl0 : ¬ l.length = 0 := fun h => hA ⟨h12, h⟩
      have hl0' : ¬ (l.length : Int) = 0 := by omega
      have hl0'' : ¬ l = [] := fun h => hl0 (by rw [h]; rfl)
      rw [if_neg (by omega), if_pos (.inl (by omega))]
      clear ih
      rcases h12 with h | h
      · refine d7 Tryz.func57 rfl rfl (Nat.le_of_ble_eq_true rfl) ?_
        repeat (first | refine b9 ?_ | refine b6 ?_ | refine a6 ?_ | refine b5 ?_ | refine e7 rfl ?_ | refine d9 rfl ?_ | ((first | refine b8 (fun K hK => ?_) | refine d3 e9 (fun K hK => ?_) | fail); simp -implicitDefEqProofs [h, hl0, hl0', hl0'']; first | refine hK _ ?_ | refine hK _ _ (by rfl) ?_ | fail) | fail)
        refine d6 (d4 ?_); simp -implicitDefEqProofs [f9, f6, f7] <;> try rfl
      · refine d7 Tryz.func57 rfl rfl (Nat.le_of_ble_eq_true rfl) ?_
        repeat (first | refine b9 ?_ | refine b6 ?_ | refine a6 ?_ | refine b5 ?_ | refine e7 rfl ?_ | refine d9 rfl ?_ | ((first | refine b8 (fun K hK => ?_) | refine d3 e9 (fun K hK => ?_) | fail); simp -implicitDefEqProofs [h, hl0, hl0', hl0'']; first | refine hK _ ?_ | refine hK _ _ (by rfl) ?_ | fail) | fail)
        refine d6 (d4 ?_); simp -implicitDefEqProofs [f9, f6, f7] <;> try rfl
    have n1 : ¬ x.k = 1 := fun h => h12 (.inl h)
    have n2 : ¬ x.k = 2 := fun h => h12 (.inr h)
    by_cases h3 : x.k = 3
    · by_cases hB : l.length = 1 ∧ 1 ≤ x.n ∧ x.n ≤ 16; rotate_left
      · rw [if_neg (fun h => hB h.2), if_pos (.inl (by omega))]
        clear ih
        by_cases b1 : l.length = 1
        · have b1' : (l.length : Int) = 1 := by omega
          by_cases b2 : 1 ≤ x.n
          · have b3 : ¬ x.n ≤ 16 := fun h => hB ⟨b1, b2, h⟩
            refine d7 Tryz.func57 rfl rfl (Nat.le_of_ble_eq_true rfl) ?_
            repeat (first | refine b9 ?_ | refine b6 ?_ | refine a6 ?_ | refine b5 ?_ | refine e7 rfl ?_ | refine d9 rfl ?_ | ((first | refine b8 (fun K hK => ?_) | refine d3 e9 (fun K hK => ?_) | fail); simp -implicitDefEqProofs [n1, n2, h3, b1, b1', b2, b3]; first | refine hK _ ?_ | refine hK _ _ (by rfl) ?_ | fail) | fail)
            refine d6 (d4 ?_); simp -implicitDefEqProofs [f9, f6, f7] <;> try rfl
          · refine d7 Tryz.func57 rfl rfl (Nat.le_of_ble_eq_true rfl) ?_
            repeat (first | refine b9 ?_ | refine b6 ?_ | refine a6 ?_ | refine b5 ?_ | refine e7 rfl ?_ | refine d9 rfl ?_ | ((first | refine b8 (fun K hK => ?_) | refine d3 e9 (fun K hK => ?_) | fail); simp -implicitDefEqProofs [n1, n2, h3, b1, b1', b2]; first | refine hK _ ?_ | refine hK _ _ (by rfl) ?_ | fail) | fail)
            refine d6 (d4 ?_); simp -implicitDefEqProofs [f9, f6, f7] <;> try rfl
        · have b1' : ¬ (l.length : Int) = 1 := by omega
          refine d7 Tryz.func57 rfl rfl (Nat.le_of_ble_eq_true rfl) ?_
          repeat (first | refine b9 ?_ | refine b6 ?_ | refine a6 ?_ | refine b5 ?_ | refine e7 rfl ?_ | refine d9 rfl ?_ | ((first | refine b8 (fun K hK => ?_) | refine d3 e9 (fun K hK => ?_) | fail); simp -implicitDefEqProofs [n1, n2, h3, b1, b1']; first | refine hK _ ?_ | refine hK _ _ (by rfl) ?_ | fail) | fail)
          refine d6 (d4 ?_); simp -implicitDefEqProofs [f9, f6, f7] <;> try rfl
      obtain ⟨b1, b2, b3⟩ := hB
      rw [if_pos ⟨h3, b1, b2, b3⟩]
      obtain ⟨⟨ax, al⟩, rfl⟩ : ∃ a, l = [a] := List.length_eq_one_iff.1 b1
      have hsz1 := Tr.size_at (x := x) (l := [.mk ax al]) (i := 0) rfl
      have hr := ih (.mk ax al) ins (b25 ht (by simp)) (by omega) hio (by omega)
      have hv := b0b ml f (.mk ax al) ins
      rw [show [Tr.mk ax al].getD 0 z0T = .mk ax al from rfl]
      obtain ⟨v, hv1⟩ : ∃ v, wth ml f (.mk ax al) ins = v := ⟨_, rfl⟩
      rw [hv1] at hr hv ⊢
      have p0 : 0 ≤ v * x.n := Int.mul_nonneg hv.1 (by omega)
      have p1 : v * x.n ≤ 64 * 16 := Int.mul_le_mul hv.2 b3 (by omega) (by omega)
      have w0 : IntKind.i64.wrap x.n = x.n := l4 _ (by omega) (by omega)
      have w1 : IntKind.i64.wrap (v * x.n) = v * x.n := l4 _ (by omega) (by omega)
      clear ih
      by_cases hb : 64 < v * x.n
      · rw [if_pos hb]
        refine d7 Tryz.func57 rfl rfl (Nat.le_of_ble_eq_true rfl) ?_
        repeat' (first | refine b9 ?_ | refine b6 ?_ | refine a6 ?_ | refine b5 ?_ | refine e7 rfl ?_ | refine d9 rfl ?_ | ((first | refine b8 (fun K hK => ?_) | refine d3 e9 (fun K hK => ?_) | refine b7 (cp hr ?_) | refine a8 (dp hr ?_) | fail); simp -implicitDefEqProofs [n1, n2, h3, b2, b3, w0, w1, hb]) | refine hK _ ?_ | refine hK _ _ (by rfl) ?_ | fail)
        refine d6 (d4 ?_); simp -implicitDefEqProofs [f9, f6, f7] <;> try rfl
      · rw [if_neg hb]
        refine d7 Tryz.func57 rfl rfl (Nat.le_of_ble_eq_true rfl) ?_
        repeat' (first | refine b9 ?_ | refine b6 ?_ | refine a6 ?_ | refine b5 ?_ | refine e7 rfl ?_ | refine d9 rfl ?_ | ((first | refine b8 (fun K hK => ?_) | refine d3 e9 (fun K hK => ?_) | refine b7 (cp hr ?_) | refine a8 (dp hr ?_) | fail); simp -implicitDefEqProofs [n1, n2, h3, b2, b3, w0, w1, hb]) | refine hK _ ?_ | refine hK _ _ (by rfl) ?_ | fail)
        refine d6 (d4 ?_); simp -implicitDefEqProofs [f9, f6, f7] <;> try rfl
    rw [if_neg (fun h => h3 h.1)]
    by_cases h4 : x.k = 4; rotate_left
    · rw [if_pos (.inl h4)]
      clear ih
      refine d7 Tryz.func57 rfl rfl (Nat.le_of_ble_eq_true rfl) ?_
      repeat (first | refine b9 ?_ | refine b6 ?_ | refine a6 ?_ | refine b5 ?_ | refine e7 rfl ?_ | refine d9 rfl ?_ | ((first | refine b8 (fun K hK => ?_) | refine d3 e9 (fun K hK => ?_) | fail); simp -implicitDefEqProofs [n1, n2, h3, h4]; first | refine hK _ ?_ | refine hK _ _ (by rfl) ?_ | fail) | fail)
      refine d6 (d4 ?_); simp -implicitDefEqProofs [f9, f6, f7] <;> try rfl
    by_cases hl0 : l.length = 0; rotate_left
    · have hl0' : ¬ (l.length : Int) = 0 := by omega
      have hl0'' : ¬ l = [] := fun h => hl0 (by rw [h]; rfl)
      rw [if_pos (.inr (.inl hl0))]
      clear ih
      refine d7 Tryz.func57 rfl rfl (Nat.le_of_ble_eq_true rfl) ?_
      repeat (first | refine b9 ?_ | refine b6 ?_ | refine a6 ?_ | refine b5 ?_ | refine e7 rfl ?_ | refine d9 rfl ?_ | ((first | refine b8 (fun K hK => ?_) | refine d3 e9 (fun K hK => ?_) | fail); simp -implicitDefEqProofs [n1, n2, h3, h4, hl0, hl0', hl0'']; first | refine hK _ ?_ | refine hK _ _ (by rfl) ?_ | fail) | fail)
      refine d6 (d4 ?_); simp -implicitDefEqProofs [f9, f6, f7] <;> try rfl
    obtain rfl : l = [] := List.eq_nil_of_length_eq_zero hl0
    by_cases hn0 : x.n < 0
    · rw [if_pos (.inr (.inr (.inl hn0)))]
      clear ih
      refine d7 Tryz.func57 rfl rfl (Nat.le_of_ble_eq_true rfl) ?_
      repeat (first | refine b9 ?_ | refine b6 ?_ | refine a6 ?_ | refine b5 ?_ | refine e7 rfl ?_ | refine d9 rfl ?_ | ((first | refine b8 (fun K hK => ?_) | refine d3 e9 (fun K hK => ?_) | fail); simp -implicitDefEqProofs [n1, n2, h3, h4, hn0]; first | refine hK _ ?_ | refine hK _ _ (by rfl) ?_ | fail) | fail)
      refine d6 (d4 ?_); simp -implicitDefEqProofs [f9, f6, f7] <;> try rfl
    by_cases hn1 : (ml.length : Int) ≤ x.n
    · rw [if_pos (.inr (.inr (.inr hn1)))]
      clear ih
      refine d7 Tryz.func57 rfl rfl (Nat.le_of_ble_eq_true rfl) ?_
      repeat (first | refine b9 ?_ | refine b6 ?_ | refine a6 ?_ | refine b5 ?_ | refine e7 rfl ?_ | refine d9 rfl ?_ | ((first | refine b8 (fun K hK => ?_) | refine d3 e9 (fun K hK => ?_) | fail); simp -implicitDefEqProofs [n1, n2, h3, h4, hn0, hn1]; first | refine hK _ ?_ | refine hK _ _ (by rfl) ?_ | fail) | fail)
      refine d6 (d4 ?_); simp -implicitDefEqProofs [f9, f6, f7] <;> try rfl
    rw [if_neg (fun h => h.elim (fun h => h h4) (fun h => h.elim (fun h => h rfl) (fun h => h.elim hn0 hn1)))]
    obtain ⟨j, hj⟩ : ∃ j : Nat, x.n = j := ⟨x.n.toNat, by omega⟩
    have hjl : j < ml.length := by omega
    have w0 : IntKind.i64.wrap (j : Nat) = (j : Nat) := l4 _ (by omega) (by omega)
    obtain ⟨⟨y, p⟩, hd⟩ : ∃ d, ml[j]? = some d := ⟨_, List.getElem?_eq_getElem hjl⟩
    have hd' := (List.getElem?_eq_some_iff.1 hd).2
    have hdm : ml.getD x.n.toNat z0T = .mk y p := by rw [hj]; simp [List.getD, hd]
    rw [hdm, Tr.kids]
    have hdS := hS _ (List.mem_of_getElem? hd)
    have hdz := Tr.size_at (x := mx) hd
    have hdi := b25 hm (List.mem_of_getElem? hd)
    have hplen := Tr.len_size (x := y) (l := p)
    have hsh := a1w (.mk y p) (by omega)
    have hn0' : ¬ ((j : Nat) : Int) < 0 := by omega
    have hn1' : ¬ (ml.length : Int) ≤ (j : Nat) := by omega
    rw [hj]
    clear hdm
    by_cases hin : (j : Int) ∈ ins
    · rw [if_pos hin]
      clear ih hsh
      refine d7 Tryz.func57 rfl rfl (Nat.le_of_ble_eq_true rfl) ?_
      repeat (first | refine b9 ?_ | refine b6 ?_ | refine a6 ?_ | refine b5 ?_ | refine e7 rfl ?_ | refine d9 rfl ?_ | ((first | refine b8 (fun K hK => ?_) | refine d3 e9 (fun K hK => ?_) | fail); simp -implicitDefEqProofs [n1, n2, h3, h4, hj, hn0', hn1', w0]; first | refine hK _ ?_ | refine hK _ _ (by rfl) ?_ | fail) | fail)
      refine m6 (ι := Nat) (fun k => x5 [(2, vIs ins), (8, vI (j : Nat)), (9, vI (k : Nat))] []) (fun k => k ≤ ins.length ∧ (j : Int) ∉ ins.take k) (fun k => ins.length - k) 0 ⟨Nat.zero_le _, by simp⟩ (e8 [] (by simp -implicitDefEqProofs) (by simp -implicitDefEqProofs) (by decide) rfl (by simp)) (fun Z hI k hk => ?_)
      obtain ⟨hk, hz⟩ := hk
      by_cases hkl : k < ins.length; rotate_left
      · have : k = ins.length := by omega
        subst this
        rw [List.take_length] at hz
        exact absurd hin hz
      obtain ⟨z, ha⟩ : ∃ a, ins[k]? = some a := ⟨_, List.getElem?_eq_getElem hkl⟩
      have ha' := (List.getElem?_eq_some_iff.1 ha).2
      have w2 : IntKind.i64.wrap ((k : Nat) + 1 : Int) = (k : Nat) + 1 := l4 _ (by omega) (by omega)
      by_cases hp : z = (j : Int)
      · repeat (first | refine b9 ?_ | refine b6 ?_ | refine a6 ?_ | refine b5 ?_ | refine e7 rfl ?_ | refine d9 rfl ?_ | ((first | refine b8 (fun K hK => ?_) | refine d3 e9 (fun K hK => ?_) | fail); simp -implicitDefEqProofs [hkl, ha, ha', hp]; first | refine hK _ ?_ | refine hK _ _ (by rfl) ?_ | fail) | fail)
        refine d6 (d4 ?_); simp -implicitDefEqProofs [f9, f6, f7] <;> try rfl
      · repeat (first | refine b9 ?_ | refine b6 ?_ | refine a6 ?_ | refine b5 ?_ | refine e7 rfl ?_ | refine d9 rfl ?_ | ((first | refine b8 (fun K hK => ?_) | refine d3 e9 (fun K hK => ?_) | fail); simp -implicitDefEqProofs [hkl, ha, ha', hp, w2]; first | refine hK _ ?_ | refine hK _ _ (by rfl) ?_ | fail) | fail)
        refine ⟨k + 1, ⟨by omega, by rw [List.take_add_one, ha]; simp [hz]; exact fun h => hp h.symm⟩, (by dsimp only; omega), ?_⟩
        rw [hI]; exact e8 [] (by simp -implicitDefEqProofs) (by simp -implicitDefEqProofs) (by decide) rfl (by simp)
    rw [if_neg hin]
    obtain ⟨hio2, hil2⟩ := hio.add (z := (j : Int)) (by omega) (by omega) hin
    have hil3 : (ins ++ [(j : Int)]).length = ins.length + 1 := by simp
    have hrow : ∀ (k : Nat) a, p[k]? = some a → j1 a = true → ∃ ax qx ql, a = .mk ax [.mk qx ql] ∧ Row Tryz.prog 57 [vT (.mk mx ml), vT (.mk qx ql), vIs (ins ++ [(j : Int)])] [] (vI (wth ml f (.mk qx ql) (ins ++ [(j : Int)]))) [] := fun k a ha hp => by
      obtain ⟨ax, al⟩ := a
      have hp1 : al.length = 1 := by unfold j1 at hp; rw [Bool.and_eq_true] at hp; exact of_decide_eq_true hp.2
      obtain ⟨⟨qx, ql⟩, rfl⟩ : ∃ q, al = [q] := List.length_eq_one_iff.1 hp1
      have s1 := Tr.size_at (x := y) ha
      have s2 := Tr.size_at (x := ax) (l := [.mk qx ql]) (i := 0) rfl
      refine ⟨ax, qx, ql, rfl, ih _ _ (b25 (b25 hdi (List.mem_of_getElem? ha)) (by simp)) (by omega) hio2 ?_⟩
      rw [hil3]
      exact a86 hf hil2 (by omega) (by omega)
    clear ih
    obtain ⟨W, hW⟩ : ∃ W : VT → Int, W = fun q => wth ml f (q.kids.getD 0 z0T) (ins ++ [(j : Int)]) := ⟨_, rfl⟩
    have hWq : ∀ ax qx ql, wth ml f (.mk qx ql) (ins ++ [(j : Int)]) = W (.mk ax [.mk qx ql]) := fun ax qx ql => by rw [hW]; rfl
    have hwb : ∀ q, 0 ≤ W q ∧ W q ≤ 64 := fun q => by rw [hW]; exact b0b ml f _ _
    rw [← hW]
    have hrow : ∀ (k : Nat) a, p[k]? = some a → j1 a = true → ∃ ax qx ql, a = .mk ax [.mk qx ql] ∧ Row Tryz.prog 57 [vT (.mk mx ml), vT (.mk qx ql), vIs (ins ++ [(j : Int)])] [] (vI (W a)) [] := fun k a ha hp => by
      obtain ⟨ax, qx, ql, rfl, h⟩ := hrow k a ha hp
      rw [hWq ax] at h
      exact ⟨ax, qx, ql, rfl, h⟩
    clear hW hWq
    refine d7 Tryz.func57 rfl rfl (Nat.le_of_ble_eq_true rfl) ?_
    repeat (first | refine b9 ?_ | refine b6 ?_ | refine a6 ?_ | refine b5 ?_ | refine e7 rfl ?_ | refine d9 rfl ?_ | ((first | refine b8 (fun K hK => ?_) | refine d3 e9 (fun K hK => ?_) | fail); simp -implicitDefEqProofs [n1, n2, h3, h4, hj, hn0', hn1', w0]; first | refine hK _ ?_ | refine hK _ _ (by rfl) ?_ | fail) | fail)
    refine m6 (ι := Nat) (fun k => x5 [(2, vIs ins), (3, .v (.c (.ptr 0 0))), (8, vI (j : Nat)), (9, vI (k : Nat))] [some (.box (ta (.mk mx ml)))]) (fun k => k ≤ ins.length) (fun k => ins.length - k) 0 (Nat.zero_le _) (e8 [0] (by simp -implicitDefEqProofs) (by simp -implicitDefEqProofs) (by decide) rfl (by simp)) (fun Z hI k hk => ?_)
    by_cases hkl : k < ins.length
    · obtain ⟨z, ha⟩ : ∃ a, ins[k]? = some a := ⟨_, List.getElem?_eq_getElem hkl⟩
      have ha' := (List.getElem?_eq_some_iff.1 ha).2
      have w2 : IntKind.i64.wrap ((k : Nat) + 1 : Int) = (k : Nat) + 1 := l4 _ (by omega) (by omega)
      have hp : ¬ z = (j : Int) := fun e => hin (e ▸ List.mem_of_getElem? ha)
      repeat (first | refine b9 ?_ | refine b6 ?_ | refine a6 ?_ | refine b5 ?_ | refine e7 rfl ?_ | refine d9 rfl ?_ | ((first | refine b8 (fun K hK => ?_) | refine d3 e9 (fun K hK => ?_) | fail); simp -implicitDefEqProofs [hkl, ha, ha', hp, w2]; first | refine hK _ ?_ | refine hK _ _ (by rfl) ?_ | fail) | fail)
      refine ⟨k + 1, by omega, (by dsimp only; omega), ?_⟩
      rw [hI]; exact e8 [0] (by simp -implicitDefEqProofs) (by simp -implicitDefEqProofs) (by decide) rfl (by simp)
    have : k = ins.length := by omega
    subst this
    clear hI
    cases hsb : a44 (.mk y p) with
    | false =>
      rw [if_neg (by simp)]
      rw [hsb] at hsh
      repeat' (first | refine b9 ?_ | refine b6 ?_ | refine a6 ?_ | refine b5 ?_ | refine e7 rfl ?_ | refine d9 rfl ?_ | ((first | refine b8 (fun K hK => ?_) | refine d3 e9 (fun K hK => ?_) | refine b7 (cp hsh ?_) | refine a8 (dp hsh ?_) | fail); simp -implicitDefEqProofs [hjl, hd, hd', hkl, w0]) | refine hK _ ?_ | refine hK _ _ (by rfl) ?_ | fail)
      refine d6 (d4 ?_); simp -implicitDefEqProofs [f9, f6, f7] <;> try rfl
    | true =>
      rw [if_pos rfl]
      rw [hsb] at hsh
      have hall : ∀ k a, p[k]? = some a → j1 a = true := fun k a ha => by
        unfold a44 at hsb
        rw [Bool.and_eq_true] at hsb
        exact List.all_eq_true.1 hsb.2 a (List.mem_of_getElem? ha)
      obtain ⟨R, hR⟩ : ∃ R, b5h (p.map W) 0 = R := ⟨_, rfl⟩
      rw [hR]
      repeat' (first | refine b9 ?_ | refine b6 ?_ | refine a6 ?_ | refine b5 ?_ | refine e7 rfl ?_ | refine d9 rfl ?_ | ((first | refine b8 (fun K hK => ?_) | refine d3 e9 (fun K hK => ?_) | refine b7 (cp hsh ?_) | refine a8 (dp hsh ?_) | fail); simp -implicitDefEqProofs [hjl, hd, hd', hkl, w0]) | refine hK _ ?_ | refine hK _ _ (by rfl) ?_ | fail)
      refine m6 (ι := Nat × Int) (fun q => x5 [(2, vIs ins), (3, .v (.c (.ptr 0 0))), (8, vI (j : Nat)), (10, .v (.c (.ptr 1 0))), (11, vI q.2), (12, vI (q.1 : Nat))] [some (.box (ta (.mk mx ml))), some (.box (ta (.mk y p)))]) (fun q => q.1 ≤ p.length ∧ (0 ≤ q.2 ∧ q.2 ≤ 64) ∧ b5h ((p.map W).drop q.1) q.2 = R) (fun q => p.length - q.1) (0, 0) ⟨Nat.zero_le _, ⟨by omega, by omega⟩, hR⟩ (e8 [0, 10] (by simp -implicitDefEqProofs) (by simp -implicitDefEqProofs) (by decide) rfl (by simp)) (fun Z hI q hq => ?_)
      obtain ⟨k, s⟩ := q
      obtain ⟨hk, ⟨s0, s1⟩, hz⟩ := hq
      dsimp only at hk s0 s1 hz ⊢
      by_cases hkp : k < p.length; rotate_left
      · have : k = p.length := by omega
        subst this
        rw [List.drop_of_length_le (by rw [List.length_map]; exact Nat.le_refl _)] at hz
        have hz : s = R := hz
        subst hz
        repeat (first | refine b9 ?_ | refine b6 ?_ | refine a6 ?_ | refine b5 ?_ | refine e7 rfl ?_ | refine d9 rfl ?_ | ((first | refine b8 (fun K hK => ?_) | refine d3 e9 (fun K hK => ?_) | fail); simp -implicitDefEqProofs; first | refine hK _ ?_ | refine hK _ _ (by rfl) ?_ | fail) | fail)
        refine d6 (d4 ?_); simp -implicitDefEqProofs [f9, f6, f7] <;> try rfl
      obtain ⟨a, ha⟩ : ∃ a, p[k]? = some a := ⟨_, List.getElem?_eq_getElem hkp⟩
      have ha' := (List.getElem?_eq_some_iff.1 ha).2
      obtain ⟨ax, qx, ql, rfl, hr⟩ := hrow k a ha (hall k a ha)
      have hv := hwb (.mk ax [.mk qx ql])
      have hdrop : (p.map W).drop k = W (.mk ax [.mk qx ql]) :: (p.map W).drop (k + 1) := by
        rw [List.drop_eq_getElem_cons (by rw [List.length_map]; exact hkp), List.getElem_map, ha']
      rw [hdrop] at hz
      unfold b5h at hz
      obtain ⟨v, hv1⟩ : ∃ v, W (.mk ax [.mk qx ql]) = v := ⟨_, rfl⟩
      rw [hv1] at hr hv hz
      have w2 : IntKind.i64.wrap ((k : Nat) + 1 : Int) = (k : Nat) + 1 := l4 _ (by omega) (by omega)
      have w3 : IntKind.i64.wrap (s + v) = s + v := l4 _ (by omega) (by omega)
      have b1 : (ins.length + 1) * 8 ≤ 140737488355328 := by omega
      have b2 : ins.length + 1 ≤ 140737488355328 := by omega
      have b3 : ins.length * 8 ≤ 140737488355328 := by omega
      have b4 : ins.length ≤ 140737488355328 := by omega
      clear hdrop hv1 hrow hall
      by_cases hv0 : v = 0
      · rw [if_pos (.inl hv0)] at hz
        subst hz
        subst hv0
        repeat' (first | refine b9 ?_ | refine b6 ?_ | refine a6 ?_ | refine b5 ?_ | refine e7 rfl ?_ | refine d9 rfl ?_ | ((first | refine b8 (fun K hK => ?_) | refine d3 e9 (fun K hK => ?_) | refine b7 (cp hr ?_) | refine a8 (dp hr ?_) | fail); simp -implicitDefEqProofs [hkp, ha, ha', w2, w3, b1, b2, b3, b4]) | refine hK _ ?_ | refine hK _ _ (by rfl) ?_ | fail)
        refine d6 (d4 ?_); simp -implicitDefEqProofs [f9, f6, f7] <;> try rfl
      by_cases hv6 : 64 < s + v
      · rw [if_pos (.inr hv6)] at hz
        subst hz
        repeat' (first | refine b9 ?_ | refine b6 ?_ | refine a6 ?_ | refine b5 ?_ | refine e7 rfl ?_ | refine d9 rfl ?_ | ((first | refine b8 (fun K hK => ?_) | refine d3 e9 (fun K hK => ?_) | refine b7 (cp hr ?_) | refine a8 (dp hr ?_) | fail); simp -implicitDefEqProofs [hkp, ha, ha', w2, w3, b1, b2, b3, b4, hv0, hv6]) | refine hK _ ?_ | refine hK _ _ (by rfl) ?_ | fail)
        refine d6 (d4 ?_); simp -implicitDefEqProofs [f9, f6, f7] <;> try rfl
      rw [if_neg (fun h => h.elim hv0 hv6)] at hz
      repeat' (first | refine b9 ?_ | refine b6 ?_ | refine a6 ?_ | refine b5 ?_ | refine e7 rfl ?_ | refine d9 rfl ?_ | ((first | refine b8 (fun K hK => ?_) | refine d3 e9 (fun K hK => ?_) | refine b7 (cp hr ?_) | refine a8 (dp hr ?_) | fail); simp -implicitDefEqProofs [hkp, ha, ha', w2, w3, b1, b2, b3, b4, hv0, hv6]) | refine hK _ ?_ | refine hK _ _ (by rfl) ?_ | fail)
      refine ⟨(k + 1, s + v), ⟨by dsimp only; omega, ⟨by dsimp only; omega, by dsimp only; omega⟩, hz⟩, (by dsimp only; omega), ?_⟩
      rw [hI]; exact e8 [0, 1] (by simp -implicitDefEqProofs) (by simp -implicitDefEqProofs) (by decide) rfl (by simp)
theorem j8 {m d : VT} (h : d ∈ m.kids) : d.size ≤ m.size := by
  obtain ⟨x, l⟩ := m
  obtain ⟨i, hi⟩ := List.mem_iff_getElem?.1 h
  have := Tr.size_at (x := x) (l := l) hi
  omega
theorem a0i (m t : VT) (hm : m7 m) (hsz : m.size ≤ 1000000) (ht : m7 t) (hts : t.size ≤ 1000000) : Row Tryz.prog 38 [vT m, vT t] [] (vI (z7 m t)) [] := by
  have h := a43 m hm hsz m.size (fun d hd => j8 hd) (m.kids.length * m.size + t.size) t [] ht hts (InsOk.nil _) (by simp)
  have e : wth m.kids (m.kids.length * m.size + t.size) t [] = z7 m t := rfl
  rw [e] at h
  clear e
  obtain ⟨c, hc⟩ : ∃ c, z7 m t = c := ⟨_, rfl⟩
  rw [hc] at h ⊢
  clear hc
  obtain ⟨mx, ml⟩ := m
  obtain ⟨x, l⟩ := t
  refine d7 Tryz.func38 rfl rfl (Nat.le_of_ble_eq_true rfl) ?_
  repeat' (first | refine b9 ?_ | refine b6 ?_ | refine a6 ?_ | refine b5 ?_ | refine e7 rfl ?_ | refine d9 rfl ?_ | ((first | refine b8 (fun K hK => ?_) | refine d3 e9 (fun K hK => ?_) | refine b7 (cp h ?_) | refine a8 (dp h ?_) | fail); simp -implicitDefEqProofs) | refine hK _ ?_ | refine hK _ _ (by rfl) ?_ | fail)
  refine d6 (d4 ?_); simp -implicitDefEqProofs [f9, f6, f7] <;> try rfl
theorem b8t (t : VT) : t.size ≤ 1000000 → Row Tryz.prog 90 [vT t] [] (vB (a3u t)) [] := by
  induction t using Tr.ind with
  | h x l ih =>
  intro hsz
  have hlen := Tr.len_size (x := x) (l := l)
  rw [c5f]
  by_cases h4 : x.k = 4
  · rw [show (!decide (x.k = 4) && l.all a3u) = false by simp [h4]]
    clear ih
    refine d7 Tryz.func90 rfl rfl (Nat.le_of_ble_eq_true rfl) ?_
    repeat (first | refine b9 ?_ | refine b6 ?_ | refine a6 ?_ | refine b5 ?_ | refine e7 rfl ?_ | refine d9 rfl ?_ | ((first | refine b8 (fun K hK => ?_) | refine d3 e9 (fun K hK => ?_) | fail); simp -implicitDefEqProofs [h4]; first | refine hK _ ?_ | refine hK _ _ (by rfl) ?_ | fail) | fail)
    refine d6 (d4 ?_); simp -implicitDefEqProofs [f9, f6, f7] <;> try rfl
  rw [show (!decide (x.k = 4) && l.all a3u) = l.all a3u by simp [h4]]
  refine d7 Tryz.func90 rfl rfl (Nat.le_of_ble_eq_true rfl) ?_
  repeat (first | refine b9 ?_ | refine b6 ?_ | refine a6 ?_ | refine b5 ?_ | refine e7 rfl ?_ | refine d9 rfl ?_ | ((first | refine b8 (fun K hK => ?_) | refine d3 e9 (fun K hK => ?_) | fail); simp -implicitDefEqProofs [h4]; first | refine hK _ ?_ | refine hK _ _ (by rfl) ?_ | fail) | fail)
  refine m6 (ι := Nat) (fun k => x5 [(1, .v (.c (.ptr 0 0))), (3, vI (k : Nat))] [some (.box (ta (.mk x l)))]) (fun k => k ≤ l.length ∧ (l.take k).all a3u = true) (fun k => l.length - k) 0 ⟨Nat.zero_le _, by simp⟩ (e8 [0] (by simp -implicitDefEqProofs) (by simp -implicitDefEqProofs) (by decide) rfl (by simp)) (fun Z hI k hk => ?_)
  obtain ⟨hk, hz⟩ := hk
  by_cases hkl : k < l.length; rotate_left
  · have : k = l.length := by omega
    subst this
    rw [List.take_length] at hz
    repeat (first | refine b9 ?_ | refine b6 ?_ | refine a6 ?_ | refine b5 ?_ | refine e7 rfl ?_ | refine d9 rfl ?_ | ((first | refine b8 (fun K hK => ?_) | refine d3 e9 (fun K hK => ?_) | fail); simp -implicitDefEqProofs; first | refine hK _ ?_ | refine hK _ _ (by rfl) ?_ | fail) | fail)
    refine d6 (d4 ?_); simp -implicitDefEqProofs [f9, f6, f7, hz] <;> try rfl
  obtain ⟨⟨ax, al⟩, ha⟩ : ∃ a, l[k]? = some a := ⟨_, List.getElem?_eq_getElem hkl⟩
  have ha' := (List.getElem?_eq_some_iff.1 ha).2
  have hsz1 := Tr.size_at (x := x) ha
  have hc := ih _ (List.mem_of_getElem? ha) (by omega)
  have w2 : IntKind.i64.wrap ((k : Nat) + 1 : Int) = (k : Nat) + 1 := l4 _ (by omega) (by omega)
  by_cases hp : a3u (.mk ax al) = true
  · rw [hp] at hc
    repeat' (first | refine b9 ?_ | refine b6 ?_ | refine a6 ?_ | refine b5 ?_ | refine e7 rfl ?_ | refine d9 rfl ?_ | ((first | refine b8 (fun K hK => ?_) | refine d3 e9 (fun K hK => ?_) | refine b7 (cp hc ?_) | refine a8 (dp hc ?_) | fail); simp -implicitDefEqProofs [hkl, ha, ha', w2]) | refine hK _ ?_ | refine hK _ _ (by rfl) ?_ | fail)
    refine ⟨k + 1, ⟨by omega, by rw [List.take_add_one, ha, Option.toList_some, List.all_append, hz]; simp [hp]⟩, (by dsimp only; omega), ?_⟩
    rw [hI]; exact e8 [0] (by simp -implicitDefEqProofs) (by simp -implicitDefEqProofs) (by decide) rfl (by simp)
  · have hp : a3u (.mk ax al) = false := by simpa using hp
    rw [hp] at hc
    have e : l.all a3u = false := by
      rw [List.all_eq_false]; exact ⟨_, List.mem_of_getElem? ha, by rw [hp]; simp⟩
    repeat' (first | refine b9 ?_ | refine b6 ?_ | refine a6 ?_ | refine b5 ?_ | refine e7 rfl ?_ | refine d9 rfl ?_ | ((first | refine b8 (fun K hK => ?_) | refine d3 e9 (fun K hK => ?_) | refine b7 (cp hc ?_) | refine a8 (dp hc ?_) | fail); simp -implicitDefEqProofs [hkl, ha, ha', w2]) | refine hK _ ?_ | refine hK _ _ (by rfl) ?_ | fail)
    refine d6 (d4 ?_); simp -implicitDefEqProofs [f9, f6, f7, e] <;> try rfl
theorem b5b (m t : VT) (hm : m7 m) (hsz : m.size ≤ 1000000) (ht : m7 t) (hts : t.size ≤ 1000000) : Row Tryz.prog 55 [vT m, vT t] [] (vB (decide (0 < z7 m t) && a3u t)) [] := by
  have h1 := a0i m t hm hsz ht hts
  have h2 := b8t t hts
  obtain ⟨c, hc⟩ : ∃ c, z7 m t = c := ⟨_, rfl⟩
  obtain ⟨b, hb⟩ : ∃ b, a3u t = b := ⟨_, rfl⟩
  rw [hc] at h1 ⊢
  rw [hb] at h2 ⊢
  clear hc hb
  obtain ⟨mx, ml⟩ := m
  obtain ⟨x, l⟩ := t
  by_cases h0 : 0 < c
  · refine d7 Tryz.func55 rfl rfl (Nat.le_of_ble_eq_true rfl) ?_
    repeat' (first | refine b9 ?_ | refine b6 ?_ | refine a6 ?_ | refine b5 ?_ | refine e7 rfl ?_ | refine d9 rfl ?_ | ((first | refine b8 (fun K hK => ?_) | refine d3 e9 (fun K hK => ?_) | refine b7 (cp h1 ?_) | refine a8 (dp h1 ?_) | refine b7 (cp h2 ?_) | refine a8 (dp h2 ?_) | fail); simp -implicitDefEqProofs [h0]) | refine hK _ ?_ | refine hK _ _ (by rfl) ?_ | fail)
    refine d6 (d4 ?_); simp -implicitDefEqProofs [f9, f6, f7, h0] <;> try rfl
  · refine d7 Tryz.func55 rfl rfl (Nat.le_of_ble_eq_true rfl) ?_
    repeat' (first | refine b9 ?_ | refine b6 ?_ | refine a6 ?_ | refine b5 ?_ | refine e7 rfl ?_ | refine d9 rfl ?_ | ((first | refine b8 (fun K hK => ?_) | refine d3 e9 (fun K hK => ?_) | refine b7 (cp h1 ?_) | refine a8 (dp h1 ?_) | refine b7 (cp h2 ?_) | refine a8 (dp h2 ?_) | fail); simp -implicitDefEqProofs [h0]) | refine hK _ ?_ | refine hK _ _ (by rfl) ?_ | fail)
    refine d6 (d4 ?_); simp -implicitDefEqProofs [f9, f6, f7, h0] <;> try rfl
theorem b8x (t : VT) : t.size ≤ 1000000 → Row Tryz.prog 140 [vT t] [] (vT (a3o t)) [] := by
  induction t using Tr.ind with
  | h x l ih =>
  intro hsz
  have hlen := Tr.len_size (x := x) (l := l)
  rw [c2d]
  by_cases h1 : (x.k = 12 ∨ x.k = 13) ∧ 0 < l.length
  · rw [if_pos h1]
    obtain ⟨hk, h0⟩ := h1
    cases l with
    | nil => simp at h0
    | cons a r =>
      have hsz1 := Tr.size_at (x := x) (l := a :: r) (i := 0) rfl
      have hc := ih a (by simp) (by omega)
      simp only [List.map_cons, List.getD_cons_zero]
      obtain ⟨⟨bx, bl⟩, hb⟩ : ∃ b, a3o a = b := ⟨_, rfl⟩
      rw [hb] at hc ⊢
      obtain ⟨ax, al⟩ := a
      have hp : (0 : Int) < (r.length : Int) + 1 := by omega
      clear ih hb
      rcases hk with h | h
      · refine d7 Tryz.func140 rfl rfl (Nat.le_of_ble_eq_true rfl) ?_
        repeat' (first | refine b9 ?_ | refine b6 ?_ | refine a6 ?_ | refine b5 ?_ | refine e7 rfl ?_ | refine d9 rfl ?_ | ((first | refine b8 (fun K hK => ?_) | refine d3 e9 (fun K hK => ?_) | refine b7 (cp hc ?_) | refine a8 (dp hc ?_) | fail); simp -implicitDefEqProofs [h, hp]) | refine hK _ ?_ | refine hK _ _ (by rfl) ?_ | fail)
        refine d6 (d4 ?_); simp -implicitDefEqProofs [f9, f6, f7] <;> try rfl
      · refine d7 Tryz.func140 rfl rfl (Nat.le_of_ble_eq_true rfl) ?_
        repeat' (first | refine b9 ?_ | refine b6 ?_ | refine a6 ?_ | refine b5 ?_ | refine e7 rfl ?_ | refine d9 rfl ?_ | ((first | refine b8 (fun K hK => ?_) | refine d3 e9 (fun K hK => ?_) | refine b7 (cp hc ?_) | refine a8 (dp hc ?_) | fail); simp -implicitDefEqProofs [h, hp]) | refine hK _ ?_ | refine hK _ _ (by rfl) ?_ | fail)
        refine d6 (d4 ?_); simp -implicitDefEqProofs [f9, f6, f7] <;> try rfl
  · rw [if_neg h1]
    clear ih
    by_cases hk : x.k = 12 ∨ x.k = 13
    · have h0 : l = [] := by cases l with
        | nil => rfl
        | cons a r => exact absurd ⟨hk, by simp⟩ h1
      subst h0
      rcases hk with h | h
      · refine d7 Tryz.func140 rfl rfl (Nat.le_of_ble_eq_true rfl) ?_
        repeat (first | refine b9 ?_ | refine b6 ?_ | refine a6 ?_ | refine b5 ?_ | refine e7 rfl ?_ | refine d9 rfl ?_ | ((first | refine b8 (fun K hK => ?_) | refine d3 e9 (fun K hK => ?_) | fail); simp -implicitDefEqProofs [h]; first | refine hK _ ?_ | refine hK _ _ (by rfl) ?_ | fail) | fail)
        refine d6 (d4 ?_); simp -implicitDefEqProofs [f9, f6, f7, h] <;> try rfl
      · refine d7 Tryz.func140 rfl rfl (Nat.le_of_ble_eq_true rfl) ?_
        repeat (first | refine b9 ?_ | refine b6 ?_ | refine a6 ?_ | refine b5 ?_ | refine e7 rfl ?_ | refine d9 rfl ?_ | ((first | refine b8 (fun K hK => ?_) | refine d3 e9 (fun K hK => ?_) | fail); simp -implicitDefEqProofs [h]; first | refine hK _ ?_ | refine hK _ _ (by rfl) ?_ | fail) | fail)
        refine d6 (d4 ?_); simp -implicitDefEqProofs [f9, f6, f7, h] <;> try rfl
    · have n1 : ¬ x.k = 12 := fun h => hk (.inl h)
      have n2 : ¬ x.k = 13 := fun h => hk (.inr h)
      refine d7 Tryz.func140 rfl rfl (Nat.le_of_ble_eq_true rfl) ?_
      repeat (first | refine b9 ?_ | refine b6 ?_ | refine a6 ?_ | refine b5 ?_ | refine e7 rfl ?_ | refine d9 rfl ?_ | ((first | refine b8 (fun K hK => ?_) | refine d3 e9 (fun K hK => ?_) | fail); simp -implicitDefEqProofs [n1, n2]; first | refine hK _ ?_ | refine hK _ _ (by rfl) ?_ | fail) | fail)
      refine d6 (d4 ?_); simp -implicitDefEqProofs [f9, f6, f7] <;> try rfl
theorem a7q (t : VT) : t.size ≤ 1000000 → Row Tryz.prog 40 [vT t] [] (vT (l3 t)) [] := by
  induction t using Tr.ind with
  | h x l ih =>
  intro hsz
  have hlen := Tr.len_size (x := x) (l := l)
  rw [o8]
  refine d7 Tryz.func40 rfl rfl (Nat.le_of_ble_eq_true rfl) ?_
  repeat (first | refine b9 ?_ | refine b6 ?_ | refine a6 ?_ | refine b5 ?_ | refine e7 rfl ?_ | refine d9 rfl ?_ | ((first | refine b8 (fun K hK => ?_) | refine d3 e9 (fun K hK => ?_) | fail); simp -implicitDefEqProofs; first | refine hK _ ?_ | refine hK _ _ (by rfl) ?_ | fail) | fail)
  refine a2r 7 3 [.pv (I x.k), .pv (I x.n), .pv (Sx ⟨#[]⟩), .pv .nilS, .pv (I 0), .pv (I 0)] 24 6 (by simp) (by simp) (by simp) ?_
  refine m6 (ι := Nat) (fun k => x5 [(1, .v (.c (.ptr 0 0))), (2, .v (.c (.ptr 1 0))), (3, .v (.c (.ptr 2 0))), (4, vI (k : Nat))] [some (.box (ta (.mk x l))), some (.box (ta (.mk ⟨0, 0, ⟨#[]⟩, 0, 0⟩ []))), some (.box [.pv (I x.k), .pv (I x.n), .pv (Sx ⟨#[]⟩), .row 3 6 (((l.take k).map l3).map tc), .pv (I 0), .pv (I 0)]), some (.row 24 6)]) (fun k => k ≤ l.length) (fun k => l.length - k) 0 (Nat.zero_le _) (by unfold St.nilc; exact e8 [0, 1, 7, 10] (by simp -implicitDefEqProofs) (by simp -implicitDefEqProofs) (by decide) rfl (by simp)) (fun Z hI k hk => ?_)
  by_cases hkl : k < l.length; rotate_left
  · have : k = l.length := by omega
    subst this
    rw [List.take_length]
    repeat (first | refine b9 ?_ | refine b6 ?_ | refine a6 ?_ | refine b5 ?_ | refine e7 rfl ?_ | refine d9 rfl ?_ | ((first | refine b8 (fun K hK => ?_) | refine d3 e9 (fun K hK => ?_) | fail); simp -implicitDefEqProofs; first | refine hK _ ?_ | refine hK _ _ (by rfl) ?_ | fail) | fail)
    refine d6 (d4 ?_); simp -implicitDefEqProofs [f9, f6, f7] <;> try rfl
  obtain ⟨⟨ax, al⟩, ha⟩ : ∃ a, l[k]? = some a := ⟨_, List.getElem?_eq_getElem hkl⟩
  have ha' := (List.getElem?_eq_some_iff.1 ha).2
  have hsz1 := Tr.size_at (x := x) ha
  have hc := ih _ (List.mem_of_getElem? ha) (by omega)
  have w2 : IntKind.i64.wrap ((k : Nat) + 1 : Int) = (k : Nat) + 1 := l4 _ (by omega) (by omega)
  have hs : (l.take (k + 1)).map l3 = (l.take k).map l3 ++ [l3 (.mk ax al)] := by rw [List.take_add_one, ha]; simp
  obtain ⟨L, hL⟩ : ∃ L, (l.take k).map l3 = L := ⟨_, rfl⟩
  have hLl : L.length = k := by rw [← hL, List.length_map, List.length_take]; omega
  rw [hL] at hs ⊢
  obtain ⟨⟨bx, bl⟩, hb⟩ : ∃ b, l3 (.mk ax al) = b := ⟨_, rfl⟩
  rw [hb] at hc hs
  have b1 : (k + 1) * 72 ≤ 140737488355328 := by omega
  have b2 : k + 1 ≤ 140737488355328 := by omega
  repeat' (first | refine b9 ?_ | refine b6 ?_ | refine a6 ?_ | refine b5 ?_ | refine e7 rfl ?_ | refine d9 rfl ?_ | ((first | refine b8 (fun K hK => ?_) | refine d3 e9 (fun K hK => ?_) | refine b7 (cp hc ?_) | refine a8 (dp hc ?_) | fail); simp -implicitDefEqProofs [hkl, ha, ha', hLl, b1, b2, w2]) | refine hK _ ?_ | refine hK _ _ (by rfl) ?_ | fail)
  refine ⟨k + 1, by omega, (by dsimp only; omega), ?_⟩
  rw [hI, hs]; exact e8 [0, 1, 2, 81] (by simp -implicitDefEqProofs) (by simp -implicitDefEqProofs) (by decide) rfl (by simp)
theorem a0p (t : VT) (k : Int) : Row Tryz.prog 134 [vT t, vI k] [] (vB (isT t k)) [] := by
  obtain ⟨x, l⟩ := t
  by_cases h1 : x.k = k
  · by_cases h2 : l = []
    · subst h2
      refine d7 Tryz.func134 rfl rfl (Nat.le_of_ble_eq_true rfl) ?_
      repeat (first | refine b9 ?_ | refine b6 ?_ | refine a6 ?_ | refine b5 ?_ | refine e7 rfl ?_ | refine d9 rfl ?_ | ((first | refine b8 (fun K hK => ?_) | refine d3 e9 (fun K hK => ?_) | fail); simp -implicitDefEqProofs [h1]; first | refine hK _ ?_ | refine hK _ _ (by rfl) ?_ | fail) | fail)
      refine d6 (d4 ?_); simp -implicitDefEqProofs [f9, f6, f7, isT, Tr.lab, Tr.kids, h1] <;> try rfl
    · have h2' : ¬ l.length = 0 := fun h => h2 (List.eq_nil_of_length_eq_zero h)
      have h2'' : ¬ (l.length : Int) = 0 := by omega
      refine d7 Tryz.func134 rfl rfl (Nat.le_of_ble_eq_true rfl) ?_
      repeat (first | refine b9 ?_ | refine b6 ?_ | refine a6 ?_ | refine b5 ?_ | refine e7 rfl ?_ | refine d9 rfl ?_ | ((first | refine b8 (fun K hK => ?_) | refine d3 e9 (fun K hK => ?_) | fail); simp -implicitDefEqProofs [h1, h2, h2', h2'']; first | refine hK _ ?_ | refine hK _ _ (by rfl) ?_ | fail) | fail)
      refine d6 (d4 ?_); simp -implicitDefEqProofs [f9, f6, f7, isT, Tr.lab, Tr.kids, h1, h2, h2', h2''] <;> try rfl
  · refine d7 Tryz.func134 rfl rfl (Nat.le_of_ble_eq_true rfl) ?_
    repeat (first | refine b9 ?_ | refine b6 ?_ | refine a6 ?_ | refine b5 ?_ | refine e7 rfl ?_ | refine d9 rfl ?_ | ((first | refine b8 (fun K hK => ?_) | refine d3 e9 (fun K hK => ?_) | fail); simp -implicitDefEqProofs [h1]; first | refine hK _ ?_ | refine hK _ _ (by rfl) ?_ | fail) | fail)
    refine d6 (d4 ?_); simp -implicitDefEqProofs [f9, f6, f7, isT, Tr.lab, Tr.kids, h1] <;> try rfl
theorem a7p : Row Tryz.prog 58 [] [] (vT (tyT 1)) [] := by
  refine d7 Tryz.func58 rfl rfl (Nat.le_of_ble_eq_true rfl) ?_
  repeat (first | refine b9 ?_ | refine b6 ?_ | refine a6 ?_ | refine b5 ?_ | refine e7 rfl ?_ | refine d9 rfl ?_ | ((first | refine b8 (fun K hK => ?_) | refine d3 e9 (fun K hK => ?_) | fail); simp -implicitDefEqProofs; first | refine hK _ ?_ | refine hK _ _ (by rfl) ?_ | fail) | fail)
  refine d6 (d4 ?_); simp -implicitDefEqProofs [f9, f6, f7, tyT] <;> try rfl
theorem a9k : Row Tryz.prog 59 [] [] (vT (tyT 2)) [] := by
  refine d7 Tryz.func59 rfl rfl (Nat.le_of_ble_eq_true rfl) ?_
  repeat (first | refine b9 ?_ | refine b6 ?_ | refine a6 ?_ | refine b5 ?_ | refine e7 rfl ?_ | refine d9 rfl ?_ | ((first | refine b8 (fun K hK => ?_) | refine d3 e9 (fun K hK => ?_) | fail); simp -implicitDefEqProofs; first | refine hK _ ?_ | refine hK _ _ (by rfl) ?_ | fail) | fail)
  refine d6 (d4 ?_); simp -implicitDefEqProofs [f9, f6, f7, tyT] <;> try rfl
theorem a3x (t : VT) : Row Tryz.prog 39 [vT t] [] (vT (a0u t)) [] := by
  have h1 := a7p
  have h2 := a9k
  unfold tyT at h1 h2
  obtain ⟨x, l⟩ := t
  by_cases h5 : x.k = 5
  · rw [show a0u (.mk x l) = tyT 1 by simp [a0u, Tr.lab, h5]]
    unfold tyT
    refine d7 Tryz.func39 rfl rfl (Nat.le_of_ble_eq_true rfl) ?_
    repeat' (first | refine b9 ?_ | refine b6 ?_ | refine a6 ?_ | refine b5 ?_ | refine e7 rfl ?_ | refine d9 rfl ?_ | ((first | refine b8 (fun K hK => ?_) | refine d3 e9 (fun K hK => ?_) | refine b7 (cp h1 ?_) | refine a8 (dp h1 ?_) | refine b7 (cp h2 ?_) | refine a8 (dp h2 ?_) | fail); simp -implicitDefEqProofs [h5]) | refine hK _ ?_ | refine hK _ _ (by rfl) ?_ | fail)
    refine d6 (d4 ?_); simp -implicitDefEqProofs [f9, f6, f7] <;> try rfl
  by_cases h6 : x.k = 6
  · rw [show a0u (.mk x l) = tyT 2 by simp [a0u, Tr.lab, h6]]
    unfold tyT
    refine d7 Tryz.func39 rfl rfl (Nat.le_of_ble_eq_true rfl) ?_
    repeat' (first | refine b9 ?_ | refine b6 ?_ | refine a6 ?_ | refine b5 ?_ | refine e7 rfl ?_ | refine d9 rfl ?_ | ((first | refine b8 (fun K hK => ?_) | refine d3 e9 (fun K hK => ?_) | refine b7 (cp h1 ?_) | refine a8 (dp h1 ?_) | refine b7 (cp h2 ?_) | refine a8 (dp h2 ?_) | fail); simp -implicitDefEqProofs [h6]) | refine hK _ ?_ | refine hK _ _ (by rfl) ?_ | fail)
    refine d6 (d4 ?_); simp -implicitDefEqProofs [f9, f6, f7] <;> try rfl
  rw [show a0u (.mk x l) = z0T by simp [a0u, Tr.lab, h5, h6]]
  refine d7 Tryz.func39 rfl rfl (Nat.le_of_ble_eq_true rfl) ?_
  repeat' (first | refine b9 ?_ | refine b6 ?_ | refine a6 ?_ | refine b5 ?_ | refine e7 rfl ?_ | refine d9 rfl ?_ | ((first | refine b8 (fun K hK => ?_) | refine d3 e9 (fun K hK => ?_) | refine b7 (cp h1 ?_) | refine a8 (dp h1 ?_) | refine b7 (cp h2 ?_) | refine a8 (dp h2 ?_) | fail); simp -implicitDefEqProofs [h5, h6]) | refine hK _ ?_ | refine hK _ _ (by rfl) ?_ | fail)
  refine d6 (d4 ?_); simp -implicitDefEqProofs [f9, f6, f7] <;> try rfl
theorem b8z (x : Lab) (l : List VT) : Row Tryz.prog 85 [vT (.mk x l)] [] (vB (j7 x l.length)) [] := by
  by_cases h5 : x.k = 5
  · by_cases z : l = []
    · refine d7 Tryz.func85 rfl rfl (Nat.le_of_ble_eq_true rfl) ?_
      repeat (first | refine b9 ?_ | refine b6 ?_ | refine a6 ?_ | refine b5 ?_ | refine e7 rfl ?_ | refine d9 rfl ?_ | ((first | refine b8 (fun K hK => ?_) | refine d3 e9 (fun K hK => ?_) | fail); simp -implicitDefEqProofs [h5, z, List.length_nil]; first | refine hK _ ?_ | refine hK _ _ (by rfl) ?_ | fail) | fail)
      refine d6 (d4 ?_); simp -implicitDefEqProofs [f9, f6, f7, j7, h5, z, List.length_nil] <;> try rfl
    · have z1 : ¬ l.length = 0 := fun h => z (List.eq_nil_of_length_eq_zero h)
      have z2 : ¬ (l.length : Int) = 0 := by omega
      · refine d7 Tryz.func85 rfl rfl (Nat.le_of_ble_eq_true rfl) ?_
        repeat (first | refine b9 ?_ | refine b6 ?_ | refine a6 ?_ | refine b5 ?_ | refine e7 rfl ?_ | refine d9 rfl ?_ | ((first | refine b8 (fun K hK => ?_) | refine d3 e9 (fun K hK => ?_) | fail); simp -implicitDefEqProofs [h5, z, z1, z2]; first | refine hK _ ?_ | refine hK _ _ (by rfl) ?_ | fail) | fail)
        refine d6 (d4 ?_); simp -implicitDefEqProofs [f9, f6, f7, j7, h5, z, z1, z2] <;> try rfl
  by_cases h7 : x.k = 7
  · by_cases z : l = []
    · refine d7 Tryz.func85 rfl rfl (Nat.le_of_ble_eq_true rfl) ?_
      repeat (first | refine b9 ?_ | refine b6 ?_ | refine a6 ?_ | refine b5 ?_ | refine e7 rfl ?_ | refine d9 rfl ?_ | ((first | refine b8 (fun K hK => ?_) | refine d3 e9 (fun K hK => ?_) | fail); simp -implicitDefEqProofs [h7, z, List.length_nil]; first | refine hK _ ?_ | refine hK _ _ (by rfl) ?_ | fail) | fail)
      refine d6 (d4 ?_); simp -implicitDefEqProofs [f9, f6, f7, j7, h7, z, List.length_nil] <;> try rfl
    · have z1 : ¬ l.length = 0 := fun h => z (List.eq_nil_of_length_eq_zero h)
      have z2 : ¬ (l.length : Int) = 0 := by omega
      · refine d7 Tryz.func85 rfl rfl (Nat.le_of_ble_eq_true rfl) ?_
        repeat (first | refine b9 ?_ | refine b6 ?_ | refine a6 ?_ | refine b5 ?_ | refine e7 rfl ?_ | refine d9 rfl ?_ | ((first | refine b8 (fun K hK => ?_) | refine d3 e9 (fun K hK => ?_) | fail); simp -implicitDefEqProofs [h7, z, z1, z2]; first | refine hK _ ?_ | refine hK _ _ (by rfl) ?_ | fail) | fail)
        refine d6 (d4 ?_); simp -implicitDefEqProofs [f9, f6, f7, j7, h7, z, z1, z2] <;> try rfl
  by_cases h8 : x.k = 8
  · by_cases z : l = []
    · refine d7 Tryz.func85 rfl rfl (Nat.le_of_ble_eq_true rfl) ?_
      repeat (first | refine b9 ?_ | refine b6 ?_ | refine a6 ?_ | refine b5 ?_ | refine e7 rfl ?_ | refine d9 rfl ?_ | ((first | refine b8 (fun K hK => ?_) | refine d3 e9 (fun K hK => ?_) | fail); simp -implicitDefEqProofs [h8, z, List.length_nil]; first | refine hK _ ?_ | refine hK _ _ (by rfl) ?_ | fail) | fail)
      refine d6 (d4 ?_); simp -implicitDefEqProofs [f9, f6, f7, j7, h8, z, List.length_nil] <;> try rfl
    · have z1 : ¬ l.length = 0 := fun h => z (List.eq_nil_of_length_eq_zero h)
      have z2 : ¬ (l.length : Int) = 0 := by omega
      · refine d7 Tryz.func85 rfl rfl (Nat.le_of_ble_eq_true rfl) ?_
        repeat (first | refine b9 ?_ | refine b6 ?_ | refine a6 ?_ | refine b5 ?_ | refine e7 rfl ?_ | refine d9 rfl ?_ | ((first | refine b8 (fun K hK => ?_) | refine d3 e9 (fun K hK => ?_) | fail); simp -implicitDefEqProofs [h8, z, z1, z2]; first | refine hK _ ?_ | refine hK _ _ (by rfl) ?_ | fail) | fail)
        refine d6 (d4 ?_); simp -implicitDefEqProofs [f9, f6, f7, j7, h8, z, z1, z2] <;> try rfl
  by_cases h9 : x.k = 9
  · by_cases z : l = []
    · refine d7 Tryz.func85 rfl rfl (Nat.le_of_ble_eq_true rfl) ?_
      repeat (first | refine b9 ?_ | refine b6 ?_ | refine a6 ?_ | refine b5 ?_ | refine e7 rfl ?_ | refine d9 rfl ?_ | ((first | refine b8 (fun K hK => ?_) | refine d3 e9 (fun K hK => ?_) | fail); simp -implicitDefEqProofs [h9, z, List.length_nil]; first | refine hK _ ?_ | refine hK _ _ (by rfl) ?_ | fail) | fail)
      refine d6 (d4 ?_); simp -implicitDefEqProofs [f9, f6, f7, j7, h9, z, List.length_nil] <;> try rfl
    · have z1 : ¬ l.length = 0 := fun h => z (List.eq_nil_of_length_eq_zero h)
      have z2 : ¬ (l.length : Int) = 0 := by omega
      · refine d7 Tryz.func85 rfl rfl (Nat.le_of_ble_eq_true rfl) ?_
        repeat (first | refine b9 ?_ | refine b6 ?_ | refine a6 ?_ | refine b5 ?_ | refine e7 rfl ?_ | refine d9 rfl ?_ | ((first | refine b8 (fun K hK => ?_) | refine d3 e9 (fun K hK => ?_) | fail); simp -implicitDefEqProofs [h9, z, z1, z2]; first | refine hK _ ?_ | refine hK _ _ (by rfl) ?_ | fail) | fail)
        refine d6 (d4 ?_); simp -implicitDefEqProofs [f9, f6, f7, j7, h9, z, z1, z2] <;> try rfl
  by_cases h18 : x.k = 18
  · by_cases z : l = []
    · refine d7 Tryz.func85 rfl rfl (Nat.le_of_ble_eq_true rfl) ?_
      repeat (first | refine b9 ?_ | refine b6 ?_ | refine a6 ?_ | refine b5 ?_ | refine e7 rfl ?_ | refine d9 rfl ?_ | ((first | refine b8 (fun K hK => ?_) | refine d3 e9 (fun K hK => ?_) | fail); simp -implicitDefEqProofs [h18, z, List.length_nil]; first | refine hK _ ?_ | refine hK _ _ (by rfl) ?_ | fail) | fail)
      refine d6 (d4 ?_); simp -implicitDefEqProofs [f9, f6, f7, j7, h18, z, List.length_nil] <;> try rfl
    · have z1 : ¬ l.length = 0 := fun h => z (List.eq_nil_of_length_eq_zero h)
      have z2 : ¬ (l.length : Int) = 0 := by omega
      · refine d7 Tryz.func85 rfl rfl (Nat.le_of_ble_eq_true rfl) ?_
        repeat (first | refine b9 ?_ | refine b6 ?_ | refine a6 ?_ | refine b5 ?_ | refine e7 rfl ?_ | refine d9 rfl ?_ | ((first | refine b8 (fun K hK => ?_) | refine d3 e9 (fun K hK => ?_) | fail); simp -implicitDefEqProofs [h18, z, z1, z2]; first | refine hK _ ?_ | refine hK _ _ (by rfl) ?_ | fail) | fail)
        refine d6 (d4 ?_); simp -implicitDefEqProofs [f9, f6, f7, j7, h18, z, z1, z2] <;> try rfl
  by_cases h6 : x.k = 6
  · by_cases z : l = []
    · by_cases q1 : x.n = 0
      · refine d7 Tryz.func85 rfl rfl (Nat.le_of_ble_eq_true rfl) ?_
        repeat (first | refine b9 ?_ | refine b6 ?_ | refine a6 ?_ | refine b5 ?_ | refine e7 rfl ?_ | refine d9 rfl ?_ | ((first | refine b8 (fun K hK => ?_) | refine d3 e9 (fun K hK => ?_) | fail); simp -implicitDefEqProofs [h6, z, List.length_nil, q1]; first | refine hK _ ?_ | refine hK _ _ (by rfl) ?_ | fail) | fail)
        refine d6 (d4 ?_); simp -implicitDefEqProofs [f9, f6, f7, j7, h6, z, List.length_nil, q1] <;> try rfl
      · by_cases q2 : x.n = 1
        · refine d7 Tryz.func85 rfl rfl (Nat.le_of_ble_eq_true rfl) ?_
          repeat (first | refine b9 ?_ | refine b6 ?_ | refine a6 ?_ | refine b5 ?_ | refine e7 rfl ?_ | refine d9 rfl ?_ | ((first | refine b8 (fun K hK => ?_) | refine d3 e9 (fun K hK => ?_) | fail); simp -implicitDefEqProofs [h6, z, List.length_nil, q2]; first | refine hK _ ?_ | refine hK _ _ (by rfl) ?_ | fail) | fail)
          refine d6 (d4 ?_); simp -implicitDefEqProofs [f9, f6, f7, j7, h6, z, List.length_nil, q2] <;> try rfl
        · refine d7 Tryz.func85 rfl rfl (Nat.le_of_ble_eq_true rfl) ?_
          repeat (first | refine b9 ?_ | refine b6 ?_ | refine a6 ?_ | refine b5 ?_ | refine e7 rfl ?_ | refine d9 rfl ?_ | ((first | refine b8 (fun K hK => ?_) | refine d3 e9 (fun K hK => ?_) | fail); simp -implicitDefEqProofs [h6, z, List.length_nil, q1, q2]; first | refine hK _ ?_ | refine hK _ _ (by rfl) ?_ | fail) | fail)
          refine d6 (d4 ?_); simp -implicitDefEqProofs [f9, f6, f7, j7, h6, z, List.length_nil, q1, q2] <;> try rfl
    · have z1 : ¬ l.length = 0 := fun h => z (List.eq_nil_of_length_eq_zero h)
      have z2 : ¬ (l.length : Int) = 0 := by omega
      · refine d7 Tryz.func85 rfl rfl (Nat.le_of_ble_eq_true rfl) ?_
        repeat (first | refine b9 ?_ | refine b6 ?_ | refine a6 ?_ | refine b5 ?_ | refine e7 rfl ?_ | refine d9 rfl ?_ | ((first | refine b8 (fun K hK => ?_) | refine d3 e9 (fun K hK => ?_) | fail); simp -implicitDefEqProofs [h6, z, z1, z2]; first | refine hK _ ?_ | refine hK _ _ (by rfl) ?_ | fail) | fail)
        refine d6 (d4 ?_); simp -implicitDefEqProofs [f9, f6, f7, j7, h6, z, z1, z2] <;> try rfl
  by_cases h11 : x.k = 11
  · by_cases z : l.length = 1
    · have z2 : (l.length : Int) = 1 := by omega
      · by_cases q1 : x.n = 1
        · refine d7 Tryz.func85 rfl rfl (Nat.le_of_ble_eq_true rfl) ?_
          repeat (first | refine b9 ?_ | refine b6 ?_ | refine a6 ?_ | refine b5 ?_ | refine e7 rfl ?_ | refine d9 rfl ?_ | ((first | refine b8 (fun K hK => ?_) | refine d3 e9 (fun K hK => ?_) | fail); simp -implicitDefEqProofs [h11, z, z2, q1]; first | refine hK _ ?_ | refine hK _ _ (by rfl) ?_ | fail) | fail)
          refine d6 (d4 ?_); simp -implicitDefEqProofs [f9, f6, f7, j7, h11, z, z2, q1] <;> try rfl
        · by_cases q2 : x.n = 2
          · refine d7 Tryz.func85 rfl rfl (Nat.le_of_ble_eq_true rfl) ?_
            repeat (first | refine b9 ?_ | refine b6 ?_ | refine a6 ?_ | refine b5 ?_ | refine e7 rfl ?_ | refine d9 rfl ?_ | ((first | refine b8 (fun K hK => ?_) | refine d3 e9 (fun K hK => ?_) | fail); simp -implicitDefEqProofs [h11, z, z2, q2]; first | refine hK _ ?_ | refine hK _ _ (by rfl) ?_ | fail) | fail)
            refine d6 (d4 ?_); simp -implicitDefEqProofs [f9, f6, f7, j7, h11, z, z2, q2] <;> try rfl
          · refine d7 Tryz.func85 rfl rfl (Nat.le_of_ble_eq_true rfl) ?_
            repeat (first | refine b9 ?_ | refine b6 ?_ | refine a6 ?_ | refine b5 ?_ | refine e7 rfl ?_ | refine d9 rfl ?_ | ((first | refine b8 (fun K hK => ?_) | refine d3 e9 (fun K hK => ?_) | fail); simp -implicitDefEqProofs [h11, z, z2, q1, q2]; first | refine hK _ ?_ | refine hK _ _ (by rfl) ?_ | fail) | fail)
            refine d6 (d4 ?_); simp -implicitDefEqProofs [f9, f6, f7, j7, h11, z, z2, q1, q2] <;> try rfl
    · have z2 : ¬ (l.length : Int) = 1 := by omega
      · refine d7 Tryz.func85 rfl rfl (Nat.le_of_ble_eq_true rfl) ?_
        repeat (first | refine b9 ?_ | refine b6 ?_ | refine a6 ?_ | refine b5 ?_ | refine e7 rfl ?_ | refine d9 rfl ?_ | ((first | refine b8 (fun K hK => ?_) | refine d3 e9 (fun K hK => ?_) | fail); simp -implicitDefEqProofs [h11, z, z2]; first | refine hK _ ?_ | refine hK _ _ (by rfl) ?_ | fail) | fail)
        refine d6 (d4 ?_); simp -implicitDefEqProofs [f9, f6, f7, j7, h11, z, z2] <;> try rfl
  by_cases h10 : x.k = 10
  · by_cases z : l.length = 2
    · have z2 : (l.length : Int) = 2 := by omega
      · by_cases q1 : 1 ≤ x.n
        · by_cases q2 : x.n ≤ 13
          · refine d7 Tryz.func85 rfl rfl (Nat.le_of_ble_eq_true rfl) ?_
            repeat (first | refine b9 ?_ | refine b6 ?_ | refine a6 ?_ | refine b5 ?_ | refine e7 rfl ?_ | refine d9 rfl ?_ | ((first | refine b8 (fun K hK => ?_) | refine d3 e9 (fun K hK => ?_) | fail); simp -implicitDefEqProofs [h10, z, z2, q1, q2]; first | refine hK _ ?_ | refine hK _ _ (by rfl) ?_ | fail) | fail)
            refine d6 (d4 ?_); simp -implicitDefEqProofs [f9, f6, f7, j7, h10, z, z2, q1, q2] <;> try rfl
          · refine d7 Tryz.func85 rfl rfl (Nat.le_of_ble_eq_true rfl) ?_
            repeat (first | refine b9 ?_ | refine b6 ?_ | refine a6 ?_ | refine b5 ?_ | refine e7 rfl ?_ | refine d9 rfl ?_ | ((first | refine b8 (fun K hK => ?_) | refine d3 e9 (fun K hK => ?_) | fail); simp -implicitDefEqProofs [h10, z, z2, q1, q2]; first | refine hK _ ?_ | refine hK _ _ (by rfl) ?_ | fail) | fail)
            refine d6 (d4 ?_); simp -implicitDefEqProofs [f9, f6, f7, j7, h10, z, z2, q1, q2] <;> try rfl
        · refine d7 Tryz.func85 rfl rfl (Nat.le_of_ble_eq_true rfl) ?_
          repeat (first | refine b9 ?_ | refine b6 ?_ | refine a6 ?_ | refine b5 ?_ | refine e7 rfl ?_ | refine d9 rfl ?_ | ((first | refine b8 (fun K hK => ?_) | refine d3 e9 (fun K hK => ?_) | fail); simp -implicitDefEqProofs [h10, z, z2, q1]; first | refine hK _ ?_ | refine hK _ _ (by rfl) ?_ | fail) | fail)
          refine d6 (d4 ?_); simp -implicitDefEqProofs [f9, f6, f7, j7, h10, z, z2, q1] <;> try rfl
    · have z2 : ¬ (l.length : Int) = 2 := by omega
      · refine d7 Tryz.func85 rfl rfl (Nat.le_of_ble_eq_true rfl) ?_
        repeat (first | refine b9 ?_ | refine b6 ?_ | refine a6 ?_ | refine b5 ?_ | refine e7 rfl ?_ | refine d9 rfl ?_ | ((first | refine b8 (fun K hK => ?_) | refine d3 e9 (fun K hK => ?_) | fail); simp -implicitDefEqProofs [h10, z, z2]; first | refine hK _ ?_ | refine hK _ _ (by rfl) ?_ | fail) | fail)
        refine d6 (d4 ?_); simp -implicitDefEqProofs [f9, f6, f7, j7, h10, z, z2] <;> try rfl
  by_cases h13 : x.k = 13
  · by_cases z : l.length = 1
    · have z2 : (l.length : Int) = 1 := by omega
      · refine d7 Tryz.func85 rfl rfl (Nat.le_of_ble_eq_true rfl) ?_
        repeat (first | refine b9 ?_ | refine b6 ?_ | refine a6 ?_ | refine b5 ?_ | refine e7 rfl ?_ | refine d9 rfl ?_ | ((first | refine b8 (fun K hK => ?_) | refine d3 e9 (fun K hK => ?_) | fail); simp -implicitDefEqProofs [h13, z, z2]; first | refine hK _ ?_ | refine hK _ _ (by rfl) ?_ | fail) | fail)
        refine d6 (d4 ?_); simp -implicitDefEqProofs [f9, f6, f7, j7, h13, z, z2] <;> try rfl
    · have z2 : ¬ (l.length : Int) = 1 := by omega
      · refine d7 Tryz.func85 rfl rfl (Nat.le_of_ble_eq_true rfl) ?_
        repeat (first | refine b9 ?_ | refine b6 ?_ | refine a6 ?_ | refine b5 ?_ | refine e7 rfl ?_ | refine d9 rfl ?_ | ((first | refine b8 (fun K hK => ?_) | refine d3 e9 (fun K hK => ?_) | fail); simp -implicitDefEqProofs [h13, z, z2]; first | refine hK _ ?_ | refine hK _ _ (by rfl) ?_ | fail) | fail)
        refine d6 (d4 ?_); simp -implicitDefEqProofs [f9, f6, f7, j7, h13, z, z2] <;> try rfl
  by_cases h12 : x.k = 12
  · by_cases z : l.length = 2
    · have z2 : (l.length : Int) = 2 := by omega
      · refine d7 Tryz.func85 rfl rfl (Nat.le_of_ble_eq_true rfl) ?_
        repeat (first | refine b9 ?_ | refine b6 ?_ | refine a6 ?_ | refine b5 ?_ | refine e7 rfl ?_ | refine d9 rfl ?_ | ((first | refine b8 (fun K hK => ?_) | refine d3 e9 (fun K hK => ?_) | fail); simp -implicitDefEqProofs [h12, z, z2]; first | refine hK _ ?_ | refine hK _ _ (by rfl) ?_ | fail) | fail)
        refine d6 (d4 ?_); simp -implicitDefEqProofs [f9, f6, f7, j7, h12, z, z2] <;> try rfl
    · have z2 : ¬ (l.length : Int) = 2 := by omega
      · refine d7 Tryz.func85 rfl rfl (Nat.le_of_ble_eq_true rfl) ?_
        repeat (first | refine b9 ?_ | refine b6 ?_ | refine a6 ?_ | refine b5 ?_ | refine e7 rfl ?_ | refine d9 rfl ?_ | ((first | refine b8 (fun K hK => ?_) | refine d3 e9 (fun K hK => ?_) | fail); simp -implicitDefEqProofs [h12, z, z2]; first | refine hK _ ?_ | refine hK _ _ (by rfl) ?_ | fail) | fail)
        refine d6 (d4 ?_); simp -implicitDefEqProofs [f9, f6, f7, j7, h12, z, z2] <;> try rfl
  by_cases h14 : x.k = 14
  · by_cases z : 1 ≤ l.length
    · have z2 : (1 : Int) ≤ l.length := by omega
      · refine d7 Tryz.func85 rfl rfl (Nat.le_of_ble_eq_true rfl) ?_
        repeat (first | refine b9 ?_ | refine b6 ?_ | refine a6 ?_ | refine b5 ?_ | refine e7 rfl ?_ | refine d9 rfl ?_ | ((first | refine b8 (fun K hK => ?_) | refine d3 e9 (fun K hK => ?_) | fail); simp -implicitDefEqProofs [h14, z, z2]; first | refine hK _ ?_ | refine hK _ _ (by rfl) ?_ | fail) | fail)
        refine d6 (d4 ?_); simp -implicitDefEqProofs [f9, f6, f7, j7, h14, z, z2] <;> try rfl
    · have z2 : ¬ (1 : Int) ≤ l.length := by omega
      · refine d7 Tryz.func85 rfl rfl (Nat.le_of_ble_eq_true rfl) ?_
        repeat (first | refine b9 ?_ | refine b6 ?_ | refine a6 ?_ | refine b5 ?_ | refine e7 rfl ?_ | refine d9 rfl ?_ | ((first | refine b8 (fun K hK => ?_) | refine d3 e9 (fun K hK => ?_) | fail); simp -implicitDefEqProofs [h14, z, z2]; first | refine hK _ ?_ | refine hK _ _ (by rfl) ?_ | fail) | fail)
        refine d6 (d4 ?_); simp -implicitDefEqProofs [f9, f6, f7, j7, h14, z, z2] <;> try rfl
  by_cases h15 : x.k = 15
  · by_cases z : 1 ≤ l.length
    · have z2 : (1 : Int) ≤ l.length := by omega
      · refine d7 Tryz.func85 rfl rfl (Nat.le_of_ble_eq_true rfl) ?_
        repeat (first | refine b9 ?_ | refine b6 ?_ | refine a6 ?_ | refine b5 ?_ | refine e7 rfl ?_ | refine d9 rfl ?_ | ((first | refine b8 (fun K hK => ?_) | refine d3 e9 (fun K hK => ?_) | fail); simp -implicitDefEqProofs [h15, z, z2]; first | refine hK _ ?_ | refine hK _ _ (by rfl) ?_ | fail) | fail)
        refine d6 (d4 ?_); simp -implicitDefEqProofs [f9, f6, f7, j7, h15, z, z2] <;> try rfl
    · have z2 : ¬ (1 : Int) ≤ l.length := by omega
      · refine d7 Tryz.func85 rfl rfl (Nat.le_of_ble_eq_true rfl) ?_
        repeat (first | refine b9 ?_ | refine b6 ?_ | refine a6 ?_ | refine b5 ?_ | refine e7 rfl ?_ | refine d9 rfl ?_ | ((first | refine b8 (fun K hK => ?_) | refine d3 e9 (fun K hK => ?_) | fail); simp -implicitDefEqProofs [h15, z, z2]; first | refine hK _ ?_ | refine hK _ _ (by rfl) ?_ | fail) | fail)
        refine d6 (d4 ?_); simp -implicitDefEqProofs [f9, f6, f7, j7, h15, z, z2] <;> try rfl
  by_cases h16 : x.k = 16
  · refine d7 Tryz.func85 rfl rfl (Nat.le_of_ble_eq_true rfl) ?_
    repeat (first | refine b9 ?_ | refine b6 ?_ | refine a6 ?_ | refine b5 ?_ | refine e7 rfl ?_ | refine d9 rfl ?_ | ((first | refine b8 (fun K hK => ?_) | refine d3 e9 (fun K hK => ?_) | fail); simp -implicitDefEqProofs [h16]; first | refine hK _ ?_ | refine hK _ _ (by rfl) ?_ | fail) | fail)
    refine d6 (d4 ?_); simp -implicitDefEqProofs [f9, f6, f7, j7, h16] <;> try rfl
  by_cases h17 : x.k = 17
  · refine d7 Tryz.func85 rfl rfl (Nat.le_of_ble_eq_true rfl) ?_
    repeat (first | refine b9 ?_ | refine b6 ?_ | refine a6 ?_ | refine b5 ?_ | refine e7 rfl ?_ | refine d9 rfl ?_ | ((first | refine b8 (fun K hK => ?_) | refine d3 e9 (fun K hK => ?_) | fail); simp -implicitDefEqProofs [h17]; first | refine hK _ ?_ | refine hK _ _ (by rfl) ?_ | fail) | fail)
    refine d6 (d4 ?_); simp -implicitDefEqProofs [f9, f6, f7, j7, h17] <;> try rfl
  refine d7 Tryz.func85 rfl rfl (Nat.le_of_ble_eq_true rfl) ?_
  repeat (first | refine b9 ?_ | refine b6 ?_ | refine a6 ?_ | refine b5 ?_ | refine e7 rfl ?_ | refine d9 rfl ?_ | ((first | refine b8 (fun K hK => ?_) | refine d3 e9 (fun K hK => ?_) | fail); simp -implicitDefEqProofs [h5, h7, h8, h9, h18, h6, h11, h10, h13, h12, h14, h15, h16, h17]; first | refine hK _ ?_ | refine hK _ _ (by rfl) ?_ | fail) | fail)
  refine d6 (d4 ?_); simp -implicitDefEqProofs [f9, f6, f7, j7, h5, h7, h8, h9, h18, h6, h11, h10, h13, h12, h14, h15, h16, h17] <;> try rfl
end Go.Proofs.YtbbkmijkllgfaaaGreatDoor.am
end
