import Derived.Test.YthkfdheoakbfnaaGreatPkF5
import Derived.Test.YthkfdheoakbfnaaGreatPkF4
set_option maxRecDepth 100000
set_option maxHeartbeats 4000000
section
namespace Go.Proofs.YthkfdheoakbfnaaGreat.am
open Go.ChangeShapes Go.WideShapes Go.ChangeAt Go.RowKit
open vt
set_option linter.unusedVariables false
set_option linter.unusedSimpArgs false
theorem a44 (m : VT) (hm : t7 m) (hsz : m.size ≤ 1000000) (S : Nat) (hS : ∀ d ∈ m.kids, d.size ≤ S) : ∀ (f : Nat) (t : VT) (ins : List Int), t7 t → t.size ≤ 1000000 → InsOk m.kids ins → (m.kids.length - ins.length) * S + t.size ≤ f → Row Tryz.prog 70 [vT m, vT t, vIs ins] [] (vI (wth m.kids f t ins)) []
  | 0, t, ins, _, _, _, hf => by
    obtain ⟨x, l⟩ := t
    have := Tr.len_size (x := x) (l := l)
    omega
  | f + 1, t, ins, ht, hts, hio, hf => by
    have ih := a44 m hm hsz S hS f
    obtain ⟨mx, ml⟩ := m
    rw [Tr.kids] at hS ih hio hf ⊢
    have hml := Tr.len_size (x := mx) (l := ml)
    obtain ⟨x, l⟩ := t
    have hlen := Tr.len_size (x := x) (l := l)
    have hx := lab_ok ht
    have hil : ins.length ≤ 1000000 := by
      have := pig ml.length ins hio.nd hio.rg
      omega
    unfold wth
    rw [Tr.lab, Tr.kids]
    by_cases hA : (x.k = 1 ∨ x.k = 2) ∧ l.length = 0
    · rw [if_pos hA]
      obtain ⟨h1, h2⟩ := hA
      have h2' : (l.length : Int) = 0 := by omega
      have h2'' : l = [] := List.eq_nil_of_length_eq_zero h2
      clear ih
      rcases h1 with h | h
      · refine f6 Tryz.func70 rfl rfl (Nat.le_of_ble_eq_true rfl) ?_
        repeat (first | refine d4 ?_ | refine b8 ?_ | refine b7 ?_ | refine b9 ?_ | refine f5 rfl ?_ | refine d8 rfl ?_ | ((first | refine c5 (fun K hK => ?_) | refine d5 f8 (fun K hK => ?_) | fail); simp -implicitDefEqProofs [h, h2, h2', h2'']; first | refine hK _ ?_ | refine hK _ _ (by rfl) ?_ | fail) | fail)
        refine d7 (d6 ?_); simp -implicitDefEqProofs [g8, f9, g7] <;> try rfl
      · refine f6 Tryz.func70 rfl rfl (Nat.le_of_ble_eq_true rfl) ?_
        repeat (first | refine d4 ?_ | refine b8 ?_ | refine b7 ?_ | refine b9 ?_ | refine f5 rfl ?_ | refine d8 rfl ?_ | ((first | refine c5 (fun K hK => ?_) | refine d5 f8 (fun K hK => ?_) | fail); simp -implicitDefEqProofs [h, h2, h2', h2'']; first | refine hK _ ?_ | refine hK _ _ (by rfl) ?_ | fail) | fail)
        refine d7 (d6 ?_); simp -implicitDefEqProofs [g8, f9, g7] <;> try rfl
    rw [if_neg hA]
    by_cases h12 : x.k = 1 ∨ x.k = 2
    · have hl0 : ¬ l.length = 0 := fun h => hA ⟨h12, h⟩
      have hl0' : ¬ (l.length : Int) = 0 := by omega
      have hl0'' : ¬ l = [] := fun h => hl0 (by rw [h]; rfl)
      rw [if_neg (by omega), if_pos (.inl (by omega))]
      clear ih
      rcases h12 with h | h
      · refine f6 Tryz.func70 rfl rfl (Nat.le_of_ble_eq_true rfl) ?_
        repeat (first | refine d4 ?_ | refine b8 ?_ | refine b7 ?_ | refine b9 ?_ | refine f5 rfl ?_ | refine d8 rfl ?_ | ((first | refine c5 (fun K hK => ?_) | refine d5 f8 (fun K hK => ?_) | fail); simp -implicitDefEqProofs [h, hl0, hl0', hl0'']; first | refine hK _ ?_ | refine hK _ _ (by rfl) ?_ | fail) | fail)
        refine d7 (d6 ?_); simp -implicitDefEqProofs [g8, f9, g7] <;> try rfl
      · refine f6 Tryz.func70 rfl rfl (Nat.le_of_ble_eq_true rfl) ?_
        repeat (first | refine d4 ?_ | refine b8 ?_ | refine b7 ?_ | refine b9 ?_ | refine f5 rfl ?_ | refine d8 rfl ?_ | ((first | refine c5 (fun K hK => ?_) | refine d5 f8 (fun K hK => ?_) | fail); simp -implicitDefEqProofs [h, hl0, hl0', hl0'']; first | refine hK _ ?_ | refine hK _ _ (by rfl) ?_ | fail) | fail)
        refine d7 (d6 ?_); simp -implicitDefEqProofs [g8, f9, g7] <;> try rfl
    have n1 : ¬ x.k = 1 := fun h => h12 (.inl h)
    have n2 : ¬ x.k = 2 := fun h => h12 (.inr h)
    by_cases h3 : x.k = 3
    · by_cases hB : l.length = 1 ∧ 1 ≤ x.n ∧ x.n ≤ 16; rotate_left
      · rw [if_neg (fun h => hB h.2), if_pos (.inl (by omega))]
        clear ih
        by_cases b1 : l.length = 1
        · have b1' : (l.length : Int) = 1 := by omega
          by_cases b2 : 1 ≤ x.n
          · have b3 : ¬ x.n ≤ 16 := fun h => hB ⟨b1, b2, h⟩
            refine f6 Tryz.func70 rfl rfl (Nat.le_of_ble_eq_true rfl) ?_
            repeat (first | refine d4 ?_ | refine b8 ?_ | refine b7 ?_ | refine b9 ?_ | refine f5 rfl ?_ | refine d8 rfl ?_ | ((first | refine c5 (fun K hK => ?_) | refine d5 f8 (fun K hK => ?_) | fail); simp -implicitDefEqProofs [n1, n2, h3, b1, b1', b2, b3]; first | refine hK _ ?_ | refine hK _ _ (by rfl) ?_ | fail) | fail)
            refine d7 (d6 ?_); simp -implicitDefEqProofs [g8, f9, g7] <;> try rfl
          · refine f6 Tryz.func70 rfl rfl (Nat.le_of_ble_eq_true rfl) ?_
            repeat (first | refine d4 ?_ | refine b8 ?_ | refine b7 ?_ | refine b9 ?_ | refine f5 rfl ?_ | refine d8 rfl ?_ | ((first | refine c5 (fun K hK => ?_) | refine d5 f8 (fun K hK => ?_) | fail); simp -implicitDefEqProofs [n1, n2, h3, b1, b1', b2]; first | refine hK _ ?_ | refine hK _ _ (by rfl) ?_ | fail) | fail)
            refine d7 (d6 ?_); simp -implicitDefEqProofs [g8, f9, g7] <;> try rfl
        · have b1' : ¬ (l.length : Int) = 1 := by omega
          refine f6 Tryz.func70 rfl rfl (Nat.le_of_ble_eq_true rfl) ?_
          repeat (first | refine d4 ?_ | refine b8 ?_ | refine b7 ?_ | refine b9 ?_ | refine f5 rfl ?_ | refine d8 rfl ?_ | ((first | refine c5 (fun K hK => ?_) | refine d5 f8 (fun K hK => ?_) | fail); simp -implicitDefEqProofs [n1, n2, h3, b1, b1']; first | refine hK _ ?_ | refine hK _ _ (by rfl) ?_ | fail) | fail)
          refine d7 (d6 ?_); simp -implicitDefEqProofs [g8, f9, g7] <;> try rfl
      obtain ⟨b1, b2, b3⟩ := hB
      rw [if_pos ⟨h3, b1, b2, b3⟩]
      obtain ⟨⟨ax, al⟩, rfl⟩ : ∃ a, l = [a] := List.length_eq_one_iff.1 b1
      have hsz1 := Tr.size_at (x := x) (l := [.mk ax al]) (i := 0) rfl
      have hr := ih (.mk ax al) ins (b29 ht (by simp)) (by omega) hio (by omega)
      have hv := b35 ml f (.mk ax al) ins
      rw [show [Tr.mk ax al].getD 0 z0T = .mk ax al from rfl]
      obtain ⟨v, hv1⟩ : ∃ v, wth ml f (.mk ax al) ins = v := ⟨_, rfl⟩
      rw [hv1] at hr hv ⊢
      have p0 : 0 ≤ v * x.n := Int.mul_nonneg hv.1 (by omega)
      have p1 : v * x.n ≤ 64 * 16 := Int.mul_le_mul hv.2 b3 (by omega) (by omega)
      have w0 : IntKind.i64.wrap x.n = x.n := k9 _ (by omega) (by omega)
      have w1 : IntKind.i64.wrap (v * x.n) = v * x.n := k9 _ (by omega) (by omega)
      clear ih
      by_cases hb : 64 < v * x.n
      · rw [if_pos hb]
        refine f6 Tryz.func70 rfl rfl (Nat.le_of_ble_eq_true rfl) ?_
        repeat' (first | refine d4 ?_ | refine b8 ?_ | refine b7 ?_ | refine b9 ?_ | refine f5 rfl ?_ | refine d8 rfl ?_ | ((first | refine c5 (fun K hK => ?_) | refine d5 f8 (fun K hK => ?_) | refine a9 (cp hr ?_) | refine a8 (dp hr ?_) | fail); simp -implicitDefEqProofs [n1, n2, h3, b2, b3, w0, w1, hb]) | refine hK _ ?_ | refine hK _ _ (by rfl) ?_ | fail)
        refine d7 (d6 ?_); simp -implicitDefEqProofs [g8, f9, g7] <;> try rfl
      · rw [if_neg hb]
        refine f6 Tryz.func70 rfl rfl (Nat.le_of_ble_eq_true rfl) ?_
        repeat' (first | refine d4 ?_ | refine b8 ?_ | refine b7 ?_ | refine b9 ?_ | refine f5 rfl ?_ | refine d8 rfl ?_ | ((first | refine c5 (fun K hK => ?_) | refine d5 f8 (fun K hK => ?_) | refine a9 (cp hr ?_) | refine a8 (dp hr ?_) | fail); simp -implicitDefEqProofs [n1, n2, h3, b2, b3, w0, w1, hb]) | refine hK _ ?_ | refine hK _ _ (by rfl) ?_ | fail)
        refine d7 (d6 ?_); simp -implicitDefEqProofs [g8, f9, g7] <;> try rfl
    rw [if_neg (fun h => h3 h.1)]
    by_cases h4 : x.k = 4; rotate_left
    · rw [if_pos (.inl h4)]
      clear ih
      refine f6 Tryz.func70 rfl rfl (Nat.le_of_ble_eq_true rfl) ?_
      repeat (first | refine d4 ?_ | refine b8 ?_ | refine b7 ?_ | refine b9 ?_ | refine f5 rfl ?_ | refine d8 rfl ?_ | ((first | refine c5 (fun K hK => ?_) | refine d5 f8 (fun K hK => ?_) | fail); simp -implicitDefEqProofs [n1, n2, h3, h4]; first | refine hK _ ?_ | refine hK _ _ (by rfl) ?_ | fail) | fail)
      refine d7 (d6 ?_); simp -implicitDefEqProofs [g8, f9, g7] <;> try rfl
    by_cases hl0 : l.length = 0; rotate_left
    · have hl0' : ¬ (l.length : Int) = 0 := by omega
      have hl0'' : ¬ l = [] := fun h => hl0 (by rw [h]; rfl)
      rw [if_pos (.inr (.inl hl0))]
      clear ih
      refine f6 Tryz.func70 rfl rfl (Nat.le_of_ble_eq_true rfl) ?_
      repeat (first | refine d4 ?_ | refine b8 ?_ | refine b7 ?_ | refine b9 ?_ | refine f5 rfl ?_ | refine d8 rfl ?_ | ((first | refine c5 (fun K hK => ?_) | refine d5 f8 (fun K hK => ?_) | fail); simp -implicitDefEqProofs [n1, n2, h3, h4, hl0, hl0', hl0'']; first | refine hK _ ?_ | refine hK _ _ (by rfl) ?_ | fail) | fail)
      refine d7 (d6 ?_); simp -implicitDefEqProofs [g8, f9, g7] <;> try rfl
    obtain rfl : l = [] := List.eq_nil_of_length_eq_zero hl0
    by_cases hn0 : x.n < 0
    · rw [if_pos (.inr (.inr (.inl hn0)))]
      clear ih
      refine f6 Tryz.func70 rfl rfl (Nat.le_of_ble_eq_true rfl) ?_
      repeat (first | refine d4 ?_ | refine b8 ?_ | refine b7 ?_ | refine b9 ?_ | refine f5 rfl ?_ | refine d8 rfl ?_ | ((first | refine c5 (fun K hK => ?_) | refine d5 f8 (fun K hK => ?_) | fail); simp -implicitDefEqProofs [n1, n2, h3, h4, hn0]; first | refine hK _ ?_ | refine hK _ _ (by rfl) ?_ | fail) | fail)
      refine d7 (d6 ?_); simp -implicitDefEqProofs [g8, f9, g7] <;> try rfl
    by_cases hn1 : (ml.length : Int) ≤ x.n
    · rw [if_pos (.inr (.inr (.inr hn1)))]
      clear ih
      refine f6 Tryz.func70 rfl rfl (Nat.le_of_ble_eq_true rfl) ?_
      repeat (first | refine d4 ?_ | refine b8 ?_ | refine b7 ?_ | refine b9 ?_ | refine f5 rfl ?_ | refine d8 rfl ?_ | ((first | refine c5 (fun K hK => ?_) | refine d5 f8 (fun K hK => ?_) | fail); simp -implicitDefEqProofs [n1, n2, h3, h4, hn0, hn1]; first | refine hK _ ?_ | refine hK _ _ (by rfl) ?_ | fail) | fail)
      refine d7 (d6 ?_); simp -implicitDefEqProofs [g8, f9, g7] <;> try rfl
    rw [if_neg (fun h => h.elim (fun h => h h4) (fun h => h.elim (fun h => h rfl) (fun h => h.elim hn0 hn1)))]
    obtain ⟨j, hj⟩ : ∃ j : Nat, x.n = j := ⟨x.n.toNat, by omega⟩
    have hjl : j < ml.length := by omega
    have w0 : IntKind.i64.wrap (j : Nat) = (j : Nat) := k9 _ (by omega) (by omega)
    obtain ⟨⟨y, p⟩, hd⟩ : ∃ d, ml[j]? = some d := ⟨_, List.getElem?_eq_getElem hjl⟩
    have hd' := (List.getElem?_eq_some_iff.1 hd).2
    have hdm : ml.getD x.n.toNat z0T = .mk y p := by rw [hj]; simp [List.getD, hd]
    rw [hdm, Tr.kids]
    have hdS := hS _ (List.mem_of_getElem? hd)
    have hdz := Tr.size_at (x := mx) hd
    have hdi := b29 hm (List.mem_of_getElem? hd)
    have hplen := Tr.len_size (x := y) (l := p)
    have hsh := a1z (.mk y p) (by omega)
    have hn0' : ¬ ((j : Nat) : Int) < 0 := by omega
    have hn1' : ¬ (ml.length : Int) ≤ (j : Nat) := by omega
    rw [hj]
    clear hdm
    by_cases hin : (j : Int) ∈ ins
    · rw [if_pos hin]
      clear ih hsh
      refine f6 Tryz.func70 rfl rfl (Nat.le_of_ble_eq_true rfl) ?_
      repeat (first | refine d4 ?_ | refine b8 ?_ | refine b7 ?_ | refine b9 ?_ | refine f5 rfl ?_ | refine d8 rfl ?_ | ((first | refine c5 (fun K hK => ?_) | refine d5 f8 (fun K hK => ?_) | fail); simp -implicitDefEqProofs [n1, n2, h3, h4, hj, hn0', hn1', w0]; first | refine hK _ ?_ | refine hK _ _ (by rfl) ?_ | fail) | fail)
      refine l7 (ι := Nat) (fun k => s7 [(2, vIs ins), (8, vI (j : Nat)), (9, vI (k : Nat))] []) (fun k => k ≤ ins.length ∧ (j : Int) ∉ ins.take k) (fun k => ins.length - k) 0 ⟨Nat.zero_le _, by simp⟩ (f7 [] (by simp -implicitDefEqProofs) (by simp -implicitDefEqProofs) (by decide) rfl (by simp)) (fun Z hI k hk => ?_)
      obtain ⟨hk, hz⟩ := hk
      by_cases hkl : k < ins.length; rotate_left
      · have : k = ins.length := by omega
        subst this
        rw [List.take_length] at hz
        exact absurd hin hz
      obtain ⟨z, ha⟩ : ∃ a, ins[k]? = some a := ⟨_, List.getElem?_eq_getElem hkl⟩
      have ha' := (List.getElem?_eq_some_iff.1 ha).2
      have w2 : IntKind.i64.wrap ((k : Nat) + 1 : Int) = (k : Nat) + 1 := k9 _ (by omega) (by omega)
      by_cases hp : z = (j : Int)
      · repeat (first | refine d4 ?_ | refine b8 ?_ | refine b7 ?_ | refine b9 ?_ | refine f5 rfl ?_ | refine d8 rfl ?_ | ((first | refine c5 (fun K hK => ?_) | refine d5 f8 (fun K hK => ?_) | fail); simp -implicitDefEqProofs [hkl, ha, ha', hp]; first | refine hK _ ?_ | refine hK _ _ (by rfl) ?_ | fail) | fail)
        refine d7 (d6 ?_); simp -implicitDefEqProofs [g8, f9, g7] <;> try rfl
      · repeat (first | refine d4 ?_ | refine b8 ?_ | refine b7 ?_ | refine b9 ?_ | refine f5 rfl ?_ | refine d8 rfl ?_ | ((first | refine c5 (fun K hK => ?_) | refine d5 f8 (fun K hK => ?_) | fail); simp -implicitDefEqProofs [hkl, ha, ha', hp, w2]; first | refine hK _ ?_ | refine hK _ _ (by rfl) ?_ | fail) | fail)
        refine ⟨k + 1, ⟨by omega, by rw [List.take_add_one, ha]; simp [hz]; exact fun h => hp h.symm⟩, (by dsimp only; omega), ?_⟩
        rw [hI]; exact f7 [] (by simp -implicitDefEqProofs) (by simp -implicitDefEqProofs) (by decide) rfl (by simp)
    rw [if_neg hin]
    obtain ⟨hio2, hil2⟩ := hio.add (z := (j : Int)) (by omega) (by omega) hin
    have hil3 : (ins ++ [(j : Int)]).length = ins.length + 1 := by simp
    have hrow : ∀ (k : Nat) a, p[k]? = some a → o9 a = true → ∃ ax qx ql, a = .mk ax [.mk qx ql] ∧ Row Tryz.prog 70 [vT (.mk mx ml), vT (.mk qx ql), vIs (ins ++ [(j : Int)])] [] (vI (wth ml f (.mk qx ql) (ins ++ [(j : Int)]))) [] := fun k a ha hp => by
      obtain ⟨ax, al⟩ := a
      have hp1 : al.length = 1 := by unfold o9 at hp; rw [Bool.and_eq_true] at hp; exact of_decide_eq_true hp.2
      obtain ⟨⟨qx, ql⟩, rfl⟩ : ∃ q, al = [q] := List.length_eq_one_iff.1 hp1
      have s1 := Tr.size_at (x := y) ha
      have s2 := Tr.size_at (x := ax) (l := [.mk qx ql]) (i := 0) rfl
      refine ⟨ax, qx, ql, rfl, ih _ _ (b29 (b29 hdi (List.mem_of_getElem? ha)) (by simp)) (by omega) hio2 ?_⟩
      rw [hil3]
      exact b7k hf hil2 (by omega) (by omega)
    clear ih
    obtain ⟨W, hW⟩ : ∃ W : VT → Int, W = fun q => wth ml f (q.kids.getD 0 z0T) (ins ++ [(j : Int)]) := ⟨_, rfl⟩
    have hWq : ∀ ax qx ql, wth ml f (.mk qx ql) (ins ++ [(j : Int)]) = W (.mk ax [.mk qx ql]) := fun ax qx ql => by rw [hW]; rfl
    have hwb : ∀ q, 0 ≤ W q ∧ W q ≤ 64 := fun q => by rw [hW]; exact b35 ml f _ _
    rw [← hW]
    have hrow : ∀ (k : Nat) a, p[k]? = some a → o9 a = true → ∃ ax qx ql, a = .mk ax [.mk qx ql] ∧ Row Tryz.prog 70 [vT (.mk mx ml), vT (.mk qx ql), vIs (ins ++ [(j : Int)])] [] (vI (W a)) [] := fun k a ha hp => by
      obtain ⟨ax, qx, ql, rfl, h⟩ := hrow k a ha hp
      rw [hWq ax] at h
      exact ⟨ax, qx, ql, rfl, h⟩
    clear hW hWq
    refine f6 Tryz.func70 rfl rfl (Nat.le_of_ble_eq_true rfl) ?_
    repeat (first | refine d4 ?_ | refine b8 ?_ | refine b7 ?_ | refine b9 ?_ | refine f5 rfl ?_ | refine d8 rfl ?_ | ((first | refine c5 (fun K hK => ?_) | refine d5 f8 (fun K hK => ?_) | fail); simp -implicitDefEqProofs [n1, n2, h3, h4, hj, hn0', hn1', w0]; first | refine hK _ ?_ | refine hK _ _ (by rfl) ?_ | fail) | fail)
    refine l7 (ι := Nat) (fun k => s7 [(2, vIs ins), (3, .v (.c (.ptr 0 0))), (8, vI (j : Nat)), (9, vI (k : Nat))] [some (.box (ta (.mk mx ml)))]) (fun k => k ≤ ins.length) (fun k => ins.length - k) 0 (Nat.zero_le _) (f7 [0] (by simp -implicitDefEqProofs) (by simp -implicitDefEqProofs) (by decide) rfl (by simp)) (fun Z hI k hk => ?_)
    by_cases hkl : k < ins.length
    · obtain ⟨z, ha⟩ : ∃ a, ins[k]? = some a := ⟨_, List.getElem?_eq_getElem hkl⟩
      have ha' := (List.getElem?_eq_some_iff.1 ha).2
      have w2 : IntKind.i64.wrap ((k : Nat) + 1 : Int) = (k : Nat) + 1 := k9 _ (by omega) (by omega)
      have hp : ¬ z = (j : Int) := fun e => hin (e ▸ List.mem_of_getElem? ha)
      repeat (first | refine d4 ?_ | refine b8 ?_ | refine b7 ?_ | refine b9 ?_ | refine f5 rfl ?_ | refine d8 rfl ?_ | ((first | refine c5 (fun K hK => ?_) | refine d5 f8 (fun K hK => ?_) | fail); simp -implicitDefEqProofs [hkl, ha, ha', hp, w2]; first | refine hK _ ?_ | refine hK _ _ (by rfl) ?_ | fail) | fail)
      refine ⟨k + 1, by omega, (by dsimp only; omega), ?_⟩
      rw [hI]; exact f7 [0] (by simp -implicitDefEqProofs) (by simp -implicitDefEqProofs) (by decide) rfl (by simp)
    have : k = ins.length := by omega
    subst this
    clear hI
    cases hsb : b3t (.mk y p) with
    | false =>
      rw [if_neg (by simp)]
      rw [hsb] at hsh
      repeat' (first | refine d4 ?_ | refine b8 ?_ | refine b7 ?_ | refine b9 ?_ | refine f5 rfl ?_ | refine d8 rfl ?_ | ((first | refine c5 (fun K hK => ?_) | refine d5 f8 (fun K hK => ?_) | refine a9 (cp hsh ?_) | refine a8 (dp hsh ?_) | fail); simp -implicitDefEqProofs [hjl, hd, hd', hkl, w0]) | refine hK _ ?_ | refine hK _ _ (by rfl) ?_ | fail)
      refine d7 (d6 ?_); simp -implicitDefEqProofs [g8, f9, g7] <;> try rfl
    | true =>
      rw [if_pos rfl]
      rw [hsb] at hsh
      have hall : ∀ k a, p[k]? = some a → o9 a = true := fun k a ha => by
        unfold b3t at hsb
        rw [Bool.and_eq_true] at hsb
        exact List.all_eq_true.1 hsb.2 a (List.mem_of_getElem? ha)
      obtain ⟨R, hR⟩ : ∃ R, c4k (p.map W) 0 = R := ⟨_, rfl⟩
      rw [hR]
      repeat' (first | refine d4 ?_ | refine b8 ?_ | refine b7 ?_ | refine b9 ?_ | refine f5 rfl ?_ | refine d8 rfl ?_ | ((first | refine c5 (fun K hK => ?_) | refine d5 f8 (fun K hK => ?_) | refine a9 (cp hsh ?_) | refine a8 (dp hsh ?_) | fail); simp -implicitDefEqProofs [hjl, hd, hd', hkl, w0]) | refine hK _ ?_ | refine hK _ _ (by rfl) ?_ | fail)
      refine l7 (ι := Nat × Int) (fun q => s7 [(2, vIs ins), (3, .v (.c (.ptr 0 0))), (8, vI (j : Nat)), (10, .v (.c (.ptr 1 0))), (11, vI q.2), (12, vI (q.1 : Nat))] [some (.box (ta (.mk mx ml))), some (.box (ta (.mk y p)))]) (fun q => q.1 ≤ p.length ∧ (0 ≤ q.2 ∧ q.2 ≤ 64) ∧ c4k ((p.map W).drop q.1) q.2 = R) (fun q => p.length - q.1) (0, 0) ⟨Nat.zero_le _, ⟨by omega, by omega⟩, hR⟩ (f7 [0, 10] (by simp -implicitDefEqProofs) (by simp -implicitDefEqProofs) (by decide) rfl (by simp)) (fun Z hI q hq => ?_)
      obtain ⟨k, s⟩ := q
      obtain ⟨hk, ⟨s0, s1⟩, hz⟩ := hq
      dsimp only at hk s0 s1 hz ⊢
      by_cases hkp : k < p.length; rotate_left
      · have : k = p.length := by omega
        subst this
        rw [List.drop_of_length_le (by rw [List.length_map]; exact Nat.le_refl _)] at hz
        have hz : s = R := hz
        subst hz
        repeat (first | refine d4 ?_ | refine b8 ?_ | refine b7 ?_ | refine b9 ?_ | refine f5 rfl ?_ | refine d8 rfl ?_ | ((first | refine c5 (fun K hK => ?_) | refine d5 f8 (fun K hK => ?_) | fail); simp -implicitDefEqProofs; first | refine hK _ ?_ | refine hK _ _ (by rfl) ?_ | fail) | fail)
        refine d7 (d6 ?_); simp -implicitDefEqProofs [g8, f9, g7] <;> try rfl
      obtain ⟨a, ha⟩ : ∃ a, p[k]? = some a := ⟨_, List.getElem?_eq_getElem hkp⟩
      have ha' := (List.getElem?_eq_some_iff.1 ha).2
      obtain ⟨ax, qx, ql, rfl, hr⟩ := hrow k a ha (hall k a ha)
      have hv := hwb (.mk ax [.mk qx ql])
      have hdrop : (p.map W).drop k = W (.mk ax [.mk qx ql]) :: (p.map W).drop (k + 1) := by
        rw [List.drop_eq_getElem_cons (by rw [List.length_map]; exact hkp), List.getElem_map, ha']
      rw [hdrop] at hz
      unfold c4k at hz
      obtain ⟨v, hv1⟩ : ∃ v, W (.mk ax [.mk qx ql]) = v := ⟨_, rfl⟩
      rw [hv1] at hr hv hz
      have w2 : IntKind.i64.wrap ((k : Nat) + 1 : Int) = (k : Nat) + 1 := k9 _ (by omega) (by omega)
      have w3 : IntKind.i64.wrap (s + v) = s + v := k9 _ (by omega) (by omega)
      have b1 : (ins.length + 1) * 8 ≤ 140737488355328 := by omega
      have b2 : ins.length + 1 ≤ 140737488355328 := by omega
      have b3 : ins.length * 8 ≤ 140737488355328 := by omega
      have b4 : ins.length ≤ 140737488355328 := by omega
      clear hdrop hv1 hrow hall
      by_cases hv0 : v = 0
      · rw [if_pos (.inl hv0)] at hz
        subst hz
        subst hv0
        repeat' (first | refine d4 ?_ | refine b8 ?_ | refine b7 ?_ | refine b9 ?_ | refine f5 rfl ?_ | refine d8 rfl ?_ | ((first | refine c5 (fun K hK => ?_) | refine d5 f8 (fun K hK => ?_) | refine a9 (cp hr ?_) | refine a8 (dp hr ?_) | fail); simp -implicitDefEqProofs [hkp, ha, ha', w2, w3, b1, b2, b3, b4]) | refine hK _ ?_ | refine hK _ _ (by rfl) ?_ | fail)
        refine d7 (d6 ?_); simp -implicitDefEqProofs [g8, f9, g7] <;> try rfl
      by_cases hv6 : 64 < s + v
      · rw [if_pos (.inr hv6)] at hz
        subst hz
        repeat' (first | refine d4 ?_ | refine b8 ?_ | refine b7 ?_ | refine b9 ?_ | refine f5 rfl ?_ | refine d8 rfl ?_ | ((first | refine c5 (fun K hK => ?_) | refine d5 f8 (fun K hK => ?_) | refine a9 (cp hr ?_) | refine a8 (dp hr ?_) | fail); simp -implicitDefEqProofs [hkp, ha, ha', w2, w3, b1, b2, b3, b4, hv0, hv6]) | refine hK _ ?_ | refine hK _ _ (by rfl) ?_ | fail)
        refine d7 (d6 ?_); simp -implicitDefEqProofs [g8, f9, g7] <;> try rfl
      rw [if_neg (fun h => h.elim hv0 hv6)] at hz
      repeat' (first | refine d4 ?_ | refine b8 ?_ | refine b7 ?_ | refine b9 ?_ | refine f5 rfl ?_ | refine d8 rfl ?_ | ((first | refine c5 (fun K hK => ?_) | refine d5 f8 (fun K hK => ?_) | refine a9 (cp hr ?_) | refine a8 (dp hr ?_) | fail); simp -implicitDefEqProofs [hkp, ha, ha', w2, w3, b1, b2, b3, b4, hv0, hv6]) | refine hK _ ?_ | refine hK _ _ (by rfl) ?_ | fail)
      refine ⟨(k + 1, s + v), ⟨by dsimp only; omega, ⟨by dsimp only; omega, by dsimp only; omega⟩, hz⟩, (by dsimp only; omega), ?_⟩
      rw [hI]; exact f7 [0, 1] (by simp -implicitDefEqProofs) (by simp -implicitDefEqProofs) (by decide) rfl (by simp)
theorem p7 {m d : VT} (h : d ∈ m.kids) : d.size ≤ m.size := by
  obtain ⟨x, l⟩ := m
  obtain ⟨i, hi⟩ := List.mem_iff_getElem?.1 h
  have := Tr.size_at (x := x) (l := l) hi
  omega
theorem z9 (m t : VT) (hm : t7 m) (hsz : m.size ≤ 1000000) (ht : t7 t) (hts : t.size ≤ 1000000) : Row Tryz.prog 47 [vT m, vT t] [] (vI (a0p m t)) [] := by
  have h := a44 m hm hsz m.size (fun d hd => p7 hd) (m.kids.length * m.size + t.size) t [] ht hts (InsOk.nil _) (by simp)
  have e : wth m.kids (m.kids.length * m.size + t.size) t [] = a0p m t := rfl
  rw [e] at h
  clear e
  obtain ⟨c, hc⟩ : ∃ c, a0p m t = c := ⟨_, rfl⟩
  rw [hc] at h ⊢
  clear hc
  obtain ⟨mx, ml⟩ := m
  obtain ⟨x, l⟩ := t
  refine f6 Tryz.func47 rfl rfl (Nat.le_of_ble_eq_true rfl) ?_
  repeat' (first | refine d4 ?_ | refine b8 ?_ | refine b7 ?_ | refine b9 ?_ | refine f5 rfl ?_ | refine d8 rfl ?_ | ((first | refine c5 (fun K hK => ?_) | refine d5 f8 (fun K hK => ?_) | refine a9 (cp h ?_) | refine a8 (dp h ?_) | fail); simp -implicitDefEqProofs) | refine hK _ ?_ | refine hK _ _ (by rfl) ?_ | fail)
  refine d7 (d6 ?_); simp -implicitDefEqProofs [g8, f9, g7] <;> try rfl
theorem b8u (t : VT) : t.size ≤ 1000000 → Row Tryz.prog 77 [vT t] [] (vB (a4k t)) [] := by
  induction t using Tr.ind with
  | h x l ih =>
  intro hsz
  have hlen := Tr.len_size (x := x) (l := l)
  rw [c52]
  by_cases h4 : x.k = 4
  · rw [show (!decide (x.k = 4) && l.all a4k) = false by simp [h4]]
    clear ih
    refine f6 Tryz.func77 rfl rfl (Nat.le_of_ble_eq_true rfl) ?_
    repeat (first | refine d4 ?_ | refine b8 ?_ | refine b7 ?_ | refine b9 ?_ | refine f5 rfl ?_ | refine d8 rfl ?_ | ((first | refine c5 (fun K hK => ?_) | refine d5 f8 (fun K hK => ?_) | fail); simp -implicitDefEqProofs [h4]; first | refine hK _ ?_ | refine hK _ _ (by rfl) ?_ | fail) | fail)
    refine d7 (d6 ?_); simp -implicitDefEqProofs [g8, f9, g7] <;> try rfl
  rw [show (!decide (x.k = 4) && l.all a4k) = l.all a4k by simp [h4]]
  refine f6 Tryz.func77 rfl rfl (Nat.le_of_ble_eq_true rfl) ?_
  repeat (first | refine d4 ?_ | refine b8 ?_ | refine b7 ?_ | refine b9 ?_ | refine f5 rfl ?_ | refine d8 rfl ?_ | ((first | refine c5 (fun K hK => ?_) | refine d5 f8 (fun K hK => ?_) | fail); simp -implicitDefEqProofs [h4]; first | refine hK _ ?_ | refine hK _ _ (by rfl) ?_ | fail) | fail)
  refine l7 (ι := Nat) (fun k => s7 [(1, .v (.c (.ptr 0 0))), (3, vI (k : Nat))] [some (.box (ta (.mk x l)))]) (fun k => k ≤ l.length ∧ (l.take k).all a4k = true) (fun k => l.length - k) 0 ⟨Nat.zero_le _, by simp⟩ (f7 [0] (by simp -implicitDefEqProofs) (by simp -implicitDefEqProofs) (by decide) rfl (by simp)) (fun Z hI k hk => ?_)
  obtain ⟨hk, hz⟩ := hk
  by_cases hkl : k < l.length; rotate_left
  · have : k = l.length := by omega
    subst this
    rw [List.take_length] at hz
    repeat (first | refine d4 ?_ | refine b8 ?_ | refine b7 ?_ | refine b9 ?_ | refine f5 rfl ?_ | refine d8 rfl ?_ | ((first | refine c5 (fun K hK => ?_) | refine d5 f8 (fun K hK => ?_) | fail); simp -implicitDefEqProofs; first | refine hK _ ?_ | refine hK _ _ (by rfl) ?_ | fail) | fail)
    refine d7 (d6 ?_); simp -implicitDefEqProofs [g8, f9, g7, hz] <;> try rfl
  obtain ⟨⟨ax, al⟩, ha⟩ : ∃ a, l[k]? = some a := ⟨_, List.getElem?_eq_getElem hkl⟩
  have ha' := (List.getElem?_eq_some_iff.1 ha).2
  have hsz1 := Tr.size_at (x := x) ha
  have hc := ih _ (List.mem_of_getElem? ha) (by omega)
  have w2 : IntKind.i64.wrap ((k : Nat) + 1 : Int) = (k : Nat) + 1 := k9 _ (by omega) (by omega)
  by_cases hp : a4k (.mk ax al) = true
  · rw [hp] at hc
    repeat' (first | refine d4 ?_ | refine b8 ?_ | refine b7 ?_ | refine b9 ?_ | refine f5 rfl ?_ | refine d8 rfl ?_ | ((first | refine c5 (fun K hK => ?_) | refine d5 f8 (fun K hK => ?_) | refine a9 (cp hc ?_) | refine a8 (dp hc ?_) | fail); simp -implicitDefEqProofs [hkl, ha, ha', w2]) | refine hK _ ?_ | refine hK _ _ (by rfl) ?_ | fail)
    refine ⟨k + 1, ⟨by omega, by rw [List.take_add_one, ha, Option.toList_some, List.all_append, hz]; simp [hp]⟩, (by dsimp only; omega), ?_⟩
    rw [hI]; exact f7 [0] (by simp -implicitDefEqProofs) (by simp -implicitDefEqProofs) (by decide) rfl (by simp)
  · have hp : a4k (.mk ax al) = false := by simpa using hp
    rw [hp] at hc
    have e : l.all a4k = false := by
      rw [List.all_eq_false]; exact ⟨_, List.mem_of_getElem? ha, by rw [hp]; simp⟩
    repeat' (first | refine d4 ?_ | refine b8 ?_ | refine b7 ?_ | refine b9 ?_ | refine f5 rfl ?_ | refine d8 rfl ?_ | ((first | refine c5 (fun K hK => ?_) | refine d5 f8 (fun K hK => ?_) | refine a9 (cp hc ?_) | refine a8 (dp hc ?_) | fail); simp -implicitDefEqProofs [hkl, ha, ha', w2]) | refine hK _ ?_ | refine hK _ _ (by rfl) ?_ | fail)
    refine d7 (d6 ?_); simp -implicitDefEqProofs [g8, f9, g7, e] <;> try rfl
theorem b45 (m t : VT) (hm : t7 m) (hsz : m.size ≤ 1000000) (ht : t7 t) (hts : t.size ≤ 1000000) : Row Tryz.prog 68 [vT m, vT t] [] (vB (decide (0 < a0p m t) && a4k t)) [] := by
  have h1 := z9 m t hm hsz ht hts
  have h2 := b8u t hts
  obtain ⟨c, hc⟩ : ∃ c, a0p m t = c := ⟨_, rfl⟩
  obtain ⟨b, hb⟩ : ∃ b, a4k t = b := ⟨_, rfl⟩
  rw [hc] at h1 ⊢
  rw [hb] at h2 ⊢
  clear hc hb
  obtain ⟨mx, ml⟩ := m
  obtain ⟨x, l⟩ := t
  by_cases h0 : 0 < c
  · refine f6 Tryz.func68 rfl rfl (Nat.le_of_ble_eq_true rfl) ?_
    repeat' (first | refine d4 ?_ | refine b8 ?_ | refine b7 ?_ | refine b9 ?_ | refine f5 rfl ?_ | refine d8 rfl ?_ | ((first | refine c5 (fun K hK => ?_) | refine d5 f8 (fun K hK => ?_) | refine a9 (cp h1 ?_) | refine a8 (dp h1 ?_) | refine a9 (cp h2 ?_) | refine a8 (dp h2 ?_) | fail); simp -implicitDefEqProofs [h0]) | refine hK _ ?_ | refine hK _ _ (by rfl) ?_ | fail)
    refine d7 (d6 ?_); simp -implicitDefEqProofs [g8, f9, g7, h0] <;> try rfl
  · refine f6 Tryz.func68 rfl rfl (Nat.le_of_ble_eq_true rfl) ?_
    repeat' (first | refine d4 ?_ | refine b8 ?_ | refine b7 ?_ | refine b9 ?_ | refine f5 rfl ?_ | refine d8 rfl ?_ | ((first | refine c5 (fun K hK => ?_) | refine d5 f8 (fun K hK => ?_) | refine a9 (cp h1 ?_) | refine a8 (dp h1 ?_) | refine a9 (cp h2 ?_) | refine a8 (dp h2 ?_) | fail); simp -implicitDefEqProofs [h0]) | refine hK _ ?_ | refine hK _ _ (by rfl) ?_ | fail)
    refine d7 (d6 ?_); simp -implicitDefEqProofs [g8, f9, g7, h0] <;> try rfl
theorem b80 (t : VT) : t.size ≤ 1000000 → Row Tryz.prog 86 [vT t] [] (vT (a5j t)) [] := by
  induction t using Tr.ind with
  | h x l ih =>
  intro hsz
  have hlen := Tr.len_size (x := x) (l := l)
  rw [c2e]
  by_cases h1 : (x.k = 12 ∨ x.k = 13) ∧ 0 < l.length
  · rw [if_pos h1]
    obtain ⟨hk, h0⟩ := h1
    cases l with
    | nil => simp at h0
    | cons a r =>
      have hsz1 := Tr.size_at (x := x) (l := a :: r) (i := 0) rfl
      have hc := ih a (by simp) (by omega)
      simp only [List.map_cons, List.getD_cons_zero]
      obtain ⟨⟨bx, bl⟩, hb⟩ : ∃ b, a5j a = b := ⟨_, rfl⟩
      rw [hb] at hc ⊢
      obtain ⟨ax, al⟩ := a
      have hp : (0 : Int) < (r.length : Int) + 1 := by omega
      clear ih hb
      rcases hk with h | h
      · refine f6 Tryz.func86 rfl rfl (Nat.le_of_ble_eq_true rfl) ?_
        repeat' (first | refine d4 ?_ | refine b8 ?_ | refine b7 ?_ | refine b9 ?_ | refine f5 rfl ?_ | refine d8 rfl ?_ | ((first | refine c5 (fun K hK => ?_) | refine d5 f8 (fun K hK => ?_) | refine a9 (cp hc ?_) | refine a8 (dp hc ?_) | fail); simp -implicitDefEqProofs [h, hp]) | refine hK _ ?_ | refine hK _ _ (by rfl) ?_ | fail)
        refine d7 (d6 ?_); simp -implicitDefEqProofs [g8, f9, g7] <;> try rfl
      · refine f6 Tryz.func86 rfl rfl (Nat.le_of_ble_eq_true rfl) ?_
        repeat' (first | refine d4 ?_ | refine b8 ?_ | refine b7 ?_ | refine b9 ?_ | refine f5 rfl ?_ | refine d8 rfl ?_ | ((first | refine c5 (fun K hK => ?_) | refine d5 f8 (fun K hK => ?_) | refine a9 (cp hc ?_) | refine a8 (dp hc ?_) | fail); simp -implicitDefEqProofs [h, hp]) | refine hK _ ?_ | refine hK _ _ (by rfl) ?_ | fail)
        refine d7 (d6 ?_); simp -implicitDefEqProofs [g8, f9, g7] <;> try rfl
  · rw [if_neg h1]
    clear ih
    by_cases hk : x.k = 12 ∨ x.k = 13
    · have h0 : l = [] := by cases l with
        | nil => rfl
        | cons a r => exact absurd ⟨hk, by simp⟩ h1
      subst h0
      rcases hk with h | h
      · refine f6 Tryz.func86 rfl rfl (Nat.le_of_ble_eq_true rfl) ?_
        repeat (first | refine d4 ?_ | refine b8 ?_ | refine b7 ?_ | refine b9 ?_ | refine f5 rfl ?_ | refine d8 rfl ?_ | ((first | refine c5 (fun K hK => ?_) | refine d5 f8 (fun K hK => ?_) | fail); simp -implicitDefEqProofs [h]; first | refine hK _ ?_ | refine hK _ _ (by rfl) ?_ | fail) | fail)
        refine d7 (d6 ?_); simp -implicitDefEqProofs [g8, f9, g7, h] <;> try rfl
      · refine f6 Tryz.func86 rfl rfl (Nat.le_of_ble_eq_true rfl) ?_
        repeat (first | refine d4 ?_ | refine b8 ?_ | refine b7 ?_ | refine b9 ?_ | refine f5 rfl ?_ | refine d8 rfl ?_ | ((first | refine c5 (fun K hK => ?_) | refine d5 f8 (fun K hK => ?_) | fail); simp -implicitDefEqProofs [h]; first | refine hK _ ?_ | refine hK _ _ (by rfl) ?_ | fail) | fail)
        refine d7 (d6 ?_); simp -implicitDefEqProofs [g8, f9, g7, h] <;> try rfl
    · have n1 : ¬ x.k = 12 := fun h => hk (.inl h)
      have n2 : ¬ x.k = 13 := fun h => hk (.inr h)
      refine f6 Tryz.func86 rfl rfl (Nat.le_of_ble_eq_true rfl) ?_
      repeat (first | refine d4 ?_ | refine b8 ?_ | refine b7 ?_ | refine b9 ?_ | refine f5 rfl ?_ | refine d8 rfl ?_ | ((first | refine c5 (fun K hK => ?_) | refine d5 f8 (fun K hK => ?_) | fail); simp -implicitDefEqProofs [n1, n2]; first | refine hK _ ?_ | refine hK _ _ (by rfl) ?_ | fail) | fail)
      refine d7 (d6 ?_); simp -implicitDefEqProofs [g8, f9, g7] <;> try rfl
theorem a2j (t : VT) : t.size ≤ 1000000 → Row Tryz.prog 13 [vT t] [] (vT (y6 t)) [] := by
  induction t using Tr.ind with
  | h x l ih =>
  intro hsz
  have hlen := Tr.len_size (x := x) (l := l)
  rw [a1x]
  refine f6 Tryz.func13 rfl rfl (Nat.le_of_ble_eq_true rfl) ?_
  repeat (first | refine d4 ?_ | refine b8 ?_ | refine b7 ?_ | refine b9 ?_ | refine f5 rfl ?_ | refine d8 rfl ?_ | ((first | refine c5 (fun K hK => ?_) | refine d5 f8 (fun K hK => ?_) | fail); simp -implicitDefEqProofs; first | refine hK _ ?_ | refine hK _ _ (by rfl) ?_ | fail) | fail)
  refine b6s 7 3 [.pv (I x.k), .pv (I x.n), .pv (Sx ⟨#[]⟩), .pv .nilS, .pv (I 0), .pv (I 0)] 25 6 (by simp) (by simp) (by simp) ?_
  refine l7 (ι := Nat) (fun k => s7 [(1, .v (.c (.ptr 0 0))), (2, .v (.c (.ptr 1 0))), (3, .v (.c (.ptr 2 0))), (4, vI (k : Nat))] [some (.box (ta (.mk x l))), some (.box (ta (.mk ⟨0, 0, ⟨#[]⟩, 0, 0⟩ []))), some (.box [.pv (I x.k), .pv (I x.n), .pv (Sx ⟨#[]⟩), .row 3 6 (((l.take k).map y6).map tc), .pv (I 0), .pv (I 0)]), some (.row 25 6)]) (fun k => k ≤ l.length) (fun k => l.length - k) 0 (Nat.zero_le _) (by unfold St.nilc; exact f7 [0, 1, 7, 10] (by simp -implicitDefEqProofs) (by simp -implicitDefEqProofs) (by decide) rfl (by simp)) (fun Z hI k hk => ?_)
  by_cases hkl : k < l.length; rotate_left
  · have : k = l.length := by omega
    subst this
    rw [List.take_length]
    repeat (first | refine d4 ?_ | refine b8 ?_ | refine b7 ?_ | refine b9 ?_ | refine f5 rfl ?_ | refine d8 rfl ?_ | ((first | refine c5 (fun K hK => ?_) | refine d5 f8 (fun K hK => ?_) | fail); simp -implicitDefEqProofs; first | refine hK _ ?_ | refine hK _ _ (by rfl) ?_ | fail) | fail)
    refine d7 (d6 ?_); simp -implicitDefEqProofs [g8, f9, g7] <;> try rfl
  obtain ⟨⟨ax, al⟩, ha⟩ : ∃ a, l[k]? = some a := ⟨_, List.getElem?_eq_getElem hkl⟩
  have ha' := (List.getElem?_eq_some_iff.1 ha).2
  have hsz1 := Tr.size_at (x := x) ha
  have hc := ih _ (List.mem_of_getElem? ha) (by omega)
  have w2 : IntKind.i64.wrap ((k : Nat) + 1 : Int) = (k : Nat) + 1 := k9 _ (by omega) (by omega)
  have hs : (l.take (k + 1)).map y6 = (l.take k).map y6 ++ [y6 (.mk ax al)] := by rw [List.take_add_one, ha]; simp
  obtain ⟨L, hL⟩ : ∃ L, (l.take k).map y6 = L := ⟨_, rfl⟩
  have hLl : L.length = k := by rw [← hL, List.length_map, List.length_take]; omega
  rw [hL] at hs ⊢
  obtain ⟨⟨bx, bl⟩, hb⟩ : ∃ b, y6 (.mk ax al) = b := ⟨_, rfl⟩
  rw [hb] at hc hs
  have b1 : (k + 1) * 72 ≤ 140737488355328 := by omega
  have b2 : k + 1 ≤ 140737488355328 := by omega
  repeat' (first | refine d4 ?_ | refine b8 ?_ | refine b7 ?_ | refine b9 ?_ | refine f5 rfl ?_ | refine d8 rfl ?_ | ((first | refine c5 (fun K hK => ?_) | refine d5 f8 (fun K hK => ?_) | refine a9 (cp hc ?_) | refine a8 (dp hc ?_) | fail); simp -implicitDefEqProofs [hkl, ha, ha', hLl, b1, b2, w2]) | refine hK _ ?_ | refine hK _ _ (by rfl) ?_ | fail)
  refine ⟨k + 1, by omega, (by dsimp only; omega), ?_⟩
  rw [hI, hs]; exact f7 [0, 1, 2, 81] (by simp -implicitDefEqProofs) (by simp -implicitDefEqProofs) (by decide) rfl (by simp)
theorem c2a (x y : Lab) (ml sl : List VT) (hl : ml.length = sl.length) (hm : ml.length ≤ 100000) (hok : ∀ (i : Nat) a d, ml[i]? = some a → sl[i]? = some d → FacOk a d) (hsz : ∀ d ∈ sl, d.size ≤ 100000) : Row Tryz.prog 7 [vT (.mk x ml), vT (.mk y sl)] [] (vFs (a3k 0 ml sl)) [] := by
  refine f6 Tryz.func7 rfl rfl (Nat.le_of_ble_eq_true rfl) ?_
  repeat (first | refine d4 ?_ | refine b8 ?_ | refine b7 ?_ | refine b9 ?_ | refine f5 rfl ?_ | refine d8 rfl ?_ | ((first | refine c5 (fun K hK => ?_) | refine d5 f8 (fun K hK => ?_) | fail); simp -implicitDefEqProofs; first | refine hK _ ?_ | refine hK _ _ (by rfl) ?_ | fail) | fail)
  refine l7 (ι := Nat) (fun k => s7 [(2, .v (.c (.ptr 0 0))), (3, .v (.c (.ptr 1 0))), (5, .v (.c (.row 2 9 ((a3k 0 (ml.take k) (sl.take k)).map fcc)))), (6, vI (k : Nat))] [some (.box (ta (.mk x ml))), some (.box (ta (.mk y sl))), some (.row 33 9)]) (fun k => k ≤ sl.length) (fun k => sl.length - k) 0 (Nat.zero_le _) (f7 [0, 1, 3] (by simp -implicitDefEqProofs [a3k]) (by simp -implicitDefEqProofs [a3k]) (by decide) rfl (by simp)) (fun Z hI k hk => ?_)
  by_cases hkl : k < sl.length; rotate_left
  · have : k = sl.length := by omega
    subst this
    have hm2 : ml.take sl.length = ml := by rw [← hl, List.take_length]
    rw [hm2, List.take_length]
    repeat (first | refine d4 ?_ | refine b8 ?_ | refine b7 ?_ | refine b9 ?_ | refine f5 rfl ?_ | refine d8 rfl ?_ | ((first | refine c5 (fun K hK => ?_) | refine d5 f8 (fun K hK => ?_) | fail); simp -implicitDefEqProofs; first | refine hK _ ?_ | refine hK _ _ (by rfl) ?_ | fail) | fail)
    refine d7 (d6 ?_); simp -implicitDefEqProofs [g8, f9, g7] <;> try rfl
  have hks : k < ml.length := by omega
  obtain ⟨⟨ax, al⟩, ha⟩ : ∃ a, ml[k]? = some a := ⟨_, List.getElem?_eq_getElem hks⟩
  obtain ⟨⟨dx, dl⟩, hd⟩ : ∃ a, sl[k]? = some a := ⟨_, List.getElem?_eq_getElem hkl⟩
  have ha' := (List.getElem?_eq_some_iff.1 ha).2
  have hd' := (List.getElem?_eq_some_iff.1 hd).2
  obtain ⟨e1, e2, e3⟩ := hok k _ _ ha hd
  have w2 : IntKind.i64.wrap ((k : Nat) + 1 : Int) = (k : Nat) + 1 := k9 _ (by omega) (by omega)
  have hs := a4e ml sl 0 k _ _ ha hd
  rw [Tr.lab, Tr.lab] at e1 e2
  rw [Tr.lab] at e3
  obtain ⟨F, hF⟩ : ∃ F, a3k 0 (ml.take k) (sl.take k) = F := ⟨_, rfl⟩
  have hFl : F.length ≤ k := by rw [← hF]; have := a69 (ml.take k) (sl.take k) 0; rw [List.length_take] at this; omega
  rw [hF] at hs ⊢
  by_cases c33 : dx.k = 33; rotate_left
  · have hn : b0n (0 + k) (.mk ax al) (.mk dx dl) = [] := by simp [b0n, a9g, Tr.lab, c33]
    rw [hn, List.append_nil] at hs
    repeat (first | refine d4 ?_ | refine b8 ?_ | refine b7 ?_ | refine b9 ?_ | refine f5 rfl ?_ | refine d8 rfl ?_ | ((first | refine c5 (fun K hK => ?_) | refine d5 f8 (fun K hK => ?_) | fail); simp -implicitDefEqProofs [hkl, hd, hd', c33, w2]; first | refine hK _ ?_ | refine hK _ _ (by rfl) ?_ | fail) | fail)
    refine ⟨k + 1, by omega, (by dsimp only; omega), ?_⟩
    rw [hI]; exact f7 [0, 1, 2] (by simp -implicitDefEqProofs [hs]) (by simp -implicitDefEqProofs [hs]) (by decide) rfl (by simp)
  by_cases c1 : dx.n = 1; rotate_left
  · have hn : b0n (0 + k) (.mk ax al) (.mk dx dl) = [] := by simp [b0n, a9g, Tr.lab, c1]
    rw [hn, List.append_nil] at hs
    repeat (first | refine d4 ?_ | refine b8 ?_ | refine b7 ?_ | refine b9 ?_ | refine f5 rfl ?_ | refine d8 rfl ?_ | ((first | refine c5 (fun K hK => ?_) | refine d5 f8 (fun K hK => ?_) | fail); simp -implicitDefEqProofs [hkl, hd, hd', c33, c1, w2]; first | refine hK _ ?_ | refine hK _ _ (by rfl) ?_ | fail) | fail)
    refine ⟨k + 1, by omega, (by dsimp only; omega), ?_⟩
    rw [hI]; exact f7 [0, 1, 2] (by simp -implicitDefEqProofs [hs]) (by simp -implicitDefEqProofs [hs]) (by decide) rfl (by simp)
  obtain ⟨p, pl, ⟨rx, rl⟩, ⟨bx, bl⟩, hkd, hnr, hpl⟩ := e3 c33
  rw [Tr.kids] at hkd
  subst hkd
  have hdz := hsz _ (List.mem_of_getElem? hd)
  have hps : pl.length ≤ 100000 := by
    have e1 := Tr.len_size (x := p) (l := pl)
    rw [Tr.size_mk] at hdz
    simp only [List.map_cons, List.map_nil, List.sum_cons, List.sum_nil] at hdz
    omega
  have hsp := Tr.size_at (x := dx) (l := [.mk p pl, .mk rx rl, .mk bx bl]) (i := 0) rfl
  have hsr := Tr.size_at (x := dx) (l := [.mk p pl, .mk rx rl, .mk bx bl]) (i := 1) rfl
  have hret := a2j (.mk rx rl) (by omega)
  rw [hnr] at hret
  repeat (first | refine d4 ?_ | refine b8 ?_ | refine b7 ?_ | refine b9 ?_ | refine f5 rfl ?_ | refine d8 rfl ?_ | ((first | refine c5 (fun K hK => ?_) | refine d5 f8 (fun K hK => ?_) | fail); simp -implicitDefEqProofs [hkl, hd, hd', c33, c1]; first | refine hK _ ?_ | refine hK _ _ (by rfl) ?_ | fail) | fail)
  refine l7 (ι := Nat) (fun j => s7 [(2, .v (.c (.ptr 0 0))), (3, .v (.c (.ptr 1 0))), (5, .v (.c (.row 2 9 (F.map fcc)))), (6, vI (k : Nat)), (7, .v (.c (.ptr 3 0))), (8, .v (.c (.row 4 6 ((ptT (pl.take j)).map tc)))), (9, vI (j : Nat))] [some (.box (ta (.mk x ml))), some (.box (ta (.mk y sl))), some (.row 33 9), some (.box (ta (.mk dx [.mk p pl, .mk rx rl, .mk bx bl]))), some (.row 25 6)]) (fun j => j ≤ pl.length) (fun j => pl.length - j) 0 (Nat.zero_le _) (f7 [0, 1, 2, 13, 23] (by simp -implicitDefEqProofs [a7r, c33, c1]) (by simp -implicitDefEqProofs [a7r, c33, c1]) (by decide) rfl (by simp)) (fun Z2 hI2 j hj => ?_)
  by_cases hjl : j < pl.length; rotate_left
  · have : j = pl.length := by omega
    subst this
    rw [List.take_length]
    repeat (first | refine d4 ?_ | refine b8 ?_ | refine b7 ?_ | refine b9 ?_ | refine f5 rfl ?_ | refine d8 rfl ?_ | ((first | refine c5 (fun K hK => ?_) | refine d5 f8 (fun K hK => ?_) | fail); simp -implicitDefEqProofs; first | refine hK _ ?_ | refine hK _ _ (by rfl) ?_ | fail) | fail)
    simp only [Th, InB, LpQ, if_true]
    have ho1 : b0n (0 + k) (.mk ax al) (.mk dx [.mk p pl, .mk rx rl, .mk bx bl]) = [⟨ax.s, ptT pl, .mk rx rl, (k : Nat)⟩] := by
      simp [b0n, a9g, ptyF, Tr.lab, Tr.kids, c33, c1]
    rw [ho1] at hs
    have b3 : (F.length + 1) * 120 ≤ 140737488355328 := by omega
    have b4 : F.length + 1 ≤ 140737488355328 := by omega
    refine a34 (st' := s7 [(2, .v (.c (.ptr 0 0))), (3, .v (.c (.ptr 1 0))), (5, .v (.c (.row 2 9 (F.map fcc)))), (6, vI (k : Nat)), (7, .v (.c (.ptr 3 0))), (8, vLs (ptT pl))] [some (.box (ta (.mk x ml))), some (.box (ta (.mk y sl))), some (.row 33 9), some (.box (ta (.mk dx [.mk p pl, .mk rx rl, .mk bx bl])))]) (f7 [0, 1, 2, 3] (by simp -implicitDefEqProofs) (by simp -implicitDefEqProofs) (by decide) rfl (by simp)) ?_
    repeat' (first | refine d4 ?_ | refine b8 ?_ | refine b7 ?_ | refine b9 ?_ | refine f5 rfl ?_ | refine d8 rfl ?_ | ((first | refine c5 (fun K hK => ?_) | refine d5 f8 (fun K hK => ?_) | refine a9 (cp hret ?_) | refine a8 (dp hret ?_) | fail); simp -implicitDefEqProofs [b3, b4, w2, hks, ha, ha']) | refine hK _ ?_ | refine hK _ _ (by rfl) ?_ | fail)
    refine ⟨k + 1, by omega, (by dsimp only; omega), ?_⟩
    rw [hI]; exact f7 [0, 1, 132] (by simp -implicitDefEqProofs [hs]) (by simp -implicitDefEqProofs [hs]) (by decide) rfl (by simp)
  obtain ⟨⟨qx, ql⟩, hq⟩ : ∃ a, pl[j]? = some a := ⟨_, List.getElem?_eq_getElem hjl⟩
  have hq' := (List.getElem?_eq_some_iff.1 hq).2
  obtain ⟨qx', ⟨ux, ul⟩, ql', hqe, hnu⟩ := hpl _ (List.mem_of_getElem? hq)
  obtain ⟨rfl, rfl⟩ := (Tr.mk.injEq _ _ _ _).mp hqe
  have hs1 := Tr.size_at (x := p) hq
  have hs2 := Tr.size_at (x := qx) (l := .mk ux ul :: ql') (i := 0) rfl
  have hun := a2j (.mk ux ul) (by omega)
  rw [hnu] at hun
  have w3 : IntKind.i64.wrap ((j : Nat) + 1 : Int) = (j : Nat) + 1 := k9 _ (by omega) (by omega)
  have hn : ptT (pl.take (j + 1)) = ptT (pl.take j) ++ [.mk ux ul] := b3l hq
  obtain ⟨G, hG⟩ : ∃ G, ptT (pl.take j) = G := ⟨_, rfl⟩
  have hGl : G.length = j := by rw [← hG, b1q, List.length_take]; omega
  rw [hG] at hn ⊢
  have b1 : (j + 1) * 72 ≤ 140737488355328 := by omega
  have b2 : j + 1 ≤ 140737488355328 := by omega
  clear hret
  repeat' (first | refine d4 ?_ | refine b8 ?_ | refine b7 ?_ | refine b9 ?_ | refine f5 rfl ?_ | refine d8 rfl ?_ | ((first | refine c5 (fun K hK => ?_) | refine d5 f8 (fun K hK => ?_) | refine a9 (cp hun ?_) | refine a8 (dp hun ?_) | fail); simp -implicitDefEqProofs [hjl, hq, hq', w3, hGl, b1, b2]) | refine hK _ ?_ | refine hK _ _ (by rfl) ?_ | fail)
  refine ⟨j + 1, by omega, (by dsimp only; omega), ?_⟩
  rw [hI2]; exact f7 [0, 1, 2, 3, 34] (by simp -implicitDefEqProofs [hn]) (by simp -implicitDefEqProofs [hn]) (by decide) rfl (by simp)
end Go.Proofs.YthkfdheoakbfnaaGreat.am
end
