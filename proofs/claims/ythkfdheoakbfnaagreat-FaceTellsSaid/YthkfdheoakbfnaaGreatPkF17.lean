import Derived.Test.YthkfdheoakbfnaaGreatPkF16
import Derived.Test.YthkfdheoakbfnaaGreatPkF11
set_option maxRecDepth 100000
set_option maxHeartbeats 4000000
section
namespace Go.Proofs.YthkfdheoakbfnaaGreat.am
open Go.ChangeShapes Go.WideShapes Go.ChangeAt Go.RowKit
open vt
set_option linter.unusedVariables false
set_option linter.unusedSimpArgs false
section
variable (ts : List Tok) (hl : ts.length ≤ 1000000000)
include hl
theorem a1b (o : Nat) (few : Bool) (fs ls : ByteArray) (hf : quo fs = 4) (hs : quo ls = 4) (ho : o ≤ ts.length) (hE : ∀ j, o < j → j ≤ ts.length → Row Tryz.prog 73 [vKs ts, vI j] [] (vG (Qx ts 1 j)) []) : Row Tryz.prog 81 [vKs ts, vI o, vB few, vS fs, vS ls] [] (vC3 (a0x ts (Qx ts 1) o few fs ls)) [] := by
  have q1 := i5 ts o fs
  rw [j0 hf] at q1
  have w1 : IntKind.i64.wrap ((o : Nat) + 1 : Int) = (o : Nat) + 1 := k9 _ (by omega) (by omega)
  have w2 : IntKind.i64.wrap ((o : Nat) + 2 : Int) = (o : Nat) + 2 := k9 _ (by omega) (by omega)
  unfold a0x
  by_cases e1 : isK fs (nxt ts o) = true; rotate_left
  · have e1 : isK fs (nxt ts o) = false := by simpa using e1
    rw [if_pos e1]
    rw [e1] at q1
    clear e1 hE
    refine f6 Tryz.func81 rfl rfl (Nat.le_of_ble_eq_true rfl) ?_
    repeat' (first | refine d4 ?_ | refine b8 ?_ | refine b7 ?_ | refine b9 ?_ | refine f5 rfl ?_ | refine d8 rfl ?_ | ((first | refine c5 (fun K hK => ?_) | refine d5 f8 (fun K hK => ?_) | refine a9 (cp q1 ?_) | refine a8 (dp q1 ?_) | fail); simp -implicitDefEqProofs) | refine hK _ ?_ | refine hK _ _ (by rfl) ?_ | fail)
    refine d7 (d6 ?_); simp -implicitDefEqProofs [g8, f9, g7] <;> try rfl
  have hlt := g9 e1
  rw [if_neg (by simp [e1])]
  rw [e1] at q1
  have q2 := i5 ts (o + 1) ls
  rw [j0 hs] at q2
  by_cases e2 : few = true ∧ isK ls (nxt ts (o + 1)) = true
  · rw [if_pos e2]
    obtain ⟨rfl, e2⟩ := e2
    rw [e2] at q2
    clear e1 e2 hE
    refine f6 Tryz.func81 rfl rfl (Nat.le_of_ble_eq_true rfl) ?_
    repeat' (first | refine d4 ?_ | refine b8 ?_ | refine b7 ?_ | refine b9 ?_ | refine f5 rfl ?_ | refine d8 rfl ?_ | ((first | refine c5 (fun K hK => ?_) | refine d5 f8 (fun K hK => ?_) | refine a9 (cp q1 ?_) | refine a8 (dp q1 ?_) | refine a9 (cp q2 ?_) | refine a8 (dp q2 ?_) | fail); simp -implicitDefEqProofs [w1, w2]) | refine hK _ ?_ | refine hK _ _ (by rfl) ?_ | fail)
    refine d7 (d6 ?_); simp -implicitDefEqProofs [g8, f9, g7] <;> try rfl
  rw [if_neg e2]
  have hq := c1r ts hl (o + 1) (by omega) (fun j h1 h2 => hE j (by omega) h2)
  have hc := a9i (b4d (ts := ts) 1) (ts.length + 1) (o + 1) [] (by omega)
  obtain ⟨⟨c1, c2, c3⟩, hr⟩ : ∃ r, lpC ts (Qx ts 1) (ts.length + 1) (o + 1) [] = r := ⟨_, rfl⟩
  rw [hr] at hq hc ⊢
  obtain ⟨b2, hb2⟩ : ∃ b, isK ls (nxt ts (o + 1)) = b := ⟨_, rfl⟩
  rw [hb2] at q2 e2
  have q3 := i5 ts c2 ls
  rw [j0 hs] at q3
  have hle := hc.le
  dsimp only at hle
  have w3 : IntKind.i64.wrap ((c2 : Nat) + 1 : Int) = (c2 : Nat) + 1 := k9 _ (by omega) (by omega)
  by_cases hc3 : c3 = 0; rotate_left
  · rw [if_pos hc3]
    clear hE hr hb2 hc e1
    cases few
    · refine f6 Tryz.func81 rfl rfl (Nat.le_of_ble_eq_true rfl) ?_
      repeat' (first | refine d4 ?_ | refine b8 ?_ | refine b7 ?_ | refine b9 ?_ | refine f5 rfl ?_ | refine d8 rfl ?_ | ((first | refine c5 (fun K hK => ?_) | refine d5 f8 (fun K hK => ?_) | refine a9 (cp q1 ?_) | refine a8 (dp q1 ?_) | refine a9 (cp q2 ?_) | refine a8 (dp q2 ?_) | refine a9 (cp hq ?_) | refine a8 (dp hq ?_) | fail); simp -implicitDefEqProofs [w1, w2, hc3]) | refine hK _ ?_ | refine hK _ _ (by rfl) ?_ | fail)
      refine d7 (d6 ?_); simp -implicitDefEqProofs [g8, f9, g7] <;> try rfl
    · obtain rfl : b2 = false := by simpa using e2
      refine f6 Tryz.func81 rfl rfl (Nat.le_of_ble_eq_true rfl) ?_
      repeat' (first | refine d4 ?_ | refine b8 ?_ | refine b7 ?_ | refine b9 ?_ | refine f5 rfl ?_ | refine d8 rfl ?_ | ((first | refine c5 (fun K hK => ?_) | refine d5 f8 (fun K hK => ?_) | refine a9 (cp q1 ?_) | refine a8 (dp q1 ?_) | refine a9 (cp q2 ?_) | refine a8 (dp q2 ?_) | refine a9 (cp hq ?_) | refine a8 (dp hq ?_) | fail); simp -implicitDefEqProofs [w1, w2, hc3]) | refine hK _ ?_ | refine hK _ _ (by rfl) ?_ | fail)
      refine d7 (d6 ?_); simp -implicitDefEqProofs [g8, f9, g7] <;> try rfl
  subst hc3
  rw [if_neg (by simp)]
  dsimp only
  by_cases e3 : isK ls (nxt ts c2) = true
  · rw [if_neg (by simp [e3])]
    rw [e3] at q3
    clear hE hr hb2 hc e1 e3
    cases few
    · refine f6 Tryz.func81 rfl rfl (Nat.le_of_ble_eq_true rfl) ?_
      repeat' (first | refine d4 ?_ | refine b8 ?_ | refine b7 ?_ | refine b9 ?_ | refine f5 rfl ?_ | refine d8 rfl ?_ | ((first | refine c5 (fun K hK => ?_) | refine d5 f8 (fun K hK => ?_) | refine a9 (cp q1 ?_) | refine a8 (dp q1 ?_) | refine a9 (cp q2 ?_) | refine a8 (dp q2 ?_) | refine a9 (cp hq ?_) | refine a8 (dp hq ?_) | refine a9 (cp q3 ?_) | refine a8 (dp q3 ?_) | fail); simp -implicitDefEqProofs [w1, w2, w3]) | refine hK _ ?_ | refine hK _ _ (by rfl) ?_ | fail)
      refine d7 (d6 ?_); simp -implicitDefEqProofs [g8, f9, g7] <;> try rfl
    · obtain rfl : b2 = false := by simpa using e2
      refine f6 Tryz.func81 rfl rfl (Nat.le_of_ble_eq_true rfl) ?_
      repeat' (first | refine d4 ?_ | refine b8 ?_ | refine b7 ?_ | refine b9 ?_ | refine f5 rfl ?_ | refine d8 rfl ?_ | ((first | refine c5 (fun K hK => ?_) | refine d5 f8 (fun K hK => ?_) | refine a9 (cp q1 ?_) | refine a8 (dp q1 ?_) | refine a9 (cp q2 ?_) | refine a8 (dp q2 ?_) | refine a9 (cp hq ?_) | refine a8 (dp hq ?_) | refine a9 (cp q3 ?_) | refine a8 (dp q3 ?_) | fail); simp -implicitDefEqProofs [w1, w2, w3]) | refine hK _ ?_ | refine hK _ _ (by rfl) ?_ | fail)
      refine d7 (d6 ?_); simp -implicitDefEqProofs [g8, f9, g7] <;> try rfl
  · have e3 : isK ls (nxt ts c2) = false := by simpa using e3
    rw [if_pos e3]
    rw [e3] at q3
    clear hE hr hb2 hc e1 e3
    cases few
    · refine f6 Tryz.func81 rfl rfl (Nat.le_of_ble_eq_true rfl) ?_
      repeat' (first | refine d4 ?_ | refine b8 ?_ | refine b7 ?_ | refine b9 ?_ | refine f5 rfl ?_ | refine d8 rfl ?_ | ((first | refine c5 (fun K hK => ?_) | refine d5 f8 (fun K hK => ?_) | refine a9 (cp q1 ?_) | refine a8 (dp q1 ?_) | refine a9 (cp q2 ?_) | refine a8 (dp q2 ?_) | refine a9 (cp hq ?_) | refine a8 (dp hq ?_) | refine a9 (cp q3 ?_) | refine a8 (dp q3 ?_) | fail); simp -implicitDefEqProofs [w1, w2, w3]) | refine hK _ ?_ | refine hK _ _ (by rfl) ?_ | fail)
      refine d7 (d6 ?_); simp -implicitDefEqProofs [g8, f9, g7] <;> try rfl
    · obtain rfl : b2 = false := by simpa using e2
      refine f6 Tryz.func81 rfl rfl (Nat.le_of_ble_eq_true rfl) ?_
      repeat' (first | refine d4 ?_ | refine b8 ?_ | refine b7 ?_ | refine b9 ?_ | refine f5 rfl ?_ | refine d8 rfl ?_ | ((first | refine c5 (fun K hK => ?_) | refine d5 f8 (fun K hK => ?_) | refine a9 (cp q1 ?_) | refine a8 (dp q1 ?_) | refine a9 (cp q2 ?_) | refine a8 (dp q2 ?_) | refine a9 (cp hq ?_) | refine a8 (dp hq ?_) | refine a9 (cp q3 ?_) | refine a8 (dp q3 ?_) | fail); simp -implicitDefEqProofs [w1, w2, w3]) | refine hK _ ?_ | refine hK _ _ (by rfl) ?_ | fail)
      refine d7 (d6 ?_); simp -implicitDefEqProofs [g8, f9, g7] <;> try rfl
structure FinR (i o : Nat) (k : Int) (s : ByteArray) (c : List VT × Nat × Int) : Prop where
  no : c.2.2 ≠ 0 → a0w ts i k s c = (z0, c.2.1, c.2.2)
  yes : c.2.2 = 0 → Row Tryz.prog 41 [vKs ts, vI i, vI c.2.1, vI k, vI 0, vS s, vLs c.1] [] (vG (a0w ts i k s c)) []
theorem a7a (i o : Nat) (k : Int) (s : ByteArray) (c : List VT × Nat × Int) (h : OkC ts o c) (hi : i ≤ o) : FinR ts i o k s c := by
  refine ⟨fun h => by unfold a0w; rw [if_pos h], fun h0 => ?_⟩
  unfold a0w
  rw [if_neg (by simp [h0])]
  have := h.yes h0
  exact o4 ts hl i c.2.1 k 0 s c.1 (by omega) h.le.2
theorem b08 (i : Nat) (hi : i ≤ ts.length) (hE : ∀ j, i < j → j ≤ ts.length → Row Tryz.prog 73 [vKs ts, vI j] [] (vG (Qx ts 1 j)) []) : Row Tryz.prog 74 [vKs ts, vI i] [] (vG (a61 ts (Qx ts 1) i)) [] := by
  have o := s4 ts i
  have q1 := i5 ts i t8
  rw [j0 (by decide)] at q1
  have q2 := i5 ts i sAt
  rw [j0 (by decide)] at q2
  have q3 := j9 ts i c7e
  rw [l8 (by decide)] at q3
  have w1 : IntKind.i64.wrap ((i : Nat) + 1 : Int) = (i : Nat) + 1 := k9 _ (by omega) (by omega)
  have w2 : IntKind.i64.wrap ((i : Nat) + 2 : Int) = (i : Nat) + 2 := k9 _ (by omega) (by omega)
  unfold a61
  by_cases e1 : (nxt ts i).k = 1
  · have hlt := z4 e1 (by decide)
    rw [if_pos e1]
    have hq := a1b ts hl (i + 1) true l4 l5 (by decide) (by decide) (by omega) (fun j h1 h2 => hE j (by omega) h2)
    have hf := a7a ts hl i (i + 1) 16 (nxt ts i).s _ (t1 (b4d (ts := ts) 1) true l4 l5 (by omega)) (by omega)
    obtain ⟨⟨c1, c2, c3⟩, hr⟩ : ∃ r, a0x ts (Qx ts 1) (i + 1) true l4 l5 = r := ⟨_, rfl⟩
    rw [hr] at hq hf ⊢
    clear hE hr
    by_cases h3 : c3 = 0
    · subst h3
      have m := hf.yes rfl
      dsimp only at m
      refine f6 Tryz.func74 rfl rfl (Nat.le_of_ble_eq_true rfl) ?_
      repeat' (first | refine d4 ?_ | refine b8 ?_ | refine b7 ?_ | refine b9 ?_ | refine f5 rfl ?_ | refine d8 rfl ?_ | ((first | refine c5 (fun K hK => ?_) | refine d5 f8 (fun K hK => ?_) | refine a9 (cp o ?_) | refine a8 (dp o ?_) | refine a9 (cp hq ?_) | refine a8 (dp hq ?_) | refine a9 (cp m ?_) | refine a8 (dp m ?_) | fail); simp -implicitDefEqProofs [w1, e1]) | refine hK _ ?_ | refine hK _ _ (by rfl) ?_ | fail)
      refine d7 (d6 ?_); simp -implicitDefEqProofs [g8, f9, g7, a0w, mk7] <;> try rfl
    · rw [hf.no h3]
      refine f6 Tryz.func74 rfl rfl (Nat.le_of_ble_eq_true rfl) ?_
      repeat' (first | refine d4 ?_ | refine b8 ?_ | refine b7 ?_ | refine b9 ?_ | refine f5 rfl ?_ | refine d8 rfl ?_ | ((first | refine c5 (fun K hK => ?_) | refine d5 f8 (fun K hK => ?_) | refine a9 (cp o ?_) | refine a8 (dp o ?_) | refine a9 (cp hq ?_) | refine a8 (dp hq ?_) | fail); simp -implicitDefEqProofs [w1, e1, h3]) | refine hK _ ?_ | refine hK _ _ (by rfl) ?_ | fail)
      refine d7 (d6 ?_); simp -implicitDefEqProofs [g8, f9, g7, z0] <;> try rfl
  rw [if_neg e1]
  by_cases e2 : isK t8 (nxt ts i) = true
  · have hlt := g9 e2
    rw [if_pos e2]
    rw [e2] at q1
    have hq := a1b ts hl i false t8 t9 (by decide) (by decide) (by omega) (fun j h1 h2 => hE j (by omega) h2)
    have hf := a7a ts hl i i 14 ⟨#[]⟩ _ (t1 (b4d (ts := ts) 1) false t8 t9 (by omega)) (by omega)
    obtain ⟨⟨c1, c2, c3⟩, hr⟩ : ∃ r, a0x ts (Qx ts 1) i false t8 t9 = r := ⟨_, rfl⟩
    rw [hr] at hq hf ⊢
    clear hE hr
    by_cases h3 : c3 = 0
    · subst h3
      have m := hf.yes rfl
      dsimp only at m
      refine f6 Tryz.func74 rfl rfl (Nat.le_of_ble_eq_true rfl) ?_
      repeat' (first | refine d4 ?_ | refine b8 ?_ | refine b7 ?_ | refine b9 ?_ | refine f5 rfl ?_ | refine d8 rfl ?_ | ((first | refine c5 (fun K hK => ?_) | refine d5 f8 (fun K hK => ?_) | refine a9 (cp o ?_) | refine a8 (dp o ?_) | refine a9 (cp q1 ?_) | refine a8 (dp q1 ?_) | refine a9 (cp hq ?_) | refine a8 (dp hq ?_) | refine a9 (cp m ?_) | refine a8 (dp m ?_) | fail); simp -implicitDefEqProofs [w1, e1]) | refine hK _ ?_ | refine hK _ _ (by rfl) ?_ | fail)
      refine d7 (d6 ?_); simp -implicitDefEqProofs [g8, f9, g7, a0w, mk7] <;> try rfl
    · rw [hf.no h3]
      refine f6 Tryz.func74 rfl rfl (Nat.le_of_ble_eq_true rfl) ?_
      repeat' (first | refine d4 ?_ | refine b8 ?_ | refine b7 ?_ | refine b9 ?_ | refine f5 rfl ?_ | refine d8 rfl ?_ | ((first | refine c5 (fun K hK => ?_) | refine d5 f8 (fun K hK => ?_) | refine a9 (cp o ?_) | refine a8 (dp o ?_) | refine a9 (cp q1 ?_) | refine a8 (dp q1 ?_) | refine a9 (cp hq ?_) | refine a8 (dp hq ?_) | fail); simp -implicitDefEqProofs [w1, e1, h3]) | refine hK _ ?_ | refine hK _ _ (by rfl) ?_ | fail)
      refine d7 (d6 ?_); simp -implicitDefEqProofs [g8, f9, g7, z0] <;> try rfl
  rw [if_neg e2]
  rw [show isK t8 (nxt ts i) = false by simpa using e2] at q1
  have o1 := s4 ts (i + 1)
  by_cases e3 : isK sAt (nxt ts i) = true
  · have hlt := g9 e3
    rw [if_pos e3]
    rw [e3] at q2
    have e4 : isK c7e (nxt ts i) = false := by
      unfold isK at e3 ⊢
      have h4 : quo c7e = 3 := by decide
      have h5 : quo sAt = 4 := by decide
      rw [h5] at e3
      rw [h4]
      simp at e3 ⊢
      intro h; omega
    rw [e4] at q3
    by_cases e5 : (nxt ts (i + 1)).k = 1; rotate_left
    · rw [if_pos e5]
      have b := l6 (i + 1)
      clear hE e2 e3 e4
      refine f6 Tryz.func74 rfl rfl (Nat.le_of_ble_eq_true rfl) ?_
      repeat' (first | refine d4 ?_ | refine b8 ?_ | refine b7 ?_ | refine b9 ?_ | refine f5 rfl ?_ | refine d8 rfl ?_ | ((first | refine c5 (fun K hK => ?_) | refine d5 f8 (fun K hK => ?_) | refine a9 (cp o ?_) | refine a8 (dp o ?_) | refine a9 (cp q1 ?_) | refine a8 (dp q1 ?_) | refine a9 (cp q2 ?_) | refine a8 (dp q2 ?_) | refine a9 (cp q3 ?_) | refine a8 (dp q3 ?_) | refine a9 (cp o1 ?_) | refine a8 (dp o1 ?_) | refine a9 (cp b ?_) | refine a8 (dp b ?_) | fail); simp -implicitDefEqProofs [w1, e1, e5]) | refine hK _ ?_ | refine hK _ _ (by rfl) ?_ | fail)
      refine d7 (d6 ?_); simp -implicitDefEqProofs [g8, f9, g7, n6, z0] <;> try rfl
    have hlt2 := z4 e5 (by decide)
    rw [if_neg (by simp [e5])]
    have hq := a1b ts hl (i + 2) true l4 l5 (by decide) (by decide) (by omega) (fun j h1 h2 => hE j (by omega) h2)
    have hf := a7a ts hl i (i + 2) 17 (nxt ts (i + 1)).s _ (t1 (b4d (ts := ts) 1) true l4 l5 (by omega)) (by omega)
    obtain ⟨⟨c1, c2, c3⟩, hr⟩ : ∃ r, a0x ts (Qx ts 1) (i + 2) true l4 l5 = r := ⟨_, rfl⟩
    rw [hr] at hq hf ⊢
    clear hE hr e2 e3 e4
    by_cases h3 : c3 = 0
    · subst h3
      have m := hf.yes rfl
      dsimp only at m
      refine f6 Tryz.func74 rfl rfl (Nat.le_of_ble_eq_true rfl) ?_
      repeat' (first | refine d4 ?_ | refine b8 ?_ | refine b7 ?_ | refine b9 ?_ | refine f5 rfl ?_ | refine d8 rfl ?_ | ((first | refine c5 (fun K hK => ?_) | refine d5 f8 (fun K hK => ?_) | refine a9 (cp o ?_) | refine a8 (dp o ?_) | refine a9 (cp q1 ?_) | refine a8 (dp q1 ?_) | refine a9 (cp q2 ?_) | refine a8 (dp q2 ?_) | refine a9 (cp q3 ?_) | refine a8 (dp q3 ?_) | refine a9 (cp o1 ?_) | refine a8 (dp o1 ?_) | refine a9 (cp hq ?_) | refine a8 (dp hq ?_) | refine a9 (cp m ?_) | refine a8 (dp m ?_) | fail); simp -implicitDefEqProofs [w1, w2, e1, e5]) | refine hK _ ?_ | refine hK _ _ (by rfl) ?_ | fail)
      refine d7 (d6 ?_); simp -implicitDefEqProofs [g8, f9, g7, a0w, mk7] <;> try rfl
    · rw [hf.no h3]
      refine f6 Tryz.func74 rfl rfl (Nat.le_of_ble_eq_true rfl) ?_
      repeat' (first | refine d4 ?_ | refine b8 ?_ | refine b7 ?_ | refine b9 ?_ | refine f5 rfl ?_ | refine d8 rfl ?_ | ((first | refine c5 (fun K hK => ?_) | refine d5 f8 (fun K hK => ?_) | refine a9 (cp o ?_) | refine a8 (dp o ?_) | refine a9 (cp q1 ?_) | refine a8 (dp q1 ?_) | refine a9 (cp q2 ?_) | refine a8 (dp q2 ?_) | refine a9 (cp q3 ?_) | refine a8 (dp q3 ?_) | refine a9 (cp o1 ?_) | refine a8 (dp o1 ?_) | refine a9 (cp hq ?_) | refine a8 (dp hq ?_) | fail); simp -implicitDefEqProofs [w1, w2, e1, e5, h3]) | refine hK _ ?_ | refine hK _ _ (by rfl) ?_ | fail)
      refine d7 (d6 ?_); simp -implicitDefEqProofs [g8, f9, g7, z0] <;> try rfl
  rw [if_neg e3]
  rw [show isK sAt (nxt ts i) = false by simpa using e3] at q2
  by_cases e4 : isK c7e (nxt ts i) = true
  · have hlt := g9 e4
    rw [if_pos e4]
    rw [e4] at q3
    by_cases e5 : (nxt ts (i + 1)).k = 1; rotate_left
    · rw [if_pos e5]
      have b := l6 (i + 1)
      clear hE e2 e3 e4
      refine f6 Tryz.func74 rfl rfl (Nat.le_of_ble_eq_true rfl) ?_
      repeat' (first | refine d4 ?_ | refine b8 ?_ | refine b7 ?_ | refine b9 ?_ | refine f5 rfl ?_ | refine d8 rfl ?_ | ((first | refine c5 (fun K hK => ?_) | refine d5 f8 (fun K hK => ?_) | refine a9 (cp o ?_) | refine a8 (dp o ?_) | refine a9 (cp q1 ?_) | refine a8 (dp q1 ?_) | refine a9 (cp q2 ?_) | refine a8 (dp q2 ?_) | refine a9 (cp q3 ?_) | refine a8 (dp q3 ?_) | refine a9 (cp o1 ?_) | refine a8 (dp o1 ?_) | refine a9 (cp b ?_) | refine a8 (dp b ?_) | fail); simp -implicitDefEqProofs [w1, e1, e5]) | refine hK _ ?_ | refine hK _ _ (by rfl) ?_ | fail)
      refine d7 (d6 ?_); simp -implicitDefEqProofs [g8, f9, g7, n6, z0] <;> try rfl
    have hlt2 := z4 e5 (by decide)
    rw [if_neg (by simp [e5])]
    have hq := a1b ts hl (i + 2) false l4 l5 (by decide) (by decide) (by omega) (fun j h1 h2 => hE j (by omega) h2)
    have hf := a7a ts hl i (i + 2) 15 (nxt ts (i + 1)).s _ (t1 (b4d (ts := ts) 1) false l4 l5 (by omega)) (by omega)
    obtain ⟨⟨c1, c2, c3⟩, hr⟩ : ∃ r, a0x ts (Qx ts 1) (i + 2) false l4 l5 = r := ⟨_, rfl⟩
    rw [hr] at hq hf ⊢
    clear hE hr e2 e3 e4
    by_cases h3 : c3 = 0
    · subst h3
      have m := hf.yes rfl
      dsimp only at m
      refine f6 Tryz.func74 rfl rfl (Nat.le_of_ble_eq_true rfl) ?_
      repeat' (first | refine d4 ?_ | refine b8 ?_ | refine b7 ?_ | refine b9 ?_ | refine f5 rfl ?_ | refine d8 rfl ?_ | ((first | refine c5 (fun K hK => ?_) | refine d5 f8 (fun K hK => ?_) | refine a9 (cp o ?_) | refine a8 (dp o ?_) | refine a9 (cp q1 ?_) | refine a8 (dp q1 ?_) | refine a9 (cp q2 ?_) | refine a8 (dp q2 ?_) | refine a9 (cp q3 ?_) | refine a8 (dp q3 ?_) | refine a9 (cp o1 ?_) | refine a8 (dp o1 ?_) | refine a9 (cp hq ?_) | refine a8 (dp hq ?_) | refine a9 (cp m ?_) | refine a8 (dp m ?_) | fail); simp -implicitDefEqProofs [w1, w2, e1, e5]) | refine hK _ ?_ | refine hK _ _ (by rfl) ?_ | fail)
      refine d7 (d6 ?_); simp -implicitDefEqProofs [g8, f9, g7, a0w, mk7] <;> try rfl
    · rw [hf.no h3]
      refine f6 Tryz.func74 rfl rfl (Nat.le_of_ble_eq_true rfl) ?_
      repeat' (first | refine d4 ?_ | refine b8 ?_ | refine b7 ?_ | refine b9 ?_ | refine f5 rfl ?_ | refine d8 rfl ?_ | ((first | refine c5 (fun K hK => ?_) | refine d5 f8 (fun K hK => ?_) | refine a9 (cp o ?_) | refine a8 (dp o ?_) | refine a9 (cp q1 ?_) | refine a8 (dp q1 ?_) | refine a9 (cp q2 ?_) | refine a8 (dp q2 ?_) | refine a9 (cp q3 ?_) | refine a8 (dp q3 ?_) | refine a9 (cp o1 ?_) | refine a8 (dp o1 ?_) | refine a9 (cp hq ?_) | refine a8 (dp hq ?_) | fail); simp -implicitDefEqProofs [w1, w2, e1, e5, h3]) | refine hK _ ?_ | refine hK _ _ (by rfl) ?_ | fail)
      refine d7 (d6 ?_); simp -implicitDefEqProofs [g8, f9, g7, z0] <;> try rfl
  rw [if_neg e4]
  rw [show isK c7e (nxt ts i) = false by simpa using e4] at q3
  have b := l6 i
  clear hE e2 e3 e4
  refine f6 Tryz.func74 rfl rfl (Nat.le_of_ble_eq_true rfl) ?_
  repeat' (first | refine d4 ?_ | refine b8 ?_ | refine b7 ?_ | refine b9 ?_ | refine f5 rfl ?_ | refine d8 rfl ?_ | ((first | refine c5 (fun K hK => ?_) | refine d5 f8 (fun K hK => ?_) | refine a9 (cp o ?_) | refine a8 (dp o ?_) | refine a9 (cp q1 ?_) | refine a8 (dp q1 ?_) | refine a9 (cp q2 ?_) | refine a8 (dp q2 ?_) | refine a9 (cp q3 ?_) | refine a8 (dp q3 ?_) | refine a9 (cp b ?_) | refine a8 (dp b ?_) | fail); simp -implicitDefEqProofs [w1, e1]) | refine hK _ ?_ | refine hK _ _ (by rfl) ?_ | fail)
  refine d7 (d6 ?_); simp -implicitDefEqProofs [g8, f9, g7, n6, z0] <;> try rfl
theorem b6q (i : Nat) (hi : i ≤ ts.length) (hE : ∀ j, i < j → j ≤ ts.length → Row Tryz.prog 73 [vKs ts, vI j] [] (vG (Qx ts 1 j)) []) : Row Tryz.prog 58 [vKs ts, vI i] [] (vG (Qx ts 8 i)) [] := by
  have o := s4 ts i
  have q1 := j9 ts i a3f
  rw [l8 (by decide)] at q1
  have q2 := j9 ts i a3e
  rw [l8 (by decide)] at q2
  have q3 := j9 ts i b96
  rw [l8 (by decide)] at q3
  have q4 := i5 ts (i + 1) l4
  rw [j0 (by decide)] at q4
  have q5 := i5 ts i l4
  rw [j0 (by decide)] at q5
  have w1 : IntKind.i64.wrap ((i : Nat) + 1 : Int) = (i : Nat) + 1 := k9 _ (by omega) (by omega)
  rw [Q_eq 8 i (by decide) (by decide) hi]
  unfold bG
  rw [if_neg (by decide), if_neg (by decide), if_neg (by decide)]
  unfold a8y
  by_cases e1 : (nxt ts i).k = 2
  · have hlt := z4 e1 (by decide)
    rw [if_pos e1]
    have m := o4 ts hl i (i + 1) 5 (nxt ts i).n ⟨#[]⟩ [] (by omega) (by omega)
    clear hE
    refine f6 Tryz.func58 rfl rfl (Nat.le_of_ble_eq_true rfl) ?_
    repeat' (first | refine d4 ?_ | refine b8 ?_ | refine b7 ?_ | refine b9 ?_ | refine f5 rfl ?_ | refine d8 rfl ?_ | ((first | refine c5 (fun K hK => ?_) | refine d5 f8 (fun K hK => ?_) | refine a9 (cp o ?_) | refine a8 (dp o ?_) | refine a9 (cp m ?_) | refine a8 (dp m ?_) | fail); simp -implicitDefEqProofs [w1, e1]) | refine hK _ ?_ | refine hK _ _ (by rfl) ?_ | fail)
    refine d7 (d6 ?_); simp -implicitDefEqProofs [g8, f9, g7, mk7] <;> try rfl
  rw [if_neg e1]
  by_cases e2 : isK a3f (nxt ts i) = true
  · have hlt := g9 e2
    rw [if_pos e2]
    rw [e2] at q1
    have m := o4 ts hl i (i + 1) 6 1 ⟨#[]⟩ [] (by omega) (by omega)
    clear hE e2
    refine f6 Tryz.func58 rfl rfl (Nat.le_of_ble_eq_true rfl) ?_
    repeat' (first | refine d4 ?_ | refine b8 ?_ | refine b7 ?_ | refine b9 ?_ | refine f5 rfl ?_ | refine d8 rfl ?_ | ((first | refine c5 (fun K hK => ?_) | refine d5 f8 (fun K hK => ?_) | refine a9 (cp o ?_) | refine a8 (dp o ?_) | refine a9 (cp q1 ?_) | refine a8 (dp q1 ?_) | refine a9 (cp m ?_) | refine a8 (dp m ?_) | fail); simp -implicitDefEqProofs [w1, e1]) | refine hK _ ?_ | refine hK _ _ (by rfl) ?_ | fail)
    refine d7 (d6 ?_); simp -implicitDefEqProofs [g8, f9, g7, mk7] <;> try rfl
  rw [if_neg e2]
  rw [show isK a3f (nxt ts i) = false by simpa using e2] at q1
  clear e2
  by_cases e2 : isK a3e (nxt ts i) = true
  · have hlt := g9 e2
    rw [if_pos e2]
    rw [e2] at q2
    have m := o4 ts hl i (i + 1) 6 0 ⟨#[]⟩ [] (by omega) (by omega)
    clear hE e2
    refine f6 Tryz.func58 rfl rfl (Nat.le_of_ble_eq_true rfl) ?_
    repeat' (first | refine d4 ?_ | refine b8 ?_ | refine b7 ?_ | refine b9 ?_ | refine f5 rfl ?_ | refine d8 rfl ?_ | ((first | refine c5 (fun K hK => ?_) | refine d5 f8 (fun K hK => ?_) | refine a9 (cp o ?_) | refine a8 (dp o ?_) | refine a9 (cp q1 ?_) | refine a8 (dp q1 ?_) | refine a9 (cp q2 ?_) | refine a8 (dp q2 ?_) | refine a9 (cp m ?_) | refine a8 (dp m ?_) | fail); simp -implicitDefEqProofs [w1, e1]) | refine hK _ ?_ | refine hK _ _ (by rfl) ?_ | fail)
    refine d7 (d6 ?_); simp -implicitDefEqProofs [g8, f9, g7, mk7] <;> try rfl
  rw [if_neg e2]
  rw [show isK a3e (nxt ts i) = false by simpa using e2] at q2
  clear e2
  by_cases e2 : isK b96 (nxt ts i) = true
  · have hlt := g9 e2
    rw [if_pos e2]
    rw [e2] at q3
    have m := o4 ts hl i (i + 1) 18 0 ⟨#[]⟩ [] (by omega) (by omega)
    clear hE e2
    refine f6 Tryz.func58 rfl rfl (Nat.le_of_ble_eq_true rfl) ?_
    repeat' (first | refine d4 ?_ | refine b8 ?_ | refine b7 ?_ | refine b9 ?_ | refine f5 rfl ?_ | refine d8 rfl ?_ | ((first | refine c5 (fun K hK => ?_) | refine d5 f8 (fun K hK => ?_) | refine a9 (cp o ?_) | refine a8 (dp o ?_) | refine a9 (cp q1 ?_) | refine a8 (dp q1 ?_) | refine a9 (cp q2 ?_) | refine a8 (dp q2 ?_) | refine a9 (cp q3 ?_) | refine a8 (dp q3 ?_) | refine a9 (cp m ?_) | refine a8 (dp m ?_) | fail); simp -implicitDefEqProofs [w1, e1]) | refine hK _ ?_ | refine hK _ _ (by rfl) ?_ | fail)
    refine d7 (d6 ?_); simp -implicitDefEqProofs [g8, f9, g7, mk7] <;> try rfl
  rw [if_neg e2]
  rw [show isK b96 (nxt ts i) = false by simpa using e2] at q3
  clear e2
  by_cases e2 : (nxt ts i).k = 1 ∧ isK l4 (nxt ts (i + 1)) = false
  · have hlt := z4 e2.1 (by decide)
    rw [if_pos e2]
    rw [e2.2] at q4
    have e3 := e2.1
    have m := o4 ts hl i (i + 1) 19 0 (nxt ts i).s [] (by omega) (by omega)
    clear hE e2
    refine f6 Tryz.func58 rfl rfl (Nat.le_of_ble_eq_true rfl) ?_
    repeat' (first | refine d4 ?_ | refine b8 ?_ | refine b7 ?_ | refine b9 ?_ | refine f5 rfl ?_ | refine d8 rfl ?_ | ((first | refine c5 (fun K hK => ?_) | refine d5 f8 (fun K hK => ?_) | refine a9 (cp o ?_) | refine a8 (dp o ?_) | refine a9 (cp q1 ?_) | refine a8 (dp q1 ?_) | refine a9 (cp q2 ?_) | refine a8 (dp q2 ?_) | refine a9 (cp q3 ?_) | refine a8 (dp q3 ?_) | refine a9 (cp q4 ?_) | refine a8 (dp q4 ?_) | refine a9 (cp m ?_) | refine a8 (dp m ?_) | fail); simp -implicitDefEqProofs [w1, e1, e3]) | refine hK _ ?_ | refine hK _ _ (by rfl) ?_ | fail)
    refine d7 (d6 ?_); simp -implicitDefEqProofs [g8, f9, g7, mk7] <;> try rfl
  rw [if_neg e2]
  have hc := b08 ts hl i hi hE
  by_cases e3 : (nxt ts i).k = 1
  · rw [show isK l4 (nxt ts (i + 1)) = true by simpa [e3] using e2] at q4
    have e5 : isK l4 (nxt ts i) = false := by unfold isK; rw [e3, show quo l4 = 4 by decide]; rfl
    rw [e5] at q5 ⊢
    rw [if_neg (by decide)]
    obtain ⟨⟨⟨rx, rl⟩, r2, r3⟩, hr⟩ : ∃ r, a61 ts (Qx ts 1) i = r := ⟨_, rfl⟩
    rw [hr] at hc ⊢
    clear hE e2 hr e5
    refine f6 Tryz.func58 rfl rfl (Nat.le_of_ble_eq_true rfl) ?_
    repeat' (first | refine d4 ?_ | refine b8 ?_ | refine b7 ?_ | refine b9 ?_ | refine f5 rfl ?_ | refine d8 rfl ?_ | ((first | refine c5 (fun K hK => ?_) | refine d5 f8 (fun K hK => ?_) | refine a9 (cp o ?_) | refine a8 (dp o ?_) | refine a9 (cp q1 ?_) | refine a8 (dp q1 ?_) | refine a9 (cp q2 ?_) | refine a8 (dp q2 ?_) | refine a9 (cp q3 ?_) | refine a8 (dp q3 ?_) | refine a9 (cp q4 ?_) | refine a8 (dp q4 ?_) | refine a9 (cp q5 ?_) | refine a8 (dp q5 ?_) | refine a9 (cp hc ?_) | refine a8 (dp hc ?_) | fail); simp -implicitDefEqProofs [w1, e1, e3]) | refine hK _ ?_ | refine hK _ _ (by rfl) ?_ | fail)
    refine d7 (d6 ?_); simp -implicitDefEqProofs [g8, f9, g7] <;> try rfl
  clear e2
  by_cases e5 : isK l4 (nxt ts i) = true; rotate_left
  · rw [if_neg e5]
    rw [show isK l4 (nxt ts i) = false by simpa using e5] at q5
    obtain ⟨⟨⟨rx, rl⟩, r2, r3⟩, hr⟩ : ∃ r, a61 ts (Qx ts 1) i = r := ⟨_, rfl⟩
    rw [hr] at hc ⊢
    clear hE hr e5
    refine f6 Tryz.func58 rfl rfl (Nat.le_of_ble_eq_true rfl) ?_
    repeat' (first | refine d4 ?_ | refine b8 ?_ | refine b7 ?_ | refine b9 ?_ | refine f5 rfl ?_ | refine d8 rfl ?_ | ((first | refine c5 (fun K hK => ?_) | refine d5 f8 (fun K hK => ?_) | refine a9 (cp o ?_) | refine a8 (dp o ?_) | refine a9 (cp q1 ?_) | refine a8 (dp q1 ?_) | refine a9 (cp q2 ?_) | refine a8 (dp q2 ?_) | refine a9 (cp q3 ?_) | refine a8 (dp q3 ?_) | refine a9 (cp q4 ?_) | refine a8 (dp q4 ?_) | refine a9 (cp q5 ?_) | refine a8 (dp q5 ?_) | refine a9 (cp hc ?_) | refine a8 (dp hc ?_) | fail); simp -implicitDefEqProofs [w1, e1, e3]) | refine hK _ ?_ | refine hK _ _ (by rfl) ?_ | fail)
    refine d7 (d6 ?_); simp -implicitDefEqProofs [g8, f9, g7] <;> try rfl
  rw [if_pos e5]
  have hlt := g9 e5
  rw [e5] at q5
  have hq := hE (i + 1) (by omega) (by omega)
  have hk := b4d (ts := ts) 1 (i + 1) (by omega)
  obtain ⟨⟨⟨rx, rl⟩, r2, r3⟩, hr⟩ : ∃ r, Qx ts 1 (i + 1) = r := ⟨_, rfl⟩
  rw [hr] at hq hk ⊢
  by_cases hr3 : r3 = 0; rotate_left
  · rw [if_pos hr3]
    clear hr hE hk e5 hc
    refine f6 Tryz.func58 rfl rfl (Nat.le_of_ble_eq_true rfl) ?_
    repeat' (first | refine d4 ?_ | refine b8 ?_ | refine b7 ?_ | refine b9 ?_ | refine f5 rfl ?_ | refine d8 rfl ?_ | ((first | refine c5 (fun K hK => ?_) | refine d5 f8 (fun K hK => ?_) | refine a9 (cp o ?_) | refine a8 (dp o ?_) | refine a9 (cp q1 ?_) | refine a8 (dp q1 ?_) | refine a9 (cp q2 ?_) | refine a8 (dp q2 ?_) | refine a9 (cp q3 ?_) | refine a8 (dp q3 ?_) | refine a9 (cp q4 ?_) | refine a8 (dp q4 ?_) | refine a9 (cp q5 ?_) | refine a8 (dp q5 ?_) | refine a9 (cp hq ?_) | refine a8 (dp hq ?_) | fail); simp -implicitDefEqProofs [hr3, w1, e1, e3]) | refine hK _ ?_ | refine hK _ _ (by rfl) ?_ | fail)
    refine d7 (d6 ?_); simp -implicitDefEqProofs [g8, f9, g7] <;> try rfl
  subst hr3
  rw [if_neg (by simp)]
  have hyy := hk.yes rfl
  dsimp only at hyy ⊢
  have q6 := i5 ts r2 l5
  rw [j0 (by decide)] at q6
  have w2 : IntKind.i64.wrap ((r2 : Nat) + 1 : Int) = (r2 : Nat) + 1 := k9 _ (by omega) (by omega)
  by_cases e6 : isK l5 (nxt ts r2) = true; rotate_left
  · have e6 : isK l5 (nxt ts r2) = false := by simpa using e6
    rw [if_pos e6]
    rw [e6] at q6
    have b := l6 r2
    clear hr hE hk e5 hc e6
    refine f6 Tryz.func58 rfl rfl (Nat.le_of_ble_eq_true rfl) ?_
    repeat' (first | refine d4 ?_ | refine b8 ?_ | refine b7 ?_ | refine b9 ?_ | refine f5 rfl ?_ | refine d8 rfl ?_ | ((first | refine c5 (fun K hK => ?_) | refine d5 f8 (fun K hK => ?_) | refine a9 (cp o ?_) | refine a8 (dp o ?_) | refine a9 (cp q1 ?_) | refine a8 (dp q1 ?_) | refine a9 (cp q2 ?_) | refine a8 (dp q2 ?_) | refine a9 (cp q3 ?_) | refine a8 (dp q3 ?_) | refine a9 (cp q4 ?_) | refine a8 (dp q4 ?_) | refine a9 (cp q5 ?_) | refine a8 (dp q5 ?_) | refine a9 (cp hq ?_) | refine a8 (dp hq ?_) | refine a9 (cp q6 ?_) | refine a8 (dp q6 ?_) | refine a9 (cp b ?_) | refine a8 (dp b ?_) | fail); simp -implicitDefEqProofs [w1, e1, e3]) | refine hK _ ?_ | refine hK _ _ (by rfl) ?_ | fail)
    refine d7 (d6 ?_); simp -implicitDefEqProofs [g8, f9, g7, n6, z0] <;> try rfl
  rw [if_neg (by simp [e6])]
  rw [e6] at q6
  clear hr hE hk e5 hc e6
  refine f6 Tryz.func58 rfl rfl (Nat.le_of_ble_eq_true rfl) ?_
  repeat' (first | refine d4 ?_ | refine b8 ?_ | refine b7 ?_ | refine b9 ?_ | refine f5 rfl ?_ | refine d8 rfl ?_ | ((first | refine c5 (fun K hK => ?_) | refine d5 f8 (fun K hK => ?_) | refine a9 (cp o ?_) | refine a8 (dp o ?_) | refine a9 (cp q1 ?_) | refine a8 (dp q1 ?_) | refine a9 (cp q2 ?_) | refine a8 (dp q2 ?_) | refine a9 (cp q3 ?_) | refine a8 (dp q3 ?_) | refine a9 (cp q4 ?_) | refine a8 (dp q4 ?_) | refine a9 (cp q5 ?_) | refine a8 (dp q5 ?_) | refine a9 (cp hq ?_) | refine a8 (dp hq ?_) | refine a9 (cp q6 ?_) | refine a8 (dp q6 ?_) | fail); simp -implicitDefEqProofs [w1, w2, e1, e3]) | refine hK _ ?_ | refine hK _ _ (by rfl) ?_ | fail)
  refine d7 (d6 ?_); simp -implicitDefEqProofs [g8, f9, g7] <;> try rfl
theorem b2e : ∀ (n w i : Nat), 1 ≤ w → w ≤ 8 → i ≤ ts.length → me ts w i < n →
    (w ≤ 6 → Row Tryz.prog 80 [vKs ts, vI i, vI (w : Nat)] [] (vG (Qx ts w i)) []) ∧
    (w = 6 → Row Tryz.prog 88 [vKs ts, vI i] [] (vG (Qx ts 6 i)) []) ∧
    (w = 7 → Row Tryz.prog 100 [vKs ts, vI i] [] (vG (Qx ts 7 i)) []) ∧
    (w = 8 → Row Tryz.prog 58 [vKs ts, vI i] [] (vG (Qx ts 8 i)) []) := by
  intro n
  induction n with
  | zero => intro w i _ _ _ h; omega
  | succ n ih =>
  intro w i hw1 hw8 hi hn
  have hE : ∀ j, i < j → j ≤ ts.length → Row Tryz.prog 73 [vKs ts, vI j] [] (vG (Qx ts 1 j)) [] := fun j h1 h2 =>
    b7b ts j ((ih 1 j (by omega) (by omega) h2 (by unfold me at hn ⊢; omega)).1 (by omega))
  have hun : w = 6 → Row Tryz.prog 88 [vKs ts, vI i] [] (vG (Qx ts 6 i)) [] := fun h => by
    subst h
    exact c67 ts hl i hi ((ih 7 i (by omega) (by omega) hi (by unfold me at hn ⊢; omega)).2.2.1 rfl) (fun hlt => (ih 6 (i + 1) (by omega) (by omega) (by omega) (by unfold me at hn ⊢; omega)).2.1 rfl)
  refine ⟨fun h => ?_, hun, fun h => ?_, fun h => ?_⟩
  · by_cases h6 : w = 6
    · subst h6
      exact c1p ts i (hun rfl)
    · exact c1q ts hl w hw1 (by omega) i hi (fun j h1 h2 => (ih (w + 1) j (by omega) (by omega) h2 (by unfold me at hn ⊢; omega)).1 (by omega))
  · exact b8j ts hl i hi ((ih 8 i (by omega) (by omega) hi (by unfold me at hn ⊢; omega)).2.2.2 rfl) hE
  · exact b6q ts hl i hi hE
theorem b8s (i : Nat) (hi : i ≤ ts.length) : Row Tryz.prog 73 [vKs ts, vI i] [] (vG (Qx ts 1 i)) [] :=
  b7b ts i ((b2e ts hl _ 1 i (by decide) (by decide) hi (Nat.lt_succ_self _)).1 (by decide))
end
end Go.Proofs.YthkfdheoakbfnaaGreat.am
end
section
namespace Go.Proofs.YthkfdheoakbfnaaGreat.am
open Go.ChangeShapes Go.WideShapes Go.ChangeAt Go.RowKit
open vt
set_option linter.unusedVariables false
set_option linter.unusedSimpArgs false
theorem a9v (ts : List Tok) (hl : ts.length ≤ 9223372036854775000) : ∀ n i, ts.length - i < n → i ≤ ts.length → Row Tryz.prog 57 [vKs ts, vI i] [] (vG (tyG ts n i)) [] := by
  intro n
  induction n with
  | zero => intro i h; omega
  | succ n ih =>
  intro i hn hi
  have q1 := j9 ts i c2w
  rw [l8 (by decide)] at q1
  have q2 := j9 ts i b0i
  rw [l8 (by decide)] at q2
  have q3 := i5 ts i t8
  rw [j0 (by decide)] at q3
  have o := s4 ts i
  have w1 : IntKind.i64.wrap ((i : Nat) + 1 : Int) = (i : Nat) + 1 := k9 _ (by omega) (by omega)
  have w2 : IntKind.i64.wrap ((i : Nat) + 2 : Int) = (i : Nat) + 2 := k9 _ (by omega) (by omega)
  have w3 : IntKind.i64.wrap ((i : Nat) + 3 : Int) = (i : Nat) + 3 := k9 _ (by omega) (by omega)
  by_cases h1 : isK c2w (nxt ts i) = true
  · rw [c66 h1]
    rw [h1] at q1
    obtain ⟨x, hx, _⟩ := a6a h1
    have hil := (List.getElem?_eq_some_iff.1 hx).1
    have m := a01 ts i (i + 1) 1 0 ⟨#[]⟩ [] hil (by omega) (by omega) (by omega)
    rw [Nat.add_sub_cancel] at m
    refine f6 Tryz.func57 rfl rfl (Nat.le_of_ble_eq_true rfl) ?_
    repeat' (first | refine d4 ?_ | refine b8 ?_ | refine b7 ?_ | refine b9 ?_ | refine f5 rfl ?_ | refine d8 rfl ?_ | ((first | refine c5 (fun K hK => ?_) | refine d5 f8 (fun K hK => ?_) | refine a9 (cp q1 ?_) | refine a8 (dp q1 ?_) | refine a9 (cp m ?_) | refine a8 (dp m ?_) | fail); simp -implicitDefEqProofs [w1]) | refine hK _ ?_ | refine hK _ _ (by rfl) ?_ | fail)
    refine d7 (d6 ?_); simp -implicitDefEqProofs [g8, f9, g7] <;> try rfl
  have h1 : isK c2w (nxt ts i) = false := by simpa using h1
  rw [h1] at q1
  by_cases h2 : isK b0i (nxt ts i) = true
  · rw [c2s h1 h2]
    rw [h2] at q2
    obtain ⟨x, hx, _⟩ := a6a h2
    have hil := (List.getElem?_eq_some_iff.1 hx).1
    have m := a01 ts i (i + 1) 2 0 ⟨#[]⟩ [] hil (by omega) (by omega) (by omega)
    rw [Nat.add_sub_cancel] at m
    refine f6 Tryz.func57 rfl rfl (Nat.le_of_ble_eq_true rfl) ?_
    repeat' (first | refine d4 ?_ | refine b8 ?_ | refine b7 ?_ | refine b9 ?_ | refine f5 rfl ?_ | refine d8 rfl ?_ | ((first | refine c5 (fun K hK => ?_) | refine d5 f8 (fun K hK => ?_) | refine a9 (cp q1 ?_) | refine a8 (dp q1 ?_) | refine a9 (cp q2 ?_) | refine a8 (dp q2 ?_) | refine a9 (cp m ?_) | refine a8 (dp m ?_) | fail); simp -implicitDefEqProofs [w1]) | refine hK _ ?_ | refine hK _ _ (by rfl) ?_ | fail)
    refine d7 (d6 ?_); simp -implicitDefEqProofs [g8, f9, g7] <;> try rfl
  have h2 : isK b0i (nxt ts i) = false := by simpa using h2
  rw [h2] at q2
  by_cases h4 : (nxt ts i).k = 1
  · have h3 : isK t8 (nxt ts i) = false := by unfold isK; rw [h4]; rfl
    rw [b9y h1 h2 h3, if_pos h4]
    obtain ⟨x, hx, hxn, hxk⟩ := a24 h4 (by omega)
    have hil := (List.getElem?_eq_some_iff.1 hx).1
    rw [hxn] at o ⊢
    obtain ⟨xk, xn, xs, xf, xt⟩ := x
    dsimp only at hxk
    subst hxk
    have m := a01 ts i (i + 1) 4 0 xs [] hil (by omega) (by omega) (by omega)
    rw [Nat.add_sub_cancel] at m
    clear h1 h2 h3 h4 hx hxn
    refine f6 Tryz.func57 rfl rfl (Nat.le_of_ble_eq_true rfl) ?_
    repeat' (first | refine d4 ?_ | refine b8 ?_ | refine b7 ?_ | refine b9 ?_ | refine f5 rfl ?_ | refine d8 rfl ?_ | ((first | refine c5 (fun K hK => ?_) | refine d5 f8 (fun K hK => ?_) | refine a9 (cp q1 ?_) | refine a8 (dp q1 ?_) | refine a9 (cp q2 ?_) | refine a8 (dp q2 ?_) | refine a9 (cp o ?_) | refine a8 (dp o ?_) | refine a9 (cp m ?_) | refine a8 (dp m ?_) | fail); simp -implicitDefEqProofs [w1]) | refine hK _ ?_ | refine hK _ _ (by rfl) ?_ | fail)
    refine d7 (d6 ?_); simp -implicitDefEqProofs [g8, f9, g7] <;> try rfl
  obtain ⟨⟨ok, on, os, of', ot⟩, hon⟩ : ∃ x, nxt ts i = x := ⟨_, rfl⟩
  have h4' : ¬ ok = 1 := by rw [hon] at h4; exact h4
  by_cases h3 : isK t8 (nxt ts i) = true; rotate_left
  · have h3 : isK t8 (nxt ts i) = false := by simpa using h3
    rw [b9y h1 h2 h3, if_neg h4]
    rw [h3] at q3
    rw [hon] at o
    have b := l6 i
    clear h1 h2 h3 h4 hon
    refine f6 Tryz.func57 rfl rfl (Nat.le_of_ble_eq_true rfl) ?_
    repeat' (first | refine d4 ?_ | refine b8 ?_ | refine b7 ?_ | refine b9 ?_ | refine f5 rfl ?_ | refine d8 rfl ?_ | ((first | refine c5 (fun K hK => ?_) | refine d5 f8 (fun K hK => ?_) | refine a9 (cp q1 ?_) | refine a8 (dp q1 ?_) | refine a9 (cp q2 ?_) | refine a8 (dp q2 ?_) | refine a9 (cp o ?_) | refine a8 (dp o ?_) | refine a9 (cp q3 ?_) | refine a8 (dp q3 ?_) | refine a9 (cp b ?_) | refine a8 (dp b ?_) | fail); simp -implicitDefEqProofs [h4']) | refine hK _ ?_ | refine hK _ _ (by rfl) ?_ | fail)
    refine d7 (d6 ?_); simp -implicitDefEqProofs [g8, f9, g7, z0] <;> try rfl
  rw [c65 h1 h2 h3]
  rw [h3] at q3
  rw [hon] at o
  obtain ⟨x, hx, _⟩ := a6a h3
  have hil := (List.getElem?_eq_some_iff.1 hx).1
  have o1 := s4 ts (i + 1)
  clear h1 h2 h3 h4 hon hx
  by_cases h5 : (nxt ts (i + 1)).k = 2; rotate_left
  · rw [if_neg h5]
    obtain ⟨⟨pk, pn, ps, pf, pt⟩, hp⟩ : ∃ x, nxt ts (i + 1) = x := ⟨_, rfl⟩
    rw [hp] at o1 h5
    dsimp only at h5
    have b := l6 (i + 1)
    refine f6 Tryz.func57 rfl rfl (Nat.le_of_ble_eq_true rfl) ?_
    repeat' (first | refine d4 ?_ | refine b8 ?_ | refine b7 ?_ | refine b9 ?_ | refine f5 rfl ?_ | refine d8 rfl ?_ | ((first | refine c5 (fun K hK => ?_) | refine d5 f8 (fun K hK => ?_) | refine a9 (cp q1 ?_) | refine a8 (dp q1 ?_) | refine a9 (cp q2 ?_) | refine a8 (dp q2 ?_) | refine a9 (cp o ?_) | refine a8 (dp o ?_) | refine a9 (cp q3 ?_) | refine a8 (dp q3 ?_) | refine a9 (cp o1 ?_) | refine a8 (dp o1 ?_) | refine a9 (cp b ?_) | refine a8 (dp b ?_) | fail); simp -implicitDefEqProofs [h4', h5, w1]) | refine hK _ ?_ | refine hK _ _ (by rfl) ?_ | fail)
    refine d7 (d6 ?_); simp -implicitDefEqProofs [g8, f9, g7, z0] <;> try rfl
  rw [if_pos h5]
  obtain ⟨⟨pk, pn, ps, pf, pt⟩, hp⟩ : ∃ x, nxt ts (i + 1) = x := ⟨_, rfl⟩
  rw [hp] at o1 h5 ⊢
  dsimp only at h5 ⊢
  subst h5
  have q4 := i5 ts (i + 2) t9
  rw [j0 (by decide)] at q4
  by_cases h6 : isK t9 (nxt ts (i + 2)) = true; rotate_left
  · rw [if_neg h6]
    rw [show isK t9 (nxt ts (i + 2)) = false by simpa using h6] at q4
    have b := l6 (i + 2)
    clear h6 hp
    refine f6 Tryz.func57 rfl rfl (Nat.le_of_ble_eq_true rfl) ?_
    repeat' (first | refine d4 ?_ | refine b8 ?_ | refine b7 ?_ | refine b9 ?_ | refine f5 rfl ?_ | refine d8 rfl ?_ | ((first | refine c5 (fun K hK => ?_) | refine d5 f8 (fun K hK => ?_) | refine a9 (cp q1 ?_) | refine a8 (dp q1 ?_) | refine a9 (cp q2 ?_) | refine a8 (dp q2 ?_) | refine a9 (cp o ?_) | refine a8 (dp o ?_) | refine a9 (cp q3 ?_) | refine a8 (dp q3 ?_) | refine a9 (cp o1 ?_) | refine a8 (dp o1 ?_) | refine a9 (cp q4 ?_) | refine a8 (dp q4 ?_) | refine a9 (cp b ?_) | refine a8 (dp b ?_) | fail); simp -implicitDefEqProofs [h4', w1, w2]) | refine hK _ ?_ | refine hK _ _ (by rfl) ?_ | fail)
    refine d7 (d6 ?_); simp -implicitDefEqProofs [g8, f9, g7, z0] <;> try rfl
  rw [if_pos h6]
  rw [h6] at q4
  obtain ⟨z, hz, _⟩ := a6a h6
  have hil2 := (List.getElem?_eq_some_iff.1 hz).1
  have y1 := ih (i + 3) (by omega) (by omega)
  obtain ⟨g1, g2, g3, _⟩ := b3y ts n (i + 3)
  obtain ⟨⟨⟨px, pl⟩, j, e⟩, hr⟩ : ∃ r, tyG ts n (i + 3) = r := ⟨_, rfl⟩
  rw [hr] at y1 g1 g2 g3 ⊢
  dsimp only at g1 g2 g3 ⊢
  clear hr ih hz h6 hp
  by_cases he : e = 0
  · subst he
    rw [if_pos rfl]
    obtain ⟨g4, g5⟩ := g1 rfl
    have m := a01 ts i j 3 pn ⟨#[]⟩ [.mk px pl] hil (by omega) g5 (by omega)
    refine f6 Tryz.func57 rfl rfl (Nat.le_of_ble_eq_true rfl) ?_
    repeat' (first | refine d4 ?_ | refine b8 ?_ | refine b7 ?_ | refine b9 ?_ | refine f5 rfl ?_ | refine d8 rfl ?_ | ((first | refine c5 (fun K hK => ?_) | refine d5 f8 (fun K hK => ?_) | refine a9 (cp q1 ?_) | refine a8 (dp q1 ?_) | refine a9 (cp q2 ?_) | refine a8 (dp q2 ?_) | refine a9 (cp o ?_) | refine a8 (dp o ?_) | refine a9 (cp q3 ?_) | refine a8 (dp q3 ?_) | refine a9 (cp o1 ?_) | refine a8 (dp o1 ?_) | refine a9 (cp q4 ?_) | refine a8 (dp q4 ?_) | refine a9 (cp y1 ?_) | refine a8 (dp y1 ?_) | refine a9 (cp m ?_) | refine a8 (dp m ?_) | fail); simp -implicitDefEqProofs [h4', w1, w2, w3]) | refine hK _ ?_ | refine hK _ _ (by rfl) ?_ | fail)
    refine d7 (d6 ?_); simp -implicitDefEqProofs [g8, f9, g7] <;> try rfl
  · rw [if_neg he]
    clear g1 g2 g3
    refine f6 Tryz.func57 rfl rfl (Nat.le_of_ble_eq_true rfl) ?_
    repeat' (first | refine d4 ?_ | refine b8 ?_ | refine b7 ?_ | refine b9 ?_ | refine f5 rfl ?_ | refine d8 rfl ?_ | ((first | refine c5 (fun K hK => ?_) | refine d5 f8 (fun K hK => ?_) | refine a9 (cp q1 ?_) | refine a8 (dp q1 ?_) | refine a9 (cp q2 ?_) | refine a8 (dp q2 ?_) | refine a9 (cp o ?_) | refine a8 (dp o ?_) | refine a9 (cp q3 ?_) | refine a8 (dp q3 ?_) | refine a9 (cp o1 ?_) | refine a8 (dp o1 ?_) | refine a9 (cp q4 ?_) | refine a8 (dp q4 ?_) | refine a9 (cp y1 ?_) | refine a8 (dp y1 ?_) | fail); simp -implicitDefEqProofs [h4', w1, w2, w3, he]) | refine hK _ ?_ | refine hK _ _ (by rfl) ?_ | fail)
    refine d7 (d6 ?_); simp -implicitDefEqProofs [g8, f9, g7] <;> try rfl
end Go.Proofs.YthkfdheoakbfnaaGreat.am
end
section
namespace Go.Proofs.YthkfdheoakbfnaaGreat.am
open Go.ChangeShapes Go.WideShapes Go.ChangeAt Go.RowKit
open vt
set_option linter.unusedVariables false
set_option linter.unusedSimpArgs false
theorem td_item : td Tryz.prog 110 = some ⟨true, 2, 32, [.lit (.string ⟨#[]⟩), .lit (.string ⟨#[]⟩)], [(0, 1, false), (1, 1, false)], .struct⟩ := Eq.trans (by kernel_rfl) (Eq.refl _)
theorem td_items : td Tryz.prog 106 = some ⟨false, 1, 24, [.nilS], [], (.slice 110)⟩ := Eq.trans (by kernel_rfl) (Eq.refl _)
attribute [simp] td_item td_items
def ic : It → List PV
  | .sgn s => [Sx (if quo s = 3 then ⟨#[119, 111, 114, 100]⟩ else ⟨#[115, 105, 103, 110]⟩), Sx s]
  | .nam => [Sx ⟨#[110, 97, 109, 101]⟩, Sx ⟨#[]⟩]
  | .sub w => [Sx (if w = 0 then ⟨#[101, 120, 112, 114]⟩ else if w = 1 then ⟨#[116, 121, 112, 101]⟩ else ⟨#[98, 108, 111, 99, 107]⟩), Sx ⟨#[]⟩]
  | .els => [Sx ⟨#[101, 108, 115, 101]⟩, Sx ⟨#[]⟩]
noncomputable abbrev vFo (r : Int × List It) : AV := .tup [.c (.pv (I r.1)), .c (.pv (.sl 2 (r.2.map ic)))]
theorem c19 : quo c2x = 3 := by decide
theorem q_if : quo wIf = 3 := by decide
theorem q_else : quo a79 = 3 := by decide
theorem c4f : quo b2c = 3 := by decide
theorem q_for : quo c7d = 3 := by decide
theorem q_to : quo wTo = 3 := by decide
theorem c4e : quo b2b = 3 := by decide
theorem q_ret : quo c7g = 3 := by decide
theorem q_do : quo wDo = 3 := by decide
theorem c1y : quo a8g = 4 := by decide
theorem q_ket : quo a90 = 4 := by decide
theorem c1z : quo a1p = 4 := by decide
theorem q_is : quo sIs = 4 := by decide
theorem a5i : quo a04 = 4 := by decide
section
variable (ts : List Tok) (hl : ts.length ≤ 1000000000)
include hl
theorem c1k (i : Nat) (hi : i ≤ ts.length) : Row Tryz.prog 82 [vKs ts, vI i] [] (vFo (b1g ts i)) [] := by
  have w1 : IntKind.i64.wrap ((i : Nat) + 1 : Int) = (i : Nat) + 1 := k9 _ (by omega) (by omega)
  have w2 : IntKind.i64.wrap ((i : Nat) + 2 : Int) = (i : Nat) + 2 := k9 _ (by omega) (by omega)
  have a1 := j9 ts i c2x
  rw [l8 c19] at a1
  unfold b1g
  by_cases h1 : isK c2x (nxt ts i) = true
  · rw [if_pos h1]
    rw [h1] at a1
    have o := s4 ts (i + 1)
    have s := i5 ts (i + 2) a1p
    rw [j0 c1z] at s
    by_cases h2 : (nxt ts (i + 1)).k = 1
    · by_cases h3 : isK a1p (nxt ts (i + 2)) = true
      · rw [if_pos ⟨h2, h3⟩]
        rw [h3] at s
        clear h1 h3
        refine f6 Tryz.func82 rfl rfl (Nat.le_of_ble_eq_true rfl) ?_
        repeat' (first | refine d4 ?_ | refine b8 ?_ | refine b7 ?_ | refine b9 ?_ | refine f5 rfl ?_ | refine d8 rfl ?_ | ((first | refine c5 (fun K hK => ?_) | refine d5 f8 (fun K hK => ?_) | refine a9 (cp a1 ?_) | refine a8 (dp a1 ?_) | refine a9 (cp o ?_) | refine a8 (dp o ?_) | refine a9 (cp s ?_) | refine a8 (dp s ?_) | fail); simp -implicitDefEqProofs [w1, w2, h2]) | refine hK _ ?_ | refine hK _ _ (by rfl) ?_ | fail)
        refine d7 (d6 ?_); simp -implicitDefEqProofs [g8, f9, g7, ic, c19, c1z, a5i] <;> try rfl
      · rw [if_neg (fun h => h3 h.2)]
        rw [show isK a1p (nxt ts (i + 2)) = false by simpa using h3] at s
        clear h1 h3
        refine f6 Tryz.func82 rfl rfl (Nat.le_of_ble_eq_true rfl) ?_
        repeat' (first | refine d4 ?_ | refine b8 ?_ | refine b7 ?_ | refine b9 ?_ | refine f5 rfl ?_ | refine d8 rfl ?_ | ((first | refine c5 (fun K hK => ?_) | refine d5 f8 (fun K hK => ?_) | refine a9 (cp a1 ?_) | refine a8 (dp a1 ?_) | refine a9 (cp o ?_) | refine a8 (dp o ?_) | refine a9 (cp s ?_) | refine a8 (dp s ?_) | fail); simp -implicitDefEqProofs [w1, w2, h2]) | refine hK _ ?_ | refine hK _ _ (by rfl) ?_ | fail)
        refine d7 (d6 ?_); simp -implicitDefEqProofs [g8, f9, g7, ic, c19, q_is, a5i] <;> try rfl
    · rw [if_neg (fun h => h2 h.1)]
      clear h1
      refine f6 Tryz.func82 rfl rfl (Nat.le_of_ble_eq_true rfl) ?_
      repeat' (first | refine d4 ?_ | refine b8 ?_ | refine b7 ?_ | refine b9 ?_ | refine f5 rfl ?_ | refine d8 rfl ?_ | ((first | refine c5 (fun K hK => ?_) | refine d5 f8 (fun K hK => ?_) | refine a9 (cp a1 ?_) | refine a8 (dp a1 ?_) | refine a9 (cp o ?_) | refine a8 (dp o ?_) | refine a9 (cp s ?_) | refine a8 (dp s ?_) | fail); simp -implicitDefEqProofs [w1, w2, h2]) | refine hK _ ?_ | refine hK _ _ (by rfl) ?_ | fail)
      refine d7 (d6 ?_); simp -implicitDefEqProofs [g8, f9, g7, ic, c19, q_is, a5i] <;> try rfl
  rw [if_neg h1]
  rw [show isK c2x (nxt ts i) = false by simpa using h1] at a1
  have a2 := j9 ts i wIf
  rw [l8 q_if] at a2
  by_cases h2 : isK wIf (nxt ts i) = true
  · rw [if_pos h2]
    rw [h2] at a2
    clear h1 h2
    refine f6 Tryz.func82 rfl rfl (Nat.le_of_ble_eq_true rfl) ?_
    repeat' (first | refine d4 ?_ | refine b8 ?_ | refine b7 ?_ | refine b9 ?_ | refine f5 rfl ?_ | refine d8 rfl ?_ | ((first | refine c5 (fun K hK => ?_) | refine d5 f8 (fun K hK => ?_) | refine a9 (cp a1 ?_) | refine a8 (dp a1 ?_) | refine a9 (cp a2 ?_) | refine a8 (dp a2 ?_) | fail); simp -implicitDefEqProofs) | refine hK _ ?_ | refine hK _ _ (by rfl) ?_ | fail)
    refine d7 (d6 ?_); simp -implicitDefEqProofs [g8, f9, g7, ic, q_if] <;> try rfl
  rw [if_neg h2]
  rw [show isK wIf (nxt ts i) = false by simpa using h2] at a2
  have a3 := j9 ts i b2c
  rw [l8 c4f] at a3
  by_cases h3 : isK b2c (nxt ts i) = true
  · rw [if_pos h3]
    rw [h3] at a3
    clear h1 h2 h3
    refine f6 Tryz.func82 rfl rfl (Nat.le_of_ble_eq_true rfl) ?_
    repeat' (first | refine d4 ?_ | refine b8 ?_ | refine b7 ?_ | refine b9 ?_ | refine f5 rfl ?_ | refine d8 rfl ?_ | ((first | refine c5 (fun K hK => ?_) | refine d5 f8 (fun K hK => ?_) | refine a9 (cp a1 ?_) | refine a8 (dp a1 ?_) | refine a9 (cp a2 ?_) | refine a8 (dp a2 ?_) | refine a9 (cp a3 ?_) | refine a8 (dp a3 ?_) | fail); simp -implicitDefEqProofs) | refine hK _ ?_ | refine hK _ _ (by rfl) ?_ | fail)
    refine d7 (d6 ?_); simp -implicitDefEqProofs [g8, f9, g7, ic, c4f] <;> try rfl
  rw [if_neg h3]
  rw [show isK b2c (nxt ts i) = false by simpa using h3] at a3
  have a4 := j9 ts i c7d
  rw [l8 q_for] at a4
  by_cases h4 : isK c7d (nxt ts i) = true
  · rw [if_pos h4]
    rw [h4] at a4
    clear h1 h2 h3 h4
    refine f6 Tryz.func82 rfl rfl (Nat.le_of_ble_eq_true rfl) ?_
    repeat' (first | refine d4 ?_ | refine b8 ?_ | refine b7 ?_ | refine b9 ?_ | refine f5 rfl ?_ | refine d8 rfl ?_ | ((first | refine c5 (fun K hK => ?_) | refine d5 f8 (fun K hK => ?_) | refine a9 (cp a1 ?_) | refine a8 (dp a1 ?_) | refine a9 (cp a2 ?_) | refine a8 (dp a2 ?_) | refine a9 (cp a3 ?_) | refine a8 (dp a3 ?_) | refine a9 (cp a4 ?_) | refine a8 (dp a4 ?_) | fail); simp -implicitDefEqProofs) | refine hK _ ?_ | refine hK _ _ (by rfl) ?_ | fail)
    refine d7 (d6 ?_); simp -implicitDefEqProofs [g8, f9, g7, ic, q_for, q_is, q_to] <;> try rfl
  rw [if_neg h4]
  rw [show isK c7d (nxt ts i) = false by simpa using h4] at a4
  have a5 := j9 ts i b2b
  rw [l8 c4e] at a5
  by_cases h5 : isK b2b (nxt ts i) = true
  · rw [if_pos h5]
    rw [h5] at a5
    clear h1 h2 h3 h4 h5
    refine f6 Tryz.func82 rfl rfl (Nat.le_of_ble_eq_true rfl) ?_
    repeat' (first | refine d4 ?_ | refine b8 ?_ | refine b7 ?_ | refine b9 ?_ | refine f5 rfl ?_ | refine d8 rfl ?_ | ((first | refine c5 (fun K hK => ?_) | refine d5 f8 (fun K hK => ?_) | refine a9 (cp a1 ?_) | refine a8 (dp a1 ?_) | refine a9 (cp a2 ?_) | refine a8 (dp a2 ?_) | refine a9 (cp a3 ?_) | refine a8 (dp a3 ?_) | refine a9 (cp a4 ?_) | refine a8 (dp a4 ?_) | refine a9 (cp a5 ?_) | refine a8 (dp a5 ?_) | fail); simp -implicitDefEqProofs) | refine hK _ ?_ | refine hK _ _ (by rfl) ?_ | fail)
    refine d7 (d6 ?_); simp -implicitDefEqProofs [g8, f9, g7, ic, c4e, a5i] <;> try rfl
  rw [if_neg h5]
  rw [show isK b2b (nxt ts i) = false by simpa using h5] at a5
  have a6 := j9 ts i c7g
  rw [l8 q_ret] at a6
  by_cases h6 : isK c7g (nxt ts i) = true
  · rw [if_pos h6]
    rw [h6] at a6
    clear h1 h2 h3 h4 h5 h6
    refine f6 Tryz.func82 rfl rfl (Nat.le_of_ble_eq_true rfl) ?_
    repeat' (first | refine d4 ?_ | refine b8 ?_ | refine b7 ?_ | refine b9 ?_ | refine f5 rfl ?_ | refine d8 rfl ?_ | ((first | refine c5 (fun K hK => ?_) | refine d5 f8 (fun K hK => ?_) | refine a9 (cp a1 ?_) | refine a8 (dp a1 ?_) | refine a9 (cp a2 ?_) | refine a8 (dp a2 ?_) | refine a9 (cp a3 ?_) | refine a8 (dp a3 ?_) | refine a9 (cp a4 ?_) | refine a8 (dp a4 ?_) | refine a9 (cp a5 ?_) | refine a8 (dp a5 ?_) | refine a9 (cp a6 ?_) | refine a8 (dp a6 ?_) | fail); simp -implicitDefEqProofs) | refine hK _ ?_ | refine hK _ _ (by rfl) ?_ | fail)
    refine d7 (d6 ?_); simp -implicitDefEqProofs [g8, f9, g7, ic, q_ret, a5i] <;> try rfl
  rw [if_neg h6]
  rw [show isK c7g (nxt ts i) = false by simpa using h6] at a6
  have a7 := j9 ts i wDo
  rw [l8 q_do] at a7
  by_cases h7 : isK wDo (nxt ts i) = true
  · rw [if_pos h7]
    rw [h7] at a7
    clear h1 h2 h3 h4 h5 h6 h7
    refine f6 Tryz.func82 rfl rfl (Nat.le_of_ble_eq_true rfl) ?_
    repeat' (first | refine d4 ?_ | refine b8 ?_ | refine b7 ?_ | refine b9 ?_ | refine f5 rfl ?_ | refine d8 rfl ?_ | ((first | refine c5 (fun K hK => ?_) | refine d5 f8 (fun K hK => ?_) | refine a9 (cp a1 ?_) | refine a8 (dp a1 ?_) | refine a9 (cp a2 ?_) | refine a8 (dp a2 ?_) | refine a9 (cp a3 ?_) | refine a8 (dp a3 ?_) | refine a9 (cp a4 ?_) | refine a8 (dp a4 ?_) | refine a9 (cp a5 ?_) | refine a8 (dp a5 ?_) | refine a9 (cp a6 ?_) | refine a8 (dp a6 ?_) | refine a9 (cp a7 ?_) | refine a8 (dp a7 ?_) | fail); simp -implicitDefEqProofs) | refine hK _ ?_ | refine hK _ _ (by rfl) ?_ | fail)
    refine d7 (d6 ?_); simp -implicitDefEqProofs [g8, f9, g7, ic, q_do, a5i] <;> try rfl
  rw [if_neg h7]
  rw [show isK wDo (nxt ts i) = false by simpa using h7] at a7
  clear h1 h2 h3 h4 h5 h6 h7
  refine f6 Tryz.func82 rfl rfl (Nat.le_of_ble_eq_true rfl) ?_
  repeat' (first | refine d4 ?_ | refine b8 ?_ | refine b7 ?_ | refine b9 ?_ | refine f5 rfl ?_ | refine d8 rfl ?_ | ((first | refine c5 (fun K hK => ?_) | refine d5 f8 (fun K hK => ?_) | refine a9 (cp a1 ?_) | refine a8 (dp a1 ?_) | refine a9 (cp a2 ?_) | refine a8 (dp a2 ?_) | refine a9 (cp a3 ?_) | refine a8 (dp a3 ?_) | refine a9 (cp a4 ?_) | refine a8 (dp a4 ?_) | refine a9 (cp a5 ?_) | refine a8 (dp a5 ?_) | refine a9 (cp a6 ?_) | refine a8 (dp a6 ?_) | refine a9 (cp a7 ?_) | refine a8 (dp a7 ?_) | fail); simp -implicitDefEqProofs) | refine hK _ ?_ | refine hK _ _ (by rfl) ?_ | fail)
  refine d7 (d6 ?_); simp -implicitDefEqProofs [g8, f9, g7, ic, q_is, a5i] <;> try rfl
variable (S : Nat → Got) (hS : ∀ j, j ≤ ts.length → OkS ts 0 j (S j)) (i : Nat)
  (hrow : ∀ j, i < j → j ≤ ts.length → Row Tryz.prog 75 [vKs ts, vI j] [] (vG (S j)) [])
structure InvRB (b : Nat) (x : Nat × Nat × List VT) : Prop where
  eq : lpB ts S b x.1 x.2.1 x.2.2 = blG ts S b
  lt : b < x.2.1 ∧ x.2.1 ≤ ts.length
  fuel : ts.length < x.1 + x.2.1
  few : x.2.2.length + x.1 ≤ ts.length + 1
include hS hrow
theorem a1e (b : Nat) (hib : i ≤ b) (hb : b ≤ ts.length) : Row Tryz.prog 60 [vKs ts, vI b] [] (vG (blG ts S b)) [] := by
  have q := i5 ts b a8g
  rw [j0 c1y] at q
  have w1 : IntKind.i64.wrap ((b : Nat) + 1 : Int) = (b : Nat) + 1 := k9 _ (by omega) (by omega)
  by_cases h : isK a8g (nxt ts b) = true; rotate_left
  · have h : isK a8g (nxt ts b) = false := by simpa using h
    rw [show blG ts S b = n6 b from if_neg (by simp [h])]
    rw [h] at q
    have bd := l6 b
    clear h hrow hS
    refine f6 Tryz.func60 rfl rfl (Nat.le_of_ble_eq_true rfl) ?_
    repeat' (first | refine d4 ?_ | refine b8 ?_ | refine b7 ?_ | refine b9 ?_ | refine f5 rfl ?_ | refine d8 rfl ?_ | ((first | refine c5 (fun K hK => ?_) | refine d5 f8 (fun K hK => ?_) | refine a9 (cp q ?_) | refine a8 (dp q ?_) | refine a9 (cp bd ?_) | refine a8 (dp bd ?_) | fail); simp -implicitDefEqProofs) | refine hK _ ?_ | refine hK _ _ (by rfl) ?_ | fail)
    refine d7 (d6 ?_); simp -implicitDefEqProofs [g8, f9, g7, n6, z0] <;> try rfl
  have hlt := g9 h
  have h0 : InvRB ts S b (ts.length + 1, b + 1, []) := ⟨(if_pos h).symm, by dsimp only; omega, by dsimp only; omega, by simp⟩
  rw [h] at q
  clear h
  refine f6 Tryz.func60 rfl rfl (Nat.le_of_ble_eq_true rfl) ?_
  repeat' (first | refine d4 ?_ | refine b8 ?_ | refine b7 ?_ | refine b9 ?_ | refine f5 rfl ?_ | refine d8 rfl ?_ | ((first | refine c5 (fun K hK => ?_) | refine d5 f8 (fun K hK => ?_) | refine a9 (cp q ?_) | refine a8 (dp q ?_) | fail); simp -implicitDefEqProofs [w1]) | refine hK _ ?_ | refine hK _ _ (by rfl) ?_ | fail)
  refine l7 (ι := Nat × Nat × List VT) (fun x => s7 [(0, vKs ts), (1, vI b), (4, .v (.c (.ptr 0 0))), (5, .v (.c (.row 1 6 (x.2.2.map tc)))), (6, vI (x.2.1 : Nat))] [some zG, some (.row 25 6)]) (InvRB ts S b) (fun x => x.1) (ts.length + 1, b + 1, []) h0 (f7 [0, 12] (by simp -implicitDefEqProofs) (by simp -implicitDefEqProofs) (by decide) rfl (by simp)) (fun Z hI x hx => ?_)
  clear h0 q w1
  obtain ⟨m, zto, acc⟩ := x
  obtain ⟨x1, x2, x3, x4⟩ := hx
  dsimp only at x1 x2 x3 x4 ⊢
  obtain ⟨m, rfl⟩ : ∃ m', m = m' + 1 := ⟨m - 1, by omega⟩
  rw [lpB] at x1
  have q := i5 ts zto a90
  rw [j0 q_ket] at q
  by_cases h : isK a90 (nxt ts zto) = true
  · have hlt2 := g9 h
    rw [if_pos h] at x1
    rw [← x1]
    rw [h] at q
    have w2 : IntKind.i64.wrap ((zto : Nat) + 1 : Int) = (zto : Nat) + 1 := k9 _ (by omega) (by omega)
    have m7 := o4 ts hl b (zto + 1) 29 0 ⟨#[]⟩ acc (by omega) (by omega)
    clear x1 h hrow hS
    repeat' (first | refine d4 ?_ | refine b8 ?_ | refine b7 ?_ | refine b9 ?_ | refine f5 rfl ?_ | refine d8 rfl ?_ | ((first | refine c5 (fun K hK => ?_) | refine d5 f8 (fun K hK => ?_) | refine a9 (cp q ?_) | refine a8 (dp q ?_) | refine a9 (cp m7 ?_) | refine a8 (dp m7 ?_) | fail); simp -implicitDefEqProofs [w2]) | refine hK _ ?_ | refine hK _ _ (by rfl) ?_ | fail)
    refine d7 (d6 ?_); simp -implicitDefEqProofs [g8, f9, g7, mk7] <;> try rfl
  have h : isK a90 (nxt ts zto) = false := by simpa using h
  rw [if_neg (by simp [h])] at x1
  rw [h] at q
  have hq := hrow zto (by omega) x2.2
  have hs := hS zto x2.2
  have b1 : (acc.length + 1) * 72 ≤ 140737488355328 := by omega
  have b2 : acc.length + 1 ≤ 140737488355328 := by omega
  obtain ⟨⟨⟨sx, sl⟩, s2, s3⟩, hr⟩ : ∃ r, S zto = r := ⟨_, rfl⟩
  rw [hr] at x1 hq hs
  by_cases h3 : s3 = 0; rotate_left
  · rw [if_neg h3] at x1
    rw [← x1]
    clear x1 h hrow hS hs hr
    repeat' (first | refine d4 ?_ | refine b8 ?_ | refine b7 ?_ | refine b9 ?_ | refine f5 rfl ?_ | refine d8 rfl ?_ | ((first | refine c5 (fun K hK => ?_) | refine d5 f8 (fun K hK => ?_) | refine a9 (cp q ?_) | refine a8 (dp q ?_) | refine a9 (cp hq ?_) | refine a8 (dp hq ?_) | fail); simp -implicitDefEqProofs [h3]) | refine hK _ ?_ | refine hK _ _ (by rfl) ?_ | fail)
    refine d7 (d6 ?_); simp -implicitDefEqProofs [g8, f9, g7] <;> try rfl
  subst h3
  rw [if_pos rfl] at x1
  have hy := hs.ok.yes rfl
  dsimp only at hy x1
  have nx : InvRB ts S b (m, s2, acc ++ [.mk sx sl]) := ⟨x1, by dsimp only; omega, by dsimp only; omega, by dsimp only; rw [List.length_append, List.length_singleton]; omega⟩
  clear x1 h hrow hS hs hr
  repeat' (first | refine d4 ?_ | refine b8 ?_ | refine b7 ?_ | refine b9 ?_ | refine f5 rfl ?_ | refine d8 rfl ?_ | ((first | refine c5 (fun K hK => ?_) | refine d5 f8 (fun K hK => ?_) | refine a9 (cp q ?_) | refine a8 (dp q ?_) | refine a9 (cp hq ?_) | refine a8 (dp hq ?_) | fail); simp -implicitDefEqProofs [b1, b2]) | refine hK _ ?_ | refine hK _ _ (by rfl) ?_ | fail)
  refine ⟨(_, _, _), nx, (by dsimp only; omega), ?_⟩; rw [hI]; exact f7 [0, 32] (by simp -implicitDefEqProofs) (by simp -implicitDefEqProofs) (by decide) rfl (by simp)
theorem b8y (w : Nat) (hw : w ≤ 2) (b : Nat) (hib : i ≤ b) (hb : b ≤ ts.length) : Row Tryz.prog 83 [vKs ts, vI b, vS (if w = 0 then ⟨#[101, 120, 112, 114]⟩ else if w = 1 then ⟨#[116, 121, 112, 101]⟩ else ⟨#[98, 108, 111, 99, 107]⟩)] [] (vG (RR ts S w b)) [] := by
  have hw : w = 0 ∨ w = 1 ∨ w = 2 := by omega
  rcases hw with rfl | rfl | rfl
  · have h := b8s ts hl b hb
    rw [show RR ts S 0 b = Qx ts 1 b from rfl, if_pos rfl]
    obtain ⟨⟨⟨px, pl⟩, j, e⟩, hr⟩ : ∃ r, Qx ts 1 b = r := ⟨_, rfl⟩
    rw [hr] at h ⊢
    clear hrow hS hr
    refine f6 Tryz.func83 rfl rfl (Nat.le_of_ble_eq_true rfl) ?_
    repeat' (first | refine d4 ?_ | refine b8 ?_ | refine b7 ?_ | refine b9 ?_ | refine f5 rfl ?_ | refine d8 rfl ?_ | ((first | refine c5 (fun K hK => ?_) | refine d5 f8 (fun K hK => ?_) | refine a9 (cp h ?_) | refine a8 (dp h ?_) | fail); simp -implicitDefEqProofs) | refine hK _ ?_ | refine hK _ _ (by rfl) ?_ | fail)
    refine d7 (d6 ?_); simp -implicitDefEqProofs [g8, f9, g7] <;> try rfl
  · have h := a9v ts (by omega) (ts.length + 1) b (by omega) hb
    rw [show RR ts S 1 b = tyG ts (ts.length + 1) b from rfl, if_neg (by decide), if_pos rfl]
    obtain ⟨⟨⟨px, pl⟩, j, e⟩, hr⟩ : ∃ r, tyG ts (ts.length + 1) b = r := ⟨_, rfl⟩
    rw [hr] at h ⊢
    clear hrow hS hr
    refine f6 Tryz.func83 rfl rfl (Nat.le_of_ble_eq_true rfl) ?_
    repeat' (first | refine d4 ?_ | refine b8 ?_ | refine b7 ?_ | refine b9 ?_ | refine f5 rfl ?_ | refine d8 rfl ?_ | ((first | refine c5 (fun K hK => ?_) | refine d5 f8 (fun K hK => ?_) | refine a9 (cp h ?_) | refine a8 (dp h ?_) | fail); simp -implicitDefEqProofs) | refine hK _ ?_ | refine hK _ _ (by rfl) ?_ | fail)
    refine d7 (d6 ?_); simp -implicitDefEqProofs [g8, f9, g7] <;> try rfl
  · have h := a1e ts hl S hS i hrow b hib hb
    rw [show RR ts S 2 b = blG ts S b from rfl, if_neg (by decide), if_neg (by decide)]
    obtain ⟨⟨⟨px, pl⟩, j, e⟩, hr⟩ : ∃ r, blG ts S b = r := ⟨_, rfl⟩
    rw [hr] at h ⊢
    clear hrow hS hr
    refine f6 Tryz.func83 rfl rfl (Nat.le_of_ble_eq_true rfl) ?_
    repeat' (first | refine d4 ?_ | refine b8 ?_ | refine b7 ?_ | refine b9 ?_ | refine f5 rfl ?_ | refine d8 rfl ?_ | ((first | refine c5 (fun K hK => ?_) | refine d5 f8 (fun K hK => ?_) | refine a9 (cp h ?_) | refine a8 (dp h ?_) | fail); simp -implicitDefEqProofs) | refine hK _ ?_ | refine hK _ _ (by rfl) ?_ | fail)
    refine d7 (d6 ?_); simp -implicitDefEqProofs [g8, f9, g7] <;> try rfl
theorem b8x (b : Nat) (hib : i ≤ b) (hb : b ≤ ts.length) : Row Tryz.prog 83 [vKs ts, vI b, vS a79] [] (vG (RR ts S 2 b)) [] := by
  have h := a1e ts hl S hS i hrow b hib hb
  rw [show RR ts S 2 b = blG ts S b from rfl]
  obtain ⟨⟨⟨px, pl⟩, j, e⟩, hr⟩ : ∃ r, blG ts S b = r := ⟨_, rfl⟩
  rw [hr] at h ⊢
  clear hrow hS hr
  refine f6 Tryz.func83 rfl rfl (Nat.le_of_ble_eq_true rfl) ?_
  repeat' (first | refine d4 ?_ | refine b8 ?_ | refine b7 ?_ | refine b9 ?_ | refine f5 rfl ?_ | refine d8 rfl ?_ | ((first | refine c5 (fun K hK => ?_) | refine d5 f8 (fun K hK => ?_) | refine a9 (cp h ?_) | refine a8 (dp h ?_) | fail); simp -implicitDefEqProofs) | refine hK _ ?_ | refine hK _ _ (by rfl) ?_ | fail)
  refine d7 (d6 ?_); simp -implicitDefEqProofs [g8, f9, g7] <;> try rfl
end
end Go.Proofs.YthkfdheoakbfnaaGreat.am
end
