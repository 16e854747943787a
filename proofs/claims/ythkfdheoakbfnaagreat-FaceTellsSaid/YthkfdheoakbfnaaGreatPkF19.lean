import Derived.Test.YthkfdheoakbfnaaGreatPkF18
import Derived.Test.YthkfdheoakbfnaaGreatPkF15
import Derived.Test.YthkfdheoakbfnaaGreatPkF14
import Derived.Test.YthkfdheoakbfnaaGreatPkF9
import Derived.Test.YthkfdheoakbfnaaGreatPkF11
set_option maxRecDepth 100000
set_option maxHeartbeats 4000000
section
namespace Go.Proofs.YthkfdheoakbfnaaGreat.am
open Go.ChangeShapes Go.WideShapes Go.ChangeAt Go.RowKit
open vt
set_option linter.unusedVariables false
set_option linter.unusedSimpArgs false
section
variable (ts : List Tok) (hl : ts.length ≤ 1000000000)
include hl
theorem ratom9 (i : Nat) (hi : i ≤ ts.length) : Row Tryz.prog 58 [vKs ts, vI i] [] (vG (Qx ts 8 i)) [] := (b2e ts hl _ 8 i (by decide) (by decide) hi (Nat.lt_succ_self _)).2.2.2 rfl
omit hl in
theorem c1s (i : Nat) (hi : i ≤ ts.length) (h : (nxt ts i).k = 2 ∨ isK a3f (nxt ts i) = true ∨ isK a3e (nxt ts i) = true) : Qx ts 8 i = a6b ts i := by
  rw [Q_eq 8 i (by decide) (by decide) hi]
  unfold bG a8y a6b
  rw [if_neg (by decide), if_neg (by decide), if_neg (by decide)]
  by_cases h1 : (nxt ts i).k = 2
  · rw [if_pos h1, if_pos h1]
  rw [if_neg h1, if_neg h1]
  by_cases h2 : isK a3f (nxt ts i) = true
  · rw [if_pos h2, if_pos h2]
  rw [if_neg h2, if_neg h2]
  by_cases h3 : isK a3e (nxt ts i) = true
  · rw [if_pos h3, if_pos h3]
  · rcases h with h | h | h
    · exact absurd h h1
    · exact absurd h h2
    · exact absurd h h3
omit hl in
theorem c2k (i : Nat) (k : Int) (w s : ByteArray) (r : Nat) (hw : isK w (nxt ts i) = true) : itH ts (R9 ts) i k 0 [.sgn w, .nam, .sgn s, .sub r, .sgn a04] i ⟨#[]⟩ [] = if (nxt ts (i + 1)).k = 1 then if isK s (nxt ts (i + 2)) = true then if (R9 ts r (i + 3)).2.2 = 0 then if isK a04 (nxt ts (R9 ts r (i + 3)).2.1) = true then mk7 ts i ((R9 ts r (i + 3)).2.1 + 1) k 0 (nxt ts (i + 1)).s [(R9 ts r (i + 3)).1] else n6 (R9 ts r (i + 3)).2.1 else R9 ts r (i + 3) else n6 (i + 2) else n6 (i + 1) := by
  rw [z3, if_pos hw, a23, z3, a0z, z3, itH]
  rfl
theorem a6j (i : Nat) (hi : i < ts.length) (b : Bool) (hb : isK a0s (nxt ts i) = b) (hv : b = false → isK b97 (nxt ts i) = true) (k : Int) (w s : ByteArray) (r : Nat) (hk : k = if b then 31 else 32) (hw : w = if b then a0s else b97) (hs : s = if b then sIs else a1p) (hr : r = if b then 3 else 1) : Row Tryz.prog 35 [vKs ts, vI i] [] (vG (itH ts (R9 ts) i k 0 [.sgn w, .nam, .sgn s, .sub r, .sgn a04] i ⟨#[]⟩ [])) [] := by
  have hww : isK w (nxt ts i) = true := by
    cases b
    · rw [hw]; exact hv rfl
    · rw [hw]; exact hb
  rw [c2k ts i k w s r hww]
  have o := s4 ts (i + 1)
  have c := j9 ts i a0s
  rw [l8 q_con, hb] at c
  have w1 : IntKind.i64.wrap ((i : Nat) + 1 : Int) = (i : Nat) + 1 := k9 _ (by omega) (by omega)
  have w2 : IntKind.i64.wrap ((i : Nat) + 2 : Int) = (i : Nat) + 2 := k9 _ (by omega) (by omega)
  have w3 : IntKind.i64.wrap ((i : Nat) + 3 : Int) = (i : Nat) + 3 := k9 _ (by omega) (by omega)
  by_cases h1 : (nxt ts (i + 1)).k = 1; rotate_left
  · rw [if_neg h1]
    have bd := l6 (i + 1)
    obtain ⟨⟨xk, xn, xs, xf, xt⟩, hx⟩ : ∃ x, nxt ts (i + 1) = x := ⟨_, rfl⟩
    rw [hx] at o h1
    dsimp only at h1
    clear hx hv hw hs hr hk hww
    refine f6 Tryz.func35 rfl rfl (Nat.le_of_ble_eq_true rfl) ?_
    repeat' (first | refine d4 ?_ | refine b8 ?_ | refine b7 ?_ | refine b9 ?_ | refine f5 rfl ?_ | refine d8 rfl ?_ | ((first | refine c5 (fun K hK => ?_) | refine d5 f8 (fun K hK => ?_) | refine a9 (cp o ?_) | refine a8 (dp o ?_) | refine a9 (cp bd ?_) | refine a8 (dp bd ?_) | fail); simp -implicitDefEqProofs [h1, w1, w2, w3]) | refine hK _ ?_ | refine hK _ _ (by rfl) ?_ | fail)
    refine d7 (d6 ?_); simp -implicitDefEqProofs [g8, f9, g7, n6, z0] <;> try rfl
  rw [if_pos h1]
  obtain ⟨x, hx, hxn, hxk⟩ := a24 h1 (by decide)
  have hx' := (List.getElem?_eq_some_iff.1 hx).2
  have hlt := (List.getElem?_eq_some_iff.1 hx).1
  rw [hxn] at o ⊢
  have tn : ((i : Nat) + 1 : Int).toNat = i + 1 := by omega
  have t0 : ((0 : Int) ≤ (i : Nat) + 1) = True := eq_true (by omega)
  obtain ⟨xk, xn, xs, xf, xt⟩ := x
  dsimp only at hxk ⊢
  subst hxk
  clear h1 hxn hww
  have sg := i5 ts (i + 2) s
  rw [j0 (by rw [hs]; cases b <;> decide)] at sg
  by_cases h2 : isK s (nxt ts (i + 2)) = true; rotate_left
  · rw [if_neg h2]
    rw [show isK s (nxt ts (i + 2)) = false by simpa using h2] at sg
    have bd := l6 (i + 2)
    clear h2 hv hw hr hk hb
    cases b
    · simp only [if_neg, Bool.false_eq_true, reduceIte] at hs
      subst hs
      refine f6 Tryz.func35 rfl rfl (Nat.le_of_ble_eq_true rfl) ?_
      repeat' (first | refine d4 ?_ | refine b8 ?_ | refine b7 ?_ | refine b9 ?_ | refine f5 rfl ?_ | refine d8 rfl ?_ | ((first | refine c5 (fun K hK => ?_) | refine d5 f8 (fun K hK => ?_) | refine a9 (cp o ?_) | refine a8 (dp o ?_) | refine a9 (cp c ?_) | refine a8 (dp c ?_) | refine a9 (cp sg ?_) | refine a8 (dp sg ?_) | refine a9 (cp bd ?_) | refine a8 (dp bd ?_) | fail); simp -implicitDefEqProofs [w1, w2, w3]) | refine hK _ ?_ | refine hK _ _ (by rfl) ?_ | fail)
      refine d7 (d6 ?_); simp -implicitDefEqProofs [g8, f9, g7, n6, z0] <;> try rfl
    · simp only [if_pos, reduceIte] at hs
      subst hs
      refine f6 Tryz.func35 rfl rfl (Nat.le_of_ble_eq_true rfl) ?_
      repeat' (first | refine d4 ?_ | refine b8 ?_ | refine b7 ?_ | refine b9 ?_ | refine f5 rfl ?_ | refine d8 rfl ?_ | ((first | refine c5 (fun K hK => ?_) | refine d5 f8 (fun K hK => ?_) | refine a9 (cp o ?_) | refine a8 (dp o ?_) | refine a9 (cp c ?_) | refine a8 (dp c ?_) | refine a9 (cp sg ?_) | refine a8 (dp sg ?_) | refine a9 (cp bd ?_) | refine a8 (dp bd ?_) | fail); simp -implicitDefEqProofs [w1, w2, w3]) | refine hK _ ?_ | refine hK _ _ (by rfl) ?_ | fail)
      refine d7 (d6 ?_); simp -implicitDefEqProofs [g8, f9, g7, n6, z0] <;> try rfl
  rw [if_pos h2]
  have hlt2 := g9 h2
  rw [h2] at sg
  have hko := a8r (ts := ts) r (i + 3) (by omega)
  cases b
  · simp only [if_neg, Bool.false_eq_true, reduceIte] at hs hr hk hw
    subst hs hr hk
    have t := b84 ts hl (i + 3) (by omega)
    rw [show R9 ts 1 (i + 3) = tyG ts (ts.length + 1) (i + 3) from rfl] at hko ⊢
    obtain ⟨⟨⟨tx, tl⟩, j, e⟩, hrr⟩ : ∃ r, tyG ts (ts.length + 1) (i + 3) = r := ⟨_, rfl⟩
    rw [hrr] at t hko ⊢
    dsimp only
    clear hrr h2 hv hw hb
    by_cases he : e = 0; rotate_left
    · rw [if_neg he]
      clear hko
      refine f6 Tryz.func35 rfl rfl (Nat.le_of_ble_eq_true rfl) ?_
      repeat' (first | refine d4 ?_ | refine b8 ?_ | refine b7 ?_ | refine b9 ?_ | refine f5 rfl ?_ | refine d8 rfl ?_ | ((first | refine c5 (fun K hK => ?_) | refine d5 f8 (fun K hK => ?_) | refine a9 (cp o ?_) | refine a8 (dp o ?_) | refine a9 (cp c ?_) | refine a8 (dp c ?_) | refine a9 (cp sg ?_) | refine a8 (dp sg ?_) | refine a9 (cp t ?_) | refine a8 (dp t ?_) | fail); simp -implicitDefEqProofs [w1, w2, w3, he]) | refine hK _ ?_ | refine hK _ _ (by rfl) ?_ | fail)
      refine d7 (d6 ?_); simp -implicitDefEqProofs [g8, f9, g7] <;> try rfl
    subst he
    rw [if_pos rfl]
    have hy := hko.ok.yes rfl
    dsimp only at hy
    have en := i5 ts j a04
    rw [j0 a5i] at en
    by_cases h4 : isK a04 (nxt ts j) = true
    · rw [if_pos h4]
      have hlt4 := g9 h4
      rw [h4] at en
      have wj : IntKind.i64.wrap ((j : Nat) + 1 : Int) = (j : Nat) + 1 := k9 _ (by omega) (by omega)
      have m : Row Tryz.prog 41 [vKs ts, vI i, vI (j + 1 : Nat), vI 32, vI 0, vS xs, vLs [.mk tx tl]] [] (vG (mk7 ts i (j + 1) 32 0 xs [.mk tx tl])) [] := o4 ts hl i (j + 1) 32 0 xs [.mk tx tl] (by omega) (by omega)
      clear hko h4
      refine f6 Tryz.func35 rfl rfl (Nat.le_of_ble_eq_true rfl) ?_
      repeat' (first | refine d4 ?_ | refine b8 ?_ | refine b7 ?_ | refine b9 ?_ | refine f5 rfl ?_ | refine d8 rfl ?_ | ((first | refine c5 (fun K hK => ?_) | refine d5 f8 (fun K hK => ?_) | refine a9 (cp o ?_) | refine a8 (dp o ?_) | refine a9 (cp c ?_) | refine a8 (dp c ?_) | refine a9 (cp sg ?_) | refine a8 (dp sg ?_) | refine a9 (cp t ?_) | refine a8 (dp t ?_) | refine a9 (cp en ?_) | refine a8 (dp en ?_) | refine a9 (cp m ?_) | refine a8 (dp m ?_) | fail); simp -implicitDefEqProofs [w1, w2, w3, wj, hlt, hx, hx', tn, t0]) | refine hK _ ?_ | refine hK _ _ (by rfl) ?_ | fail)
      refine d7 (d6 ?_); simp -implicitDefEqProofs [g8, f9, g7, mk7] <;> try rfl
    · rw [if_neg h4]
      rw [show isK a04 (nxt ts j) = false by simpa using h4] at en
      have bd := l6 j
      clear hko h4
      refine f6 Tryz.func35 rfl rfl (Nat.le_of_ble_eq_true rfl) ?_
      repeat' (first | refine d4 ?_ | refine b8 ?_ | refine b7 ?_ | refine b9 ?_ | refine f5 rfl ?_ | refine d8 rfl ?_ | ((first | refine c5 (fun K hK => ?_) | refine d5 f8 (fun K hK => ?_) | refine a9 (cp o ?_) | refine a8 (dp o ?_) | refine a9 (cp c ?_) | refine a8 (dp c ?_) | refine a9 (cp sg ?_) | refine a8 (dp sg ?_) | refine a9 (cp t ?_) | refine a8 (dp t ?_) | refine a9 (cp en ?_) | refine a8 (dp en ?_) | refine a9 (cp bd ?_) | refine a8 (dp bd ?_) | fail); simp -implicitDefEqProofs [w1, w2, w3]) | refine hK _ ?_ | refine hK _ _ (by rfl) ?_ | fail)
      refine d7 (d6 ?_); simp -implicitDefEqProofs [g8, f9, g7, n6, z0] <;> try rfl
  · simp only [if_pos, reduceIte] at hs hr hk hw
    subst hs hr hk
    rw [show R9 ts 3 (i + 3) = a6b ts (i + 3) from rfl] at hko ⊢
    have o3 := s4 ts (i + 3)
    have wt := j9 ts (i + 3) a3f
    rw [l8 q_tru] at wt
    have wf := j9 ts (i + 3) a3e
    rw [l8 q_fal] at wf
    by_cases hlit : (nxt ts (i + 3)).k = 2 ∨ isK a3f (nxt ts (i + 3)) = true ∨ isK a3e (nxt ts (i + 3)) = true; rotate_left
    · rw [not_or, not_or] at hlit
      obtain ⟨l1, l2, l3⟩ := hlit
      rw [show isK a3f (nxt ts (i + 3)) = false by simpa using l2] at wt
      rw [show isK a3e (nxt ts (i + 3)) = false by simpa using l3] at wf
      rw [show a6b ts (i + 3) = n6 (i + 3) by unfold a6b; rw [if_neg l1, if_neg l2, if_neg l3]]
      have bd := l6 (i + 3)
      unfold n6 z0
      rw [if_neg (by simp)]
      unfold z0 at bd
      obtain ⟨⟨yk, yn, ys, yf, yt⟩, hy⟩ : ∃ x, nxt ts (i + 3) = x := ⟨_, rfl⟩
      rw [hy] at o3 l1
      dsimp only at l1
      clear hy l2 l3 h2 hv hw hb hko
      refine f6 Tryz.func35 rfl rfl (Nat.le_of_ble_eq_true rfl) ?_
      repeat' (first | refine d4 ?_ | refine b8 ?_ | refine b7 ?_ | refine b9 ?_ | refine f5 rfl ?_ | refine d8 rfl ?_ | ((first | refine c5 (fun K hK => ?_) | refine d5 f8 (fun K hK => ?_) | refine a9 (cp o ?_) | refine a8 (dp o ?_) | refine a9 (cp c ?_) | refine a8 (dp c ?_) | refine a9 (cp sg ?_) | refine a8 (dp sg ?_) | refine a9 (cp o3 ?_) | refine a8 (dp o3 ?_) | refine a9 (cp wt ?_) | refine a8 (dp wt ?_) | refine a9 (cp wf ?_) | refine a8 (dp wf ?_) | refine a9 (cp bd ?_) | refine a8 (dp bd ?_) | fail); simp -implicitDefEqProofs [w1, w2, w3, l1]) | refine hK _ ?_ | refine hK _ _ (by rfl) ?_ | fail)
      refine d7 (d6 ?_); simp -implicitDefEqProofs [g8, f9, g7] <;> try rfl
    have at3 := ratom9 ts hl (i + 3) (by omega)
    rw [c1s ts (i + 3) (by omega) hlit] at at3
    obtain ⟨⟨yk, yn, ys, yf, yt⟩, hy⟩ : ∃ x, nxt ts (i + 3) = x := ⟨_, rfl⟩
    have o3' := o3
    rw [hy] at o3'
    obtain ⟨bt, hbt⟩ : ∃ b, isK a3f (nxt ts (i + 3)) = b := ⟨_, rfl⟩
    obtain ⟨bf, hbf⟩ : ∃ b, isK a3e (nxt ts (i + 3)) = b := ⟨_, rfl⟩
    rw [hbt] at wt hlit
    rw [hbf] at wf hlit
    rw [hy] at hlit
    dsimp only at hlit
    obtain ⟨⟨⟨tx, tl⟩, j, e⟩, hrr⟩ : ∃ r, a6b ts (i + 3) = r := ⟨_, rfl⟩
    rw [hrr] at at3 hko ⊢
    dsimp only
    have he : e = 0 := by
      have : (a6b ts (i + 3)).2.2 = 0 := by
        unfold a6b
        rw [hbt, hbf, hy]
        rcases hlit with h | h | h
        · rw [if_pos h]; rfl
        · subst h; split
          · rfl
          · rfl
        · subst h; split
          · rfl
          · split <;> rfl
      rw [hrr] at this
      exact this
    subst he
    rw [if_pos rfl]
    have hyy := hko.ok.yes rfl
    dsimp only at hyy
    have en := i5 ts j a04
    rw [j0 a5i] at en
    clear o3 hy hbt hbf hrr h2 hv hw hb hko
    have run : (yk = 2) ∨ (¬ yk = 2 ∧ bt = true) ∨ (¬ yk = 2 ∧ bt = false ∧ bf = true) := by
      by_cases h5 : yk = 2
      · exact .inl h5
      · rcases hlit with h | h | h
        · exact absurd h h5
        · exact .inr (.inl ⟨h5, h⟩)
        · cases bt
          · exact .inr (.inr ⟨h5, rfl, h⟩)
          · exact .inr (.inl ⟨h5, rfl⟩)
    clear hlit
    by_cases h4 : isK a04 (nxt ts j) = true
    · rw [if_pos h4]
      have hlt4 := g9 h4
      rw [h4] at en
      have wj : IntKind.i64.wrap ((j : Nat) + 1 : Int) = (j : Nat) + 1 := k9 _ (by omega) (by omega)
      have m : Row Tryz.prog 41 [vKs ts, vI i, vI (j + 1 : Nat), vI 31, vI 0, vS xs, vLs [.mk tx tl]] [] (vG (mk7 ts i (j + 1) 31 0 xs [.mk tx tl])) [] := o4 ts hl i (j + 1) 31 0 xs [.mk tx tl] (by omega) (by omega)
      clear h4
      rcases run with h5 | ⟨h5, rfl⟩ | ⟨h5, rfl, rfl⟩
      · subst h5
        refine f6 Tryz.func35 rfl rfl (Nat.le_of_ble_eq_true rfl) ?_
        repeat' (first | refine d4 ?_ | refine b8 ?_ | refine b7 ?_ | refine b9 ?_ | refine f5 rfl ?_ | refine d8 rfl ?_ | ((first | refine c5 (fun K hK => ?_) | refine d5 f8 (fun K hK => ?_) | refine a9 (cp o ?_) | refine a8 (dp o ?_) | refine a9 (cp c ?_) | refine a8 (dp c ?_) | refine a9 (cp sg ?_) | refine a8 (dp sg ?_) | refine a9 (cp o3' ?_) | refine a8 (dp o3' ?_) | refine a9 (cp wt ?_) | refine a8 (dp wt ?_) | refine a9 (cp wf ?_) | refine a8 (dp wf ?_) | refine a9 (cp at3 ?_) | refine a8 (dp at3 ?_) | refine a9 (cp en ?_) | refine a8 (dp en ?_) | refine a9 (cp m ?_) | refine a8 (dp m ?_) | fail); simp -implicitDefEqProofs [w1, w2, w3, wj, hlt, hx, hx', tn, t0]) | refine hK _ ?_ | refine hK _ _ (by rfl) ?_ | fail)
        refine d7 (d6 ?_); simp -implicitDefEqProofs [g8, f9, g7, mk7] <;> try rfl
      · refine f6 Tryz.func35 rfl rfl (Nat.le_of_ble_eq_true rfl) ?_
        repeat' (first | refine d4 ?_ | refine b8 ?_ | refine b7 ?_ | refine b9 ?_ | refine f5 rfl ?_ | refine d8 rfl ?_ | ((first | refine c5 (fun K hK => ?_) | refine d5 f8 (fun K hK => ?_) | refine a9 (cp o ?_) | refine a8 (dp o ?_) | refine a9 (cp c ?_) | refine a8 (dp c ?_) | refine a9 (cp sg ?_) | refine a8 (dp sg ?_) | refine a9 (cp o3' ?_) | refine a8 (dp o3' ?_) | refine a9 (cp wt ?_) | refine a8 (dp wt ?_) | refine a9 (cp wf ?_) | refine a8 (dp wf ?_) | refine a9 (cp at3 ?_) | refine a8 (dp at3 ?_) | refine a9 (cp en ?_) | refine a8 (dp en ?_) | refine a9 (cp m ?_) | refine a8 (dp m ?_) | fail); simp -implicitDefEqProofs [w1, w2, w3, wj, hlt, hx, hx', h5, tn, t0]) | refine hK _ ?_ | refine hK _ _ (by rfl) ?_ | fail)
        refine d7 (d6 ?_); simp -implicitDefEqProofs [g8, f9, g7, mk7] <;> try rfl
      · refine f6 Tryz.func35 rfl rfl (Nat.le_of_ble_eq_true rfl) ?_
        repeat' (first | refine d4 ?_ | refine b8 ?_ | refine b7 ?_ | refine b9 ?_ | refine f5 rfl ?_ | refine d8 rfl ?_ | ((first | refine c5 (fun K hK => ?_) | refine d5 f8 (fun K hK => ?_) | refine a9 (cp o ?_) | refine a8 (dp o ?_) | refine a9 (cp c ?_) | refine a8 (dp c ?_) | refine a9 (cp sg ?_) | refine a8 (dp sg ?_) | refine a9 (cp o3' ?_) | refine a8 (dp o3' ?_) | refine a9 (cp wt ?_) | refine a8 (dp wt ?_) | refine a9 (cp wf ?_) | refine a8 (dp wf ?_) | refine a9 (cp at3 ?_) | refine a8 (dp at3 ?_) | refine a9 (cp en ?_) | refine a8 (dp en ?_) | refine a9 (cp m ?_) | refine a8 (dp m ?_) | fail); simp -implicitDefEqProofs [w1, w2, w3, wj, hlt, hx, hx', h5, tn, t0]) | refine hK _ ?_ | refine hK _ _ (by rfl) ?_ | fail)
        refine d7 (d6 ?_); simp -implicitDefEqProofs [g8, f9, g7, mk7] <;> try rfl
    · rw [if_neg h4]
      rw [show isK a04 (nxt ts j) = false by simpa using h4] at en
      have bd := l6 j
      clear h4
      rcases run with h5 | ⟨h5, rfl⟩ | ⟨h5, rfl, rfl⟩
      · subst h5
        refine f6 Tryz.func35 rfl rfl (Nat.le_of_ble_eq_true rfl) ?_
        repeat' (first | refine d4 ?_ | refine b8 ?_ | refine b7 ?_ | refine b9 ?_ | refine f5 rfl ?_ | refine d8 rfl ?_ | ((first | refine c5 (fun K hK => ?_) | refine d5 f8 (fun K hK => ?_) | refine a9 (cp o ?_) | refine a8 (dp o ?_) | refine a9 (cp c ?_) | refine a8 (dp c ?_) | refine a9 (cp sg ?_) | refine a8 (dp sg ?_) | refine a9 (cp o3' ?_) | refine a8 (dp o3' ?_) | refine a9 (cp wt ?_) | refine a8 (dp wt ?_) | refine a9 (cp wf ?_) | refine a8 (dp wf ?_) | refine a9 (cp at3 ?_) | refine a8 (dp at3 ?_) | refine a9 (cp en ?_) | refine a8 (dp en ?_) | refine a9 (cp bd ?_) | refine a8 (dp bd ?_) | fail); simp -implicitDefEqProofs [w1, w2, w3]) | refine hK _ ?_ | refine hK _ _ (by rfl) ?_ | fail)
        refine d7 (d6 ?_); simp -implicitDefEqProofs [g8, f9, g7, n6, z0] <;> try rfl
      · refine f6 Tryz.func35 rfl rfl (Nat.le_of_ble_eq_true rfl) ?_
        repeat' (first | refine d4 ?_ | refine b8 ?_ | refine b7 ?_ | refine b9 ?_ | refine f5 rfl ?_ | refine d8 rfl ?_ | ((first | refine c5 (fun K hK => ?_) | refine d5 f8 (fun K hK => ?_) | refine a9 (cp o ?_) | refine a8 (dp o ?_) | refine a9 (cp c ?_) | refine a8 (dp c ?_) | refine a9 (cp sg ?_) | refine a8 (dp sg ?_) | refine a9 (cp o3' ?_) | refine a8 (dp o3' ?_) | refine a9 (cp wt ?_) | refine a8 (dp wt ?_) | refine a9 (cp wf ?_) | refine a8 (dp wf ?_) | refine a9 (cp at3 ?_) | refine a8 (dp at3 ?_) | refine a9 (cp en ?_) | refine a8 (dp en ?_) | refine a9 (cp bd ?_) | refine a8 (dp bd ?_) | fail); simp -implicitDefEqProofs [w1, w2, w3, h5]) | refine hK _ ?_ | refine hK _ _ (by rfl) ?_ | fail)
        refine d7 (d6 ?_); simp -implicitDefEqProofs [g8, f9, g7, n6, z0] <;> try rfl
      · refine f6 Tryz.func35 rfl rfl (Nat.le_of_ble_eq_true rfl) ?_
        repeat' (first | refine d4 ?_ | refine b8 ?_ | refine b7 ?_ | refine b9 ?_ | refine f5 rfl ?_ | refine d8 rfl ?_ | ((first | refine c5 (fun K hK => ?_) | refine d5 f8 (fun K hK => ?_) | refine a9 (cp o ?_) | refine a8 (dp o ?_) | refine a9 (cp c ?_) | refine a8 (dp c ?_) | refine a9 (cp sg ?_) | refine a8 (dp sg ?_) | refine a9 (cp o3' ?_) | refine a8 (dp o3' ?_) | refine a9 (cp wt ?_) | refine a8 (dp wt ?_) | refine a9 (cp wf ?_) | refine a8 (dp wf ?_) | refine a9 (cp at3 ?_) | refine a8 (dp at3 ?_) | refine a9 (cp en ?_) | refine a8 (dp en ?_) | refine a9 (cp bd ?_) | refine a8 (dp bd ?_) | fail); simp -implicitDefEqProofs [w1, w2, w3, h5]) | refine hK _ ?_ | refine hK _ _ (by rfl) ?_ | fail)
        refine d7 (d6 ?_); simp -implicitDefEqProofs [g8, f9, g7, n6, z0] <;> try rfl
omit hl in
theorem fn_eq (a j : Nat) (N : Int) : itH ts (R9 ts) a 33 N [.sgn wFn, .nam, .sub 4, .sgn a1p, .sub 1, .sub 2] j ⟨#[]⟩ [] =
    if isK wFn (nxt ts j) = true then if (nxt ts (j + 1)).k = 1 then if (a2g ts (j + 2)).2.2 = 0 then if isK a1p (nxt ts (a2g ts (j + 2)).2.1) = true then
      if (tyG ts (ts.length + 1) ((a2g ts (j + 2)).2.1 + 1)).2.2 = 0 then
        if (c2z ts (tyG ts (ts.length + 1) ((a2g ts (j + 2)).2.1 + 1)).2.1).2.2 = 0 then mk7 ts a (c2z ts (tyG ts (ts.length + 1) ((a2g ts (j + 2)).2.1 + 1)).2.1).2.1 33 N (nxt ts (j + 1)).s [(a2g ts (j + 2)).1, (tyG ts (ts.length + 1) ((a2g ts (j + 2)).2.1 + 1)).1, (c2z ts (tyG ts (ts.length + 1) ((a2g ts (j + 2)).2.1 + 1)).2.1).1]
        else c2z ts (tyG ts (ts.length + 1) ((a2g ts (j + 2)).2.1 + 1)).2.1
      else tyG ts (ts.length + 1) ((a2g ts (j + 2)).2.1 + 1)
      else n6 (a2g ts (j + 2)).2.1 else a2g ts (j + 2) else n6 (j + 1) else n6 j := by
  rw [z3, a23, a0z, z3, a0z, a0z, itH]
  rfl
theorem b8t (a j : Nat) (N : Int) (ha : a ≤ j) (hj : j ≤ ts.length) : Row Tryz.prog 36 [vKs ts, vI a, vI j, vI N] [] (vG (itH ts (R9 ts) a 33 N [.sgn wFn, .nam, .sub 4, .sgn a1p, .sub 1, .sub 2] j ⟨#[]⟩ [])) [] := by
  rw [fn_eq ts]
  have tn : ((j : Nat) + 1 : Int).toNat = j + 1 := by omega
  have t0 : ((0 : Int) ≤ (j : Nat) + 1) = True := eq_true (by omega)
  have q := j9 ts j wFn
  rw [l8 q_fn] at q
  have w1 : IntKind.i64.wrap ((j : Nat) + 1 : Int) = (j : Nat) + 1 := k9 _ (by omega) (by omega)
  have w2 : IntKind.i64.wrap ((j : Nat) + 2 : Int) = (j : Nat) + 2 := k9 _ (by omega) (by omega)
  by_cases h0 : isK wFn (nxt ts j) = true; rotate_left
  · rw [if_neg h0]
    rw [show isK wFn (nxt ts j) = false by simpa using h0] at q
    have bd := l6 j
    clear h0
    refine f6 Tryz.func36 rfl rfl (Nat.le_of_ble_eq_true rfl) ?_
    repeat' (first | refine d4 ?_ | refine b8 ?_ | refine b7 ?_ | refine b9 ?_ | refine f5 rfl ?_ | refine d8 rfl ?_ | ((first | refine c5 (fun K hK => ?_) | refine d5 f8 (fun K hK => ?_) | refine a9 (cp q ?_) | refine a8 (dp q ?_) | refine a9 (cp bd ?_) | refine a8 (dp bd ?_) | fail); simp -implicitDefEqProofs [w1, w2]) | refine hK _ ?_ | refine hK _ _ (by rfl) ?_ | fail)
    refine d7 (d6 ?_); simp -implicitDefEqProofs [g8, f9, g7, n6, z0] <;> try rfl
  rw [if_pos h0]
  have hlt0 := g9 h0
  rw [h0] at q
  have o := s4 ts (j + 1)
  clear h0
  by_cases h1 : (nxt ts (j + 1)).k = 1; rotate_left
  · rw [if_neg h1]
    have bd := l6 (j + 1)
    obtain ⟨⟨xk, xn, xs, xf, xt⟩, hx⟩ : ∃ x, nxt ts (j + 1) = x := ⟨_, rfl⟩
    rw [hx] at o h1
    dsimp only at h1
    clear hx
    refine f6 Tryz.func36 rfl rfl (Nat.le_of_ble_eq_true rfl) ?_
    repeat' (first | refine d4 ?_ | refine b8 ?_ | refine b7 ?_ | refine b9 ?_ | refine f5 rfl ?_ | refine d8 rfl ?_ | ((first | refine c5 (fun K hK => ?_) | refine d5 f8 (fun K hK => ?_) | refine a9 (cp q ?_) | refine a8 (dp q ?_) | refine a9 (cp o ?_) | refine a8 (dp o ?_) | refine a9 (cp bd ?_) | refine a8 (dp bd ?_) | fail); simp -implicitDefEqProofs [h1, w1, w2]) | refine hK _ ?_ | refine hK _ _ (by rfl) ?_ | fail)
    refine d7 (d6 ?_); simp -implicitDefEqProofs [g8, f9, g7, n6, z0] <;> try rfl
  rw [if_pos h1]
  obtain ⟨x, hx, hxn, hxk⟩ := a24 h1 (by decide)
  have hx' := (List.getElem?_eq_some_iff.1 hx).2
  have hlt := (List.getElem?_eq_some_iff.1 hx).1
  rw [hxn] at o ⊢
  obtain ⟨xk, xn, xs, xf, xt⟩ := x
  dsimp only at hxk ⊢
  subst hxk
  clear h1 hxn
  have p := b1y ts hl (j + 2) (by omega)
  have kp := (b8d (ts := ts) (j + 2) (by omega)).ok
  obtain ⟨⟨⟨px, pl⟩, p2, p3⟩, hp⟩ : ∃ r, a2g ts (j + 2) = r := ⟨_, rfl⟩
  rw [hp] at p kp ⊢
  dsimp only
  clear hp
  by_cases h2 : p3 = 0; rotate_left
  · rw [if_neg h2]
    clear kp
    refine f6 Tryz.func36 rfl rfl (Nat.le_of_ble_eq_true rfl) ?_
    repeat' (first | refine d4 ?_ | refine b8 ?_ | refine b7 ?_ | refine b9 ?_ | refine f5 rfl ?_ | refine d8 rfl ?_ | ((first | refine c5 (fun K hK => ?_) | refine d5 f8 (fun K hK => ?_) | refine a9 (cp q ?_) | refine a8 (dp q ?_) | refine a9 (cp o ?_) | refine a8 (dp o ?_) | refine a9 (cp p ?_) | refine a8 (dp p ?_) | fail); simp -implicitDefEqProofs [w1, w2, h2]) | refine hK _ ?_ | refine hK _ _ (by rfl) ?_ | fail)
    refine d7 (d6 ?_); simp -implicitDefEqProofs [g8, f9, g7] <;> try rfl
  subst h2
  rw [if_pos rfl]
  have yp := kp.yes rfl
  dsimp only at yp
  have c := i5 ts p2 a1p
  rw [j0 c1z] at c
  by_cases h3 : isK a1p (nxt ts p2) = true; rotate_left
  · rw [if_neg h3]
    rw [show isK a1p (nxt ts p2) = false by simpa using h3] at c
    have bd := l6 p2
    clear kp h3
    refine f6 Tryz.func36 rfl rfl (Nat.le_of_ble_eq_true rfl) ?_
    repeat' (first | refine d4 ?_ | refine b8 ?_ | refine b7 ?_ | refine b9 ?_ | refine f5 rfl ?_ | refine d8 rfl ?_ | ((first | refine c5 (fun K hK => ?_) | refine d5 f8 (fun K hK => ?_) | refine a9 (cp q ?_) | refine a8 (dp q ?_) | refine a9 (cp o ?_) | refine a8 (dp o ?_) | refine a9 (cp p ?_) | refine a8 (dp p ?_) | refine a9 (cp c ?_) | refine a8 (dp c ?_) | refine a9 (cp bd ?_) | refine a8 (dp bd ?_) | fail); simp -implicitDefEqProofs [w1, w2]) | refine hK _ ?_ | refine hK _ _ (by rfl) ?_ | fail)
    refine d7 (d6 ?_); simp -implicitDefEqProofs [g8, f9, g7, n6, z0] <;> try rfl
  rw [if_pos h3]
  have hlt3 := g9 h3
  rw [h3] at c
  have w3 : IntKind.i64.wrap ((p2 : Nat) + 1 : Int) = (p2 : Nat) + 1 := k9 _ (by omega) (by omega)
  have t := b84 ts hl (p2 + 1) (by omega)
  have kt := (a73 (ts := ts) (p2 + 1) (by omega)).ok
  obtain ⟨⟨⟨tx, tl⟩, t2, t3⟩, ht⟩ : ∃ r, tyG ts (ts.length + 1) (p2 + 1) = r := ⟨_, rfl⟩
  rw [ht] at t kt ⊢
  dsimp only
  clear ht h3
  by_cases h4 : t3 = 0; rotate_left
  · rw [if_neg h4]
    clear kp kt
    refine f6 Tryz.func36 rfl rfl (Nat.le_of_ble_eq_true rfl) ?_
    repeat' (first | refine d4 ?_ | refine b8 ?_ | refine b7 ?_ | refine b9 ?_ | refine f5 rfl ?_ | refine d8 rfl ?_ | ((first | refine c5 (fun K hK => ?_) | refine d5 f8 (fun K hK => ?_) | refine a9 (cp q ?_) | refine a8 (dp q ?_) | refine a9 (cp o ?_) | refine a8 (dp o ?_) | refine a9 (cp p ?_) | refine a8 (dp p ?_) | refine a9 (cp c ?_) | refine a8 (dp c ?_) | refine a9 (cp t ?_) | refine a8 (dp t ?_) | fail); simp -implicitDefEqProofs [w1, w2, w3, h4]) | refine hK _ ?_ | refine hK _ _ (by rfl) ?_ | fail)
    refine d7 (d6 ?_); simp -implicitDefEqProofs [g8, f9, g7] <;> try rfl
  subst h4
  rw [if_pos rfl]
  have yt := kt.yes rfl
  dsimp only at yt
  have b := b4z ts hl t2 yt.2
  rw [show blG ts (sG ts (ts.length + 1)) t2 = c2z ts t2 from rfl] at b
  have kb := (a8r (ts := ts) 2 t2 yt.2).ok
  rw [show R9 ts 2 t2 = c2z ts t2 from rfl] at kb
  obtain ⟨⟨⟨bx, bl⟩, b2, b3⟩, hb⟩ : ∃ r, c2z ts t2 = r := ⟨_, rfl⟩
  rw [hb] at b kb ⊢
  dsimp only
  clear hb
  by_cases h5 : b3 = 0; rotate_left
  · rw [if_neg h5]
    clear kp kt kb
    refine f6 Tryz.func36 rfl rfl (Nat.le_of_ble_eq_true rfl) ?_
    repeat' (first | refine d4 ?_ | refine b8 ?_ | refine b7 ?_ | refine b9 ?_ | refine f5 rfl ?_ | refine d8 rfl ?_ | ((first | refine c5 (fun K hK => ?_) | refine d5 f8 (fun K hK => ?_) | refine a9 (cp q ?_) | refine a8 (dp q ?_) | refine a9 (cp o ?_) | refine a8 (dp o ?_) | refine a9 (cp p ?_) | refine a8 (dp p ?_) | refine a9 (cp c ?_) | refine a8 (dp c ?_) | refine a9 (cp t ?_) | refine a8 (dp t ?_) | refine a9 (cp b ?_) | refine a8 (dp b ?_) | fail); simp -implicitDefEqProofs [w1, w2, w3, h5]) | refine hK _ ?_ | refine hK _ _ (by rfl) ?_ | fail)
    refine d7 (d6 ?_); simp -implicitDefEqProofs [g8, f9, g7] <;> try rfl
  subst h5
  rw [if_pos rfl]
  have yb := kb.yes rfl
  dsimp only at yb
  have m := o4 ts hl a b2 33 N xs [.mk px pl, .mk tx tl, .mk bx bl] (by omega) yb.2
  clear kp kt kb
  refine f6 Tryz.func36 rfl rfl (Nat.le_of_ble_eq_true rfl) ?_
  repeat' (first | refine d4 ?_ | refine b8 ?_ | refine b7 ?_ | refine b9 ?_ | refine f5 rfl ?_ | refine d8 rfl ?_ | ((first | refine c5 (fun K hK => ?_) | refine d5 f8 (fun K hK => ?_) | refine a9 (cp q ?_) | refine a8 (dp q ?_) | refine a9 (cp o ?_) | refine a8 (dp o ?_) | refine a9 (cp p ?_) | refine a8 (dp p ?_) | refine a9 (cp c ?_) | refine a8 (dp c ?_) | refine a9 (cp t ?_) | refine a8 (dp t ?_) | refine a9 (cp b ?_) | refine a8 (dp b ?_) | refine a9 (cp m ?_) | refine a8 (dp m ?_) | fail); simp -implicitDefEqProofs [w1, w2, w3, hlt, hx, hx', tn, t0]) | refine hK _ ?_ | refine hK _ _ (by rfl) ?_ | fail)
  refine d7 (d6 ?_); simp -implicitDefEqProofs [g8, f9, g7, mk7] <;> try rfl
end
end Go.Proofs.YthkfdheoakbfnaaGreat.am
end
section
namespace Go.Proofs.YthkfdheoakbfnaaGreat.am
open Go.ChangeShapes Go.WideShapes Go.ChangeAt Go.RowKit
open vt
set_option linter.unusedVariables false
set_option linter.unusedSimpArgs false
section
variable (ts : List Tok) (hl : ts.length ≤ 1000000000)
include hl
theorem b8r (i : Nat) (hi : i ≤ ts.length) : Row Tryz.prog 20 [vKs ts, vI i] [] (vG (p8 ts i)) [] := by
  have c := j9 ts i a0s
  rw [l8 q_con] at c
  have v := j9 ts i b97
  rw [l8 q_var] at v
  have p := j9 ts i c7f
  rw [l8 q_pub] at p
  have f := j9 ts i wFn
  rw [l8 q_fn] at f
  have r := j9 ts i wRec
  rw [l8 q_rec] at r
  have w1 : IntKind.i64.wrap ((i : Nat) + 1 : Int) = (i : Nat) + 1 := k9 _ (by omega) (by omega)
  have w2 : IntKind.i64.wrap ((i : Nat) + 2 : Int) = (i : Nat) + 2 := k9 _ (by omega) (by omega)
  have w3 : IntKind.i64.wrap ((i : Nat) + 3 : Int) = (i : Nat) + 3 := k9 _ (by omega) (by omega)
  unfold p8
  by_cases h1 : isK a0s (nxt ts i) = true
  · rw [if_pos h1]
    have s := a6j ts hl i (g9 h1) true h1 (fun h => by cases h) 31 a0s sIs 3 rfl rfl rfl rfl
    rw [h1] at c
    obtain ⟨⟨⟨nx, nl⟩, nj, ne⟩, hn⟩ : ∃ r, itH ts (R9 ts) i 31 0 [.sgn a0s, .nam, .sgn sIs, .sub 3, .sgn a04] i ⟨#[]⟩ [] = r := ⟨_, rfl⟩
    rw [hn] at s ⊢
    clear hn h1
    refine f6 Tryz.func20 rfl rfl (Nat.le_of_ble_eq_true rfl) ?_
    repeat' (first | refine d4 ?_ | refine b8 ?_ | refine b7 ?_ | refine b9 ?_ | refine f5 rfl ?_ | refine d8 rfl ?_ | ((first | refine c5 (fun K hK => ?_) | refine d5 f8 (fun K hK => ?_) | refine a9 (cp c ?_) | refine a8 (dp c ?_) | refine a9 (cp v ?_) | refine a8 (dp v ?_) | refine a9 (cp s ?_) | refine a8 (dp s ?_) | fail); simp -implicitDefEqProofs) | refine hK _ ?_ | refine hK _ _ (by rfl) ?_ | fail)
    refine d7 (d6 ?_); simp -implicitDefEqProofs [g8, f9, g7] <;> try rfl
  rw [if_neg h1]
  rw [show isK a0s (nxt ts i) = false by simpa using h1] at c
  by_cases h2 : isK b97 (nxt ts i) = true
  · rw [if_pos h2]
    have s := a6j ts hl i (g9 h2) false (by simpa using h1) (fun _ => h2) 32 b97 a1p 1 rfl rfl rfl rfl
    rw [h2] at v
    obtain ⟨⟨⟨nx, nl⟩, nj, ne⟩, hn⟩ : ∃ r, itH ts (R9 ts) i 32 0 [.sgn b97, .nam, .sgn a1p, .sub 1, .sgn a04] i ⟨#[]⟩ [] = r := ⟨_, rfl⟩
    rw [hn] at s ⊢
    clear hn h1 h2
    refine f6 Tryz.func20 rfl rfl (Nat.le_of_ble_eq_true rfl) ?_
    repeat' (first | refine d4 ?_ | refine b8 ?_ | refine b7 ?_ | refine b9 ?_ | refine f5 rfl ?_ | refine d8 rfl ?_ | ((first | refine c5 (fun K hK => ?_) | refine d5 f8 (fun K hK => ?_) | refine a9 (cp c ?_) | refine a8 (dp c ?_) | refine a9 (cp v ?_) | refine a8 (dp v ?_) | refine a9 (cp s ?_) | refine a8 (dp s ?_) | fail); simp -implicitDefEqProofs) | refine hK _ ?_ | refine hK _ _ (by rfl) ?_ | fail)
    refine d7 (d6 ?_); simp -implicitDefEqProofs [g8, f9, g7] <;> try rfl
  rw [if_neg h2]
  rw [show isK b97 (nxt ts i) = false by simpa using h2] at v
  by_cases h3 : isK c7f (nxt ts i) = true
  · rw [if_pos h3]
    have hlt := g9 h3
    have s := b8t ts hl i (i + 1) 1 (by omega) hlt
    rw [h3] at p
    rw [z3, if_pos h3]
    obtain ⟨⟨⟨nx, nl⟩, nj, ne⟩, hn⟩ : ∃ r, itH ts (R9 ts) i 33 1 [.sgn wFn, .nam, .sub 4, .sgn a1p, .sub 1, .sub 2] (i + 1) ⟨#[]⟩ [] = r := ⟨_, rfl⟩
    rw [hn] at s ⊢
    clear hn h1 h2 h3
    refine f6 Tryz.func20 rfl rfl (Nat.le_of_ble_eq_true rfl) ?_
    repeat' (first | refine d4 ?_ | refine b8 ?_ | refine b7 ?_ | refine b9 ?_ | refine f5 rfl ?_ | refine d8 rfl ?_ | ((first | refine c5 (fun K hK => ?_) | refine d5 f8 (fun K hK => ?_) | refine a9 (cp c ?_) | refine a8 (dp c ?_) | refine a9 (cp v ?_) | refine a8 (dp v ?_) | refine a9 (cp p ?_) | refine a8 (dp p ?_) | refine a9 (cp s ?_) | refine a8 (dp s ?_) | fail); simp -implicitDefEqProofs [w1]) | refine hK _ ?_ | refine hK _ _ (by rfl) ?_ | fail)
    refine d7 (d6 ?_); simp -implicitDefEqProofs [g8, f9, g7] <;> try rfl
  rw [if_neg h3]
  rw [show isK c7f (nxt ts i) = false by simpa using h3] at p
  by_cases h4 : isK wFn (nxt ts i) = true
  · rw [if_pos h4]
    have s := b8t ts hl i i 0 (Nat.le_refl i) hi
    rw [h4] at f
    obtain ⟨⟨⟨nx, nl⟩, nj, ne⟩, hn⟩ : ∃ r, itH ts (R9 ts) i 33 0 [.sgn wFn, .nam, .sub 4, .sgn a1p, .sub 1, .sub 2] i ⟨#[]⟩ [] = r := ⟨_, rfl⟩
    rw [hn] at s ⊢
    clear hn h1 h2 h3 h4
    refine f6 Tryz.func20 rfl rfl (Nat.le_of_ble_eq_true rfl) ?_
    repeat' (first | refine d4 ?_ | refine b8 ?_ | refine b7 ?_ | refine b9 ?_ | refine f5 rfl ?_ | refine d8 rfl ?_ | ((first | refine c5 (fun K hK => ?_) | refine d5 f8 (fun K hK => ?_) | refine a9 (cp c ?_) | refine a8 (dp c ?_) | refine a9 (cp v ?_) | refine a8 (dp v ?_) | refine a9 (cp p ?_) | refine a8 (dp p ?_) | refine a9 (cp f ?_) | refine a8 (dp f ?_) | refine a9 (cp s ?_) | refine a8 (dp s ?_) | fail); simp -implicitDefEqProofs) | refine hK _ ?_ | refine hK _ _ (by rfl) ?_ | fail)
    refine d7 (d6 ?_); simp -implicitDefEqProofs [g8, f9, g7] <;> try rfl
  rw [if_neg h4]
  rw [show isK wFn (nxt ts i) = false by simpa using h4] at f
  by_cases h5 : isK wRec (nxt ts i) = true; rotate_left
  · rw [if_neg h5]
    rw [show isK wRec (nxt ts i) = false by simpa using h5] at r
    have bd := l6 i
    clear h1 h2 h3 h4 h5
    refine f6 Tryz.func20 rfl rfl (Nat.le_of_ble_eq_true rfl) ?_
    repeat' (first | refine d4 ?_ | refine b8 ?_ | refine b7 ?_ | refine b9 ?_ | refine f5 rfl ?_ | refine d8 rfl ?_ | ((first | refine c5 (fun K hK => ?_) | refine d5 f8 (fun K hK => ?_) | refine a9 (cp c ?_) | refine a8 (dp c ?_) | refine a9 (cp v ?_) | refine a8 (dp v ?_) | refine a9 (cp p ?_) | refine a8 (dp p ?_) | refine a9 (cp f ?_) | refine a8 (dp f ?_) | refine a9 (cp r ?_) | refine a8 (dp r ?_) | refine a9 (cp bd ?_) | refine a8 (dp bd ?_) | fail); simp -implicitDefEqProofs) | refine hK _ ?_ | refine hK _ _ (by rfl) ?_ | fail)
    refine d7 (d6 ?_); simp -implicitDefEqProofs [g8, f9, g7, n6, z0] <;> try rfl
  rw [if_pos h5]
  have hlt := g9 h5
  rw [h5] at r
  clear h1 h2 h3 h4 h5
  unfold c0f
  have o := s4 ts (i + 1)
  by_cases h6 : (nxt ts (i + 1)).k = 1; rotate_left
  · rw [if_neg h6]
    have bd := l6 (i + 1)
    obtain ⟨⟨xk, xn, xs, xf, xt⟩, hx⟩ : ∃ x, nxt ts (i + 1) = x := ⟨_, rfl⟩
    rw [hx] at o h6
    dsimp only at h6
    clear hx
    refine f6 Tryz.func20 rfl rfl (Nat.le_of_ble_eq_true rfl) ?_
    repeat' (first | refine d4 ?_ | refine b8 ?_ | refine b7 ?_ | refine b9 ?_ | refine f5 rfl ?_ | refine d8 rfl ?_ | ((first | refine c5 (fun K hK => ?_) | refine d5 f8 (fun K hK => ?_) | refine a9 (cp c ?_) | refine a8 (dp c ?_) | refine a9 (cp v ?_) | refine a8 (dp v ?_) | refine a9 (cp p ?_) | refine a8 (dp p ?_) | refine a9 (cp f ?_) | refine a8 (dp f ?_) | refine a9 (cp r ?_) | refine a8 (dp r ?_) | refine a9 (cp o ?_) | refine a8 (dp o ?_) | refine a9 (cp bd ?_) | refine a8 (dp bd ?_) | fail); simp -implicitDefEqProofs [h6, w1, w2, w3]) | refine hK _ ?_ | refine hK _ _ (by rfl) ?_ | fail)
    refine d7 (d6 ?_); simp -implicitDefEqProofs [g8, f9, g7, n6, z0] <;> try rfl
  rw [if_pos h6]
  obtain ⟨x, hx, hxn, hxk⟩ := a24 h6 (by decide)
  have hx' := (List.getElem?_eq_some_iff.1 hx).2
  have hlt1 := (List.getElem?_eq_some_iff.1 hx).1
  rw [hxn] at o ⊢
  obtain ⟨xk, xn, xs, xf, xt⟩ := x
  dsimp only at hxk ⊢
  subst hxk
  clear h6 hxn
  have tn : ((i : Nat) + 1 : Int).toNat = i + 1 := by omega
  have t0 : ((0 : Int) ≤ (i : Nat) + 1) = True := eq_true (by omega)
  have s := i5 ts (i + 2) a8g
  rw [j0 c1y] at s
  by_cases h7 : isK a8g (nxt ts (i + 2)) = true; rotate_left
  · rw [if_neg h7]
    rw [show isK a8g (nxt ts (i + 2)) = false by simpa using h7] at s
    have bd := l6 (i + 2)
    clear h7
    refine f6 Tryz.func20 rfl rfl (Nat.le_of_ble_eq_true rfl) ?_
    repeat' (first | refine d4 ?_ | refine b8 ?_ | refine b7 ?_ | refine b9 ?_ | refine f5 rfl ?_ | refine d8 rfl ?_ | ((first | refine c5 (fun K hK => ?_) | refine d5 f8 (fun K hK => ?_) | refine a9 (cp c ?_) | refine a8 (dp c ?_) | refine a9 (cp v ?_) | refine a8 (dp v ?_) | refine a9 (cp p ?_) | refine a8 (dp p ?_) | refine a9 (cp f ?_) | refine a8 (dp f ?_) | refine a9 (cp r ?_) | refine a8 (dp r ?_) | refine a9 (cp o ?_) | refine a8 (dp o ?_) | refine a9 (cp s ?_) | refine a8 (dp s ?_) | refine a9 (cp bd ?_) | refine a8 (dp bd ?_) | fail); simp -implicitDefEqProofs [w1, w2, w3]) | refine hK _ ?_ | refine hK _ _ (by rfl) ?_ | fail)
    refine d7 (d6 ?_); simp -implicitDefEqProofs [g8, f9, g7, n6, z0] <;> try rfl
  rw [if_pos h7]
  have hlt2 := g9 h7
  rw [h7] at s
  have fl := b1v ts hl (i + 3) (by omega)
  have hok := b3b (ts := ts) (ts.length + 1) (i + 3) [] (by omega)
  obtain ⟨⟨d1, d2, d3⟩, hd⟩ : ∃ r, lpF ts (ts.length + 1) (i + 3) [] = r := ⟨_, rfl⟩
  rw [hd] at fl hok ⊢
  have hle := hok.le
  dsimp only at hle
  clear h7 hd
  by_cases h8 : d3 = 0; rotate_left
  · rw [show a0w ts i 30 xs (d1, d2, d3) = (z0, d2, d3) from if_pos h8]
    clear hok
    refine f6 Tryz.func20 rfl rfl (Nat.le_of_ble_eq_true rfl) ?_
    repeat' (first | refine d4 ?_ | refine b8 ?_ | refine b7 ?_ | refine b9 ?_ | refine f5 rfl ?_ | refine d8 rfl ?_ | ((first | refine c5 (fun K hK => ?_) | refine d5 f8 (fun K hK => ?_) | refine a9 (cp c ?_) | refine a8 (dp c ?_) | refine a9 (cp v ?_) | refine a8 (dp v ?_) | refine a9 (cp p ?_) | refine a8 (dp p ?_) | refine a9 (cp f ?_) | refine a8 (dp f ?_) | refine a9 (cp r ?_) | refine a8 (dp r ?_) | refine a9 (cp o ?_) | refine a8 (dp o ?_) | refine a9 (cp s ?_) | refine a8 (dp s ?_) | refine a9 (cp fl ?_) | refine a8 (dp fl ?_) | fail); simp -implicitDefEqProofs [w1, w2, w3, h8]) | refine hK _ ?_ | refine hK _ _ (by rfl) ?_ | fail)
    refine d7 (d6 ?_); simp -implicitDefEqProofs [g8, f9, g7, z0] <;> try rfl
  subst h8
  have m := o4 ts hl i d2 30 0 xs d1 (by omega) hle.2
  rw [show a0w ts i 30 xs (d1, d2, 0) = mk7 ts i d2 30 0 xs d1 from if_neg (by simp)]
  clear hok
  refine f6 Tryz.func20 rfl rfl (Nat.le_of_ble_eq_true rfl) ?_
  repeat' (first | refine d4 ?_ | refine b8 ?_ | refine b7 ?_ | refine b9 ?_ | refine f5 rfl ?_ | refine d8 rfl ?_ | ((first | refine c5 (fun K hK => ?_) | refine d5 f8 (fun K hK => ?_) | refine a9 (cp c ?_) | refine a8 (dp c ?_) | refine a9 (cp v ?_) | refine a8 (dp v ?_) | refine a9 (cp p ?_) | refine a8 (dp p ?_) | refine a9 (cp f ?_) | refine a8 (dp f ?_) | refine a9 (cp r ?_) | refine a8 (dp r ?_) | refine a9 (cp o ?_) | refine a8 (dp o ?_) | refine a9 (cp s ?_) | refine a8 (dp s ?_) | refine a9 (cp fl ?_) | refine a8 (dp fl ?_) | refine a9 (cp m ?_) | refine a8 (dp m ?_) | fail); simp -implicitDefEqProofs [w1, w2, w3, hlt1, hx, hx', tn, t0]) | refine hK _ ?_ | refine hK _ _ (by rfl) ?_ | fail)
  refine d7 (d6 ?_); simp -implicitDefEqProofs [g8, f9, g7, mk7] <;> try rfl
end
end Go.Proofs.YthkfdheoakbfnaaGreat.am
end
section
namespace Go.Proofs.YthkfdheoakbfnaaGreat.am
open Go.ChangeShapes Go.WideShapes Go.ChangeAt Go.RowKit
open vt
set_option linter.unusedVariables false
set_option linter.unusedSimpArgs false
theorem b40 (t : VT) : t.size ≤ 1000000 → Row Tryz.prog 21 [vT t] [] (vI (dpt t : Nat)) [] := by
  induction t using Tr.ind with
  | h x l ih =>
  intro hs
  have hlen : l.length ≤ 1000000 := by have := Tr.len_size (x := x) (l := l); omega
  have hd : dpt (.mk x l) = dmx l l.length + 1 := by rw [c3f]; unfold dmx; rw [List.take_length]
  rw [hd]
  have hmx : ∀ k, dmx l k ≤ 1000000 := fun k => by have := dmx_le (x := x) (l := l) k; omega
  refine f6 Tryz.func21 rfl rfl (Nat.le_of_ble_eq_true rfl) ?_
  repeat (first | refine d4 ?_ | refine b8 ?_ | refine b7 ?_ | refine b9 ?_ | refine f5 rfl ?_ | refine d8 rfl ?_ | ((first | refine c5 (fun K hK => ?_) | refine d5 f8 (fun K hK => ?_) | fail); simp -implicitDefEqProofs; first | refine hK _ ?_ | refine hK _ _ (by rfl) ?_ | fail) | fail)
  refine l7 (ι := Nat) (fun k => s7 [(1, .v (.c (.ptr 0 0))), (3, vI (dmx l k : Nat)), (4, vI (k : Nat))] [some (.box ((tc (.mk x l)).map .pv))]) (fun k => k ≤ l.length) (fun k => l.length - k) 0 (Nat.zero_le _) (f7 [0] (by simp -implicitDefEqProofs [dmx]) (by simp -implicitDefEqProofs [dmx]) (by decide) rfl (by simp)) (fun Z hI k hk => ?_)
  by_cases hkl : k < l.length; rotate_left
  · have : k = l.length := by omega
    subst this
    have w3 : IntKind.i64.wrap ((dmx l l.length : Nat) + 1 : Int) = (dmx l l.length : Nat) + 1 := k9 _ (by have := hmx l.length; omega) (by have := hmx l.length; omega)
    repeat (first | refine d4 ?_ | refine b8 ?_ | refine b7 ?_ | refine b9 ?_ | refine f5 rfl ?_ | refine d8 rfl ?_ | ((first | refine c5 (fun K hK => ?_) | refine d5 f8 (fun K hK => ?_) | fail); simp -implicitDefEqProofs [hkl, w3]; first | refine hK _ ?_ | refine hK _ _ (by rfl) ?_ | fail) | fail)
    refine d7 (d6 ?_); simp -implicitDefEqProofs [g8, f9, g7] <;> try rfl
  obtain ⟨y, hy⟩ : ∃ y, l[k]? = some y := ⟨_, List.getElem?_eq_getElem hkl⟩
  have hy' := (List.getElem?_eq_some_iff.1 hy).2
  have hm := List.mem_of_getElem? hy
  have hq := ih y hm (by have := Tr.size_at (x := x) hy; omega)
  have hn := c1e hy
  obtain ⟨p, hp⟩ : ∃ p, dmx l k = p := ⟨_, rfl⟩
  obtain ⟨d, hdd⟩ : ∃ d, dpt y = d := ⟨_, rfl⟩
  rw [hp, hdd] at hn
  rw [hdd] at hq
  rw [hp]
  obtain ⟨⟨yk, yn, ys, yf, yt⟩, yl⟩ := y
  have w2 : IntKind.i64.wrap ((k : Nat) + 1 : Int) = (k : Nat) + 1 := k9 _ (by omega) (by omega)
  by_cases hlt : p < d
  · have hlt' : (p : Int) < d := by omega
    rw [Nat.max_eq_right (by omega)] at hn
    clear ih hp hdd hm hd hmx
    repeat' (first | refine d4 ?_ | refine b8 ?_ | refine b7 ?_ | refine b9 ?_ | refine f5 rfl ?_ | refine d8 rfl ?_ | ((first | refine c5 (fun K hK => ?_) | refine d5 f8 (fun K hK => ?_) | refine a9 (cp hq ?_) | refine a8 (dp hq ?_) | fail); simp -implicitDefEqProofs [hkl, hy, hy', hlt, hlt', w2]) | refine hK _ ?_ | refine hK _ _ (by rfl) ?_ | fail)
    refine ⟨k + 1, by omega, (by dsimp only; omega), ?_⟩; rw [hI]; exact f7 [0] (by simp -implicitDefEqProofs [hn]) (by simp -implicitDefEqProofs [hn]) (by decide) rfl (by simp)
  · have hlt' : ¬ (p : Int) < d := by omega
    rw [Nat.max_eq_left (by omega)] at hn
    clear ih hp hdd hm hd hmx
    repeat' (first | refine d4 ?_ | refine b8 ?_ | refine b7 ?_ | refine b9 ?_ | refine f5 rfl ?_ | refine d8 rfl ?_ | ((first | refine c5 (fun K hK => ?_) | refine d5 f8 (fun K hK => ?_) | refine a9 (cp hq ?_) | refine a8 (dp hq ?_) | fail); simp -implicitDefEqProofs [hkl, hy, hy', hlt, hlt', w2]) | refine hK _ ?_ | refine hK _ _ (by rfl) ?_ | fail)
    refine ⟨k + 1, by omega, (by dsimp only; omega), ?_⟩; rw [hI]; exact f7 [0] (by simp -implicitDefEqProofs [hn]) (by simp -implicitDefEqProofs [hn]) (by decide) rfl (by simp)
theorem b14 (s : ByteArray) (hs : s.size ≤ 8000) : Row Tryz.prog 10 [vS s] [] (vT3i (o7 s)) [] := by
  have tk := b10 s (by omega)
  unfold o7
  by_cases h0 : (a5d s).2.2 = 0; rotate_left
  · rw [if_pos h0]
    obtain ⟨⟨ts, p, e⟩, ht⟩ : ∃ r, a5d s = r := ⟨_, rfl⟩
    rw [ht] at tk h0 ⊢
    dsimp only at h0 ⊢
    clear ht
    refine f6 Tryz.func10 rfl rfl (Nat.le_of_ble_eq_true rfl) ?_
    repeat' (first | refine d4 ?_ | refine b8 ?_ | refine b7 ?_ | refine b9 ?_ | refine f5 rfl ?_ | refine d8 rfl ?_ | ((first | refine c5 (fun K hK => ?_) | refine d5 f8 (fun K hK => ?_) | refine a9 (cp tk ?_) | refine a8 (dp tk ?_) | fail); simp -implicitDefEqProofs [h0]) | refine hK _ ?_ | refine hK _ _ (by rfl) ?_ | fail)
    refine d7 (d6 ?_); simp -implicitDefEqProofs [g8, f9, g7, z0] <;> try rfl
  rw [if_neg (by simp [h0])]
  have hok := b3v h0
  obtain ⟨⟨ts, p, e⟩, ht⟩ : ∃ r, a5d s = r := ⟨_, rfl⟩
  rw [ht] at tk h0 hok ⊢
  dsimp only at h0 hok ⊢
  subst h0
  clear ht
  have hlen := b9o hok
  unfold modG
  have hsz := c37 (ts := ts) s (ts.length + 1)
  have h0 : InvU ts (lpU ts (ts.length + 1) 0 []) (ts.length + 1, 0, []) := ⟨rfl, by dsimp only; omega, by dsimp only; omega, by simp, by simp [sm]⟩
  obtain ⟨C, hC⟩ : ∃ C, lpU ts (ts.length + 1) 0 [] = C := ⟨_, rfl⟩
  rw [hC] at hsz h0 ⊢
  clear hC
  refine f6 Tryz.func10 rfl rfl (Nat.le_of_ble_eq_true rfl) ?_
  repeat' (first | refine d4 ?_ | refine b8 ?_ | refine b7 ?_ | refine b9 ?_ | refine f5 rfl ?_ | refine d8 rfl ?_ | ((first | refine c5 (fun K hK => ?_) | refine d5 f8 (fun K hK => ?_) | refine a9 (cp tk ?_) | refine a8 (dp tk ?_) | fail); simp -implicitDefEqProofs) | refine hK _ ?_ | refine hK _ _ (by rfl) ?_ | fail)
  refine l7 (ι := Nat × Nat × List VT) (fun x => s7 [(0, vS s), (2, .v (.c (.ptr 0 0))), (3, vI 0), (4, vI 0), (5, vKs ts), (8, .v (.c (.row 1 6 (x.2.2.map tc)))), (9, vI (x.2.1 : Nat))] [some zTb, some (.row 25 6)]) (InvU ts C) (fun x => x.1) (ts.length + 1, 0, []) h0 (f7 [0, 21] (by simp -implicitDefEqProofs) (by simp -implicitDefEqProofs) (by decide) rfl (by simp)) (fun Z hI x hx => ?_)
  clear h0 tk
  obtain ⟨m, i, acc⟩ := x
  have hle := hx.le
  have hfu := hx.fuel
  have hfew := hx.few
  dsimp only at hle hfu hfew ⊢
  obtain ⟨m, rfl⟩ : ∃ k, m = k + 1 := ⟨m - 1, by omega⟩
  have wl : IntKind.i64.wrap ((ts.length : Int) - 1) = (ts.length : Int) - 1 := k9 _ (by omega) (by omega)
  by_cases hnl : ts.length ≤ i + 1
  · have y1 := hx.eq
    dsimp only at y1
    rw [lpU, if_pos hnl] at y1
    subst y1
    have g1 : ¬ (i : Int) < (ts.length : Int) - 1 := by omega
    dsimp only at hsz ⊢
    rw [if_neg (by simp)]
    have dep := b40 (c35 s acc) (by omega)
    obtain ⟨d, hd⟩ : ∃ d, dpt (c35 s acc) = d := ⟨_, rfl⟩
    rw [hd] at dep ⊢
    unfold c35 at dep ⊢
    clear hx hsz hok
    by_cases h6 : 64 < acc.length
    · rw [if_pos h6]
      have h6' : (64 : Int) < acc.length := by omega
      repeat' (first | refine d4 ?_ | refine b8 ?_ | refine b7 ?_ | refine b9 ?_ | refine f5 rfl ?_ | refine d8 rfl ?_ | ((first | refine c5 (fun K hK => ?_) | refine d5 f8 (fun K hK => ?_) | refine a9 (cp dep ?_) | refine a8 (dp dep ?_) | fail); simp -implicitDefEqProofs [wl, g1, h6, h6']) | refine hK _ ?_ | refine hK _ _ (by rfl) ?_ | fail)
      refine d7 (d6 ?_); simp -implicitDefEqProofs [g8, f9, g7, z0] <;> try rfl
    rw [if_neg h6]
    have h6' : ¬ (64 : Int) < acc.length := by omega
    by_cases h7 : 64 < d
    · rw [if_pos h7]
      have h7' : (64 : Int) < d := by omega
      repeat' (first | refine d4 ?_ | refine b8 ?_ | refine b7 ?_ | refine b9 ?_ | refine f5 rfl ?_ | refine d8 rfl ?_ | ((first | refine c5 (fun K hK => ?_) | refine d5 f8 (fun K hK => ?_) | refine a9 (cp dep ?_) | refine a8 (dp dep ?_) | fail); simp -implicitDefEqProofs [wl, g1, h6, h6', h7, h7']) | refine hK _ ?_ | refine hK _ _ (by rfl) ?_ | fail)
      refine d7 (d6 ?_); simp -implicitDefEqProofs [g8, f9, g7, z0] <;> try rfl
    · rw [if_neg h7]
      have h7' : ¬ (64 : Int) < d := by omega
      repeat' (first | refine d4 ?_ | refine b8 ?_ | refine b7 ?_ | refine b9 ?_ | refine f5 rfl ?_ | refine d8 rfl ?_ | ((first | refine c5 (fun K hK => ?_) | refine d5 f8 (fun K hK => ?_) | refine a9 (cp dep ?_) | refine a8 (dp dep ?_) | fail); simp -implicitDefEqProofs [wl, g1, h6, h6', h7, h7']) | refine hK _ ?_ | refine hK _ _ (by rfl) ?_ | fail)
      refine d7 (d6 ?_); simp -implicitDefEqProofs [g8, f9, g7] <;> try rfl
  · have g1 : (i : Int) < (ts.length : Int) - 1 := by omega
    have dc := b8r ts (by omega) i (by omega)
    have ha := a5y hok hle
    have y1 := hx.eq
    dsimp only at y1
    rw [lpU, if_neg hnl] at y1
    have nx := fun h => b7r hok hx hnl h
    obtain ⟨⟨⟨px, pl⟩, j, e2⟩, hd⟩ : ∃ r, p8 ts i = r := ⟨_, rfl⟩
    rw [hd] at dc ha nx y1
    dsimp only at ha nx y1
    by_cases he : e2 = 0; rotate_left
    · rw [if_pos he] at y1
      subst y1
      have hjl : j < ts.length := by omega
      obtain ⟨y, hy⟩ : ∃ y, ts[j]? = some y := ⟨_, List.getElem?_eq_getElem hjl⟩
      have hy' := (List.getElem?_eq_some_iff.1 hy).2
      rw [if_pos he]
      rw [show frT ts j = y.f by unfold frT; rw [y7 hy]]
      clear hx nx hok hsz hd
      repeat' (first | refine d4 ?_ | refine b8 ?_ | refine b7 ?_ | refine b9 ?_ | refine f5 rfl ?_ | refine d8 rfl ?_ | ((first | refine c5 (fun K hK => ?_) | refine d5 f8 (fun K hK => ?_) | refine a9 (cp dc ?_) | refine a8 (dp dc ?_) | fail); simp -implicitDefEqProofs [wl, g1, he, hjl, hy, hy']) | refine hK _ ?_ | refine hK _ _ (by rfl) ?_ | fail)
      refine d7 (d6 ?_); simp -implicitDefEqProofs [g8, f9, g7, z0] <;> try rfl
    · subst he
      have nx := nx rfl
      have b1 : (acc.length + 1) * 72 ≤ 140737488355328 := by omega
      have b2 : acc.length + 1 ≤ 140737488355328 := by omega
      clear hx hok hsz hd y1
      repeat' (first | refine d4 ?_ | refine b8 ?_ | refine b7 ?_ | refine b9 ?_ | refine f5 rfl ?_ | refine d8 rfl ?_ | ((first | refine c5 (fun K hK => ?_) | refine d5 f8 (fun K hK => ?_) | refine a9 (cp dc ?_) | refine a8 (dp dc ?_) | fail); simp -implicitDefEqProofs [wl, g1, b1, b2]) | refine hK _ ?_ | refine hK _ _ (by rfl) ?_ | fail)
      refine ⟨(_, _, _), nx, (by dsimp only; omega), ?_⟩; rw [hI]; exact f7 [0, 26] (by simp -implicitDefEqProofs) (by simp -implicitDefEqProofs) (by decide) rfl (by simp)
theorem b0b (s : ByteArray) (hs : s.size ≤ 8000) : (o7 s).1.size ≤ 9000 := by
  have hz : Tr.size z0 = 1 := by simp [z0, Tr.size_mk]
  unfold o7
  split
  · rw [hz]; decide
  · rename_i h
    have h : (a5d s).2.2 = 0 := by simpa using h
    have h1 := b9o (b3v h)
    have h2 := c37 (ts := (a5d s).1) s ((a5d s).1.length + 1)
    unfold modG
    split
    · rw [hz]; decide
    split
    · rw [hz]; decide
    split
    · rw [hz]; decide
    · dsimp only; omega
theorem c2u (s : ByteArray) {x : Lab} {l : List VT} (h : (o7 s).1 = .mk x l) : ∀ d ∈ l, kndD d := fun d hd => by
  obtain ⟨W, hW⟩ := b90 s h d hd
  unfold kndD
  cases hW with
  | rec' x l Ws h => exact .inl h
  | dfn x a al A h => exact .inr (.inl h)
  | var' x a al A h => exact .inr (.inr (.inl h))
  | fn x p r b pl rl bl Ws R B h => exact .inr (.inr (.inr h))
  | pub x p r b pl rl bl Ws R B h => exact .inr (.inr (.inr h))
theorem b3u : ∀ {l m : List VT}, l.length = m.length → (∀ (i : Nat) a b, l[i]? = some a → m[i]? = some b → b.size ≤ a.size) → (m.map Tr.size).sum ≤ (l.map Tr.size).sum
  | [], [], _, _ => Nat.le_refl _
  | a :: l, b :: m, h, hq => by
    have h0 := hq 0 a b rfl rfl
    have ih := b3u (l := l) (m := m) (by simpa using h) (fun i a b h1 h2 => hq (i + 1) a b (by simpa using h1) (by simpa using h2))
    simp only [List.map_cons, List.sum_cons]
    omega
  | [], _ :: _, h, _ => by simp at h
  | _ :: _, [], h, _ => by simp at h
theorem b71 {x y : Lab} {l m : List VT} (h : l.length = m.length) (hq : ∀ (i : Nat) a b, l[i]? = some a → m[i]? = some b → b.size ≤ a.size) : Tr.size (Tr.mk y m) ≤ Tr.size (Tr.mk x l) := by
  rw [Tr.size_mk, Tr.size_mk]
  have := b3u h hq
  omega
theorem a2p (t : VT) : Tr.size z0T ≤ t.size := by
  have := Tr.size_pos t
  have : Tr.size z0T = 1 := by simp [z0T, Tr.size_mk]
  omega
theorem b2g (ml : List VT) (t : VT) : ∀ L, (u4 ml t L).t.size ≤ t.size := by
  induction t using Tr.ind with
  | h x l ih =>
  intro L
  by_cases he : (u4 ml (.mk x l) L).er = 0
  · rw [a2w] at he ⊢
    split
    · rename_i c
      rw [if_pos c] at he
      have one : ∀ y : Lab, Tr.size (Tr.mk y ([] : List VT)) ≤ Tr.size (Tr.mk x l) := fun y => by rw [Tr.size_mk, Tr.size_mk]; simp
      unfold b5w
      split
      · exact one _
      · split
        · exact one _
        · split
          · exact one _
          · exact a2p _
    · rename_i c
      rw [if_neg c] at he
      split
      · exact a2p _
      · rename_i d
        rw [if_neg d] at he
        obtain ⟨r, e1, e2, e3⟩ := a7y ml x L (Q := fun a b => b.size ≤ a.size) l 0 L [] (fun y hy L' _ => ih y hy L') he
        rw [e1]
        exact b71 e2 e3
  · rw [a5t ml _ L he]; exact a2p _
theorem b8n (ml : List VT) (keep : Bool) : ∀ (l : List VT) (seen : List ByteArray), (s8 ml keep seen l).2.2 = 0 → l.length = (s8 ml keep seen l).1.length ∧ ∀ (j : Nat) a b, l[j]? = some a → (s8 ml keep seen l).1[j]? = some b → b.size ≤ a.size
  | [], seen, h => ⟨rfl, fun j a b h1 => by simp at h1⟩
  | y :: l, seen, h => by
    unfold s8 at h ⊢
    split
    · rename_i c; rw [if_pos c] at h; exact absurd (show (9 : Int) = 0 from h) (by decide)
    rename_i c; rw [if_neg c] at h
    split
    · rename_i c2; rw [if_pos c2] at h; exact absurd h c2
    rename_i c2; rw [if_neg c2] at h
    split
    · rename_i c3; rw [if_pos c3] at h; exact absurd h c3
    rename_i c3
    obtain ⟨e1, e2⟩ := b8n ml keep l _ (by simpa using c3)
    refine ⟨by simp [← e1], fun j a b h1 h2 => ?_⟩
    cases j with
    | zero =>
      simp at h1 h2
      subst h1 h2
      have := b2g ml y []
      unfold b1h
      split
      · generalize (u4 ml y []).t = u at this ⊢
        obtain ⟨ux, ul⟩ := u
        rw [Tr.kids, Tr.size_mk] at *
        exact this
      · exact this
    | succ j => simp at h1 h2; exact e2 j a b h1 h2
theorem dec_sz (ml : List VT) (d : VT) (hs : b5c d) : (a1m ml d).t.size ≤ d.size := by
  by_cases he : (a1m ml d).er = 0
  · obtain ⟨x, l⟩ := d
    unfold a1m at he ⊢
    unfold b5c at hs
    rw [Tr.lab] at he hs ⊢
    rw [Tr.kids] at he hs ⊢
    split
    · rename_i c
      rw [if_pos c, b0k] at he
      rw [b5r _ _ _ he]
      obtain ⟨e1, e2⟩ := b8n ml true l [] he
      exact b71 (by simpa using e1) (by simpa using e2)
    rename_i c
    rw [if_neg c] at he hs
    split
    · rename_i c3
      rw [if_pos c3] at he hs
      obtain ⟨p, pl, r, b, hk, hp35, hn, hp, hr, hb⟩ := hs
      subst hk
      simp only [List.getD_cons_zero, List.getD_cons_succ, Tr.lab, Tr.kids] at he ⊢
      unfold fnS at he ⊢
      split
      · exact a2p _
      rename_i q1
      split
      · exact a2p _
      split
      · exact a2p _
      obtain ⟨e1, e2⟩ := b8n ml false pl [] (by simpa using q1)
      refine b71 rfl (fun i a b' h1 h2 => ?_)
      match i with
      | 0 => simp at h1 h2; subst h1 h2; exact b71 e1 e2
      | 1 => simp at h1 h2; subst h1 h2; exact b2g ml _ _
      | 2 => simp at h1 h2; subst h1 h2; exact b2g ml _ _
      | i + 3 => simp at h1
    · exact b2g ml _ _
  · rw [c3e ml d he]; exact a2p _
theorem a66 (ml : List VT) {Q : VT → VT → Prop} : ∀ (l : List VT), (∀ d ∈ l, (a1m ml d).er = 0 → Q d (a1m ml d).t) → (o6 ml l).2.2 = 0 → l.length = (o6 ml l).1.length ∧ ∀ (j : Nat) a b, l[j]? = some a → (o6 ml l).1[j]? = some b → Q a b
  | [], _, _ => ⟨rfl, fun j a b h1 => by simp at h1⟩
  | y :: l, hq, h => by
    unfold o6 at h ⊢
    split
    · rename_i c2; rw [if_pos c2] at h; exact absurd h c2
    rename_i c2; rw [if_neg c2] at h
    split
    · rename_i c3; rw [if_pos c3] at h; exact absurd h c3
    rename_i c3
    obtain ⟨e1, e2⟩ := a66 ml l (fun d hd => hq d (.tail _ hd)) (by simpa using c3)
    refine ⟨by simp [← e1], fun j a b h1 h2 => ?_⟩
    cases j with
    | zero => simp at h1 h2; subst h1 h2; exact hq y (.head _) (by simpa using c2)
    | succ j => simp at h1 h2; exact e2 j a b h1 h2
theorem c4g (x : Lab) (ml : List VT) (hs : ∀ d ∈ ml, b5c d) : (a2i x ml).t.size ≤ Tr.size (Tr.mk x ml) := by
  unfold a2i
  split
  · exact a2p _
  · by_cases he : (o6 ml ml).2.2 = 0
    · rw [b5r _ _ _ he, List.nil_append]
      obtain ⟨e1, e2⟩ := a66 ml (Q := fun a b => b.size ≤ a.size) ml (fun d hd _ => dec_sz ml d (hs d hd)) he
      exact b71 e1 e2
    · unfold b5z; rw [if_pos he]; exact a2p _
end Go.Proofs.YthkfdheoakbfnaaGreat.am
end
