import Derived.Test.YthkfdheoakbfnaaGreatPkF20
import Derived.Test.YthkfdheoakbfnaaGreatPkF9
import Derived.Test.YthkfdheoakbfnaaGreatPkF4
set_option maxRecDepth 100000
set_option maxHeartbeats 4000000
section
namespace Go.Proofs.YthkfdheoakbfnaaGreat.am
open Go.ChangeShapes Go.WideShapes Go.ChangeAt Go.RowKit
open vt
set_option linter.unusedVariables false
set_option linter.unusedSimpArgs false
theorem b44 (m ret : VT) (L : List VT) (B : Nat) (x : Lab) (l : List VT) (ht : t7 (.mk x l)) (hc : Cn m L ret B (Tr.mk x l).size) (i : Nat) (y : VT) (hy : l[i]? = some y) (hn : (l.length : Int) = (a2u x.k).1) (hb : (a2u x.k).1 - (a2u x.k).2 ≤ i → y.lab.k = 29 ∧ BlR m ret y) : Row Tryz.prog 85 [vT m, vLs L, vT ret, vT (.mk x l), vI (i : Nat)] [] (vGr (b4w m ret L x i y)) [] := by
  have hp := a6i x.k
  have hil := (List.getElem?_eq_some_iff.1 hy).1
  have hy' := (List.getElem?_eq_some_iff.1 hy).2
  have hsz := Tr.size_at (x := x) hy
  have hin := ((Tr.all_mk _ x l).1 ht).2 _ (List.mem_of_getElem? hy)
  have hcl := hc.len
  have hcB := hc.le
  have hms := hc.hm.2
  have b3 : L.length * 72 ≤ 140737488355328 := by omega
  have b4 : L.length ≤ 140737488355328 := by omega
  have b1 : (L.length + 1) * 72 ≤ 140737488355328 := by omega
  have b2 : L.length + 1 ≤ 140737488355328 := by omega
  unfold b4w prtG
  rcases a6e x.k with e | ⟨n, b, e, hbn, hn3⟩
  · rw [e] at hn; dsimp only at hn; omega
  rw [e] at hp hn hb ⊢
  dsimp only at hp hn hb ⊢
  have hln : l.length = n := by omega
  subst hln
  obtain ⟨s, hsb⟩ : ∃ s : Nat, l.length - b = s := ⟨_, rfl⟩
  have w1 : IntKind.i64.wrap ((l.length : Nat) - (b : Nat) : Int) = (s : Nat) := by rw [k9 _ (by omega) (by omega)]; omega
  rw [show ((l.length : Int) - (b : Int)) = (s : Nat) by omega] at hb ⊢
  by_cases hsi : s ≤ i
  · have hsi' : (s : Int) ≤ (i : Int) := by omega
    obtain ⟨h29, hbl⟩ := hb hsi'
    rw [if_pos hsi']
    obtain ⟨yx, yl⟩ := y
    rw [Tr.lab] at h29
    have hst : ∀ L, a3n m ret (.mk yx yl) L = a80 m ret yx yl L [] := fun L => by
      rw [a70, show b5d yx yl = true by unfold b5d; rw [if_pos h29], if_neg (by simp), if_pos h29]
    by_cases c25 : x.k = 25
    · rw [if_pos c25, hst]
      have hk := hbl (L ++ [tyT 1]) B ⟨hc.hm, fun y hy => by
        rcases List.mem_append.1 hy with hy | hy
        · exact hc.hL y hy
        · simp at hy; subst hy; exact a20 (Nat.le_trans (Tr.size_pos m) hc.hm.2) (by omega), by simp; omega, by omega, hc.ret⟩
      rw [Tr.lab, Tr.kids] at hk
      obtain ⟨⟨⟨bx, bl⟩, gp, ge⟩, hG⟩ : ∃ g, a80 m ret yx yl (L ++ [tyT 1]) [] = g := ⟨_, rfl⟩
      rw [hG] at hk ⊢
      clear hG hb hbl hst e
      unfold tyT at hk
      obtain ⟨mx, ml⟩ := m
      obtain ⟨rx, rl⟩ := ret
      refine f6 Tryz.func85 rfl rfl (Nat.le_of_ble_eq_true rfl) ?_
      repeat' (first | refine d4 ?_ | refine b8 ?_ | refine b7 ?_ | refine b9 ?_ | refine f5 rfl ?_ | refine d8 rfl ?_ | ((first | refine c5 (fun K hK => ?_) | refine d5 f8 (fun K hK => ?_) | refine a9 (cp hp ?_) | refine a8 (dp hp ?_) | refine a9 (cp hk ?_) | refine a8 (dp hk ?_) | fail); simp -implicitDefEqProofs [hil, hy, hy', w1, hsi, hsi', c25, b1, b2, b3, b4]) | refine hK _ ?_ | refine hK _ _ (by rfl) ?_ | fail)
      refine d7 (d6 ?_); simp -implicitDefEqProofs [g8, f9, g7] <;> try rfl
    · rw [if_neg c25, hst]
      have hk := hbl L B (hc.less (by omega))
      rw [Tr.lab, Tr.kids] at hk
      obtain ⟨⟨⟨bx, bl⟩, gp, ge⟩, hG⟩ : ∃ g, a80 m ret yx yl L [] = g := ⟨_, rfl⟩
      rw [hG] at hk ⊢
      clear hG hb hbl hst e
      obtain ⟨mx, ml⟩ := m
      obtain ⟨rx, rl⟩ := ret
      refine f6 Tryz.func85 rfl rfl (Nat.le_of_ble_eq_true rfl) ?_
      repeat' (first | refine d4 ?_ | refine b8 ?_ | refine b7 ?_ | refine b9 ?_ | refine f5 rfl ?_ | refine d8 rfl ?_ | ((first | refine c5 (fun K hK => ?_) | refine d5 f8 (fun K hK => ?_) | refine a9 (cp hp ?_) | refine a8 (dp hp ?_) | refine a9 (cp hk ?_) | refine a8 (dp hk ?_) | fail); simp -implicitDefEqProofs [hil, hy, hy', w1, hsi, hsi', c25]) | refine hK _ ?_ | refine hK _ _ (by rfl) ?_ | fail)
      refine d7 (d6 ?_); simp -implicitDefEqProofs [g8, f9, g7] <;> try rfl
  have hsi' : ¬ (s : Int) ≤ (i : Int) := by omega
  rw [if_neg hsi']
  clear hb
  by_cases c21 : x.k = 21
  · rw [if_pos c21]
    have hce := z9 m y hc.hm.1 (by omega) hin (by omega)
    have hnm := a2j y (by omega)
    obtain ⟨yx, yl⟩ := y
    have hba := n8 yx yl 11
    rw [Tr.lab]
    obtain ⟨c, hcc⟩ : ∃ c, a0p m (.mk yx yl) = c := ⟨_, rfl⟩
    obtain ⟨⟨zx, zl⟩, hzz⟩ : ∃ z, y6 (.mk yx yl) = z := ⟨_, rfl⟩
    rw [hcc] at hce ⊢
    rw [hzz] at hnm ⊢
    unfold u9 at hba ⊢
    clear hcc hzz e
    obtain ⟨mx, ml⟩ := m
    obtain ⟨rx, rl⟩ := ret
    by_cases c0 : c = 0
    · rw [if_pos c0]
      refine f6 Tryz.func85 rfl rfl (Nat.le_of_ble_eq_true rfl) ?_
      repeat' (first | refine d4 ?_ | refine b8 ?_ | refine b7 ?_ | refine b9 ?_ | refine f5 rfl ?_ | refine d8 rfl ?_ | ((first | refine c5 (fun K hK => ?_) | refine d5 f8 (fun K hK => ?_) | refine a9 (cp hp ?_) | refine a8 (dp hp ?_) | refine a9 (cp hce ?_) | refine a8 (dp hce ?_) | refine a9 (cp hnm ?_) | refine a8 (dp hnm ?_) | refine a9 (cp hba ?_) | refine a8 (dp hba ?_) | fail); simp -implicitDefEqProofs [hil, hy, hy', w1, hsi, hsi', c21, c0]) | refine hK _ ?_ | refine hK _ _ (by rfl) ?_ | fail)
      refine d7 (d6 ?_); simp -implicitDefEqProofs [g8, f9, g7] <;> try rfl
    · rw [if_neg c0]
      refine f6 Tryz.func85 rfl rfl (Nat.le_of_ble_eq_true rfl) ?_
      repeat' (first | refine d4 ?_ | refine b8 ?_ | refine b7 ?_ | refine b9 ?_ | refine f5 rfl ?_ | refine d8 rfl ?_ | ((first | refine c5 (fun K hK => ?_) | refine d5 f8 (fun K hK => ?_) | refine a9 (cp hp ?_) | refine a8 (dp hp ?_) | refine a9 (cp hce ?_) | refine a8 (dp hce ?_) | refine a9 (cp hnm ?_) | refine a8 (dp hnm ?_) | refine a9 (cp hba ?_) | refine a8 (dp hba ?_) | fail); simp -implicitDefEqProofs [hil, hy, hy', w1, hsi, hsi', c21, c0]) | refine hK _ ?_ | refine hK _ _ (by rfl) ?_ | fail)
      refine d7 (d6 ?_); simp -implicitDefEqProofs [g8, f9, g7] <;> try rfl
  rw [if_neg c21]
  have hon := fun a b => b8w m L B hc.hm hc.hL (by omega) (by omega) y hin (by omega) a b
  by_cases c23 : x.k = 23 ∨ x.k = 24
  · rw [if_pos c23]
    have hk := hon 2 2
    obtain ⟨⟨⟨bx, bl⟩, gp, ge⟩, hG⟩ : ∃ g, c0e m L y 2 2 = g := ⟨_, rfl⟩
    rw [hG] at hk ⊢
    clear hG e hon
    obtain ⟨mx, ml⟩ := m
    obtain ⟨rx, rl⟩ := ret
    obtain ⟨yx, yl⟩ := y
    rcases c23 with c | c
    · refine f6 Tryz.func85 rfl rfl (Nat.le_of_ble_eq_true rfl) ?_
      repeat' (first | refine d4 ?_ | refine b8 ?_ | refine b7 ?_ | refine b9 ?_ | refine f5 rfl ?_ | refine d8 rfl ?_ | ((first | refine c5 (fun K hK => ?_) | refine d5 f8 (fun K hK => ?_) | refine a9 (cp hp ?_) | refine a8 (dp hp ?_) | refine a9 (cp hk ?_) | refine a8 (dp hk ?_) | fail); simp -implicitDefEqProofs [hil, hy, hy', w1, hsi, hsi', c]) | refine hK _ ?_ | refine hK _ _ (by rfl) ?_ | fail)
      refine d7 (d6 ?_); simp -implicitDefEqProofs [g8, f9, g7] <;> try rfl
    · refine f6 Tryz.func85 rfl rfl (Nat.le_of_ble_eq_true rfl) ?_
      repeat' (first | refine d4 ?_ | refine b8 ?_ | refine b7 ?_ | refine b9 ?_ | refine f5 rfl ?_ | refine d8 rfl ?_ | ((first | refine c5 (fun K hK => ?_) | refine d5 f8 (fun K hK => ?_) | refine a9 (cp hp ?_) | refine a8 (dp hp ?_) | refine a9 (cp hk ?_) | refine a8 (dp hk ?_) | fail); simp -implicitDefEqProofs [hil, hy, hy', w1, hsi, hsi', c]) | refine hK _ ?_ | refine hK _ _ (by rfl) ?_ | fail)
      refine d7 (d6 ?_); simp -implicitDefEqProofs [g8, f9, g7] <;> try rfl
  rw [if_neg c23]
  have n23 : ¬ x.k = 23 := fun h => c23 (.inl h)
  have n24 : ¬ x.k = 24 := fun h => c23 (.inr h)
  by_cases c25 : x.k = 25
  · rw [if_pos c25]
    have hk := hon 1 1
    obtain ⟨⟨⟨bx, bl⟩, gp, ge⟩, hG⟩ : ∃ g, c0e m L y 1 1 = g := ⟨_, rfl⟩
    rw [hG] at hk ⊢
    clear hG e hon
    obtain ⟨mx, ml⟩ := m
    obtain ⟨rx, rl⟩ := ret
    obtain ⟨yx, yl⟩ := y
    refine f6 Tryz.func85 rfl rfl (Nat.le_of_ble_eq_true rfl) ?_
    repeat' (first | refine d4 ?_ | refine b8 ?_ | refine b7 ?_ | refine b9 ?_ | refine f5 rfl ?_ | refine d8 rfl ?_ | ((first | refine c5 (fun K hK => ?_) | refine d5 f8 (fun K hK => ?_) | refine a9 (cp hp ?_) | refine a8 (dp hp ?_) | refine a9 (cp hk ?_) | refine a8 (dp hk ?_) | fail); simp -implicitDefEqProofs [hil, hy, hy', w1, hsi, hsi', c25]) | refine hK _ ?_ | refine hK _ _ (by rfl) ?_ | fail)
    refine d7 (d6 ?_); simp -implicitDefEqProofs [g8, f9, g7] <;> try rfl
  rw [if_neg c25]
  by_cases c26 : x.k = 26
  · rw [if_pos c26]
    have hk := hon 1 2
    obtain ⟨⟨⟨bx, bl⟩, gp, ge⟩, hG⟩ : ∃ g, c0e m L y 1 2 = g := ⟨_, rfl⟩
    rw [hG] at hk ⊢
    clear hG e hon
    obtain ⟨mx, ml⟩ := m
    obtain ⟨rx, rl⟩ := ret
    obtain ⟨yx, yl⟩ := y
    refine f6 Tryz.func85 rfl rfl (Nat.le_of_ble_eq_true rfl) ?_
    repeat' (first | refine d4 ?_ | refine b8 ?_ | refine b7 ?_ | refine b9 ?_ | refine f5 rfl ?_ | refine d8 rfl ?_ | ((first | refine c5 (fun K hK => ?_) | refine d5 f8 (fun K hK => ?_) | refine a9 (cp hp ?_) | refine a8 (dp hp ?_) | refine a9 (cp hk ?_) | refine a8 (dp hk ?_) | fail); simp -implicitDefEqProofs [hil, hy, hy', w1, hsi, hsi', c26]) | refine hK _ ?_ | refine hK _ _ (by rfl) ?_ | fail)
    refine d7 (d6 ?_); simp -implicitDefEqProofs [g8, f9, g7] <;> try rfl
  rw [if_neg c26]
  clear hon
  by_cases c28 : x.k = 28 ∧ ¬ y.lab.k = 16
  · rw [if_pos c28]
    obtain ⟨c28, c16⟩ := c28
    obtain ⟨yx, yl⟩ := y
    have hba := n8 yx yl 12
    rw [Tr.lab] at c16 ⊢
    unfold u9 at hba ⊢
    obtain ⟨mx, ml⟩ := m
    obtain ⟨rx, rl⟩ := ret
    refine f6 Tryz.func85 rfl rfl (Nat.le_of_ble_eq_true rfl) ?_
    repeat' (first | refine d4 ?_ | refine b8 ?_ | refine b7 ?_ | refine b9 ?_ | refine f5 rfl ?_ | refine d8 rfl ?_ | ((first | refine c5 (fun K hK => ?_) | refine d5 f8 (fun K hK => ?_) | refine a9 (cp hp ?_) | refine a8 (dp hp ?_) | refine a9 (cp hba ?_) | refine a8 (dp hba ?_) | fail); simp -implicitDefEqProofs [hil, hy, hy', w1, hsi, hsi', c28, c16]) | refine hK _ ?_ | refine hK _ _ (by rfl) ?_ | fail)
    refine d7 (d6 ?_); simp -implicitDefEqProofs [g8, f9, g7] <;> try rfl
  rw [if_neg c28]
  have hof := a7x m L B hc.hm hc.hL (by omega) (by omega) y hin (by omega)
  have hok := a9l hc.hm (by omega) hc.hL y hin (by omega)
  have hsa := a0a (ofT m L y).ty (by have := hok.ty.2; omega) (a2t ret) (by rw [a36]; have := hc.ret.2; omega)
  have hbr := z8 ret (by have := hc.ret.2; omega)
  have hfr := a9t (ofT m L y)
  clear hok
  obtain ⟨⟨⟨ax, al⟩, ⟨bx, bl⟩, gp, ge⟩, hG⟩ : ∃ g, ofT m L y = g := ⟨_, rfl⟩
  rw [hG] at hof hsa hfr ⊢
  dsimp only at hsa ⊢
  obtain ⟨⟨zx, zl⟩, hzz⟩ : ∃ z, a2t ret = z := ⟨_, rfl⟩
  rw [hzz] at hsa hbr ⊢
  obtain ⟨q, hq⟩ : ∃ q, same (.mk ax al) (.mk zx zl) = q := ⟨_, rfl⟩
  rw [hq] at hsa ⊢
  unfold b4n at hfr ⊢
  clear hG hzz hq e
  obtain ⟨yx, yl⟩ := y
  have hba := n8 yx yl 10
  unfold u9 at hba ⊢
  rw [Tr.lab] at c28 ⊢
  have c28' : ¬ x.k = 28 ∨ (x.k = 28 ∧ yx.k = 16) := by
    by_cases h : x.k = 28
    · exact .inr ⟨h, Classical.byContradiction fun g => c28 ⟨h, g⟩⟩
    · exact .inl h
  clear c28
  obtain ⟨mx, ml⟩ := m
  obtain ⟨rx, rl⟩ := ret
  by_cases c27 : x.k = 27; rotate_left
  · rw [if_neg (fun h => c27 h.1)]
    rcases c28' with c28 | ⟨c28, c16⟩
    · refine f6 Tryz.func85 rfl rfl (Nat.le_of_ble_eq_true rfl) ?_
      repeat' (first | refine d4 ?_ | refine b8 ?_ | refine b7 ?_ | refine b9 ?_ | refine f5 rfl ?_ | refine d8 rfl ?_ | ((first | refine c5 (fun K hK => ?_) | refine d5 f8 (fun K hK => ?_) | refine a9 (cp hp ?_) | refine a8 (dp hp ?_) | refine a9 (cp hof ?_) | refine a8 (dp hof ?_) | refine a9 (cp hfr ?_) | refine a8 (dp hfr ?_) | fail); simp -implicitDefEqProofs [hil, hy, hy', w1, hsi, hsi', c21, n23, n24, c25, c26, c27, c28]) | refine hK _ ?_ | refine hK _ _ (by rfl) ?_ | fail)
      refine d7 (d6 ?_); simp -implicitDefEqProofs [g8, f9, g7] <;> try rfl
    · refine f6 Tryz.func85 rfl rfl (Nat.le_of_ble_eq_true rfl) ?_
      repeat' (first | refine d4 ?_ | refine b8 ?_ | refine b7 ?_ | refine b9 ?_ | refine f5 rfl ?_ | refine d8 rfl ?_ | ((first | refine c5 (fun K hK => ?_) | refine d5 f8 (fun K hK => ?_) | refine a9 (cp hp ?_) | refine a8 (dp hp ?_) | refine a9 (cp hof ?_) | refine a8 (dp hof ?_) | refine a9 (cp hfr ?_) | refine a8 (dp hfr ?_) | fail); simp -implicitDefEqProofs [hil, hy, hy', w1, hsi, hsi', c27, c28, c16]) | refine hK _ ?_ | refine hK _ _ (by rfl) ?_ | fail)
      refine d7 (d6 ?_); simp -implicitDefEqProofs [g8, f9, g7] <;> try rfl
  by_cases he : ge = 0; rotate_left
  · rw [if_neg (fun h => he h.2.1)]
    refine f6 Tryz.func85 rfl rfl (Nat.le_of_ble_eq_true rfl) ?_
    repeat' (first | refine d4 ?_ | refine b8 ?_ | refine b7 ?_ | refine b9 ?_ | refine f5 rfl ?_ | refine d8 rfl ?_ | ((first | refine c5 (fun K hK => ?_) | refine d5 f8 (fun K hK => ?_) | refine a9 (cp hp ?_) | refine a8 (dp hp ?_) | refine a9 (cp hof ?_) | refine a8 (dp hof ?_) | refine a9 (cp hfr ?_) | refine a8 (dp hfr ?_) | fail); simp -implicitDefEqProofs [hil, hy, hy', w1, hsi, hsi', c27, he]) | refine hK _ ?_ | refine hK _ _ (by rfl) ?_ | fail)
    refine d7 (d6 ?_); simp -implicitDefEqProofs [g8, f9, g7] <;> try rfl
  cases q with
  | true =>
    rw [if_neg (by simp)]
    refine f6 Tryz.func85 rfl rfl (Nat.le_of_ble_eq_true rfl) ?_
    repeat' (first | refine d4 ?_ | refine b8 ?_ | refine b7 ?_ | refine b9 ?_ | refine f5 rfl ?_ | refine d8 rfl ?_ | ((first | refine c5 (fun K hK => ?_) | refine d5 f8 (fun K hK => ?_) | refine a9 (cp hp ?_) | refine a8 (dp hp ?_) | refine a9 (cp hof ?_) | refine a8 (dp hof ?_) | refine a9 (cp hfr ?_) | refine a8 (dp hfr ?_) | refine a9 (cp hbr ?_) | refine a8 (dp hbr ?_) | refine a9 (cp hsa ?_) | refine a8 (dp hsa ?_) | fail); simp -implicitDefEqProofs [hil, hy, hy', w1, hsi, hsi', c27, he]) | refine hK _ ?_ | refine hK _ _ (by rfl) ?_ | fail)
    refine d7 (d6 ?_); simp -implicitDefEqProofs [g8, f9, g7, he] <;> try rfl
  | false =>
    rw [if_pos ⟨c27, he, rfl⟩]
    refine f6 Tryz.func85 rfl rfl (Nat.le_of_ble_eq_true rfl) ?_
    repeat' (first | refine d4 ?_ | refine b8 ?_ | refine b7 ?_ | refine b9 ?_ | refine f5 rfl ?_ | refine d8 rfl ?_ | ((first | refine c5 (fun K hK => ?_) | refine d5 f8 (fun K hK => ?_) | refine a9 (cp hp ?_) | refine a8 (dp hp ?_) | refine a9 (cp hof ?_) | refine a8 (dp hof ?_) | refine a9 (cp hfr ?_) | refine a8 (dp hfr ?_) | refine a9 (cp hbr ?_) | refine a8 (dp hbr ?_) | refine a9 (cp hsa ?_) | refine a8 (dp hsa ?_) | refine a9 (cp hba ?_) | refine a8 (dp hba ?_) | fail); simp -implicitDefEqProofs [hil, hy, hy', w1, hsi, hsi', c27, he]) | refine hK _ ?_ | refine hK _ _ (by rfl) ?_ | fail)
    refine d7 (d6 ?_); simp -implicitDefEqProofs [g8, f9, g7] <;> try rfl
theorem a4z (m ret : VT) (L : List VT) (x : Lab) : ∀ (l : List VT) (i k : Nat), (a03 m ret L x i l)[k]? = (l[k]?).map (b4w m ret L x (i + k))
  | [], i, k => by simp [a03]
  | y :: r, i, 0 => by simp [a03]
  | y :: r, i, k + 1 => by
    rw [a03, List.getElem?_cons_succ, a4z m ret L x r (i + 1) k, List.getElem?_cons_succ, show i + 1 + k = i + (k + 1) by omega]
theorem a9o (m ret : VT) (L : List VT) (x : Lab) : ∀ (l : List VT) (i : Nat), (a03 m ret L x i l).length = l.length
  | [], i => rfl
  | y :: r, i => by rw [a03, List.length_cons, a9o m ret L x r, List.length_cons]
theorem a4t (m : VT) (L : List VT) (t : VT) : (ofT m L t).fo.size ≤ t.size := by
  induction t using Tr.ind with
  | h x l ih =>
  have hp := Tr.size_pos (Tr.mk x l)
  have hz : z0T.size ≤ (Tr.mk x l).size := by rw [show z0T.size = 1 by simp [Tr.size_mk]]; omega
  rw [b8a]
  unfold ofC
  split
  · exact hz
  · split
    · exact hz
    · split
      · show (Tr.mk _ ([] : List VT)).size ≤ _
        rw [show (Tr.mk (⟨x.k, x.n, ⟨#[]⟩, 0, 0⟩ : Lab) ([] : List VT)).size = 1 by simp [Tr.size_mk]]; omega
      · split
        · rename_i g hg
          obtain ⟨y, hy, rfl⟩ := List.mem_map.1 (List.mem_of_find?_eq_some hg)
          have hys := p7 (m := .mk x l) (d := y) hy
          exact Nat.le_trans (ih y hy) hys
        · split
          · show (Tr.mk _ _).size ≤ _
            rw [Tr.size_mk, Tr.size_mk, List.map_map, List.map_map]
            exact Nat.add_le_add_left (a3b (fun y hy => ih y hy)) 1
          · exact hz
theorem m6 (x : Lab) (e : Int) (t : VT) : (u9 x e).t.size ≤ t.size := by
  have hp := Tr.size_pos t
  show z0T.size ≤ _
  rw [show z0T.size = 1 by simp [Tr.size_mk]]; exact hp
theorem a81 (m ret : VT) (x : Lab) : ∀ (l L acc : List VT), (∀ y ∈ l, ∀ L, (a3n m ret y L).t.size ≤ y.size) → (a80 m ret x l L acc).t.size ≤ 1 + (acc.map Tr.size).sum + (l.map Tr.size).sum
  | [], L, acc, _ => by unfold a80; rw [Tr.size_mk]; simp
  | y :: l, L, acc, h => by
    unfold a80
    have h1 := h y (by simp) L
    split
    · have := a81 m ret x l (c3d m L y) (acc ++ [(a3n m ret y L).t]) (fun z hz => h z (by simp [hz]))
      rw [List.map_append, List.sum_append] at this
      rw [List.map_cons, List.sum_cons]
      simp only [List.map_cons, List.map_nil, List.sum_cons, List.sum_nil] at this
      omega
    · rw [List.map_cons, List.sum_cons]; omega
theorem a4v (m : VT) (L : List VT) (t : VT) (a b : Int) : (c0e m L t a b).t.size ≤ t.size := by
  unfold c0e
  split
  · exact m6 _ _ _
  · exact a4t m L t
theorem a9n (m ret : VT) (L : List VT) (x : Lab) (i : Nat) (y : VT) (h : ∀ L, (a3n m ret y L).t.size ≤ y.size) : (b4w m ret L x i y).t.size ≤ y.size := by
  unfold b4w prtG
  split
  · exact h _
  · split
    · split
      · exact m6 _ _ _
      · show (y6 y).size ≤ _; rw [a4r]; exact Nat.le_refl _
    · split
      · exact a4v ..
      · split
        · exact a4v ..
        · split
          · exact a4v ..
          · split
            · exact m6 _ _ _
            · split
              · exact m6 _ _ _
              · exact a4t m L y
theorem a6f (m ret : VT) (L : List VT) (x : Lab) : ∀ (l : List VT) (i : Nat), (∀ y ∈ l, ∀ L, (a3n m ret y L).t.size ≤ y.size) → ((a03 m ret L x i l).map fun g => g.t.size).sum ≤ (l.map Tr.size).sum
  | [], i, _ => by simp [a03]
  | y :: r, i, h => by
    rw [a03, List.map_cons, List.sum_cons, List.map_cons, List.sum_cons]
    have h1 := a9n m ret L x i y (h y (by simp))
    have h2 := a6f m ret L x r (i + 1) (fun z hz => h z (by simp [hz]))
    omega
theorem b9j (m ret : VT) (t : VT) : ∀ L, (a3n m ret t L).t.size ≤ t.size := by
  induction t using Tr.ind with
  | h x l ih =>
  intro L
  rw [a70]
  split
  · exact m6 _ _ _
  · split
    · have := a81 m ret x l L [] ih
      rw [Tr.size_mk]; simpa using this
    · split
      · rename_i g hg
        obtain ⟨i, hi⟩ := List.mem_iff_getElem?.1 (List.mem_of_find?_eq_some hg)
        rw [a4z] at hi
        obtain ⟨y, hy, rfl⟩ := Option.map_eq_some_iff.1 hi
        have hys := p7 (m := .mk x l) (d := y) (List.mem_of_getElem? hy)
        exact Nat.le_trans (a9n m ret L x _ y (ih y (List.mem_of_getElem? hy))) hys
      · unfold endG
        split
        · exact m6 _ _ _
        · split
          · exact m6 _ _ _
          · show (Tr.mk _ _).size ≤ _
            rw [Tr.size_mk, Tr.size_mk, List.map_map]
            exact Nat.add_le_add_left (a6f m ret L x l 0 ih) 1
theorem c2l {x : Lab} {l : List VT} (h : b5d x l = true) (c29 : ¬ x.k = 29) : (l.length : Int) = (a2u x.k).1 ∧ ∀ (i : Nat) y, (a2u x.k).1 - (a2u x.k).2 ≤ i → l[i]? = some y → y.lab.k = 29 := by
  unfold b5d at h
  rw [if_neg c29, Bool.and_eq_true] at h
  refine ⟨of_decide_eq_true h.1, fun i y hi hy => ?_⟩
  have hd : y ∈ l.drop ((a2u x.k).1 - (a2u x.k).2).toNat := List.mem_iff_getElem?.2 ⟨i - ((a2u x.k).1 - (a2u x.k).2).toNat, by
    rw [List.getElem?_drop, show ((a2u x.k).1 - (a2u x.k).2).toNat + (i - ((a2u x.k).1 - (a2u x.k).2).toNat) = i by omega]; exact hy⟩
  have := List.all_eq_true.1 h.2 y hd
  unfold c09 at this
  exact of_decide_eq_true this
theorem b83 (m ret : VT) (t : VT) : t7 t → StR m ret t ∧ BlR m ret t := by
  induction t using Tr.ind with
  | h x l ih =>
  intro ht
  have hkin := ((Tr.all_mk _ x l).1 ht).2
  have hbl := b1w m ret x l ht (fun y hy => (ih y hy (hkin y hy)).1)
  refine ⟨?_, hbl⟩
  intro L B hc
  have hsz := hc.le
  have hms := hc.hm.2
  have hlen := Tr.len_size (x := x) (l := l)
  have hsh := b46 x l (by omega)
  have hba := n8 x l 12
  rw [a70]
  cases hS : b5d x l with
  | false =>
    rw [hS] at hsh
    rw [if_pos rfl]
    unfold u9 at hba ⊢
    clear ih hbl
    obtain ⟨mx, ml⟩ := m
    obtain ⟨rx, rl⟩ := ret
    refine f6 Tryz.func78 rfl rfl (Nat.le_of_ble_eq_true rfl) ?_
    repeat' (first | refine d4 ?_ | refine b8 ?_ | refine b7 ?_ | refine b9 ?_ | refine f5 rfl ?_ | refine d8 rfl ?_ | ((first | refine c5 (fun K hK => ?_) | refine d5 f8 (fun K hK => ?_) | refine a9 (cp hsh ?_) | refine a8 (dp hsh ?_) | refine a9 (cp hba ?_) | refine a8 (dp hba ?_) | fail); simp -implicitDefEqProofs) | refine hK _ ?_ | refine hK _ _ (by rfl) ?_ | fail)
    refine d7 (d6 ?_); simp -implicitDefEqProofs [g8, f9, g7] <;> try rfl
  | true =>
  rw [hS] at hsh
  rw [if_neg (by simp)]
  clear hba
  by_cases c29 : x.k = 29
  · rw [if_pos c29]
    have hb := hbl L B hc
    rw [Tr.lab, Tr.kids] at hb
    obtain ⟨⟨⟨bx, bl⟩, gp, ge⟩, hG⟩ : ∃ g, a80 m ret x l L [] = g := ⟨_, rfl⟩
    rw [hG] at hb ⊢
    clear ih hbl hG
    obtain ⟨mx, ml⟩ := m
    obtain ⟨rx, rl⟩ := ret
    refine f6 Tryz.func78 rfl rfl (Nat.le_of_ble_eq_true rfl) ?_
    repeat' (first | refine d4 ?_ | refine b8 ?_ | refine b7 ?_ | refine b9 ?_ | refine f5 rfl ?_ | refine d8 rfl ?_ | ((first | refine c5 (fun K hK => ?_) | refine d5 f8 (fun K hK => ?_) | refine a9 (cp hsh ?_) | refine a8 (dp hsh ?_) | refine a9 (cp hb ?_) | refine a8 (dp hb ?_) | fail); simp -implicitDefEqProofs [c29]) | refine hK _ ?_ | refine hK _ _ (by rfl) ?_ | fail)
    refine d7 (d6 ?_); simp -implicitDefEqProofs [g8, f9, g7] <;> try rfl
  rw [if_neg c29]
  obtain ⟨hn, h29⟩ := c2l hS c29
  have hpr : ∀ (k : Nat) y, l[k]? = some y → Row Tryz.prog 85 [vT m, vLs L, vT ret, vT (.mk x l), vI (k : Nat)] [] (vGr (b4w m ret L x k y)) [] := fun k y hy =>
    b44 m ret L B x l ht hc k y hy hn (fun hb => ⟨h29 k y hb hy, (ih y (List.mem_of_getElem? hy) (hkin y (List.mem_of_getElem? hy))).2⟩)
  have hro : ∀ y, y ∈ l → Row Tryz.prog 86 [vT y] [] (vT (a5j y)) [] := fun y hy => b80 y (by have := p7 (m := .mk x l) (d := y) hy; omega)
  have hof : ∀ y, y ∈ l → Row Tryz.prog 87 [vT m, vLs L, vT y] [] (vGt (ofT m L y)) [] ∧ (ofT m L y).ty.size ≤ 1000000 := fun y hy => by
    have hys := p7 (m := .mk x l) (d := y) hy
    exact ⟨a7x m L B hc.hm hc.hL (by omega) (by have := hc.len; omega) y (hkin y hy) (by omega), by have := (a9l hc.hm (by omega) hc.hL y (hkin y hy) (by omega)).ty.2; omega⟩
  obtain ⟨F, hF⟩ : ∃ F, (match (a03 m ret L x 0 l).find? (fun g => !decide (g.er = 0)) with
    | some g => g
    | none => endG m L x l (a03 m ret L x 0 l) : GR) = F := ⟨_, rfl⟩
  suffices hsuf : Row Tryz.prog 78 [vT m, vLs L, vT ret, vT (.mk x l)] [] (vGr F) [] by
    rw [← hF] at hsuf
    exact hsuf
  obtain ⟨P, hP⟩ : ∃ P, a03 m ret L x 0 l = P := ⟨_, rfl⟩
  have hPg : ∀ (k : Nat) y, l[k]? = some y → P[k]? = some (b4w m ret L x k y) := fun k y hy => by
    rw [← hP, a4z, hy, Nat.zero_add]; rfl
  have hPl : P.length = l.length := by rw [← hP, a9o]
  rw [hP] at hF
  have hat : ∀ (k : Nat) y, l[k]? = some y → ¬ (b4w m ret L x k y).er = 0 → (∀ g ∈ P.take k, g.er = 0) → F = b4w m ret L x k y := by
    intro k y hy he hno
    rw [← hF, a4g (k := k) (hPg k y hy) (by simpa using he) (fun g hg => by simpa using hno g hg)]
  have hend : (∀ g ∈ P, g.er = 0) → F = endG m L x l P := by
    intro hno
    rw [← hF, List.find?_eq_none.2 (fun g hg => by simpa using hno g hg)]
  obtain ⟨Q, hQ⟩ : ∃ Q : List VT, P.map GR.t = Q := ⟨_, rfl⟩
  have hQl : Q.length = l.length := by rw [← hQ, List.length_map, hPl]
  have hQk : ∀ (k : Nat) y, l[k]? = some y → Q.take (k + 1) = Q.take k ++ [(b4w m ret L x k y).t] := fun k y h => by
    rw [List.take_add_one, ← hQ, List.getElem?_map, hPg k y h]; rfl
  have hPk : ∀ (k : Nat) y, l[k]? = some y → P.take (k + 1) = P.take k ++ [b4w m ret L x k y] := fun k y h => by
    rw [List.take_add_one, hPg k y h]; rfl
  have hend2 : (∀ g ∈ P, g.er = 0) → F = if x.k = 22 ∧ ¬ ((a5j (l.getD 0 z0T)).lab.k = 7 ∨ (a5j (l.getD 0 z0T)).lab.k = 9) then u9 (l.getD 0 z0T).lab 12
    else if x.k = 22 ∧ same (ofT m L (l.getD 0 z0T)).ty (ofT m L (l.getD 1 z0T)).ty = false then u9 x 10
    else ⟨.mk ⟨x.k, x.n, ⟨#[]⟩, 0, 0⟩ Q, 0, 0⟩ := fun h => by rw [hend h, ← hQ]; rfl
  have h22 : x.k = 22 → l.length = 2 := fun h => by rw [h] at hn; simp [a2u] at hn; omega
  have hbx := fun e => n8 x l e
  clear hF hP hQ hend ih hbl hPg h29
  obtain ⟨mx, ml⟩ := m
  obtain ⟨rx, rl⟩ := ret
  refine f6 Tryz.func78 rfl rfl (Nat.le_of_ble_eq_true rfl) ?_
  repeat' (first | refine d4 ?_ | refine b8 ?_ | refine b7 ?_ | refine b9 ?_ | refine f5 rfl ?_ | refine d8 rfl ?_ | ((first | refine c5 (fun K hK => ?_) | refine d5 f8 (fun K hK => ?_) | refine a9 (cp hsh ?_) | refine a8 (dp hsh ?_) | fail); simp -implicitDefEqProofs [c29]) | refine hK _ ?_ | refine hK _ _ (by rfl) ?_ | fail)
  refine l7 (ι := Nat) (fun k => s7 [(1, vLs L), (4, .v (.c (.ptr 0 0))), (6, .v (.c (.ptr 1 0))), (7, .v (.c (.ptr 2 0))), (8, .v (.c (.ptr 3 0))), (9, .v (.c (.ptr 4 0))), (10, vI (k : Nat))] [some (.box (ta (.mk mx ml))), some (.box (ta (.mk rx rl))), some (.box (ta (.mk x l))), some (.box (ta z0T ++ [.pv (I 0), .pv (I 0)])), some (.box [.pv (I x.k), .pv (I x.n), .pv (Sx ⟨#[]⟩), .row 5 6 ((Q.take k).map tc), .pv (I 0), .pv (I 0)]), some (.row 25 6)]) (fun k => k ≤ l.length ∧ ∀ g ∈ P.take k, g.er = 0) (fun k => l.length - k) 0 ⟨Nat.zero_le _, by simp⟩ (f7 [0, 1, 2, 3, 23, 21] (by simp -implicitDefEqProofs) (by simp -implicitDefEqProofs) (by decide) rfl (by simp)) (fun Z hI k hk => ?_)
  obtain ⟨hk, hz⟩ := hk
  by_cases hkl : k < l.length; rotate_left
  · have : k = l.length := by omega
    subst this
    rw [List.take_of_length_le (by omega)] at hz
    have hF := hend2 hz
    have e2 : Q.take l.length = Q := List.take_of_length_le (by omega)
    rw [e2]
    clear hat hend2 hPk hQk hpr
    by_cases c22 : x.k = 22; rotate_left
    · rw [if_neg (fun h => c22 h.1), if_neg (fun h => c22 h.1)] at hF
      subst hF
      repeat (first | refine d4 ?_ | refine b8 ?_ | refine b7 ?_ | refine b9 ?_ | refine f5 rfl ?_ | refine d8 rfl ?_ | ((first | refine c5 (fun K hK => ?_) | refine d5 f8 (fun K hK => ?_) | fail); simp -implicitDefEqProofs [c22]; first | refine hK _ ?_ | refine hK _ _ (by rfl) ?_ | fail) | fail)
      refine d7 (d6 ?_); simp -implicitDefEqProofs [g8, f9, g7] <;> try rfl
    obtain ⟨⟨ax, al⟩, ⟨bx, bl⟩, rfl⟩ := b9s (h22 c22)
    have hr := hro (.mk ax al) (by simp)
    obtain ⟨h1, s1⟩ := hof (.mk ax al) (by simp)
    obtain ⟨h2, s2⟩ := hof (.mk bx bl) (by simp)
    have hba := n8 ax al 12
    have hbt := hbx 10
    rw [show [Tr.mk ax al, .mk bx bl].getD 0 z0T = .mk ax al from rfl, show [Tr.mk ax al, .mk bx bl].getD 1 z0T = .mk bx bl from rfl, Tr.lab] at hF
    have hsa := a0a _ s1 _ s2
    obtain ⟨⟨wx, wl⟩, hW⟩ : ∃ g, a5j (.mk ax al) = g := ⟨_, rfl⟩
    obtain ⟨⟨⟨cx, cl⟩, ⟨dx, dl⟩, gp, ge⟩, hG⟩ : ∃ g, ofT (.mk mx ml) L (.mk ax al) = g := ⟨_, rfl⟩
    obtain ⟨⟨⟨ex, el⟩, ⟨fx, fl⟩, gp2, ge2⟩, hG2⟩ : ∃ g, ofT (.mk mx ml) L (.mk bx bl) = g := ⟨_, rfl⟩
    rw [hG] at h1 hF hsa
    rw [hG2] at h2 hF hsa
    rw [hW] at hr hF
    dsimp only [Tr.lab] at hF hsa
    obtain ⟨q, hq⟩ : ∃ q, same (.mk cx cl) (.mk ex el) = q := ⟨_, rfl⟩
    rw [hq] at hF hsa
    unfold u9 at hF hba hbt
    clear hG hG2 hW hq hbx hro hof h22
    by_cases w7 : wx.k = 7 ∨ wx.k = 9; rotate_left
    · have n7 : ¬ wx.k = 7 := fun h => w7 (.inl h)
      have n9 : ¬ wx.k = 9 := fun h => w7 (.inr h)
      replace hF := hF.trans (if_pos ⟨c22, w7⟩)
      subst hF
      repeat' (first | refine d4 ?_ | refine b8 ?_ | refine b7 ?_ | refine b9 ?_ | refine f5 rfl ?_ | refine d8 rfl ?_ | ((first | refine c5 (fun K hK => ?_) | refine d5 f8 (fun K hK => ?_) | refine a9 (cp hr ?_) | refine a8 (dp hr ?_) | refine a9 (cp hba ?_) | refine a8 (dp hba ?_) | fail); simp -implicitDefEqProofs [c22, n7, n9]) | refine hK _ ?_ | refine hK _ _ (by rfl) ?_ | fail)
      refine d7 (d6 ?_); simp -implicitDefEqProofs [g8, f9, g7] <;> try rfl
    replace hF := hF.trans (if_neg (fun h => h.2 w7))
    cases q with
    | true =>
      replace hF := hF.trans (if_neg (by simp))
      subst hF
      rcases w7 with h | h
      · repeat' (first | refine d4 ?_ | refine b8 ?_ | refine b7 ?_ | refine b9 ?_ | refine f5 rfl ?_ | refine d8 rfl ?_ | ((first | refine c5 (fun K hK => ?_) | refine d5 f8 (fun K hK => ?_) | refine a9 (cp hr ?_) | refine a8 (dp hr ?_) | refine a9 (cp h1 ?_) | refine a8 (dp h1 ?_) | refine a9 (cp h2 ?_) | refine a8 (dp h2 ?_) | refine a9 (cp hsa ?_) | refine a8 (dp hsa ?_) | fail); simp -implicitDefEqProofs [c22, h]) | refine hK _ ?_ | refine hK _ _ (by rfl) ?_ | fail)
        refine d7 (d6 ?_); simp -implicitDefEqProofs [g8, f9, g7, c22] <;> try rfl
      · repeat' (first | refine d4 ?_ | refine b8 ?_ | refine b7 ?_ | refine b9 ?_ | refine f5 rfl ?_ | refine d8 rfl ?_ | ((first | refine c5 (fun K hK => ?_) | refine d5 f8 (fun K hK => ?_) | refine a9 (cp hr ?_) | refine a8 (dp hr ?_) | refine a9 (cp h1 ?_) | refine a8 (dp h1 ?_) | refine a9 (cp h2 ?_) | refine a8 (dp h2 ?_) | refine a9 (cp hsa ?_) | refine a8 (dp hsa ?_) | fail); simp -implicitDefEqProofs [c22, h]) | refine hK _ ?_ | refine hK _ _ (by rfl) ?_ | fail)
        refine d7 (d6 ?_); simp -implicitDefEqProofs [g8, f9, g7, c22] <;> try rfl
    | false =>
      replace hF := hF.trans (if_pos ⟨c22, rfl⟩)
      subst hF
      rcases w7 with h | h
      · repeat' (first | refine d4 ?_ | refine b8 ?_ | refine b7 ?_ | refine b9 ?_ | refine f5 rfl ?_ | refine d8 rfl ?_ | ((first | refine c5 (fun K hK => ?_) | refine d5 f8 (fun K hK => ?_) | refine a9 (cp hr ?_) | refine a8 (dp hr ?_) | refine a9 (cp h1 ?_) | refine a8 (dp h1 ?_) | refine a9 (cp h2 ?_) | refine a8 (dp h2 ?_) | refine a9 (cp hsa ?_) | refine a8 (dp hsa ?_) | refine a9 (cp hbt ?_) | refine a8 (dp hbt ?_) | fail); simp -implicitDefEqProofs [c22, h]) | refine hK _ ?_ | refine hK _ _ (by rfl) ?_ | fail)
        refine d7 (d6 ?_); simp -implicitDefEqProofs [g8, f9, g7] <;> try rfl
      · repeat' (first | refine d4 ?_ | refine b8 ?_ | refine b7 ?_ | refine b9 ?_ | refine f5 rfl ?_ | refine d8 rfl ?_ | ((first | refine c5 (fun K hK => ?_) | refine d5 f8 (fun K hK => ?_) | refine a9 (cp hr ?_) | refine a8 (dp hr ?_) | refine a9 (cp h1 ?_) | refine a8 (dp h1 ?_) | refine a9 (cp h2 ?_) | refine a8 (dp h2 ?_) | refine a9 (cp hsa ?_) | refine a8 (dp hsa ?_) | refine a9 (cp hbt ?_) | refine a8 (dp hbt ?_) | fail); simp -implicitDefEqProofs [c22, h]) | refine hK _ ?_ | refine hK _ _ (by rfl) ?_ | fail)
        refine d7 (d6 ?_); simp -implicitDefEqProofs [g8, f9, g7] <;> try rfl
  obtain ⟨y, ha⟩ : ∃ a, l[k]? = some a := ⟨_, List.getElem?_eq_getElem hkl⟩
  have hc := hpr k y ha
  have w2 : IntKind.i64.wrap ((k : Nat) + 1 : Int) = (k : Nat) + 1 := k9 _ (by omega) (by omega)
  have hs := hQk k _ ha
  have hpk := hPk k _ ha
  have hto := hat k y ha
  have hQkl : (Q.take k).length = k := by rw [List.length_take]; omega
  obtain ⟨QK, hQK⟩ : ∃ QK, Q.take k = QK := ⟨_, rfl⟩
  obtain ⟨⟨⟨bx, bl⟩, gp, ge⟩, hG⟩ : ∃ g, b4w (.mk mx ml) (.mk rx rl) L x k y = g := ⟨_, rfl⟩
  rw [hG] at hc hs hpk hto
  rw [hQK] at hs hQkl ⊢
  clear hG hQK hat hend2 hPk hQk hpr hro hof hbx
  have b1 : (k + 1) * 72 ≤ 140737488355328 := by omega
  have b2 : k + 1 ≤ 140737488355328 := by omega
  by_cases he : ge = 0
  · subst he
    repeat' (first | refine d4 ?_ | refine b8 ?_ | refine b7 ?_ | refine b9 ?_ | refine f5 rfl ?_ | refine d8 rfl ?_ | ((first | refine c5 (fun K hK => ?_) | refine d5 f8 (fun K hK => ?_) | refine a9 (cp hc ?_) | refine a8 (dp hc ?_) | fail); simp -implicitDefEqProofs [hkl, hQkl, b1, b2, w2]) | refine hK _ ?_ | refine hK _ _ (by rfl) ?_ | fail)
    refine ⟨k + 1, ⟨by omega, fun g hg => ?_⟩, (by dsimp only; omega), ?_⟩
    · rw [hpk] at hg
      rcases List.mem_append.1 hg with hg | hg
      · exact hz g hg
      · simp at hg; subst hg; rfl
    · rw [hI, hs]; exact f7 [0, 1, 2, 3, 4, 34] (by simp -implicitDefEqProofs) (by simp -implicitDefEqProofs) (by decide) rfl (by simp)
  · have hF := hto he hz
    subst hF
    repeat' (first | refine d4 ?_ | refine b8 ?_ | refine b7 ?_ | refine b9 ?_ | refine f5 rfl ?_ | refine d8 rfl ?_ | ((first | refine c5 (fun K hK => ?_) | refine d5 f8 (fun K hK => ?_) | refine a9 (cp hc ?_) | refine a8 (dp hc ?_) | fail); simp -implicitDefEqProofs [hkl, he]) | refine hK _ ?_ | refine hK _ _ (by rfl) ?_ | fail)
    refine d7 (d6 ?_); simp -implicitDefEqProofs [g8, f9, g7] <;> try rfl
theorem b1z (l : List VT) (hl : l.length ≤ 1000000) : Row Tryz.prog 66 [vLs l] [] (vB (c1x l)) [] := by
  unfold c1x
  have hno := fun y (h : y ∈ l) (hp : o9 y = false) => (show l.all o9 = false by rw [List.all_eq_false]; exact ⟨y, h, by rw [hp]; simp⟩)
  have hyes : (∀ y ∈ l, o9 y = true) → l.all o9 = true := fun h => List.all_eq_true.2 h
  obtain ⟨R, hR⟩ : ∃ R, l.all o9 = R := ⟨_, rfl⟩
  rw [hR] at hno hyes ⊢
  clear hR
  refine f6 Tryz.func66 rfl rfl (Nat.le_of_ble_eq_true rfl) ?_
  repeat (first | refine d4 ?_ | refine b8 ?_ | refine b7 ?_ | refine b9 ?_ | refine f5 rfl ?_ | refine d8 rfl ?_ | ((first | refine c5 (fun K hK => ?_) | refine d5 f8 (fun K hK => ?_) | fail); simp -implicitDefEqProofs; first | refine hK _ ?_ | refine hK _ _ (by rfl) ?_ | fail) | fail)
  refine l7 (ι := Nat) (fun k => s7 [(0, vLs l), (3, vI (k : Nat))] []) (fun k => k ≤ l.length ∧ ∀ j y, j < k → l[j]? = some y → o9 y = true) (fun k => l.length - k) 0 ⟨Nat.zero_le _, fun j y h => by omega⟩ (f7 [] (by simp -implicitDefEqProofs) (by simp -implicitDefEqProofs) (by decide) rfl (by simp)) (fun Z hI k hk => ?_)
  obtain ⟨hk, hz⟩ := hk
  by_cases hkl : k < l.length; rotate_left
  · have : k = l.length := by omega
    subst this
    have hR := hyes (fun y hy => by
      obtain ⟨j, hj⟩ := List.mem_iff_getElem?.1 hy
      exact hz j y (List.getElem?_eq_some_iff.1 hj).1 hj)
    subst hR
    clear hno hyes
    repeat (first | refine d4 ?_ | refine b8 ?_ | refine b7 ?_ | refine b9 ?_ | refine f5 rfl ?_ | refine d8 rfl ?_ | ((first | refine c5 (fun K hK => ?_) | refine d5 f8 (fun K hK => ?_) | fail); simp -implicitDefEqProofs; first | refine hK _ ?_ | refine hK _ _ (by rfl) ?_ | fail) | fail)
    refine d7 (d6 ?_); simp -implicitDefEqProofs [g8, f9, g7] <;> try rfl
  obtain ⟨⟨ax, al⟩, ha⟩ : ∃ a, l[k]? = some a := ⟨_, List.getElem?_eq_getElem hkl⟩
  have ha' := (List.getElem?_eq_some_iff.1 ha).2
  have hmem := List.mem_of_getElem? ha
  have w2 : IntKind.i64.wrap ((k : Nat) + 1 : Int) = (k : Nat) + 1 := k9 _ (by omega) (by omega)
  by_cases h34 : ax.k = 34
  · by_cases h1 : al.length = 1
    · have h1' : (al.length : Int) = 1 := by omega
      clear hno hyes
      repeat (first | refine d4 ?_ | refine b8 ?_ | refine b7 ?_ | refine b9 ?_ | refine f5 rfl ?_ | refine d8 rfl ?_ | ((first | refine c5 (fun K hK => ?_) | refine d5 f8 (fun K hK => ?_) | fail); simp -implicitDefEqProofs [hkl, ha, ha', h34, h1, h1', w2]; first | refine hK _ ?_ | refine hK _ _ (by rfl) ?_ | fail) | fail)
      refine ⟨k + 1, ⟨by omega, fun j y hj hy => ?_⟩, (by dsimp only; omega), ?_⟩
      · by_cases hjk : j = k
        · subst hjk; rw [ha] at hy; cases hy; simp [o9, Tr.lab, Tr.kids, h34, h1]
        · exact hz j y (by omega) hy
      · rw [hI]; exact f7 [] (by simp -implicitDefEqProofs) (by simp -implicitDefEqProofs) (by decide) rfl (by simp)
    · have h1' : ¬ (al.length : Int) = 1 := by omega
      have hR := hno _ hmem (by simp [o9, Tr.lab, Tr.kids, h34, h1])
      subst hR
      clear hno hyes
      repeat (first | refine d4 ?_ | refine b8 ?_ | refine b7 ?_ | refine b9 ?_ | refine f5 rfl ?_ | refine d8 rfl ?_ | ((first | refine c5 (fun K hK => ?_) | refine d5 f8 (fun K hK => ?_) | fail); simp -implicitDefEqProofs [hkl, ha, ha', h34, h1, h1']; first | refine hK _ ?_ | refine hK _ _ (by rfl) ?_ | fail) | fail)
      refine d7 (d6 ?_); simp -implicitDefEqProofs [g8, f9, g7] <;> try rfl
  · have hR := hno _ hmem (by simp [o9, Tr.lab, Tr.kids, h34])
    subst hR
    clear hno hyes
    repeat (first | refine d4 ?_ | refine b8 ?_ | refine b7 ?_ | refine b9 ?_ | refine f5 rfl ?_ | refine d8 rfl ?_ | ((first | refine c5 (fun K hK => ?_) | refine d5 f8 (fun K hK => ?_) | fail); simp -implicitDefEqProofs [hkl, ha, ha', h34]; first | refine hK _ ?_ | refine hK _ _ (by rfl) ?_ | fail) | fail)
    refine d7 (d6 ?_); simp -implicitDefEqProofs [g8, f9, g7] <;> try rfl
theorem b49 (x px : Lab) (pl r : List VT) (hl : pl.length ≤ 1000000) (hp : c1x pl = true) : Row Tryz.prog 67 [vT (.mk x (.mk px pl :: r))] [] (.v (.c (.row 0 6 ((a12 (.mk x (.mk px pl :: r))).map tc)))) [some (.row 25 6)] := by
  rw [show a12 (.mk x (.mk px pl :: r)) = pl.map (fun q => q.kids.getD 0 z0T) from rfl]
  refine f6 Tryz.func67 rfl rfl (Nat.le_of_ble_eq_true rfl) ?_
  repeat (first | refine d4 ?_ | refine b8 ?_ | refine b7 ?_ | refine b9 ?_ | refine f5 rfl ?_ | refine d8 rfl ?_ | ((first | refine c5 (fun K hK => ?_) | refine d5 f8 (fun K hK => ?_) | fail); simp -implicitDefEqProofs; first | refine hK _ ?_ | refine hK _ _ (by rfl) ?_ | fail) | fail)
  refine l7 (ι := Nat) (fun k => s7 [(1, .v (.c (.ptr 0 0))), (3, .v (.c (.row 1 6 (((pl.take k).map (fun q => q.kids.getD 0 z0T)).map tc)))), (4, vI (k : Nat))] [some (.box (ta (.mk x (.mk px pl :: r)))), some (.row 25 6)]) (fun k => k ≤ pl.length) (fun k => pl.length - k) 0 (Nat.zero_le _) (f7 [0, 2] (by simp -implicitDefEqProofs) (by simp -implicitDefEqProofs) (by decide) rfl (by simp)) (fun Z hI k hk => ?_)
  by_cases hkl : k < pl.length; rotate_left
  · have : k = pl.length := by omega
    subst this
    rw [List.take_length]
    repeat (first | refine d4 ?_ | refine b8 ?_ | refine b7 ?_ | refine b9 ?_ | refine f5 rfl ?_ | refine d8 rfl ?_ | ((first | refine c5 (fun K hK => ?_) | refine d5 f8 (fun K hK => ?_) | fail); simp -implicitDefEqProofs; first | refine hK _ ?_ | refine hK _ _ (by rfl) ?_ | fail) | fail)
    refine d7 (fin_g [1] ?_); simp -implicitDefEqProofs [FinG, f9, g7] <;> try rfl
  obtain ⟨⟨ax, al⟩, ha⟩ : ∃ a, pl[k]? = some a := ⟨_, List.getElem?_eq_getElem hkl⟩
  have ha' := (List.getElem?_eq_some_iff.1 ha).2
  have hpt := List.all_eq_true.1 hp _ (List.mem_of_getElem? ha)
  simp [o9, Tr.kids] at hpt
  obtain ⟨⟨bx, bl⟩, rfl⟩ := w6 (l := al) (of_decide_eq_true hpt.2)
  have w2 : IntKind.i64.wrap ((k : Nat) + 1 : Int) = (k : Nat) + 1 := k9 _ (by omega) (by omega)
  have hs : (pl.take (k + 1)).map (fun q => q.kids.getD 0 z0T) = (pl.take k).map (fun q => q.kids.getD 0 z0T) ++ [.mk bx bl] := by rw [List.take_add_one, ha]; simp [Tr.kids]
  obtain ⟨L, hL⟩ : ∃ L, (pl.take k).map (fun q => q.kids.getD 0 z0T) = L := ⟨_, rfl⟩
  have hLl : L.length = k := by rw [← hL, List.length_map, List.length_take]; omega
  rw [hL] at hs ⊢
  have b1 : (k + 1) * 72 ≤ 140737488355328 := by omega
  have b2 : k + 1 ≤ 140737488355328 := by omega
  repeat (first | refine d4 ?_ | refine b8 ?_ | refine b7 ?_ | refine b9 ?_ | refine f5 rfl ?_ | refine d8 rfl ?_ | ((first | refine c5 (fun K hK => ?_) | refine d5 f8 (fun K hK => ?_) | fail); simp -implicitDefEqProofs [hkl, ha, ha', hLl, b1, b2, w2]; first | refine hK _ ?_ | refine hK _ _ (by rfl) ?_ | fail) | fail)
  refine ⟨k + 1, by omega, (by dsimp only; omega), ?_⟩
  rw [hI, hs]; exact f7 [0, 23] (by simp -implicitDefEqProofs) (by simp -implicitDefEqProofs) (by decide) rfl (by simp)
theorem b8v (x : Lab) (l : List VT) (hsz : (Tr.mk x l).size ≤ 1000000) : Row Tryz.prog 13 [vT (.mk x l)] [] (.v (.agg [.pv (I x.k), .pv (I x.n), .pv (Sx ⟨#[]⟩), .arr 0 6 l.length, .pv (I 0), .pv (I 0)])) [some (.arr 25 6 ((l.map y6).map tc))] := by
  have hlen := Tr.len_size (x := x) (l := l)
  refine f6 Tryz.func13 rfl rfl (Nat.le_of_ble_eq_true rfl) ?_
  repeat (first | refine d4 ?_ | refine b8 ?_ | refine b7 ?_ | refine b9 ?_ | refine f5 rfl ?_ | refine d8 rfl ?_ | ((first | refine c5 (fun K hK => ?_) | refine d5 f8 (fun K hK => ?_) | fail); simp -implicitDefEqProofs; first | refine hK _ ?_ | refine hK _ _ (by rfl) ?_ | fail) | fail)
  refine c07 7 3 [.pv (I x.k), .pv (I x.n), .pv (Sx ⟨#[]⟩), .pv .nilS, .pv (I 0), .pv (I 0)] 25 6 (by simp) (by simp) (by simp) ?_
  simp [St.nilca]
  refine l7 (ι := Nat) (fun k => s7 [(1, .v (.c (.ptr 0 0))), (2, .v (.c (.ptr 1 0))), (3, .v (.c (.ptr 2 0))), (4, vI (k : Nat))] [some (.box (ta (.mk x l))), some (.box (ta (.mk ⟨0, 0, ⟨#[]⟩, 0, 0⟩ []))), some (.box [.pv (I x.k), .pv (I x.n), .pv (Sx ⟨#[]⟩), .arr 3 6 ((l.take k).map y6).length, .pv (I 0), .pv (I 0)]), some (.arr 25 6 (((l.take k).map y6).map tc))]) (fun k => k ≤ l.length) (fun k => l.length - k) 0 (Nat.zero_le _) (f7 [0, 1, 7, 10] (by simp -implicitDefEqProofs) (by simp -implicitDefEqProofs) (by decide) rfl (by simp)) (fun Z hI k hk => ?_)
  by_cases hkl : k < l.length; rotate_left
  · have : k = l.length := by omega
    subst this
    rw [List.take_length]
    repeat (first | refine d4 ?_ | refine b8 ?_ | refine b7 ?_ | refine b9 ?_ | refine f5 rfl ?_ | refine d8 rfl ?_ | ((first | refine c5 (fun K hK => ?_) | refine d5 f8 (fun K hK => ?_) | fail); simp -implicitDefEqProofs; first | refine hK _ ?_ | refine hK _ _ (by rfl) ?_ | fail) | fail)
    refine d7 (fin_g [3] ?_); simp -implicitDefEqProofs [FinG, f9, g7] <;> try rfl
  obtain ⟨⟨ax, al⟩, ha⟩ : ∃ a, l[k]? = some a := ⟨_, List.getElem?_eq_getElem hkl⟩
  have ha' := (List.getElem?_eq_some_iff.1 ha).2
  have hsz1 := Tr.size_at (x := x) ha
  have hc := a2j (.mk ax al) (by omega)
  have w2 : IntKind.i64.wrap ((k : Nat) + 1 : Int) = (k : Nat) + 1 := k9 _ (by omega) (by omega)
  have hs : (l.take (k + 1)).map y6 = (l.take k).map y6 ++ [y6 (.mk ax al)] := by rw [List.take_add_one, ha]; simp
  obtain ⟨L, hL⟩ : ∃ L, (l.take k).map y6 = L := ⟨_, rfl⟩
  have hLl : L.length = k := by rw [← hL, List.length_map, List.length_take]; omega
  rw [hL] at hs ⊢
  obtain ⟨⟨bx, bl⟩, hb⟩ : ∃ b, y6 (.mk ax al) = b := ⟨_, rfl⟩
  rw [hb] at hc hs
  have b1 : (k + 1) * 72 ≤ 140737488355328 := by omega
  have b2 : k + 1 ≤ 140737488355328 := by omega
  repeat' (first | refine d4 ?_ | refine b8 ?_ | refine b7 ?_ | refine b9 ?_ | refine f5 rfl ?_ | refine d8 rfl ?_ | ((first | refine c5 (fun K hK => ?_) | refine d5 f8 (fun K hK => ?_) | refine a9 (cp hc ?_) | refine a8 (dp hc ?_) | fail); simp -implicitDefEqProofs [hkl, ha, ha', hLl, b1, b2, w2]) | refine hK _ ?_ | refine hK _ _ (by rfl) ?_ | fail)
  refine ⟨k + 1, by omega, (by dsimp only; omega), ?_⟩
  rw [hI, hs]; exact f7 [0, 1, 2, 81] (by simp -implicitDefEqProofs [hLl]) (by simp -implicitDefEqProofs [hLl]) (by decide) rfl (by simp)
end Go.Proofs.YthkfdheoakbfnaaGreat.am
end
