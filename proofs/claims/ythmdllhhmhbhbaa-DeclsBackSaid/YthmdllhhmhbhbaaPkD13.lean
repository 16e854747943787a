import Derived.Test.YthmdllhhmhbhbaaPkD12
import Derived.Scope
import Derived.Test.YthmdllhhmhbhbaaPkD4
import Derived.IntWalk
section
namespace Go.Proofs.Ythmdllhhmhbhbaa.am
open Go.ChangeShapes Go.WideShapes Go.ChangeAt Go.RowKit
open vt
set_option linter.unusedVariables false
set_option linter.unusedSimpArgs false
set_option maxRecDepth 100000 in
set_option maxHeartbeats 4000000 in
theorem rpart_row (m ret : VT) (L : List VT) (B : Nat) (x : Lab) (l : List VT) (ht : in64 (.mk x l)) (hc : Cn m L ret B (Tr.mk x l).size) (i : Nat) (y : VT) (hy : l[i]? = some y) (hn : (l.length : Int) = (prtN x.k).1) (hb : (prtN x.k).1 - (prtN x.k).2 ≤ i → y.lab.k = 29 ∧ BlR m ret y) : Row Try.prog 45 [vT m, vLs L, vT ret, vT (.mk x l), vI (i : Nat)] [] (vGr (prtT m ret L x i y)) [] := by
  have hp := rparts_row x.k
  have hil := (List.getElem?_eq_some_iff.1 hy).1
  have hy' := (List.getElem?_eq_some_iff.1 hy).2
  have hsz := Tr.size_at (x := x) hy
  have hin := ((Tr.all_mk _ x l).1 ht).2 _ (List.mem_of_getElem? hy)
  have hcl := hc.len
  have hcB := hc.le
  have hms := hc.hm.2
  have b3 : L.length * 72 ≤ 140737488355328 := by omega
  have b4 : L.length ≤ 140737488355328 := by omega
  have b1 : (L.length + 1) * 72 ≤ 140737488355328 := by omega
  have b2 : L.length + 1 ≤ 140737488355328 := by omega
  unfold prtT prtG
  rcases prtN_cases x.k with e | ⟨n, b, e, hbn, hn3⟩
  · rw [e] at hn; dsimp only at hn; omega
  rw [e] at hp hn hb ⊢
  dsimp only at hp hn hb ⊢
  have hln : l.length = n := by omega
  subst hln
  obtain ⟨s, hsb⟩ : ∃ s : Nat, l.length - b = s := ⟨_, rfl⟩
  have w1 : IntKind.i64.wrap ((l.length : Nat) - (b : Nat) : Int) = (s : Nat) := by rw [i64i _ (by omega) (by omega)]; omega
  rw [show ((l.length : Int) - (b : Int)) = (s : Nat) by omega] at hb ⊢
  by_cases hsi : s ≤ i
  · have hsi' : (s : Int) ≤ (i : Int) := by omega
    obtain ⟨h29, hbl⟩ := hb hsi'
    rw [if_pos hsi']
    obtain ⟨yx, yl⟩ := y
    rw [Tr.lab] at h29
    have hst : ∀ L, stmT m ret (.mk yx yl) L = blkT m ret yx yl L [] := fun L => by
      rw [stmT_eq, show shpS yx yl = true by unfold shpS; rw [if_pos h29], if_neg (by simp), if_pos h29]
    by_cases c25 : x.k = 25
    · rw [if_pos c25, hst]
      have hk := hbl (L ++ [tyT 1]) B ⟨hc.hm, fun y hy => by
        rcases List.mem_append.1 hy with hy | hy
        · exact hc.hL y hy
        · simp at hy; subst hy; exact fine_ty (Nat.le_trans (Tr.size_pos m) hc.hm.2) (by omega), by simp; omega, by omega, hc.ret⟩
      rw [Tr.lab, Tr.kids] at hk
      obtain ⟨⟨⟨bx, bl⟩, gp, ge⟩, hG⟩ : ∃ g, blkT m ret yx yl (L ++ [tyT 1]) [] = g := ⟨_, rfl⟩
      rw [hG] at hk ⊢
      clear hG hb hbl hst e
      unfold tyT at hk
      obtain ⟨mx, ml⟩ := m
      obtain ⟨rx, rl⟩ := ret
      refine row_of Try.func45 rfl rfl (Nat.le_of_ble_eq_true rfl) ?_
      repeat' (first | refine aw_seq ?_ | refine aw_skip ?_ | refine aw_block ?_ | refine aw_exit ?_ | refine aw_cond rfl (fun _ => ?_) (fun hb => absurd hb (by decide)) | refine aw_cond rfl (fun hb => absurd hb (by decide)) (fun _ => ?_) | (refine aw_reg (fun K hK => ?_); simp -implicitDefEqProofs [hil, hy, hy', w1, hsi, hsi', c25, b1, b2, b3, b4]) | (refine aw_drw mixd (fun K hK => ?_); simp -implicitDefEqProofs [hil, hy, hy', w1, hsi, hsi', c25, b1, b2, b3, b4]) | refine hK _ ?_ | refine hK _ _ (by rfl) ?_ | (refine ar_call (cp hp ?_); simp -implicitDefEqProofs [hil, hy, hy', w1, hsi, hsi', c25, b1, b2, b3, b4]) | (refine ard_call (dp hp ?_); simp -implicitDefEqProofs [hil, hy, hy', w1, hsi, hsi', c25, b1, b2, b3, b4]) | (refine ar_call (cp hk ?_); simp -implicitDefEqProofs [hil, hy, hy', w1, hsi, hsi', c25, b1, b2, b3, b4]) | (refine ard_call (dp hk ?_); simp -implicitDefEqProofs [hil, hy, hy', w1, hsi, hsi', c25, b1, b2, b3, b4]) | fail)
      refine aw_ret (fin_ret ?_); simp -implicitDefEqProofs [FinP, resV, resT] <;> try rfl
    · rw [if_neg c25, hst]
      have hk := hbl L B (hc.less (by omega))
      rw [Tr.lab, Tr.kids] at hk
      obtain ⟨⟨⟨bx, bl⟩, gp, ge⟩, hG⟩ : ∃ g, blkT m ret yx yl L [] = g := ⟨_, rfl⟩
      rw [hG] at hk ⊢
      clear hG hb hbl hst e
      obtain ⟨mx, ml⟩ := m
      obtain ⟨rx, rl⟩ := ret
      refine row_of Try.func45 rfl rfl (Nat.le_of_ble_eq_true rfl) ?_
      repeat' (first | refine aw_seq ?_ | refine aw_skip ?_ | refine aw_block ?_ | refine aw_exit ?_ | refine aw_cond rfl (fun _ => ?_) (fun hb => absurd hb (by decide)) | refine aw_cond rfl (fun hb => absurd hb (by decide)) (fun _ => ?_) | (refine aw_reg (fun K hK => ?_); simp -implicitDefEqProofs [hil, hy, hy', w1, hsi, hsi', c25]) | (refine aw_drw mixd (fun K hK => ?_); simp -implicitDefEqProofs [hil, hy, hy', w1, hsi, hsi', c25]) | refine hK _ ?_ | refine hK _ _ (by rfl) ?_ | (refine ar_call (cp hp ?_); simp -implicitDefEqProofs [hil, hy, hy', w1, hsi, hsi', c25]) | (refine ard_call (dp hp ?_); simp -implicitDefEqProofs [hil, hy, hy', w1, hsi, hsi', c25]) | (refine ar_call (cp hk ?_); simp -implicitDefEqProofs [hil, hy, hy', w1, hsi, hsi', c25]) | (refine ard_call (dp hk ?_); simp -implicitDefEqProofs [hil, hy, hy', w1, hsi, hsi', c25]) | fail)
      refine aw_ret (fin_ret ?_); simp -implicitDefEqProofs [FinP, resV, resT] <;> try rfl
  have hsi' : ¬ (s : Int) ≤ (i : Int) := by omega
  rw [if_neg hsi']
  clear hb
  by_cases c21 : x.k = 21
  · rw [if_pos c21]
    have hce := rcells_row m y hc.hm.1 (by omega) hin (by omega)
    have hnm := rnml_row y (by omega)
    obtain ⟨yx, yl⟩ := y
    have hba := rbad16_row yx yl 11
    rw [Tr.lab]
    obtain ⟨c, hcc⟩ : ∃ c, cels m (.mk yx yl) = c := ⟨_, rfl⟩
    obtain ⟨⟨zx, zl⟩, hzz⟩ : ∃ z, nmlT (.mk yx yl) = z := ⟨_, rfl⟩
    rw [hcc] at hce ⊢
    rw [hzz] at hnm ⊢
    unfold badR at hba ⊢
    clear hcc hzz e
    obtain ⟨mx, ml⟩ := m
    obtain ⟨rx, rl⟩ := ret
    by_cases c0 : c = 0
    · rw [if_pos c0]
      refine row_of Try.func45 rfl rfl (Nat.le_of_ble_eq_true rfl) ?_
      repeat' (first | refine aw_seq ?_ | refine aw_skip ?_ | refine aw_block ?_ | refine aw_exit ?_ | refine aw_cond rfl (fun _ => ?_) (fun hb => absurd hb (by decide)) | refine aw_cond rfl (fun hb => absurd hb (by decide)) (fun _ => ?_) | (refine aw_reg (fun K hK => ?_); simp -implicitDefEqProofs [hil, hy, hy', w1, hsi, hsi', c21, c0]) | (refine aw_drw mixd (fun K hK => ?_); simp -implicitDefEqProofs [hil, hy, hy', w1, hsi, hsi', c21, c0]) | refine hK _ ?_ | refine hK _ _ (by rfl) ?_ | (refine ar_call (cp hp ?_); simp -implicitDefEqProofs [hil, hy, hy', w1, hsi, hsi', c21, c0]) | (refine ard_call (dp hp ?_); simp -implicitDefEqProofs [hil, hy, hy', w1, hsi, hsi', c21, c0]) | (refine ar_call (cp hce ?_); simp -implicitDefEqProofs [hil, hy, hy', w1, hsi, hsi', c21, c0]) | (refine ard_call (dp hce ?_); simp -implicitDefEqProofs [hil, hy, hy', w1, hsi, hsi', c21, c0]) | (refine ar_call (cp hnm ?_); simp -implicitDefEqProofs [hil, hy, hy', w1, hsi, hsi', c21, c0]) | (refine ard_call (dp hnm ?_); simp -implicitDefEqProofs [hil, hy, hy', w1, hsi, hsi', c21, c0]) | (refine ar_call (cp hba ?_); simp -implicitDefEqProofs [hil, hy, hy', w1, hsi, hsi', c21, c0]) | (refine ard_call (dp hba ?_); simp -implicitDefEqProofs [hil, hy, hy', w1, hsi, hsi', c21, c0]) | fail)
      refine aw_ret (fin_ret ?_); simp -implicitDefEqProofs [FinP, resV, resT] <;> try rfl
    · rw [if_neg c0]
      refine row_of Try.func45 rfl rfl (Nat.le_of_ble_eq_true rfl) ?_
      repeat' (first | refine aw_seq ?_ | refine aw_skip ?_ | refine aw_block ?_ | refine aw_exit ?_ | refine aw_cond rfl (fun _ => ?_) (fun hb => absurd hb (by decide)) | refine aw_cond rfl (fun hb => absurd hb (by decide)) (fun _ => ?_) | (refine aw_reg (fun K hK => ?_); simp -implicitDefEqProofs [hil, hy, hy', w1, hsi, hsi', c21, c0]) | (refine aw_drw mixd (fun K hK => ?_); simp -implicitDefEqProofs [hil, hy, hy', w1, hsi, hsi', c21, c0]) | refine hK _ ?_ | refine hK _ _ (by rfl) ?_ | (refine ar_call (cp hp ?_); simp -implicitDefEqProofs [hil, hy, hy', w1, hsi, hsi', c21, c0]) | (refine ard_call (dp hp ?_); simp -implicitDefEqProofs [hil, hy, hy', w1, hsi, hsi', c21, c0]) | (refine ar_call (cp hce ?_); simp -implicitDefEqProofs [hil, hy, hy', w1, hsi, hsi', c21, c0]) | (refine ard_call (dp hce ?_); simp -implicitDefEqProofs [hil, hy, hy', w1, hsi, hsi', c21, c0]) | (refine ar_call (cp hnm ?_); simp -implicitDefEqProofs [hil, hy, hy', w1, hsi, hsi', c21, c0]) | (refine ard_call (dp hnm ?_); simp -implicitDefEqProofs [hil, hy, hy', w1, hsi, hsi', c21, c0]) | (refine ar_call (cp hba ?_); simp -implicitDefEqProofs [hil, hy, hy', w1, hsi, hsi', c21, c0]) | (refine ard_call (dp hba ?_); simp -implicitDefEqProofs [hil, hy, hy', w1, hsi, hsi', c21, c0]) | fail)
      refine aw_ret (fin_ret ?_); simp -implicitDefEqProofs [FinP, resV, resT] <;> try rfl
  rw [if_neg c21]
  have hon := fun a b => ronly_row m L B hc.hm hc.hL (by omega) (by omega) y hin (by omega) a b
  by_cases c23 : x.k = 23 ∨ x.k = 24
  · rw [if_pos c23]
    have hk := hon 2 2
    obtain ⟨⟨⟨bx, bl⟩, gp, ge⟩, hG⟩ : ∃ g, onlT m L y 2 2 = g := ⟨_, rfl⟩
    rw [hG] at hk ⊢
    clear hG e hon
    obtain ⟨mx, ml⟩ := m
    obtain ⟨rx, rl⟩ := ret
    obtain ⟨yx, yl⟩ := y
    rcases c23 with c | c
    · refine row_of Try.func45 rfl rfl (Nat.le_of_ble_eq_true rfl) ?_
      repeat' (first | refine aw_seq ?_ | refine aw_skip ?_ | refine aw_block ?_ | refine aw_exit ?_ | refine aw_cond rfl (fun _ => ?_) (fun hb => absurd hb (by decide)) | refine aw_cond rfl (fun hb => absurd hb (by decide)) (fun _ => ?_) | (refine aw_reg (fun K hK => ?_); simp -implicitDefEqProofs [hil, hy, hy', w1, hsi, hsi', c]) | (refine aw_drw mixd (fun K hK => ?_); simp -implicitDefEqProofs [hil, hy, hy', w1, hsi, hsi', c]) | refine hK _ ?_ | refine hK _ _ (by rfl) ?_ | (refine ar_call (cp hp ?_); simp -implicitDefEqProofs [hil, hy, hy', w1, hsi, hsi', c]) | (refine ard_call (dp hp ?_); simp -implicitDefEqProofs [hil, hy, hy', w1, hsi, hsi', c]) | (refine ar_call (cp hk ?_); simp -implicitDefEqProofs [hil, hy, hy', w1, hsi, hsi', c]) | (refine ard_call (dp hk ?_); simp -implicitDefEqProofs [hil, hy, hy', w1, hsi, hsi', c]) | fail)
      refine aw_ret (fin_ret ?_); simp -implicitDefEqProofs [FinP, resV, resT] <;> try rfl
    · refine row_of Try.func45 rfl rfl (Nat.le_of_ble_eq_true rfl) ?_
      repeat' (first | refine aw_seq ?_ | refine aw_skip ?_ | refine aw_block ?_ | refine aw_exit ?_ | refine aw_cond rfl (fun _ => ?_) (fun hb => absurd hb (by decide)) | refine aw_cond rfl (fun hb => absurd hb (by decide)) (fun _ => ?_) | (refine aw_reg (fun K hK => ?_); simp -implicitDefEqProofs [hil, hy, hy', w1, hsi, hsi', c]) | (refine aw_drw mixd (fun K hK => ?_); simp -implicitDefEqProofs [hil, hy, hy', w1, hsi, hsi', c]) | refine hK _ ?_ | refine hK _ _ (by rfl) ?_ | (refine ar_call (cp hp ?_); simp -implicitDefEqProofs [hil, hy, hy', w1, hsi, hsi', c]) | (refine ard_call (dp hp ?_); simp -implicitDefEqProofs [hil, hy, hy', w1, hsi, hsi', c]) | (refine ar_call (cp hk ?_); simp -implicitDefEqProofs [hil, hy, hy', w1, hsi, hsi', c]) | (refine ard_call (dp hk ?_); simp -implicitDefEqProofs [hil, hy, hy', w1, hsi, hsi', c]) | fail)
      refine aw_ret (fin_ret ?_); simp -implicitDefEqProofs [FinP, resV, resT] <;> try rfl
  rw [if_neg c23]
  have n23 : ¬ x.k = 23 := fun h => c23 (.inl h)
  have n24 : ¬ x.k = 24 := fun h => c23 (.inr h)
  by_cases c25 : x.k = 25
  · rw [if_pos c25]
    have hk := hon 1 1
    obtain ⟨⟨⟨bx, bl⟩, gp, ge⟩, hG⟩ : ∃ g, onlT m L y 1 1 = g := ⟨_, rfl⟩
    rw [hG] at hk ⊢
    clear hG e hon
    obtain ⟨mx, ml⟩ := m
    obtain ⟨rx, rl⟩ := ret
    obtain ⟨yx, yl⟩ := y
    refine row_of Try.func45 rfl rfl (Nat.le_of_ble_eq_true rfl) ?_
    repeat' (first | refine aw_seq ?_ | refine aw_skip ?_ | refine aw_block ?_ | refine aw_exit ?_ | refine aw_cond rfl (fun _ => ?_) (fun hb => absurd hb (by decide)) | refine aw_cond rfl (fun hb => absurd hb (by decide)) (fun _ => ?_) | (refine aw_reg (fun K hK => ?_); simp -implicitDefEqProofs [hil, hy, hy', w1, hsi, hsi', c25]) | (refine aw_drw mixd (fun K hK => ?_); simp -implicitDefEqProofs [hil, hy, hy', w1, hsi, hsi', c25]) | refine hK _ ?_ | refine hK _ _ (by rfl) ?_ | (refine ar_call (cp hp ?_); simp -implicitDefEqProofs [hil, hy, hy', w1, hsi, hsi', c25]) | (refine ard_call (dp hp ?_); simp -implicitDefEqProofs [hil, hy, hy', w1, hsi, hsi', c25]) | (refine ar_call (cp hk ?_); simp -implicitDefEqProofs [hil, hy, hy', w1, hsi, hsi', c25]) | (refine ard_call (dp hk ?_); simp -implicitDefEqProofs [hil, hy, hy', w1, hsi, hsi', c25]) | fail)
    refine aw_ret (fin_ret ?_); simp -implicitDefEqProofs [FinP, resV, resT] <;> try rfl
  rw [if_neg c25]
  by_cases c26 : x.k = 26
  · rw [if_pos c26]
    have hk := hon 1 2
    obtain ⟨⟨⟨bx, bl⟩, gp, ge⟩, hG⟩ : ∃ g, onlT m L y 1 2 = g := ⟨_, rfl⟩
    rw [hG] at hk ⊢
    clear hG e hon
    obtain ⟨mx, ml⟩ := m
    obtain ⟨rx, rl⟩ := ret
    obtain ⟨yx, yl⟩ := y
    refine row_of Try.func45 rfl rfl (Nat.le_of_ble_eq_true rfl) ?_
    repeat' (first | refine aw_seq ?_ | refine aw_skip ?_ | refine aw_block ?_ | refine aw_exit ?_ | refine aw_cond rfl (fun _ => ?_) (fun hb => absurd hb (by decide)) | refine aw_cond rfl (fun hb => absurd hb (by decide)) (fun _ => ?_) | (refine aw_reg (fun K hK => ?_); simp -implicitDefEqProofs [hil, hy, hy', w1, hsi, hsi', c26]) | (refine aw_drw mixd (fun K hK => ?_); simp -implicitDefEqProofs [hil, hy, hy', w1, hsi, hsi', c26]) | refine hK _ ?_ | refine hK _ _ (by rfl) ?_ | (refine ar_call (cp hp ?_); simp -implicitDefEqProofs [hil, hy, hy', w1, hsi, hsi', c26]) | (refine ard_call (dp hp ?_); simp -implicitDefEqProofs [hil, hy, hy', w1, hsi, hsi', c26]) | (refine ar_call (cp hk ?_); simp -implicitDefEqProofs [hil, hy, hy', w1, hsi, hsi', c26]) | (refine ard_call (dp hk ?_); simp -implicitDefEqProofs [hil, hy, hy', w1, hsi, hsi', c26]) | fail)
    refine aw_ret (fin_ret ?_); simp -implicitDefEqProofs [FinP, resV, resT] <;> try rfl
  rw [if_neg c26]
  clear hon
  by_cases c28 : x.k = 28 ∧ ¬ y.lab.k = 16
  · rw [if_pos c28]
    obtain ⟨c28, c16⟩ := c28
    obtain ⟨yx, yl⟩ := y
    have hba := rbad16_row yx yl 12
    rw [Tr.lab] at c16 ⊢
    unfold badR at hba ⊢
    obtain ⟨mx, ml⟩ := m
    obtain ⟨rx, rl⟩ := ret
    refine row_of Try.func45 rfl rfl (Nat.le_of_ble_eq_true rfl) ?_
    repeat' (first | refine aw_seq ?_ | refine aw_skip ?_ | refine aw_block ?_ | refine aw_exit ?_ | refine aw_cond rfl (fun _ => ?_) (fun hb => absurd hb (by decide)) | refine aw_cond rfl (fun hb => absurd hb (by decide)) (fun _ => ?_) | (refine aw_reg (fun K hK => ?_); simp -implicitDefEqProofs [hil, hy, hy', w1, hsi, hsi', c28, c16]) | (refine aw_drw mixd (fun K hK => ?_); simp -implicitDefEqProofs [hil, hy, hy', w1, hsi, hsi', c28, c16]) | refine hK _ ?_ | refine hK _ _ (by rfl) ?_ | (refine ar_call (cp hp ?_); simp -implicitDefEqProofs [hil, hy, hy', w1, hsi, hsi', c28, c16]) | (refine ard_call (dp hp ?_); simp -implicitDefEqProofs [hil, hy, hy', w1, hsi, hsi', c28, c16]) | (refine ar_call (cp hba ?_); simp -implicitDefEqProofs [hil, hy, hy', w1, hsi, hsi', c28, c16]) | (refine ard_call (dp hba ?_); simp -implicitDefEqProofs [hil, hy, hy', w1, hsi, hsi', c28, c16]) | fail)
    refine aw_ret (fin_ret ?_); simp -implicitDefEqProofs [FinP, resV, resT] <;> try rfl
  rw [if_neg c28]
  have hof := rof_row m L B hc.hm hc.hL (by omega) (by omega) y hin (by omega)
  have hok := ofT_ok hc.hm (by omega) hc.hL y hin (by omega)
  have hsa := rsame_row (ofT m L y).ty (by have := hok.ty.2; omega) (barT ret) (by rw [barT_size]; have := hc.ret.2; omega)
  have hbr := rbare_row ret (by have := hc.ret.2; omega)
  have hfr := rfrom_row (ofT m L y)
  clear hok
  obtain ⟨⟨⟨ax, al⟩, ⟨bx, bl⟩, gp, ge⟩, hG⟩ : ∃ g, ofT m L y = g := ⟨_, rfl⟩
  rw [hG] at hof hsa hfr ⊢
  dsimp only at hsa ⊢
  obtain ⟨⟨zx, zl⟩, hzz⟩ : ∃ z, barT ret = z := ⟨_, rfl⟩
  rw [hzz] at hsa hbr ⊢
  obtain ⟨q, hq⟩ : ∃ q, same (.mk ax al) (.mk zx zl) = q := ⟨_, rfl⟩
  rw [hq] at hsa ⊢
  unfold fromG at hfr ⊢
  clear hG hzz hq e
  obtain ⟨yx, yl⟩ := y
  have hba := rbad16_row yx yl 10
  unfold badR at hba ⊢
  rw [Tr.lab] at c28 ⊢
  have c28' : ¬ x.k = 28 ∨ (x.k = 28 ∧ yx.k = 16) := by
    by_cases h : x.k = 28
    · exact .inr ⟨h, Classical.byContradiction fun g => c28 ⟨h, g⟩⟩
    · exact .inl h
  clear c28
  obtain ⟨mx, ml⟩ := m
  obtain ⟨rx, rl⟩ := ret
  by_cases c27 : x.k = 27; rotate_left
  · rw [if_neg (fun h => c27 h.1)]
    rcases c28' with c28 | ⟨c28, c16⟩
    · refine row_of Try.func45 rfl rfl (Nat.le_of_ble_eq_true rfl) ?_
      repeat' (first | refine aw_seq ?_ | refine aw_skip ?_ | refine aw_block ?_ | refine aw_exit ?_ | refine aw_cond rfl (fun _ => ?_) (fun hb => absurd hb (by decide)) | refine aw_cond rfl (fun hb => absurd hb (by decide)) (fun _ => ?_) | (refine aw_reg (fun K hK => ?_); simp -implicitDefEqProofs [hil, hy, hy', w1, hsi, hsi', c21, n23, n24, c25, c26, c27, c28]) | (refine aw_drw mixd (fun K hK => ?_); simp -implicitDefEqProofs [hil, hy, hy', w1, hsi, hsi', c21, n23, n24, c25, c26, c27, c28]) | refine hK _ ?_ | refine hK _ _ (by rfl) ?_ | (refine ar_call (cp hp ?_); simp -implicitDefEqProofs [hil, hy, hy', w1, hsi, hsi', c21, n23, n24, c25, c26, c27, c28]) | (refine ard_call (dp hp ?_); simp -implicitDefEqProofs [hil, hy, hy', w1, hsi, hsi', c21, n23, n24, c25, c26, c27, c28]) | (refine ar_call (cp hof ?_); simp -implicitDefEqProofs [hil, hy, hy', w1, hsi, hsi', c21, n23, n24, c25, c26, c27, c28]) | (refine ard_call (dp hof ?_); simp -implicitDefEqProofs [hil, hy, hy', w1, hsi, hsi', c21, n23, n24, c25, c26, c27, c28]) | (refine ar_call (cp hfr ?_); simp -implicitDefEqProofs [hil, hy, hy', w1, hsi, hsi', c21, n23, n24, c25, c26, c27, c28]) | (refine ard_call (dp hfr ?_); simp -implicitDefEqProofs [hil, hy, hy', w1, hsi, hsi', c21, n23, n24, c25, c26, c27, c28]) | fail)
      refine aw_ret (fin_ret ?_); simp -implicitDefEqProofs [FinP, resV, resT] <;> try rfl
    · refine row_of Try.func45 rfl rfl (Nat.le_of_ble_eq_true rfl) ?_
      repeat' (first | refine aw_seq ?_ | refine aw_skip ?_ | refine aw_block ?_ | refine aw_exit ?_ | refine aw_cond rfl (fun _ => ?_) (fun hb => absurd hb (by decide)) | refine aw_cond rfl (fun hb => absurd hb (by decide)) (fun _ => ?_) | (refine aw_reg (fun K hK => ?_); simp -implicitDefEqProofs [hil, hy, hy', w1, hsi, hsi', c27, c28, c16]) | (refine aw_drw mixd (fun K hK => ?_); simp -implicitDefEqProofs [hil, hy, hy', w1, hsi, hsi', c27, c28, c16]) | refine hK _ ?_ | refine hK _ _ (by rfl) ?_ | (refine ar_call (cp hp ?_); simp -implicitDefEqProofs [hil, hy, hy', w1, hsi, hsi', c27, c28, c16]) | (refine ard_call (dp hp ?_); simp -implicitDefEqProofs [hil, hy, hy', w1, hsi, hsi', c27, c28, c16]) | (refine ar_call (cp hof ?_); simp -implicitDefEqProofs [hil, hy, hy', w1, hsi, hsi', c27, c28, c16]) | (refine ard_call (dp hof ?_); simp -implicitDefEqProofs [hil, hy, hy', w1, hsi, hsi', c27, c28, c16]) | (refine ar_call (cp hfr ?_); simp -implicitDefEqProofs [hil, hy, hy', w1, hsi, hsi', c27, c28, c16]) | (refine ard_call (dp hfr ?_); simp -implicitDefEqProofs [hil, hy, hy', w1, hsi, hsi', c27, c28, c16]) | fail)
      refine aw_ret (fin_ret ?_); simp -implicitDefEqProofs [FinP, resV, resT] <;> try rfl
  by_cases he : ge = 0; rotate_left
  · rw [if_neg (fun h => he h.2.1)]
    refine row_of Try.func45 rfl rfl (Nat.le_of_ble_eq_true rfl) ?_
    repeat' (first | refine aw_seq ?_ | refine aw_skip ?_ | refine aw_block ?_ | refine aw_exit ?_ | refine aw_cond rfl (fun _ => ?_) (fun hb => absurd hb (by decide)) | refine aw_cond rfl (fun hb => absurd hb (by decide)) (fun _ => ?_) | (refine aw_reg (fun K hK => ?_); simp -implicitDefEqProofs [hil, hy, hy', w1, hsi, hsi', c27, he]) | (refine aw_drw mixd (fun K hK => ?_); simp -implicitDefEqProofs [hil, hy, hy', w1, hsi, hsi', c27, he]) | refine hK _ ?_ | refine hK _ _ (by rfl) ?_ | (refine ar_call (cp hp ?_); simp -implicitDefEqProofs [hil, hy, hy', w1, hsi, hsi', c27, he]) | (refine ard_call (dp hp ?_); simp -implicitDefEqProofs [hil, hy, hy', w1, hsi, hsi', c27, he]) | (refine ar_call (cp hof ?_); simp -implicitDefEqProofs [hil, hy, hy', w1, hsi, hsi', c27, he]) | (refine ard_call (dp hof ?_); simp -implicitDefEqProofs [hil, hy, hy', w1, hsi, hsi', c27, he]) | (refine ar_call (cp hfr ?_); simp -implicitDefEqProofs [hil, hy, hy', w1, hsi, hsi', c27, he]) | (refine ard_call (dp hfr ?_); simp -implicitDefEqProofs [hil, hy, hy', w1, hsi, hsi', c27, he]) | fail)
    refine aw_ret (fin_ret ?_); simp -implicitDefEqProofs [FinP, resV, resT] <;> try rfl
  cases q with
  | true =>
    rw [if_neg (by simp)]
    refine row_of Try.func45 rfl rfl (Nat.le_of_ble_eq_true rfl) ?_
    repeat' (first | refine aw_seq ?_ | refine aw_skip ?_ | refine aw_block ?_ | refine aw_exit ?_ | refine aw_cond rfl (fun _ => ?_) (fun hb => absurd hb (by decide)) | refine aw_cond rfl (fun hb => absurd hb (by decide)) (fun _ => ?_) | (refine aw_reg (fun K hK => ?_); simp -implicitDefEqProofs [hil, hy, hy', w1, hsi, hsi', c27, he]) | (refine aw_drw mixd (fun K hK => ?_); simp -implicitDefEqProofs [hil, hy, hy', w1, hsi, hsi', c27, he]) | refine hK _ ?_ | refine hK _ _ (by rfl) ?_ | (refine ar_call (cp hp ?_); simp -implicitDefEqProofs [hil, hy, hy', w1, hsi, hsi', c27, he]) | (refine ard_call (dp hp ?_); simp -implicitDefEqProofs [hil, hy, hy', w1, hsi, hsi', c27, he]) | (refine ar_call (cp hof ?_); simp -implicitDefEqProofs [hil, hy, hy', w1, hsi, hsi', c27, he]) | (refine ard_call (dp hof ?_); simp -implicitDefEqProofs [hil, hy, hy', w1, hsi, hsi', c27, he]) | (refine ar_call (cp hfr ?_); simp -implicitDefEqProofs [hil, hy, hy', w1, hsi, hsi', c27, he]) | (refine ard_call (dp hfr ?_); simp -implicitDefEqProofs [hil, hy, hy', w1, hsi, hsi', c27, he]) | (refine ar_call (cp hbr ?_); simp -implicitDefEqProofs [hil, hy, hy', w1, hsi, hsi', c27, he]) | (refine ard_call (dp hbr ?_); simp -implicitDefEqProofs [hil, hy, hy', w1, hsi, hsi', c27, he]) | (refine ar_call (cp hsa ?_); simp -implicitDefEqProofs [hil, hy, hy', w1, hsi, hsi', c27, he]) | (refine ard_call (dp hsa ?_); simp -implicitDefEqProofs [hil, hy, hy', w1, hsi, hsi', c27, he]) | fail)
    refine aw_ret (fin_ret ?_); simp -implicitDefEqProofs [FinP, resV, resT, he] <;> try rfl
  | false =>
    rw [if_pos ⟨c27, he, rfl⟩]
    refine row_of Try.func45 rfl rfl (Nat.le_of_ble_eq_true rfl) ?_
    repeat' (first | refine aw_seq ?_ | refine aw_skip ?_ | refine aw_block ?_ | refine aw_exit ?_ | refine aw_cond rfl (fun _ => ?_) (fun hb => absurd hb (by decide)) | refine aw_cond rfl (fun hb => absurd hb (by decide)) (fun _ => ?_) | (refine aw_reg (fun K hK => ?_); simp -implicitDefEqProofs [hil, hy, hy', w1, hsi, hsi', c27, he]) | (refine aw_drw mixd (fun K hK => ?_); simp -implicitDefEqProofs [hil, hy, hy', w1, hsi, hsi', c27, he]) | refine hK _ ?_ | refine hK _ _ (by rfl) ?_ | (refine ar_call (cp hp ?_); simp -implicitDefEqProofs [hil, hy, hy', w1, hsi, hsi', c27, he]) | (refine ard_call (dp hp ?_); simp -implicitDefEqProofs [hil, hy, hy', w1, hsi, hsi', c27, he]) | (refine ar_call (cp hof ?_); simp -implicitDefEqProofs [hil, hy, hy', w1, hsi, hsi', c27, he]) | (refine ard_call (dp hof ?_); simp -implicitDefEqProofs [hil, hy, hy', w1, hsi, hsi', c27, he]) | (refine ar_call (cp hfr ?_); simp -implicitDefEqProofs [hil, hy, hy', w1, hsi, hsi', c27, he]) | (refine ard_call (dp hfr ?_); simp -implicitDefEqProofs [hil, hy, hy', w1, hsi, hsi', c27, he]) | (refine ar_call (cp hbr ?_); simp -implicitDefEqProofs [hil, hy, hy', w1, hsi, hsi', c27, he]) | (refine ard_call (dp hbr ?_); simp -implicitDefEqProofs [hil, hy, hy', w1, hsi, hsi', c27, he]) | (refine ar_call (cp hsa ?_); simp -implicitDefEqProofs [hil, hy, hy', w1, hsi, hsi', c27, he]) | (refine ard_call (dp hsa ?_); simp -implicitDefEqProofs [hil, hy, hy', w1, hsi, hsi', c27, he]) | (refine ar_call (cp hba ?_); simp -implicitDefEqProofs [hil, hy, hy', w1, hsi, hsi', c27, he]) | (refine ard_call (dp hba ?_); simp -implicitDefEqProofs [hil, hy, hy', w1, hsi, hsi', c27, he]) | fail)
    refine aw_ret (fin_ret ?_); simp -implicitDefEqProofs [FinP, resV, resT] <;> try rfl
theorem prtsT_get (m ret : VT) (L : List VT) (x : Lab) : ∀ (l : List VT) (i k : Nat), (prtsT m ret L x i l)[k]? = (l[k]?).map (prtT m ret L x (i + k))
  | [], i, k => by simp [prtsT]
  | y :: r, i, 0 => by simp [prtsT]
  | y :: r, i, k + 1 => by
    rw [prtsT, List.getElem?_cons_succ, prtsT_get m ret L x r (i + 1) k, List.getElem?_cons_succ, show i + 1 + k = i + (k + 1) by omega]
theorem prtsT_len (m ret : VT) (L : List VT) (x : Lab) : ∀ (l : List VT) (i : Nat), (prtsT m ret L x i l).length = l.length
  | [], i => rfl
  | y :: r, i => by rw [prtsT, List.length_cons, prtsT_len m ret L x r, List.length_cons]
end Go.Proofs.Ythmdllhhmhbhbaa.am
end
section
namespace Go.Proofs.Ythmdllhhmhbhbaa.am
open Go.ChangeShapes Go.WideShapes Go.ChangeAt Go.RowKit
open vt
set_option linter.unusedVariables false
set_option linter.unusedSimpArgs false
theorem ofT_fo_size (m : VT) (L : List VT) (t : VT) : (ofT m L t).fo.size ≤ t.size := by
  induction t using Tr.ind with
  | h x l ih =>
  have hp := Tr.size_pos (Tr.mk x l)
  have hz : z0T.size ≤ (Tr.mk x l).size := by rw [show z0T.size = 1 by simp [Tr.size_mk]]; omega
  rw [ofT_mk]
  unfold ofC
  split
  · exact hz
  · split
    · exact hz
    · split
      · show (Tr.mk _ ([] : List VT)).size ≤ _
        rw [show (Tr.mk (⟨x.k, x.n, ⟨#[]⟩, 0, 0⟩ : Lab) ([] : List VT)).size = 1 by simp [Tr.size_mk]]; omega
      · split
        · rename_i g hg
          obtain ⟨y, hy, rfl⟩ := List.mem_map.1 (List.mem_of_find?_eq_some hg)
          have hys := kid_size (m := .mk x l) (d := y) hy
          exact Nat.le_trans (ih y hy) hys
        · split
          · show (Tr.mk _ _).size ≤ _
            rw [Tr.size_mk, Tr.size_mk, List.map_map, List.map_map]
            exact Nat.add_le_add_left (sum_le_map (fun y hy => ih y hy)) 1
          · exact hz
theorem badR_size (x : Lab) (e : Int) (t : VT) : (badR x e).t.size ≤ t.size := by
  have hp := Tr.size_pos t
  show z0T.size ≤ _
  rw [show z0T.size = 1 by simp [Tr.size_mk]]; exact hp
theorem blkT_size (m ret : VT) (x : Lab) : ∀ (l L acc : List VT), (∀ y ∈ l, ∀ L, (stmT m ret y L).t.size ≤ y.size) → (blkT m ret x l L acc).t.size ≤ 1 + (acc.map Tr.size).sum + (l.map Tr.size).sum
  | [], L, acc, _ => by unfold blkT; rw [Tr.size_mk]; simp
  | y :: l, L, acc, h => by
    unfold blkT
    have h1 := h y (by simp) L
    split
    · have := blkT_size m ret x l (brgT m L y) (acc ++ [(stmT m ret y L).t]) (fun z hz => h z (by simp [hz]))
      rw [List.map_append, List.sum_append] at this
      rw [List.map_cons, List.sum_cons]
      simp only [List.map_cons, List.map_nil, List.sum_cons, List.sum_nil] at this
      omega
    · rw [List.map_cons, List.sum_cons]; omega
theorem onlT_size (m : VT) (L : List VT) (t : VT) (a b : Int) : (onlT m L t a b).t.size ≤ t.size := by
  unfold onlT
  split
  · exact badR_size _ _ _
  · exact ofT_fo_size m L t
theorem prtT_size (m ret : VT) (L : List VT) (x : Lab) (i : Nat) (y : VT) (h : ∀ L, (stmT m ret y L).t.size ≤ y.size) : (prtT m ret L x i y).t.size ≤ y.size := by
  unfold prtT prtG
  split
  · exact h _
  · split
    · split
      · exact badR_size _ _ _
      · show (nmlT y).size ≤ _; rw [nmlT_size]; exact Nat.le_refl _
    · split
      · exact onlT_size ..
      · split
        · exact onlT_size ..
        · split
          · exact onlT_size ..
          · split
            · exact badR_size _ _ _
            · split
              · exact badR_size _ _ _
              · exact ofT_fo_size m L y
theorem prtsT_size (m ret : VT) (L : List VT) (x : Lab) : ∀ (l : List VT) (i : Nat), (∀ y ∈ l, ∀ L, (stmT m ret y L).t.size ≤ y.size) → ((prtsT m ret L x i l).map fun g => g.t.size).sum ≤ (l.map Tr.size).sum
  | [], i, _ => by simp [prtsT]
  | y :: r, i, h => by
    rw [prtsT, List.map_cons, List.sum_cons, List.map_cons, List.sum_cons]
    have h1 := prtT_size m ret L x i y (h y (by simp))
    have h2 := prtsT_size m ret L x r (i + 1) (fun z hz => h z (by simp [hz]))
    omega
theorem stmT_size (m ret : VT) (t : VT) : ∀ L, (stmT m ret t L).t.size ≤ t.size := by
  induction t using Tr.ind with
  | h x l ih =>
  intro L
  rw [stmT_eq]
  split
  · exact badR_size _ _ _
  · split
    · have := blkT_size m ret x l L [] ih
      rw [Tr.size_mk]; simpa using this
    · split
      · rename_i g hg
        obtain ⟨i, hi⟩ := List.mem_iff_getElem?.1 (List.mem_of_find?_eq_some hg)
        rw [prtsT_get] at hi
        obtain ⟨y, hy, rfl⟩ := Option.map_eq_some_iff.1 hi
        have hys := kid_size (m := .mk x l) (d := y) (List.mem_of_getElem? hy)
        exact Nat.le_trans (prtT_size m ret L x _ y (ih y (List.mem_of_getElem? hy))) hys
      · unfold endG
        split
        · exact badR_size _ _ _
        · split
          · exact badR_size _ _ _
          · show (Tr.mk _ _).size ≤ _
            rw [Tr.size_mk, Tr.size_mk, List.map_map]
            exact Nat.add_le_add_left (prtsT_size m ret L x l 0 ih) 1
theorem shpS_nat {x : Lab} {l : List VT} (h : shpS x l = true) (c29 : ¬ x.k = 29) : (l.length : Int) = (prtN x.k).1 ∧ ∀ (i : Nat) y, (prtN x.k).1 - (prtN x.k).2 ≤ i → l[i]? = some y → y.lab.k = 29 := by
  unfold shpS at h
  rw [if_neg c29, Bool.and_eq_true] at h
  refine ⟨of_decide_eq_true h.1, fun i y hi hy => ?_⟩
  have hd : y ∈ l.drop ((prtN x.k).1 - (prtN x.k).2).toNat := List.mem_iff_getElem?.2 ⟨i - ((prtN x.k).1 - (prtN x.k).2).toNat, by
    rw [List.getElem?_drop, show ((prtN x.k).1 - (prtN x.k).2).toNat + (i - ((prtN x.k).1 - (prtN x.k).2).toNat) = i by omega]; exact hy⟩
  have := List.all_eq_true.1 h.2 y hd
  unfold blkB at this
  exact of_decide_eq_true this
set_option maxRecDepth 100000 in
set_option maxHeartbeats 4000000 in
theorem rstmt_row (m ret : VT) (t : VT) : in64 t → StR m ret t ∧ BlR m ret t := by
  induction t using Tr.ind with
  | h x l ih =>
  intro ht
  have hkin := ((Tr.all_mk _ x l).1 ht).2
  have hbl := rblock_row m ret x l ht (fun y hy => (ih y hy (hkin y hy)).1)
  refine ⟨?_, hbl⟩
  intro L B hc
  have hsz := hc.le
  have hms := hc.hm.2
  have hlen := Tr.len_size (x := x) (l := l)
  have hsh := rshape_row x l (by omega)
  have hba := rbad16_row x l 12
  rw [stmT_eq]
  cases hS : shpS x l with
  | false =>
    rw [hS] at hsh
    rw [if_pos rfl]
    unfold badR at hba ⊢
    clear ih hbl
    obtain ⟨mx, ml⟩ := m
    obtain ⟨rx, rl⟩ := ret
    refine row_of Try.func42 rfl rfl (Nat.le_of_ble_eq_true rfl) ?_
    repeat' (first | refine aw_seq ?_ | refine aw_skip ?_ | refine aw_block ?_ | refine aw_exit ?_ | refine aw_cond rfl (fun _ => ?_) (fun hb => absurd hb (by decide)) | refine aw_cond rfl (fun hb => absurd hb (by decide)) (fun _ => ?_) | (refine aw_reg (fun K hK => ?_); simp -implicitDefEqProofs) | (refine aw_drw mixd (fun K hK => ?_); simp -implicitDefEqProofs) | refine hK _ ?_ | refine hK _ _ (by rfl) ?_ | (refine ar_call (cp hsh ?_); simp -implicitDefEqProofs) | (refine ard_call (dp hsh ?_); simp -implicitDefEqProofs) | (refine ar_call (cp hba ?_); simp -implicitDefEqProofs) | (refine ard_call (dp hba ?_); simp -implicitDefEqProofs) | fail)
    refine aw_ret (fin_ret ?_); simp -implicitDefEqProofs [FinP, resV, resT] <;> try rfl
  | true =>
  rw [hS] at hsh
  rw [if_neg (by simp)]
  clear hba
  by_cases c29 : x.k = 29
  · rw [if_pos c29]
    have hb := hbl L B hc
    rw [Tr.lab, Tr.kids] at hb
    obtain ⟨⟨⟨bx, bl⟩, gp, ge⟩, hG⟩ : ∃ g, blkT m ret x l L [] = g := ⟨_, rfl⟩
    rw [hG] at hb ⊢
    clear ih hbl hG
    obtain ⟨mx, ml⟩ := m
    obtain ⟨rx, rl⟩ := ret
    refine row_of Try.func42 rfl rfl (Nat.le_of_ble_eq_true rfl) ?_
    repeat' (first | refine aw_seq ?_ | refine aw_skip ?_ | refine aw_block ?_ | refine aw_exit ?_ | refine aw_cond rfl (fun _ => ?_) (fun hb => absurd hb (by decide)) | refine aw_cond rfl (fun hb => absurd hb (by decide)) (fun _ => ?_) | (refine aw_reg (fun K hK => ?_); simp -implicitDefEqProofs [c29]) | (refine aw_drw mixd (fun K hK => ?_); simp -implicitDefEqProofs [c29]) | refine hK _ ?_ | refine hK _ _ (by rfl) ?_ | (refine ar_call (cp hsh ?_); simp -implicitDefEqProofs [c29]) | (refine ard_call (dp hsh ?_); simp -implicitDefEqProofs [c29]) | (refine ar_call (cp hb ?_); simp -implicitDefEqProofs [c29]) | (refine ard_call (dp hb ?_); simp -implicitDefEqProofs [c29]) | fail)
    refine aw_ret (fin_ret ?_); simp -implicitDefEqProofs [FinP, resV, resT] <;> try rfl
  rw [if_neg c29]
  obtain ⟨hn, h29⟩ := shpS_nat hS c29
  have hpr : ∀ (k : Nat) y, l[k]? = some y → Row Try.prog 45 [vT m, vLs L, vT ret, vT (.mk x l), vI (k : Nat)] [] (vGr (prtT m ret L x k y)) [] := fun k y hy =>
    rpart_row m ret L B x l ht hc k y hy hn (fun hb => ⟨h29 k y hb hy, (ih y (List.mem_of_getElem? hy) (hkin y (List.mem_of_getElem? hy))).2⟩)
  have hro : ∀ y, y ∈ l → Row Try.prog 46 [vT y] [] (vT (rootT y)) [] := fun y hy => rroot_row y (by have := kid_size (m := .mk x l) (d := y) hy; omega)
  have hof : ∀ y, y ∈ l → Row Try.prog 47 [vT m, vLs L, vT y] [] (vGt (ofT m L y)) [] ∧ (ofT m L y).ty.size ≤ 1000000 := fun y hy => by
    have hys := kid_size (m := .mk x l) (d := y) hy
    exact ⟨rof_row m L B hc.hm hc.hL (by omega) (by have := hc.len; omega) y (hkin y hy) (by omega), by have := (ofT_ok hc.hm (by omega) hc.hL y (hkin y hy) (by omega)).ty.2; omega⟩
  obtain ⟨F, hF⟩ : ∃ F, (match (prtsT m ret L x 0 l).find? (fun g => !decide (g.er = 0)) with
    | some g => g
    | none => endG m L x l (prtsT m ret L x 0 l) : GR) = F := ⟨_, rfl⟩
  suffices hsuf : Row Try.prog 42 [vT m, vLs L, vT ret, vT (.mk x l)] [] (vGr F) [] by
    rw [← hF] at hsuf
    exact hsuf
  obtain ⟨P, hP⟩ : ∃ P, prtsT m ret L x 0 l = P := ⟨_, rfl⟩
  have hPg : ∀ (k : Nat) y, l[k]? = some y → P[k]? = some (prtT m ret L x k y) := fun k y hy => by
    rw [← hP, prtsT_get, hy, Nat.zero_add]; rfl
  have hPl : P.length = l.length := by rw [← hP, prtsT_len]
  rw [hP] at hF
  have hat : ∀ (k : Nat) y, l[k]? = some y → ¬ (prtT m ret L x k y).er = 0 → (∀ g ∈ P.take k, g.er = 0) → F = prtT m ret L x k y := by
    intro k y hy he hno
    rw [← hF, find_at (k := k) (hPg k y hy) (by simpa using he) (fun g hg => by simpa using hno g hg)]
  have hend : (∀ g ∈ P, g.er = 0) → F = endG m L x l P := by
    intro hno
    rw [← hF, List.find?_eq_none.2 (fun g hg => by simpa using hno g hg)]
  obtain ⟨Q, hQ⟩ : ∃ Q : List VT, P.map GR.t = Q := ⟨_, rfl⟩
  have hQl : Q.length = l.length := by rw [← hQ, List.length_map, hPl]
  have hQk : ∀ (k : Nat) y, l[k]? = some y → Q.take (k + 1) = Q.take k ++ [(prtT m ret L x k y).t] := fun k y h => by
    rw [List.take_add_one, ← hQ, List.getElem?_map, hPg k y h]; rfl
  have hPk : ∀ (k : Nat) y, l[k]? = some y → P.take (k + 1) = P.take k ++ [prtT m ret L x k y] := fun k y h => by
    rw [List.take_add_one, hPg k y h]; rfl
  have hend2 : (∀ g ∈ P, g.er = 0) → F = if x.k = 22 ∧ ¬ ((rootT (l.getD 0 z0T)).lab.k = 7 ∨ (rootT (l.getD 0 z0T)).lab.k = 9) then badR (l.getD 0 z0T).lab 12
    else if x.k = 22 ∧ same (ofT m L (l.getD 0 z0T)).ty (ofT m L (l.getD 1 z0T)).ty = false then badR x 10
    else ⟨.mk ⟨x.k, x.n, ⟨#[]⟩, 0, 0⟩ Q, 0, 0⟩ := fun h => by rw [hend h, ← hQ]; rfl
  have h22 : x.k = 22 → l.length = 2 := fun h => by rw [h] at hn; simp [prtN] at hn; omega
  have hbx := fun e => rbad16_row x l e
  clear hF hP hQ hend ih hbl hPg h29
  obtain ⟨mx, ml⟩ := m
  obtain ⟨rx, rl⟩ := ret
  refine row_of Try.func42 rfl rfl (Nat.le_of_ble_eq_true rfl) ?_
  repeat' (first | refine aw_seq ?_ | refine aw_skip ?_ | refine aw_block ?_ | refine aw_exit ?_ | refine aw_cond rfl (fun _ => ?_) (fun hb => absurd hb (by decide)) | refine aw_cond rfl (fun hb => absurd hb (by decide)) (fun _ => ?_) | (refine aw_reg (fun K hK => ?_); simp -implicitDefEqProofs [c29]) | (refine aw_drw mixd (fun K hK => ?_); simp -implicitDefEqProofs [c29]) | refine hK _ ?_ | refine hK _ _ (by rfl) ?_ | (refine ar_call (cp hsh ?_); simp -implicitDefEqProofs [c29]) | (refine ard_call (dp hsh ?_); simp -implicitDefEqProofs [c29]) | fail)
  refine aw_lp (ι := Nat) (fun k => mkSt [(1, vLs L), (4, .v (.c (.ptr 0 0))), (6, .v (.c (.ptr 1 0))), (7, .v (.c (.ptr 2 0))), (8, .v (.c (.ptr 3 0))), (9, .v (.c (.ptr 4 0))), (10, vI (k : Nat))] [some (.box (ta (.mk mx ml))), some (.box (ta (.mk rx rl))), some (.box (ta (.mk x l))), some (.box (ta z0T ++ [.pv (I 0), .pv (I 0)])), some (.box [.pv (I x.k), .pv (I x.n), .pv (Sx ⟨#[]⟩), .row 5 6 ((Q.take k).map tc), .pv (I 0), .pv (I 0)]), some (.row 24 6)]) (fun k => k ≤ l.length ∧ ∀ g ∈ P.take k, g.er = 0) (fun k => l.length - k) 0 ⟨Nat.zero_le _, by simp⟩ (cov_intro [0, 1, 2, 3, 23, 21] (by simp -implicitDefEqProofs) (by simp -implicitDefEqProofs) (by decide) rfl (by simp)) (fun Z hI k hk => ?_)
  obtain ⟨hk, hz⟩ := hk
  by_cases hkl : k < l.length; rotate_left
  · have : k = l.length := by omega
    subst this
    rw [List.take_of_length_le (by omega)] at hz
    have hF := hend2 hz
    have e2 : Q.take l.length = Q := List.take_of_length_le (by omega)
    rw [e2]
    clear hat hend2 hPk hQk hpr
    by_cases c22 : x.k = 22; rotate_left
    · rw [if_neg (fun h => c22 h.1), if_neg (fun h => c22 h.1)] at hF
      subst hF
      repeat (first | refine aw_seq ?_ | refine aw_skip ?_ | refine aw_block ?_ | refine aw_exit ?_ | refine aw_cond rfl (fun _ => ?_) (fun hb => absurd hb (by decide)) | refine aw_cond rfl (fun hb => absurd hb (by decide)) (fun _ => ?_) | (refine aw_reg (fun K hK => ?_); simp -implicitDefEqProofs [c22]; refine hK _ ?_) | (refine aw_drw mixd (fun K hK => ?_); simp -implicitDefEqProofs [c22]; refine hK _ _ (by rfl) ?_) | fail)
      refine aw_ret (fin_ret ?_); simp -implicitDefEqProofs [FinP, resV, resT] <;> try rfl
    obtain ⟨⟨ax, al⟩, ⟨bx, bl⟩, rfl⟩ := two_of (h22 c22)
    have hr := hro (.mk ax al) (by simp)
    obtain ⟨h1, s1⟩ := hof (.mk ax al) (by simp)
    obtain ⟨h2, s2⟩ := hof (.mk bx bl) (by simp)
    have hba := rbad16_row ax al 12
    have hbt := hbx 10
    rw [show [Tr.mk ax al, .mk bx bl].getD 0 z0T = .mk ax al from rfl, show [Tr.mk ax al, .mk bx bl].getD 1 z0T = .mk bx bl from rfl, Tr.lab] at hF
    have hsa := rsame_row _ s1 _ s2
    obtain ⟨⟨wx, wl⟩, hW⟩ : ∃ g, rootT (.mk ax al) = g := ⟨_, rfl⟩
    obtain ⟨⟨⟨cx, cl⟩, ⟨dx, dl⟩, gp, ge⟩, hG⟩ : ∃ g, ofT (.mk mx ml) L (.mk ax al) = g := ⟨_, rfl⟩
    obtain ⟨⟨⟨ex, el⟩, ⟨fx, fl⟩, gp2, ge2⟩, hG2⟩ : ∃ g, ofT (.mk mx ml) L (.mk bx bl) = g := ⟨_, rfl⟩
    rw [hG] at h1 hF hsa
    rw [hG2] at h2 hF hsa
    rw [hW] at hr hF
    dsimp only [Tr.lab] at hF hsa
    obtain ⟨q, hq⟩ : ∃ q, same (.mk cx cl) (.mk ex el) = q := ⟨_, rfl⟩
    rw [hq] at hF hsa
    unfold badR at hF hba hbt
    clear hG hG2 hW hq hbx hro hof h22
    by_cases w7 : wx.k = 7 ∨ wx.k = 9; rotate_left
    · have n7 : ¬ wx.k = 7 := fun h => w7 (.inl h)
      have n9 : ¬ wx.k = 9 := fun h => w7 (.inr h)
      replace hF := hF.trans (if_pos ⟨c22, w7⟩)
      subst hF
      repeat' (first | refine aw_seq ?_ | refine aw_skip ?_ | refine aw_block ?_ | refine aw_exit ?_ | refine aw_cond rfl (fun _ => ?_) (fun hb => absurd hb (by decide)) | refine aw_cond rfl (fun hb => absurd hb (by decide)) (fun _ => ?_) | (refine aw_reg (fun K hK => ?_); simp -implicitDefEqProofs [c22, n7, n9]) | (refine aw_drw mixd (fun K hK => ?_); simp -implicitDefEqProofs [c22, n7, n9]) | refine hK _ ?_ | refine hK _ _ (by rfl) ?_ | (refine ar_call (cp hr ?_); simp -implicitDefEqProofs [c22, n7, n9]) | (refine ard_call (dp hr ?_); simp -implicitDefEqProofs [c22, n7, n9]) | (refine ar_call (cp hba ?_); simp -implicitDefEqProofs [c22, n7, n9]) | (refine ard_call (dp hba ?_); simp -implicitDefEqProofs [c22, n7, n9]) | fail)
      refine aw_ret (fin_ret ?_); simp -implicitDefEqProofs [FinP, resV, resT] <;> try rfl
    replace hF := hF.trans (if_neg (fun h => h.2 w7))
    cases q with
    | true =>
      replace hF := hF.trans (if_neg (by simp))
      subst hF
      rcases w7 with h | h
      · repeat' (first | refine aw_seq ?_ | refine aw_skip ?_ | refine aw_block ?_ | refine aw_exit ?_ | refine aw_cond rfl (fun _ => ?_) (fun hb => absurd hb (by decide)) | refine aw_cond rfl (fun hb => absurd hb (by decide)) (fun _ => ?_) | (refine aw_reg (fun K hK => ?_); simp -implicitDefEqProofs [c22, h]) | (refine aw_drw mixd (fun K hK => ?_); simp -implicitDefEqProofs [c22, h]) | refine hK _ ?_ | refine hK _ _ (by rfl) ?_ | (refine ar_call (cp hr ?_); simp -implicitDefEqProofs [c22, h]) | (refine ard_call (dp hr ?_); simp -implicitDefEqProofs [c22, h]) | (refine ar_call (cp h1 ?_); simp -implicitDefEqProofs [c22, h]) | (refine ard_call (dp h1 ?_); simp -implicitDefEqProofs [c22, h]) | (refine ar_call (cp h2 ?_); simp -implicitDefEqProofs [c22, h]) | (refine ard_call (dp h2 ?_); simp -implicitDefEqProofs [c22, h]) | (refine ar_call (cp hsa ?_); simp -implicitDefEqProofs [c22, h]) | (refine ard_call (dp hsa ?_); simp -implicitDefEqProofs [c22, h]) | fail)
        refine aw_ret (fin_ret ?_); simp -implicitDefEqProofs [FinP, resV, resT, c22] <;> try rfl
      · repeat' (first | refine aw_seq ?_ | refine aw_skip ?_ | refine aw_block ?_ | refine aw_exit ?_ | refine aw_cond rfl (fun _ => ?_) (fun hb => absurd hb (by decide)) | refine aw_cond rfl (fun hb => absurd hb (by decide)) (fun _ => ?_) | (refine aw_reg (fun K hK => ?_); simp -implicitDefEqProofs [c22, h]) | (refine aw_drw mixd (fun K hK => ?_); simp -implicitDefEqProofs [c22, h]) | refine hK _ ?_ | refine hK _ _ (by rfl) ?_ | (refine ar_call (cp hr ?_); simp -implicitDefEqProofs [c22, h]) | (refine ard_call (dp hr ?_); simp -implicitDefEqProofs [c22, h]) | (refine ar_call (cp h1 ?_); simp -implicitDefEqProofs [c22, h]) | (refine ard_call (dp h1 ?_); simp -implicitDefEqProofs [c22, h]) | (refine ar_call (cp h2 ?_); simp -implicitDefEqProofs [c22, h]) | (refine ard_call (dp h2 ?_); simp -implicitDefEqProofs [c22, h]) | (refine ar_call (cp hsa ?_); simp -implicitDefEqProofs [c22, h]) | (refine ard_call (dp hsa ?_); simp -implicitDefEqProofs [c22, h]) | fail)
        refine aw_ret (fin_ret ?_); simp -implicitDefEqProofs [FinP, resV, resT, c22] <;> try rfl
    | false =>
      replace hF := hF.trans (if_pos ⟨c22, rfl⟩)
      subst hF
      rcases w7 with h | h
      · repeat' (first | refine aw_seq ?_ | refine aw_skip ?_ | refine aw_block ?_ | refine aw_exit ?_ | refine aw_cond rfl (fun _ => ?_) (fun hb => absurd hb (by decide)) | refine aw_cond rfl (fun hb => absurd hb (by decide)) (fun _ => ?_) | (refine aw_reg (fun K hK => ?_); simp -implicitDefEqProofs [c22, h]) | (refine aw_drw mixd (fun K hK => ?_); simp -implicitDefEqProofs [c22, h]) | refine hK _ ?_ | refine hK _ _ (by rfl) ?_ | (refine ar_call (cp hr ?_); simp -implicitDefEqProofs [c22, h]) | (refine ard_call (dp hr ?_); simp -implicitDefEqProofs [c22, h]) | (refine ar_call (cp h1 ?_); simp -implicitDefEqProofs [c22, h]) | (refine ard_call (dp h1 ?_); simp -implicitDefEqProofs [c22, h]) | (refine ar_call (cp h2 ?_); simp -implicitDefEqProofs [c22, h]) | (refine ard_call (dp h2 ?_); simp -implicitDefEqProofs [c22, h]) | (refine ar_call (cp hsa ?_); simp -implicitDefEqProofs [c22, h]) | (refine ard_call (dp hsa ?_); simp -implicitDefEqProofs [c22, h]) | (refine ar_call (cp hbt ?_); simp -implicitDefEqProofs [c22, h]) | (refine ard_call (dp hbt ?_); simp -implicitDefEqProofs [c22, h]) | fail)
        refine aw_ret (fin_ret ?_); simp -implicitDefEqProofs [FinP, resV, resT] <;> try rfl
      · repeat' (first | refine aw_seq ?_ | refine aw_skip ?_ | refine aw_block ?_ | refine aw_exit ?_ | refine aw_cond rfl (fun _ => ?_) (fun hb => absurd hb (by decide)) | refine aw_cond rfl (fun hb => absurd hb (by decide)) (fun _ => ?_) | (refine aw_reg (fun K hK => ?_); simp -implicitDefEqProofs [c22, h]) | (refine aw_drw mixd (fun K hK => ?_); simp -implicitDefEqProofs [c22, h]) | refine hK _ ?_ | refine hK _ _ (by rfl) ?_ | (refine ar_call (cp hr ?_); simp -implicitDefEqProofs [c22, h]) | (refine ard_call (dp hr ?_); simp -implicitDefEqProofs [c22, h]) | (refine ar_call (cp h1 ?_); simp -implicitDefEqProofs [c22, h]) | (refine ard_call (dp h1 ?_); simp -implicitDefEqProofs [c22, h]) | (refine ar_call (cp h2 ?_); simp -implicitDefEqProofs [c22, h]) | (refine ard_call (dp h2 ?_); simp -implicitDefEqProofs [c22, h]) | (refine ar_call (cp hsa ?_); simp -implicitDefEqProofs [c22, h]) | (refine ard_call (dp hsa ?_); simp -implicitDefEqProofs [c22, h]) | (refine ar_call (cp hbt ?_); simp -implicitDefEqProofs [c22, h]) | (refine ard_call (dp hbt ?_); simp -implicitDefEqProofs [c22, h]) | fail)
        refine aw_ret (fin_ret ?_); simp -implicitDefEqProofs [FinP, resV, resT] <;> try rfl
  obtain ⟨y, ha⟩ : ∃ a, l[k]? = some a := ⟨_, List.getElem?_eq_getElem hkl⟩
  have hc := hpr k y ha
  have w2 : IntKind.i64.wrap ((k : Nat) + 1 : Int) = (k : Nat) + 1 := i64i _ (by omega) (by omega)
  have hs := hQk k _ ha
  have hpk := hPk k _ ha
  have hto := hat k y ha
  have hQkl : (Q.take k).length = k := by rw [List.length_take]; omega
  obtain ⟨QK, hQK⟩ : ∃ QK, Q.take k = QK := ⟨_, rfl⟩
  obtain ⟨⟨⟨bx, bl⟩, gp, ge⟩, hG⟩ : ∃ g, prtT (.mk mx ml) (.mk rx rl) L x k y = g := ⟨_, rfl⟩
  rw [hG] at hc hs hpk hto
  rw [hQK] at hs hQkl ⊢
  clear hG hQK hat hend2 hPk hQk hpr hro hof hbx
  have b1 : (k + 1) * 72 ≤ 140737488355328 := by omega
  have b2 : k + 1 ≤ 140737488355328 := by omega
  by_cases he : ge = 0
  · subst he
    repeat' (first | refine aw_seq ?_ | refine aw_skip ?_ | refine aw_block ?_ | refine aw_exit ?_ | refine aw_cond rfl (fun _ => ?_) (fun hb => absurd hb (by decide)) | refine aw_cond rfl (fun hb => absurd hb (by decide)) (fun _ => ?_) | (refine aw_reg (fun K hK => ?_); simp -implicitDefEqProofs [hkl, hQkl, b1, b2, w2]) | (refine aw_drw mixd (fun K hK => ?_); simp -implicitDefEqProofs [hkl, hQkl, b1, b2, w2]) | refine hK _ ?_ | refine hK _ _ (by rfl) ?_ | (refine ar_call (cp hc ?_); simp -implicitDefEqProofs [hkl, hQkl, b1, b2, w2]) | (refine ard_call (dp hc ?_); simp -implicitDefEqProofs [hkl, hQkl, b1, b2, w2]) | fail)
    refine ⟨k + 1, ⟨by omega, fun g hg => ?_⟩, (by dsimp only; omega), ?_⟩
    · rw [hpk] at hg
      rcases List.mem_append.1 hg with hg | hg
      · exact hz g hg
      · simp at hg; subst hg; rfl
    · rw [hI, hs]; exact cov_intro [0, 1, 2, 3, 4, 34] (by simp -implicitDefEqProofs) (by simp -implicitDefEqProofs) (by decide) rfl (by simp)
  · have hF := hto he hz
    subst hF
    repeat' (first | refine aw_seq ?_ | refine aw_skip ?_ | refine aw_block ?_ | refine aw_exit ?_ | refine aw_cond rfl (fun _ => ?_) (fun hb => absurd hb (by decide)) | refine aw_cond rfl (fun hb => absurd hb (by decide)) (fun _ => ?_) | (refine aw_reg (fun K hK => ?_); simp -implicitDefEqProofs [hkl, he]) | (refine aw_drw mixd (fun K hK => ?_); simp -implicitDefEqProofs [hkl, he]) | refine hK _ ?_ | refine hK _ _ (by rfl) ?_ | (refine ar_call (cp hc ?_); simp -implicitDefEqProofs [hkl, he]) | (refine ard_call (dp hc ?_); simp -implicitDefEqProofs [hkl, he]) | fail)
    refine aw_ret (fin_ret ?_); simp -implicitDefEqProofs [FinP, resV, resT] <;> try rfl
end Go.Proofs.Ythmdllhhmhbhbaa.am
end
section
namespace Go.Proofs.Ythmdllhhmhbhbaa.am
open Go.ChangeShapes Go.WideShapes Go.ChangeAt Go.RowKit
set_option linter.unusedVariables false
end Go.Proofs.Ythmdllhhmhbhbaa.am
end
section
namespace Go.Proofs.Ythmdllhhmhbhbaa.am
open Go.ChangeShapes Go.WideShapes Go.ChangeAt Go.RowKit
open vt
set_option linter.unusedVariables false
set_option linter.unusedSimpArgs false
set_option maxRecDepth 100000 in
set_option maxHeartbeats 4000000 in
theorem rplac_row (t : VT) : t.size ≤ 1000000 → ∀ u : VT, u.size ≤ 1000000 → Row Try.prog 14 [vT t, vT u] [] (vB (plac t u)) [] := by
  induction t using Tr.ind with
  | h x l ih =>
  intro hsz u hsu
  obtain ⟨y, m⟩ := u
  have hlen := Tr.len_size (x := x) (l := l)
  rw [show plac (.mk x l) (.mk y m) = _ from eqv_mk pP x y l m]
  refine row_of Try.func14 rfl rfl (Nat.le_of_ble_eq_true rfl) ?_
  by_cases hk : x.k = y.k; rotate_left
  · repeat (first | refine aw_seq ?_ | refine aw_skip ?_ | refine aw_block ?_ | refine aw_exit ?_ | refine aw_cond rfl (fun _ => ?_) (fun hb => absurd hb (by decide)) | refine aw_cond rfl (fun hb => absurd hb (by decide)) (fun _ => ?_) | (refine aw_reg (fun K hK => ?_); simp -implicitDefEqProofs [hk]; refine hK _ ?_) | (refine aw_drw mixd (fun K hK => ?_); simp -implicitDefEqProofs [hk]; refine hK _ _ (by rfl) ?_) | fail)
    refine aw_ret (fin_ret ?_); simp -implicitDefEqProofs [FinP, resV, resT, hk, pP] <;> try rfl
  by_cases hn : x.n = y.n; rotate_left
  · repeat (first | refine aw_seq ?_ | refine aw_skip ?_ | refine aw_block ?_ | refine aw_exit ?_ | refine aw_cond rfl (fun _ => ?_) (fun hb => absurd hb (by decide)) | refine aw_cond rfl (fun hb => absurd hb (by decide)) (fun _ => ?_) | (refine aw_reg (fun K hK => ?_); simp -implicitDefEqProofs [hk, hn]; refine hK _ ?_) | (refine aw_drw mixd (fun K hK => ?_); simp -implicitDefEqProofs [hk, hn]; refine hK _ _ (by rfl) ?_) | fail)
    refine aw_ret (fin_ret ?_); simp -implicitDefEqProofs [FinP, resV, resT, hk, hn, pP] <;> try rfl
  by_cases hs : x.s = y.s; rotate_left
  · repeat (first | refine aw_seq ?_ | refine aw_skip ?_ | refine aw_block ?_ | refine aw_exit ?_ | refine aw_cond rfl (fun _ => ?_) (fun hb => absurd hb (by decide)) | refine aw_cond rfl (fun hb => absurd hb (by decide)) (fun _ => ?_) | (refine aw_reg (fun K hK => ?_); simp -implicitDefEqProofs [hk, hn, hs]; refine hK _ ?_) | (refine aw_drw mixd (fun K hK => ?_); simp -implicitDefEqProofs [hk, hn, hs]; refine hK _ _ (by rfl) ?_) | fail)
    refine aw_ret (fin_ret ?_); simp -implicitDefEqProofs [FinP, resV, resT, hk, hn, hs, pP] <;> try rfl
  by_cases hf : x.f = y.f; rotate_left
  · repeat (first | refine aw_seq ?_ | refine aw_skip ?_ | refine aw_block ?_ | refine aw_exit ?_ | refine aw_cond rfl (fun _ => ?_) (fun hb => absurd hb (by decide)) | refine aw_cond rfl (fun hb => absurd hb (by decide)) (fun _ => ?_) | (refine aw_reg (fun K hK => ?_); simp -implicitDefEqProofs [hk, hn, hs, hf]; refine hK _ ?_) | (refine aw_drw mixd (fun K hK => ?_); simp -implicitDefEqProofs [hk, hn, hs, hf]; refine hK _ _ (by rfl) ?_) | fail)
    refine aw_ret (fin_ret ?_); simp -implicitDefEqProofs [FinP, resV, resT, hk, hn, hs, hf, pP] <;> try rfl
  by_cases ht : x.t = y.t; rotate_left
  · repeat (first | refine aw_seq ?_ | refine aw_skip ?_ | refine aw_block ?_ | refine aw_exit ?_ | refine aw_cond rfl (fun _ => ?_) (fun hb => absurd hb (by decide)) | refine aw_cond rfl (fun hb => absurd hb (by decide)) (fun _ => ?_) | (refine aw_reg (fun K hK => ?_); simp -implicitDefEqProofs [hk, hn, hs, hf, ht]; refine hK _ ?_) | (refine aw_drw mixd (fun K hK => ?_); simp -implicitDefEqProofs [hk, hn, hs, hf, ht]; refine hK _ _ (by rfl) ?_) | fail)
    refine aw_ret (fin_ret ?_); simp -implicitDefEqProofs [FinP, resV, resT, hk, hn, hs, hf, ht, pP] <;> try rfl
  by_cases hm : l.length = m.length; rotate_left
  · have hm' : ¬ (l.length : Int) = (m.length : Int) := by omega
    repeat (first | refine aw_seq ?_ | refine aw_skip ?_ | refine aw_block ?_ | refine aw_exit ?_ | refine aw_cond rfl (fun _ => ?_) (fun hb => absurd hb (by decide)) | refine aw_cond rfl (fun hb => absurd hb (by decide)) (fun _ => ?_) | (refine aw_reg (fun K hK => ?_); simp -implicitDefEqProofs [hk, hn, hs, hf, ht, hm, hm']; refine hK _ ?_) | (refine aw_drw mixd (fun K hK => ?_); simp -implicitDefEqProofs [hk, hn, hs, hf, ht, hm, hm']; refine hK _ _ (by rfl) ?_) | fail)
    refine aw_ret (fin_ret ?_); simp -implicitDefEqProofs [FinP, resV, resT, hk, hn, hs, hf, ht, hm, pP] <;> try rfl
  repeat (first | refine aw_seq ?_ | refine aw_skip ?_ | refine aw_block ?_ | refine aw_exit ?_ | refine aw_cond rfl (fun _ => ?_) (fun hb => absurd hb (by decide)) | refine aw_cond rfl (fun hb => absurd hb (by decide)) (fun _ => ?_) | (refine aw_reg (fun K hK => ?_); simp -implicitDefEqProofs [hk, hn, hs, hf, ht, hm]; refine hK _ ?_) | (refine aw_drw mixd (fun K hK => ?_); simp -implicitDefEqProofs [hk, hn, hs, hf, ht, hm]; refine hK _ _ (by rfl) ?_) | fail)
  refine aw_lp (ι := Nat) (fun k => mkSt [(2, .v (.c (.ptr 0 0))), (3, .v (.c (.ptr 1 0))), (5, vI (k : Nat))] [some (.box (ta (.mk x l))), some (.box (ta (.mk y m)))]) (fun k => k ≤ l.length ∧ zipA (eqv pP) l m k = true) (fun k => l.length - k) 0 ⟨Nat.zero_le _, zipA_zero _ _ _⟩ (cov_intro [0, 1] (by simp -implicitDefEqProofs [hk, hn, hs, hf, ht, hm]) (by simp -implicitDefEqProofs [hk, hn, hs, hf, ht, hm]) (by decide) rfl (by simp)) (fun Z hI k hkz => ?_)
  obtain ⟨hkl', hz⟩ := hkz
  by_cases hkl : k < l.length; rotate_left
  · have : k = l.length := by omega
    subst this
    rw [show (pP x y && decide (l.length = m.length) && zipA (eqv pP) l m l.length) = true by rw [hz]; simp [pP, hk, hn, hs, hf, ht, hm]]
    repeat (first | refine aw_seq ?_ | refine aw_skip ?_ | refine aw_block ?_ | refine aw_exit ?_ | refine aw_cond rfl (fun _ => ?_) (fun hb => absurd hb (by decide)) | refine aw_cond rfl (fun hb => absurd hb (by decide)) (fun _ => ?_) | (refine aw_reg (fun K hK => ?_); simp -implicitDefEqProofs; refine hK _ ?_) | (refine aw_drw mixd (fun K hK => ?_); simp -implicitDefEqProofs; refine hK _ _ (by rfl) ?_) | fail)
    refine aw_ret (fin_ret ?_); simp -implicitDefEqProofs [FinP, resV, resT] <;> try rfl
  have hkm : k < m.length := by omega
  obtain ⟨⟨ax, al⟩, ha⟩ : ∃ a, l[k]? = some a := ⟨_, List.getElem?_eq_getElem hkl⟩
  obtain ⟨⟨bx, bl⟩, hb⟩ : ∃ a, m[k]? = some a := ⟨_, List.getElem?_eq_getElem hkm⟩
  have ha' := (List.getElem?_eq_some_iff.1 ha).2
  have hb' := (List.getElem?_eq_some_iff.1 hb).2
  have hsz1 := Tr.size_at (x := x) ha
  have hsz2 := Tr.size_at (x := y) hb
  have w2 : IntKind.i64.wrap ((k : Nat) + 1 : Int) = (k : Nat) + 1 := i64i _ (by omega) (by omega)
  have hzs := zipA_succ (f := eqv pP) ha hb
  repeat (first | refine aw_seq ?_ | refine aw_skip ?_ | refine aw_block ?_ | refine aw_exit ?_ | refine aw_cond rfl (fun _ => ?_) (fun hb => absurd hb (by decide)) | refine aw_cond rfl (fun hb => absurd hb (by decide)) (fun _ => ?_) | (refine aw_reg (fun K hK => ?_); simp -implicitDefEqProofs [hkl]; refine hK _ ?_) | (refine aw_drw mixd (fun K hK => ?_); simp -implicitDefEqProofs [hkl]; refine hK _ _ (by rfl) ?_) | fail)
  refine aw_drw mixd (fun K hK => ?_); simp -implicitDefEqProofs [hkl, hkm, ha, ha', hb, hb']
  refine ard_call (calld_pure (ih _ (List.mem_of_getElem? ha) (by omega) (.mk bx bl) (by omega)) (by simp) (fun _ => rfl) rfl ?_)
  simp -implicitDefEqProofs
  refine hK _ _ (by rfl) ?_
  refine aw_cond rfl (fun hb => ?_) (fun hb => ?_)
  · have hf : plac (.mk ax al) (.mk bx bl) = false := by simpa using hb
    repeat (first | refine aw_seq ?_ | refine aw_skip ?_ | refine aw_block ?_ | refine aw_exit ?_ | refine aw_cond rfl (fun _ => ?_) (fun hb => absurd hb (by decide)) | refine aw_cond rfl (fun hb => absurd hb (by decide)) (fun _ => ?_) | (refine aw_reg (fun K hK => ?_); simp -implicitDefEqProofs; refine hK _ ?_) | (refine aw_drw mixd (fun K hK => ?_); simp -implicitDefEqProofs; refine hK _ _ (by rfl) ?_) | fail)
    have e : zipA (eqv pP) l m l.length = false := by
      have := zipA_mono (l.length - (k + 1)) (show zipA (eqv pP) l m (k + 1) = false by rw [hzs, hz]; simpa using hf)
      rwa [show k + 1 + (l.length - (k + 1)) = l.length by omega] at this
    refine aw_ret (fin_ret ?_); simp -implicitDefEqProofs [FinP, resV, resT, e] <;> try rfl
  · have hf : plac (.mk ax al) (.mk bx bl) = true := by simpa using hb
    repeat (first | refine aw_seq ?_ | refine aw_skip ?_ | refine aw_block ?_ | refine aw_exit ?_ | refine aw_cond rfl (fun _ => ?_) (fun hb => absurd hb (by decide)) | refine aw_cond rfl (fun hb => absurd hb (by decide)) (fun _ => ?_) | (refine aw_reg (fun K hK => ?_); simp -implicitDefEqProofs [w2]; refine hK _ ?_) | (refine aw_drw mixd (fun K hK => ?_); simp -implicitDefEqProofs [w2]; refine hK _ _ (by rfl) ?_) | fail)
    refine ⟨k + 1, ⟨by omega, by rw [hzs, hz]; simpa using hf⟩, (by dsimp only; omega), ?_⟩
    rw [hI]; exact cov_intro [0, 1] (by simp -implicitDefEqProofs) (by simp -implicitDefEqProofs) (by decide) rfl (by simp)
end Go.Proofs.Ythmdllhhmhbhbaa.am
end
