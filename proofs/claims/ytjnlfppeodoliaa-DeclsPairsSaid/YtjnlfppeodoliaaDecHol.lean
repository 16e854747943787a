/-
  Layer 32: the rules held: both.
-/
import Derived.Test.YtjnlfppeodoliaaDecRef3
import Derived.Test.YtjnlfppeodoliaaRowTSame
import Derived.Test.YtjnlfppeodoliaaRowRSame
import Derived.Test.YtjnlfppeodoliaaRowLarge
namespace Go.Proofs.Ytjnlfppeodoliaa.am
open Go.ChangeShapes Go.WideShapes Go.ChangeAt Go.RowKit
open vt
set_option linter.unusedVariables false
set_option linter.unusedSimpArgs false
theorem sum_le {B : Nat} : ∀ {l : List VT}, (∀ t ∈ l, t.size ≤ B) → (l.map Tr.size).sum ≤ l.length * B
  | [], _ => by simp
  | a :: l, h => by
    have := sum_le (l := l) (fun t ht => h t (by simp [ht]))
    have h1 := h a (by simp)
    simp only [List.map_cons, List.sum_cons, List.length_cons, Nat.succ_mul]
    omega
theorem permT_size (m : VT) (nums : List Int) (hs : m.size ≤ 1000) (hn : nums.length ≤ 900) : (permT m nums).size ≤ 1000000 := by
  obtain ⟨x, l⟩ := m
  unfold permT
  rw [Tr.size_mk]
  refine Nat.le_trans (Nat.add_le_add_left (sum_le (B := 1000) (fun t ht => ?_)) 1) (by rw [List.length_map]; omega)
  obtain ⟨i, _, rfl⟩ := List.mem_map.1 ht
  rw [renum_size, List.getD_eq_getElem?_getD]
  cases hg : l[i.toNat]? with
  | none => simp [Tr.size_mk]
  | some y => have := Tr.size_at (x := x) hg; simp; omega
theorem dropT_size (m : VT) (i : Int) (hs : m.size ≤ 900) : (dropT m i).size ≤ 1000000 := by
  obtain ⟨x, l⟩ := m
  unfold dropT
  have hlen := Tr.len_size (x := x) (l := l)
  rw [Tr.size_mk]
  have h := sum_le (B := 1000) (l := (l.eraseIdx i.toNat).map (renum (lessI i l.length))) (fun t ht => by
    obtain ⟨y, hy, rfl⟩ := List.mem_map.1 ht
    rw [renum_size]
    obtain ⟨k, hk⟩ := List.mem_iff_getElem?.1 (List.mem_of_mem_eraseIdx hy)
    have := Tr.size_at (x := x) hk; omega)
  rw [List.length_map] at h
  have := List.length_eraseIdx_le l i.toNat
  have h2 : (l.eraseIdx i.toNat).length * 1000 ≤ 900 * 1000 := Nat.mul_le_mul_right _ (by omega)
  omega
/-- What a rule makes, and whether it makes something. -/
noncomputable def sideT (rule : Int) (nums : List Int) (m : VT) : VT × Bool :=
  if rule = 50 then (if permB m nums = true then permT m nums else zT, permB m nums)
  else if rule = 51 ∧ nums.length = 1 then (if dropB m (nums.getD 0 0) = true then dropT m (nums.getD 0 0) else zT, dropB m (nums.getD 0 0))
  else (zT, false)
theorem z_size : (zT : VT).size = 1 := by rw [Tr.size_mk]; rfl
theorem sideT_size (rule : Int) (nums : List Int) (m : VT) (hs : m.size ≤ 900) (hn : nums.length ≤ 900) : (sideT rule nums m).1.size ≤ 1000000 := by
  unfold sideT
  split
  · dsimp only
    split
    · exact permT_size m nums (by omega) hn
    · rw [z_size]; omega
  · split
    · dsimp only
      split
      · exact dropT_size m _ hs
      · rw [z_size]; omega
    · dsimp only; rw [z_size]; omega
def ok64 (l : List Int) : Prop := ∀ z ∈ l, -9223372036854775808 ≤ z ∧ z ≤ 9223372036854775807
set_option maxRecDepth 100000 in
set_option maxHeartbeats 4000000 in
theorem rside_row (rule : Int) (nums : List Int) (m : VT) (hm : in64 m) (hs : m.size ≤ 1000000) (hn : nums.length ≤ 1000000) (h64 : ok64 nums) : Row Try.prog 20 [vI rule, vIs nums, vT m] [] (vTB (sideT rule nums m).1 (sideT rule nums m).2) [] := by
  have h1 := rperm_row m hm hs nums hn
  by_cases hr : rule = 50
  · rw [show sideT rule nums m = (if permB m nums = true then permT m nums else zT, permB m nums) by unfold sideT; rw [if_pos hr]]
    obtain ⟨⟨rx, rl⟩, hR⟩ : ∃ r, (if permB m nums = true then permT m nums else zT) = r := ⟨_, rfl⟩
    rw [hR] at h1 ⊢
    obtain ⟨mx, ml⟩ := m
    clear hR
    refine row_of Try.func20 rfl rfl (Nat.le_of_ble_eq_true rfl) ?_
    repeat' (first | refine aw_seq ?_ | refine aw_skip ?_ | refine aw_block ?_ | refine aw_exit ?_ | refine aw_cond rfl (fun _ => ?_) (fun hb => absurd hb (by decide)) | refine aw_cond rfl (fun hb => absurd hb (by decide)) (fun _ => ?_) | (refine aw_reg (fun K hK => ?_); simp -implicitDefEqProofs [hr]) | (refine aw_drw mixd (fun K hK => ?_); simp -implicitDefEqProofs [hr]) | refine hK _ ?_ | refine hK _ _ (by rfl) ?_ | (refine ar_call (cp h1 ?_); simp -implicitDefEqProofs [hr]) | (refine ard_call (dp h1 ?_); simp -implicitDefEqProofs [hr]) | fail)
    refine aw_ret (fin_ret ?_); simp -implicitDefEqProofs [FinP, resV, resT] <;> try rfl
  by_cases hd : rule = 51 ∧ nums.length = 1; rotate_left
  · rw [show sideT rule nums m = (zT, false) by unfold sideT; rw [if_neg hr, if_neg hd]]
    obtain ⟨mx, ml⟩ := m
    clear h1
    by_cases h51 : rule = 51
    · have hl : ¬ nums.length = 1 := fun h => hd ⟨h51, h⟩
      have hl' : ¬ (nums.length : Int) = 1 := by omega
      refine row_of Try.func20 rfl rfl (Nat.le_of_ble_eq_true rfl) ?_
      repeat (first | refine aw_seq ?_ | refine aw_skip ?_ | refine aw_block ?_ | refine aw_exit ?_ | refine aw_cond rfl (fun _ => ?_) (fun hb => absurd hb (by decide)) | refine aw_cond rfl (fun hb => absurd hb (by decide)) (fun _ => ?_) | (refine aw_reg (fun K hK => ?_); simp -implicitDefEqProofs [h51, hl, hl']; refine hK _ ?_) | (refine aw_drw mixd (fun K hK => ?_); simp -implicitDefEqProofs [h51, hl, hl']; refine hK _ _ (by rfl) ?_) | fail)
      refine aw_ret (fin_ret ?_); simp -implicitDefEqProofs [FinP, resV, resT] <;> try rfl
    · refine row_of Try.func20 rfl rfl (Nat.le_of_ble_eq_true rfl) ?_
      repeat (first | refine aw_seq ?_ | refine aw_skip ?_ | refine aw_block ?_ | refine aw_exit ?_ | refine aw_cond rfl (fun _ => ?_) (fun hb => absurd hb (by decide)) | refine aw_cond rfl (fun hb => absurd hb (by decide)) (fun _ => ?_) | (refine aw_reg (fun K hK => ?_); simp -implicitDefEqProofs [hr, h51]; refine hK _ ?_) | (refine aw_drw mixd (fun K hK => ?_); simp -implicitDefEqProofs [hr, h51]; refine hK _ _ (by rfl) ?_) | fail)
      refine aw_ret (fin_ret ?_); simp -implicitDefEqProofs [FinP, resV, resT] <;> try rfl
  obtain ⟨h51, hl⟩ := hd
  obtain ⟨z, rfl⟩ : ∃ z, nums = [z] := one_of hl
  have h2 := rdrop_row m hm hs z (h64 z (by simp))
  rw [show sideT rule [z] m = (if dropB m z = true then dropT m z else zT, dropB m z) by unfold sideT; rw [if_neg hr, if_pos ⟨h51, rfl⟩]; rfl]
  obtain ⟨⟨rx, rl⟩, hR⟩ : ∃ r, (if dropB m z = true then dropT m z else zT) = r := ⟨_, rfl⟩
  rw [hR] at h2 ⊢
  obtain ⟨mx, ml⟩ := m
  clear hR h1
  refine row_of Try.func20 rfl rfl (Nat.le_of_ble_eq_true rfl) ?_
  repeat' (first | refine aw_seq ?_ | refine aw_skip ?_ | refine aw_block ?_ | refine aw_exit ?_ | refine aw_cond rfl (fun _ => ?_) (fun hb => absurd hb (by decide)) | refine aw_cond rfl (fun hb => absurd hb (by decide)) (fun _ => ?_) | (refine aw_reg (fun K hK => ?_); simp -implicitDefEqProofs [h51]) | (refine aw_drw mixd (fun K hK => ?_); simp -implicitDefEqProofs [h51]) | refine hK _ ?_ | refine hK _ _ (by rfl) ?_ | (refine ar_call (cp h2 ?_); simp -implicitDefEqProofs [h51]) | (refine ard_call (dp h2 ?_); simp -implicitDefEqProofs [h51]) | fail)
  refine aw_ret (fin_ret ?_); simp -implicitDefEqProofs [FinP, resV, resT] <;> try rfl
set_option maxRecDepth 100000 in
set_option maxHeartbeats 4000000 in
theorem rhold_row (rule : Int) (nums : List Int) (m r : VT) (hm : in64 m) (hs : m.size ≤ 900) (hn : nums.length ≤ 900) (h64 : ok64 nums) (hr : r.size ≤ 1000000) : Row Try.prog 17 [vI rule, vIs nums, vT m, vT r] [] (vB ((sideT rule nums m).2 && same (sideT rule nums m).1 r)) [] := by
  have h1 := rside_row rule nums m hm (by omega) (by omega) h64
  have h2 := rsame_row (sideT rule nums m).1 (sideT_size rule nums m hs hn) r hr
  obtain ⟨⟨⟨sx, sl⟩, sb⟩, hS⟩ : ∃ s, sideT rule nums m = s := ⟨_, rfl⟩
  rw [hS] at h1 h2 ⊢
  dsimp only at h1 h2 ⊢
  obtain ⟨sm, hsm⟩ : ∃ b, same (.mk sx sl) r = b := ⟨_, rfl⟩
  rw [hsm] at h2 ⊢
  obtain ⟨mx, ml⟩ := m
  obtain ⟨rx, rl⟩ := r
  clear hS hsm
  cases sb
  · refine row_of Try.func17 rfl rfl (Nat.le_of_ble_eq_true rfl) ?_
    repeat' (first | refine aw_seq ?_ | refine aw_skip ?_ | refine aw_block ?_ | refine aw_exit ?_ | refine aw_cond rfl (fun _ => ?_) (fun hb => absurd hb (by decide)) | refine aw_cond rfl (fun hb => absurd hb (by decide)) (fun _ => ?_) | (refine aw_reg (fun K hK => ?_); simp -implicitDefEqProofs) | (refine aw_drw mixd (fun K hK => ?_); simp -implicitDefEqProofs) | refine hK _ ?_ | refine hK _ _ (by rfl) ?_ | (refine ar_call (cp h1 ?_); simp -implicitDefEqProofs) | (refine ard_call (dp h1 ?_); simp -implicitDefEqProofs) | (refine ar_call (cp h2 ?_); simp -implicitDefEqProofs) | (refine ard_call (dp h2 ?_); simp -implicitDefEqProofs) | fail)
    refine aw_ret (fin_ret ?_); simp -implicitDefEqProofs [FinP, resV, resT] <;> try rfl
  · refine row_of Try.func17 rfl rfl (Nat.le_of_ble_eq_true rfl) ?_
    repeat' (first | refine aw_seq ?_ | refine aw_skip ?_ | refine aw_block ?_ | refine aw_exit ?_ | refine aw_cond rfl (fun _ => ?_) (fun hb => absurd hb (by decide)) | refine aw_cond rfl (fun hb => absurd hb (by decide)) (fun _ => ?_) | (refine aw_reg (fun K hK => ?_); simp -implicitDefEqProofs) | (refine aw_drw mixd (fun K hK => ?_); simp -implicitDefEqProofs) | refine hK _ ?_ | refine hK _ _ (by rfl) ?_ | (refine ar_call (cp h1 ?_); simp -implicitDefEqProofs) | (refine ard_call (dp h1 ?_); simp -implicitDefEqProofs) | (refine ar_call (cp h2 ?_); simp -implicitDefEqProofs) | (refine ard_call (dp h2 ?_); simp -implicitDefEqProofs) | fail)
    refine aw_ret (fin_ret ?_); simp -implicitDefEqProofs [FinP, resV, resT] <;> try rfl
set_option maxRecDepth 100000 in
set_option maxHeartbeats 4000000 in
theorem hold_row (hrep : ∀ n : Nat, n ≤ 1000000 → Row Try.prog 89 [vIs [-1], vI (n : Nat)] [] (.v (.c (.arr 0 1 n))) [some (.arr 3 1 (List.replicate n [I (-1)]))]) (rule : Int) (nums : List Int) (m r : VT) (hm : in64 m) (hs : m.size ≤ 900) (hn : nums.length ≤ 900) (h64 : ok64 nums) (hr : r.size ≤ 1000000) : Row Try.prog 16 [vI rule, vIs nums, vT m, vT r] [] (vB ((sideT rule nums m).2 && same (sideT rule nums m).1 r)) [] := by
  have h1 := perm_row m hm (by omega) nums (by omega) (inv_row nums (by omega) (hrep nums.length (by omega)))
  have h3 := tsame_row (sideT rule nums m).1 (sideT_size rule nums m hs hn) r hr
  clear hrep
  by_cases h50 : rule = 50
  · rw [show sideT rule nums m = (if permB m nums = true then permT m nums else zT, permB m nums) by unfold sideT; rw [if_pos h50]] at h3 ⊢
    obtain ⟨⟨sx, sl⟩, hR⟩ : ∃ r, (if permB m nums = true then permT m nums else zT) = r := ⟨_, rfl⟩
    obtain ⟨sb, hB⟩ : ∃ b, permB m nums = b := ⟨_, rfl⟩
    rw [hR] at h1 h3 ⊢
    rw [hB] at h1 ⊢
    dsimp only at h3 ⊢
    obtain ⟨sm, hsm⟩ : ∃ b, same (.mk sx sl) r = b := ⟨_, rfl⟩
    rw [hsm] at h3 ⊢
    obtain ⟨mx, ml⟩ := m
    obtain ⟨rx, rl⟩ := r
    clear hR hB hsm
    cases sb
    · refine row_of Try.func16 rfl rfl (Nat.le_of_ble_eq_true rfl) ?_
      repeat' (first | refine aw_seq ?_ | refine aw_skip ?_ | refine aw_block ?_ | refine aw_exit ?_ | refine aw_cond rfl (fun _ => ?_) (fun hb => absurd hb (by decide)) | refine aw_cond rfl (fun hb => absurd hb (by decide)) (fun _ => ?_) | (refine aw_reg (fun K hK => ?_); simp -implicitDefEqProofs [h50]) | (refine aw_drw mixd (fun K hK => ?_); simp -implicitDefEqProofs [h50]) | refine hK _ ?_ | refine hK _ _ (by rfl) ?_ | (refine ar_call (cp h1 ?_); simp -implicitDefEqProofs [h50]) | (refine ard_call (dp h1 ?_); simp -implicitDefEqProofs [h50]) | (refine ar_call (cp h3 ?_); simp -implicitDefEqProofs [h50]) | (refine ard_call (dp h3 ?_); simp -implicitDefEqProofs [h50]) | fail)
      refine aw_ret (fin_ret ?_); simp -implicitDefEqProofs [FinP, resV, resT] <;> try rfl
    · refine row_of Try.func16 rfl rfl (Nat.le_of_ble_eq_true rfl) ?_
      repeat' (first | refine aw_seq ?_ | refine aw_skip ?_ | refine aw_block ?_ | refine aw_exit ?_ | refine aw_cond rfl (fun _ => ?_) (fun hb => absurd hb (by decide)) | refine aw_cond rfl (fun hb => absurd hb (by decide)) (fun _ => ?_) | (refine aw_reg (fun K hK => ?_); simp -implicitDefEqProofs [h50]) | (refine aw_drw mixd (fun K hK => ?_); simp -implicitDefEqProofs [h50]) | refine hK _ ?_ | refine hK _ _ (by rfl) ?_ | (refine ar_call (cp h1 ?_); simp -implicitDefEqProofs [h50]) | (refine ard_call (dp h1 ?_); simp -implicitDefEqProofs [h50]) | (refine ar_call (cp h3 ?_); simp -implicitDefEqProofs [h50]) | (refine ard_call (dp h3 ?_); simp -implicitDefEqProofs [h50]) | fail)
      refine aw_ret (fin_ret ?_); simp -implicitDefEqProofs [FinP, resV, resT] <;> try rfl
  by_cases hd : rule = 51 ∧ nums.length = 1; rotate_left
  · rw [show sideT rule nums m = (zT, false) by unfold sideT; rw [if_neg h50, if_neg hd]]
    obtain ⟨mx, ml⟩ := m
    obtain ⟨rx, rl⟩ := r
    clear h1 h3
    by_cases h51 : rule = 51
    · have hl : ¬ nums.length = 1 := fun h => hd ⟨h51, h⟩
      have hl' : ¬ (nums.length : Int) = 1 := by omega
      refine row_of Try.func16 rfl rfl (Nat.le_of_ble_eq_true rfl) ?_
      repeat (first | refine aw_seq ?_ | refine aw_skip ?_ | refine aw_block ?_ | refine aw_exit ?_ | refine aw_cond rfl (fun _ => ?_) (fun hb => absurd hb (by decide)) | refine aw_cond rfl (fun hb => absurd hb (by decide)) (fun _ => ?_) | (refine aw_reg (fun K hK => ?_); simp -implicitDefEqProofs [h51, hl, hl']; refine hK _ ?_) | (refine aw_drw mixd (fun K hK => ?_); simp -implicitDefEqProofs [h51, hl, hl']; refine hK _ _ (by rfl) ?_) | fail)
      refine aw_ret (fin_ret ?_); simp -implicitDefEqProofs [FinP, resV, resT] <;> try rfl
    · refine row_of Try.func16 rfl rfl (Nat.le_of_ble_eq_true rfl) ?_
      repeat (first | refine aw_seq ?_ | refine aw_skip ?_ | refine aw_block ?_ | refine aw_exit ?_ | refine aw_cond rfl (fun _ => ?_) (fun hb => absurd hb (by decide)) | refine aw_cond rfl (fun hb => absurd hb (by decide)) (fun _ => ?_) | (refine aw_reg (fun K hK => ?_); simp -implicitDefEqProofs [h50, h51]; refine hK _ ?_) | (refine aw_drw mixd (fun K hK => ?_); simp -implicitDefEqProofs [h50, h51]; refine hK _ _ (by rfl) ?_) | fail)
      refine aw_ret (fin_ret ?_); simp -implicitDefEqProofs [FinP, resV, resT] <;> try rfl
  obtain ⟨h51, hl⟩ := hd
  obtain ⟨z, rfl⟩ : ∃ z, nums = [z] := one_of hl
  have h2 := drop_row m hm (by omega) z (h64 z (by simp)).2
  rw [show sideT rule [z] m = (if dropB m z = true then dropT m z else zT, dropB m z) by unfold sideT; rw [if_neg h50, if_pos ⟨h51, rfl⟩]; rfl] at h3 ⊢
  obtain ⟨⟨sx, sl⟩, hR⟩ : ∃ r, (if dropB m z = true then dropT m z else zT) = r := ⟨_, rfl⟩
  obtain ⟨sb, hB⟩ : ∃ b, dropB m z = b := ⟨_, rfl⟩
  rw [hR] at h2 h3 ⊢
  rw [hB] at h2 ⊢
  dsimp only at h3 ⊢
  obtain ⟨sm, hsm⟩ : ∃ b, same (.mk sx sl) r = b := ⟨_, rfl⟩
  rw [hsm] at h3 ⊢
  obtain ⟨mx, ml⟩ := m
  obtain ⟨rx, rl⟩ := r
  clear hR hB hsm h1
  cases sb
  · refine row_of Try.func16 rfl rfl (Nat.le_of_ble_eq_true rfl) ?_
    repeat' (first | refine aw_seq ?_ | refine aw_skip ?_ | refine aw_block ?_ | refine aw_exit ?_ | refine aw_cond rfl (fun _ => ?_) (fun hb => absurd hb (by decide)) | refine aw_cond rfl (fun hb => absurd hb (by decide)) (fun _ => ?_) | (refine aw_reg (fun K hK => ?_); simp -implicitDefEqProofs [h51]) | (refine aw_drw mixd (fun K hK => ?_); simp -implicitDefEqProofs [h51]) | refine hK _ ?_ | refine hK _ _ (by rfl) ?_ | (refine ar_call (cp h2 ?_); simp -implicitDefEqProofs [h51]) | (refine ard_call (dp h2 ?_); simp -implicitDefEqProofs [h51]) | (refine ar_call (cp h3 ?_); simp -implicitDefEqProofs [h51]) | (refine ard_call (dp h3 ?_); simp -implicitDefEqProofs [h51]) | fail)
    refine aw_ret (fin_ret ?_); simp -implicitDefEqProofs [FinP, resV, resT] <;> try rfl
  · refine row_of Try.func16 rfl rfl (Nat.le_of_ble_eq_true rfl) ?_
    repeat' (first | refine aw_seq ?_ | refine aw_skip ?_ | refine aw_block ?_ | refine aw_exit ?_ | refine aw_cond rfl (fun _ => ?_) (fun hb => absurd hb (by decide)) | refine aw_cond rfl (fun hb => absurd hb (by decide)) (fun _ => ?_) | (refine aw_reg (fun K hK => ?_); simp -implicitDefEqProofs [h51]) | (refine aw_drw mixd (fun K hK => ?_); simp -implicitDefEqProofs [h51]) | refine hK _ ?_ | refine hK _ _ (by rfl) ?_ | (refine ar_call (cp h2 ?_); simp -implicitDefEqProofs [h51]) | (refine ard_call (dp h2 ?_); simp -implicitDefEqProofs [h51]) | (refine ar_call (cp h3 ?_); simp -implicitDefEqProofs [h51]) | (refine ard_call (dp h3 ?_); simp -implicitDefEqProofs [h51]) | fail)
    refine aw_ret (fin_ret ?_); simp -implicitDefEqProofs [FinP, resV, resT] <;> try rfl
end Go.Proofs.Ytjnlfppeodoliaa.am
