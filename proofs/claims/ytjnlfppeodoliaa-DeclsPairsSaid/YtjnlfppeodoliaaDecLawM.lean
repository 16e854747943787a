/-
  Layer 32: what the rules make: what the statement says.
-/
import Derived.Test.YtjnlfppeodoliaaDecHol
namespace Go.Proofs.Ytjnlfppeodoliaa.am
open Go.ChangeShapes Go.WideShapes Go.ChangeAt Go.RowKit
open vt
set_option linter.unusedVariables false
set_option linter.unusedSimpArgs false
theorem td_use : td Try.prog 27 = some ⟨true, 14, 176, [.lit (.int .i64 0), .nilS, .lit (.int .i64 0), .lit (.int .i64 0), .lit (.string ⟨#[]⟩), .nilS, .lit (.int .i64 0), .lit (.int .i64 0), .lit (.int .i64 0), .lit (.int .i64 0), .lit (.string ⟨#[]⟩), .nilS, .lit (.int .i64 0), .lit (.int .i64 0)], [(0, 1, false), (1, 1, false), (2, 6, true), (8, 6, true)], .struct⟩ := Eq.trans (by kernel_rfl) (Eq.refl _)
attribute [simp] td_use
abbrev RepH : Prop := ∀ n : Nat, n ≤ 1000000 → Row Try.prog 89 [vIs [-1], vI (n : Nat)] [] (.v (.c (.arr 0 1 n))) [some (.arr 3 1 (List.replicate n [I (-1)]))]
theorem tr1_ok {x : Lab} (h : x.ok) : in64 (.mk x []) := (Tr.all_mk _ _ _).2 ⟨h, fun y hy => by simp at hy⟩
theorem awk_in : in64 (.mk ⟨36, 0, ⟨#[]⟩, 0, 0⟩ [.mk ⟨32, 0, ⟨#[]⟩, 0, 0⟩ [], .mk ⟨31, 0, ⟨#[]⟩, 0, 0⟩ []]) := by
  refine (Tr.all_mk _ _ _).2 ⟨by simp [Lab.ok], fun y hy => ?_⟩
  simp at hy
  rcases hy with rfl | rfl <;> exact tr1_ok (by simp [Lab.ok])
set_option maxRecDepth 100000 in
set_option maxHeartbeats 4000000 in
theorem awake32_row : Row Try.prog 12 [] [] (vB true) [] := by
  have h := drop_row (.mk ⟨36, 0, ⟨#[]⟩, 0, 0⟩ [.mk ⟨32, 0, ⟨#[]⟩, 0, 0⟩ [], .mk ⟨31, 0, ⟨#[]⟩, 0, 0⟩ []]) awk_in (by simp [Tr.size_mk]) 0 (by omega)
  have e1 : dropB (.mk ⟨36, 0, ⟨#[]⟩, 0, 0⟩ [.mk ⟨32, 0, ⟨#[]⟩, 0, 0⟩ [], .mk ⟨31, 0, ⟨#[]⟩, 0, 0⟩ []]) 0 = true := by
    simp [dropB, Tr.lab, nmsT_mk, nmR, nmK]
  have e2 : dropT (.mk ⟨36, 0, ⟨#[]⟩, 0, 0⟩ [.mk ⟨32, 0, ⟨#[]⟩, 0, 0⟩ [], .mk ⟨31, 0, ⟨#[]⟩, 0, 0⟩ []]) 0 = .mk ⟨36, 0, ⟨#[]⟩, 0, 0⟩ [.mk ⟨31, 0, ⟨#[]⟩, 0, 0⟩ []] := by
    simp [dropT, renum_mk, nwN, nmK]
  rw [e1, if_pos rfl, e2] at h
  refine row_of Try.func12 rfl rfl (Nat.le_of_ble_eq_true rfl) ?_
  repeat' (first | refine aw_seq ?_ | refine aw_skip ?_ | refine aw_block ?_ | refine aw_exit ?_ | refine aw_cond rfl (fun _ => ?_) (fun hb => absurd hb (by decide)) | refine aw_cond rfl (fun hb => absurd hb (by decide)) (fun _ => ?_) | (refine aw_reg (fun K hK => ?_); simp -implicitDefEqProofs) | (refine aw_drw mixd (fun K hK => ?_); simp -implicitDefEqProofs) | refine hK _ ?_ | refine hK _ _ (by rfl) ?_ | (refine ar_call (cp h ?_); simp -implicitDefEqProofs) | (refine ard_call (dp h ?_); simp -implicitDefEqProofs) | fail)
  refine aw_ret (fin_ret ?_); simp -implicitDefEqProofs [FinP, resV, resT] <;> try rfl
noncomputable abbrev vUse (rule : Int) (nums : List Int) (l r : VT) : AV := .v (.agg (.pv (I rule) :: .pv (Is nums) :: (ta l ++ ta r)))
set_option maxRecDepth 100000 in
set_option maxHeartbeats 4000000 in
theorem law_make_row (hrep : RepH) (rule : Int) (nums : List Int) (l r : VT) (hl : in64 l) (hr : in64 r) (h64 : ok64 nums) : Row Try.prog 3 [vUse rule nums l r] [] (vB true) [] := by
  have haw := awake32_row
  have hL := rlarge_row l
  have hR := rlarge_row r
  by_cases gl : large l = true
  · rw [gl] at hL
    obtain ⟨lx, ll⟩ := l
    obtain ⟨rx, rl⟩ := r
    refine row_of Try.func3 rfl rfl (Nat.le_of_ble_eq_true rfl) ?_
    repeat' (first | refine aw_seq ?_ | refine aw_skip ?_ | refine aw_block ?_ | refine aw_exit ?_ | refine aw_cond rfl (fun _ => ?_) (fun hb => absurd hb (by decide)) | refine aw_cond rfl (fun hb => absurd hb (by decide)) (fun _ => ?_) | (refine aw_reg (fun K hK => ?_); simp -implicitDefEqProofs) | (refine aw_drw mixd (fun K hK => ?_); simp -implicitDefEqProofs) | refine hK _ ?_ | refine hK _ _ (by rfl) ?_ | (refine ar_call (cp hL ?_); simp -implicitDefEqProofs) | (refine ard_call (dp hL ?_); simp -implicitDefEqProofs) | (refine ar_call (cp haw ?_); simp -implicitDefEqProofs) | (refine ard_call (dp haw ?_); simp -implicitDefEqProofs) | fail)
    refine aw_ret (fin_ret ?_); simp -implicitDefEqProofs [FinP, resV, resT] <;> try rfl
  have gl : large l = false := by simpa using gl
  rw [gl] at hL
  by_cases gr : large r = true
  · rw [gr] at hR
    obtain ⟨lx, ll⟩ := l
    obtain ⟨rx, rl⟩ := r
    clear gl
    refine row_of Try.func3 rfl rfl (Nat.le_of_ble_eq_true rfl) ?_
    repeat' (first | refine aw_seq ?_ | refine aw_skip ?_ | refine aw_block ?_ | refine aw_exit ?_ | refine aw_cond rfl (fun _ => ?_) (fun hb => absurd hb (by decide)) | refine aw_cond rfl (fun hb => absurd hb (by decide)) (fun _ => ?_) | (refine aw_reg (fun K hK => ?_); simp -implicitDefEqProofs) | (refine aw_drw mixd (fun K hK => ?_); simp -implicitDefEqProofs) | refine hK _ ?_ | refine hK _ _ (by rfl) ?_ | (refine ar_call (cp hL ?_); simp -implicitDefEqProofs) | (refine ard_call (dp hL ?_); simp -implicitDefEqProofs) | (refine ar_call (cp hR ?_); simp -implicitDefEqProofs) | (refine ard_call (dp hR ?_); simp -implicitDefEqProofs) | (refine ar_call (cp haw ?_); simp -implicitDefEqProofs) | (refine ard_call (dp haw ?_); simp -implicitDefEqProofs) | fail)
    refine aw_ret (fin_ret ?_); simp -implicitDefEqProofs [FinP, resV, resT] <;> try rfl
  have gr : large r = false := by simpa using gr
  rw [gr] at hR
  by_cases hn : 100 < nums.length
  · have hn' : (100 : Int) < nums.length := by omega
    obtain ⟨lx, ll⟩ := l
    obtain ⟨rx, rl⟩ := r
    clear gl gr
    refine row_of Try.func3 rfl rfl (Nat.le_of_ble_eq_true rfl) ?_
    repeat' (first | refine aw_seq ?_ | refine aw_skip ?_ | refine aw_block ?_ | refine aw_exit ?_ | refine aw_cond rfl (fun _ => ?_) (fun hb => absurd hb (by decide)) | refine aw_cond rfl (fun hb => absurd hb (by decide)) (fun _ => ?_) | (refine aw_reg (fun K hK => ?_); simp -implicitDefEqProofs [hn, hn']) | (refine aw_drw mixd (fun K hK => ?_); simp -implicitDefEqProofs [hn, hn']) | refine hK _ ?_ | refine hK _ _ (by rfl) ?_ | (refine ar_call (cp hL ?_); simp -implicitDefEqProofs [hn, hn']) | (refine ard_call (dp hL ?_); simp -implicitDefEqProofs [hn, hn']) | (refine ar_call (cp hR ?_); simp -implicitDefEqProofs [hn, hn']) | (refine ard_call (dp hR ?_); simp -implicitDefEqProofs [hn, hn']) | (refine ar_call (cp haw ?_); simp -implicitDefEqProofs [hn, hn']) | (refine ard_call (dp haw ?_); simp -implicitDefEqProofs [hn, hn']) | fail)
    refine aw_ret (fin_ret ?_); simp -implicitDefEqProofs [FinP, resV, resT] <;> try rfl
  have hn' : ¬ (100 : Int) < nums.length := by omega
  have sl := large_size gl
  have sr := large_size gr
  have hp := perm_row l hl (by omega) nums (by omega) (inv_row nums (by omega) (hrep nums.length (by omega)))
  have hq := rperm_row l hl (by omega) nums (by omega)
  have hh := hold_row hrep rule nums l r hl (by omega) (by omega) h64 (by omega)
  have hk := rhold_row rule nums l r hl (by omega) (by omega) h64 (by omega)
  have hsz : (if permB l nums = true then permT l nums else zT).size ≤ 1000000 := by
    split
    · exact permT_size l nums (by omega) (by omega)
    · rw [z_size]; omega
  have hs1 := rsame_row _ hsz _ hsz
  rw [same_refl] at hs1
  obtain ⟨⟨px, pl⟩, hP⟩ : ∃ p, (if permB l nums = true then permT l nums else zT) = p := ⟨_, rfl⟩
  obtain ⟨pb, hPB⟩ : ∃ b, permB l nums = b := ⟨_, rfl⟩
  rw [hP] at hp hq hs1
  rw [hPB] at hp hq
  obtain ⟨hb, hH⟩ : ∃ b, ((sideT rule nums l).2 && same (sideT rule nums l).1 r) = b := ⟨_, rfl⟩
  rw [hH] at hh hk
  clear hP hPB hH hsz hrep gl gr
  by_cases h1 : nums.length = 1; rotate_left
  · have h1' : ¬ (nums.length : Int) = 1 := by omega
    obtain ⟨lx, ll⟩ := l
    obtain ⟨rx, rl⟩ := r
    refine row_of Try.func3 rfl rfl (Nat.le_of_ble_eq_true rfl) ?_
    repeat' (first | refine aw_seq ?_ | refine aw_skip ?_ | refine aw_block ?_ | refine aw_exit ?_ | refine aw_cond rfl (fun _ => ?_) (fun hb => absurd hb (by decide)) | refine aw_cond rfl (fun hb => absurd hb (by decide)) (fun _ => ?_) | (refine aw_reg (fun K hK => ?_); simp -implicitDefEqProofs [hn, hn', h1, h1']) | (refine aw_drw mixd (fun K hK => ?_); simp -implicitDefEqProofs [hn, hn', h1, h1']) | refine hK _ ?_ | refine hK _ _ (by rfl) ?_ | (refine ar_call (cp hL ?_); simp -implicitDefEqProofs [hn, hn', h1, h1']) | (refine ard_call (dp hL ?_); simp -implicitDefEqProofs [hn, hn', h1, h1']) | (refine ar_call (cp hR ?_); simp -implicitDefEqProofs [hn, hn', h1, h1']) | (refine ard_call (dp hR ?_); simp -implicitDefEqProofs [hn, hn', h1, h1']) | (refine ar_call (cp hp ?_); simp -implicitDefEqProofs [hn, hn', h1, h1']) | (refine ard_call (dp hp ?_); simp -implicitDefEqProofs [hn, hn', h1, h1']) | (refine ar_call (cp hq ?_); simp -implicitDefEqProofs [hn, hn', h1, h1']) | (refine ard_call (dp hq ?_); simp -implicitDefEqProofs [hn, hn', h1, h1']) | (refine ar_call (cp hs1 ?_); simp -implicitDefEqProofs [hn, hn', h1, h1']) | (refine ard_call (dp hs1 ?_); simp -implicitDefEqProofs [hn, hn', h1, h1']) | (refine ar_call (cp hh ?_); simp -implicitDefEqProofs [hn, hn', h1, h1']) | (refine ard_call (dp hh ?_); simp -implicitDefEqProofs [hn, hn', h1, h1']) | (refine ar_call (cp hk ?_); simp -implicitDefEqProofs [hn, hn', h1, h1']) | (refine ard_call (dp hk ?_); simp -implicitDefEqProofs [hn, hn', h1, h1']) | (refine ar_call (cp haw ?_); simp -implicitDefEqProofs [hn, hn', h1, h1']) | (refine ard_call (dp haw ?_); simp -implicitDefEqProofs [hn, hn', h1, h1']) | fail)
    refine aw_ret (fin_ret ?_); simp -implicitDefEqProofs [FinP, resV, resT] <;> try rfl
  obtain ⟨z, rfl⟩ : ∃ z, nums = [z] := one_of h1
  have hd := drop_row l hl (by omega) z (h64 z (by simp)).2
  have he := rdrop_row l hl (by omega) z (h64 z (by simp))
  have hsz : (if dropB l z = true then dropT l z else zT).size ≤ 1000000 := by
    split
    · exact dropT_size l z (by omega)
    · rw [z_size]; omega
  have hs2 := rsame_row _ hsz _ hsz
  rw [same_refl] at hs2
  obtain ⟨⟨dx, dl⟩, hD⟩ : ∃ p, (if dropB l z = true then dropT l z else zT) = p := ⟨_, rfl⟩
  obtain ⟨db, hDB⟩ : ∃ b, dropB l z = b := ⟨_, rfl⟩
  rw [hD] at hd he hs2
  rw [hDB] at hd he
  clear hD hDB hsz
  obtain ⟨lx, ll⟩ := l
  obtain ⟨rx, rl⟩ := r
  refine row_of Try.func3 rfl rfl (Nat.le_of_ble_eq_true rfl) ?_
  repeat' (first | refine aw_seq ?_ | refine aw_skip ?_ | refine aw_block ?_ | refine aw_exit ?_ | refine aw_cond rfl (fun _ => ?_) (fun hb => absurd hb (by decide)) | refine aw_cond rfl (fun hb => absurd hb (by decide)) (fun _ => ?_) | (refine aw_reg (fun K hK => ?_); simp -implicitDefEqProofs [hn, hn', h1]) | (refine aw_drw mixd (fun K hK => ?_); simp -implicitDefEqProofs [hn, hn', h1]) | refine hK _ ?_ | refine hK _ _ (by rfl) ?_ | (refine ar_call (cp hL ?_); simp -implicitDefEqProofs [hn, hn', h1]) | (refine ard_call (dp hL ?_); simp -implicitDefEqProofs [hn, hn', h1]) | (refine ar_call (cp hR ?_); simp -implicitDefEqProofs [hn, hn', h1]) | (refine ard_call (dp hR ?_); simp -implicitDefEqProofs [hn, hn', h1]) | (refine ar_call (cp hp ?_); simp -implicitDefEqProofs [hn, hn', h1]) | (refine ard_call (dp hp ?_); simp -implicitDefEqProofs [hn, hn', h1]) | (refine ar_call (cp hq ?_); simp -implicitDefEqProofs [hn, hn', h1]) | (refine ard_call (dp hq ?_); simp -implicitDefEqProofs [hn, hn', h1]) | (refine ar_call (cp hs1 ?_); simp -implicitDefEqProofs [hn, hn', h1]) | (refine ard_call (dp hs1 ?_); simp -implicitDefEqProofs [hn, hn', h1]) | (refine ar_call (cp hh ?_); simp -implicitDefEqProofs [hn, hn', h1]) | (refine ard_call (dp hh ?_); simp -implicitDefEqProofs [hn, hn', h1]) | (refine ar_call (cp hk ?_); simp -implicitDefEqProofs [hn, hn', h1]) | (refine ard_call (dp hk ?_); simp -implicitDefEqProofs [hn, hn', h1]) | (refine ar_call (cp hd ?_); simp -implicitDefEqProofs [hn, hn', h1]) | (refine ard_call (dp hd ?_); simp -implicitDefEqProofs [hn, hn', h1]) | (refine ar_call (cp he ?_); simp -implicitDefEqProofs [hn, hn', h1]) | (refine ard_call (dp he ?_); simp -implicitDefEqProofs [hn, hn', h1]) | (refine ar_call (cp hs2 ?_); simp -implicitDefEqProofs [hn, hn', h1]) | (refine ard_call (dp hs2 ?_); simp -implicitDefEqProofs [hn, hn', h1]) | (refine ar_call (cp haw ?_); simp -implicitDefEqProofs [hn, hn', h1]) | (refine ard_call (dp haw ?_); simp -implicitDefEqProofs [hn, hn', h1]) | fail)
  refine aw_ret (fin_ret ?_); simp -implicitDefEqProofs [FinP, resV, resT] <;> try rfl
end Go.Proofs.Ytjnlfppeodoliaa.am
