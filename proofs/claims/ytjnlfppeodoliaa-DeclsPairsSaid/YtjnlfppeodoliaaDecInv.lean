/-
  Layer 32: the inverse of an order: the program's.
-/
import Derived.Test.YtjnlfppeodoliaaDecWalk
namespace Go.Proofs.Ytjnlfppeodoliaa.am
open Go.ChangeShapes Go.WideShapes Go.ChangeAt Go.RowKit
open vt
set_option linter.unusedVariables false
set_option linter.unusedSimpArgs false
noncomputable def invP (nums : List Int) : PV := if isOrd nums = true then Is (invN nums nums.length) else .nilS
abbrev ic (l : List Int) : List (List PV) := l.map fun z => [I z]
set_option maxRecDepth 100000 in
set_option maxHeartbeats 4000000 in
theorem inv_row (nums : List Int) (hl : nums.length ≤ 1000000) (hr : Row Try.prog 89 [vIs [-1], vI (nums.length : Nat)] [] (.v (.c (.arr 0 1 nums.length))) [some (.arr 3 1 (List.replicate nums.length [I (-1)]))]) : Row Try.prog 51 [vIs nums] [] (.tup [.c (.pv (invP nums)), .c (.pv (Bo (isOrd nums)))]) [] := by
  have h0 : ic (invN [] nums.length) = List.replicate nums.length [I (-1)] := by rw [invN_nil]; unfold ic; simp
  rw [← h0] at hr
  have hbad : isOrd nums = false → invP nums = .nilS := fun h => by unfold invP; rw [h]; simp
  have hgood : isOrd nums = true → invP nums = Is (invN nums nums.length) := fun h => by unfold invP; rw [if_pos h]
  refine row_of Try.func51 rfl rfl (Nat.le_of_ble_eq_true rfl) ?_
  repeat' (first | refine aw_seq ?_ | refine aw_skip ?_ | refine aw_block ?_ | refine aw_exit ?_ | refine aw_cond rfl (fun _ => ?_) (fun hb => absurd hb (by decide)) | refine aw_cond rfl (fun hb => absurd hb (by decide)) (fun _ => ?_) | (refine aw_reg (fun K hK => ?_); simp -implicitDefEqProofs) | (refine aw_drw mixd (fun K hK => ?_); simp -implicitDefEqProofs) | refine hK _ ?_ | refine hK _ _ (by rfl) ?_ | (refine ar_call (cg hr [] ?_); simp -implicitDefEqProofs) | (refine ard_call (dg hr [] ?_); simp -implicitDefEqProofs) | fail)
  clear hr
  refine aw_lp (ι := Nat) (fun k => mkSt [(4, .v (.c (.arr 0 1 nums.length))), (0, vIs nums), (11, vIs nums), (12, vI (nums.length : Nat)), (13, vI (k : Nat))] [some (.arr 3 1 (ic (invN (nums.take k) nums.length)))]) (fun k => k ≤ nums.length ∧ (∀ z ∈ nums.take k, 0 ≤ z ∧ z < nums.length) ∧ (nums.take k).Nodup) (fun k => nums.length - k) 0 ⟨Nat.zero_le _, fun z h => by simp at h, by simp⟩ (cov_intro [5] (by simp -implicitDefEqProofs) (by simp -implicitDefEqProofs) (by decide) rfl (by simp)) (fun Z hI k hk => ?_)
  obtain ⟨hk, hin, hnd⟩ := hk
  by_cases hkl : k < nums.length; rotate_left
  · have : k = nums.length := by omega
    subst this
    rw [List.take_length] at hin hnd ⊢
    have ho : isOrd nums = true := (isOrd_iff nums).2 ⟨hin, hnd⟩
    rw [hgood ho, ho]
    repeat (first | refine aw_seq ?_ | refine aw_skip ?_ | refine aw_block ?_ | refine aw_exit ?_ | refine aw_cond rfl (fun _ => ?_) (fun hb => absurd hb (by decide)) | refine aw_cond rfl (fun hb => absurd hb (by decide)) (fun _ => ?_) | (refine aw_reg (fun K hK => ?_); simp -implicitDefEqProofs; refine hK _ ?_) | (refine aw_drw mixd (fun K hK => ?_); simp -implicitDefEqProofs; refine hK _ _ (by rfl) ?_) | fail)
    refine aw_frz 0 3 1 (ic (invN nums nums.length)) (by simp) ?_
    simp [St.frz, AV.frz, AT.frz, AC.frz, AO.frz]
    refine aw_ret (fin_ret ?_); simp -implicitDefEqProofs [FinP, resV, resT] <;> try rfl
  obtain ⟨a, ha⟩ : ∃ a, nums[k]? = some a := ⟨_, List.getElem?_eq_getElem hkl⟩
  have ha' := (List.getElem?_eq_some_iff.1 ha).2
  have hmem := List.mem_of_getElem? ha
  have w2 : IntKind.i64.wrap ((k : Nat) + 1 : Int) = (k : Nat) + 1 := i64i _ (by omega) (by omega)
  have ht : nums.take (k + 1) = nums.take k ++ [a] := by rw [List.take_add_one, ha]; rfl
  obtain ⟨L, hL⟩ : ∃ L, invN (nums.take k) nums.length = L := ⟨_, rfl⟩
  have hLl : L.length = nums.length := by rw [← hL]; exact invN_len _ _
  by_cases a0 : a < 0
  · have ho : isOrd nums = false := by
      rw [← Bool.not_eq_true, isOrd_iff]; intro h; have := h.1 a hmem; omega
    rw [hbad ho, ho, hL]
    repeat (first | refine aw_seq ?_ | refine aw_skip ?_ | refine aw_block ?_ | refine aw_exit ?_ | refine aw_cond rfl (fun _ => ?_) (fun hb => absurd hb (by decide)) | refine aw_cond rfl (fun hb => absurd hb (by decide)) (fun _ => ?_) | (refine aw_reg (fun K hK => ?_); simp -implicitDefEqProofs [hkl, ha, ha', a0]; refine hK _ ?_) | (refine aw_drw mixd (fun K hK => ?_); simp -implicitDefEqProofs [hkl, ha, ha', a0]; refine hK _ _ (by rfl) ?_) | fail)
    refine aw_ret (fin_ret ?_); simp -implicitDefEqProofs [FinP, resV, resT] <;> try rfl
  by_cases a1 : (nums.length : Int) ≤ a
  · have ho : isOrd nums = false := by
      rw [← Bool.not_eq_true, isOrd_iff]; intro h; have := h.1 a hmem; omega
    rw [hbad ho, ho, hL]
    repeat (first | refine aw_seq ?_ | refine aw_skip ?_ | refine aw_block ?_ | refine aw_exit ?_ | refine aw_cond rfl (fun _ => ?_) (fun hb => absurd hb (by decide)) | refine aw_cond rfl (fun hb => absurd hb (by decide)) (fun _ => ?_) | (refine aw_reg (fun K hK => ?_); simp -implicitDefEqProofs [hkl, ha, ha', a0, a1]; refine hK _ ?_) | (refine aw_drw mixd (fun K hK => ?_); simp -implicitDefEqProofs [hkl, ha, ha', a0, a1]; refine hK _ _ (by rfl) ?_) | fail)
    refine aw_ret (fin_ret ?_); simp -implicitDefEqProofs [FinP, resV, resT] <;> try rfl
  obtain ⟨j, rfl⟩ : ∃ j : Nat, a = j := ⟨a.toNat, by omega⟩
  have hjl : j < nums.length := by omega
  obtain ⟨q, hq⟩ : ∃ q, atI (j : Int) (nums.take k) = q := ⟨_, rfl⟩
  have hLj : L[j]? = some q := by rw [← hL, ← hq]; exact invN_at _ hjl
  have hLj' := (List.getElem?_eq_some_iff.1 hLj).2
  have hjL : j < L.length := by omega
  by_cases a2 : 0 ≤ q
  · have ho : isOrd nums = false := by
      rw [← Bool.not_eq_true, isOrd_iff]; intro h
      have hm : (j : Int) ∈ nums.take k := Classical.byContradiction fun hno => by
        have := (atI_neg (j : Int) (nums.take k)).2 hno
        omega
      have h2 : (nums.take k ++ nums.drop k).Nodup := by rw [List.take_append_drop]; exact h.2
      have h3 : (j : Int) ∈ nums.drop k := by rw [List.drop_eq_getElem_cons hkl, ha']; simp
      exact (List.nodup_append.1 h2).2.2 _ hm _ h3 rfl
    rw [hbad ho, ho, hL]
    repeat (first | refine aw_seq ?_ | refine aw_skip ?_ | refine aw_block ?_ | refine aw_exit ?_ | refine aw_cond rfl (fun _ => ?_) (fun hb => absurd hb (by decide)) | refine aw_cond rfl (fun hb => absurd hb (by decide)) (fun _ => ?_) | (refine aw_reg (fun K hK => ?_); simp -implicitDefEqProofs [hkl, ha, ha', a0, a1, hjl, hLj, hLj', hjL, hLl, a2]; refine hK _ ?_) | (refine aw_drw mixd (fun K hK => ?_); simp -implicitDefEqProofs [hkl, ha, ha', a0, a1, hjl, hLj, hLj', hjL, hLl, a2]; refine hK _ _ (by rfl) ?_) | fail)
    refine aw_ret (fin_ret ?_); simp -implicitDefEqProofs [FinP, resV, resT] <;> try rfl
  · rw [hL]
    have hno : (j : Int) ∉ nums.take k := (atI_neg _ _).1 (by omega)
    have hs : ic (invN (nums.take (k + 1)) nums.length) = (ic L).set j [I (k : Nat)] := by
      rw [ht, invN_snoc _ _ _ hjl (by omega), hL]
      unfold ic
      rw [List.map_set, List.length_take, Nat.min_eq_left hk]
    repeat (first | refine aw_seq ?_ | refine aw_skip ?_ | refine aw_block ?_ | refine aw_exit ?_ | refine aw_cond rfl (fun _ => ?_) (fun hb => absurd hb (by decide)) | refine aw_cond rfl (fun hb => absurd hb (by decide)) (fun _ => ?_) | (refine aw_reg (fun K hK => ?_); simp -implicitDefEqProofs [hkl, ha, ha', a0, a1, hjl, hLj, hLj', hjL, hLl, a2, w2]; refine hK _ ?_) | (refine aw_drw mixd (fun K hK => ?_); simp -implicitDefEqProofs [hkl, ha, ha', a0, a1, hjl, hLj, hLj', hjL, hLl, a2, w2]; refine hK _ _ (by rfl) ?_) | fail)
    refine ⟨k + 1, ⟨by omega, fun z hz => ?_, ?_⟩, (by dsimp only; omega), ?_⟩
    · rw [ht] at hz
      rcases List.mem_append.1 hz with hz | hz
      · exact hin z hz
      · have : z = (j : Int) := by simpa using hz
        omega
    · rw [ht]
      refine List.nodup_append.2 ⟨hnd, by simp, fun x hx y hy e => ?_⟩
      have h9 : y = (j : Int) := by simpa using hy
      exact hno (by rw [← h9, ← e]; exact hx)
    · rw [hI, hs]; exact cov_intro [0] (by simp -implicitDefEqProofs) (by simp -implicitDefEqProofs) (by decide) rfl (by simp)
/-! The orders' rule -/
noncomputable abbrev vTB (t : VT) (b : Bool) : AV := .tup [.agg (ta t), .c (.pv (Bo b))]
/-- A module in another order. -/
noncomputable def permT (m : VT) (nums : List Int) : VT := match m with | .mk x l => .mk x (nums.map fun i => renum (invN nums nums.length) (l.getD i.toNat (.mk ⟨0, 0, ⟨#[]⟩, 0, 0⟩ [])))
def permB (m : VT) (nums : List Int) : Bool := match m with | .mk x l => decide (x.k = 36) && decide (nums.length = l.length) && isOrd nums
theorem okTo_inv (nums : List Int) (h : nums.length ≤ 1000000) : okTo (invN nums nums.length) := by
  refine ⟨by rw [invN_len]; exact h, fun z hz => ?_⟩
  unfold invN at hz
  obtain ⟨k, _, rfl⟩ := List.mem_map.1 hz
  have := atI_lt (k : Int) nums
  omega
set_option maxRecDepth 100000 in
set_option maxHeartbeats 4000000 in
theorem perm_row (m : VT) (hm : in64 m) (hsz : m.size ≤ 1000000) (nums : List Int) (hl : nums.length ≤ 1000000) (hi : Row Try.prog 51 [vIs nums] [] (.tup [.c (.pv (invP nums)), .c (.pv (Bo (isOrd nums)))]) []) : Row Try.prog 13 [vT m, vIs nums] [] (vTB (if permB m nums = true then permT m nums else .mk ⟨0, 0, ⟨#[]⟩, 0, 0⟩ []) (permB m nums)) [] := by
  obtain ⟨x, l⟩ := m
  have hlen := Tr.len_size (x := x) (l := l)
  by_cases h1 : x.k = 36; rotate_left
  · rw [show permB (.mk x l) nums = false by simp [permB, h1]]
    refine row_of Try.func13 rfl rfl (Nat.le_of_ble_eq_true rfl) ?_
    repeat (first | refine aw_seq ?_ | refine aw_skip ?_ | refine aw_block ?_ | refine aw_exit ?_ | refine aw_cond rfl (fun _ => ?_) (fun hb => absurd hb (by decide)) | refine aw_cond rfl (fun hb => absurd hb (by decide)) (fun _ => ?_) | (refine aw_reg (fun K hK => ?_); simp -implicitDefEqProofs [h1]; refine hK _ ?_) | (refine aw_drw mixd (fun K hK => ?_); simp -implicitDefEqProofs [h1]; refine hK _ _ (by rfl) ?_) | fail)
    refine aw_ret (fin_ret ?_); simp -implicitDefEqProofs [FinP, resV, resT] <;> try rfl
  by_cases h2 : nums.length = l.length; rotate_left
  · have h2' : ¬ (nums.length : Int) = l.length := by omega
    rw [show permB (.mk x l) nums = false by simp [permB, h2]]
    refine row_of Try.func13 rfl rfl (Nat.le_of_ble_eq_true rfl) ?_
    repeat (first | refine aw_seq ?_ | refine aw_skip ?_ | refine aw_block ?_ | refine aw_exit ?_ | refine aw_cond rfl (fun _ => ?_) (fun hb => absurd hb (by decide)) | refine aw_cond rfl (fun hb => absurd hb (by decide)) (fun _ => ?_) | (refine aw_reg (fun K hK => ?_); simp -implicitDefEqProofs [h1, h2, h2']; refine hK _ ?_) | (refine aw_drw mixd (fun K hK => ?_); simp -implicitDefEqProofs [h1, h2, h2']; refine hK _ _ (by rfl) ?_) | fail)
    refine aw_ret (fin_ret ?_); simp -implicitDefEqProofs [FinP, resV, resT] <;> try rfl
  by_cases h3 : isOrd nums = true; rotate_left
  · have h3 : isOrd nums = false := by simpa using h3
    rw [show permB (.mk x l) nums = false by simp [permB, h3]]
    rw [h3] at hi
    refine row_of Try.func13 rfl rfl (Nat.le_of_ble_eq_true rfl) ?_
    repeat' (first | refine aw_seq ?_ | refine aw_skip ?_ | refine aw_block ?_ | refine aw_exit ?_ | refine aw_cond rfl (fun _ => ?_) (fun hb => absurd hb (by decide)) | refine aw_cond rfl (fun hb => absurd hb (by decide)) (fun _ => ?_) | (refine aw_reg (fun K hK => ?_); simp -implicitDefEqProofs [h1, h2]) | (refine aw_drw mixd (fun K hK => ?_); simp -implicitDefEqProofs [h1, h2]) | refine hK _ ?_ | refine hK _ _ (by rfl) ?_ | (refine ar_call (cp hi ?_); simp -implicitDefEqProofs [h1, h2]) | (refine ard_call (dp hi ?_); simp -implicitDefEqProofs [h1, h2]) | fail)
    refine aw_ret (fin_ret ?_); simp -implicitDefEqProofs [FinP, resV, resT] <;> try rfl
  rw [show permB (.mk x l) nums = true by simp [permB, h1, h2, h3]]
  rw [h3, show invP nums = Is (invN nums nums.length) by unfold invP; rw [if_pos h3]] at hi
  have hto := okTo_inv nums hl
  obtain ⟨to, hT⟩ : ∃ to, invN nums nums.length = to := ⟨_, rfl⟩
  rw [hT] at hi hto
  have hin := ((isOrd_iff nums).1 h3).1
  simp only [permT, hT, if_true]
  refine row_of Try.func13 rfl rfl (Nat.le_of_ble_eq_true rfl) ?_
  repeat' (first | refine aw_seq ?_ | refine aw_skip ?_ | refine aw_block ?_ | refine aw_exit ?_ | refine aw_cond rfl (fun _ => ?_) (fun hb => absurd hb (by decide)) | refine aw_cond rfl (fun hb => absurd hb (by decide)) (fun _ => ?_) | (refine aw_reg (fun K hK => ?_); simp -implicitDefEqProofs [h1, h2]) | (refine aw_drw mixd (fun K hK => ?_); simp -implicitDefEqProofs [h1, h2]) | refine hK _ ?_ | refine hK _ _ (by rfl) ?_ | (refine ar_call (cp hi ?_); simp -implicitDefEqProofs [h1, h2]) | (refine ard_call (dp hi ?_); simp -implicitDefEqProofs [h1, h2]) | fail)
  have hll : l.length ≤ 1000000 := by omega
  refine aw_nil 9 25 6 (by simp) ?_
  refine aw_lp (ι := Nat) (fun k => mkSt [(2, .v (.c (.ptr 0 0))), (4, .v (.c (.ptr 1 0))), (8, .v (.c (.ptr 2 0))), (9, .v (.c (.row 3 6 (((nums.take k).map (fun i => renum to (l.getD i.toNat (.mk ⟨0, 0, ⟨#[]⟩, 0, 0⟩ [])))).map tc)))), (35, vIs nums), (36, vI (l.length : Nat)), (37, vI (k : Nat))] [some (.box (ta (.mk x l))), some (.box (ta (.mk ⟨0, 0, ⟨#[]⟩, 0, 0⟩ []))), some (bxO to), some (.row 25 6)]) (fun k => k ≤ nums.length) (fun k => nums.length - k) 0 (Nat.zero_le _) (by unfold St.nil; exact cov_intro [0, 1, 32, 38] (by simp -implicitDefEqProofs [h1]) (by simp -implicitDefEqProofs [h1]) (by decide) rfl (by simp)) (fun Z hI k hk => ?_)
  by_cases hkl : k < nums.length; rotate_left
  · have : k = nums.length := by omega
    subst this
    rw [List.take_length]
    repeat (first | refine aw_seq ?_ | refine aw_skip ?_ | refine aw_block ?_ | refine aw_exit ?_ | refine aw_cond rfl (fun _ => ?_) (fun hb => absurd hb (by decide)) | refine aw_cond rfl (fun hb => absurd hb (by decide)) (fun _ => ?_) | (refine aw_reg (fun K hK => ?_); simp -implicitDefEqProofs [h2]; refine hK _ ?_) | (refine aw_drw mixd (fun K hK => ?_); simp -implicitDefEqProofs [h2]; refine hK _ _ (by rfl) ?_) | fail)
    refine aw_ret (fin_ret ?_); simp -implicitDefEqProofs [FinP, resV, resT, h1] <;> try rfl
  have hkl2 : k < l.length := by omega
  obtain ⟨a, ha⟩ : ∃ a, nums[k]? = some a := ⟨_, List.getElem?_eq_getElem hkl⟩
  have ha' := (List.getElem?_eq_some_iff.1 ha).2
  have hab := hin a (List.mem_of_getElem? ha)
  obtain ⟨j, rfl⟩ : ∃ j : Nat, a = j := ⟨a.toNat, by omega⟩
  have hjl : j < l.length := by omega
  obtain ⟨⟨ax, al⟩, hb⟩ : ∃ a, l[j]? = some a := ⟨_, List.getElem?_eq_getElem hjl⟩
  have hb' := (List.getElem?_eq_some_iff.1 hb).2
  have hsz1 := Tr.size_at (x := x) hb
  have hc := walk_row to hto _ (kid_ok hm (List.mem_of_getElem? hb)) (by omega)
  have w2 : IntKind.i64.wrap ((k : Nat) + 1 : Int) = (k : Nat) + 1 := i64i _ (by omega) (by omega)
  have hs : (nums.take (k + 1)).map (fun i => renum to (l.getD i.toNat (.mk ⟨0, 0, ⟨#[]⟩, 0, 0⟩ []))) = (nums.take k).map (fun i => renum to (l.getD i.toNat (.mk ⟨0, 0, ⟨#[]⟩, 0, 0⟩ []))) ++ [renum to (.mk ax al)] := by
    rw [List.take_add_one, ha]; simp [List.getD, hb]
  obtain ⟨L, hL⟩ : ∃ L, (nums.take k).map (fun i => renum to (l.getD i.toNat (.mk ⟨0, 0, ⟨#[]⟩, 0, 0⟩ []))) = L := ⟨_, rfl⟩
  have hLl : L.length = k := by rw [← hL, List.length_map, List.length_take]; omega
  rw [hL] at hs ⊢
  obtain ⟨⟨bx, bl⟩, hbb⟩ : ∃ b, renum to (.mk ax al) = b := ⟨_, rfl⟩
  rw [hbb] at hc hs
  have b1 : (k + 1) * 72 ≤ 140737488355328 := by omega
  have b2 : k + 1 ≤ 140737488355328 := by omega
  clear hi
  repeat' (first | refine aw_seq ?_ | refine aw_skip ?_ | refine aw_block ?_ | refine aw_exit ?_ | refine aw_cond rfl (fun _ => ?_) (fun hb => absurd hb (by decide)) | refine aw_cond rfl (fun hb => absurd hb (by decide)) (fun _ => ?_) | (refine aw_reg (fun K hK => ?_); simp -implicitDefEqProofs [hkl, hkl2, ha, ha', hb, hb', hjl, hLl, b1, b2, w2]) | (refine aw_drw mixd (fun K hK => ?_); simp -implicitDefEqProofs [hkl, hkl2, ha, ha', hb, hb', hjl, hLl, b1, b2, w2]) | refine hK _ ?_ | refine hK _ _ (by rfl) ?_ | (refine ar_call (cb hc 2 ?_); simp -implicitDefEqProofs [hkl, hkl2, ha, ha', hb, hb', hjl, hLl, b1, b2, w2]) | (refine ard_call (db hc 2 ?_); simp -implicitDefEqProofs [hkl, hkl2, ha, ha', hb, hb', hjl, hLl, b1, b2, w2]) | fail)
  refine ⟨k + 1, by omega, (by dsimp only; omega), ?_⟩
  rw [hI, hs]; exact cov_intro [0, 1, 2, 26] (by simp -implicitDefEqProofs) (by simp -implicitDefEqProofs) (by decide) rfl (by simp)
end Go.Proofs.Ytjnlfppeodoliaa.am
