/-
  Layer 32: the rules: the document's.
-/
import Derived.Test.YtjnlfppeodoliaaDecRef
namespace Go.Proofs.Ytjnlfppeodoliaa.am
open Go.ChangeShapes Go.WideShapes Go.ChangeAt Go.RowKit
open vt
set_option linter.unusedVariables false
set_option linter.unusedSimpArgs false
abbrev vIB2 (l : List Int) (b : Bool) : AV := .tup [.c (.pv (Is l)), .c (.pv (Bo b))]
set_option maxRecDepth 100000 in
set_option maxHeartbeats 4000000 in
theorem to_no (nums : List Int) (n : Nat) (hl : nums.length ≤ 1000000) (h : nums.length ≠ n) : Row Try.prog 54 [vIs nums, vI (n : Nat)] [] (vIB2 [] false) [] := by
  have h' : ¬ (nums.length : Int) = (n : Int) := by omega
  refine row_of Try.func54 rfl rfl (Nat.le_of_ble_eq_true rfl) ?_
  repeat (first | refine aw_seq ?_ | refine aw_skip ?_ | refine aw_block ?_ | refine aw_exit ?_ | refine aw_cond rfl (fun _ => ?_) (fun hb => absurd hb (by decide)) | refine aw_cond rfl (fun hb => absurd hb (by decide)) (fun _ => ?_) | (refine aw_reg (fun K hK => ?_); simp -implicitDefEqProofs [h, h']; refine hK _ ?_) | (refine aw_drw mixd (fun K hK => ?_); simp -implicitDefEqProofs [h, h']; refine hK _ _ (by rfl) ?_) | fail)
  refine aw_ret (fin_ret ?_); simp -implicitDefEqProofs [FinP, resV, resT] <;> try rfl
set_option maxRecDepth 100000 in
set_option maxHeartbeats 4000000 in
theorem to_row (nums : List Int) (hl : nums.length ≤ 1000000) : Row Try.prog 54 [vIs nums, vI (nums.length : Nat)] [] (vIB2 (if isOrd nums = true then invN nums nums.length else []) (isOrd nums)) [] := by
  have hall := isOrd_all nums
  obtain ⟨o, ho⟩ : ∃ o, isOrd nums = o := ⟨_, rfl⟩
  rw [ho] at hall ⊢
  obtain ⟨n, hn⟩ : ∃ n, nums.length = n := ⟨_, rfl⟩
  rw [hn] at hall hl ⊢
  refine row_of Try.func54 rfl rfl (Nat.le_of_ble_eq_true rfl) ?_
  repeat (first | refine aw_seq ?_ | refine aw_skip ?_ | refine aw_block ?_ | refine aw_exit ?_ | refine aw_cond rfl (fun _ => ?_) (fun hb => absurd hb (by decide)) | refine aw_cond rfl (fun hb => absurd hb (by decide)) (fun _ => ?_) | (refine aw_reg (fun K hK => ?_); simp -implicitDefEqProofs [hn]; refine hK _ ?_) | (refine aw_drw mixd (fun K hK => ?_); simp -implicitDefEqProofs [hn]; refine hK _ _ (by rfl) ?_) | fail)
  refine aw_lp (ι := Nat) (fun k => mkSt [(0, vIs nums), (1, vI (n : Nat)), (6, .v (.c (.row 0 1 (ic (lstN nums k))))), (7, vI (k : Nat))] [some (.row 3 1)]) (fun k => k ≤ n ∧ ∀ q : Nat, q < k → (q : Int) ∈ nums) (fun k => n - k) 0 ⟨Nat.zero_le _, fun q h => by omega⟩ (cov_intro [6] (by simp -implicitDefEqProofs [lstN]) (by simp -implicitDefEqProofs [lstN]) (by decide) rfl (by simp)) (fun Z hI k hk => ?_)
  obtain ⟨hk, hz⟩ := hk
  by_cases hkl : k < n; rotate_left
  · have : k = n := by omega
    subst this
    have ht : o = true := hall.2 hz
    subst ht
    rw [if_pos rfl, ← lstN_inv ((isOrd_iff nums).1 ho).2 k]
    repeat (first | refine aw_seq ?_ | refine aw_skip ?_ | refine aw_block ?_ | refine aw_exit ?_ | refine aw_cond rfl (fun _ => ?_) (fun hb => absurd hb (by decide)) | refine aw_cond rfl (fun hb => absurd hb (by decide)) (fun _ => ?_) | (refine aw_reg (fun K hK => ?_); simp -implicitDefEqProofs; refine hK _ ?_) | (refine aw_drw mixd (fun K hK => ?_); simp -implicitDefEqProofs; refine hK _ _ (by rfl) ?_) | fail)
    refine aw_ret (fin_ret ?_); simp -implicitDefEqProofs [FinP, resV, resT] <;> try rfl
  have w2 : IntKind.i64.wrap ((k : Nat) + 1 : Int) = (k : Nat) + 1 := i64i _ (by omega) (by omega)
  have hs := lstN_succ nums k
  rw [hn] at hs
  obtain ⟨L, hL⟩ : ∃ L, lstN nums k = L := ⟨_, rfl⟩
  have hLl : L.length = k := by rw [← hL, lstN_len]
  rw [hL] at hs ⊢
  have b1 : (k + 1) * 8 ≤ 140737488355328 := by omega
  have b2 : k + 1 ≤ 140737488355328 := by omega
  repeat (first | refine aw_seq ?_ | refine aw_skip ?_ | refine aw_block ?_ | refine aw_exit ?_ | refine aw_cond rfl (fun _ => ?_) (fun hb => absurd hb (by decide)) | refine aw_cond rfl (fun hb => absurd hb (by decide)) (fun _ => ?_) | (refine aw_reg (fun K hK => ?_); simp -implicitDefEqProofs [hkl]; refine hK _ ?_) | (refine aw_drw mixd (fun K hK => ?_); simp -implicitDefEqProofs [hkl]; refine hK _ _ (by rfl) ?_) | fail)
  refine aw_lp (ι := Nat) (fun i => mkSt [(0, vIs nums), (1, vI (n : Nat)), (6, .v (.c (.row 0 1 (ic L)))), (7, vI (k : Nat)), (8, vI (lstI (k : Nat) nums i)), (9, vI (i : Nat))] [some (.row 3 1)]) (fun i => i ≤ n) (fun i => n - i) 0 (Nat.zero_le _) (cov_intro [0] (by simp -implicitDefEqProofs [lstI]) (by simp -implicitDefEqProofs [lstI]) (by decide) rfl (by simp)) (fun Z3 hI3 i hi => ?_)
  by_cases hil : i < n; rotate_left
  · have : i = n := by omega
    subst this
    have hneg := lstI_neg (k : Int) nums nums.length (Nat.le_refl _)
    rw [List.take_length, hn] at hneg
    obtain ⟨q, hq⟩ : ∃ q, lstI (k : Int) nums i = q := ⟨_, rfl⟩
    rw [hq] at hs hneg ⊢
    by_cases h0 : q < 0
    · have hf : o = false := by
        cases o with
        | false => rfl
        | true => exact absurd (hall.1 rfl k hkl) (hneg.1 h0)
      subst hf
      repeat (first | refine aw_seq ?_ | refine aw_skip ?_ | refine aw_block ?_ | refine aw_exit ?_ | refine aw_cond rfl (fun _ => ?_) (fun hb => absurd hb (by decide)) | refine aw_cond rfl (fun hb => absurd hb (by decide)) (fun _ => ?_) | (refine aw_reg (fun K hK => ?_); simp -implicitDefEqProofs [h0]; refine hK _ ?_) | (refine aw_drw mixd (fun K hK => ?_); simp -implicitDefEqProofs [h0]; refine hK _ _ (by rfl) ?_) | fail)
      refine aw_ret (fin_ret ?_); simp -implicitDefEqProofs [FinP, resV, resT] <;> try rfl
    · repeat (first | refine aw_seq ?_ | refine aw_skip ?_ | refine aw_block ?_ | refine aw_exit ?_ | refine aw_cond rfl (fun _ => ?_) (fun hb => absurd hb (by decide)) | refine aw_cond rfl (fun hb => absurd hb (by decide)) (fun _ => ?_) | (refine aw_reg (fun K hK => ?_); simp -implicitDefEqProofs [h0, b1, b2, hLl, w2]; refine hK _ ?_) | (refine aw_drw mixd (fun K hK => ?_); simp -implicitDefEqProofs [h0, b1, b2, hLl, w2]; refine hK _ _ (by rfl) ?_) | fail)
      refine ⟨k + 1, ⟨by omega, fun j hj => ?_⟩, (by dsimp only; omega), ?_⟩
      · by_cases hjk : j = k
        · subst hjk; exact Classical.byContradiction fun hno => h0 (hneg.2 hno)
        · exact hz j (by omega)
      · rw [hI, hs]; exact cov_intro [9] (by simp -implicitDefEqProofs) (by simp -implicitDefEqProofs) (by decide) rfl (by simp)
  have hil2 : i < nums.length := by omega
  obtain ⟨z, hz1⟩ : ∃ z, nums[i]? = some z := ⟨_, List.getElem?_eq_getElem hil2⟩
  have hz2 := (List.getElem?_eq_some_iff.1 hz1).2
  have w3 : IntKind.i64.wrap ((i : Nat) + 1 : Int) = (i : Nat) + 1 := i64i _ (by omega) (by omega)
  by_cases hzk : z = (k : Int)
  · have e : lstI (k : Int) nums (i + 1) = (i : Int) := by unfold lstI; rw [hz1, hzk]; simp
    repeat (first | refine aw_seq ?_ | refine aw_skip ?_ | refine aw_block ?_ | refine aw_exit ?_ | refine aw_cond rfl (fun _ => ?_) (fun hb => absurd hb (by decide)) | refine aw_cond rfl (fun hb => absurd hb (by decide)) (fun _ => ?_) | (refine aw_reg (fun K hK => ?_); simp -implicitDefEqProofs [hil, hil2, hz1, hz2, hzk, w3]; refine hK _ ?_) | (refine aw_drw mixd (fun K hK => ?_); simp -implicitDefEqProofs [hil, hil2, hz1, hz2, hzk, w3]; refine hK _ _ (by rfl) ?_) | fail)
    refine ⟨i + 1, by omega, (by dsimp only; omega), ?_⟩
    rw [hI3, e]; exact cov_intro [0] (by simp -implicitDefEqProofs) (by simp -implicitDefEqProofs) (by decide) rfl (by simp)
  · have e : lstI (k : Int) nums (i + 1) = lstI (k : Int) nums i := by
      conv => lhs; unfold lstI
      rw [hz1, if_neg (by simpa using hzk)]
    repeat (first | refine aw_seq ?_ | refine aw_skip ?_ | refine aw_block ?_ | refine aw_exit ?_ | refine aw_cond rfl (fun _ => ?_) (fun hb => absurd hb (by decide)) | refine aw_cond rfl (fun hb => absurd hb (by decide)) (fun _ => ?_) | (refine aw_reg (fun K hK => ?_); simp -implicitDefEqProofs [hil, hil2, hz1, hz2, hzk, w3]; refine hK _ ?_) | (refine aw_drw mixd (fun K hK => ?_); simp -implicitDefEqProofs [hil, hil2, hz1, hz2, hzk, w3]; refine hK _ _ (by rfl) ?_) | fail)
    refine ⟨i + 1, by omega, (by dsimp only; omega), ?_⟩
    rw [hI3, e]; exact cov_intro [0] (by simp -implicitDefEqProofs) (by simp -implicitDefEqProofs) (by decide) rfl (by simp)
set_option maxRecDepth 100000 in
set_option maxHeartbeats 4000000 in
theorem rperm_row (m : VT) (hm : in64 m) (hsz : m.size ≤ 1000000) (nums : List Int) (hl : nums.length ≤ 1000000) : Row Try.prog 14 [vT m, vIs nums] [] (vTB (if permB m nums = true then permT m nums else zT) (permB m nums)) [] := by
  obtain ⟨x, l⟩ := m
  have hlen := Tr.len_size (x := x) (l := l)
  by_cases h2 : nums.length = l.length; rotate_left
  · have ht := to_no nums l.length hl h2
    rw [show permB (.mk x l) nums = false by simp [permB, h2]]
    by_cases h1 : x.k = 36
    · refine row_of Try.func14 rfl rfl (Nat.le_of_ble_eq_true rfl) ?_
      repeat' (first | refine aw_seq ?_ | refine aw_skip ?_ | refine aw_block ?_ | refine aw_exit ?_ | refine aw_cond rfl (fun _ => ?_) (fun hb => absurd hb (by decide)) | refine aw_cond rfl (fun hb => absurd hb (by decide)) (fun _ => ?_) | (refine aw_reg (fun K hK => ?_); simp -implicitDefEqProofs [h1]) | (refine aw_drw mixd (fun K hK => ?_); simp -implicitDefEqProofs [h1]) | refine hK _ ?_ | refine hK _ _ (by rfl) ?_ | (refine ar_call (cp ht ?_); simp -implicitDefEqProofs [h1]) | (refine ard_call (dp ht ?_); simp -implicitDefEqProofs [h1]) | fail)
      refine aw_ret (fin_ret ?_); simp -implicitDefEqProofs [FinP, resV, resT] <;> try rfl
    · refine row_of Try.func14 rfl rfl (Nat.le_of_ble_eq_true rfl) ?_
      repeat' (first | refine aw_seq ?_ | refine aw_skip ?_ | refine aw_block ?_ | refine aw_exit ?_ | refine aw_cond rfl (fun _ => ?_) (fun hb => absurd hb (by decide)) | refine aw_cond rfl (fun hb => absurd hb (by decide)) (fun _ => ?_) | (refine aw_reg (fun K hK => ?_); simp -implicitDefEqProofs [h1]) | (refine aw_drw mixd (fun K hK => ?_); simp -implicitDefEqProofs [h1]) | refine hK _ ?_ | refine hK _ _ (by rfl) ?_ | (refine ar_call (cp ht ?_); simp -implicitDefEqProofs [h1]) | (refine ard_call (dp ht ?_); simp -implicitDefEqProofs [h1]) | fail)
      refine aw_ret (fin_ret ?_); simp -implicitDefEqProofs [FinP, resV, resT] <;> try rfl
  have ht := to_row nums hl
  rw [h2] at ht
  by_cases h1 : x.k = 36; rotate_left
  · rw [show permB (.mk x l) nums = false by simp [permB, h1]]
    refine row_of Try.func14 rfl rfl (Nat.le_of_ble_eq_true rfl) ?_
    repeat' (first | refine aw_seq ?_ | refine aw_skip ?_ | refine aw_block ?_ | refine aw_exit ?_ | refine aw_cond rfl (fun _ => ?_) (fun hb => absurd hb (by decide)) | refine aw_cond rfl (fun hb => absurd hb (by decide)) (fun _ => ?_) | (refine aw_reg (fun K hK => ?_); simp -implicitDefEqProofs [h1]) | (refine aw_drw mixd (fun K hK => ?_); simp -implicitDefEqProofs [h1]) | refine hK _ ?_ | refine hK _ _ (by rfl) ?_ | (refine ar_call (cp ht ?_); simp -implicitDefEqProofs [h1]) | (refine ard_call (dp ht ?_); simp -implicitDefEqProofs [h1]) | fail)
    refine aw_ret (fin_ret ?_); simp -implicitDefEqProofs [FinP, resV, resT] <;> try rfl
  by_cases h3 : isOrd nums = true; rotate_left
  · have h3 : isOrd nums = false := by simpa using h3
    rw [show permB (.mk x l) nums = false by simp [permB, h3]]
    rw [h3] at ht
    refine row_of Try.func14 rfl rfl (Nat.le_of_ble_eq_true rfl) ?_
    repeat' (first | refine aw_seq ?_ | refine aw_skip ?_ | refine aw_block ?_ | refine aw_exit ?_ | refine aw_cond rfl (fun _ => ?_) (fun hb => absurd hb (by decide)) | refine aw_cond rfl (fun hb => absurd hb (by decide)) (fun _ => ?_) | (refine aw_reg (fun K hK => ?_); simp -implicitDefEqProofs [h1]) | (refine aw_drw mixd (fun K hK => ?_); simp -implicitDefEqProofs [h1]) | refine hK _ ?_ | refine hK _ _ (by rfl) ?_ | (refine ar_call (cp ht ?_); simp -implicitDefEqProofs [h1]) | (refine ard_call (dp ht ?_); simp -implicitDefEqProofs [h1]) | fail)
    refine aw_ret (fin_ret ?_); simp -implicitDefEqProofs [FinP, resV, resT] <;> try rfl
  rw [show permB (.mk x l) nums = true by simp [permB, h1, h2, h3]]
  rw [h3, if_pos rfl] at ht
  have hto := okTo_inv nums hl
  rw [h2] at hto
  obtain ⟨to, hT⟩ : ∃ to, invN nums l.length = to := ⟨_, rfl⟩
  rw [hT] at ht hto
  have hin := ((isOrd_iff nums).1 h3).1
  simp only [permT, h2, hT, if_true]
  refine row_of Try.func14 rfl rfl (Nat.le_of_ble_eq_true rfl) ?_
  repeat' (first | refine aw_seq ?_ | refine aw_skip ?_ | refine aw_block ?_ | refine aw_exit ?_ | refine aw_cond rfl (fun _ => ?_) (fun hb => absurd hb (by decide)) | refine aw_cond rfl (fun hb => absurd hb (by decide)) (fun _ => ?_) | (refine aw_reg (fun K hK => ?_); simp -implicitDefEqProofs [h1]) | (refine aw_drw mixd (fun K hK => ?_); simp -implicitDefEqProofs [h1]) | refine hK _ ?_ | refine hK _ _ (by rfl) ?_ | (refine ar_call (cp ht ?_); simp -implicitDefEqProofs [h1]) | (refine ard_call (dp ht ?_); simp -implicitDefEqProofs [h1]) | fail)
  have hll : l.length ≤ 1000000 := by omega
  refine aw_lp (ι := Nat) (fun k => mkSt [(1, vIs nums), (2, .v (.c (.ptr 0 0))), (4, .v (.c (.ptr 1 0))), (6, vIs to), (8, .v (.c (.row 2 6 (((nums.take k).map (fun i => renum to (l.getD i.toNat zT))).map tc)))), (9, vI (k : Nat))] [some (.box (ta (.mk x l))), some (.box (ta zT)), some (.row 25 6)]) (fun k => k ≤ nums.length) (fun k => nums.length - k) 0 (Nat.zero_le _) (cov_intro [0, 1, 27] (by simp -implicitDefEqProofs [h1]) (by simp -implicitDefEqProofs [h1]) (by decide) rfl (by simp)) (fun Z hI k hk => ?_)
  by_cases hkl : k < nums.length; rotate_left
  · have : k = nums.length := by omega
    subst this
    rw [List.take_length]
    repeat (first | refine aw_seq ?_ | refine aw_skip ?_ | refine aw_block ?_ | refine aw_exit ?_ | refine aw_cond rfl (fun _ => ?_) (fun hb => absurd hb (by decide)) | refine aw_cond rfl (fun hb => absurd hb (by decide)) (fun _ => ?_) | (refine aw_reg (fun K hK => ?_); simp -implicitDefEqProofs; refine hK _ ?_) | (refine aw_drw mixd (fun K hK => ?_); simp -implicitDefEqProofs; refine hK _ _ (by rfl) ?_) | fail)
    refine aw_ret (fin_ret ?_); simp -implicitDefEqProofs [FinP, resV, resT, h1] <;> try rfl
  have hkl2 : k < l.length := by omega
  obtain ⟨a, ha⟩ : ∃ a, nums[k]? = some a := ⟨_, List.getElem?_eq_getElem hkl⟩
  have ha' := (List.getElem?_eq_some_iff.1 ha).2
  have hab := hin a (List.mem_of_getElem? ha)
  obtain ⟨j, rfl⟩ : ∃ j : Nat, a = j := ⟨a.toNat, by omega⟩
  have hjl : j < l.length := by omega
  obtain ⟨⟨ax, al⟩, hb⟩ : ∃ a, l[j]? = some a := ⟨_, List.getElem?_eq_getElem hjl⟩
  have hb' := (List.getElem?_eq_some_iff.1 hb).2
  have hsz1 := Tr.size_at (x := x) hb
  have hc := renum_row to hto _ (kid_ok hm (List.mem_of_getElem? hb)) (by omega)
  have w2 : IntKind.i64.wrap ((k : Nat) + 1 : Int) = (k : Nat) + 1 := i64i _ (by omega) (by omega)
  have hs : (nums.take (k + 1)).map (fun i => renum to (l.getD i.toNat zT)) = (nums.take k).map (fun i => renum to (l.getD i.toNat zT)) ++ [renum to (.mk ax al)] := by
    rw [List.take_add_one, ha]; simp [List.getD, hb]
  obtain ⟨L, hL⟩ : ∃ L, (nums.take k).map (fun i => renum to (l.getD i.toNat zT)) = L := ⟨_, rfl⟩
  have hLl : L.length = k := by rw [← hL, List.length_map, List.length_take]; omega
  rw [hL] at hs ⊢
  obtain ⟨⟨bx, bl⟩, hbb⟩ : ∃ b, renum to (.mk ax al) = b := ⟨_, rfl⟩
  rw [hbb] at hc hs
  have b1 : (k + 1) * 72 ≤ 140737488355328 := by omega
  have b2 : k + 1 ≤ 140737488355328 := by omega
  clear ht
  repeat' (first | refine aw_seq ?_ | refine aw_skip ?_ | refine aw_block ?_ | refine aw_exit ?_ | refine aw_cond rfl (fun _ => ?_) (fun hb => absurd hb (by decide)) | refine aw_cond rfl (fun hb => absurd hb (by decide)) (fun _ => ?_) | (refine aw_reg (fun K hK => ?_); simp -implicitDefEqProofs [hkl, hkl2, ha, ha', hb, hb', hjl, hLl, b1, b2, w2]) | (refine aw_drw mixd (fun K hK => ?_); simp -implicitDefEqProofs [hkl, hkl2, ha, ha', hb, hb', hjl, hLl, b1, b2, w2]) | refine hK _ ?_ | refine hK _ _ (by rfl) ?_ | (refine ar_call (cp hc ?_); simp -implicitDefEqProofs [hkl, hkl2, ha, ha', hb, hb', hjl, hLl, b1, b2, w2]) | (refine ard_call (dp hc ?_); simp -implicitDefEqProofs [hkl, hkl2, ha, ha', hb, hb', hjl, hLl, b1, b2, w2]) | fail)
  refine ⟨k + 1, by omega, (by dsimp only; omega), ?_⟩
  rw [hI, hs]; exact cov_intro [0, 1, 103] (by simp -implicitDefEqProofs) (by simp -implicitDefEqProofs) (by decide) rfl (by simp)
end Go.Proofs.Ytjnlfppeodoliaa.am
