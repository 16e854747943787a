/-
  Layer 32: which declaration becomes which: the document's, and what the statement says.
-/
import Derived.Test.YtjnlfppeodoliaaDecPrs
import Derived.Test.YtjnlfppeodoliaaDecLawM
namespace Go.Proofs.Ytjnlfppeodoliaa.am
open Go.ChangeShapes Go.WideShapes Go.ChangeAt Go.RowKit
open vt
set_option linter.unusedVariables false
set_option linter.unusedSimpArgs false
set_option maxRecDepth 100000 in
set_option maxHeartbeats 4000000 in
theorem rprs_row (rule : Int) (nums : List Int) (n : Nat) (hn : n ≤ 1000000) (hl : nums.length ≤ 1000000) (h64 : ok64 nums) (h : okG rule nums n) : Row Try.prog 23 [vI rule, vIs nums, vI (n : Nat)] [] (vP2 (prK (goT rule nums n) n)) [] := by
  have hle := less_row (n : Int) n hn ⟨by omega, by omega⟩
  obtain ⟨A, hA⟩ : ∃ A, lessI (n : Int) n = A := ⟨_, rfl⟩
  have hAl : A.length = n := by rw [← hA, lessI_len]
  rw [hA] at hle
  by_cases h50 : rule = 50
  · obtain ⟨ho, hln⟩ := h.1 h50
    have ht := to_row nums hl
    rw [ho, if_pos rfl, hln] at ht
    have hg : goT rule nums n = invN nums n := by unfold goT; rw [if_pos h50]
    rw [hg]
    have hTl := invN_len nums n
    obtain ⟨T, hT⟩ : ∃ T, invN nums n = T := ⟨_, rfl⟩
    rw [hT] at ht hTl ⊢
    clear ho hA hT hg h
    refine row_of Try.func23 rfl rfl (Nat.le_of_ble_eq_true rfl) ?_
    repeat' (first | refine aw_seq ?_ | refine aw_skip ?_ | refine aw_block ?_ | refine aw_exit ?_ | refine aw_cond rfl (fun _ => ?_) (fun hb => absurd hb (by decide)) | refine aw_cond rfl (fun hb => absurd hb (by decide)) (fun _ => ?_) | (refine aw_reg (fun K hK => ?_); simp -implicitDefEqProofs [h50, hln]) | (refine aw_drw mixd (fun K hK => ?_); simp -implicitDefEqProofs [h50, hln]) | refine hK _ ?_ | refine hK _ _ (by rfl) ?_ | (refine ar_call (cp hle ?_); simp -implicitDefEqProofs [h50, hln]) | (refine ard_call (dp hle ?_); simp -implicitDefEqProofs [h50, hln]) | (refine ar_call (cp ht ?_); simp -implicitDefEqProofs [h50, hln]) | (refine ard_call (dp ht ?_); simp -implicitDefEqProofs [h50, hln]) | fail)
    clear hle ht
    refine aw_lp (ι := Nat) (fun k => mkSt [(7, vIs T), (8, .v (.c (.row 0 2 ((prK T k).map pc2)))), (9, vI (k : Nat))] [some (.row 95 2)]) (fun k => k ≤ n) (fun k => n - k) 0 (Nat.zero_le _) (cov_intro [32] (by simp -implicitDefEqProofs [prK]) (by simp -implicitDefEqProofs [prK]) (by decide) rfl (by simp)) (fun Z hI k hk => ?_)
    by_cases hkl : k < n; rotate_left
    · have : k = n := by omega
      subst this
      repeat (first | refine aw_seq ?_ | refine aw_skip ?_ | refine aw_block ?_ | refine aw_exit ?_ | refine aw_cond rfl (fun _ => ?_) (fun hb => absurd hb (by decide)) | refine aw_cond rfl (fun hb => absurd hb (by decide)) (fun _ => ?_) | (refine aw_reg (fun K hK => ?_); simp -implicitDefEqProofs [hTl]; refine hK _ ?_) | (refine aw_drw mixd (fun K hK => ?_); simp -implicitDefEqProofs [hTl]; refine hK _ _ (by rfl) ?_) | fail)
      refine aw_ret (fin_ret ?_); simp -implicitDefEqProofs [FinP, resV, resT] <;> try rfl
    have hkT : k < T.length := by omega
    obtain ⟨z, hz⟩ : ∃ z, T[k]? = some z := ⟨_, List.getElem?_eq_getElem hkT⟩
    have hz' := (List.getElem?_eq_some_iff.1 hz).2
    have w2 : IntKind.i64.wrap ((k : Nat) + 1 : Int) = (k : Nat) + 1 := i64i _ (by omega) (by omega)
    have hLl := prK_len T k
    have hyes := fun h0 => prK_yes hz h0
    have hno := fun h0 => prK_no hz h0
    obtain ⟨L, hL⟩ : ∃ L, prK T k = L := ⟨_, rfl⟩
    rw [hL] at hyes hno hLl ⊢
    have b1 : (L.length + 1) * 16 ≤ 140737488355328 := by omega
    have b2 : L.length + 1 ≤ 140737488355328 := by omega
    by_cases h0 : 0 ≤ z
    · have hs := hyes h0
      have h0' : ¬ z < 0 := by omega
      clear hyes hno
      repeat (first | refine aw_seq ?_ | refine aw_skip ?_ | refine aw_block ?_ | refine aw_exit ?_ | refine aw_cond rfl (fun _ => ?_) (fun hb => absurd hb (by decide)) | refine aw_cond rfl (fun hb => absurd hb (by decide)) (fun _ => ?_) | (refine aw_reg (fun K hK => ?_); simp -implicitDefEqProofs [hkl, hTl, hz, hz', h0, h0', w2, b1, b2]; refine hK _ ?_) | (refine aw_drw mixd (fun K hK => ?_); simp -implicitDefEqProofs [hkl, hTl, hz, hz', h0, h0', w2, b1, b2]; refine hK _ _ (by rfl) ?_) | fail)
      refine ⟨k + 1, by omega, (by dsimp only; omega), ?_⟩
      rw [hI, hs]; exact cov_intro [18] (by simp -implicitDefEqProofs) (by simp -implicitDefEqProofs) (by decide) rfl (by simp)
    · have hs := hno (by omega)
      have h0' : z < 0 := by omega
      clear hyes hno
      repeat (first | refine aw_seq ?_ | refine aw_skip ?_ | refine aw_block ?_ | refine aw_exit ?_ | refine aw_cond rfl (fun _ => ?_) (fun hb => absurd hb (by decide)) | refine aw_cond rfl (fun hb => absurd hb (by decide)) (fun _ => ?_) | (refine aw_reg (fun K hK => ?_); simp -implicitDefEqProofs [hkl, hTl, hz, hz', h0, h0', w2]; refine hK _ ?_) | (refine aw_drw mixd (fun K hK => ?_); simp -implicitDefEqProofs [hkl, hTl, hz, hz', h0, h0', w2]; refine hK _ _ (by rfl) ?_) | fail)
      refine ⟨k + 1, by omega, (by dsimp only; omega), ?_⟩
      rw [hI, hs]; exact cov_intro [0] (by simp -implicitDefEqProofs) (by simp -implicitDefEqProofs) (by decide) rfl (by simp)
  by_cases h51 : rule = 51
  · obtain ⟨z, rfl, z0, z1⟩ := h.2 h51
    have ht := less_row z n hn ⟨by omega, by omega⟩
    have hg : goT rule [z] n = lessI z n := by unfold goT; rw [if_neg h50, if_pos h51]; rfl
    rw [hg]
    have hTl := lessI_len z n
    obtain ⟨T, hT⟩ : ∃ T, lessI z n = T := ⟨_, rfl⟩
    rw [hT] at ht hTl ⊢
    clear hA hT hg h
    refine row_of Try.func23 rfl rfl (Nat.le_of_ble_eq_true rfl) ?_
    repeat' (first | refine aw_seq ?_ | refine aw_skip ?_ | refine aw_block ?_ | refine aw_exit ?_ | refine aw_cond rfl (fun _ => ?_) (fun hb => absurd hb (by decide)) | refine aw_cond rfl (fun hb => absurd hb (by decide)) (fun _ => ?_) | (refine aw_reg (fun K hK => ?_); simp -implicitDefEqProofs [h51]) | (refine aw_drw mixd (fun K hK => ?_); simp -implicitDefEqProofs [h51]) | refine hK _ ?_ | refine hK _ _ (by rfl) ?_ | (refine ar_call (cp hle ?_); simp -implicitDefEqProofs [h51]) | (refine ard_call (dp hle ?_); simp -implicitDefEqProofs [h51]) | (refine ar_call (cp ht ?_); simp -implicitDefEqProofs [h51]) | (refine ard_call (dp ht ?_); simp -implicitDefEqProofs [h51]) | fail)
    clear hle ht
    refine aw_lp (ι := Nat) (fun k => mkSt [(7, vIs T), (8, .v (.c (.row 0 2 ((prK T k).map pc2)))), (9, vI (k : Nat))] [some (.row 95 2)]) (fun k => k ≤ n) (fun k => n - k) 0 (Nat.zero_le _) (cov_intro [34] (by simp -implicitDefEqProofs [prK]) (by simp -implicitDefEqProofs [prK]) (by decide) rfl (by simp)) (fun Z hI k hk => ?_)
    by_cases hkl : k < n; rotate_left
    · have : k = n := by omega
      subst this
      repeat (first | refine aw_seq ?_ | refine aw_skip ?_ | refine aw_block ?_ | refine aw_exit ?_ | refine aw_cond rfl (fun _ => ?_) (fun hb => absurd hb (by decide)) | refine aw_cond rfl (fun hb => absurd hb (by decide)) (fun _ => ?_) | (refine aw_reg (fun K hK => ?_); simp -implicitDefEqProofs [hTl]; refine hK _ ?_) | (refine aw_drw mixd (fun K hK => ?_); simp -implicitDefEqProofs [hTl]; refine hK _ _ (by rfl) ?_) | fail)
      refine aw_ret (fin_ret ?_); simp -implicitDefEqProofs [FinP, resV, resT] <;> try rfl
    have hkT : k < T.length := by omega
    obtain ⟨y, hz⟩ : ∃ y, T[k]? = some y := ⟨_, List.getElem?_eq_getElem hkT⟩
    have hz' := (List.getElem?_eq_some_iff.1 hz).2
    have w2 : IntKind.i64.wrap ((k : Nat) + 1 : Int) = (k : Nat) + 1 := i64i _ (by omega) (by omega)
    have hLl := prK_len T k
    have hyes := fun h0 => prK_yes hz h0
    have hno := fun h0 => prK_no hz h0
    obtain ⟨L, hL⟩ : ∃ L, prK T k = L := ⟨_, rfl⟩
    rw [hL] at hyes hno hLl ⊢
    have b1 : (L.length + 1) * 16 ≤ 140737488355328 := by omega
    have b2 : L.length + 1 ≤ 140737488355328 := by omega
    by_cases h0 : 0 ≤ y
    · have hs := hyes h0
      have h0' : ¬ y < 0 := by omega
      clear hyes hno
      repeat (first | refine aw_seq ?_ | refine aw_skip ?_ | refine aw_block ?_ | refine aw_exit ?_ | refine aw_cond rfl (fun _ => ?_) (fun hb => absurd hb (by decide)) | refine aw_cond rfl (fun hb => absurd hb (by decide)) (fun _ => ?_) | (refine aw_reg (fun K hK => ?_); simp -implicitDefEqProofs [hkl, hTl, hz, hz', h0, h0', w2, b1, b2]; refine hK _ ?_) | (refine aw_drw mixd (fun K hK => ?_); simp -implicitDefEqProofs [hkl, hTl, hz, hz', h0, h0', w2, b1, b2]; refine hK _ _ (by rfl) ?_) | fail)
      refine ⟨k + 1, by omega, (by dsimp only; omega), ?_⟩
      rw [hI, hs]; exact cov_intro [18] (by simp -implicitDefEqProofs) (by simp -implicitDefEqProofs) (by decide) rfl (by simp)
    · have hs := hno (by omega)
      have h0' : y < 0 := by omega
      clear hyes hno
      repeat (first | refine aw_seq ?_ | refine aw_skip ?_ | refine aw_block ?_ | refine aw_exit ?_ | refine aw_cond rfl (fun _ => ?_) (fun hb => absurd hb (by decide)) | refine aw_cond rfl (fun hb => absurd hb (by decide)) (fun _ => ?_) | (refine aw_reg (fun K hK => ?_); simp -implicitDefEqProofs [hkl, hTl, hz, hz', h0, h0', w2]; refine hK _ ?_) | (refine aw_drw mixd (fun K hK => ?_); simp -implicitDefEqProofs [hkl, hTl, hz, hz', h0, h0', w2]; refine hK _ _ (by rfl) ?_) | fail)
      refine ⟨k + 1, by omega, (by dsimp only; omega), ?_⟩
      rw [hI, hs]; exact cov_intro [0] (by simp -implicitDefEqProofs) (by simp -implicitDefEqProofs) (by decide) rfl (by simp)
  have hg : goT rule nums n = A := by unfold goT; rw [if_neg h50, if_neg h51, hA]
  rw [hg]
  obtain ⟨T, hT⟩ : ∃ T, A = T := ⟨_, rfl⟩
  have hTl : T.length = n := by rw [← hT]; exact hAl
  rw [hT] at hle ⊢
  clear hA hT hg h hAl
  refine row_of Try.func23 rfl rfl (Nat.le_of_ble_eq_true rfl) ?_
  repeat' (first | refine aw_seq ?_ | refine aw_skip ?_ | refine aw_block ?_ | refine aw_exit ?_ | refine aw_cond rfl (fun _ => ?_) (fun hb => absurd hb (by decide)) | refine aw_cond rfl (fun hb => absurd hb (by decide)) (fun _ => ?_) | (refine aw_reg (fun K hK => ?_); simp -implicitDefEqProofs [h50, h51]) | (refine aw_drw mixd (fun K hK => ?_); simp -implicitDefEqProofs [h50, h51]) | refine hK _ ?_ | refine hK _ _ (by rfl) ?_ | (refine ar_call (cp hle ?_); simp -implicitDefEqProofs [h50, h51]) | (refine ard_call (dp hle ?_); simp -implicitDefEqProofs [h50, h51]) | fail)
  clear hle
  refine aw_lp (ι := Nat) (fun k => mkSt [(7, vIs T), (8, .v (.c (.row 0 2 ((prK T k).map pc2)))), (9, vI (k : Nat))] [some (.row 95 2)]) (fun k => k ≤ n) (fun k => n - k) 0 (Nat.zero_le _) (cov_intro [18] (by simp -implicitDefEqProofs [prK]) (by simp -implicitDefEqProofs [prK]) (by decide) rfl (by simp)) (fun Z hI k hk => ?_)
  by_cases hkl : k < n; rotate_left
  · have : k = n := by omega
    subst this
    repeat (first | refine aw_seq ?_ | refine aw_skip ?_ | refine aw_block ?_ | refine aw_exit ?_ | refine aw_cond rfl (fun _ => ?_) (fun hb => absurd hb (by decide)) | refine aw_cond rfl (fun hb => absurd hb (by decide)) (fun _ => ?_) | (refine aw_reg (fun K hK => ?_); simp -implicitDefEqProofs [hTl]; refine hK _ ?_) | (refine aw_drw mixd (fun K hK => ?_); simp -implicitDefEqProofs [hTl]; refine hK _ _ (by rfl) ?_) | fail)
    refine aw_ret (fin_ret ?_); simp -implicitDefEqProofs [FinP, resV, resT] <;> try rfl
  have hkT : k < T.length := by omega
  obtain ⟨z, hz⟩ : ∃ z, T[k]? = some z := ⟨_, List.getElem?_eq_getElem hkT⟩
  have hz' := (List.getElem?_eq_some_iff.1 hz).2
  have w2 : IntKind.i64.wrap ((k : Nat) + 1 : Int) = (k : Nat) + 1 := i64i _ (by omega) (by omega)
  have hLl := prK_len T k
  have hyes := fun h0 => prK_yes hz h0
  have hno := fun h0 => prK_no hz h0
  obtain ⟨L, hL⟩ : ∃ L, prK T k = L := ⟨_, rfl⟩
  rw [hL] at hyes hno hLl ⊢
  have b1 : (L.length + 1) * 16 ≤ 140737488355328 := by omega
  have b2 : L.length + 1 ≤ 140737488355328 := by omega
  by_cases h0 : 0 ≤ z
  · have hs := hyes h0
    have h0' : ¬ z < 0 := by omega
    clear hyes hno
    repeat (first | refine aw_seq ?_ | refine aw_skip ?_ | refine aw_block ?_ | refine aw_exit ?_ | refine aw_cond rfl (fun _ => ?_) (fun hb => absurd hb (by decide)) | refine aw_cond rfl (fun hb => absurd hb (by decide)) (fun _ => ?_) | (refine aw_reg (fun K hK => ?_); simp -implicitDefEqProofs [hkl, hTl, hz, hz', h0, h0', w2, b1, b2]; refine hK _ ?_) | (refine aw_drw mixd (fun K hK => ?_); simp -implicitDefEqProofs [hkl, hTl, hz, hz', h0, h0', w2, b1, b2]; refine hK _ _ (by rfl) ?_) | fail)
    refine ⟨k + 1, by omega, (by dsimp only; omega), ?_⟩
    rw [hI, hs]; exact cov_intro [18] (by simp -implicitDefEqProofs) (by simp -implicitDefEqProofs) (by decide) rfl (by simp)
  · have hs := hno (by omega)
    have h0' : z < 0 := by omega
    clear hyes hno
    repeat (first | refine aw_seq ?_ | refine aw_skip ?_ | refine aw_block ?_ | refine aw_exit ?_ | refine aw_cond rfl (fun _ => ?_) (fun hb => absurd hb (by decide)) | refine aw_cond rfl (fun hb => absurd hb (by decide)) (fun _ => ?_) | (refine aw_reg (fun K hK => ?_); simp -implicitDefEqProofs [hkl, hTl, hz, hz', h0, h0', w2]; refine hK _ ?_) | (refine aw_drw mixd (fun K hK => ?_); simp -implicitDefEqProofs [hkl, hTl, hz, hz', h0, h0', w2]; refine hK _ _ (by rfl) ?_) | fail)
    refine ⟨k + 1, by omega, (by dsimp only; omega), ?_⟩
    rw [hI, hs]; exact cov_intro [0] (by simp -implicitDefEqProofs) (by simp -implicitDefEqProofs) (by decide) rfl (by simp)
set_option maxRecDepth 100000 in
set_option maxHeartbeats 4000000 in
theorem smprs_row (L : List (Int × Int)) (hl : L.length ≤ 1000000) : Row Try.prog 21 [vP2 L, vP2 L] [] (vB true) [] := by
  refine row_of Try.func21 rfl rfl (Nat.le_of_ble_eq_true rfl) ?_
  repeat (first | refine aw_seq ?_ | refine aw_skip ?_ | refine aw_block ?_ | refine aw_exit ?_ | refine aw_cond rfl (fun _ => ?_) (fun hb => absurd hb (by decide)) | refine aw_cond rfl (fun hb => absurd hb (by decide)) (fun _ => ?_) | (refine aw_reg (fun K hK => ?_); simp -implicitDefEqProofs; refine hK _ ?_) | (refine aw_drw mixd (fun K hK => ?_); simp -implicitDefEqProofs; refine hK _ _ (by rfl) ?_) | fail)
  refine aw_lp (ι := Nat) (fun k => mkSt [(0, vP2 L), (1, vP2 L), (5, vI (k : Nat))] []) (fun k => k ≤ L.length) (fun k => L.length - k) 0 (Nat.zero_le _) (cov_intro [] (by simp -implicitDefEqProofs) (by simp -implicitDefEqProofs) (by decide) rfl (by simp)) (fun Z hI k hk => ?_)
  by_cases hkl : k < L.length; rotate_left
  · have : k = L.length := by omega
    subst this
    repeat (first | refine aw_seq ?_ | refine aw_skip ?_ | refine aw_block ?_ | refine aw_exit ?_ | refine aw_cond rfl (fun _ => ?_) (fun hb => absurd hb (by decide)) | refine aw_cond rfl (fun hb => absurd hb (by decide)) (fun _ => ?_) | (refine aw_reg (fun K hK => ?_); simp -implicitDefEqProofs; refine hK _ ?_) | (refine aw_drw mixd (fun K hK => ?_); simp -implicitDefEqProofs; refine hK _ _ (by rfl) ?_) | fail)
    refine aw_ret (fin_ret ?_); simp -implicitDefEqProofs [FinP, resV, resT] <;> try rfl
  obtain ⟨⟨p, q⟩, hz⟩ : ∃ z, L[k]? = some z := ⟨_, List.getElem?_eq_getElem hkl⟩
  have hz' := (List.getElem?_eq_some_iff.1 hz).2
  have w2 : IntKind.i64.wrap ((k : Nat) + 1 : Int) = (k : Nat) + 1 := i64i _ (by omega) (by omega)
  have he : eqCells [AC.pv (I p), AC.pv (I q)] [AC.pv (I p), AC.pv (I q)] [(0, Tag.int .i64), (1, Tag.int .i64)] = some true := by simp [eqCells, eqCell]
  repeat (first | refine aw_seq ?_ | refine aw_skip ?_ | refine aw_block ?_ | refine aw_exit ?_ | refine aw_cond rfl (fun _ => ?_) (fun hb => absurd hb (by decide)) | refine aw_cond rfl (fun hb => absurd hb (by decide)) (fun _ => ?_) | (refine aw_reg (fun K hK => ?_); simp -implicitDefEqProofs [hkl, hz, hz', w2, he]; refine hK _ ?_) | (refine aw_drw mixd (fun K hK => ?_); simp -implicitDefEqProofs [hkl, hz, hz', w2, he]; refine hK _ _ (by rfl) ?_) | fail)
  refine ⟨k + 1, by omega, (by dsimp only; omega), ?_⟩
  rw [hI]; exact cov_intro [] (by simp -implicitDefEqProofs) (by simp -implicitDefEqProofs) (by decide) rfl (by simp)
set_option maxRecDepth 100000 in
set_option maxHeartbeats 4000000 in
theorem law_pairs_row (hrep : RepH) (m : VT) (rule : Int) (nums : List Int) (hm : in64 m) (h64 : ok64 nums) : Row Try.prog 4 [vT m, vI rule, vIs nums] [] (vB true) [] := by
  have haw := awake32_row
  have hL := rlarge_row m
  by_cases gl : large m = true
  · rw [gl] at hL
    obtain ⟨lx, ll⟩ := m
    refine row_of Try.func4 rfl rfl (Nat.le_of_ble_eq_true rfl) ?_
    repeat' (first | refine aw_seq ?_ | refine aw_skip ?_ | refine aw_block ?_ | refine aw_exit ?_ | refine aw_cond rfl (fun _ => ?_) (fun hb => absurd hb (by decide)) | refine aw_cond rfl (fun hb => absurd hb (by decide)) (fun _ => ?_) | (refine aw_reg (fun K hK => ?_); simp -implicitDefEqProofs) | (refine aw_drw mixd (fun K hK => ?_); simp -implicitDefEqProofs) | refine hK _ ?_ | refine hK _ _ (by rfl) ?_ | (refine ar_call (cp hL ?_); simp -implicitDefEqProofs) | (refine ard_call (dp hL ?_); simp -implicitDefEqProofs) | (refine ar_call (cp haw ?_); simp -implicitDefEqProofs) | (refine ard_call (dp haw ?_); simp -implicitDefEqProofs) | fail)
    refine aw_ret (fin_ret ?_); simp -implicitDefEqProofs [FinP, resV, resT] <;> try rfl
  have gl : large m = false := by simpa using gl
  rw [gl] at hL
  by_cases hn : 100 < nums.length
  · have hn' : (100 : Int) < nums.length := by omega
    obtain ⟨lx, ll⟩ := m
    clear gl
    refine row_of Try.func4 rfl rfl (Nat.le_of_ble_eq_true rfl) ?_
    repeat' (first | refine aw_seq ?_ | refine aw_skip ?_ | refine aw_block ?_ | refine aw_exit ?_ | refine aw_cond rfl (fun _ => ?_) (fun hb => absurd hb (by decide)) | refine aw_cond rfl (fun hb => absurd hb (by decide)) (fun _ => ?_) | (refine aw_reg (fun K hK => ?_); simp -implicitDefEqProofs [hn, hn']) | (refine aw_drw mixd (fun K hK => ?_); simp -implicitDefEqProofs [hn, hn']) | refine hK _ ?_ | refine hK _ _ (by rfl) ?_ | (refine ar_call (cp hL ?_); simp -implicitDefEqProofs [hn, hn']) | (refine ard_call (dp hL ?_); simp -implicitDefEqProofs [hn, hn']) | (refine ar_call (cp haw ?_); simp -implicitDefEqProofs [hn, hn']) | (refine ard_call (dp haw ?_); simp -implicitDefEqProofs [hn, hn']) | fail)
    refine aw_ret (fin_ret ?_); simp -implicitDefEqProofs [FinP, resV, resT] <;> try rfl
  have hn' : ¬ (100 : Int) < nums.length := by omega
  have sl := large_size gl
  have hsd := rside_row rule nums m hm (by omega) (by omega) h64
  have hk : (rule = 50 ∨ rule = 51) ∨ ¬ (rule = 50 ∨ rule = 51) := Classical.em _
  by_cases hno : (sideT rule nums m).2 = false ∧ (rule = 50 ∨ rule = 51)
  · obtain ⟨h1, h2⟩ := hno
    obtain ⟨⟨⟨sx, sl⟩, sb⟩, hS⟩ : ∃ s, sideT rule nums m = s := ⟨_, rfl⟩
    rw [hS] at h1 hsd
    dsimp only at h1 hsd
    subst h1
    obtain ⟨lx, ll⟩ := m
    clear hS gl hk
    rcases h2 with h2 | h2
    · refine row_of Try.func4 rfl rfl (Nat.le_of_ble_eq_true rfl) ?_
      repeat' (first | refine aw_seq ?_ | refine aw_skip ?_ | refine aw_block ?_ | refine aw_exit ?_ | refine aw_cond rfl (fun _ => ?_) (fun hb => absurd hb (by decide)) | refine aw_cond rfl (fun hb => absurd hb (by decide)) (fun _ => ?_) | (refine aw_reg (fun K hK => ?_); simp -implicitDefEqProofs [hn, hn', h2]) | (refine aw_drw mixd (fun K hK => ?_); simp -implicitDefEqProofs [hn, hn', h2]) | refine hK _ ?_ | refine hK _ _ (by rfl) ?_ | (refine ar_call (cp hL ?_); simp -implicitDefEqProofs [hn, hn', h2]) | (refine ard_call (dp hL ?_); simp -implicitDefEqProofs [hn, hn', h2]) | (refine ar_call (cp hsd ?_); simp -implicitDefEqProofs [hn, hn', h2]) | (refine ard_call (dp hsd ?_); simp -implicitDefEqProofs [hn, hn', h2]) | (refine ar_call (cp haw ?_); simp -implicitDefEqProofs [hn, hn', h2]) | (refine ard_call (dp haw ?_); simp -implicitDefEqProofs [hn, hn', h2]) | fail)
      refine aw_ret (fin_ret ?_); simp -implicitDefEqProofs [FinP, resV, resT] <;> try rfl
    · refine row_of Try.func4 rfl rfl (Nat.le_of_ble_eq_true rfl) ?_
      repeat' (first | refine aw_seq ?_ | refine aw_skip ?_ | refine aw_block ?_ | refine aw_exit ?_ | refine aw_cond rfl (fun _ => ?_) (fun hb => absurd hb (by decide)) | refine aw_cond rfl (fun hb => absurd hb (by decide)) (fun _ => ?_) | (refine aw_reg (fun K hK => ?_); simp -implicitDefEqProofs [hn, hn', h2]) | (refine aw_drw mixd (fun K hK => ?_); simp -implicitDefEqProofs [hn, hn', h2]) | refine hK _ ?_ | refine hK _ _ (by rfl) ?_ | (refine ar_call (cp hL ?_); simp -implicitDefEqProofs [hn, hn', h2]) | (refine ard_call (dp hL ?_); simp -implicitDefEqProofs [hn, hn', h2]) | (refine ar_call (cp hsd ?_); simp -implicitDefEqProofs [hn, hn', h2]) | (refine ard_call (dp hsd ?_); simp -implicitDefEqProofs [hn, hn', h2]) | (refine ar_call (cp haw ?_); simp -implicitDefEqProofs [hn, hn', h2]) | (refine ard_call (dp haw ?_); simp -implicitDefEqProofs [hn, hn', h2]) | fail)
      refine aw_ret (fin_ret ?_); simp -implicitDefEqProofs [FinP, resV, resT] <;> try rfl
  have hok : okG rule nums m.kids.length := by
    refine ⟨fun h50 => ?_, fun h51 => ?_⟩
    · have h1 : permB m nums = true := by
        cases hp : permB m nums with
        | true => rfl
        | false => exact absurd ⟨by unfold sideT; rw [if_pos h50]; exact hp, .inl h50⟩ hno
      obtain ⟨x, l⟩ := m
      simp [permB] at h1
      exact ⟨h1.2, by rw [Tr.kids]; exact h1.1.2⟩
    · have hn50 : ¬ rule = 50 := by omega
      by_cases h1 : nums.length = 1; rotate_left
      · exact absurd ⟨by unfold sideT; rw [if_neg hn50, if_neg (fun h => h1 h.2)], .inr h51⟩ hno
      obtain ⟨z, rfl⟩ : ∃ z, nums = [z] := one_of h1
      have h1 : dropB m z = true := by
        cases hp : dropB m z with
        | true => rfl
        | false => exact absurd ⟨by unfold sideT; rw [if_neg hn50, if_pos ⟨h51, rfl⟩]; exact hp, .inr h51⟩ hno
      obtain ⟨x, l⟩ := m
      simp [dropB] at h1
      exact ⟨z, rfl, by omega, by rw [Tr.kids]; omega⟩
  have hlen : m.kids.length ≤ 1000 := by obtain ⟨x, l⟩ := m; have := Tr.len_size (x := x) (l := l); rw [Tr.kids]; omega
  have hi := inv_row nums (by omega) (hrep nums.length (by omega))
  have hp := prs_row rule nums m.kids.length (by omega) (by omega) hok hi
  have hq := rprs_row rule nums m.kids.length (by omega) (by omega) h64 hok
  have hpl := prK_len (goT rule nums m.kids.length) m.kids.length
  have hs := smprs_row (prK (goT rule nums m.kids.length) m.kids.length) (by omega)
  obtain ⟨P, hP⟩ : ∃ P, prK (goT rule nums m.kids.length) m.kids.length = P := ⟨_, rfl⟩
  rw [hP] at hp hq hs
  obtain ⟨⟨⟨sx, sl⟩, sb⟩, hS⟩ : ∃ s, sideT rule nums m = s := ⟨_, rfl⟩
  rw [hS] at hno hsd
  dsimp only at hno hsd
  clear hS gl hk hok hi hpl hP hrep
  obtain ⟨lx, ll⟩ := m
  rw [Tr.kids] at hp hq hlen
  cases sb with
  | true =>
    refine row_of Try.func4 rfl rfl (Nat.le_of_ble_eq_true rfl) ?_
    repeat' (first | refine aw_seq ?_ | refine aw_skip ?_ | refine aw_block ?_ | refine aw_exit ?_ | refine aw_cond rfl (fun _ => ?_) (fun hb => absurd hb (by decide)) | refine aw_cond rfl (fun hb => absurd hb (by decide)) (fun _ => ?_) | (refine aw_reg (fun K hK => ?_); simp -implicitDefEqProofs [hn, hn']) | (refine aw_drw mixd (fun K hK => ?_); simp -implicitDefEqProofs [hn, hn']) | refine hK _ ?_ | refine hK _ _ (by rfl) ?_ | (refine ar_call (cp hL ?_); simp -implicitDefEqProofs [hn, hn']) | (refine ard_call (dp hL ?_); simp -implicitDefEqProofs [hn, hn']) | (refine ar_call (cp hsd ?_); simp -implicitDefEqProofs [hn, hn']) | (refine ard_call (dp hsd ?_); simp -implicitDefEqProofs [hn, hn']) | (refine ar_call (cp hp ?_); simp -implicitDefEqProofs [hn, hn']) | (refine ard_call (dp hp ?_); simp -implicitDefEqProofs [hn, hn']) | (refine ar_call (cp hq ?_); simp -implicitDefEqProofs [hn, hn']) | (refine ard_call (dp hq ?_); simp -implicitDefEqProofs [hn, hn']) | (refine ar_call (cp hs ?_); simp -implicitDefEqProofs [hn, hn']) | (refine ard_call (dp hs ?_); simp -implicitDefEqProofs [hn, hn']) | (refine ar_call (cp haw ?_); simp -implicitDefEqProofs [hn, hn']) | (refine ard_call (dp haw ?_); simp -implicitDefEqProofs [hn, hn']) | fail)
    refine aw_ret (fin_ret ?_); simp -implicitDefEqProofs [FinP, resV, resT] <;> try rfl
  | false =>
    have n1 : ¬ rule = 50 := fun h => hno ⟨rfl, .inl h⟩
    have n2 : ¬ rule = 51 := fun h => hno ⟨rfl, .inr h⟩
    refine row_of Try.func4 rfl rfl (Nat.le_of_ble_eq_true rfl) ?_
    repeat' (first | refine aw_seq ?_ | refine aw_skip ?_ | refine aw_block ?_ | refine aw_exit ?_ | refine aw_cond rfl (fun _ => ?_) (fun hb => absurd hb (by decide)) | refine aw_cond rfl (fun hb => absurd hb (by decide)) (fun _ => ?_) | (refine aw_reg (fun K hK => ?_); simp -implicitDefEqProofs [hn, hn', n1, n2]) | (refine aw_drw mixd (fun K hK => ?_); simp -implicitDefEqProofs [hn, hn', n1, n2]) | refine hK _ ?_ | refine hK _ _ (by rfl) ?_ | (refine ar_call (cp hL ?_); simp -implicitDefEqProofs [hn, hn', n1, n2]) | (refine ard_call (dp hL ?_); simp -implicitDefEqProofs [hn, hn', n1, n2]) | (refine ar_call (cp hsd ?_); simp -implicitDefEqProofs [hn, hn', n1, n2]) | (refine ard_call (dp hsd ?_); simp -implicitDefEqProofs [hn, hn', n1, n2]) | (refine ar_call (cp hp ?_); simp -implicitDefEqProofs [hn, hn', n1, n2]) | (refine ard_call (dp hp ?_); simp -implicitDefEqProofs [hn, hn', n1, n2]) | (refine ar_call (cp hq ?_); simp -implicitDefEqProofs [hn, hn', n1, n2]) | (refine ard_call (dp hq ?_); simp -implicitDefEqProofs [hn, hn', n1, n2]) | (refine ar_call (cp hs ?_); simp -implicitDefEqProofs [hn, hn', n1, n2]) | (refine ard_call (dp hs ?_); simp -implicitDefEqProofs [hn, hn', n1, n2]) | (refine ar_call (cp haw ?_); simp -implicitDefEqProofs [hn, hn', n1, n2]) | (refine ard_call (dp haw ?_); simp -implicitDefEqProofs [hn, hn', n1, n2]) | fail)
    refine aw_ret (fin_ret ?_); simp -implicitDefEqProofs [FinP, resV, resT] <;> try rfl
end Go.Proofs.Ytjnlfppeodoliaa.am
