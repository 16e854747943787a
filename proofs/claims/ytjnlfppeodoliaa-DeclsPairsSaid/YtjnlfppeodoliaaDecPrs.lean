/-
  Layer 32: which declaration becomes which.
-/
import Derived.Test.YtjnlfppeodoliaaDecHol
import Derived.Test.YtjnlfppeodoliaaVtPairs
namespace Go.Proofs.Ytjnlfppeodoliaa.am
open Go.ChangeShapes Go.WideShapes Go.ChangeAt Go.RowKit
open vt
set_option linter.unusedVariables false
set_option linter.unusedSimpArgs false
theorem td_pair : td Try.prog 95 = some ⟨true, 2, 16, [.lit (.int .i64 0), .lit (.int .i64 0)], [(0, 1, false), (1, 1, false)], .struct⟩ := Eq.trans (by kernel_rfl) (Eq.refl _)
theorem td_pairs : td Try.prog 38 = some ⟨false, 1, 24, [.nilS], [], (.slice 95)⟩ := Eq.trans (by kernel_rfl) (Eq.refl _)
attribute [simp] td_pair td_pairs
theorem eqT_pair : eqTys Try.prog 95 = some [(0, .int .i64), (1, .int .i64)] := Eq.trans (by kernel_rfl) (Eq.refl _)
attribute [simp] eqT_pair
abbrev pc2 (p : Int × Int) : List PV := [I p.1, I p.2]
abbrev vP2 (l : List (Int × Int)) : AV := .v (.c (.pv (.sl 2 (l.map pc2))))
set_option maxRecDepth 100000 in
set_option maxHeartbeats 4000000 in
theorem prs_row (rule : Int) (nums : List Int) (n : Nat) (hn : n ≤ 1000000) (hl : nums.length ≤ 1000000) (h : okG rule nums n) (hi : Row Try.prog 51 [vIs nums] [] (.tup [.c (.pv (invP nums)), .c (.pv (Bo (isOrd nums)))]) []) : Row Try.prog 22 [vI rule, vIs nums, vI (n : Nat)] [] (vP2 (prK (goT rule nums n) n)) [] := by
  have hb : ¬ (134217728 : Int) < (n : Nat) := by omega
  by_cases h50 : rule = 50
  · obtain ⟨ho, hln⟩ := h.1 h50
    rw [ho, show invP nums = Is (invN nums nums.length) by unfold invP; rw [if_pos ho], hln] at hi
    have hg : goT rule nums n = invN nums n := by unfold goT; rw [if_pos h50]
    rw [hg]
    have hpos : ∀ k : Nat, k < n → ∃ z, (invN nums n)[k]? = some z ∧ 0 ≤ z := fun k hk => by
      refine ⟨_, invN_at nums hk, ?_⟩
      have h1 := (isOrd_all nums).1 ho k (by omega)
      have h2 := atI_neg (k : Int) nums
      have : ¬ atI (k : Int) nums < 0 := fun h3 => (h2.1 h3) h1
      omega
    have hTl := invN_len nums n
    obtain ⟨T, hT⟩ : ∃ T, invN nums n = T := ⟨_, rfl⟩
    rw [hT] at hi hpos hTl ⊢
    refine row_of Try.func22 rfl rfl (Nat.le_of_ble_eq_true rfl) ?_
    repeat' (first | refine aw_seq ?_ | refine aw_skip ?_ | refine aw_block ?_ | refine aw_exit ?_ | refine aw_cond rfl (fun _ => ?_) (fun hb => absurd hb (by decide)) | refine aw_cond rfl (fun hb => absurd hb (by decide)) (fun _ => ?_) | (refine aw_reg (fun K hK => ?_); simp -implicitDefEqProofs [hb, h50, hln]) | (refine aw_drw mixd (fun K hK => ?_); simp -implicitDefEqProofs [hb, h50, hln]) | refine hK _ ?_ | refine hK _ _ (by rfl) ?_ | (refine ar_call (cp hi ?_); simp -implicitDefEqProofs [hb, h50, hln]) | (refine ard_call (dp hi ?_); simp -implicitDefEqProofs [hb, h50, hln]) | fail)
    clear hi
    refine aw_nil 7 95 2 (by simp) ?_
    refine aw_lp (ι := Nat) (fun k => mkSt [(0, vI 50), (1, vIs nums), (7, .v (.c (.row 0 2 ((prK T k).map pc2)))), (8, vIs T), (52, vI (n : Nat)), (53, vI (k : Nat))] [some (.row 95 2)]) (fun k => k ≤ n) (fun k => n - k) 0 (Nat.zero_le _) (by unfold St.nil; exact cov_intro [38] (by simp -implicitDefEqProofs [prK]) (by simp -implicitDefEqProofs [prK]) (by decide) rfl (by simp)) (fun Z hI k hk => ?_)
    by_cases hkl : k < n; rotate_left
    · have : k = n := by omega
      subst this
      repeat (first | refine aw_seq ?_ | refine aw_skip ?_ | refine aw_block ?_ | refine aw_exit ?_ | refine aw_cond rfl (fun _ => ?_) (fun hb => absurd hb (by decide)) | refine aw_cond rfl (fun hb => absurd hb (by decide)) (fun _ => ?_) | (refine aw_reg (fun K hK => ?_); simp -implicitDefEqProofs; refine hK _ ?_) | (refine aw_drw mixd (fun K hK => ?_); simp -implicitDefEqProofs; refine hK _ _ (by rfl) ?_) | fail)
      refine aw_ret (fin_ret ?_); simp -implicitDefEqProofs [FinP, resV, resT] <;> try rfl
    obtain ⟨z, hz, hz0⟩ := hpos k hkl
    have hz' := (List.getElem?_eq_some_iff.1 hz).2
    have hkT : k < T.length := by omega
    have w2 : IntKind.i64.wrap ((k : Nat) + 1 : Int) = (k : Nat) + 1 := i64i _ (by omega) (by omega)
    have hs := prK_yes hz hz0
    have hLl := prK_len T k
    obtain ⟨L, hL⟩ : ∃ L, prK T k = L := ⟨_, rfl⟩
    rw [hL] at hs hLl ⊢
    have b1 : (L.length + 1) * 16 ≤ 140737488355328 := by omega
    have b2 : L.length + 1 ≤ 140737488355328 := by omega
    repeat (first | refine aw_seq ?_ | refine aw_skip ?_ | refine aw_block ?_ | refine aw_exit ?_ | refine aw_cond rfl (fun _ => ?_) (fun hb => absurd hb (by decide)) | refine aw_cond rfl (fun hb => absurd hb (by decide)) (fun _ => ?_) | (refine aw_reg (fun K hK => ?_); simp -implicitDefEqProofs [hkl, hkT, hz, hz', w2, b1, b2]; refine hK _ ?_) | (refine aw_drw mixd (fun K hK => ?_); simp -implicitDefEqProofs [hkl, hkT, hz, hz', w2, b1, b2]; refine hK _ _ (by rfl) ?_) | fail)
    refine ⟨k + 1, by omega, (by dsimp only; omega), ?_⟩
    rw [hI, hs]; exact cov_intro [15] (by simp -implicitDefEqProofs) (by simp -implicitDefEqProofs) (by decide) rfl (by simp)
  obtain ⟨ob, hob⟩ : ∃ b, isOrd nums = b := ⟨_, rfl⟩
  obtain ⟨op, hop⟩ : ∃ p, invP nums = p := ⟨_, rfl⟩
  rw [hob, hop] at hi
  clear hob hop
  by_cases h51 : rule = 51
  · obtain ⟨z, rfl, z0, z1⟩ := h.2 h51
    have hg : goT rule [z] n = lessI z n := by unfold goT; rw [if_neg h50, if_pos h51]; rfl
    rw [hg]
    have hat := fun k (hk : k < n) => lessI_at z hk
    obtain ⟨T, hT⟩ : ∃ T, lessI z n = T := ⟨_, rfl⟩
    rw [hT] at hat ⊢
    have z2 : ¬ z < 0 := by omega
    have z3 : ¬ ((n : Nat) : Int) ≤ z := by omega
    refine row_of Try.func22 rfl rfl (Nat.le_of_ble_eq_true rfl) ?_
    repeat' (first | refine aw_seq ?_ | refine aw_skip ?_ | refine aw_block ?_ | refine aw_exit ?_ | refine aw_cond rfl (fun _ => ?_) (fun hb => absurd hb (by decide)) | refine aw_cond rfl (fun hb => absurd hb (by decide)) (fun _ => ?_) | (refine aw_reg (fun K hK => ?_); simp -implicitDefEqProofs [hb, h51, z2, z3]) | (refine aw_drw mixd (fun K hK => ?_); simp -implicitDefEqProofs [hb, h51, z2, z3]) | refine hK _ ?_ | refine hK _ _ (by rfl) ?_ | (refine ar_call (cp hi ?_); simp -implicitDefEqProofs [hb, h51, z2, z3]) | (refine ard_call (dp hi ?_); simp -implicitDefEqProofs [hb, h51, z2, z3]) | fail)
    clear hi
    refine aw_nil 7 95 2 (by simp) ?_
    refine aw_lp (ι := Nat) (fun k => mkSt [(0, vI 51), (1, vIs [z]), (7, .v (.c (.row 0 2 ((prK T k).map pc2)))), (52, vI (n : Nat)), (53, vI (k : Nat))] [some (.row 95 2)]) (fun k => k ≤ n) (fun k => n - k) 0 (Nat.zero_le _) (by unfold St.nil; exact cov_intro [46] (by simp -implicitDefEqProofs [prK]) (by simp -implicitDefEqProofs [prK]) (by decide) rfl (by simp)) (fun Z hI k hk => ?_)
    by_cases hkl : k < n; rotate_left
    · have : k = n := by omega
      subst this
      repeat (first | refine aw_seq ?_ | refine aw_skip ?_ | refine aw_block ?_ | refine aw_exit ?_ | refine aw_cond rfl (fun _ => ?_) (fun hb => absurd hb (by decide)) | refine aw_cond rfl (fun hb => absurd hb (by decide)) (fun _ => ?_) | (refine aw_reg (fun K hK => ?_); simp -implicitDefEqProofs; refine hK _ ?_) | (refine aw_drw mixd (fun K hK => ?_); simp -implicitDefEqProofs; refine hK _ _ (by rfl) ?_) | fail)
      refine aw_ret (fin_ret ?_); simp -implicitDefEqProofs [FinP, resV, resT] <;> try rfl
    have w2 : IntKind.i64.wrap ((k : Nat) + 1 : Int) = (k : Nat) + 1 := i64i _ (by omega) (by omega)
    have w3 : IntKind.i64.wrap ((k : Nat) - 1 : Int) = (k : Nat) - 1 := i64i _ (by omega) (by omega)
    have hz := hat k hkl
    have hLl := prK_len T k
    have hyes := fun z (h : T[k]? = some z) (h0 : 0 ≤ z) => prK_yes h h0
    have hno := fun z (h : T[k]? = some z) (h0 : z < 0) => prK_no h h0
    obtain ⟨L, hL⟩ : ∃ L, prK T k = L := ⟨_, rfl⟩
    rw [hL] at hyes hno hLl ⊢
    have b1 : (L.length + 1) * 16 ≤ 140737488355328 := by omega
    have b2 : L.length + 1 ≤ 140737488355328 := by omega
    by_cases c1 : (k : Int) < z
    · rw [if_pos c1] at hz
      have hs := hyes _ hz (by omega)
      repeat (first | refine aw_seq ?_ | refine aw_skip ?_ | refine aw_block ?_ | refine aw_exit ?_ | refine aw_cond rfl (fun _ => ?_) (fun hb => absurd hb (by decide)) | refine aw_cond rfl (fun hb => absurd hb (by decide)) (fun _ => ?_) | (refine aw_reg (fun K hK => ?_); simp -implicitDefEqProofs [hkl, c1, w2, w3, b1, b2]; refine hK _ ?_) | (refine aw_drw mixd (fun K hK => ?_); simp -implicitDefEqProofs [hkl, c1, w2, w3, b1, b2]; refine hK _ _ (by rfl) ?_) | fail)
      refine ⟨k + 1, by omega, (by dsimp only; omega), ?_⟩
      rw [hI, hs]; exact cov_intro [22] (by simp -implicitDefEqProofs) (by simp -implicitDefEqProofs) (by decide) rfl (by simp)
    · by_cases c2 : (k : Int) = z
      · rw [if_neg c1, if_pos c2] at hz
        have hs := hno _ hz (by omega)
        subst c2
        repeat (first | refine aw_seq ?_ | refine aw_skip ?_ | refine aw_block ?_ | refine aw_exit ?_ | refine aw_cond rfl (fun _ => ?_) (fun hb => absurd hb (by decide)) | refine aw_cond rfl (fun hb => absurd hb (by decide)) (fun _ => ?_) | (refine aw_reg (fun K hK => ?_); simp -implicitDefEqProofs [hkl, w2, w3, b1, b2]; refine hK _ ?_) | (refine aw_drw mixd (fun K hK => ?_); simp -implicitDefEqProofs [hkl, w2, w3, b1, b2]; refine hK _ _ (by rfl) ?_) | fail)
        refine ⟨k + 1, by omega, (by dsimp only; omega), ?_⟩
        rw [hI, hs]; exact cov_intro [0] (by simp -implicitDefEqProofs) (by simp -implicitDefEqProofs) (by decide) rfl (by simp)
      · rw [if_neg c1, if_neg c2] at hz
        have hs := hyes _ hz (by omega)
        have c3 : z < (k : Int) := by omega
        repeat (first | refine aw_seq ?_ | refine aw_skip ?_ | refine aw_block ?_ | refine aw_exit ?_ | refine aw_cond rfl (fun _ => ?_) (fun hb => absurd hb (by decide)) | refine aw_cond rfl (fun hb => absurd hb (by decide)) (fun _ => ?_) | (refine aw_reg (fun K hK => ?_); simp -implicitDefEqProofs [hkl, c1, c3, w2, w3, b1, b2]; refine hK _ ?_) | (refine aw_drw mixd (fun K hK => ?_); simp -implicitDefEqProofs [hkl, c1, c3, w2, w3, b1, b2]; refine hK _ _ (by rfl) ?_) | fail)
        refine ⟨k + 1, by omega, (by dsimp only; omega), ?_⟩
        rw [hI, hs]; exact cov_intro [29] (by simp -implicitDefEqProofs) (by simp -implicitDefEqProofs) (by decide) rfl (by simp)
  · have hg : goT rule nums n = lessI (n : Int) n := by unfold goT; rw [if_neg h50, if_neg h51]
    rw [hg]
    have hat : ∀ k, k < n → (lessI (n : Int) n)[k]? = some (k : Int) := fun k hk => by rw [lessI_at _ hk, if_pos (by omega)]
    obtain ⟨T, hT⟩ : ∃ T, lessI (n : Int) n = T := ⟨_, rfl⟩
    rw [hT] at hat ⊢
    refine row_of Try.func22 rfl rfl (Nat.le_of_ble_eq_true rfl) ?_
    repeat' (first | refine aw_seq ?_ | refine aw_skip ?_ | refine aw_block ?_ | refine aw_exit ?_ | refine aw_cond rfl (fun _ => ?_) (fun hb => absurd hb (by decide)) | refine aw_cond rfl (fun hb => absurd hb (by decide)) (fun _ => ?_) | (refine aw_reg (fun K hK => ?_); simp -implicitDefEqProofs [hb, h50, h51]) | (refine aw_drw mixd (fun K hK => ?_); simp -implicitDefEqProofs [hb, h50, h51]) | refine hK _ ?_ | refine hK _ _ (by rfl) ?_ | (refine ar_call (cp hi ?_); simp -implicitDefEqProofs [hb, h50, h51]) | (refine ard_call (dp hi ?_); simp -implicitDefEqProofs [hb, h50, h51]) | fail)
    clear hi
    refine aw_nil 7 95 2 (by simp) ?_
    refine aw_lp (ι := Nat) (fun k => mkSt [(0, vI rule), (1, vIs nums), (7, .v (.c (.row 0 2 ((prK T k).map pc2)))), (52, vI (n : Nat)), (53, vI (k : Nat))] [some (.row 95 2)]) (fun k => k ≤ n) (fun k => n - k) 0 (Nat.zero_le _) (by unfold St.nil; exact cov_intro [30] (by simp -implicitDefEqProofs [prK]) (by simp -implicitDefEqProofs [prK]) (by decide) rfl (by simp)) (fun Z hI k hk => ?_)
    by_cases hkl : k < n; rotate_left
    · have : k = n := by omega
      subst this
      repeat (first | refine aw_seq ?_ | refine aw_skip ?_ | refine aw_block ?_ | refine aw_exit ?_ | refine aw_cond rfl (fun _ => ?_) (fun hb => absurd hb (by decide)) | refine aw_cond rfl (fun hb => absurd hb (by decide)) (fun _ => ?_) | (refine aw_reg (fun K hK => ?_); simp -implicitDefEqProofs; refine hK _ ?_) | (refine aw_drw mixd (fun K hK => ?_); simp -implicitDefEqProofs; refine hK _ _ (by rfl) ?_) | fail)
      refine aw_ret (fin_ret ?_); simp -implicitDefEqProofs [FinP, resV, resT] <;> try rfl
    have w2 : IntKind.i64.wrap ((k : Nat) + 1 : Int) = (k : Nat) + 1 := i64i _ (by omega) (by omega)
    have hs := prK_yes (hat k hkl) (by omega)
    have hLl := prK_len T k
    obtain ⟨L, hL⟩ : ∃ L, prK T k = L := ⟨_, rfl⟩
    rw [hL] at hs hLl ⊢
    have b1 : (L.length + 1) * 16 ≤ 140737488355328 := by omega
    have b2 : L.length + 1 ≤ 140737488355328 := by omega
    repeat (first | refine aw_seq ?_ | refine aw_skip ?_ | refine aw_block ?_ | refine aw_exit ?_ | refine aw_cond rfl (fun _ => ?_) (fun hb => absurd hb (by decide)) | refine aw_cond rfl (fun hb => absurd hb (by decide)) (fun _ => ?_) | (refine aw_reg (fun K hK => ?_); simp -implicitDefEqProofs [hkl, h50, h51, w2, b1, b2]; refine hK _ ?_) | (refine aw_drw mixd (fun K hK => ?_); simp -implicitDefEqProofs [hkl, h50, h51, w2, b1, b2]; refine hK _ _ (by rfl) ?_) | fail)
    refine ⟨k + 1, by omega, (by dsimp only; omega), ?_⟩
    rw [hI, hs]; exact cov_intro [17] (by simp -implicitDefEqProofs) (by simp -implicitDefEqProofs) (by decide) rfl (by simp)
end Go.Proofs.Ytjnlfppeodoliaa.am
