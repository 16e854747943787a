import Derived.Test.YthkfdheoakbfnaaPkS4
section
namespace Go.Proofs.Ythkfdheoakbfnaa.am
open Go.ChangeShapes Go.WideShapes Go.ChangeAt Go.RowKit
open vt
set_option linter.unusedVariables false
set_option linter.unusedSimpArgs false
theorem td_got13 : td Try.prog 73 = some ⟨true, 8, 88, [.lit (.int .i64 0), .lit (.int .i64 0), .lit (.string ⟨#[]⟩), .nilS, .lit (.int .i64 0), .lit (.int .i64 0), .lit (.int .i64 0), .lit (.int .i64 0)], [(0, 6, true), (6, 1, false), (7, 1, false)], .struct⟩ := Eq.trans (by kernel_rfl) (Eq.refl _)
attribute [simp] td_got13
abbrev vNs' (W : List ByteArray) : AV := .v (.c (.pv (.sl 1 (wsS W))))
noncomputable abbrev vSg (g : SG) : AV := .v (.agg (ta g.t ++ [.pv (I g.pl), .pv (I g.er)]))
abbrev zGb : AO := .box [.pv (I 0), .pv (I 0), .pv (Sx ⟨#[]⟩), .pv .nilS, .pv (I 0), .pv (I 0), .pv (I 0), .pv (I 0)]
set_option maxRecDepth 100000 in
set_option maxHeartbeats 4000000 in
theorem sdecl_row (mx : Lab) (ml : List VT) (hml : ml.length ≤ 100000) (s : ByteArray) : Row Try.prog 37 [vT (.mk mx ml), vS s] [] (vI (dclI ml s)) [] := by
  obtain ⟨R, hR⟩ : ∃ R, dclI ml s = R := ⟨_, rfl⟩
  have hno : dcl ml s = none → R = -1 := fun h => by rw [← hR]; unfold dclI; rw [h]
  have hyes : ∀ k : Nat, dcl ml s = some k → R = (k : Nat) := fun k h => by rw [← hR]; unfold dclI; rw [h]
  rw [hR]
  clear hR
  refine row_of Try.func37 rfl rfl (Nat.le_of_ble_eq_true rfl) ?_
  repeat (first | refine aw_seq ?_ | refine aw_skip ?_ | refine aw_block ?_ | refine aw_exit ?_ | refine aw_ct rfl ?_ | refine aw_cf rfl ?_ | ((first | refine aw_reg (fun K hK => ?_) | refine aw_drw mixd (fun K hK => ?_) | fail); simp -implicitDefEqProofs; first | refine hK _ ?_ | refine hK _ _ (by rfl) ?_ | fail) | fail)
  refine aw_lp (ι := Nat) (fun k => mkSt [(1, vS s), (2, .v (.c (.ptr 0 0))), (5, vI (k : Nat))] [some (.box (ta (.mk mx ml)))]) (fun k => k ≤ ml.length ∧ ∀ j y, j < k → ml[j]? = some y → y.lab.s ≠ s) (fun k => ml.length - k) 0 ⟨Nat.zero_le _, fun j y h => by omega⟩ (cov_intro [0] (by simp -implicitDefEqProofs) (by simp -implicitDefEqProofs) (by decide) rfl (by simp)) (fun Z hI k hk => ?_)
  obtain ⟨hk, hz⟩ := hk
  by_cases hkl : k < ml.length; rotate_left
  · have : k = ml.length := by omega
    subst this
    have hR := hno (by
      unfold dcl
      rw [List.findIdx?_eq_none_iff]
      intro y hm
      obtain ⟨j, hj⟩ := List.mem_iff_getElem?.1 hm
      simp [hz j y (List.getElem?_eq_some_iff.1 hj).1 hj])
    subst hR
    repeat (first | refine aw_seq ?_ | refine aw_skip ?_ | refine aw_block ?_ | refine aw_exit ?_ | refine aw_ct rfl ?_ | refine aw_cf rfl ?_ | ((first | refine aw_reg (fun K hK => ?_) | refine aw_drw mixd (fun K hK => ?_) | fail); simp -implicitDefEqProofs; first | refine hK _ ?_ | refine hK _ _ (by rfl) ?_ | fail) | fail)
    refine aw_ret (fin_ret ?_); simp -implicitDefEqProofs [FinP, resV, resT] <;> try rfl
  obtain ⟨⟨ax, al⟩, ha⟩ : ∃ a, ml[k]? = some a := ⟨_, List.getElem?_eq_getElem hkl⟩
  have ha' := (List.getElem?_eq_some_iff.1 ha).2
  have w2 : IntKind.i64.wrap ((k : Nat) + 1 : Int) = (k : Nat) + 1 := i64i _ (by omega) (by omega)
  by_cases c : ax.s = s
  · have hR := hyes k (by
      unfold dcl
      rw [List.findIdx?_eq_some_iff_getElem]
      refine ⟨hkl, by simp [ha', Tr.lab, c], fun j hj => ?_⟩
      have := hz j ml[j] hj (List.getElem?_eq_getElem (by omega))
      simpa using this)
    subst hR
    repeat (first | refine aw_seq ?_ | refine aw_skip ?_ | refine aw_block ?_ | refine aw_exit ?_ | refine aw_ct rfl ?_ | refine aw_cf rfl ?_ | ((first | refine aw_reg (fun K hK => ?_) | refine aw_drw mixd (fun K hK => ?_) | fail); simp -implicitDefEqProofs [hkl, ha, ha', c]; first | refine hK _ ?_ | refine hK _ _ (by rfl) ?_ | fail) | fail)
    refine aw_ret (fin_ret ?_); simp -implicitDefEqProofs [FinP, resV, resT] <;> try rfl
  · repeat (first | refine aw_seq ?_ | refine aw_skip ?_ | refine aw_block ?_ | refine aw_exit ?_ | refine aw_ct rfl ?_ | refine aw_cf rfl ?_ | ((first | refine aw_reg (fun K hK => ?_) | refine aw_drw mixd (fun K hK => ?_) | fail); simp -implicitDefEqProofs [hkl, ha, ha', c, w2]; first | refine hK _ ?_ | refine hK _ _ (by rfl) ?_ | fail) | fail)
    refine ⟨k + 1, ⟨by omega, fun j y h1 h2 => ?_⟩, (by dsimp only; omega), ?_⟩
    · by_cases hj : j = k
      · subst hj; rw [ha] at h2; cases h2; exact c
      · exact hz j y (by omega) h2
    · rw [hI]; exact cov_intro [0] (by simp -implicitDefEqProofs) (by simp -implicitDefEqProofs) (by decide) rfl (by simp)
set_option maxRecDepth 100000 in
set_option maxHeartbeats 4000000 in
theorem skind_row (mx : Lab) (ml : List VT) (hml : ml.length ≤ 100000) (s : ByteArray) : Row Try.prog 121 [vT (.mk mx ml), vS s] [] (vI (kndI ml s)) [] := by
  have hd := sdecl_row mx ml hml s
  cases hq : dcl ml s with
  | none =>
    have e1 : dclI ml s = -1 := by unfold dclI; rw [hq]
    have e2 : kndI ml s = 0 := by unfold kndI; rw [hq]
    rw [e1] at hd
    rw [e2]
    refine row_of Try.func121 rfl rfl (Nat.le_of_ble_eq_true rfl) ?_
    repeat' (first | refine aw_seq ?_ | refine aw_skip ?_ | refine aw_block ?_ | refine aw_exit ?_ | refine aw_ct rfl ?_ | refine aw_cf rfl ?_ | ((first | refine aw_reg (fun K hK => ?_) | refine aw_drw mixd (fun K hK => ?_) | refine ar_call (cp hd ?_) | refine ard_call (dp hd ?_) | fail); simp -implicitDefEqProofs) | refine hK _ ?_ | refine hK _ _ (by rfl) ?_ | fail)
    refine aw_ret (fin_ret ?_); simp -implicitDefEqProofs [FinP, resV, resT] <;> try rfl
  | some i =>
    have hil := dcl_some hq
    obtain ⟨⟨dx, dl⟩, ha⟩ : ∃ a, ml[i]? = some a := ⟨_, List.getElem?_eq_getElem hil⟩
    have ha' := (List.getElem?_eq_some_iff.1 ha).2
    have e1 : dclI ml s = (i : Nat) := by unfold dclI; rw [hq]
    have e2 : kndI ml s = dx.k := by unfold kndI; rw [hq]; simp [ha, Tr.lab]
    have n0 : ¬ (i : Int) < 0 := by omega
    rw [e1] at hd
    rw [e2]
    refine row_of Try.func121 rfl rfl (Nat.le_of_ble_eq_true rfl) ?_
    repeat' (first | refine aw_seq ?_ | refine aw_skip ?_ | refine aw_block ?_ | refine aw_exit ?_ | refine aw_ct rfl ?_ | refine aw_cf rfl ?_ | ((first | refine aw_reg (fun K hK => ?_) | refine aw_drw mixd (fun K hK => ?_) | refine ar_call (cp hd ?_) | refine ard_call (dp hd ?_) | fail); simp -implicitDefEqProofs [hil, ha, ha', n0]) | refine hK _ ?_ | refine hK _ _ (by rfl) ?_ | fail)
    refine aw_ret (fin_ret ?_); simp -implicitDefEqProofs [FinP, resV, resT] <;> try rfl
theorem locS_at {L : List ByteArray} {s : ByteArray} {n : Nat} (hn : n < L.length) (h : L[L.length - 1 - n]? = some s) (hz : ∀ j t, j < n → L[L.length - 1 - j]? = some t → t ≠ s) : locS L s = some n := by
  unfold locS
  rw [List.findIdx?_eq_some_iff_getElem]
  refine ⟨by simp; omega, ?_, fun j hj => ?_⟩
  · rw [List.getElem_reverse, (List.getElem?_eq_some_iff.1 h).2]; simp
  · rw [List.getElem_reverse]
    have := hz j _ hj (List.getElem?_eq_getElem (by omega))
    simpa using this
set_option maxRecDepth 100000 in
set_option maxHeartbeats 4000000 in
theorem sloc_row (L : List ByteArray) (hL : L.length ≤ 200000) (s : ByteArray) : Row Try.prog 132 [vNs' L, vS s] [] (vI (match locS L s with | some n => (n : Nat) | none => -1)) [] := by
  obtain ⟨R, hR⟩ : ∃ R : Int, (match locS L s with | some n => ((n : Nat) : Int) | none => -1) = R := ⟨_, rfl⟩
  rw [hR]
  have hno : locS L s = none → R = -1 := fun h => by rw [← hR, h]
  have hyes : ∀ k : Nat, locS L s = some k → R = (k : Nat) := fun k h => by rw [← hR, h]
  clear hR
  refine row_of Try.func132 rfl rfl (Nat.le_of_ble_eq_true rfl) ?_
  repeat (first | refine aw_seq ?_ | refine aw_skip ?_ | refine aw_block ?_ | refine aw_exit ?_ | refine aw_ct rfl ?_ | refine aw_cf rfl ?_ | ((first | refine aw_reg (fun K hK => ?_) | refine aw_drw mixd (fun K hK => ?_) | fail); simp -implicitDefEqProofs; first | refine hK _ ?_ | refine hK _ _ (by rfl) ?_ | fail) | fail)
  refine aw_lp (ι := Nat) (fun k => mkSt [(0, vNs' L), (1, vS s), (5, vI (k : Nat))] []) (fun k => k ≤ L.length ∧ ∀ j t, j < k → L[L.length - 1 - j]? = some t → t ≠ s) (fun k => L.length - k) 0 ⟨Nat.zero_le _, fun j y h => by omega⟩ (cov_intro [] (by simp -implicitDefEqProofs) (by simp -implicitDefEqProofs) (by decide) rfl (by simp)) (fun Z hI k hk => ?_)
  obtain ⟨hk, hz⟩ := hk
  by_cases hkl : k < L.length; rotate_left
  · have : k = L.length := by omega
    subst this
    have hR := hno (by
      unfold locS
      rw [List.findIdx?_eq_none_iff]
      intro y hm
      obtain ⟨j, hj⟩ := List.mem_iff_getElem?.1 (List.mem_reverse.1 hm)
      have hjl := (List.getElem?_eq_some_iff.1 hj).1
      have := hz (L.length - 1 - j) y (by omega) (by rw [show L.length - 1 - (L.length - 1 - j) = j by omega]; exact hj)
      simpa using this)
    subst hR
    repeat (first | refine aw_seq ?_ | refine aw_skip ?_ | refine aw_block ?_ | refine aw_exit ?_ | refine aw_ct rfl ?_ | refine aw_cf rfl ?_ | ((first | refine aw_reg (fun K hK => ?_) | refine aw_drw mixd (fun K hK => ?_) | fail); simp -implicitDefEqProofs; first | refine hK _ ?_ | refine hK _ _ (by rfl) ?_ | fail) | fail)
    refine aw_ret (fin_ret ?_); simp -implicitDefEqProofs [FinP, resV, resT] <;> try rfl
  obtain ⟨i, hi⟩ : ∃ i, L.length - 1 - k = i := ⟨_, rfl⟩
  obtain ⟨a, ha⟩ : ∃ a, L[i]? = some a := ⟨_, List.getElem?_eq_getElem (by omega)⟩
  have ha' := (List.getElem?_eq_some_iff.1 ha).2
  have hil := (List.getElem?_eq_some_iff.1 ha).1
  have w1 : IntKind.i64.wrap ((L.length : Nat) - 1 : Int) = (L.length : Nat) - 1 := i64i _ (by omega) (by omega)
  have w3 : IntKind.i64.wrap ((L.length : Nat) - 1 - (k : Nat) : Int) = (i : Nat) := by rw [i64i _ (by omega) (by omega)]; omega
  have w2 : IntKind.i64.wrap ((k : Nat) + 1 : Int) = (k : Nat) + 1 := i64i _ (by omega) (by omega)
  by_cases c : a = s
  · have hR := hyes k (locS_at hkl (by rw [hi, ha, c]) hz)
    subst hR
    repeat (first | refine aw_seq ?_ | refine aw_skip ?_ | refine aw_block ?_ | refine aw_exit ?_ | refine aw_ct rfl ?_ | refine aw_cf rfl ?_ | ((first | refine aw_reg (fun K hK => ?_) | refine aw_drw mixd (fun K hK => ?_) | fail); simp -implicitDefEqProofs [hkl, hil, ha, ha', c, w1, w3]; first | refine hK _ ?_ | refine hK _ _ (by rfl) ?_ | fail) | fail)
    refine aw_ret (fin_ret ?_); simp -implicitDefEqProofs [FinP, resV, resT] <;> try rfl
  · repeat (first | refine aw_seq ?_ | refine aw_skip ?_ | refine aw_block ?_ | refine aw_exit ?_ | refine aw_ct rfl ?_ | refine aw_cf rfl ?_ | ((first | refine aw_reg (fun K hK => ?_) | refine aw_drw mixd (fun K hK => ?_) | fail); simp -implicitDefEqProofs [hkl, hil, ha, ha', c, w1, w2, w3]; first | refine hK _ ?_ | refine hK _ _ (by rfl) ?_ | fail) | fail)
    refine ⟨k + 1, ⟨by omega, fun j y h1 h2 => ?_⟩, (by dsimp only; omega), ?_⟩
    · by_cases hj : j = k
      · subst hj; rw [hi, ha] at h2; cases h2; exact c
      · exact hz j y (by omega) h2
    · rw [hI]; exact cov_intro [] (by simp -implicitDefEqProofs) (by simp -implicitDefEqProofs) (by decide) rfl (by simp)
set_option maxRecDepth 100000 in
set_option maxHeartbeats 4000000 in
theorem sbad_row (x : Lab) (l : List VT) (e : Int) : Row Try.prog 122 [vT (.mk x l), vI e] [] (vSg (badS x e)) [] := by
  unfold badS
  refine row_of Try.func122 rfl rfl (Nat.le_of_ble_eq_true rfl) ?_
  repeat (first | refine aw_seq ?_ | refine aw_skip ?_ | refine aw_block ?_ | refine aw_exit ?_ | refine aw_ct rfl ?_ | refine aw_cf rfl ?_ | ((first | refine aw_reg (fun K hK => ?_) | refine aw_drw mixd (fun K hK => ?_) | fail); simp -implicitDefEqProofs; first | refine hK _ ?_ | refine hK _ _ (by rfl) ?_ | fail) | fail)
  refine aw_ret (fin_ret ?_); simp -implicitDefEqProofs [FinP, resV, resT] <;> try rfl
set_option maxRecDepth 100000 in
set_option maxHeartbeats 4000000 in
theorem smore_row (L : List ByteArray) (hL : L.length ≤ 200000) (x : Lab) (l : List VT) : Row Try.prog 123 [vNs' L, vT (.mk x l)] [] (vNs' (moreS L (.mk x l))) [] := by
  have b1 : (L.length + 1) * 16 ≤ 140737488355328 := by omega
  have b2 : L.length + 1 ≤ 140737488355328 := by omega
  have b3 : L.length * 16 ≤ 140737488355328 := by omega
  have b4 : L.length ≤ 140737488355328 := by omega
  unfold moreS
  rw [Tr.lab]
  by_cases h20 : x.k = 20
  · rw [if_pos (.inl h20)]
    refine row_of Try.func123 rfl rfl (Nat.le_of_ble_eq_true rfl) ?_
    repeat (first | refine aw_seq ?_ | refine aw_skip ?_ | refine aw_block ?_ | refine aw_exit ?_ | refine aw_ct rfl ?_ | refine aw_cf rfl ?_ | ((first | refine aw_reg (fun K hK => ?_) | refine aw_drw mixd (fun K hK => ?_) | fail); simp -implicitDefEqProofs [h20, b1, b2, b3, b4]; first | refine hK _ ?_ | refine hK _ _ (by rfl) ?_ | fail) | fail)
    refine aw_ret (fin_ret ?_); simp -implicitDefEqProofs [FinP, resV, resT] <;> try rfl
  by_cases h21 : x.k = 21
  · rw [if_pos (.inr h21)]
    refine row_of Try.func123 rfl rfl (Nat.le_of_ble_eq_true rfl) ?_
    repeat (first | refine aw_seq ?_ | refine aw_skip ?_ | refine aw_block ?_ | refine aw_exit ?_ | refine aw_ct rfl ?_ | refine aw_cf rfl ?_ | ((first | refine aw_reg (fun K hK => ?_) | refine aw_drw mixd (fun K hK => ?_) | fail); simp -implicitDefEqProofs [h20, h21, b1, b2, b3, b4]; first | refine hK _ ?_ | refine hK _ _ (by rfl) ?_ | fail) | fail)
    refine aw_ret (fin_ret ?_); simp -implicitDefEqProofs [FinP, resV, resT] <;> try rfl
  · rw [if_neg (by omega)]
    refine row_of Try.func123 rfl rfl (Nat.le_of_ble_eq_true rfl) ?_
    repeat (first | refine aw_seq ?_ | refine aw_skip ?_ | refine aw_block ?_ | refine aw_exit ?_ | refine aw_ct rfl ?_ | refine aw_cf rfl ?_ | ((first | refine aw_reg (fun K hK => ?_) | refine aw_drw mixd (fun K hK => ?_) | fail); simp -implicitDefEqProofs [h20, h21]; first | refine hK _ ?_ | refine hK _ _ (by rfl) ?_ | fail) | fail)
    refine aw_ret (fin_ret ?_); simp -implicitDefEqProofs [FinP, resV, resT] <;> try rfl
set_option maxRecDepth 100000 in
set_option maxHeartbeats 4000000 in
theorem srname_row (mx : Lab) (ml : List VT) (hml : ml.length ≤ 100000) (L : List ByteArray) (hL : L.length ≤ 200000) (x : Lab) (l : List VT) : Row Try.prog 120 [vT (.mk mx ml), vNs' L, vT (.mk x l)] [] (vSg (namS ml L x)) [] := by
  have h1 := sloc_row L hL x.s
  have h2 := skind_row mx ml hml x.s
  have h3 := sdecl_row mx ml hml x.s
  have h4 := sbad_row x l 8
  unfold namS
  cases hq : locS L x.s with
  | some n =>
    rw [hq] at h1
    dsimp only at h1 ⊢
    have p0 : (0 : Int) ≤ (n : Nat) := by omega
    have hn : n < L.length := by
      unfold locS at hq
      have := (List.findIdx?_eq_some_iff_findIdx_eq.1 hq).1
      simpa using this
    have w1 : IntKind.i64.wrap ((n : Nat) : Int) = (n : Nat) := i64i _ (by omega) (by omega)
    refine row_of Try.func120 rfl rfl (Nat.le_of_ble_eq_true rfl) ?_
    repeat' (first | refine aw_seq ?_ | refine aw_skip ?_ | refine aw_block ?_ | refine aw_exit ?_ | refine aw_ct rfl ?_ | refine aw_cf rfl ?_ | ((first | refine aw_reg (fun K hK => ?_) | refine aw_drw mixd (fun K hK => ?_) | refine ar_call (cp h1 ?_) | refine ard_call (dp h1 ?_) | fail); simp -implicitDefEqProofs [p0, w1]) | refine hK _ ?_ | refine hK _ _ (by rfl) ?_ | fail)
    refine aw_ret (fin_ret ?_); simp -implicitDefEqProofs [FinP, resV, resT] <;> try rfl
  | none =>
    rw [hq] at h1
    dsimp only at h1 ⊢
    have m1 : ¬ (0 : Int) ≤ -1 := by omega
    by_cases k31 : kndI ml x.s = 31
    · rw [k31] at h2
      rw [if_pos k31]
      have w1 : IntKind.i64.wrap (dclI ml x.s) = dclI ml x.s := by
        unfold dclI
        split
        · rename_i i hi; have := dcl_some hi; exact i64i _ (by omega) (by omega)
        · exact i64i _ (by omega) (by omega)
      generalize dclI ml x.s = di at h3 w1 ⊢
      refine row_of Try.func120 rfl rfl (Nat.le_of_ble_eq_true rfl) ?_
      repeat' (first | refine aw_seq ?_ | refine aw_skip ?_ | refine aw_block ?_ | refine aw_exit ?_ | refine aw_ct rfl ?_ | refine aw_cf rfl ?_ | ((first | refine aw_reg (fun K hK => ?_) | refine aw_drw mixd (fun K hK => ?_) | refine ar_call (cp h1 ?_) | refine ard_call (dp h1 ?_) | refine ar_call (cp h2 ?_) | refine ard_call (dp h2 ?_) | refine ar_call (cp h3 ?_) | refine ard_call (dp h3 ?_) | fail); simp -implicitDefEqProofs [m1, w1]) | refine hK _ ?_ | refine hK _ _ (by rfl) ?_ | fail)
      refine aw_ret (fin_ret ?_); simp -implicitDefEqProofs [FinP, resV, resT] <;> try rfl
    · rw [if_neg k31]
      by_cases k32 : kndI ml x.s = 32
      · rw [k32] at h2
        rw [if_pos k32]
        have w1 : IntKind.i64.wrap (dclI ml x.s) = dclI ml x.s := by
          unfold dclI
          split
          · rename_i i hi; have := dcl_some hi; exact i64i _ (by omega) (by omega)
          · exact i64i _ (by omega) (by omega)
        generalize dclI ml x.s = di at h3 w1 ⊢
        refine row_of Try.func120 rfl rfl (Nat.le_of_ble_eq_true rfl) ?_
        repeat' (first | refine aw_seq ?_ | refine aw_skip ?_ | refine aw_block ?_ | refine aw_exit ?_ | refine aw_ct rfl ?_ | refine aw_cf rfl ?_ | ((first | refine aw_reg (fun K hK => ?_) | refine aw_drw mixd (fun K hK => ?_) | refine ar_call (cp h1 ?_) | refine ard_call (dp h1 ?_) | refine ar_call (cp h2 ?_) | refine ard_call (dp h2 ?_) | refine ar_call (cp h3 ?_) | refine ard_call (dp h3 ?_) | fail); simp -implicitDefEqProofs [m1, w1]) | refine hK _ ?_ | refine hK _ _ (by rfl) ?_ | fail)
        refine aw_ret (fin_ret ?_); simp -implicitDefEqProofs [FinP, resV, resT] <;> try rfl
      · rw [if_neg k32]
        generalize kndI ml x.s = kk at k31 k32 h2
        generalize badS x 8 = bb at h4 ⊢
        obtain ⟨⟨bx, bl⟩, bp, be⟩ := bb
        refine row_of Try.func120 rfl rfl (Nat.le_of_ble_eq_true rfl) ?_
        repeat' (first | refine aw_seq ?_ | refine aw_skip ?_ | refine aw_block ?_ | refine aw_exit ?_ | refine aw_ct rfl ?_ | refine aw_cf rfl ?_ | ((first | refine aw_reg (fun K hK => ?_) | refine aw_drw mixd (fun K hK => ?_) | refine ar_call (cp h1 ?_) | refine ard_call (dp h1 ?_) | refine ar_call (cp h2 ?_) | refine ard_call (dp h2 ?_) | refine ar_call (cp h4 ?_) | refine ard_call (dp h4 ?_) | fail); simp -implicitDefEqProofs [m1, k31, k32]) | refine hK _ ?_ | refine hK _ _ (by rfl) ?_ | fail)
        refine aw_ret (fin_ret ?_); simp -implicitDefEqProofs [FinP, resV, resT] <;> try rfl
end Go.Proofs.Ythkfdheoakbfnaa.am
end
section
namespace Go.Proofs.Ythkfdheoakbfnaa.am
open Go.ChangeShapes Go.WideShapes Go.ChangeAt Go.RowKit
open vt
set_option linter.unusedVariables false
set_option linter.unusedSimpArgs false
theorem seqT_z0 (ml : List VT) (x : Lab) (L : List ByteArray) : ∀ (l : List VT) (i : Nat) (kn : List ByteArray) (acc : List VT), (seqT ml x L i l kn acc).er ≠ 0 → (seqT ml x L i l kn acc).t = z0T
  | [], i, kn, acc, h => absurd rfl h
  | y :: r, i, kn, acc, h => by
    unfold seqT at h ⊢
    split
    · rfl
    · rename_i c; rw [if_neg c] at h; exact seqT_z0 ml x L r _ _ _ h
theorem any_z0 (ml : List VT) (t : VT) (L : List ByteArray) (h : (anyT ml t L).er ≠ 0) : (anyT ml t L).t = z0T := by
  obtain ⟨x, l⟩ := t
  rw [anyT_mk] at h ⊢
  split
  · rename_i c
    rw [if_pos c] at h
    unfold namS at h ⊢
    split
    · rename_i n e; rw [e] at h; exact absurd rfl h
    · rename_i e
      rw [e] at h
      dsimp only at h
      split
      · rename_i k1; rw [if_pos k1] at h; exact absurd rfl h
      · rename_i k1
        rw [if_neg k1] at h
        split
        · rename_i k2; rw [if_pos k2] at h; exact absurd rfl h
        · rfl
  · rename_i c
    rw [if_neg c] at h
    split
    · rfl
    · rename_i d; rw [if_neg d] at h; exact seqT_z0 ml x L _ _ _ _ h
theorem len_size2' {x : Lab} {l : List VT} {y : VT} (h : y ∈ l) : l.length + y.size ≤ Tr.size (Tr.mk x l) := by
  rw [Tr.size_mk]
  induction l with
  | nil => cases h
  | cons z l ih =>
    have hz := Tr.size_pos z
    have hl : l.length ≤ (l.map Tr.size).sum := by
      clear ih h
      induction l with
      | nil => simp
      | cons u l ih => have := Tr.size_pos u; simp; omega
    rcases List.mem_cons.1 h with rfl | h
    · simp; omega
    · have := ih h
      simp at this ⊢; omega
abbrev obS (o : Lab) (l : List (List PV)) : AO := .box [.pv (I o.k), .pv (I o.n), .pv (Sx o.s), .row 4 6 l, .pv (I o.f), .pv (I o.t)]
set_option maxRecDepth 100000 in
set_option maxHeartbeats 4000000 in
theorem srany_row (mx : Lab) (ml : List VT) (hml : ml.length ≤ 100000) (t : VT) : ∀ L : List ByteArray, L.length + t.size ≤ 100000 → Row Try.prog 74 [vT (.mk mx ml), vNs' L, vT t] [] (vSg (anyT ml t L)) [] := by
  induction t using Tr.ind with
  | h x l ih =>
  intro L hsz
  have hlen := Tr.len_size (x := x) (l := l)
  rw [anyT_mk]
  by_cases k19 : x.k = 19
  · rw [if_pos k19]
    have hn := srname_row mx ml hml L (by omega) x l
    generalize namS ml L x = g at hn ⊢
    obtain ⟨⟨gx, gl⟩, gp, ge⟩ := g
    refine row_of Try.func74 rfl rfl (Nat.le_of_ble_eq_true rfl) ?_
    repeat' (first | refine aw_seq ?_ | refine aw_skip ?_ | refine aw_block ?_ | refine aw_exit ?_ | refine aw_ct rfl ?_ | refine aw_cf rfl ?_ | ((first | refine aw_reg (fun K hK => ?_) | refine aw_drw mixd (fun K hK => ?_) | refine ar_call (cp hn ?_) | refine ard_call (dp hn ?_) | fail); simp -implicitDefEqProofs [k19]) | refine hK _ ?_ | refine hK _ _ (by rfl) ?_ | fail)
    refine aw_ret (fin_ret ?_); simp -implicitDefEqProofs [FinP, resV, resT] <;> try rfl
  rw [if_neg k19]
  have hkd := skind_row mx ml hml x.s
  have hdc := sdecl_row mx ml hml x.s
  have hbd := sbad_row x l 8
  have hdw : IntKind.i64.wrap (dclI ml x.s) = dclI ml x.s := by
    unfold dclI
    split
    · rename_i i hi; have := dcl_some hi; exact i64i _ (by omega) (by omega)
    · exact i64i _ (by omega) (by omega)
  have oK : (outS ml x).k = x.k := rfl
  have oF : (outS ml x).f = x.f := rfl
  have oT : (outS ml x).t = x.t := rfl
  have oS : (outS ml x).s = if x.k = 13 ∨ x.k = 17 then x.s else ⟨#[]⟩ := rfl
  have oN : (outS ml x).n = if x.k = 16 ∨ x.k = 15 ∨ x.k = 4 then dclI ml x.s else x.n := rfl
  have hW : wrgS ml x = ((decide (x.k = 16) && !decide (kndI ml x.s = 33)) || ((decide (x.k = 15) || decide (x.k = 4)) && !decide (kndI ml x.s = 30))) := rfl
  obtain ⟨o, ho⟩ : ∃ o, outS ml x = o := ⟨_, rfl⟩
  obtain ⟨R, hR⟩ : ∃ R, (if wrgS ml x = true then badS x 8 else seqT ml x L 0 l L []) = R := ⟨_, rfl⟩
  rw [hR]
  have hR1 : wrgS ml x = true → R = badS x 8 := fun h => by rw [← hR, if_pos h]
  have hR2 : wrgS ml x = false → seqT ml x L 0 l L [] = R := fun h => by rw [← hR, h]; simp
  clear hR
  rw [ho] at oK oF oT oS oN
  generalize dclI ml x.s = di at hdc hdw oN
  generalize kndI ml x.s = kk at hkd hW
  refine row_of Try.func74 rfl rfl (Nat.le_of_ble_eq_true rfl) ?_
  refine aw_seq ?_; (first | refine aw_reg (fun K hK => ?_) | refine aw_drw mixd (fun K hK => ?_) | fail); simp -implicitDefEqProofs; repeat' (first | refine hK _ ?_ | refine hK _ _ (by rfl) ?_ | ((first | fail); simp -implicitDefEqProofs) | fail)
  refine aw_seq ?_
  refine aw_seq ?_; (first | refine aw_reg (fun K hK => ?_) | refine aw_drw mixd (fun K hK => ?_) | fail); simp -implicitDefEqProofs [k19]; repeat' (first | refine hK _ ?_ | refine hK _ _ (by rfl) ?_ | ((first | fail); simp -implicitDefEqProofs [k19]) | fail)
  refine aw_cf rfl ?_
  refine aw_skip ?_
  refine aw_seq ?_; (first | refine aw_reg (fun K hK => ?_) | refine aw_drw mixd (fun K hK => ?_) | fail); simp -implicitDefEqProofs; repeat' (first | refine hK _ ?_ | refine hK _ _ (by rfl) ?_ | ((first | fail); simp -implicitDefEqProofs) | fail)
  refine aw_meet (ι := Unit) (fun _ => mkSt [(1, vNs' L), (3, .v (.c (.ptr 0 0))), (5, .v (.c (.ptr 1 0))), (6, .v (.c (.ptr 2 0))), (7, .v (.c (.ptr 3 0)))] [some (.box (ta (.mk mx ml))), some (.box (ta (.mk x l))), some zGb, some (obS ⟨x.k, x.n, o.s, x.f, x.t⟩ []), some (.row 25 6)]) (fun _ => True) (fun Z hI => ?_) (fun _ _ => ?_)
  · by_cases k13 : x.k = 13
    · rw [if_pos (.inl k13)] at oS
      repeat (first | refine aw_seq ?_ | refine aw_skip ?_ | refine aw_block ?_ | refine aw_exit ?_ | refine aw_ct rfl ?_ | refine aw_cf rfl ?_ | ((first | refine aw_reg (fun K hK => ?_) | refine aw_drw mixd (fun K hK => ?_) | fail); simp -implicitDefEqProofs [k13]; first | refine hK _ ?_ | refine hK _ _ (by rfl) ?_ | fail) | fail)
      refine ⟨(), (by trivial), ?_⟩; rw [hI]; exact cov_intro [0, 1, 2, 16, 10] (by simp -implicitDefEqProofs [k13, oS]) (by simp -implicitDefEqProofs [k13, oS]) (by decide) rfl (by simp)
    by_cases k17 : x.k = 17
    · rw [if_pos (.inr k17)] at oS
      repeat (first | refine aw_seq ?_ | refine aw_skip ?_ | refine aw_block ?_ | refine aw_exit ?_ | refine aw_ct rfl ?_ | refine aw_cf rfl ?_ | ((first | refine aw_reg (fun K hK => ?_) | refine aw_drw mixd (fun K hK => ?_) | fail); simp -implicitDefEqProofs [k13, k17]; first | refine hK _ ?_ | refine hK _ _ (by rfl) ?_ | fail) | fail)
      refine ⟨(), (by trivial), ?_⟩; rw [hI]; exact cov_intro [0, 1, 2, 16, 10] (by simp -implicitDefEqProofs [k17, oS]) (by simp -implicitDefEqProofs [k17, oS]) (by decide) rfl (by simp)
    · rw [if_neg (by omega)] at oS
      repeat (first | refine aw_seq ?_ | refine aw_skip ?_ | refine aw_block ?_ | refine aw_exit ?_ | refine aw_ct rfl ?_ | refine aw_cf rfl ?_ | ((first | refine aw_reg (fun K hK => ?_) | refine aw_drw mixd (fun K hK => ?_) | fail); simp -implicitDefEqProofs [k13, k17]; first | refine hK _ ?_ | refine hK _ _ (by rfl) ?_ | fail) | fail)
      refine ⟨(), (by trivial), ?_⟩; rw [hI]; exact cov_intro [0, 1, 2, 16, 10] (by simp -implicitDefEqProofs [oS]) (by simp -implicitDefEqProofs [oS]) (by decide) rfl (by simp)
  refine aw_meet (ι := Unit) (fun _ => mkSt [(1, vNs' L), (3, .v (.c (.ptr 0 0))), (5, .v (.c (.ptr 1 0))), (6, .v (.c (.ptr 2 0))), (7, .v (.c (.ptr 3 0)))] [some (.box (ta (.mk mx ml))), some (.box (ta (.mk x l))), some zGb, some (obS ⟨x.k, x.n, o.s, x.f, x.t⟩ []), some (.row 25 6)]) (fun _ => wrgS ml x = false) (fun Z hI => ?_) (fun _ hwf => ?_)
  · by_cases k16 : x.k = 16
    · by_cases c : kk = 33
      · have hf : wrgS ml x = false := by rw [hW]; simp [k16, c]
        subst c
        repeat' (first | refine aw_seq ?_ | refine aw_skip ?_ | refine aw_block ?_ | refine aw_exit ?_ | refine aw_ct rfl ?_ | refine aw_cf rfl ?_ | ((first | refine aw_reg (fun K hK => ?_) | refine aw_drw mixd (fun K hK => ?_) | refine ar_call (cp hkd ?_) | refine ard_call (dp hkd ?_) | fail); simp -implicitDefEqProofs [k16]) | refine hK _ ?_ | refine hK _ _ (by rfl) ?_ | fail)
        refine ⟨(), hf, ?_⟩
        rw [hI]; exact cov_intro [0, 1, 2, 3, 4] (by simp -implicitDefEqProofs [k16]) (by simp -implicitDefEqProofs [k16]) (by decide) rfl (by simp)
      · have hR := hR1 (by rw [hW]; simp [k16, c])
        subst hR
        unfold badS at hbd ⊢
        repeat' (first | refine aw_seq ?_ | refine aw_skip ?_ | refine aw_block ?_ | refine aw_exit ?_ | refine aw_ct rfl ?_ | refine aw_cf rfl ?_ | ((first | refine aw_reg (fun K hK => ?_) | refine aw_drw mixd (fun K hK => ?_) | refine ar_call (cp hkd ?_) | refine ard_call (dp hkd ?_) | refine ar_call (cp hbd ?_) | refine ard_call (dp hbd ?_) | fail); simp -implicitDefEqProofs [k16, c]) | refine hK _ ?_ | refine hK _ _ (by rfl) ?_ | fail)
        refine aw_ret (fin_ret ?_); simp -implicitDefEqProofs [FinP, resV, resT] <;> try rfl
    by_cases k15 : x.k = 15
    · by_cases c : kk = 30
      · have hf : wrgS ml x = false := by rw [hW]; simp [k15, c]
        subst c
        repeat' (first | refine aw_seq ?_ | refine aw_skip ?_ | refine aw_block ?_ | refine aw_exit ?_ | refine aw_ct rfl ?_ | refine aw_cf rfl ?_ | ((first | refine aw_reg (fun K hK => ?_) | refine aw_drw mixd (fun K hK => ?_) | refine ar_call (cp hkd ?_) | refine ard_call (dp hkd ?_) | fail); simp -implicitDefEqProofs [k15]) | refine hK _ ?_ | refine hK _ _ (by rfl) ?_ | fail)
        refine ⟨(), hf, ?_⟩
        rw [hI]; exact cov_intro [0, 1, 2, 3, 4] (by simp -implicitDefEqProofs [k15]) (by simp -implicitDefEqProofs [k15]) (by decide) rfl (by simp)
      · have hR := hR1 (by rw [hW]; simp [k15, c])
        subst hR
        unfold badS at hbd ⊢
        repeat' (first | refine aw_seq ?_ | refine aw_skip ?_ | refine aw_block ?_ | refine aw_exit ?_ | refine aw_ct rfl ?_ | refine aw_cf rfl ?_ | ((first | refine aw_reg (fun K hK => ?_) | refine aw_drw mixd (fun K hK => ?_) | refine ar_call (cp hkd ?_) | refine ard_call (dp hkd ?_) | refine ar_call (cp hbd ?_) | refine ard_call (dp hbd ?_) | fail); simp -implicitDefEqProofs [k15, c]) | refine hK _ ?_ | refine hK _ _ (by rfl) ?_ | fail)
        refine aw_ret (fin_ret ?_); simp -implicitDefEqProofs [FinP, resV, resT] <;> try rfl
    by_cases k4 : x.k = 4
    · by_cases c : kk = 30
      · have hf : wrgS ml x = false := by rw [hW]; simp [k4, c]
        subst c
        repeat' (first | refine aw_seq ?_ | refine aw_skip ?_ | refine aw_block ?_ | refine aw_exit ?_ | refine aw_ct rfl ?_ | refine aw_cf rfl ?_ | ((first | refine aw_reg (fun K hK => ?_) | refine aw_drw mixd (fun K hK => ?_) | refine ar_call (cp hkd ?_) | refine ard_call (dp hkd ?_) | fail); simp -implicitDefEqProofs [k4]) | refine hK _ ?_ | refine hK _ _ (by rfl) ?_ | fail)
        refine ⟨(), hf, ?_⟩
        rw [hI]; exact cov_intro [0, 1, 2, 3, 4] (by simp -implicitDefEqProofs [k4]) (by simp -implicitDefEqProofs [k4]) (by decide) rfl (by simp)
      · have hR := hR1 (by rw [hW]; simp [k4, c])
        subst hR
        unfold badS at hbd ⊢
        repeat' (first | refine aw_seq ?_ | refine aw_skip ?_ | refine aw_block ?_ | refine aw_exit ?_ | refine aw_ct rfl ?_ | refine aw_cf rfl ?_ | ((first | refine aw_reg (fun K hK => ?_) | refine aw_drw mixd (fun K hK => ?_) | refine ar_call (cp hkd ?_) | refine ard_call (dp hkd ?_) | refine ar_call (cp hbd ?_) | refine ard_call (dp hbd ?_) | fail); simp -implicitDefEqProofs [k4, c]) | refine hK _ ?_ | refine hK _ _ (by rfl) ?_ | fail)
        refine aw_ret (fin_ret ?_); simp -implicitDefEqProofs [FinP, resV, resT] <;> try rfl
    · have hf : wrgS ml x = false := by rw [hW]; simp [k16, k15, k4]
      repeat' (first | refine aw_seq ?_ | refine aw_skip ?_ | refine aw_block ?_ | refine aw_exit ?_ | refine aw_ct rfl ?_ | refine aw_cf rfl ?_ | ((first | refine aw_reg (fun K hK => ?_) | refine aw_drw mixd (fun K hK => ?_) | refine ar_call (cp hkd ?_) | refine ard_call (dp hkd ?_) | fail); simp -implicitDefEqProofs [k16, k15, k4]) | refine hK _ ?_ | refine hK _ _ (by rfl) ?_ | fail)
      refine ⟨(), hf, ?_⟩
      rw [hI]; exact cov_intro [0, 1, 2, 3, 4] (by simp -implicitDefEqProofs) (by simp -implicitDefEqProofs) (by decide) rfl (by simp)
  have hR := hR2 hwf
  clear hR1 hR2 hW hwf hkd hbd
  refine aw_meet (ι := Unit) (fun _ => mkSt [(1, vNs' L), (3, .v (.c (.ptr 0 0))), (5, .v (.c (.ptr 1 0))), (6, .v (.c (.ptr 2 0))), (7, .v (.c (.ptr 3 0)))] [some (.box (ta (.mk mx ml))), some (.box (ta (.mk x l))), some zGb, some (obS o []), some (.row 25 6)]) (fun _ => True) (fun Z hI => ?_) (fun _ _ => ?_)
  · by_cases k16 : x.k = 16
    · rw [if_pos (.inl k16)] at oN
      repeat' (first | refine aw_seq ?_ | refine aw_skip ?_ | refine aw_block ?_ | refine aw_exit ?_ | refine aw_ct rfl ?_ | refine aw_cf rfl ?_ | ((first | refine aw_reg (fun K hK => ?_) | refine aw_drw mixd (fun K hK => ?_) | refine ar_call (cp hdc ?_) | refine ard_call (dp hdc ?_) | fail); simp -implicitDefEqProofs [k16, hdw]) | refine hK _ ?_ | refine hK _ _ (by rfl) ?_ | fail)
      refine ⟨(), (by trivial), ?_⟩
      rw [hI]; exact cov_intro [0, 1, 2, 3, 4] (by simp -implicitDefEqProofs [oK, oF, oT, oN, k16]) (by simp -implicitDefEqProofs [oK, oF, oT, oN, k16]) (by decide) rfl (by simp)
    by_cases k15 : x.k = 15
    · rw [if_pos (.inr (.inl k15))] at oN
      repeat' (first | refine aw_seq ?_ | refine aw_skip ?_ | refine aw_block ?_ | refine aw_exit ?_ | refine aw_ct rfl ?_ | refine aw_cf rfl ?_ | ((first | refine aw_reg (fun K hK => ?_) | refine aw_drw mixd (fun K hK => ?_) | refine ar_call (cp hdc ?_) | refine ard_call (dp hdc ?_) | fail); simp -implicitDefEqProofs [k15, hdw]) | refine hK _ ?_ | refine hK _ _ (by rfl) ?_ | fail)
      refine ⟨(), (by trivial), ?_⟩
      rw [hI]; exact cov_intro [0, 1, 2, 3, 4] (by simp -implicitDefEqProofs [oK, oF, oT, oN, k15]) (by simp -implicitDefEqProofs [oK, oF, oT, oN, k15]) (by decide) rfl (by simp)
    by_cases k4 : x.k = 4
    · rw [if_pos (.inr (.inr k4))] at oN
      repeat' (first | refine aw_seq ?_ | refine aw_skip ?_ | refine aw_block ?_ | refine aw_exit ?_ | refine aw_ct rfl ?_ | refine aw_cf rfl ?_ | ((first | refine aw_reg (fun K hK => ?_) | refine aw_drw mixd (fun K hK => ?_) | refine ar_call (cp hdc ?_) | refine ard_call (dp hdc ?_) | fail); simp -implicitDefEqProofs [k4, hdw]) | refine hK _ ?_ | refine hK _ _ (by rfl) ?_ | fail)
      refine ⟨(), (by trivial), ?_⟩
      rw [hI]; exact cov_intro [0, 1, 2, 3, 4] (by simp -implicitDefEqProofs [oK, oF, oT, oN, k4]) (by simp -implicitDefEqProofs [oK, oF, oT, oN, k4]) (by decide) rfl (by simp)
    · rw [if_neg (by omega)] at oN
      repeat' (first | refine aw_seq ?_ | refine aw_skip ?_ | refine aw_block ?_ | refine aw_exit ?_ | refine aw_ct rfl ?_ | refine aw_cf rfl ?_ | ((first | refine aw_reg (fun K hK => ?_) | refine aw_drw mixd (fun K hK => ?_) | refine ar_call (cp hdc ?_) | refine ard_call (dp hdc ?_) | fail); simp -implicitDefEqProofs [k16, k15, k4]) | refine hK _ ?_ | refine hK _ _ (by rfl) ?_ | fail)
      refine ⟨(), (by trivial), ?_⟩
      rw [hI]; exact cov_intro [0, 1, 2, 3, 4] (by simp -implicitDefEqProofs [oK, oF, oT, oN]) (by simp -implicitDefEqProofs [oK, oF, oT, oN]) (by decide) rfl (by simp)
  clear hdc hdw oS oN oF oT
  repeat (first | refine aw_seq ?_ | refine aw_skip ?_ | refine aw_block ?_ | refine aw_exit ?_ | refine aw_ct rfl ?_ | refine aw_cf rfl ?_ | ((first | refine aw_reg (fun K hK => ?_) | refine aw_drw mixd (fun K hK => ?_) | fail); simp -implicitDefEqProofs; first | refine hK _ ?_ | refine hK _ _ (by rfl) ?_ | fail) | fail)
  refine aw_lp (ι := Nat × List ByteArray × List VT) (fun z => mkSt [(1, vNs' L), (3, .v (.c (.ptr 0 0))), (5, .v (.c (.ptr 1 0))), (6, .v (.c (.ptr 2 0))), (7, .v (.c (.ptr 3 0))), (8, vNs' z.2.1), (9, vI (z.1 : Nat))] [some (.box (ta (.mk mx ml))), some (.box (ta (.mk x l))), some zGb, some (.box [.pv (I o.k), .pv (I o.n), .pv (Sx o.s), .row 4 6 (z.2.2.map tc), .pv (I o.f), .pv (I o.t)]), some (.row 25 6)]) (fun z => z.1 ≤ l.length ∧ seqT ml x L z.1 (l.drop z.1) z.2.1 z.2.2 = R ∧ z.2.2.length = z.1 ∧ z.2.1.length ≤ L.length + z.1 + 1) (fun z => l.length - z.1) (0, L, []) ⟨Nat.zero_le _, hR, rfl, by dsimp only; omega⟩ (cov_intro [0, 1, 2, 3, 4] (by simp -implicitDefEqProofs) (by simp -implicitDefEqProofs) (by decide) rfl (by simp)) (fun Z hI z hz => ?_)
  obtain ⟨k, kn, acc⟩ := z
  obtain ⟨hk, hRk, hacc, hkn⟩ := hz
  dsimp only at hk hRk hacc hkn ⊢
  by_cases hkl : k < l.length; rotate_left
  · have : k = l.length := by omega
    subst this
    rw [List.drop_length] at hRk
    unfold seqT at hRk
    rw [ho] at hRk
    subst hRk
    repeat (first | refine aw_seq ?_ | refine aw_skip ?_ | refine aw_block ?_ | refine aw_exit ?_ | refine aw_ct rfl ?_ | refine aw_cf rfl ?_ | ((first | refine aw_reg (fun K hK => ?_) | refine aw_drw mixd (fun K hK => ?_) | fail); simp -implicitDefEqProofs; first | refine hK _ ?_ | refine hK _ _ (by rfl) ?_ | fail) | fail)
    refine aw_ret (fin_ret ?_); simp -implicitDefEqProofs [FinP, resV, resT] <;> try rfl
  obtain ⟨⟨ax, al⟩, ha⟩ : ∃ a, l[k]? = some a := ⟨_, List.getElem?_eq_getElem hkl⟩
  have ha' := (List.getElem?_eq_some_iff.1 ha).2
  have hs2 := len_size2' (x := x) (List.mem_of_getElem? ha)
  have w2 : IntKind.i64.wrap ((k : Nat) + 1 : Int) = (k : Nat) + 1 := i64i _ (by omega) (by omega)
  rw [List.drop_eq_getElem_cons hkl, ha'] at hRk
  unfold seqT at hRk
  obtain ⟨kn', hkn'⟩ : ∃ q, knwS x L k kn = q := ⟨_, rfl⟩
  rw [hkn'] at hRk
  have hknl : kn'.length ≤ L.length + k + 1 := by
    rw [← hkn']; unfold knwS
    split
    · rw [List.length_append, List.length_singleton]; omega
    · exact hkn
  have hc := ih _ (List.mem_of_getElem? ha) kn' (by omega)
  have hz0 := any_z0 ml (.mk ax al) kn'
  have hplz := any_pl ml (.mk ax al) kn'
  generalize anyT ml (.mk ax al) kn' = g at hc hz0 hplz hRk
  obtain ⟨⟨gx, gl⟩, gp, ge⟩ := g
  dsimp only at hz0 hplz hRk
  have b1 : (k + 1) * 72 ≤ 140737488355328 := by omega
  have b2 : k + 1 ≤ 140737488355328 := by omega
  have b3 : (L.length + 1) * 16 ≤ 140737488355328 := by omega
  have b4 : L.length + 1 ≤ 140737488355328 := by omega
  have b5 : L.length * 16 ≤ 140737488355328 := by omega
  have b6 : L.length ≤ 140737488355328 := by omega
  have hmr := smore_row kn' (by omega) ax al
  have hml2 : (moreS kn' (.mk ax al)).length ≤ kn'.length + 1 := by unfold moreS; split <;> simp
  have hkq : x.k ≠ 25 → kn' = kn := fun h => by rw [← hkn']; unfold knwS; rw [if_neg (fun c => h c.1)]
  have hkq2 : x.k = 25 → k ≠ 2 → kn' = kn := fun _ h => by rw [← hkn']; unfold knwS; rw [if_neg (fun c => h c.2)]
  have hkq3 : x.k = 25 → k = 2 → kn' = L ++ [x.s] := fun h1 h2 => by rw [← hkn']; unfold knwS; rw [if_pos ⟨h1, h2⟩]
  clear hkn' ih
  by_cases hge : ge = 0
  · subst hge
    have hpz := hplz rfl
    subst hpz
    rw [if_neg (by simp)] at hRk
    clear hz0 hplz
    by_cases k29 : x.k = 29
    · have hkk := hkq (by omega)
      subst hkk
      unfold knxS at hRk
      rw [if_pos k29] at hRk
      repeat' (first | refine aw_seq ?_ | refine aw_skip ?_ | refine aw_block ?_ | refine aw_exit ?_ | refine aw_ct rfl ?_ | refine aw_cf rfl ?_ | ((first | refine aw_reg (fun K hK => ?_) | refine aw_drw mixd (fun K hK => ?_) | refine ar_call (cp hc ?_) | refine ard_call (dp hc ?_) | refine ar_call (cp hmr ?_) | refine ard_call (dp hmr ?_) | fail); simp -implicitDefEqProofs [hkl, ha, ha', k29, hacc, b1, b2, w2]) | refine hK _ ?_ | refine hK _ _ (by rfl) ?_ | fail)
      refine ⟨(k + 1, moreS kn' (.mk ax al), acc ++ [.mk gx gl]), ⟨hkl, hRk, by simp [hacc], by dsimp only; omega⟩, (by dsimp only; omega), ?_⟩
      rw [hI]; exact cov_intro [0, 1, 2, 3, 103] (by simp -implicitDefEqProofs [k29]) (by simp -implicitDefEqProofs [k29]) (by decide) rfl (by simp)
    unfold knxS at hRk
    rw [if_neg k29] at hRk
    clear hmr hml2
    by_cases k25 : x.k = 25
    · by_cases k2 : k = 2
      · have hkk := hkq3 k25 k2
        subst hkk
        have k2' : ((k : Int) = 2) = True := eq_true (by omega)
        clear hkq hkq2 hkq3
        repeat' (first | refine aw_seq ?_ | refine aw_skip ?_ | refine aw_block ?_ | refine aw_exit ?_ | refine aw_ct rfl ?_ | refine aw_cf rfl ?_ | ((first | refine aw_reg (fun K hK => ?_) | refine aw_drw mixd (fun K hK => ?_) | refine ar_call (cp hc ?_) | refine ard_call (dp hc ?_) | fail); simp -implicitDefEqProofs [hkl, ha, ha', k25, k2', hacc, b1, b2, b3, b4, b5, b6, w2]) | refine hK _ ?_ | refine hK _ _ (by rfl) ?_ | fail)
        refine ⟨(k + 1, L ++ [x.s], acc ++ [.mk gx gl]), ⟨hkl, hRk, by simp [hacc], by dsimp only; omega⟩, (by dsimp only; omega), ?_⟩
        rw [hI]; exact cov_intro [0, 1, 2, 3, 169] (by simp -implicitDefEqProofs [k25]) (by simp -implicitDefEqProofs [k25]) (by decide) rfl (by simp)
      · have hkk := hkq2 k25 k2
        subst hkk
        have k2' : ¬ (k : Int) = 2 := by omega
        clear hkq hkq2 hkq3
        repeat' (first | refine aw_seq ?_ | refine aw_skip ?_ | refine aw_block ?_ | refine aw_exit ?_ | refine aw_ct rfl ?_ | refine aw_cf rfl ?_ | ((first | refine aw_reg (fun K hK => ?_) | refine aw_drw mixd (fun K hK => ?_) | refine ar_call (cp hc ?_) | refine ard_call (dp hc ?_) | fail); simp -implicitDefEqProofs [hkl, ha, ha', k25, k2', hacc, b1, b2, w2]) | refine hK _ ?_ | refine hK _ _ (by rfl) ?_ | fail)
        refine ⟨(k + 1, kn', acc ++ [.mk gx gl]), ⟨hkl, hRk, by simp [hacc], by dsimp only; omega⟩, (by dsimp only; omega), ?_⟩
        rw [hI]; exact cov_intro [0, 1, 2, 3, 105] (by simp -implicitDefEqProofs [k25]) (by simp -implicitDefEqProofs [k25]) (by decide) rfl (by simp)
    · have hkk := hkq k25
      subst hkk
      clear hkq hkq2 hkq3
      repeat' (first | refine aw_seq ?_ | refine aw_skip ?_ | refine aw_block ?_ | refine aw_exit ?_ | refine aw_ct rfl ?_ | refine aw_cf rfl ?_ | ((first | refine aw_reg (fun K hK => ?_) | refine aw_drw mixd (fun K hK => ?_) | refine ar_call (cp hc ?_) | refine ard_call (dp hc ?_) | fail); simp -implicitDefEqProofs [hkl, ha, ha', k25, k29, hacc, b1, b2, w2]) | refine hK _ ?_ | refine hK _ _ (by rfl) ?_ | fail)
      refine ⟨(k + 1, kn', acc ++ [.mk gx gl]), ⟨hkl, hRk, by simp [hacc], by dsimp only; omega⟩, (by dsimp only; omega), ?_⟩
      rw [hI]; exact cov_intro [0, 1, 2, 3, 103] (by simp -implicitDefEqProofs) (by simp -implicitDefEqProofs) (by decide) rfl (by simp)
  · have hz := hz0 hge
    obtain ⟨rfl, rfl⟩ := (Tr.mk.injEq _ _ _ _).mp hz
    rw [if_pos hge] at hRk
    subst hRk
    clear hmr hml2 hz0 hplz hz
    by_cases k25 : x.k = 25
    · by_cases k2 : k = 2
      · have hkk := hkq3 k25 k2
        subst hkk
        have k2' : ((k : Int) = 2) = True := eq_true (by omega)
        clear hkq hkq2 hkq3
        repeat' (first | refine aw_seq ?_ | refine aw_skip ?_ | refine aw_block ?_ | refine aw_exit ?_ | refine aw_ct rfl ?_ | refine aw_cf rfl ?_ | ((first | refine aw_reg (fun K hK => ?_) | refine aw_drw mixd (fun K hK => ?_) | refine ar_call (cp hc ?_) | refine ard_call (dp hc ?_) | fail); simp -implicitDefEqProofs [hkl, ha, ha', k25, k2', hge, b3, b4, b5, b6]) | refine hK _ ?_ | refine hK _ _ (by rfl) ?_ | fail)
        refine aw_ret (fin_ret ?_); simp -implicitDefEqProofs [FinP, resV, resT] <;> try rfl
      · have hkk := hkq2 k25 k2
        subst hkk
        have k2' : ¬ (k : Int) = 2 := by omega
        clear hkq hkq2 hkq3
        repeat' (first | refine aw_seq ?_ | refine aw_skip ?_ | refine aw_block ?_ | refine aw_exit ?_ | refine aw_ct rfl ?_ | refine aw_cf rfl ?_ | ((first | refine aw_reg (fun K hK => ?_) | refine aw_drw mixd (fun K hK => ?_) | refine ar_call (cp hc ?_) | refine ard_call (dp hc ?_) | fail); simp -implicitDefEqProofs [hkl, ha, ha', k25, k2', hge]) | refine hK _ ?_ | refine hK _ _ (by rfl) ?_ | fail)
        refine aw_ret (fin_ret ?_); simp -implicitDefEqProofs [FinP, resV, resT] <;> try rfl
    · have hkk := hkq k25
      subst hkk
      clear hkq hkq2 hkq3
      repeat' (first | refine aw_seq ?_ | refine aw_skip ?_ | refine aw_block ?_ | refine aw_exit ?_ | refine aw_ct rfl ?_ | refine aw_cf rfl ?_ | ((first | refine aw_reg (fun K hK => ?_) | refine aw_drw mixd (fun K hK => ?_) | refine ar_call (cp hc ?_) | refine ard_call (dp hc ?_) | fail); simp -implicitDefEqProofs [hkl, ha, ha', k25, hge]) | refine hK _ ?_ | refine hK _ _ (by rfl) ?_ | fail)
      refine aw_ret (fin_ret ?_); simp -implicitDefEqProofs [FinP, resV, resT] <;> try rfl
end Go.Proofs.Ythkfdheoakbfnaa.am
end
section
namespace Go.Proofs.Ythkfdheoakbfnaa.am
open Go.ChangeShapes Go.WideShapes Go.ChangeAt Go.RowKit
open vt
set_option linter.unusedVariables false
set_option linter.unusedSimpArgs false
noncomputable abbrev vPr (l : List VT) (p e : Int) : AV := .tup [.c (.pv (.sl 6 (l.map tc))), .c (.pv (I p)), .c (.pv (I e))]
theorem prt_more (ml : List VT) (keep : Bool) : ∀ (l r : List VT) (seen : List ByteArray), (prtS ml keep seen l).2.2 ≠ 0 → (prtS ml keep seen (l ++ r)).2 = (prtS ml keep seen l).2
  | [], r, seen, h => absurd rfl h
  | y :: l, r, seen, h => by
    have ih := prt_more ml keep l r (seen ++ [y.lab.s])
    rw [List.cons_append]
    unfold prtS at h ⊢
    by_cases c : hasS seen y.lab.s = true
    · rw [if_pos c, if_pos c]
    rw [if_neg c] at h
    rw [if_neg c, if_neg c]
    by_cases d : (anyT ml y []).er = 0
    · have hd : ¬ (anyT ml y []).er ≠ 0 := by simpa using d
      simp only [if_neg hd] at h ⊢
      by_cases e : (prtS ml keep (seen ++ [y.lab.s]) l).2.2 = 0
      · rw [if_neg (by simpa using e)] at h; exact absurd rfl h
      · have := ih e
        have he : (prtS ml keep (seen ++ [y.lab.s]) l).2.2 ≠ 0 := e
        rw [this]
        simp only [if_pos he]
    · have hd : (anyT ml y []).er ≠ 0 := d
      simp only [if_pos hd]
theorem prt_first (ml : List VT) (keep : Bool) (l : List VT) : ∃ j, j ≤ l.length ∧ (∀ k, k ≤ j → (prtS ml keep [] (l.take k)).2.2 = 0) ∧ (j < l.length → (prtS ml keep [] (l.take (j + 1))).2.2 ≠ 0 ∧ (prtS ml keep [] l).2 = (prtS ml keep [] (l.take (j + 1))).2) := by
  have key : ∀ n, n ≤ l.length → (∀ k, k ≤ n → (prtS ml keep [] (l.take k)).2.2 = 0) ∨ ∃ j, j < n ∧ (∀ k, k ≤ j → (prtS ml keep [] (l.take k)).2.2 = 0) ∧ (prtS ml keep [] (l.take (j + 1))).2.2 ≠ 0 := by
    intro n
    induction n with
    | zero => intro _; exact .inl (fun k hk => by have : k = 0 := by omega
                                                  subst this; rfl)
    | succ n ih =>
      intro hn
      rcases ih (by omega) with h | ⟨j, h1, h2, h3⟩
      · by_cases c : (prtS ml keep [] (l.take (n + 1))).2.2 = 0
        · refine .inl (fun k hk => ?_)
          by_cases hk' : k = n + 1
          · subst hk'; exact c
          · exact h k (by omega)
        · exact .inr ⟨n, by omega, h, c⟩
      · exact .inr ⟨j, by omega, h2, h3⟩
  rcases key l.length (Nat.le_refl _) with h | ⟨j, h1, h2, h3⟩
  · exact ⟨l.length, Nat.le_refl _, h, fun h' => by omega⟩
  · refine ⟨j, by omega, h2, fun _ => ⟨h3, ?_⟩⟩
    have := prt_more ml keep (l.take (j + 1)) (l.drop (j + 1)) [] h3
    rw [List.take_append_drop] at this
    exact this
theorem prt_pl' (ml : List VT) (keep : Bool) : ∀ (l : List VT) (seen : List ByteArray), (prtS ml keep seen l).2.2 = 0 → (prtS ml keep seen l).2.1 = 0
  | [], seen, _ => rfl
  | y :: l, seen, h => by
    unfold prtS at h ⊢
    split
    · rename_i c; rw [if_pos c] at h; exact absurd (show (9 : Int) = 0 from h) (by decide)
    rename_i c; rw [if_neg c] at h
    split
    · rename_i d; rw [if_pos d] at h; exact absurd h d
    rename_i d; rw [if_neg d] at h
    split
    · rename_i e; rw [if_pos e] at h; exact absurd h e
    · rfl
theorem prt_len (ml : List VT) (keep : Bool) : ∀ (l : List VT) (seen : List ByteArray), (prtS ml keep seen l).2.2 = 0 → (prtS ml keep seen l).1.length = l.length
  | [], seen, _ => rfl
  | y :: l, seen, h => by
    unfold prtS at h ⊢
    split
    · rename_i c; rw [if_pos c] at h; exact absurd (show (9 : Int) = 0 from h) (by decide)
    rename_i c; rw [if_neg c] at h
    split
    · rename_i d; rw [if_pos d] at h; exact absurd h d
    rename_i d; rw [if_neg d] at h
    split
    · rename_i e; rw [if_pos e] at h; exact absurd h e
    · rename_i e
      rw [List.length_cons, prt_len ml keep l _ (by simpa using e), List.length_cons]
theorem hasS_no {l : List VT} {s : ByteArray} {i : Nat} (hi : i ≤ l.length) (h : ∀ j y, j < i → l[j]? = some y → y.lab.s ≠ s) : hasS ((l.take i).map (·.lab.s)) s = false := by
  unfold hasS
  rw [List.any_eq_false]
  intro a ha
  obtain ⟨y, hy, rfl⟩ := List.mem_map.1 ha
  obtain ⟨j, hj⟩ := List.mem_iff_getElem?.1 hy
  rw [List.getElem?_take] at hj
  split at hj
  · rename_i hji; simpa using h j y hji hj
  · cases hj
theorem hasS_yes {l : List VT} {s : ByteArray} {i j : Nat} {y : VT} (hj : j < i) (hy : l[j]? = some y) (h : y.lab.s = s) : hasS ((l.take i).map (·.lab.s)) s = true := by
  unfold hasS
  rw [List.any_eq_true]
  exact ⟨y.lab.s, List.mem_map_of_mem (List.mem_iff_getElem?.2 ⟨j, by rw [List.getElem?_take, if_pos hj]; exact hy⟩), by simp [h]⟩
set_option maxRecDepth 100000 in
set_option maxHeartbeats 4000000 in
theorem srparts_row (mx : Lab) (ml : List VT) (hml : ml.length ≤ 100000) (l : List VT) (hlen : l.length ≤ 100000) (hsz : ∀ q ∈ l, q.size ≤ 100000) (keep : Bool) : ∃ acc, ((prtS ml keep [] l).2.2 = 0 → acc = (prtS ml keep [] l).1) ∧ Row Try.prog 73 [vT (.mk mx ml), vLs l, vB keep] [] (vPr acc (prtS ml keep [] l).2.1 (prtS ml keep [] l).2.2) [] := by
  obtain ⟨j, hj, h1, h2⟩ := prt_first ml keep l
  have hQn : j = l.length → (prtS ml keep [] l).2.2 = 0 ∧ (prtS ml keep [] l).2.1 = 0 := fun h => by
    have := h1 j (Nat.le_refl _)
    rw [h, List.take_length] at this
    exact ⟨this, prt_pl' ml keep l [] this⟩
  refine ⟨(prtS ml keep [] (l.take j)).1, fun h => ?_, ?_⟩
  · by_cases c : j < l.length
    · have := h2 c
      rw [this.2] at h
      exact absurd h this.1
    · rw [List.take_of_length_le (by omega)]
  obtain ⟨Q1, hQ1⟩ : ∃ Q1, (prtS ml keep [] l).2.1 = Q1 := ⟨_, rfl⟩
  obtain ⟨Q2, hQ2⟩ : ∃ Q2, (prtS ml keep [] l).2.2 = Q2 := ⟨_, rfl⟩
  have hQ : j < l.length → (prtS ml keep [] (l.take (j + 1))).2 = (Q1, Q2) := fun h => by rw [← (h2 h).2, ← hQ1, ← hQ2]
  rw [hQ1, hQ2] at hQn ⊢
  clear hQ1 hQ2
  have h2' : j < l.length → (prtS ml keep [] (l.take (j + 1))).2.2 ≠ 0 := fun h => (h2 h).1
  clear h2
  have p0 : (prtS ml keep [] (l.take 0)).1 = [] := rfl
  refine row_of Try.func73 rfl rfl (Nat.le_of_ble_eq_true rfl) ?_
  repeat (first | refine aw_seq ?_ | refine aw_skip ?_ | refine aw_block ?_ | refine aw_exit ?_ | refine aw_ct rfl ?_ | refine aw_cf rfl ?_ | ((first | refine aw_reg (fun K hK => ?_) | refine aw_drw mixd (fun K hK => ?_) | fail); simp -implicitDefEqProofs; first | refine hK _ ?_ | refine hK _ _ (by rfl) ?_ | fail) | fail)
  refine aw_lp (ι := Nat) (fun k => mkSt [(1, vLs l), (2, vB keep), (3, .v (.c (.ptr 0 0))), (9, .v (.c (.row 1 6 ((prtS ml keep [] (l.take k)).1.map tc)))), (10, vI (k : Nat))] [some (.box (ta (.mk mx ml))), some (.row 25 6)]) (fun k => k ≤ j) (fun k => l.length - k) 0 (Nat.zero_le _) (by rw [p0]; exact cov_intro [0, 4] (by simp -implicitDefEqProofs) (by simp -implicitDefEqProofs) (by decide) rfl (by simp)) (fun Z hI k hk => ?_)
  by_cases hkl : k < l.length; rotate_left
  · have e1 : j = l.length := by omega
    have e2 : k = j := by omega
    subst e2
    obtain ⟨rfl, rfl⟩ := hQn e1
    have hkl' : ¬ (k : Int) < (l.length : Nat) := by omega
    repeat (first | refine aw_seq ?_ | refine aw_skip ?_ | refine aw_block ?_ | refine aw_exit ?_ | refine aw_ct rfl ?_ | refine aw_cf rfl ?_ | ((first | refine aw_reg (fun K hK => ?_) | refine aw_drw mixd (fun K hK => ?_) | fail); simp -implicitDefEqProofs [hkl, hkl']; first | refine hK _ ?_ | refine hK _ _ (by rfl) ?_ | fail) | fail)
    refine aw_ret (fin_ret ?_); simp -implicitDefEqProofs [FinP, resV, resT] <;> try rfl
  obtain ⟨⟨ax, al⟩, hy⟩ : ∃ a, l[k]? = some a := ⟨_, List.getElem?_eq_getElem hkl⟩
  have hy' := (List.getElem?_eq_some_iff.1 hy).2
  have w2 : IntKind.i64.wrap ((k : Nat) + 1 : Int) = (k : Nat) + 1 := i64i _ (by omega) (by omega)
  have hkl' : (k : Int) < (l.length : Nat) := by omega
  have hsn := prtS_snoc ml keep (.mk ax al) (l.take k) []
  rw [show l.take k ++ [.mk ax al] = l.take (k + 1) by rw [List.take_add_one, hy]; rfl, if_neg (by simpa using h1 k hk), List.nil_append, Tr.lab] at hsn
  have hal := prt_len ml keep (l.take k) [] (h1 k hk)
  rw [List.length_take, Nat.min_eq_left (Nat.le_of_lt hkl)] at hal
  have hacc : k = j → (prtS ml keep [] (l.take k)).1 = (prtS ml keep [] (l.take j)).1 := fun h => by rw [h]
  obtain ⟨acc, hac⟩ : ∃ acc, (prtS ml keep [] (l.take k)).1 = acc := ⟨_, rfl⟩
  rw [hac] at hsn hal hacc ⊢
  have hjk : (prtS ml keep [] (l.take (k + 1))).2.2 ≠ 0 → k = j := fun h => by
    by_cases c : k = j
    · exact c
    · exact absurd (h1 (k + 1) (by omega)) h
  repeat (first | refine aw_seq ?_ | refine aw_skip ?_ | refine aw_block ?_ | refine aw_exit ?_ | refine aw_ct rfl ?_ | refine aw_cf rfl ?_ | ((first | refine aw_reg (fun K hK => ?_) | refine aw_drw mixd (fun K hK => ?_) | fail); simp -implicitDefEqProofs [hkl, hkl', hy, hy']; first | refine hK _ ?_ | refine hK _ _ (by rfl) ?_ | fail) | fail)
  refine aw_lp (ι := Nat) (fun i => mkSt [(1, vLs l), (2, vB keep), (3, .v (.c (.ptr 0 0))), (9, .v (.c (.row 1 6 (acc.map tc)))), (10, vI (k : Nat)), (11, vI (i : Nat))] [some (.box (ta (.mk mx ml))), some (.row 25 6)]) (fun i => i ≤ k ∧ ∀ q y, q < i → l[q]? = some y → y.lab.s ≠ ax.s) (fun i => k - i) 0 ⟨Nat.zero_le _, fun q y h => by omega⟩ (cov_intro [0, 1] (by simp -implicitDefEqProofs) (by simp -implicitDefEqProofs) (by decide) rfl (by simp)) (fun Z2 hI2 i hi => ?_)
  obtain ⟨hi, hz⟩ := hi
  by_cases hik : i < k
  · obtain ⟨⟨bx, bl⟩, hb⟩ : ∃ a, l[i]? = some a := ⟨_, List.getElem?_eq_getElem (by omega)⟩
    have hb' := (List.getElem?_eq_some_iff.1 hb).2
    have hil : i < l.length := by omega
    have hil' : (i : Int) < (l.length : Nat) := by omega
    have hik' : (i : Int) < (k : Nat) := by omega
    have w3 : IntKind.i64.wrap ((i : Nat) + 1 : Int) = (i : Nat) + 1 := i64i _ (by omega) (by omega)
    by_cases c : bx.s = ax.s
    · have hh := hasS_yes hik hb (show (Tr.mk bx bl).lab.s = ax.s from c)
      rw [if_pos hh] at hsn
      have e := hjk (by rw [hsn]; exact (by decide : (9 : Int) ≠ 0))
      have hq := hQ (by omega)
      rw [← e, hsn] at hq
      obtain ⟨rfl, rfl⟩ := (Prod.mk.injEq _ _ _ _).mp hq
      rw [← hacc e]
      clear h1 h2' hQ hQn hjk hsn hz
      repeat (first | refine aw_seq ?_ | refine aw_skip ?_ | refine aw_block ?_ | refine aw_exit ?_ | refine aw_ct rfl ?_ | refine aw_cf rfl ?_ | ((first | refine aw_reg (fun K hK => ?_) | refine aw_drw mixd (fun K hK => ?_) | fail); simp -implicitDefEqProofs [hik, hik', hil, hil', hb, hb', hkl, hkl', hy, hy', c]; first | refine hK _ ?_ | refine hK _ _ (by rfl) ?_ | fail) | fail)
      refine aw_ret (fin_ret ?_); simp -implicitDefEqProofs [FinP, resV, resT] <;> try rfl
    · repeat (first | refine aw_seq ?_ | refine aw_skip ?_ | refine aw_block ?_ | refine aw_exit ?_ | refine aw_ct rfl ?_ | refine aw_cf rfl ?_ | ((first | refine aw_reg (fun K hK => ?_) | refine aw_drw mixd (fun K hK => ?_) | fail); simp -implicitDefEqProofs [hik, hik', hil, hil', hb, hb', hkl, hkl', hy, hy', c, w3]; first | refine hK _ ?_ | refine hK _ _ (by rfl) ?_ | fail) | fail)
      refine ⟨i + 1, ⟨by omega, fun q y q1 q2 => ?_⟩, (by dsimp only; omega), ?_⟩
      · by_cases hqi : q = i
        · subst hqi; rw [hb] at q2; cases q2; exact c
        · exact hz q y (by omega) q2
      · rw [hI2]; exact cov_intro [0, 1] (by simp -implicitDefEqProofs) (by simp -implicitDefEqProofs) (by decide) rfl (by simp)
  have e : i = k := by omega
  subst e
  have hik' : ¬ (i : Int) < (i : Nat) := by omega
  have hh := hasS_no (Nat.le_of_lt hkl) hz
  rw [if_neg (by rw [hh]; decide)] at hsn
  have hc := srany_row mx ml hml (.mk ax al) [] (by have := hsz _ (List.mem_of_getElem? hy); simp; omega)
  have hz0 := any_z0 ml (.mk ax al) []
  generalize anyT ml (.mk ax al) [] = g at hc hz0 hsn
  obtain ⟨⟨gx, gl⟩, gp, ge⟩ := g
  dsimp only at hz0 hsn
  by_cases hge : ge = 0
  · subst hge
    rw [if_neg (by simp)] at hsn
    have h3 : (prtS ml keep [] (l.take (i + 1))).2.2 = 0 := by rw [hsn]
    have hij : i + 1 ≤ j := by
      by_cases c : i = j
      · subst c; exact absurd h3 (h2' hkl)
      · omega
    have b1 : (i + 1) * 72 ≤ 140737488355328 := by omega
    have b2 : i + 1 ≤ 140737488355328 := by omega
    clear hQ hQn h1 h2' hjk hz
    cases keep with
    | true =>
      unfold keepS at hsn
      rw [if_pos rfl] at hsn
      repeat' (first | refine aw_seq ?_ | refine aw_skip ?_ | refine aw_block ?_ | refine aw_exit ?_ | refine aw_ct rfl ?_ | refine aw_cf rfl ?_ | ((first | refine aw_reg (fun K hK => ?_) | refine aw_drw mixd (fun K hK => ?_) | refine ar_call (cp hc ?_) | refine ard_call (dp hc ?_) | fail); simp -implicitDefEqProofs [hik, hik', hkl, hkl', hy, hy', hal, b1, b2, w2]) | refine hK _ ?_ | refine hK _ _ (by rfl) ?_ | fail)
      refine ⟨i + 1, hij, (by dsimp only; omega), ?_⟩
      rw [hI, hsn]; exact cov_intro [0, 93] (by simp -implicitDefEqProofs [Tr.lab, Tr.kids]) (by simp -implicitDefEqProofs [Tr.lab, Tr.kids]) (by decide) rfl (by simp)
    | false =>
      unfold keepS at hsn
      rw [if_neg (by decide)] at hsn
      repeat' (first | refine aw_seq ?_ | refine aw_skip ?_ | refine aw_block ?_ | refine aw_exit ?_ | refine aw_ct rfl ?_ | refine aw_cf rfl ?_ | ((first | refine aw_reg (fun K hK => ?_) | refine aw_drw mixd (fun K hK => ?_) | refine ar_call (cp hc ?_) | refine ard_call (dp hc ?_) | fail); simp -implicitDefEqProofs [hik, hik', hkl, hkl', hy, hy', hal, b1, b2, w2]) | refine hK _ ?_ | refine hK _ _ (by rfl) ?_ | fail)
      refine ⟨i + 1, hij, (by dsimp only; omega), ?_⟩
      rw [hI, hsn]; exact cov_intro [0, 85] (by simp -implicitDefEqProofs) (by simp -implicitDefEqProofs) (by decide) rfl (by simp)
  · rw [if_pos hge] at hsn
    have e := hjk (by rw [hsn]; exact hge)
    have hq := hQ (by omega)
    rw [← e, hsn] at hq
    obtain ⟨rfl, rfl⟩ := (Prod.mk.injEq _ _ _ _).mp hq
    rw [← hacc e]
    clear h1 h2' hQ hQn hjk hsn hz
    repeat' (first | refine aw_seq ?_ | refine aw_skip ?_ | refine aw_block ?_ | refine aw_exit ?_ | refine aw_ct rfl ?_ | refine aw_cf rfl ?_ | ((first | refine aw_reg (fun K hK => ?_) | refine aw_drw mixd (fun K hK => ?_) | refine ar_call (cp hc ?_) | refine ard_call (dp hc ?_) | fail); simp -implicitDefEqProofs [hik, hik', hkl, hkl', hy, hy', hge]) | refine hK _ ?_ | refine hK _ _ (by rfl) ?_ | fail)
    refine aw_ret (fin_ret ?_); simp -implicitDefEqProofs [FinP, resV, resT] <;> try rfl
end Go.Proofs.Ythkfdheoakbfnaa.am
end
