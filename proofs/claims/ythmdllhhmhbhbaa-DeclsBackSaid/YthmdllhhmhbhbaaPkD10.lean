import Derived.Test.YthmdllhhmhbhbaaPkD9
section
namespace Go.Proofs.Ythmdllhhmhbhbaa.am
open Go.ChangeShapes Go.WideShapes Go.ChangeAt Go.RowKit
open vt
set_option linter.unusedVariables false
set_option linter.unusedSimpArgs false
theorem td_got15 : td Try.prog 75 = some ⟨true, 14, 160, [.lit (.int .i64 0), .lit (.int .i64 0), .lit (.string ⟨#[]⟩), .nilS, .lit (.int .i64 0), .lit (.int .i64 0), .lit (.int .i64 0), .lit (.int .i64 0), .lit (.string ⟨#[]⟩), .nilS, .lit (.int .i64 0), .lit (.int .i64 0), .lit (.int .i64 0), .lit (.int .i64 0)], [(0, 6, true), (6, 6, true), (12, 1, false), (13, 1, false)], .struct⟩ := Eq.trans (by kernel_rfl) (Eq.refl _)
theorem td_errno : td Try.prog 36 = some ⟨false, 1, 8, [.lit (.int .i64 0)], [], (.int .i64)⟩ := Eq.trans (by kernel_rfl) (Eq.refl _)
attribute [simp] td_got15 td_errno
noncomputable abbrev vGot (a b : VT) (place e : Int) : AV := .v (.agg (ta a ++ (ta b ++ [.pv (I place), .pv (I e)])))
set_option maxRecDepth 100000 in
set_option maxHeartbeats 4000000 in
theorem rbad_row (x : Lab) (l : List VT) (e : Int) : Row Try.prog 53 [vT (.mk x l), vI e] [] (vGot z0T z0T x.f e) [] := by
  refine row_of Try.func53 rfl rfl (Nat.le_of_ble_eq_true rfl) ?_
  repeat (first | refine aw_seq ?_ | refine aw_skip ?_ | refine aw_block ?_ | refine aw_exit ?_ | refine aw_cond rfl (fun _ => ?_) (fun hb => absurd hb (by decide)) | refine aw_cond rfl (fun hb => absurd hb (by decide)) (fun _ => ?_) | (refine aw_reg (fun K hK => ?_); simp -implicitDefEqProofs; refine hK _ ?_) | (refine aw_drw mixd (fun K hK => ?_); simp -implicitDefEqProofs; refine hK _ _ (by rfl) ?_) | fail)
  refine aw_ret (fin_ret ?_); simp -implicitDefEqProofs [FinP, resV, resT] <;> try rfl
end Go.Proofs.Ythmdllhhmhbhbaa.am
end
section
namespace Go.Proofs.Ythmdllhhmhbhbaa.am
open Go.ChangeShapes Go.WideShapes Go.ChangeAt Go.RowKit
open vt
set_option linter.unusedVariables false
set_option linter.unusedSimpArgs false
theorem kidk_ok {m d : VT} (hm : in64 m) (h : d ∈ m.kids) : in64 d := by
  obtain ⟨x, l⟩ := m
  exact ((Tr.all_mk _ _ _).1 hm).2 d h
theorem fldA_mem {m q : VT} {n : Int} (h : fldA m n = some q) : ∃ d ∈ m.kids, ∃ p ∈ d.kids, q ∈ p.kids := by
  unfold fldA at h
  split at h
  · cases h
  · split at h
    · cases h
    · rename_i d hd
      split at h
      · split at h
        · cases h
        · rename_i p hp
          split at h
          · exact ⟨d, List.mem_of_getElem? hd, p, List.mem_of_getElem? hp, List.mem_of_getElem? h⟩
          · cases h
      · cases h
theorem fldA_size (m : VT) (n : Int) : ((fldA m n).getD z0T).size ≤ m.size := by
  cases hf : fldA m n with
  | none => simp [Tr.size_mk]; exact Tr.size_pos m
  | some q =>
    obtain ⟨d, h1, p, h2, h3⟩ := fldA_mem hf
    have := kid_size h1
    have := kid_size h2
    have := kid_size h3
    simp; omega
theorem z0T_ok : in64 z0T := (Tr.all_mk _ _ _).2 ⟨by simp [Lab.ok], fun y hy => by simp at hy⟩
theorem tyT_ok (k : Int) (h : 0 ≤ k ∧ k ≤ 9) : in64 (tyT k) := (Tr.all_mk _ _ _).2 ⟨by simp [Lab.ok]; omega, fun y hy => by simp at hy⟩
theorem tyT_size (k : Int) : (tyT k).size = 1 := by simp [tyT, Tr.size_mk]
theorem fldA_ok {m : VT} (hm : in64 m) (n : Int) : in64 ((fldA m n).getD z0T) := by
  cases hf : fldA m n with
  | none => exact z0T_ok
  | some q =>
    obtain ⟨d, h1, p, h2, h3⟩ := fldA_mem hf
    exact kidk_ok (kidk_ok (kidk_ok hm h1) h2) h3
noncomputable def ruleT (m : VT) (x : Lab) (p : List VT) : VT × Int × Int :=
  if x.k = 10 ∧ ¬ (twoT x.n (p.getD 0 z0T) (p.getD 1 z0T)).lab.k = 0 then (twoT x.n (p.getD 0 z0T) (p.getD 1 z0T), x.n, 0)
  else if x.k = 11 ∧ ((x.n = 1 ∧ isT (p.getD 0 z0T) 1 = true) ∨ (x.n = 2 ∧ isT (p.getD 0 z0T) 2 = true)) then (p.getD 0 z0T, x.n, 0)
  else if x.k = 12 ∧ (p.getD 0 z0T).lab.k = 3 ∧ (p.getD 0 z0T).kids.length = 1 ∧ isT (p.getD 1 z0T) 1 = true then ((p.getD 0 z0T).kids.getD 0 z0T, x.n, 0)
  else if x.k = 13 ∧ (p.getD 0 z0T).lab.k = 4 ∧ (p.getD 0 z0T).kids.length = 0 then
    (if fieldN m x (p.getD 0 z0T).lab.n < 0 then (z0T, 0, 8) else (barT ((fldA m (fieldN m x (p.getD 0 z0T).lab.n)).getD z0T), fieldN m x (p.getD 0 z0T).lab.n, 0))
  else if x.k = 15 ∧ fitB p (m.kids.getD x.n.toNat z0T).kids = true then (.mk ⟨4, x.n, ⟨#[]⟩, 0, 0⟩ [], x.n, 0)
  else if x.k = 16 ∧ fitB p ((m.kids.getD x.n.toNat z0T).kids.getD 0 z0T).kids = true then (barT ((m.kids.getD x.n.toNat z0T).kids.getD 1 z0T), x.n, 0)
  else if ¬ x.k = 14 then (z0T, 0, 10)
  else if p.all (fun a => same a (p.getD 0 z0T)) = true then
    (if cels m (.mk ⟨3, p.length, ⟨#[]⟩, 0, 0⟩ [p.getD 0 z0T]) = 0 then (z0T, 0, 11) else (.mk ⟨3, p.length, ⟨#[]⟩, 0, 0⟩ [p.getD 0 z0T], x.n, 0))
  else (z0T, 0, 10)
noncomputable abbrev vRu (r : VT × Int × Int) : AV := .tup [.agg (ta r.1), .c (.pv (I r.2.1)), .c (.pv (I r.2.2))]
theorem fieldN_hi {m : VT} {x : Lab} {n : Int} (hm : m.size ≤ 1000000) (hx : x.ok) : fieldN m x n ≤ 9223372036854775807 := by
  unfold fieldN
  split
  · split
    · split
      · exact hx.2.1.2
      · omega
    · split
      · rename_i hb _ _ i hi
        have h1 := (List.findIdx?_eq_some_iff_getElem.1 hi).1
        rw [List.length_take] at h1
        have : n < m.kids.length := by
          unfold hasB at hb
          split at hb
          · cases hb
          · split at hb
            · cases hb
            · rename_i d hd
              have := (List.getElem?_eq_some_iff.1 hd).1
              omega
        have hh : m.kids.length < m.size := by
          obtain ⟨mx, ml⟩ := m
          have := Tr.len_size (x := mx) (l := ml)
          show ml.length < _
          omega
        omega
      · omega
  · omega
set_option maxRecDepth 100000 in
set_option maxHeartbeats 4000000 in
theorem rrule_list_row (m : VT) (hm : in64 m) (hsz : m.size ≤ 1000000) (x : Lab) (l : List VT) (hx : x.ok) (p : List VT) (hp : ∀ a ∈ p, in64 a ∧ a.size ≤ 900000) (hpl : p.length ≤ 900000) (h0 : 0 < p.length) (h14 : x.k = 14) : Row Try.prog 56 [vT m, vT (.mk x l), vLs p] [] (vRu (ruleT m x p)) [] := by
  obtain ⟨⟨ax, al⟩, ha⟩ : ∃ a, p[0]? = some a := ⟨_, List.getElem?_eq_getElem h0⟩
  have ha' := (List.getElem?_eq_some_iff.1 ha).2
  have hg : p.getD 0 z0T = .mk ax al := by simp [List.getD, ha]
  have hpa := hp _ (List.mem_of_getElem? ha)
  have hpi : (0 : Int) < (p.length : Int) := by omega
  have hT : ruleT m x p = (if p.all (fun a => same a (.mk ax al)) = true then
    (if cels m (.mk ⟨3, p.length, ⟨#[]⟩, 0, 0⟩ [.mk ax al]) = 0 then (z0T, 0, 11) else (.mk ⟨3, p.length, ⟨#[]⟩, 0, 0⟩ [.mk ax al], x.n, 0))
    else (z0T, 0, 10)) := by
    unfold ruleT
    rw [hg]
    simp [h14]
  rw [hT]
  clear hT
  have hcel := rcells_row m (.mk ⟨3, p.length, ⟨#[]⟩, 0, 0⟩ [.mk ax al]) hm hsz ((Tr.all_mk _ _ _).2 ⟨by simp [Lab.ok]; omega, fun y hy => by simp at hy; subst hy; exact hpa.1⟩) (by rw [Tr.size_mk]; simp; omega)
  obtain ⟨c, hc⟩ : ∃ c, cels m (.mk ⟨3, p.length, ⟨#[]⟩, 0, 0⟩ [.mk ax al]) = c := ⟨_, rfl⟩
  rw [hc] at hcel ⊢
  clear hc hg
  obtain ⟨R, hR⟩ : ∃ R, p.all (fun a => same a (.mk ax al)) = R := ⟨_, rfl⟩
  rw [hR]
  obtain ⟨mx, ml⟩ := m
  have wl : IntKind.i64.wrap ((p.length : Nat) : Int) = (p.length : Nat) := i64i _ (by omega) (by omega)
  refine row_of Try.func56 rfl rfl (Nat.le_of_ble_eq_true rfl) ?_
  repeat (first | refine aw_seq ?_ | refine aw_skip ?_ | refine aw_block ?_ | refine aw_exit ?_ | refine aw_cond rfl (fun _ => ?_) (fun hb => absurd hb (by decide)) | refine aw_cond rfl (fun hb => absurd hb (by decide)) (fun _ => ?_) | (refine aw_reg (fun K hK => ?_); simp -implicitDefEqProofs [h14]; refine hK _ ?_) | (refine aw_drw mixd (fun K hK => ?_); simp -implicitDefEqProofs [h14]; refine hK _ _ (by rfl) ?_) | fail)
  refine aw_lp (ι := Nat) (fun k => mkSt [(2, vLs p), (3, .v (.c (.ptr 0 0))), (4, .v (.c (.ptr 1 0))), (6, .v (.c (.ptr 2 0))), (12, vI (k : Nat))] [some (.box (ta (.mk mx ml))), some (.box (ta (.mk x l))), some (.box (ta z0T))]) (fun k => k ≤ p.length ∧ (p.take k).all (fun a => same a (.mk ax al)) = true) (fun k => p.length - k) 0 ⟨Nat.zero_le _, by simp⟩ (cov_intro [0, 1, 2] (by simp -implicitDefEqProofs [h14]) (by simp -implicitDefEqProofs [h14]) (by decide) rfl (by simp)) (fun Z hI k hk => ?_)
  obtain ⟨hk, hz⟩ := hk
  by_cases hkl : k < p.length; rotate_left
  · have : k = p.length := by omega
    subst this
    rw [List.take_length] at hz
    have : R = true := by rw [← hR, hz]
    subst this
    clear hR hz
    by_cases c0 : c = 0
    · repeat' (first | refine aw_seq ?_ | refine aw_skip ?_ | refine aw_block ?_ | refine aw_exit ?_ | refine aw_cond rfl (fun _ => ?_) (fun hb => absurd hb (by decide)) | refine aw_cond rfl (fun hb => absurd hb (by decide)) (fun _ => ?_) | (refine aw_reg (fun K hK => ?_); simp -implicitDefEqProofs [c0, h0, hpi, ha, ha', wl]) | (refine aw_drw mixd (fun K hK => ?_); simp -implicitDefEqProofs [c0, h0, hpi, ha, ha', wl]) | refine hK _ ?_ | refine hK _ _ (by rfl) ?_ | (refine ar_call (cp hcel ?_); simp -implicitDefEqProofs [c0, h0, hpi, ha, ha', wl]) | (refine ard_call (dp hcel ?_); simp -implicitDefEqProofs [c0, h0, hpi, ha, ha', wl]) | fail)
      refine aw_ret (fin_ret ?_); simp -implicitDefEqProofs [FinP, resV, resT, c0] <;> try rfl
    · repeat' (first | refine aw_seq ?_ | refine aw_skip ?_ | refine aw_block ?_ | refine aw_exit ?_ | refine aw_cond rfl (fun _ => ?_) (fun hb => absurd hb (by decide)) | refine aw_cond rfl (fun hb => absurd hb (by decide)) (fun _ => ?_) | (refine aw_reg (fun K hK => ?_); simp -implicitDefEqProofs [c0, h0, hpi, ha, ha', wl]) | (refine aw_drw mixd (fun K hK => ?_); simp -implicitDefEqProofs [c0, h0, hpi, ha, ha', wl]) | refine hK _ ?_ | refine hK _ _ (by rfl) ?_ | (refine ar_call (cp hcel ?_); simp -implicitDefEqProofs [c0, h0, hpi, ha, ha', wl]) | (refine ard_call (dp hcel ?_); simp -implicitDefEqProofs [c0, h0, hpi, ha, ha', wl]) | fail)
      refine aw_ret (fin_ret ?_); simp -implicitDefEqProofs [FinP, resV, resT, c0] <;> try rfl
  obtain ⟨⟨bx, bl⟩, hb⟩ : ∃ a, p[k]? = some a := ⟨_, List.getElem?_eq_getElem hkl⟩
  have hb' := (List.getElem?_eq_some_iff.1 hb).2
  have w2 : IntKind.i64.wrap ((k : Nat) + 1 : Int) = (k : Nat) + 1 := i64i _ (by omega) (by omega)
  have hs := rsame_row (.mk bx bl) (by have := (hp _ (List.mem_of_getElem? hb)).2; omega) (.mk ax al) (by omega)
  by_cases hq : same (.mk bx bl) (.mk ax al) = true
  · rw [hq] at hs
    repeat' (first | refine aw_seq ?_ | refine aw_skip ?_ | refine aw_block ?_ | refine aw_exit ?_ | refine aw_cond rfl (fun _ => ?_) (fun hb => absurd hb (by decide)) | refine aw_cond rfl (fun hb => absurd hb (by decide)) (fun _ => ?_) | (refine aw_reg (fun K hK => ?_); simp -implicitDefEqProofs [hkl, h0, hpi, ha, ha', hb, hb', w2]) | (refine aw_drw mixd (fun K hK => ?_); simp -implicitDefEqProofs [hkl, h0, hpi, ha, ha', hb, hb', w2]) | refine hK _ ?_ | refine hK _ _ (by rfl) ?_ | (refine ar_call (cp hs ?_); simp -implicitDefEqProofs [hkl, h0, hpi, ha, ha', hb, hb', w2]) | (refine ard_call (dp hs ?_); simp -implicitDefEqProofs [hkl, h0, hpi, ha, ha', hb, hb', w2]) | fail)
    refine ⟨k + 1, ⟨by omega, by rw [List.take_add_one, hb, Option.toList_some, List.all_append, hz]; simp [hq]⟩, (by dsimp only; omega), ?_⟩
    rw [hI]; exact cov_intro [0, 1, 2] (by simp -implicitDefEqProofs) (by simp -implicitDefEqProofs) (by decide) rfl (by simp)
  · have hq : same (.mk bx bl) (.mk ax al) = false := by simpa using hq
    rw [hq] at hs
    have e : R = false := by
      rw [← hR, List.all_eq_false]; exact ⟨_, List.mem_of_getElem? hb, by rw [hq]; simp⟩
    subst e
    repeat' (first | refine aw_seq ?_ | refine aw_skip ?_ | refine aw_block ?_ | refine aw_exit ?_ | refine aw_cond rfl (fun _ => ?_) (fun hb => absurd hb (by decide)) | refine aw_cond rfl (fun hb => absurd hb (by decide)) (fun _ => ?_) | (refine aw_reg (fun K hK => ?_); simp -implicitDefEqProofs [hkl, h0, hpi, ha, ha', hb, hb', w2]) | (refine aw_drw mixd (fun K hK => ?_); simp -implicitDefEqProofs [hkl, h0, hpi, ha, ha', hb, hb', w2]) | refine hK _ ?_ | refine hK _ _ (by rfl) ?_ | (refine ar_call (cp hs ?_); simp -implicitDefEqProofs [hkl, h0, hpi, ha, ha', hb, hb', w2]) | (refine ard_call (dp hs ?_); simp -implicitDefEqProofs [hkl, h0, hpi, ha, ha', hb, hb', w2]) | fail)
    refine aw_ret (fin_ret ?_); simp -implicitDefEqProofs [FinP, resV, resT] <;> try rfl
set_option maxRecDepth 100000 in
set_option maxHeartbeats 4000000 in
theorem rrule_row (m : VT) (hm : in64 m) (hsz : m.size ≤ 1000000) (x : Lab) (l : List VT) (hx : x.ok) (p : List VT) (hp : ∀ a ∈ p, in64 a ∧ a.size ≤ 900000) (hpl : p.length ≤ 900000) (hsh : shaE x p.length = true) (h15 : x.k = 15 → 0 ≤ x.n ∧ ∃ d, m.kids[x.n.toNat]? = some d) (h16 : x.k = 16 → 0 ≤ x.n ∧ ∃ dx a b c, m.kids[x.n.toNat]? = some (.mk dx [a, b, c])) : Row Try.prog 56 [vT m, vT (.mk x l), vLs p] [] (vRu (ruleT m x p)) [] := by
  by_cases c14 : x.k = 14
  · exact rrule_list_row m hm hsz x l hx p hp hpl (by unfold shaE at hsh; simp [c14] at hsh; omega) c14
  by_cases c10 : x.k = 10
  · have hl2 : p.length = 2 := by unfold shaE at hsh; simp [c10] at hsh; exact hsh.1.1
    obtain ⟨⟨ax, al⟩, ⟨bx, bl⟩, rfl⟩ := two_of hl2
    have h2 := rtwo_row x.n (.mk ax al) (.mk bx bl)
    have hT : ruleT m x [.mk ax al, .mk bx bl] = if (twoT x.n (.mk ax al) (.mk bx bl)).lab.k = 0 then (z0T, 0, 10) else (twoT x.n (.mk ax al) (.mk bx bl), x.n, 0) := by
      unfold ruleT
      simp [c10]
    rw [hT]
    clear hT
    obtain ⟨⟨tx, tl⟩, ht⟩ : ∃ t, twoT x.n (.mk ax al) (.mk bx bl) = t := ⟨_, rfl⟩
    rw [ht] at h2 ⊢
    clear ht hp
    rw [Tr.lab]
    obtain ⟨mx, ml⟩ := m
    by_cases ht : tx.k = 0
    · rw [if_pos ht]
      refine row_of Try.func56 rfl rfl (Nat.le_of_ble_eq_true rfl) ?_
      repeat' (first | refine aw_seq ?_ | refine aw_skip ?_ | refine aw_block ?_ | refine aw_exit ?_ | refine aw_cond rfl (fun _ => ?_) (fun hb => absurd hb (by decide)) | refine aw_cond rfl (fun hb => absurd hb (by decide)) (fun _ => ?_) | (refine aw_reg (fun K hK => ?_); simp -implicitDefEqProofs [c10, ht]) | (refine aw_drw mixd (fun K hK => ?_); simp -implicitDefEqProofs [c10, ht]) | refine hK _ ?_ | refine hK _ _ (by rfl) ?_ | (refine ar_call (cp h2 ?_); simp -implicitDefEqProofs [c10, ht]) | (refine ard_call (dp h2 ?_); simp -implicitDefEqProofs [c10, ht]) | fail)
      refine aw_ret (fin_ret ?_); simp -implicitDefEqProofs [FinP, resV, resT] <;> try rfl
    · rw [if_neg ht]
      refine row_of Try.func56 rfl rfl (Nat.le_of_ble_eq_true rfl) ?_
      repeat' (first | refine aw_seq ?_ | refine aw_skip ?_ | refine aw_block ?_ | refine aw_exit ?_ | refine aw_cond rfl (fun _ => ?_) (fun hb => absurd hb (by decide)) | refine aw_cond rfl (fun hb => absurd hb (by decide)) (fun _ => ?_) | (refine aw_reg (fun K hK => ?_); simp -implicitDefEqProofs [c10, ht]) | (refine aw_drw mixd (fun K hK => ?_); simp -implicitDefEqProofs [c10, ht]) | refine hK _ ?_ | refine hK _ _ (by rfl) ?_ | (refine ar_call (cp h2 ?_); simp -implicitDefEqProofs [c10, ht]) | (refine ard_call (dp h2 ?_); simp -implicitDefEqProofs [c10, ht]) | fail)
      refine aw_ret (fin_ret ?_); simp -implicitDefEqProofs [FinP, resV, resT] <;> try rfl
  by_cases c11 : x.k = 11
  · have hs : p.length = 1 ∧ (x.n = 1 ∨ x.n = 2) := by unfold shaE at hsh; simp [c11] at hsh; exact hsh
    obtain ⟨hl1, hn⟩ := hs
    obtain ⟨⟨ax, al⟩, rfl⟩ := one_of hl1
    have i1 := ris_row (.mk ax al) 1
    have i2 := ris_row (.mk ax al) 2
    have hT : ruleT m x [.mk ax al] = if (x.n = 1 ∧ isT (.mk ax al) 1 = true) ∨ (x.n = 2 ∧ isT (.mk ax al) 2 = true) then (.mk ax al, x.n, 0) else (z0T, 0, 10) := by
      unfold ruleT
      simp [c11]
    rw [hT]
    clear hT
    obtain ⟨p1, q1⟩ : ∃ p, isT (.mk ax al) 1 = p := ⟨_, rfl⟩
    obtain ⟨p2, q2⟩ : ∃ p, isT (.mk ax al) 2 = p := ⟨_, rfl⟩
    rw [q1] at i1
    rw [q2] at i2
    rw [q1, q2]
    clear q1 q2 hp
    obtain ⟨mx, ml⟩ := m
    rcases hn with hn | hn
    · cases p1 with
      | true =>
        refine row_of Try.func56 rfl rfl (Nat.le_of_ble_eq_true rfl) ?_
        repeat' (first | refine aw_seq ?_ | refine aw_skip ?_ | refine aw_block ?_ | refine aw_exit ?_ | refine aw_cond rfl (fun _ => ?_) (fun hb => absurd hb (by decide)) | refine aw_cond rfl (fun hb => absurd hb (by decide)) (fun _ => ?_) | (refine aw_reg (fun K hK => ?_); simp -implicitDefEqProofs [c11, hn]) | (refine aw_drw mixd (fun K hK => ?_); simp -implicitDefEqProofs [c11, hn]) | refine hK _ ?_ | refine hK _ _ (by rfl) ?_ | (refine ar_call (cp i1 ?_); simp -implicitDefEqProofs [c11, hn]) | (refine ard_call (dp i1 ?_); simp -implicitDefEqProofs [c11, hn]) | (refine ar_call (cp i2 ?_); simp -implicitDefEqProofs [c11, hn]) | (refine ard_call (dp i2 ?_); simp -implicitDefEqProofs [c11, hn]) | fail)
        refine aw_ret (fin_ret ?_); simp -implicitDefEqProofs [FinP, resV, resT, hn] <;> try rfl
      | false =>
        refine row_of Try.func56 rfl rfl (Nat.le_of_ble_eq_true rfl) ?_
        repeat' (first | refine aw_seq ?_ | refine aw_skip ?_ | refine aw_block ?_ | refine aw_exit ?_ | refine aw_cond rfl (fun _ => ?_) (fun hb => absurd hb (by decide)) | refine aw_cond rfl (fun hb => absurd hb (by decide)) (fun _ => ?_) | (refine aw_reg (fun K hK => ?_); simp -implicitDefEqProofs [c11, hn]) | (refine aw_drw mixd (fun K hK => ?_); simp -implicitDefEqProofs [c11, hn]) | refine hK _ ?_ | refine hK _ _ (by rfl) ?_ | (refine ar_call (cp i1 ?_); simp -implicitDefEqProofs [c11, hn]) | (refine ard_call (dp i1 ?_); simp -implicitDefEqProofs [c11, hn]) | (refine ar_call (cp i2 ?_); simp -implicitDefEqProofs [c11, hn]) | (refine ard_call (dp i2 ?_); simp -implicitDefEqProofs [c11, hn]) | fail)
        refine aw_ret (fin_ret ?_); simp -implicitDefEqProofs [FinP, resV, resT, hn] <;> try rfl
    · cases p2 with
      | true =>
        refine row_of Try.func56 rfl rfl (Nat.le_of_ble_eq_true rfl) ?_
        repeat' (first | refine aw_seq ?_ | refine aw_skip ?_ | refine aw_block ?_ | refine aw_exit ?_ | refine aw_cond rfl (fun _ => ?_) (fun hb => absurd hb (by decide)) | refine aw_cond rfl (fun hb => absurd hb (by decide)) (fun _ => ?_) | (refine aw_reg (fun K hK => ?_); simp -implicitDefEqProofs [c11, hn]) | (refine aw_drw mixd (fun K hK => ?_); simp -implicitDefEqProofs [c11, hn]) | refine hK _ ?_ | refine hK _ _ (by rfl) ?_ | (refine ar_call (cp i1 ?_); simp -implicitDefEqProofs [c11, hn]) | (refine ard_call (dp i1 ?_); simp -implicitDefEqProofs [c11, hn]) | (refine ar_call (cp i2 ?_); simp -implicitDefEqProofs [c11, hn]) | (refine ard_call (dp i2 ?_); simp -implicitDefEqProofs [c11, hn]) | fail)
        refine aw_ret (fin_ret ?_); simp -implicitDefEqProofs [FinP, resV, resT, hn] <;> try rfl
      | false =>
        refine row_of Try.func56 rfl rfl (Nat.le_of_ble_eq_true rfl) ?_
        repeat' (first | refine aw_seq ?_ | refine aw_skip ?_ | refine aw_block ?_ | refine aw_exit ?_ | refine aw_cond rfl (fun _ => ?_) (fun hb => absurd hb (by decide)) | refine aw_cond rfl (fun hb => absurd hb (by decide)) (fun _ => ?_) | (refine aw_reg (fun K hK => ?_); simp -implicitDefEqProofs [c11, hn]) | (refine aw_drw mixd (fun K hK => ?_); simp -implicitDefEqProofs [c11, hn]) | refine hK _ ?_ | refine hK _ _ (by rfl) ?_ | (refine ar_call (cp i1 ?_); simp -implicitDefEqProofs [c11, hn]) | (refine ard_call (dp i1 ?_); simp -implicitDefEqProofs [c11, hn]) | (refine ar_call (cp i2 ?_); simp -implicitDefEqProofs [c11, hn]) | (refine ard_call (dp i2 ?_); simp -implicitDefEqProofs [c11, hn]) | fail)
        refine aw_ret (fin_ret ?_); simp -implicitDefEqProofs [FinP, resV, resT, hn] <;> try rfl
  by_cases c12 : x.k = 12
  · have hl2 : p.length = 2 := by unfold shaE at hsh; simp [c12] at hsh; exact hsh
    obtain ⟨⟨ax, al⟩, ⟨bx, bl⟩, rfl⟩ := two_of hl2
    have i1 := ris_row (.mk bx bl) 1
    have hT : ruleT m x [.mk ax al, .mk bx bl] = if ax.k = 3 ∧ al.length = 1 ∧ isT (.mk bx bl) 1 = true then (al.getD 0 z0T, x.n, 0) else (z0T, 0, 10) := by
      unfold ruleT
      simp [c12, Tr.lab, Tr.kids]
    rw [hT]
    clear hT
    obtain ⟨p1, q1⟩ : ∃ p, isT (.mk bx bl) 1 = p := ⟨_, rfl⟩
    rw [q1] at i1 ⊢
    clear q1 hp
    obtain ⟨mx, ml⟩ := m
    by_cases a3 : ax.k = 3; rotate_left
    · rw [if_neg (fun h => a3 h.1)]
      refine row_of Try.func56 rfl rfl (Nat.le_of_ble_eq_true rfl) ?_
      repeat' (first | refine aw_seq ?_ | refine aw_skip ?_ | refine aw_block ?_ | refine aw_exit ?_ | refine aw_cond rfl (fun _ => ?_) (fun hb => absurd hb (by decide)) | refine aw_cond rfl (fun hb => absurd hb (by decide)) (fun _ => ?_) | (refine aw_reg (fun K hK => ?_); simp -implicitDefEqProofs [c12, a3]) | (refine aw_drw mixd (fun K hK => ?_); simp -implicitDefEqProofs [c12, a3]) | refine hK _ ?_ | refine hK _ _ (by rfl) ?_ | (refine ar_call (cp i1 ?_); simp -implicitDefEqProofs [c12, a3]) | (refine ard_call (dp i1 ?_); simp -implicitDefEqProofs [c12, a3]) | fail)
      refine aw_ret (fin_ret ?_); simp -implicitDefEqProofs [FinP, resV, resT] <;> try rfl
    by_cases a1 : al.length = 1; rotate_left
    · rw [if_neg (fun h => a1 h.2.1)]
      have a1' : ¬ (al.length : Int) = 1 := by omega
      refine row_of Try.func56 rfl rfl (Nat.le_of_ble_eq_true rfl) ?_
      repeat' (first | refine aw_seq ?_ | refine aw_skip ?_ | refine aw_block ?_ | refine aw_exit ?_ | refine aw_cond rfl (fun _ => ?_) (fun hb => absurd hb (by decide)) | refine aw_cond rfl (fun hb => absurd hb (by decide)) (fun _ => ?_) | (refine aw_reg (fun K hK => ?_); simp -implicitDefEqProofs [c12, a3, a1, a1']) | (refine aw_drw mixd (fun K hK => ?_); simp -implicitDefEqProofs [c12, a3, a1, a1']) | refine hK _ ?_ | refine hK _ _ (by rfl) ?_ | (refine ar_call (cp i1 ?_); simp -implicitDefEqProofs [c12, a3, a1, a1']) | (refine ard_call (dp i1 ?_); simp -implicitDefEqProofs [c12, a3, a1, a1']) | fail)
      refine aw_ret (fin_ret ?_); simp -implicitDefEqProofs [FinP, resV, resT] <;> try rfl
    obtain ⟨⟨ux, ul⟩, rfl⟩ := one_of a1
    cases p1 with
    | true =>
      rw [if_pos ⟨a3, a1, rfl⟩]
      refine row_of Try.func56 rfl rfl (Nat.le_of_ble_eq_true rfl) ?_
      repeat' (first | refine aw_seq ?_ | refine aw_skip ?_ | refine aw_block ?_ | refine aw_exit ?_ | refine aw_cond rfl (fun _ => ?_) (fun hb => absurd hb (by decide)) | refine aw_cond rfl (fun hb => absurd hb (by decide)) (fun _ => ?_) | (refine aw_reg (fun K hK => ?_); simp -implicitDefEqProofs [c12, a3]) | (refine aw_drw mixd (fun K hK => ?_); simp -implicitDefEqProofs [c12, a3]) | refine hK _ ?_ | refine hK _ _ (by rfl) ?_ | (refine ar_call (cp i1 ?_); simp -implicitDefEqProofs [c12, a3]) | (refine ard_call (dp i1 ?_); simp -implicitDefEqProofs [c12, a3]) | fail)
      refine aw_ret (fin_ret ?_); simp -implicitDefEqProofs [FinP, resV, resT] <;> try rfl
    | false =>
      rw [if_neg (by simp)]
      refine row_of Try.func56 rfl rfl (Nat.le_of_ble_eq_true rfl) ?_
      repeat' (first | refine aw_seq ?_ | refine aw_skip ?_ | refine aw_block ?_ | refine aw_exit ?_ | refine aw_cond rfl (fun _ => ?_) (fun hb => absurd hb (by decide)) | refine aw_cond rfl (fun hb => absurd hb (by decide)) (fun _ => ?_) | (refine aw_reg (fun K hK => ?_); simp -implicitDefEqProofs [c12, a3]) | (refine aw_drw mixd (fun K hK => ?_); simp -implicitDefEqProofs [c12, a3]) | refine hK _ ?_ | refine hK _ _ (by rfl) ?_ | (refine ar_call (cp i1 ?_); simp -implicitDefEqProofs [c12, a3]) | (refine ard_call (dp i1 ?_); simp -implicitDefEqProofs [c12, a3]) | fail)
      refine aw_ret (fin_ret ?_); simp -implicitDefEqProofs [FinP, resV, resT] <;> try rfl
  by_cases c13 : x.k = 13
  · have hl1 : p.length = 1 := by unfold shaE at hsh; simp [c13] at hsh; exact hsh
    obtain ⟨⟨ax, al⟩, rfl⟩ := one_of hl1
    have hax : ax.ok := ((Tr.all_mk _ _ _).1 (hp (.mk ax al) (by simp)).1).1
    have hf := rfieldN_row m hsz x l hx ax.n hax.2.1.2
    have hhi := fieldN_hi (m := m) (x := x) (n := ax.n) hsz hx
    have hT : ruleT m x [.mk ax al] = if ax.k = 4 ∧ al.length = 0 then (if fieldN m x ax.n < 0 then (z0T, 0, 8) else (barT ((fldA m (fieldN m x ax.n)).getD z0T), fieldN m x ax.n, 0)) else (z0T, 0, 10) := by
      unfold ruleT
      simp [c13, Tr.lab, Tr.kids]
    rw [hT]
    clear hT
    obtain ⟨n, hn⟩ : ∃ n, fieldN m x ax.n = n := ⟨_, rfl⟩
    rw [hn] at hf hhi ⊢
    clear hn
    by_cases a4 : ax.k = 4; rotate_left
    · rw [if_neg (fun h => a4 h.1)]
      clear hf hhi
      obtain ⟨mx, ml⟩ := m
      refine row_of Try.func56 rfl rfl (Nat.le_of_ble_eq_true rfl) ?_
      repeat (first | refine aw_seq ?_ | refine aw_skip ?_ | refine aw_block ?_ | refine aw_exit ?_ | refine aw_cond rfl (fun _ => ?_) (fun hb => absurd hb (by decide)) | refine aw_cond rfl (fun hb => absurd hb (by decide)) (fun _ => ?_) | (refine aw_reg (fun K hK => ?_); simp -implicitDefEqProofs [c13, a4]; refine hK _ ?_) | (refine aw_drw mixd (fun K hK => ?_); simp -implicitDefEqProofs [c13, a4]; refine hK _ _ (by rfl) ?_) | fail)
      refine aw_ret (fin_ret ?_); simp -implicitDefEqProofs [FinP, resV, resT] <;> try rfl
    by_cases a0 : al.length = 0; rotate_left
    · rw [if_neg (fun h => a0 h.2)]
      have a0' : ¬ (al.length : Int) = 0 := by omega
      have a0'' : ¬ al = [] := fun h => a0 (by rw [h]; rfl)
      clear hf hhi
      obtain ⟨mx, ml⟩ := m
      refine row_of Try.func56 rfl rfl (Nat.le_of_ble_eq_true rfl) ?_
      repeat (first | refine aw_seq ?_ | refine aw_skip ?_ | refine aw_block ?_ | refine aw_exit ?_ | refine aw_cond rfl (fun _ => ?_) (fun hb => absurd hb (by decide)) | refine aw_cond rfl (fun hb => absurd hb (by decide)) (fun _ => ?_) | (refine aw_reg (fun K hK => ?_); simp -implicitDefEqProofs [c13, a4, a0, a0', a0'']; refine hK _ ?_) | (refine aw_drw mixd (fun K hK => ?_); simp -implicitDefEqProofs [c13, a4, a0, a0', a0'']; refine hK _ _ (by rfl) ?_) | fail)
      refine aw_ret (fin_ret ?_); simp -implicitDefEqProofs [FinP, resV, resT] <;> try rfl
    rw [if_pos ⟨a4, a0⟩]
    have : al = [] := List.eq_nil_of_length_eq_zero a0
    subst this
    by_cases n0 : n < 0
    · rw [if_pos n0]
      obtain ⟨mx, ml⟩ := m
      refine row_of Try.func56 rfl rfl (Nat.le_of_ble_eq_true rfl) ?_
      repeat' (first | refine aw_seq ?_ | refine aw_skip ?_ | refine aw_block ?_ | refine aw_exit ?_ | refine aw_cond rfl (fun _ => ?_) (fun hb => absurd hb (by decide)) | refine aw_cond rfl (fun hb => absurd hb (by decide)) (fun _ => ?_) | (refine aw_reg (fun K hK => ?_); simp -implicitDefEqProofs [c13, a4, n0]) | (refine aw_drw mixd (fun K hK => ?_); simp -implicitDefEqProofs [c13, a4, n0]) | refine hK _ ?_ | refine hK _ _ (by rfl) ?_ | (refine ar_call (cp hf ?_); simp -implicitDefEqProofs [c13, a4, n0]) | (refine ard_call (dp hf ?_); simp -implicitDefEqProofs [c13, a4, n0]) | fail)
      refine aw_ret (fin_ret ?_); simp -implicitDefEqProofs [FinP, resV, resT] <;> try rfl
    · rw [if_neg n0]
      have hd := rfield_row m hsz n hhi
      have hds : ((fldA m n).getD z0T).size ≤ 1000000 := by
        have := fldA_size m n
        omega
      obtain ⟨⟨dx, dl⟩, hD⟩ : ∃ d, (fldA m n).getD z0T = d := ⟨_, rfl⟩
      rw [hD] at hd hds ⊢
      obtain ⟨sm, hsm⟩ : ∃ s, (fldA m n).isSome = s := ⟨_, rfl⟩
      rw [hsm] at hd
      have hb := rbare_row (.mk dx dl) hds
      obtain ⟨⟨ex, el⟩, hE⟩ : ∃ e, barT (.mk dx dl) = e := ⟨_, rfl⟩
      rw [hE] at hb ⊢
      clear hE hD hsm
      obtain ⟨mx, ml⟩ := m
      refine row_of Try.func56 rfl rfl (Nat.le_of_ble_eq_true rfl) ?_
      repeat' (first | refine aw_seq ?_ | refine aw_skip ?_ | refine aw_block ?_ | refine aw_exit ?_ | refine aw_cond rfl (fun _ => ?_) (fun hb => absurd hb (by decide)) | refine aw_cond rfl (fun hb => absurd hb (by decide)) (fun _ => ?_) | (refine aw_reg (fun K hK => ?_); simp -implicitDefEqProofs [c13, a4, n0]) | (refine aw_drw mixd (fun K hK => ?_); simp -implicitDefEqProofs [c13, a4, n0]) | refine hK _ ?_ | refine hK _ _ (by rfl) ?_ | (refine ar_call (cp hf ?_); simp -implicitDefEqProofs [c13, a4, n0]) | (refine ard_call (dp hf ?_); simp -implicitDefEqProofs [c13, a4, n0]) | (refine ar_call (cp hd ?_); simp -implicitDefEqProofs [c13, a4, n0]) | (refine ard_call (dp hd ?_); simp -implicitDefEqProofs [c13, a4, n0]) | (refine ar_call (cp hb ?_); simp -implicitDefEqProofs [c13, a4, n0]) | (refine ard_call (dp hb ?_); simp -implicitDefEqProofs [c13, a4, n0]) | fail)
      refine aw_ret (fin_ret ?_); simp -implicitDefEqProofs [FinP, resV, resT] <;> try rfl
  by_cases c15 : x.k = 15
  · obtain ⟨n0, ⟨dx, dl⟩, hd⟩ := h15 c15
    obtain ⟨n, hn⟩ : ∃ n : Nat, x.n = n := ⟨x.n.toNat, by omega⟩
    rw [hn, Int.toNat_natCast] at hd
    have hds := kid_size (List.mem_of_getElem? hd)
    have hT : ruleT m x p = if fitB p dl = true then (.mk ⟨4, x.n, ⟨#[]⟩, 0, 0⟩ [], x.n, 0) else (z0T, 0, 10) := by
      unfold ruleT
      rw [hn, Int.toNat_natCast, show m.kids.getD n z0T = .mk dx dl by simp [List.getD, hd], Tr.kids]
      simp [c15]
    rw [hT]
    clear hT
    have hfit := rfit_row p dl (fun a ha => by have := (hp a ha).2; omega) (fun q hq => by
      have := kid_size (m := .mk dx dl) (d := q) hq; omega) (by have := Tr.len_size (x := dx) (l := dl); omega) (by omega)
    obtain ⟨R, hR⟩ : ∃ R, fitB p dl = R := ⟨_, rfl⟩
    rw [hR] at hfit ⊢
    clear hR hp
    obtain ⟨mx, ml⟩ := m
    rw [Tr.kids] at hd
    have hnl := (List.getElem?_eq_some_iff.1 hd).1
    have hd' := (List.getElem?_eq_some_iff.1 hd).2
    have hml := Tr.len_size (x := mx) (l := ml)
    have w0 : IntKind.i64.wrap ((n : Nat) : Int) = (n : Nat) := i64i _ (by omega) (by omega)
    cases R with
    | true =>
      refine row_of Try.func56 rfl rfl (Nat.le_of_ble_eq_true rfl) ?_
      repeat' (first | refine aw_seq ?_ | refine aw_skip ?_ | refine aw_block ?_ | refine aw_exit ?_ | refine aw_cond rfl (fun _ => ?_) (fun hb => absurd hb (by decide)) | refine aw_cond rfl (fun hb => absurd hb (by decide)) (fun _ => ?_) | (refine aw_reg (fun K hK => ?_); simp -implicitDefEqProofs [c15, hn, hnl, hd, hd', w0]) | (refine aw_drw mixd (fun K hK => ?_); simp -implicitDefEqProofs [c15, hn, hnl, hd, hd', w0]) | refine hK _ ?_ | refine hK _ _ (by rfl) ?_ | (refine ar_call (cp hfit ?_); simp -implicitDefEqProofs [c15, hn, hnl, hd, hd', w0]) | (refine ard_call (dp hfit ?_); simp -implicitDefEqProofs [c15, hn, hnl, hd, hd', w0]) | fail)
      refine aw_ret (fin_ret ?_); simp -implicitDefEqProofs [FinP, resV, resT, hn] <;> try rfl
    | false =>
      refine row_of Try.func56 rfl rfl (Nat.le_of_ble_eq_true rfl) ?_
      repeat' (first | refine aw_seq ?_ | refine aw_skip ?_ | refine aw_block ?_ | refine aw_exit ?_ | refine aw_cond rfl (fun _ => ?_) (fun hb => absurd hb (by decide)) | refine aw_cond rfl (fun hb => absurd hb (by decide)) (fun _ => ?_) | (refine aw_reg (fun K hK => ?_); simp -implicitDefEqProofs [c15, hn, hnl, hd, hd', w0]) | (refine aw_drw mixd (fun K hK => ?_); simp -implicitDefEqProofs [c15, hn, hnl, hd, hd', w0]) | refine hK _ ?_ | refine hK _ _ (by rfl) ?_ | (refine ar_call (cp hfit ?_); simp -implicitDefEqProofs [c15, hn, hnl, hd, hd', w0]) | (refine ard_call (dp hfit ?_); simp -implicitDefEqProofs [c15, hn, hnl, hd, hd', w0]) | fail)
      refine aw_ret (fin_ret ?_); simp -implicitDefEqProofs [FinP, resV, resT] <;> try rfl
  by_cases c16 : x.k = 16
  · obtain ⟨n0, dx, ⟨ax, al⟩, ⟨bx, bl⟩, ⟨cx, cl⟩, hd⟩ := h16 c16
    obtain ⟨n, hn⟩ : ∃ n : Nat, x.n = n := ⟨x.n.toNat, by omega⟩
    rw [hn, Int.toNat_natCast] at hd
    have hds := kid_size (List.mem_of_getElem? hd)
    have has := Tr.size_at (x := dx) (l := [Tr.mk ax al, .mk bx bl, .mk cx cl]) (i := 0) rfl
    have hbs := Tr.size_at (x := dx) (l := [Tr.mk ax al, .mk bx bl, .mk cx cl]) (i := 1) rfl
    have hT : ruleT m x p = if fitB p al = true then (barT (.mk bx bl), x.n, 0) else (z0T, 0, 10) := by
      unfold ruleT
      rw [hn, Int.toNat_natCast, show m.kids.getD n z0T = .mk dx [.mk ax al, .mk bx bl, .mk cx cl] by simp [List.getD, hd], Tr.kids]
      simp [c16, Tr.kids]
    rw [hT]
    clear hT
    have hfit := rfit_row p al (fun a ha => by have := (hp a ha).2; omega) (fun q hq => by
      have := kid_size (m := .mk ax al) (d := q) hq; omega) (by have := Tr.len_size (x := ax) (l := al); omega) (by omega)
    have hb := rbare_row (.mk bx bl) (by omega)
    obtain ⟨R, hR⟩ : ∃ R, fitB p al = R := ⟨_, rfl⟩
    rw [hR] at hfit ⊢
    obtain ⟨⟨ex, el⟩, hE⟩ : ∃ e, barT (.mk bx bl) = e := ⟨_, rfl⟩
    rw [hE] at hb ⊢
    clear hR hp hE
    obtain ⟨mx, ml⟩ := m
    rw [Tr.kids] at hd
    have hnl := (List.getElem?_eq_some_iff.1 hd).1
    have hd' := (List.getElem?_eq_some_iff.1 hd).2
    have hml := Tr.len_size (x := mx) (l := ml)
    have w0 : IntKind.i64.wrap ((n : Nat) : Int) = (n : Nat) := i64i _ (by omega) (by omega)
    cases R with
    | true =>
      refine row_of Try.func56 rfl rfl (Nat.le_of_ble_eq_true rfl) ?_
      repeat' (first | refine aw_seq ?_ | refine aw_skip ?_ | refine aw_block ?_ | refine aw_exit ?_ | refine aw_cond rfl (fun _ => ?_) (fun hb => absurd hb (by decide)) | refine aw_cond rfl (fun hb => absurd hb (by decide)) (fun _ => ?_) | (refine aw_reg (fun K hK => ?_); simp -implicitDefEqProofs [c16, hn, hnl, hd, hd', w0]) | (refine aw_drw mixd (fun K hK => ?_); simp -implicitDefEqProofs [c16, hn, hnl, hd, hd', w0]) | refine hK _ ?_ | refine hK _ _ (by rfl) ?_ | (refine ar_call (cp hfit ?_); simp -implicitDefEqProofs [c16, hn, hnl, hd, hd', w0]) | (refine ard_call (dp hfit ?_); simp -implicitDefEqProofs [c16, hn, hnl, hd, hd', w0]) | (refine ar_call (cp hb ?_); simp -implicitDefEqProofs [c16, hn, hnl, hd, hd', w0]) | (refine ard_call (dp hb ?_); simp -implicitDefEqProofs [c16, hn, hnl, hd, hd', w0]) | fail)
      refine aw_ret (fin_ret ?_); simp -implicitDefEqProofs [FinP, resV, resT, hn] <;> try rfl
    | false =>
      refine row_of Try.func56 rfl rfl (Nat.le_of_ble_eq_true rfl) ?_
      repeat' (first | refine aw_seq ?_ | refine aw_skip ?_ | refine aw_block ?_ | refine aw_exit ?_ | refine aw_cond rfl (fun _ => ?_) (fun hb => absurd hb (by decide)) | refine aw_cond rfl (fun hb => absurd hb (by decide)) (fun _ => ?_) | (refine aw_reg (fun K hK => ?_); simp -implicitDefEqProofs [c16, hn, hnl, hd, hd', w0]) | (refine aw_drw mixd (fun K hK => ?_); simp -implicitDefEqProofs [c16, hn, hnl, hd, hd', w0]) | refine hK _ ?_ | refine hK _ _ (by rfl) ?_ | (refine ar_call (cp hfit ?_); simp -implicitDefEqProofs [c16, hn, hnl, hd, hd', w0]) | (refine ard_call (dp hfit ?_); simp -implicitDefEqProofs [c16, hn, hnl, hd, hd', w0]) | (refine ar_call (cp hb ?_); simp -implicitDefEqProofs [c16, hn, hnl, hd, hd', w0]) | (refine ard_call (dp hb ?_); simp -implicitDefEqProofs [c16, hn, hnl, hd, hd', w0]) | fail)
      refine aw_ret (fin_ret ?_); simp -implicitDefEqProofs [FinP, resV, resT] <;> try rfl
  have hT : ruleT m x p = (z0T, 0, 10) := by
    unfold ruleT
    simp [c10, c11, c12, c13, c14, c15, c16]
  rw [hT]
  clear hT hp
  obtain ⟨mx, ml⟩ := m
  refine row_of Try.func56 rfl rfl (Nat.le_of_ble_eq_true rfl) ?_
  repeat (first | refine aw_seq ?_ | refine aw_skip ?_ | refine aw_block ?_ | refine aw_exit ?_ | refine aw_cond rfl (fun _ => ?_) (fun hb => absurd hb (by decide)) | refine aw_cond rfl (fun hb => absurd hb (by decide)) (fun _ => ?_) | (refine aw_reg (fun K hK => ?_); simp -implicitDefEqProofs [c10, c11, c12, c13, c14, c15, c16]; refine hK _ ?_) | (refine aw_drw mixd (fun K hK => ?_); simp -implicitDefEqProofs [c10, c11, c12, c13, c14, c15, c16]; refine hK _ _ (by rfl) ?_) | fail)
  refine aw_ret (fin_ret ?_); simp -implicitDefEqProofs [FinP, resV, resT] <;> try rfl
end Go.Proofs.Ythmdllhhmhbhbaa.am
end
