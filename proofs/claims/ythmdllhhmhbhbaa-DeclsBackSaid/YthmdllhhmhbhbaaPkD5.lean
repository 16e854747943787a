import Derived.Test.YthmdllhhmhbhbaaPkD4
section
namespace Go.Proofs.Ythmdllhhmhbhbaa.am
open Go.ChangeShapes Go.WideShapes Go.ChangeAt Go.RowKit
open vt
set_option linter.unusedVariables false
set_option linter.unusedSimpArgs false
theorem td_order : td Try.prog 41 = some ⟨true, 1, 24, [.nilS], [(0, 1, false)], .struct⟩ := Eq.trans (by kernel_rfl) (Eq.refl _)
theorem td_porder : td Try.prog 39 = some ⟨false, 1, 8, [.lit (.pointer none)], [], (.pointer 41)⟩ := Eq.trans (by kernel_rfl) (Eq.refl _)
attribute [simp] td_order td_porder
set_option maxRecDepth 100000 in
set_option maxHeartbeats 4000000 in
theorem named_row (x : Lab) (l : List VT) (hx : x.ok) : Row Try.prog 20 [vT (.mk x l)] [] (.tup [.c (.pv (I (nmP x).1)), .c (.pv (I (nmP x).2))]) [] := by
  have hq : 0 ≤ x.n → IntKind.i64.wrap (x.n.tdiv 64) = x.n / 64 := fun h => by
    rw [Int.tdiv_eq_ediv_of_nonneg h]
    exact i64i _ (by omega) (by have := hx.2.1.2; omega)
  by_cases h0 : 0 ≤ x.n
  · have hq := hq h0
    refine row_of Try.func20 rfl rfl (Nat.le_of_ble_eq_true rfl) ?_
    repeat' (first | refine aw_seq ?_ | refine aw_skip ?_ | refine aw_block ?_ | refine aw_exit ?_ | refine aw_cond rfl (fun _ => ?_) (fun hb => absurd hb (by decide)) | refine aw_cond rfl (fun hb => absurd hb (by decide)) (fun _ => ?_) | (refine aw_reg (fun K hK => ?_); simp -implicitDefEqProofs [*]) | (refine aw_drw mixd (fun K hK => ?_); simp -implicitDefEqProofs [*]) | refine hK _ ?_ | refine hK _ _ (by rfl) ?_ | (refine aw_cond rfl (fun hb => ?_) (fun hb => ?_) <;> ((try simp only [decide_eq_true_eq, decide_eq_false_iff_not, Bool.not_eq_true', Bool.not_eq_false', Bool.not_eq_eq_eq_not, Bool.not_true, Bool.not_false, beq_iff_eq, beq_true, beq_false, bne_iff_ne, ne_eq, Decidable.not_not, Bool.and_eq_true, Bool.or_eq_true, Bool.and_eq_false_iff, Bool.or_eq_false_iff] at hb) <;> repeat' (refine Or.elim hb (fun hb => ?_) (fun hb => ?_)))) | (refine gx_split (fun hb => ?_) (fun hb => ?_) <;> ((try simp only [decide_eq_true_eq, decide_eq_false_iff_not, Bool.not_eq_true', Bool.not_eq_false', Bool.not_eq_eq_eq_not, Bool.not_true, Bool.not_false, beq_iff_eq, beq_true, beq_false, bne_iff_ne, ne_eq, Decidable.not_not, Bool.and_eq_true, Bool.or_eq_true, Bool.and_eq_false_iff, Bool.or_eq_false_iff] at hb) <;> repeat' (refine Or.elim hb (fun hb => ?_) (fun hb => ?_))) <;> simp -implicitDefEqProofs [*]) | (refine gxd_split (fun hb => ?_) (fun hb => ?_) <;> ((try simp only [decide_eq_true_eq, decide_eq_false_iff_not, Bool.not_eq_true', Bool.not_eq_false', Bool.not_eq_eq_eq_not, Bool.not_true, Bool.not_false, beq_iff_eq, beq_true, beq_false, bne_iff_ne, ne_eq, Decidable.not_not, Bool.and_eq_true, Bool.or_eq_true, Bool.and_eq_false_iff, Bool.or_eq_false_iff] at hb) <;> repeat' (refine Or.elim hb (fun hb => ?_) (fun hb => ?_))) <;> simp -implicitDefEqProofs [*]) | fail)
    all_goals (first | contradiction | (refine aw_ret (fin_ret ?_); simp -implicitDefEqProofs [FinP, resV, resT, nmP, nmK, *] <;> try rfl))
  · clear hq
    refine row_of Try.func20 rfl rfl (Nat.le_of_ble_eq_true rfl) ?_
    repeat' (first | refine aw_seq ?_ | refine aw_skip ?_ | refine aw_block ?_ | refine aw_exit ?_ | refine aw_cond rfl (fun _ => ?_) (fun hb => absurd hb (by decide)) | refine aw_cond rfl (fun hb => absurd hb (by decide)) (fun _ => ?_) | (refine aw_reg (fun K hK => ?_); simp -implicitDefEqProofs [*]) | (refine aw_drw mixd (fun K hK => ?_); simp -implicitDefEqProofs [*]) | refine hK _ ?_ | refine hK _ _ (by rfl) ?_ | (refine aw_cond rfl (fun hb => ?_) (fun hb => ?_) <;> ((try simp only [decide_eq_true_eq, decide_eq_false_iff_not, Bool.not_eq_true', Bool.not_eq_false', Bool.not_eq_eq_eq_not, Bool.not_true, Bool.not_false, beq_iff_eq, beq_true, beq_false, bne_iff_ne, ne_eq, Decidable.not_not, Bool.and_eq_true, Bool.or_eq_true, Bool.and_eq_false_iff, Bool.or_eq_false_iff] at hb) <;> repeat' (refine Or.elim hb (fun hb => ?_) (fun hb => ?_)))) | (refine gx_split (fun hb => ?_) (fun hb => ?_) <;> ((try simp only [decide_eq_true_eq, decide_eq_false_iff_not, Bool.not_eq_true', Bool.not_eq_false', Bool.not_eq_eq_eq_not, Bool.not_true, Bool.not_false, beq_iff_eq, beq_true, beq_false, bne_iff_ne, ne_eq, Decidable.not_not, Bool.and_eq_true, Bool.or_eq_true, Bool.and_eq_false_iff, Bool.or_eq_false_iff] at hb) <;> repeat' (refine Or.elim hb (fun hb => ?_) (fun hb => ?_))) <;> simp -implicitDefEqProofs [*]) | (refine gxd_split (fun hb => ?_) (fun hb => ?_) <;> ((try simp only [decide_eq_true_eq, decide_eq_false_iff_not, Bool.not_eq_true', Bool.not_eq_false', Bool.not_eq_eq_eq_not, Bool.not_true, Bool.not_false, beq_iff_eq, beq_true, beq_false, bne_iff_ne, ne_eq, Decidable.not_not, Bool.and_eq_true, Bool.or_eq_true, Bool.and_eq_false_iff, Bool.or_eq_false_iff] at hb) <;> repeat' (refine Or.elim hb (fun hb => ?_) (fun hb => ?_))) <;> simp -implicitDefEqProofs [*]) | fail)
    all_goals (first | contradiction | (refine aw_ret (fin_ret ?_); simp -implicitDefEqProofs [FinP, resV, resT, nmP, nmK, *] <;> try rfl))
def fstI (p : VT → Bool) (l : List VT) : Int := match l.findIdx? p with | some i => (i : Int) | none => -1
theorem fstI_any (p : VT → Bool) (l : List VT) : decide (0 ≤ fstI p l) = l.any p := by
  unfold fstI
  cases h : l.findIdx? p with
  | none =>
    have := List.findIdx?_eq_none_iff.1 h
    have e : l.any p = false := by rw [List.any_eq_false]; intro x hx; rw [this x hx]; simp
    rw [e]; rfl
  | some i =>
    obtain ⟨hi, h1, _⟩ := List.findIdx?_eq_some_iff_getElem.1 h
    have e : l.any p = true := List.any_eq_true.2 ⟨l[i], List.getElem_mem hi, h1⟩
    rw [e]
    simp
abbrev bxI (z : Int) : AO := .box [.pv (I z)]
set_option maxRecDepth 100000 in
set_option maxHeartbeats 4000000 in
theorem indexF_row (f : Nat) (q : Int) (p : VT → Bool) (l : List VT) (hl : l.length ≤ 1000000) (hf : ∀ t ∈ l, Row Try.prog f [vT t, .v (.c (.ptr 0 0))] [bxI q] (vB (p t)) [some (bxI q)]) : Row Try.prog 30 [vLs l, .v (.c (.fn (.func f) [] [.ptr 0 0]))] [bxI q] (vI (fstI p l)) [some (bxI q)] := by
  refine row_of Try.func30 rfl rfl (Nat.le_of_ble_eq_true rfl) ?_
  repeat (first | refine aw_seq ?_ | refine aw_skip ?_ | refine aw_block ?_ | refine aw_exit ?_ | refine aw_cond rfl (fun _ => ?_) (fun hb => absurd hb (by decide)) | refine aw_cond rfl (fun hb => absurd hb (by decide)) (fun _ => ?_) | (refine aw_reg (fun K hK => ?_); simp -implicitDefEqProofs; refine hK _ ?_) | (refine aw_drw mixd (fun K hK => ?_); simp -implicitDefEqProofs; refine hK _ _ (by rfl) ?_) | fail)
  refine aw_lp (ι := Nat) (fun k => mkSt [(0, vLs l), (1, .v (.c (.fn (.func f) [] [.ptr 0 0]))), (7, vI (l.length : Nat)), (8, vI (k : Nat))] [some (bxI q)]) (fun k => k ≤ l.length ∧ ∀ (j : Nat) t, l[j]? = some t → j < k → p t = false) (fun k => l.length - k) 0 ⟨Nat.zero_le _, fun j t _ h => by omega⟩ (cov_intro [0] (by simp -implicitDefEqProofs) (by simp -implicitDefEqProofs) (by decide) rfl (by simp)) (fun Z hI k hk => ?_)
  obtain ⟨hk, hz⟩ := hk
  by_cases hkl : k < l.length; rotate_left
  · have e : fstI p l = -1 := by
      unfold fstI
      rw [List.findIdx?_eq_none_iff.2 (fun x hx => by
        obtain ⟨j, hj⟩ := List.mem_iff_getElem?.1 hx
        exact hz j x hj (by have := (List.getElem?_eq_some_iff.1 hj).1; omega))]
    rw [e]
    repeat (first | refine aw_seq ?_ | refine aw_skip ?_ | refine aw_block ?_ | refine aw_exit ?_ | refine aw_cond rfl (fun _ => ?_) (fun hb => absurd hb (by decide)) | refine aw_cond rfl (fun hb => absurd hb (by decide)) (fun _ => ?_) | (refine aw_reg (fun K hK => ?_); simp -implicitDefEqProofs [hkl]; refine hK _ ?_) | (refine aw_drw mixd (fun K hK => ?_); simp -implicitDefEqProofs [hkl]; refine hK _ _ (by rfl) ?_) | fail)
    refine aw_ret (fin_box ?_); simp -implicitDefEqProofs [FinB, resV, resT] <;> try rfl
  obtain ⟨⟨ax, al⟩, ha⟩ : ∃ a, l[k]? = some a := ⟨_, List.getElem?_eq_getElem hkl⟩
  have ha' := (List.getElem?_eq_some_iff.1 ha).2
  have w2 : IntKind.i64.wrap ((k : Nat) + 1 : Int) = (k : Nat) + 1 := i64i _ (by omega) (by omega)
  have hc := hf _ (List.mem_of_getElem? ha)
  by_cases hp : p (.mk ax al) = true
  · have e : fstI p l = (k : Nat) := by
      unfold fstI
      rw [show l.findIdx? p = some k from List.findIdx?_eq_some_iff_getElem.2 ⟨hkl, by rw [ha']; exact hp, fun j hj => by
        have := hz j l[j] (List.getElem?_eq_getElem (by omega)) hj
        simp [this]⟩]
    rw [e]
    rw [hp] at hc
    repeat' (first | refine aw_seq ?_ | refine aw_skip ?_ | refine aw_block ?_ | refine aw_exit ?_ | refine aw_cond rfl (fun _ => ?_) (fun hb => absurd hb (by decide)) | refine aw_cond rfl (fun hb => absurd hb (by decide)) (fun _ => ?_) | (refine aw_reg (fun K hK => ?_); simp -implicitDefEqProofs [hkl, ha, ha', w2]) | (refine aw_drw mixd (fun K hK => ?_); simp -implicitDefEqProofs [hkl, ha, ha', w2]) | refine hK _ ?_ | refine hK _ _ (by rfl) ?_ | (refine ar_call (cb hc 0 ?_); simp -implicitDefEqProofs [hkl, ha, ha', w2]) | (refine ard_call (db hc 0 ?_); simp -implicitDefEqProofs [hkl, ha, ha', w2]) | fail)
    refine aw_ret (fin_box ?_); simp -implicitDefEqProofs [FinB, resV, resT] <;> try rfl
  · have hp : p (.mk ax al) = false := by simpa using hp
    rw [hp] at hc
    repeat' (first | refine aw_seq ?_ | refine aw_skip ?_ | refine aw_block ?_ | refine aw_exit ?_ | refine aw_cond rfl (fun _ => ?_) (fun hb => absurd hb (by decide)) | refine aw_cond rfl (fun hb => absurd hb (by decide)) (fun _ => ?_) | (refine aw_reg (fun K hK => ?_); simp -implicitDefEqProofs [hkl, ha, ha', w2]) | (refine aw_drw mixd (fun K hK => ?_); simp -implicitDefEqProofs [hkl, ha, ha', w2]) | refine hK _ ?_ | refine hK _ _ (by rfl) ?_ | (refine ar_call (cb hc 0 ?_); simp -implicitDefEqProofs [hkl, ha, ha', w2]) | (refine ard_call (db hc 0 ?_); simp -implicitDefEqProofs [hkl, ha, ha', w2]) | fail)
    refine ⟨k + 1, ⟨by omega, fun j t hj hjk => ?_⟩, (by dsimp only; omega), ?_⟩
    · by_cases hjk' : j = k
      · subst hjk'; rw [ha] at hj; cases hj; exact hp
      · exact hz j t hj (by omega)
    · rw [hI]; exact cov_intro [0] (by simp -implicitDefEqProofs) (by simp -implicitDefEqProofs) (by decide) rfl (by simp)
set_option maxRecDepth 100000 in
set_option maxHeartbeats 4000000 in
theorem contF_row (f : Nat) (q : Int) (p : VT → Bool) (l : List VT) (hl : l.length ≤ 1000000) (hf : ∀ t ∈ l, Row Try.prog f [vT t, .v (.c (.ptr 0 0))] [bxI q] (vB (p t)) [some (bxI q)]) : Row Try.prog 21 [vLs l, .v (.c (.fn (.func f) [] [.ptr 0 0]))] [bxI q] (vB (l.any p)) [some (bxI q)] := by
  have h := indexF_row f q p l hl hf
  rw [← fstI_any p l]
  refine row_of Try.func21 rfl rfl (Nat.le_of_ble_eq_true rfl) ?_
  repeat' (first | refine aw_seq ?_ | refine aw_skip ?_ | refine aw_block ?_ | refine aw_exit ?_ | refine aw_cond rfl (fun _ => ?_) (fun hb => absurd hb (by decide)) | refine aw_cond rfl (fun hb => absurd hb (by decide)) (fun _ => ?_) | (refine aw_reg (fun K hK => ?_); simp -implicitDefEqProofs) | (refine aw_drw mixd (fun K hK => ?_); simp -implicitDefEqProofs) | refine hK _ ?_ | refine hK _ _ (by rfl) ?_ | (refine ar_call (cb h 0 ?_); simp -implicitDefEqProofs) | (refine ard_call (db h 0 ?_); simp -implicitDefEqProofs) | fail)
  refine aw_ret (fin_box ?_); simp -implicitDefEqProofs [FinB, resV, resT] <;> try rfl
set_option maxRecDepth 100000 in
set_option maxHeartbeats 4000000 in
theorem names_row (i : Int) (hi : 0 ≤ i) (hi' : i ≤ 9223372036854775807) (t : VT) : in64 t → t.size ≤ 1000000 → Row Try.prog 15 [vT t, vI i] [] (vB (nmsT i t)) [] := by
  induction t using Tr.ind with
  | h x l ih =>
  intro hx hsz
  have hlen := Tr.len_size (x := x) (l := l)
  have hn := named_row x l (lab_ok hx)
  have wi : IntKind.i64.wrap i = i := i64i _ (by omega) hi'
  have hd : ∀ t ∈ l, Row Try.prog 22 [vT t, .v (.c (.ptr 0 0))] [bxI i] (vB (nmsT i t)) [some (bxI i)] := fun t ht => by
    obtain ⟨k, hk⟩ := List.mem_iff_getElem?.1 ht
    have h := ih t ht (kid_ok hx ht) (by have := Tr.size_at (x := x) hk; omega)
    obtain ⟨ax, al⟩ := t
    refine row_of Try.func22 rfl rfl (Nat.le_of_ble_eq_true rfl) ?_
    repeat' (first | refine aw_seq ?_ | refine aw_skip ?_ | refine aw_block ?_ | refine aw_exit ?_ | refine aw_cond rfl (fun _ => ?_) (fun hb => absurd hb (by decide)) | refine aw_cond rfl (fun hb => absurd hb (by decide)) (fun _ => ?_) | (refine aw_reg (fun K hK => ?_); simp -implicitDefEqProofs) | (refine aw_drw mixd (fun K hK => ?_); simp -implicitDefEqProofs) | refine hK _ ?_ | refine hK _ _ (by rfl) ?_ | (refine ar_call (cp h ?_); simp -implicitDefEqProofs) | (refine ard_call (dp h ?_); simp -implicitDefEqProofs) | fail)
    refine aw_ret (fin_box ?_); simp -implicitDefEqProofs [FinB, resV, resT] <;> try rfl
  have hc := contF_row 22 i (nmsT i) l (by omega) hd
  rw [nmsT_mk, ← nmP_R x i hi]
  obtain ⟨⟨p1, p2⟩, hp⟩ : ∃ p, nmP x = p := ⟨_, rfl⟩
  rw [hp] at hn ⊢
  clear hd
  by_cases h1 : 0 < p2
  · by_cases h2 : p1 = i
    · refine row_of Try.func15 rfl rfl (Nat.le_of_ble_eq_true rfl) ?_
      repeat' (first | refine aw_seq ?_ | refine aw_skip ?_ | refine aw_block ?_ | refine aw_exit ?_ | refine aw_cond rfl (fun _ => ?_) (fun hb => absurd hb (by decide)) | refine aw_cond rfl (fun hb => absurd hb (by decide)) (fun _ => ?_) | (refine aw_reg (fun K hK => ?_); simp -implicitDefEqProofs [h1, h2, wi]) | (refine aw_drw mixd (fun K hK => ?_); simp -implicitDefEqProofs [h1, h2, wi]) | refine hK _ ?_ | refine hK _ _ (by rfl) ?_ | (refine ar_call (cp hn ?_); simp -implicitDefEqProofs [h1, h2, wi]) | (refine ard_call (dp hn ?_); simp -implicitDefEqProofs [h1, h2, wi]) | (refine ar_call (cb hc 1 ?_); simp -implicitDefEqProofs [h1, h2, wi]) | (refine ard_call (db hc 1 ?_); simp -implicitDefEqProofs [h1, h2, wi]) | fail)
      refine aw_ret (fin_ret ?_); simp -implicitDefEqProofs [FinP, resV, resT, h1, h2] <;> try rfl
    · refine row_of Try.func15 rfl rfl (Nat.le_of_ble_eq_true rfl) ?_
      repeat' (first | refine aw_seq ?_ | refine aw_skip ?_ | refine aw_block ?_ | refine aw_exit ?_ | refine aw_cond rfl (fun _ => ?_) (fun hb => absurd hb (by decide)) | refine aw_cond rfl (fun hb => absurd hb (by decide)) (fun _ => ?_) | (refine aw_reg (fun K hK => ?_); simp -implicitDefEqProofs [h1, h2, wi]) | (refine aw_drw mixd (fun K hK => ?_); simp -implicitDefEqProofs [h1, h2, wi]) | refine hK _ ?_ | refine hK _ _ (by rfl) ?_ | (refine ar_call (cp hn ?_); simp -implicitDefEqProofs [h1, h2, wi]) | (refine ard_call (dp hn ?_); simp -implicitDefEqProofs [h1, h2, wi]) | (refine ar_call (cb hc 1 ?_); simp -implicitDefEqProofs [h1, h2, wi]) | (refine ard_call (db hc 1 ?_); simp -implicitDefEqProofs [h1, h2, wi]) | fail)
      refine aw_ret (fin_ret ?_); simp -implicitDefEqProofs [FinP, resV, resT, h1, h2] <;> try rfl
  · refine row_of Try.func15 rfl rfl (Nat.le_of_ble_eq_true rfl) ?_
    repeat' (first | refine aw_seq ?_ | refine aw_skip ?_ | refine aw_block ?_ | refine aw_exit ?_ | refine aw_cond rfl (fun _ => ?_) (fun hb => absurd hb (by decide)) | refine aw_cond rfl (fun hb => absurd hb (by decide)) (fun _ => ?_) | (refine aw_reg (fun K hK => ?_); simp -implicitDefEqProofs [h1, wi]) | (refine aw_drw mixd (fun K hK => ?_); simp -implicitDefEqProofs [h1, wi]) | refine hK _ ?_ | refine hK _ _ (by rfl) ?_ | (refine ar_call (cp hn ?_); simp -implicitDefEqProofs [h1, wi]) | (refine ard_call (dp hn ?_); simp -implicitDefEqProofs [h1, wi]) | (refine ar_call (cb hc 1 ?_); simp -implicitDefEqProofs [h1, wi]) | (refine ard_call (db hc 1 ?_); simp -implicitDefEqProofs [h1, wi]) | fail)
    refine aw_ret (fin_ret ?_); simp -implicitDefEqProofs [FinP, resV, resT, h1] <;> try rfl
abbrev bxO (to : List Int) : AO := .box [.pv (Is to)]
def okTo (to : List Int) : Prop := to.length ≤ 1000000 ∧ ∀ z ∈ to, -1 ≤ z ∧ z ≤ 1000000
theorem plc_in {to : List Int} (h : okTo to) (n : Int) : plc to n = n ∨ (0 ≤ n ∧ n < to.length ∧ 0 ≤ plc to n ∧ plc to n ≤ 1000000) := by
  unfold plc
  split
  · exact .inl rfl
  · split
    · rename_i z hz
      split
      · exact .inl rfl
      · have := h.2 z (List.mem_of_getElem? hz)
        have h1 := (List.getElem?_eq_some_iff.1 hz).1
        exact .inr ⟨by omega, by omega, by omega, this.2⟩
    · exact .inl rfl
set_option maxRecDepth 100000 in
set_option maxHeartbeats 4000000 in
theorem place_row (to : List Int) (h : okTo to) (n : Int) (hn : -9223372036854775808 ≤ n ∧ n ≤ 9223372036854775807) : Row Try.prog 17 [.v (.c (.ptr 0 0)), vI n] [bxO to] (vI (plc to n)) [some (bxO to)] := by
  have hl := h.1
  have wl : IntKind.i64.wrap (to.length : Int) = to.length := i64i _ (by omega) (by omega)
  have wn : IntKind.i64.wrap n = n := i64i _ (by omega) (by omega)
  by_cases h0 : n < 0
  · rw [show plc to n = n by unfold plc; rw [if_pos h0]]
    refine row_of Try.func17 rfl rfl (Nat.le_of_ble_eq_true rfl) ?_
    repeat (first | refine aw_seq ?_ | refine aw_skip ?_ | refine aw_block ?_ | refine aw_exit ?_ | refine aw_cond rfl (fun _ => ?_) (fun hb => absurd hb (by decide)) | refine aw_cond rfl (fun hb => absurd hb (by decide)) (fun _ => ?_) | (refine aw_reg (fun K hK => ?_); simp -implicitDefEqProofs [h0, wl]; refine hK _ ?_) | (refine aw_drw mixd (fun K hK => ?_); simp -implicitDefEqProofs [h0, wl]; refine hK _ _ (by rfl) ?_) | fail)
    refine aw_ret (fin_box ?_); simp -implicitDefEqProofs [FinB, resV, resT] <;> try rfl
  by_cases h1 : (to.length : Int) ≤ n
  · rw [show plc to n = n by unfold plc; rw [if_neg h0, List.getElem?_eq_none (by omega)]]
    refine row_of Try.func17 rfl rfl (Nat.le_of_ble_eq_true rfl) ?_
    repeat (first | refine aw_seq ?_ | refine aw_skip ?_ | refine aw_block ?_ | refine aw_exit ?_ | refine aw_cond rfl (fun _ => ?_) (fun hb => absurd hb (by decide)) | refine aw_cond rfl (fun hb => absurd hb (by decide)) (fun _ => ?_) | (refine aw_reg (fun K hK => ?_); simp -implicitDefEqProofs [h0, h1, wl]; refine hK _ ?_) | (refine aw_drw mixd (fun K hK => ?_); simp -implicitDefEqProofs [h0, h1, wl]; refine hK _ _ (by rfl) ?_) | fail)
    refine aw_ret (fin_box ?_); simp -implicitDefEqProofs [FinB, resV, resT] <;> try rfl
  obtain ⟨k, rfl⟩ : ∃ k : Nat, n = k := ⟨n.toNat, by omega⟩
  have hkl : k < to.length := by omega
  obtain ⟨z, hz⟩ : ∃ z, to[k]? = some z := ⟨_, List.getElem?_eq_getElem hkl⟩
  have hz' := (List.getElem?_eq_some_iff.1 hz).2
  have hzz := h.2 z (List.mem_of_getElem? hz)
  have wz : IntKind.i64.wrap z = z := i64i _ (by omega) (by omega)
  by_cases h2 : z < 0
  · rw [show plc to (k : Nat) = (k : Nat) by unfold plc; rw [if_neg h0]; simp [hz, h2]]
    refine row_of Try.func17 rfl rfl (Nat.le_of_ble_eq_true rfl) ?_
    repeat (first | refine aw_seq ?_ | refine aw_skip ?_ | refine aw_block ?_ | refine aw_exit ?_ | refine aw_cond rfl (fun _ => ?_) (fun hb => absurd hb (by decide)) | refine aw_cond rfl (fun hb => absurd hb (by decide)) (fun _ => ?_) | (refine aw_reg (fun K hK => ?_); simp -implicitDefEqProofs [h0, h1, wl, hkl, hz, hz', h2, wn]; refine hK _ ?_) | (refine aw_drw mixd (fun K hK => ?_); simp -implicitDefEqProofs [h0, h1, wl, hkl, hz, hz', h2, wn]; refine hK _ _ (by rfl) ?_) | fail)
    refine aw_ret (fin_box ?_); simp -implicitDefEqProofs [FinB, resV, resT] <;> try rfl
  · rw [show plc to (k : Nat) = z by unfold plc; rw [if_neg h0]; simp [hz, h2]]
    refine row_of Try.func17 rfl rfl (Nat.le_of_ble_eq_true rfl) ?_
    repeat (first | refine aw_seq ?_ | refine aw_skip ?_ | refine aw_block ?_ | refine aw_exit ?_ | refine aw_cond rfl (fun _ => ?_) (fun hb => absurd hb (by decide)) | refine aw_cond rfl (fun hb => absurd hb (by decide)) (fun _ => ?_) | (refine aw_reg (fun K hK => ?_); simp -implicitDefEqProofs [h0, h1, wl, hkl, hz, hz', h2, wn, wz]; refine hK _ ?_) | (refine aw_drw mixd (fun K hK => ?_); simp -implicitDefEqProofs [h0, h1, wl, hkl, hz, hz', h2, wn, wz]; refine hK _ _ (by rfl) ?_) | fail)
    refine aw_ret (fin_box ?_); simp -implicitDefEqProofs [FinB, resV, resT] <;> try rfl
abbrev vPl : AV := .v (.c (.fn (.func 17) [.ptr 0 0] []))
theorem nw_wrap {to : List Int} (h : okTo to) {x : Lab} (hx : x.ok) : IntKind.i64.wrap (plc to (nmP x).1 - (nmP x).1) = plc to (nmP x).1 - (nmP x).1 ∧ IntKind.i64.wrap ((plc to (nmP x).1 - (nmP x).1) * (nmP x).2) = (plc to (nmP x).1 - (nmP x).1) * (nmP x).2 ∧ (0 < (nmP x).2 → IntKind.i64.wrap (x.n + (plc to (nmP x).1 - (nmP x).1) * (nmP x).2) = nwN to x) ∧ (¬ 0 < (nmP x).2 → x.n = nwN to x) := by
  obtain ⟨_, ⟨n0, n1⟩, _⟩ := hx
  have hl := h.1
  unfold nmP nwN
  by_cases h1 : nmK x.k = true
  · rw [if_pos h1, if_pos h1]
    dsimp only
    rcases plc_in h x.n with e | ⟨e1, e2, e3, e4⟩
    · rw [e]
      exact ⟨i64i _ (by omega) (by omega), i64i _ (by omega) (by omega), fun _ => by rw [i64i _ (by omega) (by omega)]; omega, fun h => by omega⟩
    · exact ⟨i64i _ (by omega) (by omega), i64i _ (by omega) (by omega), fun _ => by rw [i64i _ (by omega) (by omega)]; omega, fun h => by omega⟩
  · rw [if_neg h1, if_neg h1]
    by_cases h2 : x.k = 13 ∧ 0 ≤ x.n
    · rw [if_pos h2, if_pos h2]
      dsimp only
      rcases plc_in h (x.n / 64) with e | ⟨e1, e2, e3, e4⟩
      · rw [e]
        exact ⟨i64i _ (by omega) (by omega), i64i _ (by omega) (by omega), fun _ => by rw [i64i _ (by omega) (by omega)]; omega, fun h => by omega⟩
      · exact ⟨i64i _ (by omega) (by omega), i64i _ (by omega) (by omega), fun _ => by rw [i64i _ (by omega) (by omega)]; omega, fun h => by omega⟩
    · rw [if_neg h2, if_neg h2]
      dsimp only
      rcases plc_in h 0 with e | ⟨e1, e2, e3, e4⟩
      · rw [e]
        exact ⟨i64i _ (by omega) (by omega), i64i _ (by omega) (by omega), fun h => by omega, fun _ => rfl⟩
      · exact ⟨i64i _ (by omega) (by omega), i64i _ (by omega) (by omega), fun h => by omega, fun _ => rfl⟩
theorem nmP_in {x : Lab} (hx : x.ok) : -9223372036854775808 ≤ (nmP x).1 ∧ (nmP x).1 ≤ 9223372036854775807 := by
  obtain ⟨_, ⟨n0, n1⟩, _⟩ := hx
  unfold nmP
  split
  · exact ⟨n0, n1⟩
  · split
    · dsimp only; omega
    · dsimp only; omega
end Go.Proofs.Ythmdllhhmhbhbaa.am
end
section
namespace Go.Proofs.Ythmdllhhmhbhbaa.am
open Go.ChangeShapes Go.WideShapes Go.ChangeAt Go.RowKit
open vt
set_option linter.unusedVariables false
set_option linter.unusedSimpArgs false
set_option maxRecDepth 100000 in
set_option maxHeartbeats 4000000 in
theorem walk_row (to : List Int) (h : okTo to) (t : VT) : in64 t → t.size ≤ 1000000 → Row Try.prog 16 [.v (.c (.ptr 0 0)), vT t, vPl] [bxO to] (vT (renum to t)) [some (bxO to)] := by
  induction t using Tr.ind with
  | h x l ih =>
  intro hx hsz
  have hlen := Tr.len_size (x := x) (l := l)
  have hn := named_row x l (lab_ok hx)
  have hp := place_row to h (nmP x).1 (nmP_in (lab_ok hx))
  obtain ⟨w1, w2, w3, w4⟩ := nw_wrap h (lab_ok hx)
  rw [renum_mk]
  obtain ⟨q, hq⟩ : ∃ q, nwN to x = q := ⟨_, rfl⟩
  obtain ⟨⟨p1, p2⟩, hpp⟩ : ∃ p, nmP x = p := ⟨_, rfl⟩
  rw [hpp] at hn hp w1 w2 w3 w4
  rw [hq] at w3 w4 ⊢
  dsimp only at w1 w2 w3 w4 hp
  refine row_of Try.func16 rfl rfl (Nat.le_of_ble_eq_true rfl) ?_
  refine aw_seq ?_; refine aw_reg (fun K hK => ?_); simp -implicitDefEqProofs; refine hK _ ?_
  refine aw_meet (ι := Unit) (fun _ => mkSt [(0, .v (.c (.ptr 0 0))), (2, vPl), (4, .v (.c (.ptr 1 0))), (6, .v (.c (.ptr 2 0)))] [some (bxO to), some (.box (ta (.mk { x with n := q } l))), some (.box (ta (.mk ⟨0, 0, ⟨#[]⟩, 0, 0⟩ [])))]) (fun _ => True) (fun I hI => ?_) (fun _ _ => ?_)
  · by_cases hw : 0 < p2
    · have w3 := w3 hw
      repeat' (first | refine aw_seq ?_ | refine aw_skip ?_ | refine aw_block ?_ | refine aw_exit ?_ | refine aw_cond rfl (fun _ => ?_) (fun hb => absurd hb (by decide)) | refine aw_cond rfl (fun hb => absurd hb (by decide)) (fun _ => ?_) | (refine aw_reg (fun K hK => ?_); simp -implicitDefEqProofs [hw, w1, w2, w3]) | (refine aw_drw mixd (fun K hK => ?_); simp -implicitDefEqProofs [hw, w1, w2, w3]) | refine hK _ ?_ | refine hK _ _ (by rfl) ?_ | (refine ar_call (cp hn ?_); simp -implicitDefEqProofs [hw, w1, w2, w3]) | (refine ard_call (dp hn ?_); simp -implicitDefEqProofs [hw, w1, w2, w3]) | (refine ar_call (cb hp 0 ?_); simp -implicitDefEqProofs [hw, w1, w2, w3]) | (refine ard_call (db hp 0 ?_); simp -implicitDefEqProofs [hw, w1, w2, w3]) | fail)
      refine ⟨(), (by trivial), ?_⟩; rw [hI]; exact cov_intro [0, 1, 2] (by simp -implicitDefEqProofs [hpp]) (by simp -implicitDefEqProofs [hpp]) (by decide) rfl (by simp)
    · have w4 := w4 hw
      subst w4
      repeat' (first | refine aw_seq ?_ | refine aw_skip ?_ | refine aw_block ?_ | refine aw_exit ?_ | refine aw_cond rfl (fun _ => ?_) (fun hb => absurd hb (by decide)) | refine aw_cond rfl (fun hb => absurd hb (by decide)) (fun _ => ?_) | (refine aw_reg (fun K hK => ?_); simp -implicitDefEqProofs [hw]) | (refine aw_drw mixd (fun K hK => ?_); simp -implicitDefEqProofs [hw]) | refine hK _ ?_ | refine hK _ _ (by rfl) ?_ | (refine ar_call (cp hn ?_); simp -implicitDefEqProofs [hw]) | (refine ard_call (dp hn ?_); simp -implicitDefEqProofs [hw]) | fail)
      refine ⟨(), (by trivial), ?_⟩; rw [hI]; exact cov_intro [0, 1, 2] (by simp -implicitDefEqProofs) (by simp -implicitDefEqProofs) (by decide) rfl (by simp)
  · repeat (first | refine aw_seq ?_ | refine aw_skip ?_ | refine aw_block ?_ | refine aw_exit ?_ | refine aw_cond rfl (fun _ => ?_) (fun hb => absurd hb (by decide)) | refine aw_cond rfl (fun hb => absurd hb (by decide)) (fun _ => ?_) | (refine aw_reg (fun K hK => ?_); simp -implicitDefEqProofs; refine hK _ ?_) | (refine aw_drw mixd (fun K hK => ?_); simp -implicitDefEqProofs; refine hK _ _ (by rfl) ?_) | fail)
    refine aw_nilc 1 3 [.pv (I x.k), .pv (I q), .pv (Sx x.s), .pv .nilS, .pv (I x.f), .pv (I x.t)] 24 6 (by simp) (by simp) (by simp) ?_
    refine aw_lp (ι := Nat) (fun k => mkSt [(0, .v (.c (.ptr 0 0))), (2, vPl), (4, .v (.c (.ptr 1 0))), (6, .v (.c (.ptr 2 0))), (33, vLs l), (34, vI (l.length : Nat)), (35, vI (k : Nat))] [some (bxO to), some (.box [.pv (I x.k), .pv (I q), .pv (Sx x.s), .row 3 6 (((l.take k).map (renum to)).map tc), .pv (I x.f), .pv (I x.t)]), some (.box (ta (.mk ⟨0, 0, ⟨#[]⟩, 0, 0⟩ []))), some (.row 24 6)]) (fun k => k ≤ l.length) (fun k => l.length - k) 0 (Nat.zero_le _) (by unfold St.nilc; exact cov_intro [0, 1, 2, 11] (by simp -implicitDefEqProofs) (by simp -implicitDefEqProofs) (by decide) rfl (by simp)) (fun Z hI k hk => ?_)
    by_cases hkl : k < l.length; rotate_left
    · have : k = l.length := by omega
      subst this
      rw [List.take_length]
      repeat (first | refine aw_seq ?_ | refine aw_skip ?_ | refine aw_block ?_ | refine aw_exit ?_ | refine aw_cond rfl (fun _ => ?_) (fun hb => absurd hb (by decide)) | refine aw_cond rfl (fun hb => absurd hb (by decide)) (fun _ => ?_) | (refine aw_reg (fun K hK => ?_); simp -implicitDefEqProofs; refine hK _ ?_) | (refine aw_drw mixd (fun K hK => ?_); simp -implicitDefEqProofs; refine hK _ _ (by rfl) ?_) | fail)
      refine aw_ret (fin_box ?_); simp -implicitDefEqProofs [FinB, resV, resT] <;> try rfl
    obtain ⟨⟨ax, al⟩, ha⟩ : ∃ a, l[k]? = some a := ⟨_, List.getElem?_eq_getElem hkl⟩
    have ha' := (List.getElem?_eq_some_iff.1 ha).2
    have hsz1 := Tr.size_at (x := x) ha
    have hc := ih _ (List.mem_of_getElem? ha) (kid_ok hx (List.mem_of_getElem? ha)) (by omega)
    have w2 : IntKind.i64.wrap ((k : Nat) + 1 : Int) = (k : Nat) + 1 := i64i _ (by omega) (by omega)
    have hs : (l.take (k + 1)).map (renum to) = (l.take k).map (renum to) ++ [renum to (.mk ax al)] := by rw [List.take_add_one, ha]; simp
    obtain ⟨L, hL⟩ : ∃ L, (l.take k).map (renum to) = L := ⟨_, rfl⟩
    have hLl : L.length = k := by rw [← hL, List.length_map, List.length_take]; omega
    rw [hL] at hs ⊢
    obtain ⟨⟨bx, bl⟩, hb⟩ : ∃ b, renum to (.mk ax al) = b := ⟨_, rfl⟩
    rw [hb] at hc hs
    have b1 : (k + 1) * 72 ≤ 140737488355328 := by omega
    have b2 : k + 1 ≤ 140737488355328 := by omega
    clear hp hn w1 w3 w4 hpp
    repeat' (first | refine aw_seq ?_ | refine aw_skip ?_ | refine aw_block ?_ | refine aw_exit ?_ | refine aw_cond rfl (fun _ => ?_) (fun hb => absurd hb (by decide)) | refine aw_cond rfl (fun hb => absurd hb (by decide)) (fun _ => ?_) | (refine aw_reg (fun K hK => ?_); simp -implicitDefEqProofs [hkl, ha, ha', hLl, b1, b2, w2]) | (refine aw_drw mixd (fun K hK => ?_); simp -implicitDefEqProofs [hkl, ha, ha', hLl, b1, b2, w2]) | refine hK _ ?_ | refine hK _ _ (by rfl) ?_ | (refine ar_call (cb hc 0 ?_); simp -implicitDefEqProofs [hkl, ha, ha', hLl, b1, b2, w2]) | (refine ard_call (db hc 0 ?_); simp -implicitDefEqProofs [hkl, ha, ha', hLl, b1, b2, w2]) | fail)
    refine ⟨k + 1, by omega, (by dsimp only; omega), ?_⟩; rw [hI]; exact cov_intro [0, 1, 2, 65] (by simp -implicitDefEqProofs [hs]) (by simp -implicitDefEqProofs [hs]) (by decide) rfl (by simp)
theorem renum_ok {to : List Int} (h : okTo to) (t : VT) : in64 t → in64 (renum to t) := by
  induction t using Tr.ind with
  | h x l ih =>
    intro hx
    rw [renum_mk]
    refine (Tr.all_mk _ _ _).2 ⟨⟨(lab_ok hx).1, ?_, (lab_ok hx).2.2⟩, fun y hy => ?_⟩
    · obtain ⟨_, ⟨n0, n1⟩, _⟩ := lab_ok hx
      dsimp only
      unfold nwN
      split
      · rcases plc_in h x.n with e | ⟨e1, e2, e3, e4⟩ <;> omega
      · split
        · rename_i hc
          rcases plc_in h (x.n / 64) with e | ⟨e1, e2, e3, e4⟩ <;> omega
        · exact ⟨n0, n1⟩
    · obtain ⟨z, hz, rfl⟩ := List.mem_map.1 hy
      exact ih z hz (kid_ok hx hz)
end Go.Proofs.Ythmdllhhmhbhbaa.am
end
section
namespace Go.Proofs.Ythmdllhhmhbhbaa.am
open Go.ChangeShapes Go.WideShapes Go.ChangeAt Go.RowKit
open vt
set_option linter.unusedVariables false
set_option linter.unusedSimpArgs false
noncomputable def invP (nums : List Int) : PV := if isOrd nums = true then Is (invN nums nums.length) else .nilS
abbrev ic (l : List Int) : List (List PV) := l.map fun z => [I z]
set_option maxRecDepth 100000 in
set_option maxHeartbeats 4000000 in
theorem inv_row (nums : List Int) (hl : nums.length ≤ 1000000) (hr : Row Try.prog 23 [vIs [-1], vI (nums.length : Nat)] [] (.v (.c (.arr 0 1 nums.length))) [some (.arr 3 1 (List.replicate nums.length [I (-1)]))]) : Row Try.prog 18 [vIs nums] [] (.tup [.c (.pv (invP nums)), .c (.pv (Bo (isOrd nums)))]) [] := by
  have h0 : ic (invN [] nums.length) = List.replicate nums.length [I (-1)] := by rw [invN_nil]; unfold ic; simp
  rw [← h0] at hr
  have hbad : isOrd nums = false → invP nums = .nilS := fun h => by unfold invP; rw [h]; simp
  have hgood : isOrd nums = true → invP nums = Is (invN nums nums.length) := fun h => by unfold invP; rw [if_pos h]
  refine row_of Try.func18 rfl rfl (Nat.le_of_ble_eq_true rfl) ?_
  repeat' (first | refine aw_seq ?_ | refine aw_skip ?_ | refine aw_block ?_ | refine aw_exit ?_ | refine aw_cond rfl (fun _ => ?_) (fun hb => absurd hb (by decide)) | refine aw_cond rfl (fun hb => absurd hb (by decide)) (fun _ => ?_) | (refine aw_reg (fun K hK => ?_); simp -implicitDefEqProofs) | (refine aw_drw mixd (fun K hK => ?_); simp -implicitDefEqProofs) | refine hK _ ?_ | refine hK _ _ (by rfl) ?_ | (refine ar_call (cg hr [] ?_); simp -implicitDefEqProofs) | (refine ard_call (dg hr [] ?_); simp -implicitDefEqProofs) | fail)
  clear hr
  refine aw_lp (ι := Nat) (fun k => mkSt [(4, .v (.c (.arr 0 1 nums.length))), (0, vIs nums), (11, vIs nums), (12, vI (nums.length : Nat)), (13, vI (k : Nat))] [some (.arr 3 1 (ic (invN (nums.take k) nums.length)))]) (fun k => k ≤ nums.length ∧ (∀ z ∈ nums.take k, 0 ≤ z ∧ z < nums.length) ∧ (nums.take k).Nodup) (fun k => nums.length - k) 0 ⟨Nat.zero_le _, fun z h => by simp at h, by simp⟩ (cov_intro [5] (by simp -implicitDefEqProofs) (by simp -implicitDefEqProofs) (by decide) rfl (by simp)) (fun Z hI k hk => ?_)
  obtain ⟨hk, hin, hnd⟩ := hk
  by_cases hkl : k < nums.length; rotate_left
  · have : k = nums.length := by omega
    subst this
    rw [List.take_length] at hin hnd ⊢
    have ho : isOrd nums = true := (isOrd_iff nums).2 ⟨hin, hnd⟩
    rw [hgood ho, ho]
    repeat (first | refine aw_seq ?_ | refine aw_skip ?_ | refine aw_block ?_ | refine aw_exit ?_ | refine aw_cond rfl (fun _ => ?_) (fun hb => absurd hb (by decide)) | refine aw_cond rfl (fun hb => absurd hb (by decide)) (fun _ => ?_) | (refine aw_reg (fun K hK => ?_); simp -implicitDefEqProofs; refine hK _ ?_) | (refine aw_drw mixd (fun K hK => ?_); simp -implicitDefEqProofs; refine hK _ _ (by rfl) ?_) | fail)
    refine aw_frz 0 3 1 (ic (invN nums nums.length)) (by simp) ?_
    simp [St.frz, AV.frz, AT.frz, AC.frz, AO.frz]
    refine aw_ret (fin_ret ?_); simp -implicitDefEqProofs [FinP, resV, resT] <;> try rfl
  obtain ⟨a, ha⟩ : ∃ a, nums[k]? = some a := ⟨_, List.getElem?_eq_getElem hkl⟩
  have ha' := (List.getElem?_eq_some_iff.1 ha).2
  have hmem := List.mem_of_getElem? ha
  have w2 : IntKind.i64.wrap ((k : Nat) + 1 : Int) = (k : Nat) + 1 := i64i _ (by omega) (by omega)
  have ht : nums.take (k + 1) = nums.take k ++ [a] := by rw [List.take_add_one, ha]; rfl
  obtain ⟨L, hL⟩ : ∃ L, invN (nums.take k) nums.length = L := ⟨_, rfl⟩
  have hLl : L.length = nums.length := by rw [← hL]; exact invN_len _ _
  by_cases a0 : a < 0
  · have ho : isOrd nums = false := by
      rw [← Bool.not_eq_true, isOrd_iff]; intro h; have := h.1 a hmem; omega
    rw [hbad ho, ho, hL]
    repeat (first | refine aw_seq ?_ | refine aw_skip ?_ | refine aw_block ?_ | refine aw_exit ?_ | refine aw_cond rfl (fun _ => ?_) (fun hb => absurd hb (by decide)) | refine aw_cond rfl (fun hb => absurd hb (by decide)) (fun _ => ?_) | (refine aw_reg (fun K hK => ?_); simp -implicitDefEqProofs [hkl, ha, ha', a0]; refine hK _ ?_) | (refine aw_drw mixd (fun K hK => ?_); simp -implicitDefEqProofs [hkl, ha, ha', a0]; refine hK _ _ (by rfl) ?_) | fail)
    refine aw_ret (fin_ret ?_); simp -implicitDefEqProofs [FinP, resV, resT] <;> try rfl
  by_cases a1 : (nums.length : Int) ≤ a
  · have ho : isOrd nums = false := by
      rw [← Bool.not_eq_true, isOrd_iff]; intro h; have := h.1 a hmem; omega
    rw [hbad ho, ho, hL]
    repeat (first | refine aw_seq ?_ | refine aw_skip ?_ | refine aw_block ?_ | refine aw_exit ?_ | refine aw_cond rfl (fun _ => ?_) (fun hb => absurd hb (by decide)) | refine aw_cond rfl (fun hb => absurd hb (by decide)) (fun _ => ?_) | (refine aw_reg (fun K hK => ?_); simp -implicitDefEqProofs [hkl, ha, ha', a0, a1]; refine hK _ ?_) | (refine aw_drw mixd (fun K hK => ?_); simp -implicitDefEqProofs [hkl, ha, ha', a0, a1]; refine hK _ _ (by rfl) ?_) | fail)
    refine aw_ret (fin_ret ?_); simp -implicitDefEqProofs [FinP, resV, resT] <;> try rfl
  obtain ⟨j, rfl⟩ : ∃ j : Nat, a = j := ⟨a.toNat, by omega⟩
  have hjl : j < nums.length := by omega
  obtain ⟨q, hq⟩ : ∃ q, atI (j : Int) (nums.take k) = q := ⟨_, rfl⟩
  have hLj : L[j]? = some q := by rw [← hL, ← hq]; exact invN_at _ hjl
  have hLj' := (List.getElem?_eq_some_iff.1 hLj).2
  have hjL : j < L.length := by omega
  by_cases a2 : 0 ≤ q
  · have ho : isOrd nums = false := by
      rw [← Bool.not_eq_true, isOrd_iff]; intro h
      have hm : (j : Int) ∈ nums.take k := Classical.byContradiction fun hno => by
        have := (atI_neg (j : Int) (nums.take k)).2 hno
        omega
      have h2 : (nums.take k ++ nums.drop k).Nodup := by rw [List.take_append_drop]; exact h.2
      have h3 : (j : Int) ∈ nums.drop k := by rw [List.drop_eq_getElem_cons hkl, ha']; simp
      exact (List.nodup_append.1 h2).2.2 _ hm _ h3 rfl
    rw [hbad ho, ho, hL]
    repeat (first | refine aw_seq ?_ | refine aw_skip ?_ | refine aw_block ?_ | refine aw_exit ?_ | refine aw_cond rfl (fun _ => ?_) (fun hb => absurd hb (by decide)) | refine aw_cond rfl (fun hb => absurd hb (by decide)) (fun _ => ?_) | (refine aw_reg (fun K hK => ?_); simp -implicitDefEqProofs [hkl, ha, ha', a0, a1, hjl, hLj, hLj', hjL, hLl, a2]; refine hK _ ?_) | (refine aw_drw mixd (fun K hK => ?_); simp -implicitDefEqProofs [hkl, ha, ha', a0, a1, hjl, hLj, hLj', hjL, hLl, a2]; refine hK _ _ (by rfl) ?_) | fail)
    refine aw_ret (fin_ret ?_); simp -implicitDefEqProofs [FinP, resV, resT] <;> try rfl
  · rw [hL]
    have hno : (j : Int) ∉ nums.take k := (atI_neg _ _).1 (by omega)
    have hs : ic (invN (nums.take (k + 1)) nums.length) = (ic L).set j [I (k : Nat)] := by
      rw [ht, invN_snoc _ _ _ hjl (by omega), hL]
      unfold ic
      rw [List.map_set, List.length_take, Nat.min_eq_left hk]
    repeat (first | refine aw_seq ?_ | refine aw_skip ?_ | refine aw_block ?_ | refine aw_exit ?_ | refine aw_cond rfl (fun _ => ?_) (fun hb => absurd hb (by decide)) | refine aw_cond rfl (fun hb => absurd hb (by decide)) (fun _ => ?_) | (refine aw_reg (fun K hK => ?_); simp -implicitDefEqProofs [hkl, ha, ha', a0, a1, hjl, hLj, hLj', hjL, hLl, a2, w2]; refine hK _ ?_) | (refine aw_drw mixd (fun K hK => ?_); simp -implicitDefEqProofs [hkl, ha, ha', a0, a1, hjl, hLj, hLj', hjL, hLl, a2, w2]; refine hK _ _ (by rfl) ?_) | fail)
    refine ⟨k + 1, ⟨by omega, fun z hz => ?_, ?_⟩, (by dsimp only; omega), ?_⟩
    · rw [ht] at hz
      rcases List.mem_append.1 hz with hz | hz
      · exact hin z hz
      · have : z = (j : Int) := by simpa using hz
        omega
    · rw [ht]
      refine List.nodup_append.2 ⟨hnd, by simp, fun x hx y hy e => ?_⟩
      have h9 : y = (j : Int) := by simpa using hy
      exact hno (by rw [← h9, ← e]; exact hx)
    · rw [hI, hs]; exact cov_intro [0] (by simp -implicitDefEqProofs) (by simp -implicitDefEqProofs) (by decide) rfl (by simp)
noncomputable abbrev vTB (t : VT) (b : Bool) : AV := .tup [.agg (ta t), .c (.pv (Bo b))]
noncomputable def permT (m : VT) (nums : List Int) : VT := match m with | .mk x l => .mk x (nums.map fun i => renum (invN nums nums.length) (l.getD i.toNat (.mk ⟨0, 0, ⟨#[]⟩, 0, 0⟩ [])))
def permB (m : VT) (nums : List Int) : Bool := match m with | .mk x l => decide (x.k = 36) && decide (nums.length = l.length) && isOrd nums
theorem okTo_inv (nums : List Int) (h : nums.length ≤ 1000000) : okTo (invN nums nums.length) := by
  refine ⟨by rw [invN_len]; exact h, fun z hz => ?_⟩
  unfold invN at hz
  obtain ⟨k, _, rfl⟩ := List.mem_map.1 hz
  have := atI_lt (k : Int) nums
  omega
set_option maxRecDepth 100000 in
set_option maxHeartbeats 4000000 in
theorem perm_row (m : VT) (hm : in64 m) (hsz : m.size ≤ 1000000) (nums : List Int) (hl : nums.length ≤ 1000000) (hi : Row Try.prog 18 [vIs nums] [] (.tup [.c (.pv (invP nums)), .c (.pv (Bo (isOrd nums)))]) []) : Row Try.prog 8 [vT m, vIs nums] [] (vTB (if permB m nums = true then permT m nums else .mk ⟨0, 0, ⟨#[]⟩, 0, 0⟩ []) (permB m nums)) [] := by
  obtain ⟨x, l⟩ := m
  have hlen := Tr.len_size (x := x) (l := l)
  by_cases h1 : x.k = 36; rotate_left
  · rw [show permB (.mk x l) nums = false by simp [permB, h1]]
    refine row_of Try.func8 rfl rfl (Nat.le_of_ble_eq_true rfl) ?_
    repeat (first | refine aw_seq ?_ | refine aw_skip ?_ | refine aw_block ?_ | refine aw_exit ?_ | refine aw_cond rfl (fun _ => ?_) (fun hb => absurd hb (by decide)) | refine aw_cond rfl (fun hb => absurd hb (by decide)) (fun _ => ?_) | (refine aw_reg (fun K hK => ?_); simp -implicitDefEqProofs [h1]; refine hK _ ?_) | (refine aw_drw mixd (fun K hK => ?_); simp -implicitDefEqProofs [h1]; refine hK _ _ (by rfl) ?_) | fail)
    refine aw_ret (fin_ret ?_); simp -implicitDefEqProofs [FinP, resV, resT] <;> try rfl
  by_cases h2 : nums.length = l.length; rotate_left
  · have h2' : ¬ (nums.length : Int) = l.length := by omega
    rw [show permB (.mk x l) nums = false by simp [permB, h2]]
    refine row_of Try.func8 rfl rfl (Nat.le_of_ble_eq_true rfl) ?_
    repeat (first | refine aw_seq ?_ | refine aw_skip ?_ | refine aw_block ?_ | refine aw_exit ?_ | refine aw_cond rfl (fun _ => ?_) (fun hb => absurd hb (by decide)) | refine aw_cond rfl (fun hb => absurd hb (by decide)) (fun _ => ?_) | (refine aw_reg (fun K hK => ?_); simp -implicitDefEqProofs [h1, h2, h2']; refine hK _ ?_) | (refine aw_drw mixd (fun K hK => ?_); simp -implicitDefEqProofs [h1, h2, h2']; refine hK _ _ (by rfl) ?_) | fail)
    refine aw_ret (fin_ret ?_); simp -implicitDefEqProofs [FinP, resV, resT] <;> try rfl
  by_cases h3 : isOrd nums = true; rotate_left
  · have h3 : isOrd nums = false := by simpa using h3
    rw [show permB (.mk x l) nums = false by simp [permB, h3]]
    rw [h3] at hi
    refine row_of Try.func8 rfl rfl (Nat.le_of_ble_eq_true rfl) ?_
    repeat' (first | refine aw_seq ?_ | refine aw_skip ?_ | refine aw_block ?_ | refine aw_exit ?_ | refine aw_cond rfl (fun _ => ?_) (fun hb => absurd hb (by decide)) | refine aw_cond rfl (fun hb => absurd hb (by decide)) (fun _ => ?_) | (refine aw_reg (fun K hK => ?_); simp -implicitDefEqProofs [h1, h2]) | (refine aw_drw mixd (fun K hK => ?_); simp -implicitDefEqProofs [h1, h2]) | refine hK _ ?_ | refine hK _ _ (by rfl) ?_ | (refine ar_call (cp hi ?_); simp -implicitDefEqProofs [h1, h2]) | (refine ard_call (dp hi ?_); simp -implicitDefEqProofs [h1, h2]) | fail)
    refine aw_ret (fin_ret ?_); simp -implicitDefEqProofs [FinP, resV, resT] <;> try rfl
  rw [show permB (.mk x l) nums = true by simp [permB, h1, h2, h3]]
  rw [h3, show invP nums = Is (invN nums nums.length) by unfold invP; rw [if_pos h3]] at hi
  have hto := okTo_inv nums hl
  obtain ⟨to, hT⟩ : ∃ to, invN nums nums.length = to := ⟨_, rfl⟩
  rw [hT] at hi hto
  have hin := ((isOrd_iff nums).1 h3).1
  simp only [permT, hT, if_true]
  refine row_of Try.func8 rfl rfl (Nat.le_of_ble_eq_true rfl) ?_
  repeat' (first | refine aw_seq ?_ | refine aw_skip ?_ | refine aw_block ?_ | refine aw_exit ?_ | refine aw_cond rfl (fun _ => ?_) (fun hb => absurd hb (by decide)) | refine aw_cond rfl (fun hb => absurd hb (by decide)) (fun _ => ?_) | (refine aw_reg (fun K hK => ?_); simp -implicitDefEqProofs [h1, h2]) | (refine aw_drw mixd (fun K hK => ?_); simp -implicitDefEqProofs [h1, h2]) | refine hK _ ?_ | refine hK _ _ (by rfl) ?_ | (refine ar_call (cp hi ?_); simp -implicitDefEqProofs [h1, h2]) | (refine ard_call (dp hi ?_); simp -implicitDefEqProofs [h1, h2]) | fail)
  have hll : l.length ≤ 1000000 := by omega
  refine aw_nil 9 24 6 (by simp) ?_
  refine aw_lp (ι := Nat) (fun k => mkSt [(2, .v (.c (.ptr 0 0))), (4, .v (.c (.ptr 1 0))), (8, .v (.c (.ptr 2 0))), (9, .v (.c (.row 3 6 (((nums.take k).map (fun i => renum to (l.getD i.toNat (.mk ⟨0, 0, ⟨#[]⟩, 0, 0⟩ [])))).map tc)))), (35, vIs nums), (36, vI (l.length : Nat)), (37, vI (k : Nat))] [some (.box (ta (.mk x l))), some (.box (ta (.mk ⟨0, 0, ⟨#[]⟩, 0, 0⟩ []))), some (bxO to), some (.row 24 6)]) (fun k => k ≤ nums.length) (fun k => nums.length - k) 0 (Nat.zero_le _) (by unfold St.nil; exact cov_intro [0, 1, 32, 38] (by simp -implicitDefEqProofs [h1]) (by simp -implicitDefEqProofs [h1]) (by decide) rfl (by simp)) (fun Z hI k hk => ?_)
  by_cases hkl : k < nums.length; rotate_left
  · have : k = nums.length := by omega
    subst this
    rw [List.take_length]
    repeat (first | refine aw_seq ?_ | refine aw_skip ?_ | refine aw_block ?_ | refine aw_exit ?_ | refine aw_cond rfl (fun _ => ?_) (fun hb => absurd hb (by decide)) | refine aw_cond rfl (fun hb => absurd hb (by decide)) (fun _ => ?_) | (refine aw_reg (fun K hK => ?_); simp -implicitDefEqProofs [h2]; refine hK _ ?_) | (refine aw_drw mixd (fun K hK => ?_); simp -implicitDefEqProofs [h2]; refine hK _ _ (by rfl) ?_) | fail)
    refine aw_ret (fin_ret ?_); simp -implicitDefEqProofs [FinP, resV, resT, h1] <;> try rfl
  have hkl2 : k < l.length := by omega
  obtain ⟨a, ha⟩ : ∃ a, nums[k]? = some a := ⟨_, List.getElem?_eq_getElem hkl⟩
  have ha' := (List.getElem?_eq_some_iff.1 ha).2
  have hab := hin a (List.mem_of_getElem? ha)
  obtain ⟨j, rfl⟩ : ∃ j : Nat, a = j := ⟨a.toNat, by omega⟩
  have hjl : j < l.length := by omega
  obtain ⟨⟨ax, al⟩, hb⟩ : ∃ a, l[j]? = some a := ⟨_, List.getElem?_eq_getElem hjl⟩
  have hb' := (List.getElem?_eq_some_iff.1 hb).2
  have hsz1 := Tr.size_at (x := x) hb
  have hc := walk_row to hto _ (kid_ok hm (List.mem_of_getElem? hb)) (by omega)
  have w2 : IntKind.i64.wrap ((k : Nat) + 1 : Int) = (k : Nat) + 1 := i64i _ (by omega) (by omega)
  have hs : (nums.take (k + 1)).map (fun i => renum to (l.getD i.toNat (.mk ⟨0, 0, ⟨#[]⟩, 0, 0⟩ []))) = (nums.take k).map (fun i => renum to (l.getD i.toNat (.mk ⟨0, 0, ⟨#[]⟩, 0, 0⟩ []))) ++ [renum to (.mk ax al)] := by
    rw [List.take_add_one, ha]; simp [List.getD, hb]
  obtain ⟨L, hL⟩ : ∃ L, (nums.take k).map (fun i => renum to (l.getD i.toNat (.mk ⟨0, 0, ⟨#[]⟩, 0, 0⟩ []))) = L := ⟨_, rfl⟩
  have hLl : L.length = k := by rw [← hL, List.length_map, List.length_take]; omega
  rw [hL] at hs ⊢
  obtain ⟨⟨bx, bl⟩, hbb⟩ : ∃ b, renum to (.mk ax al) = b := ⟨_, rfl⟩
  rw [hbb] at hc hs
  have b1 : (k + 1) * 72 ≤ 140737488355328 := by omega
  have b2 : k + 1 ≤ 140737488355328 := by omega
  clear hi
  repeat' (first | refine aw_seq ?_ | refine aw_skip ?_ | refine aw_block ?_ | refine aw_exit ?_ | refine aw_cond rfl (fun _ => ?_) (fun hb => absurd hb (by decide)) | refine aw_cond rfl (fun hb => absurd hb (by decide)) (fun _ => ?_) | (refine aw_reg (fun K hK => ?_); simp -implicitDefEqProofs [hkl, hkl2, ha, ha', hb, hb', hjl, hLl, b1, b2, w2]) | (refine aw_drw mixd (fun K hK => ?_); simp -implicitDefEqProofs [hkl, hkl2, ha, ha', hb, hb', hjl, hLl, b1, b2, w2]) | refine hK _ ?_ | refine hK _ _ (by rfl) ?_ | (refine ar_call (cb hc 2 ?_); simp -implicitDefEqProofs [hkl, hkl2, ha, ha', hb, hb', hjl, hLl, b1, b2, w2]) | (refine ard_call (db hc 2 ?_); simp -implicitDefEqProofs [hkl, hkl2, ha, ha', hb, hb', hjl, hLl, b1, b2, w2]) | fail)
  refine ⟨k + 1, by omega, (by dsimp only; omega), ?_⟩
  rw [hI, hs]; exact cov_intro [0, 1, 2, 26] (by simp -implicitDefEqProofs) (by simp -implicitDefEqProofs) (by decide) rfl (by simp)
end Go.Proofs.Ythmdllhhmhbhbaa.am
end
