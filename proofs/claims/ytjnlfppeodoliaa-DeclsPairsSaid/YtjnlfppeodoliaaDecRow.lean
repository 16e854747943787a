/-
  Layer 32: what terms name, renumbered: the program's.
-/
import Derived.Test.YtjnlfppeodoliaaAmC
import Derived.Test.YtjnlfppeodoliaaVtDecl
import Derived.Test.YtjnlfppeodoliaaTd
import Derived.IntWalk
namespace Go.Proofs.Ytjnlfppeodoliaa.am
open Go.ChangeShapes Go.WideShapes Go.ChangeAt Go.RowKit
open vt
set_option linter.unusedVariables false
set_option linter.unusedSimpArgs false
theorem td_ints : td Try.prog 22 = some ⟨false, 1, 24, [.nilS], [], (.slice 3)⟩ := Eq.trans (by kernel_rfl) (Eq.refl _)
theorem td_order : td Try.prog 86 = some ⟨true, 1, 24, [.nilS], [(0, 1, false)], .struct⟩ := Eq.trans (by kernel_rfl) (Eq.refl _)
theorem td_porder : td Try.prog 84 = some ⟨false, 1, 8, [.lit (.pointer none)], [], (.pointer 86)⟩ := Eq.trans (by kernel_rfl) (Eq.refl _)
attribute [simp] td_ints td_order td_porder
/-- A slice of numbers, by what it holds. -/
abbrev Is (l : List Int) : PV := .sl 1 (l.map fun z => [I z])
abbrev vIs (l : List Int) : AV := .v (.c (.pv (Is l)))
/-- Of in64: a term's own numbers. -/
theorem lab_ok {x : Lab} {l : List VT} (h : in64 (.mk x l)) : x.ok := ((Tr.all_mk _ x l).1 h).1
theorem kid_ok {x : Lab} {l : List VT} (h : in64 (.mk x l)) {y : VT} (hy : y ∈ l) : in64 y := ((Tr.all_mk _ x l).1 h).2 y hy
set_option maxRecDepth 100000 in
set_option maxHeartbeats 4000000 in
theorem named_row (x : Lab) (l : List VT) (hx : x.ok) : Row Try.prog 90 [vT (.mk x l)] [] (.tup [.c (.pv (I (nmP x).1)), .c (.pv (I (nmP x).2))]) [] := by
  have hq : 0 ≤ x.n → IntKind.i64.wrap (x.n.tdiv 64) = x.n / 64 := fun h => by
    rw [Int.tdiv_eq_ediv_of_nonneg h]
    exact i64i _ (by omega) (by have := hx.2.1.2; omega)
  by_cases h0 : 0 ≤ x.n
  · have hq := hq h0
    refine row_of Try.func90 rfl rfl (Nat.le_of_ble_eq_true rfl) ?_
    repeat' (first | refine aw_seq ?_ | refine aw_skip ?_ | refine aw_block ?_ | refine aw_exit ?_ | refine aw_cond rfl (fun _ => ?_) (fun hb => absurd hb (by decide)) | refine aw_cond rfl (fun hb => absurd hb (by decide)) (fun _ => ?_) | (refine aw_reg (fun K hK => ?_); simp -implicitDefEqProofs [*]) | (refine aw_drw mixd (fun K hK => ?_); simp -implicitDefEqProofs [*]) | refine hK _ ?_ | refine hK _ _ (by rfl) ?_ | (refine aw_cond rfl (fun hb => ?_) (fun hb => ?_) <;> ((try simp only [decide_eq_true_eq, decide_eq_false_iff_not, Bool.not_eq_true', Bool.not_eq_false', Bool.not_eq_eq_eq_not, Bool.not_true, Bool.not_false, beq_iff_eq, beq_true, beq_false, bne_iff_ne, ne_eq, Decidable.not_not, Bool.and_eq_true, Bool.or_eq_true, Bool.and_eq_false_iff, Bool.or_eq_false_iff] at hb) <;> repeat' (refine Or.elim hb (fun hb => ?_) (fun hb => ?_)))) | (refine gx_split (fun hb => ?_) (fun hb => ?_) <;> ((try simp only [decide_eq_true_eq, decide_eq_false_iff_not, Bool.not_eq_true', Bool.not_eq_false', Bool.not_eq_eq_eq_not, Bool.not_true, Bool.not_false, beq_iff_eq, beq_true, beq_false, bne_iff_ne, ne_eq, Decidable.not_not, Bool.and_eq_true, Bool.or_eq_true, Bool.and_eq_false_iff, Bool.or_eq_false_iff] at hb) <;> repeat' (refine Or.elim hb (fun hb => ?_) (fun hb => ?_))) <;> simp -implicitDefEqProofs [*]) | (refine gxd_split (fun hb => ?_) (fun hb => ?_) <;> ((try simp only [decide_eq_true_eq, decide_eq_false_iff_not, Bool.not_eq_true', Bool.not_eq_false', Bool.not_eq_eq_eq_not, Bool.not_true, Bool.not_false, beq_iff_eq, beq_true, beq_false, bne_iff_ne, ne_eq, Decidable.not_not, Bool.and_eq_true, Bool.or_eq_true, Bool.and_eq_false_iff, Bool.or_eq_false_iff] at hb) <;> repeat' (refine Or.elim hb (fun hb => ?_) (fun hb => ?_))) <;> simp -implicitDefEqProofs [*]) | fail)
    all_goals (first | contradiction | (refine aw_ret (fin_ret ?_); simp -implicitDefEqProofs [FinP, resV, resT, nmP, nmK, *] <;> try rfl))
  · clear hq
    refine row_of Try.func90 rfl rfl (Nat.le_of_ble_eq_true rfl) ?_
    repeat' (first | refine aw_seq ?_ | refine aw_skip ?_ | refine aw_block ?_ | refine aw_exit ?_ | refine aw_cond rfl (fun _ => ?_) (fun hb => absurd hb (by decide)) | refine aw_cond rfl (fun hb => absurd hb (by decide)) (fun _ => ?_) | (refine aw_reg (fun K hK => ?_); simp -implicitDefEqProofs [*]) | (refine aw_drw mixd (fun K hK => ?_); simp -implicitDefEqProofs [*]) | refine hK _ ?_ | refine hK _ _ (by rfl) ?_ | (refine aw_cond rfl (fun hb => ?_) (fun hb => ?_) <;> ((try simp only [decide_eq_true_eq, decide_eq_false_iff_not, Bool.not_eq_true', Bool.not_eq_false', Bool.not_eq_eq_eq_not, Bool.not_true, Bool.not_false, beq_iff_eq, beq_true, beq_false, bne_iff_ne, ne_eq, Decidable.not_not, Bool.and_eq_true, Bool.or_eq_true, Bool.and_eq_false_iff, Bool.or_eq_false_iff] at hb) <;> repeat' (refine Or.elim hb (fun hb => ?_) (fun hb => ?_)))) | (refine gx_split (fun hb => ?_) (fun hb => ?_) <;> ((try simp only [decide_eq_true_eq, decide_eq_false_iff_not, Bool.not_eq_true', Bool.not_eq_false', Bool.not_eq_eq_eq_not, Bool.not_true, Bool.not_false, beq_iff_eq, beq_true, beq_false, bne_iff_ne, ne_eq, Decidable.not_not, Bool.and_eq_true, Bool.or_eq_true, Bool.and_eq_false_iff, Bool.or_eq_false_iff] at hb) <;> repeat' (refine Or.elim hb (fun hb => ?_) (fun hb => ?_))) <;> simp -implicitDefEqProofs [*]) | (refine gxd_split (fun hb => ?_) (fun hb => ?_) <;> ((try simp only [decide_eq_true_eq, decide_eq_false_iff_not, Bool.not_eq_true', Bool.not_eq_false', Bool.not_eq_eq_eq_not, Bool.not_true, Bool.not_false, beq_iff_eq, beq_true, beq_false, bne_iff_ne, ne_eq, Decidable.not_not, Bool.and_eq_true, Bool.or_eq_true, Bool.and_eq_false_iff, Bool.or_eq_false_iff] at hb) <;> repeat' (refine Or.elim hb (fun hb => ?_) (fun hb => ?_))) <;> simp -implicitDefEqProofs [*]) | fail)
    all_goals (first | contradiction | (refine aw_ret (fin_ret ?_); simp -implicitDefEqProofs [FinP, resV, resT, nmP, nmK, *] <;> try rfl))
/-- The place of the first of which something holds: below 0, there is none. -/
def fstI (p : VT → Bool) (l : List VT) : Int := match l.findIdx? p with | some i => (i : Int) | none => -1
theorem fstI_any (p : VT → Bool) (l : List VT) : decide (0 ≤ fstI p l) = l.any p := by
  unfold fstI
  cases h : l.findIdx? p with
  | none =>
    have := List.findIdx?_eq_none_iff.1 h
    have e : l.any p = false := by rw [List.any_eq_false]; intro x hx; rw [this x hx]; simp
    rw [e]; rfl
  | some i =>
    obtain ⟨hi, h1, _⟩ := List.findIdx?_eq_some_iff_getElem.1 h
    have e : l.any p = true := List.any_eq_true.2 ⟨l[i], List.getElem_mem hi, h1⟩
    rw [e]
    simp
abbrev bxI (z : Int) : AO := .box [.pv (I z)]
theorem bxI_ren (z : Int) (ρ : Nat → Nat) : (bxI z).ren ρ = bxI z := rfl
set_option maxRecDepth 100000 in
set_option maxHeartbeats 4000000 in
theorem indexF_row (f : Nat) (q : Int) (p : VT → Bool) (l : List VT) (hl : l.length ≤ 1000000) (hf : ∀ t ∈ l, Row Try.prog f [vT t, .v (.c (.ptr 0 0))] [bxI q] (vB (p t)) [some (bxI q)]) : Row Try.prog 138 [vLs l, .v (.c (.fn (.func f) [] [.ptr 0 0]))] [bxI q] (vI (fstI p l)) [some (bxI q)] := by
  refine row_of Try.func138 rfl rfl (Nat.le_of_ble_eq_true rfl) ?_
  repeat (first | refine aw_seq ?_ | refine aw_skip ?_ | refine aw_block ?_ | refine aw_exit ?_ | refine aw_cond rfl (fun _ => ?_) (fun hb => absurd hb (by decide)) | refine aw_cond rfl (fun hb => absurd hb (by decide)) (fun _ => ?_) | (refine aw_reg (fun K hK => ?_); simp -implicitDefEqProofs; refine hK _ ?_) | (refine aw_drw mixd (fun K hK => ?_); simp -implicitDefEqProofs; refine hK _ _ (by rfl) ?_) | fail)
  refine aw_lp (ι := Nat) (fun k => mkSt [(0, vLs l), (1, .v (.c (.fn (.func f) [] [.ptr 0 0]))), (7, vI (l.length : Nat)), (8, vI (k : Nat))] [some (bxI q)]) (fun k => k ≤ l.length ∧ ∀ (j : Nat) t, l[j]? = some t → j < k → p t = false) (fun k => l.length - k) 0 ⟨Nat.zero_le _, fun j t _ h => by omega⟩ (cov_intro [0] (by simp -implicitDefEqProofs) (by simp -implicitDefEqProofs) (by decide) rfl (by simp)) (fun Z hI k hk => ?_)
  obtain ⟨hk, hz⟩ := hk
  by_cases hkl : k < l.length; rotate_left
  · have e : fstI p l = -1 := by
      unfold fstI
      rw [List.findIdx?_eq_none_iff.2 (fun x hx => by
        obtain ⟨j, hj⟩ := List.mem_iff_getElem?.1 hx
        exact hz j x hj (by have := (List.getElem?_eq_some_iff.1 hj).1; omega))]
    rw [e]
    repeat (first | refine aw_seq ?_ | refine aw_skip ?_ | refine aw_block ?_ | refine aw_exit ?_ | refine aw_cond rfl (fun _ => ?_) (fun hb => absurd hb (by decide)) | refine aw_cond rfl (fun hb => absurd hb (by decide)) (fun _ => ?_) | (refine aw_reg (fun K hK => ?_); simp -implicitDefEqProofs [hkl]; refine hK _ ?_) | (refine aw_drw mixd (fun K hK => ?_); simp -implicitDefEqProofs [hkl]; refine hK _ _ (by rfl) ?_) | fail)
    refine aw_ret (fin_box ?_); simp -implicitDefEqProofs [FinB, resV, resT] <;> try rfl
  obtain ⟨⟨ax, al⟩, ha⟩ : ∃ a, l[k]? = some a := ⟨_, List.getElem?_eq_getElem hkl⟩
  have ha' := (List.getElem?_eq_some_iff.1 ha).2
  have w2 : IntKind.i64.wrap ((k : Nat) + 1 : Int) = (k : Nat) + 1 := i64i _ (by omega) (by omega)
  have hc := hf _ (List.mem_of_getElem? ha)
  by_cases hp : p (.mk ax al) = true
  · have e : fstI p l = (k : Nat) := by
      unfold fstI
      rw [show l.findIdx? p = some k from List.findIdx?_eq_some_iff_getElem.2 ⟨hkl, by rw [ha']; exact hp, fun j hj => by
        have := hz j l[j] (List.getElem?_eq_getElem (by omega)) hj
        simp [this]⟩]
    rw [e]
    rw [hp] at hc
    repeat' (first | refine aw_seq ?_ | refine aw_skip ?_ | refine aw_block ?_ | refine aw_exit ?_ | refine aw_cond rfl (fun _ => ?_) (fun hb => absurd hb (by decide)) | refine aw_cond rfl (fun hb => absurd hb (by decide)) (fun _ => ?_) | (refine aw_reg (fun K hK => ?_); simp -implicitDefEqProofs [hkl, ha, ha', w2]) | (refine aw_drw mixd (fun K hK => ?_); simp -implicitDefEqProofs [hkl, ha, ha', w2]) | refine hK _ ?_ | refine hK _ _ (by rfl) ?_ | (refine ar_call (cb hc 0 ?_); simp -implicitDefEqProofs [hkl, ha, ha', w2]) | (refine ard_call (db hc 0 ?_); simp -implicitDefEqProofs [hkl, ha, ha', w2]) | fail)
    refine aw_ret (fin_box ?_); simp -implicitDefEqProofs [FinB, resV, resT] <;> try rfl
  · have hp : p (.mk ax al) = false := by simpa using hp
    rw [hp] at hc
    repeat' (first | refine aw_seq ?_ | refine aw_skip ?_ | refine aw_block ?_ | refine aw_exit ?_ | refine aw_cond rfl (fun _ => ?_) (fun hb => absurd hb (by decide)) | refine aw_cond rfl (fun hb => absurd hb (by decide)) (fun _ => ?_) | (refine aw_reg (fun K hK => ?_); simp -implicitDefEqProofs [hkl, ha, ha', w2]) | (refine aw_drw mixd (fun K hK => ?_); simp -implicitDefEqProofs [hkl, ha, ha', w2]) | refine hK _ ?_ | refine hK _ _ (by rfl) ?_ | (refine ar_call (cb hc 0 ?_); simp -implicitDefEqProofs [hkl, ha, ha', w2]) | (refine ard_call (db hc 0 ?_); simp -implicitDefEqProofs [hkl, ha, ha', w2]) | fail)
    refine ⟨k + 1, ⟨by omega, fun j t hj hjk => ?_⟩, (by dsimp only; omega), ?_⟩
    · by_cases hjk' : j = k
      · subst hjk'; rw [ha] at hj; cases hj; exact hp
      · exact hz j t hj (by omega)
    · rw [hI]; exact cov_intro [0] (by simp -implicitDefEqProofs) (by simp -implicitDefEqProofs) (by decide) rfl (by simp)
set_option maxRecDepth 100000 in
set_option maxHeartbeats 4000000 in
theorem contF_row (f : Nat) (q : Int) (p : VT → Bool) (l : List VT) (hl : l.length ≤ 1000000) (hf : ∀ t ∈ l, Row Try.prog f [vT t, .v (.c (.ptr 0 0))] [bxI q] (vB (p t)) [some (bxI q)]) : Row Try.prog 93 [vLs l, .v (.c (.fn (.func f) [] [.ptr 0 0]))] [bxI q] (vB (l.any p)) [some (bxI q)] := by
  have h := indexF_row f q p l hl hf
  rw [← fstI_any p l]
  refine row_of Try.func93 rfl rfl (Nat.le_of_ble_eq_true rfl) ?_
  repeat' (first | refine aw_seq ?_ | refine aw_skip ?_ | refine aw_block ?_ | refine aw_exit ?_ | refine aw_cond rfl (fun _ => ?_) (fun hb => absurd hb (by decide)) | refine aw_cond rfl (fun hb => absurd hb (by decide)) (fun _ => ?_) | (refine aw_reg (fun K hK => ?_); simp -implicitDefEqProofs) | (refine aw_drw mixd (fun K hK => ?_); simp -implicitDefEqProofs) | refine hK _ ?_ | refine hK _ _ (by rfl) ?_ | (refine ar_call (cb h 0 ?_); simp -implicitDefEqProofs) | (refine ard_call (db h 0 ?_); simp -implicitDefEqProofs) | fail)
  refine aw_ret (fin_box ?_); simp -implicitDefEqProofs [FinB, resV, resT] <;> try rfl
set_option maxRecDepth 100000 in
set_option maxHeartbeats 4000000 in
theorem names_row (i : Int) (hi : 0 ≤ i) (hi' : i ≤ 9223372036854775807) (t : VT) : in64 t → t.size ≤ 1000000 → Row Try.prog 57 [vT t, vI i] [] (vB (nmsT i t)) [] := by
  induction t using Tr.ind with
  | h x l ih =>
  intro hx hsz
  have hlen := Tr.len_size (x := x) (l := l)
  have hn := named_row x l (lab_ok hx)
  have wi : IntKind.i64.wrap i = i := i64i _ (by omega) hi'
  have hd : ∀ t ∈ l, Row Try.prog 94 [vT t, .v (.c (.ptr 0 0))] [bxI i] (vB (nmsT i t)) [some (bxI i)] := fun t ht => by
    obtain ⟨k, hk⟩ := List.mem_iff_getElem?.1 ht
    have h := ih t ht (kid_ok hx ht) (by have := Tr.size_at (x := x) hk; omega)
    obtain ⟨ax, al⟩ := t
    refine row_of Try.func94 rfl rfl (Nat.le_of_ble_eq_true rfl) ?_
    repeat' (first | refine aw_seq ?_ | refine aw_skip ?_ | refine aw_block ?_ | refine aw_exit ?_ | refine aw_cond rfl (fun _ => ?_) (fun hb => absurd hb (by decide)) | refine aw_cond rfl (fun hb => absurd hb (by decide)) (fun _ => ?_) | (refine aw_reg (fun K hK => ?_); simp -implicitDefEqProofs) | (refine aw_drw mixd (fun K hK => ?_); simp -implicitDefEqProofs) | refine hK _ ?_ | refine hK _ _ (by rfl) ?_ | (refine ar_call (cp h ?_); simp -implicitDefEqProofs) | (refine ard_call (dp h ?_); simp -implicitDefEqProofs) | fail)
    refine aw_ret (fin_box ?_); simp -implicitDefEqProofs [FinB, resV, resT] <;> try rfl
  have hc := contF_row 94 i (nmsT i) l (by omega) hd
  rw [nmsT_mk, ← nmP_R x i hi]
  obtain ⟨⟨p1, p2⟩, hp⟩ : ∃ p, nmP x = p := ⟨_, rfl⟩
  rw [hp] at hn ⊢
  clear hd
  by_cases h1 : 0 < p2
  · by_cases h2 : p1 = i
    · refine row_of Try.func57 rfl rfl (Nat.le_of_ble_eq_true rfl) ?_
      repeat' (first | refine aw_seq ?_ | refine aw_skip ?_ | refine aw_block ?_ | refine aw_exit ?_ | refine aw_cond rfl (fun _ => ?_) (fun hb => absurd hb (by decide)) | refine aw_cond rfl (fun hb => absurd hb (by decide)) (fun _ => ?_) | (refine aw_reg (fun K hK => ?_); simp -implicitDefEqProofs [h1, h2, wi]) | (refine aw_drw mixd (fun K hK => ?_); simp -implicitDefEqProofs [h1, h2, wi]) | refine hK _ ?_ | refine hK _ _ (by rfl) ?_ | (refine ar_call (cp hn ?_); simp -implicitDefEqProofs [h1, h2, wi]) | (refine ard_call (dp hn ?_); simp -implicitDefEqProofs [h1, h2, wi]) | (refine ar_call (cb hc 1 ?_); simp -implicitDefEqProofs [h1, h2, wi]) | (refine ard_call (db hc 1 ?_); simp -implicitDefEqProofs [h1, h2, wi]) | fail)
      refine aw_ret (fin_ret ?_); simp -implicitDefEqProofs [FinP, resV, resT, h1, h2] <;> try rfl
    · refine row_of Try.func57 rfl rfl (Nat.le_of_ble_eq_true rfl) ?_
      repeat' (first | refine aw_seq ?_ | refine aw_skip ?_ | refine aw_block ?_ | refine aw_exit ?_ | refine aw_cond rfl (fun _ => ?_) (fun hb => absurd hb (by decide)) | refine aw_cond rfl (fun hb => absurd hb (by decide)) (fun _ => ?_) | (refine aw_reg (fun K hK => ?_); simp -implicitDefEqProofs [h1, h2, wi]) | (refine aw_drw mixd (fun K hK => ?_); simp -implicitDefEqProofs [h1, h2, wi]) | refine hK _ ?_ | refine hK _ _ (by rfl) ?_ | (refine ar_call (cp hn ?_); simp -implicitDefEqProofs [h1, h2, wi]) | (refine ard_call (dp hn ?_); simp -implicitDefEqProofs [h1, h2, wi]) | (refine ar_call (cb hc 1 ?_); simp -implicitDefEqProofs [h1, h2, wi]) | (refine ard_call (db hc 1 ?_); simp -implicitDefEqProofs [h1, h2, wi]) | fail)
      refine aw_ret (fin_ret ?_); simp -implicitDefEqProofs [FinP, resV, resT, h1, h2] <;> try rfl
  · refine row_of Try.func57 rfl rfl (Nat.le_of_ble_eq_true rfl) ?_
    repeat' (first | refine aw_seq ?_ | refine aw_skip ?_ | refine aw_block ?_ | refine aw_exit ?_ | refine aw_cond rfl (fun _ => ?_) (fun hb => absurd hb (by decide)) | refine aw_cond rfl (fun hb => absurd hb (by decide)) (fun _ => ?_) | (refine aw_reg (fun K hK => ?_); simp -implicitDefEqProofs [h1, wi]) | (refine aw_drw mixd (fun K hK => ?_); simp -implicitDefEqProofs [h1, wi]) | refine hK _ ?_ | refine hK _ _ (by rfl) ?_ | (refine ar_call (cp hn ?_); simp -implicitDefEqProofs [h1, wi]) | (refine ard_call (dp hn ?_); simp -implicitDefEqProofs [h1, wi]) | (refine ar_call (cb hc 1 ?_); simp -implicitDefEqProofs [h1, wi]) | (refine ard_call (db hc 1 ?_); simp -implicitDefEqProofs [h1, wi]) | fail)
    refine aw_ret (fin_ret ?_); simp -implicitDefEqProofs [FinP, resV, resT, h1] <;> try rfl
abbrev bxO (to : List Int) : AO := .box [.pv (Is to)]
theorem bxO_ren (to : List Int) (ρ : Nat → Nat) : (bxO to).ren ρ = bxO to := rfl
/-- Numbers that places may have. -/
def okTo (to : List Int) : Prop := to.length ≤ 1000000 ∧ ∀ z ∈ to, -1 ≤ z ∧ z ≤ 1000000
theorem plc_in {to : List Int} (h : okTo to) (n : Int) : plc to n = n ∨ (0 ≤ n ∧ n < to.length ∧ 0 ≤ plc to n ∧ plc to n ≤ 1000000) := by
  unfold plc
  split
  · exact .inl rfl
  · split
    · rename_i z hz
      split
      · exact .inl rfl
      · have := h.2 z (List.mem_of_getElem? hz)
        have h1 := (List.getElem?_eq_some_iff.1 hz).1
        exact .inr ⟨by omega, by omega, by omega, this.2⟩
    · exact .inl rfl
set_option maxRecDepth 100000 in
set_option maxHeartbeats 4000000 in
theorem place_row (to : List Int) (h : okTo to) (n : Int) (hn : -9223372036854775808 ≤ n ∧ n ≤ 9223372036854775807) : Row Try.prog 53 [.v (.c (.ptr 0 0)), vI n] [bxO to] (vI (plc to n)) [some (bxO to)] := by
  have hl := h.1
  have wl : IntKind.i64.wrap (to.length : Int) = to.length := i64i _ (by omega) (by omega)
  have wn : IntKind.i64.wrap n = n := i64i _ (by omega) (by omega)
  by_cases h0 : n < 0
  · rw [show plc to n = n by unfold plc; rw [if_pos h0]]
    refine row_of Try.func53 rfl rfl (Nat.le_of_ble_eq_true rfl) ?_
    repeat (first | refine aw_seq ?_ | refine aw_skip ?_ | refine aw_block ?_ | refine aw_exit ?_ | refine aw_cond rfl (fun _ => ?_) (fun hb => absurd hb (by decide)) | refine aw_cond rfl (fun hb => absurd hb (by decide)) (fun _ => ?_) | (refine aw_reg (fun K hK => ?_); simp -implicitDefEqProofs [h0, wl]; refine hK _ ?_) | (refine aw_drw mixd (fun K hK => ?_); simp -implicitDefEqProofs [h0, wl]; refine hK _ _ (by rfl) ?_) | fail)
    refine aw_ret (fin_box ?_); simp -implicitDefEqProofs [FinB, resV, resT] <;> try rfl
  by_cases h1 : (to.length : Int) ≤ n
  · rw [show plc to n = n by unfold plc; rw [if_neg h0, List.getElem?_eq_none (by omega)]]
    refine row_of Try.func53 rfl rfl (Nat.le_of_ble_eq_true rfl) ?_
    repeat (first | refine aw_seq ?_ | refine aw_skip ?_ | refine aw_block ?_ | refine aw_exit ?_ | refine aw_cond rfl (fun _ => ?_) (fun hb => absurd hb (by decide)) | refine aw_cond rfl (fun hb => absurd hb (by decide)) (fun _ => ?_) | (refine aw_reg (fun K hK => ?_); simp -implicitDefEqProofs [h0, h1, wl]; refine hK _ ?_) | (refine aw_drw mixd (fun K hK => ?_); simp -implicitDefEqProofs [h0, h1, wl]; refine hK _ _ (by rfl) ?_) | fail)
    refine aw_ret (fin_box ?_); simp -implicitDefEqProofs [FinB, resV, resT] <;> try rfl
  obtain ⟨k, rfl⟩ : ∃ k : Nat, n = k := ⟨n.toNat, by omega⟩
  have hkl : k < to.length := by omega
  obtain ⟨z, hz⟩ : ∃ z, to[k]? = some z := ⟨_, List.getElem?_eq_getElem hkl⟩
  have hz' := (List.getElem?_eq_some_iff.1 hz).2
  have hzz := h.2 z (List.mem_of_getElem? hz)
  have wz : IntKind.i64.wrap z = z := i64i _ (by omega) (by omega)
  by_cases h2 : z < 0
  · rw [show plc to (k : Nat) = (k : Nat) by unfold plc; rw [if_neg h0]; simp [hz, h2]]
    refine row_of Try.func53 rfl rfl (Nat.le_of_ble_eq_true rfl) ?_
    repeat (first | refine aw_seq ?_ | refine aw_skip ?_ | refine aw_block ?_ | refine aw_exit ?_ | refine aw_cond rfl (fun _ => ?_) (fun hb => absurd hb (by decide)) | refine aw_cond rfl (fun hb => absurd hb (by decide)) (fun _ => ?_) | (refine aw_reg (fun K hK => ?_); simp -implicitDefEqProofs [h0, h1, wl, hkl, hz, hz', h2, wn]; refine hK _ ?_) | (refine aw_drw mixd (fun K hK => ?_); simp -implicitDefEqProofs [h0, h1, wl, hkl, hz, hz', h2, wn]; refine hK _ _ (by rfl) ?_) | fail)
    refine aw_ret (fin_box ?_); simp -implicitDefEqProofs [FinB, resV, resT] <;> try rfl
  · rw [show plc to (k : Nat) = z by unfold plc; rw [if_neg h0]; simp [hz, h2]]
    refine row_of Try.func53 rfl rfl (Nat.le_of_ble_eq_true rfl) ?_
    repeat (first | refine aw_seq ?_ | refine aw_skip ?_ | refine aw_block ?_ | refine aw_exit ?_ | refine aw_cond rfl (fun _ => ?_) (fun hb => absurd hb (by decide)) | refine aw_cond rfl (fun hb => absurd hb (by decide)) (fun _ => ?_) | (refine aw_reg (fun K hK => ?_); simp -implicitDefEqProofs [h0, h1, wl, hkl, hz, hz', h2, wn, wz]; refine hK _ ?_) | (refine aw_drw mixd (fun K hK => ?_); simp -implicitDefEqProofs [h0, h1, wl, hkl, hz, hz', h2, wn, wz]; refine hK _ _ (by rfl) ?_) | fail)
    refine aw_ret (fin_box ?_); simp -implicitDefEqProofs [FinB, resV, resT] <;> try rfl
abbrev vPl : AV := .v (.c (.fn (.func 53) [.ptr 0 0] []))
theorem nw_wrap {to : List Int} (h : okTo to) {x : Lab} (hx : x.ok) : IntKind.i64.wrap (plc to (nmP x).1 - (nmP x).1) = plc to (nmP x).1 - (nmP x).1 ∧ IntKind.i64.wrap ((plc to (nmP x).1 - (nmP x).1) * (nmP x).2) = (plc to (nmP x).1 - (nmP x).1) * (nmP x).2 ∧ (0 < (nmP x).2 → IntKind.i64.wrap (x.n + (plc to (nmP x).1 - (nmP x).1) * (nmP x).2) = nwN to x) ∧ (¬ 0 < (nmP x).2 → x.n = nwN to x) := by
  obtain ⟨_, ⟨n0, n1⟩, _⟩ := hx
  have hl := h.1
  unfold nmP nwN
  by_cases h1 : nmK x.k = true
  · rw [if_pos h1, if_pos h1]
    dsimp only
    rcases plc_in h x.n with e | ⟨e1, e2, e3, e4⟩
    · rw [e]
      exact ⟨i64i _ (by omega) (by omega), i64i _ (by omega) (by omega), fun _ => by rw [i64i _ (by omega) (by omega)]; omega, fun h => by omega⟩
    · exact ⟨i64i _ (by omega) (by omega), i64i _ (by omega) (by omega), fun _ => by rw [i64i _ (by omega) (by omega)]; omega, fun h => by omega⟩
  · rw [if_neg h1, if_neg h1]
    by_cases h2 : x.k = 13 ∧ 0 ≤ x.n
    · rw [if_pos h2, if_pos h2]
      dsimp only
      rcases plc_in h (x.n / 64) with e | ⟨e1, e2, e3, e4⟩
      · rw [e]
        exact ⟨i64i _ (by omega) (by omega), i64i _ (by omega) (by omega), fun _ => by rw [i64i _ (by omega) (by omega)]; omega, fun h => by omega⟩
      · exact ⟨i64i _ (by omega) (by omega), i64i _ (by omega) (by omega), fun _ => by rw [i64i _ (by omega) (by omega)]; omega, fun h => by omega⟩
    · rw [if_neg h2, if_neg h2]
      dsimp only
      rcases plc_in h 0 with e | ⟨e1, e2, e3, e4⟩
      · rw [e]
        exact ⟨i64i _ (by omega) (by omega), i64i _ (by omega) (by omega), fun h => by omega, fun _ => rfl⟩
      · exact ⟨i64i _ (by omega) (by omega), i64i _ (by omega) (by omega), fun h => by omega, fun _ => rfl⟩
theorem nmP_in {x : Lab} (hx : x.ok) : -9223372036854775808 ≤ (nmP x).1 ∧ (nmP x).1 ≤ 9223372036854775807 := by
  obtain ⟨_, ⟨n0, n1⟩, _⟩ := hx
  unfold nmP
  split
  · exact ⟨n0, n1⟩
  · split
    · dsimp only; omega
    · dsimp only; omega
end Go.Proofs.Ytjnlfppeodoliaa.am
