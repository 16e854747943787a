/-
  Layer 24: quiet terms, and what they read: the document's.
-/
import Derived.Test.YtjnlfppeodoliaaQuiRow
import Derived.Test.YtjnlfppeodoliaaAmSort
namespace Go.Proofs.Ytjnlfppeodoliaa.am
open Go.ChangeShapes Go.WideShapes Go.ChangeAt Go.RowKit
open vt
set_option linter.unusedVariables false
set_option linter.unusedSimpArgs false
theorem plK_iff (k : Int) : plK k = true ↔ (k = 5 ∨ k = 6 ∨ k = 7 ∨ k = 8 ∨ k = 9 ∨ k = 11 ∨ k = 13 ∨ k = 14 ∨ k = 15) := by simp [plK, or_assoc]
theorem plK_no (k : Int) : plK k = false ↔ (¬ k = 5 ∧ ¬ k = 6 ∧ ¬ k = 7 ∧ ¬ k = 8 ∧ ¬ k = 9 ∧ ¬ k = 11 ∧ ¬ k = 13 ∧ ¬ k = 14 ∧ ¬ k = 15) := by simp [plK, and_assoc]
/-- What is known of an operation, if it does not divide so. -/
theorem divB_no {x : Lab} {l : List VT} (h : divB x l = false) : (¬ x.n = 12 ∧ ¬ x.n = 13) ∨ ((x.n = 12 ∨ x.n = 13) ∧ ∃ b, l[1]? = some b ∧ b.lab.k = 5 ∧ ¬ b.lab.n = 0) := by
  by_cases hn : x.n = 12 ∨ x.n = 13
  · refine .inr ⟨hn, ?_⟩
    cases hb : l[1]? with
    | none => unfold divB at h; rw [hb] at h; rcases hn with e | e <;> simp [e] at h
    | some b =>
      refine ⟨b, rfl, ?_⟩
      unfold divB at h; rw [hb] at h
      rcases hn with e | e <;> simp [e] at h <;> exact h
  · exact .inl ⟨fun e => hn (.inl e), fun e => hn (.inr e)⟩
theorem divB_yes {x : Lab} {l : List VT} (h : divB x l = true) : (x.n = 12 ∨ x.n = 13) ∧ (l[1]? = none ∨ ∃ b, l[1]? = some b ∧ (¬ b.lab.k = 5 ∨ (b.lab.k = 5 ∧ b.lab.n = 0))) := by
  unfold divB at h
  rw [Bool.and_eq_true] at h
  obtain ⟨h1, h2⟩ := h
  refine ⟨by simpa using h1, ?_⟩
  cases hb : l[1]? with
  | none => exact .inl rfl
  | some b =>
    rw [hb] at h2
    refine .inr ⟨b, rfl, ?_⟩
    by_cases h5 : b.lab.k = 5
    · exact .inr ⟨h5, by simpa [h5] using h2⟩
    · exact .inl h5
set_option maxRecDepth 100000 in
set_option maxHeartbeats 4000000 in
theorem rquiet_row (t : VT) : in64 t → t.size ≤ 1000000 → Row Try.prog 26 [vT t] [] (vB (quT t)) [] := by
  induction t using Tr.ind with
  | h x l ih =>
  intro hx hsz
  have hlen := Tr.len_size (x := x) (l := l)
  rw [quT_mk]
  cases hok : okK x l with
  | false =>
    rw [Bool.false_and]
    unfold okK at hok
    by_cases h10 : x.k = 10
    · rw [if_pos h10, Bool.not_eq_false'] at hok
      obtain ⟨hn, hb⟩ := divB_yes hok
      clear ih hok
      rcases hb with hb | ⟨⟨bx, bl⟩, hb, hb5⟩
      · have h2 : (l.length : Int) < 2 := by have := List.getElem?_eq_none_iff.1 hb; omega
        rcases hn with h | h
        · refine row_of Try.func26 rfl rfl (Nat.le_of_ble_eq_true rfl) ?_
          repeat (first | refine aw_seq ?_ | refine aw_skip ?_ | refine aw_block ?_ | refine aw_exit ?_ | refine aw_cond rfl (fun _ => ?_) (fun hb => absurd hb (by decide)) | refine aw_cond rfl (fun hb => absurd hb (by decide)) (fun _ => ?_) | (refine aw_reg (fun K hK => ?_); simp -implicitDefEqProofs [h10, h, h2]; refine hK _ ?_) | (refine aw_drw mixd (fun K hK => ?_); simp -implicitDefEqProofs [h10, h, h2]; refine hK _ _ (by rfl) ?_) | fail)
          refine aw_ret (fin_ret ?_); simp -implicitDefEqProofs [FinP, resV, resT] <;> try rfl
        · refine row_of Try.func26 rfl rfl (Nat.le_of_ble_eq_true rfl) ?_
          repeat (first | refine aw_seq ?_ | refine aw_skip ?_ | refine aw_block ?_ | refine aw_exit ?_ | refine aw_cond rfl (fun _ => ?_) (fun hb => absurd hb (by decide)) | refine aw_cond rfl (fun hb => absurd hb (by decide)) (fun _ => ?_) | (refine aw_reg (fun K hK => ?_); simp -implicitDefEqProofs [h10, h, h2]; refine hK _ ?_) | (refine aw_drw mixd (fun K hK => ?_); simp -implicitDefEqProofs [h10, h, h2]; refine hK _ _ (by rfl) ?_) | fail)
          refine aw_ret (fin_ret ?_); simp -implicitDefEqProofs [FinP, resV, resT] <;> try rfl
      · have hlt := (List.getElem?_eq_some_iff.1 hb).1
        have hb' := (List.getElem?_eq_some_iff.1 hb).2
        have h2 : ¬ (l.length : Int) < 2 := by omega
        rw [Tr.lab] at hb5
        rcases hb5 with h5 | ⟨h5, h0⟩
        · rcases hn with h | h
          · refine row_of Try.func26 rfl rfl (Nat.le_of_ble_eq_true rfl) ?_
            repeat (first | refine aw_seq ?_ | refine aw_skip ?_ | refine aw_block ?_ | refine aw_exit ?_ | refine aw_cond rfl (fun _ => ?_) (fun hb => absurd hb (by decide)) | refine aw_cond rfl (fun hb => absurd hb (by decide)) (fun _ => ?_) | (refine aw_reg (fun K hK => ?_); simp -implicitDefEqProofs [h10, h, h2, hlt, hb, hb', h5]; refine hK _ ?_) | (refine aw_drw mixd (fun K hK => ?_); simp -implicitDefEqProofs [h10, h, h2, hlt, hb, hb', h5]; refine hK _ _ (by rfl) ?_) | fail)
            refine aw_ret (fin_ret ?_); simp -implicitDefEqProofs [FinP, resV, resT] <;> try rfl
          · refine row_of Try.func26 rfl rfl (Nat.le_of_ble_eq_true rfl) ?_
            repeat (first | refine aw_seq ?_ | refine aw_skip ?_ | refine aw_block ?_ | refine aw_exit ?_ | refine aw_cond rfl (fun _ => ?_) (fun hb => absurd hb (by decide)) | refine aw_cond rfl (fun hb => absurd hb (by decide)) (fun _ => ?_) | (refine aw_reg (fun K hK => ?_); simp -implicitDefEqProofs [h10, h, h2, hlt, hb, hb', h5]; refine hK _ ?_) | (refine aw_drw mixd (fun K hK => ?_); simp -implicitDefEqProofs [h10, h, h2, hlt, hb, hb', h5]; refine hK _ _ (by rfl) ?_) | fail)
            refine aw_ret (fin_ret ?_); simp -implicitDefEqProofs [FinP, resV, resT] <;> try rfl
        · rcases hn with h | h
          · refine row_of Try.func26 rfl rfl (Nat.le_of_ble_eq_true rfl) ?_
            repeat (first | refine aw_seq ?_ | refine aw_skip ?_ | refine aw_block ?_ | refine aw_exit ?_ | refine aw_cond rfl (fun _ => ?_) (fun hb => absurd hb (by decide)) | refine aw_cond rfl (fun hb => absurd hb (by decide)) (fun _ => ?_) | (refine aw_reg (fun K hK => ?_); simp -implicitDefEqProofs [h10, h, h2, hlt, hb, hb', h5, h0]; refine hK _ ?_) | (refine aw_drw mixd (fun K hK => ?_); simp -implicitDefEqProofs [h10, h, h2, hlt, hb, hb', h5, h0]; refine hK _ _ (by rfl) ?_) | fail)
            refine aw_ret (fin_ret ?_); simp -implicitDefEqProofs [FinP, resV, resT] <;> try rfl
          · refine row_of Try.func26 rfl rfl (Nat.le_of_ble_eq_true rfl) ?_
            repeat (first | refine aw_seq ?_ | refine aw_skip ?_ | refine aw_block ?_ | refine aw_exit ?_ | refine aw_cond rfl (fun _ => ?_) (fun hb => absurd hb (by decide)) | refine aw_cond rfl (fun hb => absurd hb (by decide)) (fun _ => ?_) | (refine aw_reg (fun K hK => ?_); simp -implicitDefEqProofs [h10, h, h2, hlt, hb, hb', h5, h0]; refine hK _ ?_) | (refine aw_drw mixd (fun K hK => ?_); simp -implicitDefEqProofs [h10, h, h2, hlt, hb, hb', h5, h0]; refine hK _ _ (by rfl) ?_) | fail)
            refine aw_ret (fin_ret ?_); simp -implicitDefEqProofs [FinP, resV, resT] <;> try rfl
    · rw [if_neg h10] at hok
      obtain ⟨a1, a2, a3, a4, a5, a6, a7, a8, a9⟩ := (plK_no _).1 hok
      clear ih hok
      refine row_of Try.func26 rfl rfl (Nat.le_of_ble_eq_true rfl) ?_
      repeat (first | refine aw_seq ?_ | refine aw_skip ?_ | refine aw_block ?_ | refine aw_exit ?_ | refine aw_cond rfl (fun _ => ?_) (fun hb => absurd hb (by decide)) | refine aw_cond rfl (fun hb => absurd hb (by decide)) (fun _ => ?_) | (refine aw_reg (fun K hK => ?_); simp -implicitDefEqProofs [h10, a1, a2, a3, a4, a5, a6, a7, a8, a9]; refine hK _ ?_) | (refine aw_drw mixd (fun K hK => ?_); simp -implicitDefEqProofs [h10, a1, a2, a3, a4, a5, a6, a7, a8, a9]; refine hK _ _ (by rfl) ?_) | fail)
      refine aw_ret (fin_ret ?_); simp -implicitDefEqProofs [FinP, resV, resT] <;> try rfl
  | true =>
  rw [Bool.true_and]
  unfold okK at hok
  refine row_of Try.func26 rfl rfl (Nat.le_of_ble_eq_true rfl) ?_
  refine aw_seq ?_
  refine aw_reg (fun K hK => ?_); simp -implicitDefEqProofs; refine hK _ ?_
  refine aw_seq ?_
  refine aw_reg (fun K hK => ?_); simp -implicitDefEqProofs; refine hK _ ?_
  refine aw_meet (ι := Unit) (fun _ => mkSt [(1, .v (.c (.ptr 0 0))), (3, vI x.k)] [some (.box (ta (.mk x l)))]) (fun _ => True) (fun I hI => ?_) (fun _ _ => ?_)
  · have hk : plK x.k = true ∨ x.k = 10 := by
      by_cases h10 : x.k = 10
      · exact .inr h10
      · rw [if_neg h10] at hok; exact .inl hok
    rw [plK_iff] at hk
    clear ih hok
    rcases hk with (h | h | h | h | h | h | h | h | h) | h <;> ((repeat (first | refine aw_seq ?_ | refine aw_skip ?_ | refine aw_block ?_ | refine aw_exit ?_ | refine aw_cond rfl (fun _ => ?_) (fun hb => absurd hb (by decide)) | refine aw_cond rfl (fun hb => absurd hb (by decide)) (fun _ => ?_) | (refine aw_reg (fun K hK => ?_); simp -implicitDefEqProofs [h]; refine hK _ ?_) | (refine aw_drw mixd (fun K hK => ?_); simp -implicitDefEqProofs [h]; refine hK _ _ (by rfl) ?_) | fail)); refine ⟨(), (by trivial), ?_⟩; rw [hI]; exact cov_intro [0] (by simp -implicitDefEqProofs [h]) (by simp -implicitDefEqProofs [h]) (by decide) rfl (by simp))
  refine aw_meet (ι := Unit) (fun _ => mkSt [(1, .v (.c (.ptr 0 0)))] [some (.box (ta (.mk x l)))]) (fun _ => True) (fun I hI => ?_) (fun _ _ => ?_)
  · clear ih
    by_cases h10 : x.k = 10
    · rw [if_pos h10, Bool.not_eq_true'] at hok
      rcases divB_no hok with ⟨n1, n2⟩ | ⟨hn, ⟨bx, bl⟩, hb, h5, h0⟩
      · repeat (first | refine aw_seq ?_ | refine aw_skip ?_ | refine aw_block ?_ | refine aw_exit ?_ | refine aw_cond rfl (fun _ => ?_) (fun hb => absurd hb (by decide)) | refine aw_cond rfl (fun hb => absurd hb (by decide)) (fun _ => ?_) | (refine aw_reg (fun K hK => ?_); simp -implicitDefEqProofs [h10, n1, n2]; refine hK _ ?_) | (refine aw_drw mixd (fun K hK => ?_); simp -implicitDefEqProofs [h10, n1, n2]; refine hK _ _ (by rfl) ?_) | fail)
        refine ⟨(), (by trivial), ?_⟩; rw [hI]; exact cov_intro [0] (by simp -implicitDefEqProofs [h10]) (by simp -implicitDefEqProofs [h10]) (by decide) rfl (by simp)
      · have hlt := (List.getElem?_eq_some_iff.1 hb).1
        have hb' := (List.getElem?_eq_some_iff.1 hb).2
        have h2 : ¬ (l.length : Int) < 2 := by omega
        rw [Tr.lab] at h5 h0
        rcases hn with h | h <;> ((repeat (first | refine aw_seq ?_ | refine aw_skip ?_ | refine aw_block ?_ | refine aw_exit ?_ | refine aw_cond rfl (fun _ => ?_) (fun hb => absurd hb (by decide)) | refine aw_cond rfl (fun hb => absurd hb (by decide)) (fun _ => ?_) | (refine aw_reg (fun K hK => ?_); simp -implicitDefEqProofs [h10, h, h2, hlt, hb, hb', h5, h0]; refine hK _ ?_) | (refine aw_drw mixd (fun K hK => ?_); simp -implicitDefEqProofs [h10, h, h2, hlt, hb, hb', h5, h0]; refine hK _ _ (by rfl) ?_) | fail)); refine ⟨(), (by trivial), ?_⟩; rw [hI]; exact cov_intro [0] (by simp -implicitDefEqProofs [h10, h]) (by simp -implicitDefEqProofs [h10, h]) (by decide) rfl (by simp))
    · repeat (first | refine aw_seq ?_ | refine aw_skip ?_ | refine aw_block ?_ | refine aw_exit ?_ | refine aw_cond rfl (fun _ => ?_) (fun hb => absurd hb (by decide)) | refine aw_cond rfl (fun hb => absurd hb (by decide)) (fun _ => ?_) | (refine aw_reg (fun K hK => ?_); simp -implicitDefEqProofs [h10]; refine hK _ ?_) | (refine aw_drw mixd (fun K hK => ?_); simp -implicitDefEqProofs [h10]; refine hK _ _ (by rfl) ?_) | fail)
      refine ⟨(), (by trivial), ?_⟩; rw [hI]; exact cov_intro [0] (by simp -implicitDefEqProofs) (by simp -implicitDefEqProofs) (by decide) rfl (by simp)
  repeat (first | refine aw_seq ?_ | refine aw_skip ?_ | refine aw_block ?_ | refine aw_exit ?_ | refine aw_cond rfl (fun _ => ?_) (fun hb => absurd hb (by decide)) | refine aw_cond rfl (fun hb => absurd hb (by decide)) (fun _ => ?_) | (refine aw_reg (fun K hK => ?_); simp -implicitDefEqProofs; refine hK _ ?_) | (refine aw_drw mixd (fun K hK => ?_); simp -implicitDefEqProofs; refine hK _ _ (by rfl) ?_) | fail)
  refine aw_lp (ι := Nat) (fun k => mkSt [(1, .v (.c (.ptr 0 0))), (4, vI (k : Nat))] [some (.box (ta (.mk x l)))]) (fun k => k ≤ l.length ∧ (l.take k).all quT = true) (fun k => l.length - k) 0 ⟨Nat.zero_le _, by simp⟩ (cov_intro [0] (by simp -implicitDefEqProofs) (by simp -implicitDefEqProofs) (by decide) rfl (by simp)) (fun Z hI k hk => ?_)
  obtain ⟨hk, hz⟩ := hk
  by_cases hkl : k < l.length; rotate_left
  · have : k = l.length := by omega
    subst this
    rw [List.take_length] at hz
    repeat (first | refine aw_seq ?_ | refine aw_skip ?_ | refine aw_block ?_ | refine aw_exit ?_ | refine aw_cond rfl (fun _ => ?_) (fun hb => absurd hb (by decide)) | refine aw_cond rfl (fun hb => absurd hb (by decide)) (fun _ => ?_) | (refine aw_reg (fun K hK => ?_); simp -implicitDefEqProofs; refine hK _ ?_) | (refine aw_drw mixd (fun K hK => ?_); simp -implicitDefEqProofs; refine hK _ _ (by rfl) ?_) | fail)
    refine aw_ret (fin_ret ?_); simp -implicitDefEqProofs [FinP, resV, resT, hz] <;> try rfl
  obtain ⟨⟨ax, al⟩, ha⟩ : ∃ a, l[k]? = some a := ⟨_, List.getElem?_eq_getElem hkl⟩
  have ha' := (List.getElem?_eq_some_iff.1 ha).2
  have hsz1 := Tr.size_at (x := x) ha
  have hc := ih _ (List.mem_of_getElem? ha) (kid_ok hx (List.mem_of_getElem? ha)) (by omega)
  have w2 : IntKind.i64.wrap ((k : Nat) + 1 : Int) = (k : Nat) + 1 := i64i _ (by omega) (by omega)
  by_cases hp : quT (.mk ax al) = true
  · rw [hp] at hc
    repeat' (first | refine aw_seq ?_ | refine aw_skip ?_ | refine aw_block ?_ | refine aw_exit ?_ | refine aw_cond rfl (fun _ => ?_) (fun hb => absurd hb (by decide)) | refine aw_cond rfl (fun hb => absurd hb (by decide)) (fun _ => ?_) | (refine aw_reg (fun K hK => ?_); simp -implicitDefEqProofs [hkl, ha, ha', w2]) | (refine aw_drw mixd (fun K hK => ?_); simp -implicitDefEqProofs [hkl, ha, ha', w2]) | refine hK _ ?_ | refine hK _ _ (by rfl) ?_ | (refine ar_call (cp hc ?_); simp -implicitDefEqProofs [hkl, ha, ha', w2]) | (refine ard_call (dp hc ?_); simp -implicitDefEqProofs [hkl, ha, ha', w2]) | fail)
    refine ⟨k + 1, ⟨by omega, by rw [List.take_add_one, ha, Option.toList_some, List.all_append, hz]; simp [hp]⟩, (by dsimp only; omega), ?_⟩
    rw [hI]; exact cov_intro [0] (by simp -implicitDefEqProofs) (by simp -implicitDefEqProofs) (by decide) rfl (by simp)
  · have hp : quT (.mk ax al) = false := by simpa using hp
    rw [hp] at hc
    have e : l.all quT = false := by
      rw [List.all_eq_false]; exact ⟨_, List.mem_of_getElem? ha, by rw [hp]; simp⟩
    repeat' (first | refine aw_seq ?_ | refine aw_skip ?_ | refine aw_block ?_ | refine aw_exit ?_ | refine aw_cond rfl (fun _ => ?_) (fun hb => absurd hb (by decide)) | refine aw_cond rfl (fun hb => absurd hb (by decide)) (fun _ => ?_) | (refine aw_reg (fun K hK => ?_); simp -implicitDefEqProofs [hkl, ha, ha', w2]) | (refine aw_drw mixd (fun K hK => ?_); simp -implicitDefEqProofs [hkl, ha, ha', w2]) | refine hK _ ?_ | refine hK _ _ (by rfl) ?_ | (refine ar_call (cp hc ?_); simp -implicitDefEqProofs [hkl, ha, ha', w2]) | (refine ard_call (dp hc ?_); simp -implicitDefEqProofs [hkl, ha, ha', w2]) | fail)
    refine aw_ret (fin_ret ?_); simp -implicitDefEqProofs [FinP, resV, resT, e] <;> try rfl
set_option maxRecDepth 100000 in
set_option maxHeartbeats 4000000 in
theorem rglobals_row (t : VT) : in64 t → t.size ≤ 1000000 → Row Try.prog 64 [vT t] [] (vIs (glT t)) [] := by
  induction t using Tr.ind with
  | h x l ih =>
  intro hx hsz
  have hlen := Tr.len_size (x := x) (l := l)
  have hgl := glT_len (.mk x l)
  have hx1 := lab_ok hx
  have w0 : IntKind.i64.wrap x.n = x.n := i64i _ hx1.2.1.1 hx1.2.1.2
  have hpre : ∀ k, ((if x.k = 9 then [x.n] else []) ++ ((l.take k).map glT).flatten).length ≤ 1000000 := fun k => by
    have h1 : ((l.take k).map glT).flatten.length ≤ ((l.map glT).flatten).length := by
      conv => rhs; rw [← List.take_append_drop k l, List.map_append, List.flatten_append, List.length_append]
      omega
    rw [glT_mk, List.length_append] at hgl
    rw [List.length_append]; omega
  rw [glT_mk]
  refine row_of Try.func64 rfl rfl (Nat.le_of_ble_eq_true rfl) ?_
  refine aw_seq ?_
  refine aw_reg (fun K hK => ?_); simp -implicitDefEqProofs; refine hK _ ?_
  refine aw_seq ?_
  refine aw_reg (fun K hK => ?_); simp -implicitDefEqProofs; refine hK _ ?_
  refine aw_meet (ι := Unit) (fun _ => mkSt [(1, .v (.c (.ptr 0 0))), (3, .v (.c (.row 1 1 (icL (if x.k = 9 then [x.n] else [])))))] [some (.box (ta (.mk x l))), some (.row 3 1)]) (fun _ => True) (fun I hI => ?_) (fun _ _ => ?_)
  · clear ih
    by_cases h9 : x.k = 9
    · repeat (first | refine aw_seq ?_ | refine aw_skip ?_ | refine aw_block ?_ | refine aw_exit ?_ | refine aw_cond rfl (fun _ => ?_) (fun hb => absurd hb (by decide)) | refine aw_cond rfl (fun hb => absurd hb (by decide)) (fun _ => ?_) | (refine aw_reg (fun K hK => ?_); simp -implicitDefEqProofs [h9, w0]; refine hK _ ?_) | (refine aw_drw mixd (fun K hK => ?_); simp -implicitDefEqProofs [h9, w0]; refine hK _ _ (by rfl) ?_) | fail)
      refine ⟨(), (by trivial), ?_⟩; rw [hI]; exact cov_intro [0, 11] (by simp -implicitDefEqProofs [h9]) (by simp -implicitDefEqProofs [h9]) (by decide) rfl (by simp)
    · repeat (first | refine aw_seq ?_ | refine aw_skip ?_ | refine aw_block ?_ | refine aw_exit ?_ | refine aw_cond rfl (fun _ => ?_) (fun hb => absurd hb (by decide)) | refine aw_cond rfl (fun hb => absurd hb (by decide)) (fun _ => ?_) | (refine aw_reg (fun K hK => ?_); simp -implicitDefEqProofs [h9]; refine hK _ ?_) | (refine aw_drw mixd (fun K hK => ?_); simp -implicitDefEqProofs [h9]; refine hK _ _ (by rfl) ?_) | fail)
      refine ⟨(), (by trivial), ?_⟩; rw [hI]; exact cov_intro [0, 2] (by simp -implicitDefEqProofs [h9]) (by simp -implicitDefEqProofs [h9]) (by decide) rfl (by simp)
  have h0 : (if x.k = 9 then [x.n] else []) = (if x.k = 9 then [x.n] else []) ++ ((l.take 0).map glT).flatten := by simp
  generalize (if x.k = 9 then [x.n] else []) = A at hpre h0 ⊢
  repeat (first | refine aw_seq ?_ | refine aw_skip ?_ | refine aw_block ?_ | refine aw_exit ?_ | refine aw_cond rfl (fun _ => ?_) (fun hb => absurd hb (by decide)) | refine aw_cond rfl (fun hb => absurd hb (by decide)) (fun _ => ?_) | (refine aw_reg (fun K hK => ?_); simp -implicitDefEqProofs; refine hK _ ?_) | (refine aw_drw mixd (fun K hK => ?_); simp -implicitDefEqProofs; refine hK _ _ (by rfl) ?_) | fail)
  refine aw_lp (ι := Nat) (fun k => mkSt [(1, .v (.c (.ptr 0 0))), (3, .v (.c (.row 1 1 (icL (A ++ ((l.take k).map glT).flatten))))), (4, vI (k : Nat))] [some (.box (ta (.mk x l))), some (.row 3 1)]) (fun k => k ≤ l.length) (fun k => l.length - k) 0 (Nat.zero_le _) (by rw [← h0]; exact cov_intro [0, 1] (by simp -implicitDefEqProofs) (by simp -implicitDefEqProofs) (by decide) rfl (by simp)) (fun Z hI k hk => ?_)
  by_cases hkl : k < l.length; rotate_left
  · have : k = l.length := by omega
    subst this
    rw [List.take_length]
    repeat (first | refine aw_seq ?_ | refine aw_skip ?_ | refine aw_block ?_ | refine aw_exit ?_ | refine aw_cond rfl (fun _ => ?_) (fun hb => absurd hb (by decide)) | refine aw_cond rfl (fun hb => absurd hb (by decide)) (fun _ => ?_) | (refine aw_reg (fun K hK => ?_); simp -implicitDefEqProofs; refine hK _ ?_) | (refine aw_drw mixd (fun K hK => ?_); simp -implicitDefEqProofs; refine hK _ _ (by rfl) ?_) | fail)
    refine aw_ret (fin_ret ?_); simp -implicitDefEqProofs [FinP, resV, resT] <;> try rfl
  obtain ⟨a, ha⟩ : ∃ a, l[k]? = some a := ⟨_, List.getElem?_eq_getElem hkl⟩
  have hs : A ++ ((l.take (k + 1)).map glT).flatten = (A ++ ((l.take k).map glT).flatten) ++ glT a := by
    rw [List.take_add_one, ha]; simp
  have hle := hpre (k + 1)
  rw [hs, List.length_append] at hle
  obtain ⟨ax, al⟩ := a
  have ha' := (List.getElem?_eq_some_iff.1 ha).2
  have hsz1 := Tr.size_at (x := x) ha
  have hc := ih _ (List.mem_of_getElem? ha) (kid_ok hx (List.mem_of_getElem? ha)) (by omega)
  have w2 : IntKind.i64.wrap ((k : Nat) + 1 : Int) = (k : Nat) + 1 := i64i _ (by omega) (by omega)
  obtain ⟨L, hL⟩ : ∃ L, A ++ ((l.take k).map glT).flatten = L := ⟨_, rfl⟩
  obtain ⟨G, hG⟩ : ∃ G, glT (.mk ax al) = G := ⟨_, rfl⟩
  rw [hL, hG] at hs hle
  rw [hG] at hc
  rw [hL]
  have b1 : (L.length + G.length) * 8 ≤ 140737488355328 := by omega
  have b2 : L.length + G.length ≤ 140737488355328 := by omega
  clear hpre h0 ih
  repeat' (first | refine aw_seq ?_ | refine aw_skip ?_ | refine aw_block ?_ | refine aw_exit ?_ | refine aw_cond rfl (fun _ => ?_) (fun hb => absurd hb (by decide)) | refine aw_cond rfl (fun hb => absurd hb (by decide)) (fun _ => ?_) | (refine aw_reg (fun K hK => ?_); simp -implicitDefEqProofs [hkl, ha, ha', w2, b1, b2]) | (refine aw_drw mixd (fun K hK => ?_); simp -implicitDefEqProofs [hkl, ha, ha', w2, b1, b2]) | refine hK _ ?_ | refine hK _ _ (by rfl) ?_ | (refine ar_call (cp hc ?_); simp -implicitDefEqProofs [hkl, ha, ha', w2, b1, b2]) | (refine ard_call (dp hc ?_); simp -implicitDefEqProofs [hkl, ha, ha', w2, b1, b2]) | fail)
  refine ⟨k + 1, by omega, (by dsimp only; omega), ?_⟩
  rw [hI, hs]; exact cov_intro [0, 21] (by simp -implicitDefEqProofs) (by simp -implicitDefEqProofs) (by decide) rfl (by simp)
set_option maxRecDepth 100000 in
set_option maxHeartbeats 4000000 in
theorem in_row (L : List Int) (n : Int) (hl : L.length ≤ 1000000) : Row Try.prog 65 [vIs L, vI n] [] (vB (decide (n ∈ L))) [] := by
  refine row_of Try.func65 rfl rfl (Nat.le_of_ble_eq_true rfl) ?_
  repeat (first | refine aw_seq ?_ | refine aw_skip ?_ | refine aw_block ?_ | refine aw_exit ?_ | refine aw_cond rfl (fun _ => ?_) (fun hb => absurd hb (by decide)) | refine aw_cond rfl (fun hb => absurd hb (by decide)) (fun _ => ?_) | (refine aw_reg (fun K hK => ?_); simp -implicitDefEqProofs; refine hK _ ?_) | (refine aw_drw mixd (fun K hK => ?_); simp -implicitDefEqProofs; refine hK _ _ (by rfl) ?_) | fail)
  refine aw_lp (ι := Nat) (fun k => mkSt [(0, vIs L), (1, vI n), (5, vI (k : Nat))] []) (fun k => k ≤ L.length ∧ n ∉ L.take k) (fun k => L.length - k) 0 ⟨Nat.zero_le _, by simp⟩ (cov_intro [] (by simp -implicitDefEqProofs) (by simp -implicitDefEqProofs) (by decide) rfl (by simp)) (fun Z hI k hk => ?_)
  obtain ⟨hk, hz⟩ := hk
  by_cases hkl : k < L.length; rotate_left
  · have : k = L.length := by omega
    subst this
    rw [List.take_length] at hz
    repeat (first | refine aw_seq ?_ | refine aw_skip ?_ | refine aw_block ?_ | refine aw_exit ?_ | refine aw_cond rfl (fun _ => ?_) (fun hb => absurd hb (by decide)) | refine aw_cond rfl (fun hb => absurd hb (by decide)) (fun _ => ?_) | (refine aw_reg (fun K hK => ?_); simp -implicitDefEqProofs; refine hK _ ?_) | (refine aw_drw mixd (fun K hK => ?_); simp -implicitDefEqProofs; refine hK _ _ (by rfl) ?_) | fail)
    refine aw_ret (fin_ret ?_); simp -implicitDefEqProofs [FinP, resV, resT, hz] <;> try rfl
  obtain ⟨z, ha⟩ : ∃ a, L[k]? = some a := ⟨_, List.getElem?_eq_getElem hkl⟩
  have ha' := (List.getElem?_eq_some_iff.1 ha).2
  have w2 : IntKind.i64.wrap ((k : Nat) + 1 : Int) = (k : Nat) + 1 := i64i _ (by omega) (by omega)
  by_cases hp : z = n
  · have e : n ∈ L := by rw [← hp]; exact List.mem_of_getElem? ha
    repeat (first | refine aw_seq ?_ | refine aw_skip ?_ | refine aw_block ?_ | refine aw_exit ?_ | refine aw_cond rfl (fun _ => ?_) (fun hb => absurd hb (by decide)) | refine aw_cond rfl (fun hb => absurd hb (by decide)) (fun _ => ?_) | (refine aw_reg (fun K hK => ?_); simp -implicitDefEqProofs [hkl, ha, ha', hp]; refine hK _ ?_) | (refine aw_drw mixd (fun K hK => ?_); simp -implicitDefEqProofs [hkl, ha, ha', hp]; refine hK _ _ (by rfl) ?_) | fail)
    refine aw_ret (fin_ret ?_); simp -implicitDefEqProofs [FinP, resV, resT, e] <;> try rfl
  · repeat (first | refine aw_seq ?_ | refine aw_skip ?_ | refine aw_block ?_ | refine aw_exit ?_ | refine aw_cond rfl (fun _ => ?_) (fun hb => absurd hb (by decide)) | refine aw_cond rfl (fun hb => absurd hb (by decide)) (fun _ => ?_) | (refine aw_reg (fun K hK => ?_); simp -implicitDefEqProofs [hkl, ha, ha', hp, w2]; refine hK _ ?_) | (refine aw_drw mixd (fun K hK => ?_); simp -implicitDefEqProofs [hkl, ha, ha', hp, w2]; refine hK _ _ (by rfl) ?_) | fail)
    refine ⟨k + 1, ⟨by omega, by rw [List.take_add_one, ha]; simp [hz]; exact fun h => hp h.symm⟩, (by dsimp only; omega), ?_⟩
    rw [hI]; exact cov_intro [] (by simp -implicitDefEqProofs) (by simp -implicitDefEqProofs) (by decide) rfl (by simp)
set_option maxRecDepth 100000 in
set_option maxHeartbeats 4000000 in
theorem way_row (L : List Int) (hl : L.length ≤ 1000000) : Row Try.prog 61 [vIs L, vIs L] [] (vB true) [] := by
  refine row_of Try.func61 rfl rfl (Nat.le_of_ble_eq_true rfl) ?_
  repeat (first | refine aw_seq ?_ | refine aw_skip ?_ | refine aw_block ?_ | refine aw_exit ?_ | refine aw_cond rfl (fun _ => ?_) (fun hb => absurd hb (by decide)) | refine aw_cond rfl (fun hb => absurd hb (by decide)) (fun _ => ?_) | (refine aw_reg (fun K hK => ?_); simp -implicitDefEqProofs; refine hK _ ?_) | (refine aw_drw mixd (fun K hK => ?_); simp -implicitDefEqProofs; refine hK _ _ (by rfl) ?_) | fail)
  refine aw_lp (ι := Nat) (fun k => mkSt [(0, vIs L), (1, vIs L), (5, vI (k : Nat))] []) (fun k => k ≤ L.length) (fun k => L.length - k) 0 (Nat.zero_le _) (cov_intro [] (by simp -implicitDefEqProofs) (by simp -implicitDefEqProofs) (by decide) rfl (by simp)) (fun Z hI k hk => ?_)
  by_cases hkl : k < L.length; rotate_left
  · have : k = L.length := by omega
    subst this
    repeat (first | refine aw_seq ?_ | refine aw_skip ?_ | refine aw_block ?_ | refine aw_exit ?_ | refine aw_cond rfl (fun _ => ?_) (fun hb => absurd hb (by decide)) | refine aw_cond rfl (fun hb => absurd hb (by decide)) (fun _ => ?_) | (refine aw_reg (fun K hK => ?_); simp -implicitDefEqProofs; refine hK _ ?_) | (refine aw_drw mixd (fun K hK => ?_); simp -implicitDefEqProofs; refine hK _ _ (by rfl) ?_) | fail)
    refine aw_ret (fin_ret ?_); simp -implicitDefEqProofs [FinP, resV, resT] <;> try rfl
  obtain ⟨z, ha⟩ : ∃ a, L[k]? = some a := ⟨_, List.getElem?_eq_getElem hkl⟩
  have ha' := (List.getElem?_eq_some_iff.1 ha).2
  have w2 : IntKind.i64.wrap ((k : Nat) + 1 : Int) = (k : Nat) + 1 := i64i _ (by omega) (by omega)
  repeat (first | refine aw_seq ?_ | refine aw_skip ?_ | refine aw_block ?_ | refine aw_exit ?_ | refine aw_cond rfl (fun _ => ?_) (fun hb => absurd hb (by decide)) | refine aw_cond rfl (fun hb => absurd hb (by decide)) (fun _ => ?_) | (refine aw_reg (fun K hK => ?_); simp -implicitDefEqProofs [hkl, ha, ha', w2]; refine hK _ ?_) | (refine aw_drw mixd (fun K hK => ?_); simp -implicitDefEqProofs [hkl, ha, ha', w2]; refine hK _ _ (by rfl) ?_) | fail)
  refine ⟨k + 1, by omega, (by dsimp only; omega), ?_⟩
  rw [hI]; exact cov_intro [] (by simp -implicitDefEqProofs) (by simp -implicitDefEqProofs) (by decide) rfl (by simp)
set_option maxRecDepth 100000 in
set_option maxHeartbeats 4000000 in
theorem places_row (L : List Int) (hl : L.length ≤ 1000000) : Row Try.prog 27 [vIs L, vIs L] [] (vB true) [] := by
  have h := way_row L hl
  refine row_of Try.func27 rfl rfl (Nat.le_of_ble_eq_true rfl) ?_
  repeat' (first | refine aw_seq ?_ | refine aw_skip ?_ | refine aw_block ?_ | refine aw_exit ?_ | refine aw_cond rfl (fun _ => ?_) (fun hb => absurd hb (by decide)) | refine aw_cond rfl (fun hb => absurd hb (by decide)) (fun _ => ?_) | (refine aw_reg (fun K hK => ?_); simp -implicitDefEqProofs) | (refine aw_drw mixd (fun K hK => ?_); simp -implicitDefEqProofs) | refine hK _ ?_ | refine hK _ _ (by rfl) ?_ | (refine ar_call (cp h ?_); simp -implicitDefEqProofs) | (refine ard_call (dp h ?_); simp -implicitDefEqProofs) | fail)
  refine aw_ret (fin_ret ?_); simp -implicitDefEqProofs [FinP, resV, resT] <;> try rfl
end Go.Proofs.Ytjnlfppeodoliaa.am
