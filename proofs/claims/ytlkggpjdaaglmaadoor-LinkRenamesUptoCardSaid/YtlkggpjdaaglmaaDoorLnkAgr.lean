/-
  Layer 22: which outcomes agree: the program's and the document's.
-/
import Derived.Test.YtlkggpjdaaglmaaDoorAmC
import Derived.Test.YtlkggpjdaaglmaaDoorTd
namespace Go.Proofs.YtlkggpjdaaglmaaDoor.am
open Go.ChangeShapes Go.WideShapes Go.ChangeAt Go.RowKit
open vt
set_option linter.unusedVariables false
set_option linter.unusedSimpArgs false
theorem td_outc : td Tryd.prog 24 = some ⟨true, 4, 48, [.lit (.int .i64 0), .lit (.int .i64 0), .nilS, .lit (.int .i64 0)], [(0, 1, false), (1, 1, false), (2, 1, false), (3, 1, false)], .struct⟩ := Eq.trans (by kernel_rfl) (Eq.refl _)
theorem td_intv : td Tryd.prog 22 = some ⟨false, 1, 24, [.nilS], [], (.slice 2)⟩ := Eq.trans (by kernel_rfl) (Eq.refl _)
attribute [simp] td_outc td_intv
/-- Numbers as the cells of a row. -/
abbrev zc (z : Int) : List PV := [I z]
abbrev vZ (L : List Int) : AV := .v (.c (.pv (.sl 1 (L.map zc))))
theorem tk_all {x y : List Int} (h : x.length = y.length) {k : Nat} (hk : x.length ≤ k) (e : x.take k = y.take k) : x = y := by
  rwa [List.take_of_length_le hk, List.take_of_length_le (by omega)] at e
theorem tk_succ {x y : List Int} {k : Nat} {a : Int} (hx : x[k]? = some a) (hy : y[k]? = some a) (e : x.take k = y.take k) : x.take (k + 1) = y.take (k + 1) := by
  rw [List.take_add_one, List.take_add_one, e, hx, hy]
theorem tk_ne {x y : List Int} {k : Nat} {a b : Int} (hx : x[k]? = some a) (hy : y[k]? = some b) (hab : a ≠ b) : decide (x = y) = false := by
  apply decide_eq_false
  intro e
  rw [e, hy] at hx
  cases hx
  exact hab rfl
set_option maxRecDepth 100000 in
set_option maxHeartbeats 4000000 in
theorem eqz_row (xs ys : List Int) (h1 : xs.length ≤ 1000000) (h2 : ys.length ≤ 1000000) : Row Tryd.prog 17 [vZ xs, vZ ys] [] (vB (decide (xs = ys))) [] := by
  by_cases hl : xs.length = ys.length; rotate_left
  · have e : decide (xs = ys) = false := decide_eq_false (fun e => hl (by rw [e]))
    have hl' : ¬ ((xs.length : Int) = ys.length) := by omega
    refine row_of Tryd.func17 rfl rfl (Nat.le_of_ble_eq_true rfl) ?_
    repeat (first | refine aw_seq ?_ | refine aw_skip ?_ | refine aw_block ?_ | refine aw_exit ?_ | refine aw_cond rfl (fun _ => ?_) (fun hb => absurd hb (by decide)) | refine aw_cond rfl (fun hb => absurd hb (by decide)) (fun _ => ?_) | (refine aw_reg (fun K hK => ?_); simp -implicitDefEqProofs [hl, hl']; refine hK _ ?_) | (refine aw_drw mixd (fun K hK => ?_); simp -implicitDefEqProofs [hl, hl']; refine hK _ _ (by rfl) ?_) | fail)
    refine aw_ret (fin_ret ?_); simp -implicitDefEqProofs [FinP, resV, resT, e] <;> try rfl
  refine row_of Tryd.func17 rfl rfl (Nat.le_of_ble_eq_true rfl) ?_
  repeat (first | refine aw_seq ?_ | refine aw_skip ?_ | refine aw_block ?_ | refine aw_exit ?_ | refine aw_cond rfl (fun _ => ?_) (fun hb => absurd hb (by decide)) | refine aw_cond rfl (fun hb => absurd hb (by decide)) (fun _ => ?_) | (refine aw_reg (fun K hK => ?_); simp -implicitDefEqProofs [hl]; refine hK _ ?_) | (refine aw_drw mixd (fun K hK => ?_); simp -implicitDefEqProofs [hl]; refine hK _ _ (by rfl) ?_) | fail)
  refine aw_lp (ι := Nat) (fun k => mkSt [(0, vZ xs), (1, vZ ys), (12, vI (ys.length : Nat)), (13, vI (k : Nat))] []) (fun k => k ≤ xs.length ∧ xs.take k = ys.take k) (fun k => xs.length - k) 0 ⟨Nat.zero_le _, rfl⟩ (cov_intro [] (by simp -implicitDefEqProofs [hl]) (by simp -implicitDefEqProofs [hl]) (by decide) rfl (by simp)) (fun Z hI k hk => ?_)
  obtain ⟨hk, hz⟩ := hk
  by_cases hkl : k < xs.length; rotate_left
  · have e : decide (xs = ys) = true := decide_eq_true (tk_all hl (by omega) hz)
    have hkl' : ¬ k < ys.length := by omega
    repeat (first | refine aw_seq ?_ | refine aw_skip ?_ | refine aw_block ?_ | refine aw_exit ?_ | refine aw_cond rfl (fun _ => ?_) (fun hb => absurd hb (by decide)) | refine aw_cond rfl (fun hb => absurd hb (by decide)) (fun _ => ?_) | (refine aw_reg (fun K hK => ?_); simp -implicitDefEqProofs [hkl, hkl']; refine hK _ ?_) | (refine aw_drw mixd (fun K hK => ?_); simp -implicitDefEqProofs [hkl, hkl']; refine hK _ _ (by rfl) ?_) | fail)
    refine aw_ret (fin_ret ?_); simp -implicitDefEqProofs [FinP, resV, resT, e] <;> try rfl
  obtain ⟨a, ha⟩ : ∃ a, xs[k]? = some a := ⟨_, List.getElem?_eq_getElem hkl⟩
  have hkl' : k < ys.length := by omega
  obtain ⟨b, hb⟩ : ∃ a, ys[k]? = some a := ⟨_, List.getElem?_eq_getElem hkl'⟩
  have ha' := (List.getElem?_eq_some_iff.1 ha).2
  have hb' := (List.getElem?_eq_some_iff.1 hb).2
  have w2 : IntKind.i64.wrap ((k : Nat) + 1 : Int) = (k : Nat) + 1 := i64i _ (by omega) (by omega)
  by_cases hab : a = b
  · subst hab
    repeat (first | refine aw_seq ?_ | refine aw_skip ?_ | refine aw_block ?_ | refine aw_exit ?_ | refine aw_cond rfl (fun _ => ?_) (fun hb => absurd hb (by decide)) | refine aw_cond rfl (fun hb => absurd hb (by decide)) (fun _ => ?_) | (refine aw_reg (fun K hK => ?_); simp -implicitDefEqProofs [hkl, hkl', ha, ha', hb, hb', w2]; refine hK _ ?_) | (refine aw_drw mixd (fun K hK => ?_); simp -implicitDefEqProofs [hkl, hkl', ha, ha', hb, hb', w2]; refine hK _ _ (by rfl) ?_) | fail)
    refine ⟨k + 1, ⟨by omega, tk_succ ha hb hz⟩, (by dsimp only; omega), ?_⟩
    rw [hI]; exact cov_intro [] (by simp -implicitDefEqProofs) (by simp -implicitDefEqProofs) (by decide) rfl (by simp)
  · have e := tk_ne ha hb hab
    repeat (first | refine aw_seq ?_ | refine aw_skip ?_ | refine aw_block ?_ | refine aw_exit ?_ | refine aw_cond rfl (fun _ => ?_) (fun hb => absurd hb (by decide)) | refine aw_cond rfl (fun hb => absurd hb (by decide)) (fun _ => ?_) | (refine aw_reg (fun K hK => ?_); simp -implicitDefEqProofs [hkl, hkl', ha, ha', hb, hb', w2, hab]; refine hK _ ?_) | (refine aw_drw mixd (fun K hK => ?_); simp -implicitDefEqProofs [hkl, hkl', ha, ha', hb, hb', w2, hab]; refine hK _ _ (by rfl) ?_) | fail)
    refine aw_ret (fin_ret ?_); simp -implicitDefEqProofs [FinP, resV, resT, e] <;> try rfl
set_option maxRecDepth 100000 in
set_option maxHeartbeats 4000000 in
theorem rnum_row (xs ys : List Int) (h1 : xs.length ≤ 1000000) (h2 : ys.length ≤ 1000000) : Row Tryd.prog 19 [vZ xs, vZ ys] [] (vB (decide (xs = ys))) [] := by
  by_cases hl : xs.length = ys.length; rotate_left
  · have e : decide (xs = ys) = false := decide_eq_false (fun e => hl (by rw [e]))
    have hl' : ¬ ((xs.length : Int) = ys.length) := by omega
    refine row_of Tryd.func19 rfl rfl (Nat.le_of_ble_eq_true rfl) ?_
    repeat (first | refine aw_seq ?_ | refine aw_skip ?_ | refine aw_block ?_ | refine aw_exit ?_ | refine aw_cond rfl (fun _ => ?_) (fun hb => absurd hb (by decide)) | refine aw_cond rfl (fun hb => absurd hb (by decide)) (fun _ => ?_) | (refine aw_reg (fun K hK => ?_); simp -implicitDefEqProofs [hl, hl']; refine hK _ ?_) | (refine aw_drw mixd (fun K hK => ?_); simp -implicitDefEqProofs [hl, hl']; refine hK _ _ (by rfl) ?_) | fail)
    refine aw_ret (fin_ret ?_); simp -implicitDefEqProofs [FinP, resV, resT, e] <;> try rfl
  refine row_of Tryd.func19 rfl rfl (Nat.le_of_ble_eq_true rfl) ?_
  repeat (first | refine aw_seq ?_ | refine aw_skip ?_ | refine aw_block ?_ | refine aw_exit ?_ | refine aw_cond rfl (fun _ => ?_) (fun hb => absurd hb (by decide)) | refine aw_cond rfl (fun hb => absurd hb (by decide)) (fun _ => ?_) | (refine aw_reg (fun K hK => ?_); simp -implicitDefEqProofs [hl]; refine hK _ ?_) | (refine aw_drw mixd (fun K hK => ?_); simp -implicitDefEqProofs [hl]; refine hK _ _ (by rfl) ?_) | fail)
  refine aw_lp (ι := Nat) (fun k => mkSt [(0, vZ xs), (1, vZ ys), (5, vI (k : Nat))] []) (fun k => k ≤ xs.length ∧ xs.take k = ys.take k) (fun k => xs.length - k) 0 ⟨Nat.zero_le _, rfl⟩ (cov_intro [] (by simp -implicitDefEqProofs [hl]) (by simp -implicitDefEqProofs [hl]) (by decide) rfl (by simp)) (fun Z hI k hk => ?_)
  obtain ⟨hk, hz⟩ := hk
  by_cases hkl : k < xs.length; rotate_left
  · have e : decide (xs = ys) = true := decide_eq_true (tk_all hl (by omega) hz)
    have hkl' : ¬ k < ys.length := by omega
    repeat (first | refine aw_seq ?_ | refine aw_skip ?_ | refine aw_block ?_ | refine aw_exit ?_ | refine aw_cond rfl (fun _ => ?_) (fun hb => absurd hb (by decide)) | refine aw_cond rfl (fun hb => absurd hb (by decide)) (fun _ => ?_) | (refine aw_reg (fun K hK => ?_); simp -implicitDefEqProofs [hl, hkl, hkl']; refine hK _ ?_) | (refine aw_drw mixd (fun K hK => ?_); simp -implicitDefEqProofs [hl, hkl, hkl']; refine hK _ _ (by rfl) ?_) | fail)
    refine aw_ret (fin_ret ?_); simp -implicitDefEqProofs [FinP, resV, resT, e] <;> try rfl
  obtain ⟨a, ha⟩ : ∃ a, xs[k]? = some a := ⟨_, List.getElem?_eq_getElem hkl⟩
  have hkl' : k < ys.length := by omega
  obtain ⟨b, hb⟩ : ∃ a, ys[k]? = some a := ⟨_, List.getElem?_eq_getElem hkl'⟩
  have ha' := (List.getElem?_eq_some_iff.1 ha).2
  have hb' := (List.getElem?_eq_some_iff.1 hb).2
  have w2 : IntKind.i64.wrap ((k : Nat) + 1 : Int) = (k : Nat) + 1 := i64i _ (by omega) (by omega)
  by_cases hab : a = b
  · subst hab
    repeat (first | refine aw_seq ?_ | refine aw_skip ?_ | refine aw_block ?_ | refine aw_exit ?_ | refine aw_cond rfl (fun _ => ?_) (fun hb => absurd hb (by decide)) | refine aw_cond rfl (fun hb => absurd hb (by decide)) (fun _ => ?_) | (refine aw_reg (fun K hK => ?_); simp -implicitDefEqProofs [hl, hkl, hkl', ha, ha', hb, hb', w2]; refine hK _ ?_) | (refine aw_drw mixd (fun K hK => ?_); simp -implicitDefEqProofs [hl, hkl, hkl', ha, ha', hb, hb', w2]; refine hK _ _ (by rfl) ?_) | fail)
    refine ⟨k + 1, ⟨by omega, tk_succ ha hb hz⟩, (by dsimp only; omega), ?_⟩
    rw [hI]; exact cov_intro [] (by simp -implicitDefEqProofs) (by simp -implicitDefEqProofs) (by decide) rfl (by simp)
  · have e := tk_ne ha hb hab
    repeat (first | refine aw_seq ?_ | refine aw_skip ?_ | refine aw_block ?_ | refine aw_exit ?_ | refine aw_cond rfl (fun _ => ?_) (fun hb => absurd hb (by decide)) | refine aw_cond rfl (fun hb => absurd hb (by decide)) (fun _ => ?_) | (refine aw_reg (fun K hK => ?_); simp -implicitDefEqProofs [hl, hkl, hkl', ha, ha', hb, hb', w2, hab]; refine hK _ ?_) | (refine aw_drw mixd (fun K hK => ?_); simp -implicitDefEqProofs [hl, hkl, hkl', ha, ha', hb, hb', w2, hab]; refine hK _ _ (by rfl) ?_) | fail)
    refine aw_ret (fin_ret ?_); simp -implicitDefEqProofs [FinP, resV, resT, e] <;> try rfl
/-- Does the one begin the other? -/
def ahd (x y : List Int) : Bool := decide (x.length ≤ y.length) && decide (x = y.take x.length)
set_option maxRecDepth 100000 in
set_option maxHeartbeats 4000000 in
theorem rahead_row (xs ys : List Int) (h1 : xs.length ≤ 1000000) (h2 : ys.length ≤ 1000000) : Row Tryd.prog 18 [vZ xs, vZ ys] [] (vB (ahd xs ys)) [] := by
  by_cases hl : xs.length ≤ ys.length
  · have hl' : (xs.length : Int) ≤ ys.length := by omega
    have e := rnum_row xs (ys.take xs.length) h1 (by rw [List.length_take]; omega)
    simp only [vZ, List.map_take] at e
    refine row_of Tryd.func18 rfl rfl (Nat.le_of_ble_eq_true rfl) ?_
    repeat' (first | refine aw_seq ?_ | refine aw_skip ?_ | refine aw_block ?_ | refine aw_exit ?_ | refine aw_cond rfl (fun _ => ?_) (fun hb => absurd hb (by decide)) | refine aw_cond rfl (fun hb => absurd hb (by decide)) (fun _ => ?_) | (refine aw_reg (fun K hK => ?_); simp -implicitDefEqProofs [hl, hl']) | (refine aw_drw mixd (fun K hK => ?_); simp -implicitDefEqProofs [hl, hl']) | refine hK _ ?_ | refine hK _ _ (by rfl) ?_ | (refine ar_call (cp e ?_); simp -implicitDefEqProofs [hl, hl']) | (refine ard_call (dp e ?_); simp -implicitDefEqProofs [hl, hl']) | fail)
    refine aw_ret (fin_ret ?_); simp -implicitDefEqProofs [FinP, resV, resT, ahd, hl] <;> try rfl
  · have hl' : ¬ (xs.length : Int) ≤ ys.length := by omega
    refine row_of Tryd.func18 rfl rfl (Nat.le_of_ble_eq_true rfl) ?_
    repeat (first | refine aw_seq ?_ | refine aw_skip ?_ | refine aw_block ?_ | refine aw_exit ?_ | refine aw_cond rfl (fun _ => ?_) (fun hb => absurd hb (by decide)) | refine aw_cond rfl (fun hb => absurd hb (by decide)) (fun _ => ?_) | (refine aw_reg (fun K hK => ?_); simp -implicitDefEqProofs [hl, hl']; refine hK _ ?_) | (refine aw_drw mixd (fun K hK => ?_); simp -implicitDefEqProofs [hl, hl']; refine hK _ _ (by rfl) ?_) | fail)
    refine aw_ret (fin_ret ?_); simp -implicitDefEqProofs [FinP, resV, resT, ahd, hl] <;> try rfl
/-- An outcome. -/
structure Oc where
  k : Int
  n : Int
  tr : List Int
  u : Int
abbrev vOc (a : Oc) : AV := .v (.agg [.pv (I a.k), .pv (I a.n), .pv (.sl 1 (a.tr.map zc)), .pv (I a.u)])
def agP (a b : Oc) : Bool := (ahd a.tr b.tr || ahd b.tr a.tr) && (decide (a.k = 3) || decide (b.k = 3) || (decide (a.tr = b.tr) && decide (a.k = b.k) && decide (a.n = b.n)))
theorem ahd_self (x : List Int) : ahd x x = true := by
  unfold ahd; simp
theorem agP_self (a : Oc) : agP a a = true := by
  unfold agP; simp [ahd_self]
theorem agP_comm (a b : Oc) : agP a b = agP b a := by
  unfold agP
  rw [Bool.or_comm (ahd a.tr b.tr), Bool.or_comm (decide (a.k = 3)), show decide (a.tr = b.tr) = decide (b.tr = a.tr) from decide_eq_decide.2 eq_comm, show decide (a.k = b.k) = decide (b.k = a.k) from decide_eq_decide.2 eq_comm, show decide (a.n = b.n) = decide (b.n = a.n) from decide_eq_decide.2 eq_comm]
set_option maxRecDepth 100000 in
set_option maxHeartbeats 4000000 in
theorem ragree_row (a b : Oc) (h1 : a.tr.length ≤ 1000000) (h2 : b.tr.length ≤ 1000000) : Row Tryd.prog 8 [vOc a, vOc b] [] (vB (agP a b)) [] := by
  obtain ⟨ak, an, atr, au⟩ := a
  obtain ⟨bk, bn, btr, bu⟩ := b
  dsimp only at h1 h2
  have e1 := rahead_row atr btr h1 h2
  have e2 := rahead_row btr atr h2 h1
  have e3 := rnum_row atr btr h1 h2
  refine row_of Tryd.func8 rfl rfl (Nat.le_of_ble_eq_true rfl) ?_
  repeat' (first | refine aw_seq ?_ | refine aw_skip ?_ | refine aw_block ?_ | refine aw_exit ?_ | refine aw_cond rfl (fun _ => ?_) (fun hb => absurd hb (by decide)) | refine aw_cond rfl (fun hb => absurd hb (by decide)) (fun _ => ?_) | (refine aw_reg (fun K hK => ?_); simp -implicitDefEqProofs [*]) | (refine aw_drw mixd (fun K hK => ?_); simp -implicitDefEqProofs [*]) | refine hK _ ?_ | refine hK _ _ (by rfl) ?_ | (refine ar_call (cp e1 ?_); simp -implicitDefEqProofs [*]) | (refine ard_call (dp e1 ?_); simp -implicitDefEqProofs [*]) | (refine ar_call (cp e2 ?_); simp -implicitDefEqProofs [*]) | (refine ard_call (dp e2 ?_); simp -implicitDefEqProofs [*]) | (refine ar_call (cp e3 ?_); simp -implicitDefEqProofs [*]) | (refine ard_call (dp e3 ?_); simp -implicitDefEqProofs [*]) | (refine aw_cond rfl (fun hb => ?_) (fun hb => ?_) <;> ((try simp only [decide_eq_true_eq, decide_eq_false_iff_not, Bool.not_eq_true', Bool.not_eq_false', Bool.not_eq_eq_eq_not, Bool.not_true, Bool.not_false, beq_iff_eq, beq_true, beq_false, bne_iff_ne, ne_eq, Decidable.not_not, Bool.and_eq_true, Bool.or_eq_true, Bool.and_eq_false_iff, Bool.or_eq_false_iff] at hb) <;> repeat' (refine Or.elim hb (fun hb => ?_) (fun hb => ?_)))) | (refine gx_split (fun hb => ?_) (fun hb => ?_) <;> ((try simp only [decide_eq_true_eq, decide_eq_false_iff_not, Bool.not_eq_true', Bool.not_eq_false', Bool.not_eq_eq_eq_not, Bool.not_true, Bool.not_false, beq_iff_eq, beq_true, beq_false, bne_iff_ne, ne_eq, Decidable.not_not, Bool.and_eq_true, Bool.or_eq_true, Bool.and_eq_false_iff, Bool.or_eq_false_iff] at hb) <;> repeat' (refine Or.elim hb (fun hb => ?_) (fun hb => ?_))) <;> simp -implicitDefEqProofs [*]) | (refine gxd_split (fun hb => ?_) (fun hb => ?_) <;> ((try simp only [decide_eq_true_eq, decide_eq_false_iff_not, Bool.not_eq_true', Bool.not_eq_false', Bool.not_eq_eq_eq_not, Bool.not_true, Bool.not_false, beq_iff_eq, beq_true, beq_false, bne_iff_ne, ne_eq, Decidable.not_not, Bool.and_eq_true, Bool.or_eq_true, Bool.and_eq_false_iff, Bool.or_eq_false_iff] at hb) <;> repeat' (refine Or.elim hb (fun hb => ?_) (fun hb => ?_))) <;> simp -implicitDefEqProofs [*]) | fail)
  all_goals (first | contradiction | ((refine aw_ret (fin_ret ?_); simp -implicitDefEqProofs [FinP, resV, resT, agP, *] <;> try rfl); all_goals (intros; simp [ahd_self])))
set_option maxRecDepth 100000 in
set_option maxHeartbeats 4000000 in
theorem agree_row (a b : Oc) (h1 : a.tr.length ≤ 1000000) (h2 : b.tr.length ≤ 1000000) : Row Tryd.prog 7 [vOc a, vOc b] [] (vB (agP a b)) [] := by
  obtain ⟨ak, an, atr, au⟩ := a
  obtain ⟨bk, bn, btr, bu⟩ := b
  dsimp only at h1 h2
  have key : ∀ (x y : List Int), x.length ≤ 1000000 → y.length ≤ 1000000 → Row Tryd.prog 17 [vZ x, .v (.c (.pv (.sl 1 ((y.map zc).take x.length))))] [] (vB (decide (x = y.take x.length))) [] := fun x y q1 q2 => by
    have e := eqz_row x (y.take x.length) q1 (by rw [List.length_take]; omega)
    simp only [vZ, List.map_take] at e
    exact e
  have key2 : ∀ (x y : List Int), x.length ≤ 1000000 → y.length ≤ 1000000 → Row Tryd.prog 17 [.v (.c (.pv (.sl 1 ((y.map zc).take x.length)))), vZ x] [] (vB (decide (x = y.take x.length))) [] := fun x y q1 q2 => by
    have e := eqz_row (y.take x.length) x (by rw [List.length_take]; omega) q1
    simp only [vZ, List.map_take] at e
    rw [show decide (y.take x.length = x) = decide (x = y.take x.length) from decide_eq_decide.2 eq_comm] at e
    exact e
  by_cases hl : atr.length ≤ btr.length
  · have c1 : ¬ btr.length < atr.length := by omega
    have e := key atr btr h1 h2
    have g1 : agP ⟨ak, an, atr, au⟩ ⟨bk, bn, btr, bu⟩ = (decide (atr = btr.take atr.length) && (decide (ak = 3) || decide (bk = 3) || (decide (atr.length = btr.length) && decide (ak = bk) && decide (an = bn)))) := by
      unfold agP ahd
      dsimp only
      by_cases q1 : atr.length = btr.length
      · have t1 : List.take atr.length btr = btr := List.take_of_length_le (by omega)
        have t2 : List.take btr.length atr = atr := List.take_of_length_le (by omega)
        by_cases q4 : atr = btr
        · subst q4; simp
        · have q5 : ¬ btr = atr := fun e => q4 e.symm
          simp [t1, t2, q4, q5]
      · have q2 : ¬ btr.length ≤ atr.length := by omega
        have q3 : ¬ atr = btr := fun e => q1 (by rw [e])
        simp [q1, q2, q3, hl]
    rw [g1]
    clear key key2 h1 h2 g1
    generalize decide (atr = btr.take atr.length) = q at e ⊢
    refine row_of Tryd.func7 rfl rfl (Nat.le_of_ble_eq_true rfl) ?_
    repeat' (first | refine aw_seq ?_ | refine aw_skip ?_ | refine aw_block ?_ | refine aw_exit ?_ | refine aw_cond rfl (fun _ => ?_) (fun hb => absurd hb (by decide)) | refine aw_cond rfl (fun hb => absurd hb (by decide)) (fun _ => ?_) | (refine aw_reg (fun K hK => ?_); simp -implicitDefEqProofs [c1, *]) | (refine aw_drw mixd (fun K hK => ?_); simp -implicitDefEqProofs [c1, *]) | refine hK _ ?_ | refine hK _ _ (by rfl) ?_ | (refine ar_call (cp e ?_); simp -implicitDefEqProofs [c1, *]) | (refine ard_call (dp e ?_); simp -implicitDefEqProofs [c1, *]) | (refine aw_cond rfl (fun hb => ?_) (fun hb => ?_) <;> ((try simp only [decide_eq_true_eq, decide_eq_false_iff_not, Bool.not_eq_true', Bool.not_eq_false', Bool.not_eq_eq_eq_not, Bool.not_true, Bool.not_false, beq_iff_eq, beq_true, beq_false, bne_iff_ne, ne_eq, Decidable.not_not, Bool.and_eq_true, Bool.or_eq_true, Bool.and_eq_false_iff, Bool.or_eq_false_iff] at hb) <;> repeat' (refine Or.elim hb (fun hb => ?_) (fun hb => ?_)))) | (refine gx_split (fun hb => ?_) (fun hb => ?_) <;> ((try simp only [decide_eq_true_eq, decide_eq_false_iff_not, Bool.not_eq_true', Bool.not_eq_false', Bool.not_eq_eq_eq_not, Bool.not_true, Bool.not_false, beq_iff_eq, beq_true, beq_false, bne_iff_ne, ne_eq, Decidable.not_not, Bool.and_eq_true, Bool.or_eq_true, Bool.and_eq_false_iff, Bool.or_eq_false_iff] at hb) <;> repeat' (refine Or.elim hb (fun hb => ?_) (fun hb => ?_))) <;> simp -implicitDefEqProofs [c1, *]) | (refine gxd_split (fun hb => ?_) (fun hb => ?_) <;> ((try simp only [decide_eq_true_eq, decide_eq_false_iff_not, Bool.not_eq_true', Bool.not_eq_false', Bool.not_eq_eq_eq_not, Bool.not_true, Bool.not_false, beq_iff_eq, beq_true, beq_false, bne_iff_ne, ne_eq, Decidable.not_not, Bool.and_eq_true, Bool.or_eq_true, Bool.and_eq_false_iff, Bool.or_eq_false_iff] at hb) <;> repeat' (refine Or.elim hb (fun hb => ?_) (fun hb => ?_))) <;> simp -implicitDefEqProofs [c1, *]) | fail)
    all_goals (first | contradiction | ((refine aw_ret (fin_ret ?_); simp -implicitDefEqProofs [FinP, resV, resT, *] <;> try rfl); all_goals (intros; omega)))
  · have c1 : btr.length < atr.length := by omega
    have c2 : btr.length ≤ atr.length := by omega
    have c3 : (btr.length : Int) < atr.length := by omega
    have e := key2 btr atr h2 h1
    have g1 : agP ⟨ak, an, atr, au⟩ ⟨bk, bn, btr, bu⟩ = (decide (btr = atr.take btr.length) && (decide (ak = 3) || decide (bk = 3))) := by
      unfold agP ahd
      have q1 : ¬ atr.length = btr.length := by omega
      have q3 : ¬ atr = btr := fun e => q1 (by rw [e])
      dsimp only
      simp [q3, hl, c2]
    rw [g1]
    have q1 : ¬ (atr.length : Int) = btr.length := by omega
    have q2 : ¬ atr.length = btr.length := by omega
    clear key key2 h1 h2 g1
    generalize decide (btr = atr.take btr.length) = q at e ⊢
    refine row_of Tryd.func7 rfl rfl (Nat.le_of_ble_eq_true rfl) ?_
    repeat' (first | refine aw_seq ?_ | refine aw_skip ?_ | refine aw_block ?_ | refine aw_exit ?_ | refine aw_cond rfl (fun _ => ?_) (fun hb => absurd hb (by decide)) | refine aw_cond rfl (fun hb => absurd hb (by decide)) (fun _ => ?_) | (refine aw_reg (fun K hK => ?_); simp -implicitDefEqProofs [c1, *]) | (refine aw_drw mixd (fun K hK => ?_); simp -implicitDefEqProofs [c1, *]) | refine hK _ ?_ | refine hK _ _ (by rfl) ?_ | (refine ar_call (cp e ?_); simp -implicitDefEqProofs [c1, *]) | (refine ard_call (dp e ?_); simp -implicitDefEqProofs [c1, *]) | (refine aw_cond rfl (fun hb => ?_) (fun hb => ?_) <;> ((try simp only [decide_eq_true_eq, decide_eq_false_iff_not, Bool.not_eq_true', Bool.not_eq_false', Bool.not_eq_eq_eq_not, Bool.not_true, Bool.not_false, beq_iff_eq, beq_true, beq_false, bne_iff_ne, ne_eq, Decidable.not_not, Bool.and_eq_true, Bool.or_eq_true, Bool.and_eq_false_iff, Bool.or_eq_false_iff] at hb) <;> repeat' (refine Or.elim hb (fun hb => ?_) (fun hb => ?_)))) | (refine gx_split (fun hb => ?_) (fun hb => ?_) <;> ((try simp only [decide_eq_true_eq, decide_eq_false_iff_not, Bool.not_eq_true', Bool.not_eq_false', Bool.not_eq_eq_eq_not, Bool.not_true, Bool.not_false, beq_iff_eq, beq_true, beq_false, bne_iff_ne, ne_eq, Decidable.not_not, Bool.and_eq_true, Bool.or_eq_true, Bool.and_eq_false_iff, Bool.or_eq_false_iff] at hb) <;> repeat' (refine Or.elim hb (fun hb => ?_) (fun hb => ?_))) <;> simp -implicitDefEqProofs [c1, *]) | (refine gxd_split (fun hb => ?_) (fun hb => ?_) <;> ((try simp only [decide_eq_true_eq, decide_eq_false_iff_not, Bool.not_eq_true', Bool.not_eq_false', Bool.not_eq_eq_eq_not, Bool.not_true, Bool.not_false, beq_iff_eq, beq_true, beq_false, bne_iff_ne, ne_eq, Decidable.not_not, Bool.and_eq_true, Bool.or_eq_true, Bool.and_eq_false_iff, Bool.or_eq_false_iff] at hb) <;> repeat' (refine Or.elim hb (fun hb => ?_) (fun hb => ?_))) <;> simp -implicitDefEqProofs [c1, *]) | fail)
    all_goals (first | contradiction | ((refine aw_ret (fin_ret ?_); simp -implicitDefEqProofs [FinP, resV, resT, *] <;> try rfl); all_goals (intros; omega)))
end Go.Proofs.YtlkggpjdaaglmaaDoor.am
