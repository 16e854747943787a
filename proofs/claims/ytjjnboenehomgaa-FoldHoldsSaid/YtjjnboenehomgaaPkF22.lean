import Derived.Test.YtjjnboenehomgaaPkF21
import Derived.Test.YtjjnboenehomgaaPkF19
import Derived.IntWalk
import Derived.Test.YtjjnboenehomgaaPkF4
section
namespace Go.Proofs.Ytjjnboenehomgaa.am
open Go.ChangeShapes Go.WideShapes Go.ChangeAt Go.RowKit
open vt
set_option linter.unusedVariables false
set_option linter.unusedSimpArgs false
theorem td_value : td Try.prog 28 = some ⟨true, 2, 32, [.lit (.int .i64 0), .nilS], [(0, 1, false), (1, 1, false)], .struct⟩ := Eq.trans (by kernel_rfl) (Eq.refl _)
theorem td_values : td Try.prog 25 = some ⟨false, 1, 24, [.nilS], [], (.slice 28)⟩ := Eq.trans (by kernel_rfl) (Eq.refl _)
theorem td_state : td Try.prog 30 = some ⟨true, 10, 160, [.nilS, .nilS, .nilS, .lit (.int .i64 0), .nilS, .lit (.int .i64 0), .lit (.int .i64 0), .lit (.int .i64 0), .lit (.int .i64 0), .nilS], [(0, 1, false), (1, 1, false), (2, 1, false), (3, 1, false), (4, 1, false), (5, 1, false), (6, 1, false), (7, 1, false), (8, 2, true)], .struct⟩ := Eq.trans (by kernel_rfl) (Eq.refl _)
theorem td_i64s : td Try.prog 26 = some ⟨false, 1, 24, [.nilS], [], (.slice 2)⟩ := Eq.trans (by kernel_rfl) (Eq.refl _)
theorem td_rule : td Try.prog 32 = some ⟨true, 30, 408, [.lit (.int .i64 0), .lit (.int .i64 0), .lit (.string ⟨#[]⟩), .nilS, .lit (.int .i64 0), .lit (.int .i64 0), .nilS, .nilS, .nilS, .nilS, .lit (.int .i64 0), .nilS, .lit (.int .i64 0), .lit (.int .i64 0), .lit (.int .i64 0), .lit (.int .i64 0), .nilS, .lit (.int .i64 0), .lit (.int .i64 0), .lit (.int .i64 0), .lit (.string ⟨#[]⟩), .nilS, .lit (.int .i64 0), .lit (.int .i64 0), .lit (.int .i64 0), .lit (.int .i64 0), .lit (.string ⟨#[]⟩), .nilS, .lit (.int .i64 0), .lit (.int .i64 0)], [(0, 6, true), (6, 1, false), (7, 10, true), (17, 1, false), (18, 6, true), (24, 6, true)], .struct⟩ := Eq.trans (by kernel_rfl) (Eq.refl _)
attribute [simp] td_value td_values td_state td_i64s td_rule
set_option maxRecDepth 100000 in
set_option maxHeartbeats 4000000 in
theorem rcnt19_row (t : VV) : ∀ left lv : Int, 0 ≤ left → left ≤ 1000000 → lv ≤ 1000 → -1000000 ≤ lv → Row Try.prog 71 [vU t, vI left, vI lv] [] (vI (cntT (asT t) left lv)) [] := by
  induction t using Tr.ind with
  | h x l0 ih =>
  intro left lv h0 h1 h2 h3
  rw [asT_mk]
  obtain ⟨l, hl0⟩ : ∃ l, l0.map asT = l := ⟨_, rfl⟩
  have hll : l0.length = l.length := by rw [← hl0]; simp
  rw [hl0]
  rw [cnt_mk]
  refine row_of Try.func71 rfl rfl (Nat.le_of_ble_eq_true rfl) ?_
  by_cases hl : lv ≤ 0
  · rw [if_pos hl]
    repeat (first | refine aw_seq ?_ | refine aw_skip ?_ | refine aw_block ?_ | refine aw_exit ?_ | refine aw_cond rfl (fun _ => ?_) (fun hb => absurd hb (by decide)) | refine aw_cond rfl (fun hb => absurd hb (by decide)) (fun _ => ?_) | (refine aw_reg (fun K hK => ?_); simp -implicitDefEqProofs [hl]; refine hK _ ?_) | (refine aw_drw mixd (fun K hK => ?_); simp -implicitDefEqProofs [hl]; refine hK _ _ (by rfl) ?_) | fail)
    refine aw_ret (fin_ret ?_); simp -implicitDefEqProofs [FinP, resV, resT] <;> try rfl
  rw [if_neg hl]
  have w1 : IntKind.i64.wrap (left - 1) = left - 1 := i64i _ (by omega) (by omega)
  have w3 : IntKind.i64.wrap (lv - 1) = lv - 1 := i64i _ (by omega) (by omega)
  repeat (first | refine aw_seq ?_ | refine aw_skip ?_ | refine aw_block ?_ | refine aw_exit ?_ | refine aw_cond rfl (fun _ => ?_) (fun hb => absurd hb (by decide)) | refine aw_cond rfl (fun hb => absurd hb (by decide)) (fun _ => ?_) | (refine aw_reg (fun K hK => ?_); simp -implicitDefEqProofs [hl, w1]; refine hK _ ?_) | (refine aw_drw mixd (fun K hK => ?_); simp -implicitDefEqProofs [hl, w1]; refine hK _ _ (by rfl) ?_) | fail)
  refine aw_lp (ι := Nat) (fun k => mkSt [(1, vI (cntK l lv (left - 1) k)), (2, vI lv), (3, .v (.c (.ptr 0 0))), (7, vI (k : Nat))] [some (.box (ua (.mk x l0)))]) (fun k => k ≤ l.length ∧ -2 ≤ cntK l lv (left - 1) k ∧ cntK l lv (left - 1) k ≤ left) (fun k => l.length - k) 0 ⟨Nat.zero_le _, by rw [cntK_zero]; omega, by rw [cntK_zero]; omega⟩ (cov_intro [0] (by simp -implicitDefEqProofs [cntK_zero]) (by simp -implicitDefEqProofs [cntK_zero]) (by decide) rfl (by simp)) (fun Z hI k hkz => ?_)
  obtain ⟨hk, hc1, hc2⟩ := hkz
  by_cases hkl : k < l.length; rotate_left
  · have : k = l.length := by omega
    subst this
    repeat (first | refine aw_seq ?_ | refine aw_skip ?_ | refine aw_block ?_ | refine aw_exit ?_ | refine aw_cond rfl (fun _ => ?_) (fun hb => absurd hb (by decide)) | refine aw_cond rfl (fun hb => absurd hb (by decide)) (fun _ => ?_) | (refine aw_reg (fun K hK => ?_); simp -implicitDefEqProofs [hll]; refine hK _ ?_) | (refine aw_drw mixd (fun K hK => ?_); simp -implicitDefEqProofs [hll]; refine hK _ _ (by rfl) ?_) | fail)
    refine aw_ret (fin_ret ?_); simp -implicitDefEqProofs [FinP, resV, resT] <;> try rfl
  by_cases hc : 0 ≤ cntK l lv (left - 1) k; rotate_left
  · have := cntK_neg (l := l) (lv := lv) (n := left - 1) (k := k) (by omega) l.length hk (Nat.le_refl _)
    rw [this]
    repeat (first | refine aw_seq ?_ | refine aw_skip ?_ | refine aw_block ?_ | refine aw_exit ?_ | refine aw_cond rfl (fun _ => ?_) (fun hb => absurd hb (by decide)) | refine aw_cond rfl (fun hb => absurd hb (by decide)) (fun _ => ?_) | (refine aw_reg (fun K hK => ?_); simp -implicitDefEqProofs [hll, hkl, hc]; refine hK _ ?_) | (refine aw_drw mixd (fun K hK => ?_); simp -implicitDefEqProofs [hll, hkl, hc]; refine hK _ _ (by rfl) ?_) | fail)
    refine aw_ret (fin_ret ?_); simp -implicitDefEqProofs [FinP, resV, resT] <;> try rfl
  have hkl0 : k < l0.length := by omega
  obtain ⟨⟨ax, al⟩, ha⟩ : ∃ a, l0[k]? = some a := ⟨_, List.getElem?_eq_getElem hkl0⟩
  have ha' := (List.getElem?_eq_some_iff.1 ha).2
  have hcs := cntK_succ (l := l) (k := k) (lv := lv) (n := left - 1) (y := asT (.mk ax al)) (by rw [← hl0, List.getElem?_map, ha]; rfl)
  have hkn := (cntK_len (l := l) (lv := lv) (n := left - 1) k hk).2 hc
  have w2 : IntKind.i64.wrap ((k : Nat) + 1 : Int) = (k : Nat) + 1 := i64i _ (by omega) (by omega)
  rw [if_pos hc] at hcs
  have hle := cnt_le (asT (.mk ax al)) (cntK l lv (left - 1) k) (lv - 1) (by omega)
  have hcall := ih _ (List.mem_of_getElem? ha) (cntK l lv (left - 1) k) (lv - 1) (by omega) (by omega) (by omega) (by omega)
  have hnx : -2 ≤ cntK l lv (left - 1) (k + 1) ∧ cntK l lv (left - 1) (k + 1) ≤ left := by rw [hcs]; omega
  obtain ⟨z, hz⟩ : ∃ z, cntT (asT (.mk ax al)) (cntK l lv (left - 1) k) (lv - 1) = z := ⟨_, rfl⟩
  rw [hz] at hcs hcall
  clear ih hz hle
  repeat' (first | refine aw_seq ?_ | refine aw_skip ?_ | refine aw_block ?_ | refine aw_exit ?_ | refine aw_cond rfl (fun _ => ?_) (fun hb => absurd hb (by decide)) | refine aw_cond rfl (fun hb => absurd hb (by decide)) (fun _ => ?_) | (refine aw_reg (fun K hK => ?_); simp -implicitDefEqProofs [hll, hkl, hkl0, hc, ha, ha', w2, w3]) | (refine aw_drw mixd (fun K hK => ?_); simp -implicitDefEqProofs [hll, hkl, hkl0, hc, ha, ha', w2, w3]) | refine hK _ ?_ | refine hK _ _ (by rfl) ?_ | (refine ar_call (cp hcall ?_); simp -implicitDefEqProofs [hll, hkl, hkl0, hc, ha, ha', w2, w3]) | (refine ard_call (dp hcall ?_); simp -implicitDefEqProofs [hll, hkl, hkl0, hc, ha, ha', w2, w3]) | fail)
  refine ⟨k + 1, ⟨by omega, hnx.1, hnx.2⟩, (by dsimp only; omega), ?_⟩
  rw [hI]; exact cov_intro [0] (by simp -implicitDefEqProofs [hcs]) (by simp -implicitDefEqProofs [hcs]) (by decide) rfl (by simp)
noncomputable def lrgU (v : VV) : Bool := decide (cntT (asT v) 300 60 < 0)
set_option maxRecDepth 100000 in
set_option maxHeartbeats 4000000 in
theorem rlarge19_row (t : VV) : Row Try.prog 42 [vU t] [] (vB (lrgU t)) [] := by
  have hc := rcnt19_row t 300 60 (by omega) (by omega) (by omega) (by omega)
  unfold lrgU
  obtain ⟨z, hz⟩ : ∃ z, cntT (asT t) 300 60 = z := ⟨_, rfl⟩
  rw [hz] at hc ⊢
  clear hz
  obtain ⟨x, l⟩ := t
  refine row_of Try.func42 rfl rfl (Nat.le_of_ble_eq_true rfl) ?_
  repeat' (first | refine aw_seq ?_ | refine aw_skip ?_ | refine aw_block ?_ | refine aw_exit ?_ | refine aw_cond rfl (fun _ => ?_) (fun hb => absurd hb (by decide)) | refine aw_cond rfl (fun hb => absurd hb (by decide)) (fun _ => ?_) | (refine aw_reg (fun K hK => ?_); simp -implicitDefEqProofs) | (refine aw_drw mixd (fun K hK => ?_); simp -implicitDefEqProofs) | refine hK _ ?_ | refine hK _ _ (by rfl) ?_ | (refine ar_call (cp hc ?_); simp -implicitDefEqProofs) | (refine ard_call (dp hc ?_); simp -implicitDefEqProofs) | fail)
  refine aw_ret (fin_ret ?_); simp -implicitDefEqProofs [FinP, resV, resT] <;> try rfl
noncomputable def bulB (l : List VV) : Bool := (l.take 40).any lrgU || decide (40 < l.length)
theorem take_any {α : Type} {p : α → Bool} {l : List α} {k : Nat} {a : α} (ha : l[k]? = some a) (hk : k < 40) (hp : p a = true) : (l.take 40).any p = true := by
  rw [List.any_eq_true]
  refine ⟨a, List.mem_iff_getElem?.2 ⟨k, ?_⟩, hp⟩
  rw [List.getElem?_take_of_lt hk]; exact ha
theorem take_none {α : Type} {p : α → Bool} {l : List α} (h : ∀ (j : Nat) y, j < 40 → l[j]? = some y → p y = false) : (l.take 40).any p = false := by
  rw [List.any_eq_false]
  intro y hy
  obtain ⟨j, hj⟩ := List.mem_iff_getElem?.1 hy
  have hj40 : j < 40 := by
    have := (List.getElem?_eq_some_iff.1 hj).1
    rw [List.length_take] at this; omega
  rw [List.getElem?_take_of_lt hj40] at hj
  rw [h j y hj40 hj]; simp
set_option maxRecDepth 100000 in
set_option maxHeartbeats 4000000 in
theorem rbulky_row (l : List VV) : Row Try.prog 43 [vUs l] [] (vB (bulB l)) [] := by
  have hyes : ∀ (k : Nat) a, l[k]? = some a → k < 40 → lrgU a = true → bulB l = true := fun k a h1 h2 h3 => by unfold bulB; rw [take_any h1 h2 h3]; rfl
  have hno : (∀ (j : Nat) y, j < 40 → l[j]? = some y → lrgU y = false) → bulB l = decide (40 < l.length) := fun h => by unfold bulB; rw [take_none h]; rfl
  obtain ⟨R, hR⟩ : ∃ R, bulB l = R := ⟨_, rfl⟩
  rw [hR] at hno ⊢
  simp only [hR] at hyes
  clear hR
  refine row_of Try.func43 rfl rfl (Nat.le_of_ble_eq_true rfl) ?_
  repeat (first | refine aw_seq ?_ | refine aw_skip ?_ | refine aw_block ?_ | refine aw_exit ?_ | refine aw_cond rfl (fun _ => ?_) (fun hb => absurd hb (by decide)) | refine aw_cond rfl (fun hb => absurd hb (by decide)) (fun _ => ?_) | (refine aw_reg (fun K hK => ?_); simp -implicitDefEqProofs; refine hK _ ?_) | (refine aw_drw mixd (fun K hK => ?_); simp -implicitDefEqProofs; refine hK _ _ (by rfl) ?_) | fail)
  refine aw_lp (ι := Nat) (fun k => mkSt [(0, vUs l), (3, vI (k : Nat))] []) (fun k => k ≤ l.length ∧ k ≤ 40 ∧ ∀ (j : Nat) y, j < k → l[j]? = some y → lrgU y = false) (fun k => l.length - k) 0 ⟨Nat.zero_le _, by omega, fun j y h => by omega⟩ (cov_intro [] (by simp -implicitDefEqProofs) (by simp -implicitDefEqProofs) (by decide) rfl (by simp)) (fun Z hI k hk => ?_)
  obtain ⟨hk, hk4, hz⟩ := hk
  by_cases hkl : k < l.length; rotate_left
  · have : k = l.length := by omega
    subst this
    have hR := hno (fun j y h1 h2 => hz j y (List.getElem?_eq_some_iff.1 h2).1 h2)
    have h40 : ¬ (40 : Int) < l.length := by omega
    rw [decide_eq_false (by omega)] at hR
    subst hR
    clear hno hyes
    repeat (first | refine aw_seq ?_ | refine aw_skip ?_ | refine aw_block ?_ | refine aw_exit ?_ | refine aw_cond rfl (fun _ => ?_) (fun hb => absurd hb (by decide)) | refine aw_cond rfl (fun hb => absurd hb (by decide)) (fun _ => ?_) | (refine aw_reg (fun K hK => ?_); simp -implicitDefEqProofs [h40]; refine hK _ ?_) | (refine aw_drw mixd (fun K hK => ?_); simp -implicitDefEqProofs [h40]; refine hK _ _ (by rfl) ?_) | fail)
    refine aw_ret (fin_ret ?_); simp -implicitDefEqProofs [FinP, resV, resT] <;> try rfl
  by_cases hk40 : k < 40; rotate_left
  · have hR := hno (fun j y h1 h2 => hz j y (by omega) h2)
    have h40 : (40 : Int) < l.length ∨ l.length = 40 := by omega
    have hk40' : ¬ ((k : Nat) : Int) < 40 := by omega
    have hd : decide ((40 : Int) < l.length) = decide (40 < l.length) := by
      by_cases h : 40 < l.length
      · rw [decide_eq_true h, decide_eq_true (by omega)]
      · rw [decide_eq_false h, decide_eq_false (by omega)]
    subst hR
    clear hno hyes
    repeat (first | refine aw_seq ?_ | refine aw_skip ?_ | refine aw_block ?_ | refine aw_exit ?_ | refine aw_cond rfl (fun _ => ?_) (fun hb => absurd hb (by decide)) | refine aw_cond rfl (fun hb => absurd hb (by decide)) (fun _ => ?_) | (refine aw_reg (fun K hK => ?_); simp -implicitDefEqProofs [hkl, hk40, hk40']; refine hK _ ?_) | (refine aw_drw mixd (fun K hK => ?_); simp -implicitDefEqProofs [hkl, hk40, hk40']; refine hK _ _ (by rfl) ?_) | fail)
    refine aw_ret (fin_ret ?_); simp -implicitDefEqProofs [FinP, resV, resT] <;> try rfl
    omega
  have hk40' : ((k : Nat) : Int) < 40 := by omega
  obtain ⟨⟨ax, al⟩, ha⟩ : ∃ a, l[k]? = some a := ⟨_, List.getElem?_eq_getElem hkl⟩
  have ha' := (List.getElem?_eq_some_iff.1 ha).2
  have w2 : IntKind.i64.wrap ((k : Nat) + 1 : Int) = (k : Nat) + 1 := i64i _ (by omega) (by omega)
  have hc := rlarge19_row (.mk ax al)
  obtain ⟨q, hq⟩ : ∃ q, lrgU (.mk ax al) = q := ⟨_, rfl⟩
  rw [hq] at hc
  cases q with
  | true =>
    have hR := hyes k _ ha hk40 hq
    subst hR
    clear hno hyes
    repeat' (first | refine aw_seq ?_ | refine aw_skip ?_ | refine aw_block ?_ | refine aw_exit ?_ | refine aw_cond rfl (fun _ => ?_) (fun hb => absurd hb (by decide)) | refine aw_cond rfl (fun hb => absurd hb (by decide)) (fun _ => ?_) | (refine aw_reg (fun K hK => ?_); simp -implicitDefEqProofs [hkl, hk40, hk40', ha, ha']) | (refine aw_drw mixd (fun K hK => ?_); simp -implicitDefEqProofs [hkl, hk40, hk40', ha, ha']) | refine hK _ ?_ | refine hK _ _ (by rfl) ?_ | (refine ar_call (cp hc ?_); simp -implicitDefEqProofs [hkl, hk40, hk40', ha, ha']) | (refine ard_call (dp hc ?_); simp -implicitDefEqProofs [hkl, hk40, hk40', ha, ha']) | fail)
    refine aw_ret (fin_ret ?_); simp -implicitDefEqProofs [FinP, resV, resT] <;> try rfl
  | false =>
    clear hno hyes
    repeat' (first | refine aw_seq ?_ | refine aw_skip ?_ | refine aw_block ?_ | refine aw_exit ?_ | refine aw_cond rfl (fun _ => ?_) (fun hb => absurd hb (by decide)) | refine aw_cond rfl (fun hb => absurd hb (by decide)) (fun _ => ?_) | (refine aw_reg (fun K hK => ?_); simp -implicitDefEqProofs [hkl, hk40, hk40', ha, ha', w2]) | (refine aw_drw mixd (fun K hK => ?_); simp -implicitDefEqProofs [hkl, hk40, hk40', ha, ha', w2]) | refine hK _ ?_ | refine hK _ _ (by rfl) ?_ | (refine ar_call (cp hc ?_); simp -implicitDefEqProofs [hkl, hk40, hk40', ha, ha', w2]) | (refine ard_call (dp hc ?_); simp -implicitDefEqProofs [hkl, hk40, hk40', ha, ha', w2]) | fail)
    refine ⟨k + 1, ⟨by omega, by omega, fun j y h1 h2 => ?_⟩, (by dsimp only; omega), ?_⟩
    · by_cases hj : j = k
      · subst hj; rw [ha] at h2; cases h2; exact hq
      · exact hz j y (by omega) h2
    · rw [hI]; exact cov_intro [] (by simp -implicitDefEqProofs) (by simp -implicitDefEqProofs) (by decide) rfl (by simp)
noncomputable def lrgS (s : StV) : Bool := decide (40 < s.gl.length) || decide (40 < s.lo.length) || decide (100 < s.inp.length) || decide (200 < s.tr.length) || decide (3000 < s.fuel) || lrgU s.ret || bulB s.gl || bulB s.lo
set_option maxRecDepth 100000 in
set_option maxHeartbeats 4000000 in
theorem rlarge21_row (s : StV) : Row Try.prog 22 [vSt s] [] (vB (lrgS s)) [] := by
  obtain ⟨gl, lo, inp, pos, tr, fuel, kind, n, ⟨rn, rl⟩⟩ := s
  have h1 := rlarge19_row (.mk rn rl)
  have h2 := rbulky_row gl
  have h3 := rbulky_row lo
  unfold vSt sa lrgS
  dsimp only
  rw [ua_mk]
  simp only [List.cons_append, List.nil_append]
  obtain ⟨q1, e1⟩ : ∃ q, lrgU (.mk rn rl) = q := ⟨_, rfl⟩
  obtain ⟨q2, e2⟩ : ∃ q, bulB gl = q := ⟨_, rfl⟩
  obtain ⟨q3, e3⟩ : ∃ q, bulB lo = q := ⟨_, rfl⟩
  rw [e1] at h1 ⊢
  rw [e2] at h2 ⊢
  rw [e3] at h3 ⊢
  clear e1 e2 e3
  by_cases g1 : 40 < gl.length
  · have g1' : (40 : Int) < gl.length := by omega
    refine row_of Try.func22 rfl rfl (Nat.le_of_ble_eq_true rfl) ?_
    repeat' (first | refine aw_seq ?_ | refine aw_skip ?_ | refine aw_block ?_ | refine aw_exit ?_ | refine aw_cond rfl (fun _ => ?_) (fun hb => absurd hb (by decide)) | refine aw_cond rfl (fun hb => absurd hb (by decide)) (fun _ => ?_) | (refine aw_reg (fun K hK => ?_); simp -implicitDefEqProofs [g1, g1']) | (refine aw_drw mixd (fun K hK => ?_); simp -implicitDefEqProofs [g1, g1']) | refine hK _ ?_ | refine hK _ _ (by rfl) ?_ | fail)
    refine aw_ret (fin_ret ?_); simp -implicitDefEqProofs [FinP, resV, resT, g1] <;> try rfl
  have g1' : ¬ (40 : Int) < gl.length := by omega
  by_cases g2 : 40 < lo.length
  · have g2' : (40 : Int) < lo.length := by omega
    refine row_of Try.func22 rfl rfl (Nat.le_of_ble_eq_true rfl) ?_
    repeat' (first | refine aw_seq ?_ | refine aw_skip ?_ | refine aw_block ?_ | refine aw_exit ?_ | refine aw_cond rfl (fun _ => ?_) (fun hb => absurd hb (by decide)) | refine aw_cond rfl (fun hb => absurd hb (by decide)) (fun _ => ?_) | (refine aw_reg (fun K hK => ?_); simp -implicitDefEqProofs [g1, g1', g2, g2']) | (refine aw_drw mixd (fun K hK => ?_); simp -implicitDefEqProofs [g1, g1', g2, g2']) | refine hK _ ?_ | refine hK _ _ (by rfl) ?_ | fail)
    refine aw_ret (fin_ret ?_); simp -implicitDefEqProofs [FinP, resV, resT, g2] <;> try rfl
  have g2' : ¬ (40 : Int) < lo.length := by omega
  by_cases g3 : 100 < inp.length
  · have g3' : (100 : Int) < inp.length := by omega
    refine row_of Try.func22 rfl rfl (Nat.le_of_ble_eq_true rfl) ?_
    repeat' (first | refine aw_seq ?_ | refine aw_skip ?_ | refine aw_block ?_ | refine aw_exit ?_ | refine aw_cond rfl (fun _ => ?_) (fun hb => absurd hb (by decide)) | refine aw_cond rfl (fun hb => absurd hb (by decide)) (fun _ => ?_) | (refine aw_reg (fun K hK => ?_); simp -implicitDefEqProofs [g1, g1', g2, g2', g3, g3']) | (refine aw_drw mixd (fun K hK => ?_); simp -implicitDefEqProofs [g1, g1', g2, g2', g3, g3']) | refine hK _ ?_ | refine hK _ _ (by rfl) ?_ | fail)
    refine aw_ret (fin_ret ?_); simp -implicitDefEqProofs [FinP, resV, resT, g3] <;> try rfl
  have g3' : ¬ (100 : Int) < inp.length := by omega
  by_cases g4 : 200 < tr.length
  · have g4' : (200 : Int) < tr.length := by omega
    refine row_of Try.func22 rfl rfl (Nat.le_of_ble_eq_true rfl) ?_
    repeat' (first | refine aw_seq ?_ | refine aw_skip ?_ | refine aw_block ?_ | refine aw_exit ?_ | refine aw_cond rfl (fun _ => ?_) (fun hb => absurd hb (by decide)) | refine aw_cond rfl (fun hb => absurd hb (by decide)) (fun _ => ?_) | (refine aw_reg (fun K hK => ?_); simp -implicitDefEqProofs [g1, g1', g2, g2', g3, g3', g4, g4']) | (refine aw_drw mixd (fun K hK => ?_); simp -implicitDefEqProofs [g1, g1', g2, g2', g3, g3', g4, g4']) | refine hK _ ?_ | refine hK _ _ (by rfl) ?_ | fail)
    refine aw_ret (fin_ret ?_); simp -implicitDefEqProofs [FinP, resV, resT, g4] <;> try rfl
  have g4' : ¬ (200 : Int) < tr.length := by omega
  by_cases g5 : 3000 < fuel
  · refine row_of Try.func22 rfl rfl (Nat.le_of_ble_eq_true rfl) ?_
    repeat' (first | refine aw_seq ?_ | refine aw_skip ?_ | refine aw_block ?_ | refine aw_exit ?_ | refine aw_cond rfl (fun _ => ?_) (fun hb => absurd hb (by decide)) | refine aw_cond rfl (fun hb => absurd hb (by decide)) (fun _ => ?_) | (refine aw_reg (fun K hK => ?_); simp -implicitDefEqProofs [g1, g1', g2, g2', g3, g3', g4, g4', g5]) | (refine aw_drw mixd (fun K hK => ?_); simp -implicitDefEqProofs [g1, g1', g2, g2', g3, g3', g4, g4', g5]) | refine hK _ ?_ | refine hK _ _ (by rfl) ?_ | fail)
    refine aw_ret (fin_ret ?_); simp -implicitDefEqProofs [FinP, resV, resT, g5] <;> try rfl
  cases q1 with
  | true =>
    refine row_of Try.func22 rfl rfl (Nat.le_of_ble_eq_true rfl) ?_
    repeat' (first | refine aw_seq ?_ | refine aw_skip ?_ | refine aw_block ?_ | refine aw_exit ?_ | refine aw_cond rfl (fun _ => ?_) (fun hb => absurd hb (by decide)) | refine aw_cond rfl (fun hb => absurd hb (by decide)) (fun _ => ?_) | (refine aw_reg (fun K hK => ?_); simp -implicitDefEqProofs [g1, g1', g2, g2', g3, g3', g4, g4', g5]) | (refine aw_drw mixd (fun K hK => ?_); simp -implicitDefEqProofs [g1, g1', g2, g2', g3, g3', g4, g4', g5]) | refine hK _ ?_ | refine hK _ _ (by rfl) ?_ | (refine ar_call (cp h1 ?_); simp -implicitDefEqProofs [g1, g1', g2, g2', g3, g3', g4, g4', g5]) | (refine ard_call (dp h1 ?_); simp -implicitDefEqProofs [g1, g1', g2, g2', g3, g3', g4, g4', g5]) | fail)
    refine aw_ret (fin_ret ?_); simp -implicitDefEqProofs [FinP, resV, resT] <;> try rfl
  | false =>
    cases q2 with
    | true =>
      refine row_of Try.func22 rfl rfl (Nat.le_of_ble_eq_true rfl) ?_
      repeat' (first | refine aw_seq ?_ | refine aw_skip ?_ | refine aw_block ?_ | refine aw_exit ?_ | refine aw_cond rfl (fun _ => ?_) (fun hb => absurd hb (by decide)) | refine aw_cond rfl (fun hb => absurd hb (by decide)) (fun _ => ?_) | (refine aw_reg (fun K hK => ?_); simp -implicitDefEqProofs [g1, g1', g2, g2', g3, g3', g4, g4', g5]) | (refine aw_drw mixd (fun K hK => ?_); simp -implicitDefEqProofs [g1, g1', g2, g2', g3, g3', g4, g4', g5]) | refine hK _ ?_ | refine hK _ _ (by rfl) ?_ | (refine ar_call (cp h1 ?_); simp -implicitDefEqProofs [g1, g1', g2, g2', g3, g3', g4, g4', g5]) | (refine ard_call (dp h1 ?_); simp -implicitDefEqProofs [g1, g1', g2, g2', g3, g3', g4, g4', g5]) | (refine ar_call (cp h2 ?_); simp -implicitDefEqProofs [g1, g1', g2, g2', g3, g3', g4, g4', g5]) | (refine ard_call (dp h2 ?_); simp -implicitDefEqProofs [g1, g1', g2, g2', g3, g3', g4, g4', g5]) | fail)
      refine aw_ret (fin_ret ?_); simp -implicitDefEqProofs [FinP, resV, resT] <;> try rfl
    | false =>
      refine row_of Try.func22 rfl rfl (Nat.le_of_ble_eq_true rfl) ?_
      repeat' (first | refine aw_seq ?_ | refine aw_skip ?_ | refine aw_block ?_ | refine aw_exit ?_ | refine aw_cond rfl (fun _ => ?_) (fun hb => absurd hb (by decide)) | refine aw_cond rfl (fun hb => absurd hb (by decide)) (fun _ => ?_) | (refine aw_reg (fun K hK => ?_); simp -implicitDefEqProofs [g1, g1', g2, g2', g3, g3', g4, g4', g5]) | (refine aw_drw mixd (fun K hK => ?_); simp -implicitDefEqProofs [g1, g1', g2, g2', g3, g3', g4, g4', g5]) | refine hK _ ?_ | refine hK _ _ (by rfl) ?_ | (refine ar_call (cp h1 ?_); simp -implicitDefEqProofs [g1, g1', g2, g2', g3, g3', g4, g4', g5]) | (refine ard_call (dp h1 ?_); simp -implicitDefEqProofs [g1, g1', g2, g2', g3, g3', g4, g4', g5]) | (refine ar_call (cp h2 ?_); simp -implicitDefEqProofs [g1, g1', g2, g2', g3, g3', g4, g4', g5]) | (refine ard_call (dp h2 ?_); simp -implicitDefEqProofs [g1, g1', g2, g2', g3, g3', g4, g4', g5]) | (refine ar_call (cp h3 ?_); simp -implicitDefEqProofs [g1, g1', g2, g2', g3, g3', g4, g4', g5]) | (refine ard_call (dp h3 ?_); simp -implicitDefEqProofs [g1, g1', g2, g2', g3, g3', g4, g4', g5]) | fail)
      refine aw_ret (fin_ret ?_); simp -implicitDefEqProofs [FinP, resV, resT, g1, g2, g3, g4, g5] <;> try rfl
noncomputable def lrgR (u : RuV) : Bool := (u.ty.take 40).any large || decide (40 < u.ty.length) || large u.m || large u.l || large u.r || lrgS u.s
set_option maxRecDepth 100000 in
set_option maxHeartbeats 4000000 in
theorem rlarge25_row (u : RuV) : Row Try.prog 7 [vRule u] [] (vB (lrgR u)) [] := by
  obtain ⟨⟨mx, ml⟩, ty, ⟨gl, lo, inp, pos, tr, fuel, kind, n, ⟨rn, rl⟩⟩, rule, ⟨lx, ll⟩, ⟨rx, rl2⟩⟩ := u
  have h1 := rlarge_row (.mk mx ml)
  have h2 := rlarge_row (.mk lx ll)
  have h3 := rlarge_row (.mk rx rl2)
  have h4 := rlarge21_row ⟨gl, lo, inp, pos, tr, fuel, kind, n, ⟨rn, rl⟩⟩
  unfold vSt sa at h4
  rw [ua_mk] at h4
  simp only [List.cons_append, List.nil_append] at h4
  have hR0 : lrgR ⟨.mk mx ml, ty, ⟨gl, lo, inp, pos, tr, fuel, kind, n, ⟨rn, rl⟩⟩, rule, .mk lx ll, .mk rx rl2⟩ = ((ty.take 40).any large || decide (40 < ty.length) || large (.mk mx ml) || large (.mk lx ll) || large (.mk rx rl2) || lrgS ⟨gl, lo, inp, pos, tr, fuel, kind, n, ⟨rn, rl⟩⟩) := rfl
  obtain ⟨q1, e1⟩ : ∃ q, large (.mk mx ml) = q := ⟨_, rfl⟩
  obtain ⟨q2, e2⟩ : ∃ q, large (.mk lx ll) = q := ⟨_, rfl⟩
  obtain ⟨q3, e3⟩ : ∃ q, large (.mk rx rl2) = q := ⟨_, rfl⟩
  obtain ⟨q4, e4⟩ : ∃ q, lrgS ⟨gl, lo, inp, pos, tr, fuel, kind, n, ⟨rn, rl⟩⟩ = q := ⟨_, rfl⟩
  rw [e1] at h1 hR0
  rw [e2] at h2 hR0
  rw [e3] at h3 hR0
  rw [e4] at h4 hR0
  clear e1 e2 e3 e4
  have hyes : ∀ (k : Nat) a, ty[k]? = some a → k < 40 → large a = true → ((ty.take 40).any large || decide (40 < ty.length) || q1 || q2 || q3 || q4) = true := fun k a g1 g2 g3 => by rw [take_any g1 g2 g3]; simp
  have hno : (∀ (j : Nat) y, j < 40 → ty[j]? = some y → large y = false) → ((ty.take 40).any large || decide (40 < ty.length) || q1 || q2 || q3 || q4) = (decide (40 < ty.length) || q1 || q2 || q3 || q4) := fun h => by rw [take_none h]; simp
  rw [hR0]
  obtain ⟨R, hR⟩ : ∃ R, ((ty.take 40).any large || decide (40 < ty.length) || q1 || q2 || q3 || q4) = R := ⟨_, rfl⟩
  rw [hR] at hno ⊢
  simp only [hR] at hyes
  clear hR hR0
  unfold vRule ra sa
  dsimp only
  simp only [ua_mk, ta_mk, List.cons_append, List.nil_append]
  refine row_of Try.func7 rfl rfl (Nat.le_of_ble_eq_true rfl) ?_
  repeat (first | refine aw_seq ?_ | refine aw_skip ?_ | refine aw_block ?_ | refine aw_exit ?_ | refine aw_cond rfl (fun _ => ?_) (fun hb => absurd hb (by decide)) | refine aw_cond rfl (fun hb => absurd hb (by decide)) (fun _ => ?_) | (refine aw_reg (fun K hK => ?_); simp -implicitDefEqProofs; refine hK _ ?_) | (refine aw_drw mixd (fun K hK => ?_); simp -implicitDefEqProofs; refine hK _ _ (by rfl) ?_) | fail)
  refine aw_lp (ι := Nat) (fun k => mkSt [(1, .v (.c (.ptr 0 0))), (3, vI (k : Nat))] [some (.box (ta (.mk mx ml) ++ (.pv (.sl 6 (ty.map tc)) :: ([.pv (.sl 2 (gl.map uc)), .pv (.sl 2 (lo.map uc)), .pv (Iz inp), .pv (I pos), .pv (Iz tr), .pv (I fuel), .pv (I kind), .pv (I n)] ++ ua (.mk rn rl) ++ (.pv (I rule) :: (ta (.mk lx ll) ++ ta (.mk rx rl2)))))))]) (fun k => k ≤ ty.length ∧ k ≤ 40 ∧ ∀ (j : Nat) y, j < k → ty[j]? = some y → large y = false) (fun k => ty.length - k) 0 ⟨Nat.zero_le _, by omega, fun j y h => by omega⟩ (cov_intro [0] (by simp -implicitDefEqProofs) (by simp -implicitDefEqProofs) (by decide) rfl (by simp)) (fun Z hI k hk => ?_)
  obtain ⟨hk, hk4, hz⟩ := hk
  by_cases hgo : k < ty.length ∧ k < 40; rotate_left
  · have hR := hno (fun j y h1 h2 => hz j y (by have := (List.getElem?_eq_some_iff.1 h2).1; omega) h2)
    subst hR
    clear hno hyes
    have hst : ¬ k < ty.length ∨ (k < ty.length ∧ ¬ (k : Int) < 40 ∧ ¬ k < 40) := by omega
    by_cases g40 : 40 < ty.length
    · have g40' : (40 : Int) < ty.length := by omega
      rcases hst with hs | ⟨hs, hs2, hs3⟩
      · repeat' (first | refine aw_seq ?_ | refine aw_skip ?_ | refine aw_block ?_ | refine aw_exit ?_ | refine aw_cond rfl (fun _ => ?_) (fun hb => absurd hb (by decide)) | refine aw_cond rfl (fun hb => absurd hb (by decide)) (fun _ => ?_) | (refine aw_reg (fun K hK => ?_); simp -implicitDefEqProofs [hs, g40, g40']) | (refine aw_drw mixd (fun K hK => ?_); simp -implicitDefEqProofs [hs, g40, g40']) | refine hK _ ?_ | refine hK _ _ (by rfl) ?_ | fail)
        refine aw_ret (fin_ret ?_); simp -implicitDefEqProofs [FinP, resV, resT, g40] <;> try rfl
      · repeat' (first | refine aw_seq ?_ | refine aw_skip ?_ | refine aw_block ?_ | refine aw_exit ?_ | refine aw_cond rfl (fun _ => ?_) (fun hb => absurd hb (by decide)) | refine aw_cond rfl (fun hb => absurd hb (by decide)) (fun _ => ?_) | (refine aw_reg (fun K hK => ?_); simp -implicitDefEqProofs [hs, hs2, hs3, g40, g40']) | (refine aw_drw mixd (fun K hK => ?_); simp -implicitDefEqProofs [hs, hs2, hs3, g40, g40']) | refine hK _ ?_ | refine hK _ _ (by rfl) ?_ | fail)
        refine aw_ret (fin_ret ?_); simp -implicitDefEqProofs [FinP, resV, resT, g40] <;> try rfl
    have g40' : ¬ (40 : Int) < ty.length := by omega
    rcases hst with hs | ⟨hs, hs2, hs3⟩
    all_goals (
      cases q1 with
      | true =>
        first
          | (repeat' (first | refine aw_seq ?_ | refine aw_skip ?_ | refine aw_block ?_ | refine aw_exit ?_ | refine aw_cond rfl (fun _ => ?_) (fun hb => absurd hb (by decide)) | refine aw_cond rfl (fun hb => absurd hb (by decide)) (fun _ => ?_) | (refine aw_reg (fun K hK => ?_); simp -implicitDefEqProofs [hs, hs2, hs3, g40, g40']) | (refine aw_drw mixd (fun K hK => ?_); simp -implicitDefEqProofs [hs, hs2, hs3, g40, g40']) | refine hK _ ?_ | refine hK _ _ (by rfl) ?_ | (refine ar_call (cp h1 ?_); simp -implicitDefEqProofs [hs, hs2, hs3, g40, g40']) | (refine ard_call (dp h1 ?_); simp -implicitDefEqProofs [hs, hs2, hs3, g40, g40']) | fail)
             refine aw_ret (fin_ret ?_); simp -implicitDefEqProofs [FinP, resV, resT, g40] <;> try rfl)
          | (repeat' (first | refine aw_seq ?_ | refine aw_skip ?_ | refine aw_block ?_ | refine aw_exit ?_ | refine aw_cond rfl (fun _ => ?_) (fun hb => absurd hb (by decide)) | refine aw_cond rfl (fun hb => absurd hb (by decide)) (fun _ => ?_) | (refine aw_reg (fun K hK => ?_); simp -implicitDefEqProofs [hs, g40, g40']) | (refine aw_drw mixd (fun K hK => ?_); simp -implicitDefEqProofs [hs, g40, g40']) | refine hK _ ?_ | refine hK _ _ (by rfl) ?_ | (refine ar_call (cp h1 ?_); simp -implicitDefEqProofs [hs, g40, g40']) | (refine ard_call (dp h1 ?_); simp -implicitDefEqProofs [hs, g40, g40']) | fail)
             refine aw_ret (fin_ret ?_); simp -implicitDefEqProofs [FinP, resV, resT, g40] <;> try rfl)
      | false =>
        cases q2 with
        | true =>
          first
            | (repeat' (first | refine aw_seq ?_ | refine aw_skip ?_ | refine aw_block ?_ | refine aw_exit ?_ | refine aw_cond rfl (fun _ => ?_) (fun hb => absurd hb (by decide)) | refine aw_cond rfl (fun hb => absurd hb (by decide)) (fun _ => ?_) | (refine aw_reg (fun K hK => ?_); simp -implicitDefEqProofs [hs, hs2, hs3, g40, g40']) | (refine aw_drw mixd (fun K hK => ?_); simp -implicitDefEqProofs [hs, hs2, hs3, g40, g40']) | refine hK _ ?_ | refine hK _ _ (by rfl) ?_ | (refine ar_call (cp h1 ?_); simp -implicitDefEqProofs [hs, hs2, hs3, g40, g40']) | (refine ard_call (dp h1 ?_); simp -implicitDefEqProofs [hs, hs2, hs3, g40, g40']) | (refine ar_call (cp h2 ?_); simp -implicitDefEqProofs [hs, hs2, hs3, g40, g40']) | (refine ard_call (dp h2 ?_); simp -implicitDefEqProofs [hs, hs2, hs3, g40, g40']) | fail)
               refine aw_ret (fin_ret ?_); simp -implicitDefEqProofs [FinP, resV, resT, g40] <;> try rfl)
            | (repeat' (first | refine aw_seq ?_ | refine aw_skip ?_ | refine aw_block ?_ | refine aw_exit ?_ | refine aw_cond rfl (fun _ => ?_) (fun hb => absurd hb (by decide)) | refine aw_cond rfl (fun hb => absurd hb (by decide)) (fun _ => ?_) | (refine aw_reg (fun K hK => ?_); simp -implicitDefEqProofs [hs, g40, g40']) | (refine aw_drw mixd (fun K hK => ?_); simp -implicitDefEqProofs [hs, g40, g40']) | refine hK _ ?_ | refine hK _ _ (by rfl) ?_ | (refine ar_call (cp h1 ?_); simp -implicitDefEqProofs [hs, g40, g40']) | (refine ard_call (dp h1 ?_); simp -implicitDefEqProofs [hs, g40, g40']) | (refine ar_call (cp h2 ?_); simp -implicitDefEqProofs [hs, g40, g40']) | (refine ard_call (dp h2 ?_); simp -implicitDefEqProofs [hs, g40, g40']) | fail)
               refine aw_ret (fin_ret ?_); simp -implicitDefEqProofs [FinP, resV, resT, g40] <;> try rfl)
        | false =>
          cases q3 with
          | true =>
            first
              | (repeat' (first | refine aw_seq ?_ | refine aw_skip ?_ | refine aw_block ?_ | refine aw_exit ?_ | refine aw_cond rfl (fun _ => ?_) (fun hb => absurd hb (by decide)) | refine aw_cond rfl (fun hb => absurd hb (by decide)) (fun _ => ?_) | (refine aw_reg (fun K hK => ?_); simp -implicitDefEqProofs [hs, hs2, hs3, g40, g40']) | (refine aw_drw mixd (fun K hK => ?_); simp -implicitDefEqProofs [hs, hs2, hs3, g40, g40']) | refine hK _ ?_ | refine hK _ _ (by rfl) ?_ | (refine ar_call (cp h1 ?_); simp -implicitDefEqProofs [hs, hs2, hs3, g40, g40']) | (refine ard_call (dp h1 ?_); simp -implicitDefEqProofs [hs, hs2, hs3, g40, g40']) | (refine ar_call (cp h2 ?_); simp -implicitDefEqProofs [hs, hs2, hs3, g40, g40']) | (refine ard_call (dp h2 ?_); simp -implicitDefEqProofs [hs, hs2, hs3, g40, g40']) | (refine ar_call (cp h3 ?_); simp -implicitDefEqProofs [hs, hs2, hs3, g40, g40']) | (refine ard_call (dp h3 ?_); simp -implicitDefEqProofs [hs, hs2, hs3, g40, g40']) | fail)
                 refine aw_ret (fin_ret ?_); simp -implicitDefEqProofs [FinP, resV, resT, g40] <;> try rfl)
              | (repeat' (first | refine aw_seq ?_ | refine aw_skip ?_ | refine aw_block ?_ | refine aw_exit ?_ | refine aw_cond rfl (fun _ => ?_) (fun hb => absurd hb (by decide)) | refine aw_cond rfl (fun hb => absurd hb (by decide)) (fun _ => ?_) | (refine aw_reg (fun K hK => ?_); simp -implicitDefEqProofs [hs, g40, g40']) | (refine aw_drw mixd (fun K hK => ?_); simp -implicitDefEqProofs [hs, g40, g40']) | refine hK _ ?_ | refine hK _ _ (by rfl) ?_ | (refine ar_call (cp h1 ?_); simp -implicitDefEqProofs [hs, g40, g40']) | (refine ard_call (dp h1 ?_); simp -implicitDefEqProofs [hs, g40, g40']) | (refine ar_call (cp h2 ?_); simp -implicitDefEqProofs [hs, g40, g40']) | (refine ard_call (dp h2 ?_); simp -implicitDefEqProofs [hs, g40, g40']) | (refine ar_call (cp h3 ?_); simp -implicitDefEqProofs [hs, g40, g40']) | (refine ard_call (dp h3 ?_); simp -implicitDefEqProofs [hs, g40, g40']) | fail)
                 refine aw_ret (fin_ret ?_); simp -implicitDefEqProofs [FinP, resV, resT, g40] <;> try rfl)
          | false =>
            first
              | (repeat' (first | refine aw_seq ?_ | refine aw_skip ?_ | refine aw_block ?_ | refine aw_exit ?_ | refine aw_cond rfl (fun _ => ?_) (fun hb => absurd hb (by decide)) | refine aw_cond rfl (fun hb => absurd hb (by decide)) (fun _ => ?_) | (refine aw_reg (fun K hK => ?_); simp -implicitDefEqProofs [hs, hs2, hs3, g40, g40']) | (refine aw_drw mixd (fun K hK => ?_); simp -implicitDefEqProofs [hs, hs2, hs3, g40, g40']) | refine hK _ ?_ | refine hK _ _ (by rfl) ?_ | (refine ar_call (cp h1 ?_); simp -implicitDefEqProofs [hs, hs2, hs3, g40, g40']) | (refine ard_call (dp h1 ?_); simp -implicitDefEqProofs [hs, hs2, hs3, g40, g40']) | (refine ar_call (cp h2 ?_); simp -implicitDefEqProofs [hs, hs2, hs3, g40, g40']) | (refine ard_call (dp h2 ?_); simp -implicitDefEqProofs [hs, hs2, hs3, g40, g40']) | (refine ar_call (cp h3 ?_); simp -implicitDefEqProofs [hs, hs2, hs3, g40, g40']) | (refine ard_call (dp h3 ?_); simp -implicitDefEqProofs [hs, hs2, hs3, g40, g40']) | (refine ar_call (cp h4 ?_); simp -implicitDefEqProofs [hs, hs2, hs3, g40, g40']) | (refine ard_call (dp h4 ?_); simp -implicitDefEqProofs [hs, hs2, hs3, g40, g40']) | fail)
                 refine aw_ret (fin_ret ?_); simp -implicitDefEqProofs [FinP, resV, resT, g40] <;> try rfl)
              | (repeat' (first | refine aw_seq ?_ | refine aw_skip ?_ | refine aw_block ?_ | refine aw_exit ?_ | refine aw_cond rfl (fun _ => ?_) (fun hb => absurd hb (by decide)) | refine aw_cond rfl (fun hb => absurd hb (by decide)) (fun _ => ?_) | (refine aw_reg (fun K hK => ?_); simp -implicitDefEqProofs [hs, g40, g40']) | (refine aw_drw mixd (fun K hK => ?_); simp -implicitDefEqProofs [hs, g40, g40']) | refine hK _ ?_ | refine hK _ _ (by rfl) ?_ | (refine ar_call (cp h1 ?_); simp -implicitDefEqProofs [hs, g40, g40']) | (refine ard_call (dp h1 ?_); simp -implicitDefEqProofs [hs, g40, g40']) | (refine ar_call (cp h2 ?_); simp -implicitDefEqProofs [hs, g40, g40']) | (refine ard_call (dp h2 ?_); simp -implicitDefEqProofs [hs, g40, g40']) | (refine ar_call (cp h3 ?_); simp -implicitDefEqProofs [hs, g40, g40']) | (refine ard_call (dp h3 ?_); simp -implicitDefEqProofs [hs, g40, g40']) | (refine ar_call (cp h4 ?_); simp -implicitDefEqProofs [hs, g40, g40']) | (refine ard_call (dp h4 ?_); simp -implicitDefEqProofs [hs, g40, g40']) | fail)
                 refine aw_ret (fin_ret ?_); simp -implicitDefEqProofs [FinP, resV, resT, g40] <;> try rfl))
  obtain ⟨hkl, hk40⟩ := hgo
  have hk40' : ((k : Nat) : Int) < 40 := by omega
  obtain ⟨⟨ax, al⟩, ha⟩ : ∃ a, ty[k]? = some a := ⟨_, List.getElem?_eq_getElem hkl⟩
  have ha' := (List.getElem?_eq_some_iff.1 ha).2
  have w2 : IntKind.i64.wrap ((k : Nat) + 1 : Int) = (k : Nat) + 1 := i64i _ (by omega) (by omega)
  have hc := rlarge_row (.mk ax al)
  obtain ⟨q, hq⟩ : ∃ q, large (.mk ax al) = q := ⟨_, rfl⟩
  rw [hq] at hc
  cases q with
  | true =>
    have hR := hyes k _ ha hk40 hq
    subst hR
    clear hno hyes
    repeat' (first | refine aw_seq ?_ | refine aw_skip ?_ | refine aw_block ?_ | refine aw_exit ?_ | refine aw_cond rfl (fun _ => ?_) (fun hb => absurd hb (by decide)) | refine aw_cond rfl (fun hb => absurd hb (by decide)) (fun _ => ?_) | (refine aw_reg (fun K hK => ?_); simp -implicitDefEqProofs [hkl, hk40, hk40', ha, ha']) | (refine aw_drw mixd (fun K hK => ?_); simp -implicitDefEqProofs [hkl, hk40, hk40', ha, ha']) | refine hK _ ?_ | refine hK _ _ (by rfl) ?_ | (refine ar_call (cp hc ?_); simp -implicitDefEqProofs [hkl, hk40, hk40', ha, ha']) | (refine ard_call (dp hc ?_); simp -implicitDefEqProofs [hkl, hk40, hk40', ha, ha']) | fail)
    refine aw_ret (fin_ret ?_); simp -implicitDefEqProofs [FinP, resV, resT] <;> try rfl
  | false =>
    clear hno hyes
    repeat' (first | refine aw_seq ?_ | refine aw_skip ?_ | refine aw_block ?_ | refine aw_exit ?_ | refine aw_cond rfl (fun _ => ?_) (fun hb => absurd hb (by decide)) | refine aw_cond rfl (fun hb => absurd hb (by decide)) (fun _ => ?_) | (refine aw_reg (fun K hK => ?_); simp -implicitDefEqProofs [hkl, hk40, hk40', ha, ha', w2]) | (refine aw_drw mixd (fun K hK => ?_); simp -implicitDefEqProofs [hkl, hk40, hk40', ha, ha', w2]) | refine hK _ ?_ | refine hK _ _ (by rfl) ?_ | (refine ar_call (cp hc ?_); simp -implicitDefEqProofs [hkl, hk40, hk40', ha, ha', w2]) | (refine ard_call (dp hc ?_); simp -implicitDefEqProofs [hkl, hk40, hk40', ha, ha', w2]) | fail)
    refine ⟨k + 1, ⟨by omega, by omega, fun j y h1 h2 => ?_⟩, (by dsimp only; omega), ?_⟩
    · by_cases hj : j = k
      · subst hj; rw [ha] at h2; cases h2; exact hq
      · exact hz j y (by omega) h2
    · rw [hI]; exact cov_intro [0] (by simp -implicitDefEqProofs) (by simp -implicitDefEqProofs) (by decide) rfl (by simp)
end Go.Proofs.Ytjjnboenehomgaa.am
end
section
namespace Go.Proofs.Ytjjnboenehomgaa.fo
open Go.ChangeShapes Go.WideShapes Go.ChangeAt Go.RowKit
open bs tr te
set_option linter.unusedVariables false
theorem num_any (n : Int) (w : World) : Calls Try.prog 26 #[.int .i64 n] w (fun e w' => e = .returned (.agg #[.int .i64 5, .int .i64 n, .string ⟨#[]⟩, .slice none 0 0, .int .i64 0, .int .i64 0]) ∧ Below w.heap.size w w') := by
  go_enter Try.func26, Try.ntmps26
  go_wp2
  try simp only [Exit.inBlock, Exit.then]
  refine bodyPost_ret (results_cell_row rfl _ _ w.heap.size _ #[.int .i64 5, .int .i64 n, .string ⟨#[]⟩, .slice none 0 0, .int .i64 0, .int .i64 0] _ _ rfl (Blk.new w _ 24) Try.underlying24 rfl (by kernel_rfl)) rfl ?_
  exact ⟨rfl, below_alloc _ _⟩
theorem bin_any (w : World) : Calls Try.prog 25 #[.int .i64 9, .agg #[.int .i64 5, .int .i64 2, .string ⟨#[]⟩, .slice none 0 0, .int .i64 0, .int .i64 0], .agg #[.int .i64 5, .int .i64 3, .string ⟨#[]⟩, .slice none 0 0, .int .i64 0, .int .i64 0]] w (fun e w' => ∃ b, e = .returned (.agg #[.int .i64 10, .int .i64 9, .string ⟨#[]⟩, .slice (some ⟨b, 0, none⟩) 2 2, .int .i64 0, .int .i64 0]) ∧ te.Vn.Rd w' ⟨⟨10, 9, ⟨#[]⟩, 0, 0⟩, some ⟨b, 0, none⟩, 2, 2, [(leaf 5 2).tr, (leaf 5 3).tr]⟩ ∧ Below w.heap.size w w') := by
  go_enter Try.func25, Try.ntmps25
  go_wp2
  try simp only [Exit.inBlock, Exit.then]
  generalize hA : w.alloc (.cells #[.int .i64 5, .int .i64 2, .string ⟨#[]⟩, .slice none 0 0, .int .i64 0, .int .i64 0] 24) = A
  generalize hB : A.alloc (.cells #[.int .i64 5, .int .i64 3, .string ⟨#[]⟩, .slice none 0 0, .int .i64 0, .int .i64 0] 24) = B
  have sA : A.heap.size = w.heap.size + 1 := by rw [← hA, te.size_alloc]
  have sB : B.heap.size = w.heap.size + 1 + 1 := by rw [← hB, te.size_alloc, sA]
  have bB : Below w.heap.size w B := by
    rw [← hB, ← hA]
    exact ((Below.refl _ _).alloc (Nat.le_refl _) _).alloc (by rw [te.size_alloc]; omega) _
  generalize hC : B.alloc (.cells #[.int .i64 10, .int .i64 9, .string ⟨#[]⟩, .slice (some ⟨w.heap.size + 1 + 1 + 1, 0, none⟩) 2 2, .int .i64 0, .int .i64 0] 24) = C
  have sC : C.heap.size = w.heap.size + 1 + 1 + 1 := by rw [← hC, te.size_alloc, sB]
  have bC : Below w.heap.size w C := by rw [← hC]; exact bB.alloc (by omega) _
  have hR : Blk C (w.heap.size + 1 + 1) #[.int .i64 10, .int .i64 9, .string ⟨#[]⟩, .slice (some ⟨w.heap.size + 1 + 1 + 1, 0, none⟩) 2 2, .int .i64 0, .int .i64 0] 24 := by
    have := Blk.new B #[.int .i64 10, .int .i64 9, .string ⟨#[]⟩, .slice (some ⟨w.heap.size + 1 + 1 + 1, 0, none⟩) 2 2, .int .i64 0, .int .i64 0] 24
    rwa [hC, sB] at this
  have hL := Blk.new C #[.int .i64 5, .int .i64 2, .string ⟨#[]⟩, .slice none 0 0, .int .i64 0, .int .i64 0, .int .i64 5, .int .i64 3, .string ⟨#[]⟩, .slice none 0 0, .int .i64 0, .int .i64 0] 24
  have hR2 := hR.below (below_alloc C (.cells #[.int .i64 5, .int .i64 2, .string ⟨#[]⟩, .slice none 0 0, .int .i64 0, .int .i64 0, .int .i64 5, .int .i64 3, .string ⟨#[]⟩, .slice none 0 0, .int .i64 0, .int .i64 0] 24))
  have bD : Below w.heap.size w (C.alloc (.cells #[.int .i64 5, .int .i64 2, .string ⟨#[]⟩, .slice none 0 0, .int .i64 0, .int .i64 0, .int .i64 5, .int .i64 3, .string ⟨#[]⟩, .slice none 0 0, .int .i64 0, .int .i64 0] 24)) := bC.alloc (by omega) _
  rw [sC] at hL
  generalize C.alloc (.cells #[.int .i64 5, .int .i64 2, .string ⟨#[]⟩, .slice none 0 0, .int .i64 0, .int .i64 0, .int .i64 5, .int .i64 3, .string ⟨#[]⟩, .slice none 0 0, .int .i64 0, .int .i64 0] 24) = D at hL hR2 bD ⊢
  refine bodyPost_ret (results_cell_row rfl _ _ (w.heap.size + 1 + 1) _ _ _ _ rfl hR2 Try.underlying24 rfl (by kernel_rfl)) rfl ?_
  have lr : ∀ n : Int, te.I64 n → (leaf 5 n).Rd D := fun n hn => leaf_rd (by unfold te.I64; omega) hn D
  refine ⟨w.heap.size + 1 + 1 + 1, rfl, ⟨⟨rfl, Nat.le_refl _, by show 2 ≤ _; omega, by simp, .inr ⟨_, _, rfl, hL.lt, fun i x hi => ?_⟩⟩, ⟨show te.I64 10 from by unfold te.I64; omega, show te.I64 9 from by unfold te.I64; omega, i64_0, i64_0⟩⟩, bD⟩
  match i with
  | 0 =>
    cases hi
    rw [Nat.zero_mul, Nat.zero_add]
    exact VA.intro (v := leaf 5 2) (lr 2 ⟨by decide, by decide⟩) ⟨hL.cell 0, hL.cell 3, hL.cell 1, hL.cell 2, hL.cell 4, hL.cell 5⟩
  | 1 =>
    cases hi
    rw [Nat.one_mul, Nat.zero_add]
    exact VA.intro (v := leaf 5 3) (lr 3 ⟨by decide, by decide⟩) ⟨hL.cell 6, hL.cell 9, hL.cell 7, hL.cell 8, hL.cell 10, hL.cell 11⟩
  | i + 2 => simp at hi
theorem two_23 : two 9 5 2 3 = some (5, 5) := by
  unfold two
  rw [tw_add]
  show (if (0 : Int) = 0 then (if (9 : Int) ≤ 9 ∧ (9 : Int) ≤ 13 then (if (5 : Int) = 5 then some ((5 : Int), wrap64 (2 + 3)) else none) else _) else none) = _
  rw [if_pos rfl, if_pos ⟨by omega, by omega⟩, if_pos rfl, ariths.wr_in _ (by omega) (by omega)]
  rfl
theorem fv_23 : fv 10 9 ⟨#[]⟩ [(leaf 5 2).tr, (leaf 5 3).tr] = some (5, 5) := by
  have hl : ∀ p ∈ [(leaf 5 2).tr, (leaf 5 3).tr], Lit p := fun p hp => by
    have l : ∀ n : Int, Lit (leaf 5 n).tr := fun n => show _ ∧ _ from ⟨rfl, rfl, Or.inl rfl⟩
    rcases List.mem_cons.1 hp with h | hp
    · rw [h]; exact l 2
    · rcases List.mem_cons.1 hp with h | hp
      · rw [h]; exact l 3
      · cases hp
  unfold fv
  have hc : (⟨#[]⟩ : ByteArray) = ⟨#[]⟩ ∧ ∀ p ∈ [(leaf 5 2).tr, (leaf 5 3).tr], Lit p := ⟨rfl, hl⟩
  rw [if_pos hc, ← two_23]
  show (if (10 : Int) = 10 ∧ (5 : Int) = 5 then two 9 5 2 3 else none) = _
  exact if_pos ⟨rfl, rfl⟩
theorem awake27 (w : World) : Calls Try.prog 9 #[] w fun e w' => e = .returned (.bool true) ∧ Below w.heap.size w w' := by
  go_enter Try.func9, Try.ntmps9
  go_wp2_with fail
  refine (num_any 2 _).mono ?_
  rintro e w1 ⟨rfl, hb1⟩
  have HB1 := Lib.hid hb1
  clear hb1
  go_wp2_with fail
  refine (num_any 3 _).mono ?_
  rintro e w2 ⟨rfl, hb2⟩
  have HB2 := Lib.hid (HB1.out.trans (hb2.mono HB1.out.size))
  clear hb2
  go_wp2_with fail
  refine (bin_any _).mono ?_
  rintro e w3 ⟨b, rfl, hr, hb3⟩
  have HB3 := Lib.hid (HB2.out.trans (hb3.mono HB2.out.size))
  have HR := Lib.hid hr
  clear hb3 hr
  go_wp2_with fail
  refine (pvalue_any ⟨⟨10, 9, ⟨#[]⟩, 0, 0⟩, some ⟨b, 0, none⟩, 2, 2, [(leaf 5 2).tr, (leaf 5 3).tr]⟩ _ HR.out).mono ?_
  rintro e w4 ⟨rfl, hb4⟩
  have HB4 := Lib.hid (HB3.out.trans (hb4.mono HB3.out.size))
  clear hb4
  dsimp only
  rw [fv_23]
  have HB5 := Lib.hid (HB4.out.alloc HB4.out.size (.cells #[.int .i64 5, .int .i64 5, .string ⟨#[]⟩, .slice none 0 0, .int .i64 0, .int .i64 0] 24))
  unfold lv leaf te.Vn.val
  go_wp2
  go_ret
  exact ⟨rfl, HB5.out⟩
end Go.Proofs.Ytjjnboenehomgaa.fo
end
section
namespace Go.Proofs.Ytjjnboenehomgaa.am
open Go.ChangeShapes Go.WideShapes Go.ChangeAt Go.RowKit
open vt
set_option linter.unusedVariables false
set_option linter.unusedSimpArgs false
set_option maxRecDepth 100000 in
set_option maxHeartbeats 4000000 in
theorem tsame_row (t : VT) : t.size ≤ 1000000 → ∀ u : VT, u.size ≤ 1000000 → Row Try.prog 30 [vT t, vT u] [] (vB (same t u)) [] := by
  induction t using Tr.ind with
  | h x l ih =>
  intro hsz u hsu
  obtain ⟨y, m⟩ := u
  have hlen := Tr.len_size (x := x) (l := l)
  rw [show same (.mk x l) (.mk y m) = _ from eqv_mk pS x y l m]
  refine row_of Try.func30 rfl rfl (Nat.le_of_ble_eq_true rfl) ?_
  by_cases hk : x.k = y.k; rotate_left
  · repeat (first | refine aw_seq ?_ | refine aw_skip ?_ | refine aw_block ?_ | refine aw_exit ?_ | refine aw_cond rfl (fun _ => ?_) (fun hb => absurd hb (by decide)) | refine aw_cond rfl (fun hb => absurd hb (by decide)) (fun _ => ?_) | (refine aw_reg (fun K hK => ?_); simp -implicitDefEqProofs [hk]; refine hK _ ?_) | (refine aw_drw mixd (fun K hK => ?_); simp -implicitDefEqProofs [hk]; refine hK _ _ (by rfl) ?_) | fail)
    refine aw_ret (fin_ret ?_); simp -implicitDefEqProofs [FinP, resV, resT, hk, pS] <;> try rfl
  by_cases hn : x.n = y.n; rotate_left
  · repeat (first | refine aw_seq ?_ | refine aw_skip ?_ | refine aw_block ?_ | refine aw_exit ?_ | refine aw_cond rfl (fun _ => ?_) (fun hb => absurd hb (by decide)) | refine aw_cond rfl (fun hb => absurd hb (by decide)) (fun _ => ?_) | (refine aw_reg (fun K hK => ?_); simp -implicitDefEqProofs [hk, hn]; refine hK _ ?_) | (refine aw_drw mixd (fun K hK => ?_); simp -implicitDefEqProofs [hk, hn]; refine hK _ _ (by rfl) ?_) | fail)
    refine aw_ret (fin_ret ?_); simp -implicitDefEqProofs [FinP, resV, resT, hk, hn, pS] <;> try rfl
  by_cases hs : x.s = y.s; rotate_left
  · repeat (first | refine aw_seq ?_ | refine aw_skip ?_ | refine aw_block ?_ | refine aw_exit ?_ | refine aw_cond rfl (fun _ => ?_) (fun hb => absurd hb (by decide)) | refine aw_cond rfl (fun hb => absurd hb (by decide)) (fun _ => ?_) | (refine aw_reg (fun K hK => ?_); simp -implicitDefEqProofs [hk, hn, hs]; refine hK _ ?_) | (refine aw_drw mixd (fun K hK => ?_); simp -implicitDefEqProofs [hk, hn, hs]; refine hK _ _ (by rfl) ?_) | fail)
    refine aw_ret (fin_ret ?_); simp -implicitDefEqProofs [FinP, resV, resT, hk, hn, hs, pS] <;> try rfl
  by_cases hm : l.length = m.length; rotate_left
  · have hm' : ¬ (l.length : Int) = (m.length : Int) := by omega
    repeat (first | refine aw_seq ?_ | refine aw_skip ?_ | refine aw_block ?_ | refine aw_exit ?_ | refine aw_cond rfl (fun _ => ?_) (fun hb => absurd hb (by decide)) | refine aw_cond rfl (fun hb => absurd hb (by decide)) (fun _ => ?_) | (refine aw_reg (fun K hK => ?_); simp -implicitDefEqProofs [hk, hn, hs, hm, hm']; refine hK _ ?_) | (refine aw_drw mixd (fun K hK => ?_); simp -implicitDefEqProofs [hk, hn, hs, hm, hm']; refine hK _ _ (by rfl) ?_) | fail)
    refine aw_ret (fin_ret ?_); simp -implicitDefEqProofs [FinP, resV, resT, hk, hn, hs, hm, pS] <;> try rfl
  repeat (first | refine aw_seq ?_ | refine aw_skip ?_ | refine aw_block ?_ | refine aw_exit ?_ | refine aw_cond rfl (fun _ => ?_) (fun hb => absurd hb (by decide)) | refine aw_cond rfl (fun hb => absurd hb (by decide)) (fun _ => ?_) | (refine aw_reg (fun K hK => ?_); simp -implicitDefEqProofs [hk, hn, hs, hm]; refine hK _ ?_) | (refine aw_drw mixd (fun K hK => ?_); simp -implicitDefEqProofs [hk, hn, hs, hm]; refine hK _ _ (by rfl) ?_) | fail)
  refine aw_lp (ι := Nat) (fun k => mkSt [(2, .v (.c (.ptr 0 0))), (3, .v (.c (.ptr 1 0))), (36, vI (l.length : Nat)), (37, vI (k : Nat))] [some (.box (ta (.mk x l))), some (.box (ta (.mk y m)))]) (fun k => k ≤ l.length ∧ zipA (eqv pS) l m k = true) (fun k => l.length - k) 0 ⟨Nat.zero_le _, zipA_zero _ _ _⟩ (cov_intro [0, 1] (by simp -implicitDefEqProofs [hk, hn, hs, hm]) (by simp -implicitDefEqProofs [hk, hn, hs, hm]) (by decide) rfl (by simp)) (fun Z hI k hkz => ?_)
  obtain ⟨hkl', hz⟩ := hkz
  by_cases hkl : k < l.length; rotate_left
  · have : k = l.length := by omega
    subst this
    rw [show (pS x y && decide (l.length = m.length) && zipA (eqv pS) l m l.length) = true by rw [hz]; simp [pS, hk, hn, hs, hm]]
    repeat (first | refine aw_seq ?_ | refine aw_skip ?_ | refine aw_block ?_ | refine aw_exit ?_ | refine aw_cond rfl (fun _ => ?_) (fun hb => absurd hb (by decide)) | refine aw_cond rfl (fun hb => absurd hb (by decide)) (fun _ => ?_) | (refine aw_reg (fun K hK => ?_); simp -implicitDefEqProofs; refine hK _ ?_) | (refine aw_drw mixd (fun K hK => ?_); simp -implicitDefEqProofs; refine hK _ _ (by rfl) ?_) | fail)
    refine aw_ret (fin_ret ?_); simp -implicitDefEqProofs [FinP, resV, resT] <;> try rfl
  have hkm : k < m.length := by omega
  obtain ⟨⟨ax, al⟩, ha⟩ : ∃ a, l[k]? = some a := ⟨_, List.getElem?_eq_getElem hkl⟩
  obtain ⟨⟨bx, bl⟩, hb⟩ : ∃ a, m[k]? = some a := ⟨_, List.getElem?_eq_getElem hkm⟩
  have ha' := (List.getElem?_eq_some_iff.1 ha).2
  have hb' := (List.getElem?_eq_some_iff.1 hb).2
  have hsz1 := Tr.size_at (x := x) ha
  have hsz2 := Tr.size_at (x := y) hb
  have w2 : IntKind.i64.wrap ((k : Nat) + 1 : Int) = (k : Nat) + 1 := i64i _ (by omega) (by omega)
  have hzs := zipA_succ (f := eqv pS) ha hb
  repeat (first | refine aw_seq ?_ | refine aw_skip ?_ | refine aw_block ?_ | refine aw_exit ?_ | refine aw_cond rfl (fun _ => ?_) (fun hb => absurd hb (by decide)) | refine aw_cond rfl (fun hb => absurd hb (by decide)) (fun _ => ?_) | (refine aw_reg (fun K hK => ?_); simp -implicitDefEqProofs [hkl]; refine hK _ ?_) | (refine aw_drw mixd (fun K hK => ?_); simp -implicitDefEqProofs [hkl]; refine hK _ _ (by rfl) ?_) | fail)
  refine aw_drw mixd (fun K hK => ?_); simp -implicitDefEqProofs [hkl, hkm, ha, ha', hb, hb']
  refine ard_call (calld_pure (ih _ (List.mem_of_getElem? ha) (by omega) (.mk bx bl) (by omega)) (by simp) (fun _ => rfl) rfl ?_)
  simp -implicitDefEqProofs
  refine hK _ _ (by rfl) ?_
  refine aw_cond rfl (fun hb => ?_) (fun hb => ?_)
  · have hf : same (.mk ax al) (.mk bx bl) = false := by simpa using hb
    repeat (first | refine aw_seq ?_ | refine aw_skip ?_ | refine aw_block ?_ | refine aw_exit ?_ | refine aw_cond rfl (fun _ => ?_) (fun hb => absurd hb (by decide)) | refine aw_cond rfl (fun hb => absurd hb (by decide)) (fun _ => ?_) | (refine aw_reg (fun K hK => ?_); simp -implicitDefEqProofs; refine hK _ ?_) | (refine aw_drw mixd (fun K hK => ?_); simp -implicitDefEqProofs; refine hK _ _ (by rfl) ?_) | fail)
    have e : zipA (eqv pS) l m l.length = false := by
      have := zipA_mono (l.length - (k + 1)) (show zipA (eqv pS) l m (k + 1) = false by rw [hzs, hz]; simpa using hf)
      rwa [show k + 1 + (l.length - (k + 1)) = l.length by omega] at this
    refine aw_ret (fin_ret ?_); simp -implicitDefEqProofs [FinP, resV, resT, e] <;> try rfl
  · have hf : same (.mk ax al) (.mk bx bl) = true := by simpa using hb
    repeat (first | refine aw_seq ?_ | refine aw_skip ?_ | refine aw_block ?_ | refine aw_exit ?_ | refine aw_cond rfl (fun _ => ?_) (fun hb => absurd hb (by decide)) | refine aw_cond rfl (fun hb => absurd hb (by decide)) (fun _ => ?_) | (refine aw_reg (fun K hK => ?_); simp -implicitDefEqProofs [w2]; refine hK _ ?_) | (refine aw_drw mixd (fun K hK => ?_); simp -implicitDefEqProofs [w2]; refine hK _ _ (by rfl) ?_) | fail)
    refine ⟨k + 1, ⟨by omega, by rw [hzs, hz]; simpa using hf⟩, (by dsimp only; omega), ?_⟩
    rw [hI]; exact cov_intro [0, 1] (by simp -implicitDefEqProofs) (by simp -implicitDefEqProofs) (by decide) rfl (by simp)
end Go.Proofs.Ytjjnboenehomgaa.am
end
