/-
  Layer 32: terms renumbered: the document's.
-/
import Derived.Test.YtjnlfppeodoliaaDecDrop
namespace Go.Proofs.Ytjnlfppeodoliaa.am
open Go.ChangeShapes Go.WideShapes Go.ChangeAt Go.RowKit
open vt
set_option linter.unusedVariables false
set_option linter.unusedSimpArgs false
set_option maxRecDepth 100000 in
set_option maxHeartbeats 4000000 in
theorem rnamed_row (x : Lab) (l : List VT) (hx : x.ok) : Row Try.prog 91 [vT (.mk x l)] [] (vI (nmR x)) [] := by
  have hq : 0 ≤ x.n → IntKind.i64.wrap (x.n.tdiv 64) = x.n / 64 := fun h => by
    rw [Int.tdiv_eq_ediv_of_nonneg h]
    exact i64i _ (by omega) (by have := hx.2.1.2; omega)
  by_cases h0 : 0 ≤ x.n
  · have hq := hq h0
    refine row_of Try.func91 rfl rfl (Nat.le_of_ble_eq_true rfl) ?_
    repeat' (first | refine aw_seq ?_ | refine aw_skip ?_ | refine aw_block ?_ | refine aw_exit ?_ | refine aw_cond rfl (fun _ => ?_) (fun hb => absurd hb (by decide)) | refine aw_cond rfl (fun hb => absurd hb (by decide)) (fun _ => ?_) | (refine aw_reg (fun K hK => ?_); simp -implicitDefEqProofs [*]) | (refine aw_drw mixd (fun K hK => ?_); simp -implicitDefEqProofs [*]) | refine hK _ ?_ | refine hK _ _ (by rfl) ?_ | (refine aw_cond rfl (fun hb => ?_) (fun hb => ?_) <;> ((try simp only [decide_eq_true_eq, decide_eq_false_iff_not, Bool.not_eq_true', Bool.not_eq_false', Bool.not_eq_eq_eq_not, Bool.not_true, Bool.not_false, beq_iff_eq, beq_true, beq_false, bne_iff_ne, ne_eq, Decidable.not_not, Bool.and_eq_true, Bool.or_eq_true, Bool.and_eq_false_iff, Bool.or_eq_false_iff] at hb) <;> repeat' (refine Or.elim hb (fun hb => ?_) (fun hb => ?_)))) | (refine gx_split (fun hb => ?_) (fun hb => ?_) <;> ((try simp only [decide_eq_true_eq, decide_eq_false_iff_not, Bool.not_eq_true', Bool.not_eq_false', Bool.not_eq_eq_eq_not, Bool.not_true, Bool.not_false, beq_iff_eq, beq_true, beq_false, bne_iff_ne, ne_eq, Decidable.not_not, Bool.and_eq_true, Bool.or_eq_true, Bool.and_eq_false_iff, Bool.or_eq_false_iff] at hb) <;> repeat' (refine Or.elim hb (fun hb => ?_) (fun hb => ?_))) <;> simp -implicitDefEqProofs [*]) | (refine gxd_split (fun hb => ?_) (fun hb => ?_) <;> ((try simp only [decide_eq_true_eq, decide_eq_false_iff_not, Bool.not_eq_true', Bool.not_eq_false', Bool.not_eq_eq_eq_not, Bool.not_true, Bool.not_false, beq_iff_eq, beq_true, beq_false, bne_iff_ne, ne_eq, Decidable.not_not, Bool.and_eq_true, Bool.or_eq_true, Bool.and_eq_false_iff, Bool.or_eq_false_iff] at hb) <;> repeat' (refine Or.elim hb (fun hb => ?_) (fun hb => ?_))) <;> simp -implicitDefEqProofs [*]) | fail)
    all_goals (first | contradiction | (refine aw_ret (fin_ret ?_); simp -implicitDefEqProofs [FinP, resV, resT, nmR, nmK, *] <;> try rfl))
  · clear hq
    refine row_of Try.func91 rfl rfl (Nat.le_of_ble_eq_true rfl) ?_
    repeat' (first | refine aw_seq ?_ | refine aw_skip ?_ | refine aw_block ?_ | refine aw_exit ?_ | refine aw_cond rfl (fun _ => ?_) (fun hb => absurd hb (by decide)) | refine aw_cond rfl (fun hb => absurd hb (by decide)) (fun _ => ?_) | (refine aw_reg (fun K hK => ?_); simp -implicitDefEqProofs [*]) | (refine aw_drw mixd (fun K hK => ?_); simp -implicitDefEqProofs [*]) | refine hK _ ?_ | refine hK _ _ (by rfl) ?_ | (refine aw_cond rfl (fun hb => ?_) (fun hb => ?_) <;> ((try simp only [decide_eq_true_eq, decide_eq_false_iff_not, Bool.not_eq_true', Bool.not_eq_false', Bool.not_eq_eq_eq_not, Bool.not_true, Bool.not_false, beq_iff_eq, beq_true, beq_false, bne_iff_ne, ne_eq, Decidable.not_not, Bool.and_eq_true, Bool.or_eq_true, Bool.and_eq_false_iff, Bool.or_eq_false_iff] at hb) <;> repeat' (refine Or.elim hb (fun hb => ?_) (fun hb => ?_)))) | (refine gx_split (fun hb => ?_) (fun hb => ?_) <;> ((try simp only [decide_eq_true_eq, decide_eq_false_iff_not, Bool.not_eq_true', Bool.not_eq_false', Bool.not_eq_eq_eq_not, Bool.not_true, Bool.not_false, beq_iff_eq, beq_true, beq_false, bne_iff_ne, ne_eq, Decidable.not_not, Bool.and_eq_true, Bool.or_eq_true, Bool.and_eq_false_iff, Bool.or_eq_false_iff] at hb) <;> repeat' (refine Or.elim hb (fun hb => ?_) (fun hb => ?_))) <;> simp -implicitDefEqProofs [*]) | (refine gxd_split (fun hb => ?_) (fun hb => ?_) <;> ((try simp only [decide_eq_true_eq, decide_eq_false_iff_not, Bool.not_eq_true', Bool.not_eq_false', Bool.not_eq_eq_eq_not, Bool.not_true, Bool.not_false, beq_iff_eq, beq_true, beq_false, bne_iff_ne, ne_eq, Decidable.not_not, Bool.and_eq_true, Bool.or_eq_true, Bool.and_eq_false_iff, Bool.or_eq_false_iff] at hb) <;> repeat' (refine Or.elim hb (fun hb => ?_) (fun hb => ?_))) <;> simp -implicitDefEqProofs [*]) | fail)
    all_goals (first | contradiction | (refine aw_ret (fin_ret ?_); simp -implicitDefEqProofs [FinP, resV, resT, nmR, nmK, *] <;> try rfl))
set_option maxRecDepth 100000 in
set_option maxHeartbeats 4000000 in
theorem rplace_row (to : List Int) (h : okTo to) (n : Int) (hn : -9223372036854775808 ≤ n ∧ n ≤ 9223372036854775807) : Row Try.prog 92 [vIs to, vI n] [] (vI (plc to n)) [] := by
  have hl := h.1
  have wl : IntKind.i64.wrap (to.length : Int) = to.length := i64i _ (by omega) (by omega)
  have wn : IntKind.i64.wrap n = n := i64i _ (by omega) (by omega)
  by_cases h0 : n < 0
  · rw [show plc to n = n by unfold plc; rw [if_pos h0]]
    refine row_of Try.func92 rfl rfl (Nat.le_of_ble_eq_true rfl) ?_
    repeat (first | refine aw_seq ?_ | refine aw_skip ?_ | refine aw_block ?_ | refine aw_exit ?_ | refine aw_cond rfl (fun _ => ?_) (fun hb => absurd hb (by decide)) | refine aw_cond rfl (fun hb => absurd hb (by decide)) (fun _ => ?_) | (refine aw_reg (fun K hK => ?_); simp -implicitDefEqProofs [h0, wl]; refine hK _ ?_) | (refine aw_drw mixd (fun K hK => ?_); simp -implicitDefEqProofs [h0, wl]; refine hK _ _ (by rfl) ?_) | fail)
    refine aw_ret (fin_ret ?_); simp -implicitDefEqProofs [FinP, resV, resT] <;> try rfl
  by_cases h1 : (to.length : Int) ≤ n
  · rw [show plc to n = n by unfold plc; rw [if_neg h0, List.getElem?_eq_none (by omega)]]
    refine row_of Try.func92 rfl rfl (Nat.le_of_ble_eq_true rfl) ?_
    repeat (first | refine aw_seq ?_ | refine aw_skip ?_ | refine aw_block ?_ | refine aw_exit ?_ | refine aw_cond rfl (fun _ => ?_) (fun hb => absurd hb (by decide)) | refine aw_cond rfl (fun hb => absurd hb (by decide)) (fun _ => ?_) | (refine aw_reg (fun K hK => ?_); simp -implicitDefEqProofs [h0, h1, wl]; refine hK _ ?_) | (refine aw_drw mixd (fun K hK => ?_); simp -implicitDefEqProofs [h0, h1, wl]; refine hK _ _ (by rfl) ?_) | fail)
    refine aw_ret (fin_ret ?_); simp -implicitDefEqProofs [FinP, resV, resT] <;> try rfl
  obtain ⟨k, rfl⟩ : ∃ k : Nat, n = k := ⟨n.toNat, by omega⟩
  have hkl : k < to.length := by omega
  obtain ⟨z, hz⟩ : ∃ z, to[k]? = some z := ⟨_, List.getElem?_eq_getElem hkl⟩
  have hz' := (List.getElem?_eq_some_iff.1 hz).2
  have hzz := h.2 z (List.mem_of_getElem? hz)
  have wz : IntKind.i64.wrap z = z := i64i _ (by omega) (by omega)
  by_cases h2 : z < 0
  · rw [show plc to (k : Nat) = (k : Nat) by unfold plc; rw [if_neg h0]; simp [hz, h2]]
    refine row_of Try.func92 rfl rfl (Nat.le_of_ble_eq_true rfl) ?_
    repeat (first | refine aw_seq ?_ | refine aw_skip ?_ | refine aw_block ?_ | refine aw_exit ?_ | refine aw_cond rfl (fun _ => ?_) (fun hb => absurd hb (by decide)) | refine aw_cond rfl (fun hb => absurd hb (by decide)) (fun _ => ?_) | (refine aw_reg (fun K hK => ?_); simp -implicitDefEqProofs [h0, h1, wl, hkl, hz, hz', h2, wn]; refine hK _ ?_) | (refine aw_drw mixd (fun K hK => ?_); simp -implicitDefEqProofs [h0, h1, wl, hkl, hz, hz', h2, wn]; refine hK _ _ (by rfl) ?_) | fail)
    refine aw_ret (fin_ret ?_); simp -implicitDefEqProofs [FinP, resV, resT] <;> try rfl
  · rw [show plc to (k : Nat) = z by unfold plc; rw [if_neg h0]; simp [hz, h2]]
    refine row_of Try.func92 rfl rfl (Nat.le_of_ble_eq_true rfl) ?_
    repeat (first | refine aw_seq ?_ | refine aw_skip ?_ | refine aw_block ?_ | refine aw_exit ?_ | refine aw_cond rfl (fun _ => ?_) (fun hb => absurd hb (by decide)) | refine aw_cond rfl (fun hb => absurd hb (by decide)) (fun _ => ?_) | (refine aw_reg (fun K hK => ?_); simp -implicitDefEqProofs [h0, h1, wl, hkl, hz, hz', h2, wn, wz]; refine hK _ ?_) | (refine aw_drw mixd (fun K hK => ?_); simp -implicitDefEqProofs [h0, h1, wl, hkl, hz, hz', h2, wn, wz]; refine hK _ _ (by rfl) ?_) | fail)
    refine aw_ret (fin_ret ?_); simp -implicitDefEqProofs [FinP, resV, resT] <;> try rfl
set_option maxRecDepth 100000 in
set_option maxHeartbeats 4000000 in
theorem renum_row (to : List Int) (h : okTo to) (t : VT) : in64 t → t.size ≤ 1000000 → Row Try.prog 55 [vT t, vIs to] [] (vT (renum to t)) [] := by
  induction t using Tr.ind with
  | h x l ih =>
  intro hx hsz
  have hlen := Tr.len_size (x := x) (l := l)
  have hn := rnamed_row x l (lab_ok hx)
  obtain ⟨_, ⟨n0, n1⟩, _⟩ := lab_ok hx
  rw [renum_mk]
  obtain ⟨q, hq⟩ : ∃ q, nwN to x = q := ⟨_, rfl⟩
  rw [hq]
  refine row_of Try.func55 rfl rfl (Nat.le_of_ble_eq_true rfl) ?_
  refine aw_seq ?_; refine aw_reg (fun K hK => ?_); simp -implicitDefEqProofs; refine hK _ ?_
  refine aw_seq ?_; refine aw_reg (fun K hK => ?_); simp -implicitDefEqProofs; refine hK _ ?_
  refine aw_meet (ι := Unit) (fun _ => mkSt [(1, vIs to), (2, .v (.c (.ptr 0 0))), (4, .v (.c (.ptr 1 0))), (5, .v (.c (.ptr 2 0)))] [some (.box (ta (.mk x l))), some (.box (ta zT)), some (.box [.pv (I x.k), .pv (I q), .pv (Sx x.s), .row 3 6 [], .pv (I x.f), .pv (I x.t)]), some (.row 25 6)]) (fun _ => True) (fun Z hI => ?_) (fun _ _ => ?_)
  · by_cases h1 : nmK x.k = true
    · have e1 : nmR x = x.n := by unfold nmR; rw [if_pos h1]
      have e2 : q = plc to x.n := by rw [← hq]; unfold nwN; rw [if_pos h1]
      have h13 : ¬ x.k = 13 := fun e => by rw [e] at h1; exact absurd h1 (by decide)
      have hp := rplace_row to h x.n ⟨n0, n1⟩
      rw [e1] at hn
      by_cases h0 : 0 ≤ x.n
      · repeat' (first | refine aw_seq ?_ | refine aw_skip ?_ | refine aw_block ?_ | refine aw_exit ?_ | refine aw_cond rfl (fun _ => ?_) (fun hb => absurd hb (by decide)) | refine aw_cond rfl (fun hb => absurd hb (by decide)) (fun _ => ?_) | (refine aw_reg (fun K hK => ?_); simp -implicitDefEqProofs [h13, h0]) | (refine aw_drw mixd (fun K hK => ?_); simp -implicitDefEqProofs [h13, h0]) | refine hK _ ?_ | refine hK _ _ (by rfl) ?_ | (refine ar_call (cp hn ?_); simp -implicitDefEqProofs [h13, h0]) | (refine ard_call (dp hn ?_); simp -implicitDefEqProofs [h13, h0]) | (refine ar_call (cp hp ?_); simp -implicitDefEqProofs [h13, h0]) | (refine ard_call (dp hp ?_); simp -implicitDefEqProofs [h13, h0]) | fail)
        refine ⟨(), (by trivial), ?_⟩; rw [hI]; exact cov_intro [0, 1, 14, 8] (by simp -implicitDefEqProofs [e2]) (by simp -implicitDefEqProofs [e2]) (by decide) rfl (by simp)
      · have e3 : q = x.n := by rw [e2]; unfold plc; rw [if_pos (by omega)]
        clear hq hp e2
        repeat' (first | refine aw_seq ?_ | refine aw_skip ?_ | refine aw_block ?_ | refine aw_exit ?_ | refine aw_cond rfl (fun _ => ?_) (fun hb => absurd hb (by decide)) | refine aw_cond rfl (fun hb => absurd hb (by decide)) (fun _ => ?_) | (refine aw_reg (fun K hK => ?_); simp -implicitDefEqProofs [h13, h0]) | (refine aw_drw mixd (fun K hK => ?_); simp -implicitDefEqProofs [h13, h0]) | refine hK _ ?_ | refine hK _ _ (by rfl) ?_ | (refine ar_call (cp hn ?_); simp -implicitDefEqProofs [h13, h0]) | (refine ard_call (dp hn ?_); simp -implicitDefEqProofs [h13, h0]) | fail)
        refine ⟨(), (by trivial), ?_⟩; rw [hI]; exact cov_intro [0, 1, 14, 8] (by simp -implicitDefEqProofs [e3]) (by simp -implicitDefEqProofs [e3]) (by decide) rfl (by simp)
    · by_cases h2 : x.k = 13 ∧ 0 ≤ x.n
      · have e1 : nmR x = x.n / 64 := by unfold nmR; rw [if_neg h1, if_pos h2]
        have e2 : q = plc to (x.n / 64) * 64 + x.n % 64 := by rw [← hq]; unfold nwN; rw [if_neg h1, if_pos h2]
        have hp := rplace_row to h (x.n / 64) ⟨by omega, by omega⟩
        rw [e1] at hn
        have h0 : 0 ≤ x.n / 64 := by omega
        have hr : x.n.tmod 64 = x.n % 64 := Int.tmod_eq_emod_of_nonneg h2.2
        have w1 : IntKind.i64.wrap (plc to (x.n / 64) * 64) = plc to (x.n / 64) * 64 := i64i _ (by rcases plc_in h (x.n / 64) with e | ⟨_, _, e3, e4⟩ <;> omega) (by rcases plc_in h (x.n / 64) with e | ⟨_, _, e3, e4⟩ <;> have := h.1 <;> omega)
        have w2 : IntKind.i64.wrap (plc to (x.n / 64) * 64 + x.n % 64) = plc to (x.n / 64) * 64 + x.n % 64 := i64i _ (by rcases plc_in h (x.n / 64) with e | ⟨_, _, e3, e4⟩ <;> omega) (by rcases plc_in h (x.n / 64) with e | ⟨_, _, e3, e4⟩ <;> have := h.1 <;> omega)
        repeat' (first | refine aw_seq ?_ | refine aw_skip ?_ | refine aw_block ?_ | refine aw_exit ?_ | refine aw_cond rfl (fun _ => ?_) (fun hb => absurd hb (by decide)) | refine aw_cond rfl (fun hb => absurd hb (by decide)) (fun _ => ?_) | (refine aw_reg (fun K hK => ?_); simp -implicitDefEqProofs [h2.1, h0, hr, w1, w2]) | (refine aw_drw mixd (fun K hK => ?_); simp -implicitDefEqProofs [h2.1, h0, hr, w1, w2]) | refine hK _ ?_ | refine hK _ _ (by rfl) ?_ | (refine ar_call (cp hn ?_); simp -implicitDefEqProofs [h2.1, h0, hr, w1, w2]) | (refine ard_call (dp hn ?_); simp -implicitDefEqProofs [h2.1, h0, hr, w1, w2]) | (refine ar_call (cp hp ?_); simp -implicitDefEqProofs [h2.1, h0, hr, w1, w2]) | (refine ard_call (dp hp ?_); simp -implicitDefEqProofs [h2.1, h0, hr, w1, w2]) | fail)
        refine ⟨(), (by trivial), ?_⟩; rw [hI]; exact cov_intro [0, 1, 14, 8] (by simp -implicitDefEqProofs [e2, h2.1]) (by simp -implicitDefEqProofs [e2, h2.1]) (by decide) rfl (by simp)
      · have e1 : nmR x = -1 := by unfold nmR; rw [if_neg h1, if_neg h2]
        have e2 : q = x.n := by rw [← hq]; unfold nwN; rw [if_neg h1, if_neg h2]
        clear hq
        rw [e1] at hn
        repeat' (first | refine aw_seq ?_ | refine aw_skip ?_ | refine aw_block ?_ | refine aw_exit ?_ | refine aw_cond rfl (fun _ => ?_) (fun hb => absurd hb (by decide)) | refine aw_cond rfl (fun hb => absurd hb (by decide)) (fun _ => ?_) | (refine aw_reg (fun K hK => ?_); simp -implicitDefEqProofs) | (refine aw_drw mixd (fun K hK => ?_); simp -implicitDefEqProofs) | refine hK _ ?_ | refine hK _ _ (by rfl) ?_ | (refine ar_call (cp hn ?_); simp -implicitDefEqProofs) | (refine ard_call (dp hn ?_); simp -implicitDefEqProofs) | fail)
        refine ⟨(), (by trivial), ?_⟩; rw [hI]; exact cov_intro [0, 1, 14, 8] (by simp -implicitDefEqProofs [e2]) (by simp -implicitDefEqProofs [e2]) (by decide) rfl (by simp)
  · clear hn
    repeat (first | refine aw_seq ?_ | refine aw_skip ?_ | refine aw_block ?_ | refine aw_exit ?_ | refine aw_cond rfl (fun _ => ?_) (fun hb => absurd hb (by decide)) | refine aw_cond rfl (fun hb => absurd hb (by decide)) (fun _ => ?_) | (refine aw_reg (fun K hK => ?_); simp -implicitDefEqProofs; refine hK _ ?_) | (refine aw_drw mixd (fun K hK => ?_); simp -implicitDefEqProofs; refine hK _ _ (by rfl) ?_) | fail)
    refine aw_lp (ι := Nat) (fun k => mkSt [(1, vIs to), (2, .v (.c (.ptr 0 0))), (4, .v (.c (.ptr 1 0))), (5, .v (.c (.ptr 2 0))), (6, vI (k : Nat))] [some (.box (ta (.mk x l))), some (.box (ta zT)), some (.box [.pv (I x.k), .pv (I q), .pv (Sx x.s), .row 3 6 (((l.take k).map (renum to)).map tc), .pv (I x.f), .pv (I x.t)]), some (.row 25 6)]) (fun k => k ≤ l.length) (fun k => l.length - k) 0 (Nat.zero_le _) (cov_intro [0, 1, 2, 3] (by simp -implicitDefEqProofs) (by simp -implicitDefEqProofs) (by decide) rfl (by simp)) (fun Z hI k hk => ?_)
    by_cases hkl : k < l.length; rotate_left
    · have : k = l.length := by omega
      subst this
      rw [List.take_length]
      repeat (first | refine aw_seq ?_ | refine aw_skip ?_ | refine aw_block ?_ | refine aw_exit ?_ | refine aw_cond rfl (fun _ => ?_) (fun hb => absurd hb (by decide)) | refine aw_cond rfl (fun hb => absurd hb (by decide)) (fun _ => ?_) | (refine aw_reg (fun K hK => ?_); simp -implicitDefEqProofs; refine hK _ ?_) | (refine aw_drw mixd (fun K hK => ?_); simp -implicitDefEqProofs; refine hK _ _ (by rfl) ?_) | fail)
      refine aw_ret (fin_ret ?_); simp -implicitDefEqProofs [FinP, resV, resT] <;> try rfl
    obtain ⟨⟨ax, al⟩, ha⟩ : ∃ a, l[k]? = some a := ⟨_, List.getElem?_eq_getElem hkl⟩
    have ha' := (List.getElem?_eq_some_iff.1 ha).2
    have hsz1 := Tr.size_at (x := x) ha
    have hc := ih _ (List.mem_of_getElem? ha) (kid_ok hx (List.mem_of_getElem? ha)) (by omega)
    have w2 : IntKind.i64.wrap ((k : Nat) + 1 : Int) = (k : Nat) + 1 := i64i _ (by omega) (by omega)
    have hs : (l.take (k + 1)).map (renum to) = (l.take k).map (renum to) ++ [renum to (.mk ax al)] := by rw [List.take_add_one, ha]; simp
    obtain ⟨L, hL⟩ : ∃ L, (l.take k).map (renum to) = L := ⟨_, rfl⟩
    have hLl : L.length = k := by rw [← hL, List.length_map, List.length_take]; omega
    rw [hL] at hs ⊢
    obtain ⟨⟨bx, bl⟩, hb⟩ : ∃ b, renum to (.mk ax al) = b := ⟨_, rfl⟩
    rw [hb] at hc hs
    have b1 : (k + 1) * 72 ≤ 140737488355328 := by omega
    have b2 : k + 1 ≤ 140737488355328 := by omega
    repeat' (first | refine aw_seq ?_ | refine aw_skip ?_ | refine aw_block ?_ | refine aw_exit ?_ | refine aw_cond rfl (fun _ => ?_) (fun hb => absurd hb (by decide)) | refine aw_cond rfl (fun hb => absurd hb (by decide)) (fun _ => ?_) | (refine aw_reg (fun K hK => ?_); simp -implicitDefEqProofs [hkl, ha, ha', hLl, b1, b2, w2]) | (refine aw_drw mixd (fun K hK => ?_); simp -implicitDefEqProofs [hkl, ha, ha', hLl, b1, b2, w2]) | refine hK _ ?_ | refine hK _ _ (by rfl) ?_ | (refine ar_call (cp hc ?_); simp -implicitDefEqProofs [hkl, ha, ha', hLl, b1, b2, w2]) | (refine ard_call (dp hc ?_); simp -implicitDefEqProofs [hkl, ha, ha', hLl, b1, b2, w2]) | fail)
    refine ⟨k + 1, by omega, (by dsimp only; omega), ?_⟩; rw [hI]; exact cov_intro [0, 1, 2, 89] (by simp -implicitDefEqProofs [hs]) (by simp -implicitDefEqProofs [hs]) (by decide) rfl (by simp)
set_option maxRecDepth 100000 in
set_option maxHeartbeats 4000000 in
theorem rnames_row (i : Int) (hi : 0 ≤ i) (t : VT) : in64 t → t.size ≤ 1000000 → Row Try.prog 58 [vT t, vI i] [] (vB (nmsT i t)) [] := by
  induction t using Tr.ind with
  | h x l ih =>
  intro hx hsz
  have hlen := Tr.len_size (x := x) (l := l)
  have hn := rnamed_row x l (lab_ok hx)
  rw [nmsT_mk]
  obtain ⟨q, hq⟩ : ∃ q, nmR x = q := ⟨_, rfl⟩
  rw [hq] at hn ⊢
  by_cases h1 : q = i
  · refine row_of Try.func58 rfl rfl (Nat.le_of_ble_eq_true rfl) ?_
    repeat' (first | refine aw_seq ?_ | refine aw_skip ?_ | refine aw_block ?_ | refine aw_exit ?_ | refine aw_cond rfl (fun _ => ?_) (fun hb => absurd hb (by decide)) | refine aw_cond rfl (fun hb => absurd hb (by decide)) (fun _ => ?_) | (refine aw_reg (fun K hK => ?_); simp -implicitDefEqProofs [h1]) | (refine aw_drw mixd (fun K hK => ?_); simp -implicitDefEqProofs [h1]) | refine hK _ ?_ | refine hK _ _ (by rfl) ?_ | (refine ar_call (cp hn ?_); simp -implicitDefEqProofs [h1]) | (refine ard_call (dp hn ?_); simp -implicitDefEqProofs [h1]) | fail)
    refine aw_ret (fin_ret ?_); simp -implicitDefEqProofs [FinP, resV, resT, h1] <;> try rfl
  refine row_of Try.func58 rfl rfl (Nat.le_of_ble_eq_true rfl) ?_
  repeat' (first | refine aw_seq ?_ | refine aw_skip ?_ | refine aw_block ?_ | refine aw_exit ?_ | refine aw_cond rfl (fun _ => ?_) (fun hb => absurd hb (by decide)) | refine aw_cond rfl (fun hb => absurd hb (by decide)) (fun _ => ?_) | (refine aw_reg (fun K hK => ?_); simp -implicitDefEqProofs [h1]) | (refine aw_drw mixd (fun K hK => ?_); simp -implicitDefEqProofs [h1]) | refine hK _ ?_ | refine hK _ _ (by rfl) ?_ | (refine ar_call (cp hn ?_); simp -implicitDefEqProofs [h1]) | (refine ard_call (dp hn ?_); simp -implicitDefEqProofs [h1]) | fail)
  refine aw_lp (ι := Nat) (fun k => mkSt [(1, vI i), (2, .v (.c (.ptr 0 0))), (5, vI (k : Nat))] [some (.box (ta (.mk x l)))]) (fun k => k ≤ l.length ∧ (l.take k).any (nmsT i) = false) (fun k => l.length - k) 0 ⟨Nat.zero_le _, by simp⟩ (cov_intro [0] (by simp -implicitDefEqProofs) (by simp -implicitDefEqProofs) (by decide) rfl (by simp)) (fun Z hI k hk => ?_)
  obtain ⟨hk, hz⟩ := hk
  by_cases hkl : k < l.length; rotate_left
  · have : k = l.length := by omega
    subst this
    rw [List.take_length] at hz
    repeat (first | refine aw_seq ?_ | refine aw_skip ?_ | refine aw_block ?_ | refine aw_exit ?_ | refine aw_cond rfl (fun _ => ?_) (fun hb => absurd hb (by decide)) | refine aw_cond rfl (fun hb => absurd hb (by decide)) (fun _ => ?_) | (refine aw_reg (fun K hK => ?_); simp -implicitDefEqProofs; refine hK _ ?_) | (refine aw_drw mixd (fun K hK => ?_); simp -implicitDefEqProofs; refine hK _ _ (by rfl) ?_) | fail)
    refine aw_ret (fin_ret ?_); simp -implicitDefEqProofs [FinP, resV, resT, h1, hz] <;> try rfl
  obtain ⟨⟨ax, al⟩, ha⟩ : ∃ a, l[k]? = some a := ⟨_, List.getElem?_eq_getElem hkl⟩
  have ha' := (List.getElem?_eq_some_iff.1 ha).2
  have hsz1 := Tr.size_at (x := x) ha
  have hc := ih _ (List.mem_of_getElem? ha) (kid_ok hx (List.mem_of_getElem? ha)) (by omega)
  have w2 : IntKind.i64.wrap ((k : Nat) + 1 : Int) = (k : Nat) + 1 := i64i _ (by omega) (by omega)
  by_cases hp : nmsT i (.mk ax al) = true
  · rw [hp] at hc
    have e : l.any (nmsT i) = true := List.any_eq_true.2 ⟨_, List.mem_of_getElem? ha, hp⟩
    repeat' (first | refine aw_seq ?_ | refine aw_skip ?_ | refine aw_block ?_ | refine aw_exit ?_ | refine aw_cond rfl (fun _ => ?_) (fun hb => absurd hb (by decide)) | refine aw_cond rfl (fun hb => absurd hb (by decide)) (fun _ => ?_) | (refine aw_reg (fun K hK => ?_); simp -implicitDefEqProofs [hkl, ha, ha', w2]) | (refine aw_drw mixd (fun K hK => ?_); simp -implicitDefEqProofs [hkl, ha, ha', w2]) | refine hK _ ?_ | refine hK _ _ (by rfl) ?_ | (refine ar_call (cp hc ?_); simp -implicitDefEqProofs [hkl, ha, ha', w2]) | (refine ard_call (dp hc ?_); simp -implicitDefEqProofs [hkl, ha, ha', w2]) | fail)
    refine aw_ret (fin_ret ?_); simp -implicitDefEqProofs [FinP, resV, resT, e] <;> try rfl
  · have hp : nmsT i (.mk ax al) = false := by simpa using hp
    rw [hp] at hc
    repeat' (first | refine aw_seq ?_ | refine aw_skip ?_ | refine aw_block ?_ | refine aw_exit ?_ | refine aw_cond rfl (fun _ => ?_) (fun hb => absurd hb (by decide)) | refine aw_cond rfl (fun hb => absurd hb (by decide)) (fun _ => ?_) | (refine aw_reg (fun K hK => ?_); simp -implicitDefEqProofs [hkl, ha, ha', w2]) | (refine aw_drw mixd (fun K hK => ?_); simp -implicitDefEqProofs [hkl, ha, ha', w2]) | refine hK _ ?_ | refine hK _ _ (by rfl) ?_ | (refine ar_call (cp hc ?_); simp -implicitDefEqProofs [hkl, ha, ha', w2]) | (refine ard_call (dp hc ?_); simp -implicitDefEqProofs [hkl, ha, ha', w2]) | fail)
    refine ⟨k + 1, ⟨by omega, by rw [List.take_add_one, ha, Option.toList_some, List.any_append, hz]; simp [hp]⟩, (by dsimp only; omega), ?_⟩
    rw [hI]; exact cov_intro [0] (by simp -implicitDefEqProofs) (by simp -implicitDefEqProofs) (by decide) rfl (by simp)
set_option maxRecDepth 100000 in
set_option maxHeartbeats 4000000 in
theorem less_row (i : Int) (n : Nat) (hn : n ≤ 1000000) (hi : -9223372036854775808 ≤ i ∧ i ≤ 9223372036854775807) : Row Try.prog 59 [vI i, vI (n : Nat)] [] (vIs (lessI i n)) [] := by
  refine row_of Try.func59 rfl rfl (Nat.le_of_ble_eq_true rfl) ?_
  repeat (first | refine aw_seq ?_ | refine aw_skip ?_ | refine aw_block ?_ | refine aw_exit ?_ | refine aw_cond rfl (fun _ => ?_) (fun hb => absurd hb (by decide)) | refine aw_cond rfl (fun hb => absurd hb (by decide)) (fun _ => ?_) | (refine aw_reg (fun K hK => ?_); simp -implicitDefEqProofs; refine hK _ ?_) | (refine aw_drw mixd (fun K hK => ?_); simp -implicitDefEqProofs; refine hK _ _ (by rfl) ?_) | fail)
  refine aw_lp (ι := Nat) (fun k => mkSt [(0, vI i), (1, vI (n : Nat)), (5, .v (.c (.row 0 1 (ic (lessI i k))))), (6, vI (k : Nat))] [some (.row 3 1)]) (fun k => k ≤ n) (fun k => n - k) 0 (Nat.zero_le _) (cov_intro [1] (by simp -implicitDefEqProofs [lessI]) (by simp -implicitDefEqProofs [lessI]) (by decide) rfl (by simp)) (fun Z hI k hk => ?_)
  by_cases hkl : k < n; rotate_left
  · have : k = n := by omega
    subst this
    repeat (first | refine aw_seq ?_ | refine aw_skip ?_ | refine aw_block ?_ | refine aw_exit ?_ | refine aw_cond rfl (fun _ => ?_) (fun hb => absurd hb (by decide)) | refine aw_cond rfl (fun hb => absurd hb (by decide)) (fun _ => ?_) | (refine aw_reg (fun K hK => ?_); simp -implicitDefEqProofs; refine hK _ ?_) | (refine aw_drw mixd (fun K hK => ?_); simp -implicitDefEqProofs; refine hK _ _ (by rfl) ?_) | fail)
    refine aw_ret (fin_ret ?_); simp -implicitDefEqProofs [FinP, resV, resT] <;> try rfl
  have w2 : IntKind.i64.wrap ((k : Nat) + 1 : Int) = (k : Nat) + 1 := i64i _ (by omega) (by omega)
  have w3 : IntKind.i64.wrap ((k : Nat) - 1 : Int) = (k : Nat) - 1 := i64i _ (by omega) (by omega)
  have hs := lessI_succ i k
  obtain ⟨L, hL⟩ : ∃ L, lessI i k = L := ⟨_, rfl⟩
  have hLl : L.length = k := by rw [← hL, lessI_len]
  rw [hL] at hs ⊢
  have b1 : (k + 1) * 8 ≤ 140737488355328 := by omega
  have b2 : k + 1 ≤ 140737488355328 := by omega
  by_cases h1 : (k : Int) < i
  · rw [if_pos h1] at hs
    repeat (first | refine aw_seq ?_ | refine aw_skip ?_ | refine aw_block ?_ | refine aw_exit ?_ | refine aw_cond rfl (fun _ => ?_) (fun hb => absurd hb (by decide)) | refine aw_cond rfl (fun hb => absurd hb (by decide)) (fun _ => ?_) | (refine aw_reg (fun K hK => ?_); simp -implicitDefEqProofs [hkl, h1, w2, b1, b2, hLl]; refine hK _ ?_) | (refine aw_drw mixd (fun K hK => ?_); simp -implicitDefEqProofs [hkl, h1, w2, b1, b2, hLl]; refine hK _ _ (by rfl) ?_) | fail)
    refine ⟨k + 1, by omega, (by dsimp only; omega), ?_⟩
    rw [hI, hs]; exact cov_intro [10] (by simp -implicitDefEqProofs) (by simp -implicitDefEqProofs) (by decide) rfl (by simp)
  · by_cases h2 : (k : Int) = i
    · rw [if_neg h1, if_pos h2] at hs
      subst h2
      repeat (first | refine aw_seq ?_ | refine aw_skip ?_ | refine aw_block ?_ | refine aw_exit ?_ | refine aw_cond rfl (fun _ => ?_) (fun hb => absurd hb (by decide)) | refine aw_cond rfl (fun hb => absurd hb (by decide)) (fun _ => ?_) | (refine aw_reg (fun K hK => ?_); simp -implicitDefEqProofs [hkl, w2, b1, b2, hLl]; refine hK _ ?_) | (refine aw_drw mixd (fun K hK => ?_); simp -implicitDefEqProofs [hkl, w2, b1, b2, hLl]; refine hK _ _ (by rfl) ?_) | fail)
      refine ⟨k + 1, by omega, (by dsimp only; omega), ?_⟩
      rw [hI, hs]; exact cov_intro [12] (by simp -implicitDefEqProofs) (by simp -implicitDefEqProofs) (by decide) rfl (by simp)
    · rw [if_neg h1, if_neg h2] at hs
      repeat (first | refine aw_seq ?_ | refine aw_skip ?_ | refine aw_block ?_ | refine aw_exit ?_ | refine aw_cond rfl (fun _ => ?_) (fun hb => absurd hb (by decide)) | refine aw_cond rfl (fun hb => absurd hb (by decide)) (fun _ => ?_) | (refine aw_reg (fun K hK => ?_); simp -implicitDefEqProofs [hkl, h1, h2, w2, w3, b1, b2, hLl]; refine hK _ ?_) | (refine aw_drw mixd (fun K hK => ?_); simp -implicitDefEqProofs [hkl, h1, h2, w2, w3, b1, b2, hLl]; refine hK _ _ (by rfl) ?_) | fail)
      refine ⟨k + 1, by omega, (by dsimp only; omega), ?_⟩
      rw [hI, hs]; exact cov_intro [14] (by simp -implicitDefEqProofs) (by simp -implicitDefEqProofs) (by decide) rfl (by simp)
end Go.Proofs.Ytjnlfppeodoliaa.am
