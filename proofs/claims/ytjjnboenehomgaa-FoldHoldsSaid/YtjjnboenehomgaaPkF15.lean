import Derived.Test.YtjjnboenehomgaaPkF14
section
namespace Go.Proofs.Ytjjnboenehomgaa.am
open Go.ChangeShapes Go.WideShapes Go.ChangeAt Go.RowKit
open vt
set_option linter.unusedVariables false
set_option linter.unusedSimpArgs false
noncomputable def conD (d : VT) : Option VT := if d.lab.k = 31 ∧ d.kids.length = 1 ∧ litB (d.kids.getD 0 z0T).lab (d.kids.getD 0 z0T).kids.length = true then some (d.kids.getD 0 z0T) else none
noncomputable def conF (m : VT) (x : Lab) (l : List VT) : Option VT := if x.k = 8 ∧ x.s = ⟨#[]⟩ ∧ l.length = 0 ∧ 0 ≤ x.n then (m.kids[x.n.toNat]?).bind conD else none
noncomputable def fieF (x : Lab) (l : List VT) : Option VT := if x.k = 13 ∧ x.s = ⟨#[]⟩ ∧ l.length = 1 ∧ 0 ≤ x.n ∧ (l.getD 0 z0T).lab.k = 15 ∧ (l.getD 0 z0T).lab.s = ⟨#[]⟩ ∧ (l.getD 0 z0T).lab.n = x.n / 64 then prtF (l.getD 0 z0T).kids (x.n % 64) else none
noncomputable def idxF (x : Lab) (l : List VT) : Option VT := if x.k = 12 ∧ x.s = ⟨#[]⟩ ∧ l.length = 2 ∧ (l.getD 0 z0T).lab.k = 14 ∧ (l.getD 0 z0T).lab.s = ⟨#[]⟩ ∧ (l.getD 1 z0T).lab.k = 5 ∧ litB (l.getD 1 z0T).lab (l.getD 1 z0T).kids.length = true then prtF (l.getD 0 z0T).kids (l.getD 1 z0T).lab.n else none
theorem div64 {n : Int} (h : 0 ≤ n) (h2 : n ≤ 9223372036854775807) : IntKind.i64.wrap (n.tdiv 64) = n / 64 ∧ n.tmod 64 = n % 64 := by
  rw [Int.tdiv_eq_ediv_of_nonneg h, Int.tmod_eq_emod_of_nonneg h]
  exact ⟨i64i _ (by omega) (by omega), rfl⟩
set_option maxRecDepth 100000 in
set_option maxHeartbeats 4000000 in
theorem constant_row (m : VT) (hms : m.size ≤ 1000000) (x : Lab) (l : List VT) (hx : x.ok) (hl : l.length ≤ 1000000) : Row Try.prog 27 [vT m, vT (.mk x l)] [] (vO (conF m x l)) [] := by
  by_cases c8 : x.k = 8; rotate_left
  · rw [show conF m x l = none by simp [conF, c8]]
    obtain ⟨mx, ml⟩ := m
    refine row_of Try.func27 rfl rfl (Nat.le_of_ble_eq_true rfl) ?_
    repeat (first | refine aw_seq ?_ | refine aw_skip ?_ | refine aw_block ?_ | refine aw_exit ?_ | refine aw_cond rfl (fun _ => ?_) (fun hb => absurd hb (by decide)) | refine aw_cond rfl (fun hb => absurd hb (by decide)) (fun _ => ?_) | (refine aw_reg (fun K hK => ?_); simp -implicitDefEqProofs [c8]; refine hK _ ?_) | (refine aw_drw mixd (fun K hK => ?_); simp -implicitDefEqProofs [c8]; refine hK _ _ (by rfl) ?_) | fail)
    refine aw_ret (fin_ret ?_); simp -implicitDefEqProofs [FinP, resV, resT] <;> try rfl
  by_cases cs : x.s = ⟨#[]⟩; rotate_left
  · rw [show conF m x l = none by simp [conF, cs]]
    obtain ⟨mx, ml⟩ := m
    refine row_of Try.func27 rfl rfl (Nat.le_of_ble_eq_true rfl) ?_
    repeat (first | refine aw_seq ?_ | refine aw_skip ?_ | refine aw_block ?_ | refine aw_exit ?_ | refine aw_cond rfl (fun _ => ?_) (fun hb => absurd hb (by decide)) | refine aw_cond rfl (fun hb => absurd hb (by decide)) (fun _ => ?_) | (refine aw_reg (fun K hK => ?_); simp -implicitDefEqProofs [c8, cs]; refine hK _ ?_) | (refine aw_drw mixd (fun K hK => ?_); simp -implicitDefEqProofs [c8, cs]; refine hK _ _ (by rfl) ?_) | fail)
    refine aw_ret (fin_ret ?_); simp -implicitDefEqProofs [FinP, resV, resT] <;> try rfl
  by_cases l0 : l.length = 0; rotate_left
  · have l0a : ¬ (l.length : Int) = 0 := by omega
    have l0b : (0 : Int) < (l.length : Int) := by omega
    have l0c : 0 < l.length := by omega
    rw [show conF m x l = none by unfold conF; exact if_neg (fun h => l0 h.2.2.1)]
    obtain ⟨mx, ml⟩ := m
    refine row_of Try.func27 rfl rfl (Nat.le_of_ble_eq_true rfl) ?_
    repeat (first | refine aw_seq ?_ | refine aw_skip ?_ | refine aw_block ?_ | refine aw_exit ?_ | refine aw_cond rfl (fun _ => ?_) (fun hb => absurd hb (by decide)) | refine aw_cond rfl (fun hb => absurd hb (by decide)) (fun _ => ?_) | (refine aw_reg (fun K hK => ?_); simp -implicitDefEqProofs [c8, cs, l0, l0a, l0b, l0c]; refine hK _ ?_) | (refine aw_drw mixd (fun K hK => ?_); simp -implicitDefEqProofs [c8, cs, l0, l0a, l0b, l0c]; refine hK _ _ (by rfl) ?_) | fail)
    refine aw_ret (fin_ret ?_); simp -implicitDefEqProofs [FinP, resV, resT] <;> try rfl
  obtain rfl := List.eq_nil_of_length_eq_zero l0
  by_cases n0 : x.n < 0
  · have n0a : ¬ 0 ≤ x.n := by omega
    rw [show conF m x [] = none by unfold conF; exact if_neg (fun h => n0a h.2.2.2)]
    obtain ⟨mx, ml⟩ := m
    refine row_of Try.func27 rfl rfl (Nat.le_of_ble_eq_true rfl) ?_
    repeat (first | refine aw_seq ?_ | refine aw_skip ?_ | refine aw_block ?_ | refine aw_exit ?_ | refine aw_cond rfl (fun _ => ?_) (fun hb => absurd hb (by decide)) | refine aw_cond rfl (fun hb => absurd hb (by decide)) (fun _ => ?_) | (refine aw_reg (fun K hK => ?_); simp -implicitDefEqProofs [c8, cs, n0, n0a]; refine hK _ ?_) | (refine aw_drw mixd (fun K hK => ?_); simp -implicitDefEqProofs [c8, cs, n0, n0a]; refine hK _ _ (by rfl) ?_) | fail)
    refine aw_ret (fin_ret ?_); simp -implicitDefEqProofs [FinP, resV, resT] <;> try rfl
  obtain ⟨n, hn⟩ : ∃ n : Nat, x.n = n := ⟨x.n.toNat, by omega⟩
  have hcf : conF m x [] = (m.kids[n]?).bind conD := by unfold conF; rw [if_pos ⟨c8, cs, rfl, by omega⟩, hn, Int.toNat_natCast]
  rw [hcf]
  clear hcf
  obtain ⟨mx, ml⟩ := m
  rw [Tr.kids]
  have hml := Tr.len_size (x := mx) (l := ml)
  have wl : IntKind.i64.wrap ((ml.length : Nat) : Int) = (ml.length : Nat) := i64i _ (by omega) (by omega)
  have wn : IntKind.i64.wrap ((n : Nat) : Int) = (n : Nat) := i64i _ (by have := hx.2.1; omega) (by have := hx.2.1; omega)
  have na : ¬ ((n : Nat) : Int) < 0 := by omega
  have nb : (0 : Int) ≤ (n : Nat) := by omega
  by_cases hnl : n < ml.length; rotate_left
  · have h1 : ¬ ((n : Nat) : Int) < (ml.length : Nat) := by omega
    have h2 : (ml.length : Int) ≤ (n : Nat) := by omega
    have h3 : ml.length ≤ n := by omega
    rw [List.getElem?_eq_none h3]
    refine row_of Try.func27 rfl rfl (Nat.le_of_ble_eq_true rfl) ?_
    repeat (first | refine aw_seq ?_ | refine aw_skip ?_ | refine aw_block ?_ | refine aw_exit ?_ | refine aw_cond rfl (fun _ => ?_) (fun hb => absurd hb (by decide)) | refine aw_cond rfl (fun hb => absurd hb (by decide)) (fun _ => ?_) | (refine aw_reg (fun K hK => ?_); simp -implicitDefEqProofs [c8, cs, hn, wl, wn, na, nb, hnl, h1, h2, h3]; refine hK _ ?_) | (refine aw_drw mixd (fun K hK => ?_); simp -implicitDefEqProofs [c8, cs, hn, wl, wn, na, nb, hnl, h1, h2, h3]; refine hK _ _ (by rfl) ?_) | fail)
    refine aw_ret (fin_ret ?_); simp -implicitDefEqProofs [FinP, resV, resT] <;> try rfl
  have h1 : ((n : Nat) : Int) < (ml.length : Nat) := by omega
  have h2 : ¬ (ml.length : Int) ≤ (n : Nat) := by omega
  have h3 : ¬ ml.length ≤ n := by omega
  obtain ⟨⟨dx, dl⟩, hd⟩ : ∃ d, ml[n]? = some d := ⟨_, List.getElem?_eq_getElem hnl⟩
  have hd' := (List.getElem?_eq_some_iff.1 hd).2
  have hds := Tr.size_at (x := mx) hd
  have hdl := Tr.len_size (x := dx) (l := dl)
  rw [show (ml[n]?).bind conD = conD (.mk dx dl) by rw [hd]; rfl]
  by_cases d31 : dx.k = 31; rotate_left
  · rw [show conD (.mk dx dl) = none by unfold conD; exact if_neg (fun h => d31 h.1)]
    refine row_of Try.func27 rfl rfl (Nat.le_of_ble_eq_true rfl) ?_
    repeat (first | refine aw_seq ?_ | refine aw_skip ?_ | refine aw_block ?_ | refine aw_exit ?_ | refine aw_cond rfl (fun _ => ?_) (fun hb => absurd hb (by decide)) | refine aw_cond rfl (fun hb => absurd hb (by decide)) (fun _ => ?_) | (refine aw_reg (fun K hK => ?_); simp -implicitDefEqProofs [c8, cs, hn, wl, wn, na, nb, hnl, h1, h2, h3, hd, hd', d31]; refine hK _ ?_) | (refine aw_drw mixd (fun K hK => ?_); simp -implicitDefEqProofs [c8, cs, hn, wl, wn, na, nb, hnl, h1, h2, h3, hd, hd', d31]; refine hK _ _ (by rfl) ?_) | fail)
    refine aw_ret (fin_ret ?_); simp -implicitDefEqProofs [FinP, resV, resT] <;> try rfl
  by_cases d1 : dl.length = 1; rotate_left
  · have d1a : ¬ (dl.length : Int) = 1 := by omega
    rw [show conD (.mk dx dl) = none by unfold conD; exact if_neg (fun h => d1 h.2.1)]
    refine row_of Try.func27 rfl rfl (Nat.le_of_ble_eq_true rfl) ?_
    repeat (first | refine aw_seq ?_ | refine aw_skip ?_ | refine aw_block ?_ | refine aw_exit ?_ | refine aw_cond rfl (fun _ => ?_) (fun hb => absurd hb (by decide)) | refine aw_cond rfl (fun hb => absurd hb (by decide)) (fun _ => ?_) | (refine aw_reg (fun K hK => ?_); simp -implicitDefEqProofs [c8, cs, hn, wl, wn, na, nb, hnl, h1, h2, h3, hd, hd', d31, d1, d1a]; refine hK _ ?_) | (refine aw_drw mixd (fun K hK => ?_); simp -implicitDefEqProofs [c8, cs, hn, wl, wn, na, nb, hnl, h1, h2, h3, hd, hd', d31, d1, d1a]; refine hK _ _ (by rfl) ?_) | fail)
    refine aw_ret (fin_ret ?_); simp -implicitDefEqProofs [FinP, resV, resT] <;> try rfl
  obtain ⟨⟨ex, el⟩, rfl⟩ := one_of d1
  have hli := islit_row ex el
  have hcd : conD (.mk dx [.mk ex el]) = if litB ex el.length = true then some (.mk ex el) else none := by unfold conD; simp [Tr.lab, Tr.kids, d31]
  rw [hcd]
  clear hcd
  obtain ⟨q, hq⟩ : ∃ q, litB ex el.length = q := ⟨_, rfl⟩
  rw [hq] at hli ⊢
  clear hq
  cases q with
  | true =>
    refine row_of Try.func27 rfl rfl (Nat.le_of_ble_eq_true rfl) ?_
    repeat' (first | refine aw_seq ?_ | refine aw_skip ?_ | refine aw_block ?_ | refine aw_exit ?_ | refine aw_cond rfl (fun _ => ?_) (fun hb => absurd hb (by decide)) | refine aw_cond rfl (fun hb => absurd hb (by decide)) (fun _ => ?_) | (refine aw_reg (fun K hK => ?_); simp -implicitDefEqProofs [c8, cs, hn, wl, wn, na, nb, hnl, h1, h2, h3, hd, hd', d31]) | (refine aw_drw mixd (fun K hK => ?_); simp -implicitDefEqProofs [c8, cs, hn, wl, wn, na, nb, hnl, h1, h2, h3, hd, hd', d31]) | refine hK _ ?_ | refine hK _ _ (by rfl) ?_ | (refine ar_call (cp hli ?_); simp -implicitDefEqProofs [c8, cs, hn, wl, wn, na, nb, hnl, h1, h2, h3, hd, hd', d31]) | (refine ard_call (dp hli ?_); simp -implicitDefEqProofs [c8, cs, hn, wl, wn, na, nb, hnl, h1, h2, h3, hd, hd', d31]) | fail)
    refine aw_ret (fin_ret ?_); simp -implicitDefEqProofs [FinP, resV, resT] <;> try rfl
  | false =>
    refine row_of Try.func27 rfl rfl (Nat.le_of_ble_eq_true rfl) ?_
    repeat' (first | refine aw_seq ?_ | refine aw_skip ?_ | refine aw_block ?_ | refine aw_exit ?_ | refine aw_cond rfl (fun _ => ?_) (fun hb => absurd hb (by decide)) | refine aw_cond rfl (fun hb => absurd hb (by decide)) (fun _ => ?_) | (refine aw_reg (fun K hK => ?_); simp -implicitDefEqProofs [c8, cs, hn, wl, wn, na, nb, hnl, h1, h2, h3, hd, hd', d31]) | (refine aw_drw mixd (fun K hK => ?_); simp -implicitDefEqProofs [c8, cs, hn, wl, wn, na, nb, hnl, h1, h2, h3, hd, hd', d31]) | refine hK _ ?_ | refine hK _ _ (by rfl) ?_ | (refine ar_call (cp hli ?_); simp -implicitDefEqProofs [c8, cs, hn, wl, wn, na, nb, hnl, h1, h2, h3, hd, hd', d31]) | (refine ard_call (dp hli ?_); simp -implicitDefEqProofs [c8, cs, hn, wl, wn, na, nb, hnl, h1, h2, h3, hd, hd', d31]) | fail)
    refine aw_ret (fin_ret ?_); simp -implicitDefEqProofs [FinP, resV, resT] <;> try rfl
set_option maxRecDepth 100000 in
set_option maxHeartbeats 4000000 in
theorem rside31_row (m : VT) (hms : m.size ≤ 1000000) (x : Lab) (l : List VT) (hx : x.ok) (hl : l.length ≤ 1000000) : Row Try.prog 31 [vT m, vI 31, vT (.mk x l)] [] (vO (conF m x l)) [] := by
  by_cases cs : x.s = ⟨#[]⟩; rotate_left
  · rw [show conF m x l = none by simp [conF, cs]]
    obtain ⟨mx, ml⟩ := m
    refine row_of Try.func31 rfl rfl (Nat.le_of_ble_eq_true rfl) ?_
    repeat (first | refine aw_seq ?_ | refine aw_skip ?_ | refine aw_block ?_ | refine aw_exit ?_ | refine aw_cond rfl (fun _ => ?_) (fun hb => absurd hb (by decide)) | refine aw_cond rfl (fun hb => absurd hb (by decide)) (fun _ => ?_) | (refine aw_reg (fun K hK => ?_); simp -implicitDefEqProofs [cs]; refine hK _ ?_) | (refine aw_drw mixd (fun K hK => ?_); simp -implicitDefEqProofs [cs]; refine hK _ _ (by rfl) ?_) | fail)
    refine aw_ret (fin_ret ?_); simp -implicitDefEqProofs [FinP, resV, resT] <;> try rfl
  by_cases c8 : x.k = 8; rotate_left
  · rw [show conF m x l = none by simp [conF, c8]]
    obtain ⟨mx, ml⟩ := m
    refine row_of Try.func31 rfl rfl (Nat.le_of_ble_eq_true rfl) ?_
    repeat (first | refine aw_seq ?_ | refine aw_skip ?_ | refine aw_block ?_ | refine aw_exit ?_ | refine aw_cond rfl (fun _ => ?_) (fun hb => absurd hb (by decide)) | refine aw_cond rfl (fun hb => absurd hb (by decide)) (fun _ => ?_) | (refine aw_reg (fun K hK => ?_); simp -implicitDefEqProofs [cs, c8]; refine hK _ ?_) | (refine aw_drw mixd (fun K hK => ?_); simp -implicitDefEqProofs [cs, c8]; refine hK _ _ (by rfl) ?_) | fail)
    refine aw_ret (fin_ret ?_); simp -implicitDefEqProofs [FinP, resV, resT] <;> try rfl
  by_cases l0 : l.length = 0; rotate_left
  · have l0a : ¬ (l.length : Int) = 0 := by omega
    have l0b : (0 : Int) < (l.length : Int) := by omega
    have l0c : 0 < l.length := by omega
    rw [show conF m x l = none by unfold conF; exact if_neg (fun h => l0 h.2.2.1)]
    obtain ⟨mx, ml⟩ := m
    refine row_of Try.func31 rfl rfl (Nat.le_of_ble_eq_true rfl) ?_
    repeat (first | refine aw_seq ?_ | refine aw_skip ?_ | refine aw_block ?_ | refine aw_exit ?_ | refine aw_cond rfl (fun _ => ?_) (fun hb => absurd hb (by decide)) | refine aw_cond rfl (fun hb => absurd hb (by decide)) (fun _ => ?_) | (refine aw_reg (fun K hK => ?_); simp -implicitDefEqProofs [c8, cs, l0, l0a, l0b, l0c]; refine hK _ ?_) | (refine aw_drw mixd (fun K hK => ?_); simp -implicitDefEqProofs [c8, cs, l0, l0a, l0b, l0c]; refine hK _ _ (by rfl) ?_) | fail)
    refine aw_ret (fin_ret ?_); simp -implicitDefEqProofs [FinP, resV, resT] <;> try rfl
  obtain rfl := List.eq_nil_of_length_eq_zero l0
  by_cases n0 : x.n < 0
  · have n0a : ¬ 0 ≤ x.n := by omega
    rw [show conF m x [] = none by unfold conF; exact if_neg (fun h => n0a h.2.2.2)]
    obtain ⟨mx, ml⟩ := m
    refine row_of Try.func31 rfl rfl (Nat.le_of_ble_eq_true rfl) ?_
    repeat (first | refine aw_seq ?_ | refine aw_skip ?_ | refine aw_block ?_ | refine aw_exit ?_ | refine aw_cond rfl (fun _ => ?_) (fun hb => absurd hb (by decide)) | refine aw_cond rfl (fun hb => absurd hb (by decide)) (fun _ => ?_) | (refine aw_reg (fun K hK => ?_); simp -implicitDefEqProofs [c8, cs, n0, n0a]; refine hK _ ?_) | (refine aw_drw mixd (fun K hK => ?_); simp -implicitDefEqProofs [c8, cs, n0, n0a]; refine hK _ _ (by rfl) ?_) | fail)
    refine aw_ret (fin_ret ?_); simp -implicitDefEqProofs [FinP, resV, resT] <;> try rfl
  obtain ⟨n, hn⟩ : ∃ n : Nat, x.n = n := ⟨x.n.toNat, by omega⟩
  have hcf : conF m x [] = (m.kids[n]?).bind conD := by unfold conF; rw [if_pos ⟨c8, cs, rfl, by omega⟩, hn, Int.toNat_natCast]
  rw [hcf]
  clear hcf
  obtain ⟨mx, ml⟩ := m
  rw [Tr.kids]
  have hml := Tr.len_size (x := mx) (l := ml)
  have wl : IntKind.i64.wrap ((ml.length : Nat) : Int) = (ml.length : Nat) := i64i _ (by omega) (by omega)
  have wn : IntKind.i64.wrap ((n : Nat) : Int) = (n : Nat) := i64i _ (by have := hx.2.1; omega) (by have := hx.2.1; omega)
  have na : ¬ ((n : Nat) : Int) < 0 := by omega
  have nb : (0 : Int) ≤ (n : Nat) := by omega
  by_cases hnl : n < ml.length; rotate_left
  · have h1 : ¬ ((n : Nat) : Int) < (ml.length : Nat) := by omega
    have h2 : (ml.length : Int) ≤ (n : Nat) := by omega
    have h3 : ml.length ≤ n := by omega
    rw [List.getElem?_eq_none h3]
    refine row_of Try.func31 rfl rfl (Nat.le_of_ble_eq_true rfl) ?_
    repeat (first | refine aw_seq ?_ | refine aw_skip ?_ | refine aw_block ?_ | refine aw_exit ?_ | refine aw_cond rfl (fun _ => ?_) (fun hb => absurd hb (by decide)) | refine aw_cond rfl (fun hb => absurd hb (by decide)) (fun _ => ?_) | (refine aw_reg (fun K hK => ?_); simp -implicitDefEqProofs [c8, cs, hn, wl, wn, na, nb, hnl, h1, h2, h3]; refine hK _ ?_) | (refine aw_drw mixd (fun K hK => ?_); simp -implicitDefEqProofs [c8, cs, hn, wl, wn, na, nb, hnl, h1, h2, h3]; refine hK _ _ (by rfl) ?_) | fail)
    refine aw_ret (fin_ret ?_); simp -implicitDefEqProofs [FinP, resV, resT] <;> try rfl
  have h1 : ((n : Nat) : Int) < (ml.length : Nat) := by omega
  have h2 : ¬ (ml.length : Int) ≤ (n : Nat) := by omega
  have h3 : ¬ ml.length ≤ n := by omega
  obtain ⟨⟨dx, dl⟩, hd⟩ : ∃ d, ml[n]? = some d := ⟨_, List.getElem?_eq_getElem hnl⟩
  have hd' := (List.getElem?_eq_some_iff.1 hd).2
  have hds := Tr.size_at (x := mx) hd
  have hdl := Tr.len_size (x := dx) (l := dl)
  rw [show (ml[n]?).bind conD = conD (.mk dx dl) by rw [hd]; rfl]
  by_cases d31 : dx.k = 31; rotate_left
  · rw [show conD (.mk dx dl) = none by unfold conD; exact if_neg (fun h => d31 h.1)]
    refine row_of Try.func31 rfl rfl (Nat.le_of_ble_eq_true rfl) ?_
    repeat (first | refine aw_seq ?_ | refine aw_skip ?_ | refine aw_block ?_ | refine aw_exit ?_ | refine aw_cond rfl (fun _ => ?_) (fun hb => absurd hb (by decide)) | refine aw_cond rfl (fun hb => absurd hb (by decide)) (fun _ => ?_) | (refine aw_reg (fun K hK => ?_); simp -implicitDefEqProofs [c8, cs, hn, wl, wn, na, nb, hnl, h1, h2, h3, hd, hd', d31]; refine hK _ ?_) | (refine aw_drw mixd (fun K hK => ?_); simp -implicitDefEqProofs [c8, cs, hn, wl, wn, na, nb, hnl, h1, h2, h3, hd, hd', d31]; refine hK _ _ (by rfl) ?_) | fail)
    refine aw_ret (fin_ret ?_); simp -implicitDefEqProofs [FinP, resV, resT] <;> try rfl
  by_cases d1 : dl.length = 1; rotate_left
  · have d1a : ¬ (dl.length : Int) = 1 := by omega
    rw [show conD (.mk dx dl) = none by unfold conD; exact if_neg (fun h => d1 h.2.1)]
    refine row_of Try.func31 rfl rfl (Nat.le_of_ble_eq_true rfl) ?_
    repeat (first | refine aw_seq ?_ | refine aw_skip ?_ | refine aw_block ?_ | refine aw_exit ?_ | refine aw_cond rfl (fun _ => ?_) (fun hb => absurd hb (by decide)) | refine aw_cond rfl (fun hb => absurd hb (by decide)) (fun _ => ?_) | (refine aw_reg (fun K hK => ?_); simp -implicitDefEqProofs [c8, cs, hn, wl, wn, na, nb, hnl, h1, h2, h3, hd, hd', d31, d1, d1a]; refine hK _ ?_) | (refine aw_drw mixd (fun K hK => ?_); simp -implicitDefEqProofs [c8, cs, hn, wl, wn, na, nb, hnl, h1, h2, h3, hd, hd', d31, d1, d1a]; refine hK _ _ (by rfl) ?_) | fail)
    refine aw_ret (fin_ret ?_); simp -implicitDefEqProofs [FinP, resV, resT] <;> try rfl
  obtain ⟨⟨ex, el⟩, rfl⟩ := one_of d1
  have hli := rislit_row ex el
  have hcd : conD (.mk dx [.mk ex el]) = if litB ex el.length = true then some (.mk ex el) else none := by unfold conD; simp [Tr.lab, Tr.kids, d31]
  rw [hcd]
  clear hcd
  obtain ⟨q, hq⟩ : ∃ q, litB ex el.length = q := ⟨_, rfl⟩
  rw [hq] at hli ⊢
  clear hq
  cases q with
  | true =>
    refine row_of Try.func31 rfl rfl (Nat.le_of_ble_eq_true rfl) ?_
    repeat' (first | refine aw_seq ?_ | refine aw_skip ?_ | refine aw_block ?_ | refine aw_exit ?_ | refine aw_cond rfl (fun _ => ?_) (fun hb => absurd hb (by decide)) | refine aw_cond rfl (fun hb => absurd hb (by decide)) (fun _ => ?_) | (refine aw_reg (fun K hK => ?_); simp -implicitDefEqProofs [c8, cs, hn, wl, wn, na, nb, hnl, h1, h2, h3, hd, hd', d31]) | (refine aw_drw mixd (fun K hK => ?_); simp -implicitDefEqProofs [c8, cs, hn, wl, wn, na, nb, hnl, h1, h2, h3, hd, hd', d31]) | refine hK _ ?_ | refine hK _ _ (by rfl) ?_ | (refine ar_call (cp hli ?_); simp -implicitDefEqProofs [c8, cs, hn, wl, wn, na, nb, hnl, h1, h2, h3, hd, hd', d31]) | (refine ard_call (dp hli ?_); simp -implicitDefEqProofs [c8, cs, hn, wl, wn, na, nb, hnl, h1, h2, h3, hd, hd', d31]) | fail)
    refine aw_ret (fin_ret ?_); simp -implicitDefEqProofs [FinP, resV, resT] <;> try rfl
  | false =>
    refine row_of Try.func31 rfl rfl (Nat.le_of_ble_eq_true rfl) ?_
    repeat' (first | refine aw_seq ?_ | refine aw_skip ?_ | refine aw_block ?_ | refine aw_exit ?_ | refine aw_cond rfl (fun _ => ?_) (fun hb => absurd hb (by decide)) | refine aw_cond rfl (fun hb => absurd hb (by decide)) (fun _ => ?_) | (refine aw_reg (fun K hK => ?_); simp -implicitDefEqProofs [c8, cs, hn, wl, wn, na, nb, hnl, h1, h2, h3, hd, hd', d31]) | (refine aw_drw mixd (fun K hK => ?_); simp -implicitDefEqProofs [c8, cs, hn, wl, wn, na, nb, hnl, h1, h2, h3, hd, hd', d31]) | refine hK _ ?_ | refine hK _ _ (by rfl) ?_ | (refine ar_call (cp hli ?_); simp -implicitDefEqProofs [c8, cs, hn, wl, wn, na, nb, hnl, h1, h2, h3, hd, hd', d31]) | (refine ard_call (dp hli ?_); simp -implicitDefEqProofs [c8, cs, hn, wl, wn, na, nb, hnl, h1, h2, h3, hd, hd', d31]) | fail)
    refine aw_ret (fin_ret ?_); simp -implicitDefEqProofs [FinP, resV, resT] <;> try rfl
set_option maxRecDepth 100000 in
set_option maxHeartbeats 4000000 in
theorem field_row (x : Lab) (l : List VT) (hx : x.ok) (hin : in64 (.mk x l)) (hsz : (Tr.mk x l).size ≤ 1000000) : Row Try.prog 28 [vT (.mk x l)] [] (vO (fieF x l)) [] := by
  have hlen := Tr.len_size (x := x) (l := l)
  by_cases c13 : x.k = 13; rotate_left
  · rw [show fieF x l = none by unfold fieF; exact if_neg (fun h => c13 h.1)]
    refine row_of Try.func28 rfl rfl (Nat.le_of_ble_eq_true rfl) ?_
    repeat (first | refine aw_seq ?_ | refine aw_skip ?_ | refine aw_block ?_ | refine aw_exit ?_ | refine aw_cond rfl (fun _ => ?_) (fun hb => absurd hb (by decide)) | refine aw_cond rfl (fun hb => absurd hb (by decide)) (fun _ => ?_) | (refine aw_reg (fun K hK => ?_); simp -implicitDefEqProofs [c13]; refine hK _ ?_) | (refine aw_drw mixd (fun K hK => ?_); simp -implicitDefEqProofs [c13]; refine hK _ _ (by rfl) ?_) | fail)
    refine aw_ret (fin_ret ?_); simp -implicitDefEqProofs [FinP, resV, resT] <;> try rfl
  by_cases cs : x.s = ⟨#[]⟩; rotate_left
  · rw [show fieF x l = none by unfold fieF; exact if_neg (fun h => cs h.2.1)]
    refine row_of Try.func28 rfl rfl (Nat.le_of_ble_eq_true rfl) ?_
    repeat (first | refine aw_seq ?_ | refine aw_skip ?_ | refine aw_block ?_ | refine aw_exit ?_ | refine aw_cond rfl (fun _ => ?_) (fun hb => absurd hb (by decide)) | refine aw_cond rfl (fun hb => absurd hb (by decide)) (fun _ => ?_) | (refine aw_reg (fun K hK => ?_); simp -implicitDefEqProofs [c13, cs]; refine hK _ ?_) | (refine aw_drw mixd (fun K hK => ?_); simp -implicitDefEqProofs [c13, cs]; refine hK _ _ (by rfl) ?_) | fail)
    refine aw_ret (fin_ret ?_); simp -implicitDefEqProofs [FinP, resV, resT] <;> try rfl
  by_cases l1 : l.length = 1; rotate_left
  · have l1a : ¬ (l.length : Int) = 1 := by omega
    rw [show fieF x l = none by unfold fieF; exact if_neg (fun h => l1 h.2.2.1)]
    refine row_of Try.func28 rfl rfl (Nat.le_of_ble_eq_true rfl) ?_
    repeat (first | refine aw_seq ?_ | refine aw_skip ?_ | refine aw_block ?_ | refine aw_exit ?_ | refine aw_cond rfl (fun _ => ?_) (fun hb => absurd hb (by decide)) | refine aw_cond rfl (fun hb => absurd hb (by decide)) (fun _ => ?_) | (refine aw_reg (fun K hK => ?_); simp -implicitDefEqProofs [c13, cs, l1, l1a]; refine hK _ ?_) | (refine aw_drw mixd (fun K hK => ?_); simp -implicitDefEqProofs [c13, cs, l1, l1a]; refine hK _ _ (by rfl) ?_) | fail)
    refine aw_ret (fin_ret ?_); simp -implicitDefEqProofs [FinP, resV, resT] <;> try rfl
  obtain ⟨⟨ax, al⟩, rfl⟩ := one_of l1
  have has := Tr.size_at (x := x) (l := [Tr.mk ax al]) (i := 0) rfl
  have hai := ((Tr.all_mk _ _ _).1 hin).2 (.mk ax al) (by simp)
  have hal := Tr.len_size (x := ax) (l := al)
  have hff : fieF x [.mk ax al] = if 0 ≤ x.n ∧ ax.k = 15 ∧ ax.s = ⟨#[]⟩ ∧ ax.n = x.n / 64 then prtF al (x.n % 64) else none := by unfold fieF; simp [Tr.lab, Tr.kids, c13, cs]
  rw [hff]
  clear hff
  by_cases n0 : 0 ≤ x.n; rotate_left
  · have n0a : x.n < 0 := by omega
    rw [if_neg (fun h => n0 h.1)]
    refine row_of Try.func28 rfl rfl (Nat.le_of_ble_eq_true rfl) ?_
    repeat (first | refine aw_seq ?_ | refine aw_skip ?_ | refine aw_block ?_ | refine aw_exit ?_ | refine aw_cond rfl (fun _ => ?_) (fun hb => absurd hb (by decide)) | refine aw_cond rfl (fun hb => absurd hb (by decide)) (fun _ => ?_) | (refine aw_reg (fun K hK => ?_); simp -implicitDefEqProofs [c13, cs, n0, n0a]; refine hK _ ?_) | (refine aw_drw mixd (fun K hK => ?_); simp -implicitDefEqProofs [c13, cs, n0, n0a]; refine hK _ _ (by rfl) ?_) | fail)
    refine aw_ret (fin_ret ?_); simp -implicitDefEqProofs [FinP, resV, resT] <;> try rfl
  have n0a : ¬ x.n < 0 := by omega
  obtain ⟨wd, wm⟩ := div64 n0 hx.2.1.2
  by_cases a15 : ax.k = 15; rotate_left
  · rw [if_neg (fun h => a15 h.2.1)]
    refine row_of Try.func28 rfl rfl (Nat.le_of_ble_eq_true rfl) ?_
    repeat (first | refine aw_seq ?_ | refine aw_skip ?_ | refine aw_block ?_ | refine aw_exit ?_ | refine aw_cond rfl (fun _ => ?_) (fun hb => absurd hb (by decide)) | refine aw_cond rfl (fun hb => absurd hb (by decide)) (fun _ => ?_) | (refine aw_reg (fun K hK => ?_); simp -implicitDefEqProofs [c13, cs, n0, n0a, a15]; refine hK _ ?_) | (refine aw_drw mixd (fun K hK => ?_); simp -implicitDefEqProofs [c13, cs, n0, n0a, a15]; refine hK _ _ (by rfl) ?_) | fail)
    refine aw_ret (fin_ret ?_); simp -implicitDefEqProofs [FinP, resV, resT] <;> try rfl
  by_cases ay : ax.s = ⟨#[]⟩; rotate_left
  · rw [if_neg (fun h => ay h.2.2.1)]
    refine row_of Try.func28 rfl rfl (Nat.le_of_ble_eq_true rfl) ?_
    repeat (first | refine aw_seq ?_ | refine aw_skip ?_ | refine aw_block ?_ | refine aw_exit ?_ | refine aw_cond rfl (fun _ => ?_) (fun hb => absurd hb (by decide)) | refine aw_cond rfl (fun hb => absurd hb (by decide)) (fun _ => ?_) | (refine aw_reg (fun K hK => ?_); simp -implicitDefEqProofs [c13, cs, n0, n0a, a15, ay]; refine hK _ ?_) | (refine aw_drw mixd (fun K hK => ?_); simp -implicitDefEqProofs [c13, cs, n0, n0a, a15, ay]; refine hK _ _ (by rfl) ?_) | fail)
    refine aw_ret (fin_ret ?_); simp -implicitDefEqProofs [FinP, resV, resT] <;> try rfl
  by_cases an : ax.n = x.n / 64; rotate_left
  · have an' : ¬ x.n / 64 = ax.n := fun h => an h.symm
    rw [if_neg (fun h => an h.2.2.2)]
    refine row_of Try.func28 rfl rfl (Nat.le_of_ble_eq_true rfl) ?_
    repeat (first | refine aw_seq ?_ | refine aw_skip ?_ | refine aw_block ?_ | refine aw_exit ?_ | refine aw_cond rfl (fun _ => ?_) (fun hb => absurd hb (by decide)) | refine aw_cond rfl (fun hb => absurd hb (by decide)) (fun _ => ?_) | (refine aw_reg (fun K hK => ?_); simp -implicitDefEqProofs [c13, cs, n0, n0a, a15, ay, wd, an, an']; refine hK _ ?_) | (refine aw_drw mixd (fun K hK => ?_); simp -implicitDefEqProofs [c13, cs, n0, n0a, a15, ay, wd, an, an']; refine hK _ _ (by rfl) ?_) | fail)
    refine aw_ret (fin_ret ?_); simp -implicitDefEqProofs [FinP, resV, resT] <;> try rfl
  rw [if_pos ⟨n0, a15, ay, an⟩]
  have hp := alone_row al (by omega) (fun y hy => ⟨((Tr.all_mk _ _ _).1 hai).2 y hy, by have := kid_lt (x := ax) hy; omega⟩) (x.n % 64) (by omega)
  obtain ⟨⟨ux, ul⟩, hu⟩ : ∃ t, (prtF al (x.n % 64)).getD z0T = t := ⟨_, rfl⟩
  obtain ⟨q, hq⟩ : ∃ q, (prtF al (x.n % 64)).isSome = q := ⟨_, rfl⟩
  unfold vO at hp ⊢
  rw [hu, hq] at hp ⊢
  clear hu hq
  refine row_of Try.func28 rfl rfl (Nat.le_of_ble_eq_true rfl) ?_
  repeat' (first | refine aw_seq ?_ | refine aw_skip ?_ | refine aw_block ?_ | refine aw_exit ?_ | refine aw_cond rfl (fun _ => ?_) (fun hb => absurd hb (by decide)) | refine aw_cond rfl (fun hb => absurd hb (by decide)) (fun _ => ?_) | (refine aw_reg (fun K hK => ?_); simp -implicitDefEqProofs [c13, cs, n0, n0a, a15, ay, wd, wm, an]) | (refine aw_drw mixd (fun K hK => ?_); simp -implicitDefEqProofs [c13, cs, n0, n0a, a15, ay, wd, wm, an]) | refine hK _ ?_ | refine hK _ _ (by rfl) ?_ | (refine ar_call (cp hp ?_); simp -implicitDefEqProofs [c13, cs, n0, n0a, a15, ay, wd, wm, an]) | (refine ard_call (dp hp ?_); simp -implicitDefEqProofs [c13, cs, n0, n0a, a15, ay, wd, wm, an]) | fail)
  refine aw_ret (fin_ret ?_); simp -implicitDefEqProofs [FinP, resV, resT] <;> try rfl
set_option maxRecDepth 100000 in
set_option maxHeartbeats 4000000 in
theorem rside32_row (m : VT) (x : Lab) (l : List VT) (hx : x.ok) (hin : in64 (.mk x l)) (hsz : (Tr.mk x l).size ≤ 1000000) : Row Try.prog 31 [vT m, vI 32, vT (.mk x l)] [] (vO (fieF x l)) [] := by
  obtain ⟨mx, ml⟩ := m
  have hlen := Tr.len_size (x := x) (l := l)
  by_cases cs : x.s = ⟨#[]⟩; rotate_left
  · rw [show fieF x l = none by unfold fieF; exact if_neg (fun h => cs h.2.1)]
    refine row_of Try.func31 rfl rfl (Nat.le_of_ble_eq_true rfl) ?_
    repeat (first | refine aw_seq ?_ | refine aw_skip ?_ | refine aw_block ?_ | refine aw_exit ?_ | refine aw_cond rfl (fun _ => ?_) (fun hb => absurd hb (by decide)) | refine aw_cond rfl (fun hb => absurd hb (by decide)) (fun _ => ?_) | (refine aw_reg (fun K hK => ?_); simp -implicitDefEqProofs [cs]; refine hK _ ?_) | (refine aw_drw mixd (fun K hK => ?_); simp -implicitDefEqProofs [cs]; refine hK _ _ (by rfl) ?_) | fail)
    refine aw_ret (fin_ret ?_); simp -implicitDefEqProofs [FinP, resV, resT] <;> try rfl
  by_cases c13 : x.k = 13; rotate_left
  · rw [show fieF x l = none by unfold fieF; exact if_neg (fun h => c13 h.1)]
    refine row_of Try.func31 rfl rfl (Nat.le_of_ble_eq_true rfl) ?_
    repeat (first | refine aw_seq ?_ | refine aw_skip ?_ | refine aw_block ?_ | refine aw_exit ?_ | refine aw_cond rfl (fun _ => ?_) (fun hb => absurd hb (by decide)) | refine aw_cond rfl (fun hb => absurd hb (by decide)) (fun _ => ?_) | (refine aw_reg (fun K hK => ?_); simp -implicitDefEqProofs [cs, c13]; refine hK _ ?_) | (refine aw_drw mixd (fun K hK => ?_); simp -implicitDefEqProofs [cs, c13]; refine hK _ _ (by rfl) ?_) | fail)
    refine aw_ret (fin_ret ?_); simp -implicitDefEqProofs [FinP, resV, resT] <;> try rfl
  by_cases l1 : l.length = 1; rotate_left
  · have l1a : ¬ (l.length : Int) = 1 := by omega
    rw [show fieF x l = none by unfold fieF; exact if_neg (fun h => l1 h.2.2.1)]
    refine row_of Try.func31 rfl rfl (Nat.le_of_ble_eq_true rfl) ?_
    repeat (first | refine aw_seq ?_ | refine aw_skip ?_ | refine aw_block ?_ | refine aw_exit ?_ | refine aw_cond rfl (fun _ => ?_) (fun hb => absurd hb (by decide)) | refine aw_cond rfl (fun hb => absurd hb (by decide)) (fun _ => ?_) | (refine aw_reg (fun K hK => ?_); simp -implicitDefEqProofs [c13, cs, l1, l1a]; refine hK _ ?_) | (refine aw_drw mixd (fun K hK => ?_); simp -implicitDefEqProofs [c13, cs, l1, l1a]; refine hK _ _ (by rfl) ?_) | fail)
    refine aw_ret (fin_ret ?_); simp -implicitDefEqProofs [FinP, resV, resT] <;> try rfl
  obtain ⟨⟨ax, al⟩, rfl⟩ := one_of l1
  have has := Tr.size_at (x := x) (l := [Tr.mk ax al]) (i := 0) rfl
  have hai := ((Tr.all_mk _ _ _).1 hin).2 (.mk ax al) (by simp)
  have hal := Tr.len_size (x := ax) (l := al)
  have hff : fieF x [.mk ax al] = if 0 ≤ x.n ∧ ax.k = 15 ∧ ax.s = ⟨#[]⟩ ∧ ax.n = x.n / 64 then prtF al (x.n % 64) else none := by unfold fieF; simp [Tr.lab, Tr.kids, c13, cs]
  rw [hff]
  clear hff
  by_cases n0 : 0 ≤ x.n; rotate_left
  · have n0a : x.n < 0 := by omega
    rw [if_neg (fun h => n0 h.1)]
    refine row_of Try.func31 rfl rfl (Nat.le_of_ble_eq_true rfl) ?_
    repeat (first | refine aw_seq ?_ | refine aw_skip ?_ | refine aw_block ?_ | refine aw_exit ?_ | refine aw_cond rfl (fun _ => ?_) (fun hb => absurd hb (by decide)) | refine aw_cond rfl (fun hb => absurd hb (by decide)) (fun _ => ?_) | (refine aw_reg (fun K hK => ?_); simp -implicitDefEqProofs [c13, cs, n0, n0a]; refine hK _ ?_) | (refine aw_drw mixd (fun K hK => ?_); simp -implicitDefEqProofs [c13, cs, n0, n0a]; refine hK _ _ (by rfl) ?_) | fail)
    refine aw_ret (fin_ret ?_); simp -implicitDefEqProofs [FinP, resV, resT] <;> try rfl
  have n0a : ¬ x.n < 0 := by omega
  obtain ⟨wd, wm⟩ := div64 n0 hx.2.1.2
  by_cases a15 : ax.k = 15; rotate_left
  · rw [if_neg (fun h => a15 h.2.1)]
    refine row_of Try.func31 rfl rfl (Nat.le_of_ble_eq_true rfl) ?_
    repeat (first | refine aw_seq ?_ | refine aw_skip ?_ | refine aw_block ?_ | refine aw_exit ?_ | refine aw_cond rfl (fun _ => ?_) (fun hb => absurd hb (by decide)) | refine aw_cond rfl (fun hb => absurd hb (by decide)) (fun _ => ?_) | (refine aw_reg (fun K hK => ?_); simp -implicitDefEqProofs [c13, cs, n0, n0a, a15]; refine hK _ ?_) | (refine aw_drw mixd (fun K hK => ?_); simp -implicitDefEqProofs [c13, cs, n0, n0a, a15]; refine hK _ _ (by rfl) ?_) | fail)
    refine aw_ret (fin_ret ?_); simp -implicitDefEqProofs [FinP, resV, resT] <;> try rfl
  by_cases ay : ax.s = ⟨#[]⟩; rotate_left
  · rw [if_neg (fun h => ay h.2.2.1)]
    refine row_of Try.func31 rfl rfl (Nat.le_of_ble_eq_true rfl) ?_
    repeat (first | refine aw_seq ?_ | refine aw_skip ?_ | refine aw_block ?_ | refine aw_exit ?_ | refine aw_cond rfl (fun _ => ?_) (fun hb => absurd hb (by decide)) | refine aw_cond rfl (fun hb => absurd hb (by decide)) (fun _ => ?_) | (refine aw_reg (fun K hK => ?_); simp -implicitDefEqProofs [c13, cs, n0, n0a, a15, ay]; refine hK _ ?_) | (refine aw_drw mixd (fun K hK => ?_); simp -implicitDefEqProofs [c13, cs, n0, n0a, a15, ay]; refine hK _ _ (by rfl) ?_) | fail)
    refine aw_ret (fin_ret ?_); simp -implicitDefEqProofs [FinP, resV, resT] <;> try rfl
  by_cases an : ax.n = x.n / 64; rotate_left
  · have an' : ¬ x.n / 64 = ax.n := fun h => an h.symm
    rw [if_neg (fun h => an h.2.2.2)]
    refine row_of Try.func31 rfl rfl (Nat.le_of_ble_eq_true rfl) ?_
    repeat (first | refine aw_seq ?_ | refine aw_skip ?_ | refine aw_block ?_ | refine aw_exit ?_ | refine aw_cond rfl (fun _ => ?_) (fun hb => absurd hb (by decide)) | refine aw_cond rfl (fun hb => absurd hb (by decide)) (fun _ => ?_) | (refine aw_reg (fun K hK => ?_); simp -implicitDefEqProofs [c13, cs, n0, n0a, a15, ay, wd, an, an']; refine hK _ ?_) | (refine aw_drw mixd (fun K hK => ?_); simp -implicitDefEqProofs [c13, cs, n0, n0a, a15, ay, wd, an, an']; refine hK _ _ (by rfl) ?_) | fail)
    refine aw_ret (fin_ret ?_); simp -implicitDefEqProofs [FinP, resV, resT] <;> try rfl
  rw [if_pos ⟨n0, a15, ay, an⟩]
  have hp := rpart27_row al (by omega) (fun y hy => ⟨((Tr.all_mk _ _ _).1 hai).2 y hy, by have := kid_lt (x := ax) hy; omega⟩) (x.n % 64) (by omega)
  obtain ⟨⟨ux, ul⟩, hu⟩ : ∃ t, (prtF al (x.n % 64)).getD z0T = t := ⟨_, rfl⟩
  obtain ⟨q, hq⟩ : ∃ q, (prtF al (x.n % 64)).isSome = q := ⟨_, rfl⟩
  unfold vO at hp ⊢
  rw [hu, hq] at hp ⊢
  clear hu hq
  refine row_of Try.func31 rfl rfl (Nat.le_of_ble_eq_true rfl) ?_
  repeat' (first | refine aw_seq ?_ | refine aw_skip ?_ | refine aw_block ?_ | refine aw_exit ?_ | refine aw_cond rfl (fun _ => ?_) (fun hb => absurd hb (by decide)) | refine aw_cond rfl (fun hb => absurd hb (by decide)) (fun _ => ?_) | (refine aw_reg (fun K hK => ?_); simp -implicitDefEqProofs [c13, cs, n0, n0a, a15, ay, wd, wm, an]) | (refine aw_drw mixd (fun K hK => ?_); simp -implicitDefEqProofs [c13, cs, n0, n0a, a15, ay, wd, wm, an]) | refine hK _ ?_ | refine hK _ _ (by rfl) ?_ | (refine ar_call (cp hp ?_); simp -implicitDefEqProofs [c13, cs, n0, n0a, a15, ay, wd, wm, an]) | (refine ard_call (dp hp ?_); simp -implicitDefEqProofs [c13, cs, n0, n0a, a15, ay, wd, wm, an]) | fail)
  refine aw_ret (fin_ret ?_); simp -implicitDefEqProofs [FinP, resV, resT] <;> try rfl
set_option maxRecDepth 100000 in
set_option maxHeartbeats 4000000 in
theorem index_row (x : Lab) (l : List VT) (hx : x.ok) (hin : in64 (.mk x l)) (hsz : (Tr.mk x l).size ≤ 1000000) : Row Try.prog 29 [vT (.mk x l)] [] (vO (idxF x l)) [] := by
  have hlen := Tr.len_size (x := x) (l := l)
  by_cases c12 : x.k = 12; rotate_left
  · rw [show idxF x l = none by unfold idxF; exact if_neg (fun h => c12 h.1)]
    refine row_of Try.func29 rfl rfl (Nat.le_of_ble_eq_true rfl) ?_
    repeat (first | refine aw_seq ?_ | refine aw_skip ?_ | refine aw_block ?_ | refine aw_exit ?_ | refine aw_cond rfl (fun _ => ?_) (fun hb => absurd hb (by decide)) | refine aw_cond rfl (fun hb => absurd hb (by decide)) (fun _ => ?_) | (refine aw_reg (fun K hK => ?_); simp -implicitDefEqProofs [c12]; refine hK _ ?_) | (refine aw_drw mixd (fun K hK => ?_); simp -implicitDefEqProofs [c12]; refine hK _ _ (by rfl) ?_) | fail)
    refine aw_ret (fin_ret ?_); simp -implicitDefEqProofs [FinP, resV, resT] <;> try rfl
  by_cases cs : x.s = ⟨#[]⟩; rotate_left
  · rw [show idxF x l = none by unfold idxF; exact if_neg (fun h => cs h.2.1)]
    refine row_of Try.func29 rfl rfl (Nat.le_of_ble_eq_true rfl) ?_
    repeat (first | refine aw_seq ?_ | refine aw_skip ?_ | refine aw_block ?_ | refine aw_exit ?_ | refine aw_cond rfl (fun _ => ?_) (fun hb => absurd hb (by decide)) | refine aw_cond rfl (fun hb => absurd hb (by decide)) (fun _ => ?_) | (refine aw_reg (fun K hK => ?_); simp -implicitDefEqProofs [c12, cs]; refine hK _ ?_) | (refine aw_drw mixd (fun K hK => ?_); simp -implicitDefEqProofs [c12, cs]; refine hK _ _ (by rfl) ?_) | fail)
    refine aw_ret (fin_ret ?_); simp -implicitDefEqProofs [FinP, resV, resT] <;> try rfl
  by_cases l2 : l.length = 2; rotate_left
  · have l2a : ¬ (l.length : Int) = 2 := by omega
    rw [show idxF x l = none by unfold idxF; exact if_neg (fun h => l2 h.2.2.1)]
    refine row_of Try.func29 rfl rfl (Nat.le_of_ble_eq_true rfl) ?_
    repeat (first | refine aw_seq ?_ | refine aw_skip ?_ | refine aw_block ?_ | refine aw_exit ?_ | refine aw_cond rfl (fun _ => ?_) (fun hb => absurd hb (by decide)) | refine aw_cond rfl (fun hb => absurd hb (by decide)) (fun _ => ?_) | (refine aw_reg (fun K hK => ?_); simp -implicitDefEqProofs [c12, cs, l2, l2a]; refine hK _ ?_) | (refine aw_drw mixd (fun K hK => ?_); simp -implicitDefEqProofs [c12, cs, l2, l2a]; refine hK _ _ (by rfl) ?_) | fail)
    refine aw_ret (fin_ret ?_); simp -implicitDefEqProofs [FinP, resV, resT] <;> try rfl
  obtain ⟨⟨ax, al⟩, ⟨bx, bl⟩, rfl⟩ := two_of l2
  have has := Tr.size_at (x := x) (l := [Tr.mk ax al, .mk bx bl]) (i := 0) rfl
  have hai := ((Tr.all_mk _ _ _).1 hin).2 (.mk ax al) (by simp)
  have hbi := ((Tr.all_mk _ _ _).1 hin).2 (.mk bx bl) (by simp)
  have hal := Tr.len_size (x := ax) (l := al)
  have hff : idxF x [.mk ax al, .mk bx bl] = if ax.k = 14 ∧ ax.s = ⟨#[]⟩ ∧ bx.k = 5 ∧ litB bx bl.length = true then prtF al bx.n else none := by unfold idxF; simp [Tr.lab, Tr.kids, c12, cs]
  rw [hff]
  clear hff
  by_cases a14 : ax.k = 14; rotate_left
  · rw [if_neg (fun h => a14 h.1)]
    refine row_of Try.func29 rfl rfl (Nat.le_of_ble_eq_true rfl) ?_
    repeat (first | refine aw_seq ?_ | refine aw_skip ?_ | refine aw_block ?_ | refine aw_exit ?_ | refine aw_cond rfl (fun _ => ?_) (fun hb => absurd hb (by decide)) | refine aw_cond rfl (fun hb => absurd hb (by decide)) (fun _ => ?_) | (refine aw_reg (fun K hK => ?_); simp -implicitDefEqProofs [c12, cs, a14]; refine hK _ ?_) | (refine aw_drw mixd (fun K hK => ?_); simp -implicitDefEqProofs [c12, cs, a14]; refine hK _ _ (by rfl) ?_) | fail)
    refine aw_ret (fin_ret ?_); simp -implicitDefEqProofs [FinP, resV, resT] <;> try rfl
  by_cases ay : ax.s = ⟨#[]⟩; rotate_left
  · rw [if_neg (fun h => ay h.2.1)]
    refine row_of Try.func29 rfl rfl (Nat.le_of_ble_eq_true rfl) ?_
    repeat (first | refine aw_seq ?_ | refine aw_skip ?_ | refine aw_block ?_ | refine aw_exit ?_ | refine aw_cond rfl (fun _ => ?_) (fun hb => absurd hb (by decide)) | refine aw_cond rfl (fun hb => absurd hb (by decide)) (fun _ => ?_) | (refine aw_reg (fun K hK => ?_); simp -implicitDefEqProofs [c12, cs, a14, ay]; refine hK _ ?_) | (refine aw_drw mixd (fun K hK => ?_); simp -implicitDefEqProofs [c12, cs, a14, ay]; refine hK _ _ (by rfl) ?_) | fail)
    refine aw_ret (fin_ret ?_); simp -implicitDefEqProofs [FinP, resV, resT] <;> try rfl
  by_cases b5 : bx.k = 5; rotate_left
  · rw [if_neg (fun h => b5 h.2.2.1)]
    refine row_of Try.func29 rfl rfl (Nat.le_of_ble_eq_true rfl) ?_
    repeat (first | refine aw_seq ?_ | refine aw_skip ?_ | refine aw_block ?_ | refine aw_exit ?_ | refine aw_cond rfl (fun _ => ?_) (fun hb => absurd hb (by decide)) | refine aw_cond rfl (fun hb => absurd hb (by decide)) (fun _ => ?_) | (refine aw_reg (fun K hK => ?_); simp -implicitDefEqProofs [c12, cs, a14, ay, b5]; refine hK _ ?_) | (refine aw_drw mixd (fun K hK => ?_); simp -implicitDefEqProofs [c12, cs, a14, ay, b5]; refine hK _ _ (by rfl) ?_) | fail)
    refine aw_ret (fin_ret ?_); simp -implicitDefEqProofs [FinP, resV, resT] <;> try rfl
  have hli := islit_row bx bl
  obtain ⟨q, hq⟩ : ∃ q, litB bx bl.length = q := ⟨_, rfl⟩
  rw [hq] at hli ⊢
  clear hq
  cases q with
  | false =>
    rw [if_neg (by simp)]
    refine row_of Try.func29 rfl rfl (Nat.le_of_ble_eq_true rfl) ?_
    repeat' (first | refine aw_seq ?_ | refine aw_skip ?_ | refine aw_block ?_ | refine aw_exit ?_ | refine aw_cond rfl (fun _ => ?_) (fun hb => absurd hb (by decide)) | refine aw_cond rfl (fun hb => absurd hb (by decide)) (fun _ => ?_) | (refine aw_reg (fun K hK => ?_); simp -implicitDefEqProofs [c12, cs, a14, ay, b5]) | (refine aw_drw mixd (fun K hK => ?_); simp -implicitDefEqProofs [c12, cs, a14, ay, b5]) | refine hK _ ?_ | refine hK _ _ (by rfl) ?_ | (refine ar_call (cp hli ?_); simp -implicitDefEqProofs [c12, cs, a14, ay, b5]) | (refine ard_call (dp hli ?_); simp -implicitDefEqProofs [c12, cs, a14, ay, b5]) | fail)
    refine aw_ret (fin_ret ?_); simp -implicitDefEqProofs [FinP, resV, resT] <;> try rfl
  | true =>
  rw [if_pos ⟨a14, ay, b5, rfl⟩]
  have hp := alone_row al (by omega) (fun y hy => ⟨((Tr.all_mk _ _ _).1 hai).2 y hy, by have := kid_lt (x := ax) hy; omega⟩) bx.n ((Tr.all_mk _ _ _).1 hbi).1.2.1.2
  obtain ⟨⟨ux, ul⟩, hu⟩ : ∃ t, (prtF al bx.n).getD z0T = t := ⟨_, rfl⟩
  obtain ⟨q, hq⟩ : ∃ q, (prtF al bx.n).isSome = q := ⟨_, rfl⟩
  unfold vO at hp ⊢
  rw [hu, hq] at hp ⊢
  clear hu hq
  refine row_of Try.func29 rfl rfl (Nat.le_of_ble_eq_true rfl) ?_
  repeat' (first | refine aw_seq ?_ | refine aw_skip ?_ | refine aw_block ?_ | refine aw_exit ?_ | refine aw_cond rfl (fun _ => ?_) (fun hb => absurd hb (by decide)) | refine aw_cond rfl (fun hb => absurd hb (by decide)) (fun _ => ?_) | (refine aw_reg (fun K hK => ?_); simp -implicitDefEqProofs [c12, cs, a14, ay, b5]) | (refine aw_drw mixd (fun K hK => ?_); simp -implicitDefEqProofs [c12, cs, a14, ay, b5]) | refine hK _ ?_ | refine hK _ _ (by rfl) ?_ | (refine ar_call (cp hli ?_); simp -implicitDefEqProofs [c12, cs, a14, ay, b5]) | (refine ard_call (dp hli ?_); simp -implicitDefEqProofs [c12, cs, a14, ay, b5]) | (refine ar_call (cp hp ?_); simp -implicitDefEqProofs [c12, cs, a14, ay, b5]) | (refine ard_call (dp hp ?_); simp -implicitDefEqProofs [c12, cs, a14, ay, b5]) | fail)
  refine aw_ret (fin_ret ?_); simp -implicitDefEqProofs [FinP, resV, resT] <;> try rfl
set_option maxRecDepth 100000 in
set_option maxHeartbeats 4000000 in
theorem rside33_row (m : VT) (x : Lab) (l : List VT) (hx : x.ok) (hin : in64 (.mk x l)) (hsz : (Tr.mk x l).size ≤ 1000000) : Row Try.prog 31 [vT m, vI 33, vT (.mk x l)] [] (vO (idxF x l)) [] := by
  obtain ⟨mx, ml⟩ := m
  have hlen := Tr.len_size (x := x) (l := l)
  by_cases cs : x.s = ⟨#[]⟩; rotate_left
  · rw [show idxF x l = none by unfold idxF; exact if_neg (fun h => cs h.2.1)]
    refine row_of Try.func31 rfl rfl (Nat.le_of_ble_eq_true rfl) ?_
    repeat (first | refine aw_seq ?_ | refine aw_skip ?_ | refine aw_block ?_ | refine aw_exit ?_ | refine aw_cond rfl (fun _ => ?_) (fun hb => absurd hb (by decide)) | refine aw_cond rfl (fun hb => absurd hb (by decide)) (fun _ => ?_) | (refine aw_reg (fun K hK => ?_); simp -implicitDefEqProofs [cs]; refine hK _ ?_) | (refine aw_drw mixd (fun K hK => ?_); simp -implicitDefEqProofs [cs]; refine hK _ _ (by rfl) ?_) | fail)
    refine aw_ret (fin_ret ?_); simp -implicitDefEqProofs [FinP, resV, resT] <;> try rfl
  by_cases c12 : x.k = 12; rotate_left
  · rw [show idxF x l = none by unfold idxF; exact if_neg (fun h => c12 h.1)]
    refine row_of Try.func31 rfl rfl (Nat.le_of_ble_eq_true rfl) ?_
    repeat (first | refine aw_seq ?_ | refine aw_skip ?_ | refine aw_block ?_ | refine aw_exit ?_ | refine aw_cond rfl (fun _ => ?_) (fun hb => absurd hb (by decide)) | refine aw_cond rfl (fun hb => absurd hb (by decide)) (fun _ => ?_) | (refine aw_reg (fun K hK => ?_); simp -implicitDefEqProofs [cs, c12]; refine hK _ ?_) | (refine aw_drw mixd (fun K hK => ?_); simp -implicitDefEqProofs [cs, c12]; refine hK _ _ (by rfl) ?_) | fail)
    refine aw_ret (fin_ret ?_); simp -implicitDefEqProofs [FinP, resV, resT] <;> try rfl
  by_cases l2 : l.length = 2; rotate_left
  · have l2a : ¬ (l.length : Int) = 2 := by omega
    rw [show idxF x l = none by unfold idxF; exact if_neg (fun h => l2 h.2.2.1)]
    refine row_of Try.func31 rfl rfl (Nat.le_of_ble_eq_true rfl) ?_
    repeat (first | refine aw_seq ?_ | refine aw_skip ?_ | refine aw_block ?_ | refine aw_exit ?_ | refine aw_cond rfl (fun _ => ?_) (fun hb => absurd hb (by decide)) | refine aw_cond rfl (fun hb => absurd hb (by decide)) (fun _ => ?_) | (refine aw_reg (fun K hK => ?_); simp -implicitDefEqProofs [c12, cs, l2, l2a]; refine hK _ ?_) | (refine aw_drw mixd (fun K hK => ?_); simp -implicitDefEqProofs [c12, cs, l2, l2a]; refine hK _ _ (by rfl) ?_) | fail)
    refine aw_ret (fin_ret ?_); simp -implicitDefEqProofs [FinP, resV, resT] <;> try rfl
  obtain ⟨⟨ax, al⟩, ⟨bx, bl⟩, rfl⟩ := two_of l2
  have has := Tr.size_at (x := x) (l := [Tr.mk ax al, .mk bx bl]) (i := 0) rfl
  have hai := ((Tr.all_mk _ _ _).1 hin).2 (.mk ax al) (by simp)
  have hbi := ((Tr.all_mk _ _ _).1 hin).2 (.mk bx bl) (by simp)
  have hal := Tr.len_size (x := ax) (l := al)
  have hff : idxF x [.mk ax al, .mk bx bl] = if ax.k = 14 ∧ ax.s = ⟨#[]⟩ ∧ bx.k = 5 ∧ litB bx bl.length = true then prtF al bx.n else none := by unfold idxF; simp [Tr.lab, Tr.kids, c12, cs]
  rw [hff]
  clear hff
  by_cases a14 : ax.k = 14; rotate_left
  · rw [if_neg (fun h => a14 h.1)]
    refine row_of Try.func31 rfl rfl (Nat.le_of_ble_eq_true rfl) ?_
    repeat (first | refine aw_seq ?_ | refine aw_skip ?_ | refine aw_block ?_ | refine aw_exit ?_ | refine aw_cond rfl (fun _ => ?_) (fun hb => absurd hb (by decide)) | refine aw_cond rfl (fun hb => absurd hb (by decide)) (fun _ => ?_) | (refine aw_reg (fun K hK => ?_); simp -implicitDefEqProofs [c12, cs, a14]; refine hK _ ?_) | (refine aw_drw mixd (fun K hK => ?_); simp -implicitDefEqProofs [c12, cs, a14]; refine hK _ _ (by rfl) ?_) | fail)
    refine aw_ret (fin_ret ?_); simp -implicitDefEqProofs [FinP, resV, resT] <;> try rfl
  by_cases ay : ax.s = ⟨#[]⟩; rotate_left
  · rw [if_neg (fun h => ay h.2.1)]
    refine row_of Try.func31 rfl rfl (Nat.le_of_ble_eq_true rfl) ?_
    repeat (first | refine aw_seq ?_ | refine aw_skip ?_ | refine aw_block ?_ | refine aw_exit ?_ | refine aw_cond rfl (fun _ => ?_) (fun hb => absurd hb (by decide)) | refine aw_cond rfl (fun hb => absurd hb (by decide)) (fun _ => ?_) | (refine aw_reg (fun K hK => ?_); simp -implicitDefEqProofs [c12, cs, a14, ay]; refine hK _ ?_) | (refine aw_drw mixd (fun K hK => ?_); simp -implicitDefEqProofs [c12, cs, a14, ay]; refine hK _ _ (by rfl) ?_) | fail)
    refine aw_ret (fin_ret ?_); simp -implicitDefEqProofs [FinP, resV, resT] <;> try rfl
  by_cases b5 : bx.k = 5; rotate_left
  · rw [if_neg (fun h => b5 h.2.2.1)]
    refine row_of Try.func31 rfl rfl (Nat.le_of_ble_eq_true rfl) ?_
    repeat (first | refine aw_seq ?_ | refine aw_skip ?_ | refine aw_block ?_ | refine aw_exit ?_ | refine aw_cond rfl (fun _ => ?_) (fun hb => absurd hb (by decide)) | refine aw_cond rfl (fun hb => absurd hb (by decide)) (fun _ => ?_) | (refine aw_reg (fun K hK => ?_); simp -implicitDefEqProofs [c12, cs, a14, ay, b5]; refine hK _ ?_) | (refine aw_drw mixd (fun K hK => ?_); simp -implicitDefEqProofs [c12, cs, a14, ay, b5]; refine hK _ _ (by rfl) ?_) | fail)
    refine aw_ret (fin_ret ?_); simp -implicitDefEqProofs [FinP, resV, resT] <;> try rfl
  have hli := rislit_row bx bl
  obtain ⟨q, hq⟩ : ∃ q, litB bx bl.length = q := ⟨_, rfl⟩
  rw [hq] at hli ⊢
  clear hq
  cases q with
  | false =>
    rw [if_neg (by simp)]
    refine row_of Try.func31 rfl rfl (Nat.le_of_ble_eq_true rfl) ?_
    repeat' (first | refine aw_seq ?_ | refine aw_skip ?_ | refine aw_block ?_ | refine aw_exit ?_ | refine aw_cond rfl (fun _ => ?_) (fun hb => absurd hb (by decide)) | refine aw_cond rfl (fun hb => absurd hb (by decide)) (fun _ => ?_) | (refine aw_reg (fun K hK => ?_); simp -implicitDefEqProofs [c12, cs, a14, ay, b5]) | (refine aw_drw mixd (fun K hK => ?_); simp -implicitDefEqProofs [c12, cs, a14, ay, b5]) | refine hK _ ?_ | refine hK _ _ (by rfl) ?_ | (refine ar_call (cp hli ?_); simp -implicitDefEqProofs [c12, cs, a14, ay, b5]) | (refine ard_call (dp hli ?_); simp -implicitDefEqProofs [c12, cs, a14, ay, b5]) | fail)
    refine aw_ret (fin_ret ?_); simp -implicitDefEqProofs [FinP, resV, resT] <;> try rfl
  | true =>
  rw [if_pos ⟨a14, ay, b5, rfl⟩]
  have hp := rpart27_row al (by omega) (fun y hy => ⟨((Tr.all_mk _ _ _).1 hai).2 y hy, by have := kid_lt (x := ax) hy; omega⟩) bx.n ((Tr.all_mk _ _ _).1 hbi).1.2.1.2
  obtain ⟨⟨ux, ul⟩, hu⟩ : ∃ t, (prtF al bx.n).getD z0T = t := ⟨_, rfl⟩
  obtain ⟨q, hq⟩ : ∃ q, (prtF al bx.n).isSome = q := ⟨_, rfl⟩
  unfold vO at hp ⊢
  rw [hu, hq] at hp ⊢
  clear hu hq
  refine row_of Try.func31 rfl rfl (Nat.le_of_ble_eq_true rfl) ?_
  repeat' (first | refine aw_seq ?_ | refine aw_skip ?_ | refine aw_block ?_ | refine aw_exit ?_ | refine aw_cond rfl (fun _ => ?_) (fun hb => absurd hb (by decide)) | refine aw_cond rfl (fun hb => absurd hb (by decide)) (fun _ => ?_) | (refine aw_reg (fun K hK => ?_); simp -implicitDefEqProofs [c12, cs, a14, ay, b5]) | (refine aw_drw mixd (fun K hK => ?_); simp -implicitDefEqProofs [c12, cs, a14, ay, b5]) | refine hK _ ?_ | refine hK _ _ (by rfl) ?_ | (refine ar_call (cp hli ?_); simp -implicitDefEqProofs [c12, cs, a14, ay, b5]) | (refine ard_call (dp hli ?_); simp -implicitDefEqProofs [c12, cs, a14, ay, b5]) | (refine ar_call (cp hp ?_); simp -implicitDefEqProofs [c12, cs, a14, ay, b5]) | (refine ard_call (dp hp ?_); simp -implicitDefEqProofs [c12, cs, a14, ay, b5]) | fail)
  refine aw_ret (fin_ret ?_); simp -implicitDefEqProofs [FinP, resV, resT] <;> try rfl
end Go.Proofs.Ytjjnboenehomgaa.am
end
