import Derived.Test.YtjjnboenehomgaaPkT7
import Derived.Scope
import Derived.Test.YtjjnboenehomgaaPkT4
section
namespace Go.Proofs.Ytjjnboenehomgaa.am
open Go.ChangeShapes Go.WideShapes Go.ChangeAt Go.RowKit
open vt
set_option linter.unusedVariables false
set_option linter.unusedSimpArgs false
noncomputable def rulP (m : VT) (L : List VT) (x : Lab) (p : List VT) : RP :=
  if x.k = 7 then ⟨barT (L.getD (L.length - 1 - x.n.toNat) z0T), true, x.n, 0⟩
  else if x.k = 8 then ⟨litT ((m.kids.getD x.n.toNat z0T).kids.getD 0 z0T), true, x.n, 0⟩
  else if x.k = 9 then ⟨barT ((m.kids.getD x.n.toNat z0T).kids.getD 0 z0T), true, x.n, 0⟩
  else if x.k = 10 then ⟨(twoP x.n (p.getD 0 z0T) (p.getD 1 z0T)).1, (twoP x.n (p.getD 0 z0T) (p.getD 1 z0T)).2, x.n, 0⟩
  else if x.k = 11 then ⟨p.getD 0 z0T, oneB x.n (p.getD 0 z0T), x.n, 0⟩
  else if x.k = 12 then ⟨(idxP (p.getD 0 z0T) (p.getD 1 z0T)).getD z0T, (idxP (p.getD 0 z0T) (p.getD 1 z0T)).isSome, x.n, 0⟩
  else if x.k = 13 then fieP m x (p.getD 0 z0T)
  else if x.k = 14 then lisP m x p
  else if x.k = 15 then ⟨.mk ⟨4, x.n, ⟨#[]⟩, 0, 0⟩ [], fitD (m.kids.getD x.n.toNat z0T).kids p, x.n, 0⟩
  else if x.k = 16 then ⟨barT ((m.kids.getD x.n.toNat z0T).kids.getD 1 z0T), fitD ((m.kids.getD x.n.toNat z0T).kids.getD 0 z0T).kids p, x.n, 0⟩
  else if x.k = 18 then ⟨tyT 1, true, x.n, 0⟩
  else ⟨litT (.mk x []), true, x.n, 0⟩
theorem knwB_at {m : VT} {n : Nat} {x : Lab} (h : knwB m n x = true) : (x.k = 7 → 0 ≤ x.n ∧ x.n < n) ∧ (x.k = 8 ∨ x.k = 9 → 0 ≤ x.n ∧ ∃ dx e, m.kids[x.n.toNat]? = some (.mk dx [e])) ∧ (x.k = 15 → 0 ≤ x.n ∧ ∃ d, m.kids[x.n.toNat]? = some d) ∧ (x.k = 16 → 0 ≤ x.n ∧ ∃ dx a b c, m.kids[x.n.toNat]? = some (.mk dx [a, b, c])) := by
  unfold knwB at h
  have hb : (x.k = 8 ∨ x.k = 9 ∨ x.k = 15 ∨ x.k = 16) → ¬ x.k = 7 → 0 ≤ x.n ∧ ∃ d, m.kids[x.n.toNat]? = some d ∧ dclB d x.k = true := by
    intro hk h7
    rw [if_neg h7, if_pos hk] at h
    split at h
    · rename_i hc
      have hl : x.n.toNat < m.kids.length := by omega
      refine ⟨hc.1, m.kids[x.n.toNat], List.getElem?_eq_getElem hl, ?_⟩
      rw [show m.kids.getD x.n.toNat z0T = m.kids[x.n.toNat] by simp [List.getD, hl]] at h
      exact h
    · cases h
  refine ⟨fun e => ?_, fun e => ?_, fun e => ?_, fun e => ?_⟩
  · rw [if_pos e, Bool.and_eq_true] at h
    exact ⟨of_decide_eq_true h.1, of_decide_eq_true h.2⟩
  · obtain ⟨h0, ⟨dx, dl⟩, hd, hh⟩ := hb (by omega) (by omega)
    have h1 : dl.length = 1 := by
      unfold dclB at hh
      rcases e with e | e
      · rw [if_pos e, Bool.and_eq_true, Bool.and_eq_true] at hh; exact of_decide_eq_true hh.2.1
      · rw [if_neg (by omega), if_pos e, Bool.and_eq_true] at hh; exact of_decide_eq_true hh.2
    obtain ⟨a, rfl⟩ := one_of h1
    exact ⟨h0, dx, a, hd⟩
  · obtain ⟨h0, d, hd, _⟩ := hb (by omega) (by omega)
    exact ⟨h0, d, hd⟩
  · obtain ⟨h0, ⟨dx, dl⟩, hd, hh⟩ := hb (by omega) (by omega)
    unfold dclB at hh
    rw [if_neg (by omega), if_neg (by omega), if_pos e, Bool.and_eq_true] at hh
    obtain ⟨a, b, c, rfl⟩ := three_of (l := dl) (of_decide_eq_true hh.2)
    exact ⟨h0, dx, a, b, c, hd⟩
set_option maxRecDepth 100000 in
set_option maxHeartbeats 4000000 in
theorem prule_row (m : VT) (hm : in64 m) (hms : m.size ≤ 900000) (L : List VT) (hL : ∀ t ∈ L, t.size ≤ 900000) (hLl : L.length ≤ 900000) (x : Lab) (l : List VT) (hx : x.ok) (p : List VT) (hlp : l.length = p.length) (hp : ∀ a ∈ p, in64 a ∧ a.size ≤ 900000) (hpl : p.length ≤ 900000) (hsh : shaE x l.length = true) (hkn : knwB m L.length x = true) (F : List VT) : Row Try.prog 70 [.v (.c (.ptr 0 0)), vT (.mk x l), .v (.c (.ptr 1 0)), fnK 2] [bxW m L 0 0, bxT (.mk ⟨x.k, x.n, ⟨#[]⟩, 0, 0⟩ F), bxK p] (vTO (rulP m L x p).ty (rulP m L x p).ok) [some (bxW m L (if (rulP m L x p).er = 0 then 0 else x.f) (rulP m L x p).er), some (bxT (.mk ⟨x.k, (rulP m L x p).n, ⟨#[]⟩, 0, 0⟩ F)), some (bxK p)] := by
  obtain ⟨n7, n89, n15, n16⟩ := knwB_at hkn
  have hmk : m.kids.length < m.size := by obtain ⟨mx, ml⟩ := m; exact Tr.len_size (x := mx) (l := ml)
  have wm : IntKind.i64.wrap ((m.kids.length : Nat) : Int) = (m.kids.length : Nat) := i64i _ (by omega) (by omega)
  unfold rulP
  by_cases c7 : x.k = 7
  · rw [if_pos c7]
    obtain ⟨g0, g1⟩ := n7 c7
    obtain ⟨n, hn⟩ : ∃ n : Nat, x.n = n := ⟨x.n.toNat, by omega⟩
    rw [hn, Int.toNat_natCast]
    obtain ⟨j, hj⟩ : ∃ j, L.length - 1 - n = j := ⟨_, rfl⟩
    have hjl : j < L.length := by omega
    obtain ⟨⟨ax, al⟩, ha⟩ : ∃ a, L[j]? = some a := ⟨_, List.getElem?_eq_getElem hjl⟩
    have ha' := (List.getElem?_eq_some_iff.1 ha).2
    rw [hj, show L.getD j z0T = .mk ax al by simp [List.getD, ha]]
    have hb := bare_row (.mk ax al) (by have := hL _ (List.mem_of_getElem? ha); omega)
    have w0 : IntKind.i64.wrap ((n : Nat) : Int) = (n : Nat) := i64i _ (by omega) (by omega)
    have w1 : IntKind.i64.wrap ((L.length : Nat) - 1 : Int) = (L.length : Nat) - 1 := i64i _ (by omega) (by omega)
    have w2 : IntKind.i64.wrap ((L.length : Nat) - 1 - (n : Nat) : Int) = (j : Nat) := by rw [i64i _ (by omega) (by omega)]; omega
    obtain ⟨⟨bx, bl⟩, hbb⟩ : ∃ b, barT (.mk ax al) = b := ⟨_, rfl⟩
    rw [hbb] at hb ⊢
    clear hbb n7 n89 n15 n16 hp
    obtain ⟨mx, ml⟩ := m
    refine row_of Try.func70 rfl rfl (Nat.le_of_ble_eq_true rfl) ?_
    repeat' (first | refine aw_seq ?_ | refine aw_skip ?_ | refine aw_block ?_ | refine aw_exit ?_ | refine aw_cond rfl (fun _ => ?_) (fun hb => absurd hb (by decide)) | refine aw_cond rfl (fun hb => absurd hb (by decide)) (fun _ => ?_) | (refine aw_reg (fun K hK => ?_); simp -implicitDefEqProofs [c7, hn, hjl, ha, ha', w0, w1, w2]) | (refine aw_drw mixd (fun K hK => ?_); simp -implicitDefEqProofs [c7, hn, hjl, ha, ha', w0, w1, w2]) | refine hK _ ?_ | refine hK _ _ (by rfl) ?_ | (refine ar_call (cp hb ?_); simp -implicitDefEqProofs [c7, hn, hjl, ha, ha', w0, w1, w2]) | (refine ard_call (dp hb ?_); simp -implicitDefEqProofs [c7, hn, hjl, ha, ha', w0, w1, w2]) | fail)
    refine aw_ret (fin_g [0, 1, 2] ?_); simp -implicitDefEqProofs [FinG, resV, resT, c7, hn] <;> try rfl
  rw [if_neg c7]
  by_cases c8 : x.k = 8
  · rw [if_pos c8]
    obtain ⟨g0, dx, ⟨ex, el⟩, hd⟩ := n89 (.inl c8)
    obtain ⟨n, hn⟩ : ∃ n : Nat, x.n = n := ⟨x.n.toNat, by omega⟩
    rw [hn, Int.toNat_natCast] at hd ⊢
    have hnl := (List.getElem?_eq_some_iff.1 hd).1
    have hd' := (List.getElem?_eq_some_iff.1 hd).2
    rw [show m.kids.getD n z0T = .mk dx [.mk ex el] by simp [List.getD, hd], Tr.kids]
    have hl := plit_row ex el
    rw [show [Tr.mk ex el].getD 0 z0T = .mk ex el from rfl]
    have w0 : IntKind.i64.wrap ((n : Nat) : Int) = (n : Nat) := i64i _ (by omega) (by omega)
    obtain ⟨⟨bx, bl⟩, hbb⟩ : ∃ b, litT (.mk ex el) = b := ⟨_, rfl⟩
    rw [hbb] at hl ⊢
    clear hbb n7 n89 n15 n16 hp
    obtain ⟨mx, ml⟩ := m
    simp only [Tr.kids] at hnl hd hd'
    refine row_of Try.func70 rfl rfl (Nat.le_of_ble_eq_true rfl) ?_
    repeat' (first | refine aw_seq ?_ | refine aw_skip ?_ | refine aw_block ?_ | refine aw_exit ?_ | refine aw_cond rfl (fun _ => ?_) (fun hb => absurd hb (by decide)) | refine aw_cond rfl (fun hb => absurd hb (by decide)) (fun _ => ?_) | (refine aw_reg (fun K hK => ?_); simp -implicitDefEqProofs [c8, hn, hnl, hd, hd', w0]) | (refine aw_drw mixd (fun K hK => ?_); simp -implicitDefEqProofs [c8, hn, hnl, hd, hd', w0]) | refine hK _ ?_ | refine hK _ _ (by rfl) ?_ | (refine ar_call (cp hl ?_); simp -implicitDefEqProofs [c8, hn, hnl, hd, hd', w0]) | (refine ard_call (dp hl ?_); simp -implicitDefEqProofs [c8, hn, hnl, hd, hd', w0]) | fail)
    refine aw_ret (fin_g [0, 1, 2] ?_); simp -implicitDefEqProofs [FinG, resV, resT, c8, hn] <;> try rfl
  rw [if_neg c8]
  by_cases c9 : x.k = 9
  · rw [if_pos c9]
    obtain ⟨g0, dx, ⟨ex, el⟩, hd⟩ := n89 (.inr c9)
    obtain ⟨n, hn⟩ : ∃ n : Nat, x.n = n := ⟨x.n.toNat, by omega⟩
    rw [hn, Int.toNat_natCast] at hd ⊢
    have hnl := (List.getElem?_eq_some_iff.1 hd).1
    have hd' := (List.getElem?_eq_some_iff.1 hd).2
    have s1 := kid_size (List.mem_of_getElem? hd)
    have s2 := Tr.size_at (x := dx) (l := [.mk ex el]) (i := 0) rfl
    rw [show m.kids.getD n z0T = .mk dx [.mk ex el] by simp [List.getD, hd], Tr.kids]
    have hl := bare_row (.mk ex el) (by omega)
    rw [show [Tr.mk ex el].getD 0 z0T = .mk ex el from rfl]
    have w0 : IntKind.i64.wrap ((n : Nat) : Int) = (n : Nat) := i64i _ (by omega) (by omega)
    obtain ⟨⟨bx, bl⟩, hbb⟩ : ∃ b, barT (.mk ex el) = b := ⟨_, rfl⟩
    rw [hbb] at hl ⊢
    clear hbb n7 n89 n15 n16 hp
    obtain ⟨mx, ml⟩ := m
    simp only [Tr.kids] at hnl hd hd'
    refine row_of Try.func70 rfl rfl (Nat.le_of_ble_eq_true rfl) ?_
    repeat' (first | refine aw_seq ?_ | refine aw_skip ?_ | refine aw_block ?_ | refine aw_exit ?_ | refine aw_cond rfl (fun _ => ?_) (fun hb => absurd hb (by decide)) | refine aw_cond rfl (fun hb => absurd hb (by decide)) (fun _ => ?_) | (refine aw_reg (fun K hK => ?_); simp -implicitDefEqProofs [c9, hn, hnl, hd, hd', w0]) | (refine aw_drw mixd (fun K hK => ?_); simp -implicitDefEqProofs [c9, hn, hnl, hd, hd', w0]) | refine hK _ ?_ | refine hK _ _ (by rfl) ?_ | (refine ar_call (cp hl ?_); simp -implicitDefEqProofs [c9, hn, hnl, hd, hd', w0]) | (refine ard_call (dp hl ?_); simp -implicitDefEqProofs [c9, hn, hnl, hd, hd', w0]) | fail)
    refine aw_ret (fin_g [0, 1, 2] ?_); simp -implicitDefEqProofs [FinG, resV, resT, c9, hn] <;> try rfl
  rw [if_neg c9]
  clear n7 n89
  by_cases c10 : x.k = 10
  · rw [if_pos c10]
    have hl2 : p.length = 2 := by rw [hlp] at hsh; unfold shaE at hsh; simp [c10] at hsh; exact hsh.1.1
    obtain ⟨⟨ax, al⟩, ⟨bx, bl⟩, rfl⟩ := two_of hl2
    have ht := ptwo_row m L x l (.mk ax al) (.mk bx bl)
    rw [show [Tr.mk ax al, .mk bx bl].getD 0 z0T = .mk ax al from rfl, show [Tr.mk ax al, .mk bx bl].getD 1 z0T = .mk bx bl from rfl]
    obtain ⟨⟨⟨ux, ul⟩, q⟩, hu⟩ : ∃ t, twoP x.n (.mk ax al) (.mk bx bl) = t := ⟨_, rfl⟩
    rw [hu] at ht ⊢
    dsimp only at ht ⊢
    clear hu n15 n16 hp
    obtain ⟨mx, ml⟩ := m
    refine row_of Try.func70 rfl rfl (Nat.le_of_ble_eq_true rfl) ?_
    repeat' (first | refine aw_seq ?_ | refine aw_skip ?_ | refine aw_block ?_ | refine aw_exit ?_ | refine aw_cond rfl (fun _ => ?_) (fun hb => absurd hb (by decide)) | refine aw_cond rfl (fun hb => absurd hb (by decide)) (fun _ => ?_) | (refine aw_reg (fun K hK => ?_); simp -implicitDefEqProofs [c10]) | (refine aw_drw mixd (fun K hK => ?_); simp -implicitDefEqProofs [c10]) | refine hK _ ?_ | refine hK _ _ (by rfl) ?_ | (refine ar_call (cb2 ht 0 2 ?_); simp -implicitDefEqProofs [c10]) | (refine ard_call (db2 ht 0 2 ?_); simp -implicitDefEqProofs [c10]) | fail)
    refine aw_ret (fin_g [0, 1, 2] ?_); simp -implicitDefEqProofs [FinG, resV, resT, c10] <;> try rfl
  rw [if_neg c10]
  by_cases c11 : x.k = 11
  · rw [if_pos c11]
    have hl1 : p.length = 1 := by rw [hlp] at hsh; unfold shaE at hsh; simp [c11] at hsh; exact hsh.1
    obtain ⟨⟨ax, al⟩, rfl⟩ := one_of hl1
    have ht := pone_row m L x l (.mk ax al)
    rw [show [Tr.mk ax al].getD 0 z0T = .mk ax al from rfl]
    obtain ⟨q, hu⟩ : ∃ t, oneB x.n (.mk ax al) = t := ⟨_, rfl⟩
    rw [hu] at ht ⊢
    clear hu n15 n16 hp
    obtain ⟨mx, ml⟩ := m
    refine row_of Try.func70 rfl rfl (Nat.le_of_ble_eq_true rfl) ?_
    repeat' (first | refine aw_seq ?_ | refine aw_skip ?_ | refine aw_block ?_ | refine aw_exit ?_ | refine aw_cond rfl (fun _ => ?_) (fun hb => absurd hb (by decide)) | refine aw_cond rfl (fun hb => absurd hb (by decide)) (fun _ => ?_) | (refine aw_reg (fun K hK => ?_); simp -implicitDefEqProofs [c11]) | (refine aw_drw mixd (fun K hK => ?_); simp -implicitDefEqProofs [c11]) | refine hK _ ?_ | refine hK _ _ (by rfl) ?_ | (refine ar_call (cb2 ht 0 2 ?_); simp -implicitDefEqProofs [c11]) | (refine ard_call (db2 ht 0 2 ?_); simp -implicitDefEqProofs [c11]) | fail)
    refine aw_ret (fin_g [0, 1, 2] ?_); simp -implicitDefEqProofs [FinG, resV, resT, c11] <;> try rfl
  rw [if_neg c11]
  by_cases c12 : x.k = 12
  · rw [if_pos c12]
    have hl2 : p.length = 2 := by rw [hlp] at hsh; unfold shaE at hsh; simp [c12] at hsh; exact hsh
    obtain ⟨⟨ax, al⟩, ⟨bx, bl⟩, rfl⟩ := two_of hl2
    have ht := pindex_row m L (.mk ax al) (.mk bx bl)
    rw [show [Tr.mk ax al, .mk bx bl].getD 0 z0T = .mk ax al from rfl, show [Tr.mk ax al, .mk bx bl].getD 1 z0T = .mk bx bl from rfl]
    obtain ⟨⟨ux, ul⟩, hu⟩ : ∃ t, (idxP (.mk ax al) (.mk bx bl)).getD z0T = t := ⟨_, rfl⟩
    obtain ⟨q, hq⟩ : ∃ t, (idxP (.mk ax al) (.mk bx bl)).isSome = t := ⟨_, rfl⟩
    rw [hu, hq] at ht ⊢
    clear hu hq n15 n16 hp
    obtain ⟨mx, ml⟩ := m
    refine row_of Try.func70 rfl rfl (Nat.le_of_ble_eq_true rfl) ?_
    repeat' (first | refine aw_seq ?_ | refine aw_skip ?_ | refine aw_block ?_ | refine aw_exit ?_ | refine aw_cond rfl (fun _ => ?_) (fun hb => absurd hb (by decide)) | refine aw_cond rfl (fun hb => absurd hb (by decide)) (fun _ => ?_) | (refine aw_reg (fun K hK => ?_); simp -implicitDefEqProofs [c12]) | (refine aw_drw mixd (fun K hK => ?_); simp -implicitDefEqProofs [c12]) | refine hK _ ?_ | refine hK _ _ (by rfl) ?_ | (refine ar_call (cb2 ht 0 2 ?_); simp -implicitDefEqProofs [c12]) | (refine ard_call (db2 ht 0 2 ?_); simp -implicitDefEqProofs [c12]) | fail)
    refine aw_ret (fin_g [0, 1, 2] ?_); simp -implicitDefEqProofs [FinG, resV, resT, c12] <;> try rfl
  rw [if_neg c12]
  by_cases c13 : x.k = 13
  · rw [if_pos c13]
    have hl1 : p.length = 1 := by rw [hlp] at hsh; unfold shaE at hsh; simp [c13] at hsh; exact hsh
    obtain ⟨⟨ax, al⟩, rfl⟩ := one_of hl1
    have ht := pfield_row m hms L x l hx (.mk ax al) (hp (.mk ax al) (by simp)).1 F
    rw [show [Tr.mk ax al].getD 0 z0T = .mk ax al from rfl]
    obtain ⟨⟨⟨ux, ul⟩, q, n, er⟩, hu⟩ : ∃ t, fieP m x (.mk ax al) = t := ⟨_, rfl⟩
    rw [hu] at ht ⊢
    dsimp only at ht ⊢
    obtain ⟨at', hat⟩ : ∃ t, (if er = 0 then 0 else x.f) = t := ⟨_, rfl⟩
    rw [hat] at ht ⊢
    clear hu hat n15 n16 hp
    obtain ⟨mx, ml⟩ := m
    refine row_of Try.func70 rfl rfl (Nat.le_of_ble_eq_true rfl) ?_
    repeat' (first | refine aw_seq ?_ | refine aw_skip ?_ | refine aw_block ?_ | refine aw_exit ?_ | refine aw_cond rfl (fun _ => ?_) (fun hb => absurd hb (by decide)) | refine aw_cond rfl (fun hb => absurd hb (by decide)) (fun _ => ?_) | (refine aw_reg (fun K hK => ?_); simp -implicitDefEqProofs [c13]) | (refine aw_drw mixd (fun K hK => ?_); simp -implicitDefEqProofs [c13]) | refine hK _ ?_ | refine hK _ _ (by rfl) ?_ | (refine ar_call (cg ht [0,1,2] ?_); simp -implicitDefEqProofs [c13]) | (refine ard_call (dg ht [0,1,2] ?_); simp -implicitDefEqProofs [c13]) | fail)
    refine aw_ret (fin_g [0, 1, 2] ?_); simp -implicitDefEqProofs [FinG, resV, resT, c13] <;> try rfl
  rw [if_neg c13]
  by_cases c14 : x.k = 14
  · rw [if_pos c14]
    have hl1 : 0 < p.length := by rw [hlp] at hsh; unfold shaE at hsh; simp [c14] at hsh; omega
    have ht := plist_row m hm (by omega) L x l p hlp hl1 hp hpl
    obtain ⟨⟨⟨ux, ul⟩, q, n, er⟩, hu⟩ : ∃ t, lisP m x p = t := ⟨_, rfl⟩
    have hnn : n = x.n := by
      have : (lisP m x p).n = x.n := by
        unfold lisP
        split
        · split <;> rfl
        · rfl
      rw [hu] at this; exact this
    rw [hu] at ht ⊢
    dsimp only at ht ⊢
    subst hnn
    obtain ⟨at', hat⟩ : ∃ t, (if er = 0 then 0 else x.f) = t := ⟨_, rfl⟩
    rw [hat] at ht ⊢
    clear hu hat n15 n16 hp
    obtain ⟨mx, ml⟩ := m
    refine row_of Try.func70 rfl rfl (Nat.le_of_ble_eq_true rfl) ?_
    repeat' (first | refine aw_seq ?_ | refine aw_skip ?_ | refine aw_block ?_ | refine aw_exit ?_ | refine aw_cond rfl (fun _ => ?_) (fun hb => absurd hb (by decide)) | refine aw_cond rfl (fun hb => absurd hb (by decide)) (fun _ => ?_) | (refine aw_reg (fun K hK => ?_); simp -implicitDefEqProofs [c14]) | (refine aw_drw mixd (fun K hK => ?_); simp -implicitDefEqProofs [c14]) | refine hK _ ?_ | refine hK _ _ (by rfl) ?_ | (refine ar_call (cb2 ht 0 2 ?_); simp -implicitDefEqProofs [c14]) | (refine ard_call (db2 ht 0 2 ?_); simp -implicitDefEqProofs [c14]) | fail)
    refine aw_ret (fin_g [0, 1, 2] ?_); simp -implicitDefEqProofs [FinG, resV, resT, c14] <;> try rfl
  rw [if_neg c14]
  by_cases c15 : x.k = 15
  · rw [if_pos c15]
    obtain ⟨g0, ⟨dx, dl⟩, hd⟩ := n15 c15
    obtain ⟨n, hn⟩ : ∃ n : Nat, x.n = n := ⟨x.n.toNat, by omega⟩
    rw [hn, Int.toNat_natCast] at hd ⊢
    have hnl := (List.getElem?_eq_some_iff.1 hd).1
    have hd' := (List.getElem?_eq_some_iff.1 hd).2
    have s1 := kid_size (List.mem_of_getElem? hd)
    rw [show m.kids.getD n z0T = .mk dx dl by simp [List.getD, hd], Tr.kids]
    have hfit := pfits_row m L dl p (fun d h => by have := kid_lt (x := dx) h; omega) (fun a h => by have := (hp a h).2; omega) (by have := Tr.len_size (x := dx) (l := dl); omega) (by omega)
    have w0 : IntKind.i64.wrap ((n : Nat) : Int) = (n : Nat) := i64i _ (by omega) (by omega)
    obtain ⟨q, hq⟩ : ∃ t, fitD dl p = t := ⟨_, rfl⟩
    rw [hq] at hfit ⊢
    clear hq n15 n16 hp
    obtain ⟨mx, ml⟩ := m
    simp only [Tr.kids] at hnl hd hd'
    refine row_of Try.func70 rfl rfl (Nat.le_of_ble_eq_true rfl) ?_
    repeat' (first | refine aw_seq ?_ | refine aw_skip ?_ | refine aw_block ?_ | refine aw_exit ?_ | refine aw_cond rfl (fun _ => ?_) (fun hb => absurd hb (by decide)) | refine aw_cond rfl (fun hb => absurd hb (by decide)) (fun _ => ?_) | (refine aw_reg (fun K hK => ?_); simp -implicitDefEqProofs [c15, hn, hnl, hd, hd', w0, hlp]) | (refine aw_drw mixd (fun K hK => ?_); simp -implicitDefEqProofs [c15, hn, hnl, hd, hd', w0, hlp]) | refine hK _ ?_ | refine hK _ _ (by rfl) ?_ | (refine ar_call (cb2 hfit 0 2 ?_); simp -implicitDefEqProofs [c15, hn, hnl, hd, hd', w0, hlp]) | (refine ard_call (db2 hfit 0 2 ?_); simp -implicitDefEqProofs [c15, hn, hnl, hd, hd', w0, hlp]) | fail)
    refine aw_ret (fin_g [0, 1, 2] ?_); simp -implicitDefEqProofs [FinG, resV, resT, c15, hn] <;> try rfl
  rw [if_neg c15]
  by_cases c16 : x.k = 16
  · rw [if_pos c16]
    obtain ⟨g0, dx, ⟨ax, al⟩, ⟨bx, bl⟩, ⟨cx, cl⟩, hd⟩ := n16 c16
    obtain ⟨n, hn⟩ : ∃ n : Nat, x.n = n := ⟨x.n.toNat, by omega⟩
    rw [hn, Int.toNat_natCast] at hd ⊢
    have hnl := (List.getElem?_eq_some_iff.1 hd).1
    have hd' := (List.getElem?_eq_some_iff.1 hd).2
    have s1 := kid_size (List.mem_of_getElem? hd)
    have has := Tr.size_at (x := dx) (l := [Tr.mk ax al, .mk bx bl, .mk cx cl]) (i := 0) rfl
    have hbs := Tr.size_at (x := dx) (l := [Tr.mk ax al, .mk bx bl, .mk cx cl]) (i := 1) rfl
    rw [show m.kids.getD n z0T = .mk dx [.mk ax al, .mk bx bl, .mk cx cl] by simp [List.getD, hd], Tr.kids]
    rw [show [Tr.mk ax al, .mk bx bl, .mk cx cl].getD 0 z0T = .mk ax al from rfl, show [Tr.mk ax al, .mk bx bl, .mk cx cl].getD 1 z0T = .mk bx bl from rfl, Tr.kids]
    have hfit := pfits_row m L al p (fun d h => by have := kid_lt (x := ax) h; omega) (fun a h => by have := (hp a h).2; omega) (by have := Tr.len_size (x := ax) (l := al); omega) (by omega)
    have hb := bare_row (.mk bx bl) (by omega)
    have w0 : IntKind.i64.wrap ((n : Nat) : Int) = (n : Nat) := i64i _ (by omega) (by omega)
    obtain ⟨q, hq⟩ : ∃ t, fitD al p = t := ⟨_, rfl⟩
    obtain ⟨⟨ux, ul⟩, hu⟩ : ∃ t, barT (.mk bx bl) = t := ⟨_, rfl⟩
    rw [hq] at hfit ⊢
    rw [hu] at hb ⊢
    clear hq hu n15 n16 hp
    obtain ⟨mx, ml⟩ := m
    simp only [Tr.kids] at hnl hd hd'
    refine row_of Try.func70 rfl rfl (Nat.le_of_ble_eq_true rfl) ?_
    repeat' (first | refine aw_seq ?_ | refine aw_skip ?_ | refine aw_block ?_ | refine aw_exit ?_ | refine aw_cond rfl (fun _ => ?_) (fun hb => absurd hb (by decide)) | refine aw_cond rfl (fun hb => absurd hb (by decide)) (fun _ => ?_) | (refine aw_reg (fun K hK => ?_); simp -implicitDefEqProofs [c16, hn, hnl, hd, hd', w0, hlp]) | (refine aw_drw mixd (fun K hK => ?_); simp -implicitDefEqProofs [c16, hn, hnl, hd, hd', w0, hlp]) | refine hK _ ?_ | refine hK _ _ (by rfl) ?_ | (refine ar_call (cb2 hfit 0 2 ?_); simp -implicitDefEqProofs [c16, hn, hnl, hd, hd', w0, hlp]) | (refine ard_call (db2 hfit 0 2 ?_); simp -implicitDefEqProofs [c16, hn, hnl, hd, hd', w0, hlp]) | (refine ar_call (cp hb ?_); simp -implicitDefEqProofs [c16, hn, hnl, hd, hd', w0, hlp]) | (refine ard_call (dp hb ?_); simp -implicitDefEqProofs [c16, hn, hnl, hd, hd', w0, hlp]) | fail)
    refine aw_ret (fin_g [0, 1, 2] ?_); simp -implicitDefEqProofs [FinG, resV, resT, c16, hn] <;> try rfl
  rw [if_neg c16]
  clear n15 n16 hp
  by_cases c18 : x.k = 18
  · rw [if_pos c18]
    unfold tyT
    obtain ⟨mx, ml⟩ := m
    refine row_of Try.func70 rfl rfl (Nat.le_of_ble_eq_true rfl) ?_
    repeat (first | refine aw_seq ?_ | refine aw_skip ?_ | refine aw_block ?_ | refine aw_exit ?_ | refine aw_cond rfl (fun _ => ?_) (fun hb => absurd hb (by decide)) | refine aw_cond rfl (fun hb => absurd hb (by decide)) (fun _ => ?_) | (refine aw_reg (fun K hK => ?_); simp -implicitDefEqProofs [c18]; refine hK _ ?_) | (refine aw_drw mixd (fun K hK => ?_); simp -implicitDefEqProofs [c18]; refine hK _ _ (by rfl) ?_) | fail)
    refine aw_ret (fin_g [0, 1, 2] ?_); simp -implicitDefEqProofs [FinG, resV, resT, c18] <;> try rfl
  rw [if_neg c18]
  have hl := plit_row x l
  have hle : litT (.mk x l) = litT (.mk x []) := rfl
  rw [hle] at hl
  obtain ⟨⟨bx, bl⟩, hbb⟩ : ∃ b, litT (.mk x []) = b := ⟨_, rfl⟩
  rw [hbb] at hl ⊢
  clear hbb hle
  obtain ⟨mx, ml⟩ := m
  refine row_of Try.func70 rfl rfl (Nat.le_of_ble_eq_true rfl) ?_
  repeat' (first | refine aw_seq ?_ | refine aw_skip ?_ | refine aw_block ?_ | refine aw_exit ?_ | refine aw_cond rfl (fun _ => ?_) (fun hb => absurd hb (by decide)) | refine aw_cond rfl (fun hb => absurd hb (by decide)) (fun _ => ?_) | (refine aw_reg (fun K hK => ?_); simp -implicitDefEqProofs [c7, c8, c9, c10, c11, c12, c13, c14, c15, c16, c18]) | (refine aw_drw mixd (fun K hK => ?_); simp -implicitDefEqProofs [c7, c8, c9, c10, c11, c12, c13, c14, c15, c16, c18]) | refine hK _ ?_ | refine hK _ _ (by rfl) ?_ | (refine ar_call (cp hl ?_); simp -implicitDefEqProofs [c7, c8, c9, c10, c11, c12, c13, c14, c15, c16, c18]) | (refine ard_call (dp hl ?_); simp -implicitDefEqProofs [c7, c8, c9, c10, c11, c12, c13, c14, c15, c16, c18]) | fail)
  refine aw_ret (fin_g [0, 1, 2] ?_); simp -implicitDefEqProofs [FinG, resV, resT] <;> try rfl
end Go.Proofs.Ytjjnboenehomgaa.am
end
section
namespace Go.Proofs.Ytjjnboenehomgaa.am
open Go.ChangeShapes Go.WideShapes Go.ChangeAt Go.RowKit
set_option linter.unusedVariables false
end Go.Proofs.Ytjjnboenehomgaa.am
end
section
namespace Go.Proofs.Ytjjnboenehomgaa.am
open Go.ChangeShapes Go.WideShapes Go.ChangeAt Go.RowKit
open vt
set_option linter.unusedVariables false
set_option linter.unusedSimpArgs false
noncomputable def ofPC (m : VT) (L : List VT) (x : Lab) (l : List VT) (gs : List GV) : GV :=
  if shaE x l.length = false then badG x 12
  else if x.k = 17 ∨ knwB m L.length x = false then badG x 8
  else match gs.find? (fun g => !decide (g.er = 0)) with
    | some g => ⟨z0T, z0T, g.pl, g.er⟩
    | none => if (rulP m L x (gs.map GV.ty)).ok = true then ⟨(rulP m L x (gs.map GV.ty)).ty, .mk ⟨x.k, (rulP m L x (gs.map GV.ty)).n, ⟨#[]⟩, 0, 0⟩ (gs.map GV.fo), 0, 0⟩
      else badG x (if (rulP m L x (gs.map GV.ty)).er = 0 then 10 else (rulP m L x (gs.map GV.ty)).er)
noncomputable def ofP (m : VT) (L : List VT) (t : VT) : GV := Tr.fold (ofPC m L) t
theorem ofP_mk (m : VT) (L : List VT) (x : Lab) (l : List VT) : ofP m L (.mk x l) = ofPC m L x l (l.map (ofP m L)) := Tr.fold_mk _ x l
theorem twoP_fine {B : Nat} (h : 1 ≤ B) (op : Int) (a b : VT) : Fine B (twoP op a b).1 := by
  unfold twoP
  split
  · exact fine_ty h (by omega)
  · split
    · exact fine_ty h (by omega)
    · split
      · exact fine_ty h (by omega)
      · exact fine_ty h (by omega)
theorem rulP_fine {m : VT} {L : List VT} {B : Nat} (hm : Fine B m) (hms : m.size ≤ 1000000) (hL : ∀ t ∈ L, Fine B t) {x : Lab} (hx : x.ok) {p : List VT} (hp : ∀ a ∈ p, Fine B a) (hpl : p.length ≤ 1000000) : Fine (B + 1) (rulP m L x p).ty ∧ (-9223372036854775808 ≤ (rulP m L x p).n ∧ (rulP m L x p).n ≤ 9223372036854775807) := by
  have hB : 1 ≤ B := Nat.le_trans (Tr.size_pos m) hm.2
  have gi : ∀ i, Fine B (p.getD i z0T) := fun i => by
    by_cases h : i < p.length
    · exact hp _ (by simp [List.getD, h])
    · rw [show p.getD i z0T = z0T by simp [List.getD, h]]
      exact fine_z0 hB
  have hn := hx.2.1
  have hz : Fine (B + 1) z0T := fine_z0 (by omega)
  unfold rulP
  by_cases c7 : x.k = 7
  · rw [if_pos c7]
    refine ⟨Fine.bare ?_, hn⟩
    by_cases h : L.length - 1 - x.n.toNat < L.length
    · exact (hL _ (by simp [List.getD, h])).le (by omega)
    · rw [show L.getD (L.length - 1 - x.n.toNat) z0T = z0T by simp [List.getD, h]]
      exact hz
  rw [if_neg c7]
  by_cases c8 : x.k = 8
  · rw [if_pos c8]; exact ⟨fine_lit (by omega) _, hn⟩
  rw [if_neg c8]
  by_cases c9 : x.k = 9
  · rw [if_pos c9]; exact ⟨(((hm.kid _).kid _).bare).le (by omega), hn⟩
  rw [if_neg c9]
  by_cases c10 : x.k = 10
  · rw [if_pos c10]; exact ⟨twoP_fine (by omega) _ _ _, hn⟩
  rw [if_neg c10]
  by_cases c11 : x.k = 11
  · rw [if_pos c11]; exact ⟨(gi 0).le (by omega), hn⟩
  rw [if_neg c11]
  by_cases c12 : x.k = 12
  · rw [if_pos c12]
    refine ⟨?_, hn⟩
    unfold idxP
    split
    · exact ((gi 0).kid 0).le (by omega)
    · exact hz
  rw [if_neg c12]
  by_cases c13 : x.k = 13
  · rw [if_pos c13]
    unfold fieP
    split
    · cases hk : fldP m x (p.getD 0 z0T).lab.n with
      | none => exact ⟨hz, hn⟩
      | some k =>
        have hk' : fldA m (fldN m x (p.getD 0 z0T).lab.n) = some k := by
          unfold fldP at hk
          split at hk
          · exact hk
          · cases hk
        have h1 := fldA_size m (fldN m x (p.getD 0 z0T).lab.n)
        have h2 := fldA_ok hm.1 (fldN m x (p.getD 0 z0T).lab.n)
        rw [hk'] at h1 h2
        exact ⟨Fine.bare ⟨h2, by have := hm.2; simp only [Option.getD_some] at h1; omega⟩, fldN_in hms hx _⟩
    · exact ⟨hz, hn⟩
  rw [if_neg c13]
  by_cases c14 : x.k = 14
  · rw [if_pos c14]
    unfold lisP
    split
    · split
      · exact ⟨hz, hn⟩
      · refine ⟨⟨(Tr.all_mk _ _ _).2 ⟨⟨by simp, by constructor <;> (dsimp only; omega), by simp, by simp⟩, fun y hy => by simp at hy; subst hy; exact (gi 0).1⟩, ?_⟩, hn⟩
        have := (gi 0).2
        rw [Tr.size_mk]; simp only [List.map_cons, List.map_nil, List.sum_cons, List.sum_nil]; omega
    · exact ⟨hz, hn⟩
  rw [if_neg c14]
  by_cases c15 : x.k = 15
  · rw [if_pos c15]; exact ⟨⟨(Tr.all_mk _ _ _).2 ⟨⟨by simp, hn, by simp, by simp⟩, fun y hy => by simp at hy⟩, by simp [Tr.size_mk]⟩, hn⟩
  rw [if_neg c15]
  by_cases c16 : x.k = 16
  · rw [if_pos c16]; exact ⟨(((hm.kid _).kid _).bare).le (by omega), hn⟩
  rw [if_neg c16]
  by_cases c18 : x.k = 18
  · rw [if_pos c18]; exact ⟨fine_ty (by omega) (by omega), hn⟩
  · rw [if_neg c18]; exact ⟨fine_lit (by omega) _, hn⟩
theorem rulP_er (m : VT) (L : List VT) (x : Lab) (p : List VT) (h : (rulP m L x p).ok = true) : (rulP m L x p).er = 0 := by
  unfold rulP at h ⊢
  by_cases c7 : x.k = 7
  · rw [if_pos c7]
  rw [if_neg c7] at h ⊢
  by_cases c8 : x.k = 8
  · rw [if_pos c8]
  rw [if_neg c8] at h ⊢
  by_cases c9 : x.k = 9
  · rw [if_pos c9]
  rw [if_neg c9] at h ⊢
  by_cases c10 : x.k = 10
  · rw [if_pos c10]
  rw [if_neg c10] at h ⊢
  by_cases c11 : x.k = 11
  · rw [if_pos c11]
  rw [if_neg c11] at h ⊢
  by_cases c12 : x.k = 12
  · rw [if_pos c12]
  rw [if_neg c12] at h ⊢
  by_cases c13 : x.k = 13
  · rw [if_pos c13] at h ⊢
    unfold fieP at h ⊢
    split
    · rename_i hc
      rw [if_pos hc] at h
      cases hk : fldP m x (p.getD 0 z0T).lab.n with
      | none => rw [hk] at h; cases h
      | some k => rfl
    · rfl
  rw [if_neg c13] at h ⊢
  by_cases c14 : x.k = 14
  · rw [if_pos c14] at h ⊢
    unfold lisP at h ⊢
    split
    · rename_i hc
      rw [if_pos hc] at h
      split
      · rename_i h0
        rw [if_pos h0] at h; cases h
      · rfl
    · rfl
  rw [if_neg c14] at h ⊢
  by_cases c15 : x.k = 15
  · rw [if_pos c15]
  rw [if_neg c15] at h ⊢
  by_cases c16 : x.k = 16
  · rw [if_pos c16]
  rw [if_neg c16] at h ⊢
  by_cases c18 : x.k = 18
  · rw [if_pos c18]
  · rw [if_neg c18]
theorem ofP_pl (m : VT) (L : List VT) (t : VT) (h : (ofP m L t).er = 0) : (ofP m L t).pl = 0 := by
  obtain ⟨x, l⟩ := t
  rw [ofP_mk] at h ⊢
  unfold ofPC at h ⊢
  split
  · rename_i c
    rw [if_pos c] at h; cases h
  · rename_i c
    rw [if_neg c] at h
    split
    · rename_i c2
      rw [if_pos c2] at h; cases h
    · rename_i c2
      rw [if_neg c2] at h
      cases hf : (l.map (ofP m L)).find? (fun g => !decide (g.er = 0)) with
      | some g =>
        rw [hf] at h
        have hp := List.find?_some hf
        dsimp only at h
        rw [h] at hp; cases hp
      | none =>
        rw [hf] at h
        dsimp only at h ⊢
        split
        · rfl
        · rename_i c3
          rw [if_neg c3] at h
          exfalso
          have : (badG x (if (rulP m L x ((l.map (ofP m L)).map GV.ty)).er = 0 then 10 else (rulP m L x ((l.map (ofP m L)).map GV.ty)).er)).er = (if (rulP m L x ((l.map (ofP m L)).map GV.ty)).er = 0 then 10 else (rulP m L x ((l.map (ofP m L)).map GV.ty)).er) := rfl
          rw [this] at h
          split at h
          · omega
          · rename_i c4; exact c4 h
theorem ofP_ok {m : VT} {L : List VT} {B : Nat} (hm : Fine B m) (hms : m.size ≤ 1000000) (hL : ∀ t ∈ L, Fine B t) (t : VT) : in64 t → t.size ≤ 1000000 → OfOk B t (ofP m L t) := by
  induction t using Tr.ind with
  | h x l ih =>
  intro ht hts
  obtain ⟨hx, hl⟩ := (Tr.all_mk _ x l).1 ht
  have hlen := Tr.len_size (x := x) (l := l)
  have hsp := Tr.size_pos (Tr.mk x l)
  rw [ofP_mk]
  unfold ofPC
  split
  · exact badG_ok hx _
  · split
    · exact badG_ok hx _
    · split
      · rename_i g hg
        obtain ⟨y, hy, rfl⟩ := List.mem_map.1 (List.mem_of_find?_eq_some hg)
        have hys := kid_lt (x := x) hy
        exact ⟨fine_z0 (by omega), fine_z0 hsp, (ih y hy (hl y hy) (by omega)).pl⟩
      · have hk : ∀ a ∈ (l.map (ofP m L)).map GV.ty, Fine (B + ((Tr.mk x l).size - 1)) a := by
          intro a ha
          rw [List.map_map] at ha
          obtain ⟨y, hy, rfl⟩ := List.mem_map.1 ha
          have hys := kid_lt (x := x) hy
          exact (ih y hy (hl y hy) (by omega)).ty.le (by omega)
        have hr := rulP_fine (m := m) (L := L) (B := B + ((Tr.mk x l).size - 1)) (hm.le (by omega)) hms (fun t h => (hL t h).le (by omega)) hx hk (by simp; omega)
        split
        · refine ⟨hr.1.le (by omega), ⟨(Tr.all_mk _ _ _).2 ⟨⟨hx.1, hr.2, by simp, by simp⟩, fun a ha => ?_⟩, ?_⟩, by simp⟩
          · rw [List.map_map] at ha
            obtain ⟨y, hy, rfl⟩ := List.mem_map.1 ha
            have hys := kid_lt (x := x) hy
            exact (ih y hy (hl y hy) (by omega)).fo.1
          · rw [Tr.size_mk, Tr.size_mk, List.map_map, List.map_map]
            refine Nat.add_le_add_left (sum_le_map (fun y hy => ?_)) 1
            have hys := kid_lt (x := x) hy
            exact (ih y hy (hl y hy) (by omega)).fo.2
        · exact badG_ok hx _
set_option maxRecDepth 100000 in
set_option maxHeartbeats 4000000 in
theorem pexpr_row (m : VT) (L : List VT) (B : Nat) (hm : Fine B m) (hL : ∀ t ∈ L, Fine B t) (hB : B ≤ 400000) (hLl : L.length ≤ 400000) (t : VT) : in64 t → t.size ≤ 400000 → Row Try.prog 41 [.v (.c (.ptr 0 0)), vT t] [bxW m L 0 0] (vTy (ofP m L t).ty (ofP m L t).fo) [some (bxW m L (ofP m L t).pl (ofP m L t).er)] := by
  induction t using Tr.ind with
  | h x l ih =>
  intro ht hts
  obtain ⟨hx, hl⟩ := (Tr.all_mk _ x l).1 ht
  have hlen := Tr.len_size (x := x) (l := l)
  have hms := hm.2
  have hsha := pshaped_row x l
  have hknw := known_row m (by omega) L (by omega) 0 0 x l hx
  have hf12 := fail_row m L 0 0 x l 12
  have hf8 := fail_row m L 0 0 x l 8
  have hf10 := fail_row m L 0 0 x l 10
  rw [if_pos rfl, if_pos rfl] at hf12 hf8 hf10
  rw [ofP_mk]
  unfold ofPC
  cases hS : shaE x l.length with
  | false =>
    rw [hS] at hsha
    rw [if_pos rfl]
    unfold badG
    clear ih hknw hf8 hf10
    obtain ⟨mx, ml⟩ := m
    refine row_of Try.func41 rfl rfl (Nat.le_of_ble_eq_true rfl) ?_
    repeat' (first | refine aw_seq ?_ | refine aw_skip ?_ | refine aw_block ?_ | refine aw_exit ?_ | refine aw_cond rfl (fun _ => ?_) (fun hb => absurd hb (by decide)) | refine aw_cond rfl (fun hb => absurd hb (by decide)) (fun _ => ?_) | (refine aw_reg (fun K hK => ?_); simp -implicitDefEqProofs) | (refine aw_drw mixd (fun K hK => ?_); simp -implicitDefEqProofs) | refine hK _ ?_ | refine hK _ _ (by rfl) ?_ | (refine ar_call (cp hsha ?_); simp -implicitDefEqProofs) | (refine ard_call (dp hsha ?_); simp -implicitDefEqProofs) | (refine ar_call (cb hf12 0 ?_); simp -implicitDefEqProofs) | (refine ard_call (db hf12 0 ?_); simp -implicitDefEqProofs) | fail)
    refine aw_ret (fin_box ?_); simp -implicitDefEqProofs [FinB, resV, resT] <;> try rfl
  | true =>
  rw [hS] at hsha
  rw [if_neg (by simp)]
  clear hf12
  by_cases c17 : x.k = 17
  · rw [if_pos (.inl c17)]
    unfold badG
    clear ih hknw hf10
    obtain ⟨mx, ml⟩ := m
    refine row_of Try.func41 rfl rfl (Nat.le_of_ble_eq_true rfl) ?_
    repeat' (first | refine aw_seq ?_ | refine aw_skip ?_ | refine aw_block ?_ | refine aw_exit ?_ | refine aw_cond rfl (fun _ => ?_) (fun hb => absurd hb (by decide)) | refine aw_cond rfl (fun hb => absurd hb (by decide)) (fun _ => ?_) | (refine aw_reg (fun K hK => ?_); simp -implicitDefEqProofs [c17]) | (refine aw_drw mixd (fun K hK => ?_); simp -implicitDefEqProofs [c17]) | refine hK _ ?_ | refine hK _ _ (by rfl) ?_ | (refine ar_call (cp hsha ?_); simp -implicitDefEqProofs [c17]) | (refine ard_call (dp hsha ?_); simp -implicitDefEqProofs [c17]) | (refine ar_call (cb hf8 0 ?_); simp -implicitDefEqProofs [c17]) | (refine ard_call (db hf8 0 ?_); simp -implicitDefEqProofs [c17]) | fail)
    refine aw_ret (fin_box ?_); simp -implicitDefEqProofs [FinB, resV, resT] <;> try rfl
  cases hN : knwB m L.length x with
  | false =>
    rw [hN] at hknw
    rw [if_pos (.inr rfl)]
    unfold badG
    clear ih hf10
    obtain ⟨mx, ml⟩ := m
    refine row_of Try.func41 rfl rfl (Nat.le_of_ble_eq_true rfl) ?_
    repeat' (first | refine aw_seq ?_ | refine aw_skip ?_ | refine aw_block ?_ | refine aw_exit ?_ | refine aw_cond rfl (fun _ => ?_) (fun hb => absurd hb (by decide)) | refine aw_cond rfl (fun hb => absurd hb (by decide)) (fun _ => ?_) | (refine aw_reg (fun K hK => ?_); simp -implicitDefEqProofs [c17]) | (refine aw_drw mixd (fun K hK => ?_); simp -implicitDefEqProofs [c17]) | refine hK _ ?_ | refine hK _ _ (by rfl) ?_ | (refine ar_call (cp hsha ?_); simp -implicitDefEqProofs [c17]) | (refine ard_call (dp hsha ?_); simp -implicitDefEqProofs [c17]) | (refine ar_call (cb hknw 0 ?_); simp -implicitDefEqProofs [c17]) | (refine ard_call (db hknw 0 ?_); simp -implicitDefEqProofs [c17]) | (refine ar_call (cb hf8 0 ?_); simp -implicitDefEqProofs [c17]) | (refine ard_call (db hf8 0 ?_); simp -implicitDefEqProofs [c17]) | fail)
    refine aw_ret (fin_box ?_); simp -implicitDefEqProofs [FinB, resV, resT] <;> try rfl
  | true =>
  rw [hN] at hknw
  rw [if_neg (fun h => h.elim c17 (by simp))]
  clear hf8
  have hgl : ∀ a ∈ (l.map (ofP m L)).map GV.ty, in64 a ∧ a.size ≤ 900000 := by
    intro a ha
    rw [List.map_map] at ha
    obtain ⟨y, hy, rfl⟩ := List.mem_map.1 ha
    have hys := kid_lt (x := x) hy
    have := (ofP_ok hm (by omega) hL y (hl y hy) (by omega)).ty
    exact ⟨this.1, by have := this.2; show (ofP m L y).ty.size ≤ _; omega⟩
  have hru := fun F => prule_row m hm.1 (by omega) L (fun t h => by have := (hL t h).2; omega) (by omega) x l hx ((l.map (ofP m L)).map GV.ty) (by simp) hgl (by simp; omega) hS hN F
  obtain ⟨⟨⟨rx, rl⟩, rok, rn, re⟩, hR⟩ : ∃ R, rulP m L x ((l.map (ofP m L)).map GV.ty) = R := ⟨_, rfl⟩
  rw [hR] at hru ⊢
  dsimp only at hru ⊢
  have hfr := fail_row m L (if re = 0 then 0 else x.f) re x l 10
  obtain ⟨F, hF⟩ : ∃ F, (match (l.map (ofP m L)).find? (fun g => !decide (g.er = 0)) with
    | some g => ⟨z0T, z0T, g.pl, g.er⟩
    | none => if rok = true then ⟨.mk rx rl, .mk ⟨x.k, rn, ⟨#[]⟩, 0, 0⟩ ((l.map (ofP m L)).map GV.fo), 0, 0⟩ else badG x (if re = 0 then 10 else re) : GV) = F := ⟨_, rfl⟩
  suffices hsuf : Row Try.prog 41 [.v (.c (.ptr 0 0)), vT (.mk x l)] [bxW m L 0 0] (vTy F.ty F.fo) [some (bxW m L F.pl F.er)] by
    rw [← hF] at hsuf
    exact hsuf
  have hre : rok = true → re = 0 := by
    have := rulP_er m L x ((l.map (ofP m L)).map GV.ty)
    rw [hR] at this
    exact this
  clear hR
  have hat : ∀ (k : Nat) ax al, l[k]? = some (.mk ax al) → ¬ (ofP m L (.mk ax al)).er = 0 → (∀ y ∈ l.take k, (ofP m L y).er = 0) → F = ⟨z0T, z0T, (ofP m L (.mk ax al)).pl, (ofP m L (.mk ax al)).er⟩ := by
    intro k ax al ha he hno
    rw [← hF, find_at (k := k) (a := ofP m L (.mk ax al)) (by rw [List.getElem?_map, ha]; rfl) (by simpa using he) (fun g hg => by
      rw [← List.map_take] at hg
      obtain ⟨y, hy, rfl⟩ := List.mem_map.1 hg
      simpa using hno y hy)]
  have hend : (∀ y ∈ l, (ofP m L y).er = 0) → F = if rok = true then ⟨.mk rx rl, .mk ⟨x.k, rn, ⟨#[]⟩, 0, 0⟩ ((l.map (ofP m L)).map GV.fo), 0, 0⟩ else badG x (if re = 0 then 10 else re) := by
    intro hno
    rw [← hF, List.find?_eq_none.2 (fun g hg => by
      obtain ⟨y, hy, rfl⟩ := List.mem_map.1 hg
      simpa using hno y hy)]
  clear hF
  obtain ⟨Ty, hTy⟩ : ∃ Ty : List VT, (l.map (ofP m L)).map GV.ty = Ty := ⟨_, rfl⟩
  obtain ⟨Fo, hFo⟩ : ∃ Fo : List VT, (l.map (ofP m L)).map GV.fo = Fo := ⟨_, rfl⟩
  have hTl : Ty.length = l.length := by rw [← hTy]; simp
  have hFl : Fo.length = l.length := by rw [← hFo]; simp
  have hTk : ∀ k y, l[k]? = some y → Ty.take (k + 1) = Ty.take k ++ [(ofP m L y).ty] := fun k y h => by
    rw [List.take_add_one, ← hTy, List.getElem?_map, List.getElem?_map, h]; rfl
  have hFk : ∀ k y, l[k]? = some y → Fo.take (k + 1) = Fo.take k ++ [(ofP m L y).fo] := fun k y h => by
    rw [List.take_add_one, ← hFo, List.getElem?_map, List.getElem?_map, h]; rfl
  rw [hTy] at hru
  rw [hFo] at hend
  clear hTy hFo hgl
  replace hru := hru Fo
  obtain ⟨mx, ml⟩ := m
  refine row_of Try.func41 rfl rfl (Nat.le_of_ble_eq_true rfl) ?_
  repeat' (first | refine aw_seq ?_ | refine aw_skip ?_ | refine aw_block ?_ | refine aw_exit ?_ | refine aw_cond rfl (fun _ => ?_) (fun hb => absurd hb (by decide)) | refine aw_cond rfl (fun hb => absurd hb (by decide)) (fun _ => ?_) | (refine aw_reg (fun K hK => ?_); simp -implicitDefEqProofs [c17]) | (refine aw_drw mixd (fun K hK => ?_); simp -implicitDefEqProofs [c17]) | refine hK _ ?_ | refine hK _ _ (by rfl) ?_ | (refine ar_call (cp hsha ?_); simp -implicitDefEqProofs [c17]) | (refine ard_call (dp hsha ?_); simp -implicitDefEqProofs [c17]) | (refine ar_call (cb hknw 0 ?_); simp -implicitDefEqProofs [c17]) | (refine ard_call (db hknw 0 ?_); simp -implicitDefEqProofs [c17]) | fail)
  refine aw_nilca 34 3 [.pv (I x.k), .pv (I x.n), .pv (Sx ⟨#[]⟩), .pv .nilS, .pv (I 0), .pv (I 0)] 24 6 (by simp) (by simp) (by simp) ?_
  simp [St.nilca]
  refine aw_nilca 36 0 [.pv .nilS] 24 6 (by simp) (by simp) (by simp) ?_
  simp [St.nilca]
  refine aw_lp (ι := Nat) (fun k => mkSt [(0, .v (.c (.ptr 0 0))), (3, .v (.c (.ptr 1 0))), (4, .v (.c (.ptr 2 0))), (5, .v (.c (.ptr 3 0))), (6, .v (.c (.ptr 4 0))), (37, vLs l), (38, vI (l.length : Nat)), (39, vI (k : Nat))] [some (bxW (.mk mx ml) L 0 0), some (.box (ta (.mk x l))), some (.box (ta z0T ++ ta z0T)), some (.box [.pv (I x.k), .pv (I x.n), .pv (Sx ⟨#[]⟩), .arr 5 6 (Fo.take k).length, .pv (I 0), .pv (I 0)]), some (.box [.arr 6 6 (Ty.take k).length]), some (.arr 24 6 ((Fo.take k).map tc)), some (.arr 24 6 ((Ty.take k).map tc))]) (fun k => k ≤ l.length ∧ ∀ y ∈ l.take k, (ofP (.mk mx ml) L y).er = 0) (fun k => l.length - k) 0 ⟨Nat.zero_le _, by simp⟩ (cov_intro [0, 1, 2, 34, 36, 41, 42] (by simp -implicitDefEqProofs) (by simp -implicitDefEqProofs) (by decide) rfl (by simp)) (fun Z hI k hk => ?_)
  obtain ⟨hk, hz⟩ := hk
  by_cases hkl : k < l.length; rotate_left
  · have : k = l.length := by omega
    subst this
    rw [List.take_length] at hz
    have hF := hend hz
    have e1 : Ty.take l.length = Ty := List.take_of_length_le (by omega)
    have e2 : Fo.take l.length = Fo := List.take_of_length_le (by omega)
    rw [e1, e2]
    clear hat hend ih hTk hFk
    repeat (first | refine aw_seq ?_ | refine aw_skip ?_ | refine aw_block ?_ | refine aw_exit ?_ | refine aw_cond rfl (fun _ => ?_) (fun hb => absurd hb (by decide)) | refine aw_cond rfl (fun hb => absurd hb (by decide)) (fun _ => ?_) | (refine aw_reg (fun K hK => ?_); simp -implicitDefEqProofs; refine hK _ ?_) | (refine aw_drw mixd (fun K hK => ?_); simp -implicitDefEqProofs; refine hK _ _ (by rfl) ?_) | fail)
    refine aw_frz 5 24 6 (Fo.map tc) (by simp) ?_
    refine aw_frz 6 24 6 (Ty.map tc) (by simp [St.frz, AO.frz]) ?_
    simp [St.frz, AV.frz, AT.frz, AC.frz, AO.frz]
    cases rok with
    | true =>
      have hre := hre rfl
      subst hre
      replace hF := hF.trans (if_pos rfl)
      subst hF
      rw [if_pos rfl] at hru
      repeat' (first | refine aw_seq ?_ | refine aw_skip ?_ | refine aw_block ?_ | refine aw_exit ?_ | refine aw_cond rfl (fun _ => ?_) (fun hb => absurd hb (by decide)) | refine aw_cond rfl (fun hb => absurd hb (by decide)) (fun _ => ?_) | (refine aw_reg (fun K hK => ?_); simp -implicitDefEqProofs) | (refine aw_drw mixd (fun K hK => ?_); simp -implicitDefEqProofs) | refine hK _ ?_ | refine hK _ _ (by rfl) ?_ | (refine ar_call (cg hru [0,3,4] ?_); simp -implicitDefEqProofs) | (refine ard_call (dg hru [0,3,4] ?_); simp -implicitDefEqProofs) | fail)
      refine aw_ret (fin_box ?_); simp -implicitDefEqProofs [FinB, resV, resT] <;> try rfl
    | false =>
      replace hF := hF.trans (if_neg (by simp))
      subst hF
      unfold badG
      by_cases he : re = 0
      · subst he
        simp only [if_pos] at hru hfr ⊢
        repeat' (first | refine aw_seq ?_ | refine aw_skip ?_ | refine aw_block ?_ | refine aw_exit ?_ | refine aw_cond rfl (fun _ => ?_) (fun hb => absurd hb (by decide)) | refine aw_cond rfl (fun hb => absurd hb (by decide)) (fun _ => ?_) | (refine aw_reg (fun K hK => ?_); simp -implicitDefEqProofs) | (refine aw_drw mixd (fun K hK => ?_); simp -implicitDefEqProofs) | refine hK _ ?_ | refine hK _ _ (by rfl) ?_ | (refine ar_call (cg hru [0,3,4] ?_); simp -implicitDefEqProofs) | (refine ard_call (dg hru [0,3,4] ?_); simp -implicitDefEqProofs) | (refine ar_call (cb hfr 0 ?_); simp -implicitDefEqProofs) | (refine ard_call (db hfr 0 ?_); simp -implicitDefEqProofs) | fail)
        refine aw_ret (fin_box ?_); simp -implicitDefEqProofs [FinB, resV, resT] <;> try rfl
      · simp only [if_neg he] at hru hfr ⊢
        repeat' (first | refine aw_seq ?_ | refine aw_skip ?_ | refine aw_block ?_ | refine aw_exit ?_ | refine aw_cond rfl (fun _ => ?_) (fun hb => absurd hb (by decide)) | refine aw_cond rfl (fun hb => absurd hb (by decide)) (fun _ => ?_) | (refine aw_reg (fun K hK => ?_); simp -implicitDefEqProofs) | (refine aw_drw mixd (fun K hK => ?_); simp -implicitDefEqProofs) | refine hK _ ?_ | refine hK _ _ (by rfl) ?_ | (refine ar_call (cg hru [0,3,4] ?_); simp -implicitDefEqProofs) | (refine ard_call (dg hru [0,3,4] ?_); simp -implicitDefEqProofs) | (refine ar_call (cb hfr 0 ?_); simp -implicitDefEqProofs) | (refine ard_call (db hfr 0 ?_); simp -implicitDefEqProofs) | fail)
        refine aw_ret (fin_box ?_); simp -implicitDefEqProofs [FinB, resV, resT] <;> try rfl
  obtain ⟨⟨ax, al⟩, ha⟩ : ∃ a, l[k]? = some a := ⟨_, List.getElem?_eq_getElem hkl⟩
  have ha' := (List.getElem?_eq_some_iff.1 ha).2
  have hsz1 := Tr.size_at (x := x) ha
  have hc := ih _ (List.mem_of_getElem? ha) (hl _ (List.mem_of_getElem? ha)) (by omega)
  have w2 : IntKind.i64.wrap ((k : Nat) + 1 : Int) = (k : Nat) + 1 := i64i _ (by omega) (by omega)
  have hs := hTk k _ ha
  have hf := hFk k _ ha
  have hto := hat k ax al ha
  have hTkl : (Ty.take k).length = k := by rw [List.length_take]; omega
  have hFkl : (Fo.take k).length = k := by rw [List.length_take]; omega
  obtain ⟨TK, hTK⟩ : ∃ TK, Ty.take k = TK := ⟨_, rfl⟩
  obtain ⟨FK, hFK⟩ : ∃ FK, Fo.take k = FK := ⟨_, rfl⟩
  have hnx : (ofP (.mk mx ml) L (.mk ax al)).er = 0 → ∀ y ∈ l.take (k + 1), (ofP (.mk mx ml) L y).er = 0 := by
    intro he y hy
    rw [List.take_add_one, ha] at hy
    rcases List.mem_append.1 hy with hy | hy
    · exact hz y hy
    · simp at hy; subst hy; exact he
  have hpl := ofP_pl (.mk mx ml) L (.mk ax al)
  obtain ⟨⟨⟨bx, bl⟩, ⟨cx, cl⟩, gp, ge⟩, hG⟩ : ∃ g, ofP (.mk mx ml) L (.mk ax al) = g := ⟨_, rfl⟩
  rw [hG] at hc hto hs hf hnx hpl
  rw [hTK] at hs hTkl ⊢
  rw [hFK] at hf hFkl ⊢
  dsimp only at hc hto hpl hs hf
  clear hG hTK hFK hTk hFk hat hend ih hru hfr hf10 hre
  have b1 : (k + 1) * 72 ≤ 140737488355328 := by omega
  have b2 : k + 1 ≤ 140737488355328 := by omega
  by_cases he : ge = 0
  · have hp0 := hpl he
    subst he hp0
    have z1 : zPV (Value.int .i64 0) = some (.lit (.int .i64 0)) := rfl
    have z2 : zPV (Value.string { data := #[] }) = some (.lit (.string { data := #[] })) := rfl
    have z3 : zPV (Value.slice none 0 0) = some .nilS := rfl
    have i1 : ((k : Nat) : Int) < (k : Nat) + 1 := by omega
    have i2 : k < k + 1 := by omega
    have sF : ∀ z c : List PV, (FK.map tc ++ [z]).set k c = FK.map tc ++ [c] := fun z c => by
      rw [List.set_append_right _ _ (by rw [List.length_map]; omega), List.length_map, hFkl, Nat.sub_self]; rfl
    have sT : ∀ z c : List PV, (TK.map tc ++ [z]).set k c = TK.map tc ++ [c] := fun z c => by
      rw [List.set_append_right _ _ (by rw [List.length_map]; omega), List.length_map, hTkl, Nat.sub_self]; rfl
    repeat' (first | refine aw_seq ?_ | refine aw_skip ?_ | refine aw_block ?_ | refine aw_exit ?_ | refine aw_cond rfl (fun _ => ?_) (fun hb => absurd hb (by decide)) | refine aw_cond rfl (fun hb => absurd hb (by decide)) (fun _ => ?_) | (refine aw_reg (fun K hK => ?_); simp -implicitDefEqProofs [hkl, ha, ha', hTkl, hFkl, b1, b2, w2, z1, z2, z3, i1, i2, sF, sT]) | (refine aw_drw mixd (fun K hK => ?_); simp -implicitDefEqProofs [hkl, ha, ha', hTkl, hFkl, b1, b2, w2, z1, z2, z3, i1, i2, sF, sT]) | refine hK _ ?_ | refine hK _ _ (by rfl) ?_ | (refine ar_call (cb hc 0 ?_); simp -implicitDefEqProofs [hkl, ha, ha', hTkl, hFkl, b1, b2, w2, z1, z2, z3, i1, i2, sF, sT]) | (refine ard_call (db hc 0 ?_); simp -implicitDefEqProofs [hkl, ha, ha', hTkl, hFkl, b1, b2, w2, z1, z2, z3, i1, i2, sF, sT]) | fail)
    refine ⟨k + 1, ⟨by omega, hnx rfl⟩, (by dsimp only; omega), ?_⟩
    rw [hI, hs, hf]; exact cov_intro [0, 1, 2, 3, 4, 77, 157] (by simp -implicitDefEqProofs [hTkl, hFkl]) (by simp -implicitDefEqProofs [hTkl, hFkl]) (by decide) rfl (by simp)
  · have hF := hto he hz
    subst hF
    repeat' (first | refine aw_seq ?_ | refine aw_skip ?_ | refine aw_block ?_ | refine aw_exit ?_ | refine aw_cond rfl (fun _ => ?_) (fun hb => absurd hb (by decide)) | refine aw_cond rfl (fun hb => absurd hb (by decide)) (fun _ => ?_) | (refine aw_reg (fun K hK => ?_); simp -implicitDefEqProofs [hkl, ha, ha', he]) | (refine aw_drw mixd (fun K hK => ?_); simp -implicitDefEqProofs [hkl, ha, ha', he]) | refine hK _ ?_ | refine hK _ _ (by rfl) ?_ | (refine ar_call (cb hc 0 ?_); simp -implicitDefEqProofs [hkl, ha, ha', he]) | (refine ard_call (db hc 0 ?_); simp -implicitDefEqProofs [hkl, ha, ha', he]) | fail)
    refine aw_ret (fin_box ?_); simp -implicitDefEqProofs [FinB, resV, resT] <;> try rfl
end Go.Proofs.Ytjjnboenehomgaa.am
end
section
namespace Go.Proofs.Ytjjnboenehomgaa.am
open Go.ChangeShapes Go.WideShapes Go.ChangeAt Go.RowKit
open vt
set_option linter.unusedVariables false
set_option linter.unusedSimpArgs false
theorem ofP_intro {m : VT} {L : List VT} {x : Lab} {l : List VT} (hs : shaE x l.length = true) (h17 : ¬ x.k = 17) (hk : knwB m L.length x = true) (he : ∀ y ∈ l, (ofP m L y).er = 0) (hok : (rulP m L x (l.map fun y => (ofP m L y).ty)).ok = true) :
    ofP m L (.mk x l) = ⟨(rulP m L x (l.map fun y => (ofP m L y).ty)).ty, .mk ⟨x.k, (rulP m L x (l.map fun y => (ofP m L y).ty)).n, ⟨#[]⟩, 0, 0⟩ (l.map fun y => (ofP m L y).fo), 0, 0⟩ := by
  rw [ofP_mk]
  unfold ofPC
  rw [if_neg (by rw [hs]; simp), if_neg (fun h => h.elim h17 (by rw [hk]; simp)), List.find?_eq_none.2 (fun g hg => by
    obtain ⟨y, hy, rfl⟩ := List.mem_map.1 hg
    simpa using he y hy)]
  have e1 : (l.map (ofP m L)).map GV.ty = l.map fun y => (ofP m L y).ty := by rw [List.map_map]; rfl
  have e2 : (l.map (ofP m L)).map GV.fo = l.map fun y => (ofP m L y).fo := by rw [List.map_map]; rfl
  dsimp only
  rw [e1, e2, if_pos hok]
theorem ofP_inv {m : VT} {L : List VT} {x : Lab} {l : List VT} (h : (ofP m L (.mk x l)).er = 0) : shaE x l.length = true ∧ ¬ x.k = 17 ∧ knwB m L.length x = true ∧ (∀ y ∈ l, (ofP m L y).er = 0) ∧ (rulP m L x (l.map fun y => (ofP m L y).ty)).ok = true := by
  have e1 : (l.map (ofP m L)).map GV.ty = l.map fun y => (ofP m L y).ty := by rw [List.map_map]; rfl
  rw [ofP_mk] at h
  unfold ofPC at h
  by_cases hs : shaE x l.length = false
  · rw [if_pos hs] at h; cases h
  rw [if_neg hs] at h
  by_cases hk : x.k = 17 ∨ knwB m L.length x = false
  · rw [if_pos hk] at h; cases h
  rw [if_neg hk] at h
  cases hf : (l.map (ofP m L)).find? (fun g => !decide (g.er = 0)) with
  | some g =>
    rw [hf] at h
    have hp := List.find?_some hf
    dsimp only at h
    rw [h] at hp; cases hp
  | none =>
    rw [hf] at h
    dsimp only at h
    rw [e1] at h
    refine ⟨by simpa using hs, fun e => hk (.inl e), by simpa using fun e => hk (.inr e), fun y hy => ?_, ?_⟩
    · have := List.find?_eq_none.1 hf (ofP m L y) (List.mem_map.2 ⟨y, hy, rfl⟩)
      simpa using this
    · refine Classical.byContradiction fun hok => ?_
      rw [if_neg hok] at h
      have h' : (if (rulP m L x (l.map fun y => (ofP m L y).ty)).er = 0 then (10 : Int) else (rulP m L x (l.map fun y => (ofP m L y).ty)).er) = 0 := h
      split at h'
      · omega
      · rename_i c; exact c h'
theorem rulP_congr (m : VT) (L : List VT) (x : Lab) (p : List VT) (h13 : ¬ x.k = 13) : rulP m L ⟨x.k, x.n, ⟨#[]⟩, 0, 0⟩ p = rulP m L x p := by
  unfold rulP
  simp only [if_neg h13]
  rfl
theorem rulP_n (m : VT) (L : List VT) (x : Lab) (p : List VT) (h13 : ¬ x.k = 13) : (rulP m L x p).n = x.n := by
  unfold rulP
  by_cases c7 : x.k = 7
  · rw [if_pos c7]
  rw [if_neg c7]
  by_cases c8 : x.k = 8
  · rw [if_pos c8]
  rw [if_neg c8]
  by_cases c9 : x.k = 9
  · rw [if_pos c9]
  rw [if_neg c9]
  by_cases c10 : x.k = 10
  · rw [if_pos c10]
  rw [if_neg c10]
  by_cases c11 : x.k = 11
  · rw [if_pos c11]
  rw [if_neg c11]
  by_cases c12 : x.k = 12
  · rw [if_pos c12]
  rw [if_neg c12, if_neg h13]
  by_cases c14 : x.k = 14
  · rw [if_pos c14]
    unfold lisP
    split
    · split <;> rfl
    · rfl
  rw [if_neg c14]
  by_cases c15 : x.k = 15
  · rw [if_pos c15]
  rw [if_neg c15]
  by_cases c16 : x.k = 16
  · rw [if_pos c16]
  rw [if_neg c16]
  by_cases c18 : x.k = 18
  · rw [if_pos c18]
  · rw [if_neg c18]
theorem rulP_13 (m : VT) (L : List VT) (x : Lab) (p : List VT) (h13 : x.k = 13) : rulP m L x p = fieP m x (p.getD 0 z0T) := by
  unfold rulP
  rw [if_neg (by omega), if_neg (by omega), if_neg (by omega), if_neg (by omega), if_neg (by omega), if_neg (by omega), if_pos h13]
theorem fldN_bare (m : VT) (k N r : Int) : fldN m ⟨k, N, ⟨#[]⟩, 0, 0⟩ r = N := by
  unfold fldN; exact if_pos rfl
theorem rulP_settles (m : VT) (L : List VT) (x : Lab) (p : List VT) (h : (rulP m L x p).ok = true) : rulP m L ⟨x.k, (rulP m L x p).n, ⟨#[]⟩, 0, 0⟩ p = rulP m L x p := by
  by_cases h13 : x.k = 13
  · rw [rulP_13 m L x p h13] at h ⊢
    rw [rulP_13 m L ⟨x.k, (fieP m x (p.getD 0 z0T)).n, ⟨#[]⟩, 0, 0⟩ p h13]
    obtain ⟨a, ha⟩ : ∃ a, p.getD 0 z0T = a := ⟨_, rfl⟩
    rw [ha] at h ⊢
    unfold fieP at h ⊢
    by_cases hc : a.lab.k = 4 ∧ a.kids.length = 0
    · rw [if_pos hc] at h ⊢
      rw [if_pos hc]
      cases hf : fldP m x a.lab.n with
      | none => rw [hf] at h; cases h
      | some k =>
        dsimp only
        have hn : fldN m ⟨x.k, fldN m x a.lab.n, ⟨#[]⟩, 0, 0⟩ a.lab.n = fldN m x a.lab.n := fldN_bare m x.k _ _
        have hp : fldP m ⟨x.k, fldN m x a.lab.n, ⟨#[]⟩, 0, 0⟩ a.lab.n = fldP m x a.lab.n := by
          unfold fldP
          rw [hn]
        rw [hp, hf]
        dsimp only
        rw [hn]
    · rw [if_neg hc] at h; cases h
  · rw [rulP_n m L x p h13]
    exact rulP_congr m L x p h13
theorem shaE_13 {x y : Lab} {n : Nat} (hx : x.k = 13) (hy : y.k = 13) : shaE x n = shaE y n := by
  simp [shaE, hx, hy]
theorem knwB_13 {m : VT} {n : Nat} {x : Lab} (hx : x.k = 13) : knwB m n x = true := by
  unfold knwB
  rw [if_neg (by omega), if_neg (by omega)]
theorem ofP_settles (m : VT) (L : List VT) (t : VT) : (ofP m L t).er = 0 → ofP m L (ofP m L t).fo = ofP m L t := by
  induction t using Tr.ind with
  | h x l ih =>
  intro h
  obtain ⟨hs, h17, hk, he, hok⟩ := ofP_inv h
  rw [ofP_intro hs h17 hk he hok]
  obtain ⟨p, hp⟩ : ∃ p, (l.map fun y => (ofP m L y).ty) = p := ⟨_, rfl⟩
  rw [hp] at hok ⊢
  have hset := rulP_settles m L x p hok
  have hp' : ((l.map fun y => (ofP m L y).fo).map fun y => (ofP m L y).ty) = p := by
    rw [← hp, List.map_map]
    exact List.map_congr_left (fun y hy => by show (ofP m L (ofP m L y).fo).ty = _; rw [ih y hy (he y hy)])
  have hf' : ((l.map fun y => (ofP m L y).fo).map fun y => (ofP m L y).fo) = l.map fun y => (ofP m L y).fo := by
    rw [List.map_map]
    exact List.map_congr_left (fun y hy => by show (ofP m L (ofP m L y).fo).fo = _; rw [ih y hy (he y hy)])
  have hsk : shaE ⟨x.k, (rulP m L x p).n, ⟨#[]⟩, 0, 0⟩ (l.map fun y => (ofP m L y).fo).length = true ∧ knwB m L.length ⟨x.k, (rulP m L x p).n, ⟨#[]⟩, 0, 0⟩ = true := by
    rw [List.length_map]
    by_cases h13 : x.k = 13
    · exact ⟨(shaE_13 (x := ⟨x.k, (rulP m L x p).n, ⟨#[]⟩, 0, 0⟩) (y := x) h13 h13).trans hs, knwB_13 h13⟩
    · rw [rulP_n m L x p h13]
      exact ⟨hs, hk⟩
  dsimp only
  have key := ofP_intro (m := m) (L := L) (x := ⟨x.k, (rulP m L x p).n, ⟨#[]⟩, 0, 0⟩) (l := l.map fun y => (ofP m L y).fo) hsk.1 h17 hsk.2 (fun y hy => by
    obtain ⟨z, hz, rfl⟩ := List.mem_map.1 hy
    rw [ih z hz (he z hz)]; exact he z hz) (by rw [hp', hset]; exact hok)
  rw [hp', hset, hf'] at key
  exact key
theorem ofP_locals (m : VT) (a : VT) (L : List VT) (t : VT) : (ofP m L t).er = 0 → ofP m (a :: L) t = ofP m L t := by
  induction t using Tr.ind with
  | h x l ih =>
  intro h
  obtain ⟨hs, h17, hk, he, hok⟩ := ofP_inv h
  have hp : (l.map fun y => (ofP m (a :: L) y).ty) = l.map fun y => (ofP m L y).ty := List.map_congr_left (fun y hy => by rw [ih y hy (he y hy)])
  have hf : (l.map fun y => (ofP m (a :: L) y).fo) = l.map fun y => (ofP m L y).fo := List.map_congr_left (fun y hy => by rw [ih y hy (he y hy)])
  have hr : ∀ p, rulP m (a :: L) x p = rulP m L x p := by
    intro p
    unfold rulP
    by_cases c7 : x.k = 7
    · rw [if_pos c7, if_pos c7]
      obtain ⟨g0, g1⟩ := (knwB_at hk).1 c7
      have e : (a :: L).getD ((a :: L).length - 1 - x.n.toNat) z0T = L.getD (L.length - 1 - x.n.toNat) z0T := by
        rw [show (a :: L).length - 1 - x.n.toNat = (L.length - 1 - x.n.toNat) + 1 by simp; omega]
        rfl
      rw [e]
    · rw [if_neg c7, if_neg c7]
  have hk' : knwB m (a :: L).length x = true := by
    by_cases c7 : x.k = 7
    · obtain ⟨g0, g1⟩ := (knwB_at hk).1 c7
      unfold knwB
      rw [if_pos c7, decide_eq_true g0, decide_eq_true (by simp; omega)]; rfl
    · unfold knwB at hk ⊢
      rw [if_neg c7] at hk ⊢
      exact hk
  rw [ofP_intro hs h17 hk he hok, ofP_intro hs h17 hk' (fun y hy => by rw [ih y hy (he y hy)]; exact he y hy) (by rw [hp, hr]; exact hok), hp, hf, hr]
theorem ofP_bad (m : VT) (L : List VT) (t : VT) (h : ¬ (ofP m L t).er = 0) : (ofP m L t).ty = z0T ∧ (ofP m L t).fo = z0T := by
  obtain ⟨x, l⟩ := t
  rw [ofP_mk] at h ⊢
  unfold ofPC at h ⊢
  by_cases hs : shaE x l.length = false
  · rw [if_pos hs]; exact ⟨rfl, rfl⟩
  rw [if_neg hs] at h ⊢
  by_cases hk : x.k = 17 ∨ knwB m L.length x = false
  · rw [if_pos hk]; exact ⟨rfl, rfl⟩
  rw [if_neg hk] at h ⊢
  cases hf : (l.map (ofP m L)).find? (fun g => !decide (g.er = 0)) with
  | some g => exact ⟨rfl, rfl⟩
  | none =>
    rw [hf] at h
    dsimp only at h ⊢
    by_cases hok : (rulP m L x ((l.map (ofP m L)).map GV.ty)).ok = true
    · rw [if_pos hok] at h; exact absurd rfl h
    · rw [if_neg hok]; exact ⟨rfl, rfl⟩
end Go.Proofs.Ytjjnboenehomgaa.am
end
