import Derived.Test.YtlkggpjdaaglmaaGreatDoorPkB19
import Derived.Test.YtlkggpjdaaglmaaGreatDoorPkB6
section
namespace Go.Proofs.YtlkggpjdaaglmaaGreatDoor.am
open Go.ChangeShapes Go.WideShapes Go.ChangeAt Go.RowKit
open vt
set_option linter.unusedVariables false
set_option linter.unusedSimpArgs false
theorem td_unrd : td Tryz.prog 61 = some ⟨true, 3, 40, [.nilS, .lit (.int .i64 0), .lit (.int .i64 0)], [(0, 3, true)], .struct⟩ := Eq.trans (by kernel_rfl) (Eq.refl _)
attribute [simp] td_unrd
section
variable (ts : List Tok) (hl : ts.length ≤ 3000000000000)
include hl
set_option maxRecDepth 100000 in
set_option maxHeartbeats 4000000 in
theorem part9_row (p : Nat × Int) (h : p.2 = 0 → p.1 ≤ ts.length) : Row Tryz.prog 57 [vR] [rd ts p.1 p.2] (vT (OT (partG ts) p).1) [some (rd ts (OT (partG ts) p).2.1 (OT (partG ts) p).2.2)] := by
  obtain ⟨i, e⟩ := p
  dsimp only at h ⊢
  have e0 : OT (partG ts) (i, e) = FT ts (Ty9 ts) i 34 0 [.nam, .sgn sCol, .sub 1] (i, e) ⟨#[]⟩ [] := rfl
  have p0 := place_row ts i e
  have w1 := kind_tot ts (by omega) (i, e) 1 (by decide)
  have c1 := kt_s (ts := ts) (k := 1) (p := (i, e)) (by decide) h
  obtain ⟨⟨⟨xk, xn, xs, xf, xt⟩, i1, e1⟩, h1⟩ : ∃ p, KT ts 1 (i, e) = p := ⟨_, rfl⟩
  rw [h1] at w1 c1
  dsimp only at w1 c1
  have w2 := want_tot ts (by omega) (i1, e1) sCol (by decide)
  have c2 := wt_c (ts := ts) (s := sCol) (p := (i1, e1)) c1
  obtain ⟨⟨i2, e2⟩, h2⟩ : ∃ p, WT ts sCol (i1, e1) = p := ⟨_, rfl⟩
  rw [h2] at w2 c2
  dsimp only at w2 c2
  have w3 := type_tot ts hl (i2, e2) c2
  have c3 := ot_c (ts := ts) (G := Ty9 ts 1) (p := (i2, e2)) (fun j hj => (ty9_ok 1 j hj).ok) c2
  rw [show tyG ts (ts.length + 1) = Ty9 ts 1 from rfl] at w3
  obtain ⟨⟨⟨tx, tl⟩, i3, e3⟩, h3⟩ : ∃ r, OT (Ty9 ts 1) (i2, e2) = r := ⟨_, rfl⟩
  rw [h3] at w3 c3
  dsimp only at w3 c3
  have n := node_tot ts (by omega) (i3, e3) i ⟨34, 0, xs, 0, 0⟩ [.mk tx tl] (fun hh => by have := c3 hh; dsimp only; omega)
  rw [e0, ft_nam, h1, ft_sgn, h2, ft_sub (fun j hj hn => ((ty9_ok (ts := ts) 1 j hj).ok.no hn).2) (fun hh => (c2 hh).2), h3, ft_end]
  simp only [List.nil_append]
  dsimp only at n ⊢
  obtain ⟨⟨⟨nx, nl⟩, nj, ne⟩, hn⟩ : ∃ r, NT ts i 34 0 xs [.mk tx tl] (i3, e3) = r := ⟨_, rfl⟩
  rw [hn] at n ⊢
  clear e0 hn h1 h2 h3 c1 c2 c3
  refine row_of Tryz.func57 rfl rfl (Nat.le_of_ble_eq_true rfl) ?_
  repeat' (first | refine aw_seq ?_ | refine aw_skip ?_ | refine aw_block ?_ | refine aw_exit ?_ | refine aw_ct rfl ?_ | refine aw_cf rfl ?_ | ((first | refine aw_reg (fun K hK => ?_) | refine aw_drw mixd (fun K hK => ?_) | refine ar_call (cb p0 0 ?_) | refine ard_call (db p0 0 ?_) | refine ar_call (cb w1 0 ?_) | refine ard_call (db w1 0 ?_) | refine ar_call (cb w2 0 ?_) | refine ard_call (db w2 0 ?_) | refine ar_call (cb w3 0 ?_) | refine ard_call (db w3 0 ?_) | refine ar_call (cb n 0 ?_) | refine ard_call (db n 0 ?_) | fail); simp -implicitDefEqProofs) | refine hK _ ?_ | refine hK _ _ (by rfl) ?_ | fail)
  refine aw_ret (fin_box ?_); simp -implicitDefEqProofs [FinB, resV, resT] <;> try rfl
set_option maxRecDepth 100000 in
set_option maxHeartbeats 4000000 in
theorem field9_row (p : Nat × Int) (h : p.2 = 0 → p.1 ≤ ts.length) : Row Tryz.prog 105 [vR] [rd ts p.1 p.2] (vT (OT (partG ts) p).1) [some (rd ts (FlT ts p).1 (FlT ts p).2)] := by
  have w1 := part9_row ts hl p h
  have w2 := want_tot ts (by omega) (OT (partG ts) p).2 sEnd (by decide)
  unfold FlT
  obtain ⟨⟨⟨tx, tl⟩, i1, e1⟩, h1⟩ : ∃ r, OT (partG ts) p = r := ⟨_, rfl⟩
  rw [h1] at w1 w2 ⊢
  dsimp only at w1 w2 ⊢
  obtain ⟨⟨i2, e2⟩, h2⟩ : ∃ p, WT ts sEnd (i1, e1) = p := ⟨_, rfl⟩
  rw [h2] at w2 ⊢
  clear h1 h2
  refine row_of Tryz.func105 rfl rfl (Nat.le_of_ble_eq_true rfl) ?_
  repeat' (first | refine aw_seq ?_ | refine aw_skip ?_ | refine aw_block ?_ | refine aw_exit ?_ | refine aw_ct rfl ?_ | refine aw_cf rfl ?_ | ((first | refine aw_reg (fun K hK => ?_) | refine aw_drw mixd (fun K hK => ?_) | refine ar_call (cb w1 0 ?_) | refine ard_call (db w1 0 ?_) | refine ar_call (cb w2 0 ?_) | refine ard_call (db w2 0 ?_) | fail); simp -implicitDefEqProofs) | refine hK _ ?_ | refine hK _ _ (by rfl) ?_ | fail)
  refine aw_ret (fin_box ?_); simp -implicitDefEqProofs [FinB, resV, resT] <;> try rfl
set_option maxRecDepth 100000 in
set_option maxHeartbeats 4000000 in
theorem comma_yes (p : Nat × Int) (h : TT ts sCom p = true) : Row Tryz.prog 111 [vR] [rd ts p.1 p.2] (vB true) [some (rd ts (p.1 + 1) 0)] := by
  have t := take_yes' ts (by omega) p sCom (by decide) h
  clear h
  refine row_of Tryz.func111 rfl rfl (Nat.le_of_ble_eq_true rfl) ?_
  repeat' (first | refine aw_seq ?_ | refine aw_skip ?_ | refine aw_block ?_ | refine aw_exit ?_ | refine aw_ct rfl ?_ | refine aw_cf rfl ?_ | ((first | refine aw_reg (fun K hK => ?_) | refine aw_drw mixd (fun K hK => ?_) | refine ar_call (cb t 0 ?_) | refine ard_call (db t 0 ?_) | fail); simp -implicitDefEqProofs) | refine hK _ ?_ | refine hK _ _ (by rfl) ?_ | fail)
  refine aw_ret (fin_box ?_); simp -implicitDefEqProofs [FinB, resV, resT] <;> try rfl
omit hl in
set_option maxRecDepth 100000 in
set_option maxHeartbeats 4000000 in
theorem comma_no (p : Nat × Int) (h : TT ts sCom p = false) : Row Tryz.prog 111 [vR] [rd ts p.1 p.2] (vB false) [some (rd ts p.1 p.2)] := by
  have t := take_no' ts p sCom (by decide) h
  clear h
  refine row_of Tryz.func111 rfl rfl (Nat.le_of_ble_eq_true rfl) ?_
  repeat' (first | refine aw_seq ?_ | refine aw_skip ?_ | refine aw_block ?_ | refine aw_exit ?_ | refine aw_ct rfl ?_ | refine aw_cf rfl ?_ | ((first | refine aw_reg (fun K hK => ?_) | refine aw_drw mixd (fun K hK => ?_) | refine ar_call (cb t 0 ?_) | refine ard_call (db t 0 ?_) | fail); simp -implicitDefEqProofs) | refine hK _ ?_ | refine hK _ _ (by rfl) ?_ | fail)
  refine aw_ret (fin_box ?_); simp -implicitDefEqProofs [FinB, resV, resT] <;> try rfl
omit hl in
set_option maxRecDepth 100000 in
set_option maxHeartbeats 4000000 in
theorem open_row (i : Nat) {b : Bool} (h : isK sKet (nxt ts i) = b) : Row Tryz.prog 106 [vR] [rd ts i 0] (vB (!b)) [some (rd ts i 0)] := by
  have t := is_at ts i (s := sKet) (by decide) h
  clear h
  cases b
  · refine row_of Tryz.func106 rfl rfl (Nat.le_of_ble_eq_true rfl) ?_
    repeat' (first | refine aw_seq ?_ | refine aw_skip ?_ | refine aw_block ?_ | refine aw_exit ?_ | refine aw_ct rfl ?_ | refine aw_cf rfl ?_ | ((first | refine aw_reg (fun K hK => ?_) | refine aw_drw mixd (fun K hK => ?_) | refine ar_call (cb t 0 ?_) | refine ard_call (db t 0 ?_) | fail); simp -implicitDefEqProofs) | refine hK _ ?_ | refine hK _ _ (by rfl) ?_ | fail)
    refine aw_ret (fin_box ?_); simp -implicitDefEqProofs [FinB, resV, resT] <;> try rfl
  · refine row_of Tryz.func106 rfl rfl (Nat.le_of_ble_eq_true rfl) ?_
    repeat' (first | refine aw_seq ?_ | refine aw_skip ?_ | refine aw_block ?_ | refine aw_exit ?_ | refine aw_ct rfl ?_ | refine aw_cf rfl ?_ | ((first | refine aw_reg (fun K hK => ?_) | refine aw_drw mixd (fun K hK => ?_) | refine ar_call (cb t 0 ?_) | refine ard_call (db t 0 ?_) | fail); simp -implicitDefEqProofs) | refine hK _ ?_ | refine hK _ _ (by rfl) ?_ | fail)
    refine aw_ret (fin_box ?_); simp -implicitDefEqProofs [FinB, resV, resT] <;> try rfl
set_option maxRecDepth 100000 in
set_option maxHeartbeats 4000000 in
theorem literal9_row (p : Nat × Int) (h : p.2 = 0 → p.1 ≤ ts.length) : Row Tryz.prog 107 [vR] [rd ts p.1 p.2] (vT (OT (litG ts) p).1) [some (rd ts (OT (litG ts) p).2.1 (OT (litG ts) p).2.2)] := by
  obtain ⟨i, e⟩ := p
  dsimp only at h ⊢
  have p0 := place_row ts i e
  by_cases h1 : TT ts wTrue (i, e) = true
  · have t1 := take_yes' ts (by omega) (i, e) wTrue (by decide) h1
    unfold TT at h1
    simp at h1
    obtain ⟨he, h1⟩ := h1
    subst he
    have hlt := isK_lt h1
    have hk2 : ¬ (nxt ts i).k = 2 := (k_sgn h1).2
    have n := node_yes ts (i + 1) i ⟨6, 1, ⟨#[]⟩, 0, 0⟩ [] hlt (by omega) hlt (by omega)
    rw [show OT (litG ts) (i, 0) = mk7 ts i (i + 1) 6 1 ⟨#[]⟩ [] by unfold OT litG; rw [if_pos rfl, if_neg hk2, if_pos h1]]
    clear h1
    refine row_of Tryz.func107 rfl rfl (Nat.le_of_ble_eq_true rfl) ?_
    repeat' (first | refine aw_seq ?_ | refine aw_skip ?_ | refine aw_block ?_ | refine aw_exit ?_ | refine aw_ct rfl ?_ | refine aw_cf rfl ?_ | ((first | refine aw_reg (fun K hK => ?_) | refine aw_drw mixd (fun K hK => ?_) | refine ar_call (cb p0 0 ?_) | refine ard_call (db p0 0 ?_) | refine ar_call (cb t1 0 ?_) | refine ard_call (db t1 0 ?_) | refine ar_call (cb n 0 ?_) | refine ard_call (db n 0 ?_) | fail); simp -implicitDefEqProofs) | refine hK _ ?_ | refine hK _ _ (by rfl) ?_ | fail)
    refine aw_ret (fin_box ?_); simp -implicitDefEqProofs [FinB, resV, resT, mk7] <;> try rfl
  have h1 : TT ts wTrue (i, e) = false := by simpa using h1
  have t1 := take_no' ts (i, e) wTrue (by decide) h1
  by_cases h2 : TT ts wFals (i, e) = true
  · have t2 := take_yes' ts (by omega) (i, e) wFals (by decide) h2
    unfold TT at h1 h2
    simp at h2
    obtain ⟨he, h2⟩ := h2
    subst he
    have hlt := isK_lt h2
    have hk2 : ¬ (nxt ts i).k = 2 := (k_sgn h2).2
    have h1 : ¬ isK wTrue (nxt ts i) = true := by simpa using h1
    have n := node_yes ts (i + 1) i ⟨6, 0, ⟨#[]⟩, 0, 0⟩ [] hlt (by omega) hlt (by omega)
    rw [show OT (litG ts) (i, 0) = mk7 ts i (i + 1) 6 0 ⟨#[]⟩ [] by unfold OT litG; rw [if_pos rfl, if_neg hk2, if_neg h1, if_pos h2]]
    clear h1 h2
    refine row_of Tryz.func107 rfl rfl (Nat.le_of_ble_eq_true rfl) ?_
    repeat' (first | refine aw_seq ?_ | refine aw_skip ?_ | refine aw_block ?_ | refine aw_exit ?_ | refine aw_ct rfl ?_ | refine aw_cf rfl ?_ | ((first | refine aw_reg (fun K hK => ?_) | refine aw_drw mixd (fun K hK => ?_) | refine ar_call (cb p0 0 ?_) | refine ard_call (db p0 0 ?_) | refine ar_call (cb t1 0 ?_) | refine ard_call (db t1 0 ?_) | refine ar_call (cb t2 0 ?_) | refine ard_call (db t2 0 ?_) | refine ar_call (cb n 0 ?_) | refine ard_call (db n 0 ?_) | fail); simp -implicitDefEqProofs) | refine hK _ ?_ | refine hK _ _ (by rfl) ?_ | fail)
    refine aw_ret (fin_box ?_); simp -implicitDefEqProofs [FinB, resV, resT, mk7] <;> try rfl
  have h2 : TT ts wFals (i, e) = false := by simpa using h2
  have t2 := take_no' ts (i, e) wFals (by decide) h2
  have w := kind_tot ts (by omega) (i, e) 2 (by decide)
  have c := kt_s (ts := ts) (k := 2) (p := (i, e)) (by decide) h
  have hq : OT (litG ts) (i, e) = NT ts i 5 (KT ts 2 (i, e)).1.n ⟨#[]⟩ [] (KT ts 2 (i, e)).2 := by
    unfold OT NT KT
    unfold TT at h1 h2
    by_cases he : e = 0
    · subst he
      simp at h1 h2
      by_cases hk : (nxt ts i).k = 2
      · simp [hk, litG]
      · simp [hk, litG, h1, h2, bad7]
    · simp [he]
  rw [hq]
  obtain ⟨⟨⟨xk, xn, xs, xf, xt⟩, i1, e1⟩, hk⟩ : ∃ p, KT ts 2 (i, e) = p := ⟨_, rfl⟩
  rw [hk] at w c ⊢
  dsimp only at w c ⊢
  have n := node_tot ts (by omega) (i1, e1) i ⟨5, xn, ⟨#[]⟩, 0, 0⟩ [] (fun hh => by have := c hh; dsimp only; omega)
  dsimp only at n
  obtain ⟨⟨⟨nx, nl⟩, nj, ne⟩, hn⟩ : ∃ r, NT ts i 5 xn ⟨#[]⟩ [] (i1, e1) = r := ⟨_, rfl⟩
  rw [hn] at n ⊢
  clear hn hk h1 h2 hq c
  refine row_of Tryz.func107 rfl rfl (Nat.le_of_ble_eq_true rfl) ?_
  repeat' (first | refine aw_seq ?_ | refine aw_skip ?_ | refine aw_block ?_ | refine aw_exit ?_ | refine aw_ct rfl ?_ | refine aw_cf rfl ?_ | ((first | refine aw_reg (fun K hK => ?_) | refine aw_drw mixd (fun K hK => ?_) | refine ar_call (cb p0 0 ?_) | refine ard_call (db p0 0 ?_) | refine ar_call (cb t1 0 ?_) | refine ard_call (db t1 0 ?_) | refine ar_call (cb t2 0 ?_) | refine ard_call (db t2 0 ?_) | refine ar_call (cb w 0 ?_) | refine ard_call (db w 0 ?_) | refine ar_call (cb n 0 ?_) | refine ard_call (db n 0 ?_) | fail); simp -implicitDefEqProofs) | refine hK _ ?_ | refine hK _ _ (by rfl) ?_ | fail)
  refine aw_ret (fin_box ?_); simp -implicitDefEqProofs [FinB, resV, resT] <;> try rfl
end
abbrev vFnP : AV := .v (.c (.fn (.func 57) [.ptr 0 0] []))
abbrev vFnC : AV := .v (.c (.fn (.func 111) [.ptr 0 0] []))
abbrev vFnF : AV := .v (.c (.fn (.func 105) [.ptr 0 0] []))
abbrev vFnO : AV := .v (.c (.fn (.func 106) [.ptr 0 0] []))
section
variable (ts : List Tok) (hl : ts.length ≤ 3000000000000)
include hl
set_option maxRecDepth 100000 in
set_option maxHeartbeats 4000000 in
theorem listP_err (i : Nat) (e : Int) (he : e ≠ 0) : Row Tryz.prog 104 [vR, vFnP, vFnC] [rd ts i e] (vLs [z0]) [some (rd ts i e)] := by
  have a := part9_row ts hl (i, e) (fun h => absurd h he)
  rw [show OT (partG ts) (i, e) = (z0, i, e) from if_neg he] at a
  have g := goes_row ts i e
  unfold z0 at a
  refine row_of Tryz.func104 rfl rfl (Nat.le_of_ble_eq_true rfl) ?_
  repeat' (first | refine aw_seq ?_ | refine aw_skip ?_ | refine aw_block ?_ | refine aw_exit ?_ | refine aw_ct rfl ?_ | refine aw_cf rfl ?_ | ((first | refine aw_reg (fun K hK => ?_) | refine aw_drw mixd (fun K hK => ?_) | refine ar_call (cb a 0 ?_) | refine ard_call (db a 0 ?_) | fail); simp -implicitDefEqProofs) | refine hK _ ?_ | refine hK _ _ (by rfl) ?_ | fail)
  refine aw_lp (ι := Unit) (fun _ => mkSt [(0, vR), (7, .v (.c (.row 1 6 [tc z0])))] [some (rd ts i e), some (.row 25 6)]) (fun _ => True) (fun _ => 0) () trivial (cov_intro [0, 11] (by simp -implicitDefEqProofs [z0]) (by simp -implicitDefEqProofs [z0]) (by decide) rfl (by simp)) (fun Z hI _ _ => ?_)
  repeat' (first | refine aw_seq ?_ | refine aw_skip ?_ | refine aw_block ?_ | refine aw_exit ?_ | refine aw_ct rfl ?_ | refine aw_cf rfl ?_ | ((first | refine aw_reg (fun K hK => ?_) | refine aw_drw mixd (fun K hK => ?_) | refine ar_call (cb g 0 ?_) | refine ard_call (db g 0 ?_) | fail); simp -implicitDefEqProofs [he]) | refine hK _ ?_ | refine hK _ _ (by rfl) ?_ | fail)
  refine aw_ret (fin_box ?_); simp -implicitDefEqProofs [FinB, resV, resT] <;> try rfl
set_option maxRecDepth 100000 in
set_option maxHeartbeats 4000000 in
theorem listF_err (i : Nat) (e : Int) (he : e ≠ 0) : Row Tryz.prog 104 [vR, vFnF, vFnO] [rd ts i e] (vLs [z0]) [some (rd ts i e)] := by
  have a := field9_row ts hl (i, e) (fun h => absurd h he)
  rw [show OT (partG ts) (i, e) = (z0, i, e) from if_neg he, show FlT ts (i, e) = (i, e) by unfold FlT WT; rw [show OT (partG ts) (i, e) = (z0, i, e) from if_neg he, if_neg he]] at a
  have g := goes_row ts i e
  unfold z0 at a
  refine row_of Tryz.func104 rfl rfl (Nat.le_of_ble_eq_true rfl) ?_
  repeat' (first | refine aw_seq ?_ | refine aw_skip ?_ | refine aw_block ?_ | refine aw_exit ?_ | refine aw_ct rfl ?_ | refine aw_cf rfl ?_ | ((first | refine aw_reg (fun K hK => ?_) | refine aw_drw mixd (fun K hK => ?_) | refine ar_call (cb a 0 ?_) | refine ard_call (db a 0 ?_) | fail); simp -implicitDefEqProofs) | refine hK _ ?_ | refine hK _ _ (by rfl) ?_ | fail)
  refine aw_lp (ι := Unit) (fun _ => mkSt [(0, vR), (7, .v (.c (.row 1 6 [tc z0])))] [some (rd ts i e), some (.row 25 6)]) (fun _ => True) (fun _ => 0) () trivial (cov_intro [0, 11] (by simp -implicitDefEqProofs [z0]) (by simp -implicitDefEqProofs [z0]) (by decide) rfl (by simp)) (fun Z hI _ _ => ?_)
  repeat' (first | refine aw_seq ?_ | refine aw_skip ?_ | refine aw_block ?_ | refine aw_exit ?_ | refine aw_ct rfl ?_ | refine aw_cf rfl ?_ | ((first | refine aw_reg (fun K hK => ?_) | refine aw_drw mixd (fun K hK => ?_) | refine ar_call (cb g 0 ?_) | refine ard_call (db g 0 ?_) | fail); simp -implicitDefEqProofs [he]) | refine hK _ ?_ | refine hK _ _ (by rfl) ?_ | fail)
  refine aw_ret (fin_box ?_); simp -implicitDefEqProofs [FinB, resV, resT] <;> try rfl
set_option maxRecDepth 100000 in
set_option maxHeartbeats 4000000 in
theorem listF_row (i : Nat) (hi : i ≤ ts.length) : Row Tryz.prog 104 [vR, vFnF, vFnO] [rd ts i 0] (vLs (lsF ts (ts.length + 1) i [])) [some (rd ts (lpF0 ts (ts.length + 1) i []).2.1 (lpF0 ts (ts.length + 1) i []).2.2)] := by
  have a := field9_row ts hl (i, 0) (fun _ => hi)
  rw [show OT (partG ts) (i, 0) = partG ts i from if_pos rfl] at a
  obtain ⟨C, hC⟩ : ∃ C, lpF0 ts (ts.length + 1) i [] = C := ⟨_, rfl⟩
  obtain ⟨L, hL⟩ : ∃ L, lsF ts (ts.length + 1) i [] = L := ⟨_, rfl⟩
  rw [hC, hL]
  have h0 := invFl_next (i := i) hi (by omega) (by simp) hL hC (by simp)
  rw [List.nil_append] at h0
  clear hC hL
  obtain ⟨⟨tx, tl⟩, hT⟩ : ∃ t, (partG ts i).1 = t := ⟨_, rfl⟩
  obtain ⟨⟨q, e⟩, hF⟩ : ∃ p, FlT ts (i, 0) = p := ⟨_, rfl⟩
  rw [hT, hF] at a h0
  dsimp only at a h0
  clear hT hF
  refine row_of Tryz.func104 rfl rfl (Nat.le_of_ble_eq_true rfl) ?_
  repeat' (first | refine aw_seq ?_ | refine aw_skip ?_ | refine aw_block ?_ | refine aw_exit ?_ | refine aw_ct rfl ?_ | refine aw_cf rfl ?_ | ((first | refine aw_reg (fun K hK => ?_) | refine aw_drw mixd (fun K hK => ?_) | refine ar_call (cb a 0 ?_) | refine ard_call (db a 0 ?_) | fail); simp -implicitDefEqProofs) | refine hK _ ?_ | refine hK _ _ (by rfl) ?_ | fail)
  refine aw_lp (ι := Nat × Nat × Int × List VT) (fun x => mkSt [(0, vR), (1, vFnF), (2, vFnO), (7, .v (.c (.row 1 6 (x.2.2.2.map tc))))] [some (rd ts x.2.1 x.2.2.1), some (.row 25 6)]) (InvFl ts i C L) (fun x => x.1) (ts.length, q, e, [.mk tx tl]) h0 (cov_intro [0, 11] (by simp -implicitDefEqProofs) (by simp -implicitDefEqProofs) (by decide) rfl (by simp)) (fun Z hI x hx => ?_)
  clear h0 a
  obtain ⟨m, q, e, acc⟩ := x
  obtain ⟨x1, x2, x3, x4, x5⟩ := hx
  dsimp only at x1 x2 x3 x4 x5 ⊢
  have g := goes_row ts q e
  by_cases he : e = 0; rotate_left
  · obtain ⟨rfl, y2⟩ := x1 he
    rw [show C.2.1 = q by rw [y2], show C.2.2 = e by rw [y2]]
    clear x1 x2 x3 x5 y2
    repeat' (first | refine aw_seq ?_ | refine aw_skip ?_ | refine aw_block ?_ | refine aw_exit ?_ | refine aw_ct rfl ?_ | refine aw_cf rfl ?_ | ((first | refine aw_reg (fun K hK => ?_) | refine aw_drw mixd (fun K hK => ?_) | refine ar_call (cb g 0 ?_) | refine ard_call (db g 0 ?_) | fail); simp -implicitDefEqProofs [he]) | refine hK _ ?_ | refine hK _ _ (by rfl) ?_ | fail)
    refine aw_ret (fin_box ?_); simp -implicitDefEqProofs [FinB, resV, resT] <;> try rfl
  subst he
  by_cases hk : isK sKet (nxt ts q) = true
  · obtain ⟨rfl, y2⟩ := x2 rfl hk
    rw [show C.2.1 = q by rw [y2], show C.2.2 = 0 by rw [y2]]
    have o := open_row ts q hk
    clear x1 x2 x3 x5 y2 hk
    repeat' (first | refine aw_seq ?_ | refine aw_skip ?_ | refine aw_block ?_ | refine aw_exit ?_ | refine aw_ct rfl ?_ | refine aw_cf rfl ?_ | ((first | refine aw_reg (fun K hK => ?_) | refine aw_drw mixd (fun K hK => ?_) | refine ar_call (cb g 0 ?_) | refine ard_call (db g 0 ?_) | refine ar_call (cb o 0 ?_) | refine ard_call (db o 0 ?_) | fail); simp -implicitDefEqProofs) | refine hK _ ?_ | refine hK _ _ (by rfl) ?_ | fail)
    refine aw_ret (fin_box ?_); simp -implicitDefEqProofs [FinB, resV, resT] <;> try rfl
  have hk : isK sKet (nxt ts q) = false := by simpa using hk
  obtain ⟨y1, y2, y3, y4⟩ := x3 rfl hk
  have o := open_row ts q hk
  obtain ⟨m, rfl⟩ : ∃ k, m = k + 1 := ⟨m - 1, by
    rcases Nat.eq_zero_or_pos m with h | h
    · omega
    · omega⟩
  have a := field9_row ts hl (q, 0) (fun _ => y3)
  rw [show OT (partG ts) (q, 0) = partG ts q from if_pos rfl] at a
  have nx : InvFl ts i C L (m, (FlT ts (q, 0)).1, (FlT ts (q, 0)).2, acc ++ [(partG ts q).1]) := invFl_next y3 y4 (fun hh => by rw [hk] at hh; exact absurd hh.2 (by simp)) y1 y2 (x5 rfl)
  obtain ⟨⟨tx, tl⟩, hT⟩ : ∃ t, (partG ts q).1 = t := ⟨_, rfl⟩
  obtain ⟨⟨q2, e2⟩, hF⟩ : ∃ p, FlT ts (q, 0) = p := ⟨_, rfl⟩
  rw [hT, hF] at a nx
  dsimp only at a nx
  have b1 : (acc.length + 1) * 72 ≤ 140737488355328 := by omega
  have b2 : acc.length + 1 ≤ 140737488355328 := by omega
  clear hT hF x1 x2 x3 x5 y1 y2 hk
  repeat' (first | refine aw_seq ?_ | refine aw_skip ?_ | refine aw_block ?_ | refine aw_exit ?_ | refine aw_ct rfl ?_ | refine aw_cf rfl ?_ | ((first | refine aw_reg (fun K hK => ?_) | refine aw_drw mixd (fun K hK => ?_) | refine ar_call (cb g 0 ?_) | refine ard_call (db g 0 ?_) | refine ar_call (cb o 0 ?_) | refine ard_call (db o 0 ?_) | refine ar_call (cb a 0 ?_) | refine ard_call (db a 0 ?_) | fail); simp -implicitDefEqProofs [b1, b2]) | refine hK _ ?_ | refine hK _ _ (by rfl) ?_ | fail)
  refine ⟨(_, _, _, _), nx, (by dsimp only; omega), ?_⟩; rw [hI]; exact cov_intro [0, 35] (by simp -implicitDefEqProofs) (by simp -implicitDefEqProofs) (by decide) rfl (by simp)
structure InvPl (i : Nat) (C : List VT × Nat × Int) (L : List VT) (x : Nat × Nat × List VT) : Prop where
  eq : (lpC ts (partG ts) (x.1 + 1) x.2.1 x.2.2).2 = C.2
  ls : lsG ts (fun j => (partG ts j).1) (partG ts) (x.1 + 1) x.2.1 x.2.2 = L
  le : i ≤ x.2.1 ∧ x.2.1 ≤ ts.length
  fuel : ts.length < x.1 + 1 + x.2.1
  few : 2 * x.2.2.length + i ≤ x.2.1
set_option maxRecDepth 100000 in
set_option maxHeartbeats 4000000 in
theorem listP_row (i : Nat) (hi : i ≤ ts.length) : Row Tryz.prog 104 [vR, vFnP, vFnC] [rd ts i 0] (vLs (lsG ts (fun j => (partG ts j).1) (partG ts) (ts.length + 1) i [])) [some (rd ts (lpC ts (partG ts) (ts.length + 1) i []).2.1 (lpC ts (partG ts) (ts.length + 1) i []).2.2)] := by
  have a := part9_row ts hl (i, 0) (fun _ => hi)
  rw [show OT (partG ts) (i, 0) = partG ts i from if_pos rfl] at a
  obtain ⟨C, hC⟩ : ∃ C, lpC ts (partG ts) (ts.length + 1) i [] = C := ⟨_, rfl⟩
  obtain ⟨L, hL⟩ : ∃ L, lsG ts (fun j => (partG ts j).1) (partG ts) (ts.length + 1) i [] = L := ⟨_, rfl⟩
  rw [hC, hL]
  have h0 : InvPl ts i C L (ts.length, i, []) := ⟨by rw [← hC], hL, ⟨Nat.le_refl _, hi⟩, by dsimp only; omega, by simp⟩
  clear hC hL
  obtain ⟨⟨⟨tx, tl⟩, r2, r3⟩, hr⟩ : ∃ r, partG ts i = r := ⟨_, rfl⟩
  rw [hr] at a
  refine row_of Tryz.func104 rfl rfl (Nat.le_of_ble_eq_true rfl) ?_
  repeat' (first | refine aw_seq ?_ | refine aw_skip ?_ | refine aw_block ?_ | refine aw_exit ?_ | refine aw_ct rfl ?_ | refine aw_cf rfl ?_ | ((first | refine aw_reg (fun K hK => ?_) | refine aw_drw mixd (fun K hK => ?_) | refine ar_call (cb a 0 ?_) | refine ard_call (db a 0 ?_) | fail); simp -implicitDefEqProofs) | refine hK _ ?_ | refine hK _ _ (by rfl) ?_ | fail)
  refine aw_lp (ι := Nat × Nat × List VT) (fun x => mkSt [(0, vR), (1, vFnP), (2, vFnC), (7, .v (.c (.row 1 6 ((x.2.2 ++ [(partG ts x.2.1).1]).map tc))))] [some (rd ts (partG ts x.2.1).2.1 (partG ts x.2.1).2.2), some (.row 25 6)]) (InvPl ts i C L) (fun x => x.1) (ts.length, i, []) h0 (cov_intro [0, 11] (by simp -implicitDefEqProofs [hr]) (by simp -implicitDefEqProofs [hr]) (by decide) rfl (by simp)) (fun Z hI x hx => ?_)
  clear h0 a hr
  obtain ⟨m, p, acc⟩ := x
  obtain ⟨x1, x2, x3, x4, x5⟩ := hx
  dsimp only at x1 x2 x3 x4 x5 ⊢
  have hk := part_ok (ts := ts) p x3.2
  rw [lpC] at x1
  rw [lsG] at x2
  obtain ⟨⟨⟨rx, rl⟩, r2, r3⟩, hr⟩ : ∃ r, partG ts p = r := ⟨_, rfl⟩
  rw [hr] at hk x1 x2 ⊢
  dsimp only at x1 x2 ⊢
  obtain ⟨acc', ha'⟩ : ∃ l, acc ++ [Tr.mk rx rl] = l := ⟨_, rfl⟩
  have hal : acc'.length = acc.length + 1 := by rw [← ha']; simp
  rw [ha'] at x1 x2 ⊢
  have g := goes_row ts r2 r3
  by_cases hr3 : r3 = 0; rotate_left
  · rw [if_pos hr3] at x1
    rw [if_neg (by simp [hr3])] at x2
    rw [← x2, ← x1]
    clear x1 hk hr x2 ha' x5
    repeat' (first | refine aw_seq ?_ | refine aw_skip ?_ | refine aw_block ?_ | refine aw_exit ?_ | refine aw_ct rfl ?_ | refine aw_cf rfl ?_ | ((first | refine aw_reg (fun K hK => ?_) | refine aw_drw mixd (fun K hK => ?_) | refine ar_call (cb g 0 ?_) | refine ard_call (db g 0 ?_) | fail); simp -implicitDefEqProofs [hr3]) | refine hK _ ?_ | refine hK _ _ (by rfl) ?_ | fail)
    refine aw_ret (fin_box ?_); simp -implicitDefEqProofs [FinB, resV, resT] <;> try rfl
  subst hr3
  rw [if_neg (by simp)] at x1
  have hyy := hk.yes rfl
  dsimp only at hyy
  by_cases e3 : isK sCom (nxt ts r2) = true; rotate_left
  · have e3 : isK sCom (nxt ts r2) = false := by simpa using e3
    rw [if_pos e3] at x1
    rw [if_neg (by simp [e3])] at x2
    rw [← x2, ← x1]
    have t1 := comma_no ts (r2, 0) (by unfold TT; simp [e3])
    clear x1 hk hr x2 ha' e3 x5
    repeat' (first | refine aw_seq ?_ | refine aw_skip ?_ | refine aw_block ?_ | refine aw_exit ?_ | refine aw_ct rfl ?_ | refine aw_cf rfl ?_ | ((first | refine aw_reg (fun K hK => ?_) | refine aw_drw mixd (fun K hK => ?_) | refine ar_call (cb g 0 ?_) | refine ard_call (db g 0 ?_) | refine ar_call (cb t1 0 ?_) | refine ard_call (db t1 0 ?_) | fail); simp -implicitDefEqProofs) | refine hK _ ?_ | refine hK _ _ (by rfl) ?_ | fail)
    refine aw_ret (fin_box ?_); simp -implicitDefEqProofs [FinB, resV, resT] <;> try rfl
  have hlt2 := isK_lt e3
  rw [if_neg (by simp [e3])] at x1
  rw [if_pos ⟨rfl, e3⟩] at x2
  obtain ⟨m, rfl⟩ : ∃ m', m = m' + 1 := ⟨m - 1, by omega⟩
  have t1 := comma_yes ts hl (r2, 0) (by unfold TT; simp [e3])
  have hq := part9_row ts hl (r2 + 1, 0) (fun _ => by dsimp only; omega)
  rw [show OT (partG ts) (r2 + 1, 0) = partG ts (r2 + 1) from if_pos rfl] at hq
  have b1 : (acc.length + 1 + 1) * 72 ≤ 140737488355328 := by omega
  have b2 : acc.length + 1 + 1 ≤ 140737488355328 := by omega
  have nx : InvPl ts i C L (m, r2 + 1, acc') := ⟨x1, x2, by dsimp only; omega, by dsimp only; omega, by dsimp only; omega⟩
  obtain ⟨⟨⟨sx, sl⟩, s2, s3⟩, hs⟩ : ∃ r, partG ts (r2 + 1) = r := ⟨_, rfl⟩
  rw [hs] at hq
  clear x1 hk hr x2 ha' e3 x5
  repeat' (first | refine aw_seq ?_ | refine aw_skip ?_ | refine aw_block ?_ | refine aw_exit ?_ | refine aw_ct rfl ?_ | refine aw_cf rfl ?_ | ((first | refine aw_reg (fun K hK => ?_) | refine aw_drw mixd (fun K hK => ?_) | refine ar_call (cb g 0 ?_) | refine ard_call (db g 0 ?_) | refine ar_call (cb t1 0 ?_) | refine ard_call (db t1 0 ?_) | refine ar_call (cb hq 0 ?_) | refine ard_call (db hq 0 ?_) | fail); simp -implicitDefEqProofs [b1, b2, hal]) | refine hK _ ?_ | refine hK _ _ (by rfl) ?_ | fail)
  refine ⟨(_, _, _), nx, (by dsimp only; omega), ?_⟩; rw [hI]; exact cov_intro [0, 35] (by simp -implicitDefEqProofs [hs]) (by simp -implicitDefEqProofs [hs]) (by decide) rfl (by simp)
end
end Go.Proofs.YtlkggpjdaaglmaaGreatDoor.am
end
section
namespace Go.Proofs.YtlkggpjdaaglmaaGreatDoor.am
open Go.ChangeShapes Go.WideShapes Go.ChangeAt Go.RowKit
open vt
set_option linter.unusedVariables false
set_option linter.unusedSimpArgs false
section
variable (ts : List Tok) (hl : ts.length ≤ 3000000000000)
include hl
set_option maxRecDepth 100000 in
set_option maxHeartbeats 4000000 in
theorem record9_row (i : Nat) (hi : i < ts.length) : Row Tryz.prog 55 [vR, vI i] [rd ts (i + 1) 0] (vT (recG ts i).1) [some (rd ts (recG ts i).2.1 (recG ts i).2.2)] := by
  have w1 := kind_tot ts (by omega) (i + 1, 0) 1 (by decide)
  unfold recG
  by_cases h1 : (nxt ts (i + 1)).k = 1; rotate_left
  · rw [if_neg h1]
    rw [show KT ts 1 (i + 1, 0) = (zK, i + 1, 6) by unfold KT; simp [h1]] at w1
    have w2 := want_no ts (i + 1) 6 sBra (by decide) (.inl (by decide))
    have a := listF_err ts hl (i + 1) 6 (by decide)
    have w3 := want_no ts (i + 1) 6 sKet (by decide) (.inl (by decide))
    have n := node_no ts (i + 1) 6 (by decide) i (.mk ⟨30, 0, ⟨#[]⟩, 0, 0⟩ [z0])
    rw [show er 6 = 6 from rfl] at w2 w3
    clear h1
    refine row_of Tryz.func55 rfl rfl (Nat.le_of_ble_eq_true rfl) ?_
    repeat' (first | refine aw_seq ?_ | refine aw_skip ?_ | refine aw_block ?_ | refine aw_exit ?_ | refine aw_ct rfl ?_ | refine aw_cf rfl ?_ | ((first | refine aw_reg (fun K hK => ?_) | refine aw_drw mixd (fun K hK => ?_) | refine ar_call (cb w1 0 ?_) | refine ard_call (db w1 0 ?_) | refine ar_call (cb w2 0 ?_) | refine ard_call (db w2 0 ?_) | refine ar_call (cb a 0 ?_) | refine ard_call (db a 0 ?_) | refine ar_call (cb w3 0 ?_) | refine ard_call (db w3 0 ?_) | refine ar_call (cb n 0 ?_) | refine ard_call (db n 0 ?_) | fail); simp -implicitDefEqProofs [zK]) | refine hK _ ?_ | refine hK _ _ (by rfl) ?_ | fail)
    refine aw_ret (fin_box ?_); simp -implicitDefEqProofs [FinB, resV, resT, bad7, z0] <;> try rfl
  rw [if_pos h1]
  have hlt := k_lt h1 (by decide)
  rw [show KT ts 1 (i + 1, 0) = (nxt ts (i + 1), i + 1 + 1, 0) by unfold KT; simp [h1]] at w1
  obtain ⟨⟨xk, xn, xs, xf, xt⟩, hx⟩ : ∃ x, nxt ts (i + 1) = x := ⟨_, rfl⟩
  rw [hx] at w1 ⊢
  dsimp only at w1 ⊢
  clear h1 hx
  by_cases h2 : isK sBra (nxt ts (i + 1 + 1)) = true; rotate_left
  · have h2 : isK sBra (nxt ts (i + 1 + 1)) = false := by simpa using h2
    rw [show isK sBra (nxt ts (i + 2)) = false from h2, if_neg (by simp)]
    have w2 := want_no ts (i + 1 + 1) 0 sBra (by decide) (.inr h2)
    have a := listF_err ts hl (i + 1 + 1) 6 (by decide)
    have w3 := want_no ts (i + 1 + 1) 6 sKet (by decide) (.inl (by decide))
    have n := node_no ts (i + 1 + 1) 6 (by decide) i (.mk ⟨30, 0, xs, 0, 0⟩ [z0])
    rw [show er 0 = 6 from rfl] at w2
    rw [show er 6 = 6 from rfl] at w3
    clear h2
    refine row_of Tryz.func55 rfl rfl (Nat.le_of_ble_eq_true rfl) ?_
    repeat' (first | refine aw_seq ?_ | refine aw_skip ?_ | refine aw_block ?_ | refine aw_exit ?_ | refine aw_ct rfl ?_ | refine aw_cf rfl ?_ | ((first | refine aw_reg (fun K hK => ?_) | refine aw_drw mixd (fun K hK => ?_) | refine ar_call (cb w1 0 ?_) | refine ard_call (db w1 0 ?_) | refine ar_call (cb w2 0 ?_) | refine ard_call (db w2 0 ?_) | refine ar_call (cb a 0 ?_) | refine ard_call (db a 0 ?_) | refine ar_call (cb w3 0 ?_) | refine ard_call (db w3 0 ?_) | refine ar_call (cb n 0 ?_) | refine ard_call (db n 0 ?_) | fail); simp -implicitDefEqProofs) | refine hK _ ?_ | refine hK _ _ (by rfl) ?_ | fail)
    refine aw_ret (fin_box ?_); simp -implicitDefEqProofs [FinB, resV, resT, bad7, z0] <;> try rfl
  rw [show isK sBra (nxt ts (i + 2)) = true from h2, if_pos rfl]
  have hlt2 := isK_lt h2
  have w2 := want_yes ts (i + 1 + 1) sBra (by decide) (by omega) h2
  have a := listF_row ts hl (i + 1 + 1 + 1) hlt2
  have hls := lsF_eq (ts.length + 1) (i + 1 + 1 + 1) [] hlt2 (by omega) (by simp)
  obtain ⟨l1, l2⟩ := lpF_of (ts := ts) (ts.length + 1) (i + 1 + 1 + 1) []
  have hok := lpF_ok (ts := ts) (ts.length + 1) (i + 1 + 1 + 1) [] hlt2
  obtain ⟨L, hL⟩ : ∃ L, lsF ts (ts.length + 1) (i + 1 + 1 + 1) [] = L := ⟨_, rfl⟩
  obtain ⟨⟨c1, c2, c3⟩, hC⟩ : ∃ C, lpF0 ts (ts.length + 1) (i + 1 + 1 + 1) [] = C := ⟨_, rfl⟩
  rw [hC] at a hls l1 l2
  rw [hL] at a hls
  dsimp only at a hls l1 l2
  rw [show lpF ts (ts.length + 1) (i + 3) [] = lpF ts (ts.length + 1) (i + 1 + 1 + 1) [] from rfl]
  by_cases h3 : c3 = 0
  · subst h3
    have hls := hls rfl
    subst hls
    obtain ⟨l1, l3⟩ := l1 rfl
    rw [l1] at hok ⊢
    have hle := hok.le
    dsimp only at hle
    have w3 := want_yes ts c2 sKet (by decide) (by omega) l3
    have n := node_yes ts (c2 + 1) i ⟨30, 0, xs, 0, 0⟩ L hi (by omega) hle.2 (by omega)
    rw [show finC ts i 30 xs (L, c2 + 1, 0) = mk7 ts i (c2 + 1) 30 0 xs L from if_neg (by simp)]
    clear l1 l2 l3 hok h2 hL hC
    refine row_of Tryz.func55 rfl rfl (Nat.le_of_ble_eq_true rfl) ?_
    repeat' (first | refine aw_seq ?_ | refine aw_skip ?_ | refine aw_block ?_ | refine aw_exit ?_ | refine aw_ct rfl ?_ | refine aw_cf rfl ?_ | ((first | refine aw_reg (fun K hK => ?_) | refine aw_drw mixd (fun K hK => ?_) | refine ar_call (cb w1 0 ?_) | refine ard_call (db w1 0 ?_) | refine ar_call (cb w2 0 ?_) | refine ard_call (db w2 0 ?_) | refine ar_call (cb a 0 ?_) | refine ard_call (db a 0 ?_) | refine ar_call (cb w3 0 ?_) | refine ard_call (db w3 0 ?_) | refine ar_call (cb n 0 ?_) | refine ard_call (db n 0 ?_) | fail); simp -implicitDefEqProofs) | refine hK _ ?_ | refine hK _ _ (by rfl) ?_ | fail)
    refine aw_ret (fin_box ?_); simp -implicitDefEqProofs [FinB, resV, resT, mk7] <;> try rfl
  · have l2 := l2 h3
    have w3 := want_no ts c2 c3 sKet (by decide) (.inl h3)
    have n := node_no ts c2 c3 h3 i (.mk ⟨30, 0, xs, 0, 0⟩ L)
    rw [show er c3 = c3 from if_neg h3] at w3
    rw [show finC ts i 30 xs (lpF ts (ts.length + 1) (i + 1 + 1 + 1) []) = (z0, c2, c3) by unfold finC; rw [show (lpF ts (ts.length + 1) (i + 1 + 1 + 1) []).2.2 = c3 by rw [l2], show (lpF ts (ts.length + 1) (i + 1 + 1 + 1) []).2.1 = c2 by rw [l2], if_pos h3]]
    clear l1 l2 hok h2 hL hC hls
    refine row_of Tryz.func55 rfl rfl (Nat.le_of_ble_eq_true rfl) ?_
    repeat' (first | refine aw_seq ?_ | refine aw_skip ?_ | refine aw_block ?_ | refine aw_exit ?_ | refine aw_ct rfl ?_ | refine aw_cf rfl ?_ | ((first | refine aw_reg (fun K hK => ?_) | refine aw_drw mixd (fun K hK => ?_) | refine ar_call (cb w1 0 ?_) | refine ard_call (db w1 0 ?_) | refine ar_call (cb w2 0 ?_) | refine ard_call (db w2 0 ?_) | refine ar_call (cb a 0 ?_) | refine ard_call (db a 0 ?_) | refine ar_call (cb w3 0 ?_) | refine ard_call (db w3 0 ?_) | refine ar_call (cb n 0 ?_) | refine ard_call (db n 0 ?_) | fail); simp -implicitDefEqProofs) | refine hK _ ?_ | refine hK _ _ (by rfl) ?_ | fail)
    refine aw_ret (fin_box ?_); simp -implicitDefEqProofs [FinB, resV, resT, z0] <;> try rfl
set_option maxRecDepth 100000 in
set_option maxHeartbeats 4000000 in
theorem define9_row (p : Nat × Int) (a : Nat) (h : p.2 = 0 → a + 1 ≤ p.1 ∧ p.1 ≤ ts.length) : Row Tryz.prog 56 [vR, vI a] [rd ts p.1 p.2] (vT (FT ts (R9 ts) a 31 0 [.nam, .sgn sIs, .sub 3, .sgn sEnd] p ⟨#[]⟩ []).1) [some (rd ts (FT ts (R9 ts) a 31 0 [.nam, .sgn sIs, .sub 3, .sgn sEnd] p ⟨#[]⟩ []).2.1 (FT ts (R9 ts) a 31 0 [.nam, .sgn sIs, .sub 3, .sgn sEnd] p ⟨#[]⟩ []).2.2)] := by
  obtain ⟨i, e⟩ := p
  dsimp only at h ⊢
  have w1 := kind_tot ts (by omega) (i, e) 1 (by decide)
  have c1 := kt_c (ts := ts) (a := a + 1) (p := (i, e)) (k := 1) (by decide) h
  obtain ⟨⟨⟨xk, xn, xs, xf, xt⟩, i1, e1⟩, h1⟩ : ∃ p, KT ts 1 (i, e) = p := ⟨_, rfl⟩
  rw [h1] at w1 c1
  dsimp only at w1 c1
  have w2 := want_tot ts (by omega) (i1, e1) sIs (by decide)
  have c2 := wt_c (ts := ts) (s := sIs) (p := (i1, e1)) c1
  obtain ⟨⟨i2, e2⟩, h2⟩ : ∃ p, WT ts sIs (i1, e1) = p := ⟨_, rfl⟩
  rw [h2] at w2 c2
  dsimp only at w2 c2
  have w3 := literal9_row ts hl (i2, e2) (fun hh => (c2 hh).2)
  have c3 := ot_c (ts := ts) (G := R9 ts 3) (p := (i2, e2)) (fun j hj => (R9_ok 3 j hj).ok) c2
  rw [show litG ts = R9 ts 3 from rfl] at w3
  obtain ⟨⟨⟨tx, tl⟩, i3, e3⟩, h3⟩ : ∃ r, OT (R9 ts 3) (i2, e2) = r := ⟨_, rfl⟩
  rw [h3] at w3 c3
  dsimp only at w3 c3
  have w4 := want_tot ts (by omega) (i3, e3) sEnd (by decide)
  have c4 := wt_c (ts := ts) (s := sEnd) (p := (i3, e3)) c3
  obtain ⟨⟨i4, e4⟩, h4⟩ : ∃ p, WT ts sEnd (i3, e3) = p := ⟨_, rfl⟩
  rw [h4] at w4 c4
  dsimp only at w4 c4
  have n := node_tot ts (by omega) (i4, e4) a ⟨31, 0, xs, 0, 0⟩ [.mk tx tl] (fun hh => by have := c4 hh; dsimp only; omega)
  rw [ft_nam, h1, ft_sgn, h2, ft_sub (R9_no 3) (fun hh => (c2 hh).2), h3, ft_sgn, h4, ft_end]
  simp only [List.nil_append]
  dsimp only at n ⊢
  obtain ⟨⟨⟨nx, nl⟩, nj, ne⟩, hn⟩ : ∃ r, NT ts a 31 0 xs [.mk tx tl] (i4, e4) = r := ⟨_, rfl⟩
  rw [hn] at n ⊢
  clear hn h1 h2 h3 h4 c1 c2 c3 c4
  refine row_of Tryz.func56 rfl rfl (Nat.le_of_ble_eq_true rfl) ?_
  repeat' (first | refine aw_seq ?_ | refine aw_skip ?_ | refine aw_block ?_ | refine aw_exit ?_ | refine aw_ct rfl ?_ | refine aw_cf rfl ?_ | ((first | refine aw_reg (fun K hK => ?_) | refine aw_drw mixd (fun K hK => ?_) | refine ar_call (cb w1 0 ?_) | refine ard_call (db w1 0 ?_) | refine ar_call (cb w2 0 ?_) | refine ard_call (db w2 0 ?_) | refine ar_call (cb w3 0 ?_) | refine ard_call (db w3 0 ?_) | refine ar_call (cb w4 0 ?_) | refine ard_call (db w4 0 ?_) | refine ar_call (cb n 0 ?_) | refine ard_call (db n 0 ?_) | fail); simp -implicitDefEqProofs) | refine hK _ ?_ | refine hK _ _ (by rfl) ?_ | fail)
  refine aw_ret (fin_box ?_); simp -implicitDefEqProofs [FinB, resV, resT] <;> try rfl
omit hl in
theorem par_e (i : Nat) (e : Int) (he : e ≠ 0) : OT (parG ts) (i, e) = (z0, i, e) := if_neg he
set_option maxRecDepth 100000 in
set_option maxHeartbeats 4000000 in
theorem function9_row (p : Nat × Int) (a : Nat) (N : Int) (h : p.2 = 0 → a + 1 ≤ p.1 ∧ p.1 ≤ ts.length) : Row Tryz.prog 60 [vR, vI a, vI N] [rd ts p.1 p.2] (vT (FT ts (R9 ts) a 33 N [.nam, .sub 4, .sgn sCol, .sub 1, .sub 2] p ⟨#[]⟩ []).1) [some (rd ts (FT ts (R9 ts) a 33 N [.nam, .sub 4, .sgn sCol, .sub 1, .sub 2] p ⟨#[]⟩ []).2.1 (FT ts (R9 ts) a 33 N [.nam, .sub 4, .sgn sCol, .sub 1, .sub 2] p ⟨#[]⟩ []).2.2)] := by
  obtain ⟨i, e⟩ := p
  dsimp only at h ⊢
  have w1 := kind_tot ts (by omega) (i, e) 1 (by decide)
  have c1 := kt_c (ts := ts) (a := a + 1) (p := (i, e)) (k := 1) (by decide) h
  obtain ⟨⟨⟨xk, xn, xs, xf, xt⟩, i1, e1⟩, h1⟩ : ∃ p, KT ts 1 (i, e) = p := ⟨_, rfl⟩
  rw [h1] at w1 c1
  dsimp only at w1 c1
  have pl := place_row ts i1 e1
  have c2 := ot_c (ts := ts) (G := R9 ts 4) (p := (i1, e1)) (fun j hj => (R9_ok 4 j hj).ok) c1
  have main : ∀ (tx : Lab) (tlp : List VT) (i2 : Nat) (e2 : Int), OT (R9 ts 4) (i1, e1) = (.mk tx tlp, i2, e2) → True := fun _ _ _ _ _ => trivial
  obtain ⟨⟨⟨tx, tl⟩, i2, e2⟩, h2⟩ : ∃ r, OT (R9 ts 4) (i1, e1) = r := ⟨_, rfl⟩
  rw [h2] at c2
  dsimp only at c2
  have w3 := want_tot ts (by omega) (i2, e2) sCol (by decide)
  have c3 := wt_c (ts := ts) (s := sCol) (p := (i2, e2)) c2
  obtain ⟨⟨i3, e3⟩, h3⟩ : ∃ p, WT ts sCol (i2, e2) = p := ⟨_, rfl⟩
  rw [h3] at w3 c3
  dsimp only at w3 c3
  have w4 := type_tot ts hl (i3, e3) c3
  have c4 := ot_c (ts := ts) (G := R9 ts 1) (p := (i3, e3)) (fun j hj => (R9_ok 1 j hj).ok) c3
  rw [show tyG ts (ts.length + 1) = R9 ts 1 from rfl] at w4
  obtain ⟨⟨⟨ux, ul⟩, i4, e4⟩, h4⟩ : ∃ r, OT (R9 ts 1) (i3, e3) = r := ⟨_, rfl⟩
  rw [h4] at w4 c4
  dsimp only at w4 c4
  have w5 := below_tot ts (i4, e4) 112 (Blk9 ts) (fun h0 => sblock_yes ts hl i4 (c4 h0).2)
  have c5 := ot_c (ts := ts) (G := R9 ts 2) (p := (i4, e4)) (fun j hj => (R9_ok 2 j hj).ok) c4
  rw [show Blk9 ts = R9 ts 2 from rfl] at w5
  obtain ⟨⟨⟨bx, bl⟩, i5, e5⟩, h5⟩ : ∃ r, OT (R9 ts 2) (i4, e4) = r := ⟨_, rfl⟩
  rw [h5] at w5 c5
  dsimp only at w5 c5
  have n := node_tot ts (by omega) (i5, e5) a ⟨33, N, xs, 0, 0⟩ [.mk tx tl, .mk ux ul, .mk bx bl] (fun hh => by have := c5 hh; dsimp only; omega)
  rw [ft_nam, h1, ft_sub (R9_no 4) (fun hh => (c1 hh).2), h2, ft_sgn, h3, ft_sub (R9_no 1) (fun hh => (c3 hh).2), h4, ft_sub (R9_no 2) (fun hh => (c4 hh).2), h5, ft_end]
  simp only [List.nil_append, List.cons_append]
  dsimp only at n ⊢
  obtain ⟨⟨⟨nx, nl⟩, nj, ne⟩, hn⟩ : ∃ r, NT ts a 33 N xs [.mk tx tl, .mk ux ul, .mk bx bl] (i5, e5) = r := ⟨_, rfl⟩
  rw [hn] at n ⊢
  clear hn h1 h3 h4 h5 c2 c3 c4 c5 main
  rw [show R9 ts 4 = parG ts from rfl] at h2
  by_cases he : e1 = 0; rotate_left
  · rw [par_e ts i1 e1 he] at h2
    unfold z0 at h2
    simp only [Prod.mk.injEq, Tr.mk.injEq] at h2
    obtain ⟨⟨rfl, rfl⟩, rfl, rfl⟩ := h2
    have q1 := want_no ts i1 e1 sParO (by decide) (.inl he)
    have q2 := take_no ts i1 e1 sParS (by decide) (.inl he)
    have q3 := listP_err ts hl i1 e1 he
    have q4 := want_no ts i1 e1 sParS (by decide) (.inl he)
    have q5 := node_no ts i1 e1 he i1 (.mk ⟨35, 0, ⟨#[]⟩, 0, 0⟩ [z0])
    rw [show er e1 = e1 from if_neg he] at q1 q4
    unfold z0 at q5
    clear c1 he
    refine row_of Tryz.func60 rfl rfl (Nat.le_of_ble_eq_true rfl) ?_
    repeat' (first | refine aw_seq ?_ | refine aw_skip ?_ | refine aw_block ?_ | refine aw_exit ?_ | refine aw_ct rfl ?_ | refine aw_cf rfl ?_ | ((first | refine aw_reg (fun K hK => ?_) | refine aw_drw mixd (fun K hK => ?_) | refine ar_call (cb w1 0 ?_) | refine ard_call (db w1 0 ?_) | refine ar_call (cb pl 0 ?_) | refine ard_call (db pl 0 ?_) | refine ar_call (cb q1 0 ?_) | refine ard_call (db q1 0 ?_) | refine ar_call (cb q2 0 ?_) | refine ard_call (db q2 0 ?_) | refine ar_call (cb q3 0 ?_) | refine ard_call (db q3 0 ?_) | refine ar_call (cb q4 0 ?_) | refine ard_call (db q4 0 ?_) | refine ar_call (cb q5 0 ?_) | refine ard_call (db q5 0 ?_) | refine ar_call (cb w3 0 ?_) | refine ard_call (db w3 0 ?_) | refine ar_call (cb w4 0 ?_) | refine ard_call (db w4 0 ?_) | refine ar_call (cb w5 0 ?_) | refine ard_call (db w5 0 ?_) | refine ar_call (cb n 0 ?_) | refine ard_call (db n 0 ?_) | fail); simp -implicitDefEqProofs [z0]) | refine hK _ ?_ | refine hK _ _ (by rfl) ?_ | fail)
    refine aw_ret (fin_box ?_); simp -implicitDefEqProofs [FinB, resV, resT] <;> try rfl
  subst he
  have c1 := c1 rfl
  rw [show OT (parG ts) (i1, 0) = parG ts i1 from if_pos rfl] at h2
  unfold parG cloG at h2
  by_cases k1 : isK sParO (nxt ts i1) = true; rotate_left
  · have k1 : isK sParO (nxt ts i1) = false := by simpa using k1
    rw [if_pos k1] at h2
    unfold finC at h2
    rw [if_pos (by simp)] at h2
    unfold z0 at h2
    simp only [Prod.mk.injEq, Tr.mk.injEq] at h2
    obtain ⟨⟨rfl, rfl⟩, rfl, rfl⟩ := h2
    have q1 := want_no ts i1 0 sParO (by decide) (.inr k1)
    have q2 := take_no ts i1 6 sParS (by decide) (.inl (by decide))
    have q3 := listP_err ts hl i1 6 (by decide)
    have q4 := want_no ts i1 6 sParS (by decide) (.inl (by decide))
    have q5 := node_no ts i1 6 (by decide) i1 (.mk ⟨35, 0, ⟨#[]⟩, 0, 0⟩ [z0])
    rw [show er 0 = 6 from rfl] at q1
    rw [show er 6 = 6 from rfl] at q4
    unfold z0 at q5
    clear c1 k1
    refine row_of Tryz.func60 rfl rfl (Nat.le_of_ble_eq_true rfl) ?_
    repeat' (first | refine aw_seq ?_ | refine aw_skip ?_ | refine aw_block ?_ | refine aw_exit ?_ | refine aw_ct rfl ?_ | refine aw_cf rfl ?_ | ((first | refine aw_reg (fun K hK => ?_) | refine aw_drw mixd (fun K hK => ?_) | refine ar_call (cb w1 0 ?_) | refine ard_call (db w1 0 ?_) | refine ar_call (cb pl 0 ?_) | refine ard_call (db pl 0 ?_) | refine ar_call (cb q1 0 ?_) | refine ard_call (db q1 0 ?_) | refine ar_call (cb q2 0 ?_) | refine ard_call (db q2 0 ?_) | refine ar_call (cb q3 0 ?_) | refine ard_call (db q3 0 ?_) | refine ar_call (cb q4 0 ?_) | refine ard_call (db q4 0 ?_) | refine ar_call (cb q5 0 ?_) | refine ard_call (db q5 0 ?_) | refine ar_call (cb w3 0 ?_) | refine ard_call (db w3 0 ?_) | refine ar_call (cb w4 0 ?_) | refine ard_call (db w4 0 ?_) | refine ar_call (cb w5 0 ?_) | refine ard_call (db w5 0 ?_) | refine ar_call (cb n 0 ?_) | refine ard_call (db n 0 ?_) | fail); simp -implicitDefEqProofs [z0]) | refine hK _ ?_ | refine hK _ _ (by rfl) ?_ | fail)
    refine aw_ret (fin_box ?_); simp -implicitDefEqProofs [FinB, resV, resT] <;> try rfl
  have hlt := isK_lt k1
  rw [if_neg (by simp [k1])] at h2
  have q1 := want_yes ts i1 sParO (by decide) (by omega) k1
  by_cases k2 : isK sParS (nxt ts (i1 + 1)) = true
  · rw [if_pos ⟨rfl, k2⟩] at h2
    have hlt2 := isK_lt k2
    have q2 := take_yes ts (i1 + 1) sParS (by decide) (by omega) k2
    have q5 := node_yes ts (i1 + 1 + 1) i1 ⟨35, 0, ⟨#[]⟩, 0, 0⟩ [] hlt (by omega) hlt2 (by omega)
    unfold finC mk7 at h2
    rw [if_neg (by simp), show i1 + 2 = i1 + 1 + 1 from rfl] at h2
    simp only [Prod.mk.injEq, Tr.mk.injEq] at h2
    obtain ⟨⟨rfl, rfl⟩, rfl, rfl⟩ := h2
    clear c1 k1 k2
    refine row_of Tryz.func60 rfl rfl (Nat.le_of_ble_eq_true rfl) ?_
    repeat' (first | refine aw_seq ?_ | refine aw_skip ?_ | refine aw_block ?_ | refine aw_exit ?_ | refine aw_ct rfl ?_ | refine aw_cf rfl ?_ | ((first | refine aw_reg (fun K hK => ?_) | refine aw_drw mixd (fun K hK => ?_) | refine ar_call (cb w1 0 ?_) | refine ard_call (db w1 0 ?_) | refine ar_call (cb pl 0 ?_) | refine ard_call (db pl 0 ?_) | refine ar_call (cb q1 0 ?_) | refine ard_call (db q1 0 ?_) | refine ar_call (cb q2 0 ?_) | refine ard_call (db q2 0 ?_) | refine ar_call (cb q5 0 ?_) | refine ard_call (db q5 0 ?_) | refine ar_call (cb w3 0 ?_) | refine ard_call (db w3 0 ?_) | refine ar_call (cb w4 0 ?_) | refine ard_call (db w4 0 ?_) | refine ar_call (cb w5 0 ?_) | refine ard_call (db w5 0 ?_) | refine ar_call (cb n 0 ?_) | refine ard_call (db n 0 ?_) | fail); simp -implicitDefEqProofs) | refine hK _ ?_ | refine hK _ _ (by rfl) ?_ | fail)
    refine aw_ret (fin_box ?_); simp -implicitDefEqProofs [FinB, resV, resT] <;> try rfl
  have k2 : isK sParS (nxt ts (i1 + 1)) = false := by simpa using k2
  rw [if_neg (by simp [k2])] at h2
  have q2 := take_no ts (i1 + 1) 0 sParS (by decide) (.inr k2)
  have q3 := listP_row ts hl (i1 + 1) hlt
  have hls := lsG_eq ts (fun j => (partG ts j).1) (partG ts) part_ok (ts.length + 1) (i1 + 1) [] hlt (fun _ _ _ _ => rfl)
  have hok := lpC_ok (part_ok (ts := ts)) (ts.length + 1) (i1 + 1) [] hlt
  obtain ⟨L, hL⟩ : ∃ L, lsG ts (fun j => (partG ts j).1) (partG ts) (ts.length + 1) (i1 + 1) [] = L := ⟨_, rfl⟩
  obtain ⟨⟨d1, d2, d3⟩, hD⟩ : ∃ C, lpC ts (partG ts) (ts.length + 1) (i1 + 1) [] = C := ⟨_, rfl⟩
  rw [hD] at h2 q3 hls hok
  rw [hL] at q3 hls
  dsimp only at h2 q3 hls
  have hle := hok.le
  dsimp only at hle
  by_cases h3 : d3 = 0; rotate_left
  · rw [if_pos h3] at h2
    unfold finC at h2
    rw [if_pos h3] at h2
    unfold z0 at h2
    simp only [Prod.mk.injEq, Tr.mk.injEq] at h2
    obtain ⟨⟨rfl, rfl⟩, rfl, rfl⟩ := h2
    have q4 := want_no ts d2 d3 sParS (by decide) (.inl h3)
    have q5 := node_no ts d2 d3 h3 i1 (.mk ⟨35, 0, ⟨#[]⟩, 0, 0⟩ L)
    rw [show er d3 = d3 from if_neg h3] at q4
    unfold z0 at q5
    clear c1 k1 k2 hls hok hL hD
    refine row_of Tryz.func60 rfl rfl (Nat.le_of_ble_eq_true rfl) ?_
    repeat' (first | refine aw_seq ?_ | refine aw_skip ?_ | refine aw_block ?_ | refine aw_exit ?_ | refine aw_ct rfl ?_ | refine aw_cf rfl ?_ | ((first | refine aw_reg (fun K hK => ?_) | refine aw_drw mixd (fun K hK => ?_) | refine ar_call (cb w1 0 ?_) | refine ard_call (db w1 0 ?_) | refine ar_call (cb pl 0 ?_) | refine ard_call (db pl 0 ?_) | refine ar_call (cb q1 0 ?_) | refine ard_call (db q1 0 ?_) | refine ar_call (cb q2 0 ?_) | refine ard_call (db q2 0 ?_) | refine ar_call (cb q3 0 ?_) | refine ard_call (db q3 0 ?_) | refine ar_call (cb q4 0 ?_) | refine ard_call (db q4 0 ?_) | refine ar_call (cb q5 0 ?_) | refine ard_call (db q5 0 ?_) | refine ar_call (cb w3 0 ?_) | refine ard_call (db w3 0 ?_) | refine ar_call (cb w4 0 ?_) | refine ard_call (db w4 0 ?_) | refine ar_call (cb w5 0 ?_) | refine ard_call (db w5 0 ?_) | refine ar_call (cb n 0 ?_) | refine ard_call (db n 0 ?_) | fail); simp -implicitDefEqProofs) | refine hK _ ?_ | refine hK _ _ (by rfl) ?_ | fail)
    refine aw_ret (fin_box ?_); simp -implicitDefEqProofs [FinB, resV, resT] <;> try rfl
  subst h3
  have hls := hls rfl
  subst hls
  rw [if_neg (by simp)] at h2
  by_cases k3 : isK sParS (nxt ts d2) = true; rotate_left
  · have k3 : isK sParS (nxt ts d2) = false := by simpa using k3
    rw [if_pos k3] at h2
    unfold finC at h2
    rw [if_pos (by simp)] at h2
    unfold z0 at h2
    simp only [Prod.mk.injEq, Tr.mk.injEq] at h2
    obtain ⟨⟨rfl, rfl⟩, rfl, rfl⟩ := h2
    have q4 := want_no ts d2 0 sParS (by decide) (.inr k3)
    have q5 := node_no ts d2 6 (by decide) i1 (.mk ⟨35, 0, ⟨#[]⟩, 0, 0⟩ L)
    rw [show er 0 = 6 from rfl] at q4
    unfold z0 at q5
    clear c1 k1 k2 k3 hok hL hD
    refine row_of Tryz.func60 rfl rfl (Nat.le_of_ble_eq_true rfl) ?_
    repeat' (first | refine aw_seq ?_ | refine aw_skip ?_ | refine aw_block ?_ | refine aw_exit ?_ | refine aw_ct rfl ?_ | refine aw_cf rfl ?_ | ((first | refine aw_reg (fun K hK => ?_) | refine aw_drw mixd (fun K hK => ?_) | refine ar_call (cb w1 0 ?_) | refine ard_call (db w1 0 ?_) | refine ar_call (cb pl 0 ?_) | refine ard_call (db pl 0 ?_) | refine ar_call (cb q1 0 ?_) | refine ard_call (db q1 0 ?_) | refine ar_call (cb q2 0 ?_) | refine ard_call (db q2 0 ?_) | refine ar_call (cb q3 0 ?_) | refine ard_call (db q3 0 ?_) | refine ar_call (cb q4 0 ?_) | refine ard_call (db q4 0 ?_) | refine ar_call (cb q5 0 ?_) | refine ard_call (db q5 0 ?_) | refine ar_call (cb w3 0 ?_) | refine ard_call (db w3 0 ?_) | refine ar_call (cb w4 0 ?_) | refine ard_call (db w4 0 ?_) | refine ar_call (cb w5 0 ?_) | refine ard_call (db w5 0 ?_) | refine ar_call (cb n 0 ?_) | refine ard_call (db n 0 ?_) | fail); simp -implicitDefEqProofs) | refine hK _ ?_ | refine hK _ _ (by rfl) ?_ | fail)
    refine aw_ret (fin_box ?_); simp -implicitDefEqProofs [FinB, resV, resT] <;> try rfl
  rw [if_neg (by simp [k3])] at h2
  have hlt3 := isK_lt k3
  have q4 := want_yes ts d2 sParS (by decide) (by omega) k3
  have q5 := node_yes ts (d2 + 1) i1 ⟨35, 0, ⟨#[]⟩, 0, 0⟩ L hlt (by omega) hlt3 (by omega)
  unfold finC mk7 at h2
  rw [if_neg (by simp)] at h2
  simp only [Prod.mk.injEq, Tr.mk.injEq] at h2
  obtain ⟨⟨rfl, rfl⟩, rfl, rfl⟩ := h2
  clear c1 k1 k2 k3 hok hL hD
  refine row_of Tryz.func60 rfl rfl (Nat.le_of_ble_eq_true rfl) ?_
  repeat' (first | refine aw_seq ?_ | refine aw_skip ?_ | refine aw_block ?_ | refine aw_exit ?_ | refine aw_ct rfl ?_ | refine aw_cf rfl ?_ | ((first | refine aw_reg (fun K hK => ?_) | refine aw_drw mixd (fun K hK => ?_) | refine ar_call (cb w1 0 ?_) | refine ard_call (db w1 0 ?_) | refine ar_call (cb pl 0 ?_) | refine ard_call (db pl 0 ?_) | refine ar_call (cb q1 0 ?_) | refine ard_call (db q1 0 ?_) | refine ar_call (cb q2 0 ?_) | refine ard_call (db q2 0 ?_) | refine ar_call (cb q3 0 ?_) | refine ard_call (db q3 0 ?_) | refine ar_call (cb q4 0 ?_) | refine ard_call (db q4 0 ?_) | refine ar_call (cb q5 0 ?_) | refine ard_call (db q5 0 ?_) | refine ar_call (cb w3 0 ?_) | refine ard_call (db w3 0 ?_) | refine ar_call (cb w4 0 ?_) | refine ard_call (db w4 0 ?_) | refine ar_call (cb w5 0 ?_) | refine ard_call (db w5 0 ?_) | refine ar_call (cb n 0 ?_) | refine ard_call (db n 0 ?_) | fail); simp -implicitDefEqProofs) | refine hK _ ?_ | refine hK _ _ (by rfl) ?_ | fail)
  refine aw_ret (fin_box ?_); simp -implicitDefEqProofs [FinB, resV, resT] <;> try rfl
theorem take_at (i : Nat) {s : ByteArray} (hs : s.size ≤ 1000) (h : isK s (nxt ts i) = true) : Row Tryz.prog 54 [vR, vS s] [rd ts i 0] (vB true) [some (rd ts (i + 1) 0)] := take_yes ts i s hs (by omega) h
omit hl in
theorem notake_at (i : Nat) {s : ByteArray} (hs : s.size ≤ 1000) (h : isK s (nxt ts i) = false) : Row Tryz.prog 54 [vR, vS s] [rd ts i 0] (vB false) [some (rd ts i 0)] := take_no ts i 0 s hs (.inr h)
set_option maxRecDepth 100000 in
set_option maxHeartbeats 4000000 in
theorem decl9_row (i : Nat) (hi : i ≤ ts.length) : Row Tryz.prog 25 [vR] [rd ts i 0] (vT (declG ts i).1) [some (rd ts (declG ts i).2.1 (declG ts i).2.2)] := by
  have p0 := place_row ts i 0
  unfold declG
  by_cases h1 : isK wConst (nxt ts i) = true
  · rw [if_pos h1]
    have hlt := isK_lt h1
    have t1 := notake_at ts i (s := wRec) (by decide) (isK_no h1 (by decide))
    have t2 := take_at ts hl i (s := wConst) (by decide) h1
    have d := define9_row ts hl (i + 1, 0) i (fun _ => ⟨Nat.le_refl _, hlt⟩)
    rw [ft_start, ft_sgn, show WT ts wConst (i, 0) = (i + 1, 0) by unfold WT; simp [h1]]
    obtain ⟨⟨⟨nx, nl⟩, nj, ne⟩, hn⟩ : ∃ r, FT ts (R9 ts) i 31 0 [.nam, .sgn sIs, .sub 3, .sgn sEnd] (i + 1, 0) ⟨#[]⟩ [] = r := ⟨_, rfl⟩
    rw [hn] at d ⊢
    clear hn h1
    refine row_of Tryz.func25 rfl rfl (Nat.le_of_ble_eq_true rfl) ?_
    repeat' (first | refine aw_seq ?_ | refine aw_skip ?_ | refine aw_block ?_ | refine aw_exit ?_ | refine aw_ct rfl ?_ | refine aw_cf rfl ?_ | ((first | refine aw_reg (fun K hK => ?_) | refine aw_drw mixd (fun K hK => ?_) | refine ar_call (cb p0 0 ?_) | refine ard_call (db p0 0 ?_) | refine ar_call (cb t1 0 ?_) | refine ard_call (db t1 0 ?_) | refine ar_call (cb t2 0 ?_) | refine ard_call (db t2 0 ?_) | refine ar_call (cb d 0 ?_) | refine ard_call (db d 0 ?_) | fail); simp -implicitDefEqProofs) | refine hK _ ?_ | refine hK _ _ (by rfl) ?_ | fail)
    refine aw_ret (fin_box ?_); simp -implicitDefEqProofs [FinB, resV, resT] <;> try rfl
  rw [if_neg h1]
  by_cases h2 : isK wVar (nxt ts i) = true
  · rw [if_pos h2]
    have hlt := isK_lt h2
    have t1 := notake_at ts i (s := wRec) (by decide) (isK_no h2 (by decide))
    have t2 := notake_at ts i (s := wConst) (by decide) (isK_no h2 (by decide))
    have t3 := take_at ts hl i (s := wVar) (by decide) h2
    have d := part9_row ts hl (i + 1, 0) (fun _ => hlt)
    have c := ot_c (ts := ts) (a := i + 1) (G := partG ts) (p := (i + 1, 0)) part_ok (fun _ => ⟨Nat.le_refl _, hlt⟩)
    rw [var_eq i hlt h2]
    obtain ⟨⟨⟨tx, tl⟩, i1, e1⟩, hp⟩ : ∃ r, OT (partG ts) (i + 1, 0) = r := ⟨_, rfl⟩
    rw [hp] at d c ⊢
    dsimp only [Tr.lab, Tr.kids] at d c ⊢
    have w := want_tot ts (by omega) (i1, e1) sEnd (by decide)
    have c2 := wt_c (ts := ts) (s := sEnd) (p := (i1, e1)) c
    obtain ⟨⟨i2, e2⟩, hw⟩ : ∃ p, WT ts sEnd (i1, e1) = p := ⟨_, rfl⟩
    rw [hw] at w c2 ⊢
    dsimp only at w c2
    have n := node_tot ts (by omega) (i2, e2) i ⟨32, 0, tx.s, 0, 0⟩ tl (fun hh => by have := c2 hh; dsimp only; omega)
    dsimp only at n
    obtain ⟨⟨⟨nx, nl⟩, nj, ne⟩, hn⟩ : ∃ r, NT ts i 32 0 tx.s tl (i2, e2) = r := ⟨_, rfl⟩
    rw [hn] at n ⊢
    clear hn h1 h2 hp hw c c2
    refine row_of Tryz.func25 rfl rfl (Nat.le_of_ble_eq_true rfl) ?_
    repeat' (first | refine aw_seq ?_ | refine aw_skip ?_ | refine aw_block ?_ | refine aw_exit ?_ | refine aw_ct rfl ?_ | refine aw_cf rfl ?_ | ((first | refine aw_reg (fun K hK => ?_) | refine aw_drw mixd (fun K hK => ?_) | refine ar_call (cb p0 0 ?_) | refine ard_call (db p0 0 ?_) | refine ar_call (cb t1 0 ?_) | refine ard_call (db t1 0 ?_) | refine ar_call (cb t2 0 ?_) | refine ard_call (db t2 0 ?_) | refine ar_call (cb t3 0 ?_) | refine ard_call (db t3 0 ?_) | refine ar_call (cb d 0 ?_) | refine ard_call (db d 0 ?_) | refine ar_call (cb w 0 ?_) | refine ard_call (db w 0 ?_) | refine ar_call (cb n 0 ?_) | refine ard_call (db n 0 ?_) | fail); simp -implicitDefEqProofs) | refine hK _ ?_ | refine hK _ _ (by rfl) ?_ | fail)
    refine aw_ret (fin_box ?_); simp -implicitDefEqProofs [FinB, resV, resT] <;> try rfl
  rw [if_neg h2]
  by_cases h3 : isK wPub (nxt ts i) = true
  · rw [if_pos h3]
    have hlt := isK_lt h3
    have t1 := notake_at ts i (s := wRec) (by decide) (isK_no h3 (by decide))
    have t2 := notake_at ts i (s := wConst) (by decide) (isK_no h3 (by decide))
    have t3 := notake_at ts i (s := wVar) (by decide) (isK_no h3 (by decide))
    have t4 := take_at ts hl i (s := wPub) (by decide) h3
    have w := want_tot ts (by omega) (i + 1, 0) wFn (by decide)
    have c := wt_c (ts := ts) (a := i + 1) (s := wFn) (p := (i + 1, 0)) (fun _ => ⟨Nat.le_refl _, hlt⟩)
    rw [ft_start, ft_sgn, show WT ts wPub (i, 0) = (i + 1, 0) by unfold WT; simp [h3], ft_sgn]
    obtain ⟨⟨i2, e2⟩, hw⟩ : ∃ p, WT ts wFn (i + 1, 0) = p := ⟨_, rfl⟩
    rw [hw] at w c ⊢
    dsimp only at w c
    have d := function9_row ts hl (i2, e2) i 1 c
    obtain ⟨⟨⟨nx, nl⟩, nj, ne⟩, hn⟩ : ∃ r, FT ts (R9 ts) i 33 1 [.nam, .sub 4, .sgn sCol, .sub 1, .sub 2] (i2, e2) ⟨#[]⟩ [] = r := ⟨_, rfl⟩
    rw [hn] at d ⊢
    clear hn h1 h2 h3 hw c
    refine row_of Tryz.func25 rfl rfl (Nat.le_of_ble_eq_true rfl) ?_
    repeat' (first | refine aw_seq ?_ | refine aw_skip ?_ | refine aw_block ?_ | refine aw_exit ?_ | refine aw_ct rfl ?_ | refine aw_cf rfl ?_ | ((first | refine aw_reg (fun K hK => ?_) | refine aw_drw mixd (fun K hK => ?_) | refine ar_call (cb p0 0 ?_) | refine ard_call (db p0 0 ?_) | refine ar_call (cb t1 0 ?_) | refine ard_call (db t1 0 ?_) | refine ar_call (cb t2 0 ?_) | refine ard_call (db t2 0 ?_) | refine ar_call (cb t3 0 ?_) | refine ard_call (db t3 0 ?_) | refine ar_call (cb t4 0 ?_) | refine ard_call (db t4 0 ?_) | refine ar_call (cb w 0 ?_) | refine ard_call (db w 0 ?_) | refine ar_call (cb d 0 ?_) | refine ard_call (db d 0 ?_) | fail); simp -implicitDefEqProofs) | refine hK _ ?_ | refine hK _ _ (by rfl) ?_ | fail)
    refine aw_ret (fin_box ?_); simp -implicitDefEqProofs [FinB, resV, resT] <;> try rfl
  rw [if_neg h3]
  by_cases h5 : isK wRec (nxt ts i) = true
  · have h4 : ¬ isK wFn (nxt ts i) = true := by rw [isK_no h5 (by decide)]; simp
    rw [if_neg h4, if_pos h5]
    have hlt := isK_lt h5
    have t1 := take_at ts hl i (s := wRec) (by decide) h5
    have d := record9_row ts hl i hlt
    obtain ⟨⟨⟨nx, nl⟩, nj, ne⟩, hn⟩ : ∃ r, recG ts i = r := ⟨_, rfl⟩
    rw [hn] at d ⊢
    clear hn h1 h2 h3 h4 h5
    refine row_of Tryz.func25 rfl rfl (Nat.le_of_ble_eq_true rfl) ?_
    repeat' (first | refine aw_seq ?_ | refine aw_skip ?_ | refine aw_block ?_ | refine aw_exit ?_ | refine aw_ct rfl ?_ | refine aw_cf rfl ?_ | ((first | refine aw_reg (fun K hK => ?_) | refine aw_drw mixd (fun K hK => ?_) | refine ar_call (cb p0 0 ?_) | refine ard_call (db p0 0 ?_) | refine ar_call (cb t1 0 ?_) | refine ard_call (db t1 0 ?_) | refine ar_call (cb d 0 ?_) | refine ard_call (db d 0 ?_) | fail); simp -implicitDefEqProofs) | refine hK _ ?_ | refine hK _ _ (by rfl) ?_ | fail)
    refine aw_ret (fin_box ?_); simp -implicitDefEqProofs [FinB, resV, resT] <;> try rfl
  have t1 := notake_at ts i (s := wRec) (by decide) (by simpa using h5)
  have t2 := notake_at ts i (s := wConst) (by decide) (by simpa using h1)
  have t3 := notake_at ts i (s := wVar) (by decide) (by simpa using h2)
  have t4 := notake_at ts i (s := wPub) (by decide) (by simpa using h3)
  have w := want_tot ts (by omega) (i, 0) wFn (by decide)
  have hq : (if isK wFn (nxt ts i) = true then itH ts (R9 ts) i 33 0 [.sgn wFn, .nam, .sub 4, .sgn sCol, .sub 1, .sub 2] i ⟨#[]⟩ [] else if isK wRec (nxt ts i) = true then recG ts i else bad7 i) = FT ts (R9 ts) i 33 0 [.nam, .sub 4, .sgn sCol, .sub 1, .sub 2] (WT ts wFn (i, 0)) ⟨#[]⟩ [] := by
    rw [← ft_sgn, ← ft_start]
    by_cases h4 : isK wFn (nxt ts i) = true
    · rw [if_pos h4]
    · rw [if_neg h4, if_neg h5, itG_sgn, if_neg h4]
  rw [hq]
  have c : (WT ts wFn (i, 0)).2 = 0 → i + 1 ≤ (WT ts wFn (i, 0)).1 ∧ (WT ts wFn (i, 0)).1 ≤ ts.length := fun h => ⟨wt_lt h, (wt_c (ts := ts) (a := i) (s := wFn) (p := (i, 0)) (fun _ => ⟨Nat.le_refl _, hi⟩) h).2⟩
  obtain ⟨⟨i2, e2⟩, hw⟩ : ∃ p, WT ts wFn (i, 0) = p := ⟨_, rfl⟩
  rw [hw] at w c ⊢
  dsimp only at w c
  have d := function9_row ts hl (i2, e2) i 0 c
  obtain ⟨⟨⟨nx, nl⟩, nj, ne⟩, hn⟩ : ∃ r, FT ts (R9 ts) i 33 0 [.nam, .sub 4, .sgn sCol, .sub 1, .sub 2] (i2, e2) ⟨#[]⟩ [] = r := ⟨_, rfl⟩
  rw [hn] at d ⊢
  clear hn h1 h2 h3 h5 hw c hq
  refine row_of Tryz.func25 rfl rfl (Nat.le_of_ble_eq_true rfl) ?_
  repeat' (first | refine aw_seq ?_ | refine aw_skip ?_ | refine aw_block ?_ | refine aw_exit ?_ | refine aw_ct rfl ?_ | refine aw_cf rfl ?_ | ((first | refine aw_reg (fun K hK => ?_) | refine aw_drw mixd (fun K hK => ?_) | refine ar_call (cb p0 0 ?_) | refine ard_call (db p0 0 ?_) | refine ar_call (cb t1 0 ?_) | refine ard_call (db t1 0 ?_) | refine ar_call (cb t2 0 ?_) | refine ard_call (db t2 0 ?_) | refine ar_call (cb t3 0 ?_) | refine ard_call (db t3 0 ?_) | refine ar_call (cb t4 0 ?_) | refine ard_call (db t4 0 ?_) | refine ar_call (cb w 0 ?_) | refine ard_call (db w 0 ?_) | refine ar_call (cb d 0 ?_) | refine ard_call (db d 0 ?_) | fail); simp -implicitDefEqProofs) | refine hK _ ?_ | refine hK _ _ (by rfl) ?_ | fail)
  refine aw_ret (fin_box ?_); simp -implicitDefEqProofs [FinB, resV, resT] <;> try rfl
end
end Go.Proofs.YtlkggpjdaaglmaaGreatDoor.am
end
