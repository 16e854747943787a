import Derived.Test.YthcnligihpnfiaaGreatDoorPkV11
import Derived.Test.YthcnligihpnfiaaGreatDoorPkV12
section
namespace Go.Proofs.YthcnligihpnfiaaGreatDoor.am
open Go.ChangeShapes Go.WideShapes Go.ChangeAt Go.RowKit
open vt
set_option linter.unusedVariables false
set_option linter.unusedSimpArgs false
theorem td_unrd : td Tryz.prog 44 = some ⟨true, 3, 40, [.nilS, .lit (.int .i64 0), .lit (.int .i64 0)], [(0, 3, true)], .struct⟩ := Eq.trans (by kernel_rfl) (Eq.refl _)
attribute [simp] td_unrd
section
variable (ts : List Tok) (hl : ts.length ≤ 3000000000000)
include hl
set_option maxRecDepth 100000 in
set_option maxHeartbeats 4000000 in
theorem part9_row (p : Nat × Int) (h : p.2 = 0 → p.1 ≤ ts.length) : Row Tryz.prog 41 [vR] [rd ts p.1 p.2] (vT (OT (partG ts) p).1) [some (rd ts (OT (partG ts) p).2.1 (OT (partG ts) p).2.2)] := by
  obtain ⟨i, e⟩ := p
  dsimp only at h ⊢
  have e0 : OT (partG ts) (i, e) = FT ts (Ty9 ts) i 34 0 [.nam, .sgn sCol, .sub 1] (i, e) ⟨#[]⟩ [] := rfl
  have p0 := place_row ts i e
  have w1 := kind_tot ts (by omega) (i, e) 1 (by decide)
  have c1 := kt_s (ts := ts) (k := 1) (p := (i, e)) (by decide) h
  obtain ⟨⟨⟨xk, xn, xs, xf, xt⟩, i1, e1⟩, h1⟩ : ∃ p, KT ts 1 (i, e) = p := ⟨_, rfl⟩
  rw [h1] at w1 c1
  dsimp only at w1 c1
  have w2 := want_tot ts (by omega) (i1, e1) sCol (by decide)
  have c2 := wt_c (ts := ts) (s := sCol) (p := (i1, e1)) c1
  obtain ⟨⟨i2, e2⟩, h2⟩ : ∃ p, WT ts sCol (i1, e1) = p := ⟨_, rfl⟩
  rw [h2] at w2 c2
  dsimp only at w2 c2
  have w3 := type_tot ts hl (i2, e2) c2
  have c3 := ot_c (ts := ts) (G := Ty9 ts 1) (p := (i2, e2)) (fun j hj => (ty9_ok 1 j hj).ok) c2
  rw [show tyG ts (ts.length + 1) = Ty9 ts 1 from rfl] at w3
  obtain ⟨⟨⟨tx, tl⟩, i3, e3⟩, h3⟩ : ∃ r, OT (Ty9 ts 1) (i2, e2) = r := ⟨_, rfl⟩
  rw [h3] at w3 c3
  dsimp only at w3 c3
  have n := node_tot ts (by omega) (i3, e3) i ⟨34, 0, xs, 0, 0⟩ [.mk tx tl] (fun hh => by have := c3 hh; dsimp only; omega)
  rw [e0, ft_nam, h1, ft_sgn, h2, ft_sub (fun j hj hn => ((ty9_ok (ts := ts) 1 j hj).ok.no hn).2) (fun hh => (c2 hh).2), h3, ft_end]
  simp only [List.nil_append]
  dsimp only at n ⊢
  obtain ⟨⟨⟨nx, nl⟩, nj, ne⟩, hn⟩ : ∃ r, NT ts i 34 0 xs [.mk tx tl] (i3, e3) = r := ⟨_, rfl⟩
  rw [hn] at n ⊢
  clear e0 hn h1 h2 h3 c1 c2 c3
  refine row_of Tryz.func41 rfl rfl (Nat.le_of_ble_eq_true rfl) ?_
  repeat' (first | refine aw_seq ?_ | refine aw_skip ?_ | refine aw_block ?_ | refine aw_exit ?_ | refine aw_cond rfl (fun _ => ?_) (fun hb => absurd hb (by decide)) | refine aw_cond rfl (fun hb => absurd hb (by decide)) (fun _ => ?_) | (refine aw_reg (fun K hK => ?_); simp -implicitDefEqProofs) | (refine aw_drw mixd (fun K hK => ?_); simp -implicitDefEqProofs) | refine hK _ ?_ | refine hK _ _ (by rfl) ?_ | (refine ar_call (cb p0 0 ?_); simp -implicitDefEqProofs) | (refine ard_call (db p0 0 ?_); simp -implicitDefEqProofs) | (refine ar_call (cb w1 0 ?_); simp -implicitDefEqProofs) | (refine ard_call (db w1 0 ?_); simp -implicitDefEqProofs) | (refine ar_call (cb w2 0 ?_); simp -implicitDefEqProofs) | (refine ard_call (db w2 0 ?_); simp -implicitDefEqProofs) | (refine ar_call (cb w3 0 ?_); simp -implicitDefEqProofs) | (refine ard_call (db w3 0 ?_); simp -implicitDefEqProofs) | (refine ar_call (cb n 0 ?_); simp -implicitDefEqProofs) | (refine ard_call (db n 0 ?_); simp -implicitDefEqProofs) | fail)
  refine aw_ret (fin_box ?_); simp -implicitDefEqProofs [FinB, resV, resT] <;> try rfl
set_option maxRecDepth 100000 in
set_option maxHeartbeats 4000000 in
theorem field9_row (p : Nat × Int) (h : p.2 = 0 → p.1 ≤ ts.length) : Row Tryz.prog 83 [vR] [rd ts p.1 p.2] (vT (OT (partG ts) p).1) [some (rd ts (FlT ts p).1 (FlT ts p).2)] := by
  have w1 := part9_row ts hl p h
  have w2 := want_tot ts (by omega) (OT (partG ts) p).2 sEnd (by decide)
  unfold FlT
  obtain ⟨⟨⟨tx, tl⟩, i1, e1⟩, h1⟩ : ∃ r, OT (partG ts) p = r := ⟨_, rfl⟩
  rw [h1] at w1 w2 ⊢
  dsimp only at w1 w2 ⊢
  obtain ⟨⟨i2, e2⟩, h2⟩ : ∃ p, WT ts sEnd (i1, e1) = p := ⟨_, rfl⟩
  rw [h2] at w2 ⊢
  clear h1 h2
  refine row_of Tryz.func83 rfl rfl (Nat.le_of_ble_eq_true rfl) ?_
  repeat' (first | refine aw_seq ?_ | refine aw_skip ?_ | refine aw_block ?_ | refine aw_exit ?_ | refine aw_cond rfl (fun _ => ?_) (fun hb => absurd hb (by decide)) | refine aw_cond rfl (fun hb => absurd hb (by decide)) (fun _ => ?_) | (refine aw_reg (fun K hK => ?_); simp -implicitDefEqProofs) | (refine aw_drw mixd (fun K hK => ?_); simp -implicitDefEqProofs) | refine hK _ ?_ | refine hK _ _ (by rfl) ?_ | (refine ar_call (cb w1 0 ?_); simp -implicitDefEqProofs) | (refine ard_call (db w1 0 ?_); simp -implicitDefEqProofs) | (refine ar_call (cb w2 0 ?_); simp -implicitDefEqProofs) | (refine ard_call (db w2 0 ?_); simp -implicitDefEqProofs) | fail)
  refine aw_ret (fin_box ?_); simp -implicitDefEqProofs [FinB, resV, resT] <;> try rfl
set_option maxRecDepth 100000 in
set_option maxHeartbeats 4000000 in
theorem comma_yes (p : Nat × Int) (h : TT ts sCom p = true) : Row Tryz.prog 89 [vR] [rd ts p.1 p.2] (vB true) [some (rd ts (p.1 + 1) 0)] := by
  have t := take_yes' ts (by omega) p sCom (by decide) h
  clear h
  refine row_of Tryz.func89 rfl rfl (Nat.le_of_ble_eq_true rfl) ?_
  repeat' (first | refine aw_seq ?_ | refine aw_skip ?_ | refine aw_block ?_ | refine aw_exit ?_ | refine aw_cond rfl (fun _ => ?_) (fun hb => absurd hb (by decide)) | refine aw_cond rfl (fun hb => absurd hb (by decide)) (fun _ => ?_) | (refine aw_reg (fun K hK => ?_); simp -implicitDefEqProofs) | (refine aw_drw mixd (fun K hK => ?_); simp -implicitDefEqProofs) | refine hK _ ?_ | refine hK _ _ (by rfl) ?_ | (refine ar_call (cb t 0 ?_); simp -implicitDefEqProofs) | (refine ard_call (db t 0 ?_); simp -implicitDefEqProofs) | fail)
  refine aw_ret (fin_box ?_); simp -implicitDefEqProofs [FinB, resV, resT] <;> try rfl
omit hl in
set_option maxRecDepth 100000 in
set_option maxHeartbeats 4000000 in
theorem comma_no (p : Nat × Int) (h : TT ts sCom p = false) : Row Tryz.prog 89 [vR] [rd ts p.1 p.2] (vB false) [some (rd ts p.1 p.2)] := by
  have t := take_no' ts p sCom (by decide) h
  clear h
  refine row_of Tryz.func89 rfl rfl (Nat.le_of_ble_eq_true rfl) ?_
  repeat' (first | refine aw_seq ?_ | refine aw_skip ?_ | refine aw_block ?_ | refine aw_exit ?_ | refine aw_cond rfl (fun _ => ?_) (fun hb => absurd hb (by decide)) | refine aw_cond rfl (fun hb => absurd hb (by decide)) (fun _ => ?_) | (refine aw_reg (fun K hK => ?_); simp -implicitDefEqProofs) | (refine aw_drw mixd (fun K hK => ?_); simp -implicitDefEqProofs) | refine hK _ ?_ | refine hK _ _ (by rfl) ?_ | (refine ar_call (cb t 0 ?_); simp -implicitDefEqProofs) | (refine ard_call (db t 0 ?_); simp -implicitDefEqProofs) | fail)
  refine aw_ret (fin_box ?_); simp -implicitDefEqProofs [FinB, resV, resT] <;> try rfl
omit hl in
set_option maxRecDepth 100000 in
set_option maxHeartbeats 4000000 in
theorem open_row (i : Nat) {b : Bool} (h : isK sKet (nxt ts i) = b) : Row Tryz.prog 84 [vR] [rd ts i 0] (vB (!b)) [some (rd ts i 0)] := by
  have t := is_at ts i (s := sKet) (by decide) h
  clear h
  cases b
  · refine row_of Tryz.func84 rfl rfl (Nat.le_of_ble_eq_true rfl) ?_
    repeat' (first | refine aw_seq ?_ | refine aw_skip ?_ | refine aw_block ?_ | refine aw_exit ?_ | refine aw_cond rfl (fun _ => ?_) (fun hb => absurd hb (by decide)) | refine aw_cond rfl (fun hb => absurd hb (by decide)) (fun _ => ?_) | (refine aw_reg (fun K hK => ?_); simp -implicitDefEqProofs) | (refine aw_drw mixd (fun K hK => ?_); simp -implicitDefEqProofs) | refine hK _ ?_ | refine hK _ _ (by rfl) ?_ | (refine ar_call (cb t 0 ?_); simp -implicitDefEqProofs) | (refine ard_call (db t 0 ?_); simp -implicitDefEqProofs) | fail)
    refine aw_ret (fin_box ?_); simp -implicitDefEqProofs [FinB, resV, resT] <;> try rfl
  · refine row_of Tryz.func84 rfl rfl (Nat.le_of_ble_eq_true rfl) ?_
    repeat' (first | refine aw_seq ?_ | refine aw_skip ?_ | refine aw_block ?_ | refine aw_exit ?_ | refine aw_cond rfl (fun _ => ?_) (fun hb => absurd hb (by decide)) | refine aw_cond rfl (fun hb => absurd hb (by decide)) (fun _ => ?_) | (refine aw_reg (fun K hK => ?_); simp -implicitDefEqProofs) | (refine aw_drw mixd (fun K hK => ?_); simp -implicitDefEqProofs) | refine hK _ ?_ | refine hK _ _ (by rfl) ?_ | (refine ar_call (cb t 0 ?_); simp -implicitDefEqProofs) | (refine ard_call (db t 0 ?_); simp -implicitDefEqProofs) | fail)
    refine aw_ret (fin_box ?_); simp -implicitDefEqProofs [FinB, resV, resT] <;> try rfl
set_option maxRecDepth 100000 in
set_option maxHeartbeats 4000000 in
theorem literal9_row (p : Nat × Int) (h : p.2 = 0 → p.1 ≤ ts.length) : Row Tryz.prog 85 [vR] [rd ts p.1 p.2] (vT (OT (litG ts) p).1) [some (rd ts (OT (litG ts) p).2.1 (OT (litG ts) p).2.2)] := by
  obtain ⟨i, e⟩ := p
  dsimp only at h ⊢
  have p0 := place_row ts i e
  by_cases h1 : TT ts wTrue (i, e) = true
  · have t1 := take_yes' ts (by omega) (i, e) wTrue (by decide) h1
    unfold TT at h1
    simp at h1
    obtain ⟨he, h1⟩ := h1
    subst he
    have hlt := isK_lt h1
    have hk2 : ¬ (nxt ts i).k = 2 := (k_sgn h1).2
    have n := node_yes ts (i + 1) i ⟨6, 1, ⟨#[]⟩, 0, 0⟩ [] hlt (by omega) hlt (by omega)
    rw [show OT (litG ts) (i, 0) = mk7 ts i (i + 1) 6 1 ⟨#[]⟩ [] by unfold OT litG; rw [if_pos rfl, if_neg hk2, if_pos h1]]
    clear h1
    refine row_of Tryz.func85 rfl rfl (Nat.le_of_ble_eq_true rfl) ?_
    repeat' (first | refine aw_seq ?_ | refine aw_skip ?_ | refine aw_block ?_ | refine aw_exit ?_ | refine aw_cond rfl (fun _ => ?_) (fun hb => absurd hb (by decide)) | refine aw_cond rfl (fun hb => absurd hb (by decide)) (fun _ => ?_) | (refine aw_reg (fun K hK => ?_); simp -implicitDefEqProofs) | (refine aw_drw mixd (fun K hK => ?_); simp -implicitDefEqProofs) | refine hK _ ?_ | refine hK _ _ (by rfl) ?_ | (refine ar_call (cb p0 0 ?_); simp -implicitDefEqProofs) | (refine ard_call (db p0 0 ?_); simp -implicitDefEqProofs) | (refine ar_call (cb t1 0 ?_); simp -implicitDefEqProofs) | (refine ard_call (db t1 0 ?_); simp -implicitDefEqProofs) | (refine ar_call (cb n 0 ?_); simp -implicitDefEqProofs) | (refine ard_call (db n 0 ?_); simp -implicitDefEqProofs) | fail)
    refine aw_ret (fin_box ?_); simp -implicitDefEqProofs [FinB, resV, resT, mk7] <;> try rfl
  have h1 : TT ts wTrue (i, e) = false := by simpa using h1
  have t1 := take_no' ts (i, e) wTrue (by decide) h1
  by_cases h2 : TT ts wFals (i, e) = true
  · have t2 := take_yes' ts (by omega) (i, e) wFals (by decide) h2
    unfold TT at h1 h2
    simp at h2
    obtain ⟨he, h2⟩ := h2
    subst he
    have hlt := isK_lt h2
    have hk2 : ¬ (nxt ts i).k = 2 := (k_sgn h2).2
    have h1 : ¬ isK wTrue (nxt ts i) = true := by simpa using h1
    have n := node_yes ts (i + 1) i ⟨6, 0, ⟨#[]⟩, 0, 0⟩ [] hlt (by omega) hlt (by omega)
    rw [show OT (litG ts) (i, 0) = mk7 ts i (i + 1) 6 0 ⟨#[]⟩ [] by unfold OT litG; rw [if_pos rfl, if_neg hk2, if_neg h1, if_pos h2]]
    clear h1 h2
    refine row_of Tryz.func85 rfl rfl (Nat.le_of_ble_eq_true rfl) ?_
    repeat' (first | refine aw_seq ?_ | refine aw_skip ?_ | refine aw_block ?_ | refine aw_exit ?_ | refine aw_cond rfl (fun _ => ?_) (fun hb => absurd hb (by decide)) | refine aw_cond rfl (fun hb => absurd hb (by decide)) (fun _ => ?_) | (refine aw_reg (fun K hK => ?_); simp -implicitDefEqProofs) | (refine aw_drw mixd (fun K hK => ?_); simp -implicitDefEqProofs) | refine hK _ ?_ | refine hK _ _ (by rfl) ?_ | (refine ar_call (cb p0 0 ?_); simp -implicitDefEqProofs) | (refine ard_call (db p0 0 ?_); simp -implicitDefEqProofs) | (refine ar_call (cb t1 0 ?_); simp -implicitDefEqProofs) | (refine ard_call (db t1 0 ?_); simp -implicitDefEqProofs) | (refine ar_call (cb t2 0 ?_); simp -implicitDefEqProofs) | (refine ard_call (db t2 0 ?_); simp -implicitDefEqProofs) | (refine ar_call (cb n 0 ?_); simp -implicitDefEqProofs) | (refine ard_call (db n 0 ?_); simp -implicitDefEqProofs) | fail)
    refine aw_ret (fin_box ?_); simp -implicitDefEqProofs [FinB, resV, resT, mk7] <;> try rfl
  have h2 : TT ts wFals (i, e) = false := by simpa using h2
  have t2 := take_no' ts (i, e) wFals (by decide) h2
  have w := kind_tot ts (by omega) (i, e) 2 (by decide)
  have c := kt_s (ts := ts) (k := 2) (p := (i, e)) (by decide) h
  have hq : OT (litG ts) (i, e) = NT ts i 5 (KT ts 2 (i, e)).1.n ⟨#[]⟩ [] (KT ts 2 (i, e)).2 := by
    unfold OT NT KT
    unfold TT at h1 h2
    by_cases he : e = 0
    · subst he
      simp at h1 h2
      by_cases hk : (nxt ts i).k = 2
      · simp [hk, litG]
      · simp [hk, litG, h1, h2, bad7]
    · simp [he]
  rw [hq]
  obtain ⟨⟨⟨xk, xn, xs, xf, xt⟩, i1, e1⟩, hk⟩ : ∃ p, KT ts 2 (i, e) = p := ⟨_, rfl⟩
  rw [hk] at w c ⊢
  dsimp only at w c ⊢
  have n := node_tot ts (by omega) (i1, e1) i ⟨5, xn, ⟨#[]⟩, 0, 0⟩ [] (fun hh => by have := c hh; dsimp only; omega)
  dsimp only at n
  obtain ⟨⟨⟨nx, nl⟩, nj, ne⟩, hn⟩ : ∃ r, NT ts i 5 xn ⟨#[]⟩ [] (i1, e1) = r := ⟨_, rfl⟩
  rw [hn] at n ⊢
  clear hn hk h1 h2 hq c
  refine row_of Tryz.func85 rfl rfl (Nat.le_of_ble_eq_true rfl) ?_
  repeat' (first | refine aw_seq ?_ | refine aw_skip ?_ | refine aw_block ?_ | refine aw_exit ?_ | refine aw_cond rfl (fun _ => ?_) (fun hb => absurd hb (by decide)) | refine aw_cond rfl (fun hb => absurd hb (by decide)) (fun _ => ?_) | (refine aw_reg (fun K hK => ?_); simp -implicitDefEqProofs) | (refine aw_drw mixd (fun K hK => ?_); simp -implicitDefEqProofs) | refine hK _ ?_ | refine hK _ _ (by rfl) ?_ | (refine ar_call (cb p0 0 ?_); simp -implicitDefEqProofs) | (refine ard_call (db p0 0 ?_); simp -implicitDefEqProofs) | (refine ar_call (cb t1 0 ?_); simp -implicitDefEqProofs) | (refine ard_call (db t1 0 ?_); simp -implicitDefEqProofs) | (refine ar_call (cb t2 0 ?_); simp -implicitDefEqProofs) | (refine ard_call (db t2 0 ?_); simp -implicitDefEqProofs) | (refine ar_call (cb w 0 ?_); simp -implicitDefEqProofs) | (refine ard_call (db w 0 ?_); simp -implicitDefEqProofs) | (refine ar_call (cb n 0 ?_); simp -implicitDefEqProofs) | (refine ard_call (db n 0 ?_); simp -implicitDefEqProofs) | fail)
  refine aw_ret (fin_box ?_); simp -implicitDefEqProofs [FinB, resV, resT] <;> try rfl
end
abbrev vFnP : AV := .v (.c (.fn (.func 41) [.ptr 0 0] []))
abbrev vFnC : AV := .v (.c (.fn (.func 89) [.ptr 0 0] []))
abbrev vFnF : AV := .v (.c (.fn (.func 83) [.ptr 0 0] []))
abbrev vFnO : AV := .v (.c (.fn (.func 84) [.ptr 0 0] []))
section
variable (ts : List Tok) (hl : ts.length ≤ 3000000000000)
include hl
set_option maxRecDepth 100000 in
set_option maxHeartbeats 4000000 in
theorem listP_err (i : Nat) (e : Int) (he : e ≠ 0) : Row Tryz.prog 82 [vR, vFnP, vFnC] [rd ts i e] (vLs [z0]) [some (rd ts i e)] := by
  have a := part9_row ts hl (i, e) (fun h => absurd h he)
  rw [show OT (partG ts) (i, e) = (z0, i, e) from if_neg he] at a
  have g := goes_row ts i e
  unfold z0 at a
  refine row_of Tryz.func82 rfl rfl (Nat.le_of_ble_eq_true rfl) ?_
  repeat' (first | refine aw_seq ?_ | refine aw_skip ?_ | refine aw_block ?_ | refine aw_exit ?_ | refine aw_cond rfl (fun _ => ?_) (fun hb => absurd hb (by decide)) | refine aw_cond rfl (fun hb => absurd hb (by decide)) (fun _ => ?_) | (refine aw_reg (fun K hK => ?_); simp -implicitDefEqProofs) | (refine aw_drw mixd (fun K hK => ?_); simp -implicitDefEqProofs) | refine hK _ ?_ | refine hK _ _ (by rfl) ?_ | (refine ar_call (cb a 0 ?_); simp -implicitDefEqProofs) | (refine ard_call (db a 0 ?_); simp -implicitDefEqProofs) | fail)
  refine aw_lp (ι := Unit) (fun _ => mkSt [(0, vR), (7, .v (.c (.row 1 6 [tc z0])))] [some (rd ts i e), some (.row 25 6)]) (fun _ => True) (fun _ => 0) () trivial (cov_intro [0, 11] (by simp -implicitDefEqProofs [z0]) (by simp -implicitDefEqProofs [z0]) (by decide) rfl (by simp)) (fun Z hI _ _ => ?_)
  repeat' (first | refine aw_seq ?_ | refine aw_skip ?_ | refine aw_block ?_ | refine aw_exit ?_ | refine aw_cond rfl (fun _ => ?_) (fun hb => absurd hb (by decide)) | refine aw_cond rfl (fun hb => absurd hb (by decide)) (fun _ => ?_) | (refine aw_reg (fun K hK => ?_); simp -implicitDefEqProofs [he]) | (refine aw_drw mixd (fun K hK => ?_); simp -implicitDefEqProofs [he]) | refine hK _ ?_ | refine hK _ _ (by rfl) ?_ | (refine ar_call (cb g 0 ?_); simp -implicitDefEqProofs [he]) | (refine ard_call (db g 0 ?_); simp -implicitDefEqProofs [he]) | fail)
  refine aw_ret (fin_box ?_); simp -implicitDefEqProofs [FinB, resV, resT] <;> try rfl
set_option maxRecDepth 100000 in
set_option maxHeartbeats 4000000 in
theorem listF_err (i : Nat) (e : Int) (he : e ≠ 0) : Row Tryz.prog 82 [vR, vFnF, vFnO] [rd ts i e] (vLs [z0]) [some (rd ts i e)] := by
  have a := field9_row ts hl (i, e) (fun h => absurd h he)
  rw [show OT (partG ts) (i, e) = (z0, i, e) from if_neg he, show FlT ts (i, e) = (i, e) by unfold FlT WT; rw [show OT (partG ts) (i, e) = (z0, i, e) from if_neg he, if_neg he]] at a
  have g := goes_row ts i e
  unfold z0 at a
  refine row_of Tryz.func82 rfl rfl (Nat.le_of_ble_eq_true rfl) ?_
  repeat' (first | refine aw_seq ?_ | refine aw_skip ?_ | refine aw_block ?_ | refine aw_exit ?_ | refine aw_cond rfl (fun _ => ?_) (fun hb => absurd hb (by decide)) | refine aw_cond rfl (fun hb => absurd hb (by decide)) (fun _ => ?_) | (refine aw_reg (fun K hK => ?_); simp -implicitDefEqProofs) | (refine aw_drw mixd (fun K hK => ?_); simp -implicitDefEqProofs) | refine hK _ ?_ | refine hK _ _ (by rfl) ?_ | (refine ar_call (cb a 0 ?_); simp -implicitDefEqProofs) | (refine ard_call (db a 0 ?_); simp -implicitDefEqProofs) | fail)
  refine aw_lp (ι := Unit) (fun _ => mkSt [(0, vR), (7, .v (.c (.row 1 6 [tc z0])))] [some (rd ts i e), some (.row 25 6)]) (fun _ => True) (fun _ => 0) () trivial (cov_intro [0, 11] (by simp -implicitDefEqProofs [z0]) (by simp -implicitDefEqProofs [z0]) (by decide) rfl (by simp)) (fun Z hI _ _ => ?_)
  repeat' (first | refine aw_seq ?_ | refine aw_skip ?_ | refine aw_block ?_ | refine aw_exit ?_ | refine aw_cond rfl (fun _ => ?_) (fun hb => absurd hb (by decide)) | refine aw_cond rfl (fun hb => absurd hb (by decide)) (fun _ => ?_) | (refine aw_reg (fun K hK => ?_); simp -implicitDefEqProofs [he]) | (refine aw_drw mixd (fun K hK => ?_); simp -implicitDefEqProofs [he]) | refine hK _ ?_ | refine hK _ _ (by rfl) ?_ | (refine ar_call (cb g 0 ?_); simp -implicitDefEqProofs [he]) | (refine ard_call (db g 0 ?_); simp -implicitDefEqProofs [he]) | fail)
  refine aw_ret (fin_box ?_); simp -implicitDefEqProofs [FinB, resV, resT] <;> try rfl
set_option maxRecDepth 100000 in
set_option maxHeartbeats 4000000 in
theorem listF_row (i : Nat) (hi : i ≤ ts.length) : Row Tryz.prog 82 [vR, vFnF, vFnO] [rd ts i 0] (vLs (lsF ts (ts.length + 1) i [])) [some (rd ts (lpF0 ts (ts.length + 1) i []).2.1 (lpF0 ts (ts.length + 1) i []).2.2)] := by
  have a := field9_row ts hl (i, 0) (fun _ => hi)
  rw [show OT (partG ts) (i, 0) = partG ts i from if_pos rfl] at a
  obtain ⟨C, hC⟩ : ∃ C, lpF0 ts (ts.length + 1) i [] = C := ⟨_, rfl⟩
  obtain ⟨L, hL⟩ : ∃ L, lsF ts (ts.length + 1) i [] = L := ⟨_, rfl⟩
  rw [hC, hL]
  have h0 := invFl_next (i := i) hi (by omega) (by simp) hL hC (by simp)
  rw [List.nil_append] at h0
  clear hC hL
  obtain ⟨⟨tx, tl⟩, hT⟩ : ∃ t, (partG ts i).1 = t := ⟨_, rfl⟩
  obtain ⟨⟨q, e⟩, hF⟩ : ∃ p, FlT ts (i, 0) = p := ⟨_, rfl⟩
  rw [hT, hF] at a h0
  dsimp only at a h0
  clear hT hF
  refine row_of Tryz.func82 rfl rfl (Nat.le_of_ble_eq_true rfl) ?_
  repeat' (first | refine aw_seq ?_ | refine aw_skip ?_ | refine aw_block ?_ | refine aw_exit ?_ | refine aw_cond rfl (fun _ => ?_) (fun hb => absurd hb (by decide)) | refine aw_cond rfl (fun hb => absurd hb (by decide)) (fun _ => ?_) | (refine aw_reg (fun K hK => ?_); simp -implicitDefEqProofs) | (refine aw_drw mixd (fun K hK => ?_); simp -implicitDefEqProofs) | refine hK _ ?_ | refine hK _ _ (by rfl) ?_ | (refine ar_call (cb a 0 ?_); simp -implicitDefEqProofs) | (refine ard_call (db a 0 ?_); simp -implicitDefEqProofs) | fail)
  refine aw_lp (ι := Nat × Nat × Int × List VT) (fun x => mkSt [(0, vR), (1, vFnF), (2, vFnO), (7, .v (.c (.row 1 6 (x.2.2.2.map tc))))] [some (rd ts x.2.1 x.2.2.1), some (.row 25 6)]) (InvFl ts i C L) (fun x => x.1) (ts.length, q, e, [.mk tx tl]) h0 (cov_intro [0, 11] (by simp -implicitDefEqProofs) (by simp -implicitDefEqProofs) (by decide) rfl (by simp)) (fun Z hI x hx => ?_)
  clear h0 a
  obtain ⟨m, q, e, acc⟩ := x
  obtain ⟨x1, x2, x3, x4, x5⟩ := hx
  dsimp only at x1 x2 x3 x4 x5 ⊢
  have g := goes_row ts q e
  by_cases he : e = 0; rotate_left
  · obtain ⟨rfl, y2⟩ := x1 he
    rw [show C.2.1 = q by rw [y2], show C.2.2 = e by rw [y2]]
    clear x1 x2 x3 x5 y2
    repeat' (first | refine aw_seq ?_ | refine aw_skip ?_ | refine aw_block ?_ | refine aw_exit ?_ | refine aw_cond rfl (fun _ => ?_) (fun hb => absurd hb (by decide)) | refine aw_cond rfl (fun hb => absurd hb (by decide)) (fun _ => ?_) | (refine aw_reg (fun K hK => ?_); simp -implicitDefEqProofs [he]) | (refine aw_drw mixd (fun K hK => ?_); simp -implicitDefEqProofs [he]) | refine hK _ ?_ | refine hK _ _ (by rfl) ?_ | (refine ar_call (cb g 0 ?_); simp -implicitDefEqProofs [he]) | (refine ard_call (db g 0 ?_); simp -implicitDefEqProofs [he]) | fail)
    refine aw_ret (fin_box ?_); simp -implicitDefEqProofs [FinB, resV, resT] <;> try rfl
  subst he
  by_cases hk : isK sKet (nxt ts q) = true
  · obtain ⟨rfl, y2⟩ := x2 rfl hk
    rw [show C.2.1 = q by rw [y2], show C.2.2 = 0 by rw [y2]]
    have o := open_row ts q hk
    clear x1 x2 x3 x5 y2 hk
    repeat' (first | refine aw_seq ?_ | refine aw_skip ?_ | refine aw_block ?_ | refine aw_exit ?_ | refine aw_cond rfl (fun _ => ?_) (fun hb => absurd hb (by decide)) | refine aw_cond rfl (fun hb => absurd hb (by decide)) (fun _ => ?_) | (refine aw_reg (fun K hK => ?_); simp -implicitDefEqProofs) | (refine aw_drw mixd (fun K hK => ?_); simp -implicitDefEqProofs) | refine hK _ ?_ | refine hK _ _ (by rfl) ?_ | (refine ar_call (cb g 0 ?_); simp -implicitDefEqProofs) | (refine ard_call (db g 0 ?_); simp -implicitDefEqProofs) | (refine ar_call (cb o 0 ?_); simp -implicitDefEqProofs) | (refine ard_call (db o 0 ?_); simp -implicitDefEqProofs) | fail)
    refine aw_ret (fin_box ?_); simp -implicitDefEqProofs [FinB, resV, resT] <;> try rfl
  have hk : isK sKet (nxt ts q) = false := by simpa using hk
  obtain ⟨y1, y2, y3, y4⟩ := x3 rfl hk
  have o := open_row ts q hk
  obtain ⟨m, rfl⟩ : ∃ k, m = k + 1 := ⟨m - 1, by
    rcases Nat.eq_zero_or_pos m with h | h
    · omega
    · omega⟩
  have a := field9_row ts hl (q, 0) (fun _ => y3)
  rw [show OT (partG ts) (q, 0) = partG ts q from if_pos rfl] at a
  have nx : InvFl ts i C L (m, (FlT ts (q, 0)).1, (FlT ts (q, 0)).2, acc ++ [(partG ts q).1]) := invFl_next y3 y4 (fun hh => by rw [hk] at hh; exact absurd hh.2 (by simp)) y1 y2 (x5 rfl)
  obtain ⟨⟨tx, tl⟩, hT⟩ : ∃ t, (partG ts q).1 = t := ⟨_, rfl⟩
  obtain ⟨⟨q2, e2⟩, hF⟩ : ∃ p, FlT ts (q, 0) = p := ⟨_, rfl⟩
  rw [hT, hF] at a nx
  dsimp only at a nx
  have b1 : (acc.length + 1) * 72 ≤ 140737488355328 := by omega
  have b2 : acc.length + 1 ≤ 140737488355328 := by omega
  clear hT hF x1 x2 x3 x5 y1 y2 hk
  repeat' (first | refine aw_seq ?_ | refine aw_skip ?_ | refine aw_block ?_ | refine aw_exit ?_ | refine aw_cond rfl (fun _ => ?_) (fun hb => absurd hb (by decide)) | refine aw_cond rfl (fun hb => absurd hb (by decide)) (fun _ => ?_) | (refine aw_reg (fun K hK => ?_); simp -implicitDefEqProofs [b1, b2]) | (refine aw_drw mixd (fun K hK => ?_); simp -implicitDefEqProofs [b1, b2]) | refine hK _ ?_ | refine hK _ _ (by rfl) ?_ | (refine ar_call (cb g 0 ?_); simp -implicitDefEqProofs [b1, b2]) | (refine ard_call (db g 0 ?_); simp -implicitDefEqProofs [b1, b2]) | (refine ar_call (cb o 0 ?_); simp -implicitDefEqProofs [b1, b2]) | (refine ard_call (db o 0 ?_); simp -implicitDefEqProofs [b1, b2]) | (refine ar_call (cb a 0 ?_); simp -implicitDefEqProofs [b1, b2]) | (refine ard_call (db a 0 ?_); simp -implicitDefEqProofs [b1, b2]) | fail)
  refine ⟨(_, _, _, _), nx, (by dsimp only; omega), ?_⟩; rw [hI]; exact cov_intro [0, 35] (by simp -implicitDefEqProofs) (by simp -implicitDefEqProofs) (by decide) rfl (by simp)
structure InvPl (i : Nat) (C : List VT × Nat × Int) (L : List VT) (x : Nat × Nat × List VT) : Prop where
  eq : (lpC ts (partG ts) (x.1 + 1) x.2.1 x.2.2).2 = C.2
  ls : lsG ts (fun j => (partG ts j).1) (partG ts) (x.1 + 1) x.2.1 x.2.2 = L
  le : i ≤ x.2.1 ∧ x.2.1 ≤ ts.length
  fuel : ts.length < x.1 + 1 + x.2.1
  few : 2 * x.2.2.length + i ≤ x.2.1
set_option maxRecDepth 100000 in
set_option maxHeartbeats 4000000 in
theorem listP_row (i : Nat) (hi : i ≤ ts.length) : Row Tryz.prog 82 [vR, vFnP, vFnC] [rd ts i 0] (vLs (lsG ts (fun j => (partG ts j).1) (partG ts) (ts.length + 1) i [])) [some (rd ts (lpC ts (partG ts) (ts.length + 1) i []).2.1 (lpC ts (partG ts) (ts.length + 1) i []).2.2)] := by
  have a := part9_row ts hl (i, 0) (fun _ => hi)
  rw [show OT (partG ts) (i, 0) = partG ts i from if_pos rfl] at a
  obtain ⟨C, hC⟩ : ∃ C, lpC ts (partG ts) (ts.length + 1) i [] = C := ⟨_, rfl⟩
  obtain ⟨L, hL⟩ : ∃ L, lsG ts (fun j => (partG ts j).1) (partG ts) (ts.length + 1) i [] = L := ⟨_, rfl⟩
  rw [hC, hL]
  have h0 : InvPl ts i C L (ts.length, i, []) := ⟨by rw [← hC], hL, ⟨Nat.le_refl _, hi⟩, by dsimp only; omega, by simp⟩
  clear hC hL
  obtain ⟨⟨⟨tx, tl⟩, r2, r3⟩, hr⟩ : ∃ r, partG ts i = r := ⟨_, rfl⟩
  rw [hr] at a
  refine row_of Tryz.func82 rfl rfl (Nat.le_of_ble_eq_true rfl) ?_
  repeat' (first | refine aw_seq ?_ | refine aw_skip ?_ | refine aw_block ?_ | refine aw_exit ?_ | refine aw_cond rfl (fun _ => ?_) (fun hb => absurd hb (by decide)) | refine aw_cond rfl (fun hb => absurd hb (by decide)) (fun _ => ?_) | (refine aw_reg (fun K hK => ?_); simp -implicitDefEqProofs) | (refine aw_drw mixd (fun K hK => ?_); simp -implicitDefEqProofs) | refine hK _ ?_ | refine hK _ _ (by rfl) ?_ | (refine ar_call (cb a 0 ?_); simp -implicitDefEqProofs) | (refine ard_call (db a 0 ?_); simp -implicitDefEqProofs) | fail)
  refine aw_lp (ι := Nat × Nat × List VT) (fun x => mkSt [(0, vR), (1, vFnP), (2, vFnC), (7, .v (.c (.row 1 6 ((x.2.2 ++ [(partG ts x.2.1).1]).map tc))))] [some (rd ts (partG ts x.2.1).2.1 (partG ts x.2.1).2.2), some (.row 25 6)]) (InvPl ts i C L) (fun x => x.1) (ts.length, i, []) h0 (cov_intro [0, 11] (by simp -implicitDefEqProofs [hr]) (by simp -implicitDefEqProofs [hr]) (by decide) rfl (by simp)) (fun Z hI x hx => ?_)
  clear h0 a hr
  obtain ⟨m, p, acc⟩ := x
  obtain ⟨x1, x2, x3, x4, x5⟩ := hx
  dsimp only at x1 x2 x3 x4 x5 ⊢
  have hk := part_ok (ts := ts) p x3.2
  rw [lpC] at x1
  rw [lsG] at x2
  obtain ⟨⟨⟨rx, rl⟩, r2, r3⟩, hr⟩ : ∃ r, partG ts p = r := ⟨_, rfl⟩
  rw [hr] at hk x1 x2 ⊢
  dsimp only at x1 x2 ⊢
  obtain ⟨acc', ha'⟩ : ∃ l, acc ++ [Tr.mk rx rl] = l := ⟨_, rfl⟩
  have hal : acc'.length = acc.length + 1 := by rw [← ha']; simp
  rw [ha'] at x1 x2 ⊢
  have g := goes_row ts r2 r3
  by_cases hr3 : r3 = 0; rotate_left
  · rw [if_pos hr3] at x1
    rw [if_neg (by simp [hr3])] at x2
    rw [← x2, ← x1]
    clear x1 hk hr x2 ha' x5
    repeat' (first | refine aw_seq ?_ | refine aw_skip ?_ | refine aw_block ?_ | refine aw_exit ?_ | refine aw_cond rfl (fun _ => ?_) (fun hb => absurd hb (by decide)) | refine aw_cond rfl (fun hb => absurd hb (by decide)) (fun _ => ?_) | (refine aw_reg (fun K hK => ?_); simp -implicitDefEqProofs [hr3]) | (refine aw_drw mixd (fun K hK => ?_); simp -implicitDefEqProofs [hr3]) | refine hK _ ?_ | refine hK _ _ (by rfl) ?_ | (refine ar_call (cb g 0 ?_); simp -implicitDefEqProofs [hr3]) | (refine ard_call (db g 0 ?_); simp -implicitDefEqProofs [hr3]) | fail)
    refine aw_ret (fin_box ?_); simp -implicitDefEqProofs [FinB, resV, resT] <;> try rfl
  subst hr3
  rw [if_neg (by simp)] at x1
  have hyy := hk.yes rfl
  dsimp only at hyy
  by_cases e3 : isK sCom (nxt ts r2) = true; rotate_left
  · have e3 : isK sCom (nxt ts r2) = false := by simpa using e3
    rw [if_pos e3] at x1
    rw [if_neg (by simp [e3])] at x2
    rw [← x2, ← x1]
    have t1 := comma_no ts (r2, 0) (by unfold TT; simp [e3])
    clear x1 hk hr x2 ha' e3 x5
    repeat' (first | refine aw_seq ?_ | refine aw_skip ?_ | refine aw_block ?_ | refine aw_exit ?_ | refine aw_cond rfl (fun _ => ?_) (fun hb => absurd hb (by decide)) | refine aw_cond rfl (fun hb => absurd hb (by decide)) (fun _ => ?_) | (refine aw_reg (fun K hK => ?_); simp -implicitDefEqProofs) | (refine aw_drw mixd (fun K hK => ?_); simp -implicitDefEqProofs) | refine hK _ ?_ | refine hK _ _ (by rfl) ?_ | (refine ar_call (cb g 0 ?_); simp -implicitDefEqProofs) | (refine ard_call (db g 0 ?_); simp -implicitDefEqProofs) | (refine ar_call (cb t1 0 ?_); simp -implicitDefEqProofs) | (refine ard_call (db t1 0 ?_); simp -implicitDefEqProofs) | fail)
    refine aw_ret (fin_box ?_); simp -implicitDefEqProofs [FinB, resV, resT] <;> try rfl
  have hlt2 := isK_lt e3
  rw [if_neg (by simp [e3])] at x1
  rw [if_pos ⟨rfl, e3⟩] at x2
  obtain ⟨m, rfl⟩ : ∃ m', m = m' + 1 := ⟨m - 1, by omega⟩
  have t1 := comma_yes ts hl (r2, 0) (by unfold TT; simp [e3])
  have hq := part9_row ts hl (r2 + 1, 0) (fun _ => by dsimp only; omega)
  rw [show OT (partG ts) (r2 + 1, 0) = partG ts (r2 + 1) from if_pos rfl] at hq
  have b1 : (acc.length + 1 + 1) * 72 ≤ 140737488355328 := by omega
  have b2 : acc.length + 1 + 1 ≤ 140737488355328 := by omega
  have nx : InvPl ts i C L (m, r2 + 1, acc') := ⟨x1, x2, by dsimp only; omega, by dsimp only; omega, by dsimp only; omega⟩
  obtain ⟨⟨⟨sx, sl⟩, s2, s3⟩, hs⟩ : ∃ r, partG ts (r2 + 1) = r := ⟨_, rfl⟩
  rw [hs] at hq
  clear x1 hk hr x2 ha' e3 x5
  repeat' (first | refine aw_seq ?_ | refine aw_skip ?_ | refine aw_block ?_ | refine aw_exit ?_ | refine aw_cond rfl (fun _ => ?_) (fun hb => absurd hb (by decide)) | refine aw_cond rfl (fun hb => absurd hb (by decide)) (fun _ => ?_) | (refine aw_reg (fun K hK => ?_); simp -implicitDefEqProofs [b1, b2, hal]) | (refine aw_drw mixd (fun K hK => ?_); simp -implicitDefEqProofs [b1, b2, hal]) | refine hK _ ?_ | refine hK _ _ (by rfl) ?_ | (refine ar_call (cb g 0 ?_); simp -implicitDefEqProofs [b1, b2, hal]) | (refine ard_call (db g 0 ?_); simp -implicitDefEqProofs [b1, b2, hal]) | (refine ar_call (cb t1 0 ?_); simp -implicitDefEqProofs [b1, b2, hal]) | (refine ard_call (db t1 0 ?_); simp -implicitDefEqProofs [b1, b2, hal]) | (refine ar_call (cb hq 0 ?_); simp -implicitDefEqProofs [b1, b2, hal]) | (refine ard_call (db hq 0 ?_); simp -implicitDefEqProofs [b1, b2, hal]) | fail)
  refine ⟨(_, _, _), nx, (by dsimp only; omega), ?_⟩; rw [hI]; exact cov_intro [0, 35] (by simp -implicitDefEqProofs [hs]) (by simp -implicitDefEqProofs [hs]) (by decide) rfl (by simp)
end
end Go.Proofs.YthcnligihpnfiaaGreatDoor.am
end
