import Derived.Test.YtlkggpjdaaglmaaDoorPkE10
import Derived.Test.YtlkggpjdaaglmaaDoorPkE4
import Derived.IntWalk
import Derived.Test.YtlkggpjdaaglmaaDoorPkE8
import Derived.Test.YtlkggpjdaaglmaaDoorPkE9
section
namespace Go.Proofs.YtlkggpjdaaglmaaDoor.am
open Go.ChangeShapes Go.WideShapes Go.ChangeAt Go.RowKit
open vt
set_option linter.unusedVariables false
set_option linter.unusedSimpArgs false
theorem join_row (W : List ByteArray) (hW : W ≠ []) (hl : W.length ≤ 1000000) (hs : (J W).size ≤ 1000000000) : Row Tryd.prog 53 [vWs W, vS sp] [] (vS (J W)) [] := by
  refine ⟨⟨_, Tryd.func53, rfl, rfl⟩, spec_of_below (ch := []) fun γ S w vs hm hv => ?_⟩
  match vs, hv with
  | [v0, v1], ⟨k0, k1, _⟩ =>
    obtain ⟨rfl, _⟩ := lit_inv k1
    obtain ⟨a, c, rfl, hsl⟩ := sl_inv k0
    rcases hsl.at' with h0 | ⟨b, off, rfl, hes, hc⟩
    · exact absurd (List.map_eq_nil_iff.1 h0) hW
    have hcell : ∀ (j : Nat) x, W[j]? = some x → b < w.heap.size ∧ w.cell? ⟨b, off + j, none⟩ = some (.string x) := fun j x hx => by
      obtain ⟨h1, u, h2, h3⟩ := hc j [Sx x] 0 (Sx x) (by rw [List.getElem?_map, hx]; rfl) rfl
      rw [Nat.mul_one, Nat.add_zero] at h1 h2
      have h4 := (lit_inv (γ := γ) h3).1
      subst h4
      exact ⟨hm.inb _ _ h1, h2⟩
    have hpos := List.length_pos_iff.2 hW
    have hb := (hcell 0 _ (List.getElem?_eq_getElem hpos)).1
    have hcap := hsl.cap
    rw [List.length_map] at hcap ⊢
    have hjs : (Lib.join (W.map (·.data.toList)) [32]).length = (J W).size := (lx.mk_size _).symm
    refine (Tryd.strings_Join b off c W sp w (fun j x hx => (hcell j x hx).2) hb (by omega) hcap (by show (Lib.join (W.map (·.data.toList)) [32]).length ≤ _; omega)).mono ?_
    rintro e w' ⟨rfl, hbl⟩
    exact ⟨_, rfl, hbl, .lit _ rfl⟩
set_option maxRecDepth 100000 in
set_option maxHeartbeats 4000000 in
theorem textg_row (LL : List (Nat × Array Value)) (g : Nat) (t : VT) (W : List ByteArray) (hW : W ≠ []) (hL : W.length ≤ 1000000) (hs : (J W).size ≤ 1000000000) (p : PRow LL g [vT t] [] W) : Row Tryd.prog 31 [vT t, .v (.c (.fn (.func g) [] []))] [.lib LL] (vS (J W)) [some (.lib LL)] := by
  have j := join_row W hW hL hs
  refine row_of Tryd.func31 rfl rfl (Nat.le_of_ble_eq_true rfl) ?_
  repeat (first | refine aw_seq ?_ | refine aw_skip ?_ | refine aw_block ?_ | refine aw_exit ?_ | refine aw_cond rfl (fun _ => ?_) (fun hb => absurd hb (by decide)) | refine aw_cond rfl (fun hb => absurd hb (by decide)) (fun _ => ?_) | (refine aw_reg (fun K hK => ?_); simp -implicitDefEqProofs; refine hK _ ?_) | (refine aw_drw mixd (fun K hK => ?_); simp -implicitDefEqProofs; refine hK _ _ (by rfl) ?_) | fail)
  refine aw_nilc 4 0 [.pv .nilS] 9 1 rfl rfl (by simp) ?_
  simp [St.nilc]
  repeat' (first | refine aw_seq ?_ | refine aw_skip ?_ | refine aw_block ?_ | refine aw_exit ?_ | refine aw_cond rfl (fun _ => ?_) (fun hb => absurd hb (by decide)) | refine aw_cond rfl (fun hb => absurd hb (by decide)) (fun _ => ?_) | (refine aw_reg (fun K hK => ?_); simp -implicitDefEqProofs) | (refine aw_drw mixd (fun K hK => ?_); simp -implicitDefEqProofs) | refine hK _ ?_ | refine hK _ _ (by rfl) ?_ | (refine ar_call (cgw p 4 0 rfl ?_); simp -implicitDefEqProofs) | (refine ard_call (dgw p 4 0 rfl ?_); simp -implicitDefEqProofs) | (refine ar_call (cp j ?_); simp -implicitDefEqProofs) | (refine ard_call (dp j ?_); simp -implicitDefEqProofs) | fail)
  refine aw_ret (fin_box ?_); simp -implicitDefEqProofs [FinB, resV, resT] <;> try rfl
end Go.Proofs.YtlkggpjdaaglmaaDoor.am
end
section
namespace Go.Proofs.YtlkggpjdaaglmaaDoor.am
open Go.ChangeShapes Go.WideShapes Go.ChangeAt Go.RowKit
open vt
set_option linter.unusedVariables false
set_option linter.unusedSimpArgs false
theorem wt_ne' {t : VT} {W : List ByteArray} (h : WT t W) : W ≠ [] := by cases h <;> simp
set_option maxRecDepth 100000 in
set_option maxHeartbeats 4000000 in
theorem ptype_row (LL : List (Nat × Array Value)) (hLL : LibN LL) {t : VT} {W : List ByteArray} (hW : WT t W) (hL : W.length ≤ 1000000) (hs : (J W).size ≤ 1000000000) : Row Tryd.prog 27 [vT t] [.lib LL] (vS (J W)) [some (.lib LL)] := by
  have e := textg_row LL 41 t W (wt_ne' hW) hL hs (ptyp_row LL hLL hW [] (by simp; omega))
  refine row_of Tryd.func27 rfl rfl (Nat.le_of_ble_eq_true rfl) ?_
  repeat' (first | refine aw_seq ?_ | refine aw_skip ?_ | refine aw_block ?_ | refine aw_exit ?_ | refine aw_cond rfl (fun _ => ?_) (fun hb => absurd hb (by decide)) | refine aw_cond rfl (fun hb => absurd hb (by decide)) (fun _ => ?_) | (refine aw_reg (fun K hK => ?_); simp -implicitDefEqProofs) | (refine aw_drw mixd (fun K hK => ?_); simp -implicitDefEqProofs) | refine hK _ ?_ | refine hK _ _ (by rfl) ?_ | (refine ar_call (cb e 0 ?_); simp -implicitDefEqProofs) | (refine ard_call (db e 0 ?_); simp -implicitDefEqProofs) | fail)
  refine aw_ret (fin_box ?_); simp -implicitDefEqProofs [FinB, resV, resT] <;> try rfl
set_option maxRecDepth 100000 in
set_option maxHeartbeats 4000000 in
theorem awake10_row (LL : List (Nat × Array Value)) (hLL : LibN LL) : Row Tryd.prog 11 [] [.lib LL] (vB true) [some (.lib LL)] := by
  have e := ptype_row LL hLL (.int ⟨1, 0, ⟨#[]⟩, 0, 0⟩ rfl) (by decide) (by rw [J_one]; decide)
  rw [J_one] at e
  refine row_of Tryd.func11 rfl rfl (Nat.le_of_ble_eq_true rfl) ?_
  repeat' (first | refine aw_seq ?_ | refine aw_skip ?_ | refine aw_block ?_ | refine aw_exit ?_ | refine aw_cond rfl (fun _ => ?_) (fun hb => absurd hb (by decide)) | refine aw_cond rfl (fun hb => absurd hb (by decide)) (fun _ => ?_) | (refine aw_reg (fun K hK => ?_); simp -implicitDefEqProofs) | (refine aw_drw mixd (fun K hK => ?_); simp -implicitDefEqProofs) | refine hK _ ?_ | refine hK _ _ (by rfl) ?_ | (refine ar_call (cb e 0 ?_); simp -implicitDefEqProofs) | (refine ard_call (db e 0 ?_); simp -implicitDefEqProofs) | fail)
  refine aw_ret (fin_box ?_); simp -implicitDefEqProofs [FinB, resV, resT] <;> try rfl
end Go.Proofs.YtlkggpjdaaglmaaDoor.am
end
section
namespace Go.Proofs.YtlkggpjdaaglmaaDoor.am
open Go.ChangeShapes Go.WideShapes Go.ChangeAt Go.RowKit
open vt
set_option linter.unusedVariables false
set_option linter.unusedSimpArgs false
set_option maxRecDepth 100000 in
set_option maxHeartbeats 4000000 in
theorem rsame_row (t : VT) : t.size ≤ 1000000 → ∀ u : VT, u.size ≤ 1000000 → Row Tryd.prog 16 [vT t, vT u] [] (vB (same t u)) [] := by
  induction t using Tr.ind with
  | h x l ih =>
  intro hsz u hsu
  obtain ⟨y, m⟩ := u
  have hlen := Tr.len_size (x := x) (l := l)
  rw [show same (.mk x l) (.mk y m) = _ from eqv_mk vt.pS x y l m]
  refine row_of Tryd.func16 rfl rfl (Nat.le_of_ble_eq_true rfl) ?_
  by_cases hk : x.k = y.k; rotate_left
  · repeat (first | refine aw_seq ?_ | refine aw_skip ?_ | refine aw_block ?_ | refine aw_exit ?_ | refine aw_cond rfl (fun _ => ?_) (fun hb => absurd hb (by decide)) | refine aw_cond rfl (fun hb => absurd hb (by decide)) (fun _ => ?_) | (refine aw_reg (fun K hK => ?_); simp -implicitDefEqProofs [hk]; refine hK _ ?_) | (refine aw_drw mixd (fun K hK => ?_); simp -implicitDefEqProofs [hk]; refine hK _ _ (by rfl) ?_) | fail)
    refine aw_ret (fin_ret ?_); simp -implicitDefEqProofs [FinP, resV, resT, hk, vt.pS] <;> try rfl
  by_cases hn : x.n = y.n; rotate_left
  · repeat (first | refine aw_seq ?_ | refine aw_skip ?_ | refine aw_block ?_ | refine aw_exit ?_ | refine aw_cond rfl (fun _ => ?_) (fun hb => absurd hb (by decide)) | refine aw_cond rfl (fun hb => absurd hb (by decide)) (fun _ => ?_) | (refine aw_reg (fun K hK => ?_); simp -implicitDefEqProofs [hk, hn]; refine hK _ ?_) | (refine aw_drw mixd (fun K hK => ?_); simp -implicitDefEqProofs [hk, hn]; refine hK _ _ (by rfl) ?_) | fail)
    refine aw_ret (fin_ret ?_); simp -implicitDefEqProofs [FinP, resV, resT, hk, hn, vt.pS] <;> try rfl
  by_cases hs : x.s = y.s; rotate_left
  · repeat (first | refine aw_seq ?_ | refine aw_skip ?_ | refine aw_block ?_ | refine aw_exit ?_ | refine aw_cond rfl (fun _ => ?_) (fun hb => absurd hb (by decide)) | refine aw_cond rfl (fun hb => absurd hb (by decide)) (fun _ => ?_) | (refine aw_reg (fun K hK => ?_); simp -implicitDefEqProofs [hk, hn, hs]; refine hK _ ?_) | (refine aw_drw mixd (fun K hK => ?_); simp -implicitDefEqProofs [hk, hn, hs]; refine hK _ _ (by rfl) ?_) | fail)
    refine aw_ret (fin_ret ?_); simp -implicitDefEqProofs [FinP, resV, resT, hk, hn, hs, vt.pS] <;> try rfl
  by_cases hm : l.length = m.length; rotate_left
  · have hm' : ¬ (l.length : Int) = (m.length : Int) := by omega
    repeat (first | refine aw_seq ?_ | refine aw_skip ?_ | refine aw_block ?_ | refine aw_exit ?_ | refine aw_cond rfl (fun _ => ?_) (fun hb => absurd hb (by decide)) | refine aw_cond rfl (fun hb => absurd hb (by decide)) (fun _ => ?_) | (refine aw_reg (fun K hK => ?_); simp -implicitDefEqProofs [hk, hn, hs, hm, hm']; refine hK _ ?_) | (refine aw_drw mixd (fun K hK => ?_); simp -implicitDefEqProofs [hk, hn, hs, hm, hm']; refine hK _ _ (by rfl) ?_) | fail)
    refine aw_ret (fin_ret ?_); simp -implicitDefEqProofs [FinP, resV, resT, hk, hn, hs, hm, vt.pS] <;> try rfl
  repeat (first | refine aw_seq ?_ | refine aw_skip ?_ | refine aw_block ?_ | refine aw_exit ?_ | refine aw_cond rfl (fun _ => ?_) (fun hb => absurd hb (by decide)) | refine aw_cond rfl (fun hb => absurd hb (by decide)) (fun _ => ?_) | (refine aw_reg (fun K hK => ?_); simp -implicitDefEqProofs [hk, hn, hs, hm]; refine hK _ ?_) | (refine aw_drw mixd (fun K hK => ?_); simp -implicitDefEqProofs [hk, hn, hs, hm]; refine hK _ _ (by rfl) ?_) | fail)
  refine aw_lp (ι := Nat) (fun k => mkSt [(2, .v (.c (.ptr 0 0))), (3, .v (.c (.ptr 1 0))), (5, vI (k : Nat))] [some (.box (ta (.mk x l))), some (.box (ta (.mk y m)))]) (fun k => k ≤ l.length ∧ zipA (eqv vt.pS) l m k = true) (fun k => l.length - k) 0 ⟨Nat.zero_le _, zipA_zero _ _ _⟩ (cov_intro [0, 1] (by simp -implicitDefEqProofs [hk, hn, hs, hm]) (by simp -implicitDefEqProofs [hk, hn, hs, hm]) (by decide) rfl (by simp)) (fun Z hI k hkz => ?_)
  obtain ⟨hkl', hz⟩ := hkz
  by_cases hkl : k < l.length; rotate_left
  · have : k = l.length := by omega
    subst this
    rw [show (vt.pS x y && decide (l.length = m.length) && zipA (eqv vt.pS) l m l.length) = true by rw [hz]; simp [vt.pS, hk, hn, hs, hm]]
    repeat (first | refine aw_seq ?_ | refine aw_skip ?_ | refine aw_block ?_ | refine aw_exit ?_ | refine aw_cond rfl (fun _ => ?_) (fun hb => absurd hb (by decide)) | refine aw_cond rfl (fun hb => absurd hb (by decide)) (fun _ => ?_) | (refine aw_reg (fun K hK => ?_); simp -implicitDefEqProofs; refine hK _ ?_) | (refine aw_drw mixd (fun K hK => ?_); simp -implicitDefEqProofs; refine hK _ _ (by rfl) ?_) | fail)
    refine aw_ret (fin_ret ?_); simp -implicitDefEqProofs [FinP, resV, resT] <;> try rfl
  have hkm : k < m.length := by omega
  obtain ⟨⟨ax, al⟩, ha⟩ : ∃ a, l[k]? = some a := ⟨_, List.getElem?_eq_getElem hkl⟩
  obtain ⟨⟨bx, bl⟩, hb⟩ : ∃ a, m[k]? = some a := ⟨_, List.getElem?_eq_getElem hkm⟩
  have ha' := (List.getElem?_eq_some_iff.1 ha).2
  have hb' := (List.getElem?_eq_some_iff.1 hb).2
  have hsz1 := Tr.size_at (x := x) ha
  have hsz2 := Tr.size_at (x := y) hb
  have w2 : IntKind.i64.wrap ((k : Nat) + 1 : Int) = (k : Nat) + 1 := i64i _ (by omega) (by omega)
  have hzs := zipA_succ (f := eqv vt.pS) ha hb
  repeat (first | refine aw_seq ?_ | refine aw_skip ?_ | refine aw_block ?_ | refine aw_exit ?_ | refine aw_cond rfl (fun _ => ?_) (fun hb => absurd hb (by decide)) | refine aw_cond rfl (fun hb => absurd hb (by decide)) (fun _ => ?_) | (refine aw_reg (fun K hK => ?_); simp -implicitDefEqProofs [hkl]; refine hK _ ?_) | (refine aw_drw mixd (fun K hK => ?_); simp -implicitDefEqProofs [hkl]; refine hK _ _ (by rfl) ?_) | fail)
  refine aw_drw mixd (fun K hK => ?_); simp -implicitDefEqProofs [hkl, hkm, ha, ha', hb, hb']
  refine ard_call (calld_pure (ih _ (List.mem_of_getElem? ha) (by omega) (.mk bx bl) (by omega)) (by simp) (fun _ => rfl) rfl ?_)
  simp -implicitDefEqProofs
  refine hK _ _ (by rfl) ?_
  refine aw_cond rfl (fun hb => ?_) (fun hb => ?_)
  · have hf : same (.mk ax al) (.mk bx bl) = false := by simpa using hb
    repeat (first | refine aw_seq ?_ | refine aw_skip ?_ | refine aw_block ?_ | refine aw_exit ?_ | refine aw_cond rfl (fun _ => ?_) (fun hb => absurd hb (by decide)) | refine aw_cond rfl (fun hb => absurd hb (by decide)) (fun _ => ?_) | (refine aw_reg (fun K hK => ?_); simp -implicitDefEqProofs; refine hK _ ?_) | (refine aw_drw mixd (fun K hK => ?_); simp -implicitDefEqProofs; refine hK _ _ (by rfl) ?_) | fail)
    have e : zipA (eqv vt.pS) l m l.length = false := by
      have := zipA_mono (l.length - (k + 1)) (show zipA (eqv vt.pS) l m (k + 1) = false by rw [hzs, hz]; simpa using hf)
      rwa [show k + 1 + (l.length - (k + 1)) = l.length by omega] at this
    refine aw_ret (fin_ret ?_); simp -implicitDefEqProofs [FinP, resV, resT, e] <;> try rfl
  · have hf : same (.mk ax al) (.mk bx bl) = true := by simpa using hb
    repeat (first | refine aw_seq ?_ | refine aw_skip ?_ | refine aw_block ?_ | refine aw_exit ?_ | refine aw_cond rfl (fun _ => ?_) (fun hb => absurd hb (by decide)) | refine aw_cond rfl (fun hb => absurd hb (by decide)) (fun _ => ?_) | (refine aw_reg (fun K hK => ?_); simp -implicitDefEqProofs [w2]; refine hK _ ?_) | (refine aw_drw mixd (fun K hK => ?_); simp -implicitDefEqProofs [w2]; refine hK _ _ (by rfl) ?_) | fail)
    refine ⟨k + 1, ⟨by omega, by rw [hzs, hz]; simpa using hf⟩, (by dsimp only; omega), ?_⟩
    rw [hI]; exact cov_intro [0, 1] (by simp -implicitDefEqProofs) (by simp -implicitDefEqProofs) (by decide) rfl (by simp)
end Go.Proofs.YtlkggpjdaaglmaaDoor.am
end
section
namespace Go.Proofs.YtlkggpjdaaglmaaDoor.am
open Go.ChangeShapes Go.WideShapes Go.ChangeAt Go.RowKit
open vt
set_option linter.unusedVariables false
set_option linter.unusedSimpArgs false
noncomputable abbrev vC3 (r : List VT × Nat × Int) : AV := .tup [.c (.pv (.sl 6 (r.1.map tc))), .c (.pv (I (r.2.1 : Nat))), .c (.pv (I r.2.2))]
noncomputable abbrev gb (r : Got) : AO := .box ((tc r.1 ++ [I (r.2.1 : Nat), I r.2.2]).map .pv)
abbrev zG : AO := .box [.pv (I 0), .pv (I 0), .pv (Sx ⟨#[]⟩), .pv .nilS, .pv (I 0), .pv (I 0), .pv (I 0), .pv (I 0)]
section
variable (ts : List Tok) (hl : ts.length ≤ 1000000000)
include hl
set_option maxRecDepth 100000 in
set_option maxHeartbeats 4000000 in
theorem rmk_row (a b : Nat) (k n : Int) (s : ByteArray) (l : List VT) (ha : a < b) (hb : b ≤ ts.length) : Row Tryd.prog 52 [vKs ts, vI a, vI b, vI k, vI n, vS s, vLs l] [] (vG (mk7 ts a b k n s l)) [] := make7_row ts a b k n s l (by omega) (by omega) hb (by omega)
set_option maxRecDepth 100000 in
set_option maxHeartbeats 4000000 in
theorem un_step (i : Nat) (hi : i ≤ ts.length) (h7 : Row Tryd.prog 74 [vKs ts, vI i] [] (vG (Qx ts 7 i)) []) (h6 : i < ts.length → Row Tryd.prog 50 [vKs ts, vI (i + 1 : Nat)] [] (vG (Qx ts 6 (i + 1))) []) : Row Tryd.prog 50 [vKs ts, vI i] [] (vG (Qx ts 6 i)) [] := by
  rw [Q_eq 6 i (by decide) (by decide) hi]
  have q1 := sign_row ts i sMin
  rw [sign_is (by decide)] at q1
  have q2 := sign_row ts i sNot
  rw [sign_is (by decide)] at q2
  have w1 : IntKind.i64.wrap ((i : Nat) + 1 : Int) = (i : Nat) + 1 := i64i _ (by omega) (by omega)
  have main : ∀ (u : Int), u ≠ 0 → unN ts i = u → i < ts.length → (bG ts (Qx ts) 6 i = if (Qx ts 6 (i + 1)).2.2 ≠ 0 then Qx ts 6 (i + 1) else mk7 ts i (Qx ts 6 (i + 1)).2.1 11 u ⟨#[]⟩ [(Qx ts 6 (i + 1)).1]) := fun u hu h hlt => by
    unfold bG; rw [if_neg (by decide), if_pos rfl, h, if_neg hu]
  have hk := Q_ok (ts := ts) 6 (i + 1)
  by_cases e2 : isK sNot (nxt ts i) = true
  · have hlt := isK_lt e2
    rw [main 2 (by decide) (by unfold unN; rw [if_pos e2]) hlt]
    rw [e2] at q2
    have h6 := h6 hlt
    have hk := hk (by omega)
    obtain ⟨b1, hb1⟩ : ∃ b, isK sMin (nxt ts i) = b := ⟨_, rfl⟩
    rw [hb1] at q1
    obtain ⟨⟨⟨px, pl⟩, j, e⟩, hr⟩ : ∃ r, Qx ts 6 (i + 1) = r := ⟨_, rfl⟩
    rw [hr] at h6 hk ⊢
    clear main e2 hb1 hr h7
    by_cases he : e = 0
    · subst he
      have hy := hk.yes rfl
      dsimp only at hy
      rw [if_neg (by simp)]
      have m := rmk_row ts hl i j 11 2 ⟨#[]⟩ [.mk px pl] (by omega) hy.2
      cases b1
      · refine row_of Tryd.func50 rfl rfl (Nat.le_of_ble_eq_true rfl) ?_
        repeat' (first | refine aw_seq ?_ | refine aw_skip ?_ | refine aw_block ?_ | refine aw_exit ?_ | refine aw_cond rfl (fun _ => ?_) (fun hb => absurd hb (by decide)) | refine aw_cond rfl (fun hb => absurd hb (by decide)) (fun _ => ?_) | (refine aw_reg (fun K hK => ?_); simp -implicitDefEqProofs [w1]) | (refine aw_drw mixd (fun K hK => ?_); simp -implicitDefEqProofs [w1]) | refine hK _ ?_ | refine hK _ _ (by rfl) ?_ | (refine ar_call (cp q1 ?_); simp -implicitDefEqProofs [w1]) | (refine ard_call (dp q1 ?_); simp -implicitDefEqProofs [w1]) | (refine ar_call (cp q2 ?_); simp -implicitDefEqProofs [w1]) | (refine ard_call (dp q2 ?_); simp -implicitDefEqProofs [w1]) | (refine ar_call (cp h6 ?_); simp -implicitDefEqProofs [w1]) | (refine ard_call (dp h6 ?_); simp -implicitDefEqProofs [w1]) | (refine ar_call (cp m ?_); simp -implicitDefEqProofs [w1]) | (refine ard_call (dp m ?_); simp -implicitDefEqProofs [w1]) | fail)
        refine aw_ret (fin_ret ?_); simp -implicitDefEqProofs [FinP, resV, resT, mk7] <;> try rfl
      · refine row_of Tryd.func50 rfl rfl (Nat.le_of_ble_eq_true rfl) ?_
        repeat' (first | refine aw_seq ?_ | refine aw_skip ?_ | refine aw_block ?_ | refine aw_exit ?_ | refine aw_cond rfl (fun _ => ?_) (fun hb => absurd hb (by decide)) | refine aw_cond rfl (fun hb => absurd hb (by decide)) (fun _ => ?_) | (refine aw_reg (fun K hK => ?_); simp -implicitDefEqProofs [w1]) | (refine aw_drw mixd (fun K hK => ?_); simp -implicitDefEqProofs [w1]) | refine hK _ ?_ | refine hK _ _ (by rfl) ?_ | (refine ar_call (cp q1 ?_); simp -implicitDefEqProofs [w1]) | (refine ard_call (dp q1 ?_); simp -implicitDefEqProofs [w1]) | (refine ar_call (cp q2 ?_); simp -implicitDefEqProofs [w1]) | (refine ard_call (dp q2 ?_); simp -implicitDefEqProofs [w1]) | (refine ar_call (cp h6 ?_); simp -implicitDefEqProofs [w1]) | (refine ard_call (dp h6 ?_); simp -implicitDefEqProofs [w1]) | (refine ar_call (cp m ?_); simp -implicitDefEqProofs [w1]) | (refine ard_call (dp m ?_); simp -implicitDefEqProofs [w1]) | fail)
        refine aw_ret (fin_ret ?_); simp -implicitDefEqProofs [FinP, resV, resT, mk7] <;> try rfl
    · rw [if_pos he]
      cases b1
      · refine row_of Tryd.func50 rfl rfl (Nat.le_of_ble_eq_true rfl) ?_
        repeat' (first | refine aw_seq ?_ | refine aw_skip ?_ | refine aw_block ?_ | refine aw_exit ?_ | refine aw_cond rfl (fun _ => ?_) (fun hb => absurd hb (by decide)) | refine aw_cond rfl (fun hb => absurd hb (by decide)) (fun _ => ?_) | (refine aw_reg (fun K hK => ?_); simp -implicitDefEqProofs [w1, he]) | (refine aw_drw mixd (fun K hK => ?_); simp -implicitDefEqProofs [w1, he]) | refine hK _ ?_ | refine hK _ _ (by rfl) ?_ | (refine ar_call (cp q1 ?_); simp -implicitDefEqProofs [w1, he]) | (refine ard_call (dp q1 ?_); simp -implicitDefEqProofs [w1, he]) | (refine ar_call (cp q2 ?_); simp -implicitDefEqProofs [w1, he]) | (refine ard_call (dp q2 ?_); simp -implicitDefEqProofs [w1, he]) | (refine ar_call (cp h6 ?_); simp -implicitDefEqProofs [w1, he]) | (refine ard_call (dp h6 ?_); simp -implicitDefEqProofs [w1, he]) | fail)
        refine aw_ret (fin_ret ?_); simp -implicitDefEqProofs [FinP, resV, resT] <;> try rfl
      · refine row_of Tryd.func50 rfl rfl (Nat.le_of_ble_eq_true rfl) ?_
        repeat' (first | refine aw_seq ?_ | refine aw_skip ?_ | refine aw_block ?_ | refine aw_exit ?_ | refine aw_cond rfl (fun _ => ?_) (fun hb => absurd hb (by decide)) | refine aw_cond rfl (fun hb => absurd hb (by decide)) (fun _ => ?_) | (refine aw_reg (fun K hK => ?_); simp -implicitDefEqProofs [w1, he]) | (refine aw_drw mixd (fun K hK => ?_); simp -implicitDefEqProofs [w1, he]) | refine hK _ ?_ | refine hK _ _ (by rfl) ?_ | (refine ar_call (cp q1 ?_); simp -implicitDefEqProofs [w1, he]) | (refine ard_call (dp q1 ?_); simp -implicitDefEqProofs [w1, he]) | (refine ar_call (cp q2 ?_); simp -implicitDefEqProofs [w1, he]) | (refine ard_call (dp q2 ?_); simp -implicitDefEqProofs [w1, he]) | (refine ar_call (cp h6 ?_); simp -implicitDefEqProofs [w1, he]) | (refine ard_call (dp h6 ?_); simp -implicitDefEqProofs [w1, he]) | fail)
        refine aw_ret (fin_ret ?_); simp -implicitDefEqProofs [FinP, resV, resT] <;> try rfl
  have e2 : isK sNot (nxt ts i) = false := by simpa using e2
  rw [e2] at q2
  by_cases e1 : isK sMin (nxt ts i) = true
  · have hlt := isK_lt e1
    rw [main 1 (by decide) (by unfold unN; rw [if_neg (by simp [e2]), if_pos e1]) hlt]
    rw [e1] at q1
    have h6 := h6 hlt
    have hk := hk (by omega)
    obtain ⟨⟨⟨px, pl⟩, j, e⟩, hr⟩ : ∃ r, Qx ts 6 (i + 1) = r := ⟨_, rfl⟩
    rw [hr] at h6 hk ⊢
    clear main e1 e2 hr h7
    by_cases he : e = 0
    · subst he
      have hy := hk.yes rfl
      dsimp only at hy
      rw [if_neg (by simp)]
      have m := rmk_row ts hl i j 11 1 ⟨#[]⟩ [.mk px pl] (by omega) hy.2
      refine row_of Tryd.func50 rfl rfl (Nat.le_of_ble_eq_true rfl) ?_
      repeat' (first | refine aw_seq ?_ | refine aw_skip ?_ | refine aw_block ?_ | refine aw_exit ?_ | refine aw_cond rfl (fun _ => ?_) (fun hb => absurd hb (by decide)) | refine aw_cond rfl (fun hb => absurd hb (by decide)) (fun _ => ?_) | (refine aw_reg (fun K hK => ?_); simp -implicitDefEqProofs [w1]) | (refine aw_drw mixd (fun K hK => ?_); simp -implicitDefEqProofs [w1]) | refine hK _ ?_ | refine hK _ _ (by rfl) ?_ | (refine ar_call (cp q1 ?_); simp -implicitDefEqProofs [w1]) | (refine ard_call (dp q1 ?_); simp -implicitDefEqProofs [w1]) | (refine ar_call (cp q2 ?_); simp -implicitDefEqProofs [w1]) | (refine ard_call (dp q2 ?_); simp -implicitDefEqProofs [w1]) | (refine ar_call (cp h6 ?_); simp -implicitDefEqProofs [w1]) | (refine ard_call (dp h6 ?_); simp -implicitDefEqProofs [w1]) | (refine ar_call (cp m ?_); simp -implicitDefEqProofs [w1]) | (refine ard_call (dp m ?_); simp -implicitDefEqProofs [w1]) | fail)
      refine aw_ret (fin_ret ?_); simp -implicitDefEqProofs [FinP, resV, resT, mk7] <;> try rfl
    · rw [if_pos he]
      refine row_of Tryd.func50 rfl rfl (Nat.le_of_ble_eq_true rfl) ?_
      repeat' (first | refine aw_seq ?_ | refine aw_skip ?_ | refine aw_block ?_ | refine aw_exit ?_ | refine aw_cond rfl (fun _ => ?_) (fun hb => absurd hb (by decide)) | refine aw_cond rfl (fun hb => absurd hb (by decide)) (fun _ => ?_) | (refine aw_reg (fun K hK => ?_); simp -implicitDefEqProofs [w1, he]) | (refine aw_drw mixd (fun K hK => ?_); simp -implicitDefEqProofs [w1, he]) | refine hK _ ?_ | refine hK _ _ (by rfl) ?_ | (refine ar_call (cp q1 ?_); simp -implicitDefEqProofs [w1, he]) | (refine ard_call (dp q1 ?_); simp -implicitDefEqProofs [w1, he]) | (refine ar_call (cp q2 ?_); simp -implicitDefEqProofs [w1, he]) | (refine ard_call (dp q2 ?_); simp -implicitDefEqProofs [w1, he]) | (refine ar_call (cp h6 ?_); simp -implicitDefEqProofs [w1, he]) | (refine ard_call (dp h6 ?_); simp -implicitDefEqProofs [w1, he]) | fail)
      refine aw_ret (fin_ret ?_); simp -implicitDefEqProofs [FinP, resV, resT] <;> try rfl
  have e1 : isK sMin (nxt ts i) = false := by simpa using e1
  rw [e1] at q1
  rw [show bG ts (Qx ts) 6 i = Qx ts 7 i by unfold bG; rw [if_neg (by decide), if_pos rfl, if_pos (by unfold unN; simp [e1, e2])]]
  obtain ⟨⟨⟨px, pl⟩, j, e⟩, hr⟩ : ∃ r, Qx ts 7 i = r := ⟨_, rfl⟩
  rw [hr] at h7 ⊢
  clear main e1 e2 hr hk h6
  refine row_of Tryd.func50 rfl rfl (Nat.le_of_ble_eq_true rfl) ?_
  repeat' (first | refine aw_seq ?_ | refine aw_skip ?_ | refine aw_block ?_ | refine aw_exit ?_ | refine aw_cond rfl (fun _ => ?_) (fun hb => absurd hb (by decide)) | refine aw_cond rfl (fun hb => absurd hb (by decide)) (fun _ => ?_) | (refine aw_reg (fun K hK => ?_); simp -implicitDefEqProofs) | (refine aw_drw mixd (fun K hK => ?_); simp -implicitDefEqProofs) | refine hK _ ?_ | refine hK _ _ (by rfl) ?_ | (refine ar_call (cp q1 ?_); simp -implicitDefEqProofs) | (refine ard_call (dp q1 ?_); simp -implicitDefEqProofs) | (refine ar_call (cp q2 ?_); simp -implicitDefEqProofs) | (refine ard_call (dp q2 ?_); simp -implicitDefEqProofs) | (refine ar_call (cp h7 ?_); simp -implicitDefEqProofs) | (refine ard_call (dp h7 ?_); simp -implicitDefEqProofs) | fail)
  refine aw_ret (fin_ret ?_); simp -implicitDefEqProofs [FinP, resV, resT] <;> try rfl
omit hl in
set_option maxRecDepth 100000 in
set_option maxHeartbeats 4000000 in
theorem lev6_row (i : Nat) (h6 : Row Tryd.prog 50 [vKs ts, vI i] [] (vG (Qx ts 6 i)) []) : Row Tryd.prog 30 [vKs ts, vI i, vI (6 : Nat)] [] (vG (Qx ts 6 i)) [] := by
  obtain ⟨⟨⟨px, pl⟩, j, e⟩, hr⟩ : ∃ r, Qx ts 6 i = r := ⟨_, rfl⟩
  rw [hr] at h6 ⊢
  refine row_of Tryd.func30 rfl rfl (Nat.le_of_ble_eq_true rfl) ?_
  repeat' (first | refine aw_seq ?_ | refine aw_skip ?_ | refine aw_block ?_ | refine aw_exit ?_ | refine aw_cond rfl (fun _ => ?_) (fun hb => absurd hb (by decide)) | refine aw_cond rfl (fun hb => absurd hb (by decide)) (fun _ => ?_) | (refine aw_reg (fun K hK => ?_); simp -implicitDefEqProofs) | (refine aw_drw mixd (fun K hK => ?_); simp -implicitDefEqProofs) | refine hK _ ?_ | refine hK _ _ (by rfl) ?_ | (refine ar_call (cp h6 ?_); simp -implicitDefEqProofs) | (refine ard_call (dp h6 ?_); simp -implicitDefEqProofs) | fail)
  refine aw_ret (fin_ret ?_); simp -implicitDefEqProofs [FinP, resV, resT] <;> try rfl
omit hl in
set_option maxRecDepth 100000 in
set_option maxHeartbeats 4000000 in
theorem expr_of (i : Nat) (h1 : Row Tryd.prog 30 [vKs ts, vI i, vI (1 : Nat)] [] (vG (Qx ts 1 i)) []) : Row Tryd.prog 13 [vKs ts, vI i] [] (vG (Qx ts 1 i)) [] := by
  obtain ⟨⟨⟨px, pl⟩, j, e⟩, hr⟩ : ∃ r, Qx ts 1 i = r := ⟨_, rfl⟩
  rw [hr] at h1 ⊢
  refine row_of Tryd.func13 rfl rfl (Nat.le_of_ble_eq_true rfl) ?_
  repeat' (first | refine aw_seq ?_ | refine aw_skip ?_ | refine aw_block ?_ | refine aw_exit ?_ | refine aw_cond rfl (fun _ => ?_) (fun hb => absurd hb (by decide)) | refine aw_cond rfl (fun hb => absurd hb (by decide)) (fun _ => ?_) | (refine aw_reg (fun K hK => ?_); simp -implicitDefEqProofs) | (refine aw_drw mixd (fun K hK => ?_); simp -implicitDefEqProofs) | refine hK _ ?_ | refine hK _ _ (by rfl) ?_ | (refine ar_call (cp h1 ?_); simp -implicitDefEqProofs) | (refine ard_call (dp h1 ?_); simp -implicitDefEqProofs) | fail)
  refine aw_ret (fin_ret ?_); simp -implicitDefEqProofs [FinP, resV, resT] <;> try rfl
structure InvL (l i : Nat) (x : Nat × Nat × Got) : Prop where
  eq : lpL ts (Qx ts (l + 1)) l i x.1 (decide (0 < x.2.1)) x.2.2 = Qx ts l i
  ok : OkG ts i x.2.2
  fuel : x.2.2.2.2 = 0 → ts.length < x.1 + x.2.2.2.1
  few : x.1 + x.2.1 ≤ ts.length + 1
  three : l = 3 → x.2.1 ≤ 1
set_option maxRecDepth 100000 in
set_option maxHeartbeats 4000000 in
theorem lev_step (l : Nat) (h1 : 1 ≤ l) (h5 : l ≤ 5) (i : Nat) (hi : i ≤ ts.length) (hP : ∀ j, i ≤ j → j ≤ ts.length → Row Tryd.prog 30 [vKs ts, vI j, vI (l + 1 : Nat)] [] (vG (Qx ts (l + 1) j)) []) : Row Tryd.prog 30 [vKs ts, vI i, vI (l : Nat)] [] (vG (Qx ts l i)) [] := by
  have q := hP i (Nat.le_refl i) hi
  have wl : IntKind.i64.wrap ((l : Nat) + 1 : Int) = (l : Nat) + 1 := i64i _ (by omega) (by omega)
  have nl : ¬ (l : Int) = 6 := by omega
  have h0 : InvL ts l i (ts.length + 1, 0, Qx ts (l + 1) i) := by
    have ho := Q_ok (ts := ts) (l + 1) i hi
    refine ⟨?_, ho, fun h => by dsimp only; omega, Nat.le_refl _, fun _ => Nat.zero_le _⟩
    rw [Q_eq l i h1 (by omega) hi]; unfold bG; rw [if_pos h5]; rfl
  refine row_of Tryd.func30 rfl rfl (Nat.le_of_ble_eq_true rfl) ?_
  obtain ⟨⟨⟨ax, al⟩, a2, a3⟩, hr⟩ : ∃ r, Qx ts (l + 1) i = r := ⟨_, rfl⟩
  rw [hr] at q h0
  repeat' (first | refine aw_seq ?_ | refine aw_skip ?_ | refine aw_block ?_ | refine aw_exit ?_ | refine aw_cond rfl (fun _ => ?_) (fun hb => absurd hb (by decide)) | refine aw_cond rfl (fun hb => absurd hb (by decide)) (fun _ => ?_) | (refine aw_reg (fun K hK => ?_); simp -implicitDefEqProofs [wl, nl]) | (refine aw_drw mixd (fun K hK => ?_); simp -implicitDefEqProofs [wl, nl]) | refine hK _ ?_ | refine hK _ _ (by rfl) ?_ | (refine ar_call (cp q ?_); simp -implicitDefEqProofs [wl, nl]) | (refine ard_call (dp q ?_); simp -implicitDefEqProofs [wl, nl]) | fail)
  refine aw_lp (ι := Nat × Nat × Got) (fun x => mkSt [(0, vKs ts), (1, vI i), (2, vI (l : Nat)), (6, .v (.c (.ptr 0 0))), (7, .v (.c (.ptr 1 0))), (8, vI (x.2.1 : Nat))] [some zG, some (gb x.2.2)]) (InvL ts l i) (fun x => x.1) (ts.length + 1, 0, (.mk ax al, a2, a3)) h0 (cov_intro [0, 15] (by simp -implicitDefEqProofs) (by simp -implicitDefEqProofs) (by decide) rfl (by simp)) (fun Z hI x hx => ?_)
  clear h0 hr q
  obtain ⟨m, t, ⟨⟨px, pl⟩, j, e⟩⟩ := x
  obtain ⟨x1, x2, x3, x4, x5⟩ := hx
  dsimp only at x1 x2 x3 x4 x5 ⊢
  by_cases he : e = 0; rotate_left
  · have hd : Qx ts l i = (.mk px pl, j, e) := by
      rw [← x1]
      cases m
      · rfl
      · rw [lpL, if_pos he]
    rw [hd]
    repeat (first | refine aw_seq ?_ | refine aw_skip ?_ | refine aw_block ?_ | refine aw_exit ?_ | refine aw_cond rfl (fun _ => ?_) (fun hb => absurd hb (by decide)) | refine aw_cond rfl (fun hb => absurd hb (by decide)) (fun _ => ?_) | (refine aw_reg (fun K hK => ?_); simp -implicitDefEqProofs [he]; refine hK _ ?_) | (refine aw_drw mixd (fun K hK => ?_); simp -implicitDefEqProofs [he]; refine hK _ _ (by rfl) ?_) | fail)
    refine aw_ret (fin_ret ?_); simp -implicitDefEqProofs [FinP, resV, resT] <;> try rfl
  subst he
  have x3 := x3 rfl
  have hy := x2.yes rfl
  dsimp only at hy
  obtain ⟨m, rfl⟩ : ∃ m', m = m' + 1 := ⟨m - 1, by omega⟩
  have o := op_row ts j l h1 h5
  by_cases ho : (opK (nxt ts j)).2 = l; rotate_left
  · have hd : Qx ts l i = (.mk px pl, j, 0) := by rw [← x1, lpL, if_neg (by simp), if_pos (.inl ho)]
    rw [hd]
    rw [if_neg ho] at o
    repeat' (first | refine aw_seq ?_ | refine aw_skip ?_ | refine aw_block ?_ | refine aw_exit ?_ | refine aw_cond rfl (fun _ => ?_) (fun hb => absurd hb (by decide)) | refine aw_cond rfl (fun hb => absurd hb (by decide)) (fun _ => ?_) | (refine aw_reg (fun K hK => ?_); simp -implicitDefEqProofs) | (refine aw_drw mixd (fun K hK => ?_); simp -implicitDefEqProofs) | refine hK _ ?_ | refine hK _ _ (by rfl) ?_ | (refine ar_call (cp o ?_); simp -implicitDefEqProofs) | (refine ard_call (dp o ?_); simp -implicitDefEqProofs) | fail)
    refine aw_ret (fin_ret ?_); simp -implicitDefEqProofs [FinP, resV, resT] <;> try rfl
  rw [if_pos ho] at o
  have on := opK_pos _ l h5 ho
  have hlt := op_lt ho h5
  by_cases h3 : l = 3 ∧ 0 < t
  · have hd : Qx ts l i = (.mk px pl, j, 0) := by rw [← x1, lpL, if_neg (by simp), if_pos (.inr ⟨h3.1, by simp [h3.2]⟩)]
    rw [hd]
    have ht := x5 h3.1
    obtain ⟨rfl, h3⟩ := h3
    obtain rfl : t = 1 := by omega
    repeat' (first | refine aw_seq ?_ | refine aw_skip ?_ | refine aw_block ?_ | refine aw_exit ?_ | refine aw_cond rfl (fun _ => ?_) (fun hb => absurd hb (by decide)) | refine aw_cond rfl (fun hb => absurd hb (by decide)) (fun _ => ?_) | (refine aw_reg (fun K hK => ?_); simp -implicitDefEqProofs [on]) | (refine aw_drw mixd (fun K hK => ?_); simp -implicitDefEqProofs [on]) | refine hK _ ?_ | refine hK _ _ (by rfl) ?_ | (refine ar_call (cp o ?_); simp -implicitDefEqProofs [on]) | (refine ard_call (dp o ?_); simp -implicitDefEqProofs [on]) | fail)
    refine aw_ret (fin_ret ?_); simp -implicitDefEqProofs [FinP, resV, resT] <;> try rfl
  have hq := hP (j + 1) (by omega) (by omega)
  have w1 : IntKind.i64.wrap ((j : Nat) + 1 : Int) = (j : Nat) + 1 := i64i _ (by omega) (by omega)
  have w2 : IntKind.i64.wrap ((t : Nat) + 1 : Int) = (t : Nat) + 1 := i64i _ (by omega) (by omega)
  rw [lpL, if_neg (by simp), if_neg (by rw [not_or]; exact ⟨by simpa using ho, by simpa using h3⟩)] at x1
  have hk := Q_ok (ts := ts) (l + 1) (j + 1) (by omega)
  dsimp only at x1
  obtain ⟨⟨⟨rx, rl⟩, r2, r3⟩, hr⟩ : ∃ r, Qx ts (l + 1) (j + 1) = r := ⟨_, rfl⟩
  rw [hr] at hq hk x1
  have n3 : ¬ (l : Int) = 3 ∨ t = 0 := by omega
  by_cases hr3 : r3 = 0; rotate_left
  · rw [if_pos hr3] at x1
    rw [← x1]
    clear x1 hr hP x2 hk ho
    by_cases n3' : l = 3
    · subst n3'
      obtain rfl : t = 0 := by omega
      have wl : IntKind.i64.wrap (4 : Int) = 4 := by decide
      repeat' (first | refine aw_seq ?_ | refine aw_skip ?_ | refine aw_block ?_ | refine aw_exit ?_ | refine aw_cond rfl (fun _ => ?_) (fun hb => absurd hb (by decide)) | refine aw_cond rfl (fun hb => absurd hb (by decide)) (fun _ => ?_) | (refine aw_reg (fun K hK => ?_); simp -implicitDefEqProofs [on, w1, wl, hr3]) | (refine aw_drw mixd (fun K hK => ?_); simp -implicitDefEqProofs [on, w1, wl, hr3]) | refine hK _ ?_ | refine hK _ _ (by rfl) ?_ | (refine ar_call (cp o ?_); simp -implicitDefEqProofs [on, w1, wl, hr3]) | (refine ard_call (dp o ?_); simp -implicitDefEqProofs [on, w1, wl, hr3]) | (refine ar_call (cp hq ?_); simp -implicitDefEqProofs [on, w1, wl, hr3]) | (refine ard_call (dp hq ?_); simp -implicitDefEqProofs [on, w1, wl, hr3]) | fail)
      refine aw_ret (fin_ret ?_); simp -implicitDefEqProofs [FinP, resV, resT] <;> try rfl
    · have n3 : ¬ (l : Int) = 3 := by omega
      repeat' (first | refine aw_seq ?_ | refine aw_skip ?_ | refine aw_block ?_ | refine aw_exit ?_ | refine aw_cond rfl (fun _ => ?_) (fun hb => absurd hb (by decide)) | refine aw_cond rfl (fun hb => absurd hb (by decide)) (fun _ => ?_) | (refine aw_reg (fun K hK => ?_); simp -implicitDefEqProofs [on, n3, w1, wl, hr3]) | (refine aw_drw mixd (fun K hK => ?_); simp -implicitDefEqProofs [on, n3, w1, wl, hr3]) | refine hK _ ?_ | refine hK _ _ (by rfl) ?_ | (refine ar_call (cp o ?_); simp -implicitDefEqProofs [on, n3, w1, wl, hr3]) | (refine ard_call (dp o ?_); simp -implicitDefEqProofs [on, n3, w1, wl, hr3]) | (refine ar_call (cp hq ?_); simp -implicitDefEqProofs [on, n3, w1, wl, hr3]) | (refine ard_call (dp hq ?_); simp -implicitDefEqProofs [on, n3, w1, wl, hr3]) | fail)
      refine aw_ret (fin_ret ?_); simp -implicitDefEqProofs [FinP, resV, resT] <;> try rfl
  subst hr3
  rw [if_neg (by simp)] at x1
  have hyy := hk.yes rfl
  dsimp only at hyy x1
  have m7 := rmk_row ts hl i r2 10 (opK (nxt ts j)).1 ⟨#[]⟩ [.mk px pl, .mk rx rl] (by omega) hyy.2
  have nx : InvL ts l i (m, t + 1, mk7 ts i r2 10 (opK (nxt ts j)).1 ⟨#[]⟩ [.mk px pl, .mk rx rl]) := ⟨by rw [show decide (0 < t + 1) = true by simp]; exact x1, ok_mk (by omega) hyy.2, fun _ => by show ts.length < m + r2; omega, by show m + (t + 1) ≤ _; omega, fun h => by show t + 1 ≤ 1; omega⟩
  clear x1 hr hP x2 hk ho
  by_cases n3' : l = 3
  · subst n3'
    obtain rfl : t = 0 := by omega
    have wl : IntKind.i64.wrap (4 : Int) = 4 := by decide
    have w2 : IntKind.i64.wrap (1 : Int) = 1 := by decide
    repeat' (first | refine aw_seq ?_ | refine aw_skip ?_ | refine aw_block ?_ | refine aw_exit ?_ | refine aw_cond rfl (fun _ => ?_) (fun hb => absurd hb (by decide)) | refine aw_cond rfl (fun hb => absurd hb (by decide)) (fun _ => ?_) | (refine aw_reg (fun K hK => ?_); simp -implicitDefEqProofs [on, w1, w2, wl]) | (refine aw_drw mixd (fun K hK => ?_); simp -implicitDefEqProofs [on, w1, w2, wl]) | refine hK _ ?_ | refine hK _ _ (by rfl) ?_ | (refine ar_call (cp o ?_); simp -implicitDefEqProofs [on, w1, w2, wl]) | (refine ard_call (dp o ?_); simp -implicitDefEqProofs [on, w1, w2, wl]) | (refine ar_call (cp hq ?_); simp -implicitDefEqProofs [on, w1, w2, wl]) | (refine ard_call (dp hq ?_); simp -implicitDefEqProofs [on, w1, w2, wl]) | (refine ar_call (cp m7 ?_); simp -implicitDefEqProofs [on, w1, w2, wl]) | (refine ard_call (dp m7 ?_); simp -implicitDefEqProofs [on, w1, w2, wl]) | fail)
    refine ⟨(_, _, _), nx, (by dsimp only; omega), ?_⟩; rw [hI]; exact cov_intro [0, 1] (by simp -implicitDefEqProofs [mk7, z0, w2]) (by simp -implicitDefEqProofs [mk7, z0, w2]) (by decide) rfl (by simp)
  · have n3 : ¬ (l : Int) = 3 := by omega
    repeat' (first | refine aw_seq ?_ | refine aw_skip ?_ | refine aw_block ?_ | refine aw_exit ?_ | refine aw_cond rfl (fun _ => ?_) (fun hb => absurd hb (by decide)) | refine aw_cond rfl (fun hb => absurd hb (by decide)) (fun _ => ?_) | (refine aw_reg (fun K hK => ?_); simp -implicitDefEqProofs [on, n3, w1, w2, wl]) | (refine aw_drw mixd (fun K hK => ?_); simp -implicitDefEqProofs [on, n3, w1, w2, wl]) | refine hK _ ?_ | refine hK _ _ (by rfl) ?_ | (refine ar_call (cp o ?_); simp -implicitDefEqProofs [on, n3, w1, w2, wl]) | (refine ard_call (dp o ?_); simp -implicitDefEqProofs [on, n3, w1, w2, wl]) | (refine ar_call (cp hq ?_); simp -implicitDefEqProofs [on, n3, w1, w2, wl]) | (refine ard_call (dp hq ?_); simp -implicitDefEqProofs [on, n3, w1, w2, wl]) | (refine ar_call (cp m7 ?_); simp -implicitDefEqProofs [on, n3, w1, w2, wl]) | (refine ard_call (dp m7 ?_); simp -implicitDefEqProofs [on, n3, w1, w2, wl]) | fail)
    refine ⟨(_, _, _), nx, (by dsimp only; omega), ?_⟩; rw [hI]; exact cov_intro [0, 1] (by simp -implicitDefEqProofs [mk7, z0, w2]) (by simp -implicitDefEqProofs [mk7, z0, w2]) (by decide) rfl (by simp)
end
end Go.Proofs.YtlkggpjdaaglmaaDoor.am
end
section
namespace Go.Proofs.YtlkggpjdaaglmaaDoor.am
open Go.ChangeShapes Go.WideShapes Go.ChangeAt Go.RowKit
open vt
set_option linter.unusedVariables false
set_option linter.unusedSimpArgs false
section
variable (ts : List Tok) (hl : ts.length ≤ 1000000000)
structure InvP (i : Nat) (x : Nat × Got) : Prop where
  eq : lpP ts (Qx ts 1) i x.1 x.2 = Qx ts 7 i
  ok : OkG ts i x.2
  fuel : x.2.2.2 = 0 → ts.length < x.1 + x.2.2.1
include hl
set_option maxRecDepth 100000 in
set_option maxHeartbeats 4000000 in
theorem post_step (i : Nat) (hi : i ≤ ts.length) (h8 : Row Tryd.prog 85 [vKs ts, vI i] [] (vG (Qx ts 8 i)) []) (hE : ∀ j, i < j → j ≤ ts.length → Row Tryd.prog 13 [vKs ts, vI j] [] (vG (Qx ts 1 j)) []) : Row Tryd.prog 74 [vKs ts, vI i] [] (vG (Qx ts 7 i)) [] := by
  have h0 : InvP ts i (ts.length + 1, Qx ts 8 i) := by
    have ho := Q_ok (ts := ts) 8 i hi
    refine ⟨?_, ho, fun h => by dsimp only; omega⟩
    rw [Q_eq 7 i (by decide) (by decide) hi]; unfold bG; rw [if_neg (by decide), if_neg (by decide), if_pos rfl]
  refine row_of Tryd.func74 rfl rfl (Nat.le_of_ble_eq_true rfl) ?_
  obtain ⟨⟨⟨ax, al⟩, a2, a3⟩, hr⟩ : ∃ r, Qx ts 8 i = r := ⟨_, rfl⟩
  rw [hr] at h8 h0
  repeat' (first | refine aw_seq ?_ | refine aw_skip ?_ | refine aw_block ?_ | refine aw_exit ?_ | refine aw_cond rfl (fun _ => ?_) (fun hb => absurd hb (by decide)) | refine aw_cond rfl (fun hb => absurd hb (by decide)) (fun _ => ?_) | (refine aw_reg (fun K hK => ?_); simp -implicitDefEqProofs) | (refine aw_drw mixd (fun K hK => ?_); simp -implicitDefEqProofs) | refine hK _ ?_ | refine hK _ _ (by rfl) ?_ | (refine ar_call (cp h8 ?_); simp -implicitDefEqProofs) | (refine ard_call (dp h8 ?_); simp -implicitDefEqProofs) | fail)
  refine aw_lp (ι := Nat × Got) (fun x => mkSt [(0, vKs ts), (1, vI i), (4, .v (.c (.ptr 0 0))), (5, .v (.c (.ptr 1 0)))] [some zG, some (gb x.2)]) (InvP ts i) (fun x => x.1) (ts.length + 1, (.mk ax al, a2, a3)) h0 (cov_intro [0, 11] (by simp -implicitDefEqProofs) (by simp -implicitDefEqProofs) (by decide) rfl (by simp)) (fun Z hI x hx => ?_)
  clear h0 hr h8
  obtain ⟨m, ⟨⟨px, pl⟩, j, e⟩⟩ := x
  obtain ⟨x1, x2, x3⟩ := hx
  dsimp only at x1 x2 x3 ⊢
  by_cases he : e = 0; rotate_left
  · have hd : Qx ts 7 i = (.mk px pl, j, e) := by
      rw [← x1]
      cases m
      · rfl
      · rw [lpP, if_pos he]
    rw [hd]
    repeat (first | refine aw_seq ?_ | refine aw_skip ?_ | refine aw_block ?_ | refine aw_exit ?_ | refine aw_cond rfl (fun _ => ?_) (fun hb => absurd hb (by decide)) | refine aw_cond rfl (fun hb => absurd hb (by decide)) (fun _ => ?_) | (refine aw_reg (fun K hK => ?_); simp -implicitDefEqProofs [he]; refine hK _ ?_) | (refine aw_drw mixd (fun K hK => ?_); simp -implicitDefEqProofs [he]; refine hK _ _ (by rfl) ?_) | fail)
    refine aw_ret (fin_ret ?_); simp -implicitDefEqProofs [FinP, resV, resT] <;> try rfl
  subst he
  have x3 := x3 rfl
  have hy := x2.yes rfl
  dsimp only at hy
  obtain ⟨m, rfl⟩ : ∃ m', m = m' + 1 := ⟨m - 1, by omega⟩
  have q1 := sign_row ts j sOpen
  rw [sign_is (by decide)] at q1
  have q2 := sign_row ts j sDot
  rw [sign_is (by decide)] at q2
  have w1 : IntKind.i64.wrap ((j : Nat) + 1 : Int) = (j : Nat) + 1 := i64i _ (by omega) (by omega)
  rw [lpP, if_neg (by simp)] at x1
  dsimp only at x1
  by_cases e1 : isK sOpen (nxt ts j) = true
  · have hlt := isK_lt e1
    rw [if_pos e1] at x1
    rw [e1] at q1
    have hq := hE (j + 1) (by omega) (by omega)
    have hk := Q_ok (ts := ts) 1 (j + 1) (by omega)
    obtain ⟨⟨⟨rx, rl⟩, r2, r3⟩, hr⟩ : ∃ r, Qx ts 1 (j + 1) = r := ⟨_, rfl⟩
    rw [hr] at hq hk x1
    by_cases hr3 : r3 = 0; rotate_left
    · rw [if_pos hr3] at x1
      rw [← x1]
      clear x1 hr hE x2 hk q2 e1
      repeat' (first | refine aw_seq ?_ | refine aw_skip ?_ | refine aw_block ?_ | refine aw_exit ?_ | refine aw_cond rfl (fun _ => ?_) (fun hb => absurd hb (by decide)) | refine aw_cond rfl (fun hb => absurd hb (by decide)) (fun _ => ?_) | (refine aw_reg (fun K hK => ?_); simp -implicitDefEqProofs [hr3, w1]) | (refine aw_drw mixd (fun K hK => ?_); simp -implicitDefEqProofs [hr3, w1]) | refine hK _ ?_ | refine hK _ _ (by rfl) ?_ | (refine ar_call (cp q1 ?_); simp -implicitDefEqProofs [hr3, w1]) | (refine ard_call (dp q1 ?_); simp -implicitDefEqProofs [hr3, w1]) | (refine ar_call (cp hq ?_); simp -implicitDefEqProofs [hr3, w1]) | (refine ard_call (dp hq ?_); simp -implicitDefEqProofs [hr3, w1]) | fail)
      refine aw_ret (fin_ret ?_); simp -implicitDefEqProofs [FinP, resV, resT] <;> try rfl
    subst hr3
    rw [if_neg (by simp)] at x1
    have hyy := hk.yes rfl
    dsimp only at hyy x1
    have q3 := sign_row ts r2 sShut
    rw [sign_is (by decide)] at q3
    by_cases e3 : isK sShut (nxt ts r2) = true; rotate_left
    · have e3 : isK sShut (nxt ts r2) = false := by simpa using e3
      rw [if_pos e3] at x1
      rw [← x1]
      rw [e3] at q3
      have b := bad_row r2
      clear x1 hr hE x2 hk q2 e1 e3
      repeat' (first | refine aw_seq ?_ | refine aw_skip ?_ | refine aw_block ?_ | refine aw_exit ?_ | refine aw_cond rfl (fun _ => ?_) (fun hb => absurd hb (by decide)) | refine aw_cond rfl (fun hb => absurd hb (by decide)) (fun _ => ?_) | (refine aw_reg (fun K hK => ?_); simp -implicitDefEqProofs [w1]) | (refine aw_drw mixd (fun K hK => ?_); simp -implicitDefEqProofs [w1]) | refine hK _ ?_ | refine hK _ _ (by rfl) ?_ | (refine ar_call (cp q1 ?_); simp -implicitDefEqProofs [w1]) | (refine ard_call (dp q1 ?_); simp -implicitDefEqProofs [w1]) | (refine ar_call (cp hq ?_); simp -implicitDefEqProofs [w1]) | (refine ard_call (dp hq ?_); simp -implicitDefEqProofs [w1]) | (refine ar_call (cp q3 ?_); simp -implicitDefEqProofs [w1]) | (refine ard_call (dp q3 ?_); simp -implicitDefEqProofs [w1]) | (refine ar_call (cp b ?_); simp -implicitDefEqProofs [w1]) | (refine ard_call (dp b ?_); simp -implicitDefEqProofs [w1]) | fail)
      refine aw_ret (fin_ret ?_); simp -implicitDefEqProofs [FinP, resV, resT, bad7, z0] <;> try rfl
    have hlt2 := isK_lt e3
    have w2 : IntKind.i64.wrap ((r2 : Nat) + 1 : Int) = (r2 : Nat) + 1 := i64i _ (by omega) (by omega)
    rw [if_neg (by simp [e3])] at x1
    rw [e3] at q3
    have m7 := rmk_row ts hl i (r2 + 1) 12 0 ⟨#[]⟩ [.mk px pl, .mk rx rl] (by omega) (by omega)
    have nx : InvP ts i (m, mk7 ts i (r2 + 1) 12 0 ⟨#[]⟩ [.mk px pl, .mk rx rl]) := ⟨x1, ok_mk (by omega) (by omega), fun _ => by show ts.length < m + (r2 + 1); omega⟩
    clear x1 hr hE x2 hk q2 e1 e3
    repeat' (first | refine aw_seq ?_ | refine aw_skip ?_ | refine aw_block ?_ | refine aw_exit ?_ | refine aw_cond rfl (fun _ => ?_) (fun hb => absurd hb (by decide)) | refine aw_cond rfl (fun hb => absurd hb (by decide)) (fun _ => ?_) | (refine aw_reg (fun K hK => ?_); simp -implicitDefEqProofs [w1, w2]) | (refine aw_drw mixd (fun K hK => ?_); simp -implicitDefEqProofs [w1, w2]) | refine hK _ ?_ | refine hK _ _ (by rfl) ?_ | (refine ar_call (cp q1 ?_); simp -implicitDefEqProofs [w1, w2]) | (refine ard_call (dp q1 ?_); simp -implicitDefEqProofs [w1, w2]) | (refine ar_call (cp hq ?_); simp -implicitDefEqProofs [w1, w2]) | (refine ard_call (dp hq ?_); simp -implicitDefEqProofs [w1, w2]) | (refine ar_call (cp q3 ?_); simp -implicitDefEqProofs [w1, w2]) | (refine ard_call (dp q3 ?_); simp -implicitDefEqProofs [w1, w2]) | (refine ar_call (cp m7 ?_); simp -implicitDefEqProofs [w1, w2]) | (refine ard_call (dp m7 ?_); simp -implicitDefEqProofs [w1, w2]) | fail)
    refine ⟨(_, _), nx, (by dsimp only; omega), ?_⟩; rw [hI]; exact cov_intro [0, 1] (by simp -implicitDefEqProofs [mk7]) (by simp -implicitDefEqProofs [mk7]) (by decide) rfl (by simp)
  have e1 : isK sOpen (nxt ts j) = false := by simpa using e1
  rw [if_neg (by simp [e1])] at x1
  rw [e1] at q1
  by_cases e2 : isK sDot (nxt ts j) = true; rotate_left
  · rw [if_neg e2] at x1
    rw [← x1]
    rw [show isK sDot (nxt ts j) = false by simpa using e2] at q2
    clear x1 hE x2 e1 e2
    repeat' (first | refine aw_seq ?_ | refine aw_skip ?_ | refine aw_block ?_ | refine aw_exit ?_ | refine aw_cond rfl (fun _ => ?_) (fun hb => absurd hb (by decide)) | refine aw_cond rfl (fun hb => absurd hb (by decide)) (fun _ => ?_) | (refine aw_reg (fun K hK => ?_); simp -implicitDefEqProofs) | (refine aw_drw mixd (fun K hK => ?_); simp -implicitDefEqProofs) | refine hK _ ?_ | refine hK _ _ (by rfl) ?_ | (refine ar_call (cp q1 ?_); simp -implicitDefEqProofs) | (refine ard_call (dp q1 ?_); simp -implicitDefEqProofs) | (refine ar_call (cp q2 ?_); simp -implicitDefEqProofs) | (refine ard_call (dp q2 ?_); simp -implicitDefEqProofs) | fail)
    refine aw_ret (fin_ret ?_); simp -implicitDefEqProofs [FinP, resV, resT] <;> try rfl
  rw [if_pos e2] at x1
  rw [e2] at q2
  have hlt := isK_lt e2
  have o := now_row ts (j + 1)
  by_cases e4 : (nxt ts (j + 1)).k = 1; rotate_left
  · rw [if_pos e4] at x1
    rw [← x1]
    have b := bad_row (j + 1)
    clear x1 hE x2 e1 e2
    repeat' (first | refine aw_seq ?_ | refine aw_skip ?_ | refine aw_block ?_ | refine aw_exit ?_ | refine aw_cond rfl (fun _ => ?_) (fun hb => absurd hb (by decide)) | refine aw_cond rfl (fun hb => absurd hb (by decide)) (fun _ => ?_) | (refine aw_reg (fun K hK => ?_); simp -implicitDefEqProofs [w1, e4]) | (refine aw_drw mixd (fun K hK => ?_); simp -implicitDefEqProofs [w1, e4]) | refine hK _ ?_ | refine hK _ _ (by rfl) ?_ | (refine ar_call (cp q1 ?_); simp -implicitDefEqProofs [w1, e4]) | (refine ard_call (dp q1 ?_); simp -implicitDefEqProofs [w1, e4]) | (refine ar_call (cp q2 ?_); simp -implicitDefEqProofs [w1, e4]) | (refine ard_call (dp q2 ?_); simp -implicitDefEqProofs [w1, e4]) | (refine ar_call (cp o ?_); simp -implicitDefEqProofs [w1, e4]) | (refine ard_call (dp o ?_); simp -implicitDefEqProofs [w1, e4]) | (refine ar_call (cp b ?_); simp -implicitDefEqProofs [w1, e4]) | (refine ard_call (dp b ?_); simp -implicitDefEqProofs [w1, e4]) | fail)
    refine aw_ret (fin_ret ?_); simp -implicitDefEqProofs [FinP, resV, resT, bad7, z0] <;> try rfl
  rw [if_neg (by simp [e4])] at x1
  have hlt2 := k_lt e4 (by decide)
  have w2 : IntKind.i64.wrap ((j : Nat) + 2 : Int) = (j : Nat) + 2 := i64i _ (by omega) (by omega)
  have m7 := rmk_row ts hl i (j + 2) 13 0 (nxt ts (j + 1)).s [.mk px pl] (by omega) (by omega)
  have nx : InvP ts i (m, mk7 ts i (j + 2) 13 0 (nxt ts (j + 1)).s [.mk px pl]) := ⟨x1, ok_mk (by omega) (by omega), fun _ => by show ts.length < m + (j + 2); omega⟩
  clear x1 hE x2 e1 e2
  repeat' (first | refine aw_seq ?_ | refine aw_skip ?_ | refine aw_block ?_ | refine aw_exit ?_ | refine aw_cond rfl (fun _ => ?_) (fun hb => absurd hb (by decide)) | refine aw_cond rfl (fun hb => absurd hb (by decide)) (fun _ => ?_) | (refine aw_reg (fun K hK => ?_); simp -implicitDefEqProofs [w1, w2, e4]) | (refine aw_drw mixd (fun K hK => ?_); simp -implicitDefEqProofs [w1, w2, e4]) | refine hK _ ?_ | refine hK _ _ (by rfl) ?_ | (refine ar_call (cp q1 ?_); simp -implicitDefEqProofs [w1, w2, e4]) | (refine ard_call (dp q1 ?_); simp -implicitDefEqProofs [w1, w2, e4]) | (refine ar_call (cp q2 ?_); simp -implicitDefEqProofs [w1, w2, e4]) | (refine ard_call (dp q2 ?_); simp -implicitDefEqProofs [w1, w2, e4]) | (refine ar_call (cp o ?_); simp -implicitDefEqProofs [w1, w2, e4]) | (refine ard_call (dp o ?_); simp -implicitDefEqProofs [w1, w2, e4]) | (refine ar_call (cp m7 ?_); simp -implicitDefEqProofs [w1, w2, e4]) | (refine ard_call (dp m7 ?_); simp -implicitDefEqProofs [w1, w2, e4]) | fail)
  refine ⟨(_, _), nx, (by dsimp only; omega), ?_⟩; rw [hI]; exact cov_intro [0, 1] (by simp -implicitDefEqProofs [mk7]) (by simp -implicitDefEqProofs [mk7]) (by decide) rfl (by simp)
structure InvC (E : Nat → Got) (i : Nat) (x : Nat × Nat × List VT) : Prop where
  eq : lpC ts E x.1 x.2.1 x.2.2 = lpC ts E (ts.length + 1) i []
  le : i ≤ x.2.1 ∧ x.2.1 ≤ ts.length
  fuel : ts.length < x.1 + x.2.1
  few : x.2.2.length + x.1 ≤ ts.length + 1
set_option maxRecDepth 100000 in
set_option maxHeartbeats 4000000 in
theorem list_row (i : Nat) (hi : i ≤ ts.length) (hE : ∀ j, i ≤ j → j ≤ ts.length → Row Tryd.prog 13 [vKs ts, vI j] [] (vG (Qx ts 1 j)) []) : Row Tryd.prog 107 [vKs ts, vI i] [] (vC3 (lpC ts (Qx ts 1) (ts.length + 1) i [])) [] := by
  have h0 : InvC ts (Qx ts 1) i (ts.length + 1, i, []) := ⟨rfl, ⟨Nat.le_refl _, hi⟩, by dsimp only; omega, by simp⟩
  refine row_of Tryd.func107 rfl rfl (Nat.le_of_ble_eq_true rfl) ?_
  repeat (first | refine aw_seq ?_ | refine aw_skip ?_ | refine aw_block ?_ | refine aw_exit ?_ | refine aw_cond rfl (fun _ => ?_) (fun hb => absurd hb (by decide)) | refine aw_cond rfl (fun hb => absurd hb (by decide)) (fun _ => ?_) | (refine aw_reg (fun K hK => ?_); simp -implicitDefEqProofs; refine hK _ ?_) | (refine aw_drw mixd (fun K hK => ?_); simp -implicitDefEqProofs; refine hK _ _ (by rfl) ?_) | fail)
  refine aw_lp (ι := Nat × Nat × List VT) (fun x => mkSt [(0, vKs ts), (1, vI (x.2.1 : Nat)), (7, .v (.c (.row 0 6 (x.2.2.map tc))))] [some (.row 38 6)]) (InvC ts (Qx ts 1) i) (fun x => x.1) (ts.length + 1, i, []) h0 (cov_intro [3] (by simp -implicitDefEqProofs) (by simp -implicitDefEqProofs) (by decide) rfl (by simp)) (fun Z hI x hx => ?_)
  clear h0
  obtain ⟨m, j, acc⟩ := x
  obtain ⟨x1, x2, x3, x4⟩ := hx
  dsimp only at x1 x2 x3 x4 ⊢
  obtain ⟨m, rfl⟩ : ∃ m', m = m' + 1 := ⟨m - 1, by omega⟩
  have hq := hE j x2.1 x2.2
  have hk := Q_ok (ts := ts) 1 j x2.2
  rw [lpC] at x1
  obtain ⟨⟨⟨rx, rl⟩, r2, r3⟩, hr⟩ : ∃ r, Qx ts 1 j = r := ⟨_, rfl⟩
  rw [hr] at hq hk x1
  by_cases hr3 : r3 = 0; rotate_left
  · rw [if_pos hr3] at x1
    rw [← x1]
    clear x1 hr hE hk
    repeat' (first | refine aw_seq ?_ | refine aw_skip ?_ | refine aw_block ?_ | refine aw_exit ?_ | refine aw_cond rfl (fun _ => ?_) (fun hb => absurd hb (by decide)) | refine aw_cond rfl (fun hb => absurd hb (by decide)) (fun _ => ?_) | (refine aw_reg (fun K hK => ?_); simp -implicitDefEqProofs [hr3]) | (refine aw_drw mixd (fun K hK => ?_); simp -implicitDefEqProofs [hr3]) | refine hK _ ?_ | refine hK _ _ (by rfl) ?_ | (refine ar_call (cp hq ?_); simp -implicitDefEqProofs [hr3]) | (refine ard_call (dp hq ?_); simp -implicitDefEqProofs [hr3]) | fail)
    refine aw_ret (fin_ret ?_); simp -implicitDefEqProofs [FinP, resV, resT] <;> try rfl
  subst hr3
  rw [if_neg (by simp)] at x1
  have hyy := hk.yes rfl
  dsimp only at hyy x1
  have b1 : (acc.length + 1) * 72 ≤ 140737488355328 := by omega
  have b2 : acc.length + 1 ≤ 140737488355328 := by omega
  have q3 := sign_row ts r2 sCom
  rw [sign_is (by decide)] at q3
  by_cases e3 : isK sCom (nxt ts r2) = true; rotate_left
  · have e3 : isK sCom (nxt ts r2) = false := by simpa using e3
    rw [if_pos e3] at x1
    rw [← x1]
    rw [e3] at q3
    clear x1 hr hE hk e3
    repeat' (first | refine aw_seq ?_ | refine aw_skip ?_ | refine aw_block ?_ | refine aw_exit ?_ | refine aw_cond rfl (fun _ => ?_) (fun hb => absurd hb (by decide)) | refine aw_cond rfl (fun hb => absurd hb (by decide)) (fun _ => ?_) | (refine aw_reg (fun K hK => ?_); simp -implicitDefEqProofs [b1, b2]) | (refine aw_drw mixd (fun K hK => ?_); simp -implicitDefEqProofs [b1, b2]) | refine hK _ ?_ | refine hK _ _ (by rfl) ?_ | (refine ar_call (cp hq ?_); simp -implicitDefEqProofs [b1, b2]) | (refine ard_call (dp hq ?_); simp -implicitDefEqProofs [b1, b2]) | (refine ar_call (cp q3 ?_); simp -implicitDefEqProofs [b1, b2]) | (refine ard_call (dp q3 ?_); simp -implicitDefEqProofs [b1, b2]) | fail)
    refine aw_ret (fin_ret ?_); simp -implicitDefEqProofs [FinP, resV, resT] <;> try rfl
  have hlt2 := isK_lt e3
  have w2 : IntKind.i64.wrap ((r2 : Nat) + 1 : Int) = (r2 : Nat) + 1 := i64i _ (by omega) (by omega)
  rw [if_neg (by simp [e3])] at x1
  rw [e3] at q3
  have nx : InvC ts (Qx ts 1) i (m, r2 + 1, acc ++ [.mk rx rl]) := ⟨x1, by dsimp only; omega, by dsimp only; omega, by dsimp only; rw [List.length_append]; simp only [List.length_cons, List.length_nil]; omega⟩
  clear x1 hr hE hk e3
  repeat' (first | refine aw_seq ?_ | refine aw_skip ?_ | refine aw_block ?_ | refine aw_exit ?_ | refine aw_cond rfl (fun _ => ?_) (fun hb => absurd hb (by decide)) | refine aw_cond rfl (fun hb => absurd hb (by decide)) (fun _ => ?_) | (refine aw_reg (fun K hK => ?_); simp -implicitDefEqProofs [b1, b2, w2]) | (refine aw_drw mixd (fun K hK => ?_); simp -implicitDefEqProofs [b1, b2, w2]) | refine hK _ ?_ | refine hK _ _ (by rfl) ?_ | (refine ar_call (cp hq ?_); simp -implicitDefEqProofs [b1, b2, w2]) | (refine ard_call (dp hq ?_); simp -implicitDefEqProofs [b1, b2, w2]) | (refine ar_call (cp q3 ?_); simp -implicitDefEqProofs [b1, b2, w2]) | (refine ard_call (dp q3 ?_); simp -implicitDefEqProofs [b1, b2, w2]) | fail)
  refine ⟨(_, _, _), nx, (by dsimp only; omega), ?_⟩; rw [hI]; exact cov_intro [20] (by simp -implicitDefEqProofs) (by simp -implicitDefEqProofs) (by decide) rfl (by simp)
end
end Go.Proofs.YtlkggpjdaaglmaaDoor.am
end
