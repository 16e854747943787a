import Derived.Test.YtcjagcfjpfjanaaPkC6
import Derived.Test.YtcjagcfjpfjanaaPkC4
import Derived.Test.YtcjagcfjpfjanaaPkC5
import Derived.IntWalk
import Derived.Test.YtcjagcfjpfjanaaChecked
import Derived.ChangeOld
import Derived.Lib.SmallJoins
import Derived.Test.YtcjagcfjpfjanaaPkC0
import Derived.Test.YtcjagcfjpfjanaaRows
set_option maxRecDepth 100000
set_option maxHeartbeats 4000000
section
namespace Go.Proofs.Ytcjagcfjpfjanaa.am
open Go.ChangeShapes Go.WideShapes Go.ChangeAt Go.RowKit
open vt
set_option linter.unusedVariables false
set_option linter.unusedSimpArgs false
section
variable {P : Program} {N : Nat} {st : St}
theorem finD_r {g : FuncId} {rs : List ResultVar} {res : AV} {ch' : List (Option AO)} {ex : Exit} {tr tr' dv p e : Int} {b : List Int} {o : AO} (hD : RowD P g [vW0] [bxR tr dv b p e] (.tup []) [some (bxR tr' dv b p e)]) (he : ex = .normal ∨ ex = .ret) (ho : hlk st.hp 0 = some o) (hcov : covO (hlk st.hp) 1 (fun k => [0].getD k 0) ([bxR tr dv b p e].map some) [0])
    (h : FinG P rs res ch' [0] (st.wr (wrs (nmap [0] 1 st.nx) 0 [some (bxR tr' dv b p e)]) 8)) (hl : 1 ≤ ch'.length := by first | decide | (simp; done)) : FinD P N 1 g 0 0 rs res ch' ex st :=
  ⟨he, [vW0], [bxR tr dv b p e], .tup [], [some (bxR tr' dv b p e)], [0], hD, by simp, hcov, by simp, by simp, by simp, ⟨o, ho⟩, fin_g [0] h (by simp) rfl hl⟩
end
theorem rterm36_row (b : List Int) (hb : bs.AllB b) (hl : b.length ≤ 140737488355328) (t : VT) : in64 t → t.size ≤ 1000 → ∀ dv tr : Int, 0 ≤ tr → erT t (tr + 1) = 0 → RdOk dv b t tr := by
  induction t using Tr.ind with
  | h x l ih =>
  intro hi hsz dv tr h0 he p q r hp hd hq
  have hlen := Tr.len_size (x := x) (l := l)
  obtain ⟨hx, hil⟩ := (Tr.all_mk _ _ _).1 hi
  obtain ⟨h1, h2, h3, h4⟩ := er_ok he
  have hok : ∀ y ∈ l, RdOk dv b y (tr + 1) := fun y hy => by
    obtain ⟨i, hi⟩ := List.mem_iff_getElem?.1 hy
    have := Tr.size_at (x := x) hi
    exact ih y hy (hil y hy) (by omega) dv (tr + 1) (by omega) (h4 y hy)
  clear ih hil h4 he
  obtain ⟨xk, xn, xs, xf, xt⟩ := x
  obtain ⟨hs, hf, ht⟩ := h3
  dsimp only at hs hf ht h2
  subst hs hf ht
  have hzb := zigs.zig_bd xn (by have := hx.2.1; dsimp only at this; omega) (by have := hx.2.1; dsimp only at this; omega)
  rw [tE_mk] at hd hq
  dsimp only at hd hq
  have hd : b.drop p = [xk] ++ (vs.enc (zigs.zig xn) ++ (vs.enc (l.length : Nat) ++ ((l.map tE).flatten ++ r))) := by rw [hd]; simp
  have hpb : b[p]? = some xk := by
    have := congrArg (fun L => L[0]?) hd
    simpa using this
  have hd1 := drop_on (x := [xk]) (q := p + 1) hd rfl
  have hp1 := drop_le (x := [xk]) (q := p + 1) hp hd rfl
  have hby := rbyte_row (tr + 1) dv b p xk hb hl hpb
  rw [show (p : Int) + 1 = ((p + 1 : Nat) : Int) by omega] at hby
  obtain ⟨p1, e1⟩ : ∃ p1, p + 1 = p1 := ⟨_, rfl⟩
  rw [e1] at hd1 hp1 hby
  have hnm := rnumber_row (tr + 1) dv b p1 (zigs.zig xn) _ hb hl hzb.1 hzb.2 hp1 hd1
  obtain ⟨p2, e2⟩ : ∃ p2, p1 + (vs.enc (zigs.zig xn)).length = p2 := ⟨_, rfl⟩
  rw [show (p1 : Int) + ((vs.enc (zigs.zig xn)).length : Nat) = (p2 : Nat) by omega] at hnm
  have hd2 := drop_on hd1 e2
  have hp2 := drop_le hp1 hd1 e2
  have hls := rlist_row (tr + 1) dv b l hb hl (by omega) hok p2 _ q r hp2 hd2 rfl (by
    rw [← hq, ← e2, ← e1]
    simp only [List.length_cons, List.length_append]
    omega)
  have hzg := pzag_row (zigs.zig xn) hzb.1 hzb.2
  rw [zigs.zag_zig] at hzg
  have hen := renter_row tr dv b p h0 (by omega)
  have hkr := isterm_row xk
  rw [decide_eq_true h2] at hkr
  have hD := rleave_rowD (tr + 1) dv b q 0 (by omega) (by omega)
  rw [show tr + 1 - 1 = tr by omega] at hD
  clear hok hd hq hd1 hd2 hpb
  refine row_of_d Try.func28 rfl rfl (Nat.le_of_ble_eq_true rfl) ?_
  refine awd_seq ?_
  refine aw_reg (fun K hK => ?_); simp -implicitDefEqProofs; refine hK _ ?_
  refine ⟨rfl, ?_⟩
  refine awd_seq ?_
  repeat' (first | refine aw_seq ?_ | refine aw_skip ?_ | refine aw_block ?_ | refine aw_exit ?_ | refine aw_ct rfl ?_ | refine aw_cf rfl ?_ | ((first | refine aw_reg (fun K hK => ?_) | refine aw_drw mixd (fun K hK => ?_) | refine ar_call (cg hen [0] ?_) | refine ard_call (dg hen [0] ?_) | fail); simp -implicitDefEqProofs) | refine hK _ ?_ | refine hK _ _ (by rfl) ?_ | fail)
  refine ⟨rfl, ?_⟩
  refine awd_defer rfl ?_
  simp -implicitDefEqProofs
  repeat' (first | refine aw_seq ?_ | refine aw_skip ?_ | refine aw_block ?_ | refine aw_exit ?_ | refine aw_ct rfl ?_ | refine aw_cf rfl ?_ | ((first | refine aw_reg (fun K hK => ?_) | refine aw_drw mixd (fun K hK => ?_) | refine ar_call (cg hby [0] ?_) | refine ard_call (dg hby [0] ?_) | refine ar_call (cp hkr ?_) | refine ard_call (dp hkr ?_) | refine ar_call (cg hnm [0] ?_) | refine ard_call (dg hnm [0] ?_) | refine ar_call (cp hzg ?_) | refine ard_call (dp hzg ?_) | refine ar_call (cg hls [0] ?_) | refine ard_call (dg hls [0] ?_) | fail); simp -implicitDefEqProofs) | refine hK _ ?_ | refine hK _ _ (by rfl) ?_ | fail)
  refine aw_ret (finD_r (N := 0) hD (.inr rfl) rfl ?_ ?_)
  · simp
  · simp -implicitDefEqProofs [FinG, resV, resT]
end Go.Proofs.Ytcjagcfjpfjanaa.am
end
section
namespace Go.Proofs.Ytcjagcfjpfjanaa.am
open Go.ChangeShapes Go.WideShapes Go.ChangeAt Go.RowKit
open vt
set_option linter.unusedVariables false
set_option linter.unusedSimpArgs false
theorem rbegin_row (b : List Int) (p : Nat) (hp : p ≤ b.length) : Row Try.prog 27 [vBy b, vI (p : Nat)] [] (.tup [.c (.ptr 0 0), .c (.pv (I 0))]) [some (bxR 0 0 b (p : Nat) 0)] := by
  have h1 : ¬ (b.length : Int) < p := by omega
  have h2 : ¬ (p : Int) < 0 := by omega
  have h3 : ¬ b.length < p := by omega
  refine row_of Try.func27 rfl rfl (Nat.le_of_ble_eq_true rfl) ?_
  repeat (first | refine aw_seq ?_ | refine aw_skip ?_ | refine aw_block ?_ | refine aw_exit ?_ | refine aw_ct rfl ?_ | refine aw_cf rfl ?_ | ((first | refine aw_reg (fun K hK => ?_) | refine aw_drw mixd (fun K hK => ?_) | fail); simp -implicitDefEqProofs [iC_len, h1, h2, h3]; first | refine hK _ ?_ | refine hK _ _ (by rfl) ?_ | fail) | fail)
  refine aw_ret (fin_g [13] ?_); simp -implicitDefEqProofs [FinG, resV, resT] <;> try rfl
theorem cread_row (b : List Int) (hb : bs.AllB b) (hl : b.length ≤ 140737488355328) (t : VT) (hi : in64 t) (hsz : t.size ≤ 1000) (he : erT t 1 = 0) (p q : Nat) (r : List Int) (hp : p ≤ b.length) (hd : b.drop p = tE t ++ r) (hq : p + (tE t).length = q) : Row Try.prog 11 [vBy b, vI (p : Nat)] [] (.tup [.agg (ta t), .c (.pv (I (q : Nat))), .c (.pv (I 0))]) [] := by
  have hbg := rbegin_row b p hp
  have ht := rterm36_row b hb hl t hi hsz 0 0 (by omega) he p q r hp hd hq
  clear hd hq
  obtain ⟨x, l⟩ := t
  refine row_of Try.func11 rfl rfl (Nat.le_of_ble_eq_true rfl) ?_
  repeat' (first | refine aw_seq ?_ | refine aw_skip ?_ | refine aw_block ?_ | refine aw_exit ?_ | refine aw_ct rfl ?_ | refine aw_cf rfl ?_ | ((first | refine aw_reg (fun K hK => ?_) | refine aw_drw mixd (fun K hK => ?_) | refine ar_call (cg hbg [] ?_) | refine ard_call (dg hbg [] ?_) | refine ar_call (cg ht [5] ?_) | refine ard_call (dg ht [5] ?_) | fail); simp -implicitDefEqProofs) | refine hK _ ?_ | refine hK _ _ (by rfl) ?_ | fail)
  refine aw_ret (fin_ret ?_); simp -implicitDefEqProofs [FinP, resV, resT] <;> try rfl
theorem bsame_row (B : List Int) (hl : B.length ≤ 140737488355328) : Row Try.prog 10 [vBy B, vBy B] [] (vB true) [] := by
  refine row_of Try.func10 rfl rfl (Nat.le_of_ble_eq_true rfl) ?_
  repeat (first | refine aw_seq ?_ | refine aw_skip ?_ | refine aw_block ?_ | refine aw_exit ?_ | refine aw_ct rfl ?_ | refine aw_cf rfl ?_ | ((first | refine aw_reg (fun K hK => ?_) | refine aw_drw mixd (fun K hK => ?_) | fail); simp -implicitDefEqProofs; first | refine hK _ ?_ | refine hK _ _ (by rfl) ?_ | fail) | fail)
  refine aw_lp (ι := Nat) (fun k => mkSt [(0, vBy B), (1, vBy B), (5, vI (k : Nat))] []) (fun k => k ≤ B.length) (fun k => B.length - k) 0 (Nat.zero_le _) (cov_intro [] (by simp -implicitDefEqProofs) (by simp -implicitDefEqProofs) (by decide) rfl (by simp)) (fun Z hI k hk => ?_)
  by_cases hkl : k < B.length; rotate_left
  · have : k = B.length := by omega
    subst this
    repeat (first | refine aw_seq ?_ | refine aw_skip ?_ | refine aw_block ?_ | refine aw_exit ?_ | refine aw_ct rfl ?_ | refine aw_cf rfl ?_ | ((first | refine aw_reg (fun K hK => ?_) | refine aw_drw mixd (fun K hK => ?_) | fail); simp -implicitDefEqProofs [iC_len]; first | refine hK _ ?_ | refine hK _ _ (by rfl) ?_ | fail) | fail)
    refine aw_ret (fin_ret ?_); simp -implicitDefEqProofs [FinP, resV, resT] <;> try rfl
  have hzz : (iC B)[k]'(by rw [iC_len]; exact hkl) = [PV.lit (.int .u8 B[k])] := by unfold iC; simp
  have w2 : IntKind.i64.wrap ((k : Nat) + 1 : Int) = (k : Nat) + 1 := i64i _ (by omega) (by omega)
  repeat (first | refine aw_seq ?_ | refine aw_skip ?_ | refine aw_block ?_ | refine aw_exit ?_ | refine aw_ct rfl ?_ | refine aw_cf rfl ?_ | ((first | refine aw_reg (fun K hK => ?_) | refine aw_drw mixd (fun K hK => ?_) | fail); simp -implicitDefEqProofs [iC_len, hkl, hzz, w2]; first | refine hK _ ?_ | refine hK _ _ (by rfl) ?_ | fail) | fail)
  refine ⟨k + 1, by omega, (by dsimp only; omega), ?_⟩
  rw [hI]; exact cov_intro [] (by simp -implicitDefEqProofs) (by simp -implicitDefEqProofs) (by decide) rfl (by simp)
theorem cntK_len {l : List VT} {lv n : Int} : ∀ k, k ≤ l.length → cntK l lv n k ≤ n ∧ (0 ≤ cntK l lv n k → cntK l lv n k + k ≤ n) := fun k => by
  induction k with
  | zero => intro _; rw [cntK_zero]; omega
  | succ k ih =>
    intro hk
    obtain ⟨i1, i2⟩ := ih (by omega)
    have hy : l[k]? = some (l[k]'(by omega)) := List.getElem?_eq_getElem _
    rw [cntK_succ hy]
    split
    · rename_i hc
      have h1 := cnt_le (l[k]'(by omega)) (cntK l lv n k) (lv - 1) (by omega)
      have h2 := Tr.size_pos (l[k]'(by omega))
      have h3 := i2 hc
      refine ⟨by omega, fun h => ?_⟩
      have := h1.2.2 h
      omega
    · rename_i hc; exact ⟨i1, fun h => absurd h hc⟩
theorem rcnt_row (t : VT) : ∀ left lv : Int, 0 ≤ left → left ≤ 1000000 → lv ≤ 1000 → -1000000 ≤ lv → Row Try.prog 21 [vT t, vI left, vI lv] [] (vI (cntT t left lv)) [] := by
  induction t using Tr.ind with
  | h x l ih =>
  intro left lv h0 h1 h2 h3
  have hlen := Tr.len_size (x := x) (l := l)
  rw [cnt_mk]
  refine row_of Try.func21 rfl rfl (Nat.le_of_ble_eq_true rfl) ?_
  by_cases hl : lv ≤ 0
  · rw [if_pos hl]
    repeat (first | refine aw_seq ?_ | refine aw_skip ?_ | refine aw_block ?_ | refine aw_exit ?_ | refine aw_cond rfl (fun _ => ?_) (fun hb => absurd hb (by decide)) | refine aw_cond rfl (fun hb => absurd hb (by decide)) (fun _ => ?_) | (refine aw_reg (fun K hK => ?_); simp -implicitDefEqProofs [hl]; refine hK _ ?_) | (refine aw_drw mixd (fun K hK => ?_); simp -implicitDefEqProofs [hl]; refine hK _ _ (by rfl) ?_) | fail)
    refine aw_ret (fin_ret ?_); simp -implicitDefEqProofs [FinP, resV, resT] <;> try rfl
  rw [if_neg hl]
  have w1 : IntKind.i64.wrap (left - 1) = left - 1 := i64i _ (by omega) (by omega)
  have w3 : IntKind.i64.wrap (lv - 1) = lv - 1 := i64i _ (by omega) (by omega)
  repeat (first | refine aw_seq ?_ | refine aw_skip ?_ | refine aw_block ?_ | refine aw_exit ?_ | refine aw_cond rfl (fun _ => ?_) (fun hb => absurd hb (by decide)) | refine aw_cond rfl (fun hb => absurd hb (by decide)) (fun _ => ?_) | (refine aw_reg (fun K hK => ?_); simp -implicitDefEqProofs [hl, w1]; refine hK _ ?_) | (refine aw_drw mixd (fun K hK => ?_); simp -implicitDefEqProofs [hl, w1]; refine hK _ _ (by rfl) ?_) | fail)
  refine aw_lp (ι := Nat) (fun k => mkSt [(1, vI (cntK l lv (left - 1) k)), (2, vI lv), (3, .v (.c (.ptr 0 0))), (7, vI (k : Nat))] [some (.box (ta (.mk x l)))]) (fun k => k ≤ l.length ∧ -2 ≤ cntK l lv (left - 1) k ∧ cntK l lv (left - 1) k ≤ left) (fun k => l.length - k) 0 ⟨Nat.zero_le _, by rw [cntK_zero]; omega, by rw [cntK_zero]; omega⟩ (cov_intro [0] (by simp -implicitDefEqProofs [cntK_zero]) (by simp -implicitDefEqProofs [cntK_zero]) (by decide) rfl (by simp)) (fun Z hI k hkz => ?_)
  obtain ⟨hk, hc1, hc2⟩ := hkz
  by_cases hkl : k < l.length; rotate_left
  · have : k = l.length := by omega
    subst this
    repeat (first | refine aw_seq ?_ | refine aw_skip ?_ | refine aw_block ?_ | refine aw_exit ?_ | refine aw_cond rfl (fun _ => ?_) (fun hb => absurd hb (by decide)) | refine aw_cond rfl (fun hb => absurd hb (by decide)) (fun _ => ?_) | (refine aw_reg (fun K hK => ?_); simp -implicitDefEqProofs; refine hK _ ?_) | (refine aw_drw mixd (fun K hK => ?_); simp -implicitDefEqProofs; refine hK _ _ (by rfl) ?_) | fail)
    refine aw_ret (fin_ret ?_); simp -implicitDefEqProofs [FinP, resV, resT] <;> try rfl
  by_cases hc : 0 ≤ cntK l lv (left - 1) k; rotate_left
  · have := cntK_neg (l := l) (lv := lv) (n := left - 1) (k := k) (by omega) l.length hk (Nat.le_refl _)
    rw [this]
    repeat (first | refine aw_seq ?_ | refine aw_skip ?_ | refine aw_block ?_ | refine aw_exit ?_ | refine aw_cond rfl (fun _ => ?_) (fun hb => absurd hb (by decide)) | refine aw_cond rfl (fun hb => absurd hb (by decide)) (fun _ => ?_) | (refine aw_reg (fun K hK => ?_); simp -implicitDefEqProofs [hkl, hc]; refine hK _ ?_) | (refine aw_drw mixd (fun K hK => ?_); simp -implicitDefEqProofs [hkl, hc]; refine hK _ _ (by rfl) ?_) | fail)
    refine aw_ret (fin_ret ?_); simp -implicitDefEqProofs [FinP, resV, resT] <;> try rfl
  obtain ⟨⟨ax, al⟩, ha⟩ : ∃ a, l[k]? = some a := ⟨_, List.getElem?_eq_getElem hkl⟩
  have ha' := (List.getElem?_eq_some_iff.1 ha).2
  have hsz1 := Tr.size_at (x := x) ha
  have hcs := cntK_succ (lv := lv) (n := left - 1) ha
  have hkn := (cntK_len (l := l) (lv := lv) (n := left - 1) k hk).2 hc
  have w2 : IntKind.i64.wrap ((k : Nat) + 1 : Int) = (k : Nat) + 1 := i64i _ (by omega) (by omega)
  rw [if_pos hc] at hcs
  have hle := cnt_le (.mk ax al) (cntK l lv (left - 1) k) (lv - 1) (by omega)
  repeat (first | refine aw_seq ?_ | refine aw_skip ?_ | refine aw_block ?_ | refine aw_exit ?_ | refine aw_cond rfl (fun _ => ?_) (fun hb => absurd hb (by decide)) | refine aw_cond rfl (fun hb => absurd hb (by decide)) (fun _ => ?_) | (refine aw_reg (fun K hK => ?_); simp -implicitDefEqProofs [hkl, hc]; refine hK _ ?_) | (refine aw_drw mixd (fun K hK => ?_); simp -implicitDefEqProofs [hkl, hc]; refine hK _ _ (by rfl) ?_) | fail)
  refine aw_reg (fun K hK => ?_); simp -implicitDefEqProofs [hkl, ha, ha', w3]
  refine ar_call (call_pure (ih _ (List.mem_of_getElem? ha) (cntK l lv (left - 1) k) (lv - 1) (by omega) (by omega) (by omega) (by omega)) (by simp) (fun _ => rfl) rfl ?_)
  simp -implicitDefEqProofs; refine hK _ ?_
  repeat (first | refine aw_seq ?_ | refine aw_skip ?_ | refine aw_block ?_ | refine aw_exit ?_ | refine aw_cond rfl (fun _ => ?_) (fun hb => absurd hb (by decide)) | refine aw_cond rfl (fun hb => absurd hb (by decide)) (fun _ => ?_) | (refine aw_reg (fun K hK => ?_); simp -implicitDefEqProofs [w2]; refine hK _ ?_) | (refine aw_drw mixd (fun K hK => ?_); simp -implicitDefEqProofs [w2]; refine hK _ _ (by rfl) ?_) | fail)
  refine ⟨k + 1, ⟨by omega, by rw [hcs]; omega, by rw [hcs]; omega⟩, (by dsimp only; omega), ?_⟩
  rw [hI]; exact cov_intro [0] (by simp -implicitDefEqProofs [hcs]) (by simp -implicitDefEqProofs [hcs]) (by decide) rfl (by simp)
theorem rnmd_row (t : VT) : t.size ≤ 1000000 → Row Try.prog 22 [vT t] [] (vB (nmd t)) [] := by
  induction t using Tr.ind with
  | h x l ih =>
  intro hsz
  have hlen := Tr.len_size (x := x) (l := l)
  rw [nmd_mk]
  refine row_of Try.func22 rfl rfl (Nat.le_of_ble_eq_true rfl) ?_
  by_cases hs : 40 < x.s.size
  · have hs' : (40 : Int) < (x.s.size : Nat) := by omega
    repeat (first | refine aw_seq ?_ | refine aw_skip ?_ | refine aw_block ?_ | refine aw_exit ?_ | refine aw_cond rfl (fun _ => ?_) (fun hb => absurd hb (by decide)) | refine aw_cond rfl (fun hb => absurd hb (by decide)) (fun _ => ?_) | (refine aw_reg (fun K hK => ?_); simp -implicitDefEqProofs [hs, hs']; refine hK _ ?_) | (refine aw_drw mixd (fun K hK => ?_); simp -implicitDefEqProofs [hs, hs']; refine hK _ _ (by rfl) ?_) | fail)
    refine aw_ret (fin_ret ?_); simp -implicitDefEqProofs [FinP, resV, resT, hs] <;> try rfl
  have hs' : ¬ (40 : Int) < (x.s.size : Nat) := by omega
  repeat (first | refine aw_seq ?_ | refine aw_skip ?_ | refine aw_block ?_ | refine aw_exit ?_ | refine aw_cond rfl (fun _ => ?_) (fun hb => absurd hb (by decide)) | refine aw_cond rfl (fun hb => absurd hb (by decide)) (fun _ => ?_) | (refine aw_reg (fun K hK => ?_); simp -implicitDefEqProofs [hs, hs']; refine hK _ ?_) | (refine aw_drw mixd (fun K hK => ?_); simp -implicitDefEqProofs [hs, hs']; refine hK _ _ (by rfl) ?_) | fail)
  refine aw_lp (ι := Nat) (fun k => mkSt [(1, .v (.c (.ptr 0 0))), (3, vI (k : Nat))] [some (.box (ta (.mk x l)))]) (fun k => k ≤ l.length ∧ anyK nmd l k = false) (fun k => l.length - k) 0 ⟨Nat.zero_le _, anyK_zero _ _⟩ (cov_intro [0] (by simp -implicitDefEqProofs) (by simp -implicitDefEqProofs) (by decide) rfl (by simp)) (fun Z hI k hkz => ?_)
  obtain ⟨hk, hz⟩ := hkz
  by_cases hkl : k < l.length; rotate_left
  · have : k = l.length := by omega
    subst this
    rw [anyK_all] at hz
    repeat (first | refine aw_seq ?_ | refine aw_skip ?_ | refine aw_block ?_ | refine aw_exit ?_ | refine aw_cond rfl (fun _ => ?_) (fun hb => absurd hb (by decide)) | refine aw_cond rfl (fun hb => absurd hb (by decide)) (fun _ => ?_) | (refine aw_reg (fun K hK => ?_); simp -implicitDefEqProofs; refine hK _ ?_) | (refine aw_drw mixd (fun K hK => ?_); simp -implicitDefEqProofs; refine hK _ _ (by rfl) ?_) | fail)
    refine aw_ret (fin_ret ?_); simp -implicitDefEqProofs [FinP, resV, resT, hs, hz] <;> try rfl
  obtain ⟨⟨ax, al⟩, ha⟩ : ∃ a, l[k]? = some a := ⟨_, List.getElem?_eq_getElem hkl⟩
  have ha' := (List.getElem?_eq_some_iff.1 ha).2
  have hsz1 := Tr.size_at (x := x) ha
  have w2 : IntKind.i64.wrap ((k : Nat) + 1 : Int) = (k : Nat) + 1 := i64i _ (by omega) (by omega)
  have hcs := anyK_succ (f := nmd) ha
  repeat (first | refine aw_seq ?_ | refine aw_skip ?_ | refine aw_block ?_ | refine aw_exit ?_ | refine aw_cond rfl (fun _ => ?_) (fun hb => absurd hb (by decide)) | refine aw_cond rfl (fun hb => absurd hb (by decide)) (fun _ => ?_) | (refine aw_reg (fun K hK => ?_); simp -implicitDefEqProofs [hkl]; refine hK _ ?_) | (refine aw_drw mixd (fun K hK => ?_); simp -implicitDefEqProofs [hkl]; refine hK _ _ (by rfl) ?_) | fail)
  refine aw_reg (fun K hK => ?_); simp -implicitDefEqProofs [hkl, ha, ha']
  refine ar_call (call_pure (ih _ (List.mem_of_getElem? ha) (by omega)) (by simp) (fun _ => rfl) rfl ?_)
  simp -implicitDefEqProofs; refine hK _ ?_
  refine aw_cond rfl (fun hb => ?_) (fun hb => ?_)
  · have := any_of ha hb
    repeat (first | refine aw_seq ?_ | refine aw_skip ?_ | refine aw_block ?_ | refine aw_exit ?_ | refine aw_cond rfl (fun _ => ?_) (fun hb => absurd hb (by decide)) | refine aw_cond rfl (fun hb => absurd hb (by decide)) (fun _ => ?_) | (refine aw_reg (fun K hK => ?_); simp -implicitDefEqProofs; refine hK _ ?_) | (refine aw_drw mixd (fun K hK => ?_); simp -implicitDefEqProofs; refine hK _ _ (by rfl) ?_) | fail)
    refine aw_ret (fin_ret ?_); simp -implicitDefEqProofs [FinP, resV, resT, this] <;> try rfl
  · repeat (first | refine aw_seq ?_ | refine aw_skip ?_ | refine aw_block ?_ | refine aw_exit ?_ | refine aw_cond rfl (fun _ => ?_) (fun hb => absurd hb (by decide)) | refine aw_cond rfl (fun hb => absurd hb (by decide)) (fun _ => ?_) | (refine aw_reg (fun K hK => ?_); simp -implicitDefEqProofs [w2]; refine hK _ ?_) | (refine aw_drw mixd (fun K hK => ?_); simp -implicitDefEqProofs [w2]; refine hK _ _ (by rfl) ?_) | fail)
    refine ⟨k + 1, ⟨by omega, by rw [hcs, hz, hb]; rfl⟩, (by dsimp only; omega), ?_⟩
    rw [hI]; exact cov_intro [0] (by simp -implicitDefEqProofs) (by simp -implicitDefEqProofs) (by decide) rfl (by simp)
theorem rlarge_row (t : VT) : Row Try.prog 6 [vT t] [] (vB (large t)) [] := by
  refine row_of Try.func6 rfl rfl (Nat.le_of_ble_eq_true rfl) ?_
  obtain ⟨x, l⟩ := t
  repeat (first | refine aw_seq ?_ | refine aw_skip ?_ | refine aw_block ?_ | refine aw_exit ?_ | refine aw_cond rfl (fun _ => ?_) (fun hb => absurd hb (by decide)) | refine aw_cond rfl (fun hb => absurd hb (by decide)) (fun _ => ?_) | (refine aw_reg (fun K hK => ?_); simp -implicitDefEqProofs; refine hK _ ?_) | (refine aw_drw mixd (fun K hK => ?_); simp -implicitDefEqProofs; refine hK _ _ (by rfl) ?_) | fail)
  refine aw_reg (fun K hK => ?_); simp -implicitDefEqProofs
  refine ar_call (call_pure (rcnt_row (.mk x l) 400 70 (by omega) (by omega) (by omega) (by omega)) (by simp) (fun _ => rfl) rfl ?_)
  by_cases hc : cntT (.mk x l) 400 70 < 0
  · simp -implicitDefEqProofs [hc]; refine hK _ ?_
    refine aw_ret (fin_ret ?_); simp -implicitDefEqProofs [FinP, resV, resT, large, hc] <;> try rfl
  · simp -implicitDefEqProofs [hc]
    refine ar_call (call_pure (rnmd_row (.mk x l) (by have := (cnt_le (.mk x l) 400 70 (by omega)).2.2 (by omega); omega)) (by simp) (fun _ => rfl) rfl ?_)
    simp -implicitDefEqProofs; refine hK _ ?_
    refine aw_ret (fin_ret ?_); simp -implicitDefEqProofs [FinP, resV, resT, large, hc] <;> try rfl
theorem rplac_row (t : VT) : t.size ≤ 1000000 → ∀ u : VT, u.size ≤ 1000000 → Row Try.prog 12 [vT t, vT u] [] (vB (plac t u)) [] := by
  induction t using Tr.ind with
  | h x l ih =>
  intro hsz u hsu
  obtain ⟨y, m⟩ := u
  have hlen := Tr.len_size (x := x) (l := l)
  rw [show plac (.mk x l) (.mk y m) = _ from eqv_mk pP x y l m]
  refine row_of Try.func12 rfl rfl (Nat.le_of_ble_eq_true rfl) ?_
  by_cases hk : x.k = y.k; rotate_left
  · repeat (first | refine aw_seq ?_ | refine aw_skip ?_ | refine aw_block ?_ | refine aw_exit ?_ | refine aw_cond rfl (fun _ => ?_) (fun hb => absurd hb (by decide)) | refine aw_cond rfl (fun hb => absurd hb (by decide)) (fun _ => ?_) | (refine aw_reg (fun K hK => ?_); simp -implicitDefEqProofs [hk]; refine hK _ ?_) | (refine aw_drw mixd (fun K hK => ?_); simp -implicitDefEqProofs [hk]; refine hK _ _ (by rfl) ?_) | fail)
    refine aw_ret (fin_ret ?_); simp -implicitDefEqProofs [FinP, resV, resT, hk, pP] <;> try rfl
  by_cases hn : x.n = y.n; rotate_left
  · repeat (first | refine aw_seq ?_ | refine aw_skip ?_ | refine aw_block ?_ | refine aw_exit ?_ | refine aw_cond rfl (fun _ => ?_) (fun hb => absurd hb (by decide)) | refine aw_cond rfl (fun hb => absurd hb (by decide)) (fun _ => ?_) | (refine aw_reg (fun K hK => ?_); simp -implicitDefEqProofs [hk, hn]; refine hK _ ?_) | (refine aw_drw mixd (fun K hK => ?_); simp -implicitDefEqProofs [hk, hn]; refine hK _ _ (by rfl) ?_) | fail)
    refine aw_ret (fin_ret ?_); simp -implicitDefEqProofs [FinP, resV, resT, hk, hn, pP] <;> try rfl
  by_cases hs : x.s = y.s; rotate_left
  · repeat (first | refine aw_seq ?_ | refine aw_skip ?_ | refine aw_block ?_ | refine aw_exit ?_ | refine aw_cond rfl (fun _ => ?_) (fun hb => absurd hb (by decide)) | refine aw_cond rfl (fun hb => absurd hb (by decide)) (fun _ => ?_) | (refine aw_reg (fun K hK => ?_); simp -implicitDefEqProofs [hk, hn, hs]; refine hK _ ?_) | (refine aw_drw mixd (fun K hK => ?_); simp -implicitDefEqProofs [hk, hn, hs]; refine hK _ _ (by rfl) ?_) | fail)
    refine aw_ret (fin_ret ?_); simp -implicitDefEqProofs [FinP, resV, resT, hk, hn, hs, pP] <;> try rfl
  by_cases hf : x.f = y.f; rotate_left
  · repeat (first | refine aw_seq ?_ | refine aw_skip ?_ | refine aw_block ?_ | refine aw_exit ?_ | refine aw_cond rfl (fun _ => ?_) (fun hb => absurd hb (by decide)) | refine aw_cond rfl (fun hb => absurd hb (by decide)) (fun _ => ?_) | (refine aw_reg (fun K hK => ?_); simp -implicitDefEqProofs [hk, hn, hs, hf]; refine hK _ ?_) | (refine aw_drw mixd (fun K hK => ?_); simp -implicitDefEqProofs [hk, hn, hs, hf]; refine hK _ _ (by rfl) ?_) | fail)
    refine aw_ret (fin_ret ?_); simp -implicitDefEqProofs [FinP, resV, resT, hk, hn, hs, hf, pP] <;> try rfl
  by_cases ht : x.t = y.t; rotate_left
  · repeat (first | refine aw_seq ?_ | refine aw_skip ?_ | refine aw_block ?_ | refine aw_exit ?_ | refine aw_cond rfl (fun _ => ?_) (fun hb => absurd hb (by decide)) | refine aw_cond rfl (fun hb => absurd hb (by decide)) (fun _ => ?_) | (refine aw_reg (fun K hK => ?_); simp -implicitDefEqProofs [hk, hn, hs, hf, ht]; refine hK _ ?_) | (refine aw_drw mixd (fun K hK => ?_); simp -implicitDefEqProofs [hk, hn, hs, hf, ht]; refine hK _ _ (by rfl) ?_) | fail)
    refine aw_ret (fin_ret ?_); simp -implicitDefEqProofs [FinP, resV, resT, hk, hn, hs, hf, ht, pP] <;> try rfl
  by_cases hm : l.length = m.length; rotate_left
  · have hm' : ¬ (l.length : Int) = (m.length : Int) := by omega
    repeat (first | refine aw_seq ?_ | refine aw_skip ?_ | refine aw_block ?_ | refine aw_exit ?_ | refine aw_cond rfl (fun _ => ?_) (fun hb => absurd hb (by decide)) | refine aw_cond rfl (fun hb => absurd hb (by decide)) (fun _ => ?_) | (refine aw_reg (fun K hK => ?_); simp -implicitDefEqProofs [hk, hn, hs, hf, ht, hm, hm']; refine hK _ ?_) | (refine aw_drw mixd (fun K hK => ?_); simp -implicitDefEqProofs [hk, hn, hs, hf, ht, hm, hm']; refine hK _ _ (by rfl) ?_) | fail)
    refine aw_ret (fin_ret ?_); simp -implicitDefEqProofs [FinP, resV, resT, hk, hn, hs, hf, ht, hm, pP] <;> try rfl
  repeat (first | refine aw_seq ?_ | refine aw_skip ?_ | refine aw_block ?_ | refine aw_exit ?_ | refine aw_cond rfl (fun _ => ?_) (fun hb => absurd hb (by decide)) | refine aw_cond rfl (fun hb => absurd hb (by decide)) (fun _ => ?_) | (refine aw_reg (fun K hK => ?_); simp -implicitDefEqProofs [hk, hn, hs, hf, ht, hm]; refine hK _ ?_) | (refine aw_drw mixd (fun K hK => ?_); simp -implicitDefEqProofs [hk, hn, hs, hf, ht, hm]; refine hK _ _ (by rfl) ?_) | fail)
  refine aw_lp (ι := Nat) (fun k => mkSt [(2, .v (.c (.ptr 0 0))), (3, .v (.c (.ptr 1 0))), (5, vI (k : Nat))] [some (.box (ta (.mk x l))), some (.box (ta (.mk y m)))]) (fun k => k ≤ l.length ∧ zipA (eqv pP) l m k = true) (fun k => l.length - k) 0 ⟨Nat.zero_le _, zipA_zero _ _ _⟩ (cov_intro [0, 1] (by simp -implicitDefEqProofs [hk, hn, hs, hf, ht, hm]) (by simp -implicitDefEqProofs [hk, hn, hs, hf, ht, hm]) (by decide) rfl (by simp)) (fun Z hI k hkz => ?_)
  obtain ⟨hkl', hz⟩ := hkz
  by_cases hkl : k < l.length; rotate_left
  · have : k = l.length := by omega
    subst this
    rw [show (pP x y && decide (l.length = m.length) && zipA (eqv pP) l m l.length) = true by rw [hz]; simp [pP, hk, hn, hs, hf, ht, hm]]
    repeat (first | refine aw_seq ?_ | refine aw_skip ?_ | refine aw_block ?_ | refine aw_exit ?_ | refine aw_cond rfl (fun _ => ?_) (fun hb => absurd hb (by decide)) | refine aw_cond rfl (fun hb => absurd hb (by decide)) (fun _ => ?_) | (refine aw_reg (fun K hK => ?_); simp -implicitDefEqProofs; refine hK _ ?_) | (refine aw_drw mixd (fun K hK => ?_); simp -implicitDefEqProofs; refine hK _ _ (by rfl) ?_) | fail)
    refine aw_ret (fin_ret ?_); simp -implicitDefEqProofs [FinP, resV, resT] <;> try rfl
  have hkm : k < m.length := by omega
  obtain ⟨⟨ax, al⟩, ha⟩ : ∃ a, l[k]? = some a := ⟨_, List.getElem?_eq_getElem hkl⟩
  obtain ⟨⟨bx, bl⟩, hb⟩ : ∃ a, m[k]? = some a := ⟨_, List.getElem?_eq_getElem hkm⟩
  have ha' := (List.getElem?_eq_some_iff.1 ha).2
  have hb' := (List.getElem?_eq_some_iff.1 hb).2
  have hsz1 := Tr.size_at (x := x) ha
  have hsz2 := Tr.size_at (x := y) hb
  have w2 : IntKind.i64.wrap ((k : Nat) + 1 : Int) = (k : Nat) + 1 := i64i _ (by omega) (by omega)
  have hzs := zipA_succ (f := eqv pP) ha hb
  repeat (first | refine aw_seq ?_ | refine aw_skip ?_ | refine aw_block ?_ | refine aw_exit ?_ | refine aw_cond rfl (fun _ => ?_) (fun hb => absurd hb (by decide)) | refine aw_cond rfl (fun hb => absurd hb (by decide)) (fun _ => ?_) | (refine aw_reg (fun K hK => ?_); simp -implicitDefEqProofs [hkl]; refine hK _ ?_) | (refine aw_drw mixd (fun K hK => ?_); simp -implicitDefEqProofs [hkl]; refine hK _ _ (by rfl) ?_) | fail)
  refine aw_drw mixd (fun K hK => ?_); simp -implicitDefEqProofs [hkl, hkm, ha, ha', hb, hb']
  refine ard_call (calld_pure (ih _ (List.mem_of_getElem? ha) (by omega) (.mk bx bl) (by omega)) (by simp) (fun _ => rfl) rfl ?_)
  simp -implicitDefEqProofs
  refine hK _ _ (by rfl) ?_
  refine aw_cond rfl (fun hb => ?_) (fun hb => ?_)
  · have hf : plac (.mk ax al) (.mk bx bl) = false := by simpa using hb
    repeat (first | refine aw_seq ?_ | refine aw_skip ?_ | refine aw_block ?_ | refine aw_exit ?_ | refine aw_cond rfl (fun _ => ?_) (fun hb => absurd hb (by decide)) | refine aw_cond rfl (fun hb => absurd hb (by decide)) (fun _ => ?_) | (refine aw_reg (fun K hK => ?_); simp -implicitDefEqProofs; refine hK _ ?_) | (refine aw_drw mixd (fun K hK => ?_); simp -implicitDefEqProofs; refine hK _ _ (by rfl) ?_) | fail)
    have e : zipA (eqv pP) l m l.length = false := by
      have := zipA_mono (l.length - (k + 1)) (show zipA (eqv pP) l m (k + 1) = false by rw [hzs, hz]; simpa using hf)
      rwa [show k + 1 + (l.length - (k + 1)) = l.length by omega] at this
    refine aw_ret (fin_ret ?_); simp -implicitDefEqProofs [FinP, resV, resT, e] <;> try rfl
  · have hf : plac (.mk ax al) (.mk bx bl) = true := by simpa using hb
    repeat (first | refine aw_seq ?_ | refine aw_skip ?_ | refine aw_block ?_ | refine aw_exit ?_ | refine aw_cond rfl (fun _ => ?_) (fun hb => absurd hb (by decide)) | refine aw_cond rfl (fun hb => absurd hb (by decide)) (fun _ => ?_) | (refine aw_reg (fun K hK => ?_); simp -implicitDefEqProofs [w2]; refine hK _ ?_) | (refine aw_drw mixd (fun K hK => ?_); simp -implicitDefEqProofs [w2]; refine hK _ _ (by rfl) ?_) | fail)
    refine ⟨k + 1, ⟨by omega, by rw [hzs, hz]; simpa using hf⟩, (by dsimp only; omega), ?_⟩
    rw [hI]; exact cov_intro [0, 1] (by simp -implicitDefEqProofs) (by simp -implicitDefEqProofs) (by decide) rfl (by simp)
noncomputable abbrev tA : VT := .mk ⟨5, 3, ⟨#[]⟩, 0, 0⟩ []
theorem tA_e : tE tA = [5, 6, 0] := by
  rw [tE_mk]
  rw [show zigs.zig (3 : Int) = 6 by decide, show vs.enc 6 = [6] by decide]
  simp
  decide
theorem tA_er : erT tA 1 = 0 := by
  rw [erT_mk, if_neg (by decide), if_neg (by decide), if_neg (by decide)]
  rfl
theorem awake36_row : Row Try.prog 7 [] [] (vB true) [] := by
  have hc := cterm_row tA ((Tr.all_mk _ _ _).2 ⟨by unfold Lab.ok; decide, by simp⟩) (by rw [Tr.size_mk]; simp)
  unfold ptV at hc
  rw [tA_er, if_pos rfl, tA_e] at hc
  refine row_of Try.func7 rfl rfl (Nat.le_of_ble_eq_true rfl) ?_
  repeat' (first | refine aw_seq ?_ | refine aw_skip ?_ | refine aw_block ?_ | refine aw_exit ?_ | refine aw_ct rfl ?_ | refine aw_cf rfl ?_ | ((first | refine aw_reg (fun K hK => ?_) | refine aw_drw mixd (fun K hK => ?_) | refine ar_call (cp hc ?_) | refine ard_call (dp hc ?_) | fail); simp -implicitDefEqProofs [iC]) | refine hK _ ?_ | refine hK _ _ (by rfl) ?_ | fail)
  refine aw_ret (fin_ret ?_); simp -implicitDefEqProofs [FinP, resV, resT] <;> try rfl
theorem law_codet_row (A B : List Int) (t : VT) (hA : bs.AllB A) (hB : bs.AllB B) (hAl : A.length ≤ 1048576) (hBl : B.length ≤ 1048576) (hi : in64 t) : Row Try.prog 3 [vBy A, vT t, vBy B] [] (vB true) [] := by
  have hlg := rlarge_row t
  have haw := awake36_row
  cases hg : large t
  case true =>
    rw [hg] at hlg
    obtain ⟨x, l⟩ := t
    refine row_of Try.func3 rfl rfl (Nat.le_of_ble_eq_true rfl) ?_
    repeat' (first | refine aw_seq ?_ | refine aw_skip ?_ | refine aw_block ?_ | refine aw_exit ?_ | refine aw_ct rfl ?_ | refine aw_cf rfl ?_ | ((first | refine aw_reg (fun K hK => ?_) | refine aw_drw mixd (fun K hK => ?_) | refine ar_call (cp hlg ?_) | refine ard_call (dp hlg ?_) | refine ar_call (cp haw ?_) | refine ard_call (dp haw ?_) | fail); simp -implicitDefEqProofs) | refine hK _ ?_ | refine hK _ _ (by rfl) ?_ | fail)
    refine aw_ret (fin_ret ?_); simp -implicitDefEqProofs [FinP, resV, resT] <;> try rfl
  have hsz := large_size hg
  rw [hg] at hlg
  have hc := cterm_row t hi (by omega)
  have hr := rterm_row t hi (by omega) 1 (by omega) (by omega)
  unfold ptV at hc
  unfold rtV at hr
  by_cases he : erT t 1 = 0; rotate_left
  · rw [if_neg he] at hc hr
    obtain ⟨e, hee⟩ : ∃ e, erT t 1 = e := ⟨_, rfl⟩
    rw [hee] at hc hr he
    clear hsz hg hee
    obtain ⟨x, l⟩ := t
    refine row_of Try.func3 rfl rfl (Nat.le_of_ble_eq_true rfl) ?_
    repeat' (first | refine aw_seq ?_ | refine aw_skip ?_ | refine aw_block ?_ | refine aw_exit ?_ | refine aw_ct rfl ?_ | refine aw_cf rfl ?_ | ((first | refine aw_reg (fun K hK => ?_) | refine aw_drw mixd (fun K hK => ?_) | refine ar_call (cp hlg ?_) | refine ard_call (dp hlg ?_) | refine ar_call (cp haw ?_) | refine ard_call (dp haw ?_) | refine ar_call (cp hc ?_) | refine ard_call (dp hc ?_) | refine ar_call (cp hr ?_) | refine ard_call (dp hr ?_) | fail); simp -implicitDefEqProofs [he]) | refine hK _ ?_ | refine hK _ _ (by rfl) ?_ | fail)
    refine aw_ret (fin_ret ?_); simp -implicitDefEqProofs [FinP, resV, resT] <;> try rfl
  rw [if_pos he, he] at hc hr
  have htb := tE_bytes t hi (by omega) 1 he
  have htl := tE_len t
  have hpl := rplac_row t (by omega) t (by omega)
  rw [plac_refl] at hpl
  have hrd := cread_row (A ++ (tE t ++ B)) (fun z hz => by
    rcases List.mem_append.1 hz with h | h
    · exact hA z h
    rcases List.mem_append.1 h with h | h
    · exact htb z h
    · exact hB z h) (by simp only [List.length_append]; omega) t hi (by omega) he A.length (A.length + (tE t).length) B (by simp) (by simp) rfl
  obtain ⟨T, hT⟩ : ∃ T, tE t = T := ⟨_, rfl⟩
  rw [hT] at hc hr hrd htl htb
  have hsm := bsame_row T (by omega)
  have w1 : IntKind.i64.wrap ((A.length : Int) + (T.length : Int)) = ((A.length : Int) + (T.length : Int)) := i64i _ (by omega) (by omega)
  have hap : iC A ++ (iC T ++ iC B) = iC (A ++ (T ++ B)) := by rw [iC_app, iC_app]
  have g1 : A.length ≤ 140737488355328 := by omega
  have g2 : A.length + T.length ≤ 140737488355328 := by omega
  have g3 : A.length + T.length + B.length ≤ 140737488355328 := by omega
  have g4 : A.length + (T.length + B.length) ≤ 140737488355328 := by omega
  clear hsz hg htb htl he hT hA hB hAl hBl
  obtain ⟨x, l⟩ := t
  refine row_of Try.func3 rfl rfl (Nat.le_of_ble_eq_true rfl) ?_
  repeat' (first | refine aw_seq ?_ | refine aw_skip ?_ | refine aw_block ?_ | refine aw_exit ?_ | refine aw_ct rfl ?_ | refine aw_cf rfl ?_ | ((first | refine aw_reg (fun K hK => ?_) | refine aw_drw mixd (fun K hK => ?_) | refine ar_call (cp hlg ?_) | refine ard_call (dp hlg ?_) | refine ar_call (cp haw ?_) | refine ard_call (dp haw ?_) | refine ar_call (cp hc ?_) | refine ard_call (dp hc ?_) | refine ar_call (cp hr ?_) | refine ard_call (dp hr ?_) | refine ar_call (cp hsm ?_) | refine ard_call (dp hsm ?_) | refine ar_call (cp hrd ?_) | refine ard_call (dp hrd ?_) | refine ar_call (cp hpl ?_) | refine ard_call (dp hpl ?_) | fail); simp -implicitDefEqProofs [iC_len, g1, g2, g3, g4, hap, w1]) | refine hK _ ?_ | refine hK _ _ (by rfl) ?_ | fail)
  refine aw_ret (fin_ret ?_); simp -implicitDefEqProofs [FinP, resV, resT] <;> try rfl
end Go.Proofs.Ytcjagcfjpfjanaa.am
end
section
namespace Go.Proofs.Ytcjagcfjpfjanaa.am
open Go.ChangeShapes Go.WideShapes Go.ChangeAt Go.RowKit
open vt
set_option linter.unusedVariables false
set_option linter.unusedSimpArgs false
set_option maxRecDepth 100000
theorem wf64 {z : Int} (h : (Lit.int .i64 z).wf = true) : -9223372036854775808 ≤ z ∧ z ≤ 9223372036854775807 := by
  simpa [Lit.wf, IntKind.min, IntKind.max, IntKind.signed, IntKind.bits] using h
theorem c_int : Try.prog.cellsOf 3 = 1 := by kernel_rfl
theorem c_int64 : Try.prog.cellsOf 2 = 1 := by kernel_rfl
theorem c_string : Try.prog.cellsOf 9 = 1 := by kernel_rfl
theorem c_terms : Try.prog.cellsOf 23 = 1 := by kernel_rfl
theorem c_term : Try.prog.cellsOf 25 = 6 := by kernel_rfl
theorem ty_int {n : Nat} {ps : List PV} (h : Ty Try.prog n 3 ps) : ∃ z, ps = [I z] ∧ -9223372036854775808 ≤ z ∧ z ≤ 9223372036854775807 := by
  cases n with
  | zero => exact h.elim
  | succ n => unfold Ty at h; rw [Try.underlying3] at h; obtain ⟨z, h1, h2⟩ := h; exact ⟨z, h1, wf64 h2⟩
theorem ty_int64 {n : Nat} {ps : List PV} (h : Ty Try.prog n 2 ps) : ∃ z, ps = [I z] ∧ -9223372036854775808 ≤ z ∧ z ≤ 9223372036854775807 := by
  cases n with
  | zero => exact h.elim
  | succ n => unfold Ty at h; rw [Try.underlying2] at h; obtain ⟨z, h1, h2⟩ := h; exact ⟨z, h1, wf64 h2⟩
theorem ty_string {n : Nat} {ps : List PV} (h : Ty Try.prog n 9 ps) : ∃ s, ps = [Sx s] ∧ s.size ≤ maxLen := by
  cases n with
  | zero => exact h.elim
  | succ n => unfold Ty at h; rw [Try.underlying9] at h; exact h
theorem ty_term : ∀ (n : Nat) (ps : List PV), Ty Try.prog n 25 ps → ∃ t : VT, ps = tc t ∧ in64 t := by
  intro n
  induction n using Nat.strongRecOn with
  | ind n ih =>
  intro ps h
  cases n with
  | zero => exact h.elim
  | succ n =>
    unfold Ty at h
    rw [Try.underlying25] at h
    obtain ⟨hl, hf⟩ := h
    simp only [List.mem_cons, List.not_mem_nil, or_false, forall_eq_or_imp, forall_eq, c_int, c_int64, c_string, c_terms] at hf
    rw [c_term] at hl
    match ps, hl with
    | [p0, p1, p2, p3, p4, p5], _ =>
      obtain ⟨f0, f1, f2, f3, f4, f5⟩ := hf
      obtain ⟨z0, e0, w0⟩ := ty_int f0
      obtain ⟨z1, e1, w1⟩ := ty_int64 f1
      obtain ⟨s2, e2, w2⟩ := ty_string f2
      obtain ⟨z4, e4, w4⟩ := ty_int f4
      obtain ⟨z5, e5, w5⟩ := ty_int f5
      simp at e0 e1 e2 e4 e5
      subst e0 e1 e2 e4 e5
      cases n with
      | zero => exact f3.elim
      | succ n =>
        unfold Ty at f3
        rw [Try.underlying23] at f3
        obtain ⟨l, e3, _, hl⟩ := f3
        rw [c_term] at e3
        simp at e3
        subst e3
        obtain ⟨L, hL, hq⟩ := bs.choose_list l.length (fun i (x : VT) => l[i]? = some (tc x) ∧ in64 x) (fun i hi => by
          obtain ⟨x, h1, h2⟩ := ih n (by omega) (l[i]'hi) (hl _ (List.getElem_mem hi))
          exact ⟨x, by rw [List.getElem?_eq_getElem hi, h1], h2⟩)
        have hlm : l = L.map tc := by
          apply List.ext_getElem?
          intro i
          rw [List.getElem?_map]
          by_cases hi : i < L.length
          · have := hq i _ (List.getElem?_eq_getElem hi)
            rw [this.1, List.getElem?_eq_getElem hi]; rfl
          · rw [List.getElem?_eq_none (by omega), List.getElem?_eq_none (by omega)]; rfl
        refine ⟨.mk ⟨z0, z1, s2, z4, z5⟩ L, by rw [tc_mk, hlm], (Tr.all_mk _ _ _).2 ⟨⟨w0, w1, w4, w5⟩, fun y hy => ?_⟩⟩
        obtain ⟨i, hi⟩ := List.mem_iff_getElem?.1 hy
        exact (hq i y hi).2
def clT : List TypeId := [3, 2, 9, 23, 25]
theorem clT_ok : clT.all (okTy Try.prog clT) = true := by kernel_rfl
theorem open_vterm {H : Type} {enc : TypeId × Value → H} {w : World} {r : Reach} {b0 : Nat} {v : Value} {d : DataW H} {p : List MemPlace}
    (hv : Value.okWide Try.prog w r b0 25 v) (h : DataW.Trod enc Try.prog w 0 (fun _ => true) true 25 v d p) : ∃ t : VT, RepV (fun _ => .un) (oldS w) w v (vT t) ∧ in64 t := by
  obtain ⟨cs, rfl, hsz⟩ := okWide_struct Try.underlying25 hv
  obtain ⟨n, ps, h1, h2⟩ := open_agg clT_ok (by decide) h
  obtain ⟨t, rfl, h3⟩ := ty_term n ps h2
  exact ⟨t, h1, h3⟩
end Go.Proofs.Ytcjagcfjpfjanaa.am
end
section
namespace Go.Proofs.Ytcjagcfjpfjanaa.bs
open Go.ChangeShapes Go.WideShapes Go.ChangeAt Go.RowKit
set_option linter.unusedVariables false
section
variable {H : Type} {enc : TypeId × Value → H} {P : Program} {w : World}
theorem open_bytes_cell {t e : TypeId} {fuel : Nat} {v : Value} {y : DataW H × List MemPlace} (ht : P.underlying t = some (.slice e)) (he : P.underlying e = some (.int .u8)) (hc : P.cellsOf e = 1)
    (h : DataW.trod enc P w 0 (fun _ => true) true fuel t [v] = some y) :
    ∃ a n c l, v = .slice a n c ∧ Bytes w a n c l ∧ c ≤ maxLen ∧ (c = 0 ∨ ∃ x z, y.1 = .slice x z ∧ x.length + z.length = c) := by
  rcases open_ints ht he hc h with ⟨hcs, hy⟩ | ⟨x, n, c, zs, hcs, _, hl, hm, hz, hx, hcell, hwz⟩
  · simp only [List.cons.injEq, and_true] at hcs
    subst hcs
    exact ⟨none, 0, 0, [], rfl, bytes_of_row (.inl ⟨rfl, rfl, rfl, rfl⟩), by simp [maxLen], .inl rfl⟩
  · simp only [List.cons.injEq, and_true] at hcs
    subst hcs
    have hz' : zs.length = c := by simpa using hz
    refine ⟨some x, n, c, _, rfl, bytes_of_row (.inr ⟨x, rfl, hl, hm, hz', hcell, hwz⟩), hm, .inr ⟨_, _, by rw [hx], ?_⟩⟩
    simp only [lits, List.length_map, List.length_take, List.length_drop]
    omega
theorem open_bytes {r : Reach} {b0 : Nat} {t e : TypeId} {v : Value} {d : DataW H} {p : List MemPlace} (ht : P.underlying t = some (.slice e)) (he : P.underlying e = some (.int .u8)) (hc : P.cellsOf e = 1)
    (hv : Value.okWide P w r b0 t v) (h : DataW.Trod enc P w 0 (fun _ => true) true t v d p) :
    ∃ a n c l, v = .slice a n c ∧ Bytes w a n c l ∧ c ≤ maxLen ∧ (c = 0 ∨ ∃ x z, d = .slice x z ∧ x.length + z.length = c) := by
  obtain ⟨a, n, c, rfl⟩ := okWide_slice ht hv
  obtain ⟨fuel, hf⟩ := h
  obtain ⟨a', n', c', l, he', hb, hm, hd⟩ := open_bytes_cell ht he hc hf
  cases he'
  exact ⟨_, _, _, l, rfl, hb, hm, hd⟩
theorem in64 {z : Int} (h : (Lit.int .i64 z).wf = true) : -9223372036854775808 ≤ z ∧ z ≤ 9223372036854775807 := by simpa [Lit.wf, IntKind.min, IntKind.max, IntKind.signed, IntKind.bits] using h
end
end Go.Proofs.Ytcjagcfjpfjanaa.bs
end
section
namespace Go.Proofs.Ytcjagcfjpfjanaa.bulks
theorem pos {H : Type} : ∀ d : DataW H, 0 < Rows.uptoBulk d := by
  intro d
  cases d with
  | lit l => cases l <;> simp only [Rows.uptoBulk] <;> omega
  | _ => simp only [Rows.uptoBulk]; omega
theorem mem_le {H : Type} (d : DataW H) : ∀ ds : List (DataW H), d ∈ ds → Rows.uptoBulk d ≤ Rows.uptoBulkAll ds
  | x :: r, h => by
    simp only [Rows.uptoBulkAll]
    rcases List.mem_cons.1 h with rfl | h'
    · omega
    · have := mem_le d r h'
      omega
theorem count_le {H : Type} : ∀ ds : List (DataW H), ds.length ≤ Rows.uptoBulkAll ds
  | [] => by simp [Rows.uptoBulkAll]
  | x :: r => by
    have := count_le r
    have := pos x
    simp only [Rows.uptoBulkAll, List.length_cons]
    omega
theorem slice_le {H : Type} (x y : List (DataW H)) : x.length + y.length + 1 ≤ Rows.uptoBulk (.slice x y) := by
  have := count_le x
  have := count_le y
  simp only [Rows.uptoBulk]
  omega
theorem arg_le {H : Type} {ds : List (DataW H)} (hk : Rows.uptoSmall H ds = true) {d : DataW H} (h : d ∈ ds) : Rows.uptoBulk d ≤ 1048576 :=
  Nat.le_trans (mem_le d ds h) (of_decide_eq_true hk)
end Go.Proofs.Ytcjagcfjpfjanaa.bulks
end
section
namespace Go.Proofs.Ytcjagcfjpfjanaa.am
open Go.ChangeShapes Go.WideShapes Go.ChangeAt Go.RowKit
open vt
set_option linter.unusedVariables false
set_option linter.unusedSimpArgs false
set_option maxRecDepth 100000
theorem blk_lt {w : World} {a : Addr} {v : Value} (h : w.cell? a = some v) : a.block < w.heap.size := by
  unfold World.cell? at h
  split at h
  · rename_i hb; exact (Array.getElem?_eq_some_iff.1 hb).1
  · cases h
theorem old_rep {w : World} {a : Option Addr} {n c : Nat} {l : List Int} (hb : bs.Bytes w a n c l) : RepP (oldS w) w (.slice a n c) (.sl 1 (iC l)) := by
  obtain rfl := hb.len
  have key : SlR (oldS w) w 1 (iC l) a c := by
    refine ⟨by rw [iC_len]; exact hb.cap, hb.most, hb.nil, ?_⟩
    rcases hb.at' with h0 | ⟨b, off, rfl, hc⟩
    · left
      have : l = [] := List.length_eq_zero_iff.1 h0
      rw [this]; rfl
    · right
      refine ⟨b, off, rfl, fun e he => ?_, fun i e j p h1 h2 => ?_⟩
      · obtain ⟨i, hi⟩ := List.mem_iff_getElem?.1 he
        obtain ⟨z, -, rfl⟩ := iC_at hi
        rfl
      · obtain ⟨z, hz, rfl⟩ := iC_at h1
        have hj : j = 0 := by have := (List.getElem?_eq_some_iff.1 h2).1; simpa using this
        subst hj
        obtain rfl := Option.some.inj h2
        have hi := (List.getElem?_eq_some_iff.1 hz).1
        have hcc := hc i hi
        have hd : l.getD i 0 = z := by simp [List.getD, hz]
        rw [hd] at hcc
        refine ⟨blk_lt hcc, .int .u8 z, ?_, .lit _ rfl⟩
        simpa using hcc
  have := sl_intro key
  rwa [iC_len] at this
theorem open_vbytesB {H : Type} {enc : TypeId × Value → H} {w : World} {r : Reach} {b0 : Nat} {v : Value} {d : DataW H} {p : List MemPlace} {K : Nat}
    (hv : Value.okWide Try.prog w r b0 22 v) (h : DataW.Trod enc Try.prog w 0 (fun _ => true) true 22 v d p) (hK : Rows.uptoBulk d ≤ K) : ∃ l : List Int, RepV (fun _ => .un) (oldS w) w v (vBy l) ∧ bs.AllB l ∧ l.length ≤ K := by
  obtain ⟨a, n, c, l, rfl, hb, hm, he⟩ := bs.open_bytes Try.underlying22 Try.underlying5 (by kernel_rfl) hv h
  refine ⟨l, old_rep hb, hb.all, ?_⟩
  have h1 := hb.len
  have h2 := hb.cap
  rcases he with h | ⟨x, z, hd, hl⟩
  · omega
  · rw [hd] at hK; have := bulks.slice_le x z; omega
end Go.Proofs.Ytcjagcfjpfjanaa.am
end
