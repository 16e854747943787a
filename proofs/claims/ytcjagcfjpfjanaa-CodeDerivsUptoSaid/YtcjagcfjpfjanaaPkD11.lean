import Derived.IntWalk
import Derived.Test.YtcjagcfjpfjanaaPkD4
import Derived.Test.YtcjagcfjpfjanaaPkD8
import Derived.Test.YtcjagcfjpfjanaaPkD10
import Derived.Test.YtcjagcfjpfjanaaPkD7
import Derived.Test.YtcjagcfjpfjanaaChecked
import Derived.Test.YtcjagcfjpfjanaaPkD5
import Derived.ChangeOld
import Derived.Lib.SmallJoins
import Derived.Test.YtcjagcfjpfjanaaPkD0
import Derived.Test.YtcjagcfjpfjanaaRows
set_option maxRecDepth 100000
set_option maxHeartbeats 4000000
section
namespace Go.Proofs.Ytcjagcfjpfjanaa.am
open Go.ChangeShapes Go.WideShapes Go.ChangeAt Go.RowKit
open vt
set_option linter.unusedVariables false
set_option linter.unusedSimpArgs false
theorem rsame_row (t : VT) : t.size ≤ 1000000 → ∀ u : VT, u.size ≤ 1000000 → Row Try.prog 66 [vT t, vT u] [] (vB (same t u)) [] := by
  induction t using Tr.ind with
  | h x l ih =>
  intro hsz u hsu
  obtain ⟨y, m⟩ := u
  have hlen := Tr.len_size (x := x) (l := l)
  rw [show same (.mk x l) (.mk y m) = _ from eqv_mk vt.pS x y l m]
  refine row_of Try.func66 rfl rfl (Nat.le_of_ble_eq_true rfl) ?_
  by_cases hk : x.k = y.k; rotate_left
  · repeat (first | refine aw_seq ?_ | refine aw_skip ?_ | refine aw_block ?_ | refine aw_exit ?_ | refine aw_ct rfl ?_ | refine aw_cf rfl ?_ | ((first | refine aw_reg (fun K hK => ?_) | refine aw_drw mixd (fun K hK => ?_) | fail); simp -implicitDefEqProofs [hk]; first | refine hK _ ?_ | refine hK _ _ (by rfl) ?_ | fail) | fail)
    refine aw_ret (fin_ret ?_); simp -implicitDefEqProofs [FinP, resV, resT, hk, vt.pS] <;> try rfl
  by_cases hn : x.n = y.n; rotate_left
  · repeat (first | refine aw_seq ?_ | refine aw_skip ?_ | refine aw_block ?_ | refine aw_exit ?_ | refine aw_ct rfl ?_ | refine aw_cf rfl ?_ | ((first | refine aw_reg (fun K hK => ?_) | refine aw_drw mixd (fun K hK => ?_) | fail); simp -implicitDefEqProofs [hk, hn]; first | refine hK _ ?_ | refine hK _ _ (by rfl) ?_ | fail) | fail)
    refine aw_ret (fin_ret ?_); simp -implicitDefEqProofs [FinP, resV, resT, hk, hn, vt.pS] <;> try rfl
  by_cases hs : x.s = y.s; rotate_left
  · repeat (first | refine aw_seq ?_ | refine aw_skip ?_ | refine aw_block ?_ | refine aw_exit ?_ | refine aw_ct rfl ?_ | refine aw_cf rfl ?_ | ((first | refine aw_reg (fun K hK => ?_) | refine aw_drw mixd (fun K hK => ?_) | fail); simp -implicitDefEqProofs [hk, hn, hs]; first | refine hK _ ?_ | refine hK _ _ (by rfl) ?_ | fail) | fail)
    refine aw_ret (fin_ret ?_); simp -implicitDefEqProofs [FinP, resV, resT, hk, hn, hs, vt.pS] <;> try rfl
  by_cases hm : l.length = m.length; rotate_left
  · have hm' : ¬ (l.length : Int) = (m.length : Int) := by omega
    repeat (first | refine aw_seq ?_ | refine aw_skip ?_ | refine aw_block ?_ | refine aw_exit ?_ | refine aw_ct rfl ?_ | refine aw_cf rfl ?_ | ((first | refine aw_reg (fun K hK => ?_) | refine aw_drw mixd (fun K hK => ?_) | fail); simp -implicitDefEqProofs [hk, hn, hs, hm, hm']; first | refine hK _ ?_ | refine hK _ _ (by rfl) ?_ | fail) | fail)
    refine aw_ret (fin_ret ?_); simp -implicitDefEqProofs [FinP, resV, resT, hk, hn, hs, hm, vt.pS] <;> try rfl
  repeat (first | refine aw_seq ?_ | refine aw_skip ?_ | refine aw_block ?_ | refine aw_exit ?_ | refine aw_ct rfl ?_ | refine aw_cf rfl ?_ | ((first | refine aw_reg (fun K hK => ?_) | refine aw_drw mixd (fun K hK => ?_) | fail); simp -implicitDefEqProofs [hk, hn, hs, hm]; first | refine hK _ ?_ | refine hK _ _ (by rfl) ?_ | fail) | fail)
  refine aw_lp (ι := Nat) (fun k => mkSt [(2, .v (.c (.ptr 0 0))), (3, .v (.c (.ptr 1 0))), (5, vI (k : Nat))] [some (.box (ta (.mk x l))), some (.box (ta (.mk y m)))]) (fun k => k ≤ l.length ∧ zipA (eqv vt.pS) l m k = true) (fun k => l.length - k) 0 ⟨Nat.zero_le _, zipA_zero _ _ _⟩ (cov_intro [0, 1] (by simp -implicitDefEqProofs [hk, hn, hs, hm]) (by simp -implicitDefEqProofs [hk, hn, hs, hm]) (by decide) rfl (by simp)) (fun Z hI k hkz => ?_)
  obtain ⟨hkl', hz⟩ := hkz
  by_cases hkl : k < l.length; rotate_left
  · have : k = l.length := by omega
    subst this
    rw [show (vt.pS x y && decide (l.length = m.length) && zipA (eqv vt.pS) l m l.length) = true by rw [hz]; simp [vt.pS, hk, hn, hs, hm]]
    repeat (first | refine aw_seq ?_ | refine aw_skip ?_ | refine aw_block ?_ | refine aw_exit ?_ | refine aw_ct rfl ?_ | refine aw_cf rfl ?_ | ((first | refine aw_reg (fun K hK => ?_) | refine aw_drw mixd (fun K hK => ?_) | fail); simp -implicitDefEqProofs; first | refine hK _ ?_ | refine hK _ _ (by rfl) ?_ | fail) | fail)
    refine aw_ret (fin_ret ?_); simp -implicitDefEqProofs [FinP, resV, resT] <;> try rfl
  have hkm : k < m.length := by omega
  obtain ⟨⟨ax, al⟩, ha⟩ : ∃ a, l[k]? = some a := ⟨_, List.getElem?_eq_getElem hkl⟩
  obtain ⟨⟨bx, bl⟩, hb⟩ : ∃ a, m[k]? = some a := ⟨_, List.getElem?_eq_getElem hkm⟩
  have ha' := (List.getElem?_eq_some_iff.1 ha).2
  have hb' := (List.getElem?_eq_some_iff.1 hb).2
  have hsz1 := Tr.size_at (x := x) ha
  have hsz2 := Tr.size_at (x := y) hb
  have w2 : IntKind.i64.wrap ((k : Nat) + 1 : Int) = (k : Nat) + 1 := i64i _ (by omega) (by omega)
  have hzs := zipA_succ (f := eqv vt.pS) ha hb
  repeat (first | refine aw_seq ?_ | refine aw_skip ?_ | refine aw_block ?_ | refine aw_exit ?_ | refine aw_ct rfl ?_ | refine aw_cf rfl ?_ | ((first | refine aw_reg (fun K hK => ?_) | refine aw_drw mixd (fun K hK => ?_) | fail); simp -implicitDefEqProofs [hkl]; first | refine hK _ ?_ | refine hK _ _ (by rfl) ?_ | fail) | fail)
  refine aw_drw mixd (fun K hK => ?_); simp -implicitDefEqProofs [hkl, hkm, ha, ha', hb, hb']
  refine ard_call (calld_pure (ih _ (List.mem_of_getElem? ha) (by omega) (.mk bx bl) (by omega)) (by simp) (fun _ => rfl) rfl ?_)
  simp -implicitDefEqProofs
  refine hK _ _ (by rfl) ?_
  refine aw_cond rfl (fun hb => ?_) (fun hb => ?_)
  · have hf : same (.mk ax al) (.mk bx bl) = false := by simpa using hb
    repeat (first | refine aw_seq ?_ | refine aw_skip ?_ | refine aw_block ?_ | refine aw_exit ?_ | refine aw_ct rfl ?_ | refine aw_cf rfl ?_ | ((first | refine aw_reg (fun K hK => ?_) | refine aw_drw mixd (fun K hK => ?_) | fail); simp -implicitDefEqProofs; first | refine hK _ ?_ | refine hK _ _ (by rfl) ?_ | fail) | fail)
    have e : zipA (eqv vt.pS) l m l.length = false := by
      have := zipA_mono (l.length - (k + 1)) (show zipA (eqv vt.pS) l m (k + 1) = false by rw [hzs, hz]; simpa using hf)
      rwa [show k + 1 + (l.length - (k + 1)) = l.length by omega] at this
    refine aw_ret (fin_ret ?_); simp -implicitDefEqProofs [FinP, resV, resT, e] <;> try rfl
  · have hf : same (.mk ax al) (.mk bx bl) = true := by simpa using hb
    repeat (first | refine aw_seq ?_ | refine aw_skip ?_ | refine aw_block ?_ | refine aw_exit ?_ | refine aw_ct rfl ?_ | refine aw_cf rfl ?_ | ((first | refine aw_reg (fun K hK => ?_) | refine aw_drw mixd (fun K hK => ?_) | fail); simp -implicitDefEqProofs [w2]; first | refine hK _ ?_ | refine hK _ _ (by rfl) ?_ | fail) | fail)
    refine ⟨k + 1, ⟨by omega, by rw [hzs, hz]; simpa using hf⟩, (by dsimp only; omega), ?_⟩
    rw [hI]; exact cov_intro [0, 1] (by simp -implicitDefEqProofs) (by simp -implicitDefEqProofs) (by decide) rfl (by simp)
theorem way_self (l : List Int) (hl : l.length ≤ 1000000) : Row Try.prog 35 [vIs l, vIs l] [] (vB true) [] := by
  refine row_of Try.func35 rfl rfl (Nat.le_of_ble_eq_true rfl) ?_
  repeat (first | refine aw_seq ?_ | refine aw_skip ?_ | refine aw_block ?_ | refine aw_exit ?_ | refine aw_ct rfl ?_ | refine aw_cf rfl ?_ | ((first | refine aw_reg (fun K hK => ?_) | refine aw_drw mixd (fun K hK => ?_) | fail); simp -implicitDefEqProofs; first | refine hK _ ?_ | refine hK _ _ (by rfl) ?_ | fail) | fail)
  refine aw_lp (ι := Nat) (fun k => mkSt [(0, vIs l), (1, vIs l), (5, vI (k : Nat))] []) (fun k => k ≤ l.length) (fun k => l.length - k) 0 (Nat.zero_le _) (cov_intro [] (by simp -implicitDefEqProofs) (by simp -implicitDefEqProofs) (by decide) rfl (by simp)) (fun Z hI k hk => ?_)
  by_cases hkl : k < l.length; rotate_left
  · have : k = l.length := by omega
    subst this
    repeat (first | refine aw_seq ?_ | refine aw_skip ?_ | refine aw_block ?_ | refine aw_exit ?_ | refine aw_ct rfl ?_ | refine aw_cf rfl ?_ | ((first | refine aw_reg (fun K hK => ?_) | refine aw_drw mixd (fun K hK => ?_) | fail); simp -implicitDefEqProofs; first | refine hK _ ?_ | refine hK _ _ (by rfl) ?_ | fail) | fail)
    refine aw_ret (fin_ret ?_); simp -implicitDefEqProofs [FinP, resV, resT] <;> try rfl
  have w2 : IntKind.i64.wrap ((k : Nat) + 1 : Int) = (k : Nat) + 1 := i64i _ (by omega) (by omega)
  repeat (first | refine aw_seq ?_ | refine aw_skip ?_ | refine aw_block ?_ | refine aw_exit ?_ | refine aw_ct rfl ?_ | refine aw_cf rfl ?_ | ((first | refine aw_reg (fun K hK => ?_) | refine aw_drw mixd (fun K hK => ?_) | fail); simp -implicitDefEqProofs [hkl, w2]; first | refine hK _ ?_ | refine hK _ _ (by rfl) ?_ | fail) | fail)
  refine ⟨k + 1, by omega, (by dsimp only; omega), ?_⟩
  rw [hI]; exact cov_intro [] (by simp -implicitDefEqProofs) (by simp -implicitDefEqProofs) (by decide) rfl (by simp)
theorem same34_self (x : DLab) (hs : smD x) : Row Try.prog 36 [vSt36 x.s, vSt36 x.s] [] (vB true) [] := by
  obtain ⟨-, s1, s2, s3⟩ := hs
  have hp := way_self x.s.p (by omega)
  have hn := way_self x.s.n (by omega)
  have ht := rsame_row x.s.t (by omega) x.s.t (by omega)
  rw [same_refl] at ht
  clear s1 s2 s3
  obtain ⟨ak, ap, ⟨ar, ab, asp, asn, ⟨ax, atl⟩⟩⟩ := x
  dsimp only at hp hn ht ⊢
  refine row_of Try.func36 rfl rfl (Nat.le_of_ble_eq_true rfl) ?_
  repeat' (first | refine aw_seq ?_ | refine aw_skip ?_ | refine aw_block ?_ | refine aw_exit ?_ | refine aw_ct rfl ?_ | refine aw_cf rfl ?_ | ((first | refine aw_reg (fun K hK => ?_) | refine aw_drw mixd (fun K hK => ?_) | refine ar_call (cp hp ?_) | refine ard_call (dp hp ?_) | refine ar_call (cp hn ?_) | refine ard_call (dp hn ?_) | refine ar_call (cp ht ?_) | refine ard_call (dp ht ?_) | fail); simp -implicitDefEqProofs) | refine hK _ ?_ | refine hK _ _ (by rfl) ?_ | fail)
  refine aw_ret (fin_ret ?_); simp -implicitDefEqProofs [FinP, resV, resT] <;> try rfl
theorem same35_self (d : DT) : Tr.all smD d → d.size ≤ 1000 → Row Try.prog 17 [vD d, vD d] [] (vB true) [] := by
  induction d using Tr.ind with
  | h x l ih =>
  intro hs hsz
  obtain ⟨sx, sl⟩ := (Tr.all_mk _ _ _).1 hs
  have hlen := Tr.len_size (x := x) (l := l)
  have hp := way_self x.p (by have := sx.1; omega)
  have hst := same34_self x sx
  have hrow : ∀ y ∈ l, Row Try.prog 17 [vD y, vD y] [] (vB true) [] := fun y hy => by
    obtain ⟨i, hi⟩ := List.mem_iff_getElem?.1 hy
    have := Tr.size_at (x := x) hi
    exact ih y hy (sl y hy) (by omega)
  clear ih sx sl hs
  obtain ⟨ak, ap, ⟨ar, ab, asp, asn, ⟨ax, atl⟩⟩⟩ := x
  dsimp only at hp hst
  refine row_of Try.func17 rfl rfl (Nat.le_of_ble_eq_true rfl) ?_
  repeat' (first | refine aw_seq ?_ | refine aw_skip ?_ | refine aw_block ?_ | refine aw_exit ?_ | refine aw_ct rfl ?_ | refine aw_cf rfl ?_ | ((first | refine aw_reg (fun K hK => ?_) | refine aw_drw mixd (fun K hK => ?_) | refine ar_call (cp hp ?_) | refine ard_call (dp hp ?_) | refine ar_call (cp hst ?_) | refine ard_call (dp hst ?_) | fail); simp -implicitDefEqProofs) | refine hK _ ?_ | refine hK _ _ (by rfl) ?_ | fail)
  refine aw_lp (ι := Nat) (fun k => mkSt [(2, .v (.c (.ptr 0 0))), (3, .v (.c (.ptr 1 0))), (5, vI (k : Nat))] [some (.box [.pv (I ak), .pv (Is ap), .pv (I ar), .pv (Bo ab), .pv (Is asp), .pv (Is asn), .pv (I ax.k), .pv (I ax.n), .pv (Sx ax.s), .pv (.sl 6 (atl.map tc)), .pv (I ax.f), .pv (I ax.t), .pv (.sl 13 (l.map dc))]), some (.box [.pv (I ak), .pv (Is ap), .pv (I ar), .pv (Bo ab), .pv (Is asp), .pv (Is asn), .pv (I ax.k), .pv (I ax.n), .pv (Sx ax.s), .pv (.sl 6 (atl.map tc)), .pv (I ax.f), .pv (I ax.t), .pv (.sl 13 (l.map dc))])]) (fun k => k ≤ l.length) (fun k => l.length - k) 0 (Nat.zero_le _) (cov_intro [0, 1] (by simp -implicitDefEqProofs) (by simp -implicitDefEqProofs) (by decide) rfl (by simp)) (fun Z hI k hk => ?_)
  by_cases hkl : k < l.length; rotate_left
  · have : k = l.length := by omega
    subst this
    repeat (first | refine aw_seq ?_ | refine aw_skip ?_ | refine aw_block ?_ | refine aw_exit ?_ | refine aw_ct rfl ?_ | refine aw_cf rfl ?_ | ((first | refine aw_reg (fun K hK => ?_) | refine aw_drw mixd (fun K hK => ?_) | fail); simp -implicitDefEqProofs; first | refine hK _ ?_ | refine hK _ _ (by rfl) ?_ | fail) | fail)
    refine aw_ret (fin_ret ?_); simp -implicitDefEqProofs [FinP, resV, resT] <;> try rfl
  obtain ⟨a, ha⟩ : ∃ a, l[k]? = some a := ⟨_, List.getElem?_eq_getElem hkl⟩
  have ha' := (List.getElem?_eq_some_iff.1 ha).2
  have w2 : IntKind.i64.wrap ((k : Nat) + 1 : Int) = (k : Nat) + 1 := i64i _ (by omega) (by omega)
  have hr := hrow a (List.mem_of_getElem? ha)
  clear hrow
  obtain ⟨⟨bk, bp, ⟨br, bb, bsp, bsn, ⟨bx, btl⟩⟩⟩, bl⟩ := a
  repeat' (first | refine aw_seq ?_ | refine aw_skip ?_ | refine aw_block ?_ | refine aw_exit ?_ | refine aw_ct rfl ?_ | refine aw_cf rfl ?_ | ((first | refine aw_reg (fun K hK => ?_) | refine aw_drw mixd (fun K hK => ?_) | refine ar_call (cp hr ?_) | refine ard_call (dp hr ?_) | fail); simp -implicitDefEqProofs [hkl, ha, ha', w2]) | refine hK _ ?_ | refine hK _ _ (by rfl) ?_ | fail)
  refine ⟨k + 1, by omega, (by dsimp only; omega), ?_⟩
  rw [hI]; exact cov_intro [0, 1] (by simp -implicitDefEqProofs) (by simp -implicitDefEqProofs) (by decide) rfl (by simp)
noncomputable abbrev tA : VT := .mk ⟨5, 3, ⟨#[]⟩, 0, 0⟩ []
theorem tA_e : tE tA = [5, 6, 0] := by
  rw [tE_mk]
  rw [show zigs.zig (3 : Int) = 6 by decide, show vs.enc 6 = [6] by decide]
  simp
  decide
theorem tA_er : erT tA 1 = 0 := by
  rw [erT_mk, if_neg (by decide), if_neg (by decide), if_neg (by decide)]
  rfl
theorem awake36_row : Row Try.prog 7 [] [] (vB true) [] := by
  have hc := cterm_row tA ((Tr.all_mk _ _ _).2 ⟨by unfold Lab.ok; decide, by simp⟩) (by rw [Tr.size_mk]; simp)
  unfold ptV at hc
  rw [tA_er, if_pos rfl, tA_e] at hc
  refine row_of Try.func7 rfl rfl (Nat.le_of_ble_eq_true rfl) ?_
  repeat' (first | refine aw_seq ?_ | refine aw_skip ?_ | refine aw_block ?_ | refine aw_exit ?_ | refine aw_ct rfl ?_ | refine aw_cf rfl ?_ | ((first | refine aw_reg (fun K hK => ?_) | refine aw_drw mixd (fun K hK => ?_) | refine ar_call (cp hc ?_) | refine ard_call (dp hc ?_) | fail); simp -implicitDefEqProofs [iC]) | refine hK _ ?_ | refine hK _ _ (by rfl) ?_ | fail)
  refine aw_ret (fin_ret ?_); simp -implicitDefEqProofs [FinP, resV, resT] <;> try rfl
theorem law_coded_row (A B : List Int) (t : DT) (hA : bs.AllB A) (hB : bs.AllB B) (hAl : A.length ≤ 1048576) (hBl : B.length ≤ 1048576) (hi : dok64 t) : Row Try.prog 4 [vBy A, vD t, vBy B] [] (vB true) [] := by
  have hlg := rlargeD_row t
  have haw := awake36_row
  cases hg : largeD t
  case true =>
    rw [hg] at hlg
    obtain ⟨⟨bk, bp, ⟨br, bb, bsp, bsn, ⟨bx, btl⟩⟩⟩, bl⟩ := t
    refine row_of Try.func4 rfl rfl (Nat.le_of_ble_eq_true rfl) ?_
    repeat' (first | refine aw_seq ?_ | refine aw_skip ?_ | refine aw_block ?_ | refine aw_exit ?_ | refine aw_ct rfl ?_ | refine aw_cf rfl ?_ | ((first | refine aw_reg (fun K hK => ?_) | refine aw_drw mixd (fun K hK => ?_) | refine ar_call (cp hlg ?_) | refine ard_call (dp hlg ?_) | refine ar_call (cp haw ?_) | refine ard_call (dp haw ?_) | fail); simp -implicitDefEqProofs) | refine hK _ ?_ | refine hK _ _ (by rfl) ?_ | fail)
    refine aw_ret (fin_ret ?_); simp -implicitDefEqProofs [FinP, resV, resT] <;> try rfl
  obtain ⟨hsz, hsm⟩ := largeD_ok hg
  rw [hg] at hlg
  have hc := cderiv_row t hi hsm (by omega)
  obtain ⟨V, hV, hr⟩ := rderiv36_row t hi hsm (by omega) 1 (by omega)
  unfold pdV at hc
  by_cases he : dEr t 1 = 0; rotate_left
  · rw [if_neg he] at hc
    obtain ⟨e, hee⟩ : ∃ e, dEr t 1 = e := ⟨_, rfl⟩
    rw [hee] at hc hr he
    clear hsz hg hee hsm hV
    obtain ⟨⟨bk, bp, ⟨br, bb, bsp, bsn, ⟨bx, btl⟩⟩⟩, bl⟩ := t
    refine row_of Try.func4 rfl rfl (Nat.le_of_ble_eq_true rfl) ?_
    repeat' (first | refine aw_seq ?_ | refine aw_skip ?_ | refine aw_block ?_ | refine aw_exit ?_ | refine aw_ct rfl ?_ | refine aw_cf rfl ?_ | ((first | refine aw_reg (fun K hK => ?_) | refine aw_drw mixd (fun K hK => ?_) | refine ar_call (cp hlg ?_) | refine ard_call (dp hlg ?_) | refine ar_call (cp haw ?_) | refine ard_call (dp haw ?_) | refine ar_call (cp hc ?_) | refine ard_call (dp hc ?_) | refine ar_call (cp hr ?_) | refine ard_call (dp hr ?_) | fail); simp -implicitDefEqProofs [he]) | refine hK _ ?_ | refine hK _ _ (by rfl) ?_ | fail)
    refine aw_ret (fin_ret ?_); simp -implicitDefEqProofs [FinP, resV, resT] <;> try rfl
  rw [hV he] at hr
  rw [if_pos he] at hc
  have htb := dE_bytes t hi hsm (by omega) 1 he
  have htl := dE_len t hsm
  have hpl := same35_self t hsm (by omega)
  have hrd := creadD_row (A ++ (dE t ++ B)) (fun z hz => by
    rcases List.mem_append.1 hz with h | h
    · exact hA z h
    rcases List.mem_append.1 h with h | h
    · exact htb z h
    · exact hB z h) (by simp only [List.length_append]; omega) t hi hsm (by omega) he A.length (A.length + (dE t).length) B (by simp) (by simp) rfl
  rw [he] at hc hr
  obtain ⟨T, hT⟩ : ∃ T, dE t = T := ⟨_, rfl⟩
  rw [hT] at hc hr hrd htl htb
  have hsm' := bsame_row T (by omega)
  have w1 : IntKind.i64.wrap ((A.length : Int) + (T.length : Int)) = ((A.length : Int) + (T.length : Int)) := i64i _ (by omega) (by omega)
  have hap : iC A ++ (iC T ++ iC B) = iC (A ++ (T ++ B)) := by rw [iC_app, iC_app]
  have g1 : A.length ≤ 140737488355328 := by omega
  have g2 : A.length + T.length ≤ 140737488355328 := by omega
  have g3 : A.length + T.length + B.length ≤ 140737488355328 := by omega
  have g4 : A.length + (T.length + B.length) ≤ 140737488355328 := by omega
  clear hsz hg htb htl he hT hA hB hAl hBl hsm hV
  obtain ⟨⟨bk, bp, ⟨br, bb, bsp, bsn, ⟨bx, btl⟩⟩⟩, bl⟩ := t
  refine row_of Try.func4 rfl rfl (Nat.le_of_ble_eq_true rfl) ?_
  repeat' (first | refine aw_seq ?_ | refine aw_skip ?_ | refine aw_block ?_ | refine aw_exit ?_ | refine aw_ct rfl ?_ | refine aw_cf rfl ?_ | ((first | refine aw_reg (fun K hK => ?_) | refine aw_drw mixd (fun K hK => ?_) | refine ar_call (cp hlg ?_) | refine ard_call (dp hlg ?_) | refine ar_call (cp haw ?_) | refine ard_call (dp haw ?_) | refine ar_call (cp hc ?_) | refine ard_call (dp hc ?_) | refine ar_call (cp hr ?_) | refine ard_call (dp hr ?_) | refine ar_call (cp hsm' ?_) | refine ard_call (dp hsm' ?_) | refine ar_call (cp hrd ?_) | refine ard_call (dp hrd ?_) | refine ar_call (cp hpl ?_) | refine ard_call (dp hpl ?_) | fail); simp -implicitDefEqProofs [iC_len, g1, g2, g3, g4, hap, w1]) | refine hK _ ?_ | refine hK _ _ (by rfl) ?_ | fail)
  refine aw_ret (fin_ret ?_); simp -implicitDefEqProofs [FinP, resV, resT] <;> try rfl
end Go.Proofs.Ytcjagcfjpfjanaa.am
end
section
namespace Go.Proofs.Ytcjagcfjpfjanaa.am
open Go.ChangeShapes Go.WideShapes Go.ChangeAt Go.RowKit
open vt
set_option linter.unusedVariables false
set_option linter.unusedSimpArgs false
set_option maxRecDepth 100000
theorem wf64 {z : Int} (h : (Lit.int .i64 z).wf = true) : -9223372036854775808 ≤ z ∧ z ≤ 9223372036854775807 := by
  simpa [Lit.wf, IntKind.min, IntKind.max, IntKind.signed, IntKind.bits] using h
theorem c_int : Try.prog.cellsOf 3 = 1 := by kernel_rfl
theorem c_int64 : Try.prog.cellsOf 2 = 1 := by kernel_rfl
theorem c_string : Try.prog.cellsOf 9 = 1 := by kernel_rfl
theorem c_terms : Try.prog.cellsOf 23 = 1 := by kernel_rfl
theorem c_term : Try.prog.cellsOf 25 = 6 := by kernel_rfl
theorem ty_int {n : Nat} {ps : List PV} (h : Ty Try.prog n 3 ps) : ∃ z, ps = [I z] ∧ -9223372036854775808 ≤ z ∧ z ≤ 9223372036854775807 := by
  cases n with
  | zero => exact h.elim
  | succ n => unfold Ty at h; rw [Try.underlying3] at h; obtain ⟨z, h1, h2⟩ := h; exact ⟨z, h1, wf64 h2⟩
theorem ty_int64 {n : Nat} {ps : List PV} (h : Ty Try.prog n 2 ps) : ∃ z, ps = [I z] ∧ -9223372036854775808 ≤ z ∧ z ≤ 9223372036854775807 := by
  cases n with
  | zero => exact h.elim
  | succ n => unfold Ty at h; rw [Try.underlying2] at h; obtain ⟨z, h1, h2⟩ := h; exact ⟨z, h1, wf64 h2⟩
theorem ty_string {n : Nat} {ps : List PV} (h : Ty Try.prog n 9 ps) : ∃ s, ps = [Sx s] ∧ s.size ≤ maxLen := by
  cases n with
  | zero => exact h.elim
  | succ n => unfold Ty at h; rw [Try.underlying9] at h; exact h
theorem ty_term : ∀ (n : Nat) (ps : List PV), Ty Try.prog n 25 ps → ∃ t : VT, ps = tc t ∧ in64 t := by
  intro n
  induction n using Nat.strongRecOn with
  | ind n ih =>
  intro ps h
  cases n with
  | zero => exact h.elim
  | succ n =>
    unfold Ty at h
    rw [Try.underlying25] at h
    obtain ⟨hl, hf⟩ := h
    simp only [List.mem_cons, List.not_mem_nil, or_false, forall_eq_or_imp, forall_eq, c_int, c_int64, c_string, c_terms] at hf
    rw [c_term] at hl
    match ps, hl with
    | [p0, p1, p2, p3, p4, p5], _ =>
      obtain ⟨f0, f1, f2, f3, f4, f5⟩ := hf
      obtain ⟨z0, e0, w0⟩ := ty_int f0
      obtain ⟨z1, e1, w1⟩ := ty_int64 f1
      obtain ⟨s2, e2, w2⟩ := ty_string f2
      obtain ⟨z4, e4, w4⟩ := ty_int f4
      obtain ⟨z5, e5, w5⟩ := ty_int f5
      simp at e0 e1 e2 e4 e5
      subst e0 e1 e2 e4 e5
      cases n with
      | zero => exact f3.elim
      | succ n =>
        unfold Ty at f3
        rw [Try.underlying23] at f3
        obtain ⟨l, e3, _, hl⟩ := f3
        rw [c_term] at e3
        simp at e3
        subst e3
        obtain ⟨L, hL, hq⟩ := bs.choose_list l.length (fun i (x : VT) => l[i]? = some (tc x) ∧ in64 x) (fun i hi => by
          obtain ⟨x, h1, h2⟩ := ih n (by omega) (l[i]'hi) (hl _ (List.getElem_mem hi))
          exact ⟨x, by rw [List.getElem?_eq_getElem hi, h1], h2⟩)
        have hlm : l = L.map tc := by
          apply List.ext_getElem?
          intro i
          rw [List.getElem?_map]
          by_cases hi : i < L.length
          · have := hq i _ (List.getElem?_eq_getElem hi)
            rw [this.1, List.getElem?_eq_getElem hi]; rfl
          · rw [List.getElem?_eq_none (by omega), List.getElem?_eq_none (by omega)]; rfl
        refine ⟨.mk ⟨z0, z1, s2, z4, z5⟩ L, by rw [tc_mk, hlm], (Tr.all_mk _ _ _).2 ⟨⟨w0, w1, w4, w5⟩, fun y hy => ?_⟩⟩
        obtain ⟨i, hi⟩ := List.mem_iff_getElem?.1 hy
        exact (hq i y hi).2
end Go.Proofs.Ytcjagcfjpfjanaa.am
end
section
namespace Go.Proofs.Ytcjagcfjpfjanaa.bs
open Go.ChangeShapes Go.WideShapes Go.ChangeAt Go.RowKit
set_option linter.unusedVariables false
section
variable {H : Type} {enc : TypeId × Value → H} {P : Program} {w : World}
theorem open_bytes_cell {t e : TypeId} {fuel : Nat} {v : Value} {y : DataW H × List MemPlace} (ht : P.underlying t = some (.slice e)) (he : P.underlying e = some (.int .u8)) (hc : P.cellsOf e = 1)
    (h : DataW.trod enc P w 0 (fun _ => true) true fuel t [v] = some y) :
    ∃ a n c l, v = .slice a n c ∧ Bytes w a n c l ∧ c ≤ maxLen ∧ (c = 0 ∨ ∃ x z, y.1 = .slice x z ∧ x.length + z.length = c) := by
  rcases open_ints ht he hc h with ⟨hcs, hy⟩ | ⟨x, n, c, zs, hcs, _, hl, hm, hz, hx, hcell, hwz⟩
  · simp only [List.cons.injEq, and_true] at hcs
    subst hcs
    exact ⟨none, 0, 0, [], rfl, bytes_of_row (.inl ⟨rfl, rfl, rfl, rfl⟩), by simp [maxLen], .inl rfl⟩
  · simp only [List.cons.injEq, and_true] at hcs
    subst hcs
    have hz' : zs.length = c := by simpa using hz
    refine ⟨some x, n, c, _, rfl, bytes_of_row (.inr ⟨x, rfl, hl, hm, hz', hcell, hwz⟩), hm, .inr ⟨_, _, by rw [hx], ?_⟩⟩
    simp only [lits, List.length_map, List.length_take, List.length_drop]
    omega
theorem open_bytes {r : Reach} {b0 : Nat} {t e : TypeId} {v : Value} {d : DataW H} {p : List MemPlace} (ht : P.underlying t = some (.slice e)) (he : P.underlying e = some (.int .u8)) (hc : P.cellsOf e = 1)
    (hv : Value.okWide P w r b0 t v) (h : DataW.Trod enc P w 0 (fun _ => true) true t v d p) :
    ∃ a n c l, v = .slice a n c ∧ Bytes w a n c l ∧ c ≤ maxLen ∧ (c = 0 ∨ ∃ x z, d = .slice x z ∧ x.length + z.length = c) := by
  obtain ⟨a, n, c, rfl⟩ := okWide_slice ht hv
  obtain ⟨fuel, hf⟩ := h
  obtain ⟨a', n', c', l, he', hb, hm, hd⟩ := open_bytes_cell ht he hc hf
  cases he'
  exact ⟨_, _, _, l, rfl, hb, hm, hd⟩
theorem in64 {z : Int} (h : (Lit.int .i64 z).wf = true) : -9223372036854775808 ≤ z ∧ z ≤ 9223372036854775807 := by simpa [Lit.wf, IntKind.min, IntKind.max, IntKind.signed, IntKind.bits] using h
end
end Go.Proofs.Ytcjagcfjpfjanaa.bs
end
section
namespace Go.Proofs.Ytcjagcfjpfjanaa.bulks
theorem pos {H : Type} : ∀ d : DataW H, 0 < Rows.uptoBulk d := by
  intro d
  cases d with
  | lit l => cases l <;> simp only [Rows.uptoBulk] <;> omega
  | _ => simp only [Rows.uptoBulk]; omega
theorem mem_le {H : Type} (d : DataW H) : ∀ ds : List (DataW H), d ∈ ds → Rows.uptoBulk d ≤ Rows.uptoBulkAll ds
  | x :: r, h => by
    simp only [Rows.uptoBulkAll]
    rcases List.mem_cons.1 h with rfl | h'
    · omega
    · have := mem_le d r h'
      omega
theorem count_le {H : Type} : ∀ ds : List (DataW H), ds.length ≤ Rows.uptoBulkAll ds
  | [] => by simp [Rows.uptoBulkAll]
  | x :: r => by
    have := count_le r
    have := pos x
    simp only [Rows.uptoBulkAll, List.length_cons]
    omega
theorem slice_le {H : Type} (x y : List (DataW H)) : x.length + y.length + 1 ≤ Rows.uptoBulk (.slice x y) := by
  have := count_le x
  have := count_le y
  simp only [Rows.uptoBulk]
  omega
theorem arg_le {H : Type} {ds : List (DataW H)} (hk : Rows.uptoSmall H ds = true) {d : DataW H} (h : d ∈ ds) : Rows.uptoBulk d ≤ 1048576 :=
  Nat.le_trans (mem_le d ds h) (of_decide_eq_true hk)
end Go.Proofs.Ytcjagcfjpfjanaa.bulks
end
section
namespace Go.Proofs.Ytcjagcfjpfjanaa.am
open Go.ChangeShapes Go.WideShapes Go.ChangeAt Go.RowKit
open vt
set_option linter.unusedVariables false
set_option linter.unusedSimpArgs false
set_option maxRecDepth 100000
theorem blk_lt {w : World} {a : Addr} {v : Value} (h : w.cell? a = some v) : a.block < w.heap.size := by
  unfold World.cell? at h
  split at h
  · rename_i hb; exact (Array.getElem?_eq_some_iff.1 hb).1
  · cases h
theorem old_rep {w : World} {a : Option Addr} {n c : Nat} {l : List Int} (hb : bs.Bytes w a n c l) : RepP (oldS w) w (.slice a n c) (.sl 1 (iC l)) := by
  obtain rfl := hb.len
  have key : SlR (oldS w) w 1 (iC l) a c := by
    refine ⟨by rw [iC_len]; exact hb.cap, hb.most, hb.nil, ?_⟩
    rcases hb.at' with h0 | ⟨b, off, rfl, hc⟩
    · left
      have : l = [] := List.length_eq_zero_iff.1 h0
      rw [this]; rfl
    · right
      refine ⟨b, off, rfl, fun e he => ?_, fun i e j p h1 h2 => ?_⟩
      · obtain ⟨i, hi⟩ := List.mem_iff_getElem?.1 he
        obtain ⟨z, -, rfl⟩ := iC_at hi
        rfl
      · obtain ⟨z, hz, rfl⟩ := iC_at h1
        have hj : j = 0 := by have := (List.getElem?_eq_some_iff.1 h2).1; simpa using this
        subst hj
        obtain rfl := Option.some.inj h2
        have hi := (List.getElem?_eq_some_iff.1 hz).1
        have hcc := hc i hi
        have hd : l.getD i 0 = z := by simp [List.getD, hz]
        rw [hd] at hcc
        refine ⟨blk_lt hcc, .int .u8 z, ?_, .lit _ rfl⟩
        simpa using hcc
  have := sl_intro key
  rwa [iC_len] at this
theorem open_vbytesB {H : Type} {enc : TypeId × Value → H} {w : World} {r : Reach} {b0 : Nat} {v : Value} {d : DataW H} {p : List MemPlace} {K : Nat}
    (hv : Value.okWide Try.prog w r b0 22 v) (h : DataW.Trod enc Try.prog w 0 (fun _ => true) true 22 v d p) (hK : Rows.uptoBulk d ≤ K) : ∃ l : List Int, RepV (fun _ => .un) (oldS w) w v (vBy l) ∧ bs.AllB l ∧ l.length ≤ K := by
  obtain ⟨a, n, c, l, rfl, hb, hm, he⟩ := bs.open_bytes Try.underlying22 Try.underlying5 (by kernel_rfl) hv h
  refine ⟨l, old_rep hb, hb.all, ?_⟩
  have h1 := hb.len
  have h2 := hb.cap
  rcases he with h | ⟨x, z, hd, hl⟩
  · omega
  · rw [hd] at hK; have := bulks.slice_le x z; omega
theorem c_ints : Try.prog.cellsOf 37 = 1 := by kernel_rfl
theorem ty_int' (n : Nat) (ps : List PV) (h : Ty Try.prog n 3 ps) : ∃ z : Int, ps = (fun z : Int => [I z]) z ∧ (-9223372036854775808 ≤ z ∧ z ≤ 9223372036854775807) := by
  obtain ⟨z, h1, h2⟩ := ty_int h
  exact ⟨z, h1, h2⟩
theorem ty_ints {n : Nat} {ps : List PV} (h : Ty Try.prog n 37 ps) : ∃ L : List Int, ps = [Is L] ∧ ok64 L := by
  obtain ⟨L, e, _, hq⟩ := ty_slice (f := fun z : Int => [I z]) (Q := fun z : Int => -9223372036854775808 ≤ z ∧ z ≤ 9223372036854775807) Try.underlying37 ty_int' h
  rw [c_int] at e
  exact ⟨L, e, hq⟩
def clI : List TypeId := [3, 37]
theorem clI_ok : clI.all (okTy Try.prog clI) = true := by kernel_rfl
theorem open_ints {H : Type} {enc : TypeId × Value → H} {w : World} {r : Reach} {b0 : Nat} {v : Value} {d : DataW H} {p : List MemPlace}
    (hv : Value.okWide Try.prog w r b0 37 v) (h : DataW.Trod enc Try.prog w 0 (fun _ => true) true 37 v d p) : ∃ L : List Int, RepV (fun _ => .un) (oldS w) w v (vIs L) ∧ ok64 L := by
  obtain ⟨a, m, c, rfl⟩ := okWide_slice Try.underlying37 hv
  obtain ⟨n, q, h1, h2⟩ := open_cell clI_ok (by decide) rfl h
  obtain ⟨L, e, h3⟩ := ty_ints h2
  simp at e; subst e
  exact ⟨L, h1, h3⟩
theorem c_bool36 : Try.prog.cellsOf 4 = 1 := by kernel_rfl
theorem c_step36 : Try.prog.cellsOf 39 = 10 := by kernel_rfl
theorem c_deriv36 : Try.prog.cellsOf 42 = 13 := by kernel_rfl
theorem c_derivs36 : Try.prog.cellsOf 40 = 1 := by kernel_rfl
theorem ty_bool36 {n : Nat} {ps : List PV} (h : Ty Try.prog n 4 ps) : ∃ b, ps = [Bo b] := by
  cases n with
  | zero => exact h.elim
  | succ n => unfold Ty at h; rw [Try.underlying4] at h; exact h
theorem ty_step36 (n : Nat) (ps : List PV) (h : Ty Try.prog n 39 ps) : ∃ s : SLab, ps = scS s ∧ s.ok := by
  cases n with
  | zero => exact h.elim
  | succ n =>
    unfold Ty at h
    rw [Try.underlying39] at h
    obtain ⟨hl, hf⟩ := h
    simp only [List.mem_cons, List.not_mem_nil, or_false, forall_eq_or_imp, forall_eq, c_int, c_ints, c_term, c_bool36] at hf
    rw [c_step36] at hl
    match ps, hl with
    | [p0, p1, p2, p3, p4, p5, p6, p7, p8, p9], _ =>
      obtain ⟨f0, f1, f2, f3, f4⟩ := hf
      obtain ⟨z0, e0, w0⟩ := ty_int f0
      obtain ⟨b1, e1⟩ := ty_bool36 f1
      obtain ⟨L2, e2, w2⟩ := ty_ints f2
      obtain ⟨L3, e3, w3⟩ := ty_ints f3
      obtain ⟨⟨x, l⟩, e4, h4⟩ := ty_term _ _ f4
      rw [tc_mk] at e4
      simp at e0 e1 e2 e3 e4
      obtain ⟨a1, a2, a3, a4, a5, a6⟩ := e4
      subst e0 e1 e2 e3 a1 a2 a3 a4 a5 a6
      exact ⟨⟨z0, b1, L2, L3, .mk x l⟩, by unfold scS; rw [tc_mk]; rfl, w0, w2, w3, h4⟩
theorem ty_deriv36 : ∀ (n : Nat) (ps : List PV), Ty Try.prog n 42 ps → ∃ d : DT, ps = dc d ∧ dok64 d := by
  intro n
  induction n using Nat.strongRecOn with
  | ind n ih =>
  intro ps h
  cases n with
  | zero => exact h.elim
  | succ n =>
    unfold Ty at h
    rw [Try.underlying42] at h
    obtain ⟨hl, hf⟩ := h
    simp only [List.mem_cons, List.not_mem_nil, or_false, forall_eq_or_imp, forall_eq, c_int, c_ints, c_step36, c_derivs36] at hf
    rw [c_deriv36] at hl
    match ps, hl with
    | [p0, p1, p2, p3, p4, p5, p6, p7, p8, p9, p10, p11, p12], _ =>
      obtain ⟨f0, f1, f2, f3⟩ := hf
      obtain ⟨z0, e0, w0⟩ := ty_int f0
      obtain ⟨L1, e1, w1⟩ := ty_ints f1
      obtain ⟨s, e2, w2⟩ := ty_step36 _ _ f2
      simp at e0 e1
      subst e0 e1
      cases n with
      | zero => exact f3.elim
      | succ n =>
        unfold Ty at f3
        rw [Try.underlying40] at f3
        obtain ⟨l, e3, _, hl⟩ := f3
        rw [c_deriv36] at e3
        simp at e3
        subst e3
        obtain ⟨L, hL, hq⟩ := bs.choose_list l.length (fun i (x : DT) => l[i]? = some (dc x) ∧ dok64 x) (fun i hi => by
          obtain ⟨x, h1, h2⟩ := ih n (by omega) (l[i]'hi) (hl _ (List.getElem_mem hi))
          exact ⟨x, by rw [List.getElem?_eq_getElem hi, h1], h2⟩)
        have hlm : l = L.map dc := by
          apply List.ext_getElem?
          intro i
          rw [List.getElem?_map]
          by_cases hi : i < L.length
          · have := hq i _ (List.getElem?_eq_getElem hi)
            rw [this.1, List.getElem?_eq_getElem hi]; rfl
          · rw [List.getElem?_eq_none (by omega), List.getElem?_eq_none (by omega)]; rfl
        refine ⟨.mk ⟨z0, L1, s⟩ L, ?_, (Tr.all_mk _ _ _).2 ⟨⟨w0, w1, w2⟩, fun y hy => ?_⟩⟩
        · rw [dc_mk, hlm]
          have e2 : [p2, p3, p4, p5, p6, p7, p8, p9, p10, p11] = scS s := by simpa using e2
          rw [← e2]
          rfl
        · obtain ⟨i, hi⟩ := List.mem_iff_getElem?.1 hy
          exact (hq i y hi).2
def clD36 : List TypeId := [3, 2, 9, 4, 23, 25, 37, 39, 40, 42]
theorem clD36_ok : clD36.all (okTy Try.prog clD36) = true := by kernel_rfl
theorem open_vderiv {H : Type} {enc : TypeId × Value → H} {w : World} {r : Reach} {b0 : Nat} {v : Value} {d : DataW H} {p : List MemPlace}
    (hv : Value.okWide Try.prog w r b0 42 v) (h : DataW.Trod enc Try.prog w 0 (fun _ => true) true 42 v d p) : ∃ t : DT, RepV (fun _ => .un) (oldS w) w v (vD t) ∧ dok64 t := by
  obtain ⟨cs, rfl, hsz⟩ := okWide_struct Try.underlying42 hv
  obtain ⟨n, ps, h1, h2⟩ := open_agg clD36_ok (by decide) h
  obtain ⟨t, rfl, h3⟩ := ty_deriv36 n ps h2
  exact ⟨t, h1, h3⟩
end Go.Proofs.Ytcjagcfjpfjanaa.am
end
