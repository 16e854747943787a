import Derived.Test.YtcjagcfjpfjanaaPkD6
import Derived.Test.YtcjagcfjpfjanaaPkD4
import Derived.IntWalk
set_option maxRecDepth 100000
set_option maxHeartbeats 4000000
section
namespace Go.Proofs.Ytcjagcfjpfjanaa.am
open Go.ChangeShapes Go.WideShapes Go.ChangeAt Go.RowKit
open vt
set_option linter.unusedVariables false
set_option linter.unusedSimpArgs false
abbrev fnR : AV := .v (.c (.fn (.func 28) [.ptr 0 0] []))
def RdOk (dv : Int) (b : List Int) (y : VT) (tr : Int) : Prop := ∀ (p q : Nat) (r : List Int), p ≤ b.length → b.drop p = tE y ++ r → p + (tE y).length = q → Row Try.prog 28 [vW0] [bxR tr dv b (p : Nat) 0] (vT y) [some (bxR tr dv b (q : Nat) 0)]
theorem drop_on {b x r : List Int} {p q : Nat} (h : b.drop p = x ++ r) (hq : p + x.length = q) : b.drop q = r := by
  subst hq
  rw [← List.drop_drop, h, List.drop_left]
theorem drop_le {b x r : List Int} {p q : Nat} (hp : p ≤ b.length) (h : b.drop p = x ++ r) (hq : p + x.length = q) : q ≤ b.length := by
  have := congrArg List.length h
  simp only [List.length_drop, List.length_append] at this
  omega
theorem rlist_row (tr dv : Int) (b : List Int) (l : List VT) (hb : bs.AllB b) (hl : b.length ≤ 140737488355328) (hln : l.length ≤ 1000) (hok : ∀ y ∈ l, RdOk dv b y tr) (p q0 q : Nat) (r : List Int) (hp : p ≤ b.length) (h : b.drop p = vs.enc (l.length : Nat) ++ ((l.map tE).flatten ++ r)) (h0 : p + (vs.enc (l.length : Nat)).length = q0) (hq : q0 + ((l.map tE).flatten).length = q) : Row Try.prog 54 [vW0, fnR] [bxR tr dv b (p : Nat) 0] (vLs l) [some (bxR tr dv b (q : Nat) 0)] := by
  have hn := rnumber_row tr dv b p (l.length : Nat) _ hb hl (by omega) (by omega) hp h
  have hd0 := drop_on h h0
  have hp0 := drop_le hp h h0
  rw [show (p : Int) + ((vs.enc (l.length : Nat)).length : Nat) = (q0 : Nat) by omega] at hn
  have s0 : q0 + (((l.take 0).map tE).flatten).length = q0 := by simp
  clear h h0 hp
  refine row_of Try.func54 rfl rfl (Nat.le_of_ble_eq_true rfl) ?_
  repeat' (first | refine aw_seq ?_ | refine aw_skip ?_ | refine aw_block ?_ | refine aw_exit ?_ | refine aw_ct rfl ?_ | refine aw_cf rfl ?_ | ((first | refine aw_reg (fun K hK => ?_) | refine aw_drw mixd (fun K hK => ?_) | refine ar_call (cg hn [0] ?_) | refine ard_call (dg hn [0] ?_) | fail); simp -implicitDefEqProofs) | refine hK _ ?_ | refine hK _ _ (by rfl) ?_ | fail)
  refine aw_nil 5 25 6 (by simp) ?_
  simp [St.nil]
  refine aw_lp (ι := Nat) (fun k => mkSt [(0, vW0), (1, fnR), (5, .v (.c (.row 1 6 ((l.take k).map tc)))), (6, vN (l.length : Nat)), (7, vN (k : Nat))] [some (bxR tr dv b ((q0 + (((l.take k).map tE).flatten).length : Nat) : Int) 0), some (.row 25 6)]) (fun k => k ≤ l.length) (fun k => l.length - k) 0 (Nat.zero_le _) (by rw [s0]; exact cov_intro [0, 14] (by simp -implicitDefEqProofs) (by simp -implicitDefEqProofs) (by decide) rfl (by simp)) (fun Z hI k hk => ?_)
  clear s0 hn
  by_cases hkl : k < l.length; rotate_left
  · have : k = l.length := by omega
    subst this
    rw [List.take_length, hq]
    repeat (first | refine aw_seq ?_ | refine aw_skip ?_ | refine aw_block ?_ | refine aw_exit ?_ | refine aw_ct rfl ?_ | refine aw_cf rfl ?_ | ((first | refine aw_reg (fun K hK => ?_) | refine aw_drw mixd (fun K hK => ?_) | fail); simp -implicitDefEqProofs; first | refine hK _ ?_ | refine hK _ _ (by rfl) ?_ | fail) | fail)
    refine aw_ret (fin_g [0] ?_); simp -implicitDefEqProofs [FinG, resV, resT] <;> try rfl
  obtain ⟨a, ha⟩ : ∃ a, l[k]? = some a := ⟨_, List.getElem?_eq_getElem hkl⟩
  have ha' := (List.getElem?_eq_some_iff.1 ha).2
  have w2 : IntKind.u64.wrap ((k : Nat) + 1 : Int) = (k : Nat) + 1 := by rw [vs.u64_wrap]; omega
  have hT : (l.take k).length = k := by rw [List.length_take]; omega
  have hT1 : (l.take (k + 1)).map tc = (l.take k).map tc ++ [tc a] := by rw [List.take_add_one, ha]; simp
  have hF1 := flat_snoc l k a ha
  have hsp : (l.map tE).flatten = ((l.take k).map tE).flatten ++ (tE a ++ ((l.drop (k + 1)).map tE).flatten) := by
    conv => lhs; rw [← List.take_append_drop k l, List.drop_eq_getElem_cons hkl, ha']
    simp
  rw [hsp, List.append_assoc, List.append_assoc] at hd0
  obtain ⟨F, hF⟩ : ∃ F, ((l.take k).map tE).flatten = F := ⟨_, rfl⟩
  obtain ⟨T, hTT⟩ : ∃ T, l.take k = T := ⟨_, rfl⟩
  rw [hF] at hd0 hF1 ⊢
  rw [hTT] at hT hT1 ⊢
  obtain ⟨q1, hq1⟩ : ∃ q1, q0 + F.length = q1 := ⟨_, rfl⟩
  have hd1 := drop_on hd0 hq1
  have hp1 := drop_le hp0 hd0 hq1
  obtain ⟨q2, hq2⟩ : ∃ q2, q1 + (tE a).length = q2 := ⟨_, rfl⟩
  have hr := hok a (List.mem_of_getElem? ha) q1 q2 _ hp1 hd1 hq2
  have hq3 : q0 + (((l.take (k + 1)).map tE).flatten).length = q2 := by rw [hF1, List.length_append]; omega
  rw [hq1]
  have g1 : (k + 1) * 72 ≤ 140737488355328 := by omega
  clear hok hd0 hd1 hF1 hF hTT hsp hq
  obtain ⟨ax, al⟩ := a
  have g2 : k ≤ 140737488355327 := by omega
  repeat' (first | refine aw_seq ?_ | refine aw_skip ?_ | refine aw_block ?_ | refine aw_exit ?_ | refine aw_ct rfl ?_ | refine aw_cf rfl ?_ | ((first | refine aw_reg (fun K hK => ?_) | refine aw_drw mixd (fun K hK => ?_) | refine ar_call (cg hr [0] ?_) | refine ard_call (dg hr [0] ?_) | fail); simp -implicitDefEqProofs [hkl, w2, hT, g1, g2]) | refine hK _ ?_ | refine hK _ _ (by rfl) ?_ | fail)
  refine ⟨k + 1, by omega, (by dsimp only; omega), ?_⟩
  rw [hI]; simp only [hq3, hT1]; exact cov_intro [0, 23] (by simp -implicitDefEqProofs) (by simp -implicitDefEqProofs) (by decide) rfl (by simp)
end Go.Proofs.Ytcjagcfjpfjanaa.am
end
section
namespace Go.Proofs.Ytcjagcfjpfjanaa.am
open Go.ChangeShapes Go.WideShapes Go.ChangeAt Go.RowKit
open vt
set_option linter.unusedVariables false
set_option linter.unusedSimpArgs false
section
variable {P : Program} {N : Nat} {st : St}
theorem finD_r {g : FuncId} {rs : List ResultVar} {res : AV} {ch' : List (Option AO)} {ex : Exit} {tr tr' dv p e : Int} {b : List Int} {o : AO} (hD : RowD P g [vW0] [bxR tr dv b p e] (.tup []) [some (bxR tr' dv b p e)]) (he : ex = .normal ∨ ex = .ret) (ho : hlk st.hp 0 = some o) (hcov : covO (hlk st.hp) 1 (fun k => [0].getD k 0) ([bxR tr dv b p e].map some) [0])
    (h : FinG P rs res ch' [0] (st.wr (wrs (nmap [0] 1 st.nx) 0 [some (bxR tr' dv b p e)]) 8)) (hl : 1 ≤ ch'.length := by first | decide | (simp; done)) : FinD P N 1 g 0 0 rs res ch' ex st :=
  ⟨he, [vW0], [bxR tr dv b p e], .tup [], [some (bxR tr' dv b p e)], [0], hD, by simp, hcov, by simp, by simp, by simp, ⟨o, ho⟩, fin_g [0] h (by simp) rfl hl⟩
end
theorem rterm36_row (b : List Int) (hb : bs.AllB b) (hl : b.length ≤ 140737488355328) (t : VT) : in64 t → t.size ≤ 1000 → ∀ dv tr : Int, 0 ≤ tr → erT t (tr + 1) = 0 → RdOk dv b t tr := by
  induction t using Tr.ind with
  | h x l ih =>
  intro hi hsz dv tr h0 he p q r hp hd hq
  have hlen := Tr.len_size (x := x) (l := l)
  obtain ⟨hx, hil⟩ := (Tr.all_mk _ _ _).1 hi
  obtain ⟨h1, h2, h3, h4⟩ := er_ok he
  have hok : ∀ y ∈ l, RdOk dv b y (tr + 1) := fun y hy => by
    obtain ⟨i, hi⟩ := List.mem_iff_getElem?.1 hy
    have := Tr.size_at (x := x) hi
    exact ih y hy (hil y hy) (by omega) dv (tr + 1) (by omega) (h4 y hy)
  clear ih hil h4 he
  obtain ⟨xk, xn, xs, xf, xt⟩ := x
  obtain ⟨hs, hf, ht⟩ := h3
  dsimp only at hs hf ht h2
  subst hs hf ht
  have hzb := zigs.zig_bd xn (by have := hx.2.1; dsimp only at this; omega) (by have := hx.2.1; dsimp only at this; omega)
  rw [tE_mk] at hd hq
  dsimp only at hd hq
  have hd : b.drop p = [xk] ++ (vs.enc (zigs.zig xn) ++ (vs.enc (l.length : Nat) ++ ((l.map tE).flatten ++ r))) := by rw [hd]; simp
  have hpb : b[p]? = some xk := by
    have := congrArg (fun L => L[0]?) hd
    simpa using this
  have hd1 := drop_on (x := [xk]) (q := p + 1) hd rfl
  have hp1 := drop_le (x := [xk]) (q := p + 1) hp hd rfl
  have hby := rbyte_row (tr + 1) dv b p xk hb hl hpb
  rw [show (p : Int) + 1 = ((p + 1 : Nat) : Int) by omega] at hby
  obtain ⟨p1, e1⟩ : ∃ p1, p + 1 = p1 := ⟨_, rfl⟩
  rw [e1] at hd1 hp1 hby
  have hnm := rnumber_row (tr + 1) dv b p1 (zigs.zig xn) _ hb hl hzb.1 hzb.2 hp1 hd1
  obtain ⟨p2, e2⟩ : ∃ p2, p1 + (vs.enc (zigs.zig xn)).length = p2 := ⟨_, rfl⟩
  rw [show (p1 : Int) + ((vs.enc (zigs.zig xn)).length : Nat) = (p2 : Nat) by omega] at hnm
  have hd2 := drop_on hd1 e2
  have hp2 := drop_le hp1 hd1 e2
  have hls := rlist_row (tr + 1) dv b l hb hl (by omega) hok p2 _ q r hp2 hd2 rfl (by
    rw [← hq, ← e2, ← e1]
    simp only [List.length_cons, List.length_append]
    omega)
  have hzg := pzag_row (zigs.zig xn) hzb.1 hzb.2
  rw [zigs.zag_zig] at hzg
  have hen := renter_row tr dv b p h0 (by omega)
  have hkr := isterm_row xk
  rw [decide_eq_true h2] at hkr
  have hD := rleave_rowD (tr + 1) dv b q 0 (by omega) (by omega)
  rw [show tr + 1 - 1 = tr by omega] at hD
  clear hok hd hq hd1 hd2 hpb
  refine row_of_d Try.func28 rfl rfl (Nat.le_of_ble_eq_true rfl) ?_
  refine awd_seq ?_
  refine aw_reg (fun K hK => ?_); simp -implicitDefEqProofs; refine hK _ ?_
  refine ⟨rfl, ?_⟩
  refine awd_seq ?_
  repeat' (first | refine aw_seq ?_ | refine aw_skip ?_ | refine aw_block ?_ | refine aw_exit ?_ | refine aw_ct rfl ?_ | refine aw_cf rfl ?_ | ((first | refine aw_reg (fun K hK => ?_) | refine aw_drw mixd (fun K hK => ?_) | refine ar_call (cg hen [0] ?_) | refine ard_call (dg hen [0] ?_) | fail); simp -implicitDefEqProofs) | refine hK _ ?_ | refine hK _ _ (by rfl) ?_ | fail)
  refine ⟨rfl, ?_⟩
  refine awd_defer rfl ?_
  simp -implicitDefEqProofs
  repeat' (first | refine aw_seq ?_ | refine aw_skip ?_ | refine aw_block ?_ | refine aw_exit ?_ | refine aw_ct rfl ?_ | refine aw_cf rfl ?_ | ((first | refine aw_reg (fun K hK => ?_) | refine aw_drw mixd (fun K hK => ?_) | refine ar_call (cg hby [0] ?_) | refine ard_call (dg hby [0] ?_) | refine ar_call (cp hkr ?_) | refine ard_call (dp hkr ?_) | refine ar_call (cg hnm [0] ?_) | refine ard_call (dg hnm [0] ?_) | refine ar_call (cp hzg ?_) | refine ard_call (dp hzg ?_) | refine ar_call (cg hls [0] ?_) | refine ard_call (dg hls [0] ?_) | fail); simp -implicitDefEqProofs) | refine hK _ ?_ | refine hK _ _ (by rfl) ?_ | fail)
  refine aw_ret (finD_r (N := 0) hD (.inr rfl) rfl ?_ ?_)
  · simp
  · simp -implicitDefEqProofs [FinG, resV, resT]
end Go.Proofs.Ytcjagcfjpfjanaa.am
end
section
namespace Go.Proofs.Ytcjagcfjpfjanaa.am
open Go.ChangeShapes Go.WideShapes Go.ChangeAt Go.RowKit
open vt
set_option linter.unusedVariables false
set_option linter.unusedSimpArgs false
def smW (z : Int) : List Int := if smE z = 0 then vs.enc z else []
theorem smW_len (z : Int) : (smW z).length ≤ 10 := by
  unfold smW
  split
  · exact (enc_ln z).2
  · simp
theorem wsmall_row (tr dv : Int) (B : List Int) (e : Int) (z : Int) (hB : B.length + 10 ≤ 140737488355328) : Row Try.prog 61 [vW0, vI z] [bxC 1 tr dv B e, rwC] (.tup []) [some (bxC 2 tr dv (B ++ smW z) (if e = 0 then smE z else e)), none, some rwC] := by
  by_cases h1 : z < 0
  · have hf := wfail_row tr dv B e 13
    have h0 : smE z = 13 := by unfold smE; rw [if_pos (.inl h1)]
    rw [show smW z = [] by unfold smW; rw [if_neg (by rw [h0]; decide)], h0, List.append_nil]
    obtain ⟨g, hg⟩ : ∃ g, (if e = 0 then (13 : Int) else e) = g := ⟨_, rfl⟩
    rw [hg] at hf ⊢
    refine row_of Try.func61 rfl rfl (Nat.le_of_ble_eq_true rfl) ?_
    refine aw_mvr 1 0 2 _ 5 1 1 (iC B) rfl rfl rfl (by simp) (by simp) ?_
    simp [St.mvr]
    repeat' (first | refine aw_seq ?_ | refine aw_skip ?_ | refine aw_block ?_ | refine aw_exit ?_ | refine aw_ct rfl ?_ | refine aw_cf rfl ?_ | ((first | refine aw_reg (fun K hK => ?_) | refine aw_drw mixd (fun K hK => ?_) | refine ar_call (cgK hf 0 rfl ?_) | refine ard_call (dgK hf 0 rfl ?_) | fail); simp -implicitDefEqProofs [h1]) | refine hK _ ?_ | refine hK _ _ (by rfl) ?_ | fail)
    refine aw_ret (fin_g [0, 1, 2] ?_); simp -implicitDefEqProofs [FinG, resV, resT] <;> try rfl
  by_cases h2 : 2147483647 < z
  · have hf := wfail_row tr dv B e 13
    have h0 : smE z = 13 := by unfold smE; rw [if_pos (.inr h2)]
    rw [show smW z = [] by unfold smW; rw [if_neg (by rw [h0]; decide)], h0, List.append_nil]
    obtain ⟨g, hg⟩ : ∃ g, (if e = 0 then (13 : Int) else e) = g := ⟨_, rfl⟩
    rw [hg] at hf ⊢
    refine row_of Try.func61 rfl rfl (Nat.le_of_ble_eq_true rfl) ?_
    refine aw_mvr 1 0 2 _ 5 1 1 (iC B) rfl rfl rfl (by simp) (by simp) ?_
    simp [St.mvr]
    repeat' (first | refine aw_seq ?_ | refine aw_skip ?_ | refine aw_block ?_ | refine aw_exit ?_ | refine aw_ct rfl ?_ | refine aw_cf rfl ?_ | ((first | refine aw_reg (fun K hK => ?_) | refine aw_drw mixd (fun K hK => ?_) | refine ar_call (cgK hf 0 rfl ?_) | refine ard_call (dgK hf 0 rfl ?_) | fail); simp -implicitDefEqProofs [h1, h2]) | refine hK _ ?_ | refine hK _ _ (by rfl) ?_ | fail)
    refine aw_ret (fin_g [0, 1, 2] ?_); simp -implicitDefEqProofs [FinG, resV, resT] <;> try rfl
  have h0 : smE z = 0 := by unfold smE; rw [if_neg (by omega)]
  rw [h0, show smW z = vs.enc z by unfold smW; rw [if_pos h0], show (if e = 0 then (0 : Int) else e) = e by split <;> omega]
  have hn := wnumber_row tr dv B e z (by omega) (by omega) hB
  have w0 : IntKind.u64.wrap z = z := by rw [vs.u64_wrap]; omega
  obtain ⟨C, hC⟩ : ∃ C, B ++ vs.enc z = C := ⟨_, rfl⟩
  rw [hC] at hn ⊢
  refine row_of Try.func61 rfl rfl (Nat.le_of_ble_eq_true rfl) ?_
  repeat' (first | refine aw_seq ?_ | refine aw_skip ?_ | refine aw_block ?_ | refine aw_exit ?_ | refine aw_ct rfl ?_ | refine aw_cf rfl ?_ | ((first | refine aw_reg (fun K hK => ?_) | refine aw_drw mixd (fun K hK => ?_) | refine ar_call (cg hn [0,1] ?_) | refine ard_call (dg hn [0,1] ?_) | fail); simp -implicitDefEqProofs [h1, h2, w0]) | refine hK _ ?_ | refine hK _ _ (by rfl) ?_ | fail)
  refine fin_fall (fin_g [0, 1, 11] ?_); simp -implicitDefEqProofs [FinG, resV, resT] <;> try rfl
abbrev fnS : AV := .v (.c (.fn (.func 61) [.ptr 0 0] []))
def lW (l : List Int) (e : Int) : List Int := vs.enc (l.length : Nat) ++ (if e = 0 then seqW (l.map fun z => (smW z, smE z)) else [])
theorem sms_len (l : List Int) : (seqW (l.map fun z => (smW z, smE z))).length ≤ 10 * l.length := by
  have h3 := seq_len (l.map fun z => (smW z, smE z)) (l.map fun _ => 10) (by simp) (fun i p n hp hn => by
    rw [List.getElem?_map] at hp hn
    obtain ⟨y, hy, rfl⟩ := Option.map_eq_some_iff.1 hp
    rw [hy] at hn
    obtain rfl := Option.some.inj hn
    exact smW_len y)
  have h4 : (l.map fun _ : Int => 10).sum = 10 * l.length := by
    clear h3
    induction l with
    | nil => rfl
    | cons y l ih => simp only [List.map_cons, List.sum_cons, ih, List.length_cons]; omega
  omega
theorem lW_len (l : List Int) (e : Int) : (lW l e).length ≤ 10 + 10 * l.length := by
  have h1 := (enc_ln (l.length : Nat)).2
  have h2 := sms_len l
  unfold lW
  rw [List.length_append]
  split
  · omega
  · simp only [List.length_nil]; omega
theorem lW_ok {l : List Int} (h : lEr l = 0) : lW l 0 = lE l := by
  unfold lW lE
  rw [if_pos rfl, seq_all (fun p hp => by
    obtain ⟨y, hy, rfl⟩ := List.mem_map.1 hp
    exact fst_zero h _ (List.mem_map.2 ⟨y, hy, rfl⟩)), List.map_map]
  congr 2
  refine List.map_congr_left fun z hz => ?_
  have := fst_zero h _ (List.mem_map.2 ⟨z, hz, rfl⟩)
  show smW z = vs.enc z
  unfold smW
  rw [if_pos this]
theorem wints_row (tr dv : Int) (B : List Int) (e : Int) (l : List Int) (hl : l.length ≤ 1000000) (hB : B.length + 10 + 10 * l.length ≤ 100000000) : Row Try.prog 60 [vW0, vIs l, fnS] [bxC 1 tr dv B e, rwC] (.tup []) [some (bxC 2 tr dv (B ++ lW l e) (if e = 0 then lEr l else e)), none, some rwC] := by
  have hn := wnumber_row tr dv B e (l.length : Nat) (by omega) (by omega) (by omega)
  have w0 : IntKind.u64.wrap (l.length : Int) = (l.length : Nat) := by rw [vs.u64_wrap]; omega
  obtain ⟨A, hA⟩ : ∃ A, B ++ vs.enc (l.length : Nat) = A := ⟨_, rfl⟩
  have hAl : A.length ≤ B.length + 10 := by rw [← hA, List.length_append]; have := (enc_ln (l.length : Nat)).2; omega
  unfold lW
  rw [← List.append_assoc, hA]
  rw [hA] at hn
  by_cases he : e = 0; rotate_left
  · rw [if_neg he, if_neg he, List.append_nil]
    refine row_of Try.func60 rfl rfl (Nat.le_of_ble_eq_true rfl) ?_
    repeat' (first | refine aw_seq ?_ | refine aw_skip ?_ | refine aw_block ?_ | refine aw_exit ?_ | refine aw_ct rfl ?_ | refine aw_cf rfl ?_ | ((first | refine aw_reg (fun K hK => ?_) | refine aw_drw mixd (fun K hK => ?_) | refine ar_call (cg hn [0,1] ?_) | refine ard_call (dg hn [0,1] ?_) | fail); simp -implicitDefEqProofs [w0]) | refine hK _ ?_ | refine hK _ _ (by rfl) ?_ | fail)
    refine aw_lp (ι := Nat) (fun k => mkSt [(0, vW0), (13, vIs l), (14, vI (l.length : Nat)), (15, vI (k : Nat))] [some (bxC 2 tr dv A e), none, some rwC]) (fun k => k ≤ l.length) (fun k => l.length - k) 0 (Nat.zero_le _) (cov_intro [0, 1, 6] (by simp -implicitDefEqProofs) (by simp -implicitDefEqProofs) (by decide) rfl (by simp)) (fun Z hI k hk => ?_)
    by_cases hkl : k < l.length; rotate_left
    · have : k = l.length := by omega
      subst this
      repeat (first | refine aw_seq ?_ | refine aw_skip ?_ | refine aw_block ?_ | refine aw_exit ?_ | refine aw_ct rfl ?_ | refine aw_cf rfl ?_ | ((first | refine aw_reg (fun K hK => ?_) | refine aw_drw mixd (fun K hK => ?_) | fail); simp -implicitDefEqProofs; first | refine hK _ ?_ | refine hK _ _ (by rfl) ?_ | fail) | fail)
      refine fin_fall (fin_g [0, 1, 2] ?_); simp -implicitDefEqProofs [FinG, resV, resT] <;> try rfl
    have w2 : IntKind.i64.wrap ((k : Nat) + 1 : Int) = (k : Nat) + 1 := i64i _ (by omega) (by omega)
    repeat (first | refine aw_seq ?_ | refine aw_skip ?_ | refine aw_block ?_ | refine aw_exit ?_ | refine aw_ct rfl ?_ | refine aw_cf rfl ?_ | ((first | refine aw_reg (fun K hK => ?_) | refine aw_drw mixd (fun K hK => ?_) | fail); simp -implicitDefEqProofs [hkl, w2, he]; first | refine hK _ ?_ | refine hK _ _ (by rfl) ?_ | fail) | fail)
    refine ⟨k + 1, by omega, (by dsimp only; omega), ?_⟩
    rw [hI]; exact cov_intro [0, 1, 2] (by simp -implicitDefEqProofs) (by simp -implicitDefEqProofs) (by decide) rfl (by simp)
  subst he
  rw [if_pos rfl, if_pos rfl]
  unfold lEr
  have s0 : A ++ seqW ((l.take 0).map fun z => (smW z, smE z)) = A := by rw [List.take_zero]; exact List.append_nil A
  have f0 : fstE ((l.take 0).map smE) = 0 := rfl
  refine row_of Try.func60 rfl rfl (Nat.le_of_ble_eq_true rfl) ?_
  repeat' (first | refine aw_seq ?_ | refine aw_skip ?_ | refine aw_block ?_ | refine aw_exit ?_ | refine aw_ct rfl ?_ | refine aw_cf rfl ?_ | ((first | refine aw_reg (fun K hK => ?_) | refine aw_drw mixd (fun K hK => ?_) | refine ar_call (cg hn [0,1] ?_) | refine ard_call (dg hn [0,1] ?_) | fail); simp -implicitDefEqProofs [w0]) | refine hK _ ?_ | refine hK _ _ (by rfl) ?_ | fail)
  refine aw_lp (ι := Nat) (fun k => mkSt [(0, vW0), (2, fnS), (13, vIs l), (14, vI (l.length : Nat)), (15, vI (k : Nat))] [some (bxC 2 tr dv (A ++ seqW ((l.take k).map fun z => (smW z, smE z))) (fstE ((l.take k).map smE))), none, some rwC]) (fun k => k ≤ l.length) (fun k => l.length - k) 0 (Nat.zero_le _) (by rw [s0, f0]; exact cov_intro [0, 1, 6] (by simp -implicitDefEqProofs) (by simp -implicitDefEqProofs) (by decide) rfl (by simp)) (fun Z hI k hk => ?_)
  clear s0 f0 hn
  by_cases hkl : k < l.length; rotate_left
  · have : k = l.length := by omega
    subst this
    rw [List.take_length]
    obtain ⟨X, hX⟩ : ∃ X, A ++ seqW (l.map fun z => (smW z, smE z)) = X := ⟨_, rfl⟩
    obtain ⟨g, hg⟩ : ∃ g, fstE (l.map smE) = g := ⟨_, rfl⟩
    rw [hX, hg]
    repeat (first | refine aw_seq ?_ | refine aw_skip ?_ | refine aw_block ?_ | refine aw_exit ?_ | refine aw_ct rfl ?_ | refine aw_cf rfl ?_ | ((first | refine aw_reg (fun K hK => ?_) | refine aw_drw mixd (fun K hK => ?_) | fail); simp -implicitDefEqProofs; first | refine hK _ ?_ | refine hK _ _ (by rfl) ?_ | fail) | fail)
    refine fin_fall (fin_g [0, 1, 2] ?_); simp -implicitDefEqProofs [FinG, resV, resT] <;> try rfl
  obtain ⟨a, ha⟩ : ∃ a, l[k]? = some a := ⟨_, List.getElem?_eq_getElem hkl⟩
  have ha' := (List.getElem?_eq_some_iff.1 ha).2
  have w2 : IntKind.i64.wrap ((k : Nat) + 1 : Int) = (k : Nat) + 1 := i64i _ (by omega) (by omega)
  have htk : ∀ {β : Type} (f : Int → β), (l.take (k + 1)).map f = (l.take k).map f ++ [f a] := fun f => by rw [List.take_add_one, ha]; simp
  have hs1 := seq_snoc (smW a, smE a) ((l.take k).map fun z => (smW z, smE z))
  rw [← htk (fun z => (smW z, smE z)), List.map_map] at hs1
  have hs2 := fst_snoc (smE a) ((l.take k).map smE)
  rw [← htk smE] at hs2
  have hcmp : ((fun x : List Int × Int => x.2) ∘ fun z : Int => (smW z, smE z)) = smE := rfl
  rw [hcmp] at hs1
  have hlk := sms_len (l.take k)
  have hlt : (l.take k).length ≤ l.length := by rw [List.length_take]; omega
  obtain ⟨W, hW⟩ : ∃ W, seqW ((l.take k).map fun z => (smW z, smE z)) = W := ⟨_, rfl⟩
  obtain ⟨g, hg⟩ : ∃ g, fstE ((l.take k).map smE) = g := ⟨_, rfl⟩
  rw [hW, hg] at hs1
  rw [hg] at hs2
  rw [hW] at hlk ⊢
  rw [hg]
  have hrow := wsmall_row tr dv (A ++ W) g a (by rw [List.length_append]; omega)
  rw [List.append_assoc] at hrow
  clear htk
  by_cases hg0 : g = 0
  · subst hg0
    rw [if_pos rfl] at hs1 hs2 hrow
    obtain ⟨V, hV⟩ : ∃ V, W ++ smW a = V := ⟨_, rfl⟩
    rw [hV] at hs1 hrow
    obtain ⟨q, hq⟩ : ∃ q, smE a = q := ⟨_, rfl⟩
    rw [hq] at hs2 hrow
    repeat' (first | refine aw_seq ?_ | refine aw_skip ?_ | refine aw_block ?_ | refine aw_exit ?_ | refine aw_ct rfl ?_ | refine aw_cf rfl ?_ | ((first | refine aw_reg (fun K hK => ?_) | refine aw_drw mixd (fun K hK => ?_) | refine ar_call (cg hrow [0,2] ?_) | refine ard_call (dg hrow [0,2] ?_) | fail); simp -implicitDefEqProofs [hkl, ha, ha', w2]) | refine hK _ ?_ | refine hK _ _ (by rfl) ?_ | fail)
    refine ⟨k + 1, by omega, (by dsimp only; omega), ?_⟩
    rw [hI, hs1, hs2]; exact cov_intro [0, 1, 14] (by simp -implicitDefEqProofs) (by simp -implicitDefEqProofs) (by decide) rfl (by simp)
  · rw [if_neg hg0] at hs1 hs2
    repeat (first | refine aw_seq ?_ | refine aw_skip ?_ | refine aw_block ?_ | refine aw_exit ?_ | refine aw_ct rfl ?_ | refine aw_cf rfl ?_ | ((first | refine aw_reg (fun K hK => ?_) | refine aw_drw mixd (fun K hK => ?_) | fail); simp -implicitDefEqProofs [hkl, ha, ha', w2, hg0]; first | refine hK _ ?_ | refine hK _ _ (by rfl) ?_ | fail) | fail)
    refine ⟨k + 1, by omega, (by dsimp only; omega), ?_⟩
    rw [hI, hs1, hs2]; exact cov_intro [0, 1, 2] (by simp -implicitDefEqProofs) (by simp -implicitDefEqProofs) (by decide) rfl (by simp)
theorem tsame_row (t : VT) : t.size ≤ 1000000 → ∀ u : VT, u.size ≤ 1000000 → Row Try.prog 72 [vT t, vT u] [] (vB (same t u)) [] := by
  induction t using Tr.ind with
  | h x l ih =>
  intro hsz u hsu
  obtain ⟨y, m⟩ := u
  have hlen := Tr.len_size (x := x) (l := l)
  rw [show same (.mk x l) (.mk y m) = _ from eqv_mk pS x y l m]
  refine row_of Try.func72 rfl rfl (Nat.le_of_ble_eq_true rfl) ?_
  by_cases hk : x.k = y.k; rotate_left
  · repeat (first | refine aw_seq ?_ | refine aw_skip ?_ | refine aw_block ?_ | refine aw_exit ?_ | refine aw_ct rfl ?_ | refine aw_cf rfl ?_ | ((first | refine aw_reg (fun K hK => ?_) | refine aw_drw mixd (fun K hK => ?_) | fail); simp -implicitDefEqProofs [hk]; first | refine hK _ ?_ | refine hK _ _ (by rfl) ?_ | fail) | fail)
    refine aw_ret (fin_ret ?_); simp -implicitDefEqProofs [FinP, resV, resT, hk, pS] <;> try rfl
  by_cases hn : x.n = y.n; rotate_left
  · repeat (first | refine aw_seq ?_ | refine aw_skip ?_ | refine aw_block ?_ | refine aw_exit ?_ | refine aw_ct rfl ?_ | refine aw_cf rfl ?_ | ((first | refine aw_reg (fun K hK => ?_) | refine aw_drw mixd (fun K hK => ?_) | fail); simp -implicitDefEqProofs [hk, hn]; first | refine hK _ ?_ | refine hK _ _ (by rfl) ?_ | fail) | fail)
    refine aw_ret (fin_ret ?_); simp -implicitDefEqProofs [FinP, resV, resT, hk, hn, pS] <;> try rfl
  by_cases hs : x.s = y.s; rotate_left
  · repeat (first | refine aw_seq ?_ | refine aw_skip ?_ | refine aw_block ?_ | refine aw_exit ?_ | refine aw_ct rfl ?_ | refine aw_cf rfl ?_ | ((first | refine aw_reg (fun K hK => ?_) | refine aw_drw mixd (fun K hK => ?_) | fail); simp -implicitDefEqProofs [hk, hn, hs]; first | refine hK _ ?_ | refine hK _ _ (by rfl) ?_ | fail) | fail)
    refine aw_ret (fin_ret ?_); simp -implicitDefEqProofs [FinP, resV, resT, hk, hn, hs, pS] <;> try rfl
  by_cases hm : l.length = m.length; rotate_left
  · have hm' : ¬ (l.length : Int) = (m.length : Int) := by omega
    repeat (first | refine aw_seq ?_ | refine aw_skip ?_ | refine aw_block ?_ | refine aw_exit ?_ | refine aw_ct rfl ?_ | refine aw_cf rfl ?_ | ((first | refine aw_reg (fun K hK => ?_) | refine aw_drw mixd (fun K hK => ?_) | fail); simp -implicitDefEqProofs [hk, hn, hs, hm, hm']; first | refine hK _ ?_ | refine hK _ _ (by rfl) ?_ | fail) | fail)
    refine aw_ret (fin_ret ?_); simp -implicitDefEqProofs [FinP, resV, resT, hk, hn, hs, hm, pS] <;> try rfl
  repeat (first | refine aw_seq ?_ | refine aw_skip ?_ | refine aw_block ?_ | refine aw_exit ?_ | refine aw_ct rfl ?_ | refine aw_cf rfl ?_ | ((first | refine aw_reg (fun K hK => ?_) | refine aw_drw mixd (fun K hK => ?_) | fail); simp -implicitDefEqProofs [hk, hn, hs, hm]; first | refine hK _ ?_ | refine hK _ _ (by rfl) ?_ | fail) | fail)
  refine aw_lp (ι := Nat) (fun k => mkSt [(2, .v (.c (.ptr 0 0))), (3, .v (.c (.ptr 1 0))), (36, vI (l.length : Nat)), (37, vI (k : Nat))] [some (.box (ta (.mk x l))), some (.box (ta (.mk y m)))]) (fun k => k ≤ l.length ∧ zipA (eqv pS) l m k = true) (fun k => l.length - k) 0 ⟨Nat.zero_le _, zipA_zero _ _ _⟩ (cov_intro [0, 1] (by simp -implicitDefEqProofs [hk, hn, hs, hm]) (by simp -implicitDefEqProofs [hk, hn, hs, hm]) (by decide) rfl (by simp)) (fun Z hI k hkz => ?_)
  obtain ⟨hkl', hz⟩ := hkz
  by_cases hkl : k < l.length; rotate_left
  · have : k = l.length := by omega
    subst this
    rw [show (pS x y && decide (l.length = m.length) && zipA (eqv pS) l m l.length) = true by rw [hz]; simp [pS, hk, hn, hs, hm]]
    repeat (first | refine aw_seq ?_ | refine aw_skip ?_ | refine aw_block ?_ | refine aw_exit ?_ | refine aw_ct rfl ?_ | refine aw_cf rfl ?_ | ((first | refine aw_reg (fun K hK => ?_) | refine aw_drw mixd (fun K hK => ?_) | fail); simp -implicitDefEqProofs; first | refine hK _ ?_ | refine hK _ _ (by rfl) ?_ | fail) | fail)
    refine aw_ret (fin_ret ?_); simp -implicitDefEqProofs [FinP, resV, resT] <;> try rfl
  have hkm : k < m.length := by omega
  obtain ⟨⟨ax, al⟩, ha⟩ : ∃ a, l[k]? = some a := ⟨_, List.getElem?_eq_getElem hkl⟩
  obtain ⟨⟨bx, bl⟩, hb⟩ : ∃ a, m[k]? = some a := ⟨_, List.getElem?_eq_getElem hkm⟩
  have ha' := (List.getElem?_eq_some_iff.1 ha).2
  have hb' := (List.getElem?_eq_some_iff.1 hb).2
  have hsz1 := Tr.size_at (x := x) ha
  have hsz2 := Tr.size_at (x := y) hb
  have w2 : IntKind.i64.wrap ((k : Nat) + 1 : Int) = (k : Nat) + 1 := i64i _ (by omega) (by omega)
  have hzs := zipA_succ (f := eqv pS) ha hb
  repeat (first | refine aw_seq ?_ | refine aw_skip ?_ | refine aw_block ?_ | refine aw_exit ?_ | refine aw_ct rfl ?_ | refine aw_cf rfl ?_ | ((first | refine aw_reg (fun K hK => ?_) | refine aw_drw mixd (fun K hK => ?_) | fail); simp -implicitDefEqProofs [hkl]; first | refine hK _ ?_ | refine hK _ _ (by rfl) ?_ | fail) | fail)
  refine aw_drw mixd (fun K hK => ?_); simp -implicitDefEqProofs [hkl, hkm, ha, ha', hb, hb']
  refine ard_call (calld_pure (ih _ (List.mem_of_getElem? ha) (by omega) (.mk bx bl) (by omega)) (by simp) (fun _ => rfl) rfl ?_)
  simp -implicitDefEqProofs
  refine hK _ _ (by rfl) ?_
  refine aw_cond rfl (fun hb => ?_) (fun hb => ?_)
  · have hf : same (.mk ax al) (.mk bx bl) = false := by simpa using hb
    repeat (first | refine aw_seq ?_ | refine aw_skip ?_ | refine aw_block ?_ | refine aw_exit ?_ | refine aw_ct rfl ?_ | refine aw_cf rfl ?_ | ((first | refine aw_reg (fun K hK => ?_) | refine aw_drw mixd (fun K hK => ?_) | fail); simp -implicitDefEqProofs; first | refine hK _ ?_ | refine hK _ _ (by rfl) ?_ | fail) | fail)
    have e : zipA (eqv pS) l m l.length = false := by
      have := zipA_mono (l.length - (k + 1)) (show zipA (eqv pS) l m (k + 1) = false by rw [hzs, hz]; simpa using hf)
      rwa [show k + 1 + (l.length - (k + 1)) = l.length by omega] at this
    refine aw_ret (fin_ret ?_); simp -implicitDefEqProofs [FinP, resV, resT, e] <;> try rfl
  · have hf : same (.mk ax al) (.mk bx bl) = true := by simpa using hb
    repeat (first | refine aw_seq ?_ | refine aw_skip ?_ | refine aw_block ?_ | refine aw_exit ?_ | refine aw_ct rfl ?_ | refine aw_cf rfl ?_ | ((first | refine aw_reg (fun K hK => ?_) | refine aw_drw mixd (fun K hK => ?_) | fail); simp -implicitDefEqProofs [w2]; first | refine hK _ ?_ | refine hK _ _ (by rfl) ?_ | fail) | fail)
    refine ⟨k + 1, ⟨by omega, by rw [hzs, hz]; simpa using hf⟩, (by dsimp only; omega), ?_⟩
    rw [hI]; exact cov_intro [0, 1] (by simp -implicitDefEqProofs) (by simp -implicitDefEqProofs) (by decide) rfl (by simp)
theorem rplac_row (t : VT) : t.size ≤ 1000000 → ∀ u : VT, u.size ≤ 1000000 → Row Try.prog 12 [vT t, vT u] [] (vB (plac t u)) [] := by
  induction t using Tr.ind with
  | h x l ih =>
  intro hsz u hsu
  obtain ⟨y, m⟩ := u
  have hlen := Tr.len_size (x := x) (l := l)
  rw [show plac (.mk x l) (.mk y m) = _ from eqv_mk pP x y l m]
  refine row_of Try.func12 rfl rfl (Nat.le_of_ble_eq_true rfl) ?_
  by_cases hk : x.k = y.k; rotate_left
  · repeat (first | refine aw_seq ?_ | refine aw_skip ?_ | refine aw_block ?_ | refine aw_exit ?_ | refine aw_cond rfl (fun _ => ?_) (fun hb => absurd hb (by decide)) | refine aw_cond rfl (fun hb => absurd hb (by decide)) (fun _ => ?_) | (refine aw_reg (fun K hK => ?_); simp -implicitDefEqProofs [hk]; refine hK _ ?_) | (refine aw_drw mixd (fun K hK => ?_); simp -implicitDefEqProofs [hk]; refine hK _ _ (by rfl) ?_) | fail)
    refine aw_ret (fin_ret ?_); simp -implicitDefEqProofs [FinP, resV, resT, hk, pP] <;> try rfl
  by_cases hn : x.n = y.n; rotate_left
  · repeat (first | refine aw_seq ?_ | refine aw_skip ?_ | refine aw_block ?_ | refine aw_exit ?_ | refine aw_cond rfl (fun _ => ?_) (fun hb => absurd hb (by decide)) | refine aw_cond rfl (fun hb => absurd hb (by decide)) (fun _ => ?_) | (refine aw_reg (fun K hK => ?_); simp -implicitDefEqProofs [hk, hn]; refine hK _ ?_) | (refine aw_drw mixd (fun K hK => ?_); simp -implicitDefEqProofs [hk, hn]; refine hK _ _ (by rfl) ?_) | fail)
    refine aw_ret (fin_ret ?_); simp -implicitDefEqProofs [FinP, resV, resT, hk, hn, pP] <;> try rfl
  by_cases hs : x.s = y.s; rotate_left
  · repeat (first | refine aw_seq ?_ | refine aw_skip ?_ | refine aw_block ?_ | refine aw_exit ?_ | refine aw_cond rfl (fun _ => ?_) (fun hb => absurd hb (by decide)) | refine aw_cond rfl (fun hb => absurd hb (by decide)) (fun _ => ?_) | (refine aw_reg (fun K hK => ?_); simp -implicitDefEqProofs [hk, hn, hs]; refine hK _ ?_) | (refine aw_drw mixd (fun K hK => ?_); simp -implicitDefEqProofs [hk, hn, hs]; refine hK _ _ (by rfl) ?_) | fail)
    refine aw_ret (fin_ret ?_); simp -implicitDefEqProofs [FinP, resV, resT, hk, hn, hs, pP] <;> try rfl
  by_cases hf : x.f = y.f; rotate_left
  · repeat (first | refine aw_seq ?_ | refine aw_skip ?_ | refine aw_block ?_ | refine aw_exit ?_ | refine aw_cond rfl (fun _ => ?_) (fun hb => absurd hb (by decide)) | refine aw_cond rfl (fun hb => absurd hb (by decide)) (fun _ => ?_) | (refine aw_reg (fun K hK => ?_); simp -implicitDefEqProofs [hk, hn, hs, hf]; refine hK _ ?_) | (refine aw_drw mixd (fun K hK => ?_); simp -implicitDefEqProofs [hk, hn, hs, hf]; refine hK _ _ (by rfl) ?_) | fail)
    refine aw_ret (fin_ret ?_); simp -implicitDefEqProofs [FinP, resV, resT, hk, hn, hs, hf, pP] <;> try rfl
  by_cases ht : x.t = y.t; rotate_left
  · repeat (first | refine aw_seq ?_ | refine aw_skip ?_ | refine aw_block ?_ | refine aw_exit ?_ | refine aw_cond rfl (fun _ => ?_) (fun hb => absurd hb (by decide)) | refine aw_cond rfl (fun hb => absurd hb (by decide)) (fun _ => ?_) | (refine aw_reg (fun K hK => ?_); simp -implicitDefEqProofs [hk, hn, hs, hf, ht]; refine hK _ ?_) | (refine aw_drw mixd (fun K hK => ?_); simp -implicitDefEqProofs [hk, hn, hs, hf, ht]; refine hK _ _ (by rfl) ?_) | fail)
    refine aw_ret (fin_ret ?_); simp -implicitDefEqProofs [FinP, resV, resT, hk, hn, hs, hf, ht, pP] <;> try rfl
  by_cases hm : l.length = m.length; rotate_left
  · have hm' : ¬ (l.length : Int) = (m.length : Int) := by omega
    repeat (first | refine aw_seq ?_ | refine aw_skip ?_ | refine aw_block ?_ | refine aw_exit ?_ | refine aw_cond rfl (fun _ => ?_) (fun hb => absurd hb (by decide)) | refine aw_cond rfl (fun hb => absurd hb (by decide)) (fun _ => ?_) | (refine aw_reg (fun K hK => ?_); simp -implicitDefEqProofs [hk, hn, hs, hf, ht, hm, hm']; refine hK _ ?_) | (refine aw_drw mixd (fun K hK => ?_); simp -implicitDefEqProofs [hk, hn, hs, hf, ht, hm, hm']; refine hK _ _ (by rfl) ?_) | fail)
    refine aw_ret (fin_ret ?_); simp -implicitDefEqProofs [FinP, resV, resT, hk, hn, hs, hf, ht, hm, pP] <;> try rfl
  repeat (first | refine aw_seq ?_ | refine aw_skip ?_ | refine aw_block ?_ | refine aw_exit ?_ | refine aw_cond rfl (fun _ => ?_) (fun hb => absurd hb (by decide)) | refine aw_cond rfl (fun hb => absurd hb (by decide)) (fun _ => ?_) | (refine aw_reg (fun K hK => ?_); simp -implicitDefEqProofs [hk, hn, hs, hf, ht, hm]; refine hK _ ?_) | (refine aw_drw mixd (fun K hK => ?_); simp -implicitDefEqProofs [hk, hn, hs, hf, ht, hm]; refine hK _ _ (by rfl) ?_) | fail)
  refine aw_lp (ι := Nat) (fun k => mkSt [(2, .v (.c (.ptr 0 0))), (3, .v (.c (.ptr 1 0))), (5, vI (k : Nat))] [some (.box (ta (.mk x l))), some (.box (ta (.mk y m)))]) (fun k => k ≤ l.length ∧ zipA (eqv pP) l m k = true) (fun k => l.length - k) 0 ⟨Nat.zero_le _, zipA_zero _ _ _⟩ (cov_intro [0, 1] (by simp -implicitDefEqProofs [hk, hn, hs, hf, ht, hm]) (by simp -implicitDefEqProofs [hk, hn, hs, hf, ht, hm]) (by decide) rfl (by simp)) (fun Z hI k hkz => ?_)
  obtain ⟨hkl', hz⟩ := hkz
  by_cases hkl : k < l.length; rotate_left
  · have : k = l.length := by omega
    subst this
    rw [show (pP x y && decide (l.length = m.length) && zipA (eqv pP) l m l.length) = true by rw [hz]; simp [pP, hk, hn, hs, hf, ht, hm]]
    repeat (first | refine aw_seq ?_ | refine aw_skip ?_ | refine aw_block ?_ | refine aw_exit ?_ | refine aw_cond rfl (fun _ => ?_) (fun hb => absurd hb (by decide)) | refine aw_cond rfl (fun hb => absurd hb (by decide)) (fun _ => ?_) | (refine aw_reg (fun K hK => ?_); simp -implicitDefEqProofs; refine hK _ ?_) | (refine aw_drw mixd (fun K hK => ?_); simp -implicitDefEqProofs; refine hK _ _ (by rfl) ?_) | fail)
    refine aw_ret (fin_ret ?_); simp -implicitDefEqProofs [FinP, resV, resT] <;> try rfl
  have hkm : k < m.length := by omega
  obtain ⟨⟨ax, al⟩, ha⟩ : ∃ a, l[k]? = some a := ⟨_, List.getElem?_eq_getElem hkl⟩
  obtain ⟨⟨bx, bl⟩, hb⟩ : ∃ a, m[k]? = some a := ⟨_, List.getElem?_eq_getElem hkm⟩
  have ha' := (List.getElem?_eq_some_iff.1 ha).2
  have hb' := (List.getElem?_eq_some_iff.1 hb).2
  have hsz1 := Tr.size_at (x := x) ha
  have hsz2 := Tr.size_at (x := y) hb
  have w2 : IntKind.i64.wrap ((k : Nat) + 1 : Int) = (k : Nat) + 1 := i64i _ (by omega) (by omega)
  have hzs := zipA_succ (f := eqv pP) ha hb
  repeat (first | refine aw_seq ?_ | refine aw_skip ?_ | refine aw_block ?_ | refine aw_exit ?_ | refine aw_cond rfl (fun _ => ?_) (fun hb => absurd hb (by decide)) | refine aw_cond rfl (fun hb => absurd hb (by decide)) (fun _ => ?_) | (refine aw_reg (fun K hK => ?_); simp -implicitDefEqProofs [hkl]; refine hK _ ?_) | (refine aw_drw mixd (fun K hK => ?_); simp -implicitDefEqProofs [hkl]; refine hK _ _ (by rfl) ?_) | fail)
  refine aw_drw mixd (fun K hK => ?_); simp -implicitDefEqProofs [hkl, hkm, ha, ha', hb, hb']
  refine ard_call (calld_pure (ih _ (List.mem_of_getElem? ha) (by omega) (.mk bx bl) (by omega)) (by simp) (fun _ => rfl) rfl ?_)
  simp -implicitDefEqProofs
  refine hK _ _ (by rfl) ?_
  refine aw_cond rfl (fun hb => ?_) (fun hb => ?_)
  · have hf : plac (.mk ax al) (.mk bx bl) = false := by simpa using hb
    repeat (first | refine aw_seq ?_ | refine aw_skip ?_ | refine aw_block ?_ | refine aw_exit ?_ | refine aw_cond rfl (fun _ => ?_) (fun hb => absurd hb (by decide)) | refine aw_cond rfl (fun hb => absurd hb (by decide)) (fun _ => ?_) | (refine aw_reg (fun K hK => ?_); simp -implicitDefEqProofs; refine hK _ ?_) | (refine aw_drw mixd (fun K hK => ?_); simp -implicitDefEqProofs; refine hK _ _ (by rfl) ?_) | fail)
    have e : zipA (eqv pP) l m l.length = false := by
      have := zipA_mono (l.length - (k + 1)) (show zipA (eqv pP) l m (k + 1) = false by rw [hzs, hz]; simpa using hf)
      rwa [show k + 1 + (l.length - (k + 1)) = l.length by omega] at this
    refine aw_ret (fin_ret ?_); simp -implicitDefEqProofs [FinP, resV, resT, e] <;> try rfl
  · have hf : plac (.mk ax al) (.mk bx bl) = true := by simpa using hb
    repeat (first | refine aw_seq ?_ | refine aw_skip ?_ | refine aw_block ?_ | refine aw_exit ?_ | refine aw_cond rfl (fun _ => ?_) (fun hb => absurd hb (by decide)) | refine aw_cond rfl (fun hb => absurd hb (by decide)) (fun _ => ?_) | (refine aw_reg (fun K hK => ?_); simp -implicitDefEqProofs [w2]; refine hK _ ?_) | (refine aw_drw mixd (fun K hK => ?_); simp -implicitDefEqProofs [w2]; refine hK _ _ (by rfl) ?_) | fail)
    refine ⟨k + 1, ⟨by omega, by rw [hzs, hz]; simpa using hf⟩, (by dsimp only; omega), ?_⟩
    rw [hI]; exact cov_intro [0, 1] (by simp -implicitDefEqProofs) (by simp -implicitDefEqProofs) (by decide) rfl (by simp)
theorem td_stp36 : td Try.prog 39 = some ⟨true, 10, 136, [.lit (.int .i64 0), .lit (.bool false), .nilS, .nilS, .lit (.int .i64 0), .lit (.int .i64 0), .lit (.string ⟨#[]⟩), .nilS, .lit (.int .i64 0), .lit (.int .i64 0)], [(0, 1, false), (1, 1, false), (2, 1, false), (3, 1, false), (4, 6, true)], .struct⟩ := Eq.trans (by kernel_rfl) (Eq.refl _)
theorem td_der36 : td Try.prog 42 = some ⟨true, 13, 192, [.lit (.int .i64 0), .nilS, .lit (.int .i64 0), .lit (.bool false), .nilS, .nilS, .lit (.int .i64 0), .lit (.int .i64 0), .lit (.string ⟨#[]⟩), .nilS, .lit (.int .i64 0), .lit (.int .i64 0), .nilS], [(0, 1, false), (1, 1, false), (2, 10, true), (12, 1, false)], .struct⟩ := Eq.trans (by kernel_rfl) (Eq.refl _)
theorem td_ders36 : td Try.prog 40 = some ⟨false, 1, 24, [.nilS], [], (.slice 42)⟩ := Eq.trans (by kernel_rfl) (Eq.refl _)
attribute [simp] td_stp36 td_der36 td_ders36
theorem saS_mk (r : Int) (b : Bool) (p n : List Int) (x : Lab) (l : List VT) : saS ⟨r, b, p, n, .mk x l⟩ = [.pv (I r), .pv (Bo b), .pv (Is p), .pv (Is n), .pv (I x.k), .pv (I x.n), .pv (Sx x.s), .pv (.sl 6 (l.map tc)), .pv (I x.f), .pv (I x.t)] := by
  unfold saS
  rw [ta_mk]
  rfl
theorem plac_zero (x : Lab) (l : List VT) : plac (.mk x l) zT36 = (same (.mk x l) zT36 && (decide (x.f = 0) && decide (x.t = 0))) := by
  show eqv pP _ _ = (eqv pS _ _ && _)
  rw [eqv_mk, eqv_mk]
  cases l with
  | nil =>
    simp [zipA, pP, pS]
    simp only [Bool.and_assoc]
  | cons y l => simp
theorem iszero_row (s : SLab) (hs : s.t.size ≤ 1000000) : Row Try.prog 71 [vSt36 s] [] (vB (bareS s)) [] := by
  obtain ⟨r, b, p, n, ⟨x, l⟩⟩ := s
  have hsm := tsame_row (.mk x l) hs zT36 (by rw [Tr.size_mk]; simp)
  unfold bareS
  dsimp only
  rw [plac_zero]
  obtain ⟨c, hc⟩ : ∃ c, same (.mk x l) zT36 = c := ⟨_, rfl⟩
  rw [hc] at hsm ⊢
  clear hc
  by_cases h1 : r = 0; rotate_left
  · rw [decide_eq_false h1]
    refine row_of Try.func71 rfl rfl (Nat.le_of_ble_eq_true rfl) ?_
    repeat (first | refine aw_seq ?_ | refine aw_skip ?_ | refine aw_block ?_ | refine aw_exit ?_ | refine aw_ct rfl ?_ | refine aw_cf rfl ?_ | ((first | refine aw_reg (fun K hK => ?_) | refine aw_drw mixd (fun K hK => ?_) | fail); simp -implicitDefEqProofs [saS_mk, h1]; first | refine hK _ ?_ | refine hK _ _ (by rfl) ?_ | fail) | fail)
    refine aw_ret (fin_ret ?_); simp -implicitDefEqProofs [FinP, resV, resT] <;> try rfl
  rw [decide_eq_true h1]
  subst h1
  cases b; rotate_left
  · refine row_of Try.func71 rfl rfl (Nat.le_of_ble_eq_true rfl) ?_
    repeat (first | refine aw_seq ?_ | refine aw_skip ?_ | refine aw_block ?_ | refine aw_exit ?_ | refine aw_ct rfl ?_ | refine aw_cf rfl ?_ | ((first | refine aw_reg (fun K hK => ?_) | refine aw_drw mixd (fun K hK => ?_) | fail); simp -implicitDefEqProofs [saS_mk]; first | refine hK _ ?_ | refine hK _ _ (by rfl) ?_ | fail) | fail)
    refine aw_ret (fin_ret ?_); simp -implicitDefEqProofs [FinP, resV, resT] <;> try rfl
  by_cases h2 : p.length = 0; rotate_left
  · have h2' : ¬ p = [] := fun h => h2 (by rw [h]; rfl)
    rw [decide_eq_false h2]
    refine row_of Try.func71 rfl rfl (Nat.le_of_ble_eq_true rfl) ?_
    repeat (first | refine aw_seq ?_ | refine aw_skip ?_ | refine aw_block ?_ | refine aw_exit ?_ | refine aw_ct rfl ?_ | refine aw_cf rfl ?_ | ((first | refine aw_reg (fun K hK => ?_) | refine aw_drw mixd (fun K hK => ?_) | fail); simp -implicitDefEqProofs [saS_mk, h2, h2']; first | refine hK _ ?_ | refine hK _ _ (by rfl) ?_ | fail) | fail)
    refine aw_ret (fin_ret ?_); simp -implicitDefEqProofs [FinP, resV, resT] <;> try rfl
  rw [decide_eq_true h2]
  obtain rfl := List.length_eq_zero_iff.1 h2
  by_cases h3 : n.length = 0; rotate_left
  · have h3' : ¬ n = [] := fun h => h3 (by rw [h]; rfl)
    rw [decide_eq_false h3]
    refine row_of Try.func71 rfl rfl (Nat.le_of_ble_eq_true rfl) ?_
    repeat (first | refine aw_seq ?_ | refine aw_skip ?_ | refine aw_block ?_ | refine aw_exit ?_ | refine aw_ct rfl ?_ | refine aw_cf rfl ?_ | ((first | refine aw_reg (fun K hK => ?_) | refine aw_drw mixd (fun K hK => ?_) | fail); simp -implicitDefEqProofs [saS_mk, h3, h3']; first | refine hK _ ?_ | refine hK _ _ (by rfl) ?_ | fail) | fail)
    refine aw_ret (fin_ret ?_); simp -implicitDefEqProofs [FinP, resV, resT] <;> try rfl
  rw [decide_eq_true h3]
  obtain rfl := List.length_eq_zero_iff.1 h3
  cases c
  · refine row_of Try.func71 rfl rfl (Nat.le_of_ble_eq_true rfl) ?_
    repeat' (first | refine aw_seq ?_ | refine aw_skip ?_ | refine aw_block ?_ | refine aw_exit ?_ | refine aw_ct rfl ?_ | refine aw_cf rfl ?_ | ((first | refine aw_reg (fun K hK => ?_) | refine aw_drw mixd (fun K hK => ?_) | refine ar_call (cp hsm ?_) | refine ard_call (dp hsm ?_) | fail); simp -implicitDefEqProofs [saS_mk]) | refine hK _ ?_ | refine hK _ _ (by rfl) ?_ | fail)
    refine aw_ret (fin_ret ?_); simp -implicitDefEqProofs [FinP, resV, resT] <;> try rfl
  by_cases h4 : x.f = 0; rotate_left
  · rw [decide_eq_false h4]
    refine row_of Try.func71 rfl rfl (Nat.le_of_ble_eq_true rfl) ?_
    repeat' (first | refine aw_seq ?_ | refine aw_skip ?_ | refine aw_block ?_ | refine aw_exit ?_ | refine aw_ct rfl ?_ | refine aw_cf rfl ?_ | ((first | refine aw_reg (fun K hK => ?_) | refine aw_drw mixd (fun K hK => ?_) | refine ar_call (cp hsm ?_) | refine ard_call (dp hsm ?_) | fail); simp -implicitDefEqProofs [saS_mk, h4]) | refine hK _ ?_ | refine hK _ _ (by rfl) ?_ | fail)
    refine aw_ret (fin_ret ?_); simp -implicitDefEqProofs [FinP, resV, resT] <;> try rfl
  rw [decide_eq_true h4]
  by_cases h5 : x.t = 0; rotate_left
  · rw [decide_eq_false h5]
    refine row_of Try.func71 rfl rfl (Nat.le_of_ble_eq_true rfl) ?_
    repeat' (first | refine aw_seq ?_ | refine aw_skip ?_ | refine aw_block ?_ | refine aw_exit ?_ | refine aw_ct rfl ?_ | refine aw_cf rfl ?_ | ((first | refine aw_reg (fun K hK => ?_) | refine aw_drw mixd (fun K hK => ?_) | refine ar_call (cp hsm ?_) | refine ard_call (dp hsm ?_) | fail); simp -implicitDefEqProofs [saS_mk, h4, h5]) | refine hK _ ?_ | refine hK _ _ (by rfl) ?_ | fail)
    refine aw_ret (fin_ret ?_); simp -implicitDefEqProofs [FinP, resV, resT] <;> try rfl
  rw [decide_eq_true h5]
  refine row_of Try.func71 rfl rfl (Nat.le_of_ble_eq_true rfl) ?_
  repeat' (first | refine aw_seq ?_ | refine aw_skip ?_ | refine aw_block ?_ | refine aw_exit ?_ | refine aw_ct rfl ?_ | refine aw_cf rfl ?_ | ((first | refine aw_reg (fun K hK => ?_) | refine aw_drw mixd (fun K hK => ?_) | refine ar_call (cp hsm ?_) | refine ard_call (dp hsm ?_) | fail); simp -implicitDefEqProofs [saS_mk, h4, h5]) | refine hK _ ?_ | refine hK _ _ (by rfl) ?_ | fail)
  refine aw_ret (fin_ret ?_); simp -implicitDefEqProofs [FinP, resV, resT] <;> try rfl
theorem rbare_row (s : SLab) (hs : s.t.size ≤ 1000000) : Row Try.prog 31 [vSt36 s] [] (vB (bareS s)) [] := by
  obtain ⟨r, b, p, n, ⟨x, l⟩⟩ := s
  have hpl := rplac_row (.mk x l) hs zT36 (by rw [Tr.size_mk]; simp)
  unfold bareS
  dsimp only
  obtain ⟨c, hc⟩ : ∃ c, plac (.mk x l) zT36 = c := ⟨_, rfl⟩
  rw [hc] at hpl ⊢
  clear hc
  by_cases h1 : r = 0; rotate_left
  · rw [decide_eq_false h1]
    refine row_of Try.func31 rfl rfl (Nat.le_of_ble_eq_true rfl) ?_
    repeat (first | refine aw_seq ?_ | refine aw_skip ?_ | refine aw_block ?_ | refine aw_exit ?_ | refine aw_ct rfl ?_ | refine aw_cf rfl ?_ | ((first | refine aw_reg (fun K hK => ?_) | refine aw_drw mixd (fun K hK => ?_) | fail); simp -implicitDefEqProofs [saS_mk, h1]; first | refine hK _ ?_ | refine hK _ _ (by rfl) ?_ | fail) | fail)
    refine aw_ret (fin_ret ?_); simp -implicitDefEqProofs [FinP, resV, resT] <;> try rfl
  rw [decide_eq_true h1]
  subst h1
  cases b; rotate_left
  · refine row_of Try.func31 rfl rfl (Nat.le_of_ble_eq_true rfl) ?_
    repeat (first | refine aw_seq ?_ | refine aw_skip ?_ | refine aw_block ?_ | refine aw_exit ?_ | refine aw_ct rfl ?_ | refine aw_cf rfl ?_ | ((first | refine aw_reg (fun K hK => ?_) | refine aw_drw mixd (fun K hK => ?_) | fail); simp -implicitDefEqProofs [saS_mk]; first | refine hK _ ?_ | refine hK _ _ (by rfl) ?_ | fail) | fail)
    refine aw_ret (fin_ret ?_); simp -implicitDefEqProofs [FinP, resV, resT] <;> try rfl
  by_cases h2 : p.length = 0; rotate_left
  · have h2' : ¬ p = [] := fun h => h2 (by rw [h]; rfl)
    rw [decide_eq_false h2]
    refine row_of Try.func31 rfl rfl (Nat.le_of_ble_eq_true rfl) ?_
    repeat (first | refine aw_seq ?_ | refine aw_skip ?_ | refine aw_block ?_ | refine aw_exit ?_ | refine aw_ct rfl ?_ | refine aw_cf rfl ?_ | ((first | refine aw_reg (fun K hK => ?_) | refine aw_drw mixd (fun K hK => ?_) | fail); simp -implicitDefEqProofs [saS_mk, h2, h2']; first | refine hK _ ?_ | refine hK _ _ (by rfl) ?_ | fail) | fail)
    refine aw_ret (fin_ret ?_); simp -implicitDefEqProofs [FinP, resV, resT] <;> try rfl
  rw [decide_eq_true h2]
  obtain rfl := List.length_eq_zero_iff.1 h2
  by_cases h3 : n.length = 0; rotate_left
  · have h3' : ¬ n = [] := fun h => h3 (by rw [h]; rfl)
    rw [decide_eq_false h3]
    refine row_of Try.func31 rfl rfl (Nat.le_of_ble_eq_true rfl) ?_
    repeat (first | refine aw_seq ?_ | refine aw_skip ?_ | refine aw_block ?_ | refine aw_exit ?_ | refine aw_ct rfl ?_ | refine aw_cf rfl ?_ | ((first | refine aw_reg (fun K hK => ?_) | refine aw_drw mixd (fun K hK => ?_) | fail); simp -implicitDefEqProofs [saS_mk, h3, h3']; first | refine hK _ ?_ | refine hK _ _ (by rfl) ?_ | fail) | fail)
    refine aw_ret (fin_ret ?_); simp -implicitDefEqProofs [FinP, resV, resT] <;> try rfl
  rw [decide_eq_true h3]
  obtain rfl := List.length_eq_zero_iff.1 h3
  refine row_of Try.func31 rfl rfl (Nat.le_of_ble_eq_true rfl) ?_
  repeat' (first | refine aw_seq ?_ | refine aw_skip ?_ | refine aw_block ?_ | refine aw_exit ?_ | refine aw_ct rfl ?_ | refine aw_cf rfl ?_ | ((first | refine aw_reg (fun K hK => ?_) | refine aw_drw mixd (fun K hK => ?_) | refine ar_call (cp hpl ?_) | refine ard_call (dp hpl ?_) | fail); simp -implicitDefEqProofs [saS_mk]) | refine hK _ ?_ | refine hK _ _ (by rfl) ?_ | fail)
  refine aw_ret (fin_ret ?_); simp -implicitDefEqProofs [FinP, resV, resT] <;> try rfl
theorem isderiv_row (k : Int) : Row Try.prog 56 [vI k] [] (vB (decide (kndD k))) [] := by
  by_cases h1 : k = 1
  · rw [decide_eq_true (.inl h1)]
    refine row_of Try.func56 rfl rfl (Nat.le_of_ble_eq_true rfl) ?_
    repeat (first | refine aw_seq ?_ | refine aw_skip ?_ | refine aw_block ?_ | refine aw_exit ?_ | refine aw_ct rfl ?_ | refine aw_cf rfl ?_ | ((first | refine aw_reg (fun K hK => ?_) | refine aw_drw mixd (fun K hK => ?_) | fail); simp -implicitDefEqProofs [h1]; first | refine hK _ ?_ | refine hK _ _ (by rfl) ?_ | fail) | fail)
    refine aw_ret (fin_ret ?_); simp -implicitDefEqProofs [FinP, resV, resT] <;> try rfl
  by_cases h2 : k = 2
  · rw [decide_eq_true (.inr (.inl h2))]
    refine row_of Try.func56 rfl rfl (Nat.le_of_ble_eq_true rfl) ?_
    repeat (first | refine aw_seq ?_ | refine aw_skip ?_ | refine aw_block ?_ | refine aw_exit ?_ | refine aw_ct rfl ?_ | refine aw_cf rfl ?_ | ((first | refine aw_reg (fun K hK => ?_) | refine aw_drw mixd (fun K hK => ?_) | fail); simp -implicitDefEqProofs [h1, h2]; first | refine hK _ ?_ | refine hK _ _ (by rfl) ?_ | fail) | fail)
    refine aw_ret (fin_ret ?_); simp -implicitDefEqProofs [FinP, resV, resT] <;> try rfl
  by_cases h3 : k = 3
  · rw [decide_eq_true (.inr (.inr h3))]
    refine row_of Try.func56 rfl rfl (Nat.le_of_ble_eq_true rfl) ?_
    repeat (first | refine aw_seq ?_ | refine aw_skip ?_ | refine aw_block ?_ | refine aw_exit ?_ | refine aw_ct rfl ?_ | refine aw_cf rfl ?_ | ((first | refine aw_reg (fun K hK => ?_) | refine aw_drw mixd (fun K hK => ?_) | fail); simp -implicitDefEqProofs [h1, h2, h3]; first | refine hK _ ?_ | refine hK _ _ (by rfl) ?_ | fail) | fail)
    refine aw_ret (fin_ret ?_); simp -implicitDefEqProofs [FinP, resV, resT] <;> try rfl
  rw [decide_eq_false (fun h => by rcases h with h | h | h <;> contradiction)]
  refine row_of Try.func56 rfl rfl (Nat.le_of_ble_eq_true rfl) ?_
  repeat (first | refine aw_seq ?_ | refine aw_skip ?_ | refine aw_block ?_ | refine aw_exit ?_ | refine aw_ct rfl ?_ | refine aw_cf rfl ?_ | ((first | refine aw_reg (fun K hK => ?_) | refine aw_drw mixd (fun K hK => ?_) | fail); simp -implicitDefEqProofs [h1, h2, h3]; first | refine hK _ ?_ | refine hK _ _ (by rfl) ?_ | fail) | fail)
  refine aw_ret (fin_ret ?_); simp -implicitDefEqProofs [FinP, resV, resT] <;> try rfl
end Go.Proofs.Ytcjagcfjpfjanaa.am
end
