import Derived.Test.YtcjagcfjpfjanaaPkD8
import Derived.Test.YtcjagcfjpfjanaaPkD6
set_option maxRecDepth 100000
set_option maxHeartbeats 4000000
section
namespace Go.Proofs.Ytcjagcfjpfjanaa.am
open Go.ChangeShapes Go.WideShapes Go.ChangeAt Go.RowKit
open vt
set_option linter.unusedVariables false
set_option linter.unusedSimpArgs false
abbrev fnDw : AV := .v (.c (.fn (.func 30) [.ptr 0 0] []))
def WdOk (y : DT) (dv : Int) : Prop := ∀ B : List Int, B.length + 12000 * y.size ≤ 80000000 → Row Try.prog 30 [vW0, vD y] [bxC 1 0 dv B 0, rwC] (.tup []) [some (bxC 2 0 dv (B ++ wrD y dv) (dEr y (dv + 1))), none, some rwC]
theorem size_cutD (l : List DT) (k : Nat) : ((l.take k).map Tr.size).sum + ((l.drop k).map Tr.size).sum = (l.map Tr.size).sum := by
  rw [← List.sum_append, ← List.map_append, List.take_append_drop]
theorem wders_row (dv : Int) (B : List Int) (e : Int) (l : List DT) (hl : l.length ≤ 1000) (hsm : ∀ y ∈ l, Tr.all smD y) (hok : ∀ y ∈ l, WdOk y dv) (hB : B.length + 10 + 12000 * (l.map Tr.size).sum ≤ 80000000) : Row Try.prog 59 [vW0, vDs l, fnDw] [bxC 1 0 dv B e, rwC] (.tup []) [some (bxC 2 0 dv (B ++ (vs.enc (l.length : Nat) ++ (if e = 0 then seqW (l.map fun y => (wrD y dv, dEr y (dv + 1))) else []))) (if e = 0 then fstE (l.map fun y => dEr y (dv + 1)) else e)), none, some rwC] := by
  have hn := wnumber_row 0 dv B e (l.length : Nat) (by omega) (by omega) (by omega)
  have w0 : IntKind.u64.wrap (l.length : Int) = (l.length : Nat) := by rw [vs.u64_wrap]; omega
  obtain ⟨A, hA⟩ : ∃ A, B ++ vs.enc (l.length : Nat) = A := ⟨_, rfl⟩
  have hAl : A.length ≤ B.length + 10 := by rw [← hA, List.length_append]; have := (enc_ln (l.length : Nat)).2; omega
  rw [← List.append_assoc, hA]
  rw [hA] at hn
  by_cases he : e = 0; rotate_left
  · rw [if_neg he, if_neg he, List.append_nil]
    refine row_of Try.func59 rfl rfl (Nat.le_of_ble_eq_true rfl) ?_
    repeat' (first | refine aw_seq ?_ | refine aw_skip ?_ | refine aw_block ?_ | refine aw_exit ?_ | refine aw_ct rfl ?_ | refine aw_cf rfl ?_ | ((first | refine aw_reg (fun K hK => ?_) | refine aw_drw mixd (fun K hK => ?_) | refine ar_call (cg hn [0,1] ?_) | refine ard_call (dg hn [0,1] ?_) | fail); simp -implicitDefEqProofs [w0]) | refine hK _ ?_ | refine hK _ _ (by rfl) ?_ | fail)
    refine aw_lp (ι := Nat) (fun k => mkSt [(0, vW0), (13, vDs l), (14, vI (l.length : Nat)), (15, vI (k : Nat))] [some (bxC 2 0 dv A e), none, some rwC]) (fun k => k ≤ l.length) (fun k => l.length - k) 0 (Nat.zero_le _) (cov_intro [0, 1, 6] (by simp -implicitDefEqProofs) (by simp -implicitDefEqProofs) (by decide) rfl (by simp)) (fun Z hI k hk => ?_)
    by_cases hkl : k < l.length; rotate_left
    · have : k = l.length := by omega
      subst this
      repeat (first | refine aw_seq ?_ | refine aw_skip ?_ | refine aw_block ?_ | refine aw_exit ?_ | refine aw_ct rfl ?_ | refine aw_cf rfl ?_ | ((first | refine aw_reg (fun K hK => ?_) | refine aw_drw mixd (fun K hK => ?_) | fail); simp -implicitDefEqProofs; first | refine hK _ ?_ | refine hK _ _ (by rfl) ?_ | fail) | fail)
      refine fin_fall (fin_g [0, 1, 2] ?_); simp -implicitDefEqProofs [FinG, resV, resT] <;> try rfl
    obtain ⟨⟨⟨ak, ap, ⟨ar, ab, asp, asn, ⟨ax, atl⟩⟩⟩, al⟩, ha⟩ : ∃ a, l[k]? = some a := ⟨_, List.getElem?_eq_getElem hkl⟩
    have ha' := (List.getElem?_eq_some_iff.1 ha).2
    have w2 : IntKind.i64.wrap ((k : Nat) + 1 : Int) = (k : Nat) + 1 := i64i _ (by omega) (by omega)
    repeat (first | refine aw_seq ?_ | refine aw_skip ?_ | refine aw_block ?_ | refine aw_exit ?_ | refine aw_ct rfl ?_ | refine aw_cf rfl ?_ | ((first | refine aw_reg (fun K hK => ?_) | refine aw_drw mixd (fun K hK => ?_) | fail); simp -implicitDefEqProofs [hkl, ha, ha', w2, he]; first | refine hK _ ?_ | refine hK _ _ (by rfl) ?_ | fail) | fail)
    refine ⟨k + 1, by omega, (by dsimp only; omega), ?_⟩
    rw [hI]; exact cov_intro [0, 1, 2] (by simp -implicitDefEqProofs) (by simp -implicitDefEqProofs) (by decide) rfl (by simp)
  subst he
  rw [if_pos rfl, if_pos rfl]
  have hlen : ∀ k, k ≤ l.length → (seqW ((l.take k).map fun y => (wrD y dv, dEr y (dv + 1)))).length ≤ 12000 * ((l.take k).map Tr.size).sum := fun k hk => by
    have h3 := seq_len ((l.take k).map fun y => (wrD y dv, dEr y (dv + 1))) ((l.take k).map fun y => 12000 * y.size) (by simp) (fun i p n hp hn => by
      rw [List.getElem?_map] at hp hn
      obtain ⟨y, hy, rfl⟩ := Option.map_eq_some_iff.1 hp
      rw [hy] at hn
      obtain rfl := Option.some.inj hn
      exact wrD_len y (hsm y (List.mem_of_mem_take (List.mem_of_getElem? hy))) dv)
    have h4 : ∀ L : List DT, (L.map fun y => 12000 * y.size).sum = 12000 * (L.map Tr.size).sum := fun L => by
      induction L with
      | nil => rfl
      | cons y L ih => simp only [List.map_cons, List.sum_cons, ih]; omega
    rw [h4] at h3
    exact h3
  have s0 : A ++ seqW ((l.take 0).map fun y => (wrD y dv, dEr y (dv + 1))) = A := by rw [List.take_zero]; exact List.append_nil A
  have f0 : fstE ((l.take 0).map fun y => dEr y (dv + 1)) = 0 := rfl
  refine row_of Try.func59 rfl rfl (Nat.le_of_ble_eq_true rfl) ?_
  repeat' (first | refine aw_seq ?_ | refine aw_skip ?_ | refine aw_block ?_ | refine aw_exit ?_ | refine aw_ct rfl ?_ | refine aw_cf rfl ?_ | ((first | refine aw_reg (fun K hK => ?_) | refine aw_drw mixd (fun K hK => ?_) | refine ar_call (cg hn [0,1] ?_) | refine ard_call (dg hn [0,1] ?_) | fail); simp -implicitDefEqProofs [w0]) | refine hK _ ?_ | refine hK _ _ (by rfl) ?_ | fail)
  refine aw_lp (ι := Nat) (fun k => mkSt [(0, vW0), (2, fnDw), (13, vDs l), (14, vI (l.length : Nat)), (15, vI (k : Nat))] [some (bxC 2 0 dv (A ++ seqW ((l.take k).map fun y => (wrD y dv, dEr y (dv + 1)))) (fstE ((l.take k).map fun y => dEr y (dv + 1)))), none, some rwC]) (fun k => k ≤ l.length) (fun k => l.length - k) 0 (Nat.zero_le _) (by rw [s0, f0]; exact cov_intro [0, 1, 6] (by simp -implicitDefEqProofs) (by simp -implicitDefEqProofs) (by decide) rfl (by simp)) (fun Z hI k hk => ?_)
  clear s0 f0 hn
  by_cases hkl : k < l.length; rotate_left
  · have : k = l.length := by omega
    subst this
    rw [List.take_length]
    obtain ⟨X, hX⟩ : ∃ X, A ++ seqW (l.map fun y => (wrD y dv, dEr y (dv + 1))) = X := ⟨_, rfl⟩
    obtain ⟨g, hg⟩ : ∃ g, fstE (l.map fun y => dEr y (dv + 1)) = g := ⟨_, rfl⟩
    rw [hX, hg]
    repeat (first | refine aw_seq ?_ | refine aw_skip ?_ | refine aw_block ?_ | refine aw_exit ?_ | refine aw_ct rfl ?_ | refine aw_cf rfl ?_ | ((first | refine aw_reg (fun K hK => ?_) | refine aw_drw mixd (fun K hK => ?_) | fail); simp -implicitDefEqProofs; first | refine hK _ ?_ | refine hK _ _ (by rfl) ?_ | fail) | fail)
    refine fin_fall (fin_g [0, 1, 2] ?_); simp -implicitDefEqProofs [FinG, resV, resT] <;> try rfl
  obtain ⟨a, ha⟩ : ∃ a, l[k]? = some a := ⟨_, List.getElem?_eq_getElem hkl⟩
  have ha' := (List.getElem?_eq_some_iff.1 ha).2
  have w2 : IntKind.i64.wrap ((k : Nat) + 1 : Int) = (k : Nat) + 1 := i64i _ (by omega) (by omega)
  have htk : ∀ {β : Type} (f : DT → β), (l.take (k + 1)).map f = (l.take k).map f ++ [f a] := fun f => by rw [List.take_add_one, ha]; simp
  have hs1 := seq_snoc (wrD a dv, dEr a (dv + 1)) ((l.take k).map fun y => (wrD y dv, dEr y (dv + 1)))
  rw [← htk (fun y => (wrD y dv, dEr y (dv + 1))), List.map_map] at hs1
  have hs2 := fst_snoc (dEr a (dv + 1)) ((l.take k).map fun y => dEr y (dv + 1))
  rw [← htk (fun y => dEr y (dv + 1))] at hs2
  have hcmp : ((fun x : List Int × Int => x.2) ∘ fun y : DT => (wrD y dv, dEr y (dv + 1))) = fun y => dEr y (dv + 1) := rfl
  rw [hcmp] at hs1
  have hlk := hlen k hk
  have hcut := size_cutD l k
  have hd : l.drop k = a :: l.drop (k + 1) := by rw [List.drop_eq_getElem_cons hkl, ha']
  rw [hd, List.map_cons, List.sum_cons] at hcut
  obtain ⟨W, hW⟩ : ∃ W, seqW ((l.take k).map fun y => (wrD y dv, dEr y (dv + 1))) = W := ⟨_, rfl⟩
  obtain ⟨g, hg⟩ : ∃ g, fstE ((l.take k).map fun y => dEr y (dv + 1)) = g := ⟨_, rfl⟩
  rw [hW, hg] at hs1
  rw [hg] at hs2
  rw [hW] at hlk ⊢
  rw [hg]
  have hrow := hok a (List.mem_of_getElem? ha) (A ++ W) (by rw [List.length_append]; omega)
  rw [List.append_assoc] at hrow
  clear hok hlen htk hcut hsm hd
  by_cases hg0 : g = 0
  · subst hg0
    rw [if_pos rfl] at hs1 hs2
    obtain ⟨V, hV⟩ : ∃ V, W ++ wrD a dv = V := ⟨_, rfl⟩
    rw [hV] at hs1 hrow
    obtain ⟨q, hq⟩ : ∃ q, dEr a (dv + 1) = q := ⟨_, rfl⟩
    rw [hq] at hs2 hrow
    clear hq hV
    obtain ⟨⟨ak, ap, ⟨ar, ab, asp, asn, ⟨ax, atl⟩⟩⟩, al⟩ := a
    repeat' (first | refine aw_seq ?_ | refine aw_skip ?_ | refine aw_block ?_ | refine aw_exit ?_ | refine aw_ct rfl ?_ | refine aw_cf rfl ?_ | ((first | refine aw_reg (fun K hK => ?_) | refine aw_drw mixd (fun K hK => ?_) | refine ar_call (cg hrow [0,2] ?_) | refine ard_call (dg hrow [0,2] ?_) | fail); simp -implicitDefEqProofs [hkl, ha, ha', w2]) | refine hK _ ?_ | refine hK _ _ (by rfl) ?_ | fail)
    refine ⟨k + 1, by omega, (by dsimp only; omega), ?_⟩
    rw [hI, hs1, hs2]; exact cov_intro [0, 1, 15] (by simp -implicitDefEqProofs) (by simp -implicitDefEqProofs) (by decide) rfl (by simp)
  · rw [if_neg hg0] at hs1 hs2
    clear hrow
    obtain ⟨⟨ak, ap, ⟨ar, ab, asp, asn, ⟨ax, atl⟩⟩⟩, al⟩ := a
    repeat (first | refine aw_seq ?_ | refine aw_skip ?_ | refine aw_block ?_ | refine aw_exit ?_ | refine aw_ct rfl ?_ | refine aw_cf rfl ?_ | ((first | refine aw_reg (fun K hK => ?_) | refine aw_drw mixd (fun K hK => ?_) | fail); simp -implicitDefEqProofs [hkl, ha, ha', w2, hg0]; first | refine hK _ ?_ | refine hK _ _ (by rfl) ?_ | fail) | fail)
    refine ⟨k + 1, by omega, (by dsimp only; omega), ?_⟩
    rw [hI, hs1, hs2]; exact cov_intro [0, 1, 2] (by simp -implicitDefEqProofs) (by simp -implicitDefEqProofs) (by decide) rfl (by simp)
end Go.Proofs.Ytcjagcfjpfjanaa.am
end
section
namespace Go.Proofs.Ytcjagcfjpfjanaa.am
open Go.ChangeShapes Go.WideShapes Go.ChangeAt Go.RowKit
open vt
set_option linter.unusedVariables false
set_option linter.unusedSimpArgs false
section
variable {P : Program} {N : Nat} {st : St}
theorem finD_d {g : FuncId} {rs : List ResultVar} {res : AV} {ch' : List (Option AO)} {ex : Exit} {tr dv dv' e : Int} {B : List Int} {o : AO} {i : Nat} (hD : RowD P g [vW1] [bxC 1 tr dv B e, rwC] (.tup []) [some (bxC 1 tr dv' B e), some rwC]) (he : ex = .normal ∨ ex = .ret) (hb : kid (hlk st.hp 0) = some i) (ho : hlk st.hp 0 = some o) (hcov : covO (hlk st.hp) 2 (fun k => [0, i].getD k 0) ([bxC 1 tr dv B e, rwC].map some) [0, i])
    (h : FinG P rs res ch' [0, 1, i] (st.wr (wrs (nmap [0, i] 2 st.nx) 0 [some (bxC 1 tr dv' B e), some rwC]) 8)) (hnd : [0, i].Nodup := by first | decide | (simp; done)) (hn3 : [0, 1, i].Nodup := by first | decide | (simp; done)) (hl : 2 ≤ ch'.length := by first | decide | (simp; done)) : FinD P N 2 g 0 1 rs res ch' ex st :=
  ⟨he, [vW1], [bxC 1 tr dv B e, rwC], .tup [], [some (bxC 1 tr dv' B e), some rwC], [0, i], hD, by simp, hcov, hnd, by simp, by simp, ⟨o, ho⟩, fin_g [0, 1, i] h hn3 rfl hl⟩
end
theorem wd_deep (dv : Int) (B : List Int) (d : DT) (h0 : 64 ≤ dv) (h1 : dv ≤ 100000) : Row Try.prog 30 [vW0, vD d] [bxC 1 0 dv B 0, rwC] (.tup []) [some (bxC 2 0 dv (B ++ wrD d dv) (dEr d (dv + 1))), none, some rwC] := by
  obtain ⟨⟨ak, ap, ⟨ar, ab, asp, asn, ⟨ax, atl⟩⟩⟩, al⟩ := d
  rw [wrD_mk, if_pos h0, dEr_mk, if_pos (by omega), List.append_nil]
  have hen := denter_row 0 dv B (by omega) (by omega)
  rw [if_pos h0, decide_eq_false (fun k => k h0)] at hen
  have hD := dleave_rowD 0 (dv + 1) B 7 (by omega) (by omega)
  rw [show dv + 1 - 1 = dv by omega] at hD
  refine row_of_d Try.func30 rfl rfl (Nat.le_of_ble_eq_true rfl) ?_
  refine awd_seq ?_
  refine aw_reg (fun K hK => ?_); simp -implicitDefEqProofs; refine hK _ ?_
  refine ⟨rfl, ?_⟩
  refine awd_defer rfl ?_
  simp -implicitDefEqProofs
  refine ⟨0, by decide, 1, ⟨rfl, rfl⟩, ?_⟩
  refine aw_mvr 1 0 2 _ 5 1 1 (iC B) rfl rfl rfl (by simp) (by simp) ?_
  simp [St.mvr]
  repeat' (first | refine aw_seq ?_ | refine aw_skip ?_ | refine aw_block ?_ | refine aw_exit ?_ | refine aw_ct rfl ?_ | refine aw_cf rfl ?_ | ((first | refine aw_reg (fun K hK => ?_) | refine aw_drw mixd (fun K hK => ?_) | refine ar_call (cgK hen 0 rfl ?_) | refine ard_call (dgK hen 0 rfl ?_) | fail); simp -implicitDefEqProofs) | refine hK _ ?_ | refine hK _ _ (by rfl) ?_ | fail)
  refine aw_ret (finD_d (N := 0) hD (.inr rfl) rfl rfl ?_ ?_)
  · simp
  · simp -implicitDefEqProofs [FinG, resV, resT]
theorem wd_kind (dv : Int) (B : List Int) (x : DLab) (l : List DT) (h0 : 0 ≤ dv) (h1 : ¬ 64 ≤ dv) (hs : x.s.t.size ≤ 1000000) (hk : ¬ kndD x.k) : Row Try.prog 30 [vW0, vD (.mk x l)] [bxC 1 0 dv B 0, rwC] (.tup []) [some (bxC 2 0 dv (B ++ wrD (.mk x l) dv) (dEr (.mk x l) (dv + 1))), none, some rwC] := by
  rw [wrD_mk, if_neg h1, if_neg hk, if_neg (fun k => hk k.1), dEr_mk, if_neg (by omega), if_pos hk, List.append_nil, List.append_nil]
  have hen := denter_row 0 dv B (by omega) (by omega)
  rw [if_neg h1, decide_eq_true h1] at hen
  have hid := isderiv_row x.k
  rw [decide_eq_false hk] at hid
  have hkd := wkind_no 0 (dv + 1) B 0 x.k
  rw [if_pos rfl] at hkd
  have hsh := shaped_row x l hs
  have hfl := wfail_row 0 (dv + 1) B 23 2
  rw [if_neg (by decide)] at hfl
  have hD := dleave_rowD 0 (dv + 1) B 23 (by omega) (by omega)
  rw [show dv + 1 - 1 = dv by omega] at hD
  obtain ⟨c, hc⟩ : ∃ c, shB x l.length = c := ⟨_, rfl⟩
  rw [hc] at hsh
  clear hc hs hk
  obtain ⟨ak, ap, ⟨ar, ab, asp, asn, ⟨ax, atl⟩⟩⟩ := x
  dsimp only at hid hkd hsh
  cases c
  · refine row_of_d Try.func30 rfl rfl (Nat.le_of_ble_eq_true rfl) ?_
    refine awd_seq ?_
    refine aw_reg (fun K hK => ?_); simp -implicitDefEqProofs; refine hK _ ?_
    refine ⟨rfl, ?_⟩
    refine awd_defer rfl ?_
    simp -implicitDefEqProofs
    refine ⟨0, by decide, 1, ⟨rfl, rfl⟩, ?_⟩
    refine aw_mvr 1 0 2 _ 5 1 1 (iC B) rfl rfl rfl (by simp) (by simp) ?_
    simp [St.mvr]
    repeat' (first | refine aw_seq ?_ | refine aw_skip ?_ | refine aw_block ?_ | refine aw_exit ?_ | refine aw_ct rfl ?_ | refine aw_cf rfl ?_ | ((first | refine aw_reg (fun K hK => ?_) | refine aw_drw mixd (fun K hK => ?_) | refine ar_call (cgK hen 0 rfl ?_) | refine ard_call (dgK hen 0 rfl ?_) | refine ar_call (cp hid ?_) | refine ard_call (dp hid ?_) | refine ar_call (cgK hkd 0 rfl ?_) | refine ard_call (dgK hkd 0 rfl ?_) | refine ar_call (cp hsh ?_) | refine ard_call (dp hsh ?_) | refine ar_call (cgK hfl 0 rfl ?_) | refine ard_call (dgK hfl 0 rfl ?_) | fail); simp -implicitDefEqProofs) | refine hK _ ?_ | refine hK _ _ (by rfl) ?_ | fail)
    refine aw_ret (finD_d (N := 0) hD (.inr rfl) rfl rfl ?_ ?_)
    · simp
    · simp -implicitDefEqProofs [FinG, resV, resT]
  · refine row_of_d Try.func30 rfl rfl (Nat.le_of_ble_eq_true rfl) ?_
    refine awd_seq ?_
    refine aw_reg (fun K hK => ?_); simp -implicitDefEqProofs; refine hK _ ?_
    refine ⟨rfl, ?_⟩
    refine awd_defer rfl ?_
    simp -implicitDefEqProofs
    refine ⟨0, by decide, 1, ⟨rfl, rfl⟩, ?_⟩
    refine aw_mvr 1 0 2 _ 5 1 1 (iC B) rfl rfl rfl (by simp) (by simp) ?_
    simp [St.mvr]
    repeat' (first | refine aw_seq ?_ | refine aw_skip ?_ | refine aw_block ?_ | refine aw_exit ?_ | refine aw_ct rfl ?_ | refine aw_cf rfl ?_ | ((first | refine aw_reg (fun K hK => ?_) | refine aw_drw mixd (fun K hK => ?_) | refine ar_call (cgK hen 0 rfl ?_) | refine ard_call (dgK hen 0 rfl ?_) | refine ar_call (cp hid ?_) | refine ard_call (dp hid ?_) | refine ar_call (cgK hkd 0 rfl ?_) | refine ard_call (dgK hkd 0 rfl ?_) | refine ar_call (cp hsh ?_) | refine ard_call (dp hsh ?_) | fail); simp -implicitDefEqProofs) | refine hK _ ?_ | refine hK _ _ (by rfl) ?_ | fail)
    refine aw_ret (finD_d (N := 0) hD (.inr rfl) rfl rfl ?_ ?_)
    · simp
    · simp -implicitDefEqProofs [FinG, resV, resT]
theorem wd_form (dv : Int) (B : List Int) (x : DLab) (l : List DT) (h0 : 0 ≤ dv) (h1 : ¬ 64 ≤ dv) (hs : x.s.t.size ≤ 1000000) (hk : kndD x.k) (hf : ¬ frmD x l.length) (hB : B.length + 1 ≤ 80000000) : Row Try.prog 30 [vW0, vD (.mk x l)] [bxC 1 0 dv B 0, rwC] (.tup []) [some (bxC 2 0 dv (B ++ wrD (.mk x l) dv) (dEr (.mk x l) (dv + 1))), none, some rwC] := by
  rw [wrD_mk, if_neg h1, if_pos hk, if_neg (fun k => hf k.2), dEr_mk, if_neg (by omega), if_neg (fun k => k hk), if_pos hf, List.append_nil]
  have hen := denter_row 0 dv B (by omega) (by omega)
  rw [if_neg h1, decide_eq_true h1] at hen
  have hid := isderiv_row x.k
  rw [decide_eq_true hk] at hid
  have hkd := wkind_yes 0 (dv + 1) B 0 x.k (by rcases hk with h | h | h <;> omega) (by rcases hk with h | h | h <;> omega) (by omega)
  have hsh := shaped_row x l hs
  rw [show shB x l.length = false from Bool.eq_false_iff.2 (fun h => hf ((shB_frm hk).1 h))] at hsh
  obtain ⟨B1, hB1⟩ : ∃ B1, B ++ [x.k] = B1 := ⟨_, rfl⟩
  rw [hB1] at hkd ⊢
  have hfl := wfail_row 0 (dv + 1) B1 0 2
  rw [if_pos rfl] at hfl
  have hD := dleave_rowD 0 (dv + 1) B1 2 (by omega) (by omega)
  rw [show dv + 1 - 1 = dv by omega] at hD
  clear hs hk hf hB1
  obtain ⟨ak, ap, ⟨ar, ab, asp, asn, ⟨ax, atl⟩⟩⟩ := x
  dsimp only at hid hkd hsh
  refine row_of_d Try.func30 rfl rfl (Nat.le_of_ble_eq_true rfl) ?_
  refine awd_seq ?_
  refine aw_reg (fun K hK => ?_); simp -implicitDefEqProofs; refine hK _ ?_
  refine ⟨rfl, ?_⟩
  refine awd_defer rfl ?_
  simp -implicitDefEqProofs
  refine ⟨0, by decide, 1, ⟨rfl, rfl⟩, ?_⟩
  repeat' (first | refine aw_seq ?_ | refine aw_skip ?_ | refine aw_block ?_ | refine aw_exit ?_ | refine aw_ct rfl ?_ | refine aw_cf rfl ?_ | ((first | refine aw_reg (fun K hK => ?_) | refine aw_drw mixd (fun K hK => ?_) | refine ar_call (cgK hen 0 rfl ?_) | refine ard_call (dgK hen 0 rfl ?_) | refine ar_call (cp hid ?_) | refine ard_call (dp hid ?_) | refine ar_call (cgK hkd 0 rfl ?_) | refine ard_call (dgK hkd 0 rfl ?_) | refine ar_call (cp hsh ?_) | refine ard_call (dp hsh ?_) | refine ar_call (cgK hfl 0 rfl ?_) | refine ard_call (dgK hfl 0 rfl ?_) | fail); simp -implicitDefEqProofs) | refine hK _ ?_ | refine hK _ _ (by rfl) ?_ | fail)
  refine aw_ret (finD_d (N := 0) hD (.inr rfl) rfl rfl ?_ ?_)
  · simp
  · simp -implicitDefEqProofs [FinG, resV, resT]
end Go.Proofs.Ytcjagcfjpfjanaa.am
end
section
namespace Go.Proofs.Ytcjagcfjpfjanaa.am
open Go.ChangeShapes Go.WideShapes Go.ChangeAt Go.RowKit
open vt
set_option linter.unusedVariables false
set_option linter.unusedSimpArgs false
theorem wd_step (dv : Int) (B : List Int) (x : DLab) (l : List DT) (h0 : 0 ≤ dv) (h1 : ¬ 64 ≤ dv) (hx : x.ok) (hs : smD x) (hk : x.k = 1) (hf : frmD x l.length) (hB : B.length + 12000 ≤ 80000000) : Row Try.prog 30 [vW0, vD (.mk x l)] [bxC 1 0 dv B 0, rwC] (.tup []) [some (bxC 2 0 dv (B ++ wrD (.mk x l) dv) (dEr (.mk x l) (dv + 1))), none, some rwC] := by
  have hkd' : kndD x.k := .inl hk
  have ht : x.s.t.size ≤ 1000000 := by have := hs.2.2.2; omega
  rw [wrD_mk, if_neg h1, if_pos hkd', if_pos ⟨hkd', hf⟩, if_pos hk, dEr_mk, if_neg (by omega), if_neg (fun k => k hkd'), if_neg (fun k => k hf), if_pos hk]
  have hen := denter_row 0 dv B (by omega) (by omega)
  rw [if_neg h1, decide_eq_true h1] at hen
  have hid := isderiv_row x.k
  rw [decide_eq_true hkd'] at hid
  have hkd := wkind_yes 0 (dv + 1) B 0 x.k (by omega) (by omega) (by omega)
  have hsh := shaped_row x l ht
  rw [(shB_frm hkd').2 hf] at hsh
  obtain ⟨B1, hB1⟩ : ∃ B1, B ++ [x.k] = B1 := ⟨_, rfl⟩
  have l1 : B1.length = B.length + 1 := by rw [← hB1, List.length_append]; rfl
  rw [← List.append_assoc]
  rw [hB1] at hkd ⊢
  have hst := wstep_row (dv + 1) B1 x hx hs (by omega)
  obtain ⟨B2, hB2⟩ : ∃ B2, B1 ++ stW x.s = B2 := ⟨_, rfl⟩
  obtain ⟨e, he⟩ : ∃ e, sEr x.s = e := ⟨_, rfl⟩
  rw [hB2, he] at hst ⊢
  have hD := dleave_rowD 0 (dv + 1) B2 e (by omega) (by omega)
  rw [show dv + 1 - 1 = dv by omega] at hD
  clear hs hf hB1 hB2 he hx ht hkd' hB l1
  obtain ⟨ak, ap, ⟨ar, ab, asp, asn, ⟨ax, atl⟩⟩⟩ := x
  dsimp only at hid hkd hsh hst hk
  subst hk
  refine row_of_d Try.func30 rfl rfl (Nat.le_of_ble_eq_true rfl) ?_
  refine awd_seq ?_
  refine aw_reg (fun K hK => ?_); simp -implicitDefEqProofs; refine hK _ ?_
  refine ⟨rfl, ?_⟩
  refine awd_defer rfl ?_
  simp -implicitDefEqProofs
  refine ⟨0, by decide, 1, ⟨rfl, rfl⟩, ?_⟩
  repeat' (first | refine aw_seq ?_ | refine aw_skip ?_ | refine aw_block ?_ | refine aw_exit ?_ | refine aw_ct rfl ?_ | refine aw_cf rfl ?_ | ((first | refine aw_reg (fun K hK => ?_) | refine aw_drw mixd (fun K hK => ?_) | refine ar_call (cgK hen 0 rfl ?_) | refine ard_call (dgK hen 0 rfl ?_) | refine ar_call (cp hid ?_) | refine ard_call (dp hid ?_) | refine ar_call (cgK hkd 0 rfl ?_) | refine ard_call (dgK hkd 0 rfl ?_) | refine ar_call (cp hsh ?_) | refine ard_call (dp hsh ?_) | refine ar_call (cgK hst 0 rfl ?_) | refine ard_call (dgK hst 0 rfl ?_) | fail); simp -implicitDefEqProofs) | refine hK _ ?_ | refine hK _ _ (by rfl) ?_ | fail)
  refine finD_d (N := 0) hD (.inl rfl) rfl rfl ?_ ?_
  · simp
  · simp -implicitDefEqProofs [FinG, resV, resT]
theorem wd_seq (dv : Int) (B : List Int) (x : DLab) (l : List DT) (h0 : 0 ≤ dv) (h1 : ¬ 64 ≤ dv) (hx : smD x) (hs : ∀ y ∈ l, Tr.all smD y) (hok : ∀ y ∈ l, WdOk y (dv + 1)) (hk : x.k = 2) (hf : frmD x l.length) (hl : l.length ≤ 1000) (hB : B.length + 12000 + 12000 * (l.map Tr.size).sum ≤ 80000000) : Row Try.prog 30 [vW0, vD (.mk x l)] [bxC 1 0 dv B 0, rwC] (.tup []) [some (bxC 2 0 dv (B ++ wrD (.mk x l) dv) (dEr (.mk x l) (dv + 1))), none, some rwC] := by
  have hkd' : kndD x.k := .inr (.inl hk)
  have ht : x.s.t.size ≤ 1000000 := by have := hx.2.2.2; omega
  have hp0 : pEr x = 0 := by unfold pEr; rw [if_neg (by omega)]
  rw [wrD_mk, if_neg h1, if_pos hkd', if_pos ⟨hkd', hf⟩, if_neg (by omega), if_neg (by omega), if_pos hp0, dEr_mk, if_neg (by omega), if_neg (fun k => k hkd'), if_neg (fun k => k hf), if_neg (by omega), if_neg (fun k => by omega), List.nil_append]
  have hen := denter_row 0 dv B (by omega) (by omega)
  rw [if_neg h1, decide_eq_true h1] at hen
  have hid := isderiv_row x.k
  rw [decide_eq_true hkd'] at hid
  have hkd := wkind_yes 0 (dv + 1) B 0 x.k (by omega) (by omega) (by omega)
  have hsh := shaped_row x l ht
  rw [(shB_frm hkd').2 hf] at hsh
  obtain ⟨B1, hB1⟩ : ∃ B1, B ++ [x.k] = B1 := ⟨_, rfl⟩
  have l1 : B1.length = B.length + 1 := by rw [← hB1, List.length_append]; rfl
  rw [← List.append_assoc]
  rw [hB1] at hkd ⊢
  have hal := wders_row (dv + 1) B1 0 l hl hs hok (by omega)
  rw [if_pos rfl, if_pos rfl, show dv + 1 + 1 = dv + 2 by omega] at hal
  rw [show dv + 1 + 1 = dv + 2 by omega]
  obtain ⟨B2, hB2⟩ : ∃ B2, B1 ++ (vs.enc (l.length : Nat) ++ seqW (l.map fun y => (wrD y (dv + 1), dEr y (dv + 2)))) = B2 := ⟨_, rfl⟩
  obtain ⟨e, he⟩ : ∃ e, fstE (l.map fun y => dEr y (dv + 2)) = e := ⟨_, rfl⟩
  rw [hB2, he] at hal ⊢
  have hD := dleave_rowD 0 (dv + 1) B2 e (by omega) (by omega)
  rw [show dv + 1 - 1 = dv by omega] at hD
  clear hs hok hf hB1 hB2 he hx ht hkd' hB l1 hp0
  obtain ⟨ak, ap, ⟨ar, ab, asp, asn, ⟨ax, atl⟩⟩⟩ := x
  dsimp only at hid hkd hsh hk
  subst hk
  refine row_of_d Try.func30 rfl rfl (Nat.le_of_ble_eq_true rfl) ?_
  refine awd_seq ?_
  refine aw_reg (fun K hK => ?_); simp -implicitDefEqProofs; refine hK _ ?_
  refine ⟨rfl, ?_⟩
  refine awd_defer rfl ?_
  simp -implicitDefEqProofs
  refine ⟨0, by decide, 1, ⟨rfl, rfl⟩, ?_⟩
  repeat' (first | refine aw_seq ?_ | refine aw_skip ?_ | refine aw_block ?_ | refine aw_exit ?_ | refine aw_ct rfl ?_ | refine aw_cf rfl ?_ | ((first | refine aw_reg (fun K hK => ?_) | refine aw_drw mixd (fun K hK => ?_) | refine ar_call (cgK hen 0 rfl ?_) | refine ard_call (dgK hen 0 rfl ?_) | refine ar_call (cp hid ?_) | refine ard_call (dp hid ?_) | refine ar_call (cgK hkd 0 rfl ?_) | refine ard_call (dgK hkd 0 rfl ?_) | refine ar_call (cp hsh ?_) | refine ard_call (dp hsh ?_) | refine ar_call (cgK hal 0 rfl ?_) | refine ard_call (dgK hal 0 rfl ?_) | fail); simp -implicitDefEqProofs) | refine hK _ ?_ | refine hK _ _ (by rfl) ?_ | fail)
  refine finD_d (N := 0) hD (.inl rfl) rfl rfl ?_ ?_
  · simp
  · simp -implicitDefEqProofs [FinG, resV, resT]
theorem wd_at (dv : Int) (B : List Int) (x : DLab) (l : List DT) (h0 : 0 ≤ dv) (h1 : ¬ 64 ≤ dv) (hx : smD x) (hs : ∀ y ∈ l, Tr.all smD y) (hok : ∀ y ∈ l, WdOk y (dv + 1)) (hk : x.k = 3) (hf : frmD x l.length) (hl : l.length ≤ 1000) (hB : B.length + 12000 + 12000 * (l.map Tr.size).sum ≤ 80000000) : Row Try.prog 30 [vW0, vD (.mk x l)] [bxC 1 0 dv B 0, rwC] (.tup []) [some (bxC 2 0 dv (B ++ wrD (.mk x l) dv) (dEr (.mk x l) (dv + 1))), none, some rwC] := by
  have hkd' : kndD x.k := .inr (.inr hk)
  have ht : x.s.t.size ≤ 1000000 := by have := hx.2.2.2; omega
  have hpl := hx.1
  have hp0 : pEr x = lEr x.p := by unfold pEr; rw [if_pos hk]
  have hde : dEr (.mk x l) (dv + 1) = if lEr x.p = 0 then fstE (l.map fun y => dEr y (dv + 2)) else lEr x.p := by
    rw [dEr_mk, if_neg (by omega), if_neg (fun k => k hkd'), if_neg (fun k => k hf), if_neg (by omega), show dv + 1 + 1 = dv + 2 by omega]
    by_cases g : lEr x.p = 0
    · rw [if_neg (fun k => k.2 g), if_pos g]
    · rw [if_pos ⟨hk, g⟩, if_neg g]
  rw [hde, wrD_mk, if_neg h1, if_pos hkd', if_pos ⟨hkd', hf⟩, if_neg (by omega), if_pos hk, hp0]
  have hen := denter_row 0 dv B (by omega) (by omega)
  rw [if_neg h1, decide_eq_true h1] at hen
  have hid := isderiv_row x.k
  rw [decide_eq_true hkd'] at hid
  have hkd := wkind_yes 0 (dv + 1) B 0 x.k (by omega) (by omega) (by omega)
  have hsh := shaped_row x l ht
  rw [(shB_frm hkd').2 hf] at hsh
  obtain ⟨B1, hB1⟩ : ∃ B1, B ++ [x.k] = B1 := ⟨_, rfl⟩
  have l1 : B1.length = B.length + 1 := by rw [← hB1, List.length_append]; rfl
  rw [← List.append_assoc, ← List.append_assoc]
  rw [hB1] at hkd ⊢
  have hin := wints_row 0 (dv + 1) B1 0 x.p (by omega) (by omega)
  rw [if_pos rfl] at hin
  have lw := lW_len x.p 0
  obtain ⟨B3, hB3⟩ : ∃ B3, B1 ++ lW x.p 0 = B3 := ⟨_, rfl⟩
  have l3 : B3.length ≤ B.length + 1011 := by rw [← hB3, List.length_append]; omega
  obtain ⟨e3, he3⟩ : ∃ e3, lEr x.p = e3 := ⟨_, rfl⟩
  rw [hB3, he3] at hin ⊢
  have hal := wders_row (dv + 1) B3 e3 l hl hs hok (by omega)
  rw [show dv + 1 + 1 = dv + 2 by omega] at hal
  obtain ⟨B2, hB2⟩ : ∃ B2, B3 ++ (vs.enc (l.length : Nat) ++ (if e3 = 0 then seqW (l.map fun y => (wrD y (dv + 1), dEr y (dv + 2))) else [])) = B2 := ⟨_, rfl⟩
  obtain ⟨e, he⟩ : ∃ e, (if e3 = 0 then fstE (l.map fun y => dEr y (dv + 2)) else e3) = e := ⟨_, rfl⟩
  rw [hB2, he] at hal ⊢
  have hD := dleave_rowD 0 (dv + 1) B2 e (by omega) (by omega)
  rw [show dv + 1 - 1 = dv by omega] at hD
  clear hs hok hf hB1 hB2 he hx ht hkd' hB l1 hp0 hde hB3 he3 lw l3 hpl
  obtain ⟨ak, ap, ⟨ar, ab, asp, asn, ⟨ax, atl⟩⟩⟩ := x
  dsimp only at hid hkd hsh hk hin
  subst hk
  refine row_of_d Try.func30 rfl rfl (Nat.le_of_ble_eq_true rfl) ?_
  refine awd_seq ?_
  refine aw_reg (fun K hK => ?_); simp -implicitDefEqProofs; refine hK _ ?_
  refine ⟨rfl, ?_⟩
  refine awd_defer rfl ?_
  simp -implicitDefEqProofs
  refine ⟨0, by decide, 1, ⟨rfl, rfl⟩, ?_⟩
  repeat' (first | refine aw_seq ?_ | refine aw_skip ?_ | refine aw_block ?_ | refine aw_exit ?_ | refine aw_ct rfl ?_ | refine aw_cf rfl ?_ | ((first | refine aw_reg (fun K hK => ?_) | refine aw_drw mixd (fun K hK => ?_) | refine ar_call (cgK hen 0 rfl ?_) | refine ard_call (dgK hen 0 rfl ?_) | refine ar_call (cp hid ?_) | refine ard_call (dp hid ?_) | refine ar_call (cgK hkd 0 rfl ?_) | refine ard_call (dgK hkd 0 rfl ?_) | refine ar_call (cp hsh ?_) | refine ard_call (dp hsh ?_) | refine ar_call (cgK hin 0 rfl ?_) | refine ard_call (dgK hin 0 rfl ?_) | refine ar_call (cgK hal 0 rfl ?_) | refine ard_call (dgK hal 0 rfl ?_) | fail); simp -implicitDefEqProofs) | refine hK _ ?_ | refine hK _ _ (by rfl) ?_ | fail)
  refine finD_d (N := 0) hD (.inl rfl) rfl rfl ?_ ?_
  · simp
  · simp -implicitDefEqProofs [FinG, resV, resT]
theorem wderiv_row (d : DT) : dok64 d → Tr.all smD d → d.size ≤ 1000 → ∀ dv : Int, 0 ≤ dv → dv ≤ 2000 → WdOk d dv := by
  induction d using Tr.ind with
  | h x l ih =>
  intro hi hs hsz dv h0 h9 B hB
  by_cases h1 : 64 ≤ dv
  · exact wd_deep dv B _ h1 (by omega)
  obtain ⟨hx, hl⟩ := (Tr.all_mk _ _ _).1 hi
  obtain ⟨sx, sl⟩ := (Tr.all_mk _ _ _).1 hs
  have hlen := Tr.len_size (x := x) (l := l)
  have ht : x.s.t.size ≤ 1000000 := by have := sx.2.2.2; omega
  rw [Tr.size_mk] at hB
  have hok : ∀ y ∈ l, WdOk y (dv + 1) := fun y hy => by
    obtain ⟨i, hi⟩ := List.mem_iff_getElem?.1 hy
    have := Tr.size_at (x := x) hi
    exact ih y hy (hl y hy) (sl y hy) (by omega) (dv + 1) (by omega) (by omega)
  by_cases hk : kndD x.k; rotate_left
  · exact wd_kind dv B x l h0 h1 ht hk
  by_cases hf : frmD x l.length; rotate_left
  · exact wd_form dv B x l h0 h1 ht hk hf (by omega)
  rcases hk with h | h | h
  · exact wd_step dv B x l h0 h1 hx sx h hf (by omega)
  · exact wd_seq dv B x l h0 h1 sx sl hok h hf (by omega) (by omega)
  · exact wd_at dv B x l h0 h1 sx sl hok h hf (by omega) (by omega)
noncomputable def pdV (d : DT) : PV := if dEr d 1 = 0 then .sl 1 (iC (dE d)) else .nilS
theorem cderiv_row (d : DT) (hi : dok64 d) (hs : Tr.all smD d) (hsz : d.size ≤ 1000) : Row Try.prog 14 [vD d] [] (vBE (pdV d) (dEr d 1)) [] := by
  have hw := wderiv_row d hi hs hsz 0 (by omega) (by omega) [] (by simp; omega)
  rw [List.nil_append, show (0 : Int) + 1 = 1 by omega] at hw
  have hok := wrD_ok d 0
  rw [show (0 : Int) + 1 = 1 by omega] at hok
  unfold pdV
  obtain ⟨q, hq⟩ : ∃ q, dEr d 1 = q := ⟨_, rfl⟩
  rw [hq] at hw hok ⊢
  have e0 : iC [] = [] := rfl
  by_cases h0 : q = 0
  · subst h0
    rw [if_pos rfl]
    rw [hok rfl] at hw
    obtain ⟨B, hB⟩ : ∃ B, dE d = B := ⟨_, rfl⟩
    rw [hB] at hw ⊢
    have hd := wdone_ok 0 0 B
    clear hok hB hq hi hs hsz
    obtain ⟨⟨ak, ap, ⟨ar, ab, asp, asn, ⟨ax, atl⟩⟩⟩, al⟩ := d
    refine row_of Try.func14 rfl rfl (Nat.le_of_ble_eq_true rfl) ?_
    refine aw_seq ?_; (first | refine aw_reg (fun K hK => ?_) | refine aw_drw mixd (fun K hK => ?_) | fail); simp -implicitDefEqProofs; repeat' (first | refine hK _ ?_ | refine hK _ _ (by rfl) ?_ | ((first | fail); simp -implicitDefEqProofs) | fail)
    refine aw_seq ?_; (first | refine aw_reg (fun K hK => ?_) | refine aw_drw mixd (fun K hK => ?_) | fail); simp -implicitDefEqProofs; repeat' (first | refine hK _ ?_ | refine hK _ _ (by rfl) ?_ | ((first | fail); simp -implicitDefEqProofs) | fail)
    refine aw_nilc 4 2 _ 5 1 rfl rfl (by simp) ?_
    simp [St.nilc]
    repeat' (first | refine aw_seq ?_ | refine aw_skip ?_ | refine aw_block ?_ | refine aw_exit ?_ | refine aw_ct rfl ?_ | refine aw_cf rfl ?_ | ((first | refine aw_reg (fun K hK => ?_) | refine aw_drw mixd (fun K hK => ?_) | refine ar_call (cgK hw 4 rfl ?_) | refine ard_call (dgK hw 4 rfl ?_) | refine ar_call (cgK hd 4 rfl ?_) | refine ard_call (dgK hd 4 rfl ?_) | fail); simp -implicitDefEqProofs) | refine hK _ ?_ | refine hK _ _ (by rfl) ?_ | fail)
    refine aw_ret (fin_ret ?_); simp -implicitDefEqProofs [FinP, resV, resT] <;> try rfl
  · rw [if_neg h0]
    obtain ⟨B, hB⟩ : ∃ B, wrD d 0 = B := ⟨_, rfl⟩
    rw [hB] at hw
    have hd := wdone_err 0 0 B q h0
    clear hok hB hq hi hs hsz
    obtain ⟨⟨ak, ap, ⟨ar, ab, asp, asn, ⟨ax, atl⟩⟩⟩, al⟩ := d
    refine row_of Try.func14 rfl rfl (Nat.le_of_ble_eq_true rfl) ?_
    refine aw_seq ?_; (first | refine aw_reg (fun K hK => ?_) | refine aw_drw mixd (fun K hK => ?_) | fail); simp -implicitDefEqProofs; repeat' (first | refine hK _ ?_ | refine hK _ _ (by rfl) ?_ | ((first | fail); simp -implicitDefEqProofs) | fail)
    refine aw_seq ?_; (first | refine aw_reg (fun K hK => ?_) | refine aw_drw mixd (fun K hK => ?_) | fail); simp -implicitDefEqProofs; repeat' (first | refine hK _ ?_ | refine hK _ _ (by rfl) ?_ | ((first | fail); simp -implicitDefEqProofs) | fail)
    refine aw_nilc 4 2 _ 5 1 rfl rfl (by simp) ?_
    simp [St.nilc]
    repeat' (first | refine aw_seq ?_ | refine aw_skip ?_ | refine aw_block ?_ | refine aw_exit ?_ | refine aw_ct rfl ?_ | refine aw_cf rfl ?_ | ((first | refine aw_reg (fun K hK => ?_) | refine aw_drw mixd (fun K hK => ?_) | refine ar_call (cgK hw 4 rfl ?_) | refine ard_call (dgK hw 4 rfl ?_) | refine ar_call (cgK hd 4 rfl ?_) | refine ard_call (dgK hd 4 rfl ?_) | fail); simp -implicitDefEqProofs) | refine hK _ ?_ | refine hK _ _ (by rfl) ?_ | fail)
    refine aw_ret (fin_ret ?_); simp -implicitDefEqProofs [FinP, resV, resT] <;> try rfl
structure InvE (v : Int) (s : Nat × Int × List Int) : Prop where
  h0 : 0 ≤ s.2.1
  h1 : s.2.1 < 2 * 128 ^ s.1
  h9 : s.1 ≤ 9
  h3 : s.2.1 ≤ 18446744073709551615
  h2 : s.2.2 ++ vs.encF s.1 s.2.1 = vs.enc v
theorem rbytesO_row (v : Int) (h0 : 0 ≤ v) (h1 : v ≤ 18446744073709551615) : Row Try.prog 25 [vN v] [] (.v (.c (.row 0 1 (iC (vs.enc v))))) [some rwC] := by
  refine row_of Try.func25 rfl rfl (Nat.le_of_ble_eq_true rfl) ?_
  repeat (first | refine aw_seq ?_ | refine aw_skip ?_ | refine aw_block ?_ | refine aw_exit ?_ | refine aw_ct rfl ?_ | refine aw_cf rfl ?_ | ((first | refine aw_reg (fun K hK => ?_) | refine aw_drw mixd (fun K hK => ?_) | fail); simp -implicitDefEqProofs; first | refine hK _ ?_ | refine hK _ _ (by rfl) ?_ | fail) | fail)
  refine aw_lp (ι := Nat × Int × List Int) (fun s => mkSt [(0, vN s.2.1), (3, .v (.c (.row 0 1 (iC s.2.2))))] [some rwC]) (InvE v) (fun s => s.1) (9, v, []) ⟨h0, by show v < 2 * 128 ^ 9; omega, Nat.le_refl _, h1, rfl⟩ (cov_intro [1] (by simp -implicitDefEqProofs [iC]) (by simp -implicitDefEqProofs [iC]) (by decide) rfl (by simp)) (fun Z hI s hs => ?_)
  obtain ⟨k, x, L⟩ := s
  obtain ⟨a0, a1, a9, a3, a2⟩ := hs
  dsimp only at a0 a1 a9 a3 a2 ⊢
  have hLn : L.length ≤ 10 := by
    have := congrArg List.length a2
    have := (enc_ln v).2
    rw [List.length_append] at *
    omega
  have g1 : L.length ≤ 140737488355327 := by omega
  by_cases hx : 128 ≤ x; rotate_left
  · have w1 : IntKind.u8.wrap x = x := vs.u8_in x (by omega) (by omega)
    have he : iC (vs.enc v) = iC L ++ [[PV.lit (.int .u8 x)]] := by
      have : vs.encF k x = [x] := by
        cases k with
        | zero => rfl
        | succ k => rw [vs.encF_succ, if_pos (by omega)]
      rw [← a2, this, ← iC_app]; rfl
    repeat (first | refine aw_seq ?_ | refine aw_skip ?_ | refine aw_block ?_ | refine aw_exit ?_ | refine aw_ct rfl ?_ | refine aw_cf rfl ?_ | ((first | refine aw_reg (fun K hK => ?_) | refine aw_drw mixd (fun K hK => ?_) | fail); simp -implicitDefEqProofs [hx, w1, iC_len, g1]; first | refine hK _ ?_ | refine hK _ _ (by rfl) ?_ | fail) | fail)
    refine aw_ret (fin_g [7] ?_); simp -implicitDefEqProofs [FinG, resV, resT, he] <;> try rfl
  match k, a1, a9, a2 with
  | 0, a1, _, _ => exfalso; simp at a1; omega
  | k + 1, a1, a9, a2 =>
    rw [vs.encF_succ, if_neg (by omega)] at a2
    have w1 : IntKind.u8.wrap (x % 128 + 128) = x % 128 + 128 := vs.u8_in _ (by omega) (by omega)
    have wA : IntKind.u64.wrap (x.tdiv 128) = x / 128 := by rw [vs.u64_wrap, Int.tdiv_eq_ediv_of_nonneg a0]; omega
    have wB : IntKind.u64.wrap (128 + x.tmod 128) = x % 128 + 128 := by rw [vs.u64_wrap, Int.tmod_eq_emod_of_nonneg a0]; omega
    have hc : iC (L ++ [x % 128 + 128]) = iC L ++ [[PV.lit (.int .u8 (x % 128 + 128))]] := by rw [← iC_app]; rfl
    repeat (first | refine aw_seq ?_ | refine aw_skip ?_ | refine aw_block ?_ | refine aw_exit ?_ | refine aw_ct rfl ?_ | refine aw_cf rfl ?_ | ((first | refine aw_reg (fun K hK => ?_) | refine aw_drw mixd (fun K hK => ?_) | fail); simp -implicitDefEqProofs [hx, w1, wA, wB, iC_len, g1]; first | refine hK _ ?_ | refine hK _ _ (by rfl) ?_ | fail) | fail)
    refine ⟨(k, x / 128, L ++ [x % 128 + 128]), ⟨by show 0 ≤ x / 128; omega, ?_, by show k ≤ 9; omega, by show x / 128 ≤ _; omega, by show (L ++ [x % 128 + 128]) ++ _ = _; rw [← a2, List.append_assoc]; rfl⟩, (by show k < k + 1; omega), ?_⟩
    · show x / 128 < 2 * 128 ^ k
      rw [Int.pow_succ] at a1
      omega
    · rw [hI]; dsimp only; rw [hc]; exact cov_intro [9] (by simp -implicitDefEqProofs) (by simp -implicitDefEqProofs) (by decide) rfl (by simp)
theorem fsm_first {l : List Int} {k : Nat} {a : Int} (ha : l[k]? = some a) (h0 : ∀ y ∈ l.take k, smE y = 0) (hq : ¬ smE a = 0) : lEr l = smE a := by
  unfold lEr
  induction l generalizing k with
  | nil => simp at ha
  | cons y l ih =>
    cases k with
    | zero =>
      simp at ha
      subst ha
      simp only [List.map_cons, fstE]
      rw [if_neg hq]
    | succ k =>
      simp at ha
      rw [List.take_succ_cons] at h0
      simp only [List.map_cons, fstE]
      rw [if_pos (h0 y (by simp)), ih ha (fun z hz => h0 z (by simp [hz]))]
theorem fsm_none {l : List Int} (h0 : ∀ y ∈ l, smE y = 0) : lEr l = 0 := by
  unfold lEr
  induction l with
  | nil => rfl
  | cons y l ih =>
    simp only [List.map_cons, fstE]
    rw [if_pos (h0 y (by simp)), ih (fun z hz => h0 z (by simp [hz]))]
def rlV (l : List Int) : PV := if lEr l = 0 then .sl 1 (iC (lE l)) else .sl 1 []
theorem rlist36_row (l : List Int) (hl : l.length ≤ 1000000) : Row Try.prog 33 [vIs l] [] (vBE (rlV l) (lEr l)) [] := by
  have hb := rbytesO_row (l.length : Nat) (by omega) (by omega)
  have w0 : IntKind.u64.wrap (l.length : Int) = (l.length : Nat) := by rw [vs.u64_wrap]; omega
  obtain ⟨A, hA⟩ : ∃ A, vs.enc (l.length : Nat) = A := ⟨_, rfl⟩
  have hAl : A.length ≤ 10 := by rw [← hA]; exact (enc_ln _).2
  have hle : lE l = A ++ (l.map vs.enc).flatten := by unfold lE; rw [hA]
  rw [hA] at hb
  have s0 : A ++ ((l.take 0).map vs.enc).flatten = A := by simp
  clear hA
  refine row_of Try.func33 rfl rfl (Nat.le_of_ble_eq_true rfl) ?_
  repeat' (first | refine aw_seq ?_ | refine aw_skip ?_ | refine aw_block ?_ | refine aw_exit ?_ | refine aw_ct rfl ?_ | refine aw_cf rfl ?_ | ((first | refine aw_reg (fun K hK => ?_) | refine aw_drw mixd (fun K hK => ?_) | refine ar_call (cg hb [] ?_) | refine ard_call (dg hb [] ?_) | fail); simp -implicitDefEqProofs [w0]) | refine hK _ ?_ | refine hK _ _ (by rfl) ?_ | fail)
  refine aw_lp (ι := Nat) (fun k => mkSt [(0, vIs l), (4, .v (.c (.row 0 1 (iC (A ++ ((l.take k).map vs.enc).flatten))))), (5, vI (k : Nat))] [some rwC]) (fun k => k ≤ l.length ∧ ∀ y ∈ l.take k, smE y = 0) (fun k => l.length - k) 0 ⟨Nat.zero_le _, by simp⟩ (by rw [s0]; exact cov_intro [5] (by simp -implicitDefEqProofs) (by simp -implicitDefEqProofs) (by decide) rfl (by simp)) (fun Z hI k hk => ?_)
  clear s0 hb
  obtain ⟨hk, hok⟩ := hk
  by_cases hkl : k < l.length; rotate_left
  · have : k = l.length := by omega
    subst this
    rw [List.take_length] at hok ⊢
    unfold rlV
    rw [fsm_none hok, if_pos rfl, hle]
    repeat (first | refine aw_seq ?_ | refine aw_skip ?_ | refine aw_block ?_ | refine aw_exit ?_ | refine aw_ct rfl ?_ | refine aw_cf rfl ?_ | ((first | refine aw_reg (fun K hK => ?_) | refine aw_drw mixd (fun K hK => ?_) | fail); simp -implicitDefEqProofs; first | refine hK _ ?_ | refine hK _ _ (by rfl) ?_ | fail) | fail)
    refine aw_ret (fin_ret ?_); simp -implicitDefEqProofs [FinP, resV, resT] <;> try rfl
  obtain ⟨a, ha⟩ : ∃ a, l[k]? = some a := ⟨_, List.getElem?_eq_getElem hkl⟩
  have ha' := (List.getElem?_eq_some_iff.1 ha).2
  have w2 : IntKind.i64.wrap ((k : Nat) + 1 : Int) = (k : Nat) + 1 := i64i _ (by omega) (by omega)
  by_cases hq : smE a = 0
  · have hin : 0 ≤ a ∧ a ≤ 2147483647 := by
      unfold smE at hq
      split at hq
      · cases hq
      · omega
    have q1 : ¬ a < 0 := by omega
    have q2 : ¬ 2147483647 < a := by omega
    have w3 : IntKind.u64.wrap a = a := by rw [vs.u64_wrap]; omega
    have hr := rbytesO_row a hin.1 (by omega)
    have hrl := (enc_ln a).2
    have hlk := encs_len (l.take k)
    have hlt : (l.take k).length ≤ 1000000 := by rw [List.length_take]; omega
    have hn : A ++ ((l.take (k + 1)).map vs.enc).flatten = (A ++ ((l.take k).map vs.enc).flatten) ++ vs.enc a := by
      rw [List.take_add_one, ha]; simp
    have hUl : (A ++ ((l.take k).map vs.enc).flatten).length ≤ 10000020 := by rw [List.length_append]; omega
    obtain ⟨V, hV⟩ : ∃ V, vs.enc a = V := ⟨_, rfl⟩
    obtain ⟨U, hU⟩ : ∃ U, A ++ ((l.take k).map vs.enc).flatten = U := ⟨_, rfl⟩
    rw [hV] at hr hn hrl
    rw [hU] at hn hUl ⊢
    have g3 : U.length + V.length ≤ 140737488355328 := by omega
    have hap := iC_app U V
    have hok' : ∀ y ∈ l.take (k + 1), smE y = 0 := fun y hy => by
      rw [List.take_add_one, ha] at hy
      rcases List.mem_append.1 hy with hy | hy
      · exact hok y hy
      · simp at hy; subst hy; exact hq
    clear hok hq hin hlk hlt hUl hrl hV hU
    repeat' (first | refine aw_seq ?_ | refine aw_skip ?_ | refine aw_block ?_ | refine aw_exit ?_ | refine aw_ct rfl ?_ | refine aw_cf rfl ?_ | ((first | refine aw_reg (fun K hK => ?_) | refine aw_drw mixd (fun K hK => ?_) | refine ar_call (cg hr [] ?_) | refine ard_call (dg hr [] ?_) | fail); simp -implicitDefEqProofs [hkl, ha, ha', w2, w3, q1, q2, iC_len, g3, hap]) | refine hK _ ?_ | refine hK _ _ (by rfl) ?_ | fail)
    refine ⟨k + 1, ⟨by omega, hok'⟩, (by dsimp only; omega), ?_⟩
    rw [hI]; simp only [hn]; exact cov_intro [31] (by simp -implicitDefEqProofs) (by simp -implicitDefEqProofs) (by decide) rfl (by simp)
  · have hf := fsm_first ha hok hq
    have h13 : smE a = 13 := by
      unfold smE at hq ⊢
      split
      · rfl
      · rename_i h; rw [if_neg h] at hq; exact absurd rfl hq
    rw [h13] at hf
    unfold rlV
    rw [hf, if_neg (by decide)]
    clear hok
    by_cases q1 : a < 0
    · repeat (first | refine aw_seq ?_ | refine aw_skip ?_ | refine aw_block ?_ | refine aw_exit ?_ | refine aw_ct rfl ?_ | refine aw_cf rfl ?_ | ((first | refine aw_reg (fun K hK => ?_) | refine aw_drw mixd (fun K hK => ?_) | fail); simp -implicitDefEqProofs [hkl, ha, ha', w2, q1]; first | refine hK _ ?_ | refine hK _ _ (by rfl) ?_ | fail) | fail)
      refine aw_ret (fin_ret ?_); simp -implicitDefEqProofs [FinP, resV, resT] <;> try rfl
    · have q2 : 2147483647 < a := by
        unfold smE at h13
        split at h13
        · omega
        · cases h13
      repeat (first | refine aw_seq ?_ | refine aw_skip ?_ | refine aw_block ?_ | refine aw_exit ?_ | refine aw_ct rfl ?_ | refine aw_cf rfl ?_ | ((first | refine aw_reg (fun K hK => ?_) | refine aw_drw mixd (fun K hK => ?_) | fail); simp -implicitDefEqProofs [hkl, ha, ha', w2, q1, q2]; first | refine hK _ ?_ | refine hK _ _ (by rfl) ?_ | fail) | fail)
      refine aw_ret (fin_ret ?_); simp -implicitDefEqProofs [FinP, resV, resT] <;> try rfl
noncomputable def rsV (s : SLab) : PV := if sEr s = 0 then .sl 1 (iC (sE s)) else .sl 1 []
theorem iC_cons (z : Int) (l : List Int) : iC (z :: l) = [PV.lit (.int .u8 z)] :: iC l := rfl
theorem fst_cons (a : Int) (l : List Int) : fstE (a :: l) = if a = 0 then fstE l else a := rfl
theorem rstep36_row (x : DLab) (hx : x.ok) (hs : smD x) : Row Try.prog 32 [vSt36 x.s] [] (vBE (rsV x.s) (sEr x.s)) [] := by
  obtain ⟨-, -, -, -, -, hti⟩ := hx
  obtain ⟨-, s1, s2, s3⟩ := hs
  obtain ⟨k0, p0, s⟩ := x
  obtain ⟨r, b, p, n, t⟩ := s
  dsimp only at hti s1 s2 s3 ⊢
  have hp := rlist36_row p (by omega)
  have hn := rlist36_row n (by omega)
  have ht := rterm_row t hti (by omega) 1 (by omega) (by omega)
  have tl := tE_len t
  have pl := lE_len p
  have nl := lE_len n
  have rl := (enc_ln r).2
  by_cases hr : smE r = 0; rotate_left
  · have he : smE r = 13 := by
      unfold smE at hr ⊢
      split
      · rfl
      · rename_i h; rw [if_neg h] at hr; exact absurd rfl hr
    have hse : sEr ⟨r, b, p, n, t⟩ = 13 := by
      unfold sEr
      rw [fst_cons, if_neg (by rw [he]; decide), he]
    unfold rsV
    rw [hse, if_neg (by decide)]
    clear hp hn ht tl pl nl rl
    obtain ⟨y, tl⟩ := t
    by_cases q1 : r < 0
    · refine row_of Try.func32 rfl rfl (Nat.le_of_ble_eq_true rfl) ?_
      repeat (first | refine aw_seq ?_ | refine aw_skip ?_ | refine aw_block ?_ | refine aw_exit ?_ | refine aw_ct rfl ?_ | refine aw_cf rfl ?_ | ((first | refine aw_reg (fun K hK => ?_) | refine aw_drw mixd (fun K hK => ?_) | fail); simp -implicitDefEqProofs [q1]; first | refine hK _ ?_ | refine hK _ _ (by rfl) ?_ | fail) | fail)
      refine aw_ret (fin_ret ?_); simp -implicitDefEqProofs [FinP, resV, resT] <;> try rfl
    · have q2 : 2147483647 < r := by
        unfold smE at he
        split at he
        · omega
        · cases he
      refine row_of Try.func32 rfl rfl (Nat.le_of_ble_eq_true rfl) ?_
      repeat (first | refine aw_seq ?_ | refine aw_skip ?_ | refine aw_block ?_ | refine aw_exit ?_ | refine aw_ct rfl ?_ | refine aw_cf rfl ?_ | ((first | refine aw_reg (fun K hK => ?_) | refine aw_drw mixd (fun K hK => ?_) | fail); simp -implicitDefEqProofs [q1, q2]; first | refine hK _ ?_ | refine hK _ _ (by rfl) ?_ | fail) | fail)
      refine aw_ret (fin_ret ?_); simp -implicitDefEqProofs [FinP, resV, resT] <;> try rfl
  have hin : 0 ≤ r ∧ r ≤ 2147483647 := by
    unfold smE at hr
    split at hr
    · cases hr
    · omega
  have q1 : ¬ r < 0 := by omega
  have q2 : ¬ 2147483647 < r := by omega
  have w3 : IntKind.u64.wrap r = r := by rw [vs.u64_wrap]; omega
  have hb := rbytesO_row r hin.1 (by omega)
  have hse : sEr ⟨r, b, p, n, t⟩ = if lEr p = 0 then (if lEr n = 0 then (if erT t 1 = 0 then 0 else erT t 1) else lEr n) else lEr p := by
    unfold sEr
    rw [fst_cons, if_pos hr, fst_cons, fst_cons, fst_cons]
    rfl
  unfold rsV
  rw [hse]
  clear hse
  unfold rlV at hp hn
  unfold rtV at ht
  have hres : iC (sE ⟨r, b, p, n, t⟩) = iC (vs.enc r) ++ ([PV.lit (.int .u8 (if b = true then 1 else 0))] :: (iC (lE p) ++ (iC (lE n) ++ iC (tE t)))) := by
    unfold sE
    rw [← iC_app, iC_cons, ← iC_app, ← iC_app]
  rw [hres]
  clear hres
  obtain ⟨Z, hZ⟩ : ∃ Z, vs.enc r = Z := ⟨_, rfl⟩
  obtain ⟨P, hP⟩ : ∃ P, lE p = P := ⟨_, rfl⟩
  obtain ⟨M, hM⟩ : ∃ M, lE n = M := ⟨_, rfl⟩
  obtain ⟨T, hT⟩ : ∃ T, tE t = T := ⟨_, rfl⟩
  rw [hZ] at hb rl ⊢
  rw [hP] at hp pl ⊢
  rw [hM] at hn nl ⊢
  rw [hT] at ht tl ⊢
  obtain ⟨e1, he1⟩ : ∃ e1, lEr p = e1 := ⟨_, rfl⟩
  obtain ⟨e2, he2⟩ : ∃ e2, lEr n = e2 := ⟨_, rfl⟩
  obtain ⟨e3, he3⟩ : ∃ e3, erT t 1 = e3 := ⟨_, rfl⟩
  rw [he1] at hp ⊢
  rw [he2] at hn ⊢
  rw [he3] at ht ⊢
  have g1 : Z.length ≤ 140737488355327 := by omega
  have g2 : Z.length + 1 + P.length ≤ 140737488355328 := by omega
  have g3 : Z.length + 1 + P.length + M.length ≤ 140737488355328 := by omega
  have g4 : Z.length + 1 + P.length + M.length + T.length ≤ 140737488355328 := by omega
  have g5 : Z.length + (P.length + 1) ≤ 140737488355328 := by omega
  have g6 : Z.length + (P.length + M.length + 1) ≤ 140737488355328 := by omega
  have g7 : Z.length + (P.length + (M.length + T.length) + 1) ≤ 140737488355328 := by omega
  have g8 : Z.length + (P.length + (M.length) + 1) + T.length ≤ 140737488355328 := by omega
  have g9 : Z.length + (P.length + 1) + M.length ≤ 140737488355328 := by omega
  clear hZ hP hM hT he1 he2 he3 hr hin hti s1 s2 s3 tl pl nl rl
  obtain ⟨y, tl⟩ := t
  by_cases f1 : e1 = 0; rotate_left
  · rw [if_neg f1, if_neg f1] 
    rw [if_neg f1] at hp
    cases b
    · refine row_of Try.func32 rfl rfl (Nat.le_of_ble_eq_true rfl) ?_
      repeat' (first | refine aw_seq ?_ | refine aw_skip ?_ | refine aw_block ?_ | refine aw_exit ?_ | refine aw_ct rfl ?_ | refine aw_cf rfl ?_ | ((first | refine aw_reg (fun K hK => ?_) | refine aw_drw mixd (fun K hK => ?_) | refine ar_call (cg hb [] ?_) | refine ard_call (dg hb [] ?_) | refine ar_call (cp hp ?_) | refine ard_call (dp hp ?_) | fail); simp -implicitDefEqProofs [q1, q2, w3, iC_len, g1, f1]) | refine hK _ ?_ | refine hK _ _ (by rfl) ?_ | fail)
      refine aw_ret (fin_ret ?_); simp -implicitDefEqProofs [FinP, resV, resT] <;> try rfl
    · refine row_of Try.func32 rfl rfl (Nat.le_of_ble_eq_true rfl) ?_
      repeat' (first | refine aw_seq ?_ | refine aw_skip ?_ | refine aw_block ?_ | refine aw_exit ?_ | refine aw_ct rfl ?_ | refine aw_cf rfl ?_ | ((first | refine aw_reg (fun K hK => ?_) | refine aw_drw mixd (fun K hK => ?_) | refine ar_call (cg hb [] ?_) | refine ard_call (dg hb [] ?_) | refine ar_call (cp hp ?_) | refine ard_call (dp hp ?_) | fail); simp -implicitDefEqProofs [q1, q2, w3, iC_len, g1, f1]) | refine hK _ ?_ | refine hK _ _ (by rfl) ?_ | fail)
      refine aw_ret (fin_ret ?_); simp -implicitDefEqProofs [FinP, resV, resT] <;> try rfl
  subst f1
  rw [if_pos rfl] at hp
  rw [if_pos rfl]
  by_cases f2 : e2 = 0; rotate_left
  · rw [if_neg f2, if_neg f2]
    rw [if_neg f2] at hn
    cases b
    · refine row_of Try.func32 rfl rfl (Nat.le_of_ble_eq_true rfl) ?_
      repeat' (first | refine aw_seq ?_ | refine aw_skip ?_ | refine aw_block ?_ | refine aw_exit ?_ | refine aw_ct rfl ?_ | refine aw_cf rfl ?_ | ((first | refine aw_reg (fun K hK => ?_) | refine aw_drw mixd (fun K hK => ?_) | refine ar_call (cg hb [] ?_) | refine ard_call (dg hb [] ?_) | refine ar_call (cp hp ?_) | refine ard_call (dp hp ?_) | refine ar_call (cp hn ?_) | refine ard_call (dp hn ?_) | fail); simp -implicitDefEqProofs [q1, q2, w3, iC_len, g1, f2]) | refine hK _ ?_ | refine hK _ _ (by rfl) ?_ | fail)
      refine aw_ret (fin_ret ?_); simp -implicitDefEqProofs [FinP, resV, resT] <;> try rfl
    · refine row_of Try.func32 rfl rfl (Nat.le_of_ble_eq_true rfl) ?_
      repeat' (first | refine aw_seq ?_ | refine aw_skip ?_ | refine aw_block ?_ | refine aw_exit ?_ | refine aw_ct rfl ?_ | refine aw_cf rfl ?_ | ((first | refine aw_reg (fun K hK => ?_) | refine aw_drw mixd (fun K hK => ?_) | refine ar_call (cg hb [] ?_) | refine ard_call (dg hb [] ?_) | refine ar_call (cp hp ?_) | refine ard_call (dp hp ?_) | refine ar_call (cp hn ?_) | refine ard_call (dp hn ?_) | fail); simp -implicitDefEqProofs [q1, q2, w3, iC_len, g1, f2]) | refine hK _ ?_ | refine hK _ _ (by rfl) ?_ | fail)
      refine aw_ret (fin_ret ?_); simp -implicitDefEqProofs [FinP, resV, resT] <;> try rfl
  subst f2
  rw [if_pos rfl] at hn
  rw [if_pos rfl]
  by_cases f3 : e3 = 0; rotate_left
  · rw [if_neg f3, if_neg f3]
    rw [if_neg f3] at ht
    cases b
    · refine row_of Try.func32 rfl rfl (Nat.le_of_ble_eq_true rfl) ?_
      repeat' (first | refine aw_seq ?_ | refine aw_skip ?_ | refine aw_block ?_ | refine aw_exit ?_ | refine aw_ct rfl ?_ | refine aw_cf rfl ?_ | ((first | refine aw_reg (fun K hK => ?_) | refine aw_drw mixd (fun K hK => ?_) | refine ar_call (cg hb [] ?_) | refine ard_call (dg hb [] ?_) | refine ar_call (cp hp ?_) | refine ard_call (dp hp ?_) | refine ar_call (cp hn ?_) | refine ard_call (dp hn ?_) | refine ar_call (cp ht ?_) | refine ard_call (dp ht ?_) | fail); simp -implicitDefEqProofs [q1, q2, w3, iC_len, g1, f3]) | refine hK _ ?_ | refine hK _ _ (by rfl) ?_ | fail)
      refine aw_ret (fin_ret ?_); simp -implicitDefEqProofs [FinP, resV, resT] <;> try rfl
    · refine row_of Try.func32 rfl rfl (Nat.le_of_ble_eq_true rfl) ?_
      repeat' (first | refine aw_seq ?_ | refine aw_skip ?_ | refine aw_block ?_ | refine aw_exit ?_ | refine aw_ct rfl ?_ | refine aw_cf rfl ?_ | ((first | refine aw_reg (fun K hK => ?_) | refine aw_drw mixd (fun K hK => ?_) | refine ar_call (cg hb [] ?_) | refine ard_call (dg hb [] ?_) | refine ar_call (cp hp ?_) | refine ard_call (dp hp ?_) | refine ar_call (cp hn ?_) | refine ard_call (dp hn ?_) | refine ar_call (cp ht ?_) | refine ard_call (dp ht ?_) | fail); simp -implicitDefEqProofs [q1, q2, w3, iC_len, g1, f3]) | refine hK _ ?_ | refine hK _ _ (by rfl) ?_ | fail)
      refine aw_ret (fin_ret ?_); simp -implicitDefEqProofs [FinP, resV, resT] <;> try rfl
  subst f3
  rw [if_pos rfl] at ht
  rw [if_pos rfl, if_pos rfl]
  cases b
  · refine row_of Try.func32 rfl rfl (Nat.le_of_ble_eq_true rfl) ?_
    repeat' (first | refine aw_seq ?_ | refine aw_skip ?_ | refine aw_block ?_ | refine aw_exit ?_ | refine aw_ct rfl ?_ | refine aw_cf rfl ?_ | ((first | refine aw_reg (fun K hK => ?_) | refine aw_drw mixd (fun K hK => ?_) | refine ar_call (cg hb [] ?_) | refine ard_call (dg hb [] ?_) | refine ar_call (cp hp ?_) | refine ard_call (dp hp ?_) | refine ar_call (cp hn ?_) | refine ard_call (dp hn ?_) | refine ar_call (cp ht ?_) | refine ard_call (dp ht ?_) | fail); simp -implicitDefEqProofs [q1, q2, w3, iC_len, g1, g2, g3, g4, g5, g6, g7, g8, g9]) | refine hK _ ?_ | refine hK _ _ (by rfl) ?_ | fail)
    refine aw_ret (fin_ret ?_); simp -implicitDefEqProofs [FinP, resV, resT] <;> try rfl
  · refine row_of Try.func32 rfl rfl (Nat.le_of_ble_eq_true rfl) ?_
    repeat' (first | refine aw_seq ?_ | refine aw_skip ?_ | refine aw_block ?_ | refine aw_exit ?_ | refine aw_ct rfl ?_ | refine aw_cf rfl ?_ | ((first | refine aw_reg (fun K hK => ?_) | refine aw_drw mixd (fun K hK => ?_) | refine ar_call (cg hb [] ?_) | refine ard_call (dg hb [] ?_) | refine ar_call (cp hp ?_) | refine ard_call (dp hp ?_) | refine ar_call (cp hn ?_) | refine ard_call (dp hn ?_) | refine ar_call (cp ht ?_) | refine ard_call (dp ht ?_) | fail); simp -implicitDefEqProofs [q1, q2, w3, iC_len, g1, g2, g3, g4, g5, g6, g7, g8, g9]) | refine hK _ ?_ | refine hK _ _ (by rfl) ?_ | fail)
    refine aw_ret (fin_ret ?_); simp -implicitDefEqProofs [FinP, resV, resT] <;> try rfl
end Go.Proofs.Ytcjagcfjpfjanaa.am
end
