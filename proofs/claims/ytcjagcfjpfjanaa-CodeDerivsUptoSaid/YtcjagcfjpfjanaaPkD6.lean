import Derived.Test.YtcjagcfjpfjanaaPkD5
set_option maxRecDepth 100000
set_option maxHeartbeats 4000000
section
namespace Go.Proofs.Ytcjagcfjpfjanaa.am
open Go.ChangeShapes Go.WideShapes Go.ChangeAt Go.RowKit
set_option linter.unusedVariables false
variable {P : Program} {N nb : Nat} {st : St} {Q : Exit → St → Prop}
def St.mvr (st : St) (id bx j : Nat) (cells : List AC) (e : TypeId) (es es' : Nat) (l : List (List PV)) : St := ⟨st.tm, (bx, some (.box (cells.set j (.row st.nx es l)))) :: (st.nx, some (.row e es')) :: (id, none) :: st.hp, st.nx + 1⟩
theorem aw_mvr {c : Code} (id bx j : Nat) (cells : List AC) (e : TypeId) (es es' : Nat) (l : List (List PV)) (hid : hlk st.hp id = some (.row e es')) (hbx : hlk st.hp bx = some (.box cells)) (hj : cells[j]? = some (.row id es l)) (hl1 : id < st.nx) (hl2 : bx < st.nx) (h : AW P N nb c (st.mvr id bx j cells e es es' l) Q) : AW P N nb c st Q := by
  refine aw_cov (fun X hX a w hr => ?_) h
  obtain ⟨h1, h2, γ, S, hm, ha⟩ := hr
  obtain ⟨v, n, xs, g1, g2, g3⟩ := hm.obj _ _ hid
  obtain ⟨m, hG⟩ := hm.app (nm := st.nx) (Nat.le_refl _) g1 rfl (w' := w) rfl rfl rfl rfl (fun _ _ => rfl) (fun _ _ _ => rfl) (fun _ => False) (.row e es')
    ⟨v, n, xs, upd_same _ _ _, g2, fun b hb o ho hs => g3 b hb o ho (hs.elim (fun h => h) (fun h => h.2.elim))⟩
  refine ⟨h1, h2, upd (upd γ id .dead) st.nx (.val v), (fun b k => S b k ∨ (v.ownBlock = some b ∧ False)), ?_, fun s => (ha s).mono hG (fun _ _ h => Or.inl h) (fun _ _ _ => rfl)⟩
  show Mem X (hlk ((bx, some (.box (cells.set j (.row st.nx es l)))) :: (st.nx, some (.row e es')) :: (id, none) :: st.hp)) _ _ _ _
  rw [hlk_cons, hlk_cons, hlk_cons]
  have hne : bx ≠ st.nx := by omega
  have hbi : bx ≠ id := fun e => by rw [e, hid] at hbx; cases hbx
  have hbx' : upd (upd (hlk st.hp) id none) st.nx (some (.row e es')) bx = some (.box cells) := by rw [upd_ne _ _ hne, upd_ne _ _ hbi]; exact hbx
  obtain ⟨b0, cs0, t0, q1, q2, q3, q4⟩ := hm.obj _ _ hbx
  refine { m with un := fun x hx => m.un x ⟨by have : st.nx + 1 ≤ x := hx
                                               show st.nx ≤ x
                                               omega, by have : st.nx + 1 ≤ x := hx
                                                         omega⟩, off := fun x hx => ?_, obj := fun x o hx => ?_ }
  · by_cases hxi : x = bx
    · subst hxi; rw [upd_same] at hx; cases hx
    · rw [upd_ne _ _ hxi] at hx; exact m.off x hx
  · by_cases hxi : x = bx
    · subst hxi
      rw [upd_same] at hx; cases hx
      obtain ⟨b, cs, t, k1, k2, k3, k4⟩ := m.obj x _ hbx'
      have hcs : cs = cs0 := by
        have : (upd (upd γ id .dead) st.nx (.val v)) x = γ x := by rw [upd_ne _ _ hne, upd_ne _ _ hbi]
        rw [this, q1] at k1
        cases k1
        rw [q2] at k2
        cases k2
        rfl
      refine ⟨b, cs, t, k1, k2, ⟨by rw [List.length_set]; exact k3.1, fun i ac hi => ?_⟩, k4⟩
      rw [List.getElem?_set] at hi
      split at hi
      · rename_i hij
        split at hi
        · cases hi
          subst hij
          obtain ⟨u, r1, r2⟩ := q3.2 j _ hj
          obtain ⟨r3, r4⟩ := r2
          have hu : u = v := by
            rcases r4 with r4 | r4
            · rw [g1] at r4; cases r4
            · rw [g1] at r4; cases r4; rfl
          subst hu
          exact ⟨u, by rw [hcs]; exact r1, r3.mono (fun _ _ h => .inl h) (fun _ _ _ => rfl), .inr (upd_same _ _ _)⟩
        · cases hi
      · exact k3.2 i ac hi
    · rw [upd_ne _ _ hxi] at hx; exact m.obj x o hx
end Go.Proofs.Ytcjagcfjpfjanaa.am
end
section
namespace Go.Proofs.Ytcjagcfjpfjanaa.am
open Go.ChangeShapes Go.WideShapes Go.ChangeAt Go.RowKit
open vt
set_option linter.unusedVariables false
set_option linter.unusedSimpArgs false
def kid : Option AO → Option Nat
  | some (AO.box cs) => match (cs[2]? : Option AC) with
    | some (AC.row i _ _) => some i
    | _ => none
  | _ => none
section
variable {P : Program} {N nb : Nat} {st : St} {Q : Exit → St → Prop}
theorem cgK {f : Nat} {dst : Option Nat} {first caps : List Cap} {args cargs : List AV} {tr dv e : Int} {B : List Int} {o1 : AO} {ch' : List (Option AO)} {res : AV} {K : St → Prop} (hrow : Row P f cargs [bxC 1 tr dv B e, o1] res ch') (b : Nat) {i : Nat} (hb : kid (hlk st.hp b) = some i) (hk : K ((st.wr (wrs (nmap [b, i] 2 st.nx) 0 ch') 8).put dst (res.ren (nmap [b, i] 2 st.nx)))) (hfit : fitVs 2 (fun k => [b, i].getD k 0) cargs (first.map capV ++ args ++ caps.map capV) := by first | (simp [*]; done) | fail) (ho : covO (hlk st.hp) 2 (fun k => [b, i].getD k 0) ([bxC 1 tr dv B e, o1].map some) [b, i] := by first | (simp [*]; done) | fail) (hnd : [b, i].Nodup := by first | decide | (simp; done) | fail) (hl : ch'.length ≤ 10 := by first | decide | (simp; done) | fail) (hl' : 2 ≤ ch'.length := by first | decide | (simp; done) | fail) (hd : dok N dst = true := by rfl) :
    CallK P N dst (.v (.c (.fn (.func f) first caps))) args st K := cg hrow [b, i] hk hfit ho hnd hl hl' hd
theorem dgK {f : Nat} {dst : Option Nat} {first caps : List Cap} {args cargs : List AV} {tr dv e : Int} {B : List Int} {o1 : AO} {ch' : List (Option AO)} {res : AV} {K : List Nat → List Nat → St → Prop} (hrow : Row P f cargs [bxC 1 tr dv B e, o1] res ch') (b : Nat) {i : Nat} (hb : kid (hlk st.hp b) = some i) (hk : K [b, i] ((wrs (nmap [b, i] 2 st.nx) 0 ch').map (·.1)) ((st.wr (wrs (nmap [b, i] 2 st.nx) 0 ch') 8).put dst (res.ren (nmap [b, i] 2 st.nx)))) (hfit : fitVs 2 (fun k => [b, i].getD k 0) cargs (first.map capV ++ args ++ caps.map capV) := by first | (simp [*]; done) | fail) (ho : covO (hlk st.hp) 2 (fun k => [b, i].getD k 0) ([bxC 1 tr dv B e, o1].map some) [b, i] := by first | (simp [*]; done) | fail) (hnd : [b, i].Nodup := by first | decide | (simp; done) | fail) (hl : ch'.length ≤ 10 := by first | decide | (simp; done) | fail) (hl' : 2 ≤ ch'.length := by first | decide | (simp; done) | fail) (hd : dok N dst = true := by rfl) :
    CallD P N dst (.v (.c (.fn (.func f) first caps))) args st K := dg hrow [b, i] hk hfit ho hnd hl hl' hd
theorem finD_k {g : FuncId} {rs : List ResultVar} {res : AV} {ch' : List (Option AO)} {ex : Exit} {tr tr' dv e : Int} {B : List Int} {o : AO} {i : Nat} (hD : RowD P g [vW0] [bxC 1 tr dv B e, rwC] (.tup []) [some (bxC 1 tr' dv B e), some rwC]) (he : ex = .normal ∨ ex = .ret) (hb : kid (hlk st.hp 0) = some i) (ho : hlk st.hp 0 = some o) (hcov : covO (hlk st.hp) 2 (fun k => [0, i].getD k 0) ([bxC 1 tr dv B e, rwC].map some) [0, i])
    (h : FinG P rs res ch' [0, 1, i] (st.wr (wrs (nmap [0, i] 2 st.nx) 0 [some (bxC 1 tr' dv B e), some rwC]) 8)) (hnd : [0, i].Nodup := by first | decide | (simp; done)) (hn3 : [0, 1, i].Nodup := by first | decide | (simp; done)) (hl : 2 ≤ ch'.length := by first | decide | (simp; done)) : FinD P N 2 g 0 0 rs res ch' ex st :=
  ⟨he, [vW0], [bxC 1 tr dv B e, rwC], .tup [], [some (bxC 1 tr' dv B e), some rwC], [0, i], hD, by simp, hcov, hnd, by simp, by simp, ⟨o, ho⟩, fin_g [0, 1, i] h hn3 rfl hl⟩
end
theorem wterm_deep (tr dv : Int) (B : List Int) (t : VT) (h0 : 64 ≤ tr) (h1 : tr ≤ 100000) : Row Try.prog 23 [vW0, vT t] [bxC 1 tr dv B 0, rwC] (.tup []) [some (bxC 2 tr dv (B ++ wrT t tr) (erT t (tr + 1))), none, some rwC] := by
  obtain ⟨x, l⟩ := t
  rw [wrT_mk, if_pos h0, erT_mk, if_pos (by omega), List.append_nil]
  have hen := wenter_row tr dv B 0 (by omega) (by omega)
  rw [if_pos ⟨h0, rfl⟩] at hen
  have hD := leave_rowD (tr + 1) dv B 7 (by omega) (by omega)
  rw [show tr + 1 - 1 = tr by omega] at hD
  refine row_of_d Try.func23 rfl rfl (Nat.le_of_ble_eq_true rfl) ?_
  refine awd_seq ?_
  refine aw_reg (fun K hK => ?_); simp -implicitDefEqProofs; refine hK _ ?_
  refine ⟨rfl, ?_⟩
  refine awd_defer rfl ?_
  simp -implicitDefEqProofs
  refine ⟨0, by decide, 0, ⟨rfl, rfl⟩, ?_⟩
  refine aw_mvr 1 0 2 _ 5 1 1 (iC B) rfl rfl rfl (by simp) (by simp) ?_
  simp [St.mvr]
  repeat' (first | refine aw_seq ?_ | refine aw_skip ?_ | refine aw_block ?_ | refine aw_exit ?_ | refine aw_ct rfl ?_ | refine aw_cf rfl ?_ | ((first | refine aw_reg (fun K hK => ?_) | refine aw_drw mixd (fun K hK => ?_) | refine ar_call (cgK hen 0 rfl ?_) | refine ard_call (dgK hen 0 rfl ?_) | fail); simp -implicitDefEqProofs) | refine hK _ ?_ | refine hK _ _ (by rfl) ?_ | fail)
  refine aw_ret (finD_k (N := 0) hD (.inr rfl) rfl rfl ?_ ?_)
  · simp
  · simp -implicitDefEqProofs [FinG, resV, resT]
end Go.Proofs.Ytcjagcfjpfjanaa.am
end
section
namespace Go.Proofs.Ytcjagcfjpfjanaa.am
open Go.ChangeShapes Go.WideShapes Go.ChangeAt Go.RowKit
open vt
set_option linter.unusedVariables false
set_option linter.unusedSimpArgs false
theorem wt_y_ok (tr dv : Int) (B : List Int) (x : Lab) (l : List VT) (h0 : 0 ≤ tr) (h64 : ¬ 64 ≤ tr) (hx : x.ok) (hl : l.length ≤ 1000) (hok : ∀ y ∈ l, WrOk dv y (tr + 1)) (hB : B.length + 21 * (Tr.mk x l).size ≤ 100000000) (hk : (1 ≤ x.k ∧ x.k ≤ 36)) (hs : x.s = ⟨#[]⟩) (hf : x.f = 0) (ht : x.t = 0) : Row Try.prog 23 [vW0, vT (.mk x l)] [bxC 1 tr dv B 0, rwC] (.tup []) [some (bxC 2 tr dv (B ++ wrT (.mk x l) tr) (erT (.mk x l) (tr + 1))), none, some rwC] := by
  have hsz : (Tr.mk x l).size = 1 + (l.map Tr.size).sum := Tr.size_mk x l
  have hen := wenter_row tr dv B 0 h0 (by omega)
  rw [if_neg (fun k => h64 k.1)] at hen
  have hkr := isterm_row x.k
  have hz := pzig_row x.n (by have := hx.2.1; omega) (by have := hx.2.1; omega)
  have hzb := zigs.zig_bd x.n (by have := hx.2.1; omega) (by have := hx.2.1; omega)
  have hkd := wkind_yes (tr + 1) dv B 0 x.k hk.1 hk.2 (by omega)
  rw [decide_eq_true hk] at hkr
  obtain ⟨B1, h1⟩ : ∃ B1, B ++ [x.k] = B1 := ⟨_, rfl⟩
  rw [h1] at hkd
  have l1 : B1.length = B.length + 1 := by rw [← h1]; simp
  have hnm := wnumber_row (tr + 1) dv B1 0 (zigs.zig x.n) hzb.1 hzb.2 (by omega)
  obtain ⟨B2, h2⟩ : ∃ B2, B1 ++ vs.enc (zigs.zig x.n) = B2 := ⟨_, rfl⟩
  rw [h2] at hnm
  have l2 : B2.length ≤ B1.length + 10 := by rw [← h2, List.length_append]; have := (enc_ln (zigs.zig x.n)).2; omega
  have hal := wall_row (tr + 1) dv B2 0 l (by omega) hok (by omega)
  rw [if_pos rfl, if_pos rfl] at hal
  rw [show tr + 1 + 1 = tr + 2 by omega] at hal
  have he : erT (.mk x l) (tr + 1) = fstE (l.map fun y => erT y (tr + 2)) := by
    rw [erT_mk, if_neg (by omega), if_neg (fun k => k hk), if_neg (fun k => k ⟨hs, hf, ht⟩), show tr + 1 + 1 = tr + 2 by omega]
  have hw : B ++ wrT (.mk x l) tr = B2 ++ (vs.enc (l.length : Nat) ++ seqW (l.map fun y => (wrT y (tr + 1), erT y (tr + 2)))) := by
    rw [wrT_mk, if_neg h64, if_pos hk, if_pos ⟨hk, ⟨hs, hf, ht⟩⟩, ← h2, ← h1]
    simp only [List.append_assoc, List.nil_append]
  rw [he, hw]
  obtain ⟨B3, h3⟩ : ∃ B3, B2 ++ (vs.enc (l.length : Nat) ++ seqW (l.map fun y => (wrT y (tr + 1), erT y (tr + 2)))) = B3 := ⟨_, rfl⟩
  rw [h3] at hal ⊢
  obtain ⟨e3, h4⟩ : ∃ e3, fstE (l.map fun y => erT y (tr + 2)) = e3 := ⟨_, rfl⟩
  rw [h4] at hal ⊢
  have hD := leave_rowD (tr + 1) dv B3 e3 (by omega) (by omega)
  rw [show tr + 1 - 1 = tr by omega] at hD
  clear hok he hw h1 h2 h3 hB h4
  refine row_of_d Try.func23 rfl rfl (Nat.le_of_ble_eq_true rfl) ?_
  refine awd_seq ?_
  refine aw_reg (fun K hK => ?_); simp -implicitDefEqProofs; refine hK _ ?_
  refine ⟨rfl, ?_⟩
  refine awd_defer rfl ?_
  simp -implicitDefEqProofs
  refine ⟨0, by decide, 0, ⟨rfl, rfl⟩, ?_⟩
  repeat' (first | refine aw_seq ?_ | refine aw_skip ?_ | refine aw_block ?_ | refine aw_exit ?_ | refine aw_ct rfl ?_ | refine aw_cf rfl ?_ | ((first | refine aw_reg (fun K hK => ?_) | refine aw_drw mixd (fun K hK => ?_) | refine ar_call (cgK hen 0 rfl ?_) | refine ard_call (dgK hen 0 rfl ?_) | refine ar_call (cp hkr ?_) | refine ard_call (dp hkr ?_) | refine ar_call (cgK hkd 0 rfl ?_) | refine ard_call (dgK hkd 0 rfl ?_) | refine ar_call (cp hz ?_) | refine ard_call (dp hz ?_) | refine ar_call (cgK hnm 0 rfl ?_) | refine ard_call (dgK hnm 0 rfl ?_) | refine ar_call (cgK hal 0 rfl ?_) | refine ard_call (dgK hal 0 rfl ?_) | fail); simp -implicitDefEqProofs [hs, hf, ht]) | refine hK _ ?_ | refine hK _ _ (by rfl) ?_ | fail)
  refine finD_k (N := 0) hD (.inl rfl) rfl rfl ?_ ?_
  · simp
  · simp -implicitDefEqProofs [FinG, resV, resT]
theorem wt_y_s (tr dv : Int) (B : List Int) (x : Lab) (l : List VT) (h0 : 0 ≤ tr) (h64 : ¬ 64 ≤ tr) (hx : x.ok) (hl : l.length ≤ 1000) (hok : ∀ y ∈ l, WrOk dv y (tr + 1)) (hB : B.length + 21 * (Tr.mk x l).size ≤ 100000000) (hk : (1 ≤ x.k ∧ x.k ≤ 36)) (hs : ¬ x.s = ⟨#[]⟩) : Row Try.prog 23 [vW0, vT (.mk x l)] [bxC 1 tr dv B 0, rwC] (.tup []) [some (bxC 2 tr dv (B ++ wrT (.mk x l) tr) (erT (.mk x l) (tr + 1))), none, some rwC] := by
  have hsz : (Tr.mk x l).size = 1 + (l.map Tr.size).sum := Tr.size_mk x l
  have hen := wenter_row tr dv B 0 h0 (by omega)
  rw [if_neg (fun k => h64 k.1)] at hen
  have hkr := isterm_row x.k
  have hz := pzig_row x.n (by have := hx.2.1; omega) (by have := hx.2.1; omega)
  have hzb := zigs.zig_bd x.n (by have := hx.2.1; omega) (by have := hx.2.1; omega)
  have hkd := wkind_yes (tr + 1) dv B 0 x.k hk.1 hk.2 (by omega)
  rw [decide_eq_true hk] at hkr
  obtain ⟨B1, h1⟩ : ∃ B1, B ++ [x.k] = B1 := ⟨_, rfl⟩
  rw [h1] at hkd
  have l1 : B1.length = B.length + 1 := by rw [← h1]; simp
  have hfl := wfail_row (tr + 1) dv B1 0 2
  rw [if_pos rfl] at hfl
  have hnm := wnumber_row (tr + 1) dv B1 2 (zigs.zig x.n) hzb.1 hzb.2 (by omega)
  obtain ⟨B2, h2⟩ : ∃ B2, B1 ++ vs.enc (zigs.zig x.n) = B2 := ⟨_, rfl⟩
  rw [h2] at hnm
  have l2 : B2.length ≤ B1.length + 10 := by rw [← h2, List.length_append]; have := (enc_ln (zigs.zig x.n)).2; omega
  have hal := wall_row (tr + 1) dv B2 2 l (by omega) hok (by omega)
  rw [if_neg (by decide), if_neg (by decide)] at hal
  have he : erT (.mk x l) (tr + 1) = 2 := by
    rw [erT_mk, if_neg (by omega), if_neg (fun k => k hk), if_pos (fun k => hs k.1)]
  have hw : B ++ wrT (.mk x l) tr = B2 ++ (vs.enc (l.length : Nat) ++ []) := by
    rw [wrT_mk, if_neg h64, if_pos hk, if_neg (fun k => ((fun k => hs k.1)) k.2), ← h2, ← h1]
    simp only [List.append_assoc, List.nil_append]
  rw [he, hw]
  obtain ⟨B3, h3⟩ : ∃ B3, B2 ++ (vs.enc (l.length : Nat) ++ []) = B3 := ⟨_, rfl⟩
  rw [h3] at hal ⊢
  have hD := leave_rowD (tr + 1) dv B3 2 (by omega) (by omega)
  rw [show tr + 1 - 1 = tr by omega] at hD
  clear hok he hw h1 h2 h3 hB
  refine row_of_d Try.func23 rfl rfl (Nat.le_of_ble_eq_true rfl) ?_
  refine awd_seq ?_
  refine aw_reg (fun K hK => ?_); simp -implicitDefEqProofs; refine hK _ ?_
  refine ⟨rfl, ?_⟩
  refine awd_defer rfl ?_
  simp -implicitDefEqProofs
  refine ⟨0, by decide, 0, ⟨rfl, rfl⟩, ?_⟩
  repeat' (first | refine aw_seq ?_ | refine aw_skip ?_ | refine aw_block ?_ | refine aw_exit ?_ | refine aw_ct rfl ?_ | refine aw_cf rfl ?_ | ((first | refine aw_reg (fun K hK => ?_) | refine aw_drw mixd (fun K hK => ?_) | refine ar_call (cgK hen 0 rfl ?_) | refine ard_call (dgK hen 0 rfl ?_) | refine ar_call (cp hkr ?_) | refine ard_call (dp hkr ?_) | refine ar_call (cgK hkd 0 rfl ?_) | refine ard_call (dgK hkd 0 rfl ?_) | refine ar_call (cgK hfl 0 rfl ?_) | refine ard_call (dgK hfl 0 rfl ?_) | refine ar_call (cp hz ?_) | refine ard_call (dp hz ?_) | refine ar_call (cgK hnm 0 rfl ?_) | refine ard_call (dgK hnm 0 rfl ?_) | refine ar_call (cgK hal 0 rfl ?_) | refine ard_call (dgK hal 0 rfl ?_) | fail); simp -implicitDefEqProofs [hs]) | refine hK _ ?_ | refine hK _ _ (by rfl) ?_ | fail)
  refine finD_k (N := 0) hD (.inl rfl) rfl rfl ?_ ?_
  · simp
  · simp -implicitDefEqProofs [FinG, resV, resT]
theorem wt_y_f (tr dv : Int) (B : List Int) (x : Lab) (l : List VT) (h0 : 0 ≤ tr) (h64 : ¬ 64 ≤ tr) (hx : x.ok) (hl : l.length ≤ 1000) (hok : ∀ y ∈ l, WrOk dv y (tr + 1)) (hB : B.length + 21 * (Tr.mk x l).size ≤ 100000000) (hk : (1 ≤ x.k ∧ x.k ≤ 36)) (hs : x.s = ⟨#[]⟩) (hf : ¬ x.f = 0) : Row Try.prog 23 [vW0, vT (.mk x l)] [bxC 1 tr dv B 0, rwC] (.tup []) [some (bxC 2 tr dv (B ++ wrT (.mk x l) tr) (erT (.mk x l) (tr + 1))), none, some rwC] := by
  have hsz : (Tr.mk x l).size = 1 + (l.map Tr.size).sum := Tr.size_mk x l
  have hen := wenter_row tr dv B 0 h0 (by omega)
  rw [if_neg (fun k => h64 k.1)] at hen
  have hkr := isterm_row x.k
  have hz := pzig_row x.n (by have := hx.2.1; omega) (by have := hx.2.1; omega)
  have hzb := zigs.zig_bd x.n (by have := hx.2.1; omega) (by have := hx.2.1; omega)
  have hkd := wkind_yes (tr + 1) dv B 0 x.k hk.1 hk.2 (by omega)
  rw [decide_eq_true hk] at hkr
  obtain ⟨B1, h1⟩ : ∃ B1, B ++ [x.k] = B1 := ⟨_, rfl⟩
  rw [h1] at hkd
  have l1 : B1.length = B.length + 1 := by rw [← h1]; simp
  have hfl := wfail_row (tr + 1) dv B1 0 2
  rw [if_pos rfl] at hfl
  have hnm := wnumber_row (tr + 1) dv B1 2 (zigs.zig x.n) hzb.1 hzb.2 (by omega)
  obtain ⟨B2, h2⟩ : ∃ B2, B1 ++ vs.enc (zigs.zig x.n) = B2 := ⟨_, rfl⟩
  rw [h2] at hnm
  have l2 : B2.length ≤ B1.length + 10 := by rw [← h2, List.length_append]; have := (enc_ln (zigs.zig x.n)).2; omega
  have hal := wall_row (tr + 1) dv B2 2 l (by omega) hok (by omega)
  rw [if_neg (by decide), if_neg (by decide)] at hal
  have he : erT (.mk x l) (tr + 1) = 2 := by
    rw [erT_mk, if_neg (by omega), if_neg (fun k => k hk), if_pos (fun k => hf k.2.1)]
  have hw : B ++ wrT (.mk x l) tr = B2 ++ (vs.enc (l.length : Nat) ++ []) := by
    rw [wrT_mk, if_neg h64, if_pos hk, if_neg (fun k => ((fun k => hf k.2.1)) k.2), ← h2, ← h1]
    simp only [List.append_assoc, List.nil_append]
  rw [he, hw]
  obtain ⟨B3, h3⟩ : ∃ B3, B2 ++ (vs.enc (l.length : Nat) ++ []) = B3 := ⟨_, rfl⟩
  rw [h3] at hal ⊢
  have hD := leave_rowD (tr + 1) dv B3 2 (by omega) (by omega)
  rw [show tr + 1 - 1 = tr by omega] at hD
  clear hok he hw h1 h2 h3 hB
  refine row_of_d Try.func23 rfl rfl (Nat.le_of_ble_eq_true rfl) ?_
  refine awd_seq ?_
  refine aw_reg (fun K hK => ?_); simp -implicitDefEqProofs; refine hK _ ?_
  refine ⟨rfl, ?_⟩
  refine awd_defer rfl ?_
  simp -implicitDefEqProofs
  refine ⟨0, by decide, 0, ⟨rfl, rfl⟩, ?_⟩
  repeat' (first | refine aw_seq ?_ | refine aw_skip ?_ | refine aw_block ?_ | refine aw_exit ?_ | refine aw_ct rfl ?_ | refine aw_cf rfl ?_ | ((first | refine aw_reg (fun K hK => ?_) | refine aw_drw mixd (fun K hK => ?_) | refine ar_call (cgK hen 0 rfl ?_) | refine ard_call (dgK hen 0 rfl ?_) | refine ar_call (cp hkr ?_) | refine ard_call (dp hkr ?_) | refine ar_call (cgK hkd 0 rfl ?_) | refine ard_call (dgK hkd 0 rfl ?_) | refine ar_call (cgK hfl 0 rfl ?_) | refine ard_call (dgK hfl 0 rfl ?_) | refine ar_call (cp hz ?_) | refine ard_call (dp hz ?_) | refine ar_call (cgK hnm 0 rfl ?_) | refine ard_call (dgK hnm 0 rfl ?_) | refine ar_call (cgK hal 0 rfl ?_) | refine ard_call (dgK hal 0 rfl ?_) | fail); simp -implicitDefEqProofs [hs, hf]) | refine hK _ ?_ | refine hK _ _ (by rfl) ?_ | fail)
  refine finD_k (N := 0) hD (.inl rfl) rfl rfl ?_ ?_
  · simp
  · simp -implicitDefEqProofs [FinG, resV, resT]
theorem wt_y_t (tr dv : Int) (B : List Int) (x : Lab) (l : List VT) (h0 : 0 ≤ tr) (h64 : ¬ 64 ≤ tr) (hx : x.ok) (hl : l.length ≤ 1000) (hok : ∀ y ∈ l, WrOk dv y (tr + 1)) (hB : B.length + 21 * (Tr.mk x l).size ≤ 100000000) (hk : (1 ≤ x.k ∧ x.k ≤ 36)) (hs : x.s = ⟨#[]⟩) (hf : x.f = 0) (ht : ¬ x.t = 0) : Row Try.prog 23 [vW0, vT (.mk x l)] [bxC 1 tr dv B 0, rwC] (.tup []) [some (bxC 2 tr dv (B ++ wrT (.mk x l) tr) (erT (.mk x l) (tr + 1))), none, some rwC] := by
  have hsz : (Tr.mk x l).size = 1 + (l.map Tr.size).sum := Tr.size_mk x l
  have hen := wenter_row tr dv B 0 h0 (by omega)
  rw [if_neg (fun k => h64 k.1)] at hen
  have hkr := isterm_row x.k
  have hz := pzig_row x.n (by have := hx.2.1; omega) (by have := hx.2.1; omega)
  have hzb := zigs.zig_bd x.n (by have := hx.2.1; omega) (by have := hx.2.1; omega)
  have hkd := wkind_yes (tr + 1) dv B 0 x.k hk.1 hk.2 (by omega)
  rw [decide_eq_true hk] at hkr
  obtain ⟨B1, h1⟩ : ∃ B1, B ++ [x.k] = B1 := ⟨_, rfl⟩
  rw [h1] at hkd
  have l1 : B1.length = B.length + 1 := by rw [← h1]; simp
  have hfl := wfail_row (tr + 1) dv B1 0 2
  rw [if_pos rfl] at hfl
  have hnm := wnumber_row (tr + 1) dv B1 2 (zigs.zig x.n) hzb.1 hzb.2 (by omega)
  obtain ⟨B2, h2⟩ : ∃ B2, B1 ++ vs.enc (zigs.zig x.n) = B2 := ⟨_, rfl⟩
  rw [h2] at hnm
  have l2 : B2.length ≤ B1.length + 10 := by rw [← h2, List.length_append]; have := (enc_ln (zigs.zig x.n)).2; omega
  have hal := wall_row (tr + 1) dv B2 2 l (by omega) hok (by omega)
  rw [if_neg (by decide), if_neg (by decide)] at hal
  have he : erT (.mk x l) (tr + 1) = 2 := by
    rw [erT_mk, if_neg (by omega), if_neg (fun k => k hk), if_pos (fun k => ht k.2.2)]
  have hw : B ++ wrT (.mk x l) tr = B2 ++ (vs.enc (l.length : Nat) ++ []) := by
    rw [wrT_mk, if_neg h64, if_pos hk, if_neg (fun k => ((fun k => ht k.2.2)) k.2), ← h2, ← h1]
    simp only [List.append_assoc, List.nil_append]
  rw [he, hw]
  obtain ⟨B3, h3⟩ : ∃ B3, B2 ++ (vs.enc (l.length : Nat) ++ []) = B3 := ⟨_, rfl⟩
  rw [h3] at hal ⊢
  have hD := leave_rowD (tr + 1) dv B3 2 (by omega) (by omega)
  rw [show tr + 1 - 1 = tr by omega] at hD
  clear hok he hw h1 h2 h3 hB
  refine row_of_d Try.func23 rfl rfl (Nat.le_of_ble_eq_true rfl) ?_
  refine awd_seq ?_
  refine aw_reg (fun K hK => ?_); simp -implicitDefEqProofs; refine hK _ ?_
  refine ⟨rfl, ?_⟩
  refine awd_defer rfl ?_
  simp -implicitDefEqProofs
  refine ⟨0, by decide, 0, ⟨rfl, rfl⟩, ?_⟩
  repeat' (first | refine aw_seq ?_ | refine aw_skip ?_ | refine aw_block ?_ | refine aw_exit ?_ | refine aw_ct rfl ?_ | refine aw_cf rfl ?_ | ((first | refine aw_reg (fun K hK => ?_) | refine aw_drw mixd (fun K hK => ?_) | refine ar_call (cgK hen 0 rfl ?_) | refine ard_call (dgK hen 0 rfl ?_) | refine ar_call (cp hkr ?_) | refine ard_call (dp hkr ?_) | refine ar_call (cgK hkd 0 rfl ?_) | refine ard_call (dgK hkd 0 rfl ?_) | refine ar_call (cgK hfl 0 rfl ?_) | refine ard_call (dgK hfl 0 rfl ?_) | refine ar_call (cp hz ?_) | refine ard_call (dp hz ?_) | refine ar_call (cgK hnm 0 rfl ?_) | refine ard_call (dgK hnm 0 rfl ?_) | refine ar_call (cgK hal 0 rfl ?_) | refine ard_call (dgK hal 0 rfl ?_) | fail); simp -implicitDefEqProofs [hs, hf, ht]) | refine hK _ ?_ | refine hK _ _ (by rfl) ?_ | fail)
  refine finD_k (N := 0) hD (.inl rfl) rfl rfl ?_ ?_
  · simp
  · simp -implicitDefEqProofs [FinG, resV, resT]
theorem wt_n_ok (tr dv : Int) (B : List Int) (x : Lab) (l : List VT) (h0 : 0 ≤ tr) (h64 : ¬ 64 ≤ tr) (hx : x.ok) (hl : l.length ≤ 1000) (hok : ∀ y ∈ l, WrOk dv y (tr + 1)) (hB : B.length + 21 * (Tr.mk x l).size ≤ 100000000) (hk : ¬ (1 ≤ x.k ∧ x.k ≤ 36)) (hs : x.s = ⟨#[]⟩) (hf : x.f = 0) (ht : x.t = 0) : Row Try.prog 23 [vW0, vT (.mk x l)] [bxC 1 tr dv B 0, rwC] (.tup []) [some (bxC 2 tr dv (B ++ wrT (.mk x l) tr) (erT (.mk x l) (tr + 1))), none, some rwC] := by
  have hsz : (Tr.mk x l).size = 1 + (l.map Tr.size).sum := Tr.size_mk x l
  have hen := wenter_row tr dv B 0 h0 (by omega)
  rw [if_neg (fun k => h64 k.1)] at hen
  have hkr := isterm_row x.k
  have hz := pzig_row x.n (by have := hx.2.1; omega) (by have := hx.2.1; omega)
  have hzb := zigs.zig_bd x.n (by have := hx.2.1; omega) (by have := hx.2.1; omega)
  have hkd := wkind_no (tr + 1) dv B 0 x.k
  rw [if_pos rfl] at hkd
  rw [decide_eq_false hk] at hkr
  obtain ⟨B1, h1⟩ : ∃ B1, B = B1 := ⟨_, rfl⟩
  have l1 : B1.length ≤ B.length + 1 := by rw [← h1]; omega
  rw [h1] at hkd hen
  rw [h1]
  rw [h1] at hB
  have hnm := wnumber_row (tr + 1) dv B1 23 (zigs.zig x.n) hzb.1 hzb.2 (by omega)
  obtain ⟨B2, h2⟩ : ∃ B2, B1 ++ vs.enc (zigs.zig x.n) = B2 := ⟨_, rfl⟩
  rw [h2] at hnm
  have l2 : B2.length ≤ B1.length + 10 := by rw [← h2, List.length_append]; have := (enc_ln (zigs.zig x.n)).2; omega
  have hal := wall_row (tr + 1) dv B2 23 l (by omega) hok (by omega)
  rw [if_neg (by decide), if_neg (by decide)] at hal
  have he : erT (.mk x l) (tr + 1) = 23 := by
    rw [erT_mk, if_neg (by omega), if_pos hk]
  have hw : B1 ++ wrT (.mk x l) tr = B2 ++ (vs.enc (l.length : Nat) ++ []) := by
    rw [wrT_mk, if_neg h64, if_neg hk, if_neg (fun k => hk k.1), ← h2]
    simp only [List.append_assoc, List.nil_append]
  rw [he, hw]
  obtain ⟨B3, h3⟩ : ∃ B3, B2 ++ (vs.enc (l.length : Nat) ++ []) = B3 := ⟨_, rfl⟩
  rw [h3] at hal ⊢
  have hD := leave_rowD (tr + 1) dv B3 23 (by omega) (by omega)
  rw [show tr + 1 - 1 = tr by omega] at hD
  clear hok he hw h1 h2 h3 hB
  refine row_of_d Try.func23 rfl rfl (Nat.le_of_ble_eq_true rfl) ?_
  refine awd_seq ?_
  refine aw_reg (fun K hK => ?_); simp -implicitDefEqProofs; refine hK _ ?_
  refine ⟨rfl, ?_⟩
  refine awd_defer rfl ?_
  simp -implicitDefEqProofs
  refine ⟨0, by decide, 0, ⟨rfl, rfl⟩, ?_⟩
  repeat' (first | refine aw_seq ?_ | refine aw_skip ?_ | refine aw_block ?_ | refine aw_exit ?_ | refine aw_ct rfl ?_ | refine aw_cf rfl ?_ | ((first | refine aw_reg (fun K hK => ?_) | refine aw_drw mixd (fun K hK => ?_) | refine ar_call (cgK hen 0 rfl ?_) | refine ard_call (dgK hen 0 rfl ?_) | refine ar_call (cp hkr ?_) | refine ard_call (dp hkr ?_) | refine ar_call (cgK hkd 0 rfl ?_) | refine ard_call (dgK hkd 0 rfl ?_) | refine ar_call (cp hz ?_) | refine ard_call (dp hz ?_) | refine ar_call (cgK hnm 0 rfl ?_) | refine ard_call (dgK hnm 0 rfl ?_) | refine ar_call (cgK hal 0 rfl ?_) | refine ard_call (dgK hal 0 rfl ?_) | fail); simp -implicitDefEqProofs [hs, hf, ht]) | refine hK _ ?_ | refine hK _ _ (by rfl) ?_ | fail)
  refine finD_k (N := 0) hD (.inl rfl) rfl rfl ?_ ?_
  · simp
  · simp -implicitDefEqProofs [FinG, resV, resT]
theorem wt_n_s (tr dv : Int) (B : List Int) (x : Lab) (l : List VT) (h0 : 0 ≤ tr) (h64 : ¬ 64 ≤ tr) (hx : x.ok) (hl : l.length ≤ 1000) (hok : ∀ y ∈ l, WrOk dv y (tr + 1)) (hB : B.length + 21 * (Tr.mk x l).size ≤ 100000000) (hk : ¬ (1 ≤ x.k ∧ x.k ≤ 36)) (hs : ¬ x.s = ⟨#[]⟩) : Row Try.prog 23 [vW0, vT (.mk x l)] [bxC 1 tr dv B 0, rwC] (.tup []) [some (bxC 2 tr dv (B ++ wrT (.mk x l) tr) (erT (.mk x l) (tr + 1))), none, some rwC] := by
  have hsz : (Tr.mk x l).size = 1 + (l.map Tr.size).sum := Tr.size_mk x l
  have hen := wenter_row tr dv B 0 h0 (by omega)
  rw [if_neg (fun k => h64 k.1)] at hen
  have hkr := isterm_row x.k
  have hz := pzig_row x.n (by have := hx.2.1; omega) (by have := hx.2.1; omega)
  have hzb := zigs.zig_bd x.n (by have := hx.2.1; omega) (by have := hx.2.1; omega)
  have hkd := wkind_no (tr + 1) dv B 0 x.k
  rw [if_pos rfl] at hkd
  rw [decide_eq_false hk] at hkr
  obtain ⟨B1, h1⟩ : ∃ B1, B = B1 := ⟨_, rfl⟩
  have l1 : B1.length ≤ B.length + 1 := by rw [← h1]; omega
  have hfl := wfail_row (tr + 1) dv B 23 2
  rw [if_neg (by decide)] at hfl
  rw [h1] at hkd hen hfl
  rw [h1]
  rw [h1] at hB
  have hnm := wnumber_row (tr + 1) dv B1 23 (zigs.zig x.n) hzb.1 hzb.2 (by omega)
  obtain ⟨B2, h2⟩ : ∃ B2, B1 ++ vs.enc (zigs.zig x.n) = B2 := ⟨_, rfl⟩
  rw [h2] at hnm
  have l2 : B2.length ≤ B1.length + 10 := by rw [← h2, List.length_append]; have := (enc_ln (zigs.zig x.n)).2; omega
  have hal := wall_row (tr + 1) dv B2 23 l (by omega) hok (by omega)
  rw [if_neg (by decide), if_neg (by decide)] at hal
  have he : erT (.mk x l) (tr + 1) = 23 := by
    rw [erT_mk, if_neg (by omega), if_pos hk]
  have hw : B1 ++ wrT (.mk x l) tr = B2 ++ (vs.enc (l.length : Nat) ++ []) := by
    rw [wrT_mk, if_neg h64, if_neg hk, if_neg (fun k => hk k.1), ← h2]
    simp only [List.append_assoc, List.nil_append]
  rw [he, hw]
  obtain ⟨B3, h3⟩ : ∃ B3, B2 ++ (vs.enc (l.length : Nat) ++ []) = B3 := ⟨_, rfl⟩
  rw [h3] at hal ⊢
  have hD := leave_rowD (tr + 1) dv B3 23 (by omega) (by omega)
  rw [show tr + 1 - 1 = tr by omega] at hD
  clear hok he hw h1 h2 h3 hB
  refine row_of_d Try.func23 rfl rfl (Nat.le_of_ble_eq_true rfl) ?_
  refine awd_seq ?_
  refine aw_reg (fun K hK => ?_); simp -implicitDefEqProofs; refine hK _ ?_
  refine ⟨rfl, ?_⟩
  refine awd_defer rfl ?_
  simp -implicitDefEqProofs
  refine ⟨0, by decide, 0, ⟨rfl, rfl⟩, ?_⟩
  repeat' (first | refine aw_seq ?_ | refine aw_skip ?_ | refine aw_block ?_ | refine aw_exit ?_ | refine aw_ct rfl ?_ | refine aw_cf rfl ?_ | ((first | refine aw_reg (fun K hK => ?_) | refine aw_drw mixd (fun K hK => ?_) | refine ar_call (cgK hen 0 rfl ?_) | refine ard_call (dgK hen 0 rfl ?_) | refine ar_call (cp hkr ?_) | refine ard_call (dp hkr ?_) | refine ar_call (cgK hkd 0 rfl ?_) | refine ard_call (dgK hkd 0 rfl ?_) | refine ar_call (cgK hfl 0 rfl ?_) | refine ard_call (dgK hfl 0 rfl ?_) | refine ar_call (cp hz ?_) | refine ard_call (dp hz ?_) | refine ar_call (cgK hnm 0 rfl ?_) | refine ard_call (dgK hnm 0 rfl ?_) | refine ar_call (cgK hal 0 rfl ?_) | refine ard_call (dgK hal 0 rfl ?_) | fail); simp -implicitDefEqProofs [hs]) | refine hK _ ?_ | refine hK _ _ (by rfl) ?_ | fail)
  refine finD_k (N := 0) hD (.inl rfl) rfl rfl ?_ ?_
  · simp
  · simp -implicitDefEqProofs [FinG, resV, resT]
theorem wt_n_f (tr dv : Int) (B : List Int) (x : Lab) (l : List VT) (h0 : 0 ≤ tr) (h64 : ¬ 64 ≤ tr) (hx : x.ok) (hl : l.length ≤ 1000) (hok : ∀ y ∈ l, WrOk dv y (tr + 1)) (hB : B.length + 21 * (Tr.mk x l).size ≤ 100000000) (hk : ¬ (1 ≤ x.k ∧ x.k ≤ 36)) (hs : x.s = ⟨#[]⟩) (hf : ¬ x.f = 0) : Row Try.prog 23 [vW0, vT (.mk x l)] [bxC 1 tr dv B 0, rwC] (.tup []) [some (bxC 2 tr dv (B ++ wrT (.mk x l) tr) (erT (.mk x l) (tr + 1))), none, some rwC] := by
  have hsz : (Tr.mk x l).size = 1 + (l.map Tr.size).sum := Tr.size_mk x l
  have hen := wenter_row tr dv B 0 h0 (by omega)
  rw [if_neg (fun k => h64 k.1)] at hen
  have hkr := isterm_row x.k
  have hz := pzig_row x.n (by have := hx.2.1; omega) (by have := hx.2.1; omega)
  have hzb := zigs.zig_bd x.n (by have := hx.2.1; omega) (by have := hx.2.1; omega)
  have hkd := wkind_no (tr + 1) dv B 0 x.k
  rw [if_pos rfl] at hkd
  rw [decide_eq_false hk] at hkr
  obtain ⟨B1, h1⟩ : ∃ B1, B = B1 := ⟨_, rfl⟩
  have l1 : B1.length ≤ B.length + 1 := by rw [← h1]; omega
  have hfl := wfail_row (tr + 1) dv B 23 2
  rw [if_neg (by decide)] at hfl
  rw [h1] at hkd hen hfl
  rw [h1]
  rw [h1] at hB
  have hnm := wnumber_row (tr + 1) dv B1 23 (zigs.zig x.n) hzb.1 hzb.2 (by omega)
  obtain ⟨B2, h2⟩ : ∃ B2, B1 ++ vs.enc (zigs.zig x.n) = B2 := ⟨_, rfl⟩
  rw [h2] at hnm
  have l2 : B2.length ≤ B1.length + 10 := by rw [← h2, List.length_append]; have := (enc_ln (zigs.zig x.n)).2; omega
  have hal := wall_row (tr + 1) dv B2 23 l (by omega) hok (by omega)
  rw [if_neg (by decide), if_neg (by decide)] at hal
  have he : erT (.mk x l) (tr + 1) = 23 := by
    rw [erT_mk, if_neg (by omega), if_pos hk]
  have hw : B1 ++ wrT (.mk x l) tr = B2 ++ (vs.enc (l.length : Nat) ++ []) := by
    rw [wrT_mk, if_neg h64, if_neg hk, if_neg (fun k => hk k.1), ← h2]
    simp only [List.append_assoc, List.nil_append]
  rw [he, hw]
  obtain ⟨B3, h3⟩ : ∃ B3, B2 ++ (vs.enc (l.length : Nat) ++ []) = B3 := ⟨_, rfl⟩
  rw [h3] at hal ⊢
  have hD := leave_rowD (tr + 1) dv B3 23 (by omega) (by omega)
  rw [show tr + 1 - 1 = tr by omega] at hD
  clear hok he hw h1 h2 h3 hB
  refine row_of_d Try.func23 rfl rfl (Nat.le_of_ble_eq_true rfl) ?_
  refine awd_seq ?_
  refine aw_reg (fun K hK => ?_); simp -implicitDefEqProofs; refine hK _ ?_
  refine ⟨rfl, ?_⟩
  refine awd_defer rfl ?_
  simp -implicitDefEqProofs
  refine ⟨0, by decide, 0, ⟨rfl, rfl⟩, ?_⟩
  repeat' (first | refine aw_seq ?_ | refine aw_skip ?_ | refine aw_block ?_ | refine aw_exit ?_ | refine aw_ct rfl ?_ | refine aw_cf rfl ?_ | ((first | refine aw_reg (fun K hK => ?_) | refine aw_drw mixd (fun K hK => ?_) | refine ar_call (cgK hen 0 rfl ?_) | refine ard_call (dgK hen 0 rfl ?_) | refine ar_call (cp hkr ?_) | refine ard_call (dp hkr ?_) | refine ar_call (cgK hkd 0 rfl ?_) | refine ard_call (dgK hkd 0 rfl ?_) | refine ar_call (cgK hfl 0 rfl ?_) | refine ard_call (dgK hfl 0 rfl ?_) | refine ar_call (cp hz ?_) | refine ard_call (dp hz ?_) | refine ar_call (cgK hnm 0 rfl ?_) | refine ard_call (dgK hnm 0 rfl ?_) | refine ar_call (cgK hal 0 rfl ?_) | refine ard_call (dgK hal 0 rfl ?_) | fail); simp -implicitDefEqProofs [hs, hf]) | refine hK _ ?_ | refine hK _ _ (by rfl) ?_ | fail)
  refine finD_k (N := 0) hD (.inl rfl) rfl rfl ?_ ?_
  · simp
  · simp -implicitDefEqProofs [FinG, resV, resT]
theorem wt_n_t (tr dv : Int) (B : List Int) (x : Lab) (l : List VT) (h0 : 0 ≤ tr) (h64 : ¬ 64 ≤ tr) (hx : x.ok) (hl : l.length ≤ 1000) (hok : ∀ y ∈ l, WrOk dv y (tr + 1)) (hB : B.length + 21 * (Tr.mk x l).size ≤ 100000000) (hk : ¬ (1 ≤ x.k ∧ x.k ≤ 36)) (hs : x.s = ⟨#[]⟩) (hf : x.f = 0) (ht : ¬ x.t = 0) : Row Try.prog 23 [vW0, vT (.mk x l)] [bxC 1 tr dv B 0, rwC] (.tup []) [some (bxC 2 tr dv (B ++ wrT (.mk x l) tr) (erT (.mk x l) (tr + 1))), none, some rwC] := by
  have hsz : (Tr.mk x l).size = 1 + (l.map Tr.size).sum := Tr.size_mk x l
  have hen := wenter_row tr dv B 0 h0 (by omega)
  rw [if_neg (fun k => h64 k.1)] at hen
  have hkr := isterm_row x.k
  have hz := pzig_row x.n (by have := hx.2.1; omega) (by have := hx.2.1; omega)
  have hzb := zigs.zig_bd x.n (by have := hx.2.1; omega) (by have := hx.2.1; omega)
  have hkd := wkind_no (tr + 1) dv B 0 x.k
  rw [if_pos rfl] at hkd
  rw [decide_eq_false hk] at hkr
  obtain ⟨B1, h1⟩ : ∃ B1, B = B1 := ⟨_, rfl⟩
  have l1 : B1.length ≤ B.length + 1 := by rw [← h1]; omega
  have hfl := wfail_row (tr + 1) dv B 23 2
  rw [if_neg (by decide)] at hfl
  rw [h1] at hkd hen hfl
  rw [h1]
  rw [h1] at hB
  have hnm := wnumber_row (tr + 1) dv B1 23 (zigs.zig x.n) hzb.1 hzb.2 (by omega)
  obtain ⟨B2, h2⟩ : ∃ B2, B1 ++ vs.enc (zigs.zig x.n) = B2 := ⟨_, rfl⟩
  rw [h2] at hnm
  have l2 : B2.length ≤ B1.length + 10 := by rw [← h2, List.length_append]; have := (enc_ln (zigs.zig x.n)).2; omega
  have hal := wall_row (tr + 1) dv B2 23 l (by omega) hok (by omega)
  rw [if_neg (by decide), if_neg (by decide)] at hal
  have he : erT (.mk x l) (tr + 1) = 23 := by
    rw [erT_mk, if_neg (by omega), if_pos hk]
  have hw : B1 ++ wrT (.mk x l) tr = B2 ++ (vs.enc (l.length : Nat) ++ []) := by
    rw [wrT_mk, if_neg h64, if_neg hk, if_neg (fun k => hk k.1), ← h2]
    simp only [List.append_assoc, List.nil_append]
  rw [he, hw]
  obtain ⟨B3, h3⟩ : ∃ B3, B2 ++ (vs.enc (l.length : Nat) ++ []) = B3 := ⟨_, rfl⟩
  rw [h3] at hal ⊢
  have hD := leave_rowD (tr + 1) dv B3 23 (by omega) (by omega)
  rw [show tr + 1 - 1 = tr by omega] at hD
  clear hok he hw h1 h2 h3 hB
  refine row_of_d Try.func23 rfl rfl (Nat.le_of_ble_eq_true rfl) ?_
  refine awd_seq ?_
  refine aw_reg (fun K hK => ?_); simp -implicitDefEqProofs; refine hK _ ?_
  refine ⟨rfl, ?_⟩
  refine awd_defer rfl ?_
  simp -implicitDefEqProofs
  refine ⟨0, by decide, 0, ⟨rfl, rfl⟩, ?_⟩
  repeat' (first | refine aw_seq ?_ | refine aw_skip ?_ | refine aw_block ?_ | refine aw_exit ?_ | refine aw_ct rfl ?_ | refine aw_cf rfl ?_ | ((first | refine aw_reg (fun K hK => ?_) | refine aw_drw mixd (fun K hK => ?_) | refine ar_call (cgK hen 0 rfl ?_) | refine ard_call (dgK hen 0 rfl ?_) | refine ar_call (cp hkr ?_) | refine ard_call (dp hkr ?_) | refine ar_call (cgK hkd 0 rfl ?_) | refine ard_call (dgK hkd 0 rfl ?_) | refine ar_call (cgK hfl 0 rfl ?_) | refine ard_call (dgK hfl 0 rfl ?_) | refine ar_call (cp hz ?_) | refine ard_call (dp hz ?_) | refine ar_call (cgK hnm 0 rfl ?_) | refine ard_call (dgK hnm 0 rfl ?_) | refine ar_call (cgK hal 0 rfl ?_) | refine ard_call (dgK hal 0 rfl ?_) | fail); simp -implicitDefEqProofs [hs, hf, ht]) | refine hK _ ?_ | refine hK _ _ (by rfl) ?_ | fail)
  refine finD_k (N := 0) hD (.inl rfl) rfl rfl ?_ ?_
  · simp
  · simp -implicitDefEqProofs [FinG, resV, resT]
theorem wterm_row (t : VT) : in64 t → t.size ≤ 1000 → ∀ dv tr : Int, 0 ≤ tr → tr ≤ 100 → WrOk dv t tr := by
  induction t using Tr.ind with
  | h x l ih =>
  intro hi hsz dv tr h0 h1 B hB
  by_cases h64 : 64 ≤ tr
  · exact wterm_deep tr dv B _ h64 (by omega)
  obtain ⟨hx, hl⟩ := (Tr.all_mk _ _ _).1 hi
  have hlen := Tr.len_size (x := x) (l := l)
  have hok : ∀ y ∈ l, WrOk dv y (tr + 1) := fun y hy => by
    obtain ⟨i, hi⟩ := List.mem_iff_getElem?.1 hy
    have := Tr.size_at (x := x) hi
    exact ih y hy (hl y hy) (by omega) dv (tr + 1) (by omega) (by omega)
  by_cases hk : 1 ≤ x.k ∧ x.k ≤ 36
  · by_cases hs : x.s = ⟨#[]⟩
    · by_cases hf : x.f = 0
      · by_cases ht : x.t = 0
        · exact wt_y_ok tr dv B x l h0 h64 hx (by omega) hok hB hk hs hf ht
        · exact wt_y_t tr dv B x l h0 h64 hx (by omega) hok hB hk hs hf ht
      · exact wt_y_f tr dv B x l h0 h64 hx (by omega) hok hB hk hs hf
    · exact wt_y_s tr dv B x l h0 h64 hx (by omega) hok hB hk hs
  · by_cases hs : x.s = ⟨#[]⟩
    · by_cases hf : x.f = 0
      · by_cases ht : x.t = 0
        · exact wt_n_ok tr dv B x l h0 h64 hx (by omega) hok hB hk hs hf ht
        · exact wt_n_t tr dv B x l h0 h64 hx (by omega) hok hB hk hs hf ht
      · exact wt_n_f tr dv B x l h0 h64 hx (by omega) hok hB hk hs hf
    · exact wt_n_s tr dv B x l h0 h64 hx (by omega) hok hB hk hs
theorem wdone_ok (tr dv : Int) (B : List Int) : Row Try.prog 24 [vW0] [bxC 1 tr dv B 0, rwC] (.tup [.c (.row 1 1 (iC B)), .c (.pv (I 0))]) [some (bxC 1 tr dv B 0), some rwC] := by
  refine row_of Try.func24 rfl rfl (Nat.le_of_ble_eq_true rfl) ?_
  repeat (first | refine aw_seq ?_ | refine aw_skip ?_ | refine aw_block ?_ | refine aw_exit ?_ | refine aw_ct rfl ?_ | refine aw_cf rfl ?_ | ((first | refine aw_reg (fun K hK => ?_) | refine aw_drw mixd (fun K hK => ?_) | fail); simp -implicitDefEqProofs; first | refine hK _ ?_ | refine hK _ _ (by rfl) ?_ | fail) | fail)
  refine aw_ret (fin_g [0, 1] ?_); simp -implicitDefEqProofs [FinG, resV, resT] <;> try rfl
theorem wdone_err (tr dv : Int) (B : List Int) (e : Int) (he : ¬ e = 0) : Row Try.prog 24 [vW0] [bxC 1 tr dv B e, rwC] (.tup [.c (.pv .nilS), .c (.pv (I e))]) [some (bxC 1 tr dv B e), some rwC] := by
  refine row_of Try.func24 rfl rfl (Nat.le_of_ble_eq_true rfl) ?_
  repeat (first | refine aw_seq ?_ | refine aw_skip ?_ | refine aw_block ?_ | refine aw_exit ?_ | refine aw_ct rfl ?_ | refine aw_cf rfl ?_ | ((first | refine aw_reg (fun K hK => ?_) | refine aw_drw mixd (fun K hK => ?_) | fail); simp -implicitDefEqProofs [he]; first | refine hK _ ?_ | refine hK _ _ (by rfl) ?_ | fail) | fail)
  refine aw_ret (fin_g [0, 1] ?_); simp -implicitDefEqProofs [FinG, resV, resT, he] <;> try rfl
abbrev vBE (B : PV) (e : Int) : AV := .tup [.c (.pv B), .c (.pv (I e))]
noncomputable def ptV (t : VT) : PV := if erT t 1 = 0 then .sl 1 (iC (tE t)) else .nilS
theorem cterm_row (t : VT) (hi : in64 t) (hsz : t.size ≤ 1000) : Row Try.prog 8 [vT t] [] (vBE (ptV t) (erT t 1)) [] := by
  have hw := wterm_row t hi hsz 0 0 (by omega) (by omega) [] (by simp; omega)
  rw [List.nil_append, show (0 : Int) + 1 = 1 by omega] at hw
  have hok := wr_ok t 0
  rw [show (0 : Int) + 1 = 1 by omega] at hok
  unfold ptV
  obtain ⟨q, hq⟩ : ∃ q, erT t 1 = q := ⟨_, rfl⟩
  rw [hq] at hw hok ⊢
  by_cases h0 : q = 0
  · subst h0
    rw [if_pos rfl]
    rw [hok rfl] at hw
    obtain ⟨B, hB⟩ : ∃ B, tE t = B := ⟨_, rfl⟩
    rw [hB] at hw ⊢
    have hd := wdone_ok 0 0 B
    clear hok hB hq
    obtain ⟨x, l⟩ := t
    have e0 : iC [] = [] := rfl
    refine row_of Try.func8 rfl rfl (Nat.le_of_ble_eq_true rfl) ?_
    refine aw_seq ?_; (first | refine aw_reg (fun K hK => ?_) | refine aw_drw mixd (fun K hK => ?_) | fail); simp -implicitDefEqProofs; repeat' (first | refine hK _ ?_ | refine hK _ _ (by rfl) ?_ | ((first | fail); simp -implicitDefEqProofs) | fail)
    refine aw_seq ?_; (first | refine aw_reg (fun K hK => ?_) | refine aw_drw mixd (fun K hK => ?_) | fail); simp -implicitDefEqProofs; repeat' (first | refine hK _ ?_ | refine hK _ _ (by rfl) ?_ | ((first | fail); simp -implicitDefEqProofs) | fail)
    refine aw_nilc 4 2 _ 5 1 rfl rfl (by simp) ?_
    simp [St.nilc]
    repeat' (first | refine aw_seq ?_ | refine aw_skip ?_ | refine aw_block ?_ | refine aw_exit ?_ | refine aw_ct rfl ?_ | refine aw_cf rfl ?_ | ((first | refine aw_reg (fun K hK => ?_) | refine aw_drw mixd (fun K hK => ?_) | refine ar_call (cgK hw 4 rfl ?_) | refine ard_call (dgK hw 4 rfl ?_) | refine ar_call (cgK hd 4 rfl ?_) | refine ard_call (dgK hd 4 rfl ?_) | fail); simp -implicitDefEqProofs) | refine hK _ ?_ | refine hK _ _ (by rfl) ?_ | fail)
    refine aw_ret (fin_ret ?_); simp -implicitDefEqProofs [FinP, resV, resT] <;> try rfl
  · rw [if_neg h0]
    obtain ⟨B, hB⟩ : ∃ B, wrT t 0 = B := ⟨_, rfl⟩
    rw [hB] at hw
    have hd := wdone_err 0 0 B q h0
    clear hok hB hq
    obtain ⟨x, l⟩ := t
    have e0 : iC [] = [] := rfl
    refine row_of Try.func8 rfl rfl (Nat.le_of_ble_eq_true rfl) ?_
    refine aw_seq ?_; (first | refine aw_reg (fun K hK => ?_) | refine aw_drw mixd (fun K hK => ?_) | fail); simp -implicitDefEqProofs; repeat' (first | refine hK _ ?_ | refine hK _ _ (by rfl) ?_ | ((first | fail); simp -implicitDefEqProofs) | fail)
    refine aw_seq ?_; (first | refine aw_reg (fun K hK => ?_) | refine aw_drw mixd (fun K hK => ?_) | fail); simp -implicitDefEqProofs; repeat' (first | refine hK _ ?_ | refine hK _ _ (by rfl) ?_ | ((first | fail); simp -implicitDefEqProofs) | fail)
    refine aw_nilc 4 2 _ 5 1 rfl rfl (by simp) ?_
    simp [St.nilc]
    repeat' (first | refine aw_seq ?_ | refine aw_skip ?_ | refine aw_block ?_ | refine aw_exit ?_ | refine aw_ct rfl ?_ | refine aw_cf rfl ?_ | ((first | refine aw_reg (fun K hK => ?_) | refine aw_drw mixd (fun K hK => ?_) | refine ar_call (cgK hw 4 rfl ?_) | refine ard_call (dgK hw 4 rfl ?_) | refine ar_call (cgK hd 4 rfl ?_) | refine ard_call (dgK hd 4 rfl ?_) | fail); simp -implicitDefEqProofs) | refine hK _ ?_ | refine hK _ _ (by rfl) ?_ | fail)
    refine aw_ret (fin_ret ?_); simp -implicitDefEqProofs [FinP, resV, resT] <;> try rfl
noncomputable def rtV (t : VT) (lv : Int) : PV := if erT t lv = 0 then .sl 1 (iC (tE t)) else .sl 1 []
theorem fst_first {l : List VT} {k : Nat} {a : VT} {lv : Int} (ha : l[k]? = some a) (h0 : ∀ y ∈ l.take k, erT y lv = 0) (hq : ¬ erT a lv = 0) : fstE (l.map fun y => erT y lv) = erT a lv := by
  induction l generalizing k with
  | nil => simp at ha
  | cons y l ih =>
    cases k with
    | zero =>
      simp at ha
      subst ha
      simp only [List.map_cons, fstE]
      rw [if_neg hq]
    | succ k =>
      simp at ha
      rw [List.take_succ_cons] at h0
      simp only [List.map_cons, fstE]
      rw [if_pos (h0 y (by simp)), ih ha (fun z hz => h0 z (by simp [hz]))]
theorem fst_none {l : List VT} {lv : Int} (h0 : ∀ y ∈ l, erT y lv = 0) : fstE (l.map fun y => erT y lv) = 0 := by
  induction l with
  | nil => rfl
  | cons y l ih =>
    simp only [List.map_cons, fstE]
    rw [if_pos (h0 y (by simp)), ih (fun z hz => h0 z (by simp [hz]))]
theorem rterm_bad (x : Lab) (l : List VT) (lv : Int) (h : 64 < lv ∨ ¬ (1 ≤ x.k ∧ x.k ≤ 36) ∨ ¬ frmC x) : Row Try.prog 9 [vT (.mk x l), vI lv] [] (vBE (.sl 1 []) (erT (.mk x l) lv)) [] := by
  rw [erT_mk]
  by_cases h1 : 64 < lv
  · rw [if_pos h1]
    refine row_of Try.func9 rfl rfl (Nat.le_of_ble_eq_true rfl) ?_
    repeat (first | refine aw_seq ?_ | refine aw_skip ?_ | refine aw_block ?_ | refine aw_exit ?_ | refine aw_ct rfl ?_ | refine aw_cf rfl ?_ | ((first | refine aw_reg (fun K hK => ?_) | refine aw_drw mixd (fun K hK => ?_) | fail); simp -implicitDefEqProofs [h1]; first | refine hK _ ?_ | refine hK _ _ (by rfl) ?_ | fail) | fail)
    refine aw_ret (fin_ret ?_); simp -implicitDefEqProofs [FinP, resV, resT] <;> try rfl
  rw [if_neg h1]
  by_cases h2 : 1 ≤ x.k ∧ x.k ≤ 36; rotate_left
  · rw [if_pos h2]
    by_cases h3 : x.k < 1
    · refine row_of Try.func9 rfl rfl (Nat.le_of_ble_eq_true rfl) ?_
      repeat (first | refine aw_seq ?_ | refine aw_skip ?_ | refine aw_block ?_ | refine aw_exit ?_ | refine aw_ct rfl ?_ | refine aw_cf rfl ?_ | ((first | refine aw_reg (fun K hK => ?_) | refine aw_drw mixd (fun K hK => ?_) | fail); simp -implicitDefEqProofs [h1, h3]; first | refine hK _ ?_ | refine hK _ _ (by rfl) ?_ | fail) | fail)
      refine aw_ret (fin_ret ?_); simp -implicitDefEqProofs [FinP, resV, resT] <;> try rfl
    · have h4 : 36 < x.k := by omega
      refine row_of Try.func9 rfl rfl (Nat.le_of_ble_eq_true rfl) ?_
      repeat (first | refine aw_seq ?_ | refine aw_skip ?_ | refine aw_block ?_ | refine aw_exit ?_ | refine aw_ct rfl ?_ | refine aw_cf rfl ?_ | ((first | refine aw_reg (fun K hK => ?_) | refine aw_drw mixd (fun K hK => ?_) | fail); simp -implicitDefEqProofs [h1, h3, h4]; first | refine hK _ ?_ | refine hK _ _ (by rfl) ?_ | fail) | fail)
      refine aw_ret (fin_ret ?_); simp -implicitDefEqProofs [FinP, resV, resT] <;> try rfl
  rw [if_neg (fun k => k h2)]
  have hk1 : ¬ x.k < 1 := by omega
  have hk2 : ¬ 36 < x.k := by omega
  have hf : ¬ frmC x := by
    rcases h with h | h | h
    · exact absurd h h1
    · exact absurd h2 h
    · exact h
  rw [if_pos hf]
  by_cases hs : x.s = ⟨#[]⟩; rotate_left
  · refine row_of Try.func9 rfl rfl (Nat.le_of_ble_eq_true rfl) ?_
    repeat (first | refine aw_seq ?_ | refine aw_skip ?_ | refine aw_block ?_ | refine aw_exit ?_ | refine aw_ct rfl ?_ | refine aw_cf rfl ?_ | ((first | refine aw_reg (fun K hK => ?_) | refine aw_drw mixd (fun K hK => ?_) | fail); simp -implicitDefEqProofs [h1, hk1, hk2, hs]; first | refine hK _ ?_ | refine hK _ _ (by rfl) ?_ | fail) | fail)
    refine aw_ret (fin_ret ?_); simp -implicitDefEqProofs [FinP, resV, resT] <;> try rfl
  by_cases hff : x.f = 0; rotate_left
  · refine row_of Try.func9 rfl rfl (Nat.le_of_ble_eq_true rfl) ?_
    repeat (first | refine aw_seq ?_ | refine aw_skip ?_ | refine aw_block ?_ | refine aw_exit ?_ | refine aw_ct rfl ?_ | refine aw_cf rfl ?_ | ((first | refine aw_reg (fun K hK => ?_) | refine aw_drw mixd (fun K hK => ?_) | fail); simp -implicitDefEqProofs [h1, hk1, hk2, hs, hff]; first | refine hK _ ?_ | refine hK _ _ (by rfl) ?_ | fail) | fail)
    refine aw_ret (fin_ret ?_); simp -implicitDefEqProofs [FinP, resV, resT] <;> try rfl
  have ht : ¬ x.t = 0 := fun ht => hf ⟨hs, hff, ht⟩
  refine row_of Try.func9 rfl rfl (Nat.le_of_ble_eq_true rfl) ?_
  repeat (first | refine aw_seq ?_ | refine aw_skip ?_ | refine aw_block ?_ | refine aw_exit ?_ | refine aw_ct rfl ?_ | refine aw_cf rfl ?_ | ((first | refine aw_reg (fun K hK => ?_) | refine aw_drw mixd (fun K hK => ?_) | fail); simp -implicitDefEqProofs [h1, hk1, hk2, hs, hff, ht]; first | refine hK _ ?_ | refine hK _ _ (by rfl) ?_ | fail) | fail)
  refine aw_ret (fin_ret ?_); simp -implicitDefEqProofs [FinP, resV, resT] <;> try rfl
theorem flat_snoc (l : List VT) (k : Nat) (a : VT) (ha : l[k]? = some a) : ((l.take (k + 1)).map tE).flatten = ((l.take k).map tE).flatten ++ tE a := by
  rw [List.take_add_one, ha]
  simp
theorem teF_len (l : List VT) : ((l.map tE).flatten).length ≤ 21 * (l.map Tr.size).sum := by
  induction l with
  | nil => simp
  | cons y l ih =>
    have := tE_len y
    simp only [List.map_cons, List.flatten_cons, List.length_append, List.sum_cons]
    omega
theorem rterm_row (t : VT) : in64 t → t.size ≤ 1000 → ∀ lv : Int, 1 ≤ lv → lv ≤ 100000 → Row Try.prog 9 [vT t, vI lv] [] (vBE (rtV t lv) (erT t lv)) [] := by
  induction t using Tr.ind with
  | h x l ih =>
  intro hi hsz lv hv0 hv1
  have hlen := Tr.len_size (x := x) (l := l)
  obtain ⟨hx, hl⟩ := (Tr.all_mk _ _ _).1 hi
  unfold rtV
  by_cases hbad : 64 < lv ∨ ¬ (1 ≤ x.k ∧ x.k ≤ 36) ∨ ¬ frmC x
  · have hne : ¬ erT (.mk x l) lv = 0 := fun he => by
      obtain ⟨a, b, c, -⟩ := er_ok he
      rcases hbad with h | h | h
      · omega
      · exact h b
      · exact h c
    rw [if_neg hne]
    exact rterm_bad x l lv hbad
  have h1 : ¬ 64 < lv := fun h => hbad (.inl h)
  have h2 : 1 ≤ x.k ∧ x.k ≤ 36 := Classical.byContradiction fun h => hbad (.inr (.inl h))
  have h3 : frmC x := Classical.byContradiction fun h => hbad (.inr (.inr h))
  obtain ⟨hs, hf, ht⟩ := h3
  have hrow : ∀ y ∈ l, Row Try.prog 9 [vT y, vI (lv + 1)] [] (vBE (if erT y (lv + 1) = 0 then .sl 1 (iC (tE y)) else .sl 1 []) (erT y (lv + 1))) [] := fun y hy => by
    obtain ⟨i, hi⟩ := List.mem_iff_getElem?.1 hy
    have := Tr.size_at (x := x) hi
    exact ih y hy (hl y hy) (by omega) (lv + 1) (by omega) (by omega)
  clear ih hi hbad
  have he : erT (.mk x l) lv = fstE (l.map fun y => erT y (lv + 1)) := by
    rw [erT_mk, if_neg h1, if_neg (fun k => k h2), if_neg (fun k => k ⟨hs, hf, ht⟩)]
  have hk1 : ¬ x.k < 1 := by omega
  have hk2 : ¬ 36 < x.k := by omega
  have hz := rzig_row x.n (by have := hx.2.1; omega) (by have := hx.2.1; omega)
  have hzb := zigs.zig_bd x.n (by have := hx.2.1; omega) (by have := hx.2.1; omega)
  have hb1 := rbytes_row (zigs.zig x.n) hzb.1 hzb.2
  have hb2 := rbytes_row (l.length : Nat) (by omega) (by omega)
  have w0 : IntKind.u64.wrap (l.length : Int) = (l.length : Nat) := by rw [vs.u64_wrap]; omega
  have w1 : IntKind.u8.wrap x.k = x.k := vs.u8_in x.k (by omega) (by omega)
  have w3 : IntKind.i64.wrap (lv + 1) = lv + 1 := i64i _ (by omega) (by omega)
  have hte : tE (.mk x l) = (x.k :: (vs.enc (zigs.zig x.n) ++ vs.enc (l.length : Nat))) ++ (l.map tE).flatten := by
    rw [tE_mk]; simp only [List.cons_append, List.append_assoc]
  have z1 := (enc_ln (zigs.zig x.n)).2
  have z2 := (enc_ln (l.length : Nat)).2
  obtain ⟨Z1, hZ1⟩ : ∃ Z, vs.enc (zigs.zig x.n) = Z := ⟨_, rfl⟩
  obtain ⟨Z2, hZ2⟩ : ∃ Z, vs.enc (l.length : Nat) = Z := ⟨_, rfl⟩
  rw [hZ1] at hte hb1 z1
  rw [hZ2] at hte hb2 z2
  obtain ⟨A, hA⟩ : ∃ A, x.k :: (Z1 ++ Z2) = A := ⟨_, rfl⟩
  have hAl : A.length ≤ 21 := by rw [← hA]; simp; omega
  have hA1 : [[PV.lit (.int .u8 x.k)]] ++ (iC Z1 ++ iC Z2) = iC A := by rw [← hA]; simp [iC]
  have hA2 : [PV.lit (.int .u8 x.k)] :: (iC Z1 ++ iC Z2) = iC A := hA1
  rw [hA] at hte
  have g1 : 1 + Z1.length ≤ 140737488355328 := by omega
  have g2 : Z1.length + 1 + Z2.length ≤ 140737488355328 := by omega
  have s0 : A ++ ((l.take 0).map tE).flatten = A := by simp
  have hfl := teF_len l
  have hsz' : 1 + (l.map Tr.size).sum ≤ 1000 := by rw [Tr.size_mk] at hsz; exact hsz
  have hl1000 : l.length ≤ 1000 := by omega
  have hcut := fun k => size_cut l k
  clear hzb hx hsz hZ1 hZ2 hA
  refine row_of Try.func9 rfl rfl (Nat.le_of_ble_eq_true rfl) ?_
  repeat' (first | refine aw_seq ?_ | refine aw_skip ?_ | refine aw_block ?_ | refine aw_exit ?_ | refine aw_ct rfl ?_ | refine aw_cf rfl ?_ | ((first | refine aw_reg (fun K hK => ?_) | refine aw_drw mixd (fun K hK => ?_) | refine ar_call (cp hz ?_) | refine ard_call (dp hz ?_) | refine ar_call (cp hb1 ?_) | refine ard_call (dp hb1 ?_) | refine ar_call (cp hb2 ?_) | refine ard_call (dp hb2 ?_) | fail); simp -implicitDefEqProofs [h1, hk1, hk2, hs, hf, ht, w0, w1, iC_len, g1, g2, hA1, hA2]) | refine hK _ ?_ | refine hK _ _ (by rfl) ?_ | fail)
  refine aw_lp (ι := Nat) (fun k => mkSt [(1, vI lv), (2, .v (.c (.ptr 0 0))), (6, .v (.c (.row 1 1 (iC (A ++ ((l.take k).map tE).flatten))))), (7, vI (k : Nat))] [some (.box [.pv (I x.k), .pv (I x.n), .pv (Sx x.s), .pv (.sl 6 (l.map tc)), .pv (I x.f), .pv (I x.t)]), some rwC]) (fun k => k ≤ l.length ∧ ∀ y ∈ l.take k, erT y (lv + 1) = 0) (fun k => l.length - k) 0 ⟨Nat.zero_le _, by simp⟩ (by rw [s0]; exact cov_intro [0, 119] (by simp -implicitDefEqProofs [hs, hf, ht]) (by simp -implicitDefEqProofs [hs, hf, ht]) (by decide) rfl (by simp)) (fun Z hI k hk => ?_)
  clear s0
  obtain ⟨hk, hok⟩ := hk
  by_cases hkl : k < l.length; rotate_left
  · have : k = l.length := by omega
    subst this
    rw [List.take_length] at hok ⊢
    rw [he, fst_none hok, if_pos rfl, hte]
    repeat (first | refine aw_seq ?_ | refine aw_skip ?_ | refine aw_block ?_ | refine aw_exit ?_ | refine aw_ct rfl ?_ | refine aw_cf rfl ?_ | ((first | refine aw_reg (fun K hK => ?_) | refine aw_drw mixd (fun K hK => ?_) | fail); simp -implicitDefEqProofs; first | refine hK _ ?_ | refine hK _ _ (by rfl) ?_ | fail) | fail)
    refine aw_ret (fin_ret ?_); simp -implicitDefEqProofs [FinP, resV, resT] <;> try rfl
  obtain ⟨a, ha⟩ : ∃ a, l[k]? = some a := ⟨_, List.getElem?_eq_getElem hkl⟩
  have ha' := (List.getElem?_eq_some_iff.1 ha).2
  have w2 : IntKind.i64.wrap ((k : Nat) + 1 : Int) = (k : Nat) + 1 := i64i _ (by omega) (by omega)
  have hr := hrow a (List.mem_of_getElem? ha)
  have hfs := flat_snoc l k a ha
  have hlk := teF_len (l.take k)
  have hcu := hcut k
  have hsa := Tr.size_at (x := x) ha
  have hta := tE_len a
  rw [Tr.size_mk] at hsa
  clear hrow hcut hfl
  by_cases hq : erT a (lv + 1) = 0
  · rw [if_pos hq, hq] at hr
    obtain ⟨V, hV⟩ : ∃ V, tE a = V := ⟨_, rfl⟩
    obtain ⟨U, hU⟩ : ∃ U, A ++ ((l.take k).map tE).flatten = U := ⟨_, rfl⟩
    have hUl : U.length ≤ 21 + 21 * 1000 := by rw [← hU, List.length_append]; omega
    rw [hV] at hr hfs hta
    have g3 : U.length + V.length ≤ 140737488355328 := by omega
    have hn : A ++ ((l.take (k + 1)).map tE).flatten = U ++ V := by rw [hfs, ← List.append_assoc, hU]
    rw [hU]
    have hap := iC_app U V
    have hok' : ∀ y ∈ l.take (k + 1), erT y (lv + 1) = 0 := fun y hy => by
      rw [List.take_add_one, ha] at hy
      rcases List.mem_append.1 hy with hy | hy
      · exact hok y hy
      · simp at hy; subst hy; exact hq
    obtain ⟨ax, al⟩ := a
    clear hok he hfs hV hU hq hcu hsa
    repeat' (first | refine aw_seq ?_ | refine aw_skip ?_ | refine aw_block ?_ | refine aw_exit ?_ | refine aw_ct rfl ?_ | refine aw_cf rfl ?_ | ((first | refine aw_reg (fun K hK => ?_) | refine aw_drw mixd (fun K hK => ?_) | refine ar_call (cp hr ?_) | refine ard_call (dp hr ?_) | fail); simp -implicitDefEqProofs [hkl, ha, ha', w2, w3, iC_len, g3, hap]) | refine hK _ ?_ | refine hK _ _ (by rfl) ?_ | fail)
    refine ⟨k + 1, ⟨by omega, hok'⟩, (by dsimp only; omega), ?_⟩
    rw [hI]; simp only [hn]; exact cov_intro [0, 31] (by simp -implicitDefEqProofs [hs, hf, ht]) (by simp -implicitDefEqProofs [hs, hf, ht]) (by decide) rfl (by simp)
  · rw [if_neg hq] at hr
    have hfe := fst_first ha hok hq
    rw [he, hfe, if_neg hq]
    obtain ⟨q, hqq⟩ : ∃ q, erT a (lv + 1) = q := ⟨_, rfl⟩
    rw [hqq] at hr hq ⊢
    obtain ⟨ax, al⟩ := a
    clear hok he hfe
    repeat' (first | refine aw_seq ?_ | refine aw_skip ?_ | refine aw_block ?_ | refine aw_exit ?_ | refine aw_ct rfl ?_ | refine aw_cf rfl ?_ | ((first | refine aw_reg (fun K hK => ?_) | refine aw_drw mixd (fun K hK => ?_) | refine ar_call (cp hr ?_) | refine ard_call (dp hr ?_) | fail); simp -implicitDefEqProofs [hkl, ha, ha', w2, w3, hq]) | refine hK _ ?_ | refine hK _ _ (by rfl) ?_ | fail)
    refine aw_ret (fin_ret ?_); simp -implicitDefEqProofs [FinP, resV, resT] <;> try rfl
theorem td_rea36 : td Try.prog 69 = some ⟨true, 5, 56, [.lit (.int .i64 0), .lit (.int .i64 0), .nilS, .lit (.int .i64 0), .lit (.int .i64 0)], [(0, 2, true), (2, 1, false), (3, 1, false), (4, 1, false)], .struct⟩ := Eq.trans (by kernel_rfl) (Eq.refl _)
theorem td_prea36 : td Try.prog 64 = some ⟨false, 1, 8, [.lit (.pointer none)], [], (.pointer 69)⟩ := Eq.trans (by kernel_rfl) (Eq.refl _)
attribute [simp] td_rea36 td_prea36
abbrev bxR (tr dv : Int) (b : List Int) (p e : Int) : AO := .box [.pv (I tr), .pv (I dv), .pv (.sl 1 (iC b)), .pv (I p), .pv (I e)]
theorem renter_row (tr dv : Int) (b : List Int) (p : Int) (h0 : 0 ≤ tr) (h1 : tr < 64) : Row Try.prog 49 [vW0, vW0] [bxR tr dv b p 0] (.tup []) [some (bxR (tr + 1) dv b p 0)] := by
  have w1 : IntKind.i64.wrap (tr + 1) = tr + 1 := i64i _ (by omega) (by omega)
  have h : ¬ 64 ≤ tr := by omega
  refine row_of Try.func49 rfl rfl (Nat.le_of_ble_eq_true rfl) ?_
  repeat (first | refine aw_seq ?_ | refine aw_skip ?_ | refine aw_block ?_ | refine aw_exit ?_ | refine aw_ct rfl ?_ | refine aw_cf rfl ?_ | ((first | refine aw_reg (fun K hK => ?_) | refine aw_drw mixd (fun K hK => ?_) | fail); simp -implicitDefEqProofs [h, w1]; first | refine hK _ ?_ | refine hK _ _ (by rfl) ?_ | fail) | fail)
  refine fin_fall (fin_g [0] ?_); simp -implicitDefEqProofs [FinG, resV, resT] <;> try rfl
theorem rleave_rowD (tr dv : Int) (b : List Int) (p e : Int) (h0 : -9223372036854775808 ≤ tr - 1) (h1 : tr ≤ 9223372036854775807) : RowD Try.prog 41 [vW0] [bxR tr dv b p e] (.tup []) [some (bxR (tr - 1) dv b p e)] := by
  have w1 : IntKind.i64.wrap (tr - 1) = tr - 1 := i64i _ h0 (by omega)
  refine rowD_of Try.func41 rfl rfl (Nat.le_of_ble_eq_true rfl) ?_
  repeat (first | refine aw_seq ?_ | refine aw_skip ?_ | refine aw_block ?_ | refine aw_exit ?_ | refine aw_ct rfl ?_ | refine aw_cf rfl ?_ | ((first | refine aw_reg (fun K hK => ?_) | refine aw_drw mixd (fun K hK => ?_) | fail); simp -implicitDefEqProofs [w1]; first | refine hK _ ?_ | refine hK _ _ (by rfl) ?_ | fail) | fail)
  refine fin_fall (fin_g [0] ?_); simp -implicitDefEqProofs [FinG, resV, resT] <;> try rfl
theorem rbyte_row (tr dv : Int) (b : List Int) (p : Nat) (z : Int) (hb : bs.AllB b) (hl : b.length ≤ 140737488355328) (hz : b[p]? = some z) : Row Try.prog 50 [vW0] [bxR tr dv b p 0] (vI z) [some (bxR tr dv b ((p : Int) + 1) 0)] := by
  have hp := (List.getElem?_eq_some_iff.1 hz).1
  have hzz : (iC b)[p]? = some [PV.lit (.int .u8 z)] := by unfold iC; rw [List.getElem?_map, hz]; rfl
  have hz2 : (iC b)[p]'(by rw [iC_len]; exact hp) = [PV.lit (.int .u8 z)] := Option.some.inj ((List.getElem?_eq_getElem _).symm.trans hzz)
  have hp' : ¬ (b.length : Int) ≤ p := by omega
  have hbz := hb z (List.mem_of_getElem? hz)
  have w1 : IntKind.i64.wrap ((p : Int) + 1) = p + 1 := i64i _ (by omega) (by omega)
  have e1 : (p : Int) + 1 - 1 = p := by omega
  have w2 : IntKind.i64.wrap (p : Int) = p := i64i _ (by omega) (by omega)
  have w3 : IntKind.i64.wrap z = z := i64i _ (by omega) (by omega)
  refine row_of Try.func50 rfl rfl (Nat.le_of_ble_eq_true rfl) ?_
  repeat (first | refine aw_seq ?_ | refine aw_skip ?_ | refine aw_block ?_ | refine aw_exit ?_ | refine aw_ct rfl ?_ | refine aw_cf rfl ?_ | ((first | refine aw_reg (fun K hK => ?_) | refine aw_drw mixd (fun K hK => ?_) | fail); simp -implicitDefEqProofs [iC_len, hp', hp, w1, e1, w2, w3, hz2]; first | refine hK _ ?_ | refine hK _ _ (by rfl) ?_ | fail) | fail)
  refine aw_ret (fin_g [0] ?_); simp -implicitDefEqProofs [FinG, resV, resT] <;> try rfl
theorem rnumber_row (tr dv : Int) (b : List Int) (p : Nat) (v : Int) (r : List Int) (hb : bs.AllB b) (hl : b.length ≤ 140737488355328) (hv0 : 0 ≤ v) (hv1 : v ≤ 18446744073709551615) (hp : p ≤ b.length) (h : b.drop p = vs.enc v ++ r) : Row Try.prog 53 [vW0] [bxR tr dv b p 0] (vN v) [some (bxR tr dv b ((p : Int) + ((vs.enc v).length : Nat)) 0)] := by
  have hg := pget_row b hb hl p (by omega) (by omega)
  have hga : vs.getAt b p = (v, (p : Int) + ((vs.enc v).length : Nat), 0) := by
    have := vs.getAt_of b p hp (N := v) (t := (vs.enc v).length) (E := 0) (by rw [h]; exact vs.grp_enc v r hv0 hv1)
    rw [if_pos rfl] at this
    exact this
  rw [hga] at hg
  obtain ⟨n, hn⟩ : ∃ n : Int, (p : Int) + ((vs.enc v).length : Nat) = n := ⟨_, rfl⟩
  rw [hn] at hg ⊢
  refine row_of Try.func53 rfl rfl (Nat.le_of_ble_eq_true rfl) ?_
  repeat' (first | refine aw_seq ?_ | refine aw_skip ?_ | refine aw_block ?_ | refine aw_exit ?_ | refine aw_ct rfl ?_ | refine aw_cf rfl ?_ | ((first | refine aw_reg (fun K hK => ?_) | refine aw_drw mixd (fun K hK => ?_) | refine ar_call (cp hg ?_) | refine ard_call (dp hg ?_) | fail); simp -implicitDefEqProofs) | refine hK _ ?_ | refine hK _ _ (by rfl) ?_ | fail)
  refine aw_ret (fin_g [0] ?_); simp -implicitDefEqProofs [FinG, resV, resT] <;> try rfl
end Go.Proofs.Ytcjagcfjpfjanaa.am
end
