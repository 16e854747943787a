import Derived.Test.YtcjagcfjpfjanaaPkD7
import Derived.Test.YtcjagcfjpfjanaaPkD6
import Derived.Test.YtcjagcfjpfjanaaPkD4
set_option maxRecDepth 100000
set_option maxHeartbeats 4000000
section
namespace Go.Proofs.Ytcjagcfjpfjanaa.am
open Go.ChangeShapes Go.WideShapes Go.ChangeAt Go.RowKit
open vt
set_option linter.unusedVariables false
set_option linter.unusedSimpArgs false
theorem da_ex (k : Int) (p : List Int) (r : Int) (b : Bool) (sp sn : List Int) (x : Lab) (tl : List VT) (l : List DT) : da (.mk ⟨k, p, ⟨r, b, sp, sn, .mk x tl⟩⟩ l) = [.pv (I k), .pv (Is p), .pv (I r), .pv (Bo b), .pv (Is sp), .pv (Is sn), .pv (I x.k), .pv (I x.n), .pv (Sx x.s), .pv (.sl 6 (tl.map tc)), .pv (I x.f), .pv (I x.t), .pv (.sl 13 (l.map dc))] := by
  rw [da_mk, saS_mk]; rfl
theorem dc_ex (k : Int) (p : List Int) (r : Int) (b : Bool) (sp sn : List Int) (x : Lab) (tl : List VT) (l : List DT) : dc (.mk ⟨k, p, ⟨r, b, sp, sn, .mk x tl⟩⟩ l) = [I k, Is p, I r, Bo b, Is sp, Is sn, I x.k, I x.n, Sx x.s, .sl 6 (tl.map tc), I x.f, I x.t, .sl 13 (l.map dc)] := by
  rw [dc_mk]; unfold scS; rw [tc_mk]; rfl
attribute [simp] saS_mk da_ex dc_ex saS_len da_len dc_len saS_pure da_pure fit_saS fit_da da_take
section
variable {P : Program} {N : Nat} {st : St}
theorem fin_k {rs : List ResultVar} {res : AV} {ch' : List (Option AO)} {i : Nat} (hb : kid (hlk st.hp 0) = some i) (h : FinG P rs res ch' [0, 1, i] st) (hn3 : [0, 1, i].Nodup := by first | decide | (simp; done)) (hl : 2 ≤ ch'.length := by first | decide | (simp; done)) : Fin P 2 rs res ch' .ret st := fin_g [0, 1, i] h hn3 rfl hl
end
noncomputable def shB (x : DLab) (n : Nat) : Bool := if x.k = 1 then decide (x.p.length = 0) && decide (n = 0) else if x.k = 2 then decide (x.p.length = 0) && bareS x.s else bareS x.s
theorem shB_frm {x : DLab} {n : Nat} (h : kndD x.k) : shB x n = true ↔ frmD x n := by
  unfold shB frmD
  rcases h with h | h | h
  · rw [if_pos h]; simp [h]
  · rw [if_neg (by omega), if_pos h]; simp [h]
  · rw [if_neg (by omega), if_neg (by omega)]; simp [h]
theorem shaped_row (d : DLab) (l : List DT) (hs : d.s.t.size ≤ 1000000) : Row Try.prog 57 [vD (.mk d l)] [] (vB (shB d l.length)) [] := by
  obtain ⟨k, p, s⟩ := d
  have hz := iszero_row s hs
  unfold shB
  dsimp only
  obtain ⟨c, hc⟩ : ∃ c, bareS s = c := ⟨_, rfl⟩
  rw [hc] at hz ⊢
  obtain ⟨r, b, sp, sn, ⟨x, tl⟩⟩ := s
  clear hc hs
  by_cases h1 : k = 1
  · rw [if_pos h1]
    by_cases h2 : p.length = 0; rotate_left
    · have h2' : ¬ p = [] := fun h => h2 (by rw [h]; rfl)
      rw [decide_eq_false h2]
      refine row_of Try.func57 rfl rfl (Nat.le_of_ble_eq_true rfl) ?_
      repeat (first | refine aw_seq ?_ | refine aw_skip ?_ | refine aw_block ?_ | refine aw_exit ?_ | refine aw_ct rfl ?_ | refine aw_cf rfl ?_ | ((first | refine aw_reg (fun K hK => ?_) | refine aw_drw mixd (fun K hK => ?_) | fail); simp -implicitDefEqProofs [h1, h2, h2']; first | refine hK _ ?_ | refine hK _ _ (by rfl) ?_ | fail) | fail)
      refine aw_ret (fin_ret ?_); simp -implicitDefEqProofs [FinP, resV, resT] <;> try rfl
    rw [decide_eq_true h2]
    obtain rfl := List.length_eq_zero_iff.1 h2
    by_cases h3 : l.length = 0; rotate_left
    · have h3' : ¬ l = [] := fun h => h3 (by rw [h]; rfl)
      rw [decide_eq_false h3]
      refine row_of Try.func57 rfl rfl (Nat.le_of_ble_eq_true rfl) ?_
      repeat (first | refine aw_seq ?_ | refine aw_skip ?_ | refine aw_block ?_ | refine aw_exit ?_ | refine aw_ct rfl ?_ | refine aw_cf rfl ?_ | ((first | refine aw_reg (fun K hK => ?_) | refine aw_drw mixd (fun K hK => ?_) | fail); simp -implicitDefEqProofs [h1, h3, h3']; first | refine hK _ ?_ | refine hK _ _ (by rfl) ?_ | fail) | fail)
      refine aw_ret (fin_ret ?_); simp -implicitDefEqProofs [FinP, resV, resT] <;> try rfl
    rw [decide_eq_true h3]
    obtain rfl := List.length_eq_zero_iff.1 h3
    refine row_of Try.func57 rfl rfl (Nat.le_of_ble_eq_true rfl) ?_
    repeat (first | refine aw_seq ?_ | refine aw_skip ?_ | refine aw_block ?_ | refine aw_exit ?_ | refine aw_ct rfl ?_ | refine aw_cf rfl ?_ | ((first | refine aw_reg (fun K hK => ?_) | refine aw_drw mixd (fun K hK => ?_) | fail); simp -implicitDefEqProofs [h1]; first | refine hK _ ?_ | refine hK _ _ (by rfl) ?_ | fail) | fail)
    refine aw_ret (fin_ret ?_); simp -implicitDefEqProofs [FinP, resV, resT] <;> try rfl
  rw [if_neg h1]
  by_cases h2 : k = 2
  · rw [if_pos h2]
    by_cases h3 : p.length = 0; rotate_left
    · have h3' : ¬ p = [] := fun h => h3 (by rw [h]; rfl)
      rw [decide_eq_false h3]
      refine row_of Try.func57 rfl rfl (Nat.le_of_ble_eq_true rfl) ?_
      repeat (first | refine aw_seq ?_ | refine aw_skip ?_ | refine aw_block ?_ | refine aw_exit ?_ | refine aw_ct rfl ?_ | refine aw_cf rfl ?_ | ((first | refine aw_reg (fun K hK => ?_) | refine aw_drw mixd (fun K hK => ?_) | fail); simp -implicitDefEqProofs [h1, h2, h3, h3']; first | refine hK _ ?_ | refine hK _ _ (by rfl) ?_ | fail) | fail)
      refine aw_ret (fin_ret ?_); simp -implicitDefEqProofs [FinP, resV, resT] <;> try rfl
    rw [decide_eq_true h3]
    obtain rfl := List.length_eq_zero_iff.1 h3
    refine row_of Try.func57 rfl rfl (Nat.le_of_ble_eq_true rfl) ?_
    repeat' (first | refine aw_seq ?_ | refine aw_skip ?_ | refine aw_block ?_ | refine aw_exit ?_ | refine aw_ct rfl ?_ | refine aw_cf rfl ?_ | ((first | refine aw_reg (fun K hK => ?_) | refine aw_drw mixd (fun K hK => ?_) | refine ar_call (cp hz ?_) | refine ard_call (dp hz ?_) | fail); simp -implicitDefEqProofs [h1, h2]) | refine hK _ ?_ | refine hK _ _ (by rfl) ?_ | fail)
    refine aw_ret (fin_ret ?_); simp -implicitDefEqProofs [FinP, resV, resT] <;> try rfl
  rw [if_neg h2]
  refine row_of Try.func57 rfl rfl (Nat.le_of_ble_eq_true rfl) ?_
  repeat' (first | refine aw_seq ?_ | refine aw_skip ?_ | refine aw_block ?_ | refine aw_exit ?_ | refine aw_ct rfl ?_ | refine aw_cf rfl ?_ | ((first | refine aw_reg (fun K hK => ?_) | refine aw_drw mixd (fun K hK => ?_) | refine ar_call (cp hz ?_) | refine ard_call (dp hz ?_) | fail); simp -implicitDefEqProofs [h1, h2]) | refine hK _ ?_ | refine hK _ _ (by rfl) ?_ | fail)
  refine aw_ret (fin_ret ?_); simp -implicitDefEqProofs [FinP, resV, resT] <;> try rfl
noncomputable def stW (s : SLab) : List Int := smW s.r ++ ((if s.b = true then 1 else 0) :: (lW s.p (smE s.r) ++ (lW s.n (if smE s.r = 0 then lEr s.p else smE s.r) ++ (if fstE [smE s.r, lEr s.p, lEr s.n] = 0 then wrT s.t 0 else []))))
theorem fst3 (a b c : Int) : fstE [a, b, c] = if (if a = 0 then b else a) = 0 then c else (if a = 0 then b else a) := by
  unfold fstE fstE fstE fstE
  by_cases ha : a = 0
  · rw [if_pos ha, if_pos ha]
    by_cases hb : b = 0
    · rw [if_pos hb, if_pos hb]
      by_cases hc : c = 0
      · rw [if_pos hc]; exact hc.symm
      · rw [if_neg hc]
    · rw [if_neg hb, if_neg hb]
  · rw [if_neg ha, if_neg ha, if_neg ha]
theorem fst4 (a b c d : Int) : fstE [a, b, c, d] = if fstE [a, b, c] = 0 then d else fstE [a, b, c] := fst_snoc d [a, b, c]
theorem stW_len {x : DLab} (h : smD x) : (stW x.s).length ≤ 10500 := by
  obtain ⟨h0, h1, h2, h3⟩ := h
  have a := smW_len x.s.r
  have b := lW_len x.s.p (smE x.s.r)
  have c := lW_len x.s.n (if smE x.s.r = 0 then lEr x.s.p else smE x.s.r)
  have d := wr_len x.s.t 0
  have d' : (if fstE [smE x.s.r, lEr x.s.p, lEr x.s.n] = 0 then wrT x.s.t 0 else []).length ≤ 21 * x.s.t.size := by
    split
    · exact d
    · simp
  unfold stW
  simp only [List.length_append, List.length_cons]
  omega
theorem stW_ok {s : SLab} (h : sEr s = 0) : stW s = sE s := by
  obtain ⟨h1, h2, h3, h4⟩ := sEr_ok h
  have e1 : smE s.r = 0 := by unfold smE; rw [if_neg (by omega)]
  have e2 : (if smE s.r = 0 then lEr s.p else smE s.r) = 0 := by rw [if_pos e1]; exact h2
  have e3 : fstE [smE s.r, lEr s.p, lEr s.n] = 0 := by rw [fst3, e2, if_pos rfl]; exact h3
  unfold stW sE
  rw [e2, if_pos e3, e1, lW_ok h2, lW_ok h3, wr_ok s.t 0 (by simpa using h4)]
  congr 1
  unfold smW
  rw [if_pos e1]
theorem wstep_row (dv : Int) (B : List Int) (x : DLab) (hx : x.ok) (hs : smD x) (hB : B.length + 10500 ≤ 90000000) : Row Try.prog 58 [vW0, vSt36 x.s] [bxC 1 0 dv B 0, rwC] (.tup []) [some (bxC 2 0 dv (B ++ stW x.s) (sEr x.s)), none, some rwC] := by
  obtain ⟨-, -, -, -, -, hti⟩ := hx
  obtain ⟨-, s1, s2, s3⟩ := hs
  obtain ⟨k0, p0, s⟩ := x
  dsimp only at hti s1 s2 s3 ⊢
  obtain ⟨r, b, p, n, t⟩ := s
  dsimp only at hti s1 s2 s3
  unfold stW sEr
  dsimp only
  have hsm := wsmall_row 0 dv B 0 r (by omega)
  rw [if_pos rfl] at hsm
  have a1 := smW_len r
  rw [fst4, fst3]
  obtain ⟨e1, he1⟩ : ∃ e1, smE r = e1 := ⟨_, rfl⟩
  rw [he1] at hsm ⊢
  obtain ⟨B1, h1⟩ : ∃ B1, B ++ smW r = B1 := ⟨_, rfl⟩
  have l1 : B1.length ≤ B.length + 10 := by rw [← h1, List.length_append]; omega
  obtain ⟨z, hz⟩ : ∃ z : Int, (if b = true then (1 : Int) else 0) = z := ⟨_, rfl⟩
  have hby := wbyte_row 0 dv B1 e1 z (by omega)
  obtain ⟨B2, h2⟩ : ∃ B2, B1 ++ [z] = B2 := ⟨_, rfl⟩
  have l2 : B2.length ≤ B.length + 11 := by rw [← h2, List.length_append]; simp; omega
  have hp := wints_row 0 dv B2 e1 p (by omega) (by omega)
  have a3 := lW_len p e1
  obtain ⟨e2, he2⟩ : ∃ e2, (if e1 = 0 then lEr p else e1) = e2 := ⟨_, rfl⟩
  obtain ⟨B3, h3⟩ : ∃ B3, B2 ++ lW p e1 = B3 := ⟨_, rfl⟩
  have l3 : B3.length ≤ B.length + 1021 := by rw [← h3, List.length_append]; omega
  have hn := wints_row 0 dv B3 e2 n (by omega) (by omega)
  have a4 := lW_len n e2
  obtain ⟨e3, he3⟩ : ∃ e3, (if e2 = 0 then lEr n else e2) = e3 := ⟨_, rfl⟩
  obtain ⟨B4, h4⟩ : ∃ B4, B3 ++ lW n e2 = B4 := ⟨_, rfl⟩
  have l4 : B4.length ≤ B.length + 2031 := by rw [← h4, List.length_append]; omega
  rw [h1] at hsm
  rw [h2] at hby
  rw [he2, h3] at hp
  rw [he3, h4] at hn
  rw [he2, he3, hz]
  have hw : B ++ (smW r ++ (z :: (lW p e1 ++ (lW n e2 ++ (if e3 = 0 then wrT t 0 else []))))) = B4 ++ (if e3 = 0 then wrT t 0 else []) := by
    rw [← h4, ← h3, ← h2, ← h1]
    simp only [List.append_assoc, List.cons_append, List.nil_append]
  rw [hw]
  have ht := fun h0 : e3 = 0 => wterm_row t hti (by omega) dv 0 (by omega) (by omega) B4 (by omega)
  clear hw h1 h2 h3 h4 he1 he2 he3 a1 a3 a4
  by_cases g : e3 = 0
  · replace ht := ht g
    rw [if_pos g, if_pos g]
    rw [show (0 : Int) + 1 = 1 by omega] at ht
    subst g
    obtain ⟨B5, h5⟩ : ∃ B5, B4 ++ wrT t 0 = B5 := ⟨_, rfl⟩
    obtain ⟨e5, he5⟩ : ∃ e5, erT t 1 = e5 := ⟨_, rfl⟩
    rw [h5, he5] at ht ⊢
    clear h5 he5
    obtain ⟨y, tl⟩ := t
    cases b
    · rw [if_neg (by decide)] at hz
      subst hz
      refine row_of Try.func58 rfl rfl (Nat.le_of_ble_eq_true rfl) ?_
      repeat' (first | refine aw_seq ?_ | refine aw_skip ?_ | refine aw_block ?_ | refine aw_exit ?_ | refine aw_ct rfl ?_ | refine aw_cf rfl ?_ | ((first | refine aw_reg (fun K hK => ?_) | refine aw_drw mixd (fun K hK => ?_) | refine ar_call (cgK hsm 0 rfl ?_) | refine ard_call (dgK hsm 0 rfl ?_) | refine ar_call (cgK hby 0 rfl ?_) | refine ard_call (dgK hby 0 rfl ?_) | refine ar_call (cgK hp 0 rfl ?_) | refine ard_call (dgK hp 0 rfl ?_) | refine ar_call (cgK hn 0 rfl ?_) | refine ard_call (dgK hn 0 rfl ?_) | refine ar_call (cgK ht 0 rfl ?_) | refine ard_call (dgK ht 0 rfl ?_) | fail); simp -implicitDefEqProofs) | refine hK _ ?_ | refine hK _ _ (by rfl) ?_ | fail)
      refine fin_fall (fin_k rfl ?_); simp -implicitDefEqProofs [FinG, resV, resT] <;> try rfl
    · rw [if_pos rfl] at hz
      subst hz
      refine row_of Try.func58 rfl rfl (Nat.le_of_ble_eq_true rfl) ?_
      repeat' (first | refine aw_seq ?_ | refine aw_skip ?_ | refine aw_block ?_ | refine aw_exit ?_ | refine aw_ct rfl ?_ | refine aw_cf rfl ?_ | ((first | refine aw_reg (fun K hK => ?_) | refine aw_drw mixd (fun K hK => ?_) | refine ar_call (cgK hsm 0 rfl ?_) | refine ard_call (dgK hsm 0 rfl ?_) | refine ar_call (cgK hby 0 rfl ?_) | refine ard_call (dgK hby 0 rfl ?_) | refine ar_call (cgK hp 0 rfl ?_) | refine ard_call (dgK hp 0 rfl ?_) | refine ar_call (cgK hn 0 rfl ?_) | refine ard_call (dgK hn 0 rfl ?_) | refine ar_call (cgK ht 0 rfl ?_) | refine ard_call (dgK ht 0 rfl ?_) | fail); simp -implicitDefEqProofs) | refine hK _ ?_ | refine hK _ _ (by rfl) ?_ | fail)
      refine fin_fall (fin_k rfl ?_); simp -implicitDefEqProofs [FinG, resV, resT] <;> try rfl
  · rw [if_neg g, if_neg g, List.append_nil]
    clear ht
    obtain ⟨y, tl⟩ := t
    cases b
    · rw [if_neg (by decide)] at hz
      subst hz
      refine row_of Try.func58 rfl rfl (Nat.le_of_ble_eq_true rfl) ?_
      repeat' (first | refine aw_seq ?_ | refine aw_skip ?_ | refine aw_block ?_ | refine aw_exit ?_ | refine aw_ct rfl ?_ | refine aw_cf rfl ?_ | ((first | refine aw_reg (fun K hK => ?_) | refine aw_drw mixd (fun K hK => ?_) | refine ar_call (cgK hsm 0 rfl ?_) | refine ard_call (dgK hsm 0 rfl ?_) | refine ar_call (cgK hby 0 rfl ?_) | refine ard_call (dgK hby 0 rfl ?_) | refine ar_call (cgK hp 0 rfl ?_) | refine ard_call (dgK hp 0 rfl ?_) | refine ar_call (cgK hn 0 rfl ?_) | refine ard_call (dgK hn 0 rfl ?_) | fail); simp -implicitDefEqProofs [g]) | refine hK _ ?_ | refine hK _ _ (by rfl) ?_ | fail)
      refine fin_fall (fin_k rfl ?_); simp -implicitDefEqProofs [FinG, resV, resT] <;> try rfl
    · rw [if_pos rfl] at hz
      subst hz
      refine row_of Try.func58 rfl rfl (Nat.le_of_ble_eq_true rfl) ?_
      repeat' (first | refine aw_seq ?_ | refine aw_skip ?_ | refine aw_block ?_ | refine aw_exit ?_ | refine aw_ct rfl ?_ | refine aw_cf rfl ?_ | ((first | refine aw_reg (fun K hK => ?_) | refine aw_drw mixd (fun K hK => ?_) | refine ar_call (cgK hsm 0 rfl ?_) | refine ard_call (dgK hsm 0 rfl ?_) | refine ar_call (cgK hby 0 rfl ?_) | refine ard_call (dgK hby 0 rfl ?_) | refine ar_call (cgK hp 0 rfl ?_) | refine ard_call (dgK hp 0 rfl ?_) | refine ar_call (cgK hn 0 rfl ?_) | refine ard_call (dgK hn 0 rfl ?_) | fail); simp -implicitDefEqProofs [g]) | refine hK _ ?_ | refine hK _ _ (by rfl) ?_ | fail)
      refine fin_fall (fin_k rfl ?_); simp -implicitDefEqProofs [FinG, resV, resT] <;> try rfl
end Go.Proofs.Ytcjagcfjpfjanaa.am
end
section
namespace Go.Proofs.Ytcjagcfjpfjanaa.am
open Go.ChangeShapes Go.WideShapes Go.ChangeAt Go.RowKit
open vt
set_option linter.unusedVariables false
set_option linter.unusedSimpArgs false
def pEr (x : DLab) : Int := if x.k = 3 then lEr x.p else 0
noncomputable def wrD (d : DT) : Int → List Int := Tr.fold (fun x l fs dv => if 64 ≤ dv then [] else (if kndD x.k then [x.k] else []) ++ (if kndD x.k ∧ frmD x l.length then (if x.k = 1 then stW x.s else (if x.k = 3 then lW x.p 0 else []) ++ (vs.enc (l.length : Nat) ++ (if pEr x = 0 then seqW ((l.zip fs).map fun p => (p.2 (dv + 1), dEr p.1 (dv + 2))) else []))) else [])) d
theorem wrD_mk (x : DLab) (l : List DT) (dv : Int) : wrD (.mk x l) dv = if 64 ≤ dv then [] else (if kndD x.k then [x.k] else []) ++ (if kndD x.k ∧ frmD x l.length then (if x.k = 1 then stW x.s else (if x.k = 3 then lW x.p 0 else []) ++ (vs.enc (l.length : Nat) ++ (if pEr x = 0 then seqW (l.map fun y => (wrD y (dv + 1), dEr y (dv + 2))) else []))) else []) := by
  have e : ∀ l : List DT, ((l.zip (l.map fun y => wrD y)).map fun p => (p.2 (dv + 1), dEr p.1 (dv + 2))) = l.map fun y => (wrD y (dv + 1), dEr y (dv + 2)) := fun l => by
    induction l with
    | nil => rfl
    | cons y l ih => simp only [List.map_cons, List.zip_cons_cons, ih]
  rw [← e l]
  unfold wrD
  rw [Tr.fold_mk]
theorem wrD_len (d : DT) : Tr.all smD d → ∀ dv, (wrD d dv).length ≤ 12000 * d.size := by
  induction d using Tr.ind with
  | h x l ih =>
  intro hs dv
  obtain ⟨hx, hl⟩ := (Tr.all_mk _ _ _).1 hs
  rw [wrD_mk, Tr.size_mk]
  have h1 := stW_len hx
  have h2 := lW_len x.p 0
  have h3 := (enc_ln (l.length : Nat)).2
  have h0 := hx.1
  have h5 := seq_len (l.map fun y => (wrD y (dv + 1), dEr y (dv + 2))) (l.map fun y => 12000 * y.size) (by simp) (fun i p n hp hn => by
    rw [List.getElem?_map] at hp hn
    obtain ⟨y, hy, rfl⟩ := Option.map_eq_some_iff.1 hp
    rw [hy] at hn
    obtain rfl := Option.some.inj hn
    exact ih y (List.mem_of_getElem? hy) (hl y (List.mem_of_getElem? hy)) (dv + 1))
  have h4 : (l.map fun y => 12000 * y.size).sum = 12000 * (l.map Tr.size).sum := by
    clear h3 h5 ih hs hl
    induction l with
    | nil => rfl
    | cons y l ih => simp only [List.map_cons, List.sum_cons, ih]; omega
  have h6 : (if kndD x.k then [x.k] else []).length ≤ 1 := by split <;> simp
  have h7 : (if x.k = 3 then lW x.p 0 else []).length ≤ 1010 := by
    split
    · omega
    · simp
  have h8 : (if pEr x = 0 then seqW (l.map fun y => (wrD y (dv + 1), dEr y (dv + 2))) else []).length ≤ 12000 * (l.map Tr.size).sum := by
    split
    · omega
    · simp
  by_cases g0 : 64 ≤ dv
  · rw [if_pos g0]; simp
  rw [if_neg g0, List.length_append]
  by_cases g1 : kndD x.k ∧ frmD x l.length
  · rw [if_pos g1]
    by_cases g2 : x.k = 1
    · rw [if_pos g2]; omega
    · rw [if_neg g2]; simp only [List.length_append]; omega
  · rw [if_neg g1]; simp only [List.length_nil]; omega
theorem wrD_ok (d : DT) : ∀ dv, dEr d (dv + 1) = 0 → wrD d dv = dE d := by
  induction d using Tr.ind with
  | h x l ih =>
  intro dv h
  obtain ⟨h1, h2, h3, h4, h5, h6⟩ := dEr_ok h
  rw [wrD_mk, dE_mk, if_neg (by omega), if_pos h2, if_pos ⟨h2, h3⟩]
  rw [List.cons_append, List.nil_append]
  refine congrArg (fun L => x.k :: L) ?_
  by_cases hk : x.k = 1
  · rw [if_pos hk, if_pos hk]; exact stW_ok (h4 hk)
  rw [if_neg hk, if_neg hk]
  have hp : pEr x = 0 := by
    unfold pEr
    split
    · rename_i e; exact h5 e
    · rfl
  have h6 : ∀ y ∈ l, dEr y (dv + 2) = 0 := fun y hy => by have := h6 hk y hy; rwa [show dv + 1 + 1 = dv + 2 by omega] at this
  rw [if_pos hp, seq_all (fun p hp => by
    obtain ⟨y, hy, rfl⟩ := List.mem_map.1 hp
    exact h6 y hy), List.map_map]
  have e : (l.map ((·.1) ∘ fun y => (wrD y (dv + 1), dEr y (dv + 2)))) = l.map dE := List.map_congr_left fun y hy => ih y hy (dv + 1) (by rw [show dv + 1 + 1 = dv + 2 by omega]; exact h6 y hy)
  rw [e]
  refine congrArg (fun L => L ++ (vs.enc (l.length : Nat) ++ (l.map dE).flatten)) ?_
  split
  · rename_i e; exact lW_ok (h5 e)
  · rfl
abbrev vW1 : AV := .v (.c (.ptr 0 1))
theorem dleave_rowD (tr dv : Int) (B : List Int) (e : Int) (h0 : -9223372036854775808 ≤ dv - 1) (h1 : dv ≤ 9223372036854775807) : RowD Try.prog 41 [vW1] [bxC 1 tr dv B e, rwC] (.tup []) [some (bxC 1 tr (dv - 1) B e), some rwC] := by
  have w1 : IntKind.i64.wrap (dv - 1) = dv - 1 := i64i _ h0 (by omega)
  refine rowD_of Try.func41 rfl rfl (Nat.le_of_ble_eq_true rfl) ?_
  repeat (first | refine aw_seq ?_ | refine aw_skip ?_ | refine aw_block ?_ | refine aw_exit ?_ | refine aw_ct rfl ?_ | refine aw_cf rfl ?_ | ((first | refine aw_reg (fun K hK => ?_) | refine aw_drw mixd (fun K hK => ?_) | fail); simp -implicitDefEqProofs [w1]; first | refine hK _ ?_ | refine hK _ _ (by rfl) ?_ | fail) | fail)
  refine fin_fall (fin_g [0, 1] ?_); simp -implicitDefEqProofs [FinG, resV, resT] <;> try rfl
theorem denter_row (tr dv : Int) (B : List Int) (h0 : 0 ≤ dv) (h1 : dv ≤ 1000000) : Row Try.prog 42 [vW0, vW1] [bxC 1 tr dv B 0, rwC] (vB (decide (¬ 64 ≤ dv))) [some (bxC 1 tr (dv + 1) B (if 64 ≤ dv then 7 else 0)), some rwC] := by
  have w1 : IntKind.i64.wrap (dv + 1) = dv + 1 := i64i _ (by omega) (by omega)
  have hf := wfail_row tr dv B 0 7
  rw [if_pos rfl] at hf
  by_cases h : 64 ≤ dv
  · rw [if_pos h, decide_eq_false (fun k => k h)]
    refine row_of Try.func42 rfl rfl (Nat.le_of_ble_eq_true rfl) ?_
    repeat' (first | refine aw_seq ?_ | refine aw_skip ?_ | refine aw_block ?_ | refine aw_exit ?_ | refine aw_ct rfl ?_ | refine aw_cf rfl ?_ | ((first | refine aw_reg (fun K hK => ?_) | refine aw_drw mixd (fun K hK => ?_) | refine ar_call (cg hf [0,1] ?_) | refine ard_call (dg hf [0,1] ?_) | fail); simp -implicitDefEqProofs [h, w1]) | refine hK _ ?_ | refine hK _ _ (by rfl) ?_ | fail)
    refine aw_ret (fin_g [0, 1] ?_); simp -implicitDefEqProofs [FinG, resV, resT] <;> try rfl
  · rw [if_neg h, decide_eq_true h]
    refine row_of Try.func42 rfl rfl (Nat.le_of_ble_eq_true rfl) ?_
    repeat (first | refine aw_seq ?_ | refine aw_skip ?_ | refine aw_block ?_ | refine aw_exit ?_ | refine aw_ct rfl ?_ | refine aw_cf rfl ?_ | ((first | refine aw_reg (fun K hK => ?_) | refine aw_drw mixd (fun K hK => ?_) | fail); simp -implicitDefEqProofs [h, w1]; first | refine hK _ ?_ | refine hK _ _ (by rfl) ?_ | fail) | fail)
    refine aw_ret (fin_g [0, 1] ?_); simp -implicitDefEqProofs [FinG, resV, resT] <;> try rfl
theorem rsmall_row (tr dv : Int) (b : List Int) (p q : Nat) (z : Int) (r : List Int) (hb : bs.AllB b) (hl : b.length ≤ 140737488355328) (h0 : 0 ≤ z) (h1 : z ≤ 2147483647) (hp : p ≤ b.length) (h : b.drop p = vs.enc z ++ r) (hq : p + (vs.enc z).length = q) : Row Try.prog 65 [vW0] [bxR tr dv b (p : Nat) 0] (vI z) [some (bxR tr dv b (q : Nat) 0)] := by
  have hn := rnumber_row tr dv b p z r hb hl h0 (by omega) hp h
  rw [show (p : Int) + ((vs.enc z).length : Nat) = (q : Nat) by omega] at hn
  have q1 : ¬ 2147483647 < z := by omega
  have w1 : IntKind.i64.wrap z = z := i64i _ (by omega) (by omega)
  refine row_of Try.func65 rfl rfl (Nat.le_of_ble_eq_true rfl) ?_
  repeat' (first | refine aw_seq ?_ | refine aw_skip ?_ | refine aw_block ?_ | refine aw_exit ?_ | refine aw_ct rfl ?_ | refine aw_cf rfl ?_ | ((first | refine aw_reg (fun K hK => ?_) | refine aw_drw mixd (fun K hK => ?_) | refine ar_call (cg hn [0] ?_) | refine ard_call (dg hn [0] ?_) | fail); simp -implicitDefEqProofs [q1, w1]) | refine hK _ ?_ | refine hK _ _ (by rfl) ?_ | fail)
  refine aw_ret (fin_g [0] ?_); simp -implicitDefEqProofs [FinG, resV, resT] <;> try rfl
abbrev fnRs : AV := .v (.c (.fn (.func 65) [.ptr 0 0] []))
theorem rints36_row (tr dv : Int) (b : List Int) (l : List Int) (hb : bs.AllB b) (hl : b.length ≤ 140737488355328) (hln : l.length ≤ 1000000) (hz : ∀ z ∈ l, 0 ≤ z ∧ z ≤ 2147483647) (p q0 q : Nat) (r : List Int) (hp : p ≤ b.length) (h : b.drop p = vs.enc (l.length : Nat) ++ ((l.map vs.enc).flatten ++ r)) (h0 : p + (vs.enc (l.length : Nat)).length = q0) (hq : q0 + ((l.map vs.enc).flatten).length = q) : Row Try.prog 64 [vW0, fnRs] [bxR tr dv b (p : Nat) 0] (vIs l) [some (bxR tr dv b (q : Nat) 0)] := by
  have hn := rnumber_row tr dv b p (l.length : Nat) _ hb hl (by omega) (by omega) hp h
  have hd0 := drop_on h h0
  have hp0 := drop_le hp h h0
  rw [show (p : Int) + ((vs.enc (l.length : Nat)).length : Nat) = (q0 : Nat) by omega] at hn
  have s0 : q0 + (((l.take 0).map vs.enc).flatten).length = q0 := by simp
  clear h h0 hp
  refine row_of Try.func64 rfl rfl (Nat.le_of_ble_eq_true rfl) ?_
  repeat' (first | refine aw_seq ?_ | refine aw_skip ?_ | refine aw_block ?_ | refine aw_exit ?_ | refine aw_ct rfl ?_ | refine aw_cf rfl ?_ | ((first | refine aw_reg (fun K hK => ?_) | refine aw_drw mixd (fun K hK => ?_) | refine ar_call (cg hn [0] ?_) | refine ard_call (dg hn [0] ?_) | fail); simp -implicitDefEqProofs) | refine hK _ ?_ | refine hK _ _ (by rfl) ?_ | fail)
  refine aw_nil 5 3 1 (by simp) ?_
  simp [St.nil]
  refine aw_lp (ι := Nat) (fun k => mkSt [(0, vW0), (1, fnRs), (5, .v (.c (.row 1 1 ((l.take k).map fun z => [I z])))), (6, vN (l.length : Nat)), (7, vN (k : Nat))] [some (bxR tr dv b ((q0 + (((l.take k).map vs.enc).flatten).length : Nat) : Int) 0), some (.row 3 1)]) (fun k => k ≤ l.length) (fun k => l.length - k) 0 (Nat.zero_le _) (by rw [s0]; exact cov_intro [0, 14] (by simp -implicitDefEqProofs) (by simp -implicitDefEqProofs) (by decide) rfl (by simp)) (fun Z hI k hk => ?_)
  clear s0 hn
  by_cases hkl : k < l.length; rotate_left
  · have : k = l.length := by omega
    subst this
    rw [List.take_length, hq]
    repeat (first | refine aw_seq ?_ | refine aw_skip ?_ | refine aw_block ?_ | refine aw_exit ?_ | refine aw_ct rfl ?_ | refine aw_cf rfl ?_ | ((first | refine aw_reg (fun K hK => ?_) | refine aw_drw mixd (fun K hK => ?_) | fail); simp -implicitDefEqProofs; first | refine hK _ ?_ | refine hK _ _ (by rfl) ?_ | fail) | fail)
    refine aw_ret (fin_g [0] ?_); simp -implicitDefEqProofs [FinG, resV, resT] <;> try rfl
  obtain ⟨a, ha⟩ : ∃ a, l[k]? = some a := ⟨_, List.getElem?_eq_getElem hkl⟩
  have ha' := (List.getElem?_eq_some_iff.1 ha).2
  have w2 : IntKind.u64.wrap ((k : Nat) + 1 : Int) = (k : Nat) + 1 := by rw [vs.u64_wrap]; omega
  have hT : (l.take k).length = k := by rw [List.length_take]; omega
  have hT1 : (l.take (k + 1)).map (fun z => [I z]) = (l.take k).map (fun z => [I z]) ++ [[I a]] := by rw [List.take_add_one, ha]; simp
  have hF1 : ((l.take (k + 1)).map vs.enc).flatten = ((l.take k).map vs.enc).flatten ++ vs.enc a := by rw [List.take_add_one, ha]; simp
  have hsp : (l.map vs.enc).flatten = ((l.take k).map vs.enc).flatten ++ (vs.enc a ++ ((l.drop (k + 1)).map vs.enc).flatten) := by
    conv => lhs; rw [← List.take_append_drop k l, List.drop_eq_getElem_cons hkl, ha']
    simp
  rw [hsp, List.append_assoc, List.append_assoc] at hd0
  obtain ⟨F, hF⟩ : ∃ F, ((l.take k).map vs.enc).flatten = F := ⟨_, rfl⟩
  obtain ⟨T, hTT⟩ : ∃ T, l.take k = T := ⟨_, rfl⟩
  rw [hF] at hd0 hF1 ⊢
  rw [hTT] at hT hT1 ⊢
  obtain ⟨q1, hq1⟩ : ∃ q1, q0 + F.length = q1 := ⟨_, rfl⟩
  have hd1 := drop_on hd0 hq1
  have hp1 := drop_le hp0 hd0 hq1
  obtain ⟨q2, hq2⟩ : ∃ q2, q1 + (vs.enc a).length = q2 := ⟨_, rfl⟩
  have haz := hz a (List.mem_of_getElem? ha)
  have hr := rsmall_row tr dv b q1 q2 a _ hb hl haz.1 haz.2 hp1 hd1 hq2
  have hq3 : q0 + (((l.take (k + 1)).map vs.enc).flatten).length = q2 := by rw [hF1, List.length_append]; omega
  rw [hq1]
  have g1 : (k + 1) * 8 ≤ 140737488355328 := by omega
  have g2 : k ≤ 140737488355327 := by omega
  clear hz hd0 hd1 hF1 hF hTT hsp hq
  repeat' (first | refine aw_seq ?_ | refine aw_skip ?_ | refine aw_block ?_ | refine aw_exit ?_ | refine aw_ct rfl ?_ | refine aw_cf rfl ?_ | ((first | refine aw_reg (fun K hK => ?_) | refine aw_drw mixd (fun K hK => ?_) | refine ar_call (cg hr [0] ?_) | refine ard_call (dg hr [0] ?_) | fail); simp -implicitDefEqProofs [hkl, w2, hT, g1, g2]) | refine hK _ ?_ | refine hK _ _ (by rfl) ?_ | fail)
  refine ⟨k + 1, by omega, (by dsimp only; omega), ?_⟩
  rw [hI]; simp only [hq3, hT1]; exact cov_intro [0, 23] (by simp -implicitDefEqProofs) (by simp -implicitDefEqProofs) (by decide) rfl (by simp)
theorem rintsE_row (tr dv : Int) (b : List Int) (l : List Int) (hb : bs.AllB b) (hl : b.length ≤ 140737488355328) (hln : l.length ≤ 1000000) (hz : lEr l = 0) (p q : Nat) (r : List Int) (hp : p ≤ b.length) (h : b.drop p = lE l ++ r) (hq : p + (lE l).length = q) : Row Try.prog 64 [vW0, fnRs] [bxR tr dv b (p : Nat) 0] (vIs l) [some (bxR tr dv b (q : Nat) 0)] := by
  unfold lE at h hq
  rw [List.append_assoc] at h
  rw [List.length_append] at hq
  exact rints36_row tr dv b l hb hl hln (lEr_zero hz) p _ q r hp h rfl (by omega)
theorem rstepR_row (dv : Int) (b : List Int) (x : DLab) (hx : x.ok) (hs : smD x) (he : sEr x.s = 0) (hb : bs.AllB b) (hl : b.length ≤ 140737488355328) (p q : Nat) (r : List Int) (hp : p ≤ b.length) (h : b.drop p = sE x.s ++ r) (hq : p + (sE x.s).length = q) : Row Try.prog 62 [vW0] [bxR 0 dv b (p : Nat) 0] (vSt36 x.s) [some (bxR 0 dv b (q : Nat) 0)] := by
  obtain ⟨-, -, -, -, -, hti⟩ := hx
  obtain ⟨-, s1, s2, s3⟩ := hs
  obtain ⟨h1, h2, h3, h4⟩ := sEr_ok he
  obtain ⟨k0, p0, s⟩ := x
  obtain ⟨sr, sb, sp, sn, t⟩ := s
  dsimp only at hti s1 s2 s3 h1 h2 h3 h4 ⊢
  unfold sE at h hq
  dsimp only at h hq
  obtain ⟨z, hz⟩ : ∃ z : Int, (if sb = true then (1 : Int) else 0) = z := ⟨_, rfl⟩
  rw [hz] at h hq
  simp only [List.length_append, List.length_cons] at hq
  have h : b.drop p = vs.enc sr ++ ([z] ++ (lE sp ++ (lE sn ++ (tE t ++ r)))) := by rw [h]; simp only [List.append_assoc, List.cons_append, List.nil_append]
  obtain ⟨p1, e1⟩ : ∃ p1, p + (vs.enc sr).length = p1 := ⟨_, rfl⟩
  have r1 := rsmall_row 0 dv b p p1 sr _ hb hl h1.1 h1.2 hp h e1
  have d1 := drop_on h e1
  have l1 := drop_le hp h e1
  have hpb : b[p1]? = some z := by
    have := congrArg (fun L => L[0]?) d1
    simpa using this
  have r2 := rbyte_row 0 dv b p1 z hb hl hpb
  rw [show (p1 : Int) + 1 = ((p1 + 1 : Nat) : Int) by omega] at r2
  obtain ⟨p2, e2⟩ : ∃ p2, p1 + 1 = p2 := ⟨_, rfl⟩
  rw [e2] at r2
  have d2 := drop_on (x := [z]) d1 e2
  have l2 := drop_le (x := [z]) l1 d1 e2
  obtain ⟨p3, e3⟩ : ∃ p3, p2 + (lE sp).length = p3 := ⟨_, rfl⟩
  have r3 := rintsE_row 0 dv b sp hb hl (by omega) h2 p2 p3 _ l2 d2 e3
  have d3 := drop_on d2 e3
  have l3 := drop_le l2 d2 e3
  obtain ⟨p4, e4⟩ : ∃ p4, p3 + (lE sn).length = p4 := ⟨_, rfl⟩
  have r4 := rintsE_row 0 dv b sn hb hl (by omega) h3 p3 p4 _ l3 d3 e4
  have d4 := drop_on d3 e4
  have l4 := drop_le l3 d3 e4
  have r5 := rterm36_row b hb hl t hti (by omega) dv 0 (by omega) (by simpa using h4) p4 q r l4 d4 (by omega)
  clear hq h d1 d2 d3 d4 l1 l2 l3 l4 e1 e2 e3 e4 hpb hti s1 s2 s3 h1 h2 h3 h4 he
  obtain ⟨y, tl⟩ := t
  cases sb
  · rw [if_neg (by decide)] at hz
    subst hz
    refine row_of Try.func62 rfl rfl (Nat.le_of_ble_eq_true rfl) ?_
    repeat' (first | refine aw_seq ?_ | refine aw_skip ?_ | refine aw_block ?_ | refine aw_exit ?_ | refine aw_ct rfl ?_ | refine aw_cf rfl ?_ | ((first | refine aw_reg (fun K hK => ?_) | refine aw_drw mixd (fun K hK => ?_) | refine ar_call (cg r1 [0] ?_) | refine ard_call (dg r1 [0] ?_) | refine ar_call (cg r2 [0] ?_) | refine ard_call (dg r2 [0] ?_) | refine ar_call (cg r3 [0] ?_) | refine ard_call (dg r3 [0] ?_) | refine ar_call (cg r4 [0] ?_) | refine ard_call (dg r4 [0] ?_) | refine ar_call (cg r5 [0] ?_) | refine ard_call (dg r5 [0] ?_) | fail); simp -implicitDefEqProofs) | refine hK _ ?_ | refine hK _ _ (by rfl) ?_ | fail)
    refine aw_ret (fin_g [0] ?_); simp -implicitDefEqProofs [FinG, resV, resT] <;> try rfl
  · rw [if_pos rfl] at hz
    subst hz
    refine row_of Try.func62 rfl rfl (Nat.le_of_ble_eq_true rfl) ?_
    repeat' (first | refine aw_seq ?_ | refine aw_skip ?_ | refine aw_block ?_ | refine aw_exit ?_ | refine aw_ct rfl ?_ | refine aw_cf rfl ?_ | ((first | refine aw_reg (fun K hK => ?_) | refine aw_drw mixd (fun K hK => ?_) | refine ar_call (cg r1 [0] ?_) | refine ard_call (dg r1 [0] ?_) | refine ar_call (cg r2 [0] ?_) | refine ard_call (dg r2 [0] ?_) | refine ar_call (cg r3 [0] ?_) | refine ard_call (dg r3 [0] ?_) | refine ar_call (cg r4 [0] ?_) | refine ard_call (dg r4 [0] ?_) | refine ar_call (cg r5 [0] ?_) | refine ard_call (dg r5 [0] ?_) | fail); simp -implicitDefEqProofs) | refine hK _ ?_ | refine hK _ _ (by rfl) ?_ | fail)
    refine aw_ret (fin_g [0] ?_); simp -implicitDefEqProofs [FinG, resV, resT] <;> try rfl
abbrev fnRd : AV := .v (.c (.fn (.func 34) [.ptr 0 0] []))
def RddOk (b : List Int) (y : DT) (dv : Int) : Prop := ∀ (p q : Nat) (r : List Int), p ≤ b.length → b.drop p = dE y ++ r → p + (dE y).length = q → Row Try.prog 34 [vW0] [bxR 0 dv b (p : Nat) 0] (vD y) [some (bxR 0 dv b (q : Nat) 0)]
theorem rders_row (dv : Int) (b : List Int) (l : List DT) (hb : bs.AllB b) (hl : b.length ≤ 140737488355328) (hln : l.length ≤ 1000) (hok : ∀ y ∈ l, RddOk b y dv) (p q0 q : Nat) (r : List Int) (hp : p ≤ b.length) (h : b.drop p = vs.enc (l.length : Nat) ++ ((l.map dE).flatten ++ r)) (h0 : p + (vs.enc (l.length : Nat)).length = q0) (hq : q0 + ((l.map dE).flatten).length = q) : Row Try.prog 63 [vW0, fnRd] [bxR 0 dv b (p : Nat) 0] (vDs l) [some (bxR 0 dv b (q : Nat) 0)] := by
  have hn := rnumber_row 0 dv b p (l.length : Nat) _ hb hl (by omega) (by omega) hp h
  have hd0 := drop_on h h0
  have hp0 := drop_le hp h h0
  rw [show (p : Int) + ((vs.enc (l.length : Nat)).length : Nat) = (q0 : Nat) by omega] at hn
  have s0 : q0 + (((l.take 0).map dE).flatten).length = q0 := by simp
  clear h h0 hp
  refine row_of Try.func63 rfl rfl (Nat.le_of_ble_eq_true rfl) ?_
  repeat' (first | refine aw_seq ?_ | refine aw_skip ?_ | refine aw_block ?_ | refine aw_exit ?_ | refine aw_ct rfl ?_ | refine aw_cf rfl ?_ | ((first | refine aw_reg (fun K hK => ?_) | refine aw_drw mixd (fun K hK => ?_) | refine ar_call (cg hn [0] ?_) | refine ard_call (dg hn [0] ?_) | fail); simp -implicitDefEqProofs) | refine hK _ ?_ | refine hK _ _ (by rfl) ?_ | fail)
  refine aw_nil 5 42 13 (by simp) ?_
  simp [St.nil]
  refine aw_lp (ι := Nat) (fun k => mkSt [(0, vW0), (1, fnRd), (5, .v (.c (.row 1 13 ((l.take k).map dc)))), (6, vN (l.length : Nat)), (7, vN (k : Nat))] [some (bxR 0 dv b ((q0 + (((l.take k).map dE).flatten).length : Nat) : Int) 0), some (.row 42 13)]) (fun k => k ≤ l.length) (fun k => l.length - k) 0 (Nat.zero_le _) (by rw [s0]; exact cov_intro [0, 14] (by simp -implicitDefEqProofs) (by simp -implicitDefEqProofs) (by decide) rfl (by simp)) (fun Z hI k hk => ?_)
  clear s0 hn
  by_cases hkl : k < l.length; rotate_left
  · have : k = l.length := by omega
    subst this
    rw [List.take_length, hq]
    repeat (first | refine aw_seq ?_ | refine aw_skip ?_ | refine aw_block ?_ | refine aw_exit ?_ | refine aw_ct rfl ?_ | refine aw_cf rfl ?_ | ((first | refine aw_reg (fun K hK => ?_) | refine aw_drw mixd (fun K hK => ?_) | fail); simp -implicitDefEqProofs; first | refine hK _ ?_ | refine hK _ _ (by rfl) ?_ | fail) | fail)
    refine aw_ret (fin_g [0] ?_); simp -implicitDefEqProofs [FinG, resV, resT] <;> try rfl
  obtain ⟨a, ha⟩ : ∃ a, l[k]? = some a := ⟨_, List.getElem?_eq_getElem hkl⟩
  have ha' := (List.getElem?_eq_some_iff.1 ha).2
  have w2 : IntKind.u64.wrap ((k : Nat) + 1 : Int) = (k : Nat) + 1 := by rw [vs.u64_wrap]; omega
  have hT : (l.take k).length = k := by rw [List.length_take]; omega
  have hT1 : (l.take (k + 1)).map dc = (l.take k).map dc ++ [dc a] := by rw [List.take_add_one, ha]; simp
  have hF1 := (by rw [List.take_add_one, ha]; simp : ((l.take (k + 1)).map dE).flatten = ((l.take k).map dE).flatten ++ dE a)
  have hsp : (l.map dE).flatten = ((l.take k).map dE).flatten ++ (dE a ++ ((l.drop (k + 1)).map dE).flatten) := by
    conv => lhs; rw [← List.take_append_drop k l, List.drop_eq_getElem_cons hkl, ha']
    simp
  rw [hsp, List.append_assoc, List.append_assoc] at hd0
  obtain ⟨F, hF⟩ : ∃ F, ((l.take k).map dE).flatten = F := ⟨_, rfl⟩
  obtain ⟨T, hTT⟩ : ∃ T, l.take k = T := ⟨_, rfl⟩
  rw [hF] at hd0 hF1 ⊢
  rw [hTT] at hT hT1 ⊢
  obtain ⟨q1, hq1⟩ : ∃ q1, q0 + F.length = q1 := ⟨_, rfl⟩
  have hd1 := drop_on hd0 hq1
  have hp1 := drop_le hp0 hd0 hq1
  obtain ⟨q2, hq2⟩ : ∃ q2, q1 + (dE a).length = q2 := ⟨_, rfl⟩
  have hr := hok a (List.mem_of_getElem? ha) q1 q2 _ hp1 hd1 hq2
  have hq3 : q0 + (((l.take (k + 1)).map dE).flatten).length = q2 := by rw [hF1, List.length_append]; omega
  rw [hq1]
  have g1 : (k + 1) * 192 ≤ 140737488355328 := by omega
  clear hok hd0 hd1 hF1 hF hTT hsp hq
  obtain ⟨⟨ak, ap, ⟨ar, ab, asp, asn, ⟨ax, atl⟩⟩⟩, al⟩ := a
  have g2 : k ≤ 140737488355327 := by omega
  repeat' (first | refine aw_seq ?_ | refine aw_skip ?_ | refine aw_block ?_ | refine aw_exit ?_ | refine aw_ct rfl ?_ | refine aw_cf rfl ?_ | ((first | refine aw_reg (fun K hK => ?_) | refine aw_drw mixd (fun K hK => ?_) | refine ar_call (cg hr [0] ?_) | refine ard_call (dg hr [0] ?_) | fail); simp -implicitDefEqProofs [hkl, w2, hT, g1, g2]) | refine hK _ ?_ | refine hK _ _ (by rfl) ?_ | fail)
  refine ⟨k + 1, by omega, (by dsimp only; omega), ?_⟩
  rw [hI]; simp only [hq3, hT1]; exact cov_intro [0, 23] (by simp -implicitDefEqProofs) (by simp -implicitDefEqProofs) (by decide) rfl (by simp)
end Go.Proofs.Ytcjagcfjpfjanaa.am
end
section
namespace Go.Proofs.Ytcjagcfjpfjanaa.am
open Go.ChangeShapes Go.WideShapes Go.ChangeAt Go.RowKit
open vt
set_option linter.unusedVariables false
set_option linter.unusedSimpArgs false
theorem bare_eq {s : SLab} (h : bareS s = true) : s = ⟨0, false, [], [], zT36⟩ := by
  obtain ⟨r, b, p, n, ⟨⟨xk, xn, xs, xf, xt⟩, l⟩⟩ := s
  unfold bareS at h
  simp only [Bool.and_eq_true, decide_eq_true_eq, Bool.not_eq_true'] at h
  obtain ⟨rfl, rfl, h2, h3, h4⟩ := h
  obtain rfl := List.length_eq_zero_iff.1 h2
  obtain rfl := List.length_eq_zero_iff.1 h3
  rw [show plac (.mk ⟨xk, xn, xs, xf, xt⟩ l) zT36 = _ from eqv_mk pP _ _ l []] at h4
  simp only [Bool.and_eq_true, decide_eq_true_eq, pP] at h4
  obtain ⟨⟨⟨⟨⟨⟨rfl, rfl⟩, rfl⟩, rfl⟩, rfl⟩, h5⟩, -⟩ := h4
  obtain rfl := List.length_eq_zero_iff.1 h5
  rfl
section
variable {P : Program} {N : Nat} {st : St}
theorem finD_rd {g : FuncId} {rs : List ResultVar} {res : AV} {ch' : List (Option AO)} {ex : Exit} {tr dv dv' p e : Int} {b : List Int} {o : AO} (hD : RowD P g [vW1] [bxR tr dv b p e] (.tup []) [some (bxR tr dv' b p e)]) (he : ex = .normal ∨ ex = .ret) (ho : hlk st.hp 0 = some o) (hcov : covO (hlk st.hp) 1 (fun k => [0].getD k 0) ([bxR tr dv b p e].map some) [0])
    (h : FinG P rs res ch' [0] (st.wr (wrs (nmap [0] 1 st.nx) 0 [some (bxR tr dv' b p e)]) 8)) (hl : 1 ≤ ch'.length := by first | decide | (simp; done)) : FinD P N 1 g 0 1 rs res ch' ex st :=
  ⟨he, [vW1], [bxR tr dv b p e], .tup [], [some (bxR tr dv' b p e)], [0], hD, by simp, hcov, by simp, by simp, by simp, ⟨o, ho⟩, fin_g [0] h (by simp) rfl hl⟩
end
theorem rdenter_row (tr dv : Int) (b : List Int) (p : Int) (h0 : 0 ≤ dv) (h1 : dv < 64) : Row Try.prog 49 [vW0, vW1] [bxR tr dv b p 0] (.tup []) [some (bxR tr (dv + 1) b p 0)] := by
  have w1 : IntKind.i64.wrap (dv + 1) = dv + 1 := i64i _ (by omega) (by omega)
  have h : ¬ 64 ≤ dv := by omega
  refine row_of Try.func49 rfl rfl (Nat.le_of_ble_eq_true rfl) ?_
  repeat (first | refine aw_seq ?_ | refine aw_skip ?_ | refine aw_block ?_ | refine aw_exit ?_ | refine aw_ct rfl ?_ | refine aw_cf rfl ?_ | ((first | refine aw_reg (fun K hK => ?_) | refine aw_drw mixd (fun K hK => ?_) | fail); simp -implicitDefEqProofs [h, w1]; first | refine hK _ ?_ | refine hK _ _ (by rfl) ?_ | fail) | fail)
  refine fin_fall (fin_g [0] ?_); simp -implicitDefEqProofs [FinG, resV, resT] <;> try rfl
theorem rdleave_rowD (tr dv : Int) (b : List Int) (p e : Int) (h0 : -9223372036854775808 ≤ dv - 1) (h1 : dv ≤ 9223372036854775807) : RowD Try.prog 41 [vW1] [bxR tr dv b p e] (.tup []) [some (bxR tr (dv - 1) b p e)] := by
  have w1 : IntKind.i64.wrap (dv - 1) = dv - 1 := i64i _ h0 (by omega)
  refine rowD_of Try.func41 rfl rfl (Nat.le_of_ble_eq_true rfl) ?_
  repeat (first | refine aw_seq ?_ | refine aw_skip ?_ | refine aw_block ?_ | refine aw_exit ?_ | refine aw_ct rfl ?_ | refine aw_cf rfl ?_ | ((first | refine aw_reg (fun K hK => ?_) | refine aw_drw mixd (fun K hK => ?_) | fail); simp -implicitDefEqProofs [w1]; first | refine hK _ ?_ | refine hK _ _ (by rfl) ?_ | fail) | fail)
  refine fin_fall (fin_g [0] ?_); simp -implicitDefEqProofs [FinG, resV, resT] <;> try rfl
theorem rdR_step (b : List Int) (hb : bs.AllB b) (hl : b.length ≤ 140737488355328) (x : DLab) (l : List DT) (hx : x.ok) (hs : smD x) (dv : Int) (h0 : 0 ≤ dv) (h64 : dv < 64) (hk : x.k = 1) (hf : frmD x l.length) (he : sEr x.s = 0) : RddOk b (.mk x l) dv := by
  intro p q r hp hd hq
  rw [dE_mk, if_pos hk] at hd hq
  have hd : b.drop p = [x.k] ++ (sE x.s ++ r) := by rw [hd]; simp
  have hpb : b[p]? = some x.k := by
    have := congrArg (fun L => L[0]?) hd
    simpa using this
  have hby := rbyte_row 0 (dv + 1) b p x.k hb hl hpb
  rw [show (p : Int) + 1 = ((p + 1 : Nat) : Int) by omega] at hby
  obtain ⟨p1, e1⟩ : ∃ p1, p + 1 = p1 := ⟨_, rfl⟩
  rw [e1] at hby
  have d1 := drop_on (x := [x.k]) hd e1
  have l1 := drop_le (x := [x.k]) hp hd e1
  have hst := rstepR_row (dv + 1) b x hx hs he hb hl p1 q r l1 d1 (by simp only [List.length_cons] at hq; omega)
  have hen := rdenter_row 0 dv b p h0 h64
  have hD := rdleave_rowD 0 (dv + 1) b q 0 (by omega) (by omega)
  rw [show dv + 1 - 1 = dv by omega] at hD
  have p0 := hf.1 (by omega)
  have l0 := hf.2.1 hk
  clear hd hq d1 hpb hx hs he hf
  obtain ⟨ak, ap, ⟨ar, ab, asp, asn, ⟨ax, atl⟩⟩⟩ := x
  dsimp only at hk p0 hby hst
  subst hk
  obtain rfl := List.length_eq_zero_iff.1 p0
  obtain rfl := List.length_eq_zero_iff.1 l0
  refine row_of_d Try.func34 rfl rfl (Nat.le_of_ble_eq_true rfl) ?_
  refine awd_seq ?_
  refine aw_reg (fun K hK => ?_); simp -implicitDefEqProofs; refine hK _ ?_
  refine ⟨rfl, ?_⟩
  refine awd_seq ?_
  repeat' (first | refine aw_seq ?_ | refine aw_skip ?_ | refine aw_block ?_ | refine aw_exit ?_ | refine aw_ct rfl ?_ | refine aw_cf rfl ?_ | ((first | refine aw_reg (fun K hK => ?_) | refine aw_drw mixd (fun K hK => ?_) | refine ar_call (cg hen [0] ?_) | refine ard_call (dg hen [0] ?_) | fail); simp -implicitDefEqProofs) | refine hK _ ?_ | refine hK _ _ (by rfl) ?_ | fail)
  refine ⟨rfl, ?_⟩
  refine awd_defer rfl ?_
  simp -implicitDefEqProofs
  first | refine ⟨0, by decide, 1, ⟨rfl, rfl⟩, ?_⟩ | skip
  repeat' (first | refine aw_seq ?_ | refine aw_skip ?_ | refine aw_block ?_ | refine aw_exit ?_ | refine aw_ct rfl ?_ | refine aw_cf rfl ?_ | ((first | refine aw_reg (fun K hK => ?_) | refine aw_drw mixd (fun K hK => ?_) | refine ar_call (cg hby [0] ?_) | refine ard_call (dg hby [0] ?_) | refine ar_call (cg hst [0] ?_) | refine ard_call (dg hst [0] ?_) | fail); simp -implicitDefEqProofs) | refine hK _ ?_ | refine hK _ _ (by rfl) ?_ | fail)
  refine aw_ret (finD_rd (N := 0) hD (.inr rfl) rfl ?_ ?_)
  · simp
  · simp -implicitDefEqProofs [FinG, resV, resT]
end Go.Proofs.Ytcjagcfjpfjanaa.am
end
section
namespace Go.Proofs.Ytcjagcfjpfjanaa.am
open Go.ChangeShapes Go.WideShapes Go.ChangeAt Go.RowKit
open vt
set_option linter.unusedVariables false
set_option linter.unusedSimpArgs false
theorem rbegin_row (b : List Int) (p : Nat) (hp : p ≤ b.length) : Row Try.prog 27 [vBy b, vI (p : Nat)] [] (.tup [.c (.ptr 0 0), .c (.pv (I 0))]) [some (bxR 0 0 b (p : Nat) 0)] := by
  have h1 : ¬ (b.length : Int) < p := by omega
  have h2 : ¬ (p : Int) < 0 := by omega
  have h3 : ¬ b.length < p := by omega
  refine row_of Try.func27 rfl rfl (Nat.le_of_ble_eq_true rfl) ?_
  repeat (first | refine aw_seq ?_ | refine aw_skip ?_ | refine aw_block ?_ | refine aw_exit ?_ | refine aw_ct rfl ?_ | refine aw_cf rfl ?_ | ((first | refine aw_reg (fun K hK => ?_) | refine aw_drw mixd (fun K hK => ?_) | fail); simp -implicitDefEqProofs [iC_len, h1, h2, h3]; first | refine hK _ ?_ | refine hK _ _ (by rfl) ?_ | fail) | fail)
  refine aw_ret (fin_g [13] ?_); simp -implicitDefEqProofs [FinG, resV, resT] <;> try rfl
theorem bsame_row (B : List Int) (hl : B.length ≤ 140737488355328) : Row Try.prog 10 [vBy B, vBy B] [] (vB true) [] := by
  refine row_of Try.func10 rfl rfl (Nat.le_of_ble_eq_true rfl) ?_
  repeat (first | refine aw_seq ?_ | refine aw_skip ?_ | refine aw_block ?_ | refine aw_exit ?_ | refine aw_ct rfl ?_ | refine aw_cf rfl ?_ | ((first | refine aw_reg (fun K hK => ?_) | refine aw_drw mixd (fun K hK => ?_) | fail); simp -implicitDefEqProofs; first | refine hK _ ?_ | refine hK _ _ (by rfl) ?_ | fail) | fail)
  refine aw_lp (ι := Nat) (fun k => mkSt [(0, vBy B), (1, vBy B), (5, vI (k : Nat))] []) (fun k => k ≤ B.length) (fun k => B.length - k) 0 (Nat.zero_le _) (cov_intro [] (by simp -implicitDefEqProofs) (by simp -implicitDefEqProofs) (by decide) rfl (by simp)) (fun Z hI k hk => ?_)
  by_cases hkl : k < B.length; rotate_left
  · have : k = B.length := by omega
    subst this
    repeat (first | refine aw_seq ?_ | refine aw_skip ?_ | refine aw_block ?_ | refine aw_exit ?_ | refine aw_ct rfl ?_ | refine aw_cf rfl ?_ | ((first | refine aw_reg (fun K hK => ?_) | refine aw_drw mixd (fun K hK => ?_) | fail); simp -implicitDefEqProofs [iC_len]; first | refine hK _ ?_ | refine hK _ _ (by rfl) ?_ | fail) | fail)
    refine aw_ret (fin_ret ?_); simp -implicitDefEqProofs [FinP, resV, resT] <;> try rfl
  have hzz : (iC B)[k]'(by rw [iC_len]; exact hkl) = [PV.lit (.int .u8 B[k])] := by unfold iC; simp
  have w2 : IntKind.i64.wrap ((k : Nat) + 1 : Int) = (k : Nat) + 1 := i64i _ (by omega) (by omega)
  repeat (first | refine aw_seq ?_ | refine aw_skip ?_ | refine aw_block ?_ | refine aw_exit ?_ | refine aw_ct rfl ?_ | refine aw_cf rfl ?_ | ((first | refine aw_reg (fun K hK => ?_) | refine aw_drw mixd (fun K hK => ?_) | fail); simp -implicitDefEqProofs [iC_len, hkl, hzz, w2]; first | refine hK _ ?_ | refine hK _ _ (by rfl) ?_ | fail) | fail)
  refine ⟨k + 1, by omega, (by dsimp only; omega), ?_⟩
  rw [hI]; exact cov_intro [] (by simp -implicitDefEqProofs) (by simp -implicitDefEqProofs) (by decide) rfl (by simp)
theorem rdR_seq (b : List Int) (hb : bs.AllB b) (hl : b.length ≤ 140737488355328) (x : DLab) (l : List DT) (hs : smD x) (dv : Int) (h0 : 0 ≤ dv) (h64 : dv < 64) (hk : x.k = 2) (hf : frmD x l.length) (hln : l.length ≤ 1000) (hpe : x.k = 3 → lEr x.p = 0) (hok : ∀ y ∈ l, RddOk b y (dv + 1)) : RddOk b (.mk x l) dv := by
  intro p q r hp hd hq
  rw [dE_mk, if_neg (by omega), if_neg (by omega)] at hd hq
  have hd : b.drop p = [x.k] ++ (vs.enc (l.length : Nat) ++ ((l.map dE).flatten ++ r)) := by rw [hd]; simp
  have hpb : b[p]? = some x.k := by
    have := congrArg (fun L => L[0]?) hd
    simpa using this
  have hby := rbyte_row 0 (dv + 1) b p x.k hb hl hpb
  rw [show (p : Int) + 1 = ((p + 1 : Nat) : Int) by omega] at hby
  obtain ⟨p1, e1⟩ : ∃ p1, p + 1 = p1 := ⟨_, rfl⟩
  rw [e1] at hby
  have d1 := drop_on (x := [x.k]) hd e1
  have l1 := drop_le (x := [x.k]) hp hd e1
  simp only [List.length_cons, List.length_append, List.length_nil] at hq
  have hls := rders_row (dv + 1) b l hb hl hln hok p1 _ q r l1 d1 rfl (by omega)
  have hen := rdenter_row 0 dv b p h0 h64
  have hD := rdleave_rowD 0 (dv + 1) b q 0 (by omega) (by omega)
  rw [show dv + 1 - 1 = dv by omega] at hD
  have hbe := bare_eq (hf.2.2 (by omega))
  have p0 := hf.1 (by omega)
  clear hd hq d1 hpb hs hf hok hpe
  obtain ⟨ak, ap, s⟩ := x
  dsimp only at hk hbe hby p0
  subst hk hbe
  obtain rfl := List.length_eq_zero_iff.1 p0
  refine row_of_d Try.func34 rfl rfl (Nat.le_of_ble_eq_true rfl) ?_
  refine awd_seq ?_
  refine aw_reg (fun K hK => ?_); simp -implicitDefEqProofs; refine hK _ ?_
  refine ⟨rfl, ?_⟩
  refine awd_seq ?_
  repeat' (first | refine aw_seq ?_ | refine aw_skip ?_ | refine aw_block ?_ | refine aw_exit ?_ | refine aw_ct rfl ?_ | refine aw_cf rfl ?_ | ((first | refine aw_reg (fun K hK => ?_) | refine aw_drw mixd (fun K hK => ?_) | refine ar_call (cg hen [0] ?_) | refine ard_call (dg hen [0] ?_) | fail); simp -implicitDefEqProofs) | refine hK _ ?_ | refine hK _ _ (by rfl) ?_ | fail)
  refine ⟨rfl, ?_⟩
  refine awd_defer rfl ?_
  simp -implicitDefEqProofs
  first | refine ⟨0, by decide, 1, ⟨rfl, rfl⟩, ?_⟩ | skip
  repeat' (first | refine aw_seq ?_ | refine aw_skip ?_ | refine aw_block ?_ | refine aw_exit ?_ | refine aw_ct rfl ?_ | refine aw_cf rfl ?_ | ((first | refine aw_reg (fun K hK => ?_) | refine aw_drw mixd (fun K hK => ?_) | refine ar_call (cg hby [0] ?_) | refine ard_call (dg hby [0] ?_) | refine ar_call (cg hls [0] ?_) | refine ard_call (dg hls [0] ?_) | fail); simp -implicitDefEqProofs) | refine hK _ ?_ | refine hK _ _ (by rfl) ?_ | fail)
  refine aw_ret (finD_rd (N := 0) hD (.inr rfl) rfl ?_ ?_)
  · simp
  · simp -implicitDefEqProofs [FinG, resV, resT]
theorem rdR_at (b : List Int) (hb : bs.AllB b) (hl : b.length ≤ 140737488355328) (x : DLab) (l : List DT) (hs : smD x) (dv : Int) (h0 : 0 ≤ dv) (h64 : dv < 64) (hk : x.k = 3) (hf : frmD x l.length) (hln : l.length ≤ 1000) (hpe : x.k = 3 → lEr x.p = 0) (hok : ∀ y ∈ l, RddOk b y (dv + 1)) : RddOk b (.mk x l) dv := by
  intro p q r hp hd hq
  rw [dE_mk, if_neg (by omega), if_pos hk] at hd hq
  have hd : b.drop p = [x.k] ++ (lE x.p ++ (vs.enc (l.length : Nat) ++ ((l.map dE).flatten ++ r))) := by rw [hd]; simp
  have hpb : b[p]? = some x.k := by
    have := congrArg (fun L => L[0]?) hd
    simpa using this
  have hby := rbyte_row 0 (dv + 1) b p x.k hb hl hpb
  rw [show (p : Int) + 1 = ((p + 1 : Nat) : Int) by omega] at hby
  obtain ⟨p1, e1⟩ : ∃ p1, p + 1 = p1 := ⟨_, rfl⟩
  rw [e1] at hby
  have d1 := drop_on (x := [x.k]) hd e1
  have l1 := drop_le (x := [x.k]) hp hd e1
  simp only [List.length_cons, List.length_append] at hq
  have hin := rintsE_row 0 (dv + 1) b x.p hb hl (by have := hs.1; omega) (hpe hk) p1 _ _ l1 d1 rfl
  obtain ⟨p2, e2⟩ : ∃ p2, p1 + (lE x.p).length = p2 := ⟨_, rfl⟩
  rw [e2] at hin
  have d2 := drop_on d1 e2
  have l2 := drop_le l1 d1 e2
  have hls := rders_row (dv + 1) b l hb hl hln hok p2 _ q r l2 d2 rfl (by omega)
  have hen := rdenter_row 0 dv b p h0 h64
  have hD := rdleave_rowD 0 (dv + 1) b q 0 (by omega) (by omega)
  rw [show dv + 1 - 1 = dv by omega] at hD
  have hbe := bare_eq (hf.2.2 (by omega))
  clear hd hq d1 d2 hpb hs hf hok hpe
  obtain ⟨ak, ap, s⟩ := x
  dsimp only at hk hbe hby hin
  subst hk hbe
  refine row_of_d Try.func34 rfl rfl (Nat.le_of_ble_eq_true rfl) ?_
  refine awd_seq ?_
  refine aw_reg (fun K hK => ?_); simp -implicitDefEqProofs; refine hK _ ?_
  refine ⟨rfl, ?_⟩
  refine awd_seq ?_
  repeat' (first | refine aw_seq ?_ | refine aw_skip ?_ | refine aw_block ?_ | refine aw_exit ?_ | refine aw_ct rfl ?_ | refine aw_cf rfl ?_ | ((first | refine aw_reg (fun K hK => ?_) | refine aw_drw mixd (fun K hK => ?_) | refine ar_call (cg hen [0] ?_) | refine ard_call (dg hen [0] ?_) | fail); simp -implicitDefEqProofs) | refine hK _ ?_ | refine hK _ _ (by rfl) ?_ | fail)
  refine ⟨rfl, ?_⟩
  refine awd_defer rfl ?_
  simp -implicitDefEqProofs
  first | refine ⟨0, by decide, 1, ⟨rfl, rfl⟩, ?_⟩ | skip
  repeat' (first | refine aw_seq ?_ | refine aw_skip ?_ | refine aw_block ?_ | refine aw_exit ?_ | refine aw_ct rfl ?_ | refine aw_cf rfl ?_ | ((first | refine aw_reg (fun K hK => ?_) | refine aw_drw mixd (fun K hK => ?_) | refine ar_call (cg hby [0] ?_) | refine ard_call (dg hby [0] ?_) | refine ar_call (cg hin [0] ?_) | refine ard_call (dg hin [0] ?_) | refine ar_call (cg hls [0] ?_) | refine ard_call (dg hls [0] ?_) | fail); simp -implicitDefEqProofs) | refine hK _ ?_ | refine hK _ _ (by rfl) ?_ | fail)
  refine aw_ret (finD_rd (N := 0) hD (.inr rfl) rfl ?_ ?_)
  · simp
  · simp -implicitDefEqProofs [FinG, resV, resT]
theorem rderivR_row (b : List Int) (hb : bs.AllB b) (hl : b.length ≤ 140737488355328) (d : DT) : dok64 d → Tr.all smD d → d.size ≤ 1000 → ∀ dv : Int, 0 ≤ dv → dEr d (dv + 1) = 0 → RddOk b d dv := by
  induction d using Tr.ind with
  | h x l ih =>
  intro hi hs hsz dv h0 he
  obtain ⟨h1, h2, h3, h4, h5, h6⟩ := dEr_ok he
  obtain ⟨hx, hil⟩ := (Tr.all_mk _ _ _).1 hi
  obtain ⟨sx, sl⟩ := (Tr.all_mk _ _ _).1 hs
  have hlen := Tr.len_size (x := x) (l := l)
  have hok : x.k ≠ 1 → ∀ y ∈ l, RddOk b y (dv + 1) := fun hk y hy => by
    obtain ⟨i, hi⟩ := List.mem_iff_getElem?.1 hy
    have := Tr.size_at (x := x) hi
    exact ih y hy (hil y hy) (sl y hy) (by omega) (dv + 1) (by omega) (h6 hk y hy)
  rcases h2 with h | h | h
  · exact rdR_step b hb hl x l hx sx dv h0 (by omega) h h3 (h4 h)
  · exact rdR_seq b hb hl x l sx dv h0 (by omega) h h3 (by omega) h5 (hok (by omega))
  · exact rdR_at b hb hl x l sx dv h0 (by omega) h h3 (by omega) h5 (hok (by omega))
theorem creadD_row (b : List Int) (hb : bs.AllB b) (hl : b.length ≤ 140737488355328) (d : DT) (hi : dok64 d) (hs : Tr.all smD d) (hsz : d.size ≤ 1000) (he : dEr d 1 = 0) (p q : Nat) (r : List Int) (hp : p ≤ b.length) (hd : b.drop p = dE d ++ r) (hq : p + (dE d).length = q) : Row Try.prog 16 [vBy b, vI (p : Nat)] [] (.tup [.agg (da d), .c (.pv (I (q : Nat))), .c (.pv (I 0))]) [] := by
  have hbg := rbegin_row b p hp
  have ht := rderivR_row b hb hl d hi hs hsz 0 (by omega) he p q r hp hd hq
  clear hd hq hi hs hsz he
  obtain ⟨⟨ak, ap, ⟨ar, ab, asp, asn, ⟨ax, atl⟩⟩⟩, al⟩ := d
  refine row_of Try.func16 rfl rfl (Nat.le_of_ble_eq_true rfl) ?_
  repeat' (first | refine aw_seq ?_ | refine aw_skip ?_ | refine aw_block ?_ | refine aw_exit ?_ | refine aw_ct rfl ?_ | refine aw_cf rfl ?_ | ((first | refine aw_reg (fun K hK => ?_) | refine aw_drw mixd (fun K hK => ?_) | refine ar_call (cg hbg [] ?_) | refine ard_call (dg hbg [] ?_) | refine ar_call (cg ht [5] ?_) | refine ard_call (dg ht [5] ?_) | fail); simp -implicitDefEqProofs) | refine hK _ ?_ | refine hK _ _ (by rfl) ?_ | fail)
  refine aw_ret (fin_ret ?_); simp -implicitDefEqProofs [FinP, resV, resT] <;> try rfl
end Go.Proofs.Ytcjagcfjpfjanaa.am
end
