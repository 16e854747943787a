/-
  Layer 29: a block joined with one in it: the program's, the document's; what the statement says.
-/
import Derived.Test.YtjmjillfclfkgaaFlowRef
import Derived.Test.YtjmjillfclfkgaaVtSize
import Derived.Test.YtjmjillfclfkgaaLibTerm
namespace Go.Proofs.Ytjmjillfclfkgaa.am
open Go.ChangeShapes Go.WideShapes Go.ChangeAt Go.RowKit
open vt
set_option linter.unusedVariables false
set_option linter.unusedSimpArgs false
set_option maxRecDepth 100000 in
set_option maxHeartbeats 4000000 in
theorem broughtB_row (x : Lab) (l : List VT) (hl : l.length ≤ 1000000) : Row Try.prog 37 [vT (.mk x l)] [] (vI (brC l l.length : Nat)) [] := by
  refine row_of Try.func37 rfl rfl (Nat.le_of_ble_eq_true rfl) ?_
  repeat' (first | refine aw_seq ?_ | refine aw_skip ?_ | refine aw_block ?_ | refine aw_exit ?_ | refine aw_cond rfl (fun _ => ?_) (fun hb => absurd hb (by decide)) | refine aw_cond rfl (fun hb => absurd hb (by decide)) (fun _ => ?_) | (refine aw_reg (fun K hK => ?_); simp -implicitDefEqProofs [*]) | (refine aw_drw mixd (fun K hK => ?_); simp -implicitDefEqProofs [*]) | refine hK _ ?_ | refine hK _ _ (by rfl) ?_ | (refine aw_cond rfl (fun hb => ?_) (fun hb => ?_) <;> ((try simp only [decide_eq_true_eq, decide_eq_false_iff_not, Bool.not_eq_true', Bool.not_eq_false', Bool.not_eq_eq_eq_not, Bool.not_true, Bool.not_false, beq_iff_eq, beq_true, beq_false, bne_iff_ne, ne_eq, Decidable.not_not, Bool.and_eq_true, Bool.or_eq_true, Bool.and_eq_false_iff, Bool.or_eq_false_iff] at hb) <;> repeat' (refine Or.elim hb (fun hb => ?_) (fun hb => ?_)))) | (refine gx_split (fun hb => ?_) (fun hb => ?_) <;> ((try simp only [decide_eq_true_eq, decide_eq_false_iff_not, Bool.not_eq_true', Bool.not_eq_false', Bool.not_eq_eq_eq_not, Bool.not_true, Bool.not_false, beq_iff_eq, beq_true, beq_false, bne_iff_ne, ne_eq, Decidable.not_not, Bool.and_eq_true, Bool.or_eq_true, Bool.and_eq_false_iff, Bool.or_eq_false_iff] at hb) <;> repeat' (refine Or.elim hb (fun hb => ?_) (fun hb => ?_))) <;> simp -implicitDefEqProofs [*]) | (refine gxd_split (fun hb => ?_) (fun hb => ?_) <;> ((try simp only [decide_eq_true_eq, decide_eq_false_iff_not, Bool.not_eq_true', Bool.not_eq_false', Bool.not_eq_eq_eq_not, Bool.not_true, Bool.not_false, beq_iff_eq, beq_true, beq_false, bne_iff_ne, ne_eq, Decidable.not_not, Bool.and_eq_true, Bool.or_eq_true, Bool.and_eq_false_iff, Bool.or_eq_false_iff] at hb) <;> repeat' (refine Or.elim hb (fun hb => ?_) (fun hb => ?_))) <;> simp -implicitDefEqProofs [*]) | fail)
  refine aw_lp (ι := Nat) (fun k => mkSt [(1, .v (.c (.ptr 0 0))), (3, vI (brC l k : Nat)), (7, vLs l), (8, vI (l.length : Nat)), (9, vI (k : Nat))] [some (.box (ta (.mk x l)))]) (fun k => k ≤ l.length) (fun k => l.length - k) 0 (Nat.zero_le _) (cov_intro [0] (by simp -implicitDefEqProofs [brC_zero]) (by simp -implicitDefEqProofs [brC_zero]) (by decide) rfl (by simp)) (fun Z hI k hk => ?_)
  by_cases hkl : k < l.length
  · obtain ⟨⟨yx, yl⟩, hy⟩ : ∃ y, l[k]? = some y := ⟨_, List.getElem?_eq_getElem hkl⟩
    have hy' := (List.getElem?_eq_some_iff.1 hy).2
    have hs := brC_succ hy
    have hc := brC_le l k
    have w1 : IntKind.i64.wrap ((brC l k : Nat) + 1 : Int) = (brC l k : Nat) + 1 := i64i _ (by omega) (by omega)
    have w2 : IntKind.i64.wrap ((k : Nat) + 1 : Int) = (k : Nat) + 1 := i64i _ (by omega) (by omega)
    by_cases h20 : yx.k = 20
    · repeat (first | refine aw_seq ?_ | refine aw_skip ?_ | refine aw_block ?_ | refine aw_exit ?_ | refine aw_cond rfl (fun _ => ?_) (fun hb => absurd hb (by decide)) | refine aw_cond rfl (fun hb => absurd hb (by decide)) (fun _ => ?_) | (refine aw_reg (fun K hK => ?_); simp -implicitDefEqProofs [hkl, hy, hy', h20, w1, w2]; refine hK _ ?_) | (refine aw_drw mixd (fun K hK => ?_); simp -implicitDefEqProofs [hkl, hy, hy', h20, w1, w2]; refine hK _ _ (by rfl) ?_) | fail)
      refine ⟨k + 1, by omega, (by dsimp only; omega), ?_⟩; rw [hI]; exact cov_intro [0] (by simp -implicitDefEqProofs [hs, brB, Tr.lab, h20]) (by simp -implicitDefEqProofs [hs, brB, Tr.lab, h20]) (by decide) rfl (by simp)
    by_cases h21 : yx.k = 21
    · repeat (first | refine aw_seq ?_ | refine aw_skip ?_ | refine aw_block ?_ | refine aw_exit ?_ | refine aw_cond rfl (fun _ => ?_) (fun hb => absurd hb (by decide)) | refine aw_cond rfl (fun hb => absurd hb (by decide)) (fun _ => ?_) | (refine aw_reg (fun K hK => ?_); simp -implicitDefEqProofs [hkl, hy, hy', h20, h21, w1, w2]; refine hK _ ?_) | (refine aw_drw mixd (fun K hK => ?_); simp -implicitDefEqProofs [hkl, hy, hy', h20, h21, w1, w2]; refine hK _ _ (by rfl) ?_) | fail)
      refine ⟨k + 1, by omega, (by dsimp only; omega), ?_⟩; rw [hI]; exact cov_intro [0] (by simp -implicitDefEqProofs [hs, brB, Tr.lab, h20, h21]) (by simp -implicitDefEqProofs [hs, brB, Tr.lab, h20, h21]) (by decide) rfl (by simp)
    · repeat (first | refine aw_seq ?_ | refine aw_skip ?_ | refine aw_block ?_ | refine aw_exit ?_ | refine aw_cond rfl (fun _ => ?_) (fun hb => absurd hb (by decide)) | refine aw_cond rfl (fun hb => absurd hb (by decide)) (fun _ => ?_) | (refine aw_reg (fun K hK => ?_); simp -implicitDefEqProofs [hkl, hy, hy', h20, h21, w1, w2]; refine hK _ ?_) | (refine aw_drw mixd (fun K hK => ?_); simp -implicitDefEqProofs [hkl, hy, hy', h20, h21, w1, w2]; refine hK _ _ (by rfl) ?_) | fail)
      refine ⟨k + 1, by omega, (by dsimp only; omega), ?_⟩; rw [hI]; exact cov_intro [0] (by simp -implicitDefEqProofs [hs, brB, Tr.lab, h20, h21]) (by simp -implicitDefEqProofs [hs, brB, Tr.lab, h20, h21]) (by decide) rfl (by simp)
  · have hkj : k = l.length := by omega
    subst hkj
    repeat (first | refine aw_seq ?_ | refine aw_skip ?_ | refine aw_block ?_ | refine aw_exit ?_ | refine aw_cond rfl (fun _ => ?_) (fun hb => absurd hb (by decide)) | refine aw_cond rfl (fun hb => absurd hb (by decide)) (fun _ => ?_) | (refine aw_reg (fun K hK => ?_); simp -implicitDefEqProofs; refine hK _ ?_) | (refine aw_drw mixd (fun K hK => ?_); simp -implicitDefEqProofs; refine hK _ _ (by rfl) ?_) | fail)
    refine aw_ret (fin_ret ?_); simp -implicitDefEqProofs [FinP, resV, resT] <;> try rfl

/-- The parts of the block joined. -/
noncomputable def joined (l m : List VT) (j : Nat) : List VT := l.take j ++ (m ++ kidS (brC m m.length : Nat) 0 ⟨29, 0, ⟨#[]⟩, 0, 0⟩ (l.drop (j + 1)) 0)
noncomputable def flatT (x : Lab) (l : List VT) (i : Int) : VT × Bool :=
  if x.k = 29 ∧ 0 ≤ i ∧ i < l.length then
    match l[i.toNat]? with
    | some (.mk y m) => if y.k = 29 then (nd 29 0 (joined l m i.toNat), true) else (zT, false)
    | none => (zT, false)
  else (zT, false)
theorem sh29 (by' fr : Int) (L : List VT) : sh by' fr (nd 29 0 L) 0 = nd 29 0 (kidS by' fr ⟨29, 0, ⟨#[]⟩, 0, 0⟩ L 0) := by
  rw [sh_mk, if_neg (by decide)]
theorem in64_nd {k n : Int} {l : List VT} (hk : -9223372036854775808 ≤ k ∧ k ≤ 9223372036854775807) (hn : -9223372036854775808 ≤ n ∧ n ≤ 9223372036854775807) (h : ∀ y ∈ l, in64 y) : in64 (nd k n l) :=
  (Tr.all_mk _ _ _).2 ⟨⟨hk, hn, by simp, by simp⟩, h⟩
theorem size_sub {x : Lab} {l : List VT} (k : Int) (n : Int) {m : List VT} (h : (m.map Tr.size).sum ≤ (l.map Tr.size).sum) : Tr.size (nd k n m) ≤ Tr.size (.mk x l) := by
  rw [Tr.size_mk, Tr.size_mk]; omega
theorem sum_drop (l : List VT) (k : Nat) : ((l.drop k).map Tr.size).sum ≤ (l.map Tr.size).sum := by
  conv => rhs; rw [← List.take_append_drop k l]
  rw [List.map_append, List.sum_append]; omega
theorem kidS_sum (by' fr : Int) (x : Lab) (l : List VT) (d : Int) : ((kidS by' fr x l d).map Tr.size).sum = (l.map Tr.size).sum := by
  congr 1
  apply List.ext_getElem?
  intro i
  rw [List.getElem?_map, List.getElem?_map, kidS, List.getElem?_mapIdx]
  cases hi : l[i]? with
  | none => rfl
  | some y => simp [size_sh]
theorem joined_size {x y : Lab} {l m : List VT} {j : Nat} (h : l[j]? = some (.mk y m)) : Tr.size (nd 29 0 (joined l m j)) ≤ Tr.size (.mk x l) := by
  refine size_sub 29 0 ?_
  unfold joined
  have e : l = l.take j ++ (.mk y m :: l.drop (j + 1)) := by
    have hj := (List.getElem?_eq_some_iff.1 h)
    conv => lhs; rw [← List.take_append_drop j l, List.drop_eq_getElem_cons hj.1, hj.2]
  conv => rhs; rw [e]
  simp only [List.map_append, List.sum_append, List.map_cons, List.sum_cons, kidS_sum, Tr.size_mk]
  omega
set_option maxRecDepth 100000 in
set_option maxHeartbeats 4000000 in
theorem flat_row (x : Lab) (l : List VT) (i : Int) (h64 : in64 (.mk x l)) (hsz : Tr.size (.mk x l) ≤ 5000) : Row Try.prog 15 [vT (.mk x l), vI i] [] (vTB (flatT x l i)) [] := by
  have hlen := Tr.len_size (x := x) (l := l)
  by_cases h29 : x.k = 29; rotate_left
  · rw [show flatT x l i = (zT, false) from if_neg (fun h => h29 h.1)]
    refine row_of Try.func15 rfl rfl (Nat.le_of_ble_eq_true rfl) ?_
    repeat (first | refine aw_seq ?_ | refine aw_skip ?_ | refine aw_block ?_ | refine aw_exit ?_ | refine aw_cond rfl (fun _ => ?_) (fun hb => absurd hb (by decide)) | refine aw_cond rfl (fun hb => absurd hb (by decide)) (fun _ => ?_) | (refine aw_reg (fun K hK => ?_); simp -implicitDefEqProofs [h29]; refine hK _ ?_) | (refine aw_drw mixd (fun K hK => ?_); simp -implicitDefEqProofs [h29]; refine hK _ _ (by rfl) ?_) | fail)
    refine aw_ret (fin_ret ?_); simp -implicitDefEqProofs [FinP, resV, resT, zT] <;> try rfl
  by_cases hi0 : i < 0
  · rw [show flatT x l i = (zT, false) from if_neg (fun h => by omega)]
    refine row_of Try.func15 rfl rfl (Nat.le_of_ble_eq_true rfl) ?_
    repeat (first | refine aw_seq ?_ | refine aw_skip ?_ | refine aw_block ?_ | refine aw_exit ?_ | refine aw_cond rfl (fun _ => ?_) (fun hb => absurd hb (by decide)) | refine aw_cond rfl (fun hb => absurd hb (by decide)) (fun _ => ?_) | (refine aw_reg (fun K hK => ?_); simp -implicitDefEqProofs [h29, hi0]; refine hK _ ?_) | (refine aw_drw mixd (fun K hK => ?_); simp -implicitDefEqProofs [h29, hi0]; refine hK _ _ (by rfl) ?_) | fail)
    refine aw_ret (fin_ret ?_); simp -implicitDefEqProofs [FinP, resV, resT, zT] <;> try rfl
  obtain ⟨j, rfl⟩ : ∃ j : Nat, i = j := ⟨i.toNat, by omega⟩
  by_cases hj : l.length ≤ j
  · rw [show flatT x l j = (zT, false) from if_neg (fun h => by omega)]
    refine row_of Try.func15 rfl rfl (Nat.le_of_ble_eq_true rfl) ?_
    repeat (first | refine aw_seq ?_ | refine aw_skip ?_ | refine aw_block ?_ | refine aw_exit ?_ | refine aw_cond rfl (fun _ => ?_) (fun hb => absurd hb (by decide)) | refine aw_cond rfl (fun hb => absurd hb (by decide)) (fun _ => ?_) | (refine aw_reg (fun K hK => ?_); simp -implicitDefEqProofs [h29, hi0, hj]; refine hK _ ?_) | (refine aw_drw mixd (fun K hK => ?_); simp -implicitDefEqProofs [h29, hi0, hj]; refine hK _ _ (by rfl) ?_) | fail)
    refine aw_ret (fin_ret ?_); simp -implicitDefEqProofs [FinP, resV, resT, zT] <;> try rfl
  have hjl : j < l.length := by omega
  obtain ⟨⟨y, m⟩, hy⟩ : ∃ y, l[j]? = some y := ⟨_, List.getElem?_eq_getElem hjl⟩
  have hy' := (List.getElem?_eq_some_iff.1 hy).2
  have eF : flatT x l j = if y.k = 29 then (nd 29 0 (joined l m j), true) else (zT, false) := by
    unfold flatT
    rw [if_pos ⟨h29, by omega, by omega⟩, Int.toNat_natCast, hy]
  rw [eF]
  by_cases hy29 : y.k = 29; rotate_left
  · rw [if_neg hy29]
    refine row_of Try.func15 rfl rfl (Nat.le_of_ble_eq_true rfl) ?_
    repeat (first | refine aw_seq ?_ | refine aw_skip ?_ | refine aw_block ?_ | refine aw_exit ?_ | refine aw_cond rfl (fun _ => ?_) (fun hb => absurd hb (by decide)) | refine aw_cond rfl (fun hb => absurd hb (by decide)) (fun _ => ?_) | (refine aw_reg (fun K hK => ?_); simp -implicitDefEqProofs [h29, hi0, hj, hjl, hy, hy', hy29]; refine hK _ ?_) | (refine aw_drw mixd (fun K hK => ?_); simp -implicitDefEqProofs [h29, hi0, hj, hjl, hy, hy', hy29]; refine hK _ _ (by rfl) ?_) | fail)
    refine aw_ret (fin_ret ?_); simp -implicitDefEqProofs [FinP, resV, resT, zT] <;> try rfl
  rw [if_pos hy29]
  have hk64 := ((Tr.all_mk _ _ _).1 h64).2
  have hms := Tr.size_at (x := x) hy
  have hml := Tr.len_size (x := y) (l := m)
  have hbl := brC_le m m.length
  have hds := sum_drop l (j + 1)
  have hss := size_sub (x := x) 29 0 hds
  have hdl : (l.drop (j + 1)).length ≤ l.length := by rw [List.length_drop]; omega
  have htl : (l.take j).length ≤ l.length := by rw [List.length_take]; omega
  have hkl := kidS_len (brC m m.length : Nat) 0 ⟨29, 0, ⟨#[]⟩, 0, 0⟩ (l.drop (j + 1)) 0
  have hc1 := cloneT_row (l.drop (j + 1)) (by omega)
  have hc2 := cloneT_row (l.take j) (by omega)
  have hbr := broughtB_row y m (by omega)
  have hsr := shift_row (brC m m.length : Nat) 0 (nd 29 0 (l.drop (j + 1))) (in64_nd (by decide) (by decide) (fun z hz => hk64 z (List.mem_of_mem_drop hz))) (by omega)
  rw [shT_pos (by omega) (by omega) (by omega) (by omega), sh29] at hsr
  unfold joined
  obtain ⟨R, hR⟩ : ∃ R, kidS (brC m m.length : Nat) 0 ⟨29, 0, ⟨#[]⟩, 0, 0⟩ (l.drop (j + 1)) 0 = R := ⟨_, rfl⟩
  rw [hR] at hsr hkl ⊢
  have hcc := concatT_row [l.take j, m, R] (by simp) (by simp only [List.flatten_cons, List.flatten_nil, List.append_nil, List.length_append]; omega)
  have w1 : IntKind.i64.wrap ((j : Nat) + 1 : Int) = (j : Nat) + 1 := i64i _ (by omega) (by omega)
  have t1 : ((j : Int) + 1).toNat = j + 1 := by omega
  have c1 : (j : Int) + 1 ≤ l.length := by omega
  have c2 : j ≤ l.length := by omega
  have c3 : (0 : Int) ≤ (j : Int) + 1 := by omega
  generalize hbg : (brC m m.length : Nat) = B at hbr hsr hbl
  clear hR hk64 hms hml hds hss hdl htl hkl h64 hsz hlen eF hbl hbg
  refine row_of Try.func15 rfl rfl (Nat.le_of_ble_eq_true rfl) ?_
  repeat' (first | refine aw_seq ?_ | refine aw_skip ?_ | refine aw_block ?_ | refine aw_exit ?_ | refine aw_cond rfl (fun _ => ?_) (fun hb => absurd hb (by decide)) | refine aw_cond rfl (fun hb => absurd hb (by decide)) (fun _ => ?_) | (refine aw_reg (fun K hK => ?_); simp -implicitDefEqProofs [h29, hi0, hj, hjl, hy, hy', hy29, w1, t1, c1, c2, c3]) | (refine aw_drw mixd (fun K hK => ?_); simp -implicitDefEqProofs [h29, hi0, hj, hjl, hy, hy', hy29, w1, t1, c1, c2, c3]) | refine hK _ ?_ | refine hK _ _ (by rfl) ?_ | (refine ar_call (call_pure (hc1) ?_ ?_ rfl ?_); (focus (simp [*]; done)); (focus (first | exact (fun _ => rfl) | exact (vT_ren _) | exact (vLs_ren _) | exact (vTB_ren _) | (intro ρ; simp [AV.ren, AT.ren, AC.ren]; done))); simp -implicitDefEqProofs [h29, hi0, hj, hjl, hy, hy', hy29, w1, t1, c1, c2, c3]) | (refine ard_call (calld_pure (hc1) ?_ ?_ rfl ?_); (focus (simp [*]; done)); (focus (first | exact (fun _ => rfl) | exact (vT_ren _) | exact (vLs_ren _) | exact (vTB_ren _) | (intro ρ; simp [AV.ren, AT.ren, AC.ren]; done))); simp -implicitDefEqProofs [h29, hi0, hj, hjl, hy, hy', hy29, w1, t1, c1, c2, c3]) | (refine ar_call (call_pure (hc2) ?_ ?_ rfl ?_); (focus (simp [*]; done)); (focus (first | exact (fun _ => rfl) | exact (vT_ren _) | exact (vLs_ren _) | exact (vTB_ren _) | (intro ρ; simp [AV.ren, AT.ren, AC.ren]; done))); simp -implicitDefEqProofs [h29, hi0, hj, hjl, hy, hy', hy29, w1, t1, c1, c2, c3]) | (refine ard_call (calld_pure (hc2) ?_ ?_ rfl ?_); (focus (simp [*]; done)); (focus (first | exact (fun _ => rfl) | exact (vT_ren _) | exact (vLs_ren _) | exact (vTB_ren _) | (intro ρ; simp [AV.ren, AT.ren, AC.ren]; done))); simp -implicitDefEqProofs [h29, hi0, hj, hjl, hy, hy', hy29, w1, t1, c1, c2, c3]) | (refine ar_call (call_pure (hbr) ?_ ?_ rfl ?_); (focus (simp [*]; done)); (focus (first | exact (fun _ => rfl) | exact (vT_ren _) | exact (vLs_ren _) | exact (vTB_ren _) | (intro ρ; simp [AV.ren, AT.ren, AC.ren]; done))); simp -implicitDefEqProofs [h29, hi0, hj, hjl, hy, hy', hy29, w1, t1, c1, c2, c3]) | (refine ard_call (calld_pure (hbr) ?_ ?_ rfl ?_); (focus (simp [*]; done)); (focus (first | exact (fun _ => rfl) | exact (vT_ren _) | exact (vLs_ren _) | exact (vTB_ren _) | (intro ρ; simp [AV.ren, AT.ren, AC.ren]; done))); simp -implicitDefEqProofs [h29, hi0, hj, hjl, hy, hy', hy29, w1, t1, c1, c2, c3]) | (refine ar_call (call_pure (hsr) ?_ ?_ rfl ?_); (focus (simp [*]; done)); (focus (first | exact (fun _ => rfl) | exact (vT_ren _) | exact (vLs_ren _) | exact (vTB_ren _) | (intro ρ; simp [AV.ren, AT.ren, AC.ren]; done))); simp -implicitDefEqProofs [h29, hi0, hj, hjl, hy, hy', hy29, w1, t1, c1, c2, c3]) | (refine ard_call (calld_pure (hsr) ?_ ?_ rfl ?_); (focus (simp [*]; done)); (focus (first | exact (fun _ => rfl) | exact (vT_ren _) | exact (vLs_ren _) | exact (vTB_ren _) | (intro ρ; simp [AV.ren, AT.ren, AC.ren]; done))); simp -implicitDefEqProofs [h29, hi0, hj, hjl, hy, hy', hy29, w1, t1, c1, c2, c3]) | (refine ar_call (call_pure (hcc) ?_ ?_ rfl ?_); (focus (simp [*]; done)); (focus (first | exact (fun _ => rfl) | exact (vT_ren _) | exact (vLs_ren _) | exact (vTB_ren _) | (intro ρ; simp [AV.ren, AT.ren, AC.ren]; done))); simp -implicitDefEqProofs [h29, hi0, hj, hjl, hy, hy', hy29, w1, t1, c1, c2, c3]) | (refine ard_call (calld_pure (hcc) ?_ ?_ rfl ?_); (focus (simp [*]; done)); (focus (first | exact (fun _ => rfl) | exact (vT_ren _) | exact (vLs_ren _) | exact (vTB_ren _) | (intro ρ; simp [AV.ren, AT.ren, AC.ren]; done))); simp -implicitDefEqProofs [h29, hi0, hj, hjl, hy, hy', hy29, w1, t1, c1, c2, c3]) | fail)
  refine aw_ret (fin_ret ?_); simp -implicitDefEqProofs [FinP, resV, resT] <;> try rfl
end Go.Proofs.Ytjmjillfclfkgaa.am
