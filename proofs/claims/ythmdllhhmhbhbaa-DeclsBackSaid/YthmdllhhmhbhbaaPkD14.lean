import Derived.Test.YthmdllhhmhbhbaaPkD13
section
namespace Go.Proofs.Ythmdllhhmhbhbaa.am
open Go.ChangeShapes Go.WideShapes Go.ChangeAt Go.RowKit
open vt
set_option linter.unusedVariables false
set_option linter.unusedSimpArgs false
set_option maxRecDepth 100000 in
set_option maxHeartbeats 4000000 in
theorem rparted_row (l : List VT) (hl : l.length ≤ 1000000) : Row Try.prog 32 [vLs l] [] (vB (ptdB l)) [] := by
  unfold ptdB
  have hno := fun y (h : y ∈ l) (hp : partB y = false) => (show l.all partB = false by rw [List.all_eq_false]; exact ⟨y, h, by rw [hp]; simp⟩)
  have hyes : (∀ y ∈ l, partB y = true) → l.all partB = true := fun h => List.all_eq_true.2 h
  obtain ⟨R, hR⟩ : ∃ R, l.all partB = R := ⟨_, rfl⟩
  rw [hR] at hno hyes ⊢
  clear hR
  refine row_of Try.func32 rfl rfl (Nat.le_of_ble_eq_true rfl) ?_
  repeat (first | refine aw_seq ?_ | refine aw_skip ?_ | refine aw_block ?_ | refine aw_exit ?_ | refine aw_cond rfl (fun _ => ?_) (fun hb => absurd hb (by decide)) | refine aw_cond rfl (fun hb => absurd hb (by decide)) (fun _ => ?_) | (refine aw_reg (fun K hK => ?_); simp -implicitDefEqProofs; refine hK _ ?_) | (refine aw_drw mixd (fun K hK => ?_); simp -implicitDefEqProofs; refine hK _ _ (by rfl) ?_) | fail)
  refine aw_lp (ι := Nat) (fun k => mkSt [(0, vLs l), (3, vI (k : Nat))] []) (fun k => k ≤ l.length ∧ ∀ j y, j < k → l[j]? = some y → partB y = true) (fun k => l.length - k) 0 ⟨Nat.zero_le _, fun j y h => by omega⟩ (cov_intro [] (by simp -implicitDefEqProofs) (by simp -implicitDefEqProofs) (by decide) rfl (by simp)) (fun Z hI k hk => ?_)
  obtain ⟨hk, hz⟩ := hk
  by_cases hkl : k < l.length; rotate_left
  · have : k = l.length := by omega
    subst this
    have hR := hyes (fun y hy => by
      obtain ⟨j, hj⟩ := List.mem_iff_getElem?.1 hy
      exact hz j y (List.getElem?_eq_some_iff.1 hj).1 hj)
    subst hR
    clear hno hyes
    repeat (first | refine aw_seq ?_ | refine aw_skip ?_ | refine aw_block ?_ | refine aw_exit ?_ | refine aw_cond rfl (fun _ => ?_) (fun hb => absurd hb (by decide)) | refine aw_cond rfl (fun hb => absurd hb (by decide)) (fun _ => ?_) | (refine aw_reg (fun K hK => ?_); simp -implicitDefEqProofs; refine hK _ ?_) | (refine aw_drw mixd (fun K hK => ?_); simp -implicitDefEqProofs; refine hK _ _ (by rfl) ?_) | fail)
    refine aw_ret (fin_ret ?_); simp -implicitDefEqProofs [FinP, resV, resT] <;> try rfl
  obtain ⟨⟨ax, al⟩, ha⟩ : ∃ a, l[k]? = some a := ⟨_, List.getElem?_eq_getElem hkl⟩
  have ha' := (List.getElem?_eq_some_iff.1 ha).2
  have hmem := List.mem_of_getElem? ha
  have w2 : IntKind.i64.wrap ((k : Nat) + 1 : Int) = (k : Nat) + 1 := i64i _ (by omega) (by omega)
  by_cases h34 : ax.k = 34
  · by_cases h1 : al.length = 1
    · have h1' : (al.length : Int) = 1 := by omega
      clear hno hyes
      repeat (first | refine aw_seq ?_ | refine aw_skip ?_ | refine aw_block ?_ | refine aw_exit ?_ | refine aw_cond rfl (fun _ => ?_) (fun hb => absurd hb (by decide)) | refine aw_cond rfl (fun hb => absurd hb (by decide)) (fun _ => ?_) | (refine aw_reg (fun K hK => ?_); simp -implicitDefEqProofs [hkl, ha, ha', h34, h1, h1', w2]; refine hK _ ?_) | (refine aw_drw mixd (fun K hK => ?_); simp -implicitDefEqProofs [hkl, ha, ha', h34, h1, h1', w2]; refine hK _ _ (by rfl) ?_) | fail)
      refine ⟨k + 1, ⟨by omega, fun j y hj hy => ?_⟩, (by dsimp only; omega), ?_⟩
      · by_cases hjk : j = k
        · subst hjk; rw [ha] at hy; cases hy; simp [partB, Tr.lab, Tr.kids, h34, h1]
        · exact hz j y (by omega) hy
      · rw [hI]; exact cov_intro [] (by simp -implicitDefEqProofs) (by simp -implicitDefEqProofs) (by decide) rfl (by simp)
    · have h1' : ¬ (al.length : Int) = 1 := by omega
      have hR := hno _ hmem (by simp [partB, Tr.lab, Tr.kids, h34, h1])
      subst hR
      clear hno hyes
      repeat (first | refine aw_seq ?_ | refine aw_skip ?_ | refine aw_block ?_ | refine aw_exit ?_ | refine aw_cond rfl (fun _ => ?_) (fun hb => absurd hb (by decide)) | refine aw_cond rfl (fun hb => absurd hb (by decide)) (fun _ => ?_) | (refine aw_reg (fun K hK => ?_); simp -implicitDefEqProofs [hkl, ha, ha', h34, h1, h1']; refine hK _ ?_) | (refine aw_drw mixd (fun K hK => ?_); simp -implicitDefEqProofs [hkl, ha, ha', h34, h1, h1']; refine hK _ _ (by rfl) ?_) | fail)
      refine aw_ret (fin_ret ?_); simp -implicitDefEqProofs [FinP, resV, resT] <;> try rfl
  · have hR := hno _ hmem (by simp [partB, Tr.lab, Tr.kids, h34])
    subst hR
    clear hno hyes
    repeat (first | refine aw_seq ?_ | refine aw_skip ?_ | refine aw_block ?_ | refine aw_exit ?_ | refine aw_cond rfl (fun _ => ?_) (fun hb => absurd hb (by decide)) | refine aw_cond rfl (fun hb => absurd hb (by decide)) (fun _ => ?_) | (refine aw_reg (fun K hK => ?_); simp -implicitDefEqProofs [hkl, ha, ha', h34]; refine hK _ ?_) | (refine aw_drw mixd (fun K hK => ?_); simp -implicitDefEqProofs [hkl, ha, ha', h34]; refine hK _ _ (by rfl) ?_) | fail)
    refine aw_ret (fin_ret ?_); simp -implicitDefEqProofs [FinP, resV, resT] <;> try rfl
set_option maxRecDepth 100000 in
set_option maxHeartbeats 4000000 in
theorem rtypes_row (x px : Lab) (pl r : List VT) (hl : pl.length ≤ 1000000) (hp : ptdB pl = true) : Row Try.prog 33 [vT (.mk x (.mk px pl :: r))] [] (.v (.c (.row 0 6 ((typsT (.mk x (.mk px pl :: r))).map tc)))) [some (.row 24 6)] := by
  rw [show typsT (.mk x (.mk px pl :: r)) = pl.map (fun q => q.kids.getD 0 z0T) from rfl]
  refine row_of Try.func33 rfl rfl (Nat.le_of_ble_eq_true rfl) ?_
  repeat (first | refine aw_seq ?_ | refine aw_skip ?_ | refine aw_block ?_ | refine aw_exit ?_ | refine aw_cond rfl (fun _ => ?_) (fun hb => absurd hb (by decide)) | refine aw_cond rfl (fun hb => absurd hb (by decide)) (fun _ => ?_) | (refine aw_reg (fun K hK => ?_); simp -implicitDefEqProofs; refine hK _ ?_) | (refine aw_drw mixd (fun K hK => ?_); simp -implicitDefEqProofs; refine hK _ _ (by rfl) ?_) | fail)
  refine aw_lp (ι := Nat) (fun k => mkSt [(1, .v (.c (.ptr 0 0))), (3, .v (.c (.row 1 6 (((pl.take k).map (fun q => q.kids.getD 0 z0T)).map tc)))), (4, vI (k : Nat))] [some (.box (ta (.mk x (.mk px pl :: r)))), some (.row 24 6)]) (fun k => k ≤ pl.length) (fun k => pl.length - k) 0 (Nat.zero_le _) (cov_intro [0, 2] (by simp -implicitDefEqProofs) (by simp -implicitDefEqProofs) (by decide) rfl (by simp)) (fun Z hI k hk => ?_)
  by_cases hkl : k < pl.length; rotate_left
  · have : k = pl.length := by omega
    subst this
    rw [List.take_length]
    repeat (first | refine aw_seq ?_ | refine aw_skip ?_ | refine aw_block ?_ | refine aw_exit ?_ | refine aw_cond rfl (fun _ => ?_) (fun hb => absurd hb (by decide)) | refine aw_cond rfl (fun hb => absurd hb (by decide)) (fun _ => ?_) | (refine aw_reg (fun K hK => ?_); simp -implicitDefEqProofs; refine hK _ ?_) | (refine aw_drw mixd (fun K hK => ?_); simp -implicitDefEqProofs; refine hK _ _ (by rfl) ?_) | fail)
    refine aw_ret (fin_g [1] ?_); simp -implicitDefEqProofs [FinG, resV, resT] <;> try rfl
  obtain ⟨⟨ax, al⟩, ha⟩ : ∃ a, pl[k]? = some a := ⟨_, List.getElem?_eq_getElem hkl⟩
  have ha' := (List.getElem?_eq_some_iff.1 ha).2
  have hpt := List.all_eq_true.1 hp _ (List.mem_of_getElem? ha)
  simp [partB, Tr.kids] at hpt
  obtain ⟨⟨bx, bl⟩, rfl⟩ := one_of (l := al) (of_decide_eq_true hpt.2)
  have w2 : IntKind.i64.wrap ((k : Nat) + 1 : Int) = (k : Nat) + 1 := i64i _ (by omega) (by omega)
  have hs : (pl.take (k + 1)).map (fun q => q.kids.getD 0 z0T) = (pl.take k).map (fun q => q.kids.getD 0 z0T) ++ [.mk bx bl] := by rw [List.take_add_one, ha]; simp [Tr.kids]
  obtain ⟨L, hL⟩ : ∃ L, (pl.take k).map (fun q => q.kids.getD 0 z0T) = L := ⟨_, rfl⟩
  have hLl : L.length = k := by rw [← hL, List.length_map, List.length_take]; omega
  rw [hL] at hs ⊢
  have b1 : (k + 1) * 72 ≤ 140737488355328 := by omega
  have b2 : k + 1 ≤ 140737488355328 := by omega
  repeat (first | refine aw_seq ?_ | refine aw_skip ?_ | refine aw_block ?_ | refine aw_exit ?_ | refine aw_cond rfl (fun _ => ?_) (fun hb => absurd hb (by decide)) | refine aw_cond rfl (fun hb => absurd hb (by decide)) (fun _ => ?_) | (refine aw_reg (fun K hK => ?_); simp -implicitDefEqProofs [hkl, ha, ha', hLl, b1, b2, w2]; refine hK _ ?_) | (refine aw_drw mixd (fun K hK => ?_); simp -implicitDefEqProofs [hkl, ha, ha', hLl, b1, b2, w2]; refine hK _ _ (by rfl) ?_) | fail)
  refine ⟨k + 1, by omega, (by dsimp only; omega), ?_⟩
  rw [hI, hs]; exact cov_intro [0, 23] (by simp -implicitDefEqProofs) (by simp -implicitDefEqProofs) (by decide) rfl (by simp)
set_option maxRecDepth 100000 in
set_option maxHeartbeats 4000000 in
theorem rnmlA_row (x : Lab) (l : List VT) (hsz : (Tr.mk x l).size ≤ 1000000) : Row Try.prog 29 [vT (.mk x l)] [] (.v (.agg [.pv (I x.k), .pv (I x.n), .pv (Sx ⟨#[]⟩), .arr 0 6 l.length, .pv (I 0), .pv (I 0)])) [some (.arr 24 6 ((l.map nmlT).map tc))] := by
  have hlen := Tr.len_size (x := x) (l := l)
  refine row_of Try.func29 rfl rfl (Nat.le_of_ble_eq_true rfl) ?_
  repeat (first | refine aw_seq ?_ | refine aw_skip ?_ | refine aw_block ?_ | refine aw_exit ?_ | refine aw_cond rfl (fun _ => ?_) (fun hb => absurd hb (by decide)) | refine aw_cond rfl (fun hb => absurd hb (by decide)) (fun _ => ?_) | (refine aw_reg (fun K hK => ?_); simp -implicitDefEqProofs; refine hK _ ?_) | (refine aw_drw mixd (fun K hK => ?_); simp -implicitDefEqProofs; refine hK _ _ (by rfl) ?_) | fail)
  refine aw_nilca 7 3 [.pv (I x.k), .pv (I x.n), .pv (Sx ⟨#[]⟩), .pv .nilS, .pv (I 0), .pv (I 0)] 24 6 (by simp) (by simp) (by simp) ?_
  simp [St.nilca]
  refine aw_lp (ι := Nat) (fun k => mkSt [(1, .v (.c (.ptr 0 0))), (2, .v (.c (.ptr 1 0))), (3, .v (.c (.ptr 2 0))), (4, vI (k : Nat))] [some (.box (ta (.mk x l))), some (.box (ta (.mk ⟨0, 0, ⟨#[]⟩, 0, 0⟩ []))), some (.box [.pv (I x.k), .pv (I x.n), .pv (Sx ⟨#[]⟩), .arr 3 6 ((l.take k).map nmlT).length, .pv (I 0), .pv (I 0)]), some (.arr 24 6 (((l.take k).map nmlT).map tc))]) (fun k => k ≤ l.length) (fun k => l.length - k) 0 (Nat.zero_le _) (cov_intro [0, 1, 7, 10] (by simp -implicitDefEqProofs) (by simp -implicitDefEqProofs) (by decide) rfl (by simp)) (fun Z hI k hk => ?_)
  by_cases hkl : k < l.length; rotate_left
  · have : k = l.length := by omega
    subst this
    rw [List.take_length]
    repeat (first | refine aw_seq ?_ | refine aw_skip ?_ | refine aw_block ?_ | refine aw_exit ?_ | refine aw_cond rfl (fun _ => ?_) (fun hb => absurd hb (by decide)) | refine aw_cond rfl (fun hb => absurd hb (by decide)) (fun _ => ?_) | (refine aw_reg (fun K hK => ?_); simp -implicitDefEqProofs; refine hK _ ?_) | (refine aw_drw mixd (fun K hK => ?_); simp -implicitDefEqProofs; refine hK _ _ (by rfl) ?_) | fail)
    refine aw_ret (fin_g [3] ?_); simp -implicitDefEqProofs [FinG, resV, resT] <;> try rfl
  obtain ⟨⟨ax, al⟩, ha⟩ : ∃ a, l[k]? = some a := ⟨_, List.getElem?_eq_getElem hkl⟩
  have ha' := (List.getElem?_eq_some_iff.1 ha).2
  have hsz1 := Tr.size_at (x := x) ha
  have hc := rnml_row (.mk ax al) (by omega)
  have w2 : IntKind.i64.wrap ((k : Nat) + 1 : Int) = (k : Nat) + 1 := i64i _ (by omega) (by omega)
  have hs : (l.take (k + 1)).map nmlT = (l.take k).map nmlT ++ [nmlT (.mk ax al)] := by rw [List.take_add_one, ha]; simp
  obtain ⟨L, hL⟩ : ∃ L, (l.take k).map nmlT = L := ⟨_, rfl⟩
  have hLl : L.length = k := by rw [← hL, List.length_map, List.length_take]; omega
  rw [hL] at hs ⊢
  obtain ⟨⟨bx, bl⟩, hb⟩ : ∃ b, nmlT (.mk ax al) = b := ⟨_, rfl⟩
  rw [hb] at hc hs
  have b1 : (k + 1) * 72 ≤ 140737488355328 := by omega
  have b2 : k + 1 ≤ 140737488355328 := by omega
  repeat' (first | refine aw_seq ?_ | refine aw_skip ?_ | refine aw_block ?_ | refine aw_exit ?_ | refine aw_cond rfl (fun _ => ?_) (fun hb => absurd hb (by decide)) | refine aw_cond rfl (fun hb => absurd hb (by decide)) (fun _ => ?_) | (refine aw_reg (fun K hK => ?_); simp -implicitDefEqProofs [hkl, ha, ha', hLl, b1, b2, w2]) | (refine aw_drw mixd (fun K hK => ?_); simp -implicitDefEqProofs [hkl, ha, ha', hLl, b1, b2, w2]) | refine hK _ ?_ | refine hK _ _ (by rfl) ?_ | (refine ar_call (cp hc ?_); simp -implicitDefEqProofs [hkl, ha, ha', hLl, b1, b2, w2]) | (refine ard_call (dp hc ?_); simp -implicitDefEqProofs [hkl, ha, ha', hLl, b1, b2, w2]) | fail)
  refine ⟨k + 1, by omega, (by dsimp only; omega), ?_⟩
  rw [hI, hs]; exact cov_intro [0, 1, 2, 81] (by simp -implicitDefEqProofs [hLl]) (by simp -implicitDefEqProofs [hLl]) (by decide) rfl (by simp)
end Go.Proofs.Ythmdllhhmhbhbaa.am
end
section
namespace Go.Proofs.Ythmdllhhmhbhbaa.am
open Go.ChangeShapes Go.WideShapes Go.ChangeAt Go.RowKit
open vt
set_option linter.unusedVariables false
set_option linter.unusedSimpArgs false
theorem ptd_kid {pl : List VT} (hp : ptdB pl = true) {q : VT} (hq : q ∈ pl) : ∃ px b, q = .mk px [b] := by
  obtain ⟨px, l⟩ := q
  have := List.all_eq_true.1 hp _ hq
  simp [partB, Tr.kids] at this
  obtain ⟨b, rfl⟩ := one_of (l := l) (of_decide_eq_true this.2)
  exact ⟨px, b, rfl⟩
set_option maxRecDepth 100000 in
set_option maxHeartbeats 4000000 in
theorem rfn_row (m : VT) (hm : in64 m) (hms : m.size ≤ 100000) (x : Lab) (l : List VT) (ht : in64 (.mk x l)) (hsz : (Tr.mk x l).size ≤ 100000) : Row Try.prog 24 [vT m, vT (.mk x l)] [] (vGr (fnT m x l)) [] := by
  have hlen := Tr.len_size (x := x) (l := l)
  have hbx := rbad16_row x l 12
  have hns : ∀ P, fnT m x l = P → Row Try.prog 24 [vT m, vT (.mk x l)] [] (vGr P) [] → Row Try.prog 24 [vT m, vT (.mk x l)] [] (vGr (fnT m x l)) [] := fun P h k => by rw [h]; exact k
  by_cases hn : x.n = 0 ∨ x.n = 1; rotate_left
  · have n0 : ¬ x.n = 0 := fun h => hn (.inl h)
    have n1 : ¬ x.n = 1 := fun h => hn (.inr h)
    refine hns (badR x 12) (by unfold fnT; exact if_pos (.inl hn)) ?_
    clear hns
    unfold badR at hbx ⊢
    obtain ⟨mx, ml⟩ := m
    refine row_of Try.func24 rfl rfl (Nat.le_of_ble_eq_true rfl) ?_
    repeat' (first | refine aw_seq ?_ | refine aw_skip ?_ | refine aw_block ?_ | refine aw_exit ?_ | refine aw_cond rfl (fun _ => ?_) (fun hb => absurd hb (by decide)) | refine aw_cond rfl (fun hb => absurd hb (by decide)) (fun _ => ?_) | (refine aw_reg (fun K hK => ?_); simp -implicitDefEqProofs [n0, n1]) | (refine aw_drw mixd (fun K hK => ?_); simp -implicitDefEqProofs [n0, n1]) | refine hK _ ?_ | refine hK _ _ (by rfl) ?_ | (refine ar_call (cp hbx ?_); simp -implicitDefEqProofs [n0, n1]) | (refine ard_call (dp hbx ?_); simp -implicitDefEqProofs [n0, n1]) | fail)
    refine aw_ret (fin_ret ?_); simp -implicitDefEqProofs [FinP, resV, resT] <;> try rfl
  by_cases h3 : l.length = 3; rotate_left
  · have h3' : ¬ (l.length : Int) = 3 := by omega
    refine hns (badR x 12) (by unfold fnT; exact if_pos (.inr (.inl h3))) ?_
    clear hns
    unfold badR at hbx ⊢
    obtain ⟨mx, ml⟩ := m
    rcases hn with hn | hn
    · refine row_of Try.func24 rfl rfl (Nat.le_of_ble_eq_true rfl) ?_
      repeat' (first | refine aw_seq ?_ | refine aw_skip ?_ | refine aw_block ?_ | refine aw_exit ?_ | refine aw_cond rfl (fun _ => ?_) (fun hb => absurd hb (by decide)) | refine aw_cond rfl (fun hb => absurd hb (by decide)) (fun _ => ?_) | (refine aw_reg (fun K hK => ?_); simp -implicitDefEqProofs [hn, h3, h3']) | (refine aw_drw mixd (fun K hK => ?_); simp -implicitDefEqProofs [hn, h3, h3']) | refine hK _ ?_ | refine hK _ _ (by rfl) ?_ | (refine ar_call (cp hbx ?_); simp -implicitDefEqProofs [hn, h3, h3']) | (refine ard_call (dp hbx ?_); simp -implicitDefEqProofs [hn, h3, h3']) | fail)
      refine aw_ret (fin_ret ?_); simp -implicitDefEqProofs [FinP, resV, resT] <;> try rfl
    · refine row_of Try.func24 rfl rfl (Nat.le_of_ble_eq_true rfl) ?_
      repeat' (first | refine aw_seq ?_ | refine aw_skip ?_ | refine aw_block ?_ | refine aw_exit ?_ | refine aw_cond rfl (fun _ => ?_) (fun hb => absurd hb (by decide)) | refine aw_cond rfl (fun hb => absurd hb (by decide)) (fun _ => ?_) | (refine aw_reg (fun K hK => ?_); simp -implicitDefEqProofs [hn, h3, h3']) | (refine aw_drw mixd (fun K hK => ?_); simp -implicitDefEqProofs [hn, h3, h3']) | refine hK _ ?_ | refine hK _ _ (by rfl) ?_ | (refine ar_call (cp hbx ?_); simp -implicitDefEqProofs [hn, h3, h3']) | (refine ard_call (dp hbx ?_); simp -implicitDefEqProofs [hn, h3, h3']) | fail)
      refine aw_ret (fin_ret ?_); simp -implicitDefEqProofs [FinP, resV, resT] <;> try rfl
  obtain ⟨⟨px, pl⟩, ⟨rx, rl⟩, ⟨bx, bl⟩, rfl⟩ := three_of h3
  have sp := Tr.size_at (x := x) (l := [Tr.mk px pl, .mk rx rl, .mk bx bl]) (i := 0) rfl
  have sr := Tr.size_at (x := x) (l := [Tr.mk px pl, .mk rx rl, .mk bx bl]) (i := 1) rfl
  have sb := Tr.size_at (x := x) (l := [Tr.mk px pl, .mk rx rl, .mk bx bl]) (i := 2) rfl
  have ip := ((Tr.all_mk _ _ _).1 ht).2 (.mk px pl) (by simp)
  have ir := ((Tr.all_mk _ _ _).1 ht).2 (.mk rx rl) (by simp)
  have ib := ((Tr.all_mk _ _ _).1 ht).2 (.mk bx bl) (by simp)
  have lp := Tr.len_size (x := px) (l := pl)
  by_cases h35 : px.k = 35; rotate_left
  · refine hns (badR x 12) (by unfold fnT; exact if_pos (.inr (.inr (.inl h35)))) ?_
    clear hns
    unfold badR at hbx ⊢
    obtain ⟨mx, ml⟩ := m
    rcases hn with hn | hn
    · refine row_of Try.func24 rfl rfl (Nat.le_of_ble_eq_true rfl) ?_
      repeat' (first | refine aw_seq ?_ | refine aw_skip ?_ | refine aw_block ?_ | refine aw_exit ?_ | refine aw_cond rfl (fun _ => ?_) (fun hb => absurd hb (by decide)) | refine aw_cond rfl (fun hb => absurd hb (by decide)) (fun _ => ?_) | (refine aw_reg (fun K hK => ?_); simp -implicitDefEqProofs [hn, h35]) | (refine aw_drw mixd (fun K hK => ?_); simp -implicitDefEqProofs [hn, h35]) | refine hK _ ?_ | refine hK _ _ (by rfl) ?_ | (refine ar_call (cp hbx ?_); simp -implicitDefEqProofs [hn, h35]) | (refine ard_call (dp hbx ?_); simp -implicitDefEqProofs [hn, h35]) | fail)
      refine aw_ret (fin_ret ?_); simp -implicitDefEqProofs [FinP, resV, resT] <;> try rfl
    · refine row_of Try.func24 rfl rfl (Nat.le_of_ble_eq_true rfl) ?_
      repeat' (first | refine aw_seq ?_ | refine aw_skip ?_ | refine aw_block ?_ | refine aw_exit ?_ | refine aw_cond rfl (fun _ => ?_) (fun hb => absurd hb (by decide)) | refine aw_cond rfl (fun hb => absurd hb (by decide)) (fun _ => ?_) | (refine aw_reg (fun K hK => ?_); simp -implicitDefEqProofs [hn, h35]) | (refine aw_drw mixd (fun K hK => ?_); simp -implicitDefEqProofs [hn, h35]) | refine hK _ ?_ | refine hK _ _ (by rfl) ?_ | (refine ar_call (cp hbx ?_); simp -implicitDefEqProofs [hn, h35]) | (refine ard_call (dp hbx ?_); simp -implicitDefEqProofs [hn, h35]) | fail)
      refine aw_ret (fin_ret ?_); simp -implicitDefEqProofs [FinP, resV, resT] <;> try rfl
  have hpa := rparted_row pl (by omega)
  cases hP : ptdB pl with
  | false =>
    rw [hP] at hpa
    refine hns (badR x 12) (by unfold fnT; exact if_pos (.inr (.inr (.inr (.inl hP))))) ?_
    clear hns
    unfold badR at hbx ⊢
    obtain ⟨mx, ml⟩ := m
    rcases hn with hn | hn
    · refine row_of Try.func24 rfl rfl (Nat.le_of_ble_eq_true rfl) ?_
      repeat' (first | refine aw_seq ?_ | refine aw_skip ?_ | refine aw_block ?_ | refine aw_exit ?_ | refine aw_cond rfl (fun _ => ?_) (fun hb => absurd hb (by decide)) | refine aw_cond rfl (fun hb => absurd hb (by decide)) (fun _ => ?_) | (refine aw_reg (fun K hK => ?_); simp -implicitDefEqProofs [hn, h35]) | (refine aw_drw mixd (fun K hK => ?_); simp -implicitDefEqProofs [hn, h35]) | refine hK _ ?_ | refine hK _ _ (by rfl) ?_ | (refine ar_call (cp hbx ?_); simp -implicitDefEqProofs [hn, h35]) | (refine ard_call (dp hbx ?_); simp -implicitDefEqProofs [hn, h35]) | (refine ar_call (cp hpa ?_); simp -implicitDefEqProofs [hn, h35]) | (refine ard_call (dp hpa ?_); simp -implicitDefEqProofs [hn, h35]) | fail)
      refine aw_ret (fin_ret ?_); simp -implicitDefEqProofs [FinP, resV, resT] <;> try rfl
    · refine row_of Try.func24 rfl rfl (Nat.le_of_ble_eq_true rfl) ?_
      repeat' (first | refine aw_seq ?_ | refine aw_skip ?_ | refine aw_block ?_ | refine aw_exit ?_ | refine aw_cond rfl (fun _ => ?_) (fun hb => absurd hb (by decide)) | refine aw_cond rfl (fun hb => absurd hb (by decide)) (fun _ => ?_) | (refine aw_reg (fun K hK => ?_); simp -implicitDefEqProofs [hn, h35]) | (refine aw_drw mixd (fun K hK => ?_); simp -implicitDefEqProofs [hn, h35]) | refine hK _ ?_ | refine hK _ _ (by rfl) ?_ | (refine ar_call (cp hbx ?_); simp -implicitDefEqProofs [hn, h35]) | (refine ard_call (dp hbx ?_); simp -implicitDefEqProofs [hn, h35]) | (refine ar_call (cp hpa ?_); simp -implicitDefEqProofs [hn, h35]) | (refine ard_call (dp hpa ?_); simp -implicitDefEqProofs [hn, h35]) | fail)
      refine aw_ret (fin_ret ?_); simp -implicitDefEqProofs [FinP, resV, resT] <;> try rfl
  | true =>
  rw [hP] at hpa
  by_cases h29 : bx.k = 29; rotate_left
  · refine hns (badR x 12) (by unfold fnT; exact if_pos (.inr (.inr (.inr (.inr h29))))) ?_
    clear hns
    unfold badR at hbx ⊢
    obtain ⟨mx, ml⟩ := m
    rcases hn with hn | hn
    · refine row_of Try.func24 rfl rfl (Nat.le_of_ble_eq_true rfl) ?_
      repeat' (first | refine aw_seq ?_ | refine aw_skip ?_ | refine aw_block ?_ | refine aw_exit ?_ | refine aw_cond rfl (fun _ => ?_) (fun hb => absurd hb (by decide)) | refine aw_cond rfl (fun hb => absurd hb (by decide)) (fun _ => ?_) | (refine aw_reg (fun K hK => ?_); simp -implicitDefEqProofs [hn, h35, h29]) | (refine aw_drw mixd (fun K hK => ?_); simp -implicitDefEqProofs [hn, h35, h29]) | refine hK _ ?_ | refine hK _ _ (by rfl) ?_ | (refine ar_call (cp hbx ?_); simp -implicitDefEqProofs [hn, h35, h29]) | (refine ard_call (dp hbx ?_); simp -implicitDefEqProofs [hn, h35, h29]) | (refine ar_call (cp hpa ?_); simp -implicitDefEqProofs [hn, h35, h29]) | (refine ard_call (dp hpa ?_); simp -implicitDefEqProofs [hn, h35, h29]) | fail)
      refine aw_ret (fin_ret ?_); simp -implicitDefEqProofs [FinP, resV, resT] <;> try rfl
    · refine row_of Try.func24 rfl rfl (Nat.le_of_ble_eq_true rfl) ?_
      repeat' (first | refine aw_seq ?_ | refine aw_skip ?_ | refine aw_block ?_ | refine aw_exit ?_ | refine aw_cond rfl (fun _ => ?_) (fun hb => absurd hb (by decide)) | refine aw_cond rfl (fun hb => absurd hb (by decide)) (fun _ => ?_) | (refine aw_reg (fun K hK => ?_); simp -implicitDefEqProofs [hn, h35, h29]) | (refine aw_drw mixd (fun K hK => ?_); simp -implicitDefEqProofs [hn, h35, h29]) | refine hK _ ?_ | refine hK _ _ (by rfl) ?_ | (refine ar_call (cp hbx ?_); simp -implicitDefEqProofs [hn, h35, h29]) | (refine ard_call (dp hbx ?_); simp -implicitDefEqProofs [hn, h35, h29]) | (refine ar_call (cp hpa ?_); simp -implicitDefEqProofs [hn, h35, h29]) | (refine ard_call (dp hpa ?_); simp -implicitDefEqProofs [hn, h35, h29]) | fail)
      refine aw_ret (fin_ret ?_); simp -implicitDefEqProofs [FinP, resV, resT] <;> try rfl
  clear hbx
  have hty := rtypes_row x px pl [Tr.mk rx rl, Tr.mk bx bl] (by omega) hP
  have hnot : ¬ (¬ (x.n = 0 ∨ x.n = 1) ∨ ¬ ([Tr.mk px pl, Tr.mk rx rl, Tr.mk bx bl] : List VT).length = 3 ∨ ¬ px.k = 35 ∨ ptdB pl = false ∨ ¬ bx.k = 29) := by
    intro h
    rcases h with h | h | h | h | h
    · exact h hn
    · exact h h3
    · exact h h35
    · rw [hP] at h; cases h
    · exact h h29
  have hfn : fnT m x [Tr.mk px pl, Tr.mk rx rl, Tr.mk bx bl] = (match (typsT (Tr.mk x [Tr.mk px pl, Tr.mk rx rl, Tr.mk bx bl]) ++ [Tr.mk rx rl]).find? (fun a => decide (cels m a = 0)) with
    | some a => badR a.lab 11
    | none => match (typsT (Tr.mk x [Tr.mk px pl, Tr.mk rx rl, Tr.mk bx bl]) ++ [Tr.mk rx rl]).find? (fun a => decide (x.n = 1) && !(decide (0 < cels m a) && frT a)) with
      | some a => badR a.lab 12
      | none => if (stmT m (.mk rx rl) (.mk bx bl) (typsT (Tr.mk x [Tr.mk px pl, Tr.mk rx rl, Tr.mk bx bl]))).er = 0
          then ⟨.mk ⟨x.k, x.n, ⟨#[]⟩, 0, 0⟩ [nmlT (.mk px pl), nmlT (.mk rx rl), (stmT m (.mk rx rl) (.mk bx bl) (typsT (Tr.mk x [Tr.mk px pl, Tr.mk rx rl, Tr.mk bx bl]))).t], 0, 0⟩
          else stmT m (.mk rx rl) (.mk bx bl) (typsT (Tr.mk x [Tr.mk px pl, Tr.mk rx rl, Tr.mk bx bl])) : GR) := by
    unfold fnT
    exact if_neg hnot
  obtain ⟨T, hT⟩ : ∃ T, typsT (Tr.mk x [Tr.mk px pl, Tr.mk rx rl, Tr.mk bx bl]) = T := ⟨_, rfl⟩
  have hTm : ∀ a ∈ T, Fine 100000 a := by
    intro a ha
    rw [← hT] at ha
    obtain ⟨q, hq, rfl⟩ := List.mem_map.1 ha
    replace hq : q ∈ pl := hq
    obtain ⟨qx, b, rfl⟩ := ptd_kid hP hq
    have h1 := kid_lt (x := px) hq
    have h2 := Tr.size_at (x := qx) (l := [b]) (i := 0) rfl
    exact ⟨((Tr.all_mk _ _ _).1 (((Tr.all_mk _ _ _).1 ip).2 _ hq)).2 b (by simp), by show b.size ≤ _; omega⟩
  have hTl : T.length ≤ 100000 := by rw [← hT]; unfold typsT; rw [List.length_map]; show pl.length ≤ _; omega
  rw [hT] at hty hfn
  obtain ⟨A, hA⟩ : ∃ A, T ++ [Tr.mk rx rl] = A := ⟨_, rfl⟩
  rw [hA] at hfn
  have hAl : A.length = T.length + 1 := by rw [← hA]; simp
  have hAm : ∀ a ∈ A, Fine 100000 a := by
    intro a ha
    rw [← hA] at ha
    rcases List.mem_append.1 ha with h | h
    · exact hTm a h
    · simp at h; subst h; exact ⟨ir, by omega⟩
  have hce : ∀ a, a ∈ A → Row Try.prog 27 [vT m, vT a] [] (vI (cels m a)) [] := fun a ha => rcells_row m a hm (by omega) (hAm a ha).1 (by have := (hAm a ha).2; omega)
  have hpn : ∀ a, a ∈ A → Row Try.prog 34 [vT m, vT a] [] (vB (decide (0 < cels m a) && frT a)) [] := fun a ha => rplain_row m a hm (by omega) (hAm a ha).1 (by have := (hAm a ha).2; omega)
  have hst := (rstmt_row m (.mk rx rl) (.mk bx bl) ib).2 T 100000 ⟨⟨hm, hms⟩, hTm, by omega, by omega, ⟨ir, by omega⟩⟩
  have hsb : blkT m (.mk rx rl) bx bl T [] = stmT m (.mk rx rl) (.mk bx bl) T := by
    rw [stmT_eq, show shpS bx bl = true by unfold shpS; rw [if_pos h29], if_neg (by simp), if_pos h29]
  rw [Tr.lab, Tr.kids, hsb] at hst
  have hnm := rnmlA_row x [.mk px pl, .mk rx rl, .mk bx bl] (by omega)
  obtain ⟨⟨⟨cx, cl⟩, gp, ge⟩, hG⟩ : ∃ g, stmT m (.mk rx rl) (.mk bx bl) T = g := ⟨_, rfl⟩
  rw [hG] at hst hfn
  dsimp only at hfn
  obtain ⟨⟨ux, ul⟩, hU⟩ : ∃ g, nmlT (.mk px pl) = g := ⟨_, rfl⟩
  obtain ⟨⟨vx, vl⟩, hV⟩ : ∃ g, nmlT (.mk rx rl) = g := ⟨_, rfl⟩
  obtain ⟨⟨wx, wl⟩, hW⟩ : ∃ g, nmlT (.mk bx bl) = g := ⟨_, rfl⟩
  simp only [List.map_cons, List.map_nil, hU, hV, hW] at hnm
  rw [hU, hV] at hfn
  have b1 : (T.length + 1) * 72 ≤ 140737488355328 := by omega
  have b2 : T.length + 1 ≤ 140737488355328 := by omega
  have hAe : A.map tc = T.map tc ++ [[I rx.k, I rx.n, Sx rx.s, .sl 6 (rl.map tc), I rx.f, I rx.t]] := by rw [← hA]; simp
  obtain ⟨R, hRf⟩ : ∃ R, fnT m x [Tr.mk px pl, Tr.mk rx rl, Tr.mk bx bl] = R := ⟨_, rfl⟩
  rw [hRf] at hfn ⊢
  have ha1 : ∀ (k : Nat) ax al, A[k]? = some (.mk ax al) → cels m (.mk ax al) = 0 → (∀ a ∈ A.take k, ¬ cels m a = 0) → R = badR ax 11 := by
    intro k ax al ha hc hno
    rw [hfn, find_at ha (by simpa using hc) (fun a h => by simpa using hno a h)]
    rfl
  have hf0 : (∀ a ∈ A, ¬ cels m a = 0) → A.find? (fun a => decide (cels m a = 0)) = none := fun h => List.find?_eq_none.2 (fun a ha => by simpa using h a ha)
  have ha2 : (∀ a ∈ A, ¬ cels m a = 0) → ∀ (k : Nat) ax al, A[k]? = some (.mk ax al) → x.n = 1 → (decide (0 < cels m (.mk ax al)) && frT (.mk ax al)) = false → (∀ a ∈ A.take k, x.n = 1 → (decide (0 < cels m a) && frT a) = true) → R = badR ax 12 := by
    intro h k ax al ha hx hc hno
    rw [hfn, hf0 h, find_at ha (by rw [hc, decide_eq_true hx]; rfl) (fun a ha => by rw [hno a ha hx]; simp)]
    rfl
  have ha3 : (∀ a ∈ A, ¬ cels m a = 0) → (∀ a ∈ A, x.n = 1 → (decide (0 < cels m a) && frT a) = true) → R = if ge = 0 then ⟨.mk ⟨x.k, x.n, ⟨#[]⟩, 0, 0⟩ [.mk ux ul, .mk vx vl, .mk cx cl], 0, 0⟩ else ⟨.mk cx cl, gp, ge⟩ := by
    intro h1 h2
    rw [hfn, hf0 h1, List.find?_eq_none.2 (fun a ha => by
      by_cases hx : x.n = 1
      · rw [h2 a ha hx]; simp
      · rw [decide_eq_false hx]; simp)]
  clear hfn hns hnot hT hA hG hU hV hW hRf hsb hf0
  have hba := fun (a : Lab) (al : List VT) e => rbad16_row a al e
  have hnn : x.n = 0 ∨ x.n = 1 := hn
  obtain ⟨mx, ml⟩ := m
  rcases hn with hn | hn
  all_goals (
    refine row_of Try.func24 rfl rfl (Nat.le_of_ble_eq_true rfl) ?_
    repeat' (first | refine aw_seq ?_ | refine aw_skip ?_ | refine aw_block ?_ | refine aw_exit ?_ | refine aw_cond rfl (fun _ => ?_) (fun hb => absurd hb (by decide)) | refine aw_cond rfl (fun hb => absurd hb (by decide)) (fun _ => ?_) | (refine aw_reg (fun K hK => ?_); simp -implicitDefEqProofs [hn, h35, h29, b1, b2]) | (refine aw_drw mixd (fun K hK => ?_); simp -implicitDefEqProofs [hn, h35, h29, b1, b2]) | refine hK _ ?_ | refine hK _ _ (by rfl) ?_ | (refine ar_call (cp hpa ?_); simp -implicitDefEqProofs [hn, h35, h29, b1, b2]) | (refine ard_call (dp hpa ?_); simp -implicitDefEqProofs [hn, h35, h29, b1, b2]) | (refine ar_call (cg hty [] ?_); simp -implicitDefEqProofs [hn, h35, h29, b1, b2]) | (refine ard_call (dg hty [] ?_); simp -implicitDefEqProofs [hn, h35, h29, b1, b2]) | fail)
    refine aw_lp (ι := Nat) (fun k => mkSt [(2, .v (.c (.ptr 0 0))), (3, .v (.c (.ptr 1 0))), (4, .v (.c (.ptr 2 0))), (5, .v (.c (.row 3 6 (A.map tc)))), (6, vI (k : Nat))] [some (.box (ta (.mk mx ml))), some (.box (ta (.mk x [Tr.mk px pl, Tr.mk rx rl, Tr.mk bx bl]))), some (.box (ta z0T ++ [.pv (I 0), .pv (I 0)])), some (.row 24 6)]) (fun k => k ≤ A.length ∧ ∀ a ∈ A.take k, ¬ cels (.mk mx ml) a = 0) (fun k => A.length - k) 0 ⟨Nat.zero_le _, by simp⟩ (by first | (refine cov_intro [0, 1, 2, 102] ?_ ?_ (by decide) rfl (by simp) <;> (simp -implicitDefEqProofs [hAe, hn, h35, h29]; done)) | (refine cov_intro [0, 1, 2, 105] ?_ ?_ (by decide) rfl (by simp) <;> (simp -implicitDefEqProofs [hAe, hn, h35, h29]; done)) | (refine cov_intro [0, 1, 2, 104] ?_ ?_ (by decide) rfl (by simp) <;> (simp -implicitDefEqProofs [hAe, hn, h35, h29]; done)) | (refine cov_intro [0, 1, 2, 106] ?_ ?_ (by decide) rfl (by simp) <;> (simp -implicitDefEqProofs [hAe, hn, h35, h29]; done)) | (refine cov_intro [0, 1, 2, 103] ?_ ?_ (by decide) rfl (by simp) <;> (simp -implicitDefEqProofs [hAe, hn, h35, h29]; done)) | (refine cov_intro [0, 1, 2, 101] ?_ ?_ (by decide) rfl (by simp) <;> (simp -implicitDefEqProofs [hAe, hn, h35, h29]; done)) | (refine cov_intro [0, 1, 2, 100] ?_ ?_ (by decide) rfl (by simp) <;> (simp -implicitDefEqProofs [hAe, hn, h35, h29]; done)) | (refine cov_intro [0, 1, 2, 99] ?_ ?_ (by decide) rfl (by simp) <;> (simp -implicitDefEqProofs [hAe, hn, h35, h29]; done))) (fun Z hI k hk => ?_)
    obtain ⟨hk, hz⟩ := hk
    by_cases hkl : k < A.length; rotate_left
    · have : k = A.length := by omega
      subst this
      rw [List.take_length] at hz
      repeat (first | refine aw_seq ?_ | refine aw_skip ?_ | refine aw_block ?_ | refine aw_exit ?_ | refine aw_cond rfl (fun _ => ?_) (fun hb => absurd hb (by decide)) | refine aw_cond rfl (fun hb => absurd hb (by decide)) (fun _ => ?_) | (refine aw_reg (fun K hK => ?_); simp -implicitDefEqProofs; refine hK _ ?_) | (refine aw_drw mixd (fun K hK => ?_); simp -implicitDefEqProofs; refine hK _ _ (by rfl) ?_) | fail)
      refine aw_lp (ι := Nat) (fun k => mkSt [(2, .v (.c (.ptr 0 0))), (3, .v (.c (.ptr 1 0))), (4, .v (.c (.ptr 2 0))), (5, .v (.c (.row 3 6 (A.map tc)))), (7, vI (k : Nat))] [some (.box (ta (.mk mx ml))), some (.box (ta (.mk x [Tr.mk px pl, Tr.mk rx rl, Tr.mk bx bl]))), some (.box (ta z0T ++ [.pv (I 0), .pv (I 0)])), some (.row 24 6)]) (fun k => k ≤ A.length ∧ ∀ a ∈ A.take k, x.n = 1 → (decide (0 < cels (.mk mx ml) a) && frT a) = true) (fun k => A.length - k) 0 ⟨Nat.zero_le _, by simp⟩ (cov_intro [0, 1, 2, 3] (by simp -implicitDefEqProofs) (by simp -implicitDefEqProofs) (by decide) rfl (by simp)) (fun Z hI k hk => ?_)
      obtain ⟨hk, hz2⟩ := hk
      by_cases hkl : k < A.length; rotate_left
      · have : k = A.length := by omega
        subst this
        rw [List.take_length] at hz2
        have hR := ha3 hz hz2
        clear ha1 ha2 ha3 hce hpn
        by_cases he : ge = 0
        · replace hR := hR.trans (if_pos he)
          subst hR
          have he' := eq_true he
          repeat' (first | refine aw_seq ?_ | refine aw_skip ?_ | refine aw_block ?_ | refine aw_exit ?_ | refine aw_cond rfl (fun _ => ?_) (fun hb => absurd hb (by decide)) | refine aw_cond rfl (fun hb => absurd hb (by decide)) (fun _ => ?_) | (refine aw_reg (fun K hK => ?_); simp -implicitDefEqProofs [he']) | (refine aw_drw mixd (fun K hK => ?_); simp -implicitDefEqProofs [he']) | refine hK _ ?_ | refine hK _ _ (by rfl) ?_ | (refine ar_call (cg hty [] ?_); simp -implicitDefEqProofs [he']) | (refine ard_call (dg hty [] ?_); simp -implicitDefEqProofs [he']) | (refine ar_call (cp hst ?_); simp -implicitDefEqProofs [he']) | (refine ard_call (dp hst ?_); simp -implicitDefEqProofs [he']) | (refine ar_call (cg hnm [] ?_); simp -implicitDefEqProofs [he']) | (refine ard_call (dg hnm [] ?_); simp -implicitDefEqProofs [he']) | fail)
          refine aw_frz 124 24 6 ([Tr.mk ux ul, Tr.mk vx vl, Tr.mk cx cl].map tc) (by simp) ?_
          simp [St.frz, AV.frz, AT.frz, AC.frz, AO.frz]
          refine aw_ret (fin_ret ?_); simp -implicitDefEqProofs [FinP, resV, resT] <;> try rfl
        · replace hR := hR.trans (if_neg he)
          subst hR
          repeat' (first | refine aw_seq ?_ | refine aw_skip ?_ | refine aw_block ?_ | refine aw_exit ?_ | refine aw_cond rfl (fun _ => ?_) (fun hb => absurd hb (by decide)) | refine aw_cond rfl (fun hb => absurd hb (by decide)) (fun _ => ?_) | (refine aw_reg (fun K hK => ?_); simp -implicitDefEqProofs [he]) | (refine aw_drw mixd (fun K hK => ?_); simp -implicitDefEqProofs [he]) | refine hK _ ?_ | refine hK _ _ (by rfl) ?_ | (refine ar_call (cg hty [] ?_); simp -implicitDefEqProofs [he]) | (refine ard_call (dg hty [] ?_); simp -implicitDefEqProofs [he]) | (refine ar_call (cp hst ?_); simp -implicitDefEqProofs [he]) | (refine ard_call (dp hst ?_); simp -implicitDefEqProofs [he]) | fail)
          refine aw_ret (fin_ret ?_); simp -implicitDefEqProofs [FinP, resV, resT] <;> try rfl
      obtain ⟨⟨ax, al⟩, ha⟩ : ∃ a, A[k]? = some a := ⟨_, List.getElem?_eq_getElem hkl⟩
      have ha' := (List.getElem?_eq_some_iff.1 ha).2
      have w2 : IntKind.i64.wrap ((k : Nat) + 1 : Int) = (k : Nat) + 1 := i64i _ (by omega) (by omega)
      have hq := hpn _ (List.mem_of_getElem? ha)
      have hto := ha2 hz k ax al ha
      have hb := hba ax al 12
      have hnx : (x.n = 1 → (decide (0 < cels (.mk mx ml) (.mk ax al)) && frT (.mk ax al)) = true) → ∀ a ∈ A.take (k + 1), x.n = 1 → (decide (0 < cels (.mk mx ml) a) && frT a) = true := by
        intro he y hy
        rw [List.take_add_one, ha] at hy
        rcases List.mem_append.1 hy with hy | hy
        · exact hz2 y hy
        · simp at hy; subst hy; exact he
      obtain ⟨q, hqq⟩ : ∃ q, (decide (0 < cels (.mk mx ml) (.mk ax al)) && frT (.mk ax al)) = q := ⟨_, rfl⟩
      rw [hqq] at hq hto hnx
      unfold badR at hto hb
      clear ha1 ha2 ha3 hce hpn hba hqq hst hnm hty
      by_cases hx1 : x.n = 1; rotate_left
      · try (exact absurd hn hx1)
        all_goals (
          repeat' (first | refine aw_seq ?_ | refine aw_skip ?_ | refine aw_block ?_ | refine aw_exit ?_ | refine aw_cond rfl (fun _ => ?_) (fun hb => absurd hb (by decide)) | refine aw_cond rfl (fun hb => absurd hb (by decide)) (fun _ => ?_) | (refine aw_reg (fun K hK => ?_); simp -implicitDefEqProofs [hkl, ha, ha', hn, w2]) | (refine aw_drw mixd (fun K hK => ?_); simp -implicitDefEqProofs [hkl, ha, ha', hn, w2]) | refine hK _ ?_ | refine hK _ _ (by rfl) ?_ | (refine ar_call (cp hq ?_); simp -implicitDefEqProofs [hkl, ha, ha', hn, w2]) | (refine ard_call (dp hq ?_); simp -implicitDefEqProofs [hkl, ha, ha', hn, w2]) | fail)
          refine ⟨k + 1, ⟨by omega, hnx (fun h => absurd h hx1)⟩, (by dsimp only; omega), ?_⟩
          rw [hI]; exact cov_intro [0, 1, 2, 3] (by simp -implicitDefEqProofs [hn]) (by simp -implicitDefEqProofs [hn]) (by decide) rfl (by simp))
      · try (exfalso; omega)
        all_goals (
          cases q with
          | true =>
            repeat' (first | refine aw_seq ?_ | refine aw_skip ?_ | refine aw_block ?_ | refine aw_exit ?_ | refine aw_cond rfl (fun _ => ?_) (fun hb => absurd hb (by decide)) | refine aw_cond rfl (fun hb => absurd hb (by decide)) (fun _ => ?_) | (refine aw_reg (fun K hK => ?_); simp -implicitDefEqProofs [hkl, ha, ha', hn, w2]) | (refine aw_drw mixd (fun K hK => ?_); simp -implicitDefEqProofs [hkl, ha, ha', hn, w2]) | refine hK _ ?_ | refine hK _ _ (by rfl) ?_ | (refine ar_call (cp hq ?_); simp -implicitDefEqProofs [hkl, ha, ha', hn, w2]) | (refine ard_call (dp hq ?_); simp -implicitDefEqProofs [hkl, ha, ha', hn, w2]) | fail)
            refine ⟨k + 1, ⟨by omega, hnx (fun _ => rfl)⟩, (by dsimp only; omega), ?_⟩
            rw [hI]; exact cov_intro [0, 1, 2, 3] (by simp -implicitDefEqProofs [hn]) (by simp -implicitDefEqProofs [hn]) (by decide) rfl (by simp)
          | false =>
            have hR := hto hn rfl hz2
            subst hR
            repeat' (first | refine aw_seq ?_ | refine aw_skip ?_ | refine aw_block ?_ | refine aw_exit ?_ | refine aw_cond rfl (fun _ => ?_) (fun hb => absurd hb (by decide)) | refine aw_cond rfl (fun hb => absurd hb (by decide)) (fun _ => ?_) | (refine aw_reg (fun K hK => ?_); simp -implicitDefEqProofs [hkl, ha, ha', hn]) | (refine aw_drw mixd (fun K hK => ?_); simp -implicitDefEqProofs [hkl, ha, ha', hn]) | refine hK _ ?_ | refine hK _ _ (by rfl) ?_ | (refine ar_call (cp hq ?_); simp -implicitDefEqProofs [hkl, ha, ha', hn]) | (refine ard_call (dp hq ?_); simp -implicitDefEqProofs [hkl, ha, ha', hn]) | (refine ar_call (cp hb ?_); simp -implicitDefEqProofs [hkl, ha, ha', hn]) | (refine ard_call (dp hb ?_); simp -implicitDefEqProofs [hkl, ha, ha', hn]) | fail)
            refine aw_ret (fin_ret ?_); simp -implicitDefEqProofs [FinP, resV, resT] <;> try rfl)
    obtain ⟨⟨ax, al⟩, ha⟩ : ∃ a, A[k]? = some a := ⟨_, List.getElem?_eq_getElem hkl⟩
    have ha' := (List.getElem?_eq_some_iff.1 ha).2
    have w2 : IntKind.i64.wrap ((k : Nat) + 1 : Int) = (k : Nat) + 1 := i64i _ (by omega) (by omega)
    have hq := hce _ (List.mem_of_getElem? ha)
    have hto := ha1 k ax al ha
    have hb := hba ax al 11
    have hnx : ¬ cels (.mk mx ml) (.mk ax al) = 0 → ∀ a ∈ A.take (k + 1), ¬ cels (.mk mx ml) a = 0 := by
      intro he y hy
      rw [List.take_add_one, ha] at hy
      rcases List.mem_append.1 hy with hy | hy
      · exact hz y hy
      · simp at hy; subst hy; exact he
    obtain ⟨q, hqq⟩ : ∃ q, cels (.mk mx ml) (.mk ax al) = q := ⟨_, rfl⟩
    rw [hqq] at hq hto hnx
    unfold badR at hto hb
    clear ha1 ha2 ha3 hce hpn hba hqq hst hnm hty
    by_cases q0 : q = 0
    · have hR := hto q0 hz
      subst hR
      repeat' (first | refine aw_seq ?_ | refine aw_skip ?_ | refine aw_block ?_ | refine aw_exit ?_ | refine aw_cond rfl (fun _ => ?_) (fun hb => absurd hb (by decide)) | refine aw_cond rfl (fun hb => absurd hb (by decide)) (fun _ => ?_) | (refine aw_reg (fun K hK => ?_); simp -implicitDefEqProofs [hkl, ha, ha', q0]) | (refine aw_drw mixd (fun K hK => ?_); simp -implicitDefEqProofs [hkl, ha, ha', q0]) | refine hK _ ?_ | refine hK _ _ (by rfl) ?_ | (refine ar_call (cp hq ?_); simp -implicitDefEqProofs [hkl, ha, ha', q0]) | (refine ard_call (dp hq ?_); simp -implicitDefEqProofs [hkl, ha, ha', q0]) | (refine ar_call (cp hb ?_); simp -implicitDefEqProofs [hkl, ha, ha', q0]) | (refine ard_call (dp hb ?_); simp -implicitDefEqProofs [hkl, ha, ha', q0]) | fail)
      refine aw_ret (fin_ret ?_); simp -implicitDefEqProofs [FinP, resV, resT] <;> try rfl
    · repeat' (first | refine aw_seq ?_ | refine aw_skip ?_ | refine aw_block ?_ | refine aw_exit ?_ | refine aw_cond rfl (fun _ => ?_) (fun hb => absurd hb (by decide)) | refine aw_cond rfl (fun hb => absurd hb (by decide)) (fun _ => ?_) | (refine aw_reg (fun K hK => ?_); simp -implicitDefEqProofs [hkl, ha, ha', q0, w2]) | (refine aw_drw mixd (fun K hK => ?_); simp -implicitDefEqProofs [hkl, ha, ha', q0, w2]) | refine hK _ ?_ | refine hK _ _ (by rfl) ?_ | (refine ar_call (cp hq ?_); simp -implicitDefEqProofs [hkl, ha, ha', q0, w2]) | (refine ard_call (dp hq ?_); simp -implicitDefEqProofs [hkl, ha, ha', q0, w2]) | fail)
      refine ⟨k + 1, ⟨by omega, hnx q0⟩, (by dsimp only; omega), ?_⟩
      rw [hI]; exact cov_intro [0, 1, 2, 3] (by simp -implicitDefEqProofs) (by simp -implicitDefEqProofs) (by decide) rfl (by simp))
end Go.Proofs.Ythmdllhhmhbhbaa.am
end
