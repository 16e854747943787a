import Derived.Test.YthkfdheoakbfnaaPkS5
import Derived.Test.YthkfdheoakbfnaaPkS4
section
namespace Go.Proofs.Ythkfdheoakbfnaa.am
open Go.ChangeShapes Go.WideShapes Go.ChangeAt Go.RowKit
open vt
set_option linter.unusedVariables false
set_option linter.unusedSimpArgs false
set_option maxRecDepth 100000 in
set_option maxHeartbeats 4000000 in
theorem srdecl_row (mx : Lab) (ml : List VT) (hml : ml.length ≤ 100000) (d : VT) (hd : scpD d) (hsz : d.size ≤ 40000) : Row Try.prog 38 [vT (.mk mx ml), vT d] [] (vSg (decS ml d)) [] := by
  obtain ⟨x, l⟩ := d
  have hlen := Tr.len_size (x := x) (l := l)
  have hpart : ∀ y, y ∈ l → y.size ≤ 40000 := fun y hy => by
    obtain ⟨i, hi⟩ := List.mem_iff_getElem?.1 hy
    have := Tr.size_at (x := x) hi
    omega
  unfold scpD at hd
  unfold decS
  rw [Tr.lab] at hd ⊢
  rw [Tr.kids] at hd ⊢
  by_cases k30 : x.k = 30
  · simp only [if_pos k30]
    obtain ⟨acc, a1, hp⟩ := srparts_row mx ml hml l (by omega) (fun q hq => by have := hpart q hq; omega) true
    generalize prtS ml true [] l = G at a1 hp ⊢
    obtain ⟨g0, g1, g2⟩ := G
    dsimp only at a1 hp ⊢
    unfold wrpS
    dsimp only
    by_cases h0 : g2 = 0
    · rw [if_neg (by simpa using h0)]
      have ha := a1 h0
      subst ha
      clear a1 hd hpart
      refine row_of Try.func38 rfl rfl (Nat.le_of_ble_eq_true rfl) ?_
      repeat' (first | refine aw_seq ?_ | refine aw_skip ?_ | refine aw_block ?_ | refine aw_exit ?_ | refine aw_ct rfl ?_ | refine aw_cf rfl ?_ | ((first | refine aw_reg (fun K hK => ?_) | refine aw_drw mixd (fun K hK => ?_) | refine ar_call (cp hp ?_) | refine ard_call (dp hp ?_) | fail); simp -implicitDefEqProofs [k30, h0]) | refine hK _ ?_ | refine hK _ _ (by rfl) ?_ | fail)
      refine aw_ret (fin_ret ?_); simp -implicitDefEqProofs [FinP, resV, resT, k30] <;> try rfl
    · rw [if_pos h0]
      clear a1 hd hpart
      refine row_of Try.func38 rfl rfl (Nat.le_of_ble_eq_true rfl) ?_
      repeat' (first | refine aw_seq ?_ | refine aw_skip ?_ | refine aw_block ?_ | refine aw_exit ?_ | refine aw_ct rfl ?_ | refine aw_cf rfl ?_ | ((first | refine aw_reg (fun K hK => ?_) | refine aw_drw mixd (fun K hK => ?_) | refine ar_call (cp hp ?_) | refine ard_call (dp hp ?_) | fail); simp -implicitDefEqProofs [k30, h0]) | refine hK _ ?_ | refine hK _ _ (by rfl) ?_ | fail)
      refine aw_ret (fin_ret ?_); simp -implicitDefEqProofs [FinP, resV, resT, k30] <;> try rfl
  rw [if_neg k30] at hd
  simp only [if_neg k30]
  by_cases k33 : x.k = 33
  · rw [if_pos k33] at hd
    simp only [if_pos k33]
    obtain ⟨p, pl, r, b, hl, hp35, hn, hp, hr, hb⟩ := hd
    subst hl
    simp only [List.getD_cons_zero, List.getD_cons_succ, Tr.lab, Tr.kids]
    have hps := hpart (.mk p pl) (by simp)
    have hpl := Tr.len_size (x := p) (l := pl)
    have hrs := hpart r (by simp)
    have hbs := hpart b (by simp)
    obtain ⟨acc, a1, hp⟩ := srparts_row mx ml hml pl (by omega) (fun q hq => by
      obtain ⟨i, hi⟩ := List.mem_iff_getElem?.1 hq
      have := Tr.size_at (x := p) hi
      omega) false
    have hrr := srany_row mx ml hml r [] (by simp; omega)
    have hrz := any_z0 ml r []
    obtain ⟨Nm, hNm⟩ : ∃ Nm, pl.map (·.lab.s) = Nm := ⟨_, rfl⟩
    have hNl : Nm.length = pl.length := by rw [← hNm, List.length_map]
    have hNt : ∀ k, k < pl.length → ∀ y, pl[k]? = some y → Nm.take (k + 1) = Nm.take k ++ [y.lab.s] := fun k hk y hy => by
      rw [List.take_add_one, ← hNm, List.getElem?_map, hy]; rfl
    have hNf : Nm.take pl.length = Nm := by rw [← hNl, List.take_length]
    have hbr := srany_row mx ml hml b Nm (by omega)
    have hbz := any_z0 ml b Nm
    unfold fnS
    rw [hNm]
    generalize prtS ml false [] pl = G at a1 hp ⊢
    obtain ⟨g0, g1, g2⟩ := G
    generalize anyT ml r [] = R at hrr hrz ⊢
    obtain ⟨⟨Rx, Rl⟩, Rp, Re⟩ := R
    generalize anyT ml b Nm = B at hbr hbz ⊢
    obtain ⟨⟨Bx, Bl⟩, Bp, Be⟩ := B
    obtain ⟨⟨rx, rl⟩, rfl⟩ : ∃ u, u = r := ⟨_, rfl⟩
    obtain ⟨⟨bx, bl⟩, rfl⟩ : ∃ u, u = b := ⟨_, rfl⟩
    dsimp only at a1 hp hrz hbz ⊢
    clear hr hb hpart
    by_cases h0 : g2 = 0; rotate_left
    · rw [if_pos h0]
      refine row_of Try.func38 rfl rfl (Nat.le_of_ble_eq_true rfl) ?_
      repeat' (first | refine aw_seq ?_ | refine aw_skip ?_ | refine aw_block ?_ | refine aw_exit ?_ | refine aw_ct rfl ?_ | refine aw_cf rfl ?_ | ((first | refine aw_reg (fun K hK => ?_) | refine aw_drw mixd (fun K hK => ?_) | refine ar_call (cp hp ?_) | refine ard_call (dp hp ?_) | fail); simp -implicitDefEqProofs [k33, h0]) | refine hK _ ?_ | refine hK _ _ (by rfl) ?_ | fail)
      refine aw_ret (fin_ret ?_); simp -implicitDefEqProofs [FinP, resV, resT] <;> try rfl
    rw [if_neg (by simpa using h0)]
    have ha := a1 h0
    subst ha
    clear a1
    by_cases h1 : Re = 0; rotate_left
    · rw [if_pos h1]
      obtain ⟨rfl, rfl⟩ := (Tr.mk.injEq _ _ _ _).mp (hrz h1)
      refine row_of Try.func38 rfl rfl (Nat.le_of_ble_eq_true rfl) ?_
      repeat' (first | refine aw_seq ?_ | refine aw_skip ?_ | refine aw_block ?_ | refine aw_exit ?_ | refine aw_ct rfl ?_ | refine aw_cf rfl ?_ | ((first | refine aw_reg (fun K hK => ?_) | refine aw_drw mixd (fun K hK => ?_) | refine ar_call (cp hp ?_) | refine ard_call (dp hp ?_) | refine ar_call (cp hrr ?_) | refine ard_call (dp hrr ?_) | fail); simp -implicitDefEqProofs [k33, h0, h1]) | refine hK _ ?_ | refine hK _ _ (by rfl) ?_ | fail)
      refine aw_ret (fin_ret ?_); simp -implicitDefEqProofs [FinP, resV, resT] <;> try rfl
    rw [if_neg (by simpa using h1)]
    obtain ⟨W, hW⟩ : ∃ W : SG, (if Be ≠ 0 then ⟨z0T, Bp, Be⟩ else ⟨.mk ⟨x.k, x.n, ⟨#[]⟩, x.f, x.t⟩ [.mk ⟨p.k, 0, ⟨#[]⟩, p.f, p.t⟩ acc, .mk Rx Rl, .mk Bx Bl], 0, 0⟩) = W := ⟨_, rfl⟩
    rw [hW]
    have p0 : wsS (Nm.take 0) = [] := rfl
    refine row_of Try.func38 rfl rfl (Nat.le_of_ble_eq_true rfl) ?_
    repeat' (first | refine aw_seq ?_ | refine aw_skip ?_ | refine aw_block ?_ | refine aw_exit ?_ | refine aw_ct rfl ?_ | refine aw_cf rfl ?_ | ((first | refine aw_reg (fun K hK => ?_) | refine aw_drw mixd (fun K hK => ?_) | refine ar_call (cp hp ?_) | refine ard_call (dp hp ?_) | refine ar_call (cp hrr ?_) | refine ard_call (dp hrr ?_) | fail); simp -implicitDefEqProofs [k33, h0, h1]) | refine hK _ ?_ | refine hK _ _ (by rfl) ?_ | fail)
    refine aw_lp (ι := Nat) (fun k => mkSt [(2, .v (.c (.ptr 0 0))), (3, .v (.c (.ptr 1 0))), (4, .v (.c (.ptr 2 0))), (11, .v (.c (.ptr 3 0))), (12, .v (.c (.ptr 4 0))), (13, .v (.c (.row 5 1 (wsS (Nm.take k))))), (14, vI (k : Nat))] [some (.box (ta (.mk mx ml))), some (.box (ta (.mk x [.mk p pl, .mk rx rl, .mk bx bl]))), some zGb, some (.box [.pv (I p.k), .pv (I 0), .pv (Sx ⟨#[]⟩), .pv (.sl 6 (acc.map tc)), .pv (I p.f), .pv (I p.t)]), some (.box (ta (.mk Rx Rl) ++ [.pv (I Rp), .pv (I 0)])), some (.row 9 1)]) (fun k => k ≤ pl.length) (fun k => pl.length - k) 0 (Nat.zero_le _) (by rw [p0]; exact cov_intro [0, 1, 2, 259, 331, 350] (by simp -implicitDefEqProofs [k33, h1]) (by simp -implicitDefEqProofs [k33, h1]) (by decide) rfl (by simp)) (fun Z hI k hk => ?_)
    by_cases hkl : k < pl.length
    · obtain ⟨⟨ax, al⟩, hy⟩ : ∃ a, pl[k]? = some a := ⟨_, List.getElem?_eq_getElem hkl⟩
      have hy' := (List.getElem?_eq_some_iff.1 hy).2
      have w2 : IntKind.i64.wrap ((k : Nat) + 1 : Int) = (k : Nat) + 1 := i64i _ (by omega) (by omega)
      have hkl' : (k : Int) < (pl.length : Nat) := by omega
      have hn := hNt k hkl _ hy
      rw [Tr.lab] at hn
      have hln : (Nm.take k).length = k := by rw [List.length_take]; omega
      obtain ⟨V, hV⟩ : ∃ V, Nm.take k = V := ⟨_, rfl⟩
      rw [hV] at hn hln ⊢
      have c1 : (k + 1) * 16 ≤ 140737488355328 := by omega
      have c2 : k + 1 ≤ 140737488355328 := by omega
      repeat (first | refine aw_seq ?_ | refine aw_skip ?_ | refine aw_block ?_ | refine aw_exit ?_ | refine aw_ct rfl ?_ | refine aw_cf rfl ?_ | ((first | refine aw_reg (fun K hK => ?_) | refine aw_drw mixd (fun K hK => ?_) | fail); simp -implicitDefEqProofs [hkl, hkl', hy, hy', w2, hln, c1, c2]; first | refine hK _ ?_ | refine hK _ _ (by rfl) ?_ | fail) | fail)
      refine ⟨k + 1, by omega, (by dsimp only; omega), ?_⟩
      rw [hI, hn]; exact cov_intro [0, 1, 2, 3, 4, 25] (by simp -implicitDefEqProofs) (by simp -implicitDefEqProofs) (by decide) rfl (by simp)
    have : k = pl.length := by omega
    subst this
    rw [hNf]
    by_cases h2 : Be = 0
    · rw [if_neg (by simpa using h2)] at hW
      subst hW
      repeat' (first | refine aw_seq ?_ | refine aw_skip ?_ | refine aw_block ?_ | refine aw_exit ?_ | refine aw_ct rfl ?_ | refine aw_cf rfl ?_ | ((first | refine aw_reg (fun K hK => ?_) | refine aw_drw mixd (fun K hK => ?_) | refine ar_call (cp hbr ?_) | refine ard_call (dp hbr ?_) | fail); simp -implicitDefEqProofs [k33, h2]) | refine hK _ ?_ | refine hK _ _ (by rfl) ?_ | fail)
      refine aw_ret (fin_ret ?_); simp -implicitDefEqProofs [FinP, resV, resT, k33] <;> try rfl
    · rw [if_pos h2] at hW
      subst hW
      obtain ⟨rfl, rfl⟩ := (Tr.mk.injEq _ _ _ _).mp (hbz h2)
      repeat' (first | refine aw_seq ?_ | refine aw_skip ?_ | refine aw_block ?_ | refine aw_exit ?_ | refine aw_ct rfl ?_ | refine aw_cf rfl ?_ | ((first | refine aw_reg (fun K hK => ?_) | refine aw_drw mixd (fun K hK => ?_) | refine ar_call (cp hbr ?_) | refine ard_call (dp hbr ?_) | fail); simp -implicitDefEqProofs [k33, h2]) | refine hK _ ?_ | refine hK _ _ (by rfl) ?_ | fail)
      refine aw_ret (fin_ret ?_); simp -implicitDefEqProofs [FinP, resV, resT, k33] <;> try rfl
  · simp only [if_neg k33]
    have hc := srany_row mx ml hml (.mk x l) [] (by simp; omega)
    generalize anyT ml (.mk x l) [] = G at hc ⊢
    obtain ⟨⟨gx, gl⟩, gp, ge⟩ := G
    clear hd hpart
    refine row_of Try.func38 rfl rfl (Nat.le_of_ble_eq_true rfl) ?_
    repeat' (first | refine aw_seq ?_ | refine aw_skip ?_ | refine aw_block ?_ | refine aw_exit ?_ | refine aw_ct rfl ?_ | refine aw_cf rfl ?_ | ((first | refine aw_reg (fun K hK => ?_) | refine aw_drw mixd (fun K hK => ?_) | refine ar_call (cp hc ?_) | refine ard_call (dp hc ?_) | fail); simp -implicitDefEqProofs [k30, k33]) | refine hK _ ?_ | refine hK _ _ (by rfl) ?_ | fail)
    refine aw_ret (fin_ret ?_); simp -implicitDefEqProofs [FinP, resV, resT] <;> try rfl
theorem dec_z0 (ml : List VT) (d : VT) (h : (decS ml d).er ≠ 0) : (decS ml d).t = z0T := by
  unfold decS at h ⊢
  split
  · rename_i c; rw [if_pos c] at h
    unfold wrpS at h ⊢
    split
    · rfl
    · rename_i q; rw [if_neg q] at h; exact absurd rfl h
  · rename_i c; rw [if_neg c] at h
    split
    · rename_i c; rw [if_pos c] at h
      unfold fnS at h ⊢
      split
      · rfl
      rename_i c; rw [if_neg c] at h
      split
      · rfl
      rename_i c; rw [if_neg c] at h
      split
      · rfl
      · rename_i c; rw [if_neg c] at h; exact absurd rfl h
    · rename_i c; rw [if_neg c] at h; exact any_z0 ml d [] h
theorem dcl_at {ml : List VT} {i : Nat} {y : VT} (hy : ml[i]? = some y) (h : hasS ((ml.take i).map (·.lab.s)) y.lab.s = false) : dcl ml y.lab.s = some i := by
  have hi := (List.getElem?_eq_some_iff.1 hy).1
  unfold dcl
  rw [List.findIdx?_eq_some_iff_getElem]
  refine ⟨hi, by rw [(List.getElem?_eq_some_iff.1 hy).2]; simp, fun j hj => ?_⟩
  unfold hasS at h
  rw [List.any_eq_false] at h
  have := h ml[j].lab.s (List.mem_map_of_mem (List.mem_iff_getElem?.2 ⟨j, by rw [List.getElem?_take, if_pos hj]; exact List.getElem?_eq_getElem (by omega)⟩))
  simpa using this
theorem dcl_lt {ml : List VT} {i : Nat} {y : VT} (hi : i < ml.length) (h : hasS ((ml.take i).map (·.lab.s)) y.lab.s = true) : ∃ j, j < i ∧ dcl ml y.lab.s = some j := by
  unfold hasS at h
  rw [List.any_eq_true] at h
  obtain ⟨a, ha, he⟩ := h
  obtain ⟨z, hz, rfl⟩ := List.mem_map.1 ha
  obtain ⟨q, hq⟩ := List.mem_iff_getElem?.1 hz
  rw [List.getElem?_take] at hq
  split at hq
  · rename_i hqi
    have hql := (List.getElem?_eq_some_iff.1 hq).1
    have hqe := (List.getElem?_eq_some_iff.1 hq).2
    unfold dcl
    cases hf : ml.findIdx? (fun d => decide (d.lab.s = y.lab.s)) with
    | none =>
      rw [List.findIdx?_eq_none_iff] at hf
      have := hf z (List.mem_of_getElem? hq)
      rw [he] at this
      cases this
    | some j =>
      refine ⟨j, ?_, rfl⟩
      rw [List.findIdx?_eq_some_iff_getElem] at hf
      obtain ⟨_, _, h3⟩ := hf
      by_cases c : j < i
      · exact c
      · have := h3 q (by omega)
        rw [hqe, he] at this
        exact absurd rfl this
  · cases hq
end Go.Proofs.Ythkfdheoakbfnaa.am
end
section
namespace Go.Proofs.Ythkfdheoakbfnaa.am
open Go.ChangeShapes Go.WideShapes Go.ChangeAt Go.RowKit
open vt
set_option linter.unusedVariables false
set_option linter.unusedSimpArgs false
theorem twc_first (ml : List VT) : ∃ j, j ≤ ml.length ∧ (∀ k, k ≤ j → twcS [] (ml.take k) = none) ∧ (j < ml.length → ∀ y, ml[j]? = some y → hasS ((ml.take j).map (·.lab.s)) y.lab.s = true ∧ twcS [] ml = some y.lab.f) := by
  have key : ∀ n, n ≤ ml.length → (∀ k, k ≤ n → twcS [] (ml.take k) = none) ∨ ∃ j, j < n ∧ (∀ k, k ≤ j → twcS [] (ml.take k) = none) ∧ ∀ y, ml[j]? = some y → hasS ((ml.take j).map (·.lab.s)) y.lab.s = true ∧ twcS [] ml = some y.lab.f := by
    intro n
    induction n with
    | zero => intro _; exact .inl (fun k hk => by have : k = 0 := by omega
                                                  subst this; rfl)
    | succ n ih =>
      intro hn
      rcases ih (by omega) with h | ⟨j, h1, h2, h3⟩
      · obtain ⟨y, hy⟩ : ∃ y, ml[n]? = some y := ⟨_, List.getElem?_eq_getElem (by omega)⟩
        have ht := twc_snoc' ml n y hy (h n (Nat.le_refl _))
        by_cases c : hasS ((ml.take n).map (·.lab.s)) y.lab.s = true
        · rw [if_pos c] at ht
          refine .inr ⟨n, by omega, h, fun y' hy' => ?_⟩
          rw [hy] at hy'; cases hy'
          refine ⟨c, ?_⟩
          have := twc_some (ml.take (n + 1)) (ml.drop (n + 1)) [] ht
          rw [List.take_append_drop] at this
          exact this
        · rw [if_neg c] at ht
          refine .inl (fun k hk => ?_)
          by_cases hk' : k = n + 1
          · subst hk'; exact ht
          · exact h k (by omega)
      · exact .inr ⟨j, by omega, h2, h3⟩
  rcases key ml.length (Nat.le_refl _) with h | ⟨j, h1, h2, h3⟩
  · exact ⟨ml.length, Nat.le_refl _, h, fun h' => by omega⟩
  · exact ⟨j, by omega, h2, fun _ => h3⟩
theorem decs_more (ml : List VT) : ∀ (l r : List VT), (decsS ml l).2.2 ≠ 0 → (decsS ml (l ++ r)).2 = (decsS ml l).2
  | [], r, h => absurd rfl h
  | y :: l, r, h => by
    have ih := decs_more ml l r
    rw [List.cons_append]
    unfold decsS at h ⊢
    by_cases d : (decS ml y).er = 0
    · have hd : ¬ (decS ml y).er ≠ 0 := by simpa using d
      simp only [if_neg hd] at h ⊢
      by_cases e : (decsS ml l).2.2 = 0
      · rw [if_neg (by simpa using e)] at h; exact absurd rfl h
      · have := ih e
        have he : (decsS ml l).2.2 ≠ 0 := e
        rw [this]
        simp only [if_pos he]
    · have hd : (decS ml y).er ≠ 0 := d
      simp only [if_pos hd]
theorem decs_first (ml l : List VT) : ∃ j, j ≤ l.length ∧ (∀ k, k ≤ j → (decsS ml (l.take k)).2.2 = 0) ∧ (j < l.length → (decsS ml (l.take (j + 1))).2.2 ≠ 0 ∧ (decsS ml l).2 = (decsS ml (l.take (j + 1))).2) := by
  have key : ∀ n, n ≤ l.length → (∀ k, k ≤ n → (decsS ml (l.take k)).2.2 = 0) ∨ ∃ j, j < n ∧ (∀ k, k ≤ j → (decsS ml (l.take k)).2.2 = 0) ∧ (decsS ml (l.take (j + 1))).2.2 ≠ 0 := by
    intro n
    induction n with
    | zero => intro _; exact .inl (fun k hk => by have : k = 0 := by omega
                                                  subst this; rfl)
    | succ n ih =>
      intro hn
      rcases ih (by omega) with h | ⟨j, h1, h2, h3⟩
      · by_cases c : (decsS ml (l.take (n + 1))).2.2 = 0
        · refine .inl (fun k hk => ?_)
          by_cases hk' : k = n + 1
          · subst hk'; exact c
          · exact h k (by omega)
        · exact .inr ⟨n, by omega, h, c⟩
      · exact .inr ⟨j, by omega, h2, h3⟩
  rcases key l.length (Nat.le_refl _) with h | ⟨j, h1, h2, h3⟩
  · exact ⟨l.length, Nat.le_refl _, h, fun h' => by omega⟩
  · refine ⟨j, by omega, h2, fun _ => ⟨h3, ?_⟩⟩
    have := decs_more ml (l.take (j + 1)) (l.drop (j + 1)) h3
    rw [List.take_append_drop] at this
    exact this
theorem decs_len (ml : List VT) : ∀ (l : List VT), (decsS ml l).2.2 = 0 → (decsS ml l).1.length = l.length
  | [], _ => rfl
  | y :: l, h => by
    unfold decsS at h ⊢
    split
    · rename_i d; rw [if_pos d] at h; exact absurd h d
    rename_i d; rw [if_neg d] at h
    split
    · rename_i e; rw [if_pos e] at h; exact absurd h e
    · rename_i e
      rw [List.length_cons, decs_len ml l (by simpa using e), List.length_cons]
set_option maxRecDepth 100000 in
set_option maxHeartbeats 4000000 in
theorem srres_row (x : Lab) (ml : List VT) (hml : ml.length ≤ 100000) (hd : ∀ d ∈ ml, scpD d ∧ d.size ≤ 40000) : Row Try.prog 12 [vT (.mk x ml)] [] (vT3i ((resS x ml).t, (resS x ml).pl, (resS x ml).er)) [] := by
  obtain ⟨j, hj, h1, h2⟩ := twc_first ml
  have hres : ∀ f, twcS [] ml = some f → resS x ml = ⟨z0T, f, 9⟩ := fun f h => by unfold resS; rw [h]
  have hres2 : twcS [] ml = none → resS x ml = wrpS ⟨x.k, x.n, ⟨#[]⟩, x.f, x.t⟩ [] (decsS ml ml) := fun h => by unfold resS; rw [h]
  have hjn : j = ml.length → twcS [] ml = none := fun h => by
    have := h1 j (Nat.le_refl _)
    rw [h, List.take_length] at this; exact this
  obtain ⟨R, hR⟩ : ∃ R, resS x ml = R := ⟨_, rfl⟩
  rw [hR] at hres hres2 ⊢
  clear hR
  refine row_of Try.func12 rfl rfl (Nat.le_of_ble_eq_true rfl) ?_
  repeat (first | refine aw_seq ?_ | refine aw_skip ?_ | refine aw_block ?_ | refine aw_exit ?_ | refine aw_ct rfl ?_ | refine aw_cf rfl ?_ | ((first | refine aw_reg (fun K hK => ?_) | refine aw_drw mixd (fun K hK => ?_) | fail); simp -implicitDefEqProofs; first | refine hK _ ?_ | refine hK _ _ (by rfl) ?_ | fail) | fail)
  refine aw_lp (ι := Nat) (fun k => mkSt [(1, .v (.c (.ptr 0 0))), (2, .v (.c (.ptr 1 0))), (5, vI (k : Nat))] [some (.box (ta (.mk x ml))), some zTb]) (fun k => k ≤ j) (fun k => ml.length - k) 0 (Nat.zero_le _) (cov_intro [0, 1] (by simp -implicitDefEqProofs) (by simp -implicitDefEqProofs) (by decide) rfl (by simp)) (fun Z hI k hk => ?_)
  by_cases hkl : k < ml.length
  · obtain ⟨⟨ax, al⟩, hy⟩ : ∃ a, ml[k]? = some a := ⟨_, List.getElem?_eq_getElem hkl⟩
    have hy' := (List.getElem?_eq_some_iff.1 hy).2
    have w2 : IntKind.i64.wrap ((k : Nat) + 1 : Int) = (k : Nat) + 1 := i64i _ (by omega) (by omega)
    have hkl' : (k : Int) < (ml.length : Nat) := by omega
    have hdc := sdecl_row x ml hml ax.s
    by_cases hkj : k < j
    · have h3 := h1 (k + 1) (by omega)
      rw [twc_snoc' ml k _ hy (h1 k (by omega)), Tr.lab] at h3
      have hno : hasS ((ml.take k).map (·.lab.s)) ax.s = false := by
        cases hq : hasS ((ml.take k).map (·.lab.s)) ax.s with
        | false => rfl
        | true => rw [hq] at h3; simp at h3
      have hdk := dcl_at hy hno
      rw [Tr.lab] at hdk
      have e1 : dclI ml ax.s = (k : Nat) := by unfold dclI; rw [hdk]
      rw [e1] at hdc
      have nk : ¬ (k : Int) < (k : Nat) := by omega
      repeat' (first | refine aw_seq ?_ | refine aw_skip ?_ | refine aw_block ?_ | refine aw_exit ?_ | refine aw_ct rfl ?_ | refine aw_cf rfl ?_ | ((first | refine aw_reg (fun K hK => ?_) | refine aw_drw mixd (fun K hK => ?_) | refine ar_call (cp hdc ?_) | refine ard_call (dp hdc ?_) | fail); simp -implicitDefEqProofs [hkl, hkl', hy, hy', nk, w2]) | refine hK _ ?_ | refine hK _ _ (by rfl) ?_ | fail)
      refine ⟨k + 1, by omega, (by dsimp only; omega), ?_⟩
      rw [hI]; exact cov_intro [0, 1] (by simp -implicitDefEqProofs) (by simp -implicitDefEqProofs) (by decide) rfl (by simp)
    · have e : k = j := by omega
      subst e
      obtain ⟨g1, g2⟩ := h2 hkl _ hy
      rw [Tr.lab] at g1 g2
      obtain ⟨q, hqk, hq⟩ := dcl_lt (y := .mk ax al) hkl g1
      rw [Tr.lab] at hq
      have e1 : dclI ml ax.s = (q : Nat) := by unfold dclI; rw [hq]
      rw [e1] at hdc
      have nk : (q : Int) < (k : Nat) := by omega
      have hr := hres _ g2
      subst hr
      clear hres hres2 hjn h1 h2
      repeat' (first | refine aw_seq ?_ | refine aw_skip ?_ | refine aw_block ?_ | refine aw_exit ?_ | refine aw_ct rfl ?_ | refine aw_cf rfl ?_ | ((first | refine aw_reg (fun K hK => ?_) | refine aw_drw mixd (fun K hK => ?_) | refine ar_call (cp hdc ?_) | refine ard_call (dp hdc ?_) | fail); simp -implicitDefEqProofs [hkl, hkl', hy, hy', nk, hqk]) | refine hK _ ?_ | refine hK _ _ (by rfl) ?_ | fail)
      refine aw_ret (fin_ret ?_); simp -implicitDefEqProofs [FinP, resV, resT] <;> try rfl
  have e1 : j = ml.length := by omega
  have e2 : k = ml.length := by omega
  subst e2
  have hr := hres2 (hjn e1)
  clear hres hres2 hjn h1 h2 hk hj e1
  obtain ⟨j2, hj2, d1, d2⟩ := decs_first ml ml
  have hfull : j2 = ml.length → (decsS ml ml).2.2 = 0 := fun h => by
    have := d1 j2 (Nat.le_refl _)
    rw [h, List.take_length] at this; exact this
  have p0 : (decsS ml (ml.take 0)).1 = [] := rfl
  repeat (first | refine aw_seq ?_ | refine aw_skip ?_ | refine aw_block ?_ | refine aw_exit ?_ | refine aw_ct rfl ?_ | refine aw_cf rfl ?_ | ((first | refine aw_reg (fun K hK => ?_) | refine aw_drw mixd (fun K hK => ?_) | fail); simp -implicitDefEqProofs; first | refine hK _ ?_ | refine hK _ _ (by rfl) ?_ | fail) | fail)
  refine aw_lp (ι := Nat) (fun k => mkSt [(1, .v (.c (.ptr 0 0))), (2, .v (.c (.ptr 1 0))), (6, .v (.c (.ptr 2 0))), (7, vI (k : Nat))] [some (.box (ta (.mk x ml))), some zTb, some (.box [.pv (I x.k), .pv (I x.n), .pv (Sx ⟨#[]⟩), .row 3 6 ((decsS ml (ml.take k)).1.map tc), .pv (I x.f), .pv (I x.t)]), some (.row 25 6)]) (fun k => k ≤ j2) (fun k => ml.length - k) 0 (Nat.zero_le _) (by rw [p0]; exact cov_intro [0, 1, 17, 11] (by simp -implicitDefEqProofs) (by simp -implicitDefEqProofs) (by decide) rfl (by simp)) (fun Z hI k hk => ?_)
  by_cases hkl : k < ml.length; rotate_left
  · have e2 : k = ml.length := by omega
    have e3 := hfull (by omega)
    subst e2
    rw [List.take_length]
    have h4 : R = ⟨.mk ⟨x.k, x.n, ⟨#[]⟩, x.f, x.t⟩ (decsS ml ml).1, 0, 0⟩ := by rw [hr]; unfold wrpS; rw [if_neg (by simpa using e3)]; rfl
    subst h4
    clear hr
    repeat (first | refine aw_seq ?_ | refine aw_skip ?_ | refine aw_block ?_ | refine aw_exit ?_ | refine aw_ct rfl ?_ | refine aw_cf rfl ?_ | ((first | refine aw_reg (fun K hK => ?_) | refine aw_drw mixd (fun K hK => ?_) | fail); simp -implicitDefEqProofs; first | refine hK _ ?_ | refine hK _ _ (by rfl) ?_ | fail) | fail)
    refine aw_ret (fin_ret ?_); simp -implicitDefEqProofs [FinP, resV, resT] <;> try rfl
  obtain ⟨⟨ax, al⟩, hy⟩ : ∃ a, ml[k]? = some a := ⟨_, List.getElem?_eq_getElem hkl⟩
  have hy' := (List.getElem?_eq_some_iff.1 hy).2
  have w2 : IntKind.i64.wrap ((k : Nat) + 1 : Int) = (k : Nat) + 1 := i64i _ (by omega) (by omega)
  have hkl' : (k : Int) < (ml.length : Nat) := by omega
  obtain ⟨s1, s2⟩ := hd _ (List.mem_of_getElem? hy)
  have hc := srdecl_row x ml hml (.mk ax al) s1 s2
  have hz0 := dec_z0 ml (.mk ax al)
  have hsn := decsS_snoc ml (.mk ax al) (ml.take k)
  rw [show ml.take k ++ [.mk ax al] = ml.take (k + 1) by rw [List.take_add_one, hy]; rfl, if_neg (by simpa using d1 k hk)] at hsn
  have hal := decs_len ml (ml.take k) (d1 k hk)
  rw [List.length_take, Nat.min_eq_left (Nat.le_of_lt hkl)] at hal
  generalize (decsS ml (ml.take k)).1 = acc at hsn hal ⊢
  generalize decS ml (.mk ax al) = g at hc hz0 hsn
  obtain ⟨⟨gx, gl⟩, gp, ge⟩ := g
  dsimp only at hz0 hsn
  by_cases hge : ge = 0
  · subst hge
    rw [if_neg (by simp)] at hsn
    have h3 : (decsS ml (ml.take (k + 1))).2.2 = 0 := by rw [hsn]
    have hij : k + 1 ≤ j2 := by
      by_cases c : k = j2
      · subst c; exact absurd h3 (d2 hkl).1
      · omega
    have b1 : (k + 1) * 72 ≤ 140737488355328 := by omega
    have b2 : k + 1 ≤ 140737488355328 := by omega
    clear d1 d2 hfull hr
    repeat' (first | refine aw_seq ?_ | refine aw_skip ?_ | refine aw_block ?_ | refine aw_exit ?_ | refine aw_ct rfl ?_ | refine aw_cf rfl ?_ | ((first | refine aw_reg (fun K hK => ?_) | refine aw_drw mixd (fun K hK => ?_) | refine ar_call (cp hc ?_) | refine ard_call (dp hc ?_) | fail); simp -implicitDefEqProofs [hkl, hkl', hy, hy', hal, b1, b2, w2]) | refine hK _ ?_ | refine hK _ _ (by rfl) ?_ | fail)
    refine ⟨k + 1, hij, (by dsimp only; omega), ?_⟩
    rw [hI, hsn]; exact cov_intro [0, 1, 2, 89] (by simp -implicitDefEqProofs) (by simp -implicitDefEqProofs) (by decide) rfl (by simp)
  · rw [if_pos hge] at hsn
    have hkj : k = j2 := by
      by_cases c : k = j2
      · exact c
      · have := d1 (k + 1) (by omega)
        rw [hsn] at this
        exact absurd this hge
    have hq := (d2 (by omega)).2
    rw [← hkj, hsn] at hq
    have h4 : R = ⟨z0T, gp, ge⟩ := by rw [hr]; unfold wrpS; rw [hq]; dsimp only; rw [if_pos hge]
    subst h4
    clear d1 d2 hfull hr hsn hq
    repeat' (first | refine aw_seq ?_ | refine aw_skip ?_ | refine aw_block ?_ | refine aw_exit ?_ | refine aw_ct rfl ?_ | refine aw_cf rfl ?_ | ((first | refine aw_reg (fun K hK => ?_) | refine aw_drw mixd (fun K hK => ?_) | refine ar_call (cp hc ?_) | refine ard_call (dp hc ?_) | fail); simp -implicitDefEqProofs [hkl, hkl', hy, hy', hge]) | refine hK _ ?_ | refine hK _ _ (by rfl) ?_ | fail)
    refine aw_ret (fin_ret ?_); simp -implicitDefEqProofs [FinP, resV, resT] <;> try rfl
end Go.Proofs.Ythkfdheoakbfnaa.am
end
section
namespace Go.Proofs.Ythkfdheoakbfnaa.vt
open Go.Proofs.Ythkfdheoakbfnaa.am
set_option linter.unusedVariables false
structure Tok where
  k : Int
  n : Int
  s : ByteArray
  f : Int
  t : Int
def kc (x : Tok) : List PV := [I x.k, I x.n, Sx x.s, I x.f, I x.t]
abbrev vK (x : Tok) : AV := .v (.agg [.pv (I x.k), .pv (I x.n), .pv (Sx x.s), .pv (I x.f), .pv (I x.t)])
abbrev vKs (l : List Tok) : AV := .v (.c (.pv (.sl 5 (l.map kc))))
def endK : Tok := ⟨5, 0, ⟨#[]⟩, 0, 0⟩
def nxt (ts : List Tok) (i : Nat) : Tok := match ts[i]? with | some x => x | none => endK
theorem nxt_some {ts : List Tok} {i : Nat} {x : Tok} (h : ts[i]? = some x) : nxt ts i = x := by unfold nxt; rw [h]
theorem nxt_none {ts : List Tok} {i : Nat} (h : ts.length ≤ i) : nxt ts i = endK := by unfold nxt; rw [List.getElem?_eq_none h]
def quo (s : ByteArray) : Int := match s.data.toList with | c :: _ => if 97 ≤ c.toNat ∧ c.toNat ≤ 122 then 3 else 4 | [] => 4
def isK (s : ByteArray) (x : Tok) : Bool := decide (x.k = quo s) && decide (x.s = s)
theorem quo_34 (s : ByteArray) : quo s = 3 ∨ quo s = 4 := by
  unfold quo; split
  · split
    · exact .inl rfl
    · exact .inr rfl
  · exact .inr rfl
theorem isK_end (s : ByteArray) : isK s endK = false := by
  unfold isK endK
  rcases quo_34 s with h | h <;> rw [h] <;> rfl
theorem isK_at {s : ByteArray} {ts : List Tok} {i : Nat} (h : isK s (nxt ts i) = true) : ∃ x, ts[i]? = some x ∧ isK s x = true := by
  unfold nxt at h
  cases hx : ts[i]? with
  | none => rw [hx] at h; dsimp only at h; rw [isK_end] at h; cases h
  | some x => rw [hx] at h; exact ⟨x, rfl, h⟩
def er (e : Int) : Int := if e = 0 then 6 else e
def frT (ts : List Tok) (i : Nat) : Int := (nxt ts i).f
def toT (ts : List Tok) (i : Nat) : Int := (nxt ts i).t
abbrev wInt : ByteArray := ⟨#[105, 110, 116]⟩
abbrev wBool : ByteArray := ⟨#[98, 111, 111, 108]⟩
abbrev sOpen : ByteArray := ⟨#[91]⟩
abbrev sShut : ByteArray := ⟨#[93]⟩
def z0 : VT := .mk ⟨0, 0, ⟨#[]⟩, 0, 0⟩ []
def tyG (ts : List Tok) : Nat → Nat → VT × Nat × Int
  | 0, i => (z0, i, 6)
  | n + 1, i =>
    if isK wInt (nxt ts i) = true then (.mk ⟨1, 0, ⟨#[]⟩, frT ts i, toT ts i⟩ [], i + 1, 0)
    else if isK wBool (nxt ts i) = true then (.mk ⟨2, 0, ⟨#[]⟩, frT ts i, toT ts i⟩ [], i + 1, 0)
    else if isK sOpen (nxt ts i) = true then
      if (nxt ts (i + 1)).k = 2 then
        if isK sShut (nxt ts (i + 2)) = true then
          if (tyG ts n (i + 3)).2.2 = 0 then (.mk ⟨3, (nxt ts (i + 1)).n, ⟨#[]⟩, frT ts i, toT ts ((tyG ts n (i + 3)).2.1 - 1)⟩ [(tyG ts n (i + 3)).1], (tyG ts n (i + 3)).2.1, 0)
          else tyG ts n (i + 3)
        else (z0, i + 2, 6)
      else (z0, i + 1, 6)
    else if (nxt ts i).k = 1 then (.mk ⟨4, 0, (nxt ts i).s, frT ts i, toT ts i⟩ [], i + 1, 0)
    else (z0, i, 6)
theorem tyG_ok (ts : List Tok) : ∀ n i, ((tyG ts n i).2.2 = 0 → i < (tyG ts n i).2.1 ∧ (tyG ts n i).2.1 ≤ ts.length) ∧ ((tyG ts n i).2.2 ≠ 0 → (tyG ts n i).2.2 = 6 ∧ (tyG ts n i).1 = z0) ∧ (i ≤ ts.length → (tyG ts n i).2.1 ≤ ts.length) ∧ (tyG ts n i).1.size ≤ n + 1 := by
  have hlt : ∀ {s : ByteArray} {i : Nat}, isK s (nxt ts i) = true → i < ts.length := fun {s i} h => by
    obtain ⟨x, h1, _⟩ := isK_at h
    exact (List.getElem?_eq_some_iff.1 h1).1
  have hlk : ∀ {k : Int} {i : Nat}, (nxt ts i).k = k → k ≠ 5 → i < ts.length := fun {k i} h hk => by
    rcases Nat.lt_or_ge i ts.length with h1 | h1
    · exact h1
    · rw [nxt_none h1] at h; exact absurd h.symm hk
  intro n
  induction n with
  | zero => intro i; simp [tyG, z0, Tr.size_mk]
  | succ n ih =>
    intro i
    unfold tyG
    split
    · rename_i h; have := hlt h; simp [Tr.size_mk]; omega
    · split
      · rename_i h; have := hlt h; simp [Tr.size_mk]; omega
      · split
        · rename_i h0
          have h0 := hlt h0
          split
          · rename_i h1
            have h1 := hlk h1 (by omega)
            split
            · rename_i h2
              have h2 := hlt h2
              obtain ⟨a1, a2, a3, a4⟩ := ih (i + 3)
              split
              · rename_i h3
                have := a1 h3
                simp [Tr.size_mk]; omega
              · rename_i h3
                exact ⟨fun h => absurd h h3, fun h => a2 h, fun h => a3 (by omega), by omega⟩
            · simp [z0, Tr.size_mk]; omega
          · simp [z0, Tr.size_mk]; omega
        · split
          · rename_i h; have := hlk h (by omega); simp [Tr.size_mk]; omega
          · simp [z0, Tr.size_mk]
end Go.Proofs.Ythkfdheoakbfnaa.vt
end
section
namespace Go.Proofs.Ythkfdheoakbfnaa.vt
open Go.Proofs.Ythkfdheoakbfnaa.am
set_option linter.unusedVariables false
abbrev Got := VT × Nat × Int
def opS (s : ByteArray) : Int × Nat :=
  if s = ⟨#[124, 124]⟩ then (1, 1) else if s = ⟨#[38, 38]⟩ then (2, 2) else if s = ⟨#[61, 61]⟩ then (3, 3) else if s = ⟨#[33, 61]⟩ then (4, 3) else if s = ⟨#[60]⟩ then (5, 3) else if s = ⟨#[60, 61]⟩ then (6, 3)
  else if s = ⟨#[62]⟩ then (7, 3) else if s = ⟨#[62, 61]⟩ then (8, 3) else if s = ⟨#[43]⟩ then (9, 4) else if s = ⟨#[45]⟩ then (10, 4) else if s = ⟨#[42]⟩ then (11, 5) else if s = ⟨#[47]⟩ then (12, 5) else if s = ⟨#[37]⟩ then (13, 5) else (0, 6)
def opK (x : Tok) : Int × Nat := if x.k = 4 then opS x.s else (0, 6)
def mk7 (ts : List Tok) (a b : Nat) (k n : Int) (s : ByteArray) (l : List VT) : Got := (.mk ⟨k, n, s, frT ts a, toT ts (b - 1)⟩ l, b, 0)
def bad7 (i : Nat) : Got := (z0, i, 6)
abbrev sParO : ByteArray := ⟨#[40]⟩
abbrev sParS : ByteArray := ⟨#[41]⟩
abbrev sDot : ByteArray := ⟨#[46]⟩
abbrev sCom : ByteArray := ⟨#[44]⟩
abbrev sAt : ByteArray := ⟨#[64]⟩
abbrev sMin : ByteArray := ⟨#[45]⟩
abbrev sNot : ByteArray := ⟨#[33]⟩
abbrev wTrue : ByteArray := ⟨#[116, 114, 117, 101]⟩
abbrev wFals : ByteArray := ⟨#[102, 97, 108, 115, 101]⟩
abbrev wRead : ByteArray := ⟨#[114, 101, 97, 100]⟩
abbrev wNew : ByteArray := ⟨#[110, 101, 119]⟩
section
variable (ts : List Tok)
def lpL (P : Nat → Got) (l a : Nat) : Nat → Bool → Got → Got
  | 0, _, x => x
  | m + 1, t, x => if x.2.2 ≠ 0 then x else if (opK (nxt ts x.2.1)).2 ≠ l ∨ (l = 3 ∧ t = true) then x
      else if (P (x.2.1 + 1)).2.2 ≠ 0 then P (x.2.1 + 1)
      else lpL P l a m true (mk7 ts a (P (x.2.1 + 1)).2.1 10 (opK (nxt ts x.2.1)).1 ⟨#[]⟩ [x.1, (P (x.2.1 + 1)).1])
def lpP (E : Nat → Got) (a : Nat) : Nat → Got → Got
  | 0, x => x
  | m + 1, x => if x.2.2 ≠ 0 then x else if isK sOpen (nxt ts x.2.1) = true then
        if (E (x.2.1 + 1)).2.2 ≠ 0 then E (x.2.1 + 1)
        else if isK sShut (nxt ts (E (x.2.1 + 1)).2.1) = false then bad7 (E (x.2.1 + 1)).2.1
        else lpP E a m (mk7 ts a ((E (x.2.1 + 1)).2.1 + 1) 12 0 ⟨#[]⟩ [x.1, (E (x.2.1 + 1)).1])
      else if isK sDot (nxt ts x.2.1) = true then
        if (nxt ts (x.2.1 + 1)).k ≠ 1 then bad7 (x.2.1 + 1) else lpP E a m (mk7 ts a (x.2.1 + 2) 13 0 (nxt ts (x.2.1 + 1)).s [x.1])
      else x
def lpC (E : Nat → Got) : Nat → Nat → List VT → List VT × Nat × Int
  | 0, i, acc => (acc, i, 6)
  | m + 1, i, acc => if (E i).2.2 ≠ 0 then (acc, (E i).2.1, (E i).2.2) else if isK sCom (nxt ts (E i).2.1) = false then (acc ++ [(E i).1], (E i).2.1, 0) else lpC E m ((E i).2.1 + 1) (acc ++ [(E i).1])
def cloG (E : Nat → Got) (o : Nat) (few : Bool) (fs ls : ByteArray) : List VT × Nat × Int :=
  if isK fs (nxt ts o) = false then ([], o, 6) else if few = true ∧ isK ls (nxt ts (o + 1)) = true then ([], o + 2, 0)
  else if (lpC ts E (ts.length + 1) (o + 1) []).2.2 ≠ 0 then lpC ts E (ts.length + 1) (o + 1) []
  else if isK ls (nxt ts (lpC ts E (ts.length + 1) (o + 1) []).2.1) = false then ((lpC ts E (ts.length + 1) (o + 1) []).1, (lpC ts E (ts.length + 1) (o + 1) []).2.1, 6)
  else ((lpC ts E (ts.length + 1) (o + 1) []).1, (lpC ts E (ts.length + 1) (o + 1) []).2.1 + 1, 0)
def finC (i : Nat) (k : Int) (s : ByteArray) (c : List VT × Nat × Int) : Got := if c.2.2 ≠ 0 then (z0, c.2.1, c.2.2) else mk7 ts i c.2.1 k 0 s c.1
def calG (E : Nat → Got) (i : Nat) : Got :=
  if (nxt ts i).k = 1 then finC ts i 16 (nxt ts i).s (cloG ts E (i + 1) true sParO sParS)
  else if isK sOpen (nxt ts i) = true then finC ts i 14 ⟨#[]⟩ (cloG ts E i false sOpen sShut)
  else if isK sAt (nxt ts i) = true then if (nxt ts (i + 1)).k ≠ 1 then bad7 (i + 1) else finC ts i 17 (nxt ts (i + 1)).s (cloG ts E (i + 2) true sParO sParS)
  else if isK wNew (nxt ts i) = true then if (nxt ts (i + 1)).k ≠ 1 then bad7 (i + 1) else finC ts i 15 (nxt ts (i + 1)).s (cloG ts E (i + 2) false sParO sParS)
  else bad7 i
def atoG (E : Nat → Got) (i : Nat) : Got :=
  if (nxt ts i).k = 2 then mk7 ts i (i + 1) 5 (nxt ts i).n ⟨#[]⟩ []
  else if isK wTrue (nxt ts i) = true then mk7 ts i (i + 1) 6 1 ⟨#[]⟩ []
  else if isK wFals (nxt ts i) = true then mk7 ts i (i + 1) 6 0 ⟨#[]⟩ []
  else if isK wRead (nxt ts i) = true then mk7 ts i (i + 1) 18 0 ⟨#[]⟩ []
  else if (nxt ts i).k = 1 ∧ isK sParO (nxt ts (i + 1)) = false then mk7 ts i (i + 1) 19 0 (nxt ts i).s []
  else if isK sParO (nxt ts i) = true then
    if (E (i + 1)).2.2 ≠ 0 then E (i + 1) else if isK sParS (nxt ts (E (i + 1)).2.1) = false then bad7 (E (i + 1)).2.1 else ((E (i + 1)).1, (E (i + 1)).2.1 + 1, 0)
  else calG ts E i
def unN (i : Nat) : Int := if isK sNot (nxt ts i) = true then 2 else if isK sMin (nxt ts i) = true then 1 else 0
def bG (R : Nat → Nat → Got) (w i : Nat) : Got :=
  if w ≤ 5 then lpL ts (R (w + 1)) w i (ts.length + 1) false (R (w + 1) i)
  else if w = 6 then
    if unN ts i = 0 then R 7 i else if (R 6 (i + 1)).2.2 ≠ 0 then R 6 (i + 1) else mk7 ts i (R 6 (i + 1)).2.1 11 (unN ts i) ⟨#[]⟩ [(R 6 (i + 1)).1]
  else if w = 7 then lpP ts (R 1) i (ts.length + 1) (R 8 i)
  else atoG ts (R 1) i
def pG : Nat → Nat → Nat → Got
  | 0, _, i => bad7 i
  | n + 1, w, i => bG ts (pG n) w i
end
section
variable {ts : List Tok}
structure OkG (ts : List Tok) (i : Nat) (x : Got) : Prop where
  yes : x.2.2 = 0 → i < x.2.1 ∧ x.2.1 ≤ ts.length
  no : x.2.2 ≠ 0 → x.2.2 = 6 ∧ x.1 = z0
  le : i ≤ ts.length → i ≤ x.2.1 ∧ x.2.1 ≤ ts.length
theorem isK_lt {s : ByteArray} {i : Nat} (h : isK s (nxt ts i) = true) : i < ts.length := by
  obtain ⟨x, h1, _⟩ := isK_at h
  exact (List.getElem?_eq_some_iff.1 h1).1
theorem k_lt {k : Int} {i : Nat} (h : (nxt ts i).k = k) (hk : k ≠ 5) : i < ts.length := by
  rcases Nat.lt_or_ge i ts.length with h1 | h1
  · exact h1
  · rw [nxt_none h1] at h; exact absurd h.symm hk
theorem op_lt {l i : Nat} (h : (opK (nxt ts i)).2 = l) (hl : l ≤ 5) : i < ts.length := by
  rcases Nat.lt_or_ge i ts.length with h1 | h1
  · exact h1
  · rw [nxt_none h1] at h
    have : (opK endK).2 = 6 := rfl
    omega
theorem ok_bad {i j : Nat} (h : i ≤ ts.length → i ≤ j ∧ j ≤ ts.length) : OkG ts i (bad7 j) := ⟨fun h => by simp [bad7] at h, fun _ => ⟨rfl, rfl⟩, h⟩
theorem ok_mk {i b : Nat} {k n : Int} {s : ByteArray} {l : List VT} (h : i < b) (hb : b ≤ ts.length) : OkG ts i (mk7 ts i b k n s l) := ⟨fun _ => ⟨h, hb⟩, fun h => absurd rfl h, fun _ => ⟨Nat.le_of_lt h, hb⟩⟩
theorem lpL_ok {P : Nat → Got} {l a : Nat} (hl : l ≤ 5) (hP : ∀ j, j ≤ ts.length → OkG ts j (P j)) : ∀ (m : Nat) (t : Bool) (x : Got), OkG ts a x → OkG ts a (lpL ts P l a m t x)
  | 0, t, x, hx => hx
  | m + 1, t, x, hx => by
    unfold lpL
    split
    · exact hx
    · rename_i h0
      have h0 : x.2.2 = 0 := by simpa using h0
      split
      · exact hx
      · rename_i h1
        have h1 : (opK (nxt ts x.2.1)).2 = l := by simpa using (not_or.1 h1).1
        have hlt := op_lt h1 hl
        have hp := hP (x.2.1 + 1) (by omega)
        have hy := hx.yes h0
        split
        · rename_i h2
          exact ⟨fun h => absurd h h2, hp.no, fun _ => by have := hp.le (by omega); omega⟩
        · rename_i h2
          have h2 : (P (x.2.1 + 1)).2.2 = 0 := by simpa using h2
          have := hp.yes h2
          exact lpL_ok hl hP m true _ (ok_mk (by omega) this.2)
theorem lpL_congr {P P' : Nat → Got} {l a : Nat} (hl : l ≤ 5) (hP : ∀ j, j ≤ ts.length → OkG ts j (P j)) (he : ∀ j, a < j → j ≤ ts.length → P j = P' j) : ∀ (m : Nat) (t : Bool) (x : Got), OkG ts a x → lpL ts P l a m t x = lpL ts P' l a m t x
  | 0, t, x, hx => rfl
  | m + 1, t, x, hx => by
    unfold lpL
    split
    · rfl
    · rename_i h0
      have h0 : x.2.2 = 0 := by simpa using h0
      split
      · rfl
      · rename_i h1
        have h1 : (opK (nxt ts x.2.1)).2 = l := by simpa using (not_or.1 h1).1
        have hlt := op_lt h1 hl
        have hy := hx.yes h0
        have hp := hP (x.2.1 + 1) (by omega)
        rw [← he (x.2.1 + 1) (by omega) (by omega)]
        split
        · rfl
        · rename_i h2
          have h2 : (P (x.2.1 + 1)).2.2 = 0 := by simpa using h2
          have := hp.yes h2
          exact lpL_congr hl hP he m true _ (ok_mk (by omega) this.2)
theorem lpP_ok {E : Nat → Got} {a : Nat} (hE : ∀ j, j ≤ ts.length → OkG ts j (E j)) : ∀ (m : Nat) (x : Got), OkG ts a x → OkG ts a (lpP ts E a m x)
  | 0, x, hx => hx
  | m + 1, x, hx => by
    unfold lpP
    split
    · exact hx
    · rename_i h0
      have h0 : x.2.2 = 0 := by simpa using h0
      have hy := hx.yes h0
      split
      · rename_i h1
        have hlt := isK_lt h1
        have hp := hE (x.2.1 + 1) (by omega)
        split
        · rename_i h2
          exact ⟨fun h => absurd h h2, hp.no, fun _ => by have := hp.le (by omega); omega⟩
        · rename_i h2
          have h2 : (E (x.2.1 + 1)).2.2 = 0 := by simpa using h2
          have hyy := hp.yes h2
          split
          · exact ok_bad (fun _ => by omega)
          · rename_i h3
            have := isK_lt (s := sShut) (ts := ts) (by simpa using h3)
            exact lpP_ok hE m _ (ok_mk (by omega) (by omega))
      · split
        · rename_i h1
          have hlt := isK_lt h1
          split
          · exact ok_bad (fun _ => by omega)
          · rename_i h3
            have := k_lt (ts := ts) (k := 1) (by simpa using h3) (by decide)
            exact lpP_ok hE m _ (ok_mk (by omega) (by omega))
        · exact hx
theorem lpP_congr {E E' : Nat → Got} {a : Nat} (hE : ∀ j, j ≤ ts.length → OkG ts j (E j)) (he : ∀ j, a < j → j ≤ ts.length → E j = E' j) : ∀ (m : Nat) (x : Got), OkG ts a x → lpP ts E a m x = lpP ts E' a m x
  | 0, x, hx => rfl
  | m + 1, x, hx => by
    unfold lpP
    split
    · rfl
    · rename_i h0
      have h0 : x.2.2 = 0 := by simpa using h0
      have hy := hx.yes h0
      split
      · rename_i h1
        have hlt := isK_lt h1
        have hp := hE (x.2.1 + 1) (by omega)
        rw [← he (x.2.1 + 1) (by omega) (by omega)]
        split
        · rfl
        · rename_i h2
          have h2 : (E (x.2.1 + 1)).2.2 = 0 := by simpa using h2
          have hyy := hp.yes h2
          split
          · rfl
          · rename_i h3
            have := isK_lt (s := sShut) (ts := ts) (by simpa using h3)
            exact lpP_congr hE he m _ (ok_mk (by omega) (by omega))
      · split
        · rename_i h1
          have hlt := isK_lt h1
          split
          · rfl
          · rename_i h3
            have := k_lt (ts := ts) (k := 1) (by simpa using h3) (by decide)
            exact lpP_congr hE he m _ (ok_mk (by omega) (by omega))
        · rfl
structure OkC (ts : List Tok) (i : Nat) (x : List VT × Nat × Int) : Prop where
  le : i ≤ x.2.1 ∧ x.2.1 ≤ ts.length
  yes : x.2.2 = 0 → i < x.2.1
  no : x.2.2 ≠ 0 → x.2.2 = 6
theorem lpC_ok {E : Nat → Got} (hE : ∀ j, j ≤ ts.length → OkG ts j (E j)) : ∀ (m i : Nat) (acc : List VT), i ≤ ts.length → OkC ts i (lpC ts E m i acc)
  | 0, i, acc, hi => ⟨⟨Nat.le_refl _, hi⟩, fun h => by simp [lpC] at h, fun _ => rfl⟩
  | m + 1, i, acc, hi => by
    unfold lpC
    have hp := hE i hi
    split
    · rename_i h; exact ⟨hp.le hi, fun h' => absurd h' h, fun _ => (hp.no h).1⟩
    · rename_i h
      have h : (E i).2.2 = 0 := by simpa using h
      have hy := hp.yes h
      split
      · exact ⟨⟨by dsimp only; omega, hy.2⟩, fun _ => hy.1, fun h => absurd rfl h⟩
      · rename_i h3
        have hlt := isK_lt (s := sCom) (ts := ts) (by simpa using h3)
        have := lpC_ok hE m ((E i).2.1 + 1) (acc ++ [(E i).1]) (by omega)
        exact ⟨⟨by have := this.le; omega, this.le.2⟩, fun h => by have := this.yes h; omega, this.no⟩
theorem lpC_congr {E E' : Nat → Got} {a : Nat} (hE : ∀ j, j ≤ ts.length → OkG ts j (E j)) (he : ∀ j, a < j → j ≤ ts.length → E j = E' j) : ∀ (m i : Nat) (acc : List VT), a < i → i ≤ ts.length → lpC ts E m i acc = lpC ts E' m i acc
  | 0, i, acc, _, _ => rfl
  | m + 1, i, acc, ha, hi => by
    unfold lpC
    rw [← he i ha hi]
    split
    · rfl
    · rename_i h
      have h : (E i).2.2 = 0 := by simpa using h
      have hy := (hE i hi).yes h
      split
      · rfl
      · rename_i h3
        have hlt := isK_lt (s := sCom) (ts := ts) (by simpa using h3)
        exact lpC_congr hE he m _ _ (by omega) (by omega)
theorem cloG_ok {E : Nat → Got} (hE : ∀ j, j ≤ ts.length → OkG ts j (E j)) {o : Nat} (few : Bool) (fs ls : ByteArray) (ho : o ≤ ts.length) : OkC ts o (cloG ts E o few fs ls) := by
  unfold cloG
  split
  · exact ⟨⟨Nat.le_refl _, ho⟩, fun h => by simp at h, fun _ => rfl⟩
  · rename_i h0
    have h0 := isK_lt (s := fs) (ts := ts) (by simpa using h0)
    split
    · rename_i h1
      have h1 := isK_lt h1.2
      exact ⟨⟨by dsimp only; omega, by dsimp only; omega⟩, fun _ => by dsimp only; omega, fun h => absurd rfl h⟩
    · have hc := lpC_ok hE (ts.length + 1) (o + 1) [] (by omega)
      split
      · exact ⟨⟨by have := hc.le; omega, hc.le.2⟩, fun h => by have := hc.yes h; omega, hc.no⟩
      · rename_i h2
        split
        · exact ⟨⟨by have := hc.le; dsimp only; omega, hc.le.2⟩, fun h => by simp at h, fun _ => rfl⟩
        · rename_i h3
          have := isK_lt (s := ls) (ts := ts) (by simpa using h3)
          exact ⟨⟨by have := hc.le; dsimp only; omega, by dsimp only; omega⟩, fun _ => by have := hc.le; dsimp only; omega, fun h => absurd rfl h⟩
theorem cloG_congr {E E' : Nat → Got} {a : Nat} (hE : ∀ j, j ≤ ts.length → OkG ts j (E j)) (he : ∀ j, a < j → j ≤ ts.length → E j = E' j) {o : Nat} (few : Bool) (fs ls : ByteArray) (ho : a ≤ o) : cloG ts E o few fs ls = cloG ts E' o few fs ls := by
  unfold cloG
  split
  · rfl
  · rename_i h0
    have h0 := isK_lt (s := fs) (ts := ts) (by simpa using h0)
    rw [lpC_congr hE he (ts.length + 1) (o + 1) [] (by omega) (by omega)]
theorem fin_ok {i o : Nat} {k : Int} {s : ByteArray} {c : List VT × Nat × Int} (h : OkC ts o c) (ho : i ≤ o) : OkG ts i (finC ts i k s c) := by
  unfold finC
  split
  · rename_i h0; exact ⟨fun h' => absurd h' h0, fun _ => ⟨h.no h0, rfl⟩, fun _ => by have := h.le; dsimp only; omega⟩
  · rename_i h0
    exact ok_mk (by have := h.yes (by simpa using h0); omega) h.le.2
theorem calG_ok {E : Nat → Got} (hE : ∀ j, j ≤ ts.length → OkG ts j (E j)) (i : Nat) (hi : i ≤ ts.length) : OkG ts i (calG ts E i) := by
  unfold calG
  split
  · rename_i h; have := k_lt h (by decide); exact fin_ok (cloG_ok hE true sParO sParS (by omega)) (by omega)
  · split
    · rename_i h; have := isK_lt h; exact fin_ok (cloG_ok hE false sOpen sShut (by omega)) (by omega)
    · split
      · rename_i h; have := isK_lt h
        split
        · exact ok_bad (fun _ => by omega)
        · rename_i h2; have := k_lt (ts := ts) (k := 1) (by simpa using h2) (by decide)
          exact fin_ok (cloG_ok hE true sParO sParS (by omega)) (by omega)
      · split
        · rename_i h; have := isK_lt h
          split
          · exact ok_bad (fun _ => by omega)
          · rename_i h2; have := k_lt (ts := ts) (k := 1) (by simpa using h2) (by decide)
            exact fin_ok (cloG_ok hE false sParO sParS (by omega)) (by omega)
        · exact ok_bad (fun _ => by omega)
theorem calG_congr {E E' : Nat → Got} {i : Nat} (hE : ∀ j, j ≤ ts.length → OkG ts j (E j)) (he : ∀ j, i < j → j ≤ ts.length → E j = E' j) : calG ts E i = calG ts E' i := by
  unfold calG
  rw [cloG_congr hE he true sParO sParS (show i ≤ i + 1 by omega), cloG_congr hE he false sOpen sShut (Nat.le_refl i), cloG_congr hE he true sParO sParS (show i ≤ i + 2 by omega), cloG_congr hE he false sParO sParS (show i ≤ i + 2 by omega)]
theorem atoG_ok {E : Nat → Got} (hE : ∀ j, j ≤ ts.length → OkG ts j (E j)) (i : Nat) (hi : i ≤ ts.length) : OkG ts i (atoG ts E i) := by
  unfold atoG
  split
  · rename_i h; have := k_lt h (by decide); exact ok_mk (by omega) (by omega)
  split
  · rename_i h; have := isK_lt h; exact ok_mk (by omega) (by omega)
  split
  · rename_i h; have := isK_lt h; exact ok_mk (by omega) (by omega)
  split
  · rename_i h; have := isK_lt h; exact ok_mk (by omega) (by omega)
  split
  · rename_i h; have := k_lt h.1 (by decide); exact ok_mk (by omega) (by omega)
  split
  · rename_i h
    have := isK_lt h
    have hp := hE (i + 1) (by omega)
    split
    · rename_i h2; exact ⟨fun h => absurd h h2, hp.no, fun _ => by have := hp.le (by omega); omega⟩
    · rename_i h2
      have hy := hp.yes (by simpa using h2)
      split
      · exact ok_bad (fun _ => by omega)
      · rename_i h3
        have := isK_lt (s := sParS) (ts := ts) (by simpa using h3)
        exact ⟨fun _ => by dsimp only; omega, fun h => absurd rfl h, fun _ => by dsimp only; omega⟩
  · exact calG_ok hE i hi
theorem atoG_congr {E E' : Nat → Got} {i : Nat} (hE : ∀ j, j ≤ ts.length → OkG ts j (E j)) (he : ∀ j, i < j → j ≤ ts.length → E j = E' j) : atoG ts E i = atoG ts E' i := by
  unfold atoG
  rw [calG_congr hE he]
  by_cases h : isK sParO (nxt ts i) = true
  · have := isK_lt h
    rw [he (i + 1) (by omega) (by omega)]
  · simp only [h, if_false, Bool.false_eq_true]
theorem bG_ok {R : Nat → Nat → Got} (hR : ∀ w j, j ≤ ts.length → OkG ts j (R w j)) (w i : Nat) (hi : i ≤ ts.length) : OkG ts i (bG ts R w i) := by
  unfold bG
  split
  · rename_i h; exact lpL_ok h (hR _) _ _ _ (hR _ i hi)
  split
  · split
    · exact hR 7 i hi
    · rename_i h
      have hlt : i < ts.length := by
        unfold unN at h
        by_cases h1 : isK sNot (nxt ts i) = true
        · exact isK_lt h1
        · by_cases h2 : isK sMin (nxt ts i) = true
          · exact isK_lt h2
          · simp [h1, h2] at h
      have hp := hR 6 (i + 1) (by omega)
      split
      · rename_i h2; exact ⟨fun h => absurd h h2, hp.no, fun _ => by have := hp.le (by omega); omega⟩
      · rename_i h2
        have hy := hp.yes (by simpa using h2)
        exact ok_mk (by omega) hy.2
  split
  · exact lpP_ok (hR 1) _ _ (hR 8 i hi)
  · exact atoG_ok (hR 1) i hi
theorem pG_ok : ∀ (n w i : Nat), i ≤ ts.length → OkG ts i (pG ts n w i)
  | 0, w, i, hi => ok_bad (fun _ => ⟨Nat.le_refl _, hi⟩)
  | n + 1, w, i, hi => bG_ok (pG_ok n) w i hi
def me (ts : List Tok) (w i : Nat) : Nat := 9 * (ts.length - i) + (9 - w)
theorem bG_congr {R R' : Nat → Nat → Got} (hR : ∀ w j, j ≤ ts.length → OkG ts j (R w j)) {w i : Nat} (hi : i ≤ ts.length) (hw : w ≤ 8) (he : ∀ w' j, w' ≤ 8 → 1 ≤ w' → j ≤ ts.length → me ts w' j < me ts w i → R w' j = R' w' j) : bG ts R w i = bG ts R' w i := by
  have far : ∀ w' j, w' ≤ 8 → 1 ≤ w' → i < j → j ≤ ts.length → R w' j = R' w' j := fun w' j h0 h1 h2 h3 => he w' j h0 h1 h3 (by unfold me; omega)
  unfold bG
  split
  · rename_i h
    rw [lpL_congr h (hR _) (fun j h1 h2 => far (w + 1) j (by omega) (by omega) h1 h2) _ _ _ (hR _ i hi), he (w + 1) i (by omega) (by omega) hi (by unfold me; omega)]
  split
  · rename_i h
    subst h
    rw [he 7 i (by omega) (by omega) hi (by unfold me; omega)]
    split
    · rfl
    · rename_i h
      have hlt : i < ts.length := by
        unfold unN at h
        by_cases h1 : isK sNot (nxt ts i) = true
        · exact isK_lt h1
        · by_cases h2 : isK sMin (nxt ts i) = true
          · exact isK_lt h2
          · simp [h1, h2] at h
      rw [far 6 (i + 1) (by omega) (by omega) (by omega) (by omega)]
  split
  · rename_i h
    subst h
    rw [lpP_congr (hR 1) (fun j h1 h2 => far 1 j (by omega) (by omega) h1 h2) _ _ (hR 8 i hi), he 8 i (by omega) (by omega) hi (by unfold me; omega)]
  · exact atoG_congr (hR 1) (fun j h1 h2 => far 1 j (by omega) (by omega) h1 h2)
theorem pG_irr : ∀ (n n' w i : Nat), i ≤ ts.length → 1 ≤ w → w ≤ 8 → me ts w i < n → me ts w i < n' → pG ts n w i = pG ts n' w i
  | 0, _, _, _, _, _, _, h, _ => by omega
  | _ + 1, 0, _, _, _, _, _, _, h => by omega
  | n + 1, n' + 1, w, i, hi, h1, hw, hn, hn' => by
    show bG ts (pG ts n) w i = bG ts (pG ts n') w i
    exact bG_congr (pG_ok n) hi hw (fun w' j h1 h2 h3 h4 => pG_irr n n' w' j h3 h2 h1 (by omega) (by omega))
def Qx (ts : List Tok) (w i : Nat) : Got := pG ts (9 * ts.length + 10) w i
theorem Q_ok (w i : Nat) (hi : i ≤ ts.length) : OkG ts i (Qx ts w i) := pG_ok _ w i hi
theorem Q_eq (w i : Nat) (h1 : 1 ≤ w) (hw : w ≤ 8) (hi : i ≤ ts.length) : Qx ts w i = bG ts (Qx ts) w i := by
  show bG ts (pG ts (9 * ts.length + 9)) w i = _
  exact bG_congr (pG_ok _) hi hw (fun w' j h1 h2 h3 h4 => pG_irr _ _ w' j h3 h2 h1 (by unfold me; omega) (by unfold me; omega))
end
end Go.Proofs.Ythkfdheoakbfnaa.vt
end
section
namespace Go.Proofs.Ythkfdheoakbfnaa.vt
open Go.Proofs.Ythkfdheoakbfnaa.am
set_option linter.unusedVariables false
section
variable {ts : List Tok}
noncomputable def sm (l : List VT) : Nat := (l.map Tr.size).sum
def Sz (i : Nat) (x : Got) : Prop := x.2.2 = 0 → x.1.size + i ≤ x.2.1
theorem sz_mk {i b : Nat} {k n : Int} {s : ByteArray} {l : List VT} (h : sm l + i < b) : Sz i (mk7 ts i b k n s l) := fun _ => by
  show Tr.size (Tr.mk _ l) + i ≤ b
  rw [Tr.size_mk]
  unfold sm at h
  omega
theorem sm1 (a : VT) : sm [a] = a.size := by simp [sm]
theorem sm2 (a b : VT) : sm [a, b] = a.size + b.size := by simp [sm]
theorem sm_app (l : List VT) (a : VT) : sm (l ++ [a]) = sm l + a.size := by simp [sm]
theorem lpL_sz {P : Nat → Got} {l a : Nat} (hl : l ≤ 5) (hP : ∀ j, j ≤ ts.length → OkG ts j (P j)) (hS : ∀ j, j ≤ ts.length → Sz j (P j)) : ∀ (m : Nat) (t : Bool) (x : Got), OkG ts a x → Sz a x → Sz a (lpL ts P l a m t x)
  | 0, t, x, hx, hs => hs
  | m + 1, t, x, hx, hs => by
    unfold lpL
    split
    · exact hs
    · rename_i h0
      have h0 : x.2.2 = 0 := by simpa using h0
      split
      · exact hs
      · rename_i h1
        have h1 : (opK (nxt ts x.2.1)).2 = l := by simpa using (not_or.1 h1).1
        have hlt := op_lt h1 hl
        have hp := hP (x.2.1 + 1) (by omega)
        have hy := hx.yes h0
        split
        · rename_i h2; exact fun h => absurd h h2
        · rename_i h2
          have h2 : (P (x.2.1 + 1)).2.2 = 0 := by simpa using h2
          have := hp.yes h2
          have q1 := hS (x.2.1 + 1) (by omega) h2
          have q2 := hs h0
          exact lpL_sz hl hP hS m true _ (ok_mk (by omega) this.2) (sz_mk (by rw [sm2]; omega))
theorem lpP_sz {E : Nat → Got} {a : Nat} (hE : ∀ j, j ≤ ts.length → OkG ts j (E j)) (hS : ∀ j, j ≤ ts.length → Sz j (E j)) : ∀ (m : Nat) (x : Got), OkG ts a x → Sz a x → Sz a (lpP ts E a m x)
  | 0, x, hx, hs => hs
  | m + 1, x, hx, hs => by
    unfold lpP
    split
    · exact hs
    · rename_i h0
      have h0 : x.2.2 = 0 := by simpa using h0
      have hy := hx.yes h0
      have q2 := hs h0
      split
      · rename_i h1
        have hlt := isK_lt h1
        have hp := hE (x.2.1 + 1) (by omega)
        split
        · rename_i h2; exact fun h => absurd h h2
        · rename_i h2
          have h2 : (E (x.2.1 + 1)).2.2 = 0 := by simpa using h2
          have hyy := hp.yes h2
          have q1 := hS (x.2.1 + 1) (by omega) h2
          split
          · exact fun h => by simp [bad7] at h
          · rename_i h3
            have := isK_lt (s := sShut) (ts := ts) (by simpa using h3)
            exact lpP_sz hE hS m _ (ok_mk (by omega) (by omega)) (sz_mk (by rw [sm2]; omega))
      · split
        · rename_i h1
          have hlt := isK_lt h1
          split
          · exact fun h => by simp [bad7] at h
          · rename_i h3
            have := k_lt (ts := ts) (k := 1) (by simpa using h3) (by decide)
            exact lpP_sz hE hS m _ (ok_mk (by omega) (by omega)) (sz_mk (by rw [sm1]; omega))
        · exact hs
def Sc (i : Nat) (x : List VT × Nat × Int) : Prop := x.2.2 = 0 → sm x.1 + i ≤ x.2.1
theorem lpC_sz {E : Nat → Got} (hE : ∀ j, j ≤ ts.length → OkG ts j (E j)) (hS : ∀ j, j ≤ ts.length → Sz j (E j)) (i0 : Nat) : ∀ (m i : Nat) (acc : List VT), i ≤ ts.length → sm acc + i0 ≤ i → Sc i0 (lpC ts E m i acc)
  | 0, i, acc, hi, _ => fun h => by simp [lpC] at h
  | m + 1, i, acc, hi, ha => by
    unfold lpC
    have hp := hE i hi
    split
    · rename_i h; exact fun h' => absurd h' h
    · rename_i h
      have h : (E i).2.2 = 0 := by simpa using h
      have hy := hp.yes h
      have q := hS i hi h
      split
      · exact fun _ => by show sm (acc ++ [(E i).1]) + i0 ≤ (E i).2.1; rw [sm_app]; omega
      · rename_i h3
        have hlt := isK_lt (s := sCom) (ts := ts) (by simpa using h3)
        exact lpC_sz hE hS i0 m ((E i).2.1 + 1) (acc ++ [(E i).1]) (by omega) (by rw [sm_app]; omega)
theorem cloG_sz {E : Nat → Got} (hE : ∀ j, j ≤ ts.length → OkG ts j (E j)) (hS : ∀ j, j ≤ ts.length → Sz j (E j)) {o : Nat} (few : Bool) (fs ls : ByteArray) (ho : o ≤ ts.length) : (cloG ts E o few fs ls).2.2 = 0 → sm (cloG ts E o few fs ls).1 + o < (cloG ts E o few fs ls).2.1 := by
  unfold cloG
  split
  · exact fun h => by simp at h
  · rename_i h0
    have h0 := isK_lt (s := fs) (ts := ts) (by simpa using h0)
    split
    · exact fun _ => by show 0 + o < o + 2; omega
    · have hc := lpC_sz hE hS (o + 1) (ts.length + 1) (o + 1) [] (by omega) (by show 0 + (o + 1) ≤ o + 1; omega)
      split
      · rename_i h; exact fun h' => absurd h' h
      · rename_i h2
        have h2 : (lpC ts E (ts.length + 1) (o + 1) []).2.2 = 0 := by simpa using h2
        have := hc h2
        split
        · exact fun h => by simp at h
        · exact fun _ => by dsimp only; omega
theorem fin_sz {i o : Nat} {k : Int} {s : ByteArray} {c : List VT × Nat × Int} (h : c.2.2 = 0 → sm c.1 + o < c.2.1) (ho : i ≤ o) : Sz i (finC ts i k s c) := by
  unfold finC
  split
  · rename_i h0; exact fun h' => absurd h' h0
  · rename_i h0
    have := h (by simpa using h0)
    exact sz_mk (by omega)
theorem sz_bad {i j : Nat} : Sz i (bad7 j) := fun h => by simp [bad7] at h
theorem calG_sz {E : Nat → Got} (hE : ∀ j, j ≤ ts.length → OkG ts j (E j)) (hS : ∀ j, j ≤ ts.length → Sz j (E j)) (i : Nat) (hi : i ≤ ts.length) : Sz i (calG ts E i) := by
  unfold calG
  split
  · rename_i h; have := k_lt h (by decide); exact fin_sz (cloG_sz hE hS true sParO sParS (by omega)) (by omega)
  split
  · rename_i h; have := isK_lt h; exact fin_sz (cloG_sz hE hS false sOpen sShut (by omega)) (by omega)
  split
  · rename_i h; have := isK_lt h
    split
    · exact sz_bad
    · rename_i h2; have := k_lt (ts := ts) (k := 1) (by simpa using h2) (by decide)
      exact fin_sz (cloG_sz hE hS true sParO sParS (by omega)) (by omega)
  split
  · rename_i h; have := isK_lt h
    split
    · exact sz_bad
    · rename_i h2; have := k_lt (ts := ts) (k := 1) (by simpa using h2) (by decide)
      exact fin_sz (cloG_sz hE hS false sParO sParS (by omega)) (by omega)
  · exact sz_bad
theorem atoG_sz {E : Nat → Got} (hE : ∀ j, j ≤ ts.length → OkG ts j (E j)) (hS : ∀ j, j ≤ ts.length → Sz j (E j)) (i : Nat) (hi : i ≤ ts.length) : Sz i (atoG ts E i) := by
  have s0 : sm ([] : List VT) = 0 := rfl
  unfold atoG
  split
  · exact sz_mk (by omega)
  split
  · exact sz_mk (by omega)
  split
  · exact sz_mk (by omega)
  split
  · exact sz_mk (by omega)
  split
  · exact sz_mk (by omega)
  split
  · rename_i h
    have := isK_lt h
    split
    · rename_i h2; exact fun h => absurd h h2
    · rename_i h2
      have q := hS (i + 1) (by omega) (by simpa using h2)
      split
      · exact sz_bad
      · exact fun _ => by dsimp only; omega
  · exact calG_sz hE hS i hi
theorem bG_sz {R : Nat → Nat → Got} (hR : ∀ w j, j ≤ ts.length → OkG ts j (R w j)) (hS : ∀ w j, j ≤ ts.length → Sz j (R w j)) (w i : Nat) (hi : i ≤ ts.length) : Sz i (bG ts R w i) := by
  unfold bG
  split
  · rename_i h; exact lpL_sz h (hR _) (hS _) _ _ _ (hR _ i hi) (hS _ i hi)
  split
  · split
    · exact hS 7 i hi
    · rename_i h
      have hlt : i < ts.length := by
        unfold unN at h
        by_cases h1 : isK sNot (nxt ts i) = true
        · exact isK_lt h1
        · by_cases h2 : isK sMin (nxt ts i) = true
          · exact isK_lt h2
          · simp [h1, h2] at h
      split
      · rename_i h2; exact fun h => absurd h h2
      · rename_i h2
        have q := hS 6 (i + 1) (by omega) (by simpa using h2)
        exact sz_mk (by rw [sm1]; omega)
  split
  · exact lpP_sz (hR 1) (hS 1) _ _ (hR 8 i hi) (hS 8 i hi)
  · exact atoG_sz (hR 1) (hS 1) i hi
theorem pG_sz : ∀ (n w i : Nat), i ≤ ts.length → Sz i (pG ts n w i)
  | 0, w, i, hi => sz_bad
  | n + 1, w, i, hi => bG_sz (pG_ok n) (pG_sz n) w i hi
end
end Go.Proofs.Ythkfdheoakbfnaa.vt
end
