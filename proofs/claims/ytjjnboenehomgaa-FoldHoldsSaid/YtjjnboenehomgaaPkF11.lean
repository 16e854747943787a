import Derived.Test.YtjjnboenehomgaaPkF10
import Derived.Scope
import Derived.Test.YtjjnboenehomgaaPkF4
import Derived.IntWalk
section
namespace Go.Proofs.Ytjjnboenehomgaa.am
open Go.ChangeShapes Go.WideShapes Go.ChangeAt Go.RowKit
open vt
set_option linter.unusedVariables false
set_option linter.unusedSimpArgs false
theorem ofT_fo_size (m : VT) (L : List VT) (t : VT) : (ofT m L t).fo.size ≤ t.size := by
  induction t using Tr.ind with
  | h x l ih =>
  have hp := Tr.size_pos (Tr.mk x l)
  have hz : z0T.size ≤ (Tr.mk x l).size := by rw [show z0T.size = 1 by simp [Tr.size_mk]]; omega
  rw [ofT_mk]
  unfold ofC
  split
  · exact hz
  · split
    · exact hz
    · split
      · show (Tr.mk _ ([] : List VT)).size ≤ _
        rw [show (Tr.mk (⟨x.k, x.n, ⟨#[]⟩, 0, 0⟩ : Lab) ([] : List VT)).size = 1 by simp [Tr.size_mk]]; omega
      · split
        · rename_i g hg
          obtain ⟨y, hy, rfl⟩ := List.mem_map.1 (List.mem_of_find?_eq_some hg)
          have hys := kid_size (m := .mk x l) (d := y) hy
          exact Nat.le_trans (ih y hy) hys
        · split
          · show (Tr.mk _ _).size ≤ _
            rw [Tr.size_mk, Tr.size_mk, List.map_map, List.map_map]
            exact Nat.add_le_add_left (sum_le_map (fun y hy => ih y hy)) 1
          · exact hz
theorem badR_size (x : Lab) (e : Int) (t : VT) : (badR x e).t.size ≤ t.size := by
  have hp := Tr.size_pos t
  show z0T.size ≤ _
  rw [show z0T.size = 1 by simp [Tr.size_mk]]; exact hp
theorem blkT_size (m ret : VT) (x : Lab) : ∀ (l L acc : List VT), (∀ y ∈ l, ∀ L, (stmT m ret y L).t.size ≤ y.size) → (blkT m ret x l L acc).t.size ≤ 1 + (acc.map Tr.size).sum + (l.map Tr.size).sum
  | [], L, acc, _ => by unfold blkT; rw [Tr.size_mk]; simp
  | y :: l, L, acc, h => by
    unfold blkT
    have h1 := h y (by simp) L
    split
    · have := blkT_size m ret x l (brgT m L y) (acc ++ [(stmT m ret y L).t]) (fun z hz => h z (by simp [hz]))
      rw [List.map_append, List.sum_append] at this
      rw [List.map_cons, List.sum_cons]
      simp only [List.map_cons, List.map_nil, List.sum_cons, List.sum_nil] at this
      omega
    · rw [List.map_cons, List.sum_cons]; omega
theorem onlT_size (m : VT) (L : List VT) (t : VT) (a b : Int) : (onlT m L t a b).t.size ≤ t.size := by
  unfold onlT
  split
  · exact badR_size _ _ _
  · exact ofT_fo_size m L t
theorem prtT_size (m ret : VT) (L : List VT) (x : Lab) (i : Nat) (y : VT) (h : ∀ L, (stmT m ret y L).t.size ≤ y.size) : (prtT m ret L x i y).t.size ≤ y.size := by
  unfold prtT prtG
  split
  · exact h _
  · split
    · split
      · exact badR_size _ _ _
      · show (nmlT y).size ≤ _; rw [nmlT_size]; exact Nat.le_refl _
    · split
      · exact onlT_size ..
      · split
        · exact onlT_size ..
        · split
          · exact onlT_size ..
          · split
            · exact badR_size _ _ _
            · split
              · exact badR_size _ _ _
              · exact ofT_fo_size m L y
theorem prtsT_size (m ret : VT) (L : List VT) (x : Lab) : ∀ (l : List VT) (i : Nat), (∀ y ∈ l, ∀ L, (stmT m ret y L).t.size ≤ y.size) → ((prtsT m ret L x i l).map fun g => g.t.size).sum ≤ (l.map Tr.size).sum
  | [], i, _ => by simp [prtsT]
  | y :: r, i, h => by
    rw [prtsT, List.map_cons, List.sum_cons, List.map_cons, List.sum_cons]
    have h1 := prtT_size m ret L x i y (h y (by simp))
    have h2 := prtsT_size m ret L x r (i + 1) (fun z hz => h z (by simp [hz]))
    omega
theorem stmT_size (m ret : VT) (t : VT) : ∀ L, (stmT m ret t L).t.size ≤ t.size := by
  induction t using Tr.ind with
  | h x l ih =>
  intro L
  rw [stmT_eq]
  split
  · exact badR_size _ _ _
  · split
    · have := blkT_size m ret x l L [] ih
      rw [Tr.size_mk]; simpa using this
    · split
      · rename_i g hg
        obtain ⟨i, hi⟩ := List.mem_iff_getElem?.1 (List.mem_of_find?_eq_some hg)
        rw [prtsT_get] at hi
        obtain ⟨y, hy, rfl⟩ := Option.map_eq_some_iff.1 hi
        have hys := kid_size (m := .mk x l) (d := y) (List.mem_of_getElem? hy)
        exact Nat.le_trans (prtT_size m ret L x _ y (ih y (List.mem_of_getElem? hy))) hys
      · unfold endG
        split
        · exact badR_size _ _ _
        · split
          · exact badR_size _ _ _
          · show (Tr.mk _ _).size ≤ _
            rw [Tr.size_mk, Tr.size_mk, List.map_map]
            exact Nat.add_le_add_left (prtsT_size m ret L x l 0 ih) 1
theorem shpS_nat {x : Lab} {l : List VT} (h : shpS x l = true) (c29 : ¬ x.k = 29) : (l.length : Int) = (prtN x.k).1 ∧ ∀ (i : Nat) y, (prtN x.k).1 - (prtN x.k).2 ≤ i → l[i]? = some y → y.lab.k = 29 := by
  unfold shpS at h
  rw [if_neg c29, Bool.and_eq_true] at h
  refine ⟨of_decide_eq_true h.1, fun i y hi hy => ?_⟩
  have hd : y ∈ l.drop ((prtN x.k).1 - (prtN x.k).2).toNat := List.mem_iff_getElem?.2 ⟨i - ((prtN x.k).1 - (prtN x.k).2).toNat, by
    rw [List.getElem?_drop, show ((prtN x.k).1 - (prtN x.k).2).toNat + (i - ((prtN x.k).1 - (prtN x.k).2).toNat) = i by omega]; exact hy⟩
  have := List.all_eq_true.1 h.2 y hd
  unfold blkB at this
  exact of_decide_eq_true this
set_option maxRecDepth 100000 in
set_option maxHeartbeats 4000000 in
theorem rstmt_row (m ret : VT) (t : VT) : in64 t → StR m ret t ∧ BlR m ret t := by
  induction t using Tr.ind with
  | h x l ih =>
  intro ht
  have hkin := ((Tr.all_mk _ x l).1 ht).2
  have hbl := rblock_row m ret x l ht (fun y hy => (ih y hy (hkin y hy)).1)
  refine ⟨?_, hbl⟩
  intro L B hc
  have hsz := hc.le
  have hms := hc.hm.2
  have hlen := Tr.len_size (x := x) (l := l)
  have hsh := rshape_row x l (by omega)
  have hba := rbad16_row x l 12
  rw [stmT_eq]
  cases hS : shpS x l with
  | false =>
    rw [hS] at hsh
    rw [if_pos rfl]
    unfold badR at hba ⊢
    clear ih hbl
    obtain ⟨mx, ml⟩ := m
    obtain ⟨rx, rl⟩ := ret
    refine row_of Try.func116 rfl rfl (Nat.le_of_ble_eq_true rfl) ?_
    repeat' (first | refine aw_seq ?_ | refine aw_skip ?_ | refine aw_block ?_ | refine aw_exit ?_ | refine aw_cond rfl (fun _ => ?_) (fun hb => absurd hb (by decide)) | refine aw_cond rfl (fun hb => absurd hb (by decide)) (fun _ => ?_) | (refine aw_reg (fun K hK => ?_); simp -implicitDefEqProofs) | (refine aw_drw mixd (fun K hK => ?_); simp -implicitDefEqProofs) | refine hK _ ?_ | refine hK _ _ (by rfl) ?_ | (refine ar_call (cp hsh ?_); simp -implicitDefEqProofs) | (refine ard_call (dp hsh ?_); simp -implicitDefEqProofs) | (refine ar_call (cp hba ?_); simp -implicitDefEqProofs) | (refine ard_call (dp hba ?_); simp -implicitDefEqProofs) | fail)
    refine aw_ret (fin_ret ?_); simp -implicitDefEqProofs [FinP, resV, resT] <;> try rfl
  | true =>
  rw [hS] at hsh
  rw [if_neg (by simp)]
  clear hba
  by_cases c29 : x.k = 29
  · rw [if_pos c29]
    have hb := hbl L B hc
    rw [Tr.lab, Tr.kids] at hb
    obtain ⟨⟨⟨bx, bl⟩, gp, ge⟩, hG⟩ : ∃ g, blkT m ret x l L [] = g := ⟨_, rfl⟩
    rw [hG] at hb ⊢
    clear ih hbl hG
    obtain ⟨mx, ml⟩ := m
    obtain ⟨rx, rl⟩ := ret
    refine row_of Try.func116 rfl rfl (Nat.le_of_ble_eq_true rfl) ?_
    repeat' (first | refine aw_seq ?_ | refine aw_skip ?_ | refine aw_block ?_ | refine aw_exit ?_ | refine aw_cond rfl (fun _ => ?_) (fun hb => absurd hb (by decide)) | refine aw_cond rfl (fun hb => absurd hb (by decide)) (fun _ => ?_) | (refine aw_reg (fun K hK => ?_); simp -implicitDefEqProofs [c29]) | (refine aw_drw mixd (fun K hK => ?_); simp -implicitDefEqProofs [c29]) | refine hK _ ?_ | refine hK _ _ (by rfl) ?_ | (refine ar_call (cp hsh ?_); simp -implicitDefEqProofs [c29]) | (refine ard_call (dp hsh ?_); simp -implicitDefEqProofs [c29]) | (refine ar_call (cp hb ?_); simp -implicitDefEqProofs [c29]) | (refine ard_call (dp hb ?_); simp -implicitDefEqProofs [c29]) | fail)
    refine aw_ret (fin_ret ?_); simp -implicitDefEqProofs [FinP, resV, resT] <;> try rfl
  rw [if_neg c29]
  obtain ⟨hn, h29⟩ := shpS_nat hS c29
  have hpr : ∀ (k : Nat) y, l[k]? = some y → Row Try.prog 124 [vT m, vLs L, vT ret, vT (.mk x l), vI (k : Nat)] [] (vGr (prtT m ret L x k y)) [] := fun k y hy =>
    rpart_row m ret L B x l ht hc k y hy hn (fun hb => ⟨h29 k y hb hy, (ih y (List.mem_of_getElem? hy) (hkin y (List.mem_of_getElem? hy))).2⟩)
  have hro : ∀ y, y ∈ l → Row Try.prog 125 [vT y] [] (vT (rootT y)) [] := fun y hy => rroot_row y (by have := kid_size (m := .mk x l) (d := y) hy; omega)
  have hof : ∀ y, y ∈ l → Row Try.prog 126 [vT m, vLs L, vT y] [] (vGt (ofT m L y)) [] ∧ (ofT m L y).ty.size ≤ 1000000 := fun y hy => by
    have hys := kid_size (m := .mk x l) (d := y) hy
    exact ⟨rof_row m L B hc.hm hc.hL (by omega) (by have := hc.len; omega) y (hkin y hy) (by omega), by have := (ofT_ok hc.hm (by omega) hc.hL y (hkin y hy) (by omega)).ty.2; omega⟩
  obtain ⟨F, hF⟩ : ∃ F, (match (prtsT m ret L x 0 l).find? (fun g => !decide (g.er = 0)) with
    | some g => g
    | none => endG m L x l (prtsT m ret L x 0 l) : GR) = F := ⟨_, rfl⟩
  suffices hsuf : Row Try.prog 116 [vT m, vLs L, vT ret, vT (.mk x l)] [] (vGr F) [] by
    rw [← hF] at hsuf
    exact hsuf
  obtain ⟨P, hP⟩ : ∃ P, prtsT m ret L x 0 l = P := ⟨_, rfl⟩
  have hPg : ∀ (k : Nat) y, l[k]? = some y → P[k]? = some (prtT m ret L x k y) := fun k y hy => by
    rw [← hP, prtsT_get, hy, Nat.zero_add]; rfl
  have hPl : P.length = l.length := by rw [← hP, prtsT_len]
  rw [hP] at hF
  have hat : ∀ (k : Nat) y, l[k]? = some y → ¬ (prtT m ret L x k y).er = 0 → (∀ g ∈ P.take k, g.er = 0) → F = prtT m ret L x k y := by
    intro k y hy he hno
    rw [← hF, find_at (k := k) (hPg k y hy) (by simpa using he) (fun g hg => by simpa using hno g hg)]
  have hend : (∀ g ∈ P, g.er = 0) → F = endG m L x l P := by
    intro hno
    rw [← hF, List.find?_eq_none.2 (fun g hg => by simpa using hno g hg)]
  obtain ⟨Q, hQ⟩ : ∃ Q : List VT, P.map GR.t = Q := ⟨_, rfl⟩
  have hQl : Q.length = l.length := by rw [← hQ, List.length_map, hPl]
  have hQk : ∀ (k : Nat) y, l[k]? = some y → Q.take (k + 1) = Q.take k ++ [(prtT m ret L x k y).t] := fun k y h => by
    rw [List.take_add_one, ← hQ, List.getElem?_map, hPg k y h]; rfl
  have hPk : ∀ (k : Nat) y, l[k]? = some y → P.take (k + 1) = P.take k ++ [prtT m ret L x k y] := fun k y h => by
    rw [List.take_add_one, hPg k y h]; rfl
  have hend2 : (∀ g ∈ P, g.er = 0) → F = if x.k = 22 ∧ ¬ ((rootT (l.getD 0 z0T)).lab.k = 7 ∨ (rootT (l.getD 0 z0T)).lab.k = 9) then badR (l.getD 0 z0T).lab 12
    else if x.k = 22 ∧ same (ofT m L (l.getD 0 z0T)).ty (ofT m L (l.getD 1 z0T)).ty = false then badR x 10
    else ⟨.mk ⟨x.k, x.n, ⟨#[]⟩, 0, 0⟩ Q, 0, 0⟩ := fun h => by rw [hend h, ← hQ]; rfl
  have h22 : x.k = 22 → l.length = 2 := fun h => by rw [h] at hn; simp [prtN] at hn; omega
  have hbx := fun e => rbad16_row x l e
  clear hF hP hQ hend ih hbl hPg h29
  obtain ⟨mx, ml⟩ := m
  obtain ⟨rx, rl⟩ := ret
  refine row_of Try.func116 rfl rfl (Nat.le_of_ble_eq_true rfl) ?_
  repeat' (first | refine aw_seq ?_ | refine aw_skip ?_ | refine aw_block ?_ | refine aw_exit ?_ | refine aw_cond rfl (fun _ => ?_) (fun hb => absurd hb (by decide)) | refine aw_cond rfl (fun hb => absurd hb (by decide)) (fun _ => ?_) | (refine aw_reg (fun K hK => ?_); simp -implicitDefEqProofs [c29]) | (refine aw_drw mixd (fun K hK => ?_); simp -implicitDefEqProofs [c29]) | refine hK _ ?_ | refine hK _ _ (by rfl) ?_ | (refine ar_call (cp hsh ?_); simp -implicitDefEqProofs [c29]) | (refine ard_call (dp hsh ?_); simp -implicitDefEqProofs [c29]) | fail)
  refine aw_lp (ι := Nat) (fun k => mkSt [(1, vLs L), (4, .v (.c (.ptr 0 0))), (6, .v (.c (.ptr 1 0))), (7, .v (.c (.ptr 2 0))), (8, .v (.c (.ptr 3 0))), (9, .v (.c (.ptr 4 0))), (10, vI (k : Nat))] [some (.box (ta (.mk mx ml))), some (.box (ta (.mk rx rl))), some (.box (ta (.mk x l))), some (.box (ta z0T ++ [.pv (I 0), .pv (I 0)])), some (.box [.pv (I x.k), .pv (I x.n), .pv (Sx ⟨#[]⟩), .row 5 6 ((Q.take k).map tc), .pv (I 0), .pv (I 0)]), some (.row 24 6)]) (fun k => k ≤ l.length ∧ ∀ g ∈ P.take k, g.er = 0) (fun k => l.length - k) 0 ⟨Nat.zero_le _, by simp⟩ (cov_intro [0, 1, 2, 3, 23, 21] (by simp -implicitDefEqProofs) (by simp -implicitDefEqProofs) (by decide) rfl (by simp)) (fun Z hI k hk => ?_)
  obtain ⟨hk, hz⟩ := hk
  by_cases hkl : k < l.length; rotate_left
  · have : k = l.length := by omega
    subst this
    rw [List.take_of_length_le (by omega)] at hz
    have hF := hend2 hz
    have e2 : Q.take l.length = Q := List.take_of_length_le (by omega)
    rw [e2]
    clear hat hend2 hPk hQk hpr
    by_cases c22 : x.k = 22; rotate_left
    · rw [if_neg (fun h => c22 h.1), if_neg (fun h => c22 h.1)] at hF
      subst hF
      repeat (first | refine aw_seq ?_ | refine aw_skip ?_ | refine aw_block ?_ | refine aw_exit ?_ | refine aw_cond rfl (fun _ => ?_) (fun hb => absurd hb (by decide)) | refine aw_cond rfl (fun hb => absurd hb (by decide)) (fun _ => ?_) | (refine aw_reg (fun K hK => ?_); simp -implicitDefEqProofs [c22]; refine hK _ ?_) | (refine aw_drw mixd (fun K hK => ?_); simp -implicitDefEqProofs [c22]; refine hK _ _ (by rfl) ?_) | fail)
      refine aw_ret (fin_ret ?_); simp -implicitDefEqProofs [FinP, resV, resT] <;> try rfl
    obtain ⟨⟨ax, al⟩, ⟨bx, bl⟩, rfl⟩ := two_of (h22 c22)
    have hr := hro (.mk ax al) (by simp)
    obtain ⟨h1, s1⟩ := hof (.mk ax al) (by simp)
    obtain ⟨h2, s2⟩ := hof (.mk bx bl) (by simp)
    have hba := rbad16_row ax al 12
    have hbt := hbx 10
    rw [show [Tr.mk ax al, .mk bx bl].getD 0 z0T = .mk ax al from rfl, show [Tr.mk ax al, .mk bx bl].getD 1 z0T = .mk bx bl from rfl, Tr.lab] at hF
    have hsa := rsame_row _ s1 _ s2
    obtain ⟨⟨wx, wl⟩, hW⟩ : ∃ g, rootT (.mk ax al) = g := ⟨_, rfl⟩
    obtain ⟨⟨⟨cx, cl⟩, ⟨dx, dl⟩, gp, ge⟩, hG⟩ : ∃ g, ofT (.mk mx ml) L (.mk ax al) = g := ⟨_, rfl⟩
    obtain ⟨⟨⟨ex, el⟩, ⟨fx, fl⟩, gp2, ge2⟩, hG2⟩ : ∃ g, ofT (.mk mx ml) L (.mk bx bl) = g := ⟨_, rfl⟩
    rw [hG] at h1 hF hsa
    rw [hG2] at h2 hF hsa
    rw [hW] at hr hF
    dsimp only [Tr.lab] at hF hsa
    obtain ⟨q, hq⟩ : ∃ q, same (.mk cx cl) (.mk ex el) = q := ⟨_, rfl⟩
    rw [hq] at hF hsa
    unfold badR at hF hba hbt
    clear hG hG2 hW hq hbx hro hof h22
    by_cases w7 : wx.k = 7 ∨ wx.k = 9; rotate_left
    · have n7 : ¬ wx.k = 7 := fun h => w7 (.inl h)
      have n9 : ¬ wx.k = 9 := fun h => w7 (.inr h)
      replace hF := hF.trans (if_pos ⟨c22, w7⟩)
      subst hF
      repeat' (first | refine aw_seq ?_ | refine aw_skip ?_ | refine aw_block ?_ | refine aw_exit ?_ | refine aw_cond rfl (fun _ => ?_) (fun hb => absurd hb (by decide)) | refine aw_cond rfl (fun hb => absurd hb (by decide)) (fun _ => ?_) | (refine aw_reg (fun K hK => ?_); simp -implicitDefEqProofs [c22, n7, n9]) | (refine aw_drw mixd (fun K hK => ?_); simp -implicitDefEqProofs [c22, n7, n9]) | refine hK _ ?_ | refine hK _ _ (by rfl) ?_ | (refine ar_call (cp hr ?_); simp -implicitDefEqProofs [c22, n7, n9]) | (refine ard_call (dp hr ?_); simp -implicitDefEqProofs [c22, n7, n9]) | (refine ar_call (cp hba ?_); simp -implicitDefEqProofs [c22, n7, n9]) | (refine ard_call (dp hba ?_); simp -implicitDefEqProofs [c22, n7, n9]) | fail)
      refine aw_ret (fin_ret ?_); simp -implicitDefEqProofs [FinP, resV, resT] <;> try rfl
    replace hF := hF.trans (if_neg (fun h => h.2 w7))
    cases q with
    | true =>
      replace hF := hF.trans (if_neg (by simp))
      subst hF
      rcases w7 with h | h
      · repeat' (first | refine aw_seq ?_ | refine aw_skip ?_ | refine aw_block ?_ | refine aw_exit ?_ | refine aw_cond rfl (fun _ => ?_) (fun hb => absurd hb (by decide)) | refine aw_cond rfl (fun hb => absurd hb (by decide)) (fun _ => ?_) | (refine aw_reg (fun K hK => ?_); simp -implicitDefEqProofs [c22, h]) | (refine aw_drw mixd (fun K hK => ?_); simp -implicitDefEqProofs [c22, h]) | refine hK _ ?_ | refine hK _ _ (by rfl) ?_ | (refine ar_call (cp hr ?_); simp -implicitDefEqProofs [c22, h]) | (refine ard_call (dp hr ?_); simp -implicitDefEqProofs [c22, h]) | (refine ar_call (cp h1 ?_); simp -implicitDefEqProofs [c22, h]) | (refine ard_call (dp h1 ?_); simp -implicitDefEqProofs [c22, h]) | (refine ar_call (cp h2 ?_); simp -implicitDefEqProofs [c22, h]) | (refine ard_call (dp h2 ?_); simp -implicitDefEqProofs [c22, h]) | (refine ar_call (cp hsa ?_); simp -implicitDefEqProofs [c22, h]) | (refine ard_call (dp hsa ?_); simp -implicitDefEqProofs [c22, h]) | fail)
        refine aw_ret (fin_ret ?_); simp -implicitDefEqProofs [FinP, resV, resT, c22] <;> try rfl
      · repeat' (first | refine aw_seq ?_ | refine aw_skip ?_ | refine aw_block ?_ | refine aw_exit ?_ | refine aw_cond rfl (fun _ => ?_) (fun hb => absurd hb (by decide)) | refine aw_cond rfl (fun hb => absurd hb (by decide)) (fun _ => ?_) | (refine aw_reg (fun K hK => ?_); simp -implicitDefEqProofs [c22, h]) | (refine aw_drw mixd (fun K hK => ?_); simp -implicitDefEqProofs [c22, h]) | refine hK _ ?_ | refine hK _ _ (by rfl) ?_ | (refine ar_call (cp hr ?_); simp -implicitDefEqProofs [c22, h]) | (refine ard_call (dp hr ?_); simp -implicitDefEqProofs [c22, h]) | (refine ar_call (cp h1 ?_); simp -implicitDefEqProofs [c22, h]) | (refine ard_call (dp h1 ?_); simp -implicitDefEqProofs [c22, h]) | (refine ar_call (cp h2 ?_); simp -implicitDefEqProofs [c22, h]) | (refine ard_call (dp h2 ?_); simp -implicitDefEqProofs [c22, h]) | (refine ar_call (cp hsa ?_); simp -implicitDefEqProofs [c22, h]) | (refine ard_call (dp hsa ?_); simp -implicitDefEqProofs [c22, h]) | fail)
        refine aw_ret (fin_ret ?_); simp -implicitDefEqProofs [FinP, resV, resT, c22] <;> try rfl
    | false =>
      replace hF := hF.trans (if_pos ⟨c22, rfl⟩)
      subst hF
      rcases w7 with h | h
      · repeat' (first | refine aw_seq ?_ | refine aw_skip ?_ | refine aw_block ?_ | refine aw_exit ?_ | refine aw_cond rfl (fun _ => ?_) (fun hb => absurd hb (by decide)) | refine aw_cond rfl (fun hb => absurd hb (by decide)) (fun _ => ?_) | (refine aw_reg (fun K hK => ?_); simp -implicitDefEqProofs [c22, h]) | (refine aw_drw mixd (fun K hK => ?_); simp -implicitDefEqProofs [c22, h]) | refine hK _ ?_ | refine hK _ _ (by rfl) ?_ | (refine ar_call (cp hr ?_); simp -implicitDefEqProofs [c22, h]) | (refine ard_call (dp hr ?_); simp -implicitDefEqProofs [c22, h]) | (refine ar_call (cp h1 ?_); simp -implicitDefEqProofs [c22, h]) | (refine ard_call (dp h1 ?_); simp -implicitDefEqProofs [c22, h]) | (refine ar_call (cp h2 ?_); simp -implicitDefEqProofs [c22, h]) | (refine ard_call (dp h2 ?_); simp -implicitDefEqProofs [c22, h]) | (refine ar_call (cp hsa ?_); simp -implicitDefEqProofs [c22, h]) | (refine ard_call (dp hsa ?_); simp -implicitDefEqProofs [c22, h]) | (refine ar_call (cp hbt ?_); simp -implicitDefEqProofs [c22, h]) | (refine ard_call (dp hbt ?_); simp -implicitDefEqProofs [c22, h]) | fail)
        refine aw_ret (fin_ret ?_); simp -implicitDefEqProofs [FinP, resV, resT] <;> try rfl
      · repeat' (first | refine aw_seq ?_ | refine aw_skip ?_ | refine aw_block ?_ | refine aw_exit ?_ | refine aw_cond rfl (fun _ => ?_) (fun hb => absurd hb (by decide)) | refine aw_cond rfl (fun hb => absurd hb (by decide)) (fun _ => ?_) | (refine aw_reg (fun K hK => ?_); simp -implicitDefEqProofs [c22, h]) | (refine aw_drw mixd (fun K hK => ?_); simp -implicitDefEqProofs [c22, h]) | refine hK _ ?_ | refine hK _ _ (by rfl) ?_ | (refine ar_call (cp hr ?_); simp -implicitDefEqProofs [c22, h]) | (refine ard_call (dp hr ?_); simp -implicitDefEqProofs [c22, h]) | (refine ar_call (cp h1 ?_); simp -implicitDefEqProofs [c22, h]) | (refine ard_call (dp h1 ?_); simp -implicitDefEqProofs [c22, h]) | (refine ar_call (cp h2 ?_); simp -implicitDefEqProofs [c22, h]) | (refine ard_call (dp h2 ?_); simp -implicitDefEqProofs [c22, h]) | (refine ar_call (cp hsa ?_); simp -implicitDefEqProofs [c22, h]) | (refine ard_call (dp hsa ?_); simp -implicitDefEqProofs [c22, h]) | (refine ar_call (cp hbt ?_); simp -implicitDefEqProofs [c22, h]) | (refine ard_call (dp hbt ?_); simp -implicitDefEqProofs [c22, h]) | fail)
        refine aw_ret (fin_ret ?_); simp -implicitDefEqProofs [FinP, resV, resT] <;> try rfl
  obtain ⟨y, ha⟩ : ∃ a, l[k]? = some a := ⟨_, List.getElem?_eq_getElem hkl⟩
  have hc := hpr k y ha
  have w2 : IntKind.i64.wrap ((k : Nat) + 1 : Int) = (k : Nat) + 1 := i64i _ (by omega) (by omega)
  have hs := hQk k _ ha
  have hpk := hPk k _ ha
  have hto := hat k y ha
  have hQkl : (Q.take k).length = k := by rw [List.length_take]; omega
  obtain ⟨QK, hQK⟩ : ∃ QK, Q.take k = QK := ⟨_, rfl⟩
  obtain ⟨⟨⟨bx, bl⟩, gp, ge⟩, hG⟩ : ∃ g, prtT (.mk mx ml) (.mk rx rl) L x k y = g := ⟨_, rfl⟩
  rw [hG] at hc hs hpk hto
  rw [hQK] at hs hQkl ⊢
  clear hG hQK hat hend2 hPk hQk hpr hro hof hbx
  have b1 : (k + 1) * 72 ≤ 140737488355328 := by omega
  have b2 : k + 1 ≤ 140737488355328 := by omega
  by_cases he : ge = 0
  · subst he
    repeat' (first | refine aw_seq ?_ | refine aw_skip ?_ | refine aw_block ?_ | refine aw_exit ?_ | refine aw_cond rfl (fun _ => ?_) (fun hb => absurd hb (by decide)) | refine aw_cond rfl (fun hb => absurd hb (by decide)) (fun _ => ?_) | (refine aw_reg (fun K hK => ?_); simp -implicitDefEqProofs [hkl, hQkl, b1, b2, w2]) | (refine aw_drw mixd (fun K hK => ?_); simp -implicitDefEqProofs [hkl, hQkl, b1, b2, w2]) | refine hK _ ?_ | refine hK _ _ (by rfl) ?_ | (refine ar_call (cp hc ?_); simp -implicitDefEqProofs [hkl, hQkl, b1, b2, w2]) | (refine ard_call (dp hc ?_); simp -implicitDefEqProofs [hkl, hQkl, b1, b2, w2]) | fail)
    refine ⟨k + 1, ⟨by omega, fun g hg => ?_⟩, (by dsimp only; omega), ?_⟩
    · rw [hpk] at hg
      rcases List.mem_append.1 hg with hg | hg
      · exact hz g hg
      · simp at hg; subst hg; rfl
    · rw [hI, hs]; exact cov_intro [0, 1, 2, 3, 4, 34] (by simp -implicitDefEqProofs) (by simp -implicitDefEqProofs) (by decide) rfl (by simp)
  · have hF := hto he hz
    subst hF
    repeat' (first | refine aw_seq ?_ | refine aw_skip ?_ | refine aw_block ?_ | refine aw_exit ?_ | refine aw_cond rfl (fun _ => ?_) (fun hb => absurd hb (by decide)) | refine aw_cond rfl (fun hb => absurd hb (by decide)) (fun _ => ?_) | (refine aw_reg (fun K hK => ?_); simp -implicitDefEqProofs [hkl, he]) | (refine aw_drw mixd (fun K hK => ?_); simp -implicitDefEqProofs [hkl, he]) | refine hK _ ?_ | refine hK _ _ (by rfl) ?_ | (refine ar_call (cp hc ?_); simp -implicitDefEqProofs [hkl, he]) | (refine ard_call (dp hc ?_); simp -implicitDefEqProofs [hkl, he]) | fail)
    refine aw_ret (fin_ret ?_); simp -implicitDefEqProofs [FinP, resV, resT] <;> try rfl
end Go.Proofs.Ytjjnboenehomgaa.am
end
section
namespace Go.Proofs.Ytjjnboenehomgaa.am
open Go.ChangeShapes Go.WideShapes Go.ChangeAt Go.RowKit
set_option linter.unusedVariables false
theorem aw_big {P : Program} {N nb : Nat} {c : Code} {st : St} {Q : Exit → St → Prop} (hn : st.nx ≤ 1000000) (h : AW P N nb c { tm := st.tm, hp := st.hp, nx := 1000000 } Q) : AW P N nb c st Q := fun X hX a w hr Q' hQ => by
  obtain ⟨h1, h2, γ, S, hm, hv⟩ := hr
  exact h X hX a w ⟨h1, h2, γ, S, hm.less (fun x hx => Nat.le_trans hn hx), hv⟩ Q' hQ
def ScQ (Q : Exit → St → Prop) : Exit → St → Prop
  | .goto _, _ => False
  | e, st => Q e st
theorem aw_scope {P : Program} {N nb : Nat} {c : Code} {st : St} {Q : Exit → St → Prop} (h : AW P N nb c st (ScQ Q)) : AW P N nb (.scope c) st Q := fun X hX a w hr Q' hQ =>
  wp_scope_straight (h X hX a w hr _ (fun e st' a' w' h1 h2 => by
    cases e with
    | goto l => exact h1.elim
    | _ => exact hQ _ _ _ _ h1 h2))
theorem aw_label {P : Program} {N nb : Nat} {l : Nat} {st : St} {Q : Exit → St → Prop} (h : Q .normal st) : AW P N nb (.label l) st Q := fun X hX a w hr Q' hQ => wp_label (hQ _ _ _ _ h hr)
end Go.Proofs.Ytjjnboenehomgaa.am
end
section
namespace Go.Proofs.Ytjjnboenehomgaa.am
open Go.ChangeShapes Go.WideShapes Go.ChangeAt Go.RowKit
open vt
set_option linter.unusedVariables false
set_option linter.unusedSimpArgs false
set_option maxRecDepth 100000 in
set_option maxHeartbeats 4000000 in
theorem rplac_row (t : VT) : t.size ≤ 1000000 → ∀ u : VT, u.size ≤ 1000000 → Row Try.prog 18 [vT t, vT u] [] (vB (plac t u)) [] := by
  induction t using Tr.ind with
  | h x l ih =>
  intro hsz u hsu
  obtain ⟨y, m⟩ := u
  have hlen := Tr.len_size (x := x) (l := l)
  rw [show plac (.mk x l) (.mk y m) = _ from eqv_mk pP x y l m]
  refine row_of Try.func18 rfl rfl (Nat.le_of_ble_eq_true rfl) ?_
  by_cases hk : x.k = y.k; rotate_left
  · repeat (first | refine aw_seq ?_ | refine aw_skip ?_ | refine aw_block ?_ | refine aw_exit ?_ | refine aw_cond rfl (fun _ => ?_) (fun hb => absurd hb (by decide)) | refine aw_cond rfl (fun hb => absurd hb (by decide)) (fun _ => ?_) | (refine aw_reg (fun K hK => ?_); simp -implicitDefEqProofs [hk]; refine hK _ ?_) | (refine aw_drw mixd (fun K hK => ?_); simp -implicitDefEqProofs [hk]; refine hK _ _ (by rfl) ?_) | fail)
    refine aw_ret (fin_ret ?_); simp -implicitDefEqProofs [FinP, resV, resT, hk, pP] <;> try rfl
  by_cases hn : x.n = y.n; rotate_left
  · repeat (first | refine aw_seq ?_ | refine aw_skip ?_ | refine aw_block ?_ | refine aw_exit ?_ | refine aw_cond rfl (fun _ => ?_) (fun hb => absurd hb (by decide)) | refine aw_cond rfl (fun hb => absurd hb (by decide)) (fun _ => ?_) | (refine aw_reg (fun K hK => ?_); simp -implicitDefEqProofs [hk, hn]; refine hK _ ?_) | (refine aw_drw mixd (fun K hK => ?_); simp -implicitDefEqProofs [hk, hn]; refine hK _ _ (by rfl) ?_) | fail)
    refine aw_ret (fin_ret ?_); simp -implicitDefEqProofs [FinP, resV, resT, hk, hn, pP] <;> try rfl
  by_cases hs : x.s = y.s; rotate_left
  · repeat (first | refine aw_seq ?_ | refine aw_skip ?_ | refine aw_block ?_ | refine aw_exit ?_ | refine aw_cond rfl (fun _ => ?_) (fun hb => absurd hb (by decide)) | refine aw_cond rfl (fun hb => absurd hb (by decide)) (fun _ => ?_) | (refine aw_reg (fun K hK => ?_); simp -implicitDefEqProofs [hk, hn, hs]; refine hK _ ?_) | (refine aw_drw mixd (fun K hK => ?_); simp -implicitDefEqProofs [hk, hn, hs]; refine hK _ _ (by rfl) ?_) | fail)
    refine aw_ret (fin_ret ?_); simp -implicitDefEqProofs [FinP, resV, resT, hk, hn, hs, pP] <;> try rfl
  by_cases hf : x.f = y.f; rotate_left
  · repeat (first | refine aw_seq ?_ | refine aw_skip ?_ | refine aw_block ?_ | refine aw_exit ?_ | refine aw_cond rfl (fun _ => ?_) (fun hb => absurd hb (by decide)) | refine aw_cond rfl (fun hb => absurd hb (by decide)) (fun _ => ?_) | (refine aw_reg (fun K hK => ?_); simp -implicitDefEqProofs [hk, hn, hs, hf]; refine hK _ ?_) | (refine aw_drw mixd (fun K hK => ?_); simp -implicitDefEqProofs [hk, hn, hs, hf]; refine hK _ _ (by rfl) ?_) | fail)
    refine aw_ret (fin_ret ?_); simp -implicitDefEqProofs [FinP, resV, resT, hk, hn, hs, hf, pP] <;> try rfl
  by_cases ht : x.t = y.t; rotate_left
  · repeat (first | refine aw_seq ?_ | refine aw_skip ?_ | refine aw_block ?_ | refine aw_exit ?_ | refine aw_cond rfl (fun _ => ?_) (fun hb => absurd hb (by decide)) | refine aw_cond rfl (fun hb => absurd hb (by decide)) (fun _ => ?_) | (refine aw_reg (fun K hK => ?_); simp -implicitDefEqProofs [hk, hn, hs, hf, ht]; refine hK _ ?_) | (refine aw_drw mixd (fun K hK => ?_); simp -implicitDefEqProofs [hk, hn, hs, hf, ht]; refine hK _ _ (by rfl) ?_) | fail)
    refine aw_ret (fin_ret ?_); simp -implicitDefEqProofs [FinP, resV, resT, hk, hn, hs, hf, ht, pP] <;> try rfl
  by_cases hm : l.length = m.length; rotate_left
  · have hm' : ¬ (l.length : Int) = (m.length : Int) := by omega
    repeat (first | refine aw_seq ?_ | refine aw_skip ?_ | refine aw_block ?_ | refine aw_exit ?_ | refine aw_cond rfl (fun _ => ?_) (fun hb => absurd hb (by decide)) | refine aw_cond rfl (fun hb => absurd hb (by decide)) (fun _ => ?_) | (refine aw_reg (fun K hK => ?_); simp -implicitDefEqProofs [hk, hn, hs, hf, ht, hm, hm']; refine hK _ ?_) | (refine aw_drw mixd (fun K hK => ?_); simp -implicitDefEqProofs [hk, hn, hs, hf, ht, hm, hm']; refine hK _ _ (by rfl) ?_) | fail)
    refine aw_ret (fin_ret ?_); simp -implicitDefEqProofs [FinP, resV, resT, hk, hn, hs, hf, ht, hm, pP] <;> try rfl
  repeat (first | refine aw_seq ?_ | refine aw_skip ?_ | refine aw_block ?_ | refine aw_exit ?_ | refine aw_cond rfl (fun _ => ?_) (fun hb => absurd hb (by decide)) | refine aw_cond rfl (fun hb => absurd hb (by decide)) (fun _ => ?_) | (refine aw_reg (fun K hK => ?_); simp -implicitDefEqProofs [hk, hn, hs, hf, ht, hm]; refine hK _ ?_) | (refine aw_drw mixd (fun K hK => ?_); simp -implicitDefEqProofs [hk, hn, hs, hf, ht, hm]; refine hK _ _ (by rfl) ?_) | fail)
  refine aw_lp (ι := Nat) (fun k => mkSt [(2, .v (.c (.ptr 0 0))), (3, .v (.c (.ptr 1 0))), (5, vI (k : Nat))] [some (.box (ta (.mk x l))), some (.box (ta (.mk y m)))]) (fun k => k ≤ l.length ∧ zipA (eqv pP) l m k = true) (fun k => l.length - k) 0 ⟨Nat.zero_le _, zipA_zero _ _ _⟩ (cov_intro [0, 1] (by simp -implicitDefEqProofs [hk, hn, hs, hf, ht, hm]) (by simp -implicitDefEqProofs [hk, hn, hs, hf, ht, hm]) (by decide) rfl (by simp)) (fun Z hI k hkz => ?_)
  obtain ⟨hkl', hz⟩ := hkz
  by_cases hkl : k < l.length; rotate_left
  · have : k = l.length := by omega
    subst this
    rw [show (pP x y && decide (l.length = m.length) && zipA (eqv pP) l m l.length) = true by rw [hz]; simp [pP, hk, hn, hs, hf, ht, hm]]
    repeat (first | refine aw_seq ?_ | refine aw_skip ?_ | refine aw_block ?_ | refine aw_exit ?_ | refine aw_cond rfl (fun _ => ?_) (fun hb => absurd hb (by decide)) | refine aw_cond rfl (fun hb => absurd hb (by decide)) (fun _ => ?_) | (refine aw_reg (fun K hK => ?_); simp -implicitDefEqProofs; refine hK _ ?_) | (refine aw_drw mixd (fun K hK => ?_); simp -implicitDefEqProofs; refine hK _ _ (by rfl) ?_) | fail)
    refine aw_ret (fin_ret ?_); simp -implicitDefEqProofs [FinP, resV, resT] <;> try rfl
  have hkm : k < m.length := by omega
  obtain ⟨⟨ax, al⟩, ha⟩ : ∃ a, l[k]? = some a := ⟨_, List.getElem?_eq_getElem hkl⟩
  obtain ⟨⟨bx, bl⟩, hb⟩ : ∃ a, m[k]? = some a := ⟨_, List.getElem?_eq_getElem hkm⟩
  have ha' := (List.getElem?_eq_some_iff.1 ha).2
  have hb' := (List.getElem?_eq_some_iff.1 hb).2
  have hsz1 := Tr.size_at (x := x) ha
  have hsz2 := Tr.size_at (x := y) hb
  have w2 : IntKind.i64.wrap ((k : Nat) + 1 : Int) = (k : Nat) + 1 := i64i _ (by omega) (by omega)
  have hzs := zipA_succ (f := eqv pP) ha hb
  repeat (first | refine aw_seq ?_ | refine aw_skip ?_ | refine aw_block ?_ | refine aw_exit ?_ | refine aw_cond rfl (fun _ => ?_) (fun hb => absurd hb (by decide)) | refine aw_cond rfl (fun hb => absurd hb (by decide)) (fun _ => ?_) | (refine aw_reg (fun K hK => ?_); simp -implicitDefEqProofs [hkl]; refine hK _ ?_) | (refine aw_drw mixd (fun K hK => ?_); simp -implicitDefEqProofs [hkl]; refine hK _ _ (by rfl) ?_) | fail)
  refine aw_drw mixd (fun K hK => ?_); simp -implicitDefEqProofs [hkl, hkm, ha, ha', hb, hb']
  refine ard_call (calld_pure (ih _ (List.mem_of_getElem? ha) (by omega) (.mk bx bl) (by omega)) (by simp) (fun _ => rfl) rfl ?_)
  simp -implicitDefEqProofs
  refine hK _ _ (by rfl) ?_
  refine aw_cond rfl (fun hb => ?_) (fun hb => ?_)
  · have hf : plac (.mk ax al) (.mk bx bl) = false := by simpa using hb
    repeat (first | refine aw_seq ?_ | refine aw_skip ?_ | refine aw_block ?_ | refine aw_exit ?_ | refine aw_cond rfl (fun _ => ?_) (fun hb => absurd hb (by decide)) | refine aw_cond rfl (fun hb => absurd hb (by decide)) (fun _ => ?_) | (refine aw_reg (fun K hK => ?_); simp -implicitDefEqProofs; refine hK _ ?_) | (refine aw_drw mixd (fun K hK => ?_); simp -implicitDefEqProofs; refine hK _ _ (by rfl) ?_) | fail)
    have e : zipA (eqv pP) l m l.length = false := by
      have := zipA_mono (l.length - (k + 1)) (show zipA (eqv pP) l m (k + 1) = false by rw [hzs, hz]; simpa using hf)
      rwa [show k + 1 + (l.length - (k + 1)) = l.length by omega] at this
    refine aw_ret (fin_ret ?_); simp -implicitDefEqProofs [FinP, resV, resT, e] <;> try rfl
  · have hf : plac (.mk ax al) (.mk bx bl) = true := by simpa using hb
    repeat (first | refine aw_seq ?_ | refine aw_skip ?_ | refine aw_block ?_ | refine aw_exit ?_ | refine aw_cond rfl (fun _ => ?_) (fun hb => absurd hb (by decide)) | refine aw_cond rfl (fun hb => absurd hb (by decide)) (fun _ => ?_) | (refine aw_reg (fun K hK => ?_); simp -implicitDefEqProofs [w2]; refine hK _ ?_) | (refine aw_drw mixd (fun K hK => ?_); simp -implicitDefEqProofs [w2]; refine hK _ _ (by rfl) ?_) | fail)
    refine ⟨k + 1, ⟨by omega, by rw [hzs, hz]; simpa using hf⟩, (by dsimp only; omega), ?_⟩
    rw [hI]; exact cov_intro [0, 1] (by simp -implicitDefEqProofs) (by simp -implicitDefEqProofs) (by decide) rfl (by simp)
end Go.Proofs.Ytjjnboenehomgaa.am
end
section
namespace Go.Proofs.Ytjjnboenehomgaa.am
open Go.ChangeShapes Go.WideShapes Go.ChangeAt Go.RowKit
open vt
set_option linter.unusedVariables false
set_option linter.unusedSimpArgs false
set_option maxRecDepth 100000 in
set_option maxHeartbeats 4000000 in
theorem rparted_row (l : List VT) (hl : l.length ≤ 1000000) : Row Try.prog 97 [vLs l] [] (vB (ptdB l)) [] := by
  unfold ptdB
  have hno := fun y (h : y ∈ l) (hp : partB y = false) => (show l.all partB = false by rw [List.all_eq_false]; exact ⟨y, h, by rw [hp]; simp⟩)
  have hyes : (∀ y ∈ l, partB y = true) → l.all partB = true := fun h => List.all_eq_true.2 h
  obtain ⟨R, hR⟩ : ∃ R, l.all partB = R := ⟨_, rfl⟩
  rw [hR] at hno hyes ⊢
  clear hR
  refine row_of Try.func97 rfl rfl (Nat.le_of_ble_eq_true rfl) ?_
  repeat (first | refine aw_seq ?_ | refine aw_skip ?_ | refine aw_block ?_ | refine aw_exit ?_ | refine aw_cond rfl (fun _ => ?_) (fun hb => absurd hb (by decide)) | refine aw_cond rfl (fun hb => absurd hb (by decide)) (fun _ => ?_) | (refine aw_reg (fun K hK => ?_); simp -implicitDefEqProofs; refine hK _ ?_) | (refine aw_drw mixd (fun K hK => ?_); simp -implicitDefEqProofs; refine hK _ _ (by rfl) ?_) | fail)
  refine aw_lp (ι := Nat) (fun k => mkSt [(0, vLs l), (3, vI (k : Nat))] []) (fun k => k ≤ l.length ∧ ∀ j y, j < k → l[j]? = some y → partB y = true) (fun k => l.length - k) 0 ⟨Nat.zero_le _, fun j y h => by omega⟩ (cov_intro [] (by simp -implicitDefEqProofs) (by simp -implicitDefEqProofs) (by decide) rfl (by simp)) (fun Z hI k hk => ?_)
  obtain ⟨hk, hz⟩ := hk
  by_cases hkl : k < l.length; rotate_left
  · have : k = l.length := by omega
    subst this
    have hR := hyes (fun y hy => by
      obtain ⟨j, hj⟩ := List.mem_iff_getElem?.1 hy
      exact hz j y (List.getElem?_eq_some_iff.1 hj).1 hj)
    subst hR
    clear hno hyes
    repeat (first | refine aw_seq ?_ | refine aw_skip ?_ | refine aw_block ?_ | refine aw_exit ?_ | refine aw_cond rfl (fun _ => ?_) (fun hb => absurd hb (by decide)) | refine aw_cond rfl (fun hb => absurd hb (by decide)) (fun _ => ?_) | (refine aw_reg (fun K hK => ?_); simp -implicitDefEqProofs; refine hK _ ?_) | (refine aw_drw mixd (fun K hK => ?_); simp -implicitDefEqProofs; refine hK _ _ (by rfl) ?_) | fail)
    refine aw_ret (fin_ret ?_); simp -implicitDefEqProofs [FinP, resV, resT] <;> try rfl
  obtain ⟨⟨ax, al⟩, ha⟩ : ∃ a, l[k]? = some a := ⟨_, List.getElem?_eq_getElem hkl⟩
  have ha' := (List.getElem?_eq_some_iff.1 ha).2
  have hmem := List.mem_of_getElem? ha
  have w2 : IntKind.i64.wrap ((k : Nat) + 1 : Int) = (k : Nat) + 1 := i64i _ (by omega) (by omega)
  by_cases h34 : ax.k = 34
  · by_cases h1 : al.length = 1
    · have h1' : (al.length : Int) = 1 := by omega
      clear hno hyes
      repeat (first | refine aw_seq ?_ | refine aw_skip ?_ | refine aw_block ?_ | refine aw_exit ?_ | refine aw_cond rfl (fun _ => ?_) (fun hb => absurd hb (by decide)) | refine aw_cond rfl (fun hb => absurd hb (by decide)) (fun _ => ?_) | (refine aw_reg (fun K hK => ?_); simp -implicitDefEqProofs [hkl, ha, ha', h34, h1, h1', w2]; refine hK _ ?_) | (refine aw_drw mixd (fun K hK => ?_); simp -implicitDefEqProofs [hkl, ha, ha', h34, h1, h1', w2]; refine hK _ _ (by rfl) ?_) | fail)
      refine ⟨k + 1, ⟨by omega, fun j y hj hy => ?_⟩, (by dsimp only; omega), ?_⟩
      · by_cases hjk : j = k
        · subst hjk; rw [ha] at hy; cases hy; simp [partB, Tr.lab, Tr.kids, h34, h1]
        · exact hz j y (by omega) hy
      · rw [hI]; exact cov_intro [] (by simp -implicitDefEqProofs) (by simp -implicitDefEqProofs) (by decide) rfl (by simp)
    · have h1' : ¬ (al.length : Int) = 1 := by omega
      have hR := hno _ hmem (by simp [partB, Tr.lab, Tr.kids, h34, h1])
      subst hR
      clear hno hyes
      repeat (first | refine aw_seq ?_ | refine aw_skip ?_ | refine aw_block ?_ | refine aw_exit ?_ | refine aw_cond rfl (fun _ => ?_) (fun hb => absurd hb (by decide)) | refine aw_cond rfl (fun hb => absurd hb (by decide)) (fun _ => ?_) | (refine aw_reg (fun K hK => ?_); simp -implicitDefEqProofs [hkl, ha, ha', h34, h1, h1']; refine hK _ ?_) | (refine aw_drw mixd (fun K hK => ?_); simp -implicitDefEqProofs [hkl, ha, ha', h34, h1, h1']; refine hK _ _ (by rfl) ?_) | fail)
      refine aw_ret (fin_ret ?_); simp -implicitDefEqProofs [FinP, resV, resT] <;> try rfl
  · have hR := hno _ hmem (by simp [partB, Tr.lab, Tr.kids, h34])
    subst hR
    clear hno hyes
    repeat (first | refine aw_seq ?_ | refine aw_skip ?_ | refine aw_block ?_ | refine aw_exit ?_ | refine aw_cond rfl (fun _ => ?_) (fun hb => absurd hb (by decide)) | refine aw_cond rfl (fun hb => absurd hb (by decide)) (fun _ => ?_) | (refine aw_reg (fun K hK => ?_); simp -implicitDefEqProofs [hkl, ha, ha', h34]; refine hK _ ?_) | (refine aw_drw mixd (fun K hK => ?_); simp -implicitDefEqProofs [hkl, ha, ha', h34]; refine hK _ _ (by rfl) ?_) | fail)
    refine aw_ret (fin_ret ?_); simp -implicitDefEqProofs [FinP, resV, resT] <;> try rfl
set_option maxRecDepth 100000 in
set_option maxHeartbeats 4000000 in
theorem rtypes_row (x px : Lab) (pl r : List VT) (hl : pl.length ≤ 1000000) (hp : ptdB pl = true) : Row Try.prog 98 [vT (.mk x (.mk px pl :: r))] [] (.v (.c (.row 0 6 ((typsT (.mk x (.mk px pl :: r))).map tc)))) [some (.row 24 6)] := by
  rw [show typsT (.mk x (.mk px pl :: r)) = pl.map (fun q => q.kids.getD 0 z0T) from rfl]
  refine row_of Try.func98 rfl rfl (Nat.le_of_ble_eq_true rfl) ?_
  repeat (first | refine aw_seq ?_ | refine aw_skip ?_ | refine aw_block ?_ | refine aw_exit ?_ | refine aw_cond rfl (fun _ => ?_) (fun hb => absurd hb (by decide)) | refine aw_cond rfl (fun hb => absurd hb (by decide)) (fun _ => ?_) | (refine aw_reg (fun K hK => ?_); simp -implicitDefEqProofs; refine hK _ ?_) | (refine aw_drw mixd (fun K hK => ?_); simp -implicitDefEqProofs; refine hK _ _ (by rfl) ?_) | fail)
  refine aw_lp (ι := Nat) (fun k => mkSt [(1, .v (.c (.ptr 0 0))), (3, .v (.c (.row 1 6 (((pl.take k).map (fun q => q.kids.getD 0 z0T)).map tc)))), (4, vI (k : Nat))] [some (.box (ta (.mk x (.mk px pl :: r)))), some (.row 24 6)]) (fun k => k ≤ pl.length) (fun k => pl.length - k) 0 (Nat.zero_le _) (cov_intro [0, 2] (by simp -implicitDefEqProofs) (by simp -implicitDefEqProofs) (by decide) rfl (by simp)) (fun Z hI k hk => ?_)
  by_cases hkl : k < pl.length; rotate_left
  · have : k = pl.length := by omega
    subst this
    rw [List.take_length]
    repeat (first | refine aw_seq ?_ | refine aw_skip ?_ | refine aw_block ?_ | refine aw_exit ?_ | refine aw_cond rfl (fun _ => ?_) (fun hb => absurd hb (by decide)) | refine aw_cond rfl (fun hb => absurd hb (by decide)) (fun _ => ?_) | (refine aw_reg (fun K hK => ?_); simp -implicitDefEqProofs; refine hK _ ?_) | (refine aw_drw mixd (fun K hK => ?_); simp -implicitDefEqProofs; refine hK _ _ (by rfl) ?_) | fail)
    refine aw_ret (fin_g [1] ?_); simp -implicitDefEqProofs [FinG, resV, resT] <;> try rfl
  obtain ⟨⟨ax, al⟩, ha⟩ : ∃ a, pl[k]? = some a := ⟨_, List.getElem?_eq_getElem hkl⟩
  have ha' := (List.getElem?_eq_some_iff.1 ha).2
  have hpt := List.all_eq_true.1 hp _ (List.mem_of_getElem? ha)
  simp [partB, Tr.kids] at hpt
  obtain ⟨⟨bx, bl⟩, rfl⟩ := one_of (l := al) (of_decide_eq_true hpt.2)
  have w2 : IntKind.i64.wrap ((k : Nat) + 1 : Int) = (k : Nat) + 1 := i64i _ (by omega) (by omega)
  have hs : (pl.take (k + 1)).map (fun q => q.kids.getD 0 z0T) = (pl.take k).map (fun q => q.kids.getD 0 z0T) ++ [.mk bx bl] := by rw [List.take_add_one, ha]; simp [Tr.kids]
  obtain ⟨L, hL⟩ : ∃ L, (pl.take k).map (fun q => q.kids.getD 0 z0T) = L := ⟨_, rfl⟩
  have hLl : L.length = k := by rw [← hL, List.length_map, List.length_take]; omega
  rw [hL] at hs ⊢
  have b1 : (k + 1) * 72 ≤ 140737488355328 := by omega
  have b2 : k + 1 ≤ 140737488355328 := by omega
  repeat (first | refine aw_seq ?_ | refine aw_skip ?_ | refine aw_block ?_ | refine aw_exit ?_ | refine aw_cond rfl (fun _ => ?_) (fun hb => absurd hb (by decide)) | refine aw_cond rfl (fun hb => absurd hb (by decide)) (fun _ => ?_) | (refine aw_reg (fun K hK => ?_); simp -implicitDefEqProofs [hkl, ha, ha', hLl, b1, b2, w2]; refine hK _ ?_) | (refine aw_drw mixd (fun K hK => ?_); simp -implicitDefEqProofs [hkl, ha, ha', hLl, b1, b2, w2]; refine hK _ _ (by rfl) ?_) | fail)
  refine ⟨k + 1, by omega, (by dsimp only; omega), ?_⟩
  rw [hI, hs]; exact cov_intro [0, 23] (by simp -implicitDefEqProofs) (by simp -implicitDefEqProofs) (by decide) rfl (by simp)
set_option maxRecDepth 100000 in
set_option maxHeartbeats 4000000 in
theorem rnmlA_row (x : Lab) (l : List VT) (hsz : (Tr.mk x l).size ≤ 1000000) : Row Try.prog 77 [vT (.mk x l)] [] (.v (.agg [.pv (I x.k), .pv (I x.n), .pv (Sx ⟨#[]⟩), .arr 0 6 l.length, .pv (I 0), .pv (I 0)])) [some (.arr 24 6 ((l.map nmlT).map tc))] := by
  have hlen := Tr.len_size (x := x) (l := l)
  refine row_of Try.func77 rfl rfl (Nat.le_of_ble_eq_true rfl) ?_
  repeat (first | refine aw_seq ?_ | refine aw_skip ?_ | refine aw_block ?_ | refine aw_exit ?_ | refine aw_cond rfl (fun _ => ?_) (fun hb => absurd hb (by decide)) | refine aw_cond rfl (fun hb => absurd hb (by decide)) (fun _ => ?_) | (refine aw_reg (fun K hK => ?_); simp -implicitDefEqProofs; refine hK _ ?_) | (refine aw_drw mixd (fun K hK => ?_); simp -implicitDefEqProofs; refine hK _ _ (by rfl) ?_) | fail)
  refine aw_nilca 7 3 [.pv (I x.k), .pv (I x.n), .pv (Sx ⟨#[]⟩), .pv .nilS, .pv (I 0), .pv (I 0)] 24 6 (by simp) (by simp) (by simp) ?_
  simp [St.nilca]
  refine aw_lp (ι := Nat) (fun k => mkSt [(1, .v (.c (.ptr 0 0))), (2, .v (.c (.ptr 1 0))), (3, .v (.c (.ptr 2 0))), (4, vI (k : Nat))] [some (.box (ta (.mk x l))), some (.box (ta (.mk ⟨0, 0, ⟨#[]⟩, 0, 0⟩ []))), some (.box [.pv (I x.k), .pv (I x.n), .pv (Sx ⟨#[]⟩), .arr 3 6 ((l.take k).map nmlT).length, .pv (I 0), .pv (I 0)]), some (.arr 24 6 (((l.take k).map nmlT).map tc))]) (fun k => k ≤ l.length) (fun k => l.length - k) 0 (Nat.zero_le _) (cov_intro [0, 1, 7, 10] (by simp -implicitDefEqProofs) (by simp -implicitDefEqProofs) (by decide) rfl (by simp)) (fun Z hI k hk => ?_)
  by_cases hkl : k < l.length; rotate_left
  · have : k = l.length := by omega
    subst this
    rw [List.take_length]
    repeat (first | refine aw_seq ?_ | refine aw_skip ?_ | refine aw_block ?_ | refine aw_exit ?_ | refine aw_cond rfl (fun _ => ?_) (fun hb => absurd hb (by decide)) | refine aw_cond rfl (fun hb => absurd hb (by decide)) (fun _ => ?_) | (refine aw_reg (fun K hK => ?_); simp -implicitDefEqProofs; refine hK _ ?_) | (refine aw_drw mixd (fun K hK => ?_); simp -implicitDefEqProofs; refine hK _ _ (by rfl) ?_) | fail)
    refine aw_ret (fin_g [3] ?_); simp -implicitDefEqProofs [FinG, resV, resT] <;> try rfl
  obtain ⟨⟨ax, al⟩, ha⟩ : ∃ a, l[k]? = some a := ⟨_, List.getElem?_eq_getElem hkl⟩
  have ha' := (List.getElem?_eq_some_iff.1 ha).2
  have hsz1 := Tr.size_at (x := x) ha
  have hc := rnml_row (.mk ax al) (by omega)
  have w2 : IntKind.i64.wrap ((k : Nat) + 1 : Int) = (k : Nat) + 1 := i64i _ (by omega) (by omega)
  have hs : (l.take (k + 1)).map nmlT = (l.take k).map nmlT ++ [nmlT (.mk ax al)] := by rw [List.take_add_one, ha]; simp
  obtain ⟨L, hL⟩ : ∃ L, (l.take k).map nmlT = L := ⟨_, rfl⟩
  have hLl : L.length = k := by rw [← hL, List.length_map, List.length_take]; omega
  rw [hL] at hs ⊢
  obtain ⟨⟨bx, bl⟩, hb⟩ : ∃ b, nmlT (.mk ax al) = b := ⟨_, rfl⟩
  rw [hb] at hc hs
  have b1 : (k + 1) * 72 ≤ 140737488355328 := by omega
  have b2 : k + 1 ≤ 140737488355328 := by omega
  repeat' (first | refine aw_seq ?_ | refine aw_skip ?_ | refine aw_block ?_ | refine aw_exit ?_ | refine aw_cond rfl (fun _ => ?_) (fun hb => absurd hb (by decide)) | refine aw_cond rfl (fun hb => absurd hb (by decide)) (fun _ => ?_) | (refine aw_reg (fun K hK => ?_); simp -implicitDefEqProofs [hkl, ha, ha', hLl, b1, b2, w2]) | (refine aw_drw mixd (fun K hK => ?_); simp -implicitDefEqProofs [hkl, ha, ha', hLl, b1, b2, w2]) | refine hK _ ?_ | refine hK _ _ (by rfl) ?_ | (refine ar_call (cp hc ?_); simp -implicitDefEqProofs [hkl, ha, ha', hLl, b1, b2, w2]) | (refine ard_call (dp hc ?_); simp -implicitDefEqProofs [hkl, ha, ha', hLl, b1, b2, w2]) | fail)
  refine ⟨k + 1, by omega, (by dsimp only; omega), ?_⟩
  rw [hI, hs]; exact cov_intro [0, 1, 2, 81] (by simp -implicitDefEqProofs [hLl]) (by simp -implicitDefEqProofs [hLl]) (by decide) rfl (by simp)
end Go.Proofs.Ytjjnboenehomgaa.am
end
