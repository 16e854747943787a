import Derived.Test.YthmdllhhmhbhbaaPkD5
import Derived.Test.YthmdllhhmhbhbaaPkD4
section
namespace Go.Proofs.Ythmdllhhmhbhbaa.am
open Go.ChangeShapes Go.WideShapes Go.ChangeAt Go.RowKit
open vt
set_option linter.unusedVariables false
set_option linter.unusedSimpArgs false
abbrev zT : VT := .mk ⟨0, 0, ⟨#[]⟩, 0, 0⟩ []
theorem okTo_less (i : Int) (n : Nat) (hn : n ≤ 1000000) : okTo (lessI i n) := by
  refine ⟨by rw [lessI_len]; exact hn, fun z hz => ?_⟩
  unfold lessI at hz
  obtain ⟨k, hk, rfl⟩ := List.mem_map.1 hz
  have := List.mem_range.1 hk
  split
  · omega
  · split <;> omega
set_option maxRecDepth 100000 in
set_option maxHeartbeats 4000000 in
theorem drop_row (m : VT) (hm : in64 m) (hsz : m.size ≤ 1000000) (i : Int) (hi : i ≤ 9223372036854775807) : Row Try.prog 7 [vT m, vI i] [] (vTB (if dropB m i = true then dropT m i else zT) (dropB m i)) [] := by
  obtain ⟨x, l⟩ := m
  have hlen := Tr.len_size (x := x) (l := l)
  by_cases h1 : x.k = 36; rotate_left
  · rw [show dropB (.mk x l) i = false by simp [dropB, h1]]
    refine row_of Try.func7 rfl rfl (Nat.le_of_ble_eq_true rfl) ?_
    repeat (first | refine aw_seq ?_ | refine aw_skip ?_ | refine aw_block ?_ | refine aw_exit ?_ | refine aw_cond rfl (fun _ => ?_) (fun hb => absurd hb (by decide)) | refine aw_cond rfl (fun hb => absurd hb (by decide)) (fun _ => ?_) | (refine aw_reg (fun K hK => ?_); simp -implicitDefEqProofs [h1]; refine hK _ ?_) | (refine aw_drw mixd (fun K hK => ?_); simp -implicitDefEqProofs [h1]; refine hK _ _ (by rfl) ?_) | fail)
    refine aw_ret (fin_ret ?_); simp -implicitDefEqProofs [FinP, resV, resT] <;> try rfl
  by_cases h2 : i < 0
  · rw [show dropB (.mk x l) i = false by simp [dropB]; intros; omega]
    refine row_of Try.func7 rfl rfl (Nat.le_of_ble_eq_true rfl) ?_
    repeat (first | refine aw_seq ?_ | refine aw_skip ?_ | refine aw_block ?_ | refine aw_exit ?_ | refine aw_cond rfl (fun _ => ?_) (fun hb => absurd hb (by decide)) | refine aw_cond rfl (fun hb => absurd hb (by decide)) (fun _ => ?_) | (refine aw_reg (fun K hK => ?_); simp -implicitDefEqProofs [h1, h2]; refine hK _ ?_) | (refine aw_drw mixd (fun K hK => ?_); simp -implicitDefEqProofs [h1, h2]; refine hK _ _ (by rfl) ?_) | fail)
    refine aw_ret (fin_ret ?_); simp -implicitDefEqProofs [FinP, resV, resT] <;> try rfl
  by_cases h3 : (l.length : Int) ≤ i
  · rw [show dropB (.mk x l) i = false by simp [dropB]; intros; omega]
    refine row_of Try.func7 rfl rfl (Nat.le_of_ble_eq_true rfl) ?_
    repeat (first | refine aw_seq ?_ | refine aw_skip ?_ | refine aw_block ?_ | refine aw_exit ?_ | refine aw_cond rfl (fun _ => ?_) (fun hb => absurd hb (by decide)) | refine aw_cond rfl (fun hb => absurd hb (by decide)) (fun _ => ?_) | (refine aw_reg (fun K hK => ?_); simp -implicitDefEqProofs [h1, h2, h3]; refine hK _ ?_) | (refine aw_drw mixd (fun K hK => ?_); simp -implicitDefEqProofs [h1, h2, h3]; refine hK _ _ (by rfl) ?_) | fail)
    refine aw_ret (fin_ret ?_); simp -implicitDefEqProofs [FinP, resV, resT] <;> try rfl
  obtain ⟨j, rfl⟩ : ∃ j : Nat, i = j := ⟨i.toNat, by omega⟩
  have hjl : j < l.length := by omega
  obtain ⟨⟨ax, al⟩, ha⟩ : ∃ a, l[j]? = some a := ⟨_, List.getElem?_eq_getElem hjl⟩
  have ha' := (List.getElem?_eq_some_iff.1 ha).2
  have hdb : dropB (.mk x l) (j : Nat) = (!(decide (ax.k = 33) && decide (ax.n = 1)) && !((l.eraseIdx j).any (nmsT (j : Nat)))) := by
    simp [dropB, h1, hjl, List.getD, ha', Tr.lab]
  by_cases h4 : ax.k = 33 ∧ ax.n = 1
  · rw [show dropB (.mk x l) (j : Nat) = false by rw [hdb]; simp [h4.1, h4.2]]
    refine row_of Try.func7 rfl rfl (Nat.le_of_ble_eq_true rfl) ?_
    repeat (first | refine aw_seq ?_ | refine aw_skip ?_ | refine aw_block ?_ | refine aw_exit ?_ | refine aw_cond rfl (fun _ => ?_) (fun hb => absurd hb (by decide)) | refine aw_cond rfl (fun hb => absurd hb (by decide)) (fun _ => ?_) | (refine aw_reg (fun K hK => ?_); simp -implicitDefEqProofs [h1, h2, h3, hjl, ha, ha', h4.1, h4.2]; refine hK _ ?_) | (refine aw_drw mixd (fun K hK => ?_); simp -implicitDefEqProofs [h1, h2, h3, hjl, ha, ha', h4.1, h4.2]; refine hK _ _ (by rfl) ?_) | fail)
    refine aw_ret (fin_ret ?_); simp -implicitDefEqProofs [FinP, resV, resT] <;> try rfl
  have hdb : dropB (.mk x l) (j : Nat) = !((l.eraseIdx j).any (nmsT (j : Nat))) := by
    rw [hdb]
    have : (decide (ax.k = 33) && decide (ax.n = 1)) = false := by
      rw [Bool.and_eq_false_iff, decide_eq_false_iff_not, decide_eq_false_iff_not]
      by_cases h5 : ax.k = 33
      · exact .inr (fun h6 => h4 ⟨h5, h6⟩)
      · exact .inl h5
    rw [this]; rfl
  obtain ⟨db, hdbb⟩ : ∃ db, dropB (.mk x l) (j : Nat) = db := ⟨_, rfl⟩
  rw [hdbb] at hdb ⊢
  refine row_of Try.func7 rfl rfl (Nat.le_of_ble_eq_true rfl) ?_
  refine aw_seq ?_
  refine aw_reg (fun K hK => ?_); simp -implicitDefEqProofs; refine hK _ ?_
  refine aw_meet (ι := Unit) (fun _ => mkSt [(1, vI (j : Nat)), (2, .v (.c (.ptr 0 0))), (4, .v (.c (.ptr 1 0)))] [some (.box (ta (.mk x l))), some (.box (ta zT))]) (fun _ => True) (fun I hI => ?_) (fun _ _ => ?_)
  · by_cases h5 : ax.k = 33
    · have h6 : ¬ ax.n = 1 := fun h6 => h4 ⟨h5, h6⟩
      repeat (first | refine aw_seq ?_ | refine aw_skip ?_ | refine aw_block ?_ | refine aw_exit ?_ | refine aw_cond rfl (fun _ => ?_) (fun hb => absurd hb (by decide)) | refine aw_cond rfl (fun hb => absurd hb (by decide)) (fun _ => ?_) | (refine aw_reg (fun K hK => ?_); simp -implicitDefEqProofs [h1, h2, h3, hjl, ha, ha', h5, h6]; refine hK _ ?_) | (refine aw_drw mixd (fun K hK => ?_); simp -implicitDefEqProofs [h1, h2, h3, hjl, ha, ha', h5, h6]; refine hK _ _ (by rfl) ?_) | fail)
      refine ⟨(), (by trivial), ?_⟩; rw [hI]; exact cov_intro [0, 1] (by simp -implicitDefEqProofs [h1]) (by simp -implicitDefEqProofs [h1]) (by decide) rfl (by simp)
    · repeat (first | refine aw_seq ?_ | refine aw_skip ?_ | refine aw_block ?_ | refine aw_exit ?_ | refine aw_cond rfl (fun _ => ?_) (fun hb => absurd hb (by decide)) | refine aw_cond rfl (fun hb => absurd hb (by decide)) (fun _ => ?_) | (refine aw_reg (fun K hK => ?_); simp -implicitDefEqProofs [h1, h2, h3, hjl, ha, ha', h5]; refine hK _ ?_) | (refine aw_drw mixd (fun K hK => ?_); simp -implicitDefEqProofs [h1, h2, h3, hjl, ha, ha', h5]; refine hK _ _ (by rfl) ?_) | fail)
      refine ⟨(), (by trivial), ?_⟩; rw [hI]; exact cov_intro [0, 1] (by simp -implicitDefEqProofs [h1]) (by simp -implicitDefEqProofs [h1]) (by decide) rfl (by simp)
  repeat (first | refine aw_seq ?_ | refine aw_skip ?_ | refine aw_block ?_ | refine aw_exit ?_ | refine aw_cond rfl (fun _ => ?_) (fun hb => absurd hb (by decide)) | refine aw_cond rfl (fun hb => absurd hb (by decide)) (fun _ => ?_) | (refine aw_reg (fun K hK => ?_); simp -implicitDefEqProofs; refine hK _ ?_) | (refine aw_drw mixd (fun K hK => ?_); simp -implicitDefEqProofs; refine hK _ _ (by rfl) ?_) | fail)
  clear hdbb h4
  refine aw_nilc 3 0 [.pv .nilS] 3 1 (by simp) (by simp) (by simp) ?_
  refine aw_lp (ι := Nat) (fun k => mkSt [(1, vI (j : Nat)), (2, .v (.c (.ptr 0 0))), (4, .v (.c (.ptr 1 0))), (6, .v (.c (.ptr 2 0))), (48, vLs l), (49, vI (l.length : Nat)), (50, vI (k : Nat))] [some (.box (ta (.mk x l))), some (.box (ta zT)), some (.box [.row 3 1 (ic (lessI (j : Nat) k))]), some (.row 3 1)]) (fun k => k ≤ l.length ∧ ∀ (q : Nat) t, l[q]? = some t → q < k → q ≠ j → nmsT (j : Nat) t = false) (fun k => l.length - k) 0 ⟨Nat.zero_le _, fun q t _ h => by omega⟩ (by unfold St.nilc; exact cov_intro [0, 1, 3, 9] (by simp -implicitDefEqProofs [lessI]) (by simp -implicitDefEqProofs [lessI]) (by decide) rfl (by simp)) (fun Z hI k hk => ?_)
  obtain ⟨hk, hz⟩ := hk
  by_cases hkl : k < l.length; rotate_left
  · have : k = l.length := by omega
    subst this
    have hdt : db = true := by
      rw [hdb, Bool.not_eq_true', List.any_eq_false]
      intro t ht
      obtain ⟨q, hq⟩ := List.mem_iff_getElem?.1 ht
      rw [List.getElem?_eraseIdx] at hq
      split at hq
      · rename_i hqj
        rw [hz q t hq (by have := (List.getElem?_eq_some_iff.1 hq).1; omega) (by omega)]; simp
      · rw [hz (q + 1) t hq (by have := (List.getElem?_eq_some_iff.1 hq).1; omega) (by omega)]; simp
    subst hdt
    simp only [if_true, dropT, Int.toNat_natCast]
    have hto := okTo_less (j : Nat) l.length (by omega)
    obtain ⟨to, hT⟩ : ∃ to, lessI (j : Nat) l.length = to := ⟨_, rfl⟩
    rw [hT] at hto ⊢
    repeat (first | refine aw_seq ?_ | refine aw_skip ?_ | refine aw_block ?_ | refine aw_exit ?_ | refine aw_cond rfl (fun _ => ?_) (fun hb => absurd hb (by decide)) | refine aw_cond rfl (fun hb => absurd hb (by decide)) (fun _ => ?_) | (refine aw_reg (fun K hK => ?_); simp -implicitDefEqProofs; refine hK _ ?_) | (refine aw_drw mixd (fun K hK => ?_); simp -implicitDefEqProofs; refine hK _ _ (by rfl) ?_) | fail)
    clear hz hdb
    refine aw_nil 9 24 6 (by simp) ?_
    refine aw_lp (ι := Nat) (fun k => mkSt [(1, vI (j : Nat)), (2, .v (.c (.ptr 0 0))), (4, .v (.c (.ptr 1 0))), (6, .v (.c (.ptr 2 0))), (9, .v (.c (.row 3 6 ((((l.take k).eraseIdx j).map (renum to)).map tc)))), (104, vLs l), (105, vI (l.length : Nat)), (106, vI (k : Nat))] [some (.box (ta (.mk x l))), some (.box (ta zT)), some (bxO to), some (.row 24 6)]) (fun k => k ≤ l.length) (fun k => l.length - k) 0 (Nat.zero_le _) (by unfold St.nil; exact cov_intro [0, 1, 2, 10] (by simp -implicitDefEqProofs) (by simp -implicitDefEqProofs) (by decide) rfl (by simp)) (fun Z2 hI2 k hk => ?_)
    by_cases hkl : k < l.length; rotate_left
    · have : k = l.length := by omega
      subst this
      rw [List.take_length]
      repeat (first | refine aw_seq ?_ | refine aw_skip ?_ | refine aw_block ?_ | refine aw_exit ?_ | refine aw_cond rfl (fun _ => ?_) (fun hb => absurd hb (by decide)) | refine aw_cond rfl (fun hb => absurd hb (by decide)) (fun _ => ?_) | (refine aw_reg (fun K hK => ?_); simp -implicitDefEqProofs; refine hK _ ?_) | (refine aw_drw mixd (fun K hK => ?_); simp -implicitDefEqProofs; refine hK _ _ (by rfl) ?_) | fail)
      refine aw_ret (fin_ret ?_); simp -implicitDefEqProofs [FinP, resV, resT] <;> try rfl
    obtain ⟨⟨bx, bl⟩, hb⟩ : ∃ a, l[k]? = some a := ⟨_, List.getElem?_eq_getElem hkl⟩
    have hb' := (List.getElem?_eq_some_iff.1 hb).2
    have hsz1 := Tr.size_at (x := x) hb
    have hc := walk_row to hto _ (kid_ok hm (List.mem_of_getElem? hb)) (by omega)
    have w2 : IntKind.i64.wrap ((k : Nat) + 1 : Int) = (k : Nat) + 1 := i64i _ (by omega) (by omega)
    have hs : ((l.take (k + 1)).eraseIdx j).map (renum to) = ((l.take k).eraseIdx j).map (renum to) ++ (if k = j then [] else [renum to (.mk bx bl)]) := by
      rw [er_succ hb, List.map_append]
      split <;> rfl
    obtain ⟨L, hL⟩ : ∃ L, ((l.take k).eraseIdx j).map (renum to) = L := ⟨_, rfl⟩
    have hLl : L.length ≤ k := by
      rw [← hL, List.length_map]
      exact Nat.le_trans (List.length_eraseIdx_le _ _) (by rw [List.length_take]; omega)
    rw [hL] at hs ⊢
    have b1 : (L.length + 1) * 72 ≤ 140737488355328 := by omega
    have b2 : L.length + 1 ≤ 140737488355328 := by omega
    by_cases hkj : k = j
    · rw [if_pos hkj, List.append_nil] at hs
      subst hkj
      repeat (first | refine aw_seq ?_ | refine aw_skip ?_ | refine aw_block ?_ | refine aw_exit ?_ | refine aw_cond rfl (fun _ => ?_) (fun hb => absurd hb (by decide)) | refine aw_cond rfl (fun hb => absurd hb (by decide)) (fun _ => ?_) | (refine aw_reg (fun K hK => ?_); simp -implicitDefEqProofs [hkl, hb, hb', w2]; refine hK _ ?_) | (refine aw_drw mixd (fun K hK => ?_); simp -implicitDefEqProofs [hkl, hb, hb', w2]; refine hK _ _ (by rfl) ?_) | fail)
      refine ⟨k + 1, by omega, (by dsimp only; omega), ?_⟩
      rw [hI2, hs]; exact cov_intro [0, 1, 2, 3] (by simp -implicitDefEqProofs) (by simp -implicitDefEqProofs) (by decide) rfl (by simp)
    · have hkj' : ¬ (k : Int) = (j : Int) := by omega
      rw [if_neg hkj] at hs
      obtain ⟨⟨cx, cl⟩, hcc⟩ : ∃ b, renum to (.mk bx bl) = b := ⟨_, rfl⟩
      rw [hcc] at hc hs
      repeat' (first | refine aw_seq ?_ | refine aw_skip ?_ | refine aw_block ?_ | refine aw_exit ?_ | refine aw_cond rfl (fun _ => ?_) (fun hb => absurd hb (by decide)) | refine aw_cond rfl (fun hb => absurd hb (by decide)) (fun _ => ?_) | (refine aw_reg (fun K hK => ?_); simp -implicitDefEqProofs [hkl, hb, hb', hkj', w2, b1, b2]) | (refine aw_drw mixd (fun K hK => ?_); simp -implicitDefEqProofs [hkl, hb, hb', hkj', w2, b1, b2]) | refine hK _ ?_ | refine hK _ _ (by rfl) ?_ | (refine ar_call (cb hc 2 ?_); simp -implicitDefEqProofs [hkl, hb, hb', hkj', w2, b1, b2]) | (refine ard_call (db hc 2 ?_); simp -implicitDefEqProofs [hkl, hb, hb', hkj', w2, b1, b2]) | fail)
      refine ⟨k + 1, by omega, (by dsimp only; omega), ?_⟩
      rw [hI2, hs]; exact cov_intro [0, 1, 2, 28] (by simp -implicitDefEqProofs) (by simp -implicitDefEqProofs) (by decide) rfl (by simp)
  obtain ⟨⟨bx, bl⟩, hb⟩ : ∃ a, l[k]? = some a := ⟨_, List.getElem?_eq_getElem hkl⟩
  have hb' := (List.getElem?_eq_some_iff.1 hb).2
  have hsz1 := Tr.size_at (x := x) hb
  have w2 : IntKind.i64.wrap ((k : Nat) + 1 : Int) = (k : Nat) + 1 := i64i _ (by omega) (by omega)
  have w3 : IntKind.i64.wrap ((k : Nat) - 1 : Int) = (k : Nat) - 1 := i64i _ (by omega) (by omega)
  have hn := names_row (j : Nat) (by omega) hi (.mk bx bl) (kid_ok hm (List.mem_of_getElem? hb)) (by omega)
  obtain ⟨nb, hnb⟩ : ∃ nb, nmsT (j : Nat) (.mk bx bl) = nb := ⟨_, rfl⟩
  rw [hnb] at hn
  have hs := lessI_succ (j : Nat) k
  obtain ⟨L, hL⟩ : ∃ L, lessI (j : Nat) k = L := ⟨_, rfl⟩
  have hLl : L.length = k := by rw [← hL, lessI_len]
  rw [hL] at hs ⊢
  have b1 : (k + 1) * 8 ≤ 140737488355328 := by omega
  have b2 : k + 1 ≤ 140737488355328 := by omega
  by_cases hkj : (k : Int) = (j : Int)
  · have e0 : k = j := by omega
    subst e0
    rw [if_neg (by omega), if_pos rfl] at hs
    repeat (first | refine aw_seq ?_ | refine aw_skip ?_ | refine aw_block ?_ | refine aw_exit ?_ | refine aw_cond rfl (fun _ => ?_) (fun hb => absurd hb (by decide)) | refine aw_cond rfl (fun hb => absurd hb (by decide)) (fun _ => ?_) | (refine aw_reg (fun K hK => ?_); simp -implicitDefEqProofs [hkl, hb, hb', w2, b1, b2, hLl]; refine hK _ ?_) | (refine aw_drw mixd (fun K hK => ?_); simp -implicitDefEqProofs [hkl, hb, hb', w2, b1, b2, hLl]; refine hK _ _ (by rfl) ?_) | fail)
    refine ⟨k + 1, ⟨by omega, fun q t hq h1 h2 => hz q t hq (by omega) h2⟩, (by dsimp only; omega), ?_⟩
    rw [hI, hs]; exact cov_intro [0, 1, 2, 30] (by simp -implicitDefEqProofs) (by simp -implicitDefEqProofs) (by decide) rfl (by simp)
  · cases nb with
    | true =>
      have hdf : db = false := by rw [hdb, any_er hb (by omega) hnb]; rfl
      subst hdf
      repeat' (first | refine aw_seq ?_ | refine aw_skip ?_ | refine aw_block ?_ | refine aw_exit ?_ | refine aw_cond rfl (fun _ => ?_) (fun hb => absurd hb (by decide)) | refine aw_cond rfl (fun hb => absurd hb (by decide)) (fun _ => ?_) | (refine aw_reg (fun K hK => ?_); simp -implicitDefEqProofs [hkl, hb, hb', hkj, w2]) | (refine aw_drw mixd (fun K hK => ?_); simp -implicitDefEqProofs [hkl, hb, hb', hkj, w2]) | refine hK _ ?_ | refine hK _ _ (by rfl) ?_ | (refine ar_call (cp hn ?_); simp -implicitDefEqProofs [hkl, hb, hb', hkj, w2]) | (refine ard_call (dp hn ?_); simp -implicitDefEqProofs [hkl, hb, hb', hkj, w2]) | fail)
      refine aw_ret (fin_ret ?_); simp -implicitDefEqProofs [FinP, resV, resT] <;> try rfl
    | false =>
      by_cases e1 : (k : Int) < (j : Int)
      · rw [if_pos e1] at hs
        repeat' (first | refine aw_seq ?_ | refine aw_skip ?_ | refine aw_block ?_ | refine aw_exit ?_ | refine aw_cond rfl (fun _ => ?_) (fun hb => absurd hb (by decide)) | refine aw_cond rfl (fun hb => absurd hb (by decide)) (fun _ => ?_) | (refine aw_reg (fun K hK => ?_); simp -implicitDefEqProofs [hkl, hb, hb', hkj, e1, w2, b1, b2, hLl]) | (refine aw_drw mixd (fun K hK => ?_); simp -implicitDefEqProofs [hkl, hb, hb', hkj, e1, w2, b1, b2, hLl]) | refine hK _ ?_ | refine hK _ _ (by rfl) ?_ | (refine ar_call (cp hn ?_); simp -implicitDefEqProofs [hkl, hb, hb', hkj, e1, w2, b1, b2, hLl]) | (refine ard_call (dp hn ?_); simp -implicitDefEqProofs [hkl, hb, hb', hkj, e1, w2, b1, b2, hLl]) | fail)
        refine ⟨k + 1, ⟨by omega, fun q t hq h1 h2 => ?_⟩, (by dsimp only; omega), ?_⟩
        · by_cases hqk : q = k
          · subst hqk; rw [hb] at hq; cases hq; exact hnb
          · exact hz q t hq (by omega) h2
        · rw [hI, hs]; exact cov_intro [0, 1, 2, 37] (by simp -implicitDefEqProofs) (by simp -implicitDefEqProofs) (by decide) rfl (by simp)
      · rw [if_neg e1, if_neg hkj] at hs
        repeat' (first | refine aw_seq ?_ | refine aw_skip ?_ | refine aw_block ?_ | refine aw_exit ?_ | refine aw_cond rfl (fun _ => ?_) (fun hb => absurd hb (by decide)) | refine aw_cond rfl (fun hb => absurd hb (by decide)) (fun _ => ?_) | (refine aw_reg (fun K hK => ?_); simp -implicitDefEqProofs [hkl, hb, hb', hkj, e1, w2, w3, b1, b2, hLl]) | (refine aw_drw mixd (fun K hK => ?_); simp -implicitDefEqProofs [hkl, hb, hb', hkj, e1, w2, w3, b1, b2, hLl]) | refine hK _ ?_ | refine hK _ _ (by rfl) ?_ | (refine ar_call (cp hn ?_); simp -implicitDefEqProofs [hkl, hb, hb', hkj, e1, w2, w3, b1, b2, hLl]) | (refine ard_call (dp hn ?_); simp -implicitDefEqProofs [hkl, hb, hb', hkj, e1, w2, w3, b1, b2, hLl]) | fail)
        refine ⟨k + 1, ⟨by omega, fun q t hq h1 h2 => ?_⟩, (by dsimp only; omega), ?_⟩
        · by_cases hqk : q = k
          · subst hqk; rw [hb] at hq; cases hq; exact hnb
          · exact hz q t hq (by omega) h2
        · rw [hI, hs]; exact cov_intro [0, 1, 2, 42] (by simp -implicitDefEqProofs) (by simp -implicitDefEqProofs) (by decide) rfl (by simp)
end Go.Proofs.Ythmdllhhmhbhbaa.am
end
section
namespace Go.Proofs.Ythmdllhhmhbhbaa.am
open Go.ChangeShapes Go.WideShapes Go.ChangeAt Go.RowKit
open vt
set_option linter.unusedVariables false
set_option linter.unusedSimpArgs false
abbrev RepH : Prop := ∀ n : Nat, n ≤ 1000000 → Row Try.prog 23 [vIs [-1], vI (n : Nat)] [] (.v (.c (.arr 0 1 n))) [some (.arr 3 1 (List.replicate n [I (-1)]))]
theorem tr1_ok {x : Lab} (h : x.ok) : in64 (.mk x []) := (Tr.all_mk _ _ _).2 ⟨h, fun y hy => by simp at hy⟩
theorem awk_in : in64 (.mk ⟨36, 0, ⟨#[]⟩, 0, 0⟩ [.mk ⟨32, 0, ⟨#[]⟩, 0, 0⟩ [], .mk ⟨31, 0, ⟨#[]⟩, 0, 0⟩ []]) := by
  refine (Tr.all_mk _ _ _).2 ⟨by simp [Lab.ok], fun y hy => ?_⟩
  simp at hy
  rcases hy with rfl | rfl <;> exact tr1_ok (by simp [Lab.ok])
set_option maxRecDepth 100000 in
set_option maxHeartbeats 4000000 in
theorem awake32_row : Row Try.prog 6 [] [] (vB true) [] := by
  have h := drop_row (.mk ⟨36, 0, ⟨#[]⟩, 0, 0⟩ [.mk ⟨32, 0, ⟨#[]⟩, 0, 0⟩ [], .mk ⟨31, 0, ⟨#[]⟩, 0, 0⟩ []]) awk_in (by simp [Tr.size_mk]) 0 (by omega)
  have e1 : dropB (.mk ⟨36, 0, ⟨#[]⟩, 0, 0⟩ [.mk ⟨32, 0, ⟨#[]⟩, 0, 0⟩ [], .mk ⟨31, 0, ⟨#[]⟩, 0, 0⟩ []]) 0 = true := by
    simp [dropB, Tr.lab, nmsT_mk, nmR, nmK]
  have e2 : dropT (.mk ⟨36, 0, ⟨#[]⟩, 0, 0⟩ [.mk ⟨32, 0, ⟨#[]⟩, 0, 0⟩ [], .mk ⟨31, 0, ⟨#[]⟩, 0, 0⟩ []]) 0 = .mk ⟨36, 0, ⟨#[]⟩, 0, 0⟩ [.mk ⟨31, 0, ⟨#[]⟩, 0, 0⟩ []] := by
    simp [dropT, renum_mk, nwN, nmK]
  rw [e1, if_pos rfl, e2] at h
  refine row_of Try.func6 rfl rfl (Nat.le_of_ble_eq_true rfl) ?_
  repeat' (first | refine aw_seq ?_ | refine aw_skip ?_ | refine aw_block ?_ | refine aw_exit ?_ | refine aw_cond rfl (fun _ => ?_) (fun hb => absurd hb (by decide)) | refine aw_cond rfl (fun hb => absurd hb (by decide)) (fun _ => ?_) | (refine aw_reg (fun K hK => ?_); simp -implicitDefEqProofs) | (refine aw_drw mixd (fun K hK => ?_); simp -implicitDefEqProofs) | refine hK _ ?_ | refine hK _ _ (by rfl) ?_ | (refine ar_call (cp h ?_); simp -implicitDefEqProofs) | (refine ard_call (dp h ?_); simp -implicitDefEqProofs) | fail)
  refine aw_ret (fin_ret ?_); simp -implicitDefEqProofs [FinP, resV, resT] <;> try rfl
end Go.Proofs.Ythmdllhhmhbhbaa.am
end
section
namespace Go.Proofs.Ythmdllhhmhbhbaa.am
open Go.ChangeShapes Go.WideShapes Go.ChangeAt Go.RowKit
open vt
set_option linter.unusedVariables false
set_option linter.unusedSimpArgs false
abbrev vIB2 (l : List Int) (b : Bool) : AV := .tup [.c (.pv (Is l)), .c (.pv (Bo b))]
set_option maxRecDepth 100000 in
set_option maxHeartbeats 4000000 in
theorem to_row (nums : List Int) (hl : nums.length ≤ 1000000) : Row Try.prog 9 [vIs nums, vI (nums.length : Nat)] [] (vIB2 (if isOrd nums = true then invN nums nums.length else []) (isOrd nums)) [] := by
  have hall := isOrd_all nums
  obtain ⟨o, ho⟩ : ∃ o, isOrd nums = o := ⟨_, rfl⟩
  rw [ho] at hall ⊢
  obtain ⟨n, hn⟩ : ∃ n, nums.length = n := ⟨_, rfl⟩
  rw [hn] at hall hl ⊢
  refine row_of Try.func9 rfl rfl (Nat.le_of_ble_eq_true rfl) ?_
  repeat (first | refine aw_seq ?_ | refine aw_skip ?_ | refine aw_block ?_ | refine aw_exit ?_ | refine aw_cond rfl (fun _ => ?_) (fun hb => absurd hb (by decide)) | refine aw_cond rfl (fun hb => absurd hb (by decide)) (fun _ => ?_) | (refine aw_reg (fun K hK => ?_); simp -implicitDefEqProofs [hn]; refine hK _ ?_) | (refine aw_drw mixd (fun K hK => ?_); simp -implicitDefEqProofs [hn]; refine hK _ _ (by rfl) ?_) | fail)
  refine aw_lp (ι := Nat) (fun k => mkSt [(0, vIs nums), (1, vI (n : Nat)), (6, .v (.c (.row 0 1 (ic (lstN nums k))))), (7, vI (k : Nat))] [some (.row 3 1)]) (fun k => k ≤ n ∧ ∀ q : Nat, q < k → (q : Int) ∈ nums) (fun k => n - k) 0 ⟨Nat.zero_le _, fun q h => by omega⟩ (cov_intro [6] (by simp -implicitDefEqProofs [lstN]) (by simp -implicitDefEqProofs [lstN]) (by decide) rfl (by simp)) (fun Z hI k hk => ?_)
  obtain ⟨hk, hz⟩ := hk
  by_cases hkl : k < n; rotate_left
  · have : k = n := by omega
    subst this
    have ht : o = true := hall.2 hz
    subst ht
    rw [if_pos rfl, ← lstN_inv ((isOrd_iff nums).1 ho).2 k]
    repeat (first | refine aw_seq ?_ | refine aw_skip ?_ | refine aw_block ?_ | refine aw_exit ?_ | refine aw_cond rfl (fun _ => ?_) (fun hb => absurd hb (by decide)) | refine aw_cond rfl (fun hb => absurd hb (by decide)) (fun _ => ?_) | (refine aw_reg (fun K hK => ?_); simp -implicitDefEqProofs; refine hK _ ?_) | (refine aw_drw mixd (fun K hK => ?_); simp -implicitDefEqProofs; refine hK _ _ (by rfl) ?_) | fail)
    refine aw_ret (fin_ret ?_); simp -implicitDefEqProofs [FinP, resV, resT] <;> try rfl
  have w2 : IntKind.i64.wrap ((k : Nat) + 1 : Int) = (k : Nat) + 1 := i64i _ (by omega) (by omega)
  have hs := lstN_succ nums k
  rw [hn] at hs
  obtain ⟨L, hL⟩ : ∃ L, lstN nums k = L := ⟨_, rfl⟩
  have hLl : L.length = k := by rw [← hL, lstN_len]
  rw [hL] at hs ⊢
  have b1 : (k + 1) * 8 ≤ 140737488355328 := by omega
  have b2 : k + 1 ≤ 140737488355328 := by omega
  repeat (first | refine aw_seq ?_ | refine aw_skip ?_ | refine aw_block ?_ | refine aw_exit ?_ | refine aw_cond rfl (fun _ => ?_) (fun hb => absurd hb (by decide)) | refine aw_cond rfl (fun hb => absurd hb (by decide)) (fun _ => ?_) | (refine aw_reg (fun K hK => ?_); simp -implicitDefEqProofs [hkl]; refine hK _ ?_) | (refine aw_drw mixd (fun K hK => ?_); simp -implicitDefEqProofs [hkl]; refine hK _ _ (by rfl) ?_) | fail)
  refine aw_lp (ι := Nat) (fun i => mkSt [(0, vIs nums), (1, vI (n : Nat)), (6, .v (.c (.row 0 1 (ic L)))), (7, vI (k : Nat)), (8, vI (lstI (k : Nat) nums i)), (9, vI (i : Nat))] [some (.row 3 1)]) (fun i => i ≤ n) (fun i => n - i) 0 (Nat.zero_le _) (cov_intro [0] (by simp -implicitDefEqProofs [lstI]) (by simp -implicitDefEqProofs [lstI]) (by decide) rfl (by simp)) (fun Z3 hI3 i hi => ?_)
  by_cases hil : i < n; rotate_left
  · have : i = n := by omega
    subst this
    have hneg := lstI_neg (k : Int) nums nums.length (Nat.le_refl _)
    rw [List.take_length, hn] at hneg
    obtain ⟨q, hq⟩ : ∃ q, lstI (k : Int) nums i = q := ⟨_, rfl⟩
    rw [hq] at hs hneg ⊢
    by_cases h0 : q < 0
    · have hf : o = false := by
        cases o with
        | false => rfl
        | true => exact absurd (hall.1 rfl k hkl) (hneg.1 h0)
      subst hf
      repeat (first | refine aw_seq ?_ | refine aw_skip ?_ | refine aw_block ?_ | refine aw_exit ?_ | refine aw_cond rfl (fun _ => ?_) (fun hb => absurd hb (by decide)) | refine aw_cond rfl (fun hb => absurd hb (by decide)) (fun _ => ?_) | (refine aw_reg (fun K hK => ?_); simp -implicitDefEqProofs [h0]; refine hK _ ?_) | (refine aw_drw mixd (fun K hK => ?_); simp -implicitDefEqProofs [h0]; refine hK _ _ (by rfl) ?_) | fail)
      refine aw_ret (fin_ret ?_); simp -implicitDefEqProofs [FinP, resV, resT] <;> try rfl
    · repeat (first | refine aw_seq ?_ | refine aw_skip ?_ | refine aw_block ?_ | refine aw_exit ?_ | refine aw_cond rfl (fun _ => ?_) (fun hb => absurd hb (by decide)) | refine aw_cond rfl (fun hb => absurd hb (by decide)) (fun _ => ?_) | (refine aw_reg (fun K hK => ?_); simp -implicitDefEqProofs [h0, b1, b2, hLl, w2]; refine hK _ ?_) | (refine aw_drw mixd (fun K hK => ?_); simp -implicitDefEqProofs [h0, b1, b2, hLl, w2]; refine hK _ _ (by rfl) ?_) | fail)
      refine ⟨k + 1, ⟨by omega, fun j hj => ?_⟩, (by dsimp only; omega), ?_⟩
      · by_cases hjk : j = k
        · subst hjk; exact Classical.byContradiction fun hno => h0 (hneg.2 hno)
        · exact hz j (by omega)
      · rw [hI, hs]; exact cov_intro [9] (by simp -implicitDefEqProofs) (by simp -implicitDefEqProofs) (by decide) rfl (by simp)
  have hil2 : i < nums.length := by omega
  obtain ⟨z, hz1⟩ : ∃ z, nums[i]? = some z := ⟨_, List.getElem?_eq_getElem hil2⟩
  have hz2 := (List.getElem?_eq_some_iff.1 hz1).2
  have w3 : IntKind.i64.wrap ((i : Nat) + 1 : Int) = (i : Nat) + 1 := i64i _ (by omega) (by omega)
  by_cases hzk : z = (k : Int)
  · have e : lstI (k : Int) nums (i + 1) = (i : Int) := by unfold lstI; rw [hz1, hzk]; simp
    repeat (first | refine aw_seq ?_ | refine aw_skip ?_ | refine aw_block ?_ | refine aw_exit ?_ | refine aw_cond rfl (fun _ => ?_) (fun hb => absurd hb (by decide)) | refine aw_cond rfl (fun hb => absurd hb (by decide)) (fun _ => ?_) | (refine aw_reg (fun K hK => ?_); simp -implicitDefEqProofs [hil, hil2, hz1, hz2, hzk, w3]; refine hK _ ?_) | (refine aw_drw mixd (fun K hK => ?_); simp -implicitDefEqProofs [hil, hil2, hz1, hz2, hzk, w3]; refine hK _ _ (by rfl) ?_) | fail)
    refine ⟨i + 1, by omega, (by dsimp only; omega), ?_⟩
    rw [hI3, e]; exact cov_intro [0] (by simp -implicitDefEqProofs) (by simp -implicitDefEqProofs) (by decide) rfl (by simp)
  · have e : lstI (k : Int) nums (i + 1) = lstI (k : Int) nums i := by
      conv => lhs; unfold lstI
      rw [hz1, if_neg (by simpa using hzk)]
    repeat (first | refine aw_seq ?_ | refine aw_skip ?_ | refine aw_block ?_ | refine aw_exit ?_ | refine aw_cond rfl (fun _ => ?_) (fun hb => absurd hb (by decide)) | refine aw_cond rfl (fun hb => absurd hb (by decide)) (fun _ => ?_) | (refine aw_reg (fun K hK => ?_); simp -implicitDefEqProofs [hil, hil2, hz1, hz2, hzk, w3]; refine hK _ ?_) | (refine aw_drw mixd (fun K hK => ?_); simp -implicitDefEqProofs [hil, hil2, hz1, hz2, hzk, w3]; refine hK _ _ (by rfl) ?_) | fail)
    refine ⟨i + 1, by omega, (by dsimp only; omega), ?_⟩
    rw [hI3, e]; exact cov_intro [0] (by simp -implicitDefEqProofs) (by simp -implicitDefEqProofs) (by decide) rfl (by simp)
end Go.Proofs.Ythmdllhhmhbhbaa.am
end
section
namespace Go.Proofs.Ythmdllhhmhbhbaa.vt
open Go.Proofs.Ythmdllhhmhbhbaa.am
set_option linter.unusedVariables false
abbrev z0T : VT := .mk ⟨0, 0, ⟨#[]⟩, 0, 0⟩ []
def partB (q : VT) : Bool := decide (q.lab.k = 34) && decide (q.kids.length = 1)
def shpB (d : VT) : Bool := decide (d.lab.k = 30) && !d.kids.isEmpty && d.kids.all partB
def sumG : List Int → Int → Int
  | [], s => s
  | n :: r, s => if n = 0 ∨ 64 < s + n then 0 else sumG r (s + n)
theorem sumG_in : ∀ {l : List Int} {s : Int}, (∀ n ∈ l, 0 ≤ n ∧ n ≤ 64) → 0 ≤ s → s ≤ 64 → 0 ≤ sumG l s ∧ sumG l s ≤ 64
  | [], s, _, h1, h2 => ⟨h1, h2⟩
  | n :: r, s, h, h1, h2 => by
    unfold sumG
    split
    · exact ⟨by omega, by omega⟩
    · rename_i hn
      have := h n (by simp)
      exact sumG_in (fun y hy => h y (by simp [hy])) (by omega) (by omega)
def wth (ml : List VT) : Nat → VT → List Int → Int
  | 0, _, _ => 0
  | f + 1, t, ins =>
    if (t.lab.k = 1 ∨ t.lab.k = 2) ∧ t.kids.length = 0 then 1
    else if t.lab.k = 3 ∧ t.kids.length = 1 ∧ 1 ≤ t.lab.n ∧ t.lab.n ≤ 16 then (if 64 < wth ml f (t.kids.getD 0 z0T) ins * t.lab.n then 0 else wth ml f (t.kids.getD 0 z0T) ins * t.lab.n)
    else if ¬ t.lab.k = 4 ∨ ¬ t.kids.length = 0 ∨ t.lab.n < 0 ∨ (ml.length : Int) ≤ t.lab.n then 0
    else if t.lab.n ∈ ins then 0
    else if shpB (ml.getD t.lab.n.toNat z0T) = true then sumG ((ml.getD t.lab.n.toNat z0T).kids.map fun q => wth ml f (q.kids.getD 0 z0T) (ins ++ [t.lab.n])) 0
    else 0
theorem wth_in (ml : List VT) : ∀ (f : Nat) (t : VT) (ins : List Int), 0 ≤ wth ml f t ins ∧ wth ml f t ins ≤ 64
  | 0, _, _ => ⟨by unfold wth; omega, by unfold wth; omega⟩
  | f + 1, t, ins => by
    unfold wth
    split
    · exact ⟨by omega, by omega⟩
    · split
      · rename_i h
        have := wth_in ml f (t.kids.getD 0 z0T) ins
        split
        · exact ⟨by omega, by omega⟩
        · exact ⟨Int.mul_nonneg this.1 (by omega), by omega⟩
      · split
        · exact ⟨by omega, by omega⟩
        · split
          · exact ⟨by omega, by omega⟩
          · split
            · refine sumG_in (fun n hn => ?_) (by omega) (by omega)
              obtain ⟨q, _, rfl⟩ := List.mem_map.1 hn
              exact wth_in ml f _ _
            · exact ⟨by omega, by omega⟩
structure InsOk (ml : List VT) (ins : List Int) : Prop where
  nd : ins.Nodup
  rg : ∀ z ∈ ins, 0 ≤ z ∧ z < ml.length
theorem InsOk.nil (ml : List VT) : InsOk ml [] := ⟨by simp, fun z h => by simp at h⟩
theorem InsOk.add {ml : List VT} {ins : List Int} (h : InsOk ml ins) {z : Int} (h0 : 0 ≤ z) (h1 : z < ml.length) (hz : z ∉ ins) : InsOk ml (ins ++ [z]) ∧ ins.length + 1 ≤ ml.length := by
  have hk : InsOk ml (ins ++ [z]) := ⟨List.nodup_append.2 ⟨h.nd, by simp, fun a ha b hb => by simp at hb; subst hb; exact fun e => hz (e ▸ ha)⟩, fun y hy => by
    rcases List.mem_append.1 hy with hy | hy
    · exact h.rg y hy
    · simp at hy; subst hy; exact ⟨h0, h1⟩⟩
  refine ⟨hk, ?_⟩
  have := pig ml.length (ins ++ [z]) hk.nd hk.rg
  simpa using this
theorem fuel_less {n k S f a b : Nat} (h : (n - k) * S + a ≤ f + 1) (hk : k + 1 ≤ n) (hb : b < S) (ha : 0 < a) : (n - (k + 1)) * S + b ≤ f := by
  have e : n - k = (n - (k + 1)) + 1 := by omega
  rw [e, Nat.succ_mul] at h
  omega
end Go.Proofs.Ythmdllhhmhbhbaa.vt
end
section
namespace Go.Proofs.Ythmdllhhmhbhbaa.am
open Go.ChangeShapes Go.WideShapes Go.ChangeAt Go.RowKit
open vt
set_option linter.unusedVariables false
set_option linter.unusedSimpArgs false
set_option maxRecDepth 100000 in
set_option maxHeartbeats 4000000 in
theorem rshaped_row (d : VT) (hl : d.size ≤ 1000000) : Row Try.prog 25 [vT d] [] (vB (shpB d)) [] := by
  obtain ⟨x, l⟩ := d
  have hlen := Tr.len_size (x := x) (l := l)
  by_cases h30 : x.k = 30; rotate_left
  · rw [show shpB (.mk x l) = false by simp [shpB, Tr.lab, h30]]
    refine row_of Try.func25 rfl rfl (Nat.le_of_ble_eq_true rfl) ?_
    repeat (first | refine aw_seq ?_ | refine aw_skip ?_ | refine aw_block ?_ | refine aw_exit ?_ | refine aw_cond rfl (fun _ => ?_) (fun hb => absurd hb (by decide)) | refine aw_cond rfl (fun hb => absurd hb (by decide)) (fun _ => ?_) | (refine aw_reg (fun K hK => ?_); simp -implicitDefEqProofs [h30]; refine hK _ ?_) | (refine aw_drw mixd (fun K hK => ?_); simp -implicitDefEqProofs [h30]; refine hK _ _ (by rfl) ?_) | fail)
    refine aw_ret (fin_ret ?_); simp -implicitDefEqProofs [FinP, resV, resT] <;> try rfl
  by_cases h0 : l = []
  · subst h0
    rw [show shpB (.mk x []) = false by simp [shpB, Tr.kids]]
    refine row_of Try.func25 rfl rfl (Nat.le_of_ble_eq_true rfl) ?_
    repeat (first | refine aw_seq ?_ | refine aw_skip ?_ | refine aw_block ?_ | refine aw_exit ?_ | refine aw_cond rfl (fun _ => ?_) (fun hb => absurd hb (by decide)) | refine aw_cond rfl (fun hb => absurd hb (by decide)) (fun _ => ?_) | (refine aw_reg (fun K hK => ?_); simp -implicitDefEqProofs [h30]; refine hK _ ?_) | (refine aw_drw mixd (fun K hK => ?_); simp -implicitDefEqProofs [h30]; refine hK _ _ (by rfl) ?_) | fail)
    refine aw_ret (fin_ret ?_); simp -implicitDefEqProofs [FinP, resV, resT] <;> try rfl
  have hs : shpB (.mk x l) = l.all partB := by
    have : l.isEmpty = false := by cases l <;> simp at h0 ⊢
    simp [shpB, Tr.lab, Tr.kids, h30, this]
  have h0' : ¬ l.length = 0 := fun h => h0 (List.eq_nil_of_length_eq_zero h)
  have h0'' : ¬ (l.length : Int) = 0 := by omega
  rw [hs]
  clear hs
  refine row_of Try.func25 rfl rfl (Nat.le_of_ble_eq_true rfl) ?_
  repeat (first | refine aw_seq ?_ | refine aw_skip ?_ | refine aw_block ?_ | refine aw_exit ?_ | refine aw_cond rfl (fun _ => ?_) (fun hb => absurd hb (by decide)) | refine aw_cond rfl (fun hb => absurd hb (by decide)) (fun _ => ?_) | (refine aw_reg (fun K hK => ?_); simp -implicitDefEqProofs [h30, h0, h0', h0'']; refine hK _ ?_) | (refine aw_drw mixd (fun K hK => ?_); simp -implicitDefEqProofs [h30, h0, h0', h0'']; refine hK _ _ (by rfl) ?_) | fail)
  refine aw_lp (ι := Nat) (fun k => mkSt [(1, .v (.c (.ptr 0 0))), (3, vI (k : Nat))] [some (.box (ta (.mk x l)))]) (fun k => k ≤ l.length ∧ (l.take k).all partB = true) (fun k => l.length - k) 0 ⟨Nat.zero_le _, by simp⟩ (cov_intro [0] (by simp -implicitDefEqProofs [h30]) (by simp -implicitDefEqProofs [h30]) (by decide) rfl (by simp)) (fun Z hI k hk => ?_)
  obtain ⟨hk, hz⟩ := hk
  by_cases hkl : k < l.length; rotate_left
  · have : k = l.length := by omega
    subst this
    rw [List.take_length] at hz
    repeat (first | refine aw_seq ?_ | refine aw_skip ?_ | refine aw_block ?_ | refine aw_exit ?_ | refine aw_cond rfl (fun _ => ?_) (fun hb => absurd hb (by decide)) | refine aw_cond rfl (fun hb => absurd hb (by decide)) (fun _ => ?_) | (refine aw_reg (fun K hK => ?_); simp -implicitDefEqProofs; refine hK _ ?_) | (refine aw_drw mixd (fun K hK => ?_); simp -implicitDefEqProofs; refine hK _ _ (by rfl) ?_) | fail)
    refine aw_ret (fin_ret ?_); simp -implicitDefEqProofs [FinP, resV, resT, hz] <;> try rfl
  obtain ⟨⟨ax, al⟩, ha⟩ : ∃ a, l[k]? = some a := ⟨_, List.getElem?_eq_getElem hkl⟩
  have ha' := (List.getElem?_eq_some_iff.1 ha).2
  have hsz1 := Tr.size_at (x := x) ha
  have w2 : IntKind.i64.wrap ((k : Nat) + 1 : Int) = (k : Nat) + 1 := i64i _ (by omega) (by omega)
  by_cases h34 : ax.k = 34
  · by_cases h1 : al.length = 1
    · have h1' : (al.length : Int) = 1 := by omega
      have hp : partB (.mk ax al) = true := by simp [partB, Tr.lab, Tr.kids, h34, h1]
      repeat (first | refine aw_seq ?_ | refine aw_skip ?_ | refine aw_block ?_ | refine aw_exit ?_ | refine aw_cond rfl (fun _ => ?_) (fun hb => absurd hb (by decide)) | refine aw_cond rfl (fun hb => absurd hb (by decide)) (fun _ => ?_) | (refine aw_reg (fun K hK => ?_); simp -implicitDefEqProofs [hkl, ha, ha', h34, h1, h1', w2]; refine hK _ ?_) | (refine aw_drw mixd (fun K hK => ?_); simp -implicitDefEqProofs [hkl, ha, ha', h34, h1, h1', w2]; refine hK _ _ (by rfl) ?_) | fail)
      refine ⟨k + 1, ⟨by omega, by rw [List.take_add_one, ha, Option.toList_some, List.all_append, hz]; simp [hp]⟩, (by dsimp only; omega), ?_⟩
      rw [hI]; exact cov_intro [0] (by simp -implicitDefEqProofs) (by simp -implicitDefEqProofs) (by decide) rfl (by simp)
    · have h1' : ¬ (al.length : Int) = 1 := by omega
      have hp : partB (.mk ax al) = false := by simp [partB, Tr.lab, Tr.kids, h34, h1]
      have e : l.all partB = false := by rw [List.all_eq_false]; exact ⟨_, List.mem_of_getElem? ha, by rw [hp]; simp⟩
      repeat (first | refine aw_seq ?_ | refine aw_skip ?_ | refine aw_block ?_ | refine aw_exit ?_ | refine aw_cond rfl (fun _ => ?_) (fun hb => absurd hb (by decide)) | refine aw_cond rfl (fun hb => absurd hb (by decide)) (fun _ => ?_) | (refine aw_reg (fun K hK => ?_); simp -implicitDefEqProofs [hkl, ha, ha', h34, h1, h1']; refine hK _ ?_) | (refine aw_drw mixd (fun K hK => ?_); simp -implicitDefEqProofs [hkl, ha, ha', h34, h1, h1']; refine hK _ _ (by rfl) ?_) | fail)
      refine aw_ret (fin_ret ?_); simp -implicitDefEqProofs [FinP, resV, resT, e] <;> try rfl
  · have hp : partB (.mk ax al) = false := by simp [partB, Tr.lab, Tr.kids, h34]
    have e : l.all partB = false := by rw [List.all_eq_false]; exact ⟨_, List.mem_of_getElem? ha, by rw [hp]; simp⟩
    repeat (first | refine aw_seq ?_ | refine aw_skip ?_ | refine aw_block ?_ | refine aw_exit ?_ | refine aw_cond rfl (fun _ => ?_) (fun hb => absurd hb (by decide)) | refine aw_cond rfl (fun hb => absurd hb (by decide)) (fun _ => ?_) | (refine aw_reg (fun K hK => ?_); simp -implicitDefEqProofs [hkl, ha, ha', h34]; refine hK _ ?_) | (refine aw_drw mixd (fun K hK => ?_); simp -implicitDefEqProofs [hkl, ha, ha', h34]; refine hK _ _ (by rfl) ?_) | fail)
    refine aw_ret (fin_ret ?_); simp -implicitDefEqProofs [FinP, resV, resT, e] <;> try rfl
end Go.Proofs.Ythmdllhhmhbhbaa.am
end
