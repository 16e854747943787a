/-
  Layer 32: a declaration left out: the program's.
-/
import Derived.Test.YtjnlfppeodoliaaDecInv
namespace Go.Proofs.Ytjnlfppeodoliaa.am
open Go.ChangeShapes Go.WideShapes Go.ChangeAt Go.RowKit
open vt
set_option linter.unusedVariables false
set_option linter.unusedSimpArgs false
abbrev zT : VT := .mk ⟨0, 0, ⟨#[]⟩, 0, 0⟩ []
theorem okTo_less (i : Int) (n : Nat) (hn : n ≤ 1000000) : okTo (lessI i n) := by
  refine ⟨by rw [lessI_len]; exact hn, fun z hz => ?_⟩
  unfold lessI at hz
  obtain ⟨k, hk, rfl⟩ := List.mem_map.1 hz
  have := List.mem_range.1 hk
  split
  · omega
  · split <;> omega
set_option maxRecDepth 100000 in
set_option maxHeartbeats 4000000 in
theorem drop_row (m : VT) (hm : in64 m) (hsz : m.size ≤ 1000000) (i : Int) (hi : i ≤ 9223372036854775807) : Row Try.prog 18 [vT m, vI i] [] (vTB (if dropB m i = true then dropT m i else zT) (dropB m i)) [] := by
  obtain ⟨x, l⟩ := m
  have hlen := Tr.len_size (x := x) (l := l)
  by_cases h1 : x.k = 36; rotate_left
  · rw [show dropB (.mk x l) i = false by simp [dropB, h1]]
    refine row_of Try.func18 rfl rfl (Nat.le_of_ble_eq_true rfl) ?_
    repeat (first | refine aw_seq ?_ | refine aw_skip ?_ | refine aw_block ?_ | refine aw_exit ?_ | refine aw_cond rfl (fun _ => ?_) (fun hb => absurd hb (by decide)) | refine aw_cond rfl (fun hb => absurd hb (by decide)) (fun _ => ?_) | (refine aw_reg (fun K hK => ?_); simp -implicitDefEqProofs [h1]; refine hK _ ?_) | (refine aw_drw mixd (fun K hK => ?_); simp -implicitDefEqProofs [h1]; refine hK _ _ (by rfl) ?_) | fail)
    refine aw_ret (fin_ret ?_); simp -implicitDefEqProofs [FinP, resV, resT] <;> try rfl
  by_cases h2 : i < 0
  · rw [show dropB (.mk x l) i = false by simp [dropB]; intros; omega]
    refine row_of Try.func18 rfl rfl (Nat.le_of_ble_eq_true rfl) ?_
    repeat (first | refine aw_seq ?_ | refine aw_skip ?_ | refine aw_block ?_ | refine aw_exit ?_ | refine aw_cond rfl (fun _ => ?_) (fun hb => absurd hb (by decide)) | refine aw_cond rfl (fun hb => absurd hb (by decide)) (fun _ => ?_) | (refine aw_reg (fun K hK => ?_); simp -implicitDefEqProofs [h1, h2]; refine hK _ ?_) | (refine aw_drw mixd (fun K hK => ?_); simp -implicitDefEqProofs [h1, h2]; refine hK _ _ (by rfl) ?_) | fail)
    refine aw_ret (fin_ret ?_); simp -implicitDefEqProofs [FinP, resV, resT] <;> try rfl
  by_cases h3 : (l.length : Int) ≤ i
  · rw [show dropB (.mk x l) i = false by simp [dropB]; intros; omega]
    refine row_of Try.func18 rfl rfl (Nat.le_of_ble_eq_true rfl) ?_
    repeat (first | refine aw_seq ?_ | refine aw_skip ?_ | refine aw_block ?_ | refine aw_exit ?_ | refine aw_cond rfl (fun _ => ?_) (fun hb => absurd hb (by decide)) | refine aw_cond rfl (fun hb => absurd hb (by decide)) (fun _ => ?_) | (refine aw_reg (fun K hK => ?_); simp -implicitDefEqProofs [h1, h2, h3]; refine hK _ ?_) | (refine aw_drw mixd (fun K hK => ?_); simp -implicitDefEqProofs [h1, h2, h3]; refine hK _ _ (by rfl) ?_) | fail)
    refine aw_ret (fin_ret ?_); simp -implicitDefEqProofs [FinP, resV, resT] <;> try rfl
  obtain ⟨j, rfl⟩ : ∃ j : Nat, i = j := ⟨i.toNat, by omega⟩
  have hjl : j < l.length := by omega
  obtain ⟨⟨ax, al⟩, ha⟩ : ∃ a, l[j]? = some a := ⟨_, List.getElem?_eq_getElem hjl⟩
  have ha' := (List.getElem?_eq_some_iff.1 ha).2
  have hdb : dropB (.mk x l) (j : Nat) = (!(decide (ax.k = 33) && decide (ax.n = 1)) && !((l.eraseIdx j).any (nmsT (j : Nat)))) := by
    simp [dropB, h1, hjl, List.getD, ha', Tr.lab]
  by_cases h4 : ax.k = 33 ∧ ax.n = 1
  · rw [show dropB (.mk x l) (j : Nat) = false by rw [hdb]; simp [h4.1, h4.2]]
    refine row_of Try.func18 rfl rfl (Nat.le_of_ble_eq_true rfl) ?_
    repeat (first | refine aw_seq ?_ | refine aw_skip ?_ | refine aw_block ?_ | refine aw_exit ?_ | refine aw_cond rfl (fun _ => ?_) (fun hb => absurd hb (by decide)) | refine aw_cond rfl (fun hb => absurd hb (by decide)) (fun _ => ?_) | (refine aw_reg (fun K hK => ?_); simp -implicitDefEqProofs [h1, h2, h3, hjl, ha, ha', h4.1, h4.2]; refine hK _ ?_) | (refine aw_drw mixd (fun K hK => ?_); simp -implicitDefEqProofs [h1, h2, h3, hjl, ha, ha', h4.1, h4.2]; refine hK _ _ (by rfl) ?_) | fail)
    refine aw_ret (fin_ret ?_); simp -implicitDefEqProofs [FinP, resV, resT] <;> try rfl
  have hdb : dropB (.mk x l) (j : Nat) = !((l.eraseIdx j).any (nmsT (j : Nat))) := by
    rw [hdb]
    have : (decide (ax.k = 33) && decide (ax.n = 1)) = false := by
      rw [Bool.and_eq_false_iff, decide_eq_false_iff_not, decide_eq_false_iff_not]
      by_cases h5 : ax.k = 33
      · exact .inr (fun h6 => h4 ⟨h5, h6⟩)
      · exact .inl h5
    rw [this]; rfl
  obtain ⟨db, hdbb⟩ : ∃ db, dropB (.mk x l) (j : Nat) = db := ⟨_, rfl⟩
  rw [hdbb] at hdb ⊢
  refine row_of Try.func18 rfl rfl (Nat.le_of_ble_eq_true rfl) ?_
  refine aw_seq ?_
  refine aw_reg (fun K hK => ?_); simp -implicitDefEqProofs; refine hK _ ?_
  refine aw_meet (ι := Unit) (fun _ => mkSt [(1, vI (j : Nat)), (2, .v (.c (.ptr 0 0))), (4, .v (.c (.ptr 1 0)))] [some (.box (ta (.mk x l))), some (.box (ta zT))]) (fun _ => True) (fun I hI => ?_) (fun _ _ => ?_)
  · by_cases h5 : ax.k = 33
    · have h6 : ¬ ax.n = 1 := fun h6 => h4 ⟨h5, h6⟩
      repeat (first | refine aw_seq ?_ | refine aw_skip ?_ | refine aw_block ?_ | refine aw_exit ?_ | refine aw_cond rfl (fun _ => ?_) (fun hb => absurd hb (by decide)) | refine aw_cond rfl (fun hb => absurd hb (by decide)) (fun _ => ?_) | (refine aw_reg (fun K hK => ?_); simp -implicitDefEqProofs [h1, h2, h3, hjl, ha, ha', h5, h6]; refine hK _ ?_) | (refine aw_drw mixd (fun K hK => ?_); simp -implicitDefEqProofs [h1, h2, h3, hjl, ha, ha', h5, h6]; refine hK _ _ (by rfl) ?_) | fail)
      refine ⟨(), (by trivial), ?_⟩; rw [hI]; exact cov_intro [0, 1] (by simp -implicitDefEqProofs [h1]) (by simp -implicitDefEqProofs [h1]) (by decide) rfl (by simp)
    · repeat (first | refine aw_seq ?_ | refine aw_skip ?_ | refine aw_block ?_ | refine aw_exit ?_ | refine aw_cond rfl (fun _ => ?_) (fun hb => absurd hb (by decide)) | refine aw_cond rfl (fun hb => absurd hb (by decide)) (fun _ => ?_) | (refine aw_reg (fun K hK => ?_); simp -implicitDefEqProofs [h1, h2, h3, hjl, ha, ha', h5]; refine hK _ ?_) | (refine aw_drw mixd (fun K hK => ?_); simp -implicitDefEqProofs [h1, h2, h3, hjl, ha, ha', h5]; refine hK _ _ (by rfl) ?_) | fail)
      refine ⟨(), (by trivial), ?_⟩; rw [hI]; exact cov_intro [0, 1] (by simp -implicitDefEqProofs [h1]) (by simp -implicitDefEqProofs [h1]) (by decide) rfl (by simp)
  repeat (first | refine aw_seq ?_ | refine aw_skip ?_ | refine aw_block ?_ | refine aw_exit ?_ | refine aw_cond rfl (fun _ => ?_) (fun hb => absurd hb (by decide)) | refine aw_cond rfl (fun hb => absurd hb (by decide)) (fun _ => ?_) | (refine aw_reg (fun K hK => ?_); simp -implicitDefEqProofs; refine hK _ ?_) | (refine aw_drw mixd (fun K hK => ?_); simp -implicitDefEqProofs; refine hK _ _ (by rfl) ?_) | fail)
  clear hdbb h4
  refine aw_nilc 3 0 [.pv .nilS] 3 1 (by simp) (by simp) (by simp) ?_
  refine aw_lp (ι := Nat) (fun k => mkSt [(1, vI (j : Nat)), (2, .v (.c (.ptr 0 0))), (4, .v (.c (.ptr 1 0))), (6, .v (.c (.ptr 2 0))), (48, vLs l), (49, vI (l.length : Nat)), (50, vI (k : Nat))] [some (.box (ta (.mk x l))), some (.box (ta zT)), some (.box [.row 3 1 (ic (lessI (j : Nat) k))]), some (.row 3 1)]) (fun k => k ≤ l.length ∧ ∀ (q : Nat) t, l[q]? = some t → q < k → q ≠ j → nmsT (j : Nat) t = false) (fun k => l.length - k) 0 ⟨Nat.zero_le _, fun q t _ h => by omega⟩ (by unfold St.nilc; exact cov_intro [0, 1, 3, 9] (by simp -implicitDefEqProofs [lessI]) (by simp -implicitDefEqProofs [lessI]) (by decide) rfl (by simp)) (fun Z hI k hk => ?_)
  obtain ⟨hk, hz⟩ := hk
  by_cases hkl : k < l.length; rotate_left
  · have : k = l.length := by omega
    subst this
    have hdt : db = true := by
      rw [hdb, Bool.not_eq_true', List.any_eq_false]
      intro t ht
      obtain ⟨q, hq⟩ := List.mem_iff_getElem?.1 ht
      rw [List.getElem?_eraseIdx] at hq
      split at hq
      · rename_i hqj
        rw [hz q t hq (by have := (List.getElem?_eq_some_iff.1 hq).1; omega) (by omega)]; simp
      · rw [hz (q + 1) t hq (by have := (List.getElem?_eq_some_iff.1 hq).1; omega) (by omega)]; simp
    subst hdt
    simp only [if_true, dropT, Int.toNat_natCast]
    have hto := okTo_less (j : Nat) l.length (by omega)
    obtain ⟨to, hT⟩ : ∃ to, lessI (j : Nat) l.length = to := ⟨_, rfl⟩
    rw [hT] at hto ⊢
    repeat (first | refine aw_seq ?_ | refine aw_skip ?_ | refine aw_block ?_ | refine aw_exit ?_ | refine aw_cond rfl (fun _ => ?_) (fun hb => absurd hb (by decide)) | refine aw_cond rfl (fun hb => absurd hb (by decide)) (fun _ => ?_) | (refine aw_reg (fun K hK => ?_); simp -implicitDefEqProofs; refine hK _ ?_) | (refine aw_drw mixd (fun K hK => ?_); simp -implicitDefEqProofs; refine hK _ _ (by rfl) ?_) | fail)
    clear hz hdb
    refine aw_nil 9 25 6 (by simp) ?_
    refine aw_lp (ι := Nat) (fun k => mkSt [(1, vI (j : Nat)), (2, .v (.c (.ptr 0 0))), (4, .v (.c (.ptr 1 0))), (6, .v (.c (.ptr 2 0))), (9, .v (.c (.row 3 6 ((((l.take k).eraseIdx j).map (renum to)).map tc)))), (104, vLs l), (105, vI (l.length : Nat)), (106, vI (k : Nat))] [some (.box (ta (.mk x l))), some (.box (ta zT)), some (bxO to), some (.row 25 6)]) (fun k => k ≤ l.length) (fun k => l.length - k) 0 (Nat.zero_le _) (by unfold St.nil; exact cov_intro [0, 1, 2, 10] (by simp -implicitDefEqProofs) (by simp -implicitDefEqProofs) (by decide) rfl (by simp)) (fun Z2 hI2 k hk => ?_)
    by_cases hkl : k < l.length; rotate_left
    · have : k = l.length := by omega
      subst this
      rw [List.take_length]
      repeat (first | refine aw_seq ?_ | refine aw_skip ?_ | refine aw_block ?_ | refine aw_exit ?_ | refine aw_cond rfl (fun _ => ?_) (fun hb => absurd hb (by decide)) | refine aw_cond rfl (fun hb => absurd hb (by decide)) (fun _ => ?_) | (refine aw_reg (fun K hK => ?_); simp -implicitDefEqProofs; refine hK _ ?_) | (refine aw_drw mixd (fun K hK => ?_); simp -implicitDefEqProofs; refine hK _ _ (by rfl) ?_) | fail)
      refine aw_ret (fin_ret ?_); simp -implicitDefEqProofs [FinP, resV, resT] <;> try rfl
    obtain ⟨⟨bx, bl⟩, hb⟩ : ∃ a, l[k]? = some a := ⟨_, List.getElem?_eq_getElem hkl⟩
    have hb' := (List.getElem?_eq_some_iff.1 hb).2
    have hsz1 := Tr.size_at (x := x) hb
    have hc := walk_row to hto _ (kid_ok hm (List.mem_of_getElem? hb)) (by omega)
    have w2 : IntKind.i64.wrap ((k : Nat) + 1 : Int) = (k : Nat) + 1 := i64i _ (by omega) (by omega)
    have hs : ((l.take (k + 1)).eraseIdx j).map (renum to) = ((l.take k).eraseIdx j).map (renum to) ++ (if k = j then [] else [renum to (.mk bx bl)]) := by
      rw [er_succ hb, List.map_append]
      split <;> rfl
    obtain ⟨L, hL⟩ : ∃ L, ((l.take k).eraseIdx j).map (renum to) = L := ⟨_, rfl⟩
    have hLl : L.length ≤ k := by
      rw [← hL, List.length_map]
      exact Nat.le_trans (List.length_eraseIdx_le _ _) (by rw [List.length_take]; omega)
    rw [hL] at hs ⊢
    have b1 : (L.length + 1) * 72 ≤ 140737488355328 := by omega
    have b2 : L.length + 1 ≤ 140737488355328 := by omega
    by_cases hkj : k = j
    · rw [if_pos hkj, List.append_nil] at hs
      subst hkj
      repeat (first | refine aw_seq ?_ | refine aw_skip ?_ | refine aw_block ?_ | refine aw_exit ?_ | refine aw_cond rfl (fun _ => ?_) (fun hb => absurd hb (by decide)) | refine aw_cond rfl (fun hb => absurd hb (by decide)) (fun _ => ?_) | (refine aw_reg (fun K hK => ?_); simp -implicitDefEqProofs [hkl, hb, hb', w2]; refine hK _ ?_) | (refine aw_drw mixd (fun K hK => ?_); simp -implicitDefEqProofs [hkl, hb, hb', w2]; refine hK _ _ (by rfl) ?_) | fail)
      refine ⟨k + 1, by omega, (by dsimp only; omega), ?_⟩
      rw [hI2, hs]; exact cov_intro [0, 1, 2, 3] (by simp -implicitDefEqProofs) (by simp -implicitDefEqProofs) (by decide) rfl (by simp)
    · have hkj' : ¬ (k : Int) = (j : Int) := by omega
      rw [if_neg hkj] at hs
      obtain ⟨⟨cx, cl⟩, hcc⟩ : ∃ b, renum to (.mk bx bl) = b := ⟨_, rfl⟩
      rw [hcc] at hc hs
      repeat' (first | refine aw_seq ?_ | refine aw_skip ?_ | refine aw_block ?_ | refine aw_exit ?_ | refine aw_cond rfl (fun _ => ?_) (fun hb => absurd hb (by decide)) | refine aw_cond rfl (fun hb => absurd hb (by decide)) (fun _ => ?_) | (refine aw_reg (fun K hK => ?_); simp -implicitDefEqProofs [hkl, hb, hb', hkj', w2, b1, b2]) | (refine aw_drw mixd (fun K hK => ?_); simp -implicitDefEqProofs [hkl, hb, hb', hkj', w2, b1, b2]) | refine hK _ ?_ | refine hK _ _ (by rfl) ?_ | (refine ar_call (cb hc 2 ?_); simp -implicitDefEqProofs [hkl, hb, hb', hkj', w2, b1, b2]) | (refine ard_call (db hc 2 ?_); simp -implicitDefEqProofs [hkl, hb, hb', hkj', w2, b1, b2]) | fail)
      refine ⟨k + 1, by omega, (by dsimp only; omega), ?_⟩
      rw [hI2, hs]; exact cov_intro [0, 1, 2, 28] (by simp -implicitDefEqProofs) (by simp -implicitDefEqProofs) (by decide) rfl (by simp)
  obtain ⟨⟨bx, bl⟩, hb⟩ : ∃ a, l[k]? = some a := ⟨_, List.getElem?_eq_getElem hkl⟩
  have hb' := (List.getElem?_eq_some_iff.1 hb).2
  have hsz1 := Tr.size_at (x := x) hb
  have w2 : IntKind.i64.wrap ((k : Nat) + 1 : Int) = (k : Nat) + 1 := i64i _ (by omega) (by omega)
  have w3 : IntKind.i64.wrap ((k : Nat) - 1 : Int) = (k : Nat) - 1 := i64i _ (by omega) (by omega)
  have hn := names_row (j : Nat) (by omega) hi (.mk bx bl) (kid_ok hm (List.mem_of_getElem? hb)) (by omega)
  obtain ⟨nb, hnb⟩ : ∃ nb, nmsT (j : Nat) (.mk bx bl) = nb := ⟨_, rfl⟩
  rw [hnb] at hn
  have hs := lessI_succ (j : Nat) k
  obtain ⟨L, hL⟩ : ∃ L, lessI (j : Nat) k = L := ⟨_, rfl⟩
  have hLl : L.length = k := by rw [← hL, lessI_len]
  rw [hL] at hs ⊢
  have b1 : (k + 1) * 8 ≤ 140737488355328 := by omega
  have b2 : k + 1 ≤ 140737488355328 := by omega
  by_cases hkj : (k : Int) = (j : Int)
  · have e0 : k = j := by omega
    subst e0
    rw [if_neg (by omega), if_pos rfl] at hs
    repeat (first | refine aw_seq ?_ | refine aw_skip ?_ | refine aw_block ?_ | refine aw_exit ?_ | refine aw_cond rfl (fun _ => ?_) (fun hb => absurd hb (by decide)) | refine aw_cond rfl (fun hb => absurd hb (by decide)) (fun _ => ?_) | (refine aw_reg (fun K hK => ?_); simp -implicitDefEqProofs [hkl, hb, hb', w2, b1, b2, hLl]; refine hK _ ?_) | (refine aw_drw mixd (fun K hK => ?_); simp -implicitDefEqProofs [hkl, hb, hb', w2, b1, b2, hLl]; refine hK _ _ (by rfl) ?_) | fail)
    refine ⟨k + 1, ⟨by omega, fun q t hq h1 h2 => hz q t hq (by omega) h2⟩, (by dsimp only; omega), ?_⟩
    rw [hI, hs]; exact cov_intro [0, 1, 2, 30] (by simp -implicitDefEqProofs) (by simp -implicitDefEqProofs) (by decide) rfl (by simp)
  · cases nb with
    | true =>
      have hdf : db = false := by rw [hdb, any_er hb (by omega) hnb]; rfl
      subst hdf
      repeat' (first | refine aw_seq ?_ | refine aw_skip ?_ | refine aw_block ?_ | refine aw_exit ?_ | refine aw_cond rfl (fun _ => ?_) (fun hb => absurd hb (by decide)) | refine aw_cond rfl (fun hb => absurd hb (by decide)) (fun _ => ?_) | (refine aw_reg (fun K hK => ?_); simp -implicitDefEqProofs [hkl, hb, hb', hkj, w2]) | (refine aw_drw mixd (fun K hK => ?_); simp -implicitDefEqProofs [hkl, hb, hb', hkj, w2]) | refine hK _ ?_ | refine hK _ _ (by rfl) ?_ | (refine ar_call (cp hn ?_); simp -implicitDefEqProofs [hkl, hb, hb', hkj, w2]) | (refine ard_call (dp hn ?_); simp -implicitDefEqProofs [hkl, hb, hb', hkj, w2]) | fail)
      refine aw_ret (fin_ret ?_); simp -implicitDefEqProofs [FinP, resV, resT] <;> try rfl
    | false =>
      by_cases e1 : (k : Int) < (j : Int)
      · rw [if_pos e1] at hs
        repeat' (first | refine aw_seq ?_ | refine aw_skip ?_ | refine aw_block ?_ | refine aw_exit ?_ | refine aw_cond rfl (fun _ => ?_) (fun hb => absurd hb (by decide)) | refine aw_cond rfl (fun hb => absurd hb (by decide)) (fun _ => ?_) | (refine aw_reg (fun K hK => ?_); simp -implicitDefEqProofs [hkl, hb, hb', hkj, e1, w2, b1, b2, hLl]) | (refine aw_drw mixd (fun K hK => ?_); simp -implicitDefEqProofs [hkl, hb, hb', hkj, e1, w2, b1, b2, hLl]) | refine hK _ ?_ | refine hK _ _ (by rfl) ?_ | (refine ar_call (cp hn ?_); simp -implicitDefEqProofs [hkl, hb, hb', hkj, e1, w2, b1, b2, hLl]) | (refine ard_call (dp hn ?_); simp -implicitDefEqProofs [hkl, hb, hb', hkj, e1, w2, b1, b2, hLl]) | fail)
        refine ⟨k + 1, ⟨by omega, fun q t hq h1 h2 => ?_⟩, (by dsimp only; omega), ?_⟩
        · by_cases hqk : q = k
          · subst hqk; rw [hb] at hq; cases hq; exact hnb
          · exact hz q t hq (by omega) h2
        · rw [hI, hs]; exact cov_intro [0, 1, 2, 37] (by simp -implicitDefEqProofs) (by simp -implicitDefEqProofs) (by decide) rfl (by simp)
      · rw [if_neg e1, if_neg hkj] at hs
        repeat' (first | refine aw_seq ?_ | refine aw_skip ?_ | refine aw_block ?_ | refine aw_exit ?_ | refine aw_cond rfl (fun _ => ?_) (fun hb => absurd hb (by decide)) | refine aw_cond rfl (fun hb => absurd hb (by decide)) (fun _ => ?_) | (refine aw_reg (fun K hK => ?_); simp -implicitDefEqProofs [hkl, hb, hb', hkj, e1, w2, w3, b1, b2, hLl]) | (refine aw_drw mixd (fun K hK => ?_); simp -implicitDefEqProofs [hkl, hb, hb', hkj, e1, w2, w3, b1, b2, hLl]) | refine hK _ ?_ | refine hK _ _ (by rfl) ?_ | (refine ar_call (cp hn ?_); simp -implicitDefEqProofs [hkl, hb, hb', hkj, e1, w2, w3, b1, b2, hLl]) | (refine ard_call (dp hn ?_); simp -implicitDefEqProofs [hkl, hb, hb', hkj, e1, w2, w3, b1, b2, hLl]) | fail)
        refine ⟨k + 1, ⟨by omega, fun q t hq h1 h2 => ?_⟩, (by dsimp only; omega), ?_⟩
        · by_cases hqk : q = k
          · subst hqk; rw [hb] at hq; cases hq; exact hnb
          · exact hz q t hq (by omega) h2
        · rw [hI, hs]; exact cov_intro [0, 1, 2, 42] (by simp -implicitDefEqProofs) (by simp -implicitDefEqProofs) (by decide) rfl (by simp)
end Go.Proofs.Ytjnlfppeodoliaa.am
