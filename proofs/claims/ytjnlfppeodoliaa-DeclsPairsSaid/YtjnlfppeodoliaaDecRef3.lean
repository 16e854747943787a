/-
  Layer 32: a declaration left out: the document's.
-/
import Derived.Test.YtjnlfppeodoliaaDecRef2
namespace Go.Proofs.Ytjnlfppeodoliaa.am
open Go.ChangeShapes Go.WideShapes Go.ChangeAt Go.RowKit
open vt
set_option linter.unusedVariables false
set_option linter.unusedSimpArgs false
set_option maxRecDepth 100000 in
set_option maxHeartbeats 4000000 in
theorem rdrop_row (m : VT) (hm : in64 m) (hsz : m.size ≤ 1000000) (i : Int) (hi : -9223372036854775808 ≤ i ∧ i ≤ 9223372036854775807) : Row Try.prog 19 [vT m, vI i] [] (vTB (if dropB m i = true then dropT m i else zT) (dropB m i)) [] := by
  obtain ⟨x, l⟩ := m
  have hlen := Tr.len_size (x := x) (l := l)
  by_cases h1 : x.k = 36; rotate_left
  · rw [show dropB (.mk x l) i = false by simp [dropB, h1]]
    refine row_of Try.func19 rfl rfl (Nat.le_of_ble_eq_true rfl) ?_
    repeat (first | refine aw_seq ?_ | refine aw_skip ?_ | refine aw_block ?_ | refine aw_exit ?_ | refine aw_cond rfl (fun _ => ?_) (fun hb => absurd hb (by decide)) | refine aw_cond rfl (fun hb => absurd hb (by decide)) (fun _ => ?_) | (refine aw_reg (fun K hK => ?_); simp -implicitDefEqProofs [h1]; refine hK _ ?_) | (refine aw_drw mixd (fun K hK => ?_); simp -implicitDefEqProofs [h1]; refine hK _ _ (by rfl) ?_) | fail)
    refine aw_ret (fin_ret ?_); simp -implicitDefEqProofs [FinP, resV, resT] <;> try rfl
  by_cases h2 : i < 0
  · rw [show dropB (.mk x l) i = false by simp [dropB]; intros; omega]
    refine row_of Try.func19 rfl rfl (Nat.le_of_ble_eq_true rfl) ?_
    repeat (first | refine aw_seq ?_ | refine aw_skip ?_ | refine aw_block ?_ | refine aw_exit ?_ | refine aw_cond rfl (fun _ => ?_) (fun hb => absurd hb (by decide)) | refine aw_cond rfl (fun hb => absurd hb (by decide)) (fun _ => ?_) | (refine aw_reg (fun K hK => ?_); simp -implicitDefEqProofs [h1, h2]; refine hK _ ?_) | (refine aw_drw mixd (fun K hK => ?_); simp -implicitDefEqProofs [h1, h2]; refine hK _ _ (by rfl) ?_) | fail)
    refine aw_ret (fin_ret ?_); simp -implicitDefEqProofs [FinP, resV, resT] <;> try rfl
  by_cases h3 : (l.length : Int) ≤ i
  · rw [show dropB (.mk x l) i = false by simp [dropB]; intros; omega]
    refine row_of Try.func19 rfl rfl (Nat.le_of_ble_eq_true rfl) ?_
    repeat (first | refine aw_seq ?_ | refine aw_skip ?_ | refine aw_block ?_ | refine aw_exit ?_ | refine aw_cond rfl (fun _ => ?_) (fun hb => absurd hb (by decide)) | refine aw_cond rfl (fun hb => absurd hb (by decide)) (fun _ => ?_) | (refine aw_reg (fun K hK => ?_); simp -implicitDefEqProofs [h1, h2, h3]; refine hK _ ?_) | (refine aw_drw mixd (fun K hK => ?_); simp -implicitDefEqProofs [h1, h2, h3]; refine hK _ _ (by rfl) ?_) | fail)
    refine aw_ret (fin_ret ?_); simp -implicitDefEqProofs [FinP, resV, resT] <;> try rfl
  obtain ⟨j, rfl⟩ : ∃ j : Nat, i = j := ⟨i.toNat, by omega⟩
  have hjl : j < l.length := by omega
  obtain ⟨⟨ax, al⟩, ha⟩ : ∃ a, l[j]? = some a := ⟨_, List.getElem?_eq_getElem hjl⟩
  have ha' := (List.getElem?_eq_some_iff.1 ha).2
  have hdb : dropB (.mk x l) (j : Nat) = (!(decide (ax.k = 33) && decide (ax.n = 1)) && !((l.eraseIdx j).any (nmsT (j : Nat)))) := by
    simp [dropB, h1, hjl, List.getD, ha', Tr.lab]
  by_cases h4 : ax.k = 33 ∧ ax.n = 1
  · rw [show dropB (.mk x l) (j : Nat) = false by rw [hdb]; simp [h4.1, h4.2]]
    refine row_of Try.func19 rfl rfl (Nat.le_of_ble_eq_true rfl) ?_
    repeat (first | refine aw_seq ?_ | refine aw_skip ?_ | refine aw_block ?_ | refine aw_exit ?_ | refine aw_cond rfl (fun _ => ?_) (fun hb => absurd hb (by decide)) | refine aw_cond rfl (fun hb => absurd hb (by decide)) (fun _ => ?_) | (refine aw_reg (fun K hK => ?_); simp -implicitDefEqProofs [h1, h2, h3, hjl, ha, ha', h4.1, h4.2]; refine hK _ ?_) | (refine aw_drw mixd (fun K hK => ?_); simp -implicitDefEqProofs [h1, h2, h3, hjl, ha, ha', h4.1, h4.2]; refine hK _ _ (by rfl) ?_) | fail)
    refine aw_ret (fin_ret ?_); simp -implicitDefEqProofs [FinP, resV, resT] <;> try rfl
  have hdb : dropB (.mk x l) (j : Nat) = !((l.eraseIdx j).any (nmsT (j : Nat))) := by
    rw [hdb]
    have : (decide (ax.k = 33) && decide (ax.n = 1)) = false := by
      rw [Bool.and_eq_false_iff, decide_eq_false_iff_not, decide_eq_false_iff_not]
      by_cases h5 : ax.k = 33
      · exact .inr (fun h6 => h4 ⟨h5, h6⟩)
      · exact .inl h5
    rw [this]; rfl
  obtain ⟨db, hdbb⟩ : ∃ db, dropB (.mk x l) (j : Nat) = db := ⟨_, rfl⟩
  rw [hdbb] at hdb ⊢
  have hto := okTo_less (j : Nat) l.length (by omega)
  have hle := less_row (j : Nat) l.length (by omega) ⟨by omega, hi.2⟩
  obtain ⟨to, hT⟩ : ∃ to, lessI (j : Nat) l.length = to := ⟨_, rfl⟩
  rw [hT] at hto hle
  have hdt : dropT (.mk x l) (j : Nat) = .mk x ((l.eraseIdx j).map (renum to)) := by simp [dropT, hT]
  have wj : IntKind.i64.wrap ((j : Nat) : Int) = (j : Nat) := i64i _ (by omega) (by omega)
  refine row_of Try.func19 rfl rfl (Nat.le_of_ble_eq_true rfl) ?_
  refine aw_seq ?_
  refine aw_reg (fun K hK => ?_); simp -implicitDefEqProofs; refine hK _ ?_
  refine aw_meet (ι := Unit) (fun _ => mkSt [(1, vI (j : Nat)), (2, .v (.c (.ptr 0 0))), (4, .v (.c (.ptr 1 0)))] [some (.box (ta (.mk x l))), some (.box (ta zT))]) (fun _ => True) (fun I hI => ?_) (fun _ _ => ?_)
  · by_cases h5 : ax.k = 33
    · have h6 : ¬ ax.n = 1 := fun h6 => h4 ⟨h5, h6⟩
      repeat (first | refine aw_seq ?_ | refine aw_skip ?_ | refine aw_block ?_ | refine aw_exit ?_ | refine aw_cond rfl (fun _ => ?_) (fun hb => absurd hb (by decide)) | refine aw_cond rfl (fun hb => absurd hb (by decide)) (fun _ => ?_) | (refine aw_reg (fun K hK => ?_); simp -implicitDefEqProofs [h1, h2, h3, hjl, ha, ha', h5, h6]; refine hK _ ?_) | (refine aw_drw mixd (fun K hK => ?_); simp -implicitDefEqProofs [h1, h2, h3, hjl, ha, ha', h5, h6]; refine hK _ _ (by rfl) ?_) | fail)
      refine ⟨(), (by trivial), ?_⟩; rw [hI]; exact cov_intro [0, 1] (by simp -implicitDefEqProofs [h1]) (by simp -implicitDefEqProofs [h1]) (by decide) rfl (by simp)
    · repeat (first | refine aw_seq ?_ | refine aw_skip ?_ | refine aw_block ?_ | refine aw_exit ?_ | refine aw_cond rfl (fun _ => ?_) (fun hb => absurd hb (by decide)) | refine aw_cond rfl (fun hb => absurd hb (by decide)) (fun _ => ?_) | (refine aw_reg (fun K hK => ?_); simp -implicitDefEqProofs [h1, h2, h3, hjl, ha, ha', h5]; refine hK _ ?_) | (refine aw_drw mixd (fun K hK => ?_); simp -implicitDefEqProofs [h1, h2, h3, hjl, ha, ha', h5]; refine hK _ _ (by rfl) ?_) | fail)
      refine ⟨(), (by trivial), ?_⟩; rw [hI]; exact cov_intro [0, 1] (by simp -implicitDefEqProofs [h1]) (by simp -implicitDefEqProofs [h1]) (by decide) rfl (by simp)
  repeat (first | refine aw_seq ?_ | refine aw_skip ?_ | refine aw_block ?_ | refine aw_exit ?_ | refine aw_cond rfl (fun _ => ?_) (fun hb => absurd hb (by decide)) | refine aw_cond rfl (fun hb => absurd hb (by decide)) (fun _ => ?_) | (refine aw_reg (fun K hK => ?_); simp -implicitDefEqProofs; refine hK _ ?_) | (refine aw_drw mixd (fun K hK => ?_); simp -implicitDefEqProofs; refine hK _ _ (by rfl) ?_) | fail)
  clear hdbb h4
  refine aw_lp (ι := Nat) (fun k => mkSt [(1, vI (j : Nat)), (2, .v (.c (.ptr 0 0))), (4, .v (.c (.ptr 1 0))), (6, .v (.c (.row 2 6 ((((l.take k).eraseIdx j).map (renum to)).map tc)))), (7, vI (k : Nat))] [some (.box (ta (.mk x l))), some (.box (ta zT)), some (.row 25 6)]) (fun k => k ≤ l.length ∧ ∀ (q : Nat) t, l[q]? = some t → q < k → q ≠ j → nmsT (j : Nat) t = false) (fun k => l.length - k) 0 ⟨Nat.zero_le _, fun q t _ h => by omega⟩ (cov_intro [0, 1, 2] (by simp -implicitDefEqProofs) (by simp -implicitDefEqProofs) (by decide) rfl (by simp)) (fun Z hI k hk => ?_)
  obtain ⟨hk, hz⟩ := hk
  by_cases hkl : k < l.length; rotate_left
  · have : k = l.length := by omega
    subst this
    have hdt' : db = true := by
      rw [hdb, Bool.not_eq_true', List.any_eq_false]
      intro t ht
      obtain ⟨q, hq⟩ := List.mem_iff_getElem?.1 ht
      rw [List.getElem?_eraseIdx] at hq
      split at hq
      · rename_i hqj
        rw [hz q t hq (by have := (List.getElem?_eq_some_iff.1 hq).1; omega) (by omega)]; simp
      · rw [hz (q + 1) t hq (by have := (List.getElem?_eq_some_iff.1 hq).1; omega) (by omega)]; simp
    subst hdt'
    rw [if_pos rfl, hdt, List.take_length]
    repeat (first | refine aw_seq ?_ | refine aw_skip ?_ | refine aw_block ?_ | refine aw_exit ?_ | refine aw_cond rfl (fun _ => ?_) (fun hb => absurd hb (by decide)) | refine aw_cond rfl (fun hb => absurd hb (by decide)) (fun _ => ?_) | (refine aw_reg (fun K hK => ?_); simp -implicitDefEqProofs; refine hK _ ?_) | (refine aw_drw mixd (fun K hK => ?_); simp -implicitDefEqProofs; refine hK _ _ (by rfl) ?_) | fail)
    refine aw_ret (fin_ret ?_); simp -implicitDefEqProofs [FinP, resV, resT] <;> try rfl
  obtain ⟨⟨bx, bl⟩, hb⟩ : ∃ a, l[k]? = some a := ⟨_, List.getElem?_eq_getElem hkl⟩
  have hb' := (List.getElem?_eq_some_iff.1 hb).2
  have hsz1 := Tr.size_at (x := x) hb
  have hkm := kid_ok hm (List.mem_of_getElem? hb)
  have w2 : IntKind.i64.wrap ((k : Nat) + 1 : Int) = (k : Nat) + 1 := i64i _ (by omega) (by omega)
  have hn := rnames_row (j : Nat) (by omega) (.mk bx bl) hkm (by omega)
  have hc := renum_row to hto (.mk bx bl) hkm (by omega)
  obtain ⟨nb, hnb⟩ : ∃ nb, nmsT (j : Nat) (.mk bx bl) = nb := ⟨_, rfl⟩
  rw [hnb] at hn
  have hs : ((l.take (k + 1)).eraseIdx j).map (renum to) = ((l.take k).eraseIdx j).map (renum to) ++ (if k = j then [] else [renum to (.mk bx bl)]) := by
    rw [er_succ hb, List.map_append]
    split <;> rfl
  obtain ⟨L, hL⟩ : ∃ L, ((l.take k).eraseIdx j).map (renum to) = L := ⟨_, rfl⟩
  have hLl : L.length ≤ k := by
    rw [← hL, List.length_map]
    exact Nat.le_trans (List.length_eraseIdx_le _ _) (by rw [List.length_take]; omega)
  rw [hL] at hs ⊢
  have b1 : (L.length + 1) * 72 ≤ 140737488355328 := by omega
  have b2 : L.length + 1 ≤ 140737488355328 := by omega
  by_cases hkj : k = j
  · rw [if_pos hkj, List.append_nil] at hs
    subst hkj
    repeat (first | refine aw_seq ?_ | refine aw_skip ?_ | refine aw_block ?_ | refine aw_exit ?_ | refine aw_cond rfl (fun _ => ?_) (fun hb => absurd hb (by decide)) | refine aw_cond rfl (fun hb => absurd hb (by decide)) (fun _ => ?_) | (refine aw_reg (fun K hK => ?_); simp -implicitDefEqProofs [hkl, hb, hb', w2]; refine hK _ ?_) | (refine aw_drw mixd (fun K hK => ?_); simp -implicitDefEqProofs [hkl, hb, hb', w2]; refine hK _ _ (by rfl) ?_) | fail)
    refine ⟨k + 1, ⟨by omega, fun q t hq h1 h2 => hz q t hq (by omega) h2⟩, (by dsimp only; omega), ?_⟩
    rw [hI, hs]; exact cov_intro [0, 1, 2] (by simp -implicitDefEqProofs) (by simp -implicitDefEqProofs) (by decide) rfl (by simp)
  have hkj' : ¬ (k : Int) = (j : Int) := by omega
  rw [if_neg hkj] at hs
  cases nb with
  | true =>
    have hdf : db = false := by rw [hdb, any_er hb (by omega) hnb]; rfl
    subst hdf
    repeat' (first | refine aw_seq ?_ | refine aw_skip ?_ | refine aw_block ?_ | refine aw_exit ?_ | refine aw_cond rfl (fun _ => ?_) (fun hb => absurd hb (by decide)) | refine aw_cond rfl (fun hb => absurd hb (by decide)) (fun _ => ?_) | (refine aw_reg (fun K hK => ?_); simp -implicitDefEqProofs [hkl, hb, hb', hkj', w2, wj]) | (refine aw_drw mixd (fun K hK => ?_); simp -implicitDefEqProofs [hkl, hb, hb', hkj', w2, wj]) | refine hK _ ?_ | refine hK _ _ (by rfl) ?_ | (refine ar_call (cp hn ?_); simp -implicitDefEqProofs [hkl, hb, hb', hkj', w2, wj]) | (refine ard_call (dp hn ?_); simp -implicitDefEqProofs [hkl, hb, hb', hkj', w2, wj]) | fail)
    refine aw_ret (fin_ret ?_); simp -implicitDefEqProofs [FinP, resV, resT] <;> try rfl
  | false =>
    obtain ⟨⟨cx, cl⟩, hcc⟩ : ∃ b, renum to (.mk bx bl) = b := ⟨_, rfl⟩
    rw [hcc] at hc hs
    repeat' (first | refine aw_seq ?_ | refine aw_skip ?_ | refine aw_block ?_ | refine aw_exit ?_ | refine aw_cond rfl (fun _ => ?_) (fun hb => absurd hb (by decide)) | refine aw_cond rfl (fun hb => absurd hb (by decide)) (fun _ => ?_) | (refine aw_reg (fun K hK => ?_); simp -implicitDefEqProofs [hkl, hb, hb', hkj', w2, wj, b1, b2]) | (refine aw_drw mixd (fun K hK => ?_); simp -implicitDefEqProofs [hkl, hb, hb', hkj', w2, wj, b1, b2]) | refine hK _ ?_ | refine hK _ _ (by rfl) ?_ | (refine ar_call (cp hn ?_); simp -implicitDefEqProofs [hkl, hb, hb', hkj', w2, wj, b1, b2]) | (refine ard_call (dp hn ?_); simp -implicitDefEqProofs [hkl, hb, hb', hkj', w2, wj, b1, b2]) | (refine ar_call (cp hle ?_); simp -implicitDefEqProofs [hkl, hb, hb', hkj', w2, wj, b1, b2]) | (refine ard_call (dp hle ?_); simp -implicitDefEqProofs [hkl, hb, hb', hkj', w2, wj, b1, b2]) | (refine ar_call (cp hc ?_); simp -implicitDefEqProofs [hkl, hb, hb', hkj', w2, wj, b1, b2]) | (refine ard_call (dp hc ?_); simp -implicitDefEqProofs [hkl, hb, hb', hkj', w2, wj, b1, b2]) | fail)
    refine ⟨k + 1, ⟨by omega, fun q t hq h1 h2 => ?_⟩, (by dsimp only; omega), ?_⟩
    · by_cases hqk : q = k
      · subst hqk; rw [hb] at hq; cases hq; exact hnb
      · exact hz q t hq (by omega) h2
    · rw [hI, hs]; exact cov_intro [0, 1, 134] (by simp -implicitDefEqProofs) (by simp -implicitDefEqProofs) (by decide) rfl (by simp)
end Go.Proofs.Ytjnlfppeodoliaa.am
