import Derived.Test.YtjjnboenehomgaaPkF15
import Derived.Test.YtjjnboenehomgaaPkF21
import Derived.Test.YtjjnboenehomgaaPkF22
import Derived.Test.YtjjnboenehomgaaChecked
import Derived.Test.YtjjnboenehomgaaPkF4
section
namespace Go.Proofs.Ytjjnboenehomgaa.am
open Go.ChangeShapes Go.WideShapes Go.ChangeAt Go.RowKit
open vt
set_option linter.unusedVariables false
set_option linter.unusedSimpArgs false
theorem conF_size (m : VT) (x : Lab) (l : List VT) : ((conF m x l).getD z0T).size ≤ m.size := by
  have hz : (z0T : VT).size ≤ m.size := by
    rw [show (z0T : VT).size = 1 by simp [Tr.size_mk]]; exact Tr.size_pos m
  unfold conF
  split
  · cases hd : m.kids[x.n.toNat]? with
    | none => exact hz
    | some d =>
      have hdm := kid_size (List.mem_of_getElem? hd)
      have : (some d).bind conD = conD d := rfl
      rw [this]
      unfold conD
      split
      · exact Nat.le_trans (getD_size (m := d) 0) hdm
      · exact hz
  · exact hz
theorem prtF_size {l : List VT} {i : Int} {n : Nat} (h : ∀ y ∈ l, y.size ≤ n) (hn : 1 ≤ n) : ((prtF l i).getD z0T).size ≤ n := by
  have hz : (z0T : VT).size ≤ n := by rw [show (z0T : VT).size = 1 by simp [Tr.size_mk]]; exact hn
  unfold prtF
  split
  · cases hd : l[i.toNat]? with
    | none => exact hz
    | some d => exact h d (List.mem_of_getElem? hd)
  · exact hz
theorem fieF_size (x : Lab) (l : List VT) : ((fieF x l).getD z0T).size ≤ (Tr.mk x l).size := by
  have hp := Tr.size_pos (Tr.mk x l)
  unfold fieF
  split
  · exact prtF_size (fun y hy => Nat.le_trans (kid_size hy) (getD_size (m := .mk x l) 0)) hp
  · show (z0T : VT).size ≤ _
    rw [show (z0T : VT).size = 1 by simp [Tr.size_mk]]; exact hp
theorem idxF_size (x : Lab) (l : List VT) : ((idxF x l).getD z0T).size ≤ (Tr.mk x l).size := by
  have hp := Tr.size_pos (Tr.mk x l)
  unfold idxF
  split
  · exact prtF_size (fun y hy => Nat.le_trans (kid_size hy) (getD_size (m := .mk x l) 0)) hp
  · show (z0T : VT).size ≤ _
    rw [show (z0T : VT).size = 1 by simp [Tr.size_mk]]; exact hp
noncomputable def sidF (o : Option (Int × Int)) (m : VT) (rule : Int) (x : Lab) (l : List VT) : VT × Bool :=
  if rule = 30 then (leafT o, o.isSome)
  else if rule = 31 then ((conF m x l).getD z0T, (conF m x l).isSome)
  else if rule = 32 then ((fieF x l).getD z0T, (fieF x l).isSome)
  else if rule = 33 then ((idxF x l).getD z0T, (idxF x l).isSome)
  else (z0T, false)
set_option maxRecDepth 100000 in
set_option maxHeartbeats 4000000 in
theorem holds27_row (o : Option (Int × Int)) (m : VT) (hms : m.size ≤ 100000) (rule : Int) (x : Lab) (l : List VT) (hin : in64 (.mk x l)) (hsz : (Tr.mk x l).size ≤ 100000) (r : VT) (hr : r.size ≤ 100000) (hv : Row Try.prog 24 [vT (.mk x l)] [] (vTO (leafT o) o.isSome) []) : Row Try.prog 10 [vT m, vI rule, vT (.mk x l), vT r] [] (vB ((sidF o m rule x l).2 && same (sidF o m rule x l).1 r)) [] := by
  have hx := ((Tr.all_mk _ _ _).1 hin).1
  have hlen := Tr.len_size (x := x) (l := l)
  unfold sidF
  by_cases c30 : rule = 30
  · subst c30
    rw [if_pos rfl]
    have hs := tsame_row (leafT o) (by rw [leafT_size]; omega) r (by omega)
    dsimp only
    obtain ⟨⟨ux, ul⟩, hu⟩ : ∃ t, leafT o = t := ⟨_, rfl⟩
    obtain ⟨q, hq⟩ : ∃ q, o.isSome = q := ⟨_, rfl⟩
    rw [hu] at hs ⊢
    rw [hu, hq] at hv
    rw [hq]
    obtain ⟨s, hss⟩ : ∃ s, same (.mk ux ul) r = s := ⟨_, rfl⟩
    rw [hss] at hs ⊢
    clear hu hq hss
    obtain ⟨mx, ml⟩ := m
    obtain ⟨rx, rl⟩ := r
    cases q with
    | true =>
      refine row_of Try.func10 rfl rfl (Nat.le_of_ble_eq_true rfl) ?_
      repeat' (first | refine aw_seq ?_ | refine aw_skip ?_ | refine aw_block ?_ | refine aw_exit ?_ | refine aw_cond rfl (fun _ => ?_) (fun hb => absurd hb (by decide)) | refine aw_cond rfl (fun hb => absurd hb (by decide)) (fun _ => ?_) | (refine aw_reg (fun K hK => ?_); simp -implicitDefEqProofs) | (refine aw_drw mixd (fun K hK => ?_); simp -implicitDefEqProofs) | refine hK _ ?_ | refine hK _ _ (by rfl) ?_ | (refine ar_call (cp hv ?_); simp -implicitDefEqProofs) | (refine ard_call (dp hv ?_); simp -implicitDefEqProofs) | (refine ar_call (cp hs ?_); simp -implicitDefEqProofs) | (refine ard_call (dp hs ?_); simp -implicitDefEqProofs) | fail)
      refine aw_ret (fin_ret ?_); simp -implicitDefEqProofs [FinP, resV, resT] <;> try rfl
    | false =>
      refine row_of Try.func10 rfl rfl (Nat.le_of_ble_eq_true rfl) ?_
      repeat' (first | refine aw_seq ?_ | refine aw_skip ?_ | refine aw_block ?_ | refine aw_exit ?_ | refine aw_cond rfl (fun _ => ?_) (fun hb => absurd hb (by decide)) | refine aw_cond rfl (fun hb => absurd hb (by decide)) (fun _ => ?_) | (refine aw_reg (fun K hK => ?_); simp -implicitDefEqProofs) | (refine aw_drw mixd (fun K hK => ?_); simp -implicitDefEqProofs) | refine hK _ ?_ | refine hK _ _ (by rfl) ?_ | (refine ar_call (cp hv ?_); simp -implicitDefEqProofs) | (refine ard_call (dp hv ?_); simp -implicitDefEqProofs) | (refine ar_call (cp hs ?_); simp -implicitDefEqProofs) | (refine ard_call (dp hs ?_); simp -implicitDefEqProofs) | fail)
      refine aw_ret (fin_ret ?_); simp -implicitDefEqProofs [FinP, resV, resT] <;> try rfl
  rw [if_neg c30]
  clear hv
  by_cases c31 : rule = 31
  · subst c31
    rw [if_pos rfl]
    have hv := constant_row m (by omega) x l hx (by omega)
    have hs := tsame_row ((conF m x l).getD z0T) (by have := conF_size m x l; omega) r (by omega)
    dsimp only
    obtain ⟨⟨ux, ul⟩, hu⟩ : ∃ t, (conF m x l).getD z0T = t := ⟨_, rfl⟩
    obtain ⟨q, hq⟩ : ∃ q, (conF m x l).isSome = q := ⟨_, rfl⟩
    unfold vO at hv
    rw [hu] at hs ⊢
    rw [hu, hq] at hv
    rw [hq]
    obtain ⟨s, hss⟩ : ∃ s, same (.mk ux ul) r = s := ⟨_, rfl⟩
    rw [hss] at hs ⊢
    clear hu hq hss
    obtain ⟨mx, ml⟩ := m
    obtain ⟨rx, rl⟩ := r
    cases q with
    | true =>
      refine row_of Try.func10 rfl rfl (Nat.le_of_ble_eq_true rfl) ?_
      repeat' (first | refine aw_seq ?_ | refine aw_skip ?_ | refine aw_block ?_ | refine aw_exit ?_ | refine aw_cond rfl (fun _ => ?_) (fun hb => absurd hb (by decide)) | refine aw_cond rfl (fun hb => absurd hb (by decide)) (fun _ => ?_) | (refine aw_reg (fun K hK => ?_); simp -implicitDefEqProofs) | (refine aw_drw mixd (fun K hK => ?_); simp -implicitDefEqProofs) | refine hK _ ?_ | refine hK _ _ (by rfl) ?_ | (refine ar_call (cp hv ?_); simp -implicitDefEqProofs) | (refine ard_call (dp hv ?_); simp -implicitDefEqProofs) | (refine ar_call (cp hs ?_); simp -implicitDefEqProofs) | (refine ard_call (dp hs ?_); simp -implicitDefEqProofs) | fail)
      refine aw_ret (fin_ret ?_); simp -implicitDefEqProofs [FinP, resV, resT] <;> try rfl
    | false =>
      refine row_of Try.func10 rfl rfl (Nat.le_of_ble_eq_true rfl) ?_
      repeat' (first | refine aw_seq ?_ | refine aw_skip ?_ | refine aw_block ?_ | refine aw_exit ?_ | refine aw_cond rfl (fun _ => ?_) (fun hb => absurd hb (by decide)) | refine aw_cond rfl (fun hb => absurd hb (by decide)) (fun _ => ?_) | (refine aw_reg (fun K hK => ?_); simp -implicitDefEqProofs) | (refine aw_drw mixd (fun K hK => ?_); simp -implicitDefEqProofs) | refine hK _ ?_ | refine hK _ _ (by rfl) ?_ | (refine ar_call (cp hv ?_); simp -implicitDefEqProofs) | (refine ard_call (dp hv ?_); simp -implicitDefEqProofs) | (refine ar_call (cp hs ?_); simp -implicitDefEqProofs) | (refine ard_call (dp hs ?_); simp -implicitDefEqProofs) | fail)
      refine aw_ret (fin_ret ?_); simp -implicitDefEqProofs [FinP, resV, resT] <;> try rfl
  rw [if_neg c31]
  by_cases c32 : rule = 32
  · subst c32
    rw [if_pos rfl]
    have hv := field_row x l hx hin (by omega)
    have hs := tsame_row ((fieF x l).getD z0T) (by have := fieF_size x l; omega) r (by omega)
    dsimp only
    obtain ⟨⟨ux, ul⟩, hu⟩ : ∃ t, (fieF x l).getD z0T = t := ⟨_, rfl⟩
    obtain ⟨q, hq⟩ : ∃ q, (fieF x l).isSome = q := ⟨_, rfl⟩
    unfold vO at hv
    rw [hu] at hs ⊢
    rw [hu, hq] at hv
    rw [hq]
    obtain ⟨s, hss⟩ : ∃ s, same (.mk ux ul) r = s := ⟨_, rfl⟩
    rw [hss] at hs ⊢
    clear hu hq hss
    obtain ⟨mx, ml⟩ := m
    obtain ⟨rx, rl⟩ := r
    cases q with
    | true =>
      refine row_of Try.func10 rfl rfl (Nat.le_of_ble_eq_true rfl) ?_
      repeat' (first | refine aw_seq ?_ | refine aw_skip ?_ | refine aw_block ?_ | refine aw_exit ?_ | refine aw_cond rfl (fun _ => ?_) (fun hb => absurd hb (by decide)) | refine aw_cond rfl (fun hb => absurd hb (by decide)) (fun _ => ?_) | (refine aw_reg (fun K hK => ?_); simp -implicitDefEqProofs) | (refine aw_drw mixd (fun K hK => ?_); simp -implicitDefEqProofs) | refine hK _ ?_ | refine hK _ _ (by rfl) ?_ | (refine ar_call (cp hv ?_); simp -implicitDefEqProofs) | (refine ard_call (dp hv ?_); simp -implicitDefEqProofs) | (refine ar_call (cp hs ?_); simp -implicitDefEqProofs) | (refine ard_call (dp hs ?_); simp -implicitDefEqProofs) | fail)
      refine aw_ret (fin_ret ?_); simp -implicitDefEqProofs [FinP, resV, resT] <;> try rfl
    | false =>
      refine row_of Try.func10 rfl rfl (Nat.le_of_ble_eq_true rfl) ?_
      repeat' (first | refine aw_seq ?_ | refine aw_skip ?_ | refine aw_block ?_ | refine aw_exit ?_ | refine aw_cond rfl (fun _ => ?_) (fun hb => absurd hb (by decide)) | refine aw_cond rfl (fun hb => absurd hb (by decide)) (fun _ => ?_) | (refine aw_reg (fun K hK => ?_); simp -implicitDefEqProofs) | (refine aw_drw mixd (fun K hK => ?_); simp -implicitDefEqProofs) | refine hK _ ?_ | refine hK _ _ (by rfl) ?_ | (refine ar_call (cp hv ?_); simp -implicitDefEqProofs) | (refine ard_call (dp hv ?_); simp -implicitDefEqProofs) | (refine ar_call (cp hs ?_); simp -implicitDefEqProofs) | (refine ard_call (dp hs ?_); simp -implicitDefEqProofs) | fail)
      refine aw_ret (fin_ret ?_); simp -implicitDefEqProofs [FinP, resV, resT] <;> try rfl
  rw [if_neg c32]
  by_cases c33 : rule = 33
  · subst c33
    rw [if_pos rfl]
    have hv := index_row x l hx hin (by omega)
    have hs := tsame_row ((idxF x l).getD z0T) (by have := idxF_size x l; omega) r (by omega)
    dsimp only
    obtain ⟨⟨ux, ul⟩, hu⟩ : ∃ t, (idxF x l).getD z0T = t := ⟨_, rfl⟩
    obtain ⟨q, hq⟩ : ∃ q, (idxF x l).isSome = q := ⟨_, rfl⟩
    unfold vO at hv
    rw [hu] at hs ⊢
    rw [hu, hq] at hv
    rw [hq]
    obtain ⟨s, hss⟩ : ∃ s, same (.mk ux ul) r = s := ⟨_, rfl⟩
    rw [hss] at hs ⊢
    clear hu hq hss
    obtain ⟨mx, ml⟩ := m
    obtain ⟨rx, rl⟩ := r
    cases q with
    | true =>
      refine row_of Try.func10 rfl rfl (Nat.le_of_ble_eq_true rfl) ?_
      repeat' (first | refine aw_seq ?_ | refine aw_skip ?_ | refine aw_block ?_ | refine aw_exit ?_ | refine aw_cond rfl (fun _ => ?_) (fun hb => absurd hb (by decide)) | refine aw_cond rfl (fun hb => absurd hb (by decide)) (fun _ => ?_) | (refine aw_reg (fun K hK => ?_); simp -implicitDefEqProofs) | (refine aw_drw mixd (fun K hK => ?_); simp -implicitDefEqProofs) | refine hK _ ?_ | refine hK _ _ (by rfl) ?_ | (refine ar_call (cp hv ?_); simp -implicitDefEqProofs) | (refine ard_call (dp hv ?_); simp -implicitDefEqProofs) | (refine ar_call (cp hs ?_); simp -implicitDefEqProofs) | (refine ard_call (dp hs ?_); simp -implicitDefEqProofs) | fail)
      refine aw_ret (fin_ret ?_); simp -implicitDefEqProofs [FinP, resV, resT] <;> try rfl
    | false =>
      refine row_of Try.func10 rfl rfl (Nat.le_of_ble_eq_true rfl) ?_
      repeat' (first | refine aw_seq ?_ | refine aw_skip ?_ | refine aw_block ?_ | refine aw_exit ?_ | refine aw_cond rfl (fun _ => ?_) (fun hb => absurd hb (by decide)) | refine aw_cond rfl (fun hb => absurd hb (by decide)) (fun _ => ?_) | (refine aw_reg (fun K hK => ?_); simp -implicitDefEqProofs) | (refine aw_drw mixd (fun K hK => ?_); simp -implicitDefEqProofs) | refine hK _ ?_ | refine hK _ _ (by rfl) ?_ | (refine ar_call (cp hv ?_); simp -implicitDefEqProofs) | (refine ard_call (dp hv ?_); simp -implicitDefEqProofs) | (refine ar_call (cp hs ?_); simp -implicitDefEqProofs) | (refine ard_call (dp hs ?_); simp -implicitDefEqProofs) | fail)
      refine aw_ret (fin_ret ?_); simp -implicitDefEqProofs [FinP, resV, resT] <;> try rfl
  rw [if_neg c33]
  obtain ⟨mx, ml⟩ := m
  obtain ⟨rx, rl⟩ := r
  refine row_of Try.func10 rfl rfl (Nat.le_of_ble_eq_true rfl) ?_
  repeat (first | refine aw_seq ?_ | refine aw_skip ?_ | refine aw_block ?_ | refine aw_exit ?_ | refine aw_cond rfl (fun _ => ?_) (fun hb => absurd hb (by decide)) | refine aw_cond rfl (fun hb => absurd hb (by decide)) (fun _ => ?_) | (refine aw_reg (fun K hK => ?_); simp -implicitDefEqProofs [c30, c31, c32, c33]; refine hK _ ?_) | (refine aw_drw mixd (fun K hK => ?_); simp -implicitDefEqProofs [c30, c31, c32, c33]; refine hK _ _ (by rfl) ?_) | fail)
  refine aw_ret (fin_ret ?_); simp -implicitDefEqProofs [FinP, resV, resT] <;> try rfl
set_option maxRecDepth 100000 in
set_option maxHeartbeats 4000000 in
theorem rside27_row (o : Option (Int × Int)) (m : VT) (hms : m.size ≤ 100000) (rule : Int) (x : Lab) (l : List VT) (hin : in64 (.mk x l)) (hsz : (Tr.mk x l).size ≤ 100000) (hv : Row Try.prog 49 [vT (.mk x l)] [] (vTO (leafT o) o.isSome) []) : Row Try.prog 31 [vT m, vI rule, vT (.mk x l)] [] (vTO (sidF o m rule x l).1 (sidF o m rule x l).2) [] := by
  have hx := ((Tr.all_mk _ _ _).1 hin).1
  have hlen := Tr.len_size (x := x) (l := l)
  unfold sidF
  by_cases c30 : rule = 30
  · subst c30
    rw [if_pos rfl]
    dsimp only
    obtain ⟨⟨ux, ul⟩, hu⟩ : ∃ t, leafT o = t := ⟨_, rfl⟩
    obtain ⟨q, hq⟩ : ∃ q, o.isSome = q := ⟨_, rfl⟩
    rw [hu, hq] at hv ⊢
    clear hu hq
    obtain ⟨mx, ml⟩ := m
    refine row_of Try.func31 rfl rfl (Nat.le_of_ble_eq_true rfl) ?_
    repeat' (first | refine aw_seq ?_ | refine aw_skip ?_ | refine aw_block ?_ | refine aw_exit ?_ | refine aw_cond rfl (fun _ => ?_) (fun hb => absurd hb (by decide)) | refine aw_cond rfl (fun hb => absurd hb (by decide)) (fun _ => ?_) | (refine aw_reg (fun K hK => ?_); simp -implicitDefEqProofs) | (refine aw_drw mixd (fun K hK => ?_); simp -implicitDefEqProofs) | refine hK _ ?_ | refine hK _ _ (by rfl) ?_ | (refine ar_call (cp hv ?_); simp -implicitDefEqProofs) | (refine ard_call (dp hv ?_); simp -implicitDefEqProofs) | fail)
    refine aw_ret (fin_ret ?_); simp -implicitDefEqProofs [FinP, resV, resT] <;> try rfl
  rw [if_neg c30]
  by_cases c31 : rule = 31
  · subst c31; rw [if_pos rfl]; exact rside31_row m (by omega) x l hx (by omega)
  rw [if_neg c31]
  by_cases c32 : rule = 32
  · subst c32; rw [if_pos rfl]; exact rside32_row m x l hx hin (by omega)
  rw [if_neg c32]
  by_cases c33 : rule = 33
  · subst c33; rw [if_pos rfl]; exact rside33_row m x l hx hin (by omega)
  rw [if_neg c33]
  obtain ⟨mx, ml⟩ := m
  by_cases cs : x.s = ⟨#[]⟩
  · refine row_of Try.func31 rfl rfl (Nat.le_of_ble_eq_true rfl) ?_
    repeat (first | refine aw_seq ?_ | refine aw_skip ?_ | refine aw_block ?_ | refine aw_exit ?_ | refine aw_cond rfl (fun _ => ?_) (fun hb => absurd hb (by decide)) | refine aw_cond rfl (fun hb => absurd hb (by decide)) (fun _ => ?_) | (refine aw_reg (fun K hK => ?_); simp -implicitDefEqProofs [c30, c31, c32, c33, cs]; refine hK _ ?_) | (refine aw_drw mixd (fun K hK => ?_); simp -implicitDefEqProofs [c30, c31, c32, c33, cs]; refine hK _ _ (by rfl) ?_) | fail)
    refine aw_ret (fin_ret ?_); simp -implicitDefEqProofs [FinP, resV, resT] <;> try rfl
  · refine row_of Try.func31 rfl rfl (Nat.le_of_ble_eq_true rfl) ?_
    repeat (first | refine aw_seq ?_ | refine aw_skip ?_ | refine aw_block ?_ | refine aw_exit ?_ | refine aw_cond rfl (fun _ => ?_) (fun hb => absurd hb (by decide)) | refine aw_cond rfl (fun hb => absurd hb (by decide)) (fun _ => ?_) | (refine aw_reg (fun K hK => ?_); simp -implicitDefEqProofs [c30, c31, c32, c33, cs]; refine hK _ ?_) | (refine aw_drw mixd (fun K hK => ?_); simp -implicitDefEqProofs [c30, c31, c32, c33, cs]; refine hK _ _ (by rfl) ?_) | fail)
    refine aw_ret (fin_ret ?_); simp -implicitDefEqProofs [FinP, resV, resT] <;> try rfl
set_option maxRecDepth 100000 in
set_option maxHeartbeats 4000000 in
theorem rholds27_row (o : Option (Int × Int)) (m : VT) (hms : m.size ≤ 100000) (rule : Int) (x : Lab) (l : List VT) (hin : in64 (.mk x l)) (hsz : (Tr.mk x l).size ≤ 100000) (r : VT) (hr : r.size ≤ 100000) (hv : Row Try.prog 49 [vT (.mk x l)] [] (vTO (leafT o) o.isSome) []) : Row Try.prog 11 [vT m, vI rule, vT (.mk x l), vT r] [] (vB ((sidF o m rule x l).2 && same (sidF o m rule x l).1 r)) [] := by
  have hsd := rside27_row o m hms rule x l hin hsz hv
  have hsize : (sidF o m rule x l).1.size ≤ 100000 := by
    have h1 := conF_size m x l
    have h2 := fieF_size x l
    have h3 := idxF_size x l
    have h4 := leafT_size o
    unfold sidF
    split
    · dsimp only; omega
    · split
      · dsimp only; omega
      · split
        · dsimp only; omega
        · split
          · dsimp only; omega
          · dsimp only; simp [Tr.size_mk]
  have hs := rsame_row (sidF o m rule x l).1 (by omega) r (by omega)
  obtain ⟨⟨⟨ux, ul⟩, q⟩, hu⟩ : ∃ t, sidF o m rule x l = t := ⟨_, rfl⟩
  rw [hu] at hs hsd ⊢
  dsimp only at hs ⊢
  obtain ⟨s, hss⟩ : ∃ s, same (.mk ux ul) r = s := ⟨_, rfl⟩
  rw [hss] at hs ⊢
  clear hu hss hsize
  obtain ⟨mx, ml⟩ := m
  obtain ⟨rx, rl⟩ := r
  cases q with
  | true =>
    refine row_of Try.func11 rfl rfl (Nat.le_of_ble_eq_true rfl) ?_
    repeat' (first | refine aw_seq ?_ | refine aw_skip ?_ | refine aw_block ?_ | refine aw_exit ?_ | refine aw_cond rfl (fun _ => ?_) (fun hb => absurd hb (by decide)) | refine aw_cond rfl (fun hb => absurd hb (by decide)) (fun _ => ?_) | (refine aw_reg (fun K hK => ?_); simp -implicitDefEqProofs) | (refine aw_drw mixd (fun K hK => ?_); simp -implicitDefEqProofs) | refine hK _ ?_ | refine hK _ _ (by rfl) ?_ | (refine ar_call (cp hsd ?_); simp -implicitDefEqProofs) | (refine ard_call (dp hsd ?_); simp -implicitDefEqProofs) | (refine ar_call (cp hs ?_); simp -implicitDefEqProofs) | (refine ard_call (dp hs ?_); simp -implicitDefEqProofs) | fail)
    refine aw_ret (fin_ret ?_); simp -implicitDefEqProofs [FinP, resV, resT] <;> try rfl
  | false =>
    refine row_of Try.func11 rfl rfl (Nat.le_of_ble_eq_true rfl) ?_
    repeat' (first | refine aw_seq ?_ | refine aw_skip ?_ | refine aw_block ?_ | refine aw_exit ?_ | refine aw_cond rfl (fun _ => ?_) (fun hb => absurd hb (by decide)) | refine aw_cond rfl (fun hb => absurd hb (by decide)) (fun _ => ?_) | (refine aw_reg (fun K hK => ?_); simp -implicitDefEqProofs) | (refine aw_drw mixd (fun K hK => ?_); simp -implicitDefEqProofs) | refine hK _ ?_ | refine hK _ _ (by rfl) ?_ | (refine ar_call (cp hsd ?_); simp -implicitDefEqProofs) | (refine ard_call (dp hsd ?_); simp -implicitDefEqProofs) | (refine ar_call (cp hs ?_); simp -implicitDefEqProofs) | (refine ard_call (dp hs ?_); simp -implicitDefEqProofs) | fail)
    refine aw_ret (fin_ret ?_); simp -implicitDefEqProofs [FinP, resV, resT] <;> try rfl
theorem awake27_row : Row Try.prog 9 [] [] (vB true) [] :=
  ⟨⟨_, Try.func9, rfl, rfl⟩, spec_of_below (ch := []) fun γ S w vs hm hv => by
    match vs, hv with
    | [], _ =>
      refine (fo.awake27 w).mono ?_
      rintro e w' ⟨rfl, hb⟩
      exact ⟨_, rfl, hb, .lit _ rfl⟩⟩
set_option maxRecDepth 100000 in
set_option maxHeartbeats 4000000 in
theorem law_holds27_row (u : RuV) (hm : in64 u.m) (hl : in64 u.l) : Row Try.prog 3 [vRule u] [] (vB true) [] := by
  have haw := awake27_row
  have hlg := rlarge25_row u
  by_cases hg : lrgR u = true
  · rw [hg] at hlg
    clear hm hl
    obtain ⟨⟨mx, ml⟩, ty, ⟨gl, lo, inp, pos, tr, fuel, kind, n, ⟨rn, rl⟩⟩, rule, ⟨lx, ll⟩, ⟨rx, rl2⟩⟩ := u
    unfold vRule ra sa at hlg ⊢
    dsimp only at hlg ⊢
    simp only [ua_mk, ta_mk, List.cons_append, List.nil_append] at hlg ⊢
    refine row_of Try.func3 rfl rfl (Nat.le_of_ble_eq_true rfl) ?_
    repeat' (first | refine aw_seq ?_ | refine aw_skip ?_ | refine aw_block ?_ | refine aw_exit ?_ | refine aw_cond rfl (fun _ => ?_) (fun hb => absurd hb (by decide)) | refine aw_cond rfl (fun hb => absurd hb (by decide)) (fun _ => ?_) | (refine aw_reg (fun K hK => ?_); simp -implicitDefEqProofs) | (refine aw_drw mixd (fun K hK => ?_); simp -implicitDefEqProofs) | refine hK _ ?_ | refine hK _ _ (by rfl) ?_ | (refine ar_call (cp hlg ?_); simp -implicitDefEqProofs) | (refine ard_call (dp hlg ?_); simp -implicitDefEqProofs) | (refine ar_call (cp haw ?_); simp -implicitDefEqProofs) | (refine ard_call (dp haw ?_); simp -implicitDefEqProofs) | fail)
    refine aw_ret (fin_ret ?_); simp -implicitDefEqProofs [FinP, resV, resT] <;> try rfl
  have hg : lrgR u = false := by simpa using hg
  rw [hg] at hlg
  have hg2 := hg
  unfold lrgR at hg2
  simp only [Bool.or_eq_false_iff] at hg2
  obtain ⟨⟨⟨⟨⟨_, _⟩, gm⟩, g_l⟩, gr⟩, _⟩ := hg2
  have sm := large_size gm
  have sl := large_size g_l
  have sr := large_size gr
  have hrt := rright_row u.m hm (by omega)
  obtain ⟨q, hq⟩ : ∃ q, rgtB u.m = q := ⟨_, rfl⟩
  rw [hq] at hrt
  obtain ⟨o, v1, v2⟩ := values_row u.l hl
  obtain ⟨⟨mx, ml⟩, ty, ⟨gl, lo, inp, pos, tr, fuel, kind, n, ⟨rn, rl⟩⟩, rule, ⟨lx, ll⟩, ⟨rx, rl2⟩⟩ := u
  dsimp only at hm hl sm sl sr hrt v1 v2
  have h1 := holds27_row o (.mk mx ml) (by omega) rule lx ll hl (by omega) (.mk rx rl2) (by omega) v1
  have h2 := rholds27_row o (.mk mx ml) (by omega) rule lx ll hl (by omega) (.mk rx rl2) (by omega) v2
  obtain ⟨s, hs⟩ : ∃ s, ((sidF o (.mk mx ml) rule lx ll).2 && same (sidF o (.mk mx ml) rule lx ll).1 (.mk rx rl2)) = s := ⟨_, rfl⟩
  rw [hs] at h1 h2
  clear hs hq hg gm g_l gr hm hl v1 v2
  unfold vRule ra sa at hlg ⊢
  dsimp only at hlg ⊢
  simp only [ua_mk, ta_mk, List.cons_append, List.nil_append] at hlg ⊢
  cases q with
  | false =>
    refine row_of Try.func3 rfl rfl (Nat.le_of_ble_eq_true rfl) ?_
    repeat' (first | refine aw_seq ?_ | refine aw_skip ?_ | refine aw_block ?_ | refine aw_exit ?_ | refine aw_cond rfl (fun _ => ?_) (fun hb => absurd hb (by decide)) | refine aw_cond rfl (fun hb => absurd hb (by decide)) (fun _ => ?_) | (refine aw_reg (fun K hK => ?_); simp -implicitDefEqProofs) | (refine aw_drw mixd (fun K hK => ?_); simp -implicitDefEqProofs) | refine hK _ ?_ | refine hK _ _ (by rfl) ?_ | (refine ar_call (cp hlg ?_); simp -implicitDefEqProofs) | (refine ard_call (dp hlg ?_); simp -implicitDefEqProofs) | (refine ar_call (cp hrt ?_); simp -implicitDefEqProofs) | (refine ard_call (dp hrt ?_); simp -implicitDefEqProofs) | (refine ar_call (cp haw ?_); simp -implicitDefEqProofs) | (refine ard_call (dp haw ?_); simp -implicitDefEqProofs) | fail)
    refine aw_ret (fin_ret ?_); simp -implicitDefEqProofs [FinP, resV, resT] <;> try rfl
  | true =>
    refine row_of Try.func3 rfl rfl (Nat.le_of_ble_eq_true rfl) ?_
    repeat' (first | refine aw_seq ?_ | refine aw_skip ?_ | refine aw_block ?_ | refine aw_exit ?_ | refine aw_cond rfl (fun _ => ?_) (fun hb => absurd hb (by decide)) | refine aw_cond rfl (fun hb => absurd hb (by decide)) (fun _ => ?_) | (refine aw_reg (fun K hK => ?_); simp -implicitDefEqProofs) | (refine aw_drw mixd (fun K hK => ?_); simp -implicitDefEqProofs) | refine hK _ ?_ | refine hK _ _ (by rfl) ?_ | (refine ar_call (cp hlg ?_); simp -implicitDefEqProofs) | (refine ard_call (dp hlg ?_); simp -implicitDefEqProofs) | (refine ar_call (cp hrt ?_); simp -implicitDefEqProofs) | (refine ard_call (dp hrt ?_); simp -implicitDefEqProofs) | (refine ar_call (cp h1 ?_); simp -implicitDefEqProofs) | (refine ard_call (dp h1 ?_); simp -implicitDefEqProofs) | (refine ar_call (cp h2 ?_); simp -implicitDefEqProofs) | (refine ard_call (dp h2 ?_); simp -implicitDefEqProofs) | (refine ar_call (cp haw ?_); simp -implicitDefEqProofs) | (refine ard_call (dp haw ?_); simp -implicitDefEqProofs) | fail)
    refine aw_ret (fin_ret ?_); simp -implicitDefEqProofs [FinP, resV, resT] <;> try rfl
end Go.Proofs.Ytjjnboenehomgaa.am
end
section
namespace Go.Proofs.Ytjjnboenehomgaa.am
open Go.ChangeShapes Go.WideShapes Go.ChangeAt Go.RowKit
open vt
set_option linter.unusedVariables false
set_option linter.unusedSimpArgs false
set_option maxRecDepth 100000
theorem wf64 {z : Int} (h : (Lit.int .i64 z).wf = true) : -9223372036854775808 ≤ z ∧ z ≤ 9223372036854775807 := by
  simpa [Lit.wf, IntKind.min, IntKind.max, IntKind.signed, IntKind.bits] using h
theorem c_int : Try.prog.cellsOf 3 = 1 := by kernel_rfl
theorem c_int64 : Try.prog.cellsOf 2 = 1 := by kernel_rfl
theorem c_string : Try.prog.cellsOf 9 = 1 := by kernel_rfl
theorem c_terms : Try.prog.cellsOf 22 = 1 := by kernel_rfl
theorem c_term : Try.prog.cellsOf 24 = 6 := by kernel_rfl
theorem ty_int {n : Nat} {ps : List PV} (h : Ty Try.prog n 3 ps) : ∃ z, ps = [I z] ∧ -9223372036854775808 ≤ z ∧ z ≤ 9223372036854775807 := by
  cases n with
  | zero => exact h.elim
  | succ n => unfold Ty at h; rw [Try.underlying3] at h; obtain ⟨z, h1, h2⟩ := h; exact ⟨z, h1, wf64 h2⟩
theorem ty_int64 {n : Nat} {ps : List PV} (h : Ty Try.prog n 2 ps) : ∃ z, ps = [I z] ∧ -9223372036854775808 ≤ z ∧ z ≤ 9223372036854775807 := by
  cases n with
  | zero => exact h.elim
  | succ n => unfold Ty at h; rw [Try.underlying2] at h; obtain ⟨z, h1, h2⟩ := h; exact ⟨z, h1, wf64 h2⟩
theorem ty_string {n : Nat} {ps : List PV} (h : Ty Try.prog n 9 ps) : ∃ s, ps = [Sx s] ∧ s.size ≤ maxLen := by
  cases n with
  | zero => exact h.elim
  | succ n => unfold Ty at h; rw [Try.underlying9] at h; exact h
theorem ty_term : ∀ (n : Nat) (ps : List PV), Ty Try.prog n 24 ps → ∃ t : VT, ps = tc t ∧ in64 t := by
  intro n
  induction n using Nat.strongRecOn with
  | ind n ih =>
  intro ps h
  cases n with
  | zero => exact h.elim
  | succ n =>
    unfold Ty at h
    rw [Try.underlying24] at h
    obtain ⟨hl, hf⟩ := h
    simp only [List.mem_cons, List.not_mem_nil, or_false, forall_eq_or_imp, forall_eq, c_int, c_int64, c_string, c_terms] at hf
    rw [c_term] at hl
    match ps, hl with
    | [p0, p1, p2, p3, p4, p5], _ =>
      obtain ⟨f0, f1, f2, f3, f4, f5⟩ := hf
      obtain ⟨z0, e0, w0⟩ := ty_int f0
      obtain ⟨z1, e1, w1⟩ := ty_int64 f1
      obtain ⟨s2, e2, w2⟩ := ty_string f2
      obtain ⟨z4, e4, w4⟩ := ty_int f4
      obtain ⟨z5, e5, w5⟩ := ty_int f5
      simp at e0 e1 e2 e4 e5
      subst e0 e1 e2 e4 e5
      cases n with
      | zero => exact f3.elim
      | succ n =>
        unfold Ty at f3
        rw [Try.underlying22] at f3
        obtain ⟨l, e3, _, hl⟩ := f3
        rw [c_term] at e3
        simp at e3
        subst e3
        obtain ⟨L, hL, hq⟩ := bs.choose_list l.length (fun i (x : VT) => l[i]? = some (tc x) ∧ in64 x) (fun i hi => by
          obtain ⟨x, h1, h2⟩ := ih n (by omega) (l[i]'hi) (hl _ (List.getElem_mem hi))
          exact ⟨x, by rw [List.getElem?_eq_getElem hi, h1], h2⟩)
        have hlm : l = L.map tc := by
          apply List.ext_getElem?
          intro i
          rw [List.getElem?_map]
          by_cases hi : i < L.length
          · have := hq i _ (List.getElem?_eq_getElem hi)
            rw [this.1, List.getElem?_eq_getElem hi]; rfl
          · rw [List.getElem?_eq_none (by omega), List.getElem?_eq_none (by omega)]; rfl
        refine ⟨.mk ⟨z0, z1, s2, z4, z5⟩ L, by rw [tc_mk, hlm], (Tr.all_mk _ _ _).2 ⟨⟨w0, w1, w4, w5⟩, fun y hy => ?_⟩⟩
        obtain ⟨i, hi⟩ := List.mem_iff_getElem?.1 hy
        exact (hq i y hi).2
end Go.Proofs.Ytjjnboenehomgaa.am
end
section
namespace Go.Proofs.Ytjjnboenehomgaa.am
open Go.ChangeShapes Go.WideShapes Go.ChangeAt Go.RowKit
open vt
set_option linter.unusedVariables false
set_option linter.unusedSimpArgs false
set_option maxRecDepth 100000
theorem c_val : Try.prog.cellsOf 28 = 2 := by kernel_rfl
theorem c_vals : Try.prog.cellsOf 25 = 1 := by kernel_rfl
theorem c_i64s : Try.prog.cellsOf 26 = 1 := by kernel_rfl
theorem c_state : Try.prog.cellsOf 30 = 10 := by kernel_rfl
theorem c_rule : Try.prog.cellsOf 32 = 30 := by kernel_rfl
abbrev In64 (z : Int) : Prop := -9223372036854775808 ≤ z ∧ z ≤ 9223372036854775807
theorem ty_val : ∀ (n : Nat) (ps : List PV), Ty Try.prog n 28 ps → ∃ t : VV, ps = uc t ∧ Tr.all In64 t := by
  intro n
  induction n using Nat.strongRecOn with
  | ind n ih =>
  intro ps h
  cases n with
  | zero => exact h.elim
  | succ n =>
    unfold Ty at h
    rw [Try.underlying28] at h
    obtain ⟨hl, hf⟩ := h
    simp only [List.mem_cons, List.not_mem_nil, or_false, forall_eq_or_imp, forall_eq, c_int64, c_vals] at hf
    rw [c_val] at hl
    match ps, hl with
    | [p0, p1], _ =>
      obtain ⟨f0, f1⟩ := hf
      obtain ⟨z0, e0, w0⟩ := ty_int64 f0
      simp at e0
      subst e0
      cases n with
      | zero => exact f1.elim
      | succ n =>
        unfold Ty at f1
        rw [Try.underlying25] at f1
        obtain ⟨l, e3, _, hl⟩ := f1
        rw [c_val] at e3
        simp at e3
        subst e3
        obtain ⟨L, hL, hq⟩ := bs.choose_list l.length (fun i (x : VV) => l[i]? = some (uc x) ∧ Tr.all In64 x) (fun i hi => by
          obtain ⟨x, h1, h2⟩ := ih n (by omega) (l[i]'hi) (hl _ (List.getElem_mem hi))
          exact ⟨x, by rw [List.getElem?_eq_getElem hi, h1], h2⟩)
        have hlm : l = L.map uc := by
          apply List.ext_getElem?
          intro i
          rw [List.getElem?_map]
          by_cases hi : i < L.length
          · have := hq i _ (List.getElem?_eq_getElem hi)
            rw [this.1, List.getElem?_eq_getElem hi]; rfl
          · rw [List.getElem?_eq_none (by omega), List.getElem?_eq_none (by omega)]; rfl
        refine ⟨.mk z0 L, by rw [uc_mk, hlm], (Tr.all_mk _ _ _).2 ⟨w0, fun y hy => ?_⟩⟩
        obtain ⟨i, hi⟩ := List.mem_iff_getElem?.1 hy
        exact (hq i y hi).2
theorem ty_vals {n : Nat} {ps : List PV} (h : Ty Try.prog n 25 ps) : ∃ L : List VV, ps = [.sl 2 (L.map uc)] ∧ ∀ v ∈ L, Tr.all In64 v := by
  obtain ⟨L, e, _, hq⟩ := ty_slice (f := uc) (Q := fun v : VV => Tr.all In64 v) Try.underlying25 ty_val h
  rw [c_val] at e
  exact ⟨L, e, hq⟩
theorem ty_terms {n : Nat} {ps : List PV} (h : Ty Try.prog n 22 ps) : ∃ L : List VT, ps = [.sl 6 (L.map tc)] ∧ ∀ v ∈ L, in64 v := by
  obtain ⟨L, e, _, hq⟩ := ty_slice (f := tc) (Q := fun v : VT => in64 v) Try.underlying22 ty_term h
  rw [c_term] at e
  exact ⟨L, e, hq⟩
theorem ty_i64' (n : Nat) (ps : List PV) (h : Ty Try.prog n 2 ps) : ∃ z : Int, ps = (fun z : Int => [I z]) z ∧ In64 z := by
  obtain ⟨z, h1, h2⟩ := ty_int64 h
  exact ⟨z, h1, h2⟩
theorem ty_i64s {n : Nat} {ps : List PV} (h : Ty Try.prog n 26 ps) : ∃ L : List Int, ps = [Iz L] ∧ ∀ z ∈ L, In64 z := by
  obtain ⟨L, e, _, hq⟩ := ty_slice (f := fun z : Int => [I z]) (Q := In64) Try.underlying26 ty_i64' h
  rw [c_int64] at e
  exact ⟨L, e, hq⟩
structure StOk (s : StV) : Prop where
  gl : ∀ v ∈ s.gl, Tr.all In64 v
  lo : ∀ v ∈ s.lo, Tr.all In64 v
  inp : ∀ z ∈ s.inp, In64 z
  pos : In64 s.pos
  tr : ∀ z ∈ s.tr, In64 z
  fuel : In64 s.fuel
  kind : In64 s.kind
  n : In64 s.n
  ret : Tr.all In64 s.ret
theorem ty_state (n : Nat) (ps : List PV) (h : Ty Try.prog n 30 ps) : ∃ s : StV, ps = sc s ∧ StOk s := by
  cases n with
  | zero => exact h.elim
  | succ n =>
    unfold Ty at h
    rw [Try.underlying30] at h
    obtain ⟨hl, hf⟩ := h
    simp only [List.mem_cons, List.not_mem_nil, or_false, forall_eq_or_imp, forall_eq, c_int, c_int64, c_vals, c_i64s, c_val] at hf
    rw [c_state] at hl
    match ps, hl with
    | [p0, p1, p2, p3, p4, p5, p6, p7, p8, p9], _ =>
      obtain ⟨f0, f1, f2, f3, f4, f5, f6, f7, f8⟩ := hf
      obtain ⟨g, e0, w0⟩ := ty_vals f0
      obtain ⟨lo, e1, w1⟩ := ty_vals f1
      obtain ⟨inp, e2, w2⟩ := ty_i64s f2
      obtain ⟨z3, e3, w3⟩ := ty_int f3
      obtain ⟨tr, e4, w4⟩ := ty_i64s f4
      obtain ⟨z5, e5, w5⟩ := ty_int f5
      obtain ⟨z6, e6, w6⟩ := ty_int f6
      obtain ⟨z7, e7, w7⟩ := ty_int64 f7
      obtain ⟨⟨z8, l8⟩, e8, w8⟩ := ty_val _ _ f8
      rw [uc_mk] at e8
      simp at e0 e1 e2 e3 e4 e5 e6 e7 e8
      obtain ⟨a1, a2⟩ := e8
      subst e0 e1 e2 e3 e4 e5 e6 e7 a1 a2
      exact ⟨⟨g, lo, inp, z3, tr, z5, z6, z7, .mk z8 l8⟩, by unfold sc; rw [uc_mk]; rfl, ⟨w0, w1, w2, w3, w4, w5, w6, w7, w8⟩⟩
structure RuOk (u : RuV) : Prop where
  m : in64 u.m
  ty : ∀ t ∈ u.ty, in64 t
  s : StOk u.s
  rule : In64 u.rule
  l : in64 u.l
  r : in64 u.r
theorem ty_rule (n : Nat) (ps : List PV) (h : Ty Try.prog n 32 ps) : ∃ u : RuV, ps = rc u ∧ RuOk u := by
  cases n with
  | zero => exact h.elim
  | succ n =>
    unfold Ty at h
    rw [Try.underlying32] at h
    obtain ⟨hl, hf⟩ := h
    simp only [List.mem_cons, List.not_mem_nil, or_false, forall_eq_or_imp, forall_eq, c_int, c_terms, c_term, c_state] at hf
    rw [c_rule] at hl
    obtain ⟨f0, f1, f2, f3, f4, f5⟩ := hf
    obtain ⟨m, e0, w0⟩ := ty_term _ _ f0
    obtain ⟨L, e1, w1⟩ := ty_terms f1
    obtain ⟨s, e2, w2⟩ := ty_state _ _ f2
    obtain ⟨z, e3, w3⟩ := ty_int f3
    obtain ⟨l, e4, w4⟩ := ty_term _ _ f4
    obtain ⟨r, e5, w5⟩ := ty_term _ _ f5
    refine ⟨⟨m, L, s, z, l, r⟩, ?_, ⟨w0, w1, w2, w3, w4, w5⟩⟩
    unfold rc
    rw [← e0, ← e2, ← e4, ← e5, show ∀ p : PV, ∀ X : List PV, p :: X = [p] ++ X from fun _ _ => rfl, ← e1, show ∀ X : List PV, I z :: X = [I z] ++ X from fun _ => rfl, ← e3]
    apply List.ext_getElem?
    intro i
    match ps, hl with
    | [p0, p1, p2, p3, p4, p5, p6, p7, p8, p9, p10, p11, p12, p13, p14, p15, p16, p17, p18, p19, p20, p21, p22, p23, p24, p25, p26, p27, p28, p29], _ => rfl
def clR : List TypeId := [3, 2, 9, 22, 24, 26, 28, 25, 30, 32]
theorem clR_ok : clR.all (okTy Try.prog clR) = true := by kernel_rfl
theorem open_rule {H : Type} {enc : TypeId × Value → H} {w : World} {r : Reach} {b0 : Nat} {v : Value} {d : DataW H} {p : List MemPlace}
    (hv : Value.okWide Try.prog w r b0 32 v) (h : DataW.Trod enc Try.prog w 0 (fun _ => true) true 32 v d p) : ∃ u : RuV, RepV (fun _ => .un) (oldS w) w v (vRule u) ∧ RuOk u := by
  obtain ⟨cs, rfl, hsz⟩ := okWide_struct Try.underlying32 hv
  obtain ⟨n, ps, h1, h2⟩ := open_agg clR_ok (by decide) h
  obtain ⟨u, rfl, h3⟩ := ty_rule n ps h2
  refine ⟨u, ?_, h3⟩
  rw [ra_eq] at h1
  exact h1
end Go.Proofs.Ytjjnboenehomgaa.am
end
