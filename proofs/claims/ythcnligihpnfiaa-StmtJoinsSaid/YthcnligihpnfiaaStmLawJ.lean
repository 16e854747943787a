/-
  Layer 8: statements one behind the other: what the statement says.
-/
import Derived.Test.YthcnligihpnfiaaStmLaw
import Derived.Test.YthcnligihpnfiaaVtJoin
import Derived.Test.YthcnligihpnfiaaRowRSame
namespace Go.Proofs.Ythcnligihpnfiaa.am
open Go.ChangeShapes Go.WideShapes Go.ChangeAt Go.RowKit
open vt
set_option linter.unusedVariables false
set_option linter.unusedSimpArgs false
set_option maxRecDepth 100000 in
set_option maxHeartbeats 4000000 in
theorem law_sjoins_row (a b : ByteArray) (ha : a.size ≤ 9223372036854775807) (hb : b.size ≤ 9223372036854775807) : Row Try.prog 6 [vS a, vS b] [] (vB true) [] := by
  have haw := awake08_row
  by_cases la : 1000 < a.size
  · have la' : (1000 : Int) < a.size := by omega
    refine row_of Try.func6 rfl rfl (Nat.le_of_ble_eq_true rfl) ?_
    repeat' (first | refine aw_seq ?_ | refine aw_skip ?_ | refine aw_block ?_ | refine aw_exit ?_ | refine aw_cond rfl (fun _ => ?_) (fun hb => absurd hb (by decide)) | refine aw_cond rfl (fun hb => absurd hb (by decide)) (fun _ => ?_) | (refine aw_reg (fun K hK => ?_); simp -implicitDefEqProofs [la, la']) | (refine aw_drw mixd (fun K hK => ?_); simp -implicitDefEqProofs [la, la']) | refine hK _ ?_ | refine hK _ _ (by rfl) ?_ | (refine ar_call (cp haw ?_); simp -implicitDefEqProofs [la, la']) | (refine ard_call (dp haw ?_); simp -implicitDefEqProofs [la, la']) | fail)
    refine aw_ret (fin_ret ?_); simp -implicitDefEqProofs [FinP, resV, resT] <;> try rfl
  have la' : ¬ (1000 : Int) < a.size := by omega
  by_cases lb : 1000 < b.size
  · have lb' : (1000 : Int) < b.size := by omega
    refine row_of Try.func6 rfl rfl (Nat.le_of_ble_eq_true rfl) ?_
    repeat' (first | refine aw_seq ?_ | refine aw_skip ?_ | refine aw_block ?_ | refine aw_exit ?_ | refine aw_cond rfl (fun _ => ?_) (fun hb => absurd hb (by decide)) | refine aw_cond rfl (fun hb => absurd hb (by decide)) (fun _ => ?_) | (refine aw_reg (fun K hK => ?_); simp -implicitDefEqProofs [la, la', lb, lb']) | (refine aw_drw mixd (fun K hK => ?_); simp -implicitDefEqProofs [la, la', lb, lb']) | refine hK _ ?_ | refine hK _ _ (by rfl) ?_ | (refine ar_call (cp haw ?_); simp -implicitDefEqProofs [la, la', lb, lb']) | (refine ard_call (dp haw ?_); simp -implicitDefEqProofs [la, la', lb, lb']) | fail)
    refine aw_ret (fin_ret ?_); simp -implicitDefEqProofs [FinP, resV, resT] <;> try rfl
  have lb' : ¬ (1000 : Int) < b.size := by omega
  have t1 := rtokens_row a ha
  have t2 := rtokens_row b hb
  have o1 := tok_ok (s := a)
  have o2 := tok_ok (s := b)
  obtain ⟨⟨s, sp, se⟩, hs⟩ : ∃ r, tokG a = r := ⟨_, rfl⟩
  obtain ⟨⟨u, up, ue⟩, hu⟩ : ∃ r, tokG b = r := ⟨_, rfl⟩
  rw [hs] at t1 o1
  rw [hu] at t2 o2
  clear hs hu
  by_cases he : se = 0; rotate_left
  · clear o1 o2
    refine row_of Try.func6 rfl rfl (Nat.le_of_ble_eq_true rfl) ?_
    repeat' (first | refine aw_seq ?_ | refine aw_skip ?_ | refine aw_block ?_ | refine aw_exit ?_ | refine aw_cond rfl (fun _ => ?_) (fun hb => absurd hb (by decide)) | refine aw_cond rfl (fun hb => absurd hb (by decide)) (fun _ => ?_) | (refine aw_reg (fun K hK => ?_); simp -implicitDefEqProofs [la, la', lb, lb', he]) | (refine aw_drw mixd (fun K hK => ?_); simp -implicitDefEqProofs [la, la', lb, lb', he]) | refine hK _ ?_ | refine hK _ _ (by rfl) ?_ | (refine ar_call (cp t1 ?_); simp -implicitDefEqProofs [la, la', lb, lb', he]) | (refine ard_call (dp t1 ?_); simp -implicitDefEqProofs [la, la', lb, lb', he]) | (refine ar_call (cp t2 ?_); simp -implicitDefEqProofs [la, la', lb, lb', he]) | (refine ard_call (dp t2 ?_); simp -implicitDefEqProofs [la, la', lb, lb', he]) | (refine ar_call (cp haw ?_); simp -implicitDefEqProofs [la, la', lb, lb', he]) | (refine ard_call (dp haw ?_); simp -implicitDefEqProofs [la, la', lb, lb', he]) | fail)
    refine aw_ret (fin_ret ?_); simp -implicitDefEqProofs [FinP, resV, resT] <;> try rfl
  subst he
  by_cases he : ue = 0; rotate_left
  · clear o1 o2
    refine row_of Try.func6 rfl rfl (Nat.le_of_ble_eq_true rfl) ?_
    repeat' (first | refine aw_seq ?_ | refine aw_skip ?_ | refine aw_block ?_ | refine aw_exit ?_ | refine aw_cond rfl (fun _ => ?_) (fun hb => absurd hb (by decide)) | refine aw_cond rfl (fun hb => absurd hb (by decide)) (fun _ => ?_) | (refine aw_reg (fun K hK => ?_); simp -implicitDefEqProofs [la, la', lb, lb', he]) | (refine aw_drw mixd (fun K hK => ?_); simp -implicitDefEqProofs [la, la', lb, lb', he]) | refine hK _ ?_ | refine hK _ _ (by rfl) ?_ | (refine ar_call (cp t1 ?_); simp -implicitDefEqProofs [la, la', lb, lb', he]) | (refine ard_call (dp t1 ?_); simp -implicitDefEqProofs [la, la', lb, lb', he]) | (refine ar_call (cp t2 ?_); simp -implicitDefEqProofs [la, la', lb, lb', he]) | (refine ard_call (dp t2 ?_); simp -implicitDefEqProofs [la, la', lb, lb', he]) | (refine ar_call (cp haw ?_); simp -implicitDefEqProofs [la, la', lb, lb', he]) | (refine ard_call (dp haw ?_); simp -implicitDefEqProofs [la, la', lb, lb', he]) | fail)
    refine aw_ret (fin_ret ?_); simp -implicitDefEqProofs [FinP, resV, resT] <;> try rfl
  subst he
  have o1 := o1 rfl
  have o2 := o2 rfl
  dsimp only at o1 o2
  by_cases ls : 200 < s.length
  · have ls' : (200 : Int) < s.length := by omega
    clear o1 o2
    refine row_of Try.func6 rfl rfl (Nat.le_of_ble_eq_true rfl) ?_
    repeat' (first | refine aw_seq ?_ | refine aw_skip ?_ | refine aw_block ?_ | refine aw_exit ?_ | refine aw_cond rfl (fun _ => ?_) (fun hb => absurd hb (by decide)) | refine aw_cond rfl (fun hb => absurd hb (by decide)) (fun _ => ?_) | (refine aw_reg (fun K hK => ?_); simp -implicitDefEqProofs [la, la', lb, lb', ls, ls']) | (refine aw_drw mixd (fun K hK => ?_); simp -implicitDefEqProofs [la, la', lb, lb', ls, ls']) | refine hK _ ?_ | refine hK _ _ (by rfl) ?_ | (refine ar_call (cp t1 ?_); simp -implicitDefEqProofs [la, la', lb, lb', ls, ls']) | (refine ard_call (dp t1 ?_); simp -implicitDefEqProofs [la, la', lb, lb', ls, ls']) | (refine ar_call (cp t2 ?_); simp -implicitDefEqProofs [la, la', lb, lb', ls, ls']) | (refine ard_call (dp t2 ?_); simp -implicitDefEqProofs [la, la', lb, lb', ls, ls']) | (refine ar_call (cp haw ?_); simp -implicitDefEqProofs [la, la', lb, lb', ls, ls']) | (refine ard_call (dp haw ?_); simp -implicitDefEqProofs [la, la', lb, lb', ls, ls']) | fail)
    refine aw_ret (fin_ret ?_); simp -implicitDefEqProofs [FinP, resV, resT] <;> try rfl
  have ls' : ¬ (200 : Int) < s.length := by omega
  by_cases lu : 200 < u.length
  · have lu' : (200 : Int) < u.length := by omega
    clear o1 o2
    refine row_of Try.func6 rfl rfl (Nat.le_of_ble_eq_true rfl) ?_
    repeat' (first | refine aw_seq ?_ | refine aw_skip ?_ | refine aw_block ?_ | refine aw_exit ?_ | refine aw_cond rfl (fun _ => ?_) (fun hb => absurd hb (by decide)) | refine aw_cond rfl (fun hb => absurd hb (by decide)) (fun _ => ?_) | (refine aw_reg (fun K hK => ?_); simp -implicitDefEqProofs [la, la', lb, lb', ls, ls', lu, lu']) | (refine aw_drw mixd (fun K hK => ?_); simp -implicitDefEqProofs [la, la', lb, lb', ls, ls', lu, lu']) | refine hK _ ?_ | refine hK _ _ (by rfl) ?_ | (refine ar_call (cp t1 ?_); simp -implicitDefEqProofs [la, la', lb, lb', ls, ls', lu, lu']) | (refine ard_call (dp t1 ?_); simp -implicitDefEqProofs [la, la', lb, lb', ls, ls', lu, lu']) | (refine ar_call (cp t2 ?_); simp -implicitDefEqProofs [la, la', lb, lb', ls, ls', lu, lu']) | (refine ard_call (dp t2 ?_); simp -implicitDefEqProofs [la, la', lb, lb', ls, ls', lu, lu']) | (refine ar_call (cp haw ?_); simp -implicitDefEqProofs [la, la', lb, lb', ls, ls', lu, lu']) | (refine ard_call (dp haw ?_); simp -implicitDefEqProofs [la, la', lb, lb', ls, ls', lu, lu']) | fail)
    refine aw_ret (fin_ret ?_); simp -implicitDefEqProofs [FinP, resV, resT] <;> try rfl
  have lu' : ¬ (200 : Int) < u.length := by omega
  have p1 := sparse_yes s (by omega) 0 (Nat.zero_le _)
  have p2 := sparse_yes u (by omega) 0 (Nat.zero_le _)
  have k1 := sG_ok (ts := s) (s.length + 1) 0 (Nat.zero_le _)
  have k2 := sG_ok (ts := u) (u.length + 1) 0 (Nat.zero_le _)
  have z1 := oks_size k1
  have z2 := oks_size k2
  rw [show sG s (s.length + 1) 0 = Sx8 s 0 from rfl] at k1 z1
  rw [show sG u (u.length + 1) 0 = Sx8 u 0 from rfl] at k2 z2
  obtain ⟨⟨⟨xx, xl⟩, xt, xe⟩, hx⟩ : ∃ r, Sx8 s 0 = r := ⟨_, rfl⟩
  obtain ⟨⟨⟨yx, yl⟩, yt, ye⟩, hy⟩ : ∃ r, Sx8 u 0 = r := ⟨_, rfl⟩
  rw [hx] at p1 k1 z1
  rw [hy] at p2 k2 z2
  have q1 := (tok_len o1).1
  have q2 := (tok_len o2).1
  have wl1 : IntKind.i64.wrap ((s.length : Int) - 1) = (s.length : Int) - 1 := i64i _ (by omega) (by omega)
  have wl2 : IntKind.i64.wrap ((u.length : Int) - 1) = (u.length : Int) - 1 := i64i _ (by omega) (by omega)
  by_cases he : xe = 0; rotate_left
  · clear o1 o2 k1 k2 z1 z2 hx hy
    refine row_of Try.func6 rfl rfl (Nat.le_of_ble_eq_true rfl) ?_
    repeat' (first | refine aw_seq ?_ | refine aw_skip ?_ | refine aw_block ?_ | refine aw_exit ?_ | refine aw_cond rfl (fun _ => ?_) (fun hb => absurd hb (by decide)) | refine aw_cond rfl (fun hb => absurd hb (by decide)) (fun _ => ?_) | (refine aw_reg (fun K hK => ?_); simp -implicitDefEqProofs [la, la', lb, lb', ls, ls', lu, lu', he, wl1, wl2]) | (refine aw_drw mixd (fun K hK => ?_); simp -implicitDefEqProofs [la, la', lb, lb', ls, ls', lu, lu', he, wl1, wl2]) | refine hK _ ?_ | refine hK _ _ (by rfl) ?_ | (refine ar_call (cp t1 ?_); simp -implicitDefEqProofs [la, la', lb, lb', ls, ls', lu, lu', he, wl1, wl2]) | (refine ard_call (dp t1 ?_); simp -implicitDefEqProofs [la, la', lb, lb', ls, ls', lu, lu', he, wl1, wl2]) | (refine ar_call (cp t2 ?_); simp -implicitDefEqProofs [la, la', lb, lb', ls, ls', lu, lu', he, wl1, wl2]) | (refine ard_call (dp t2 ?_); simp -implicitDefEqProofs [la, la', lb, lb', ls, ls', lu, lu', he, wl1, wl2]) | (refine ar_call (cp p1 ?_); simp -implicitDefEqProofs [la, la', lb, lb', ls, ls', lu, lu', he, wl1, wl2]) | (refine ard_call (dp p1 ?_); simp -implicitDefEqProofs [la, la', lb, lb', ls, ls', lu, lu', he, wl1, wl2]) | (refine ar_call (cp p2 ?_); simp -implicitDefEqProofs [la, la', lb, lb', ls, ls', lu, lu', he, wl1, wl2]) | (refine ard_call (dp p2 ?_); simp -implicitDefEqProofs [la, la', lb, lb', ls, ls', lu, lu', he, wl1, wl2]) | (refine ar_call (cp haw ?_); simp -implicitDefEqProofs [la, la', lb, lb', ls, ls', lu, lu', he, wl1, wl2]) | (refine ard_call (dp haw ?_); simp -implicitDefEqProofs [la, la', lb, lb', ls, ls', lu, lu', he, wl1, wl2]) | fail)
    refine aw_ret (fin_ret ?_); simp -implicitDefEqProofs [FinP, resV, resT] <;> try rfl
  subst he
  by_cases he : ye = 0; rotate_left
  · clear o1 o2 k1 k2 z1 z2 hx hy
    refine row_of Try.func6 rfl rfl (Nat.le_of_ble_eq_true rfl) ?_
    repeat' (first | refine aw_seq ?_ | refine aw_skip ?_ | refine aw_block ?_ | refine aw_exit ?_ | refine aw_cond rfl (fun _ => ?_) (fun hb => absurd hb (by decide)) | refine aw_cond rfl (fun hb => absurd hb (by decide)) (fun _ => ?_) | (refine aw_reg (fun K hK => ?_); simp -implicitDefEqProofs [la, la', lb, lb', ls, ls', lu, lu', he, wl1, wl2]) | (refine aw_drw mixd (fun K hK => ?_); simp -implicitDefEqProofs [la, la', lb, lb', ls, ls', lu, lu', he, wl1, wl2]) | refine hK _ ?_ | refine hK _ _ (by rfl) ?_ | (refine ar_call (cp t1 ?_); simp -implicitDefEqProofs [la, la', lb, lb', ls, ls', lu, lu', he, wl1, wl2]) | (refine ard_call (dp t1 ?_); simp -implicitDefEqProofs [la, la', lb, lb', ls, ls', lu, lu', he, wl1, wl2]) | (refine ar_call (cp t2 ?_); simp -implicitDefEqProofs [la, la', lb, lb', ls, ls', lu, lu', he, wl1, wl2]) | (refine ard_call (dp t2 ?_); simp -implicitDefEqProofs [la, la', lb, lb', ls, ls', lu, lu', he, wl1, wl2]) | (refine ar_call (cp p1 ?_); simp -implicitDefEqProofs [la, la', lb, lb', ls, ls', lu, lu', he, wl1, wl2]) | (refine ard_call (dp p1 ?_); simp -implicitDefEqProofs [la, la', lb, lb', ls, ls', lu, lu', he, wl1, wl2]) | (refine ar_call (cp p2 ?_); simp -implicitDefEqProofs [la, la', lb, lb', ls, ls', lu, lu', he, wl1, wl2]) | (refine ard_call (dp p2 ?_); simp -implicitDefEqProofs [la, la', lb, lb', ls, ls', lu, lu', he, wl1, wl2]) | (refine ar_call (cp haw ?_); simp -implicitDefEqProofs [la, la', lb, lb', ls, ls', lu, lu', he, wl1, wl2]) | (refine ard_call (dp haw ?_); simp -implicitDefEqProofs [la, la', lb, lb', ls, ls', lu, lu', he, wl1, wl2]) | fail)
    refine aw_ret (fin_ret ?_); simp -implicitDefEqProofs [FinP, resV, resT] <;> try rfl
  subst he
  by_cases hxt : (xt : Int) = s.length - 1; rotate_left
  · clear o1 o2 k1 k2 z1 z2 hx hy
    refine row_of Try.func6 rfl rfl (Nat.le_of_ble_eq_true rfl) ?_
    repeat' (first | refine aw_seq ?_ | refine aw_skip ?_ | refine aw_block ?_ | refine aw_exit ?_ | refine aw_cond rfl (fun _ => ?_) (fun hb => absurd hb (by decide)) | refine aw_cond rfl (fun hb => absurd hb (by decide)) (fun _ => ?_) | (refine aw_reg (fun K hK => ?_); simp -implicitDefEqProofs [la, la', lb, lb', ls, ls', lu, lu', hxt, wl1, wl2]) | (refine aw_drw mixd (fun K hK => ?_); simp -implicitDefEqProofs [la, la', lb, lb', ls, ls', lu, lu', hxt, wl1, wl2]) | refine hK _ ?_ | refine hK _ _ (by rfl) ?_ | (refine ar_call (cp t1 ?_); simp -implicitDefEqProofs [la, la', lb, lb', ls, ls', lu, lu', hxt, wl1, wl2]) | (refine ard_call (dp t1 ?_); simp -implicitDefEqProofs [la, la', lb, lb', ls, ls', lu, lu', hxt, wl1, wl2]) | (refine ar_call (cp t2 ?_); simp -implicitDefEqProofs [la, la', lb, lb', ls, ls', lu, lu', hxt, wl1, wl2]) | (refine ard_call (dp t2 ?_); simp -implicitDefEqProofs [la, la', lb, lb', ls, ls', lu, lu', hxt, wl1, wl2]) | (refine ar_call (cp p1 ?_); simp -implicitDefEqProofs [la, la', lb, lb', ls, ls', lu, lu', hxt, wl1, wl2]) | (refine ard_call (dp p1 ?_); simp -implicitDefEqProofs [la, la', lb, lb', ls, ls', lu, lu', hxt, wl1, wl2]) | (refine ar_call (cp p2 ?_); simp -implicitDefEqProofs [la, la', lb, lb', ls, ls', lu, lu', hxt, wl1, wl2]) | (refine ard_call (dp p2 ?_); simp -implicitDefEqProofs [la, la', lb, lb', ls, ls', lu, lu', hxt, wl1, wl2]) | (refine ar_call (cp haw ?_); simp -implicitDefEqProofs [la, la', lb, lb', ls, ls', lu, lu', hxt, wl1, wl2]) | (refine ard_call (dp haw ?_); simp -implicitDefEqProofs [la, la', lb, lb', ls, ls', lu, lu', hxt, wl1, wl2]) | fail)
    refine aw_ret (fin_ret ?_); simp -implicitDefEqProofs [FinP, resV, resT] <;> try rfl
  by_cases hyt : (yt : Int) = u.length - 1; rotate_left
  · clear o1 o2 k1 k2 z1 z2 hx hy
    refine row_of Try.func6 rfl rfl (Nat.le_of_ble_eq_true rfl) ?_
    repeat' (first | refine aw_seq ?_ | refine aw_skip ?_ | refine aw_block ?_ | refine aw_exit ?_ | refine aw_cond rfl (fun _ => ?_) (fun hb => absurd hb (by decide)) | refine aw_cond rfl (fun hb => absurd hb (by decide)) (fun _ => ?_) | (refine aw_reg (fun K hK => ?_); simp -implicitDefEqProofs [la, la', lb, lb', ls, ls', lu, lu', hxt, hyt, wl1, wl2]) | (refine aw_drw mixd (fun K hK => ?_); simp -implicitDefEqProofs [la, la', lb, lb', ls, ls', lu, lu', hxt, hyt, wl1, wl2]) | refine hK _ ?_ | refine hK _ _ (by rfl) ?_ | (refine ar_call (cp t1 ?_); simp -implicitDefEqProofs [la, la', lb, lb', ls, ls', lu, lu', hxt, hyt, wl1, wl2]) | (refine ard_call (dp t1 ?_); simp -implicitDefEqProofs [la, la', lb, lb', ls, ls', lu, lu', hxt, hyt, wl1, wl2]) | (refine ar_call (cp t2 ?_); simp -implicitDefEqProofs [la, la', lb, lb', ls, ls', lu, lu', hxt, hyt, wl1, wl2]) | (refine ard_call (dp t2 ?_); simp -implicitDefEqProofs [la, la', lb, lb', ls, ls', lu, lu', hxt, hyt, wl1, wl2]) | (refine ar_call (cp p1 ?_); simp -implicitDefEqProofs [la, la', lb, lb', ls, ls', lu, lu', hxt, hyt, wl1, wl2]) | (refine ard_call (dp p1 ?_); simp -implicitDefEqProofs [la, la', lb, lb', ls, ls', lu, lu', hxt, hyt, wl1, wl2]) | (refine ar_call (cp p2 ?_); simp -implicitDefEqProofs [la, la', lb, lb', ls, ls', lu, lu', hxt, hyt, wl1, wl2]) | (refine ard_call (dp p2 ?_); simp -implicitDefEqProofs [la, la', lb, lb', ls, ls', lu, lu', hxt, hyt, wl1, wl2]) | (refine ar_call (cp haw ?_); simp -implicitDefEqProofs [la, la', lb, lb', ls, ls', lu, lu', hxt, hyt, wl1, wl2]) | (refine ard_call (dp haw ?_); simp -implicitDefEqProofs [la, la', lb, lb', ls, ls', lu, lu', hxt, hyt, wl1, wl2]) | fail)
    refine aw_ret (fin_ret ?_); simp -implicitDefEqProofs [FinP, resV, resT] <;> try rfl
  have ext : xt = s.length - 1 := by omega
  have eyt : yt = u.length - 1 := by omega
  obtain ⟨f, t, hbl⟩ := join_bl o1 o2 (x := .mk xx xl) (y := .mk yx yl) (by rw [show sG s (s.length + 1) 0 = Sx8 s 0 from rfl, hx, ext]) (by rw [show sG u (u.length + 1) 0 = Sx8 u 0 from rfl, hy, eyt])
  rw [← ext, ← eyt] at hbl
  have hAl : ([braK] ++ s.take xt ++ u.take yt ++ [ketK]).length = xt + yt + 2 := by simp only [List.length_append, List.length_cons, List.length_nil, List.length_take]; omega
  obtain ⟨A, hA⟩ : ∃ A, [braK] ++ s.take xt ++ u.take yt ++ [ketK] = A := ⟨_, rfl⟩
  rw [hA] at hbl hAl
  have hb8 := sblock_yes A (by omega) 0 (Nat.zero_le _)
  rw [show Bx8 A 0 = blG A (sG A (A.length + 1)) 0 from rfl, hbl, hAl] at hb8
  rw [← hA] at hb8
  clear hA hAl hbl
  have r1 := rsame_row (.mk xx xl) (by dsimp only at z1; omega) (.mk xx xl) (by dsimp only at z1; omega)
  have r2 := rsame_row (.mk yx yl) (by dsimp only at z2; omega) (.mk yx yl) (by dsimp only at z2; omega)
  rw [same_refl] at r1 r2
  have xle : xt ≤ s.length := by omega
  have yle : yt ≤ u.length := by omega
  have x200 : xt ≤ 200 := by omega
  have y200 : yt ≤ 200 := by omega
  have xle' : (xt : Int) ≤ s.length := by omega
  have yle' : (yt : Int) ≤ u.length := by omega
  have m1 : min xt s.length = xt := by omega
  have m2 : min yt u.length = yt := by omega
  have bd : ∀ n, n ≤ 500 → n * 48 ≤ 140737488355328 ∧ n ≤ 140737488355328 := fun n h => ⟨Nat.le_trans (Nat.mul_le_mul_right 48 h) (by decide), Nat.le_trans h (by decide)⟩
  obtain ⟨b0, c0⟩ := bd (1 + xt) (by omega)
  obtain ⟨b1, c1⟩ := bd (xt + 1) (by omega)
  obtain ⟨b2, c2⟩ := bd (1 + xt + yt) (by omega)
  obtain ⟨b3, c3⟩ := bd (xt + 1 + yt) (by omega)
  obtain ⟨b4, c4⟩ := bd (1 + xt + yt + 1) (by omega)
  obtain ⟨b5, c5⟩ := bd (xt + 1 + yt + 1) (by omega)
  obtain ⟨b6, c6⟩ := bd (xt + yt + 1 + 1) (by omega)
  obtain ⟨b7, c7⟩ := bd (xt + yt + 1) (by omega)
  obtain ⟨b8, c8⟩ := bd (xt + (yt + 1) + 1) (by omega)
  obtain ⟨b9, c9⟩ := bd (xt + yt + 2) (by omega)
  obtain ⟨b10, c10⟩ := bd (xt + (yt + 1)) (by omega)
  have e1 : (s.take xt).length = xt := by rw [List.length_take]; exact m1
  have e2 : (u.take yt).length = yt := by rw [List.length_take]; exact m2
  have hln : ((xt : Int) + yt + 2 = (xt : Int) + ((yt : Int) + 1) + 1) = True := eq_true (by omega)
  have hxt1 : ((xt : Int) = (s.length : Int) - 1) = True := eq_true hxt
  have hyt1 : ((yt : Int) = (u.length : Int) - 1) = True := eq_true hyt
  clear o1 o2 k1 k2 z1 z2 hx hy ext eyt bd x200 y200 hxt hyt
  refine row_of Try.func6 rfl rfl (Nat.le_of_ble_eq_true rfl) ?_
  repeat' (first | refine aw_seq ?_ | refine aw_skip ?_ | refine aw_block ?_ | refine aw_exit ?_ | refine aw_cond rfl (fun _ => ?_) (fun hb => absurd hb (by decide)) | refine aw_cond rfl (fun hb => absurd hb (by decide)) (fun _ => ?_) | (refine aw_reg (fun K hK => ?_); simp -implicitDefEqProofs [la, la', lb, lb', ls, ls', lu, lu', hxt1, hyt1, hln, wl1, wl2, e1, e2, m1, m2, xle, yle, xle', yle', b0, c0, b1, c1, b2, c2, b3, c3, b4, c4, b5, c5, b6, c6, b7, c7, b8, c8, b9, c9, b10, c10]) | (refine aw_drw mixd (fun K hK => ?_); simp -implicitDefEqProofs [la, la', lb, lb', ls, ls', lu, lu', hxt1, hyt1, hln, wl1, wl2, e1, e2, m1, m2, xle, yle, xle', yle', b0, c0, b1, c1, b2, c2, b3, c3, b4, c4, b5, c5, b6, c6, b7, c7, b8, c8, b9, c9, b10, c10]) | refine hK _ ?_ | refine hK _ _ (by rfl) ?_ | (refine ar_call (cp t1 ?_); simp -implicitDefEqProofs [la, la', lb, lb', ls, ls', lu, lu', hxt1, hyt1, hln, wl1, wl2, e1, e2, m1, m2, xle, yle, xle', yle', b0, c0, b1, c1, b2, c2, b3, c3, b4, c4, b5, c5, b6, c6, b7, c7, b8, c8, b9, c9, b10, c10]) | (refine ard_call (dp t1 ?_); simp -implicitDefEqProofs [la, la', lb, lb', ls, ls', lu, lu', hxt1, hyt1, hln, wl1, wl2, e1, e2, m1, m2, xle, yle, xle', yle', b0, c0, b1, c1, b2, c2, b3, c3, b4, c4, b5, c5, b6, c6, b7, c7, b8, c8, b9, c9, b10, c10]) | (refine ar_call (cp t2 ?_); simp -implicitDefEqProofs [la, la', lb, lb', ls, ls', lu, lu', hxt1, hyt1, hln, wl1, wl2, e1, e2, m1, m2, xle, yle, xle', yle', b0, c0, b1, c1, b2, c2, b3, c3, b4, c4, b5, c5, b6, c6, b7, c7, b8, c8, b9, c9, b10, c10]) | (refine ard_call (dp t2 ?_); simp -implicitDefEqProofs [la, la', lb, lb', ls, ls', lu, lu', hxt1, hyt1, hln, wl1, wl2, e1, e2, m1, m2, xle, yle, xle', yle', b0, c0, b1, c1, b2, c2, b3, c3, b4, c4, b5, c5, b6, c6, b7, c7, b8, c8, b9, c9, b10, c10]) | (refine ar_call (cp p1 ?_); simp -implicitDefEqProofs [la, la', lb, lb', ls, ls', lu, lu', hxt1, hyt1, hln, wl1, wl2, e1, e2, m1, m2, xle, yle, xle', yle', b0, c0, b1, c1, b2, c2, b3, c3, b4, c4, b5, c5, b6, c6, b7, c7, b8, c8, b9, c9, b10, c10]) | (refine ard_call (dp p1 ?_); simp -implicitDefEqProofs [la, la', lb, lb', ls, ls', lu, lu', hxt1, hyt1, hln, wl1, wl2, e1, e2, m1, m2, xle, yle, xle', yle', b0, c0, b1, c1, b2, c2, b3, c3, b4, c4, b5, c5, b6, c6, b7, c7, b8, c8, b9, c9, b10, c10]) | (refine ar_call (cp p2 ?_); simp -implicitDefEqProofs [la, la', lb, lb', ls, ls', lu, lu', hxt1, hyt1, hln, wl1, wl2, e1, e2, m1, m2, xle, yle, xle', yle', b0, c0, b1, c1, b2, c2, b3, c3, b4, c4, b5, c5, b6, c6, b7, c7, b8, c8, b9, c9, b10, c10]) | (refine ard_call (dp p2 ?_); simp -implicitDefEqProofs [la, la', lb, lb', ls, ls', lu, lu', hxt1, hyt1, hln, wl1, wl2, e1, e2, m1, m2, xle, yle, xle', yle', b0, c0, b1, c1, b2, c2, b3, c3, b4, c4, b5, c5, b6, c6, b7, c7, b8, c8, b9, c9, b10, c10]) | (refine ar_call (cp hb8 ?_); simp -implicitDefEqProofs [la, la', lb, lb', ls, ls', lu, lu', hxt1, hyt1, hln, wl1, wl2, e1, e2, m1, m2, xle, yle, xle', yle', b0, c0, b1, c1, b2, c2, b3, c3, b4, c4, b5, c5, b6, c6, b7, c7, b8, c8, b9, c9, b10, c10]) | (refine ard_call (dp hb8 ?_); simp -implicitDefEqProofs [la, la', lb, lb', ls, ls', lu, lu', hxt1, hyt1, hln, wl1, wl2, e1, e2, m1, m2, xle, yle, xle', yle', b0, c0, b1, c1, b2, c2, b3, c3, b4, c4, b5, c5, b6, c6, b7, c7, b8, c8, b9, c9, b10, c10]) | (refine ar_call (cp r1 ?_); simp -implicitDefEqProofs [la, la', lb, lb', ls, ls', lu, lu', hxt1, hyt1, hln, wl1, wl2, e1, e2, m1, m2, xle, yle, xle', yle', b0, c0, b1, c1, b2, c2, b3, c3, b4, c4, b5, c5, b6, c6, b7, c7, b8, c8, b9, c9, b10, c10]) | (refine ard_call (dp r1 ?_); simp -implicitDefEqProofs [la, la', lb, lb', ls, ls', lu, lu', hxt1, hyt1, hln, wl1, wl2, e1, e2, m1, m2, xle, yle, xle', yle', b0, c0, b1, c1, b2, c2, b3, c3, b4, c4, b5, c5, b6, c6, b7, c7, b8, c8, b9, c9, b10, c10]) | (refine ar_call (cp r2 ?_); simp -implicitDefEqProofs [la, la', lb, lb', ls, ls', lu, lu', hxt1, hyt1, hln, wl1, wl2, e1, e2, m1, m2, xle, yle, xle', yle', b0, c0, b1, c1, b2, c2, b3, c3, b4, c4, b5, c5, b6, c6, b7, c7, b8, c8, b9, c9, b10, c10]) | (refine ard_call (dp r2 ?_); simp -implicitDefEqProofs [la, la', lb, lb', ls, ls', lu, lu', hxt1, hyt1, hln, wl1, wl2, e1, e2, m1, m2, xle, yle, xle', yle', b0, c0, b1, c1, b2, c2, b3, c3, b4, c4, b5, c5, b6, c6, b7, c7, b8, c8, b9, c9, b10, c10]) | (refine ar_call (cp haw ?_); simp -implicitDefEqProofs [la, la', lb, lb', ls, ls', lu, lu', hxt1, hyt1, hln, wl1, wl2, e1, e2, m1, m2, xle, yle, xle', yle', b0, c0, b1, c1, b2, c2, b3, c3, b4, c4, b5, c5, b6, c6, b7, c7, b8, c8, b9, c9, b10, c10]) | (refine ard_call (dp haw ?_); simp -implicitDefEqProofs [la, la', lb, lb', ls, ls', lu, lu', hxt1, hyt1, hln, wl1, wl2, e1, e2, m1, m2, xle, yle, xle', yle', b0, c0, b1, c1, b2, c2, b3, c3, b4, c4, b5, c5, b6, c6, b7, c7, b8, c8, b9, c9, b10, c10]) | fail)
  refine aw_ret (fin_ret ?_); simp -implicitDefEqProofs [FinP, resV, resT] <;> try rfl
end Go.Proofs.Ythcnligihpnfiaa.am
