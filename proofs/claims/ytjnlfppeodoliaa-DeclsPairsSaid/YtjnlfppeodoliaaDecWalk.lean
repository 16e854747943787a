/-
  Layer 32: terms renumbered: the program's.
-/
import Derived.Test.YtjnlfppeodoliaaDecRow
namespace Go.Proofs.Ytjnlfppeodoliaa.am
open Go.ChangeShapes Go.WideShapes Go.ChangeAt Go.RowKit
open vt
set_option linter.unusedVariables false
set_option linter.unusedSimpArgs false
set_option maxRecDepth 100000 in
set_option maxHeartbeats 4000000 in
theorem walk_row (to : List Int) (h : okTo to) (t : VT) : in64 t → t.size ≤ 1000000 → Row Try.prog 52 [.v (.c (.ptr 0 0)), vT t, vPl] [bxO to] (vT (renum to t)) [some (bxO to)] := by
  induction t using Tr.ind with
  | h x l ih =>
  intro hx hsz
  have hlen := Tr.len_size (x := x) (l := l)
  have hn := named_row x l (lab_ok hx)
  have hp := place_row to h (nmP x).1 (nmP_in (lab_ok hx))
  obtain ⟨w1, w2, w3, w4⟩ := nw_wrap h (lab_ok hx)
  rw [renum_mk]
  obtain ⟨q, hq⟩ : ∃ q, nwN to x = q := ⟨_, rfl⟩
  obtain ⟨⟨p1, p2⟩, hpp⟩ : ∃ p, nmP x = p := ⟨_, rfl⟩
  rw [hpp] at hn hp w1 w2 w3 w4
  rw [hq] at w3 w4 ⊢
  dsimp only at w1 w2 w3 w4 hp
  refine row_of Try.func52 rfl rfl (Nat.le_of_ble_eq_true rfl) ?_
  refine aw_seq ?_; refine aw_reg (fun K hK => ?_); simp -implicitDefEqProofs; refine hK _ ?_
  refine aw_meet (ι := Unit) (fun _ => mkSt [(0, .v (.c (.ptr 0 0))), (2, vPl), (4, .v (.c (.ptr 1 0))), (6, .v (.c (.ptr 2 0)))] [some (bxO to), some (.box (ta (.mk { x with n := q } l))), some (.box (ta (.mk ⟨0, 0, ⟨#[]⟩, 0, 0⟩ [])))]) (fun _ => True) (fun I hI => ?_) (fun _ _ => ?_)
  · by_cases hw : 0 < p2
    · have w3 := w3 hw
      repeat' (first | refine aw_seq ?_ | refine aw_skip ?_ | refine aw_block ?_ | refine aw_exit ?_ | refine aw_cond rfl (fun _ => ?_) (fun hb => absurd hb (by decide)) | refine aw_cond rfl (fun hb => absurd hb (by decide)) (fun _ => ?_) | (refine aw_reg (fun K hK => ?_); simp -implicitDefEqProofs [hw, w1, w2, w3]) | (refine aw_drw mixd (fun K hK => ?_); simp -implicitDefEqProofs [hw, w1, w2, w3]) | refine hK _ ?_ | refine hK _ _ (by rfl) ?_ | (refine ar_call (cp hn ?_); simp -implicitDefEqProofs [hw, w1, w2, w3]) | (refine ard_call (dp hn ?_); simp -implicitDefEqProofs [hw, w1, w2, w3]) | (refine ar_call (cb hp 0 ?_); simp -implicitDefEqProofs [hw, w1, w2, w3]) | (refine ard_call (db hp 0 ?_); simp -implicitDefEqProofs [hw, w1, w2, w3]) | fail)
      refine ⟨(), (by trivial), ?_⟩; rw [hI]; exact cov_intro [0, 1, 2] (by simp -implicitDefEqProofs [hpp]) (by simp -implicitDefEqProofs [hpp]) (by decide) rfl (by simp)
    · have w4 := w4 hw
      subst w4
      repeat' (first | refine aw_seq ?_ | refine aw_skip ?_ | refine aw_block ?_ | refine aw_exit ?_ | refine aw_cond rfl (fun _ => ?_) (fun hb => absurd hb (by decide)) | refine aw_cond rfl (fun hb => absurd hb (by decide)) (fun _ => ?_) | (refine aw_reg (fun K hK => ?_); simp -implicitDefEqProofs [hw]) | (refine aw_drw mixd (fun K hK => ?_); simp -implicitDefEqProofs [hw]) | refine hK _ ?_ | refine hK _ _ (by rfl) ?_ | (refine ar_call (cp hn ?_); simp -implicitDefEqProofs [hw]) | (refine ard_call (dp hn ?_); simp -implicitDefEqProofs [hw]) | fail)
      refine ⟨(), (by trivial), ?_⟩; rw [hI]; exact cov_intro [0, 1, 2] (by simp -implicitDefEqProofs) (by simp -implicitDefEqProofs) (by decide) rfl (by simp)
  · repeat (first | refine aw_seq ?_ | refine aw_skip ?_ | refine aw_block ?_ | refine aw_exit ?_ | refine aw_cond rfl (fun _ => ?_) (fun hb => absurd hb (by decide)) | refine aw_cond rfl (fun hb => absurd hb (by decide)) (fun _ => ?_) | (refine aw_reg (fun K hK => ?_); simp -implicitDefEqProofs; refine hK _ ?_) | (refine aw_drw mixd (fun K hK => ?_); simp -implicitDefEqProofs; refine hK _ _ (by rfl) ?_) | fail)
    refine aw_nilc 1 3 [.pv (I x.k), .pv (I q), .pv (Sx x.s), .pv .nilS, .pv (I x.f), .pv (I x.t)] 25 6 (by simp) (by simp) (by simp) ?_
    refine aw_lp (ι := Nat) (fun k => mkSt [(0, .v (.c (.ptr 0 0))), (2, vPl), (4, .v (.c (.ptr 1 0))), (6, .v (.c (.ptr 2 0))), (33, vLs l), (34, vI (l.length : Nat)), (35, vI (k : Nat))] [some (bxO to), some (.box [.pv (I x.k), .pv (I q), .pv (Sx x.s), .row 3 6 (((l.take k).map (renum to)).map tc), .pv (I x.f), .pv (I x.t)]), some (.box (ta (.mk ⟨0, 0, ⟨#[]⟩, 0, 0⟩ []))), some (.row 25 6)]) (fun k => k ≤ l.length) (fun k => l.length - k) 0 (Nat.zero_le _) (by unfold St.nilc; exact cov_intro [0, 1, 2, 11] (by simp -implicitDefEqProofs) (by simp -implicitDefEqProofs) (by decide) rfl (by simp)) (fun Z hI k hk => ?_)
    by_cases hkl : k < l.length; rotate_left
    · have : k = l.length := by omega
      subst this
      rw [List.take_length]
      repeat (first | refine aw_seq ?_ | refine aw_skip ?_ | refine aw_block ?_ | refine aw_exit ?_ | refine aw_cond rfl (fun _ => ?_) (fun hb => absurd hb (by decide)) | refine aw_cond rfl (fun hb => absurd hb (by decide)) (fun _ => ?_) | (refine aw_reg (fun K hK => ?_); simp -implicitDefEqProofs; refine hK _ ?_) | (refine aw_drw mixd (fun K hK => ?_); simp -implicitDefEqProofs; refine hK _ _ (by rfl) ?_) | fail)
      refine aw_ret (fin_box ?_); simp -implicitDefEqProofs [FinB, resV, resT] <;> try rfl
    obtain ⟨⟨ax, al⟩, ha⟩ : ∃ a, l[k]? = some a := ⟨_, List.getElem?_eq_getElem hkl⟩
    have ha' := (List.getElem?_eq_some_iff.1 ha).2
    have hsz1 := Tr.size_at (x := x) ha
    have hc := ih _ (List.mem_of_getElem? ha) (kid_ok hx (List.mem_of_getElem? ha)) (by omega)
    have w2 : IntKind.i64.wrap ((k : Nat) + 1 : Int) = (k : Nat) + 1 := i64i _ (by omega) (by omega)
    have hs : (l.take (k + 1)).map (renum to) = (l.take k).map (renum to) ++ [renum to (.mk ax al)] := by rw [List.take_add_one, ha]; simp
    obtain ⟨L, hL⟩ : ∃ L, (l.take k).map (renum to) = L := ⟨_, rfl⟩
    have hLl : L.length = k := by rw [← hL, List.length_map, List.length_take]; omega
    rw [hL] at hs ⊢
    obtain ⟨⟨bx, bl⟩, hb⟩ : ∃ b, renum to (.mk ax al) = b := ⟨_, rfl⟩
    rw [hb] at hc hs
    have b1 : (k + 1) * 72 ≤ 140737488355328 := by omega
    have b2 : k + 1 ≤ 140737488355328 := by omega
    clear hp hn w1 w3 w4 hpp
    repeat' (first | refine aw_seq ?_ | refine aw_skip ?_ | refine aw_block ?_ | refine aw_exit ?_ | refine aw_cond rfl (fun _ => ?_) (fun hb => absurd hb (by decide)) | refine aw_cond rfl (fun hb => absurd hb (by decide)) (fun _ => ?_) | (refine aw_reg (fun K hK => ?_); simp -implicitDefEqProofs [hkl, ha, ha', hLl, b1, b2, w2]) | (refine aw_drw mixd (fun K hK => ?_); simp -implicitDefEqProofs [hkl, ha, ha', hLl, b1, b2, w2]) | refine hK _ ?_ | refine hK _ _ (by rfl) ?_ | (refine ar_call (cb hc 0 ?_); simp -implicitDefEqProofs [hkl, ha, ha', hLl, b1, b2, w2]) | (refine ard_call (db hc 0 ?_); simp -implicitDefEqProofs [hkl, ha, ha', hLl, b1, b2, w2]) | fail)
    refine ⟨k + 1, by omega, (by dsimp only; omega), ?_⟩; rw [hI]; exact cov_intro [0, 1, 2, 65] (by simp -implicitDefEqProofs [hs]) (by simp -implicitDefEqProofs [hs]) (by decide) rfl (by simp)
theorem renum_ok {to : List Int} (h : okTo to) (t : VT) : in64 t → in64 (renum to t) := by
  induction t using Tr.ind with
  | h x l ih =>
    intro hx
    rw [renum_mk]
    refine (Tr.all_mk _ _ _).2 ⟨⟨(lab_ok hx).1, ?_, (lab_ok hx).2.2⟩, fun y hy => ?_⟩
    · obtain ⟨_, ⟨n0, n1⟩, _⟩ := lab_ok hx
      dsimp only
      unfold nwN
      split
      · rcases plc_in h x.n with e | ⟨e1, e2, e3, e4⟩ <;> omega
      · split
        · rename_i hc
          rcases plc_in h (x.n / 64) with e | ⟨e1, e2, e3, e4⟩ <;> omega
        · exact ⟨n0, n1⟩
    · obtain ⟨z, hz, rfl⟩ := List.mem_map.1 hy
      exact ih z hz (kid_ok hx hz)
end Go.Proofs.Ytjnlfppeodoliaa.am
