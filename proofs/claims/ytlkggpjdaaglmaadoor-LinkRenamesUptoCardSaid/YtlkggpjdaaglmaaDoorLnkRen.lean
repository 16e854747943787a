/-
  Layer 22: a client, what it calls named anew: the program's.
-/
import Derived.Test.YtlkggpjdaaglmaaDoorLnkPure
import Derived.Test.YtlkggpjdaaglmaaDoorLexPRow
import Derived.Test.YtlkggpjdaaglmaaDoorBldRow
namespace Go.Proofs.YtlkggpjdaaglmaaDoor.am
open Go.ChangeShapes Go.WideShapes Go.ChangeAt Go.RowKit
open vt
set_option linter.unusedVariables false
set_option linter.unusedSimpArgs false
theorem td_nam : td Tryd.prog 46 = some ⟨true, 2, 32, [.lit (.string ⟨#[]⟩), .lit (.string ⟨#[]⟩)], [(0, 1, false), (1, 1, false)], .struct⟩ := Eq.trans (by kernel_rfl) (Eq.refl _)
theorem td_nams : td Tryd.prog 28 = some ⟨false, 1, 24, [.nilS], [], (.slice 46)⟩ := Eq.trans (by kernel_rfl) (Eq.refl _)
theorem td_tok : td Tryd.prog 53 = some ⟨true, 5, 48, [.lit (.int .i64 0), .lit (.int .i64 0), .lit (.string ⟨#[]⟩), .lit (.int .i64 0), .lit (.int .i64 0)], [(0, 1, false), (1, 1, false), (2, 1, false), (3, 1, false), (4, 1, false)], .struct⟩ := Eq.trans (by kernel_rfl) (Eq.refl _)
theorem td_toks : td Tryd.prog 33 = some ⟨false, 1, 24, [.nilS], [], (.slice 53)⟩ := Eq.trans (by kernel_rfl) (Eq.refl _)
theorem td_errno : td Tryd.prog 29 = some ⟨false, 1, 8, [.lit (.int .i64 0)], [], (.int .i64)⟩ := Eq.trans (by kernel_rfl) (Eq.refl _)
attribute [simp] td_nam td_nams td_tok td_toks td_errno
abbrev nmc (p : Nm) : List PV := [Sx p.1, Sx p.2]
abbrev vNs (l : List Nm) : AV := .v (.c (.pv (.sl 2 (l.map nmc))))
abbrev bxT (x : Tok) : AO := .box [.pv (I x.k), .pv (I x.n), .pv (Sx x.s), .pv (I x.f), .pv (I x.t)]
/-- The place of the first name that is so: below 0, there is none. -/
def fstN (s : ByteArray) (l : List Nm) : Int := match l.findIdx? (fun p => decide (p.1 = s)) with | some i => (i : Int) | none => -1
theorem fst_none {s : ByteArray} {l : List Nm} (h : fndN l s = none) : fstN s l = -1 := by
  unfold fstN
  rw [List.findIdx?_eq_none_iff.2 (fun x hx => by
    unfold fndN at h
    have := List.find?_eq_none.1 (Option.map_eq_none_iff.1 h) x hx
    simpa using this)]
theorem fst_some {s w : ByteArray} {l : List Nm} (h : fndN l s = some w) : ∃ i : Nat, fstN s l = i ∧ l[i]? = some (s, w) := by
  unfold fndN at h
  obtain ⟨p, hp, rfl⟩ := Option.map_eq_some_iff.1 h
  obtain ⟨h1, i, hi, hpi, hlt⟩ := List.find?_eq_some_iff_getElem.1 hp
  refine ⟨i, ?_, ?_⟩
  · unfold fstN
    rw [List.findIdx?_eq_some_iff_getElem.2 ⟨hi, by rw [hpi]; exact h1, fun j hj => by simpa using hlt j hj⟩]
  · rw [List.getElem?_eq_getElem hi, hpi]
    have : p.1 = s := by simpa using h1
    rw [← this]
set_option maxRecDepth 100000 in
set_option maxHeartbeats 4000000 in
theorem ren1_row (x : Tok) (p : Nm) : Row Tryd.prog 22 [.v (.agg ((nmc p).map .pv)), .v (.c (.ptr 0 0))] [bxT x] (vB (decide (p.1 = x.s))) [some (bxT x)] := by
  refine row_of Tryd.func22 rfl rfl (Nat.le_of_ble_eq_true rfl) ?_
  repeat (first | refine aw_seq ?_ | refine aw_skip ?_ | refine aw_block ?_ | refine aw_exit ?_ | refine aw_cond rfl (fun _ => ?_) (fun hb => absurd hb (by decide)) | refine aw_cond rfl (fun hb => absurd hb (by decide)) (fun _ => ?_) | (refine aw_reg (fun K hK => ?_); simp -implicitDefEqProofs; refine hK _ ?_) | (refine aw_drw mixd (fun K hK => ?_); simp -implicitDefEqProofs; refine hK _ _ (by rfl) ?_) | fail)
  refine aw_ret (fin_box ?_); simp -implicitDefEqProofs [FinB, resV, resT] <;> try rfl
set_option maxRecDepth 100000 in
set_option maxHeartbeats 4000000 in
theorem indexN_row (x : Tok) (l : List Nm) (hl : l.length ≤ 1000000) : Row Tryd.prog 21 [vNs l, .v (.c (.fn (.func 22) [] [.ptr 0 0]))] [bxT x] (vI (fstN x.s l)) [some (bxT x)] := by
  refine row_of Tryd.func21 rfl rfl (Nat.le_of_ble_eq_true rfl) ?_
  repeat (first | refine aw_seq ?_ | refine aw_skip ?_ | refine aw_block ?_ | refine aw_exit ?_ | refine aw_cond rfl (fun _ => ?_) (fun hb => absurd hb (by decide)) | refine aw_cond rfl (fun hb => absurd hb (by decide)) (fun _ => ?_) | (refine aw_reg (fun K hK => ?_); simp -implicitDefEqProofs; refine hK _ ?_) | (refine aw_drw mixd (fun K hK => ?_); simp -implicitDefEqProofs; refine hK _ _ (by rfl) ?_) | fail)
  refine aw_lp (ι := Nat) (fun k => mkSt [(0, vNs l), (1, .v (.c (.fn (.func 22) [] [.ptr 0 0]))), (7, vI (l.length : Nat)), (8, vI (k : Nat))] [some (bxT x)]) (fun k => k ≤ l.length ∧ ∀ (j : Nat) p, l[j]? = some p → j < k → decide (p.1 = x.s) = false) (fun k => l.length - k) 0 ⟨Nat.zero_le _, fun j t _ h => by omega⟩ (cov_intro [0] (by simp -implicitDefEqProofs) (by simp -implicitDefEqProofs) (by decide) rfl (by simp)) (fun Z hI k hk => ?_)
  obtain ⟨hk, hz⟩ := hk
  by_cases hkl : k < l.length; rotate_left
  · have e : fstN x.s l = -1 := by
      unfold fstN
      rw [List.findIdx?_eq_none_iff.2 (fun y hy => by
        obtain ⟨j, hj⟩ := List.mem_iff_getElem?.1 hy
        exact hz j y hj (by have := (List.getElem?_eq_some_iff.1 hj).1; omega))]
    rw [e]
    repeat (first | refine aw_seq ?_ | refine aw_skip ?_ | refine aw_block ?_ | refine aw_exit ?_ | refine aw_cond rfl (fun _ => ?_) (fun hb => absurd hb (by decide)) | refine aw_cond rfl (fun hb => absurd hb (by decide)) (fun _ => ?_) | (refine aw_reg (fun K hK => ?_); simp -implicitDefEqProofs [hkl]; refine hK _ ?_) | (refine aw_drw mixd (fun K hK => ?_); simp -implicitDefEqProofs [hkl]; refine hK _ _ (by rfl) ?_) | fail)
    refine aw_ret (fin_box ?_); simp -implicitDefEqProofs [FinB, resV, resT] <;> try rfl
  obtain ⟨a, ha⟩ : ∃ a, l[k]? = some a := ⟨_, List.getElem?_eq_getElem hkl⟩
  have ha' := (List.getElem?_eq_some_iff.1 ha).2
  have w2 : IntKind.i64.wrap ((k : Nat) + 1 : Int) = (k : Nat) + 1 := i64i _ (by omega) (by omega)
  have hc := ren1_row x a
  by_cases hp : decide (a.1 = x.s) = true
  · have e : fstN x.s l = (k : Nat) := by
      unfold fstN
      rw [show l.findIdx? (fun p => decide (p.1 = x.s)) = some k from List.findIdx?_eq_some_iff_getElem.2 ⟨hkl, by rw [ha']; exact hp, fun j hj => by
        have := hz j l[j] (List.getElem?_eq_getElem (by omega)) hj
        simp [this]⟩]
    rw [e]
    rw [hp] at hc
    repeat' (first | refine aw_seq ?_ | refine aw_skip ?_ | refine aw_block ?_ | refine aw_exit ?_ | refine aw_cond rfl (fun _ => ?_) (fun hb => absurd hb (by decide)) | refine aw_cond rfl (fun hb => absurd hb (by decide)) (fun _ => ?_) | (refine aw_reg (fun K hK => ?_); simp -implicitDefEqProofs [hkl, ha, ha', w2]) | (refine aw_drw mixd (fun K hK => ?_); simp -implicitDefEqProofs [hkl, ha, ha', w2]) | refine hK _ ?_ | refine hK _ _ (by rfl) ?_ | (refine ar_call (cb hc 0 ?_); simp -implicitDefEqProofs [hkl, ha, ha', w2]) | (refine ard_call (db hc 0 ?_); simp -implicitDefEqProofs [hkl, ha, ha', w2]) | fail)
    refine aw_ret (fin_box ?_); simp -implicitDefEqProofs [FinB, resV, resT] <;> try rfl
  · have hp : decide (a.1 = x.s) = false := by simpa using hp
    rw [hp] at hc
    repeat' (first | refine aw_seq ?_ | refine aw_skip ?_ | refine aw_block ?_ | refine aw_exit ?_ | refine aw_cond rfl (fun _ => ?_) (fun hb => absurd hb (by decide)) | refine aw_cond rfl (fun hb => absurd hb (by decide)) (fun _ => ?_) | (refine aw_reg (fun K hK => ?_); simp -implicitDefEqProofs [hkl, ha, ha', w2]) | (refine aw_drw mixd (fun K hK => ?_); simp -implicitDefEqProofs [hkl, ha, ha', w2]) | refine hK _ ?_ | refine hK _ _ (by rfl) ?_ | (refine ar_call (cb hc 0 ?_); simp -implicitDefEqProofs [hkl, ha, ha', w2]) | (refine ard_call (db hc 0 ?_); simp -implicitDefEqProofs [hkl, ha, ha', w2]) | fail)
    refine ⟨k + 1, ⟨by omega, fun j p hj hlt => ?_⟩, (by dsimp only; omega), ?_⟩
    · by_cases hjk : j = k
      · subst hjk; rw [ha] at hj; cases hj; exact hp
      · exact hz j p hj (by omega)
    · rw [hI]; exact cov_intro [0] (by simp -implicitDefEqProofs) (by simp -implicitDefEqProofs) (by decide) rfl (by simp)
end Go.Proofs.YtlkggpjdaaglmaaDoor.am
