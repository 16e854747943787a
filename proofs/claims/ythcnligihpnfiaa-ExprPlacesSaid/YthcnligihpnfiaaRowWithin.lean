/-
  The document's Within, of terms whose parts stand in their order.
-/
import Derived.Test.YthcnligihpnfiaaTypRef
import Derived.Test.YthcnligihpnfiaaVtPlc
namespace Go.Proofs.Ythcnligihpnfiaa.am
open Go.ChangeShapes Go.WideShapes Go.ChangeAt Go.RowKit
open vt
set_option linter.unusedVariables false
set_option linter.unusedSimpArgs false
/-- What is left of the parts behind the first k, from a place on. -/
theorem chl_drop : ∀ {l : List VT} {lo hi : Int} (k : Nat) {y : VT} {p : Int}, (k = 0 → p = lo) → (∀ z, k ≠ 0 → l[k - 1]? = some z → p = z.lab.t) → ChL lo hi l → l[k]? = some y → p ≤ y.lab.f ∧ y.lab.f ≤ y.lab.t ∧ y.lab.t ≤ hi
  | x :: l, lo, hi, 0, y, p, h1, _, ⟨a1, a2, a3⟩, hy => by
    obtain rfl := Option.some.inj hy
    rw [h1 rfl]
    exact ⟨a1, a2, chl_le a3⟩
  | x :: l, lo, hi, k + 1, y, p, _, h2, ⟨a1, a2, a3⟩, hy => by
    refine chl_drop k (fun hk => ?_) (fun z hk hz => ?_) a3 (by simpa using hy)
    · subst hk; exact h2 x (by omega) (by simp)
    · refine h2 z (by omega) ?_
      obtain ⟨m, rfl⟩ : ∃ m, k = m + 1 := ⟨k - 1, by omega⟩
      simpa using hz
def atW (lo : Int) (l : List VT) (k : Nat) : Int := if k = 0 then lo else match l[k - 1]? with | some z => z.lab.t | none => 0
set_option maxRecDepth 100000 in
set_option maxHeartbeats 4000000 in
theorem within_row (t : VT) (h : Wi t) (hs : t.size ≤ 1000000) : Row Try.prog 10 [vT t] [] (vB true) [] := by
  induction h with
  | mk x l hc hl ih =>
  have hlen : l.length ≤ 1000000 := by have := Tr.len_size (x := x) (l := l); omega
  refine row_of Try.func10 rfl rfl (Nat.le_of_ble_eq_true rfl) ?_
  repeat (first | refine aw_seq ?_ | refine aw_skip ?_ | refine aw_block ?_ | refine aw_exit ?_ | refine aw_cond rfl (fun _ => ?_) (fun hb => absurd hb (by decide)) | refine aw_cond rfl (fun hb => absurd hb (by decide)) (fun _ => ?_) | (refine aw_reg (fun K hK => ?_); simp -implicitDefEqProofs; refine hK _ ?_) | (refine aw_drw mixd (fun K hK => ?_); simp -implicitDefEqProofs; refine hK _ _ (by rfl) ?_) | fail)
  refine aw_lp (ι := Nat) (fun k => mkSt [(1, .v (.c (.ptr 0 0))), (3, vI (atW x.f l k)), (4, vI (k : Nat))] [some (.box ((tc (.mk x l)).map .pv))]) (fun k => k ≤ l.length) (fun k => l.length - k) 0 (Nat.zero_le _) (cov_intro [0] (by simp -implicitDefEqProofs [atW]) (by simp -implicitDefEqProofs [atW]) (by decide) rfl (by simp)) (fun Z hI k hk => ?_)
  by_cases hkl : k < l.length; rotate_left
  · repeat (first | refine aw_seq ?_ | refine aw_skip ?_ | refine aw_block ?_ | refine aw_exit ?_ | refine aw_cond rfl (fun _ => ?_) (fun hb => absurd hb (by decide)) | refine aw_cond rfl (fun hb => absurd hb (by decide)) (fun _ => ?_) | (refine aw_reg (fun K hK => ?_); simp -implicitDefEqProofs [hkl]; refine hK _ ?_) | (refine aw_drw mixd (fun K hK => ?_); simp -implicitDefEqProofs [hkl]; refine hK _ _ (by rfl) ?_) | fail)
    refine aw_ret (fin_ret ?_); simp -implicitDefEqProofs [FinP, resV, resT] <;> try rfl
  obtain ⟨y, hy⟩ : ∃ y, l[k]? = some y := ⟨_, List.getElem?_eq_getElem hkl⟩
  have hy' := (List.getElem?_eq_some_iff.1 hy).2
  have hm := List.mem_of_getElem? hy
  have hq := ih y hm (by have := Tr.size_at (x := x) hy; omega)
  have hw := chl_drop (p := atW x.f l k) k (fun h0 => if_pos h0) (fun z h0 hz => by unfold atW; rw [if_neg h0, hz]) hc hy
  have hn : atW x.f l (k + 1) = y.lab.t := by unfold atW; rw [if_neg (by omega), Nat.add_sub_cancel, hy]
  obtain ⟨p, hp⟩ : ∃ p, atW x.f l k = p := ⟨_, rfl⟩
  rw [hp] at hw ⊢
  obtain ⟨⟨yk, yn, ys, yf, yt⟩, yl⟩ := y
  dsimp only [Tr.lab] at hw hn
  have e1 : ¬ yf < p := by omega
  have e2 : ¬ x.t < yt := by omega
  have e3 : ¬ yt < yf := by omega
  have w2 : IntKind.i64.wrap ((k : Nat) + 1 : Int) = (k : Nat) + 1 := i64i _ (by omega) (by omega)
  clear ih hl hc hp hm hw
  repeat' (first | refine aw_seq ?_ | refine aw_skip ?_ | refine aw_block ?_ | refine aw_exit ?_ | refine aw_cond rfl (fun _ => ?_) (fun hb => absurd hb (by decide)) | refine aw_cond rfl (fun hb => absurd hb (by decide)) (fun _ => ?_) | (refine aw_reg (fun K hK => ?_); simp -implicitDefEqProofs [hkl, hy, hy', e1, e2, e3, w2]) | (refine aw_drw mixd (fun K hK => ?_); simp -implicitDefEqProofs [hkl, hy, hy', e1, e2, e3, w2]) | refine hK _ ?_ | refine hK _ _ (by rfl) ?_ | (refine ar_call (cp hq ?_); simp -implicitDefEqProofs [hkl, hy, hy', e1, e2, e3, w2]) | (refine ard_call (dp hq ?_); simp -implicitDefEqProofs [hkl, hy, hy', e1, e2, e3, w2]) | fail)
  refine ⟨k + 1, by omega, (by dsimp only; omega), ?_⟩; rw [hI]; exact cov_intro [0] (by simp -implicitDefEqProofs [hn]) (by simp -implicitDefEqProofs [hn]) (by decide) rfl (by simp)
end Go.Proofs.Ythcnligihpnfiaa.am
