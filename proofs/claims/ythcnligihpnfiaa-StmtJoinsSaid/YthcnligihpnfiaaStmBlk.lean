/-
  Layer 8: statements out of tokens: the program's: expressions, types, blocks.
-/
import Derived.Test.YthcnligihpnfiaaRdrTot
import Derived.Test.YthcnligihpnfiaaExprLaw
namespace Go.Proofs.Ythcnligihpnfiaa.am
open Go.ChangeShapes Go.WideShapes Go.ChangeAt Go.RowKit
open vt
set_option linter.unusedVariables false
set_option linter.unusedSimpArgs false
theorem td_strd : td Try.prog 79 = some ⟨true, 3, 40, [.nilS, .lit (.int .i64 0), .lit (.int .i64 0)], [(0, 3, true)], .struct⟩ := Eq.trans (by kernel_rfl) (Eq.refl _)
attribute [simp] td_strd
section
variable (ts : List Tok) (hl : ts.length ≤ 3000000000000)
include hl
set_option maxRecDepth 100000 in
set_option maxHeartbeats 4000000 in
theorem expr_tot (p : Nat × Int) {a : Nat} (h : p.2 = 0 → a ≤ p.1 ∧ p.1 ≤ ts.length) : Row Try.prog 70 [vR] [rd ts p.1 p.2] (vT (OT (Qx ts 1) p).1) [some (rd ts (OT (Qx ts 1) p).2.1 (OT (Qx ts 1) p).2.2)] := by
  have h1 := below_tot ts p 9 (Qx ts 1) (fun h0 => parse_yes ts hl p.1 (h h0).2)
  obtain ⟨⟨⟨px, pl⟩, j, e⟩, hr⟩ : ∃ r, OT (Qx ts 1) p = r := ⟨_, rfl⟩
  rw [hr] at h1 ⊢
  refine row_of Try.func70 rfl rfl (Nat.le_of_ble_eq_true rfl) ?_
  repeat' (first | refine aw_seq ?_ | refine aw_skip ?_ | refine aw_block ?_ | refine aw_exit ?_ | refine aw_cond rfl (fun _ => ?_) (fun hb => absurd hb (by decide)) | refine aw_cond rfl (fun hb => absurd hb (by decide)) (fun _ => ?_) | (refine aw_reg (fun K hK => ?_); simp -implicitDefEqProofs) | (refine aw_drw mixd (fun K hK => ?_); simp -implicitDefEqProofs) | refine hK _ ?_ | refine hK _ _ (by rfl) ?_ | (refine ar_call (cb h1 0 ?_); simp -implicitDefEqProofs) | (refine ard_call (db h1 0 ?_); simp -implicitDefEqProofs) | fail)
  refine aw_ret (fin_box ?_); simp -implicitDefEqProofs [FinB, resV, resT] <;> try rfl
set_option maxRecDepth 100000 in
set_option maxHeartbeats 4000000 in
theorem type_tot (p : Nat × Int) {a : Nat} (h : p.2 = 0 → a ≤ p.1 ∧ p.1 ≤ ts.length) : Row Try.prog 68 [vR, vFg 69] [rd ts p.1 p.2] (vT (OT (tyG ts (ts.length + 1)) p).1) [some (rd ts (OT (tyG ts (ts.length + 1)) p).2.1 (OT (tyG ts (ts.length + 1)) p).2.2)] :=
  below_tot ts p 69 (tyG ts (ts.length + 1)) (fun h0 => by have := type_yes ts p.1 (h h0).2 (by omega); rwa [endT_ty] at this)
variable (S : Nat → Got) (hS : ∀ j, j ≤ ts.length → OkS ts 0 j (S j)) (hS2 : ∀ j, j ≤ ts.length → (S j).2.2 = 0 → j + 2 ≤ (S j).2.1) (i : Nat)
  (hrow : ∀ j, i < j → j ≤ ts.length → Row Try.prog 23 [vR] [rd ts j 0] (vT (S j).1) [some (rd ts (S j).2.1 (S j).2.2)])
/-- What the loop of a block holds. -/
structure InvB (b : Nat) (R : Got) (x : Nat × Nat × Int × List VT) : Prop where
  go : x.2.2.1 = 0 → lpB ts S b x.1 x.2.1 x.2.2.2 = R ∧ b < x.2.1 ∧ x.2.1 ≤ ts.length ∧ ts.length < x.1 + x.2.1 ∧ 2 * x.2.2.2.length + b + 1 ≤ x.2.1
  no : x.2.2.1 ≠ 0 → R = (z0, x.2.1, x.2.2.1)
omit hl in
theorem invB_start (p : Nat × Int) (h : p.2 = 0 → p.1 ≤ ts.length) : InvB ts S p.1 (OT (blG ts S) p) (ts.length + 1, (WT ts sBra p).1, (WT ts sBra p).2, []) := by
  obtain ⟨b, e⟩ := p
  unfold WT OT blG
  dsimp only
  by_cases he : e = 0
  · subst he
    have h := h rfl
    rw [if_pos rfl, if_pos rfl]
    by_cases hb : isK sBra (nxt ts b) = true
    · have := isK_lt hb
      rw [if_pos hb, if_pos hb]
      exact ⟨fun _ => ⟨rfl, by dsimp only; omega, by dsimp only; omega, by dsimp only; omega, by simp⟩, fun h => absurd rfl h⟩
    · rw [if_neg hb, if_neg hb]
      exact ⟨fun h => absurd (show (6 : Int) = 0 from h) (by decide), fun _ => rfl⟩
  · rw [if_neg he, if_neg he]
    exact ⟨fun h => absurd h he, fun _ => rfl⟩
include hS hS2 hrow
set_option maxRecDepth 100000 in
set_option maxHeartbeats 4000000 in
theorem block_tot (p : Nat × Int) (h : p.2 = 0 → i ≤ p.1 ∧ p.1 ≤ ts.length) : Row Try.prog 32 [vR] [rd ts p.1 p.2] (vT (OT (blG ts S) p).1) [some (rd ts (OT (blG ts S) p).2.1 (OT (blG ts S) p).2.2)] := by
  have h0 := invB_start ts S p (fun h0 => (h h0).2)
  have pl := place_row ts p.1 p.2
  have w := want_tot ts (by omega) p sBra (by decide)
  obtain ⟨R, hR⟩ : ∃ R, OT (blG ts S) p = R := ⟨_, rfl⟩
  rw [hR] at h0 ⊢
  obtain ⟨⟨to0, e1⟩, hw⟩ : ∃ q, WT ts sBra p = q := ⟨_, rfl⟩
  have hb : e1 = 0 → i ≤ p.1 := by
    intro he1
    unfold WT at hw
    by_cases h2 : p.2 = 0
    · exact (h h2).1
    · rw [if_neg h2] at hw; rw [hw] at h2; exact absurd he1 h2
  rw [hw] at w h0
  obtain ⟨b, e0⟩ := p
  dsimp only at h0 w pl hb ⊢
  clear hw hR h
  refine row_of Try.func32 rfl rfl (Nat.le_of_ble_eq_true rfl) ?_
  repeat' (first | refine aw_seq ?_ | refine aw_skip ?_ | refine aw_block ?_ | refine aw_exit ?_ | refine aw_cond rfl (fun _ => ?_) (fun hb => absurd hb (by decide)) | refine aw_cond rfl (fun hb => absurd hb (by decide)) (fun _ => ?_) | (refine aw_reg (fun K hK => ?_); simp -implicitDefEqProofs) | (refine aw_drw mixd (fun K hK => ?_); simp -implicitDefEqProofs) | refine hK _ ?_ | refine hK _ _ (by rfl) ?_ | (refine ar_call (cb pl 0 ?_); simp -implicitDefEqProofs) | (refine ard_call (db pl 0 ?_); simp -implicitDefEqProofs) | (refine ar_call (cb w 0 ?_); simp -implicitDefEqProofs) | (refine ard_call (db w 0 ?_); simp -implicitDefEqProofs) | fail)
  refine aw_nil 4 29 6 (by simp) ?_
  refine aw_lp (ι := Nat × Nat × Int × List VT) (fun x => mkSt [(0, vR), (2, .v (.c (.ptr 1 0))), (3, vI b), (4, .v (.c (.row 2 6 (x.2.2.2.map tc))))] [some (rd ts x.2.1 x.2.2.1), some zT, some (.row 29 6)]) (fun x => InvB ts S b R x ∧ (x.2.2.1 = 0 → i ≤ b)) (fun x => x.1) (ts.length + 1, to0, e1, []) ⟨h0, hb⟩ (by unfold St.nil; exact cov_intro [0, 1, 26] (by simp -implicitDefEqProofs) (by simp -implicitDefEqProofs) (by decide) rfl (by simp)) (fun Z hI x hx => ?_)
  clear h0 pl w hb
  obtain ⟨m, to, e, acc⟩ := x
  obtain ⟨⟨x1, x2⟩, x3⟩ := hx
  dsimp only at x1 x2 x3 ⊢
  have g := goes_row ts to e
  by_cases he : e = 0; rotate_left
  · have hd := x2 he
    have n := node_no ts to e he b (.mk ⟨29, 0, ⟨#[]⟩, 0, 0⟩ acc)
    rw [hd]
    clear x1 x2 x3 hd hrow hS hS2
    repeat' (first | refine aw_seq ?_ | refine aw_skip ?_ | refine aw_block ?_ | refine aw_exit ?_ | refine aw_cond rfl (fun _ => ?_) (fun hb => absurd hb (by decide)) | refine aw_cond rfl (fun hb => absurd hb (by decide)) (fun _ => ?_) | (refine aw_reg (fun K hK => ?_); simp -implicitDefEqProofs [he]) | (refine aw_drw mixd (fun K hK => ?_); simp -implicitDefEqProofs [he]) | refine hK _ ?_ | refine hK _ _ (by rfl) ?_ | (refine ar_call (cb g 0 ?_); simp -implicitDefEqProofs [he]) | (refine ard_call (db g 0 ?_); simp -implicitDefEqProofs [he]) | (refine ar_call (cb n 0 ?_); simp -implicitDefEqProofs [he]) | (refine ard_call (db n 0 ?_); simp -implicitDefEqProofs [he]) | fail)
    refine aw_ret (fin_box ?_); simp -implicitDefEqProofs [FinB, resV, resT, z0] <;> try rfl
  subst he
  obtain ⟨x1, x4, x5, x6, x7⟩ := x1 rfl
  have x3 := x3 rfl
  obtain ⟨m, rfl⟩ : ∃ m', m = m' + 1 := ⟨m - 1, by omega⟩
  rw [lpB] at x1
  by_cases hk : isK sKet (nxt ts to) = true
  · have hlt := isK_lt hk
    have t := take_yes ts to sKet (by decide) (by omega) hk
    have n := node_yes ts (to + 1) b ⟨29, 0, ⟨#[]⟩, 0, 0⟩ acc (by omega) (by omega) (by omega) (by omega)
    rw [if_pos hk] at x1
    rw [← x1]
    clear x1 x2 hk hrow hS hS2
    repeat' (first | refine aw_seq ?_ | refine aw_skip ?_ | refine aw_block ?_ | refine aw_exit ?_ | refine aw_cond rfl (fun _ => ?_) (fun hb => absurd hb (by decide)) | refine aw_cond rfl (fun hb => absurd hb (by decide)) (fun _ => ?_) | (refine aw_reg (fun K hK => ?_); simp -implicitDefEqProofs) | (refine aw_drw mixd (fun K hK => ?_); simp -implicitDefEqProofs) | refine hK _ ?_ | refine hK _ _ (by rfl) ?_ | (refine ar_call (cb g 0 ?_); simp -implicitDefEqProofs) | (refine ard_call (db g 0 ?_); simp -implicitDefEqProofs) | (refine ar_call (cb t 0 ?_); simp -implicitDefEqProofs) | (refine ard_call (db t 0 ?_); simp -implicitDefEqProofs) | (refine ar_call (cb n 0 ?_); simp -implicitDefEqProofs) | (refine ard_call (db n 0 ?_); simp -implicitDefEqProofs) | fail)
    refine aw_ret (fin_box ?_); simp -implicitDefEqProofs [FinB, resV, resT, mk7] <;> try rfl
  have hk : isK sKet (nxt ts to) = false := by simpa using hk
  have t := take_no ts to 0 sKet (by decide) (.inr hk)
  rw [if_neg (by simp [hk])] at x1
  have hq := hrow to (by omega) x5
  have hs := hS to x5
  have h2 := hS2 to x5
  have b1 : (acc.length + 1) * 72 ≤ 140737488355328 := by omega
  have b2 : acc.length + 1 ≤ 140737488355328 := by omega
  obtain ⟨⟨⟨sx, sl⟩, s2, s3⟩, hr⟩ : ∃ r, S to = r := ⟨_, rfl⟩
  rw [hr] at x1 hq hs h2
  dsimp only at x1 hq h2
  have nx : InvB ts S b R (m, s2, s3, acc ++ [.mk sx sl]) ∧ (s3 = 0 → i ≤ b) := by
    refine ⟨⟨fun h0 => ?_, fun h0 => ?_⟩, fun _ => x3⟩
    · dsimp only at h0
      rw [if_pos h0] at x1
      have := hs.ok.yes h0
      have h2 := h2 h0
      dsimp only at this
      refine ⟨x1, by dsimp only; omega, this.2, by dsimp only; omega, ?_⟩
      dsimp only
      rw [List.length_append, List.length_singleton]
      omega
    · dsimp only at h0
      rw [if_neg h0] at x1
      rw [← x1]
      have := (hs.ok.no h0).2
      dsimp only at this
      rw [this]
  clear x1 x2 hr hs hk hrow hS x4 x5 x6 x7 h2 hS2
  repeat' (first | refine aw_seq ?_ | refine aw_skip ?_ | refine aw_block ?_ | refine aw_exit ?_ | refine aw_cond rfl (fun _ => ?_) (fun hb => absurd hb (by decide)) | refine aw_cond rfl (fun hb => absurd hb (by decide)) (fun _ => ?_) | (refine aw_reg (fun K hK => ?_); simp -implicitDefEqProofs [b1, b2]) | (refine aw_drw mixd (fun K hK => ?_); simp -implicitDefEqProofs [b1, b2]) | refine hK _ ?_ | refine hK _ _ (by rfl) ?_ | (refine ar_call (cb g 0 ?_); simp -implicitDefEqProofs [b1, b2]) | (refine ard_call (db g 0 ?_); simp -implicitDefEqProofs [b1, b2]) | (refine ar_call (cb t 0 ?_); simp -implicitDefEqProofs [b1, b2]) | (refine ard_call (db t 0 ?_); simp -implicitDefEqProofs [b1, b2]) | (refine ar_call (cb hq 0 ?_); simp -implicitDefEqProofs [b1, b2]) | (refine ard_call (db hq 0 ?_); simp -implicitDefEqProofs [b1, b2]) | fail)
  refine ⟨(_, _, _, _), nx, (by dsimp only; omega), ?_⟩; rw [hI]; exact cov_intro [0, 1, 39] (by simp -implicitDefEqProofs) (by simp -implicitDefEqProofs) (by decide) rfl (by simp)
end
end Go.Proofs.Ythcnligihpnfiaa.am
