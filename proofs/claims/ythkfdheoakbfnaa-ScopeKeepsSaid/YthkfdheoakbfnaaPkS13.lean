import Derived.Test.YthkfdheoakbfnaaPkS12
import Derived.Test.YthkfdheoakbfnaaPkS7
section
namespace Go.Proofs.Ythkfdheoakbfnaa.am
open Go.ChangeShapes Go.WideShapes Go.ChangeAt Go.RowKit
open vt
set_option linter.unusedVariables false
set_option linter.unusedSimpArgs false
theorem td_item : td Try.prog 162 = some ⟨true, 2, 32, [.lit (.string ⟨#[]⟩), .lit (.string ⟨#[]⟩)], [(0, 1, false), (1, 1, false)], .struct⟩ := Eq.trans (by kernel_rfl) (Eq.refl _)
theorem td_items : td Try.prog 158 = some ⟨false, 1, 24, [.nilS], [], (.slice 162)⟩ := Eq.trans (by kernel_rfl) (Eq.refl _)
attribute [simp] td_item td_items
def ic : It → List PV
  | .sgn s => [Sx (if quo s = 3 then ⟨#[119, 111, 114, 100]⟩ else ⟨#[115, 105, 103, 110]⟩), Sx s]
  | .nam => [Sx ⟨#[110, 97, 109, 101]⟩, Sx ⟨#[]⟩]
  | .sub w => [Sx (if w = 0 then ⟨#[101, 120, 112, 114]⟩ else if w = 1 then ⟨#[116, 121, 112, 101]⟩ else ⟨#[98, 108, 111, 99, 107]⟩), Sx ⟨#[]⟩]
  | .els => [Sx ⟨#[101, 108, 115, 101]⟩, Sx ⟨#[]⟩]
noncomputable abbrev vFo (r : Int × List It) : AV := .tup [.c (.pv (I r.1)), .c (.pv (.sl 2 (r.2.map ic)))]
theorem q_let : quo wLet = 3 := by decide
theorem q_if : quo wIf = 3 := by decide
theorem q_else : quo wElse = 3 := by decide
theorem q_whil : quo wWhil = 3 := by decide
theorem q_for : quo wFor = 3 := by decide
theorem q_to : quo wTo = 3 := by decide
theorem q_prin : quo wPrin = 3 := by decide
theorem q_ret : quo wRet = 3 := by decide
theorem q_do : quo wDo = 3 := by decide
theorem q_bra : quo sBra = 4 := by decide
theorem q_ket : quo sKet = 4 := by decide
theorem q_col : quo sCol = 4 := by decide
theorem q_is : quo sIs = 4 := by decide
theorem q_end : quo sEnd = 4 := by decide
section
variable (ts : List Tok) (hl : ts.length ≤ 1000000000)
include hl
set_option maxRecDepth 100000 in
set_option maxHeartbeats 4000000 in
theorem form_row (i : Nat) (hi : i ≤ ts.length) : Row Try.prog 136 [vKs ts, vI i] [] (vFo (frmG ts i)) [] := by
  have w1 : IntKind.i64.wrap ((i : Nat) + 1 : Int) = (i : Nat) + 1 := i64i _ (by omega) (by omega)
  have w2 : IntKind.i64.wrap ((i : Nat) + 2 : Int) = (i : Nat) + 2 := i64i _ (by omega) (by omega)
  have a1 := word_row ts i wLet
  rw [word_is q_let] at a1
  unfold frmG
  by_cases h1 : isK wLet (nxt ts i) = true
  · rw [if_pos h1]
    rw [h1] at a1
    have o := now_row ts (i + 1)
    have s := sign_row ts (i + 2) sCol
    rw [sign_is q_col] at s
    by_cases h2 : (nxt ts (i + 1)).k = 1
    · by_cases h3 : isK sCol (nxt ts (i + 2)) = true
      · rw [if_pos ⟨h2, h3⟩]
        rw [h3] at s
        clear h1 h3
        refine row_of Try.func136 rfl rfl (Nat.le_of_ble_eq_true rfl) ?_
        repeat' (first | refine aw_seq ?_ | refine aw_skip ?_ | refine aw_block ?_ | refine aw_exit ?_ | refine aw_cond rfl (fun _ => ?_) (fun hb => absurd hb (by decide)) | refine aw_cond rfl (fun hb => absurd hb (by decide)) (fun _ => ?_) | (refine aw_reg (fun K hK => ?_); simp -implicitDefEqProofs [w1, w2, h2]) | (refine aw_drw mixd (fun K hK => ?_); simp -implicitDefEqProofs [w1, w2, h2]) | refine hK _ ?_ | refine hK _ _ (by rfl) ?_ | (refine ar_call (cp a1 ?_); simp -implicitDefEqProofs [w1, w2, h2]) | (refine ard_call (dp a1 ?_); simp -implicitDefEqProofs [w1, w2, h2]) | (refine ar_call (cp o ?_); simp -implicitDefEqProofs [w1, w2, h2]) | (refine ard_call (dp o ?_); simp -implicitDefEqProofs [w1, w2, h2]) | (refine ar_call (cp s ?_); simp -implicitDefEqProofs [w1, w2, h2]) | (refine ard_call (dp s ?_); simp -implicitDefEqProofs [w1, w2, h2]) | fail)
        refine aw_ret (fin_ret ?_); simp -implicitDefEqProofs [FinP, resV, resT, ic, q_let, q_col, q_end] <;> try rfl
      · rw [if_neg (fun h => h3 h.2)]
        rw [show isK sCol (nxt ts (i + 2)) = false by simpa using h3] at s
        clear h1 h3
        refine row_of Try.func136 rfl rfl (Nat.le_of_ble_eq_true rfl) ?_
        repeat' (first | refine aw_seq ?_ | refine aw_skip ?_ | refine aw_block ?_ | refine aw_exit ?_ | refine aw_cond rfl (fun _ => ?_) (fun hb => absurd hb (by decide)) | refine aw_cond rfl (fun hb => absurd hb (by decide)) (fun _ => ?_) | (refine aw_reg (fun K hK => ?_); simp -implicitDefEqProofs [w1, w2, h2]) | (refine aw_drw mixd (fun K hK => ?_); simp -implicitDefEqProofs [w1, w2, h2]) | refine hK _ ?_ | refine hK _ _ (by rfl) ?_ | (refine ar_call (cp a1 ?_); simp -implicitDefEqProofs [w1, w2, h2]) | (refine ard_call (dp a1 ?_); simp -implicitDefEqProofs [w1, w2, h2]) | (refine ar_call (cp o ?_); simp -implicitDefEqProofs [w1, w2, h2]) | (refine ard_call (dp o ?_); simp -implicitDefEqProofs [w1, w2, h2]) | (refine ar_call (cp s ?_); simp -implicitDefEqProofs [w1, w2, h2]) | (refine ard_call (dp s ?_); simp -implicitDefEqProofs [w1, w2, h2]) | fail)
        refine aw_ret (fin_ret ?_); simp -implicitDefEqProofs [FinP, resV, resT, ic, q_let, q_is, q_end] <;> try rfl
    · rw [if_neg (fun h => h2 h.1)]
      clear h1
      refine row_of Try.func136 rfl rfl (Nat.le_of_ble_eq_true rfl) ?_
      repeat' (first | refine aw_seq ?_ | refine aw_skip ?_ | refine aw_block ?_ | refine aw_exit ?_ | refine aw_cond rfl (fun _ => ?_) (fun hb => absurd hb (by decide)) | refine aw_cond rfl (fun hb => absurd hb (by decide)) (fun _ => ?_) | (refine aw_reg (fun K hK => ?_); simp -implicitDefEqProofs [w1, w2, h2]) | (refine aw_drw mixd (fun K hK => ?_); simp -implicitDefEqProofs [w1, w2, h2]) | refine hK _ ?_ | refine hK _ _ (by rfl) ?_ | (refine ar_call (cp a1 ?_); simp -implicitDefEqProofs [w1, w2, h2]) | (refine ard_call (dp a1 ?_); simp -implicitDefEqProofs [w1, w2, h2]) | (refine ar_call (cp o ?_); simp -implicitDefEqProofs [w1, w2, h2]) | (refine ard_call (dp o ?_); simp -implicitDefEqProofs [w1, w2, h2]) | (refine ar_call (cp s ?_); simp -implicitDefEqProofs [w1, w2, h2]) | (refine ard_call (dp s ?_); simp -implicitDefEqProofs [w1, w2, h2]) | fail)
      refine aw_ret (fin_ret ?_); simp -implicitDefEqProofs [FinP, resV, resT, ic, q_let, q_is, q_end] <;> try rfl
  rw [if_neg h1]
  rw [show isK wLet (nxt ts i) = false by simpa using h1] at a1
  have a2 := word_row ts i wIf
  rw [word_is q_if] at a2
  by_cases h2 : isK wIf (nxt ts i) = true
  · rw [if_pos h2]
    rw [h2] at a2
    clear h1 h2
    refine row_of Try.func136 rfl rfl (Nat.le_of_ble_eq_true rfl) ?_
    repeat' (first | refine aw_seq ?_ | refine aw_skip ?_ | refine aw_block ?_ | refine aw_exit ?_ | refine aw_cond rfl (fun _ => ?_) (fun hb => absurd hb (by decide)) | refine aw_cond rfl (fun hb => absurd hb (by decide)) (fun _ => ?_) | (refine aw_reg (fun K hK => ?_); simp -implicitDefEqProofs) | (refine aw_drw mixd (fun K hK => ?_); simp -implicitDefEqProofs) | refine hK _ ?_ | refine hK _ _ (by rfl) ?_ | (refine ar_call (cp a1 ?_); simp -implicitDefEqProofs) | (refine ard_call (dp a1 ?_); simp -implicitDefEqProofs) | (refine ar_call (cp a2 ?_); simp -implicitDefEqProofs) | (refine ard_call (dp a2 ?_); simp -implicitDefEqProofs) | fail)
    refine aw_ret (fin_ret ?_); simp -implicitDefEqProofs [FinP, resV, resT, ic, q_if] <;> try rfl
  rw [if_neg h2]
  rw [show isK wIf (nxt ts i) = false by simpa using h2] at a2
  have a3 := word_row ts i wWhil
  rw [word_is q_whil] at a3
  by_cases h3 : isK wWhil (nxt ts i) = true
  · rw [if_pos h3]
    rw [h3] at a3
    clear h1 h2 h3
    refine row_of Try.func136 rfl rfl (Nat.le_of_ble_eq_true rfl) ?_
    repeat' (first | refine aw_seq ?_ | refine aw_skip ?_ | refine aw_block ?_ | refine aw_exit ?_ | refine aw_cond rfl (fun _ => ?_) (fun hb => absurd hb (by decide)) | refine aw_cond rfl (fun hb => absurd hb (by decide)) (fun _ => ?_) | (refine aw_reg (fun K hK => ?_); simp -implicitDefEqProofs) | (refine aw_drw mixd (fun K hK => ?_); simp -implicitDefEqProofs) | refine hK _ ?_ | refine hK _ _ (by rfl) ?_ | (refine ar_call (cp a1 ?_); simp -implicitDefEqProofs) | (refine ard_call (dp a1 ?_); simp -implicitDefEqProofs) | (refine ar_call (cp a2 ?_); simp -implicitDefEqProofs) | (refine ard_call (dp a2 ?_); simp -implicitDefEqProofs) | (refine ar_call (cp a3 ?_); simp -implicitDefEqProofs) | (refine ard_call (dp a3 ?_); simp -implicitDefEqProofs) | fail)
    refine aw_ret (fin_ret ?_); simp -implicitDefEqProofs [FinP, resV, resT, ic, q_whil] <;> try rfl
  rw [if_neg h3]
  rw [show isK wWhil (nxt ts i) = false by simpa using h3] at a3
  have a4 := word_row ts i wFor
  rw [word_is q_for] at a4
  by_cases h4 : isK wFor (nxt ts i) = true
  · rw [if_pos h4]
    rw [h4] at a4
    clear h1 h2 h3 h4
    refine row_of Try.func136 rfl rfl (Nat.le_of_ble_eq_true rfl) ?_
    repeat' (first | refine aw_seq ?_ | refine aw_skip ?_ | refine aw_block ?_ | refine aw_exit ?_ | refine aw_cond rfl (fun _ => ?_) (fun hb => absurd hb (by decide)) | refine aw_cond rfl (fun hb => absurd hb (by decide)) (fun _ => ?_) | (refine aw_reg (fun K hK => ?_); simp -implicitDefEqProofs) | (refine aw_drw mixd (fun K hK => ?_); simp -implicitDefEqProofs) | refine hK _ ?_ | refine hK _ _ (by rfl) ?_ | (refine ar_call (cp a1 ?_); simp -implicitDefEqProofs) | (refine ard_call (dp a1 ?_); simp -implicitDefEqProofs) | (refine ar_call (cp a2 ?_); simp -implicitDefEqProofs) | (refine ard_call (dp a2 ?_); simp -implicitDefEqProofs) | (refine ar_call (cp a3 ?_); simp -implicitDefEqProofs) | (refine ard_call (dp a3 ?_); simp -implicitDefEqProofs) | (refine ar_call (cp a4 ?_); simp -implicitDefEqProofs) | (refine ard_call (dp a4 ?_); simp -implicitDefEqProofs) | fail)
    refine aw_ret (fin_ret ?_); simp -implicitDefEqProofs [FinP, resV, resT, ic, q_for, q_is, q_to] <;> try rfl
  rw [if_neg h4]
  rw [show isK wFor (nxt ts i) = false by simpa using h4] at a4
  have a5 := word_row ts i wPrin
  rw [word_is q_prin] at a5
  by_cases h5 : isK wPrin (nxt ts i) = true
  · rw [if_pos h5]
    rw [h5] at a5
    clear h1 h2 h3 h4 h5
    refine row_of Try.func136 rfl rfl (Nat.le_of_ble_eq_true rfl) ?_
    repeat' (first | refine aw_seq ?_ | refine aw_skip ?_ | refine aw_block ?_ | refine aw_exit ?_ | refine aw_cond rfl (fun _ => ?_) (fun hb => absurd hb (by decide)) | refine aw_cond rfl (fun hb => absurd hb (by decide)) (fun _ => ?_) | (refine aw_reg (fun K hK => ?_); simp -implicitDefEqProofs) | (refine aw_drw mixd (fun K hK => ?_); simp -implicitDefEqProofs) | refine hK _ ?_ | refine hK _ _ (by rfl) ?_ | (refine ar_call (cp a1 ?_); simp -implicitDefEqProofs) | (refine ard_call (dp a1 ?_); simp -implicitDefEqProofs) | (refine ar_call (cp a2 ?_); simp -implicitDefEqProofs) | (refine ard_call (dp a2 ?_); simp -implicitDefEqProofs) | (refine ar_call (cp a3 ?_); simp -implicitDefEqProofs) | (refine ard_call (dp a3 ?_); simp -implicitDefEqProofs) | (refine ar_call (cp a4 ?_); simp -implicitDefEqProofs) | (refine ard_call (dp a4 ?_); simp -implicitDefEqProofs) | (refine ar_call (cp a5 ?_); simp -implicitDefEqProofs) | (refine ard_call (dp a5 ?_); simp -implicitDefEqProofs) | fail)
    refine aw_ret (fin_ret ?_); simp -implicitDefEqProofs [FinP, resV, resT, ic, q_prin, q_end] <;> try rfl
  rw [if_neg h5]
  rw [show isK wPrin (nxt ts i) = false by simpa using h5] at a5
  have a6 := word_row ts i wRet
  rw [word_is q_ret] at a6
  by_cases h6 : isK wRet (nxt ts i) = true
  · rw [if_pos h6]
    rw [h6] at a6
    clear h1 h2 h3 h4 h5 h6
    refine row_of Try.func136 rfl rfl (Nat.le_of_ble_eq_true rfl) ?_
    repeat' (first | refine aw_seq ?_ | refine aw_skip ?_ | refine aw_block ?_ | refine aw_exit ?_ | refine aw_cond rfl (fun _ => ?_) (fun hb => absurd hb (by decide)) | refine aw_cond rfl (fun hb => absurd hb (by decide)) (fun _ => ?_) | (refine aw_reg (fun K hK => ?_); simp -implicitDefEqProofs) | (refine aw_drw mixd (fun K hK => ?_); simp -implicitDefEqProofs) | refine hK _ ?_ | refine hK _ _ (by rfl) ?_ | (refine ar_call (cp a1 ?_); simp -implicitDefEqProofs) | (refine ard_call (dp a1 ?_); simp -implicitDefEqProofs) | (refine ar_call (cp a2 ?_); simp -implicitDefEqProofs) | (refine ard_call (dp a2 ?_); simp -implicitDefEqProofs) | (refine ar_call (cp a3 ?_); simp -implicitDefEqProofs) | (refine ard_call (dp a3 ?_); simp -implicitDefEqProofs) | (refine ar_call (cp a4 ?_); simp -implicitDefEqProofs) | (refine ard_call (dp a4 ?_); simp -implicitDefEqProofs) | (refine ar_call (cp a5 ?_); simp -implicitDefEqProofs) | (refine ard_call (dp a5 ?_); simp -implicitDefEqProofs) | (refine ar_call (cp a6 ?_); simp -implicitDefEqProofs) | (refine ard_call (dp a6 ?_); simp -implicitDefEqProofs) | fail)
    refine aw_ret (fin_ret ?_); simp -implicitDefEqProofs [FinP, resV, resT, ic, q_ret, q_end] <;> try rfl
  rw [if_neg h6]
  rw [show isK wRet (nxt ts i) = false by simpa using h6] at a6
  have a7 := word_row ts i wDo
  rw [word_is q_do] at a7
  by_cases h7 : isK wDo (nxt ts i) = true
  · rw [if_pos h7]
    rw [h7] at a7
    clear h1 h2 h3 h4 h5 h6 h7
    refine row_of Try.func136 rfl rfl (Nat.le_of_ble_eq_true rfl) ?_
    repeat' (first | refine aw_seq ?_ | refine aw_skip ?_ | refine aw_block ?_ | refine aw_exit ?_ | refine aw_cond rfl (fun _ => ?_) (fun hb => absurd hb (by decide)) | refine aw_cond rfl (fun hb => absurd hb (by decide)) (fun _ => ?_) | (refine aw_reg (fun K hK => ?_); simp -implicitDefEqProofs) | (refine aw_drw mixd (fun K hK => ?_); simp -implicitDefEqProofs) | refine hK _ ?_ | refine hK _ _ (by rfl) ?_ | (refine ar_call (cp a1 ?_); simp -implicitDefEqProofs) | (refine ard_call (dp a1 ?_); simp -implicitDefEqProofs) | (refine ar_call (cp a2 ?_); simp -implicitDefEqProofs) | (refine ard_call (dp a2 ?_); simp -implicitDefEqProofs) | (refine ar_call (cp a3 ?_); simp -implicitDefEqProofs) | (refine ard_call (dp a3 ?_); simp -implicitDefEqProofs) | (refine ar_call (cp a4 ?_); simp -implicitDefEqProofs) | (refine ard_call (dp a4 ?_); simp -implicitDefEqProofs) | (refine ar_call (cp a5 ?_); simp -implicitDefEqProofs) | (refine ard_call (dp a5 ?_); simp -implicitDefEqProofs) | (refine ar_call (cp a6 ?_); simp -implicitDefEqProofs) | (refine ard_call (dp a6 ?_); simp -implicitDefEqProofs) | (refine ar_call (cp a7 ?_); simp -implicitDefEqProofs) | (refine ard_call (dp a7 ?_); simp -implicitDefEqProofs) | fail)
    refine aw_ret (fin_ret ?_); simp -implicitDefEqProofs [FinP, resV, resT, ic, q_do, q_end] <;> try rfl
  rw [if_neg h7]
  rw [show isK wDo (nxt ts i) = false by simpa using h7] at a7
  clear h1 h2 h3 h4 h5 h6 h7
  refine row_of Try.func136 rfl rfl (Nat.le_of_ble_eq_true rfl) ?_
  repeat' (first | refine aw_seq ?_ | refine aw_skip ?_ | refine aw_block ?_ | refine aw_exit ?_ | refine aw_cond rfl (fun _ => ?_) (fun hb => absurd hb (by decide)) | refine aw_cond rfl (fun hb => absurd hb (by decide)) (fun _ => ?_) | (refine aw_reg (fun K hK => ?_); simp -implicitDefEqProofs) | (refine aw_drw mixd (fun K hK => ?_); simp -implicitDefEqProofs) | refine hK _ ?_ | refine hK _ _ (by rfl) ?_ | (refine ar_call (cp a1 ?_); simp -implicitDefEqProofs) | (refine ard_call (dp a1 ?_); simp -implicitDefEqProofs) | (refine ar_call (cp a2 ?_); simp -implicitDefEqProofs) | (refine ard_call (dp a2 ?_); simp -implicitDefEqProofs) | (refine ar_call (cp a3 ?_); simp -implicitDefEqProofs) | (refine ard_call (dp a3 ?_); simp -implicitDefEqProofs) | (refine ar_call (cp a4 ?_); simp -implicitDefEqProofs) | (refine ard_call (dp a4 ?_); simp -implicitDefEqProofs) | (refine ar_call (cp a5 ?_); simp -implicitDefEqProofs) | (refine ard_call (dp a5 ?_); simp -implicitDefEqProofs) | (refine ar_call (cp a6 ?_); simp -implicitDefEqProofs) | (refine ard_call (dp a6 ?_); simp -implicitDefEqProofs) | (refine ar_call (cp a7 ?_); simp -implicitDefEqProofs) | (refine ard_call (dp a7 ?_); simp -implicitDefEqProofs) | fail)
  refine aw_ret (fin_ret ?_); simp -implicitDefEqProofs [FinP, resV, resT, ic, q_is, q_end] <;> try rfl
variable (S : Nat → Got) (hS : ∀ j, j ≤ ts.length → OkS ts 0 j (S j)) (i : Nat)
  (hrow : ∀ j, i < j → j ≤ ts.length → Row Try.prog 130 [vKs ts, vI j] [] (vG (S j)) [])
structure InvRB (b : Nat) (x : Nat × Nat × List VT) : Prop where
  eq : lpB ts S b x.1 x.2.1 x.2.2 = blG ts S b
  lt : b < x.2.1 ∧ x.2.1 ≤ ts.length
  fuel : ts.length < x.1 + x.2.1
  few : x.2.2.length + x.1 ≤ ts.length + 1
include hS hrow
set_option maxRecDepth 100000 in
set_option maxHeartbeats 4000000 in
theorem rblock_row (b : Nat) (hib : i ≤ b) (hb : b ≤ ts.length) : Row Try.prog 112 [vKs ts, vI b] [] (vG (blG ts S b)) [] := by
  have q := sign_row ts b sBra
  rw [sign_is q_bra] at q
  have w1 : IntKind.i64.wrap ((b : Nat) + 1 : Int) = (b : Nat) + 1 := i64i _ (by omega) (by omega)
  by_cases h : isK sBra (nxt ts b) = true; rotate_left
  · have h : isK sBra (nxt ts b) = false := by simpa using h
    rw [show blG ts S b = bad7 b from if_neg (by simp [h])]
    rw [h] at q
    have bd := bad_row b
    clear h hrow hS
    refine row_of Try.func112 rfl rfl (Nat.le_of_ble_eq_true rfl) ?_
    repeat' (first | refine aw_seq ?_ | refine aw_skip ?_ | refine aw_block ?_ | refine aw_exit ?_ | refine aw_cond rfl (fun _ => ?_) (fun hb => absurd hb (by decide)) | refine aw_cond rfl (fun hb => absurd hb (by decide)) (fun _ => ?_) | (refine aw_reg (fun K hK => ?_); simp -implicitDefEqProofs) | (refine aw_drw mixd (fun K hK => ?_); simp -implicitDefEqProofs) | refine hK _ ?_ | refine hK _ _ (by rfl) ?_ | (refine ar_call (cp q ?_); simp -implicitDefEqProofs) | (refine ard_call (dp q ?_); simp -implicitDefEqProofs) | (refine ar_call (cp bd ?_); simp -implicitDefEqProofs) | (refine ard_call (dp bd ?_); simp -implicitDefEqProofs) | fail)
    refine aw_ret (fin_ret ?_); simp -implicitDefEqProofs [FinP, resV, resT, bad7, z0] <;> try rfl
  have hlt := isK_lt h
  have h0 : InvRB ts S b (ts.length + 1, b + 1, []) := ⟨(if_pos h).symm, by dsimp only; omega, by dsimp only; omega, by simp⟩
  rw [h] at q
  clear h
  refine row_of Try.func112 rfl rfl (Nat.le_of_ble_eq_true rfl) ?_
  repeat' (first | refine aw_seq ?_ | refine aw_skip ?_ | refine aw_block ?_ | refine aw_exit ?_ | refine aw_cond rfl (fun _ => ?_) (fun hb => absurd hb (by decide)) | refine aw_cond rfl (fun hb => absurd hb (by decide)) (fun _ => ?_) | (refine aw_reg (fun K hK => ?_); simp -implicitDefEqProofs [w1]) | (refine aw_drw mixd (fun K hK => ?_); simp -implicitDefEqProofs [w1]) | refine hK _ ?_ | refine hK _ _ (by rfl) ?_ | (refine ar_call (cp q ?_); simp -implicitDefEqProofs [w1]) | (refine ard_call (dp q ?_); simp -implicitDefEqProofs [w1]) | fail)
  refine aw_lp (ι := Nat × Nat × List VT) (fun x => mkSt [(0, vKs ts), (1, vI b), (4, .v (.c (.ptr 0 0))), (5, .v (.c (.row 1 6 (x.2.2.map tc)))), (6, vI (x.2.1 : Nat))] [some zG, some (.row 25 6)]) (InvRB ts S b) (fun x => x.1) (ts.length + 1, b + 1, []) h0 (cov_intro [0, 12] (by simp -implicitDefEqProofs) (by simp -implicitDefEqProofs) (by decide) rfl (by simp)) (fun Z hI x hx => ?_)
  clear h0 q w1
  obtain ⟨m, zto, acc⟩ := x
  obtain ⟨x1, x2, x3, x4⟩ := hx
  dsimp only at x1 x2 x3 x4 ⊢
  obtain ⟨m, rfl⟩ : ∃ m', m = m' + 1 := ⟨m - 1, by omega⟩
  rw [lpB] at x1
  have q := sign_row ts zto sKet
  rw [sign_is q_ket] at q
  by_cases h : isK sKet (nxt ts zto) = true
  · have hlt2 := isK_lt h
    rw [if_pos h] at x1
    rw [← x1]
    rw [h] at q
    have w2 : IntKind.i64.wrap ((zto : Nat) + 1 : Int) = (zto : Nat) + 1 := i64i _ (by omega) (by omega)
    have m7 := rmk_row ts hl b (zto + 1) 29 0 ⟨#[]⟩ acc (by omega) (by omega)
    clear x1 h hrow hS
    repeat' (first | refine aw_seq ?_ | refine aw_skip ?_ | refine aw_block ?_ | refine aw_exit ?_ | refine aw_cond rfl (fun _ => ?_) (fun hb => absurd hb (by decide)) | refine aw_cond rfl (fun hb => absurd hb (by decide)) (fun _ => ?_) | (refine aw_reg (fun K hK => ?_); simp -implicitDefEqProofs [w2]) | (refine aw_drw mixd (fun K hK => ?_); simp -implicitDefEqProofs [w2]) | refine hK _ ?_ | refine hK _ _ (by rfl) ?_ | (refine ar_call (cp q ?_); simp -implicitDefEqProofs [w2]) | (refine ard_call (dp q ?_); simp -implicitDefEqProofs [w2]) | (refine ar_call (cp m7 ?_); simp -implicitDefEqProofs [w2]) | (refine ard_call (dp m7 ?_); simp -implicitDefEqProofs [w2]) | fail)
    refine aw_ret (fin_ret ?_); simp -implicitDefEqProofs [FinP, resV, resT, mk7] <;> try rfl
  have h : isK sKet (nxt ts zto) = false := by simpa using h
  rw [if_neg (by simp [h])] at x1
  rw [h] at q
  have hq := hrow zto (by omega) x2.2
  have hs := hS zto x2.2
  have b1 : (acc.length + 1) * 72 ≤ 140737488355328 := by omega
  have b2 : acc.length + 1 ≤ 140737488355328 := by omega
  obtain ⟨⟨⟨sx, sl⟩, s2, s3⟩, hr⟩ : ∃ r, S zto = r := ⟨_, rfl⟩
  rw [hr] at x1 hq hs
  by_cases h3 : s3 = 0; rotate_left
  · rw [if_neg h3] at x1
    rw [← x1]
    clear x1 h hrow hS hs hr
    repeat' (first | refine aw_seq ?_ | refine aw_skip ?_ | refine aw_block ?_ | refine aw_exit ?_ | refine aw_cond rfl (fun _ => ?_) (fun hb => absurd hb (by decide)) | refine aw_cond rfl (fun hb => absurd hb (by decide)) (fun _ => ?_) | (refine aw_reg (fun K hK => ?_); simp -implicitDefEqProofs [h3]) | (refine aw_drw mixd (fun K hK => ?_); simp -implicitDefEqProofs [h3]) | refine hK _ ?_ | refine hK _ _ (by rfl) ?_ | (refine ar_call (cp q ?_); simp -implicitDefEqProofs [h3]) | (refine ard_call (dp q ?_); simp -implicitDefEqProofs [h3]) | (refine ar_call (cp hq ?_); simp -implicitDefEqProofs [h3]) | (refine ard_call (dp hq ?_); simp -implicitDefEqProofs [h3]) | fail)
    refine aw_ret (fin_ret ?_); simp -implicitDefEqProofs [FinP, resV, resT] <;> try rfl
  subst h3
  rw [if_pos rfl] at x1
  have hy := hs.ok.yes rfl
  dsimp only at hy x1
  have nx : InvRB ts S b (m, s2, acc ++ [.mk sx sl]) := ⟨x1, by dsimp only; omega, by dsimp only; omega, by dsimp only; rw [List.length_append, List.length_singleton]; omega⟩
  clear x1 h hrow hS hs hr
  repeat' (first | refine aw_seq ?_ | refine aw_skip ?_ | refine aw_block ?_ | refine aw_exit ?_ | refine aw_cond rfl (fun _ => ?_) (fun hb => absurd hb (by decide)) | refine aw_cond rfl (fun hb => absurd hb (by decide)) (fun _ => ?_) | (refine aw_reg (fun K hK => ?_); simp -implicitDefEqProofs [b1, b2]) | (refine aw_drw mixd (fun K hK => ?_); simp -implicitDefEqProofs [b1, b2]) | refine hK _ ?_ | refine hK _ _ (by rfl) ?_ | (refine ar_call (cp q ?_); simp -implicitDefEqProofs [b1, b2]) | (refine ard_call (dp q ?_); simp -implicitDefEqProofs [b1, b2]) | (refine ar_call (cp hq ?_); simp -implicitDefEqProofs [b1, b2]) | (refine ard_call (dp hq ?_); simp -implicitDefEqProofs [b1, b2]) | fail)
  refine ⟨(_, _, _), nx, (by dsimp only; omega), ?_⟩; rw [hI]; exact cov_intro [0, 32] (by simp -implicitDefEqProofs) (by simp -implicitDefEqProofs) (by decide) rfl (by simp)
set_option maxRecDepth 100000 in
set_option maxHeartbeats 4000000 in
theorem rpart_row (w : Nat) (hw : w ≤ 2) (b : Nat) (hib : i ≤ b) (hb : b ≤ ts.length) : Row Try.prog 137 [vKs ts, vI b, vS (if w = 0 then ⟨#[101, 120, 112, 114]⟩ else if w = 1 then ⟨#[116, 121, 112, 101]⟩ else ⟨#[98, 108, 111, 99, 107]⟩)] [] (vG (RR ts S w b)) [] := by
  have hw : w = 0 ∨ w = 1 ∨ w = 2 := by omega
  rcases hw with rfl | rfl | rfl
  · have h := rexpr_row ts hl b hb
    rw [show RR ts S 0 b = Qx ts 1 b from rfl, if_pos rfl]
    obtain ⟨⟨⟨px, pl⟩, j, e⟩, hr⟩ : ∃ r, Qx ts 1 b = r := ⟨_, rfl⟩
    rw [hr] at h ⊢
    clear hrow hS hr
    refine row_of Try.func137 rfl rfl (Nat.le_of_ble_eq_true rfl) ?_
    repeat' (first | refine aw_seq ?_ | refine aw_skip ?_ | refine aw_block ?_ | refine aw_exit ?_ | refine aw_cond rfl (fun _ => ?_) (fun hb => absurd hb (by decide)) | refine aw_cond rfl (fun hb => absurd hb (by decide)) (fun _ => ?_) | (refine aw_reg (fun K hK => ?_); simp -implicitDefEqProofs) | (refine aw_drw mixd (fun K hK => ?_); simp -implicitDefEqProofs) | refine hK _ ?_ | refine hK _ _ (by rfl) ?_ | (refine ar_call (cp h ?_); simp -implicitDefEqProofs) | (refine ard_call (dp h ?_); simp -implicitDefEqProofs) | fail)
    refine aw_ret (fin_ret ?_); simp -implicitDefEqProofs [FinP, resV, resT] <;> try rfl
  · have h := rtype_row ts (by omega) (ts.length + 1) b (by omega) hb
    rw [show RR ts S 1 b = tyG ts (ts.length + 1) b from rfl, if_neg (by decide), if_pos rfl]
    obtain ⟨⟨⟨px, pl⟩, j, e⟩, hr⟩ : ∃ r, tyG ts (ts.length + 1) b = r := ⟨_, rfl⟩
    rw [hr] at h ⊢
    clear hrow hS hr
    refine row_of Try.func137 rfl rfl (Nat.le_of_ble_eq_true rfl) ?_
    repeat' (first | refine aw_seq ?_ | refine aw_skip ?_ | refine aw_block ?_ | refine aw_exit ?_ | refine aw_cond rfl (fun _ => ?_) (fun hb => absurd hb (by decide)) | refine aw_cond rfl (fun hb => absurd hb (by decide)) (fun _ => ?_) | (refine aw_reg (fun K hK => ?_); simp -implicitDefEqProofs) | (refine aw_drw mixd (fun K hK => ?_); simp -implicitDefEqProofs) | refine hK _ ?_ | refine hK _ _ (by rfl) ?_ | (refine ar_call (cp h ?_); simp -implicitDefEqProofs) | (refine ard_call (dp h ?_); simp -implicitDefEqProofs) | fail)
    refine aw_ret (fin_ret ?_); simp -implicitDefEqProofs [FinP, resV, resT] <;> try rfl
  · have h := rblock_row ts hl S hS i hrow b hib hb
    rw [show RR ts S 2 b = blG ts S b from rfl, if_neg (by decide), if_neg (by decide)]
    obtain ⟨⟨⟨px, pl⟩, j, e⟩, hr⟩ : ∃ r, blG ts S b = r := ⟨_, rfl⟩
    rw [hr] at h ⊢
    clear hrow hS hr
    refine row_of Try.func137 rfl rfl (Nat.le_of_ble_eq_true rfl) ?_
    repeat' (first | refine aw_seq ?_ | refine aw_skip ?_ | refine aw_block ?_ | refine aw_exit ?_ | refine aw_cond rfl (fun _ => ?_) (fun hb => absurd hb (by decide)) | refine aw_cond rfl (fun hb => absurd hb (by decide)) (fun _ => ?_) | (refine aw_reg (fun K hK => ?_); simp -implicitDefEqProofs) | (refine aw_drw mixd (fun K hK => ?_); simp -implicitDefEqProofs) | refine hK _ ?_ | refine hK _ _ (by rfl) ?_ | (refine ar_call (cp h ?_); simp -implicitDefEqProofs) | (refine ard_call (dp h ?_); simp -implicitDefEqProofs) | fail)
    refine aw_ret (fin_ret ?_); simp -implicitDefEqProofs [FinP, resV, resT] <;> try rfl
set_option maxRecDepth 100000 in
set_option maxHeartbeats 4000000 in
theorem rpart_els (b : Nat) (hib : i ≤ b) (hb : b ≤ ts.length) : Row Try.prog 137 [vKs ts, vI b, vS wElse] [] (vG (RR ts S 2 b)) [] := by
  have h := rblock_row ts hl S hS i hrow b hib hb
  rw [show RR ts S 2 b = blG ts S b from rfl]
  obtain ⟨⟨⟨px, pl⟩, j, e⟩, hr⟩ : ∃ r, blG ts S b = r := ⟨_, rfl⟩
  rw [hr] at h ⊢
  clear hrow hS hr
  refine row_of Try.func137 rfl rfl (Nat.le_of_ble_eq_true rfl) ?_
  repeat' (first | refine aw_seq ?_ | refine aw_skip ?_ | refine aw_block ?_ | refine aw_exit ?_ | refine aw_cond rfl (fun _ => ?_) (fun hb => absurd hb (by decide)) | refine aw_cond rfl (fun hb => absurd hb (by decide)) (fun _ => ?_) | (refine aw_reg (fun K hK => ?_); simp -implicitDefEqProofs) | (refine aw_drw mixd (fun K hK => ?_); simp -implicitDefEqProofs) | refine hK _ ?_ | refine hK _ _ (by rfl) ?_ | (refine ar_call (cp h ?_); simp -implicitDefEqProofs) | (refine ard_call (dp h ?_); simp -implicitDefEqProofs) | fail)
  refine aw_ret (fin_ret ?_); simp -implicitDefEqProofs [FinP, resV, resT] <;> try rfl
end
end Go.Proofs.Ythkfdheoakbfnaa.am
end
section
namespace Go.Proofs.Ythkfdheoakbfnaa.am
open Go.ChangeShapes Go.WideShapes Go.ChangeAt Go.RowKit
open vt
set_option linter.unusedVariables false
set_option linter.unusedSimpArgs false
theorem frm_good (ts : List Tok) (i : Nat) : (frmG ts i).2.length ≤ 7 ∧ ∀ w, It.sub w ∈ (frmG ts i).2 → w ≤ 2 := by
  unfold frmG
  repeat' split
  all_goals (refine ⟨by simp, fun w h => ?_⟩; simp at h; omega)
section
variable (ts : List Tok) (hl : ts.length ≤ 1000000000) (S : Nat → Got) (hS : ∀ j, j ≤ ts.length → OkS ts 0 j (S j)) (i : Nat) (hi : i ≤ ts.length)
  (hrow : ∀ j, i < j → j ≤ ts.length → Row Try.prog 130 [vKs ts, vI j] [] (vG (S j)) [])
structure InvF (kd : Int) (L : List It) (R : Got) (x : Nat × Nat × ByteArray × List VT) : Prop where
  eq : itH ts (RR ts S) i kd 0 (L.drop x.1) x.2.1 x.2.2.1 x.2.2.2 = R
  le : x.1 ≤ L.length
  at' : i ≤ x.2.1 ∧ x.2.1 ≤ ts.length
  cr : ∃ c, c + sm x.2.2.2 + i ≤ x.2.1 ∧ Cr c (L.drop x.1)
  few : x.2.2.2.length ≤ x.1
include hl hS hi hrow
set_option maxRecDepth 100000 in
set_option maxHeartbeats 4000000 in
theorem rstmt_form (R : Got) (hb : isK sBra (nxt ts i) = false) (hR : itH ts (RR ts S) i (frmG ts i).1 0 (frmG ts i).2 i ⟨#[]⟩ [] = R) : Row Try.prog 130 [vKs ts, vI i] [] (vG R) [] := by
  have q := sign_row ts i sBra
  rw [sign_is q_bra, hb] at q
  have f := form_row ts hl i hi
  have hg := frm_good ts i
  have hc := frm_cr (ts := ts) i
  obtain ⟨⟨kd, L⟩, hL⟩ : ∃ r, frmG ts i = r := ⟨_, rfl⟩
  rw [hL] at f hg hc hR
  dsimp only at hg hc hR
  obtain ⟨hg1, hg2⟩ := hg
  have h0 : InvF ts S i kd L R (0, i, ⟨#[]⟩, []) := ⟨hR, Nat.zero_le _, ⟨Nat.le_refl _, hi⟩, ⟨0, by simp [sm], hc⟩, Nat.le_refl _⟩
  clear hR hc hL hb
  refine row_of Try.func130 rfl rfl (Nat.le_of_ble_eq_true rfl) ?_
  repeat' (first | refine aw_seq ?_ | refine aw_skip ?_ | refine aw_block ?_ | refine aw_exit ?_ | refine aw_cond rfl (fun _ => ?_) (fun hb => absurd hb (by decide)) | refine aw_cond rfl (fun hb => absurd hb (by decide)) (fun _ => ?_) | (refine aw_reg (fun K hK => ?_); simp -implicitDefEqProofs) | (refine aw_drw mixd (fun K hK => ?_); simp -implicitDefEqProofs) | refine hK _ ?_ | refine hK _ _ (by rfl) ?_ | (refine ar_call (cp q ?_); simp -implicitDefEqProofs) | (refine ard_call (dp q ?_); simp -implicitDefEqProofs) | (refine ar_call (cp f ?_); simp -implicitDefEqProofs) | (refine ard_call (dp f ?_); simp -implicitDefEqProofs) | fail)
  refine aw_lp (ι := Nat × Nat × ByteArray × List VT) (fun x => mkSt [(0, vKs ts), (1, vI i), (4, .v (.c (.ptr 0 0))), (5, vI kd), (6, .v (.c (.pv (.sl 2 (L.map ic))))), (7, .v (.c (.row 1 6 (x.2.2.2.map tc)))), (8, vS x.2.2.1), (9, vI (x.2.1 : Nat)), (10, vI (x.1 : Nat))] [some zG, some (.row 25 6)]) (InvF ts S i kd L R) (fun x => L.length - x.1) (0, i, ⟨#[]⟩, []) h0 (cov_intro [0, 26] (by simp -implicitDefEqProofs) (by simp -implicitDefEqProofs) (by decide) rfl (by simp)) (fun Z hI x hx => ?_)
  clear h0 q f
  obtain ⟨k, zto, name, ps⟩ := x
  obtain ⟨x1, x2, x3, x4, x5⟩ := hx
  dsimp only at x1 x2 x3 x4 x5 ⊢
  obtain ⟨c, c1, c2⟩ := x4
  by_cases hkl : k < L.length; rotate_left
  · have hkl' : k = L.length := by omega
    subst hkl'
    rw [List.drop_length] at x1 c2
    unfold Cr at c2
    rw [itH] at x1
    rw [← x1]
    have m7 := rmk_row ts hl i zto kd 0 name ps (by omega) x3.2
    clear x1 c1 c2 x2 hg2 hrow hS
    repeat' (first | refine aw_seq ?_ | refine aw_skip ?_ | refine aw_block ?_ | refine aw_exit ?_ | refine aw_cond rfl (fun _ => ?_) (fun hb => absurd hb (by decide)) | refine aw_cond rfl (fun hb => absurd hb (by decide)) (fun _ => ?_) | (refine aw_reg (fun K hK => ?_); simp -implicitDefEqProofs) | (refine aw_drw mixd (fun K hK => ?_); simp -implicitDefEqProofs) | refine hK _ ?_ | refine hK _ _ (by rfl) ?_ | (refine ar_call (cp m7 ?_); simp -implicitDefEqProofs) | (refine ard_call (dp m7 ?_); simp -implicitDefEqProofs) | fail)
    refine aw_ret (fin_ret ?_); simp -implicitDefEqProofs [FinP, resV, resT, mk7] <;> try rfl
  obtain ⟨it, hy⟩ : ∃ y, L[k]? = some y := ⟨_, List.getElem?_eq_getElem hkl⟩
  have hy' := (List.getElem?_eq_some_iff.1 hy).2
  have hmem := List.mem_of_getElem? hy
  rw [List.drop_eq_getElem_cons hkl, hy'] at x1 c2
  have wk : IntKind.i64.wrap ((k : Nat) + 1 : Int) = (k : Nat) + 1 := i64i _ (by omega) (by omega)
  have w1 : IntKind.i64.wrap ((zto : Nat) + 1 : Int) = (zto : Nat) + 1 := i64i _ (by omega) (by omega)
  have b1 : (ps.length + 1) * 72 ≤ 140737488355328 := by omega
  have b2 : ps.length + 1 ≤ 140737488355328 := by omega
  cases it with
  | sgn s =>
    rw [itG_sgn] at x1
    unfold Cr at c2
    by_cases h : isK s (nxt ts zto) = true
    · have hlt := isK_lt h
      rw [if_pos h] at x1
      have nx : InvF ts S i kd L R (k + 1, zto + 1, name, ps) := ⟨x1, hkl, by dsimp only; omega, ⟨c + 1, by dsimp only; omega, c2⟩, by dsimp only; omega⟩
      rcases quo_34 s with h3 | h3
      · have q := word_row ts zto s
        rw [word_is h3, h] at q
        clear x1 c1 c2 hg2 hrow hS h
        repeat' (first | refine aw_seq ?_ | refine aw_skip ?_ | refine aw_block ?_ | refine aw_exit ?_ | refine aw_cond rfl (fun _ => ?_) (fun hb => absurd hb (by decide)) | refine aw_cond rfl (fun hb => absurd hb (by decide)) (fun _ => ?_) | (refine aw_reg (fun K hK => ?_); simp -implicitDefEqProofs [hkl, hy, hy', ic, h3, wk, w1]) | (refine aw_drw mixd (fun K hK => ?_); simp -implicitDefEqProofs [hkl, hy, hy', ic, h3, wk, w1]) | refine hK _ ?_ | refine hK _ _ (by rfl) ?_ | (refine ar_call (cp q ?_); simp -implicitDefEqProofs [hkl, hy, hy', ic, h3, wk, w1]) | (refine ard_call (dp q ?_); simp -implicitDefEqProofs [hkl, hy, hy', ic, h3, wk, w1]) | fail)
        refine ⟨(_, _, _, _), nx, (by dsimp only; omega), ?_⟩; rw [hI]; exact cov_intro [0, 1] (by simp -implicitDefEqProofs) (by simp -implicitDefEqProofs) (by decide) rfl (by simp)
      · have q := sign_row ts zto s
        rw [sign_is h3, h] at q
        clear x1 c1 c2 hg2 hrow hS h
        repeat' (first | refine aw_seq ?_ | refine aw_skip ?_ | refine aw_block ?_ | refine aw_exit ?_ | refine aw_cond rfl (fun _ => ?_) (fun hb => absurd hb (by decide)) | refine aw_cond rfl (fun hb => absurd hb (by decide)) (fun _ => ?_) | (refine aw_reg (fun K hK => ?_); simp -implicitDefEqProofs [hkl, hy, hy', ic, h3, wk, w1]) | (refine aw_drw mixd (fun K hK => ?_); simp -implicitDefEqProofs [hkl, hy, hy', ic, h3, wk, w1]) | refine hK _ ?_ | refine hK _ _ (by rfl) ?_ | (refine ar_call (cp q ?_); simp -implicitDefEqProofs [hkl, hy, hy', ic, h3, wk, w1]) | (refine ard_call (dp q ?_); simp -implicitDefEqProofs [hkl, hy, hy', ic, h3, wk, w1]) | fail)
        refine ⟨(_, _, _, _), nx, (by dsimp only; omega), ?_⟩; rw [hI]; exact cov_intro [0, 1] (by simp -implicitDefEqProofs) (by simp -implicitDefEqProofs) (by decide) rfl (by simp)
    · have h : isK s (nxt ts zto) = false := by simpa using h
      rw [if_neg (by simp [h])] at x1
      rw [← x1]
      have bd := bad_row zto
      rcases quo_34 s with h3 | h3
      · have q := word_row ts zto s
        rw [word_is h3, h] at q
        clear x1 c1 c2 hg2 hrow hS h
        repeat' (first | refine aw_seq ?_ | refine aw_skip ?_ | refine aw_block ?_ | refine aw_exit ?_ | refine aw_cond rfl (fun _ => ?_) (fun hb => absurd hb (by decide)) | refine aw_cond rfl (fun hb => absurd hb (by decide)) (fun _ => ?_) | (refine aw_reg (fun K hK => ?_); simp -implicitDefEqProofs [hkl, hy, hy', ic, h3, wk, w1]) | (refine aw_drw mixd (fun K hK => ?_); simp -implicitDefEqProofs [hkl, hy, hy', ic, h3, wk, w1]) | refine hK _ ?_ | refine hK _ _ (by rfl) ?_ | (refine ar_call (cp q ?_); simp -implicitDefEqProofs [hkl, hy, hy', ic, h3, wk, w1]) | (refine ard_call (dp q ?_); simp -implicitDefEqProofs [hkl, hy, hy', ic, h3, wk, w1]) | (refine ar_call (cp bd ?_); simp -implicitDefEqProofs [hkl, hy, hy', ic, h3, wk, w1]) | (refine ard_call (dp bd ?_); simp -implicitDefEqProofs [hkl, hy, hy', ic, h3, wk, w1]) | fail)
        refine aw_ret (fin_ret ?_); simp -implicitDefEqProofs [FinP, resV, resT, bad7, z0] <;> try rfl
      · have q := sign_row ts zto s
        rw [sign_is h3, h] at q
        clear x1 c1 c2 hg2 hrow hS h
        repeat' (first | refine aw_seq ?_ | refine aw_skip ?_ | refine aw_block ?_ | refine aw_exit ?_ | refine aw_cond rfl (fun _ => ?_) (fun hb => absurd hb (by decide)) | refine aw_cond rfl (fun hb => absurd hb (by decide)) (fun _ => ?_) | (refine aw_reg (fun K hK => ?_); simp -implicitDefEqProofs [hkl, hy, hy', ic, h3, wk, w1]) | (refine aw_drw mixd (fun K hK => ?_); simp -implicitDefEqProofs [hkl, hy, hy', ic, h3, wk, w1]) | refine hK _ ?_ | refine hK _ _ (by rfl) ?_ | (refine ar_call (cp q ?_); simp -implicitDefEqProofs [hkl, hy, hy', ic, h3, wk, w1]) | (refine ard_call (dp q ?_); simp -implicitDefEqProofs [hkl, hy, hy', ic, h3, wk, w1]) | (refine ar_call (cp bd ?_); simp -implicitDefEqProofs [hkl, hy, hy', ic, h3, wk, w1]) | (refine ard_call (dp bd ?_); simp -implicitDefEqProofs [hkl, hy, hy', ic, h3, wk, w1]) | fail)
        refine aw_ret (fin_ret ?_); simp -implicitDefEqProofs [FinP, resV, resT, bad7, z0] <;> try rfl
  | nam =>
    rw [itG_nam] at x1
    unfold Cr at c2
    have q := now_row ts zto
    by_cases h : (nxt ts zto).k = 1
    · obtain ⟨t, ht, htn, htk⟩ := kind_at h (by decide)
      have ht' := (List.getElem?_eq_some_iff.1 ht).2
      have hlt := (List.getElem?_eq_some_iff.1 ht).1
      rw [if_pos h, htn] at x1
      rw [htn] at q
      have nx : InvF ts S i kd L R (k + 1, zto + 1, t.s, ps) := ⟨x1, hkl, by dsimp only; omega, ⟨c + 1, by dsimp only; omega, c2⟩, by dsimp only; omega⟩
      obtain ⟨tk, tn, tss, tf, tt⟩ := t
      dsimp only at htk nx
      clear x1 c1 c2 hg2 hrow hS h htn
      repeat' (first | refine aw_seq ?_ | refine aw_skip ?_ | refine aw_block ?_ | refine aw_exit ?_ | refine aw_cond rfl (fun _ => ?_) (fun hb => absurd hb (by decide)) | refine aw_cond rfl (fun hb => absurd hb (by decide)) (fun _ => ?_) | (refine aw_reg (fun K hK => ?_); simp -implicitDefEqProofs [hkl, hy, hy', ic, wk, w1, htk, hlt, ht, ht']) | (refine aw_drw mixd (fun K hK => ?_); simp -implicitDefEqProofs [hkl, hy, hy', ic, wk, w1, htk, hlt, ht, ht']) | refine hK _ ?_ | refine hK _ _ (by rfl) ?_ | (refine ar_call (cp q ?_); simp -implicitDefEqProofs [hkl, hy, hy', ic, wk, w1, htk, hlt, ht, ht']) | (refine ard_call (dp q ?_); simp -implicitDefEqProofs [hkl, hy, hy', ic, wk, w1, htk, hlt, ht, ht']) | fail)
      refine ⟨(_, _, _, _), nx, (by dsimp only; omega), ?_⟩; rw [hI]; exact cov_intro [0, 1] (by simp -implicitDefEqProofs) (by simp -implicitDefEqProofs) (by decide) rfl (by simp)
    · rw [if_neg h] at x1
      rw [← x1]
      have bd := bad_row zto
      obtain ⟨⟨tk, tn, tss, tf, tt⟩, ht⟩ : ∃ t, nxt ts zto = t := ⟨_, rfl⟩
      rw [ht] at q h
      dsimp only at h
      clear x1 c1 c2 hg2 hrow hS ht
      repeat' (first | refine aw_seq ?_ | refine aw_skip ?_ | refine aw_block ?_ | refine aw_exit ?_ | refine aw_cond rfl (fun _ => ?_) (fun hb => absurd hb (by decide)) | refine aw_cond rfl (fun hb => absurd hb (by decide)) (fun _ => ?_) | (refine aw_reg (fun K hK => ?_); simp -implicitDefEqProofs [hkl, hy, hy', ic, wk, w1, h]) | (refine aw_drw mixd (fun K hK => ?_); simp -implicitDefEqProofs [hkl, hy, hy', ic, wk, w1, h]) | refine hK _ ?_ | refine hK _ _ (by rfl) ?_ | (refine ar_call (cp q ?_); simp -implicitDefEqProofs [hkl, hy, hy', ic, wk, w1, h]) | (refine ard_call (dp q ?_); simp -implicitDefEqProofs [hkl, hy, hy', ic, wk, w1, h]) | (refine ar_call (cp bd ?_); simp -implicitDefEqProofs [hkl, hy, hy', ic, wk, w1, h]) | (refine ard_call (dp bd ?_); simp -implicitDefEqProofs [hkl, hy, hy', ic, wk, w1, h]) | fail)
      refine aw_ret (fin_ret ?_); simp -implicitDefEqProofs [FinP, resV, resT, bad7, z0] <;> try rfl
  | sub w =>
    have hw := hg2 w hmem
    rw [itG_sub] at x1
    unfold Cr at c2
    have p := rpart_row ts hl S hS i hrow w hw zto x3.1 x3.2
    have hr := RR_ok hS w zto x3.2
    obtain ⟨⟨⟨px, pl⟩, p2, p3⟩, hp⟩ : ∃ r, RR ts S w zto = r := ⟨_, rfl⟩
    rw [hp] at x1 p hr
    by_cases h3 : p3 = 0; rotate_left
    · rw [if_neg h3] at x1
      rw [← x1]
      have hw : w = 0 ∨ w = 1 ∨ w = 2 := by omega
      clear x1 c1 c2 hg2 hrow hS hr hp
      rcases hw with rfl | rfl | rfl
      all_goals (
        simp only [if_pos, if_neg, Nat.one_ne_zero, Nat.succ_ne_zero, reduceIte] at p
        repeat' (first | refine aw_seq ?_ | refine aw_skip ?_ | refine aw_block ?_ | refine aw_exit ?_ | refine aw_cond rfl (fun _ => ?_) (fun hb => absurd hb (by decide)) | refine aw_cond rfl (fun hb => absurd hb (by decide)) (fun _ => ?_) | (refine aw_reg (fun K hK => ?_); simp -implicitDefEqProofs [hkl, hy, hy', ic, wk, h3]) | (refine aw_drw mixd (fun K hK => ?_); simp -implicitDefEqProofs [hkl, hy, hy', ic, wk, h3]) | refine hK _ ?_ | refine hK _ _ (by rfl) ?_ | (refine ar_call (cp p ?_); simp -implicitDefEqProofs [hkl, hy, hy', ic, wk, h3]) | (refine ard_call (dp p ?_); simp -implicitDefEqProofs [hkl, hy, hy', ic, wk, h3]) | fail)
        refine aw_ret (fin_ret ?_); simp -implicitDefEqProofs [FinP, resV, resT] <;> try rfl)
    subst h3
    rw [if_pos rfl] at x1
    have hys := hr.ok.yes rfl
    have hsz := hr.sz rfl
    dsimp only at hys hsz x1
    have nx : InvF ts S i kd L R (k + 1, p2, name, ps ++ [.mk px pl]) := by
      refine ⟨x1, hkl, by dsimp only; omega, ⟨_, ?_, c2⟩, by dsimp only; rw [List.length_append, List.length_singleton]; omega⟩
      dsimp only
      rw [sm_app]
      split at hsz <;> split <;> omega
    have hw : w = 0 ∨ w = 1 ∨ w = 2 := by omega
    clear x1 c1 c2 hg2 hrow hS hr hp
    rcases hw with rfl | rfl | rfl
    all_goals (
      simp only [if_pos, if_neg, Nat.one_ne_zero, Nat.succ_ne_zero, reduceIte] at p
      repeat' (first | refine aw_seq ?_ | refine aw_skip ?_ | refine aw_block ?_ | refine aw_exit ?_ | refine aw_cond rfl (fun _ => ?_) (fun hb => absurd hb (by decide)) | refine aw_cond rfl (fun hb => absurd hb (by decide)) (fun _ => ?_) | (refine aw_reg (fun K hK => ?_); simp -implicitDefEqProofs [hkl, hy, hy', ic, wk, b1, b2]) | (refine aw_drw mixd (fun K hK => ?_); simp -implicitDefEqProofs [hkl, hy, hy', ic, wk, b1, b2]) | refine hK _ ?_ | refine hK _ _ (by rfl) ?_ | (refine ar_call (cp p ?_); simp -implicitDefEqProofs [hkl, hy, hy', ic, wk, b1, b2]) | (refine ard_call (dp p ?_); simp -implicitDefEqProofs [hkl, hy, hy', ic, wk, b1, b2]) | fail)
      refine ⟨(_, _, _, _), nx, (by dsimp only; omega), ?_⟩; rw [hI]; exact cov_intro [0, 46] (by simp -implicitDefEqProofs) (by simp -implicitDefEqProofs) (by decide) rfl (by simp))
  | els =>
    rw [itG_els] at x1
    unfold Cr at c2
    have q := word_row ts zto wElse
    rw [word_is q_else] at q
    by_cases h : isK wElse (nxt ts zto) = true
    · have hlt := isK_lt h
      rw [if_pos h] at x1
      rw [h] at q
      have p := rpart_els ts hl S hS i hrow (zto + 1) (by omega) (by omega)
      have hr := RR_ok hS 2 (zto + 1) (by omega)
      rw [if_pos rfl] at hr
      obtain ⟨⟨⟨px, pl⟩, p2, p3⟩, hp⟩ : ∃ r, RR ts S 2 (zto + 1) = r := ⟨_, rfl⟩
      rw [hp] at x1 p hr
      by_cases h3 : p3 = 0; rotate_left
      · rw [if_neg h3] at x1
        rw [← x1]
        clear x1 c1 c2 hg2 hrow hS hr hp h
        repeat' (first | refine aw_seq ?_ | refine aw_skip ?_ | refine aw_block ?_ | refine aw_exit ?_ | refine aw_cond rfl (fun _ => ?_) (fun hb => absurd hb (by decide)) | refine aw_cond rfl (fun hb => absurd hb (by decide)) (fun _ => ?_) | (refine aw_reg (fun K hK => ?_); simp -implicitDefEqProofs [hkl, hy, hy', ic, wk, w1, h3]) | (refine aw_drw mixd (fun K hK => ?_); simp -implicitDefEqProofs [hkl, hy, hy', ic, wk, w1, h3]) | refine hK _ ?_ | refine hK _ _ (by rfl) ?_ | (refine ar_call (cp q ?_); simp -implicitDefEqProofs [hkl, hy, hy', ic, wk, w1, h3]) | (refine ard_call (dp q ?_); simp -implicitDefEqProofs [hkl, hy, hy', ic, wk, w1, h3]) | (refine ar_call (cp p ?_); simp -implicitDefEqProofs [hkl, hy, hy', ic, wk, w1, h3]) | (refine ard_call (dp p ?_); simp -implicitDefEqProofs [hkl, hy, hy', ic, wk, w1, h3]) | fail)
        refine aw_ret (fin_ret ?_); simp -implicitDefEqProofs [FinP, resV, resT] <;> try rfl
      subst h3
      rw [if_pos rfl] at x1
      have hys := hr.ok.yes rfl
      have hsz := hr.sz rfl
      dsimp only at hys hsz x1
      have nx : InvF ts S i kd L R (k + 1, p2, name, ps ++ [.mk px pl]) := ⟨x1, hkl, by dsimp only; omega, ⟨_, by dsimp only; rw [sm_app]; omega, c2.2⟩, by dsimp only; rw [List.length_append, List.length_singleton]; omega⟩
      clear x1 c1 c2 hg2 hrow hS hr hp h
      repeat' (first | refine aw_seq ?_ | refine aw_skip ?_ | refine aw_block ?_ | refine aw_exit ?_ | refine aw_cond rfl (fun _ => ?_) (fun hb => absurd hb (by decide)) | refine aw_cond rfl (fun hb => absurd hb (by decide)) (fun _ => ?_) | (refine aw_reg (fun K hK => ?_); simp -implicitDefEqProofs [hkl, hy, hy', ic, wk, w1, b1, b2]) | (refine aw_drw mixd (fun K hK => ?_); simp -implicitDefEqProofs [hkl, hy, hy', ic, wk, w1, b1, b2]) | refine hK _ ?_ | refine hK _ _ (by rfl) ?_ | (refine ar_call (cp q ?_); simp -implicitDefEqProofs [hkl, hy, hy', ic, wk, w1, b1, b2]) | (refine ard_call (dp q ?_); simp -implicitDefEqProofs [hkl, hy, hy', ic, wk, w1, b1, b2]) | (refine ar_call (cp p ?_); simp -implicitDefEqProofs [hkl, hy, hy', ic, wk, w1, b1, b2]) | (refine ard_call (dp p ?_); simp -implicitDefEqProofs [hkl, hy, hy', ic, wk, w1, b1, b2]) | fail)
      refine ⟨(_, _, _, _), nx, (by dsimp only; omega), ?_⟩; rw [hI]; exact cov_intro [0, 60] (by simp -implicitDefEqProofs) (by simp -implicitDefEqProofs) (by decide) rfl (by simp)
    · have h : isK wElse (nxt ts zto) = false := by simpa using h
      rw [if_neg (by simp [h])] at x1
      rw [h] at q
      obtain ⟨j, rfl⟩ : ∃ j, zto = j + 1 := ⟨zto - 1, by omega⟩
      have hjl : j < ts.length := by omega
      obtain ⟨t, ht⟩ : ∃ t, ts[j]? = some t := ⟨_, List.getElem?_eq_getElem hjl⟩
      have ht' := (List.getElem?_eq_some_iff.1 ht).2
      have he : emB ts (j + 1) = .mk ⟨29, 0, ⟨#[]⟩, t.t, t.t⟩ [] := by unfold emB toT; rw [Nat.add_sub_cancel, nxt_some ht]
      rw [he] at x1
      have nx : InvF ts S i kd L R (k + 1, j + 1, name, ps ++ [.mk ⟨29, 0, ⟨#[]⟩, t.t, t.t⟩ []]) := ⟨x1, hkl, by dsimp only; omega, ⟨c - 1, by dsimp only; rw [sm_app, Tr.size_mk]; have := c2.1; simp; omega, c2.2⟩, by dsimp only; rw [List.length_append, List.length_singleton]; omega⟩
      have wj : IntKind.i64.wrap (((j + 1 : Nat) : Int) - 1) = (j : Nat) := by rw [i64i _ (by omega) (by omega)]; omega
      have wj' : IntKind.i64.wrap ((j : Int) + 1 - 1) = (j : Nat) := by rw [i64i _ (by omega) (by omega)]; omega
      have wj2 : IntKind.i64.wrap ((j : Nat) : Int) = (j : Nat) := i64i _ (by omega) (by omega)
      obtain ⟨tk, tn, tss, tf, tt⟩ := t
      dsimp only at nx
      clear x1 c1 c2 hg2 hrow hS h he
      repeat' (first | refine aw_seq ?_ | refine aw_skip ?_ | refine aw_block ?_ | refine aw_exit ?_ | refine aw_cond rfl (fun _ => ?_) (fun hb => absurd hb (by decide)) | refine aw_cond rfl (fun hb => absurd hb (by decide)) (fun _ => ?_) | (refine aw_reg (fun K hK => ?_); simp -implicitDefEqProofs [hkl, hy, hy', ic, wk, wj, wj', wj2, b1, b2, hjl, ht, ht']) | (refine aw_drw mixd (fun K hK => ?_); simp -implicitDefEqProofs [hkl, hy, hy', ic, wk, wj, wj', wj2, b1, b2, hjl, ht, ht']) | refine hK _ ?_ | refine hK _ _ (by rfl) ?_ | (refine ar_call (cp q ?_); simp -implicitDefEqProofs [hkl, hy, hy', ic, wk, wj, wj', wj2, b1, b2, hjl, ht, ht']) | (refine ard_call (dp q ?_); simp -implicitDefEqProofs [hkl, hy, hy', ic, wk, wj, wj', wj2, b1, b2, hjl, ht, ht']) | fail)
      refine ⟨(_, _, _, _), nx, (by dsimp only; omega), ?_⟩; rw [hI]; exact cov_intro [0, 47] (by simp -implicitDefEqProofs) (by simp -implicitDefEqProofs) (by decide) rfl (by simp)
end
set_option maxRecDepth 100000 in
set_option maxHeartbeats 4000000 in
theorem rstmt_rows (ts : List Tok) (hl : ts.length ≤ 1000000000) : ∀ n i, ts.length - i < n → i ≤ ts.length → Row Try.prog 130 [vKs ts, vI i] [] (vG (sG ts n i)) [] := by
  intro n
  induction n with
  | zero => intro i h; omega
  | succ n ih =>
    intro i hn hi
    have hrow : ∀ j, i < j → j ≤ ts.length → Row Try.prog 130 [vKs ts, vI j] [] (vG (sG ts n j)) [] := fun j h1 h2 => ih j (by omega) h2
    by_cases hb : isK sBra (nxt ts i) = true
    · have b := rblock_row ts hl (sG ts n) (sG_ok n) i hrow i (Nat.le_refl _) hi
      rw [show sG ts (n + 1) i = blG ts (sG ts n) i from if_pos hb]
      have q := sign_row ts i sBra
      rw [sign_is q_bra, hb] at q
      obtain ⟨⟨⟨px, pl⟩, j, e⟩, hr⟩ : ∃ r, blG ts (sG ts n) i = r := ⟨_, rfl⟩
      rw [hr] at b ⊢
      clear hrow ih hr hb
      refine row_of Try.func130 rfl rfl (Nat.le_of_ble_eq_true rfl) ?_
      repeat' (first | refine aw_seq ?_ | refine aw_skip ?_ | refine aw_block ?_ | refine aw_exit ?_ | refine aw_cond rfl (fun _ => ?_) (fun hb => absurd hb (by decide)) | refine aw_cond rfl (fun hb => absurd hb (by decide)) (fun _ => ?_) | (refine aw_reg (fun K hK => ?_); simp -implicitDefEqProofs) | (refine aw_drw mixd (fun K hK => ?_); simp -implicitDefEqProofs) | refine hK _ ?_ | refine hK _ _ (by rfl) ?_ | (refine ar_call (cp q ?_); simp -implicitDefEqProofs) | (refine ard_call (dp q ?_); simp -implicitDefEqProofs) | (refine ar_call (cp b ?_); simp -implicitDefEqProofs) | (refine ard_call (dp b ?_); simp -implicitDefEqProofs) | fail)
      refine aw_ret (fin_ret ?_); simp -implicitDefEqProofs [FinP, resV, resT] <;> try rfl
    · exact rstmt_form ts hl (sG ts n) (sG_ok n) i hi hrow _ (by simpa using hb) (if_neg hb).symm
set_option maxRecDepth 100000 in
set_option maxHeartbeats 4000000 in
theorem rblock_top (ts : List Tok) (hl : ts.length ≤ 1000000000) (i : Nat) (hi : i ≤ ts.length) : Row Try.prog 112 [vKs ts, vI i] [] (vG (blG ts (sG ts (ts.length + 1)) i)) [] :=
  rblock_row ts hl (sG ts (ts.length + 1)) (sG_ok _) i (fun j h1 h2 => rstmt_rows ts hl _ j (by omega) h2) i (Nat.le_refl _) hi
end Go.Proofs.Ythkfdheoakbfnaa.am
end
