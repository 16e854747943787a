import Derived.Test.YthkfdheoakbfnaaPkS15
import Derived.Test.YthkfdheoakbfnaaPkS10
import Derived.Test.YthkfdheoakbfnaaPkS9
import Derived.Test.YthkfdheoakbfnaaPkS4
import Derived.Test.YthkfdheoakbfnaaPkS6
import Derived.Test.YthkfdheoakbfnaaPkS11
import Derived.IntWalk
section
namespace Go.Proofs.Ythkfdheoakbfnaa.am
open Go.ChangeShapes Go.WideShapes Go.ChangeAt Go.RowKit
open vt
set_option linter.unusedVariables false
set_option linter.unusedSimpArgs false
section
variable (ts : List Tok) (hl : ts.length ≤ 1000000000)
include hl
set_option maxRecDepth 100000 in
set_option maxHeartbeats 4000000 in
theorem rdecl_row (i : Nat) (hi : i ≤ ts.length) : Row Try.prog 33 [vKs ts, vI i] [] (vG (declG ts i)) [] := by
  have c := word_row ts i wConst
  rw [word_is q_con] at c
  have v := word_row ts i wVar
  rw [word_is q_var] at v
  have p := word_row ts i wPub
  rw [word_is q_pub] at p
  have f := word_row ts i wFn
  rw [word_is q_fn] at f
  have r := word_row ts i wRec
  rw [word_is q_rec] at r
  have w1 : IntKind.i64.wrap ((i : Nat) + 1 : Int) = (i : Nat) + 1 := i64i _ (by omega) (by omega)
  have w2 : IntKind.i64.wrap ((i : Nat) + 2 : Int) = (i : Nat) + 2 := i64i _ (by omega) (by omega)
  have w3 : IntKind.i64.wrap ((i : Nat) + 3 : Int) = (i : Nat) + 3 := i64i _ (by omega) (by omega)
  unfold declG
  by_cases h1 : isK wConst (nxt ts i) = true
  · rw [if_pos h1]
    have s := rshort_row ts hl i (isK_lt h1) true h1 (fun h => by cases h) 31 wConst sIs 3 rfl rfl rfl rfl
    rw [h1] at c
    obtain ⟨⟨⟨nx, nl⟩, nj, ne⟩, hn⟩ : ∃ r, itH ts (R9 ts) i 31 0 [.sgn wConst, .nam, .sgn sIs, .sub 3, .sgn sEnd] i ⟨#[]⟩ [] = r := ⟨_, rfl⟩
    rw [hn] at s ⊢
    clear hn h1
    refine row_of Try.func33 rfl rfl (Nat.le_of_ble_eq_true rfl) ?_
    repeat' (first | refine aw_seq ?_ | refine aw_skip ?_ | refine aw_block ?_ | refine aw_exit ?_ | refine aw_cond rfl (fun _ => ?_) (fun hb => absurd hb (by decide)) | refine aw_cond rfl (fun hb => absurd hb (by decide)) (fun _ => ?_) | (refine aw_reg (fun K hK => ?_); simp -implicitDefEqProofs) | (refine aw_drw mixd (fun K hK => ?_); simp -implicitDefEqProofs) | refine hK _ ?_ | refine hK _ _ (by rfl) ?_ | (refine ar_call (cp c ?_); simp -implicitDefEqProofs) | (refine ard_call (dp c ?_); simp -implicitDefEqProofs) | (refine ar_call (cp v ?_); simp -implicitDefEqProofs) | (refine ard_call (dp v ?_); simp -implicitDefEqProofs) | (refine ar_call (cp s ?_); simp -implicitDefEqProofs) | (refine ard_call (dp s ?_); simp -implicitDefEqProofs) | fail)
    refine aw_ret (fin_ret ?_); simp -implicitDefEqProofs [FinP, resV, resT] <;> try rfl
  rw [if_neg h1]
  rw [show isK wConst (nxt ts i) = false by simpa using h1] at c
  by_cases h2 : isK wVar (nxt ts i) = true
  · rw [if_pos h2]
    have s := rshort_row ts hl i (isK_lt h2) false (by simpa using h1) (fun _ => h2) 32 wVar sCol 1 rfl rfl rfl rfl
    rw [h2] at v
    obtain ⟨⟨⟨nx, nl⟩, nj, ne⟩, hn⟩ : ∃ r, itH ts (R9 ts) i 32 0 [.sgn wVar, .nam, .sgn sCol, .sub 1, .sgn sEnd] i ⟨#[]⟩ [] = r := ⟨_, rfl⟩
    rw [hn] at s ⊢
    clear hn h1 h2
    refine row_of Try.func33 rfl rfl (Nat.le_of_ble_eq_true rfl) ?_
    repeat' (first | refine aw_seq ?_ | refine aw_skip ?_ | refine aw_block ?_ | refine aw_exit ?_ | refine aw_cond rfl (fun _ => ?_) (fun hb => absurd hb (by decide)) | refine aw_cond rfl (fun hb => absurd hb (by decide)) (fun _ => ?_) | (refine aw_reg (fun K hK => ?_); simp -implicitDefEqProofs) | (refine aw_drw mixd (fun K hK => ?_); simp -implicitDefEqProofs) | refine hK _ ?_ | refine hK _ _ (by rfl) ?_ | (refine ar_call (cp c ?_); simp -implicitDefEqProofs) | (refine ard_call (dp c ?_); simp -implicitDefEqProofs) | (refine ar_call (cp v ?_); simp -implicitDefEqProofs) | (refine ard_call (dp v ?_); simp -implicitDefEqProofs) | (refine ar_call (cp s ?_); simp -implicitDefEqProofs) | (refine ard_call (dp s ?_); simp -implicitDefEqProofs) | fail)
    refine aw_ret (fin_ret ?_); simp -implicitDefEqProofs [FinP, resV, resT] <;> try rfl
  rw [if_neg h2]
  rw [show isK wVar (nxt ts i) = false by simpa using h2] at v
  by_cases h3 : isK wPub (nxt ts i) = true
  · rw [if_pos h3]
    have hlt := isK_lt h3
    have s := rfn_row ts hl i (i + 1) 1 (by omega) hlt
    rw [h3] at p
    rw [itG_sgn, if_pos h3]
    obtain ⟨⟨⟨nx, nl⟩, nj, ne⟩, hn⟩ : ∃ r, itH ts (R9 ts) i 33 1 [.sgn wFn, .nam, .sub 4, .sgn sCol, .sub 1, .sub 2] (i + 1) ⟨#[]⟩ [] = r := ⟨_, rfl⟩
    rw [hn] at s ⊢
    clear hn h1 h2 h3
    refine row_of Try.func33 rfl rfl (Nat.le_of_ble_eq_true rfl) ?_
    repeat' (first | refine aw_seq ?_ | refine aw_skip ?_ | refine aw_block ?_ | refine aw_exit ?_ | refine aw_cond rfl (fun _ => ?_) (fun hb => absurd hb (by decide)) | refine aw_cond rfl (fun hb => absurd hb (by decide)) (fun _ => ?_) | (refine aw_reg (fun K hK => ?_); simp -implicitDefEqProofs [w1]) | (refine aw_drw mixd (fun K hK => ?_); simp -implicitDefEqProofs [w1]) | refine hK _ ?_ | refine hK _ _ (by rfl) ?_ | (refine ar_call (cp c ?_); simp -implicitDefEqProofs [w1]) | (refine ard_call (dp c ?_); simp -implicitDefEqProofs [w1]) | (refine ar_call (cp v ?_); simp -implicitDefEqProofs [w1]) | (refine ard_call (dp v ?_); simp -implicitDefEqProofs [w1]) | (refine ar_call (cp p ?_); simp -implicitDefEqProofs [w1]) | (refine ard_call (dp p ?_); simp -implicitDefEqProofs [w1]) | (refine ar_call (cp s ?_); simp -implicitDefEqProofs [w1]) | (refine ard_call (dp s ?_); simp -implicitDefEqProofs [w1]) | fail)
    refine aw_ret (fin_ret ?_); simp -implicitDefEqProofs [FinP, resV, resT] <;> try rfl
  rw [if_neg h3]
  rw [show isK wPub (nxt ts i) = false by simpa using h3] at p
  by_cases h4 : isK wFn (nxt ts i) = true
  · rw [if_pos h4]
    have s := rfn_row ts hl i i 0 (Nat.le_refl i) hi
    rw [h4] at f
    obtain ⟨⟨⟨nx, nl⟩, nj, ne⟩, hn⟩ : ∃ r, itH ts (R9 ts) i 33 0 [.sgn wFn, .nam, .sub 4, .sgn sCol, .sub 1, .sub 2] i ⟨#[]⟩ [] = r := ⟨_, rfl⟩
    rw [hn] at s ⊢
    clear hn h1 h2 h3 h4
    refine row_of Try.func33 rfl rfl (Nat.le_of_ble_eq_true rfl) ?_
    repeat' (first | refine aw_seq ?_ | refine aw_skip ?_ | refine aw_block ?_ | refine aw_exit ?_ | refine aw_cond rfl (fun _ => ?_) (fun hb => absurd hb (by decide)) | refine aw_cond rfl (fun hb => absurd hb (by decide)) (fun _ => ?_) | (refine aw_reg (fun K hK => ?_); simp -implicitDefEqProofs) | (refine aw_drw mixd (fun K hK => ?_); simp -implicitDefEqProofs) | refine hK _ ?_ | refine hK _ _ (by rfl) ?_ | (refine ar_call (cp c ?_); simp -implicitDefEqProofs) | (refine ard_call (dp c ?_); simp -implicitDefEqProofs) | (refine ar_call (cp v ?_); simp -implicitDefEqProofs) | (refine ard_call (dp v ?_); simp -implicitDefEqProofs) | (refine ar_call (cp p ?_); simp -implicitDefEqProofs) | (refine ard_call (dp p ?_); simp -implicitDefEqProofs) | (refine ar_call (cp f ?_); simp -implicitDefEqProofs) | (refine ard_call (dp f ?_); simp -implicitDefEqProofs) | (refine ar_call (cp s ?_); simp -implicitDefEqProofs) | (refine ard_call (dp s ?_); simp -implicitDefEqProofs) | fail)
    refine aw_ret (fin_ret ?_); simp -implicitDefEqProofs [FinP, resV, resT] <;> try rfl
  rw [if_neg h4]
  rw [show isK wFn (nxt ts i) = false by simpa using h4] at f
  by_cases h5 : isK wRec (nxt ts i) = true; rotate_left
  · rw [if_neg h5]
    rw [show isK wRec (nxt ts i) = false by simpa using h5] at r
    have bd := bad_row i
    clear h1 h2 h3 h4 h5
    refine row_of Try.func33 rfl rfl (Nat.le_of_ble_eq_true rfl) ?_
    repeat' (first | refine aw_seq ?_ | refine aw_skip ?_ | refine aw_block ?_ | refine aw_exit ?_ | refine aw_cond rfl (fun _ => ?_) (fun hb => absurd hb (by decide)) | refine aw_cond rfl (fun hb => absurd hb (by decide)) (fun _ => ?_) | (refine aw_reg (fun K hK => ?_); simp -implicitDefEqProofs) | (refine aw_drw mixd (fun K hK => ?_); simp -implicitDefEqProofs) | refine hK _ ?_ | refine hK _ _ (by rfl) ?_ | (refine ar_call (cp c ?_); simp -implicitDefEqProofs) | (refine ard_call (dp c ?_); simp -implicitDefEqProofs) | (refine ar_call (cp v ?_); simp -implicitDefEqProofs) | (refine ard_call (dp v ?_); simp -implicitDefEqProofs) | (refine ar_call (cp p ?_); simp -implicitDefEqProofs) | (refine ard_call (dp p ?_); simp -implicitDefEqProofs) | (refine ar_call (cp f ?_); simp -implicitDefEqProofs) | (refine ard_call (dp f ?_); simp -implicitDefEqProofs) | (refine ar_call (cp r ?_); simp -implicitDefEqProofs) | (refine ard_call (dp r ?_); simp -implicitDefEqProofs) | (refine ar_call (cp bd ?_); simp -implicitDefEqProofs) | (refine ard_call (dp bd ?_); simp -implicitDefEqProofs) | fail)
    refine aw_ret (fin_ret ?_); simp -implicitDefEqProofs [FinP, resV, resT, bad7, z0] <;> try rfl
  rw [if_pos h5]
  have hlt := isK_lt h5
  rw [h5] at r
  clear h1 h2 h3 h4 h5
  unfold recG
  have o := now_row ts (i + 1)
  by_cases h6 : (nxt ts (i + 1)).k = 1; rotate_left
  · rw [if_neg h6]
    have bd := bad_row (i + 1)
    obtain ⟨⟨xk, xn, xs, xf, xt⟩, hx⟩ : ∃ x, nxt ts (i + 1) = x := ⟨_, rfl⟩
    rw [hx] at o h6
    dsimp only at h6
    clear hx
    refine row_of Try.func33 rfl rfl (Nat.le_of_ble_eq_true rfl) ?_
    repeat' (first | refine aw_seq ?_ | refine aw_skip ?_ | refine aw_block ?_ | refine aw_exit ?_ | refine aw_cond rfl (fun _ => ?_) (fun hb => absurd hb (by decide)) | refine aw_cond rfl (fun hb => absurd hb (by decide)) (fun _ => ?_) | (refine aw_reg (fun K hK => ?_); simp -implicitDefEqProofs [h6, w1, w2, w3]) | (refine aw_drw mixd (fun K hK => ?_); simp -implicitDefEqProofs [h6, w1, w2, w3]) | refine hK _ ?_ | refine hK _ _ (by rfl) ?_ | (refine ar_call (cp c ?_); simp -implicitDefEqProofs [h6, w1, w2, w3]) | (refine ard_call (dp c ?_); simp -implicitDefEqProofs [h6, w1, w2, w3]) | (refine ar_call (cp v ?_); simp -implicitDefEqProofs [h6, w1, w2, w3]) | (refine ard_call (dp v ?_); simp -implicitDefEqProofs [h6, w1, w2, w3]) | (refine ar_call (cp p ?_); simp -implicitDefEqProofs [h6, w1, w2, w3]) | (refine ard_call (dp p ?_); simp -implicitDefEqProofs [h6, w1, w2, w3]) | (refine ar_call (cp f ?_); simp -implicitDefEqProofs [h6, w1, w2, w3]) | (refine ard_call (dp f ?_); simp -implicitDefEqProofs [h6, w1, w2, w3]) | (refine ar_call (cp r ?_); simp -implicitDefEqProofs [h6, w1, w2, w3]) | (refine ard_call (dp r ?_); simp -implicitDefEqProofs [h6, w1, w2, w3]) | (refine ar_call (cp o ?_); simp -implicitDefEqProofs [h6, w1, w2, w3]) | (refine ard_call (dp o ?_); simp -implicitDefEqProofs [h6, w1, w2, w3]) | (refine ar_call (cp bd ?_); simp -implicitDefEqProofs [h6, w1, w2, w3]) | (refine ard_call (dp bd ?_); simp -implicitDefEqProofs [h6, w1, w2, w3]) | fail)
    refine aw_ret (fin_ret ?_); simp -implicitDefEqProofs [FinP, resV, resT, bad7, z0] <;> try rfl
  rw [if_pos h6]
  obtain ⟨x, hx, hxn, hxk⟩ := kind_at h6 (by decide)
  have hx' := (List.getElem?_eq_some_iff.1 hx).2
  have hlt1 := (List.getElem?_eq_some_iff.1 hx).1
  rw [hxn] at o ⊢
  obtain ⟨xk, xn, xs, xf, xt⟩ := x
  dsimp only at hxk ⊢
  subst hxk
  clear h6 hxn
  have tn : ((i : Nat) + 1 : Int).toNat = i + 1 := by omega
  have t0 : ((0 : Int) ≤ (i : Nat) + 1) = True := eq_true (by omega)
  have s := sign_row ts (i + 2) sBra
  rw [sign_is q_bra] at s
  by_cases h7 : isK sBra (nxt ts (i + 2)) = true; rotate_left
  · rw [if_neg h7]
    rw [show isK sBra (nxt ts (i + 2)) = false by simpa using h7] at s
    have bd := bad_row (i + 2)
    clear h7
    refine row_of Try.func33 rfl rfl (Nat.le_of_ble_eq_true rfl) ?_
    repeat' (first | refine aw_seq ?_ | refine aw_skip ?_ | refine aw_block ?_ | refine aw_exit ?_ | refine aw_cond rfl (fun _ => ?_) (fun hb => absurd hb (by decide)) | refine aw_cond rfl (fun hb => absurd hb (by decide)) (fun _ => ?_) | (refine aw_reg (fun K hK => ?_); simp -implicitDefEqProofs [w1, w2, w3]) | (refine aw_drw mixd (fun K hK => ?_); simp -implicitDefEqProofs [w1, w2, w3]) | refine hK _ ?_ | refine hK _ _ (by rfl) ?_ | (refine ar_call (cp c ?_); simp -implicitDefEqProofs [w1, w2, w3]) | (refine ard_call (dp c ?_); simp -implicitDefEqProofs [w1, w2, w3]) | (refine ar_call (cp v ?_); simp -implicitDefEqProofs [w1, w2, w3]) | (refine ard_call (dp v ?_); simp -implicitDefEqProofs [w1, w2, w3]) | (refine ar_call (cp p ?_); simp -implicitDefEqProofs [w1, w2, w3]) | (refine ard_call (dp p ?_); simp -implicitDefEqProofs [w1, w2, w3]) | (refine ar_call (cp f ?_); simp -implicitDefEqProofs [w1, w2, w3]) | (refine ard_call (dp f ?_); simp -implicitDefEqProofs [w1, w2, w3]) | (refine ar_call (cp r ?_); simp -implicitDefEqProofs [w1, w2, w3]) | (refine ard_call (dp r ?_); simp -implicitDefEqProofs [w1, w2, w3]) | (refine ar_call (cp o ?_); simp -implicitDefEqProofs [w1, w2, w3]) | (refine ard_call (dp o ?_); simp -implicitDefEqProofs [w1, w2, w3]) | (refine ar_call (cp s ?_); simp -implicitDefEqProofs [w1, w2, w3]) | (refine ard_call (dp s ?_); simp -implicitDefEqProofs [w1, w2, w3]) | (refine ar_call (cp bd ?_); simp -implicitDefEqProofs [w1, w2, w3]) | (refine ard_call (dp bd ?_); simp -implicitDefEqProofs [w1, w2, w3]) | fail)
    refine aw_ret (fin_ret ?_); simp -implicitDefEqProofs [FinP, resV, resT, bad7, z0] <;> try rfl
  rw [if_pos h7]
  have hlt2 := isK_lt h7
  rw [h7] at s
  have fl := rfields_row ts hl (i + 3) (by omega)
  have hok := lpF_ok (ts := ts) (ts.length + 1) (i + 3) [] (by omega)
  obtain ⟨⟨d1, d2, d3⟩, hd⟩ : ∃ r, lpF ts (ts.length + 1) (i + 3) [] = r := ⟨_, rfl⟩
  rw [hd] at fl hok ⊢
  have hle := hok.le
  dsimp only at hle
  clear h7 hd
  by_cases h8 : d3 = 0; rotate_left
  · rw [show finC ts i 30 xs (d1, d2, d3) = (z0, d2, d3) from if_pos h8]
    clear hok
    refine row_of Try.func33 rfl rfl (Nat.le_of_ble_eq_true rfl) ?_
    repeat' (first | refine aw_seq ?_ | refine aw_skip ?_ | refine aw_block ?_ | refine aw_exit ?_ | refine aw_cond rfl (fun _ => ?_) (fun hb => absurd hb (by decide)) | refine aw_cond rfl (fun hb => absurd hb (by decide)) (fun _ => ?_) | (refine aw_reg (fun K hK => ?_); simp -implicitDefEqProofs [w1, w2, w3, h8]) | (refine aw_drw mixd (fun K hK => ?_); simp -implicitDefEqProofs [w1, w2, w3, h8]) | refine hK _ ?_ | refine hK _ _ (by rfl) ?_ | (refine ar_call (cp c ?_); simp -implicitDefEqProofs [w1, w2, w3, h8]) | (refine ard_call (dp c ?_); simp -implicitDefEqProofs [w1, w2, w3, h8]) | (refine ar_call (cp v ?_); simp -implicitDefEqProofs [w1, w2, w3, h8]) | (refine ard_call (dp v ?_); simp -implicitDefEqProofs [w1, w2, w3, h8]) | (refine ar_call (cp p ?_); simp -implicitDefEqProofs [w1, w2, w3, h8]) | (refine ard_call (dp p ?_); simp -implicitDefEqProofs [w1, w2, w3, h8]) | (refine ar_call (cp f ?_); simp -implicitDefEqProofs [w1, w2, w3, h8]) | (refine ard_call (dp f ?_); simp -implicitDefEqProofs [w1, w2, w3, h8]) | (refine ar_call (cp r ?_); simp -implicitDefEqProofs [w1, w2, w3, h8]) | (refine ard_call (dp r ?_); simp -implicitDefEqProofs [w1, w2, w3, h8]) | (refine ar_call (cp o ?_); simp -implicitDefEqProofs [w1, w2, w3, h8]) | (refine ard_call (dp o ?_); simp -implicitDefEqProofs [w1, w2, w3, h8]) | (refine ar_call (cp s ?_); simp -implicitDefEqProofs [w1, w2, w3, h8]) | (refine ard_call (dp s ?_); simp -implicitDefEqProofs [w1, w2, w3, h8]) | (refine ar_call (cp fl ?_); simp -implicitDefEqProofs [w1, w2, w3, h8]) | (refine ard_call (dp fl ?_); simp -implicitDefEqProofs [w1, w2, w3, h8]) | fail)
    refine aw_ret (fin_ret ?_); simp -implicitDefEqProofs [FinP, resV, resT, z0] <;> try rfl
  subst h8
  have m := rmk_row ts hl i d2 30 0 xs d1 (by omega) hle.2
  rw [show finC ts i 30 xs (d1, d2, 0) = mk7 ts i d2 30 0 xs d1 from if_neg (by simp)]
  clear hok
  refine row_of Try.func33 rfl rfl (Nat.le_of_ble_eq_true rfl) ?_
  repeat' (first | refine aw_seq ?_ | refine aw_skip ?_ | refine aw_block ?_ | refine aw_exit ?_ | refine aw_cond rfl (fun _ => ?_) (fun hb => absurd hb (by decide)) | refine aw_cond rfl (fun hb => absurd hb (by decide)) (fun _ => ?_) | (refine aw_reg (fun K hK => ?_); simp -implicitDefEqProofs [w1, w2, w3, hlt1, hx, hx', tn, t0]) | (refine aw_drw mixd (fun K hK => ?_); simp -implicitDefEqProofs [w1, w2, w3, hlt1, hx, hx', tn, t0]) | refine hK _ ?_ | refine hK _ _ (by rfl) ?_ | (refine ar_call (cp c ?_); simp -implicitDefEqProofs [w1, w2, w3, hlt1, hx, hx', tn, t0]) | (refine ard_call (dp c ?_); simp -implicitDefEqProofs [w1, w2, w3, hlt1, hx, hx', tn, t0]) | (refine ar_call (cp v ?_); simp -implicitDefEqProofs [w1, w2, w3, hlt1, hx, hx', tn, t0]) | (refine ard_call (dp v ?_); simp -implicitDefEqProofs [w1, w2, w3, hlt1, hx, hx', tn, t0]) | (refine ar_call (cp p ?_); simp -implicitDefEqProofs [w1, w2, w3, hlt1, hx, hx', tn, t0]) | (refine ard_call (dp p ?_); simp -implicitDefEqProofs [w1, w2, w3, hlt1, hx, hx', tn, t0]) | (refine ar_call (cp f ?_); simp -implicitDefEqProofs [w1, w2, w3, hlt1, hx, hx', tn, t0]) | (refine ard_call (dp f ?_); simp -implicitDefEqProofs [w1, w2, w3, hlt1, hx, hx', tn, t0]) | (refine ar_call (cp r ?_); simp -implicitDefEqProofs [w1, w2, w3, hlt1, hx, hx', tn, t0]) | (refine ard_call (dp r ?_); simp -implicitDefEqProofs [w1, w2, w3, hlt1, hx, hx', tn, t0]) | (refine ar_call (cp o ?_); simp -implicitDefEqProofs [w1, w2, w3, hlt1, hx, hx', tn, t0]) | (refine ard_call (dp o ?_); simp -implicitDefEqProofs [w1, w2, w3, hlt1, hx, hx', tn, t0]) | (refine ar_call (cp s ?_); simp -implicitDefEqProofs [w1, w2, w3, hlt1, hx, hx', tn, t0]) | (refine ard_call (dp s ?_); simp -implicitDefEqProofs [w1, w2, w3, hlt1, hx, hx', tn, t0]) | (refine ar_call (cp fl ?_); simp -implicitDefEqProofs [w1, w2, w3, hlt1, hx, hx', tn, t0]) | (refine ard_call (dp fl ?_); simp -implicitDefEqProofs [w1, w2, w3, hlt1, hx, hx', tn, t0]) | (refine ar_call (cp m ?_); simp -implicitDefEqProofs [w1, w2, w3, hlt1, hx, hx', tn, t0]) | (refine ard_call (dp m ?_); simp -implicitDefEqProofs [w1, w2, w3, hlt1, hx, hx', tn, t0]) | fail)
  refine aw_ret (fin_ret ?_); simp -implicitDefEqProofs [FinP, resV, resT, mk7] <;> try rfl
end
end Go.Proofs.Ythkfdheoakbfnaa.am
end
section
namespace Go.Proofs.Ythkfdheoakbfnaa.am
open Go.ChangeShapes Go.WideShapes Go.ChangeAt Go.RowKit
open vt
set_option linter.unusedVariables false
set_option linter.unusedSimpArgs false
set_option maxRecDepth 100000 in
set_option maxHeartbeats 4000000 in
theorem rdepth_row (t : VT) : t.size ≤ 1000000 → Row Try.prog 34 [vT t] [] (vI (dpt t : Nat)) [] := by
  induction t using Tr.ind with
  | h x l ih =>
  intro hs
  have hlen : l.length ≤ 1000000 := by have := Tr.len_size (x := x) (l := l); omega
  have hd : dpt (.mk x l) = dmx l l.length + 1 := by rw [dpt_mk]; unfold dmx; rw [List.take_length]
  rw [hd]
  have hmx : ∀ k, dmx l k ≤ 1000000 := fun k => by have := dmx_le (x := x) (l := l) k; omega
  refine row_of Try.func34 rfl rfl (Nat.le_of_ble_eq_true rfl) ?_
  repeat (first | refine aw_seq ?_ | refine aw_skip ?_ | refine aw_block ?_ | refine aw_exit ?_ | refine aw_cond rfl (fun _ => ?_) (fun hb => absurd hb (by decide)) | refine aw_cond rfl (fun hb => absurd hb (by decide)) (fun _ => ?_) | (refine aw_reg (fun K hK => ?_); simp -implicitDefEqProofs; refine hK _ ?_) | (refine aw_drw mixd (fun K hK => ?_); simp -implicitDefEqProofs; refine hK _ _ (by rfl) ?_) | fail)
  refine aw_lp (ι := Nat) (fun k => mkSt [(1, .v (.c (.ptr 0 0))), (3, vI (dmx l k : Nat)), (4, vI (k : Nat))] [some (.box ((tc (.mk x l)).map .pv))]) (fun k => k ≤ l.length) (fun k => l.length - k) 0 (Nat.zero_le _) (cov_intro [0] (by simp -implicitDefEqProofs [dmx]) (by simp -implicitDefEqProofs [dmx]) (by decide) rfl (by simp)) (fun Z hI k hk => ?_)
  by_cases hkl : k < l.length; rotate_left
  · have : k = l.length := by omega
    subst this
    have w3 : IntKind.i64.wrap ((dmx l l.length : Nat) + 1 : Int) = (dmx l l.length : Nat) + 1 := i64i _ (by have := hmx l.length; omega) (by have := hmx l.length; omega)
    repeat (first | refine aw_seq ?_ | refine aw_skip ?_ | refine aw_block ?_ | refine aw_exit ?_ | refine aw_cond rfl (fun _ => ?_) (fun hb => absurd hb (by decide)) | refine aw_cond rfl (fun hb => absurd hb (by decide)) (fun _ => ?_) | (refine aw_reg (fun K hK => ?_); simp -implicitDefEqProofs [hkl, w3]; refine hK _ ?_) | (refine aw_drw mixd (fun K hK => ?_); simp -implicitDefEqProofs [hkl, w3]; refine hK _ _ (by rfl) ?_) | fail)
    refine aw_ret (fin_ret ?_); simp -implicitDefEqProofs [FinP, resV, resT] <;> try rfl
  obtain ⟨y, hy⟩ : ∃ y, l[k]? = some y := ⟨_, List.getElem?_eq_getElem hkl⟩
  have hy' := (List.getElem?_eq_some_iff.1 hy).2
  have hm := List.mem_of_getElem? hy
  have hq := ih y hm (by have := Tr.size_at (x := x) hy; omega)
  have hn := dmx_succ hy
  obtain ⟨p, hp⟩ : ∃ p, dmx l k = p := ⟨_, rfl⟩
  obtain ⟨d, hdd⟩ : ∃ d, dpt y = d := ⟨_, rfl⟩
  rw [hp, hdd] at hn
  rw [hdd] at hq
  rw [hp]
  obtain ⟨⟨yk, yn, ys, yf, yt⟩, yl⟩ := y
  have w2 : IntKind.i64.wrap ((k : Nat) + 1 : Int) = (k : Nat) + 1 := i64i _ (by omega) (by omega)
  by_cases hlt : p < d
  · have hlt' : (p : Int) < d := by omega
    rw [Nat.max_eq_right (by omega)] at hn
    clear ih hp hdd hm hd hmx
    repeat' (first | refine aw_seq ?_ | refine aw_skip ?_ | refine aw_block ?_ | refine aw_exit ?_ | refine aw_cond rfl (fun _ => ?_) (fun hb => absurd hb (by decide)) | refine aw_cond rfl (fun hb => absurd hb (by decide)) (fun _ => ?_) | (refine aw_reg (fun K hK => ?_); simp -implicitDefEqProofs [hkl, hy, hy', hlt, hlt', w2]) | (refine aw_drw mixd (fun K hK => ?_); simp -implicitDefEqProofs [hkl, hy, hy', hlt, hlt', w2]) | refine hK _ ?_ | refine hK _ _ (by rfl) ?_ | (refine ar_call (cp hq ?_); simp -implicitDefEqProofs [hkl, hy, hy', hlt, hlt', w2]) | (refine ard_call (dp hq ?_); simp -implicitDefEqProofs [hkl, hy, hy', hlt, hlt', w2]) | fail)
    refine ⟨k + 1, by omega, (by dsimp only; omega), ?_⟩; rw [hI]; exact cov_intro [0] (by simp -implicitDefEqProofs [hn]) (by simp -implicitDefEqProofs [hn]) (by decide) rfl (by simp)
  · have hlt' : ¬ (p : Int) < d := by omega
    rw [Nat.max_eq_left (by omega)] at hn
    clear ih hp hdd hm hd hmx
    repeat' (first | refine aw_seq ?_ | refine aw_skip ?_ | refine aw_block ?_ | refine aw_exit ?_ | refine aw_cond rfl (fun _ => ?_) (fun hb => absurd hb (by decide)) | refine aw_cond rfl (fun hb => absurd hb (by decide)) (fun _ => ?_) | (refine aw_reg (fun K hK => ?_); simp -implicitDefEqProofs [hkl, hy, hy', hlt, hlt', w2]) | (refine aw_drw mixd (fun K hK => ?_); simp -implicitDefEqProofs [hkl, hy, hy', hlt, hlt', w2]) | refine hK _ ?_ | refine hK _ _ (by rfl) ?_ | (refine ar_call (cp hq ?_); simp -implicitDefEqProofs [hkl, hy, hy', hlt, hlt', w2]) | (refine ard_call (dp hq ?_); simp -implicitDefEqProofs [hkl, hy, hy', hlt, hlt', w2]) | fail)
    refine ⟨k + 1, by omega, (by dsimp only; omega), ?_⟩; rw [hI]; exact cov_intro [0] (by simp -implicitDefEqProofs [hn]) (by simp -implicitDefEqProofs [hn]) (by decide) rfl (by simp)
set_option maxRecDepth 100000 in
set_option maxHeartbeats 4000000 in
theorem ruparse_row (s : ByteArray) (hs : s.size ≤ 8000) : Row Try.prog 10 [vS s] [] (vT3i (unitG s)) [] := by
  have tk := rtokens_row s (by omega)
  unfold unitG
  by_cases h0 : (tokG s).2.2 = 0; rotate_left
  · rw [if_pos h0]
    obtain ⟨⟨ts, p, e⟩, ht⟩ : ∃ r, tokG s = r := ⟨_, rfl⟩
    rw [ht] at tk h0 ⊢
    dsimp only at h0 ⊢
    clear ht
    refine row_of Try.func10 rfl rfl (Nat.le_of_ble_eq_true rfl) ?_
    repeat' (first | refine aw_seq ?_ | refine aw_skip ?_ | refine aw_block ?_ | refine aw_exit ?_ | refine aw_cond rfl (fun _ => ?_) (fun hb => absurd hb (by decide)) | refine aw_cond rfl (fun hb => absurd hb (by decide)) (fun _ => ?_) | (refine aw_reg (fun K hK => ?_); simp -implicitDefEqProofs [h0]) | (refine aw_drw mixd (fun K hK => ?_); simp -implicitDefEqProofs [h0]) | refine hK _ ?_ | refine hK _ _ (by rfl) ?_ | (refine ar_call (cp tk ?_); simp -implicitDefEqProofs [h0]) | (refine ard_call (dp tk ?_); simp -implicitDefEqProofs [h0]) | fail)
    refine aw_ret (fin_ret ?_); simp -implicitDefEqProofs [FinP, resV, resT, z0] <;> try rfl
  rw [if_neg (by simp [h0])]
  have hok := tok_ok h0
  obtain ⟨⟨ts, p, e⟩, ht⟩ : ∃ r, tokG s = r := ⟨_, rfl⟩
  rw [ht] at tk h0 hok ⊢
  dsimp only at h0 hok ⊢
  subst h0
  clear ht
  have hlen := tok_len hok
  unfold modG
  have hsz := mod_sz (ts := ts) s (ts.length + 1)
  have h0 : InvU ts (lpU ts (ts.length + 1) 0 []) (ts.length + 1, 0, []) := ⟨rfl, by dsimp only; omega, by dsimp only; omega, by simp, by simp [sm]⟩
  obtain ⟨C, hC⟩ : ∃ C, lpU ts (ts.length + 1) 0 [] = C := ⟨_, rfl⟩
  rw [hC] at hsz h0 ⊢
  clear hC
  refine row_of Try.func10 rfl rfl (Nat.le_of_ble_eq_true rfl) ?_
  repeat' (first | refine aw_seq ?_ | refine aw_skip ?_ | refine aw_block ?_ | refine aw_exit ?_ | refine aw_cond rfl (fun _ => ?_) (fun hb => absurd hb (by decide)) | refine aw_cond rfl (fun hb => absurd hb (by decide)) (fun _ => ?_) | (refine aw_reg (fun K hK => ?_); simp -implicitDefEqProofs) | (refine aw_drw mixd (fun K hK => ?_); simp -implicitDefEqProofs) | refine hK _ ?_ | refine hK _ _ (by rfl) ?_ | (refine ar_call (cp tk ?_); simp -implicitDefEqProofs) | (refine ard_call (dp tk ?_); simp -implicitDefEqProofs) | fail)
  refine aw_lp (ι := Nat × Nat × List VT) (fun x => mkSt [(0, vS s), (2, .v (.c (.ptr 0 0))), (3, vI 0), (4, vI 0), (5, vKs ts), (8, .v (.c (.row 1 6 (x.2.2.map tc)))), (9, vI (x.2.1 : Nat))] [some zTb, some (.row 25 6)]) (InvU ts C) (fun x => x.1) (ts.length + 1, 0, []) h0 (cov_intro [0, 21] (by simp -implicitDefEqProofs) (by simp -implicitDefEqProofs) (by decide) rfl (by simp)) (fun Z hI x hx => ?_)
  clear h0 tk
  obtain ⟨m, i, acc⟩ := x
  have hle := hx.le
  have hfu := hx.fuel
  have hfew := hx.few
  dsimp only at hle hfu hfew ⊢
  obtain ⟨m, rfl⟩ : ∃ k, m = k + 1 := ⟨m - 1, by omega⟩
  have wl : IntKind.i64.wrap ((ts.length : Int) - 1) = (ts.length : Int) - 1 := i64i _ (by omega) (by omega)
  by_cases hnl : ts.length ≤ i + 1
  · have y1 := hx.eq
    dsimp only at y1
    rw [lpU, if_pos hnl] at y1
    subst y1
    have g1 : ¬ (i : Int) < (ts.length : Int) - 1 := by omega
    dsimp only at hsz ⊢
    rw [if_neg (by simp)]
    have dep := rdepth_row (modT s acc) (by omega)
    obtain ⟨d, hd⟩ : ∃ d, dpt (modT s acc) = d := ⟨_, rfl⟩
    rw [hd] at dep ⊢
    unfold modT at dep ⊢
    clear hx hsz hok
    by_cases h6 : 64 < acc.length
    · rw [if_pos h6]
      have h6' : (64 : Int) < acc.length := by omega
      repeat' (first | refine aw_seq ?_ | refine aw_skip ?_ | refine aw_block ?_ | refine aw_exit ?_ | refine aw_cond rfl (fun _ => ?_) (fun hb => absurd hb (by decide)) | refine aw_cond rfl (fun hb => absurd hb (by decide)) (fun _ => ?_) | (refine aw_reg (fun K hK => ?_); simp -implicitDefEqProofs [wl, g1, h6, h6']) | (refine aw_drw mixd (fun K hK => ?_); simp -implicitDefEqProofs [wl, g1, h6, h6']) | refine hK _ ?_ | refine hK _ _ (by rfl) ?_ | (refine ar_call (cp dep ?_); simp -implicitDefEqProofs [wl, g1, h6, h6']) | (refine ard_call (dp dep ?_); simp -implicitDefEqProofs [wl, g1, h6, h6']) | fail)
      refine aw_ret (fin_ret ?_); simp -implicitDefEqProofs [FinP, resV, resT, z0] <;> try rfl
    rw [if_neg h6]
    have h6' : ¬ (64 : Int) < acc.length := by omega
    by_cases h7 : 64 < d
    · rw [if_pos h7]
      have h7' : (64 : Int) < d := by omega
      repeat' (first | refine aw_seq ?_ | refine aw_skip ?_ | refine aw_block ?_ | refine aw_exit ?_ | refine aw_cond rfl (fun _ => ?_) (fun hb => absurd hb (by decide)) | refine aw_cond rfl (fun hb => absurd hb (by decide)) (fun _ => ?_) | (refine aw_reg (fun K hK => ?_); simp -implicitDefEqProofs [wl, g1, h6, h6', h7, h7']) | (refine aw_drw mixd (fun K hK => ?_); simp -implicitDefEqProofs [wl, g1, h6, h6', h7, h7']) | refine hK _ ?_ | refine hK _ _ (by rfl) ?_ | (refine ar_call (cp dep ?_); simp -implicitDefEqProofs [wl, g1, h6, h6', h7, h7']) | (refine ard_call (dp dep ?_); simp -implicitDefEqProofs [wl, g1, h6, h6', h7, h7']) | fail)
      refine aw_ret (fin_ret ?_); simp -implicitDefEqProofs [FinP, resV, resT, z0] <;> try rfl
    · rw [if_neg h7]
      have h7' : ¬ (64 : Int) < d := by omega
      repeat' (first | refine aw_seq ?_ | refine aw_skip ?_ | refine aw_block ?_ | refine aw_exit ?_ | refine aw_cond rfl (fun _ => ?_) (fun hb => absurd hb (by decide)) | refine aw_cond rfl (fun hb => absurd hb (by decide)) (fun _ => ?_) | (refine aw_reg (fun K hK => ?_); simp -implicitDefEqProofs [wl, g1, h6, h6', h7, h7']) | (refine aw_drw mixd (fun K hK => ?_); simp -implicitDefEqProofs [wl, g1, h6, h6', h7, h7']) | refine hK _ ?_ | refine hK _ _ (by rfl) ?_ | (refine ar_call (cp dep ?_); simp -implicitDefEqProofs [wl, g1, h6, h6', h7, h7']) | (refine ard_call (dp dep ?_); simp -implicitDefEqProofs [wl, g1, h6, h6', h7, h7']) | fail)
      refine aw_ret (fin_ret ?_); simp -implicitDefEqProofs [FinP, resV, resT] <;> try rfl
  · have g1 : (i : Int) < (ts.length : Int) - 1 := by omega
    have dc := rdecl_row ts (by omega) i (by omega)
    have ha := decl_ahead hok hle
    have y1 := hx.eq
    dsimp only at y1
    rw [lpU, if_neg hnl] at y1
    have nx := fun h => invU_next hok hx hnl h
    obtain ⟨⟨⟨px, pl⟩, j, e2⟩, hd⟩ : ∃ r, declG ts i = r := ⟨_, rfl⟩
    rw [hd] at dc ha nx y1
    dsimp only at ha nx y1
    by_cases he : e2 = 0; rotate_left
    · rw [if_pos he] at y1
      subst y1
      have hjl : j < ts.length := by omega
      obtain ⟨y, hy⟩ : ∃ y, ts[j]? = some y := ⟨_, List.getElem?_eq_getElem hjl⟩
      have hy' := (List.getElem?_eq_some_iff.1 hy).2
      rw [if_pos he]
      rw [show frT ts j = y.f by unfold frT; rw [nxt_some hy]]
      clear hx nx hok hsz hd
      repeat' (first | refine aw_seq ?_ | refine aw_skip ?_ | refine aw_block ?_ | refine aw_exit ?_ | refine aw_cond rfl (fun _ => ?_) (fun hb => absurd hb (by decide)) | refine aw_cond rfl (fun hb => absurd hb (by decide)) (fun _ => ?_) | (refine aw_reg (fun K hK => ?_); simp -implicitDefEqProofs [wl, g1, he, hjl, hy, hy']) | (refine aw_drw mixd (fun K hK => ?_); simp -implicitDefEqProofs [wl, g1, he, hjl, hy, hy']) | refine hK _ ?_ | refine hK _ _ (by rfl) ?_ | (refine ar_call (cp dc ?_); simp -implicitDefEqProofs [wl, g1, he, hjl, hy, hy']) | (refine ard_call (dp dc ?_); simp -implicitDefEqProofs [wl, g1, he, hjl, hy, hy']) | fail)
      refine aw_ret (fin_ret ?_); simp -implicitDefEqProofs [FinP, resV, resT, z0] <;> try rfl
    · subst he
      have nx := nx rfl
      have b1 : (acc.length + 1) * 72 ≤ 140737488355328 := by omega
      have b2 : acc.length + 1 ≤ 140737488355328 := by omega
      clear hx hok hsz hd y1
      repeat' (first | refine aw_seq ?_ | refine aw_skip ?_ | refine aw_block ?_ | refine aw_exit ?_ | refine aw_cond rfl (fun _ => ?_) (fun hb => absurd hb (by decide)) | refine aw_cond rfl (fun hb => absurd hb (by decide)) (fun _ => ?_) | (refine aw_reg (fun K hK => ?_); simp -implicitDefEqProofs [wl, g1, b1, b2]) | (refine aw_drw mixd (fun K hK => ?_); simp -implicitDefEqProofs [wl, g1, b1, b2]) | refine hK _ ?_ | refine hK _ _ (by rfl) ?_ | (refine ar_call (cp dc ?_); simp -implicitDefEqProofs [wl, g1, b1, b2]) | (refine ard_call (dp dc ?_); simp -implicitDefEqProofs [wl, g1, b1, b2]) | fail)
      refine ⟨(_, _, _), nx, (by dsimp only; omega), ?_⟩; rw [hI]; exact cov_intro [0, 26] (by simp -implicitDefEqProofs) (by simp -implicitDefEqProofs) (by decide) rfl (by simp)
end Go.Proofs.Ythkfdheoakbfnaa.am
end
section
namespace Go.Proofs.Ythkfdheoakbfnaa.am
open Go.ChangeShapes Go.WideShapes Go.ChangeAt Go.RowKit
open vt
set_option linter.unusedVariables false
set_option linter.unusedSimpArgs false
theorem unit_sz13 (s : ByteArray) (hs : s.size ≤ 8000) : (unitG s).1.size ≤ 9000 := by
  have hz : Tr.size z0 = 1 := by simp [z0, Tr.size_mk]
  unfold unitG
  split
  · rw [hz]; decide
  · rename_i h
    have h : (tokG s).2.2 = 0 := by simpa using h
    have h1 := tok_len (tok_ok h)
    have h2 := mod_sz (ts := (tokG s).1) s ((tokG s).1.length + 1)
    unfold modG
    split
    · rw [hz]; decide
    split
    · rw [hz]; decide
    split
    · rw [hz]; decide
    · dsimp only; omega
theorem unit_knd (s : ByteArray) {x : Lab} {l : List VT} (h : (unitG s).1 = .mk x l) : ∀ d ∈ l, kndD d := fun d hd => by
  obtain ⟨W, hW⟩ := unit_dx s h d hd
  unfold kndD
  cases hW with
  | rec' x l Ws h => exact .inl h
  | dfn x a al A h => exact .inr (.inl h)
  | var' x a al A h => exact .inr (.inr (.inl h))
  | fn x p r b pl rl bl Ws R B h => exact .inr (.inr (.inr h))
  | pub x p r b pl rl bl Ws R B h => exact .inr (.inr (.inr h))
theorem sum_le13 : ∀ {l m : List VT}, l.length = m.length → (∀ (i : Nat) a b, l[i]? = some a → m[i]? = some b → b.size ≤ a.size) → (m.map Tr.size).sum ≤ (l.map Tr.size).sum
  | [], [], _, _ => Nat.le_refl _
  | a :: l, b :: m, h, hq => by
    have h0 := hq 0 a b rfl rfl
    have ih := sum_le13 (l := l) (m := m) (by simpa using h) (fun i a b h1 h2 => hq (i + 1) a b (by simpa using h1) (by simpa using h2))
    simp only [List.map_cons, List.sum_cons]
    omega
  | [], _ :: _, h, _ => by simp at h
  | _ :: _, [], h, _ => by simp at h
theorem mk_sz {x y : Lab} {l m : List VT} (h : l.length = m.length) (hq : ∀ (i : Nat) a b, l[i]? = some a → m[i]? = some b → b.size ≤ a.size) : Tr.size (Tr.mk y m) ≤ Tr.size (Tr.mk x l) := by
  rw [Tr.size_mk, Tr.size_mk]
  have := sum_le13 h hq
  omega
theorem z0T_sz (t : VT) : Tr.size z0T ≤ t.size := by
  have := Tr.size_pos t
  have : Tr.size z0T = 1 := by simp [z0T, Tr.size_mk]
  omega
theorem any_sz (ml : List VT) (t : VT) : ∀ L, (anyT ml t L).t.size ≤ t.size := by
  induction t using Tr.ind with
  | h x l ih =>
  intro L
  by_cases he : (anyT ml (.mk x l) L).er = 0
  · rw [anyT_mk] at he ⊢
    split
    · rename_i c
      rw [if_pos c] at he
      have one : ∀ y : Lab, Tr.size (Tr.mk y ([] : List VT)) ≤ Tr.size (Tr.mk x l) := fun y => by rw [Tr.size_mk, Tr.size_mk]; simp
      unfold namS
      split
      · exact one _
      · split
        · exact one _
        · split
          · exact one _
          · exact z0T_sz _
    · rename_i c
      rw [if_neg c] at he
      split
      · exact z0T_sz _
      · rename_i d
        rw [if_neg d] at he
        obtain ⟨r, e1, e2, e3⟩ := seqT_all ml x L (Q := fun a b => b.size ≤ a.size) l 0 L [] (fun y hy L' _ => ih y hy L') he
        rw [e1]
        exact mk_sz e2 e3
  · rw [any_z0 ml _ L he]; exact z0T_sz _
theorem prt_sz (ml : List VT) (keep : Bool) : ∀ (l : List VT) (seen : List ByteArray), (prtS ml keep seen l).2.2 = 0 → l.length = (prtS ml keep seen l).1.length ∧ ∀ (j : Nat) a b, l[j]? = some a → (prtS ml keep seen l).1[j]? = some b → b.size ≤ a.size
  | [], seen, h => ⟨rfl, fun j a b h1 => by simp at h1⟩
  | y :: l, seen, h => by
    unfold prtS at h ⊢
    split
    · rename_i c; rw [if_pos c] at h; exact absurd (show (9 : Int) = 0 from h) (by decide)
    rename_i c; rw [if_neg c] at h
    split
    · rename_i c2; rw [if_pos c2] at h; exact absurd h c2
    rename_i c2; rw [if_neg c2] at h
    split
    · rename_i c3; rw [if_pos c3] at h; exact absurd h c3
    rename_i c3
    obtain ⟨e1, e2⟩ := prt_sz ml keep l _ (by simpa using c3)
    refine ⟨by simp [← e1], fun j a b h1 h2 => ?_⟩
    cases j with
    | zero =>
      simp at h1 h2
      subst h1 h2
      have := any_sz ml y []
      unfold keepS
      split
      · generalize (anyT ml y []).t = u at this ⊢
        obtain ⟨ux, ul⟩ := u
        rw [Tr.kids, Tr.size_mk] at *
        exact this
      · exact this
    | succ j => simp at h1 h2; exact e2 j a b h1 h2
theorem dec_sz (ml : List VT) (d : VT) (hs : scpD d) : (decS ml d).t.size ≤ d.size := by
  by_cases he : (decS ml d).er = 0
  · obtain ⟨x, l⟩ := d
    unfold decS at he ⊢
    unfold scpD at hs
    rw [Tr.lab] at he hs ⊢
    rw [Tr.kids] at he hs ⊢
    split
    · rename_i c
      rw [if_pos c, wrp_er] at he
      rw [wrp_t _ _ _ he]
      obtain ⟨e1, e2⟩ := prt_sz ml true l [] he
      exact mk_sz (by simpa using e1) (by simpa using e2)
    rename_i c
    rw [if_neg c] at he hs
    split
    · rename_i c3
      rw [if_pos c3] at he hs
      obtain ⟨p, pl, r, b, hk, hp35, hn, hp, hr, hb⟩ := hs
      subst hk
      simp only [List.getD_cons_zero, List.getD_cons_succ, Tr.lab, Tr.kids] at he ⊢
      unfold fnS at he ⊢
      split
      · exact z0T_sz _
      rename_i q1
      split
      · exact z0T_sz _
      split
      · exact z0T_sz _
      obtain ⟨e1, e2⟩ := prt_sz ml false pl [] (by simpa using q1)
      refine mk_sz rfl (fun i a b' h1 h2 => ?_)
      match i with
      | 0 => simp at h1 h2; subst h1 h2; exact mk_sz e1 e2
      | 1 => simp at h1 h2; subst h1 h2; exact any_sz ml _ _
      | 2 => simp at h1 h2; subst h1 h2; exact any_sz ml _ _
      | i + 3 => simp at h1
    · exact any_sz ml _ _
  · rw [dec_z0 ml d he]; exact z0T_sz _
theorem decs_at (ml : List VT) {Q : VT → VT → Prop} : ∀ (l : List VT), (∀ d ∈ l, (decS ml d).er = 0 → Q d (decS ml d).t) → (decsS ml l).2.2 = 0 → l.length = (decsS ml l).1.length ∧ ∀ (j : Nat) a b, l[j]? = some a → (decsS ml l).1[j]? = some b → Q a b
  | [], _, _ => ⟨rfl, fun j a b h1 => by simp at h1⟩
  | y :: l, hq, h => by
    unfold decsS at h ⊢
    split
    · rename_i c2; rw [if_pos c2] at h; exact absurd h c2
    rename_i c2; rw [if_neg c2] at h
    split
    · rename_i c3; rw [if_pos c3] at h; exact absurd h c3
    rename_i c3
    obtain ⟨e1, e2⟩ := decs_at ml l (fun d hd => hq d (.tail _ hd)) (by simpa using c3)
    refine ⟨by simp [← e1], fun j a b h1 h2 => ?_⟩
    cases j with
    | zero => simp at h1 h2; subst h1 h2; exact hq y (.head _) (by simpa using c2)
    | succ j => simp at h1 h2; exact e2 j a b h1 h2
theorem res_sz (x : Lab) (ml : List VT) (hs : ∀ d ∈ ml, scpD d) : (resS x ml).t.size ≤ Tr.size (Tr.mk x ml) := by
  unfold resS
  split
  · exact z0T_sz _
  · by_cases he : (decsS ml ml).2.2 = 0
    · rw [wrp_t _ _ _ he, List.nil_append]
      obtain ⟨e1, e2⟩ := decs_at ml (Q := fun a b => b.size ≤ a.size) ml (fun d hd _ => dec_sz ml d (hs d hd)) he
      exact mk_sz e1 e2
    · unfold wrpS; rw [if_pos he]; exact z0T_sz _
theorem res_kept (x : Lab) (ml : List VT) (hx : x.k = 36) (hs : ∀ d ∈ ml, scpD d) (h : (resS x ml).er = 0) : kptT (.mk x ml) (resS x ml).t = true := by
  unfold resS at h ⊢
  split
  · rename_i f hf; rw [hf] at h; exact absurd (show (9 : Int) = 0 from h) (by decide)
  · rename_i hf
    rw [hf] at h
    dsimp only at h
    rw [wrp_er] at h
    rw [wrp_t _ _ _ h, List.nil_append]
    obtain ⟨e1, e2⟩ := decs_at ml (Q := fun a b => kptT a b = true) ml (fun d hd he => dec_kept ml d (hs d hd) he) h
    exact kptT_yes (by simp [kptL, hx]) e1 e2
theorem unit_36 (s : ByteArray) {x : Lab} {l : List VT} (h : (unitG s).1 = .mk x l) (he : (unitG s).2.2 = 0) : x.k = 36 := by
  unfold unitG at h he
  split at h
  · rename_i c; rw [if_pos c] at he; exact absurd he c
  rename_i c; rw [if_neg c] at he
  unfold modG at h he
  split at h
  · rename_i c; rw [if_pos c] at he; exact absurd (show (_ : Int) = 0 from he) (by first | decide | exact c)
  rename_i c; rw [if_neg c] at he
  split at h
  · rename_i c; rw [if_pos c] at he; exact absurd (show (_ : Int) = 0 from he) (by first | decide | exact c)
  rename_i c; rw [if_neg c] at he
  split at h
  · rename_i c; rw [if_pos c] at he; exact absurd (show (_ : Int) = 0 from he) (by first | decide | exact c)
  · obtain ⟨rfl, rfl⟩ := (Tr.mk.injEq _ _ _ _).mp h
    rfl
end Go.Proofs.Ythkfdheoakbfnaa.am
end
section
namespace Go.Proofs.Ythkfdheoakbfnaa.am
open Go.ChangeShapes Go.WideShapes Go.ChangeAt Go.RowKit
open vt
set_option linter.unusedVariables false
set_option linter.unusedSimpArgs false
set_option maxRecDepth 100000 in
set_option maxHeartbeats 4000000 in
theorem rplac_row (t : VT) : t.size ≤ 1000000 → ∀ u : VT, u.size ≤ 1000000 → Row Try.prog 13 [vT t, vT u] [] (vB (plac t u)) [] := by
  induction t using Tr.ind with
  | h x l ih =>
  intro hsz u hsu
  obtain ⟨y, m⟩ := u
  have hlen := Tr.len_size (x := x) (l := l)
  rw [show plac (.mk x l) (.mk y m) = _ from eqv_mk pP x y l m]
  refine row_of Try.func13 rfl rfl (Nat.le_of_ble_eq_true rfl) ?_
  by_cases hk : x.k = y.k; rotate_left
  · repeat (first | refine aw_seq ?_ | refine aw_skip ?_ | refine aw_block ?_ | refine aw_exit ?_ | refine aw_cond rfl (fun _ => ?_) (fun hb => absurd hb (by decide)) | refine aw_cond rfl (fun hb => absurd hb (by decide)) (fun _ => ?_) | (refine aw_reg (fun K hK => ?_); simp -implicitDefEqProofs [hk]; refine hK _ ?_) | (refine aw_drw mixd (fun K hK => ?_); simp -implicitDefEqProofs [hk]; refine hK _ _ (by rfl) ?_) | fail)
    refine aw_ret (fin_ret ?_); simp -implicitDefEqProofs [FinP, resV, resT, hk, pP] <;> try rfl
  by_cases hn : x.n = y.n; rotate_left
  · repeat (first | refine aw_seq ?_ | refine aw_skip ?_ | refine aw_block ?_ | refine aw_exit ?_ | refine aw_cond rfl (fun _ => ?_) (fun hb => absurd hb (by decide)) | refine aw_cond rfl (fun hb => absurd hb (by decide)) (fun _ => ?_) | (refine aw_reg (fun K hK => ?_); simp -implicitDefEqProofs [hk, hn]; refine hK _ ?_) | (refine aw_drw mixd (fun K hK => ?_); simp -implicitDefEqProofs [hk, hn]; refine hK _ _ (by rfl) ?_) | fail)
    refine aw_ret (fin_ret ?_); simp -implicitDefEqProofs [FinP, resV, resT, hk, hn, pP] <;> try rfl
  by_cases hs : x.s = y.s; rotate_left
  · repeat (first | refine aw_seq ?_ | refine aw_skip ?_ | refine aw_block ?_ | refine aw_exit ?_ | refine aw_cond rfl (fun _ => ?_) (fun hb => absurd hb (by decide)) | refine aw_cond rfl (fun hb => absurd hb (by decide)) (fun _ => ?_) | (refine aw_reg (fun K hK => ?_); simp -implicitDefEqProofs [hk, hn, hs]; refine hK _ ?_) | (refine aw_drw mixd (fun K hK => ?_); simp -implicitDefEqProofs [hk, hn, hs]; refine hK _ _ (by rfl) ?_) | fail)
    refine aw_ret (fin_ret ?_); simp -implicitDefEqProofs [FinP, resV, resT, hk, hn, hs, pP] <;> try rfl
  by_cases hf : x.f = y.f; rotate_left
  · repeat (first | refine aw_seq ?_ | refine aw_skip ?_ | refine aw_block ?_ | refine aw_exit ?_ | refine aw_cond rfl (fun _ => ?_) (fun hb => absurd hb (by decide)) | refine aw_cond rfl (fun hb => absurd hb (by decide)) (fun _ => ?_) | (refine aw_reg (fun K hK => ?_); simp -implicitDefEqProofs [hk, hn, hs, hf]; refine hK _ ?_) | (refine aw_drw mixd (fun K hK => ?_); simp -implicitDefEqProofs [hk, hn, hs, hf]; refine hK _ _ (by rfl) ?_) | fail)
    refine aw_ret (fin_ret ?_); simp -implicitDefEqProofs [FinP, resV, resT, hk, hn, hs, hf, pP] <;> try rfl
  by_cases ht : x.t = y.t; rotate_left
  · repeat (first | refine aw_seq ?_ | refine aw_skip ?_ | refine aw_block ?_ | refine aw_exit ?_ | refine aw_cond rfl (fun _ => ?_) (fun hb => absurd hb (by decide)) | refine aw_cond rfl (fun hb => absurd hb (by decide)) (fun _ => ?_) | (refine aw_reg (fun K hK => ?_); simp -implicitDefEqProofs [hk, hn, hs, hf, ht]; refine hK _ ?_) | (refine aw_drw mixd (fun K hK => ?_); simp -implicitDefEqProofs [hk, hn, hs, hf, ht]; refine hK _ _ (by rfl) ?_) | fail)
    refine aw_ret (fin_ret ?_); simp -implicitDefEqProofs [FinP, resV, resT, hk, hn, hs, hf, ht, pP] <;> try rfl
  by_cases hm : l.length = m.length; rotate_left
  · have hm' : ¬ (l.length : Int) = (m.length : Int) := by omega
    repeat (first | refine aw_seq ?_ | refine aw_skip ?_ | refine aw_block ?_ | refine aw_exit ?_ | refine aw_cond rfl (fun _ => ?_) (fun hb => absurd hb (by decide)) | refine aw_cond rfl (fun hb => absurd hb (by decide)) (fun _ => ?_) | (refine aw_reg (fun K hK => ?_); simp -implicitDefEqProofs [hk, hn, hs, hf, ht, hm, hm']; refine hK _ ?_) | (refine aw_drw mixd (fun K hK => ?_); simp -implicitDefEqProofs [hk, hn, hs, hf, ht, hm, hm']; refine hK _ _ (by rfl) ?_) | fail)
    refine aw_ret (fin_ret ?_); simp -implicitDefEqProofs [FinP, resV, resT, hk, hn, hs, hf, ht, hm, pP] <;> try rfl
  repeat (first | refine aw_seq ?_ | refine aw_skip ?_ | refine aw_block ?_ | refine aw_exit ?_ | refine aw_cond rfl (fun _ => ?_) (fun hb => absurd hb (by decide)) | refine aw_cond rfl (fun hb => absurd hb (by decide)) (fun _ => ?_) | (refine aw_reg (fun K hK => ?_); simp -implicitDefEqProofs [hk, hn, hs, hf, ht, hm]; refine hK _ ?_) | (refine aw_drw mixd (fun K hK => ?_); simp -implicitDefEqProofs [hk, hn, hs, hf, ht, hm]; refine hK _ _ (by rfl) ?_) | fail)
  refine aw_lp (ι := Nat) (fun k => mkSt [(2, .v (.c (.ptr 0 0))), (3, .v (.c (.ptr 1 0))), (5, vI (k : Nat))] [some (.box (ta (.mk x l))), some (.box (ta (.mk y m)))]) (fun k => k ≤ l.length ∧ zipA (eqv pP) l m k = true) (fun k => l.length - k) 0 ⟨Nat.zero_le _, zipA_zero _ _ _⟩ (cov_intro [0, 1] (by simp -implicitDefEqProofs [hk, hn, hs, hf, ht, hm]) (by simp -implicitDefEqProofs [hk, hn, hs, hf, ht, hm]) (by decide) rfl (by simp)) (fun Z hI k hkz => ?_)
  obtain ⟨hkl', hz⟩ := hkz
  by_cases hkl : k < l.length; rotate_left
  · have : k = l.length := by omega
    subst this
    rw [show (pP x y && decide (l.length = m.length) && zipA (eqv pP) l m l.length) = true by rw [hz]; simp [pP, hk, hn, hs, hf, ht, hm]]
    repeat (first | refine aw_seq ?_ | refine aw_skip ?_ | refine aw_block ?_ | refine aw_exit ?_ | refine aw_cond rfl (fun _ => ?_) (fun hb => absurd hb (by decide)) | refine aw_cond rfl (fun hb => absurd hb (by decide)) (fun _ => ?_) | (refine aw_reg (fun K hK => ?_); simp -implicitDefEqProofs; refine hK _ ?_) | (refine aw_drw mixd (fun K hK => ?_); simp -implicitDefEqProofs; refine hK _ _ (by rfl) ?_) | fail)
    refine aw_ret (fin_ret ?_); simp -implicitDefEqProofs [FinP, resV, resT] <;> try rfl
  have hkm : k < m.length := by omega
  obtain ⟨⟨ax, al⟩, ha⟩ : ∃ a, l[k]? = some a := ⟨_, List.getElem?_eq_getElem hkl⟩
  obtain ⟨⟨bx, bl⟩, hb⟩ : ∃ a, m[k]? = some a := ⟨_, List.getElem?_eq_getElem hkm⟩
  have ha' := (List.getElem?_eq_some_iff.1 ha).2
  have hb' := (List.getElem?_eq_some_iff.1 hb).2
  have hsz1 := Tr.size_at (x := x) ha
  have hsz2 := Tr.size_at (x := y) hb
  have w2 : IntKind.i64.wrap ((k : Nat) + 1 : Int) = (k : Nat) + 1 := i64i _ (by omega) (by omega)
  have hzs := zipA_succ (f := eqv pP) ha hb
  repeat (first | refine aw_seq ?_ | refine aw_skip ?_ | refine aw_block ?_ | refine aw_exit ?_ | refine aw_cond rfl (fun _ => ?_) (fun hb => absurd hb (by decide)) | refine aw_cond rfl (fun hb => absurd hb (by decide)) (fun _ => ?_) | (refine aw_reg (fun K hK => ?_); simp -implicitDefEqProofs [hkl]; refine hK _ ?_) | (refine aw_drw mixd (fun K hK => ?_); simp -implicitDefEqProofs [hkl]; refine hK _ _ (by rfl) ?_) | fail)
  refine aw_drw mixd (fun K hK => ?_); simp -implicitDefEqProofs [hkl, hkm, ha, ha', hb, hb']
  refine ard_call (calld_pure (ih _ (List.mem_of_getElem? ha) (by omega) (.mk bx bl) (by omega)) (by simp) (fun _ => rfl) rfl ?_)
  simp -implicitDefEqProofs
  refine hK _ _ (by rfl) ?_
  refine aw_cond rfl (fun hb => ?_) (fun hb => ?_)
  · have hf : plac (.mk ax al) (.mk bx bl) = false := by simpa using hb
    repeat (first | refine aw_seq ?_ | refine aw_skip ?_ | refine aw_block ?_ | refine aw_exit ?_ | refine aw_cond rfl (fun _ => ?_) (fun hb => absurd hb (by decide)) | refine aw_cond rfl (fun hb => absurd hb (by decide)) (fun _ => ?_) | (refine aw_reg (fun K hK => ?_); simp -implicitDefEqProofs; refine hK _ ?_) | (refine aw_drw mixd (fun K hK => ?_); simp -implicitDefEqProofs; refine hK _ _ (by rfl) ?_) | fail)
    have e : zipA (eqv pP) l m l.length = false := by
      have := zipA_mono (l.length - (k + 1)) (show zipA (eqv pP) l m (k + 1) = false by rw [hzs, hz]; simpa using hf)
      rwa [show k + 1 + (l.length - (k + 1)) = l.length by omega] at this
    refine aw_ret (fin_ret ?_); simp -implicitDefEqProofs [FinP, resV, resT, e] <;> try rfl
  · have hf : plac (.mk ax al) (.mk bx bl) = true := by simpa using hb
    repeat (first | refine aw_seq ?_ | refine aw_skip ?_ | refine aw_block ?_ | refine aw_exit ?_ | refine aw_cond rfl (fun _ => ?_) (fun hb => absurd hb (by decide)) | refine aw_cond rfl (fun hb => absurd hb (by decide)) (fun _ => ?_) | (refine aw_reg (fun K hK => ?_); simp -implicitDefEqProofs [w2]; refine hK _ ?_) | (refine aw_drw mixd (fun K hK => ?_); simp -implicitDefEqProofs [w2]; refine hK _ _ (by rfl) ?_) | fail)
    refine ⟨k + 1, ⟨by omega, by rw [hzs, hz]; simpa using hf⟩, (by dsimp only; omega), ?_⟩
    rw [hI]; exact cov_intro [0, 1] (by simp -implicitDefEqProofs) (by simp -implicitDefEqProofs) (by decide) rfl (by simp)
end Go.Proofs.Ythkfdheoakbfnaa.am
end
section
namespace Go.Proofs.Ythkfdheoakbfnaa.am
open Go.ChangeShapes Go.WideShapes Go.ChangeAt Go.RowKit
open vt
set_option linter.unusedVariables false
set_option linter.unusedSimpArgs false
theorem kptT_zip (x y : Lab) (l m : List VT) : kptT (.mk x l) (.mk y m) = (kptL x y && decide (l.length = m.length) && zipA kptT l m l.length) := by
  have e : zipA kptT l m l.length = (l.zip m).all (fun q => kptT q.1 q.2) := by
    unfold zipA
    rw [List.take_of_length_le (l := l.zip m) (by rw [List.length_zip]; exact Nat.min_le_left _ _)]
  rw [kptT_mk, e]
  rfl
set_option maxRecDepth 100000 in
set_option maxHeartbeats 4000000 in
theorem rkept_row (t : VT) : t.size ≤ 1000000 → ∀ u : VT, u.size ≤ 1000000 → Row Try.prog 18 [vT t, vT u] [] (vB (kptT t u)) [] := by
  induction t using Tr.ind with
  | h x l ih =>
  intro hsz u hsu
  obtain ⟨y, m⟩ := u
  have hlen := Tr.len_size (x := x) (l := l)
  rw [kptT_zip]
  refine row_of Try.func18 rfl rfl (Nat.le_of_ble_eq_true rfl) ?_
  by_cases hf : x.f = y.f; rotate_left
  · repeat (first | refine aw_seq ?_ | refine aw_skip ?_ | refine aw_block ?_ | refine aw_exit ?_ | refine aw_ct rfl ?_ | refine aw_cf rfl ?_ | ((first | refine aw_reg (fun K hK => ?_) | refine aw_drw mixd (fun K hK => ?_) | fail); simp -implicitDefEqProofs [hf]; first | refine hK _ ?_ | refine hK _ _ (by rfl) ?_ | fail) | fail)
    refine aw_ret (fin_ret ?_); simp -implicitDefEqProofs [FinP, resV, resT, hf, kptL] <;> try rfl
  by_cases ht : x.t = y.t; rotate_left
  · repeat (first | refine aw_seq ?_ | refine aw_skip ?_ | refine aw_block ?_ | refine aw_exit ?_ | refine aw_ct rfl ?_ | refine aw_cf rfl ?_ | ((first | refine aw_reg (fun K hK => ?_) | refine aw_drw mixd (fun K hK => ?_) | fail); simp -implicitDefEqProofs [hf, ht]; first | refine hK _ ?_ | refine hK _ _ (by rfl) ?_ | fail) | fail)
    refine aw_ret (fin_ret ?_); simp -implicitDefEqProofs [FinP, resV, resT, hf, ht, kptL] <;> try rfl
  by_cases hm : l.length = m.length; rotate_left
  · have hm' : ¬ (l.length : Int) = (m.length : Int) := by omega
    repeat (first | refine aw_seq ?_ | refine aw_skip ?_ | refine aw_block ?_ | refine aw_exit ?_ | refine aw_ct rfl ?_ | refine aw_cf rfl ?_ | ((first | refine aw_reg (fun K hK => ?_) | refine aw_drw mixd (fun K hK => ?_) | fail); simp -implicitDefEqProofs [hf, ht, hm, hm']; first | refine hK _ ?_ | refine hK _ _ (by rfl) ?_ | fail) | fail)
    refine aw_ret (fin_ret ?_); simp -implicitDefEqProofs [FinP, resV, resT, hf, ht, hm, kptL] <;> try rfl
  by_cases h19 : y.k = 19
  · repeat (first | refine aw_seq ?_ | refine aw_skip ?_ | refine aw_block ?_ | refine aw_exit ?_ | refine aw_ct rfl ?_ | refine aw_cf rfl ?_ | ((first | refine aw_reg (fun K hK => ?_) | refine aw_drw mixd (fun K hK => ?_) | fail); simp -implicitDefEqProofs [hf, ht, hm, h19]; first | refine hK _ ?_ | refine hK _ _ (by rfl) ?_ | fail) | fail)
    refine aw_ret (fin_ret ?_); simp -implicitDefEqProofs [FinP, resV, resT, hf, ht, hm, h19, kptL] <;> try rfl
  by_cases hk : x.k = 19 ∨ x.k = y.k; rotate_left
  · have hk1 : ¬ x.k = 19 := fun h => hk (.inl h)
    have hk2 : ¬ x.k = y.k := fun h => hk (.inr h)
    repeat (first | refine aw_seq ?_ | refine aw_skip ?_ | refine aw_block ?_ | refine aw_exit ?_ | refine aw_ct rfl ?_ | refine aw_cf rfl ?_ | ((first | refine aw_reg (fun K hK => ?_) | refine aw_drw mixd (fun K hK => ?_) | fail); simp -implicitDefEqProofs [hf, ht, hm, h19, hk1, hk2]; first | refine hK _ ?_ | refine hK _ _ (by rfl) ?_ | fail) | fail)
    refine aw_ret (fin_ret ?_); simp -implicitDefEqProofs [FinP, resV, resT, hf, ht, hm, h19, hk1, hk2, kptL] <;> try rfl
  by_cases hs : y.s = ⟨#[]⟩ ∨ y.k = 13 ∨ y.k = 17 ∨ y.k = 34; rotate_left
  · have hs1 : ¬ y.s = ⟨#[]⟩ := fun h => hs (.inl h)
    have hs2 : ¬ y.k = 13 := fun h => hs (.inr (.inl h))
    have hs3 : ¬ y.k = 17 := fun h => hs (.inr (.inr (.inl h)))
    have hs4 : ¬ y.k = 34 := fun h => hs (.inr (.inr (.inr h)))
    rcases hk with hk | hk
    all_goals
      repeat (first | refine aw_seq ?_ | refine aw_skip ?_ | refine aw_block ?_ | refine aw_exit ?_ | refine aw_ct rfl ?_ | refine aw_cf rfl ?_ | ((first | refine aw_reg (fun K hK => ?_) | refine aw_drw mixd (fun K hK => ?_) | fail); simp -implicitDefEqProofs [hf, ht, hm, h19, hk, hs1, hs2, hs3, hs4]; first | refine hK _ ?_ | refine hK _ _ (by rfl) ?_ | fail) | fail)
      refine aw_ret (fin_ret ?_); simp -implicitDefEqProofs [FinP, resV, resT, hf, ht, hm, h19, hk, hs1, hs2, hs3, hs4, kptL] <;> try rfl
  have hkl : kptL x y = true := by
    unfold kptL
    rcases hk with hk | hk <;> rcases hs with hs | hs | hs | hs <;> simp [hf, ht, h19, hk, hs]
  rw [hkl, decide_eq_true hm, Bool.true_and, Bool.true_and]
  rcases hk with hk | hk
  all_goals
    repeat (first | refine aw_seq ?_ | refine aw_skip ?_ | refine aw_block ?_ | refine aw_exit ?_ | refine aw_ct rfl ?_ | refine aw_cf rfl ?_ | ((first | refine aw_reg (fun K hK => ?_) | refine aw_drw mixd (fun K hK => ?_) | fail); simp -implicitDefEqProofs [hf, ht, hm, h19, hk]; first | refine hK _ ?_ | refine hK _ _ (by rfl) ?_ | fail) | fail)
  all_goals
    have hs' : (True ∧ y.s = ⟨#[]⟩) ∨ (¬ y.s = ⟨#[]⟩ ∧ (y.k = 13 ∨ y.k = 17 ∨ y.k = 34)) := by
      by_cases h0 : y.s = ⟨#[]⟩
      · exact .inl ⟨trivial, h0⟩
      · exact .inr ⟨h0, hs.resolve_left h0⟩
    rcases hs' with ⟨h0, hs⟩ | ⟨h0, hs | hs | hs⟩
    all_goals
      repeat (first | refine aw_seq ?_ | refine aw_skip ?_ | refine aw_block ?_ | refine aw_exit ?_ | refine aw_ct rfl ?_ | refine aw_cf rfl ?_ | ((first | refine aw_reg (fun K hK => ?_) | refine aw_drw mixd (fun K hK => ?_) | fail); simp -implicitDefEqProofs [hf, ht, hm, h19, hk, h0, hs]; first | refine hK _ ?_ | refine hK _ _ (by rfl) ?_ | fail) | fail)
      refine aw_lp (ι := Nat) (fun k => mkSt [(2, .v (.c (.ptr 0 0))), (3, .v (.c (.ptr 1 0))), (5, vI (k : Nat))] [some (.box (ta (.mk x l))), some (.box (ta (.mk y m)))]) (fun k => k ≤ l.length ∧ zipA kptT l m k = true) (fun k => l.length - k) 0 ⟨Nat.zero_le _, zipA_zero _ _ _⟩ (cov_intro [0, 1] (by simp -implicitDefEqProofs [hf, ht, hm, h19, hk, h0, hs]) (by simp -implicitDefEqProofs [hf, ht, hm, h19, hk, h0, hs]) (by decide) rfl (by simp)) (fun Z hI k hkz => ?_)
      obtain ⟨hkl', hz⟩ := hkz
      by_cases hkl : k < l.length; rotate_left
      · have : k = l.length := by omega
        subst this
        rw [hz]
        repeat (first | refine aw_seq ?_ | refine aw_skip ?_ | refine aw_block ?_ | refine aw_exit ?_ | refine aw_ct rfl ?_ | refine aw_cf rfl ?_ | ((first | refine aw_reg (fun K hK => ?_) | refine aw_drw mixd (fun K hK => ?_) | fail); simp -implicitDefEqProofs; first | refine hK _ ?_ | refine hK _ _ (by rfl) ?_ | fail) | fail)
        refine aw_ret (fin_ret ?_); simp -implicitDefEqProofs [FinP, resV, resT] <;> try rfl
      have hkm : k < m.length := by omega
      obtain ⟨⟨ax, al⟩, ha⟩ : ∃ a, l[k]? = some a := ⟨_, List.getElem?_eq_getElem hkl⟩
      obtain ⟨⟨bx, bl⟩, hb⟩ : ∃ a, m[k]? = some a := ⟨_, List.getElem?_eq_getElem hkm⟩
      have ha' := (List.getElem?_eq_some_iff.1 ha).2
      have hb' := (List.getElem?_eq_some_iff.1 hb).2
      have hsz1 := Tr.size_at (x := x) ha
      have hsz2 := Tr.size_at (x := y) hb
      have w2 : IntKind.i64.wrap ((k : Nat) + 1 : Int) = (k : Nat) + 1 := i64i _ (by omega) (by omega)
      have hzs := zipA_succ (f := kptT) ha hb
      repeat (first | refine aw_seq ?_ | refine aw_skip ?_ | refine aw_block ?_ | refine aw_exit ?_ | refine aw_ct rfl ?_ | refine aw_cf rfl ?_ | ((first | refine aw_reg (fun K hK => ?_) | refine aw_drw mixd (fun K hK => ?_) | fail); simp -implicitDefEqProofs [hkl]; first | refine hK _ ?_ | refine hK _ _ (by rfl) ?_ | fail) | fail)
      refine aw_drw mixd (fun K hK => ?_); simp -implicitDefEqProofs [hkl, hkm, ha, ha', hb, hb']
      refine ard_call (calld_pure (ih _ (List.mem_of_getElem? ha) (by omega) (.mk bx bl) (by omega)) (by simp) (fun _ => rfl) rfl ?_)
      simp -implicitDefEqProofs
      refine hK _ _ (by rfl) ?_
      refine aw_cond rfl (fun hb => ?_) (fun hb => ?_)
      · have hf : kptT (.mk ax al) (.mk bx bl) = false := by simpa using hb
        repeat (first | refine aw_seq ?_ | refine aw_skip ?_ | refine aw_block ?_ | refine aw_exit ?_ | refine aw_ct rfl ?_ | refine aw_cf rfl ?_ | ((first | refine aw_reg (fun K hK => ?_) | refine aw_drw mixd (fun K hK => ?_) | fail); simp -implicitDefEqProofs; first | refine hK _ ?_ | refine hK _ _ (by rfl) ?_ | fail) | fail)
        have e : zipA kptT l m l.length = false := by
          have := zipA_mono (l.length - (k + 1)) (show zipA kptT l m (k + 1) = false by rw [hzs, hz]; simpa using hf)
          rwa [show k + 1 + (l.length - (k + 1)) = l.length by omega] at this
        refine aw_ret (fin_ret ?_); simp -implicitDefEqProofs [FinP, resV, resT, e] <;> try rfl
      · have hf : kptT (.mk ax al) (.mk bx bl) = true := by simpa using hb
        repeat (first | refine aw_seq ?_ | refine aw_skip ?_ | refine aw_block ?_ | refine aw_exit ?_ | refine aw_ct rfl ?_ | refine aw_cf rfl ?_ | ((first | refine aw_reg (fun K hK => ?_) | refine aw_drw mixd (fun K hK => ?_) | fail); simp -implicitDefEqProofs [w2]; first | refine hK _ ?_ | refine hK _ _ (by rfl) ?_ | fail) | fail)
        refine ⟨k + 1, ⟨by omega, by rw [hzs, hz]; simpa using hf⟩, (by dsimp only; omega), ?_⟩
        rw [hI]; exact cov_intro [0, 1] (by simp -implicitDefEqProofs) (by simp -implicitDefEqProofs) (by decide) rfl (by simp)
end Go.Proofs.Ythkfdheoakbfnaa.am
end
