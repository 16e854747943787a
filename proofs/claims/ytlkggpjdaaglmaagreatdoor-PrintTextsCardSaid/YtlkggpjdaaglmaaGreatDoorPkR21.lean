import Derived.Test.YtlkggpjdaaglmaaGreatDoorPkR20
import Derived.Test.YtlkggpjdaaglmaaGreatDoorPkR8
import Derived.Test.YtlkggpjdaaglmaaGreatDoorPkR7
import Derived.Test.YtlkggpjdaaglmaaGreatDoorPkR15
import Derived.Test.YtlkggpjdaaglmaaGreatDoorRows
import Derived.LaidMore
import Derived.LaidSub
import Derived.Lib.LaidTab
import Derived.Test.YtlkggpjdaaglmaaGreatDoorPkR10
import Derived.Test.YtlkggpjdaaglmaaGreatDoorChecked
import Derived.Test.YtlkggpjdaaglmaaGreatDoorPkR5
import Derived.ChangeMaps5
section
namespace Go.Proofs.YtlkggpjdaaglmaaGreatDoor.am
open Go.ChangeShapes Go.WideShapes Go.ChangeAt Go.RowKit
open vt
set_option linter.unusedVariables false
set_option linter.unusedSimpArgs false
section
variable (ts : List Tok) (hl : ts.length ≤ 1000000000)
include hl
set_option maxRecDepth 100000 in
set_option maxHeartbeats 4000000 in
theorem rdecl_row (i : Nat) (hi : i ≤ ts.length) : Row Tryz.prog 13 [vKs ts, vI i] [] (vG (declG ts i)) [] := by
  have c := word_row ts i wConst
  rw [word_is q_con] at c
  have v := word_row ts i wVar
  rw [word_is q_var] at v
  have p := word_row ts i wPub
  rw [word_is q_pub] at p
  have f := word_row ts i wFn
  rw [word_is q_fn] at f
  have r := word_row ts i wRec
  rw [word_is q_rec] at r
  have w1 : IntKind.i64.wrap ((i : Nat) + 1 : Int) = (i : Nat) + 1 := i64i _ (by omega) (by omega)
  have w2 : IntKind.i64.wrap ((i : Nat) + 2 : Int) = (i : Nat) + 2 := i64i _ (by omega) (by omega)
  have w3 : IntKind.i64.wrap ((i : Nat) + 3 : Int) = (i : Nat) + 3 := i64i _ (by omega) (by omega)
  unfold declG
  by_cases h1 : isK wConst (nxt ts i) = true
  · rw [if_pos h1]
    have s := rshort_row ts hl i (isK_lt h1) true h1 (fun h => by cases h) 31 wConst sIs 3 rfl rfl rfl rfl
    rw [h1] at c
    obtain ⟨⟨⟨nx, nl⟩, nj, ne⟩, hn⟩ : ∃ r, itH ts (R9 ts) i 31 0 [.sgn wConst, .nam, .sgn sIs, .sub 3, .sgn sEnd] i ⟨#[]⟩ [] = r := ⟨_, rfl⟩
    rw [hn] at s ⊢
    clear hn h1
    refine row_of Tryz.func13 rfl rfl (Nat.le_of_ble_eq_true rfl) ?_
    repeat' (first | refine aw_seq ?_ | refine aw_skip ?_ | refine aw_block ?_ | refine aw_exit ?_ | refine aw_cond rfl (fun _ => ?_) (fun hb => absurd hb (by decide)) | refine aw_cond rfl (fun hb => absurd hb (by decide)) (fun _ => ?_) | (refine aw_reg (fun K hK => ?_); simp -implicitDefEqProofs) | (refine aw_drw mixd (fun K hK => ?_); simp -implicitDefEqProofs) | refine hK _ ?_ | refine hK _ _ (by rfl) ?_ | (refine ar_call (cp c ?_); simp -implicitDefEqProofs) | (refine ard_call (dp c ?_); simp -implicitDefEqProofs) | (refine ar_call (cp v ?_); simp -implicitDefEqProofs) | (refine ard_call (dp v ?_); simp -implicitDefEqProofs) | (refine ar_call (cp s ?_); simp -implicitDefEqProofs) | (refine ard_call (dp s ?_); simp -implicitDefEqProofs) | fail)
    refine aw_ret (fin_ret ?_); simp -implicitDefEqProofs [FinP, resV, resT] <;> try rfl
  rw [if_neg h1]
  rw [show isK wConst (nxt ts i) = false by simpa using h1] at c
  by_cases h2 : isK wVar (nxt ts i) = true
  · rw [if_pos h2]
    have s := rshort_row ts hl i (isK_lt h2) false (by simpa using h1) (fun _ => h2) 32 wVar sCol 1 rfl rfl rfl rfl
    rw [h2] at v
    obtain ⟨⟨⟨nx, nl⟩, nj, ne⟩, hn⟩ : ∃ r, itH ts (R9 ts) i 32 0 [.sgn wVar, .nam, .sgn sCol, .sub 1, .sgn sEnd] i ⟨#[]⟩ [] = r := ⟨_, rfl⟩
    rw [hn] at s ⊢
    clear hn h1 h2
    refine row_of Tryz.func13 rfl rfl (Nat.le_of_ble_eq_true rfl) ?_
    repeat' (first | refine aw_seq ?_ | refine aw_skip ?_ | refine aw_block ?_ | refine aw_exit ?_ | refine aw_cond rfl (fun _ => ?_) (fun hb => absurd hb (by decide)) | refine aw_cond rfl (fun hb => absurd hb (by decide)) (fun _ => ?_) | (refine aw_reg (fun K hK => ?_); simp -implicitDefEqProofs) | (refine aw_drw mixd (fun K hK => ?_); simp -implicitDefEqProofs) | refine hK _ ?_ | refine hK _ _ (by rfl) ?_ | (refine ar_call (cp c ?_); simp -implicitDefEqProofs) | (refine ard_call (dp c ?_); simp -implicitDefEqProofs) | (refine ar_call (cp v ?_); simp -implicitDefEqProofs) | (refine ard_call (dp v ?_); simp -implicitDefEqProofs) | (refine ar_call (cp s ?_); simp -implicitDefEqProofs) | (refine ard_call (dp s ?_); simp -implicitDefEqProofs) | fail)
    refine aw_ret (fin_ret ?_); simp -implicitDefEqProofs [FinP, resV, resT] <;> try rfl
  rw [if_neg h2]
  rw [show isK wVar (nxt ts i) = false by simpa using h2] at v
  by_cases h3 : isK wPub (nxt ts i) = true
  · rw [if_pos h3]
    have hlt := isK_lt h3
    have s := rfn_row ts hl i (i + 1) 1 (by omega) hlt
    rw [h3] at p
    rw [itG_sgn, if_pos h3]
    obtain ⟨⟨⟨nx, nl⟩, nj, ne⟩, hn⟩ : ∃ r, itH ts (R9 ts) i 33 1 [.sgn wFn, .nam, .sub 4, .sgn sCol, .sub 1, .sub 2] (i + 1) ⟨#[]⟩ [] = r := ⟨_, rfl⟩
    rw [hn] at s ⊢
    clear hn h1 h2 h3
    refine row_of Tryz.func13 rfl rfl (Nat.le_of_ble_eq_true rfl) ?_
    repeat' (first | refine aw_seq ?_ | refine aw_skip ?_ | refine aw_block ?_ | refine aw_exit ?_ | refine aw_cond rfl (fun _ => ?_) (fun hb => absurd hb (by decide)) | refine aw_cond rfl (fun hb => absurd hb (by decide)) (fun _ => ?_) | (refine aw_reg (fun K hK => ?_); simp -implicitDefEqProofs [w1]) | (refine aw_drw mixd (fun K hK => ?_); simp -implicitDefEqProofs [w1]) | refine hK _ ?_ | refine hK _ _ (by rfl) ?_ | (refine ar_call (cp c ?_); simp -implicitDefEqProofs [w1]) | (refine ard_call (dp c ?_); simp -implicitDefEqProofs [w1]) | (refine ar_call (cp v ?_); simp -implicitDefEqProofs [w1]) | (refine ard_call (dp v ?_); simp -implicitDefEqProofs [w1]) | (refine ar_call (cp p ?_); simp -implicitDefEqProofs [w1]) | (refine ard_call (dp p ?_); simp -implicitDefEqProofs [w1]) | (refine ar_call (cp s ?_); simp -implicitDefEqProofs [w1]) | (refine ard_call (dp s ?_); simp -implicitDefEqProofs [w1]) | fail)
    refine aw_ret (fin_ret ?_); simp -implicitDefEqProofs [FinP, resV, resT] <;> try rfl
  rw [if_neg h3]
  rw [show isK wPub (nxt ts i) = false by simpa using h3] at p
  by_cases h4 : isK wFn (nxt ts i) = true
  · rw [if_pos h4]
    have s := rfn_row ts hl i i 0 (Nat.le_refl i) hi
    rw [h4] at f
    obtain ⟨⟨⟨nx, nl⟩, nj, ne⟩, hn⟩ : ∃ r, itH ts (R9 ts) i 33 0 [.sgn wFn, .nam, .sub 4, .sgn sCol, .sub 1, .sub 2] i ⟨#[]⟩ [] = r := ⟨_, rfl⟩
    rw [hn] at s ⊢
    clear hn h1 h2 h3 h4
    refine row_of Tryz.func13 rfl rfl (Nat.le_of_ble_eq_true rfl) ?_
    repeat' (first | refine aw_seq ?_ | refine aw_skip ?_ | refine aw_block ?_ | refine aw_exit ?_ | refine aw_cond rfl (fun _ => ?_) (fun hb => absurd hb (by decide)) | refine aw_cond rfl (fun hb => absurd hb (by decide)) (fun _ => ?_) | (refine aw_reg (fun K hK => ?_); simp -implicitDefEqProofs) | (refine aw_drw mixd (fun K hK => ?_); simp -implicitDefEqProofs) | refine hK _ ?_ | refine hK _ _ (by rfl) ?_ | (refine ar_call (cp c ?_); simp -implicitDefEqProofs) | (refine ard_call (dp c ?_); simp -implicitDefEqProofs) | (refine ar_call (cp v ?_); simp -implicitDefEqProofs) | (refine ard_call (dp v ?_); simp -implicitDefEqProofs) | (refine ar_call (cp p ?_); simp -implicitDefEqProofs) | (refine ard_call (dp p ?_); simp -implicitDefEqProofs) | (refine ar_call (cp f ?_); simp -implicitDefEqProofs) | (refine ard_call (dp f ?_); simp -implicitDefEqProofs) | (refine ar_call (cp s ?_); simp -implicitDefEqProofs) | (refine ard_call (dp s ?_); simp -implicitDefEqProofs) | fail)
    refine aw_ret (fin_ret ?_); simp -implicitDefEqProofs [FinP, resV, resT] <;> try rfl
  rw [if_neg h4]
  rw [show isK wFn (nxt ts i) = false by simpa using h4] at f
  by_cases h5 : isK wRec (nxt ts i) = true; rotate_left
  · rw [if_neg h5]
    rw [show isK wRec (nxt ts i) = false by simpa using h5] at r
    have bd := bad_row i
    clear h1 h2 h3 h4 h5
    refine row_of Tryz.func13 rfl rfl (Nat.le_of_ble_eq_true rfl) ?_
    repeat' (first | refine aw_seq ?_ | refine aw_skip ?_ | refine aw_block ?_ | refine aw_exit ?_ | refine aw_cond rfl (fun _ => ?_) (fun hb => absurd hb (by decide)) | refine aw_cond rfl (fun hb => absurd hb (by decide)) (fun _ => ?_) | (refine aw_reg (fun K hK => ?_); simp -implicitDefEqProofs) | (refine aw_drw mixd (fun K hK => ?_); simp -implicitDefEqProofs) | refine hK _ ?_ | refine hK _ _ (by rfl) ?_ | (refine ar_call (cp c ?_); simp -implicitDefEqProofs) | (refine ard_call (dp c ?_); simp -implicitDefEqProofs) | (refine ar_call (cp v ?_); simp -implicitDefEqProofs) | (refine ard_call (dp v ?_); simp -implicitDefEqProofs) | (refine ar_call (cp p ?_); simp -implicitDefEqProofs) | (refine ard_call (dp p ?_); simp -implicitDefEqProofs) | (refine ar_call (cp f ?_); simp -implicitDefEqProofs) | (refine ard_call (dp f ?_); simp -implicitDefEqProofs) | (refine ar_call (cp r ?_); simp -implicitDefEqProofs) | (refine ard_call (dp r ?_); simp -implicitDefEqProofs) | (refine ar_call (cp bd ?_); simp -implicitDefEqProofs) | (refine ard_call (dp bd ?_); simp -implicitDefEqProofs) | fail)
    refine aw_ret (fin_ret ?_); simp -implicitDefEqProofs [FinP, resV, resT, bad7, z0] <;> try rfl
  rw [if_pos h5]
  have hlt := isK_lt h5
  rw [h5] at r
  clear h1 h2 h3 h4 h5
  unfold recG
  have o := now_row ts (i + 1)
  by_cases h6 : (nxt ts (i + 1)).k = 1; rotate_left
  · rw [if_neg h6]
    have bd := bad_row (i + 1)
    obtain ⟨⟨xk, xn, xs, xf, xt⟩, hx⟩ : ∃ x, nxt ts (i + 1) = x := ⟨_, rfl⟩
    rw [hx] at o h6
    dsimp only at h6
    clear hx
    refine row_of Tryz.func13 rfl rfl (Nat.le_of_ble_eq_true rfl) ?_
    repeat' (first | refine aw_seq ?_ | refine aw_skip ?_ | refine aw_block ?_ | refine aw_exit ?_ | refine aw_cond rfl (fun _ => ?_) (fun hb => absurd hb (by decide)) | refine aw_cond rfl (fun hb => absurd hb (by decide)) (fun _ => ?_) | (refine aw_reg (fun K hK => ?_); simp -implicitDefEqProofs [h6, w1, w2, w3]) | (refine aw_drw mixd (fun K hK => ?_); simp -implicitDefEqProofs [h6, w1, w2, w3]) | refine hK _ ?_ | refine hK _ _ (by rfl) ?_ | (refine ar_call (cp c ?_); simp -implicitDefEqProofs [h6, w1, w2, w3]) | (refine ard_call (dp c ?_); simp -implicitDefEqProofs [h6, w1, w2, w3]) | (refine ar_call (cp v ?_); simp -implicitDefEqProofs [h6, w1, w2, w3]) | (refine ard_call (dp v ?_); simp -implicitDefEqProofs [h6, w1, w2, w3]) | (refine ar_call (cp p ?_); simp -implicitDefEqProofs [h6, w1, w2, w3]) | (refine ard_call (dp p ?_); simp -implicitDefEqProofs [h6, w1, w2, w3]) | (refine ar_call (cp f ?_); simp -implicitDefEqProofs [h6, w1, w2, w3]) | (refine ard_call (dp f ?_); simp -implicitDefEqProofs [h6, w1, w2, w3]) | (refine ar_call (cp r ?_); simp -implicitDefEqProofs [h6, w1, w2, w3]) | (refine ard_call (dp r ?_); simp -implicitDefEqProofs [h6, w1, w2, w3]) | (refine ar_call (cp o ?_); simp -implicitDefEqProofs [h6, w1, w2, w3]) | (refine ard_call (dp o ?_); simp -implicitDefEqProofs [h6, w1, w2, w3]) | (refine ar_call (cp bd ?_); simp -implicitDefEqProofs [h6, w1, w2, w3]) | (refine ard_call (dp bd ?_); simp -implicitDefEqProofs [h6, w1, w2, w3]) | fail)
    refine aw_ret (fin_ret ?_); simp -implicitDefEqProofs [FinP, resV, resT, bad7, z0] <;> try rfl
  rw [if_pos h6]
  obtain ⟨x, hx, hxn, hxk⟩ := kind_at h6 (by decide)
  have hx' := (List.getElem?_eq_some_iff.1 hx).2
  have hlt1 := (List.getElem?_eq_some_iff.1 hx).1
  rw [hxn] at o ⊢
  obtain ⟨xk, xn, xs, xf, xt⟩ := x
  dsimp only at hxk ⊢
  subst hxk
  clear h6 hxn
  have tn : ((i : Nat) + 1 : Int).toNat = i + 1 := by omega
  have t0 : ((0 : Int) ≤ (i : Nat) + 1) = True := eq_true (by omega)
  have s := sign_row ts (i + 2) sBra
  rw [sign_is q_bra] at s
  by_cases h7 : isK sBra (nxt ts (i + 2)) = true; rotate_left
  · rw [if_neg h7]
    rw [show isK sBra (nxt ts (i + 2)) = false by simpa using h7] at s
    have bd := bad_row (i + 2)
    clear h7
    refine row_of Tryz.func13 rfl rfl (Nat.le_of_ble_eq_true rfl) ?_
    repeat' (first | refine aw_seq ?_ | refine aw_skip ?_ | refine aw_block ?_ | refine aw_exit ?_ | refine aw_cond rfl (fun _ => ?_) (fun hb => absurd hb (by decide)) | refine aw_cond rfl (fun hb => absurd hb (by decide)) (fun _ => ?_) | (refine aw_reg (fun K hK => ?_); simp -implicitDefEqProofs [w1, w2, w3]) | (refine aw_drw mixd (fun K hK => ?_); simp -implicitDefEqProofs [w1, w2, w3]) | refine hK _ ?_ | refine hK _ _ (by rfl) ?_ | (refine ar_call (cp c ?_); simp -implicitDefEqProofs [w1, w2, w3]) | (refine ard_call (dp c ?_); simp -implicitDefEqProofs [w1, w2, w3]) | (refine ar_call (cp v ?_); simp -implicitDefEqProofs [w1, w2, w3]) | (refine ard_call (dp v ?_); simp -implicitDefEqProofs [w1, w2, w3]) | (refine ar_call (cp p ?_); simp -implicitDefEqProofs [w1, w2, w3]) | (refine ard_call (dp p ?_); simp -implicitDefEqProofs [w1, w2, w3]) | (refine ar_call (cp f ?_); simp -implicitDefEqProofs [w1, w2, w3]) | (refine ard_call (dp f ?_); simp -implicitDefEqProofs [w1, w2, w3]) | (refine ar_call (cp r ?_); simp -implicitDefEqProofs [w1, w2, w3]) | (refine ard_call (dp r ?_); simp -implicitDefEqProofs [w1, w2, w3]) | (refine ar_call (cp o ?_); simp -implicitDefEqProofs [w1, w2, w3]) | (refine ard_call (dp o ?_); simp -implicitDefEqProofs [w1, w2, w3]) | (refine ar_call (cp s ?_); simp -implicitDefEqProofs [w1, w2, w3]) | (refine ard_call (dp s ?_); simp -implicitDefEqProofs [w1, w2, w3]) | (refine ar_call (cp bd ?_); simp -implicitDefEqProofs [w1, w2, w3]) | (refine ard_call (dp bd ?_); simp -implicitDefEqProofs [w1, w2, w3]) | fail)
    refine aw_ret (fin_ret ?_); simp -implicitDefEqProofs [FinP, resV, resT, bad7, z0] <;> try rfl
  rw [if_pos h7]
  have hlt2 := isK_lt h7
  rw [h7] at s
  have fl := rfields_row ts hl (i + 3) (by omega)
  have hok := lpF_ok (ts := ts) (ts.length + 1) (i + 3) [] (by omega)
  obtain ⟨⟨d1, d2, d3⟩, hd⟩ : ∃ r, lpF ts (ts.length + 1) (i + 3) [] = r := ⟨_, rfl⟩
  rw [hd] at fl hok ⊢
  have hle := hok.le
  dsimp only at hle
  clear h7 hd
  by_cases h8 : d3 = 0; rotate_left
  · rw [show finC ts i 30 xs (d1, d2, d3) = (z0, d2, d3) from if_pos h8]
    clear hok
    refine row_of Tryz.func13 rfl rfl (Nat.le_of_ble_eq_true rfl) ?_
    repeat' (first | refine aw_seq ?_ | refine aw_skip ?_ | refine aw_block ?_ | refine aw_exit ?_ | refine aw_cond rfl (fun _ => ?_) (fun hb => absurd hb (by decide)) | refine aw_cond rfl (fun hb => absurd hb (by decide)) (fun _ => ?_) | (refine aw_reg (fun K hK => ?_); simp -implicitDefEqProofs [w1, w2, w3, h8]) | (refine aw_drw mixd (fun K hK => ?_); simp -implicitDefEqProofs [w1, w2, w3, h8]) | refine hK _ ?_ | refine hK _ _ (by rfl) ?_ | (refine ar_call (cp c ?_); simp -implicitDefEqProofs [w1, w2, w3, h8]) | (refine ard_call (dp c ?_); simp -implicitDefEqProofs [w1, w2, w3, h8]) | (refine ar_call (cp v ?_); simp -implicitDefEqProofs [w1, w2, w3, h8]) | (refine ard_call (dp v ?_); simp -implicitDefEqProofs [w1, w2, w3, h8]) | (refine ar_call (cp p ?_); simp -implicitDefEqProofs [w1, w2, w3, h8]) | (refine ard_call (dp p ?_); simp -implicitDefEqProofs [w1, w2, w3, h8]) | (refine ar_call (cp f ?_); simp -implicitDefEqProofs [w1, w2, w3, h8]) | (refine ard_call (dp f ?_); simp -implicitDefEqProofs [w1, w2, w3, h8]) | (refine ar_call (cp r ?_); simp -implicitDefEqProofs [w1, w2, w3, h8]) | (refine ard_call (dp r ?_); simp -implicitDefEqProofs [w1, w2, w3, h8]) | (refine ar_call (cp o ?_); simp -implicitDefEqProofs [w1, w2, w3, h8]) | (refine ard_call (dp o ?_); simp -implicitDefEqProofs [w1, w2, w3, h8]) | (refine ar_call (cp s ?_); simp -implicitDefEqProofs [w1, w2, w3, h8]) | (refine ard_call (dp s ?_); simp -implicitDefEqProofs [w1, w2, w3, h8]) | (refine ar_call (cp fl ?_); simp -implicitDefEqProofs [w1, w2, w3, h8]) | (refine ard_call (dp fl ?_); simp -implicitDefEqProofs [w1, w2, w3, h8]) | fail)
    refine aw_ret (fin_ret ?_); simp -implicitDefEqProofs [FinP, resV, resT, z0] <;> try rfl
  subst h8
  have m := rmk_row ts hl i d2 30 0 xs d1 (by omega) hle.2
  rw [show finC ts i 30 xs (d1, d2, 0) = mk7 ts i d2 30 0 xs d1 from if_neg (by simp)]
  clear hok
  refine row_of Tryz.func13 rfl rfl (Nat.le_of_ble_eq_true rfl) ?_
  repeat' (first | refine aw_seq ?_ | refine aw_skip ?_ | refine aw_block ?_ | refine aw_exit ?_ | refine aw_cond rfl (fun _ => ?_) (fun hb => absurd hb (by decide)) | refine aw_cond rfl (fun hb => absurd hb (by decide)) (fun _ => ?_) | (refine aw_reg (fun K hK => ?_); simp -implicitDefEqProofs [w1, w2, w3, hlt1, hx, hx', tn, t0]) | (refine aw_drw mixd (fun K hK => ?_); simp -implicitDefEqProofs [w1, w2, w3, hlt1, hx, hx', tn, t0]) | refine hK _ ?_ | refine hK _ _ (by rfl) ?_ | (refine ar_call (cp c ?_); simp -implicitDefEqProofs [w1, w2, w3, hlt1, hx, hx', tn, t0]) | (refine ard_call (dp c ?_); simp -implicitDefEqProofs [w1, w2, w3, hlt1, hx, hx', tn, t0]) | (refine ar_call (cp v ?_); simp -implicitDefEqProofs [w1, w2, w3, hlt1, hx, hx', tn, t0]) | (refine ard_call (dp v ?_); simp -implicitDefEqProofs [w1, w2, w3, hlt1, hx, hx', tn, t0]) | (refine ar_call (cp p ?_); simp -implicitDefEqProofs [w1, w2, w3, hlt1, hx, hx', tn, t0]) | (refine ard_call (dp p ?_); simp -implicitDefEqProofs [w1, w2, w3, hlt1, hx, hx', tn, t0]) | (refine ar_call (cp f ?_); simp -implicitDefEqProofs [w1, w2, w3, hlt1, hx, hx', tn, t0]) | (refine ard_call (dp f ?_); simp -implicitDefEqProofs [w1, w2, w3, hlt1, hx, hx', tn, t0]) | (refine ar_call (cp r ?_); simp -implicitDefEqProofs [w1, w2, w3, hlt1, hx, hx', tn, t0]) | (refine ard_call (dp r ?_); simp -implicitDefEqProofs [w1, w2, w3, hlt1, hx, hx', tn, t0]) | (refine ar_call (cp o ?_); simp -implicitDefEqProofs [w1, w2, w3, hlt1, hx, hx', tn, t0]) | (refine ard_call (dp o ?_); simp -implicitDefEqProofs [w1, w2, w3, hlt1, hx, hx', tn, t0]) | (refine ar_call (cp s ?_); simp -implicitDefEqProofs [w1, w2, w3, hlt1, hx, hx', tn, t0]) | (refine ard_call (dp s ?_); simp -implicitDefEqProofs [w1, w2, w3, hlt1, hx, hx', tn, t0]) | (refine ar_call (cp fl ?_); simp -implicitDefEqProofs [w1, w2, w3, hlt1, hx, hx', tn, t0]) | (refine ard_call (dp fl ?_); simp -implicitDefEqProofs [w1, w2, w3, hlt1, hx, hx', tn, t0]) | (refine ar_call (cp m ?_); simp -implicitDefEqProofs [w1, w2, w3, hlt1, hx, hx', tn, t0]) | (refine ard_call (dp m ?_); simp -implicitDefEqProofs [w1, w2, w3, hlt1, hx, hx', tn, t0]) | fail)
  refine aw_ret (fin_ret ?_); simp -implicitDefEqProofs [FinP, resV, resT, mk7] <;> try rfl
end
end Go.Proofs.YtlkggpjdaaglmaaGreatDoor.am
end
section
namespace Go.Proofs.YtlkggpjdaaglmaaGreatDoor.am
open Go.ChangeShapes Go.WideShapes Go.ChangeAt Go.RowKit
open vt
set_option linter.unusedVariables false
set_option linter.unusedSimpArgs false
set_option maxRecDepth 100000 in
set_option maxHeartbeats 4000000 in
theorem rdepth_row (t : VT) : t.size ≤ 1000000 → Row Tryz.prog 14 [vT t] [] (vI (dpt t : Nat)) [] := by
  induction t using Tr.ind with
  | h x l ih =>
  intro hs
  have hlen : l.length ≤ 1000000 := by have := Tr.len_size (x := x) (l := l); omega
  have hd : dpt (.mk x l) = dmx l l.length + 1 := by rw [dpt_mk]; unfold dmx; rw [List.take_length]
  rw [hd]
  have hmx : ∀ k, dmx l k ≤ 1000000 := fun k => by have := dmx_le (x := x) (l := l) k; omega
  refine row_of Tryz.func14 rfl rfl (Nat.le_of_ble_eq_true rfl) ?_
  repeat (first | refine aw_seq ?_ | refine aw_skip ?_ | refine aw_block ?_ | refine aw_exit ?_ | refine aw_cond rfl (fun _ => ?_) (fun hb => absurd hb (by decide)) | refine aw_cond rfl (fun hb => absurd hb (by decide)) (fun _ => ?_) | (refine aw_reg (fun K hK => ?_); simp -implicitDefEqProofs; refine hK _ ?_) | (refine aw_drw mixd (fun K hK => ?_); simp -implicitDefEqProofs; refine hK _ _ (by rfl) ?_) | fail)
  refine aw_lp (ι := Nat) (fun k => mkSt [(1, .v (.c (.ptr 0 0))), (3, vI (dmx l k : Nat)), (4, vI (k : Nat))] [some (.box ((tc (.mk x l)).map .pv))]) (fun k => k ≤ l.length) (fun k => l.length - k) 0 (Nat.zero_le _) (cov_intro [0] (by simp -implicitDefEqProofs [dmx]) (by simp -implicitDefEqProofs [dmx]) (by decide) rfl (by simp)) (fun Z hI k hk => ?_)
  by_cases hkl : k < l.length; rotate_left
  · have : k = l.length := by omega
    subst this
    have w3 : IntKind.i64.wrap ((dmx l l.length : Nat) + 1 : Int) = (dmx l l.length : Nat) + 1 := i64i _ (by have := hmx l.length; omega) (by have := hmx l.length; omega)
    repeat (first | refine aw_seq ?_ | refine aw_skip ?_ | refine aw_block ?_ | refine aw_exit ?_ | refine aw_cond rfl (fun _ => ?_) (fun hb => absurd hb (by decide)) | refine aw_cond rfl (fun hb => absurd hb (by decide)) (fun _ => ?_) | (refine aw_reg (fun K hK => ?_); simp -implicitDefEqProofs [hkl, w3]; refine hK _ ?_) | (refine aw_drw mixd (fun K hK => ?_); simp -implicitDefEqProofs [hkl, w3]; refine hK _ _ (by rfl) ?_) | fail)
    refine aw_ret (fin_ret ?_); simp -implicitDefEqProofs [FinP, resV, resT] <;> try rfl
  obtain ⟨y, hy⟩ : ∃ y, l[k]? = some y := ⟨_, List.getElem?_eq_getElem hkl⟩
  have hy' := (List.getElem?_eq_some_iff.1 hy).2
  have hm := List.mem_of_getElem? hy
  have hq := ih y hm (by have := Tr.size_at (x := x) hy; omega)
  have hn := dmx_succ hy
  obtain ⟨p, hp⟩ : ∃ p, dmx l k = p := ⟨_, rfl⟩
  obtain ⟨d, hdd⟩ : ∃ d, dpt y = d := ⟨_, rfl⟩
  rw [hp, hdd] at hn
  rw [hdd] at hq
  rw [hp]
  obtain ⟨⟨yk, yn, ys, yf, yt⟩, yl⟩ := y
  have w2 : IntKind.i64.wrap ((k : Nat) + 1 : Int) = (k : Nat) + 1 := i64i _ (by omega) (by omega)
  by_cases hlt : p < d
  · have hlt' : (p : Int) < d := by omega
    rw [Nat.max_eq_right (by omega)] at hn
    clear ih hp hdd hm hd hmx
    repeat' (first | refine aw_seq ?_ | refine aw_skip ?_ | refine aw_block ?_ | refine aw_exit ?_ | refine aw_cond rfl (fun _ => ?_) (fun hb => absurd hb (by decide)) | refine aw_cond rfl (fun hb => absurd hb (by decide)) (fun _ => ?_) | (refine aw_reg (fun K hK => ?_); simp -implicitDefEqProofs [hkl, hy, hy', hlt, hlt', w2]) | (refine aw_drw mixd (fun K hK => ?_); simp -implicitDefEqProofs [hkl, hy, hy', hlt, hlt', w2]) | refine hK _ ?_ | refine hK _ _ (by rfl) ?_ | (refine ar_call (cp hq ?_); simp -implicitDefEqProofs [hkl, hy, hy', hlt, hlt', w2]) | (refine ard_call (dp hq ?_); simp -implicitDefEqProofs [hkl, hy, hy', hlt, hlt', w2]) | fail)
    refine ⟨k + 1, by omega, (by dsimp only; omega), ?_⟩; rw [hI]; exact cov_intro [0] (by simp -implicitDefEqProofs [hn]) (by simp -implicitDefEqProofs [hn]) (by decide) rfl (by simp)
  · have hlt' : ¬ (p : Int) < d := by omega
    rw [Nat.max_eq_left (by omega)] at hn
    clear ih hp hdd hm hd hmx
    repeat' (first | refine aw_seq ?_ | refine aw_skip ?_ | refine aw_block ?_ | refine aw_exit ?_ | refine aw_cond rfl (fun _ => ?_) (fun hb => absurd hb (by decide)) | refine aw_cond rfl (fun hb => absurd hb (by decide)) (fun _ => ?_) | (refine aw_reg (fun K hK => ?_); simp -implicitDefEqProofs [hkl, hy, hy', hlt, hlt', w2]) | (refine aw_drw mixd (fun K hK => ?_); simp -implicitDefEqProofs [hkl, hy, hy', hlt, hlt', w2]) | refine hK _ ?_ | refine hK _ _ (by rfl) ?_ | (refine ar_call (cp hq ?_); simp -implicitDefEqProofs [hkl, hy, hy', hlt, hlt', w2]) | (refine ard_call (dp hq ?_); simp -implicitDefEqProofs [hkl, hy, hy', hlt, hlt', w2]) | fail)
    refine ⟨k + 1, by omega, (by dsimp only; omega), ?_⟩; rw [hI]; exact cov_intro [0] (by simp -implicitDefEqProofs [hn]) (by simp -implicitDefEqProofs [hn]) (by decide) rfl (by simp)
set_option maxRecDepth 100000 in
set_option maxHeartbeats 4000000 in
theorem ruparse_row (s : ByteArray) (hs : s.size ≤ 8000) : Row Tryz.prog 6 [vS s] [] (vT3i (unitG s)) [] := by
  have tk := rtokens_row s (by omega)
  unfold unitG
  by_cases h0 : (tokG s).2.2 = 0; rotate_left
  · rw [if_pos h0]
    obtain ⟨⟨ts, p, e⟩, ht⟩ : ∃ r, tokG s = r := ⟨_, rfl⟩
    rw [ht] at tk h0 ⊢
    dsimp only at h0 ⊢
    clear ht
    refine row_of Tryz.func6 rfl rfl (Nat.le_of_ble_eq_true rfl) ?_
    repeat' (first | refine aw_seq ?_ | refine aw_skip ?_ | refine aw_block ?_ | refine aw_exit ?_ | refine aw_cond rfl (fun _ => ?_) (fun hb => absurd hb (by decide)) | refine aw_cond rfl (fun hb => absurd hb (by decide)) (fun _ => ?_) | (refine aw_reg (fun K hK => ?_); simp -implicitDefEqProofs [h0]) | (refine aw_drw mixd (fun K hK => ?_); simp -implicitDefEqProofs [h0]) | refine hK _ ?_ | refine hK _ _ (by rfl) ?_ | (refine ar_call (cp tk ?_); simp -implicitDefEqProofs [h0]) | (refine ard_call (dp tk ?_); simp -implicitDefEqProofs [h0]) | fail)
    refine aw_ret (fin_ret ?_); simp -implicitDefEqProofs [FinP, resV, resT, z0] <;> try rfl
  rw [if_neg (by simp [h0])]
  have hok := tok_ok h0
  obtain ⟨⟨ts, p, e⟩, ht⟩ : ∃ r, tokG s = r := ⟨_, rfl⟩
  rw [ht] at tk h0 hok ⊢
  dsimp only at h0 hok ⊢
  subst h0
  clear ht
  have hlen := tok_len hok
  unfold modG
  have hsz := mod_sz (ts := ts) s (ts.length + 1)
  have h0 : InvU ts (lpU ts (ts.length + 1) 0 []) (ts.length + 1, 0, []) := ⟨rfl, by dsimp only; omega, by dsimp only; omega, by simp, by simp [sm]⟩
  obtain ⟨C, hC⟩ : ∃ C, lpU ts (ts.length + 1) 0 [] = C := ⟨_, rfl⟩
  rw [hC] at hsz h0 ⊢
  clear hC
  refine row_of Tryz.func6 rfl rfl (Nat.le_of_ble_eq_true rfl) ?_
  repeat' (first | refine aw_seq ?_ | refine aw_skip ?_ | refine aw_block ?_ | refine aw_exit ?_ | refine aw_cond rfl (fun _ => ?_) (fun hb => absurd hb (by decide)) | refine aw_cond rfl (fun hb => absurd hb (by decide)) (fun _ => ?_) | (refine aw_reg (fun K hK => ?_); simp -implicitDefEqProofs) | (refine aw_drw mixd (fun K hK => ?_); simp -implicitDefEqProofs) | refine hK _ ?_ | refine hK _ _ (by rfl) ?_ | (refine ar_call (cp tk ?_); simp -implicitDefEqProofs) | (refine ard_call (dp tk ?_); simp -implicitDefEqProofs) | fail)
  refine aw_lp (ι := Nat × Nat × List VT) (fun x => mkSt [(0, vS s), (2, .v (.c (.ptr 0 0))), (3, vI 0), (4, vI 0), (5, vKs ts), (8, .v (.c (.row 1 6 (x.2.2.map tc)))), (9, vI (x.2.1 : Nat))] [some zTb, some (.row 25 6)]) (InvU ts C) (fun x => x.1) (ts.length + 1, 0, []) h0 (cov_intro [0, 21] (by simp -implicitDefEqProofs) (by simp -implicitDefEqProofs) (by decide) rfl (by simp)) (fun Z hI x hx => ?_)
  clear h0 tk
  obtain ⟨m, i, acc⟩ := x
  have hle := hx.le
  have hfu := hx.fuel
  have hfew := hx.few
  dsimp only at hle hfu hfew ⊢
  obtain ⟨m, rfl⟩ : ∃ k, m = k + 1 := ⟨m - 1, by omega⟩
  have wl : IntKind.i64.wrap ((ts.length : Int) - 1) = (ts.length : Int) - 1 := i64i _ (by omega) (by omega)
  by_cases hnl : ts.length ≤ i + 1
  · have y1 := hx.eq
    dsimp only at y1
    rw [lpU, if_pos hnl] at y1
    subst y1
    have g1 : ¬ (i : Int) < (ts.length : Int) - 1 := by omega
    dsimp only at hsz ⊢
    rw [if_neg (by simp)]
    have dep := rdepth_row (modT s acc) (by omega)
    obtain ⟨d, hd⟩ : ∃ d, dpt (modT s acc) = d := ⟨_, rfl⟩
    rw [hd] at dep ⊢
    unfold modT at dep ⊢
    clear hx hsz hok
    by_cases h6 : 64 < acc.length
    · rw [if_pos h6]
      have h6' : (64 : Int) < acc.length := by omega
      repeat' (first | refine aw_seq ?_ | refine aw_skip ?_ | refine aw_block ?_ | refine aw_exit ?_ | refine aw_cond rfl (fun _ => ?_) (fun hb => absurd hb (by decide)) | refine aw_cond rfl (fun hb => absurd hb (by decide)) (fun _ => ?_) | (refine aw_reg (fun K hK => ?_); simp -implicitDefEqProofs [wl, g1, h6, h6']) | (refine aw_drw mixd (fun K hK => ?_); simp -implicitDefEqProofs [wl, g1, h6, h6']) | refine hK _ ?_ | refine hK _ _ (by rfl) ?_ | (refine ar_call (cp dep ?_); simp -implicitDefEqProofs [wl, g1, h6, h6']) | (refine ard_call (dp dep ?_); simp -implicitDefEqProofs [wl, g1, h6, h6']) | fail)
      refine aw_ret (fin_ret ?_); simp -implicitDefEqProofs [FinP, resV, resT, z0] <;> try rfl
    rw [if_neg h6]
    have h6' : ¬ (64 : Int) < acc.length := by omega
    by_cases h7 : 64 < d
    · rw [if_pos h7]
      have h7' : (64 : Int) < d := by omega
      repeat' (first | refine aw_seq ?_ | refine aw_skip ?_ | refine aw_block ?_ | refine aw_exit ?_ | refine aw_cond rfl (fun _ => ?_) (fun hb => absurd hb (by decide)) | refine aw_cond rfl (fun hb => absurd hb (by decide)) (fun _ => ?_) | (refine aw_reg (fun K hK => ?_); simp -implicitDefEqProofs [wl, g1, h6, h6', h7, h7']) | (refine aw_drw mixd (fun K hK => ?_); simp -implicitDefEqProofs [wl, g1, h6, h6', h7, h7']) | refine hK _ ?_ | refine hK _ _ (by rfl) ?_ | (refine ar_call (cp dep ?_); simp -implicitDefEqProofs [wl, g1, h6, h6', h7, h7']) | (refine ard_call (dp dep ?_); simp -implicitDefEqProofs [wl, g1, h6, h6', h7, h7']) | fail)
      refine aw_ret (fin_ret ?_); simp -implicitDefEqProofs [FinP, resV, resT, z0] <;> try rfl
    · rw [if_neg h7]
      have h7' : ¬ (64 : Int) < d := by omega
      repeat' (first | refine aw_seq ?_ | refine aw_skip ?_ | refine aw_block ?_ | refine aw_exit ?_ | refine aw_cond rfl (fun _ => ?_) (fun hb => absurd hb (by decide)) | refine aw_cond rfl (fun hb => absurd hb (by decide)) (fun _ => ?_) | (refine aw_reg (fun K hK => ?_); simp -implicitDefEqProofs [wl, g1, h6, h6', h7, h7']) | (refine aw_drw mixd (fun K hK => ?_); simp -implicitDefEqProofs [wl, g1, h6, h6', h7, h7']) | refine hK _ ?_ | refine hK _ _ (by rfl) ?_ | (refine ar_call (cp dep ?_); simp -implicitDefEqProofs [wl, g1, h6, h6', h7, h7']) | (refine ard_call (dp dep ?_); simp -implicitDefEqProofs [wl, g1, h6, h6', h7, h7']) | fail)
      refine aw_ret (fin_ret ?_); simp -implicitDefEqProofs [FinP, resV, resT] <;> try rfl
  · have g1 : (i : Int) < (ts.length : Int) - 1 := by omega
    have dc := rdecl_row ts (by omega) i (by omega)
    have ha := decl_ahead hok hle
    have y1 := hx.eq
    dsimp only at y1
    rw [lpU, if_neg hnl] at y1
    have nx := fun h => invU_next hok hx hnl h
    obtain ⟨⟨⟨px, pl⟩, j, e2⟩, hd⟩ : ∃ r, declG ts i = r := ⟨_, rfl⟩
    rw [hd] at dc ha nx y1
    dsimp only at ha nx y1
    by_cases he : e2 = 0; rotate_left
    · rw [if_pos he] at y1
      subst y1
      have hjl : j < ts.length := by omega
      obtain ⟨y, hy⟩ : ∃ y, ts[j]? = some y := ⟨_, List.getElem?_eq_getElem hjl⟩
      have hy' := (List.getElem?_eq_some_iff.1 hy).2
      rw [if_pos he]
      rw [show frT ts j = y.f by unfold frT; rw [nxt_some hy]]
      clear hx nx hok hsz hd
      repeat' (first | refine aw_seq ?_ | refine aw_skip ?_ | refine aw_block ?_ | refine aw_exit ?_ | refine aw_cond rfl (fun _ => ?_) (fun hb => absurd hb (by decide)) | refine aw_cond rfl (fun hb => absurd hb (by decide)) (fun _ => ?_) | (refine aw_reg (fun K hK => ?_); simp -implicitDefEqProofs [wl, g1, he, hjl, hy, hy']) | (refine aw_drw mixd (fun K hK => ?_); simp -implicitDefEqProofs [wl, g1, he, hjl, hy, hy']) | refine hK _ ?_ | refine hK _ _ (by rfl) ?_ | (refine ar_call (cp dc ?_); simp -implicitDefEqProofs [wl, g1, he, hjl, hy, hy']) | (refine ard_call (dp dc ?_); simp -implicitDefEqProofs [wl, g1, he, hjl, hy, hy']) | fail)
      refine aw_ret (fin_ret ?_); simp -implicitDefEqProofs [FinP, resV, resT, z0] <;> try rfl
    · subst he
      have nx := nx rfl
      have b1 : (acc.length + 1) * 72 ≤ 140737488355328 := by omega
      have b2 : acc.length + 1 ≤ 140737488355328 := by omega
      clear hx hok hsz hd y1
      repeat' (first | refine aw_seq ?_ | refine aw_skip ?_ | refine aw_block ?_ | refine aw_exit ?_ | refine aw_cond rfl (fun _ => ?_) (fun hb => absurd hb (by decide)) | refine aw_cond rfl (fun hb => absurd hb (by decide)) (fun _ => ?_) | (refine aw_reg (fun K hK => ?_); simp -implicitDefEqProofs [wl, g1, b1, b2]) | (refine aw_drw mixd (fun K hK => ?_); simp -implicitDefEqProofs [wl, g1, b1, b2]) | refine hK _ ?_ | refine hK _ _ (by rfl) ?_ | (refine ar_call (cp dc ?_); simp -implicitDefEqProofs [wl, g1, b1, b2]) | (refine ard_call (dp dc ?_); simp -implicitDefEqProofs [wl, g1, b1, b2]) | fail)
      refine ⟨(_, _, _), nx, (by dsimp only; omega), ?_⟩; rw [hI]; exact cov_intro [0, 26] (by simp -implicitDefEqProofs) (by simp -implicitDefEqProofs) (by decide) rfl (by simp)
end Go.Proofs.YtlkggpjdaaglmaaGreatDoor.am
end
section
namespace Go.Proofs.YtlkggpjdaaglmaaGreatDoor.am
open Go.ChangeShapes Go.WideShapes Go.ChangeAt Go.RowKit
open vt
set_option linter.unusedVariables false
set_option linter.unusedSimpArgs false
set_option maxRecDepth 100000 in
set_option maxHeartbeats 4000000 in
theorem ptype_row (LL : List (Nat × Array Value)) (hLL : LibN LL) {t : VT} {W : List ByteArray} (hW : WT t W) (hL : W.length ≤ 1000000) (hs : (J W).size ≤ 1000000000) : Row Tryz.prog 11 [vT t] [.lib LL] (vS (J W)) [some (.lib LL)] := by
  have e := textg_row LL 28 t W (wt_ne hW) hL hs (ptyp_row LL hLL hW [] (by simp; omega))
  refine row_of Tryz.func11 rfl rfl (Nat.le_of_ble_eq_true rfl) ?_
  repeat' (first | refine aw_seq ?_ | refine aw_skip ?_ | refine aw_block ?_ | refine aw_exit ?_ | refine aw_cond rfl (fun _ => ?_) (fun hb => absurd hb (by decide)) | refine aw_cond rfl (fun hb => absurd hb (by decide)) (fun _ => ?_) | (refine aw_reg (fun K hK => ?_); simp -implicitDefEqProofs) | (refine aw_drw mixd (fun K hK => ?_); simp -implicitDefEqProofs) | refine hK _ ?_ | refine hK _ _ (by rfl) ?_ | (refine ar_call (cb e 0 ?_); simp -implicitDefEqProofs) | (refine ard_call (db e 0 ?_); simp -implicitDefEqProofs) | fail)
  refine aw_ret (fin_box ?_); simp -implicitDefEqProofs [FinB, resV, resT] <;> try rfl
set_option maxRecDepth 100000 in
set_option maxHeartbeats 4000000 in
theorem awake10_row (LL : List (Nat × Array Value)) (hLL : LibN LL) : Row Tryz.prog 5 [] [.lib LL] (vB true) [some (.lib LL)] := by
  have e := ptype_row LL hLL (.int ⟨1, 0, ⟨#[]⟩, 0, 0⟩ rfl) (by decide) (by rw [J_one]; decide)
  rw [J_one] at e
  refine row_of Tryz.func5 rfl rfl (Nat.le_of_ble_eq_true rfl) ?_
  repeat' (first | refine aw_seq ?_ | refine aw_skip ?_ | refine aw_block ?_ | refine aw_exit ?_ | refine aw_cond rfl (fun _ => ?_) (fun hb => absurd hb (by decide)) | refine aw_cond rfl (fun hb => absurd hb (by decide)) (fun _ => ?_) | (refine aw_reg (fun K hK => ?_); simp -implicitDefEqProofs) | (refine aw_drw mixd (fun K hK => ?_); simp -implicitDefEqProofs) | refine hK _ ?_ | refine hK _ _ (by rfl) ?_ | (refine ar_call (cb e 0 ?_); simp -implicitDefEqProofs) | (refine ard_call (db e 0 ?_); simp -implicitDefEqProofs) | fail)
  refine aw_ret (fin_box ?_); simp -implicitDefEqProofs [FinB, resV, resT] <;> try rfl
theorem unit_szP (s : ByteArray) (hs : s.size ≤ 8000) : (unitG s).1.size ≤ 9000 := by
  have hz : Tr.size z0 = 1 := by simp [z0, Tr.size_mk]
  unfold unitG
  split
  · rw [hz]; decide
  · rename_i h
    have h : (tokG s).2.2 = 0 := by simpa using h
    have h1 := tok_len (tok_ok h)
    have h2 := mod_sz (ts := (tokG s).1) s ((tokG s).1.length + 1)
    unfold modG
    split
    · rw [hz]; decide
    split
    · rw [hz]; decide
    split
    · rw [hz]; decide
    · dsimp only; omega
theorem unit_few (s : ByteArray) {x : Lab} {l : List VT} (h : (unitG s).1 = .mk x l) : l.length ≤ 64 := by
  have hz : ∀ {x l}, z0 = .mk x l → l.length ≤ 64 := fun {x l} e => by
    obtain ⟨rfl, rfl⟩ := (Tr.mk.injEq _ _ _ _).mp e
    exact Nat.zero_le _
  unfold unitG at h
  split at h
  · exact hz h
  unfold modG at h
  split at h
  · exact hz h
  split at h
  · exact hz h
  rename_i hn
  split at h
  · exact hz h
  · obtain ⟨rfl, rfl⟩ := (Tr.mk.injEq _ _ _ _).mp h
    omega
set_option maxRecDepth 100000 in
set_option maxHeartbeats 4000000 in
theorem law_ptexts_row (LL : List (Nat × Array Value)) (hLL : LibN LL) (s : ByteArray) : Row Tryz.prog 3 [vS s] [.lib LL] (vB true) [some (.lib LL)] := by
  have haw := awake10_row LL hLL
  by_cases h3 : 2000 < s.size
  · have h3' : (2000 : Int) < s.size := by omega
    refine row_of Tryz.func3 rfl rfl (Nat.le_of_ble_eq_true rfl) ?_
    repeat' (first | refine aw_seq ?_ | refine aw_skip ?_ | refine aw_block ?_ | refine aw_exit ?_ | refine aw_cond rfl (fun _ => ?_) (fun hb => absurd hb (by decide)) | refine aw_cond rfl (fun hb => absurd hb (by decide)) (fun _ => ?_) | (refine aw_reg (fun K hK => ?_); simp -implicitDefEqProofs [h3, h3']) | (refine aw_drw mixd (fun K hK => ?_); simp -implicitDefEqProofs [h3, h3']) | refine hK _ ?_ | refine hK _ _ (by rfl) ?_ | (refine ar_call (cb haw 0 ?_); simp -implicitDefEqProofs [h3, h3']) | (refine ard_call (db haw 0 ?_); simp -implicitDefEqProofs [h3, h3']) | fail)
    refine aw_ret (fin_box ?_); simp -implicitDefEqProofs [FinB, resV, resT] <;> try rfl
  have h3' : ¬ (2000 : Int) < s.size := by omega
  have h := ruparse_row s (by omega)
  have hz := unit_szP s (by omega)
  have hF := fun x l e => @unit_dx s x l e
  have hN := fun x l e => @unit_few s x l e
  obtain ⟨⟨⟨mx, ml⟩, a, e⟩, hr⟩ : ∃ r, unitG s = r := ⟨_, rfl⟩
  rw [hr] at h hz hF hN
  dsimp only at hz hF hN
  have hF := hF mx ml rfl
  have hN := hN mx ml rfl
  clear hr
  by_cases he : e = 0; rotate_left
  · refine row_of Tryz.func3 rfl rfl (Nat.le_of_ble_eq_true rfl) ?_
    repeat' (first | refine aw_seq ?_ | refine aw_skip ?_ | refine aw_block ?_ | refine aw_exit ?_ | refine aw_cond rfl (fun _ => ?_) (fun hb => absurd hb (by decide)) | refine aw_cond rfl (fun hb => absurd hb (by decide)) (fun _ => ?_) | (refine aw_reg (fun K hK => ?_); simp -implicitDefEqProofs [h3, h3', he]) | (refine aw_drw mixd (fun K hK => ?_); simp -implicitDefEqProofs [h3, h3', he]) | refine hK _ ?_ | refine hK _ _ (by rfl) ?_ | (refine ar_call (cp h ?_); simp -implicitDefEqProofs [h3, h3', he]) | (refine ard_call (dp h ?_); simp -implicitDefEqProofs [h3, h3', he]) | (refine ar_call (cb haw 0 ?_); simp -implicitDefEqProofs [h3, h3', he]) | (refine ard_call (db haw 0 ?_); simp -implicitDefEqProofs [h3, h3', he]) | fail)
    refine aw_ret (fin_box ?_); simp -implicitDefEqProofs [FinB, resV, resT] <;> try rfl
  subst he
  obtain ⟨Ws, w1, w2⟩ := all_words (R := WD) hF
  have w3 : ∀ (i : Nat) t W, ml[i]? = some t → Ws[i]? = some W → WD t W ∧ W.length ≤ 72000 ∧ (J W).size ≤ 819300000 := fun i t W ea eb => by
    have g := w2 i t W ea eb
    have g2 := wd_sml g
    have g3 := Tr.size_at (x := mx) ea
    exact ⟨g, by omega, J_sml g2.1 (by omega)⟩
  have p := ptext_row LL hLL mx ml Ws w1 (by omega) (fun i t W ea eb => by obtain ⟨g1, g2, g3⟩ := w3 i t W ea eb; exact ⟨g1, by omega, by omega⟩)
  have r := rtext_row mx ml Ws w1 (by omega) (fun i t W ea eb => by obtain ⟨g1, g2, g3⟩ := w3 i t W ea eb; exact ⟨g1, by omega, by omega⟩)
  generalize txt Ws = T at p r
  refine row_of Tryz.func3 rfl rfl (Nat.le_of_ble_eq_true rfl) ?_
  repeat' (first | refine aw_seq ?_ | refine aw_skip ?_ | refine aw_block ?_ | refine aw_exit ?_ | refine aw_cond rfl (fun _ => ?_) (fun hb => absurd hb (by decide)) | refine aw_cond rfl (fun hb => absurd hb (by decide)) (fun _ => ?_) | (refine aw_reg (fun K hK => ?_); simp -implicitDefEqProofs [h3, h3']) | (refine aw_drw mixd (fun K hK => ?_); simp -implicitDefEqProofs [h3, h3']) | refine hK _ ?_ | refine hK _ _ (by rfl) ?_ | (refine ar_call (cp h ?_); simp -implicitDefEqProofs [h3, h3']) | (refine ard_call (dp h ?_); simp -implicitDefEqProofs [h3, h3']) | (refine ar_call (cb p 0 ?_); simp -implicitDefEqProofs [h3, h3']) | (refine ard_call (db p 0 ?_); simp -implicitDefEqProofs [h3, h3']) | (refine ar_call (cp r ?_); simp -implicitDefEqProofs [h3, h3']) | (refine ard_call (dp r ?_); simp -implicitDefEqProofs [h3, h3']) | (refine ar_call (cb haw 0 ?_); simp -implicitDefEqProofs [h3, h3']) | (refine ard_call (db haw 0 ?_); simp -implicitDefEqProofs [h3, h3']) | fail)
  refine aw_ret (fin_box ?_); simp -implicitDefEqProofs [FinB, resV, resT] <;> try rfl
end Go.Proofs.YtlkggpjdaaglmaaGreatDoor.am
end
section
namespace Go.Proofs.YtlkggpjdaaglmaaGreatDoor.lx
open Go.ChangeShapes Go.WideShapes Go.ChangeAt Go.RowKit
open bs
set_option linter.unusedVariables false
theorem gl_of_laid {W : World} (h : laidMetH Tryz.prog Rows.printTextsRow.laid W) : Lib.TabIs Tryz.prog W "internal/strconv.uint64pow10" .u64 Lib.pow10Tab := by
  rw [MakeChecks.laidMetH_plain _ _ _ (by kernel_rfl)] at h
  obtain ⟨ps, hl, _, _⟩ := h
  obtain ⟨g0, t0, cs0, f0, p0, q0, hg0, ht0, hv0, hd0, hl, _⟩ := hl
  obtain ⟨g1, t1, cs1, f1, p1, q1, hg1, ht1, hv1, hd1, hl, _⟩ := hl
  obtain ⟨g2, t2, cs2, f2, p2, q2, hg2, ht2, hv2, hd2, hl, _⟩ := hl
  obtain rfl := Option.some.inj ((show Tryz.prog.globalNamed "internal/strconv.uint64pow10" = some 3 by kernel_rfl).symm.trans hg2)
  obtain rfl := Option.some.inj ((show (Tryz.prog.globals[3]?).map (·.type) = some 171 by kernel_rfl).symm.trans ht2)
  have hc2 := Lib.cells_of_tab (k := .u64) (zs := Lib.pow10Tab) Tryz.underlying171 Tryz.underlying150 (by kernel_rfl) (by kernel_rfl) hd2
  have e2 : cs2 = (Lib.pow10Tab.map fun z => Value.int .u64 z).toArray := by rw [← hc2]
  unfold Lib.TabIs; rw [hv2, e2]
end Go.Proofs.YtlkggpjdaaglmaaGreatDoor.lx
end
section
namespace Go.Proofs.YtlkggpjdaaglmaaGreatDoor.am
open Go.ChangeShapes Go.WideShapes Go.ChangeAt Go.RowKit
open vt
set_option linter.unusedVariables false
set_option linter.unusedSimpArgs false
set_option maxRecDepth 100000
end Go.Proofs.YtlkggpjdaaglmaaGreatDoor.am
end
section
namespace Go.Proofs.YtlkggpjdaaglmaaGreatDoor.am
open Go.ChangeShapes Go.WideShapes Go.ChangeAt Go.RowKit
open vt
set_option linter.unusedVariables false
set_option maxRecDepth 100000 in
theorem open_vstring {H : Type} {enc : TypeId × Value → H} {w : World} {r : Reach} {b0 : Nat} {v : Value} {d : DataW H} {p : List MemPlace}
    (hv : Value.okWide Tryz.prog w r b0 9 v) (h : DataW.Trod enc Tryz.prog w 0 (fun _ => true) true 9 v d p) : ∃ s : ByteArray, RepV (fun _ => .un) (oldS w) w v (vS s) ∧ s.size ≤ 9223372036854775807 := by
  obtain ⟨s, rfl, _, _, h1⟩ := Go.ChangeMaps.open_string Tryz.underlying9 hv h
  exact ⟨s, .lit _ rfl, by unfold maxLen at h1; omega⟩
end Go.Proofs.YtlkggpjdaaglmaaGreatDoor.am
end
