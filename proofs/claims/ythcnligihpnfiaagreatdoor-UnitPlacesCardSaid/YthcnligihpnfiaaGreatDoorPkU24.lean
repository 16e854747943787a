import Derived.Test.YthcnligihpnfiaaGreatDoorPkU23
import Derived.Test.YthcnligihpnfiaaGreatDoorPkU20
import Derived.Test.YthcnligihpnfiaaGreatDoorPkU5
import Derived.Test.YthcnligihpnfiaaGreatDoorPkU13
import Derived.Shelf.Strconv.Itoa0
import Derived.Shelf.Strconv.Itoa1
import Derived.Shelf.LaysM
import Derived.Shelf.Strconv.Itoa2
import Derived.Shelf.Strconv.Itoa3
import Derived.Shelf.Strconv.Itoa4
import Derived.Shelf.Strconv.ParseIntEmpty
import Derived.Shelf.Strconv.Clone
import Derived.Shelf.Strconv.SyntaxError
import Derived.Shelf.LaysC
import Derived.Shelf.Strconv.ToError
import Derived.Shelf.Strconv.Lower
import Derived.Shelf.Strconv.ParseUint10
import Derived.Shelf.Strconv.ParseUint10Empty
import Derived.Shelf.Strconv.ParseUint10Any
import Derived.Shelf.Strconv.ParseInt10
import Derived.Shelf.Strconv.RangeError
import Derived.Shelf.Strconv.ToErrorRange
import Derived.Shelf.Strconv.ParseUintEmpty
import Derived.Shelf.Strconv.ParseUint10b64
import Derived.Shelf.Strconv.ParseUint10b32
import Derived.Shelf.Strconv.ParseUint10b16
import Derived.Shelf.Strconv.ParseUint10b8
import Derived.Shelf.Strconv.ParseUint10At
import Derived.Shelf.Strconv.ParseInt10At64
import Derived.Shelf.Strconv.ParseInt10At32
import Derived.Shelf.Strconv.ParseInt10At16
import Derived.Shelf.Strconv.ParseInt10At8
import Derived.Shelf.Strconv.ParseInt10All
import Derived.Shelf.Strconv.ParseIntPublic10
import Derived.Shelf.Strconv.ErrVarParseInt
import Derived.Test.YthcnligihpnfiaaGreatDoorProg
section
namespace Go.Proofs.YthcnligihpnfiaaGreatDoor.am
open Go.ChangeShapes Go.WideShapes Go.ChangeAt Go.RowKit
open vt
set_option linter.unusedVariables false
set_option linter.unusedSimpArgs false
section
variable (ts : List Tok) (hl : ts.length ≤ 1000000000)
include hl
set_option maxRecDepth 100000 in
set_option maxHeartbeats 4000000 in
theorem rdecl_row (i : Nat) (hi : i ≤ ts.length) : Row Tryz.prog 26 [vKs ts, vI i] [] (vG (declG ts i)) [] := by
  have c := word_row ts i wConst
  rw [word_is q_con] at c
  have v := word_row ts i wVar
  rw [word_is q_var] at v
  have p := word_row ts i wPub
  rw [word_is q_pub] at p
  have f := word_row ts i wFn
  rw [word_is q_fn] at f
  have r := word_row ts i wRec
  rw [word_is q_rec] at r
  have w1 : IntKind.i64.wrap ((i : Nat) + 1 : Int) = (i : Nat) + 1 := i64i _ (by omega) (by omega)
  have w2 : IntKind.i64.wrap ((i : Nat) + 2 : Int) = (i : Nat) + 2 := i64i _ (by omega) (by omega)
  have w3 : IntKind.i64.wrap ((i : Nat) + 3 : Int) = (i : Nat) + 3 := i64i _ (by omega) (by omega)
  unfold declG
  by_cases h1 : isK wConst (nxt ts i) = true
  · rw [if_pos h1]
    have s := rshort_row ts hl i (isK_lt h1) true h1 (fun h => by cases h) 31 wConst sIs 3 rfl rfl rfl rfl
    rw [h1] at c
    obtain ⟨⟨⟨nx, nl⟩, nj, ne⟩, hn⟩ : ∃ r, itH ts (R9 ts) i 31 0 [.sgn wConst, .nam, .sgn sIs, .sub 3, .sgn sEnd] i ⟨#[]⟩ [] = r := ⟨_, rfl⟩
    rw [hn] at s ⊢
    clear hn h1
    refine row_of Tryz.func26 rfl rfl (Nat.le_of_ble_eq_true rfl) ?_
    repeat' (first | refine aw_seq ?_ | refine aw_skip ?_ | refine aw_block ?_ | refine aw_exit ?_ | refine aw_cond rfl (fun _ => ?_) (fun hb => absurd hb (by decide)) | refine aw_cond rfl (fun hb => absurd hb (by decide)) (fun _ => ?_) | (refine aw_reg (fun K hK => ?_); simp -implicitDefEqProofs) | (refine aw_drw mixd (fun K hK => ?_); simp -implicitDefEqProofs) | refine hK _ ?_ | refine hK _ _ (by rfl) ?_ | (refine ar_call (cp c ?_); simp -implicitDefEqProofs) | (refine ard_call (dp c ?_); simp -implicitDefEqProofs) | (refine ar_call (cp v ?_); simp -implicitDefEqProofs) | (refine ard_call (dp v ?_); simp -implicitDefEqProofs) | (refine ar_call (cp s ?_); simp -implicitDefEqProofs) | (refine ard_call (dp s ?_); simp -implicitDefEqProofs) | fail)
    refine aw_ret (fin_ret ?_); simp -implicitDefEqProofs [FinP, resV, resT] <;> try rfl
  rw [if_neg h1]
  rw [show isK wConst (nxt ts i) = false by simpa using h1] at c
  by_cases h2 : isK wVar (nxt ts i) = true
  · rw [if_pos h2]
    have s := rshort_row ts hl i (isK_lt h2) false (by simpa using h1) (fun _ => h2) 32 wVar sCol 1 rfl rfl rfl rfl
    rw [h2] at v
    obtain ⟨⟨⟨nx, nl⟩, nj, ne⟩, hn⟩ : ∃ r, itH ts (R9 ts) i 32 0 [.sgn wVar, .nam, .sgn sCol, .sub 1, .sgn sEnd] i ⟨#[]⟩ [] = r := ⟨_, rfl⟩
    rw [hn] at s ⊢
    clear hn h1 h2
    refine row_of Tryz.func26 rfl rfl (Nat.le_of_ble_eq_true rfl) ?_
    repeat' (first | refine aw_seq ?_ | refine aw_skip ?_ | refine aw_block ?_ | refine aw_exit ?_ | refine aw_cond rfl (fun _ => ?_) (fun hb => absurd hb (by decide)) | refine aw_cond rfl (fun hb => absurd hb (by decide)) (fun _ => ?_) | (refine aw_reg (fun K hK => ?_); simp -implicitDefEqProofs) | (refine aw_drw mixd (fun K hK => ?_); simp -implicitDefEqProofs) | refine hK _ ?_ | refine hK _ _ (by rfl) ?_ | (refine ar_call (cp c ?_); simp -implicitDefEqProofs) | (refine ard_call (dp c ?_); simp -implicitDefEqProofs) | (refine ar_call (cp v ?_); simp -implicitDefEqProofs) | (refine ard_call (dp v ?_); simp -implicitDefEqProofs) | (refine ar_call (cp s ?_); simp -implicitDefEqProofs) | (refine ard_call (dp s ?_); simp -implicitDefEqProofs) | fail)
    refine aw_ret (fin_ret ?_); simp -implicitDefEqProofs [FinP, resV, resT] <;> try rfl
  rw [if_neg h2]
  rw [show isK wVar (nxt ts i) = false by simpa using h2] at v
  by_cases h3 : isK wPub (nxt ts i) = true
  · rw [if_pos h3]
    have hlt := isK_lt h3
    have s := rfn_row ts hl i (i + 1) 1 (by omega) hlt
    rw [h3] at p
    rw [itG_sgn, if_pos h3]
    obtain ⟨⟨⟨nx, nl⟩, nj, ne⟩, hn⟩ : ∃ r, itH ts (R9 ts) i 33 1 [.sgn wFn, .nam, .sub 4, .sgn sCol, .sub 1, .sub 2] (i + 1) ⟨#[]⟩ [] = r := ⟨_, rfl⟩
    rw [hn] at s ⊢
    clear hn h1 h2 h3
    refine row_of Tryz.func26 rfl rfl (Nat.le_of_ble_eq_true rfl) ?_
    repeat' (first | refine aw_seq ?_ | refine aw_skip ?_ | refine aw_block ?_ | refine aw_exit ?_ | refine aw_cond rfl (fun _ => ?_) (fun hb => absurd hb (by decide)) | refine aw_cond rfl (fun hb => absurd hb (by decide)) (fun _ => ?_) | (refine aw_reg (fun K hK => ?_); simp -implicitDefEqProofs [w1]) | (refine aw_drw mixd (fun K hK => ?_); simp -implicitDefEqProofs [w1]) | refine hK _ ?_ | refine hK _ _ (by rfl) ?_ | (refine ar_call (cp c ?_); simp -implicitDefEqProofs [w1]) | (refine ard_call (dp c ?_); simp -implicitDefEqProofs [w1]) | (refine ar_call (cp v ?_); simp -implicitDefEqProofs [w1]) | (refine ard_call (dp v ?_); simp -implicitDefEqProofs [w1]) | (refine ar_call (cp p ?_); simp -implicitDefEqProofs [w1]) | (refine ard_call (dp p ?_); simp -implicitDefEqProofs [w1]) | (refine ar_call (cp s ?_); simp -implicitDefEqProofs [w1]) | (refine ard_call (dp s ?_); simp -implicitDefEqProofs [w1]) | fail)
    refine aw_ret (fin_ret ?_); simp -implicitDefEqProofs [FinP, resV, resT] <;> try rfl
  rw [if_neg h3]
  rw [show isK wPub (nxt ts i) = false by simpa using h3] at p
  by_cases h4 : isK wFn (nxt ts i) = true
  · rw [if_pos h4]
    have s := rfn_row ts hl i i 0 (Nat.le_refl i) hi
    rw [h4] at f
    obtain ⟨⟨⟨nx, nl⟩, nj, ne⟩, hn⟩ : ∃ r, itH ts (R9 ts) i 33 0 [.sgn wFn, .nam, .sub 4, .sgn sCol, .sub 1, .sub 2] i ⟨#[]⟩ [] = r := ⟨_, rfl⟩
    rw [hn] at s ⊢
    clear hn h1 h2 h3 h4
    refine row_of Tryz.func26 rfl rfl (Nat.le_of_ble_eq_true rfl) ?_
    repeat' (first | refine aw_seq ?_ | refine aw_skip ?_ | refine aw_block ?_ | refine aw_exit ?_ | refine aw_cond rfl (fun _ => ?_) (fun hb => absurd hb (by decide)) | refine aw_cond rfl (fun hb => absurd hb (by decide)) (fun _ => ?_) | (refine aw_reg (fun K hK => ?_); simp -implicitDefEqProofs) | (refine aw_drw mixd (fun K hK => ?_); simp -implicitDefEqProofs) | refine hK _ ?_ | refine hK _ _ (by rfl) ?_ | (refine ar_call (cp c ?_); simp -implicitDefEqProofs) | (refine ard_call (dp c ?_); simp -implicitDefEqProofs) | (refine ar_call (cp v ?_); simp -implicitDefEqProofs) | (refine ard_call (dp v ?_); simp -implicitDefEqProofs) | (refine ar_call (cp p ?_); simp -implicitDefEqProofs) | (refine ard_call (dp p ?_); simp -implicitDefEqProofs) | (refine ar_call (cp f ?_); simp -implicitDefEqProofs) | (refine ard_call (dp f ?_); simp -implicitDefEqProofs) | (refine ar_call (cp s ?_); simp -implicitDefEqProofs) | (refine ard_call (dp s ?_); simp -implicitDefEqProofs) | fail)
    refine aw_ret (fin_ret ?_); simp -implicitDefEqProofs [FinP, resV, resT] <;> try rfl
  rw [if_neg h4]
  rw [show isK wFn (nxt ts i) = false by simpa using h4] at f
  by_cases h5 : isK wRec (nxt ts i) = true; rotate_left
  · rw [if_neg h5]
    rw [show isK wRec (nxt ts i) = false by simpa using h5] at r
    have bd := bad_row i
    clear h1 h2 h3 h4 h5
    refine row_of Tryz.func26 rfl rfl (Nat.le_of_ble_eq_true rfl) ?_
    repeat' (first | refine aw_seq ?_ | refine aw_skip ?_ | refine aw_block ?_ | refine aw_exit ?_ | refine aw_cond rfl (fun _ => ?_) (fun hb => absurd hb (by decide)) | refine aw_cond rfl (fun hb => absurd hb (by decide)) (fun _ => ?_) | (refine aw_reg (fun K hK => ?_); simp -implicitDefEqProofs) | (refine aw_drw mixd (fun K hK => ?_); simp -implicitDefEqProofs) | refine hK _ ?_ | refine hK _ _ (by rfl) ?_ | (refine ar_call (cp c ?_); simp -implicitDefEqProofs) | (refine ard_call (dp c ?_); simp -implicitDefEqProofs) | (refine ar_call (cp v ?_); simp -implicitDefEqProofs) | (refine ard_call (dp v ?_); simp -implicitDefEqProofs) | (refine ar_call (cp p ?_); simp -implicitDefEqProofs) | (refine ard_call (dp p ?_); simp -implicitDefEqProofs) | (refine ar_call (cp f ?_); simp -implicitDefEqProofs) | (refine ard_call (dp f ?_); simp -implicitDefEqProofs) | (refine ar_call (cp r ?_); simp -implicitDefEqProofs) | (refine ard_call (dp r ?_); simp -implicitDefEqProofs) | (refine ar_call (cp bd ?_); simp -implicitDefEqProofs) | (refine ard_call (dp bd ?_); simp -implicitDefEqProofs) | fail)
    refine aw_ret (fin_ret ?_); simp -implicitDefEqProofs [FinP, resV, resT, bad7, z0] <;> try rfl
  rw [if_pos h5]
  have hlt := isK_lt h5
  rw [h5] at r
  clear h1 h2 h3 h4 h5
  unfold recG
  have o := now_row ts (i + 1)
  by_cases h6 : (nxt ts (i + 1)).k = 1; rotate_left
  · rw [if_neg h6]
    have bd := bad_row (i + 1)
    obtain ⟨⟨xk, xn, xs, xf, xt⟩, hx⟩ : ∃ x, nxt ts (i + 1) = x := ⟨_, rfl⟩
    rw [hx] at o h6
    dsimp only at h6
    clear hx
    refine row_of Tryz.func26 rfl rfl (Nat.le_of_ble_eq_true rfl) ?_
    repeat' (first | refine aw_seq ?_ | refine aw_skip ?_ | refine aw_block ?_ | refine aw_exit ?_ | refine aw_cond rfl (fun _ => ?_) (fun hb => absurd hb (by decide)) | refine aw_cond rfl (fun hb => absurd hb (by decide)) (fun _ => ?_) | (refine aw_reg (fun K hK => ?_); simp -implicitDefEqProofs [h6, w1, w2, w3]) | (refine aw_drw mixd (fun K hK => ?_); simp -implicitDefEqProofs [h6, w1, w2, w3]) | refine hK _ ?_ | refine hK _ _ (by rfl) ?_ | (refine ar_call (cp c ?_); simp -implicitDefEqProofs [h6, w1, w2, w3]) | (refine ard_call (dp c ?_); simp -implicitDefEqProofs [h6, w1, w2, w3]) | (refine ar_call (cp v ?_); simp -implicitDefEqProofs [h6, w1, w2, w3]) | (refine ard_call (dp v ?_); simp -implicitDefEqProofs [h6, w1, w2, w3]) | (refine ar_call (cp p ?_); simp -implicitDefEqProofs [h6, w1, w2, w3]) | (refine ard_call (dp p ?_); simp -implicitDefEqProofs [h6, w1, w2, w3]) | (refine ar_call (cp f ?_); simp -implicitDefEqProofs [h6, w1, w2, w3]) | (refine ard_call (dp f ?_); simp -implicitDefEqProofs [h6, w1, w2, w3]) | (refine ar_call (cp r ?_); simp -implicitDefEqProofs [h6, w1, w2, w3]) | (refine ard_call (dp r ?_); simp -implicitDefEqProofs [h6, w1, w2, w3]) | (refine ar_call (cp o ?_); simp -implicitDefEqProofs [h6, w1, w2, w3]) | (refine ard_call (dp o ?_); simp -implicitDefEqProofs [h6, w1, w2, w3]) | (refine ar_call (cp bd ?_); simp -implicitDefEqProofs [h6, w1, w2, w3]) | (refine ard_call (dp bd ?_); simp -implicitDefEqProofs [h6, w1, w2, w3]) | fail)
    refine aw_ret (fin_ret ?_); simp -implicitDefEqProofs [FinP, resV, resT, bad7, z0] <;> try rfl
  rw [if_pos h6]
  obtain ⟨x, hx, hxn, hxk⟩ := kind_at h6 (by decide)
  have hx' := (List.getElem?_eq_some_iff.1 hx).2
  have hlt1 := (List.getElem?_eq_some_iff.1 hx).1
  rw [hxn] at o ⊢
  obtain ⟨xk, xn, xs, xf, xt⟩ := x
  dsimp only at hxk ⊢
  subst hxk
  clear h6 hxn
  have tn : ((i : Nat) + 1 : Int).toNat = i + 1 := by omega
  have t0 : ((0 : Int) ≤ (i : Nat) + 1) = True := eq_true (by omega)
  have s := sign_row ts (i + 2) sBra
  rw [sign_is q_bra] at s
  by_cases h7 : isK sBra (nxt ts (i + 2)) = true; rotate_left
  · rw [if_neg h7]
    rw [show isK sBra (nxt ts (i + 2)) = false by simpa using h7] at s
    have bd := bad_row (i + 2)
    clear h7
    refine row_of Tryz.func26 rfl rfl (Nat.le_of_ble_eq_true rfl) ?_
    repeat' (first | refine aw_seq ?_ | refine aw_skip ?_ | refine aw_block ?_ | refine aw_exit ?_ | refine aw_cond rfl (fun _ => ?_) (fun hb => absurd hb (by decide)) | refine aw_cond rfl (fun hb => absurd hb (by decide)) (fun _ => ?_) | (refine aw_reg (fun K hK => ?_); simp -implicitDefEqProofs [w1, w2, w3]) | (refine aw_drw mixd (fun K hK => ?_); simp -implicitDefEqProofs [w1, w2, w3]) | refine hK _ ?_ | refine hK _ _ (by rfl) ?_ | (refine ar_call (cp c ?_); simp -implicitDefEqProofs [w1, w2, w3]) | (refine ard_call (dp c ?_); simp -implicitDefEqProofs [w1, w2, w3]) | (refine ar_call (cp v ?_); simp -implicitDefEqProofs [w1, w2, w3]) | (refine ard_call (dp v ?_); simp -implicitDefEqProofs [w1, w2, w3]) | (refine ar_call (cp p ?_); simp -implicitDefEqProofs [w1, w2, w3]) | (refine ard_call (dp p ?_); simp -implicitDefEqProofs [w1, w2, w3]) | (refine ar_call (cp f ?_); simp -implicitDefEqProofs [w1, w2, w3]) | (refine ard_call (dp f ?_); simp -implicitDefEqProofs [w1, w2, w3]) | (refine ar_call (cp r ?_); simp -implicitDefEqProofs [w1, w2, w3]) | (refine ard_call (dp r ?_); simp -implicitDefEqProofs [w1, w2, w3]) | (refine ar_call (cp o ?_); simp -implicitDefEqProofs [w1, w2, w3]) | (refine ard_call (dp o ?_); simp -implicitDefEqProofs [w1, w2, w3]) | (refine ar_call (cp s ?_); simp -implicitDefEqProofs [w1, w2, w3]) | (refine ard_call (dp s ?_); simp -implicitDefEqProofs [w1, w2, w3]) | (refine ar_call (cp bd ?_); simp -implicitDefEqProofs [w1, w2, w3]) | (refine ard_call (dp bd ?_); simp -implicitDefEqProofs [w1, w2, w3]) | fail)
    refine aw_ret (fin_ret ?_); simp -implicitDefEqProofs [FinP, resV, resT, bad7, z0] <;> try rfl
  rw [if_pos h7]
  have hlt2 := isK_lt h7
  rw [h7] at s
  have fl := rfields_row ts hl (i + 3) (by omega)
  have hok := lpF_ok (ts := ts) (ts.length + 1) (i + 3) [] (by omega)
  obtain ⟨⟨d1, d2, d3⟩, hd⟩ : ∃ r, lpF ts (ts.length + 1) (i + 3) [] = r := ⟨_, rfl⟩
  rw [hd] at fl hok ⊢
  have hle := hok.le
  dsimp only at hle
  clear h7 hd
  by_cases h8 : d3 = 0; rotate_left
  · rw [show finC ts i 30 xs (d1, d2, d3) = (z0, d2, d3) from if_pos h8]
    clear hok
    refine row_of Tryz.func26 rfl rfl (Nat.le_of_ble_eq_true rfl) ?_
    repeat' (first | refine aw_seq ?_ | refine aw_skip ?_ | refine aw_block ?_ | refine aw_exit ?_ | refine aw_cond rfl (fun _ => ?_) (fun hb => absurd hb (by decide)) | refine aw_cond rfl (fun hb => absurd hb (by decide)) (fun _ => ?_) | (refine aw_reg (fun K hK => ?_); simp -implicitDefEqProofs [w1, w2, w3, h8]) | (refine aw_drw mixd (fun K hK => ?_); simp -implicitDefEqProofs [w1, w2, w3, h8]) | refine hK _ ?_ | refine hK _ _ (by rfl) ?_ | (refine ar_call (cp c ?_); simp -implicitDefEqProofs [w1, w2, w3, h8]) | (refine ard_call (dp c ?_); simp -implicitDefEqProofs [w1, w2, w3, h8]) | (refine ar_call (cp v ?_); simp -implicitDefEqProofs [w1, w2, w3, h8]) | (refine ard_call (dp v ?_); simp -implicitDefEqProofs [w1, w2, w3, h8]) | (refine ar_call (cp p ?_); simp -implicitDefEqProofs [w1, w2, w3, h8]) | (refine ard_call (dp p ?_); simp -implicitDefEqProofs [w1, w2, w3, h8]) | (refine ar_call (cp f ?_); simp -implicitDefEqProofs [w1, w2, w3, h8]) | (refine ard_call (dp f ?_); simp -implicitDefEqProofs [w1, w2, w3, h8]) | (refine ar_call (cp r ?_); simp -implicitDefEqProofs [w1, w2, w3, h8]) | (refine ard_call (dp r ?_); simp -implicitDefEqProofs [w1, w2, w3, h8]) | (refine ar_call (cp o ?_); simp -implicitDefEqProofs [w1, w2, w3, h8]) | (refine ard_call (dp o ?_); simp -implicitDefEqProofs [w1, w2, w3, h8]) | (refine ar_call (cp s ?_); simp -implicitDefEqProofs [w1, w2, w3, h8]) | (refine ard_call (dp s ?_); simp -implicitDefEqProofs [w1, w2, w3, h8]) | (refine ar_call (cp fl ?_); simp -implicitDefEqProofs [w1, w2, w3, h8]) | (refine ard_call (dp fl ?_); simp -implicitDefEqProofs [w1, w2, w3, h8]) | fail)
    refine aw_ret (fin_ret ?_); simp -implicitDefEqProofs [FinP, resV, resT, z0] <;> try rfl
  subst h8
  have m := rmk_row ts hl i d2 30 0 xs d1 (by omega) hle.2
  rw [show finC ts i 30 xs (d1, d2, 0) = mk7 ts i d2 30 0 xs d1 from if_neg (by simp)]
  clear hok
  refine row_of Tryz.func26 rfl rfl (Nat.le_of_ble_eq_true rfl) ?_
  repeat' (first | refine aw_seq ?_ | refine aw_skip ?_ | refine aw_block ?_ | refine aw_exit ?_ | refine aw_cond rfl (fun _ => ?_) (fun hb => absurd hb (by decide)) | refine aw_cond rfl (fun hb => absurd hb (by decide)) (fun _ => ?_) | (refine aw_reg (fun K hK => ?_); simp -implicitDefEqProofs [w1, w2, w3, hlt1, hx, hx', tn, t0]) | (refine aw_drw mixd (fun K hK => ?_); simp -implicitDefEqProofs [w1, w2, w3, hlt1, hx, hx', tn, t0]) | refine hK _ ?_ | refine hK _ _ (by rfl) ?_ | (refine ar_call (cp c ?_); simp -implicitDefEqProofs [w1, w2, w3, hlt1, hx, hx', tn, t0]) | (refine ard_call (dp c ?_); simp -implicitDefEqProofs [w1, w2, w3, hlt1, hx, hx', tn, t0]) | (refine ar_call (cp v ?_); simp -implicitDefEqProofs [w1, w2, w3, hlt1, hx, hx', tn, t0]) | (refine ard_call (dp v ?_); simp -implicitDefEqProofs [w1, w2, w3, hlt1, hx, hx', tn, t0]) | (refine ar_call (cp p ?_); simp -implicitDefEqProofs [w1, w2, w3, hlt1, hx, hx', tn, t0]) | (refine ard_call (dp p ?_); simp -implicitDefEqProofs [w1, w2, w3, hlt1, hx, hx', tn, t0]) | (refine ar_call (cp f ?_); simp -implicitDefEqProofs [w1, w2, w3, hlt1, hx, hx', tn, t0]) | (refine ard_call (dp f ?_); simp -implicitDefEqProofs [w1, w2, w3, hlt1, hx, hx', tn, t0]) | (refine ar_call (cp r ?_); simp -implicitDefEqProofs [w1, w2, w3, hlt1, hx, hx', tn, t0]) | (refine ard_call (dp r ?_); simp -implicitDefEqProofs [w1, w2, w3, hlt1, hx, hx', tn, t0]) | (refine ar_call (cp o ?_); simp -implicitDefEqProofs [w1, w2, w3, hlt1, hx, hx', tn, t0]) | (refine ard_call (dp o ?_); simp -implicitDefEqProofs [w1, w2, w3, hlt1, hx, hx', tn, t0]) | (refine ar_call (cp s ?_); simp -implicitDefEqProofs [w1, w2, w3, hlt1, hx, hx', tn, t0]) | (refine ard_call (dp s ?_); simp -implicitDefEqProofs [w1, w2, w3, hlt1, hx, hx', tn, t0]) | (refine ar_call (cp fl ?_); simp -implicitDefEqProofs [w1, w2, w3, hlt1, hx, hx', tn, t0]) | (refine ard_call (dp fl ?_); simp -implicitDefEqProofs [w1, w2, w3, hlt1, hx, hx', tn, t0]) | (refine ar_call (cp m ?_); simp -implicitDefEqProofs [w1, w2, w3, hlt1, hx, hx', tn, t0]) | (refine ard_call (dp m ?_); simp -implicitDefEqProofs [w1, w2, w3, hlt1, hx, hx', tn, t0]) | fail)
  refine aw_ret (fin_ret ?_); simp -implicitDefEqProofs [FinP, resV, resT, mk7] <;> try rfl
end
end Go.Proofs.YthcnligihpnfiaaGreatDoor.am
end
section
namespace Go.Proofs.YthcnligihpnfiaaGreatDoor.am
open Go.ChangeShapes Go.WideShapes Go.ChangeAt Go.RowKit
open vt
set_option linter.unusedVariables false
set_option linter.unusedSimpArgs false
set_option maxRecDepth 100000 in
set_option maxHeartbeats 4000000 in
theorem rdepth_row (t : VT) : t.size ≤ 1000000 → Row Tryz.prog 27 [vT t] [] (vI (dpt t : Nat)) [] := by
  induction t using Tr.ind with
  | h x l ih =>
  intro hs
  have hlen : l.length ≤ 1000000 := by have := Tr.len_size (x := x) (l := l); omega
  have hd : dpt (.mk x l) = dmx l l.length + 1 := by rw [dpt_mk]; unfold dmx; rw [List.take_length]
  rw [hd]
  have hmx : ∀ k, dmx l k ≤ 1000000 := fun k => by have := dmx_le (x := x) (l := l) k; omega
  refine row_of Tryz.func27 rfl rfl (Nat.le_of_ble_eq_true rfl) ?_
  repeat (first | refine aw_seq ?_ | refine aw_skip ?_ | refine aw_block ?_ | refine aw_exit ?_ | refine aw_cond rfl (fun _ => ?_) (fun hb => absurd hb (by decide)) | refine aw_cond rfl (fun hb => absurd hb (by decide)) (fun _ => ?_) | (refine aw_reg (fun K hK => ?_); simp -implicitDefEqProofs; refine hK _ ?_) | (refine aw_drw mixd (fun K hK => ?_); simp -implicitDefEqProofs; refine hK _ _ (by rfl) ?_) | fail)
  refine aw_lp (ι := Nat) (fun k => mkSt [(1, .v (.c (.ptr 0 0))), (3, vI (dmx l k : Nat)), (4, vI (k : Nat))] [some (.box ((tc (.mk x l)).map .pv))]) (fun k => k ≤ l.length) (fun k => l.length - k) 0 (Nat.zero_le _) (cov_intro [0] (by simp -implicitDefEqProofs [dmx]) (by simp -implicitDefEqProofs [dmx]) (by decide) rfl (by simp)) (fun Z hI k hk => ?_)
  by_cases hkl : k < l.length; rotate_left
  · have : k = l.length := by omega
    subst this
    have w3 : IntKind.i64.wrap ((dmx l l.length : Nat) + 1 : Int) = (dmx l l.length : Nat) + 1 := i64i _ (by have := hmx l.length; omega) (by have := hmx l.length; omega)
    repeat (first | refine aw_seq ?_ | refine aw_skip ?_ | refine aw_block ?_ | refine aw_exit ?_ | refine aw_cond rfl (fun _ => ?_) (fun hb => absurd hb (by decide)) | refine aw_cond rfl (fun hb => absurd hb (by decide)) (fun _ => ?_) | (refine aw_reg (fun K hK => ?_); simp -implicitDefEqProofs [hkl, w3]; refine hK _ ?_) | (refine aw_drw mixd (fun K hK => ?_); simp -implicitDefEqProofs [hkl, w3]; refine hK _ _ (by rfl) ?_) | fail)
    refine aw_ret (fin_ret ?_); simp -implicitDefEqProofs [FinP, resV, resT] <;> try rfl
  obtain ⟨y, hy⟩ : ∃ y, l[k]? = some y := ⟨_, List.getElem?_eq_getElem hkl⟩
  have hy' := (List.getElem?_eq_some_iff.1 hy).2
  have hm := List.mem_of_getElem? hy
  have hq := ih y hm (by have := Tr.size_at (x := x) hy; omega)
  have hn := dmx_succ hy
  obtain ⟨p, hp⟩ : ∃ p, dmx l k = p := ⟨_, rfl⟩
  obtain ⟨d, hdd⟩ : ∃ d, dpt y = d := ⟨_, rfl⟩
  rw [hp, hdd] at hn
  rw [hdd] at hq
  rw [hp]
  obtain ⟨⟨yk, yn, ys, yf, yt⟩, yl⟩ := y
  have w2 : IntKind.i64.wrap ((k : Nat) + 1 : Int) = (k : Nat) + 1 := i64i _ (by omega) (by omega)
  by_cases hlt : p < d
  · have hlt' : (p : Int) < d := by omega
    rw [Nat.max_eq_right (by omega)] at hn
    clear ih hp hdd hm hd hmx
    repeat' (first | refine aw_seq ?_ | refine aw_skip ?_ | refine aw_block ?_ | refine aw_exit ?_ | refine aw_cond rfl (fun _ => ?_) (fun hb => absurd hb (by decide)) | refine aw_cond rfl (fun hb => absurd hb (by decide)) (fun _ => ?_) | (refine aw_reg (fun K hK => ?_); simp -implicitDefEqProofs [hkl, hy, hy', hlt, hlt', w2]) | (refine aw_drw mixd (fun K hK => ?_); simp -implicitDefEqProofs [hkl, hy, hy', hlt, hlt', w2]) | refine hK _ ?_ | refine hK _ _ (by rfl) ?_ | (refine ar_call (cp hq ?_); simp -implicitDefEqProofs [hkl, hy, hy', hlt, hlt', w2]) | (refine ard_call (dp hq ?_); simp -implicitDefEqProofs [hkl, hy, hy', hlt, hlt', w2]) | fail)
    refine ⟨k + 1, by omega, (by dsimp only; omega), ?_⟩; rw [hI]; exact cov_intro [0] (by simp -implicitDefEqProofs [hn]) (by simp -implicitDefEqProofs [hn]) (by decide) rfl (by simp)
  · have hlt' : ¬ (p : Int) < d := by omega
    rw [Nat.max_eq_left (by omega)] at hn
    clear ih hp hdd hm hd hmx
    repeat' (first | refine aw_seq ?_ | refine aw_skip ?_ | refine aw_block ?_ | refine aw_exit ?_ | refine aw_cond rfl (fun _ => ?_) (fun hb => absurd hb (by decide)) | refine aw_cond rfl (fun hb => absurd hb (by decide)) (fun _ => ?_) | (refine aw_reg (fun K hK => ?_); simp -implicitDefEqProofs [hkl, hy, hy', hlt, hlt', w2]) | (refine aw_drw mixd (fun K hK => ?_); simp -implicitDefEqProofs [hkl, hy, hy', hlt, hlt', w2]) | refine hK _ ?_ | refine hK _ _ (by rfl) ?_ | (refine ar_call (cp hq ?_); simp -implicitDefEqProofs [hkl, hy, hy', hlt, hlt', w2]) | (refine ard_call (dp hq ?_); simp -implicitDefEqProofs [hkl, hy, hy', hlt, hlt', w2]) | fail)
    refine ⟨k + 1, by omega, (by dsimp only; omega), ?_⟩; rw [hI]; exact cov_intro [0] (by simp -implicitDefEqProofs [hn]) (by simp -implicitDefEqProofs [hn]) (by decide) rfl (by simp)
set_option maxRecDepth 100000 in
set_option maxHeartbeats 4000000 in
theorem ruparse_row (s : ByteArray) (hs : s.size ≤ 8000) : Row Tryz.prog 10 [vS s] [] (vT3i (unitG s)) [] := by
  have tk := rtokens_row s (by omega)
  unfold unitG
  by_cases h0 : (tokG s).2.2 = 0; rotate_left
  · rw [if_pos h0]
    obtain ⟨⟨ts, p, e⟩, ht⟩ : ∃ r, tokG s = r := ⟨_, rfl⟩
    rw [ht] at tk h0 ⊢
    dsimp only at h0 ⊢
    clear ht
    refine row_of Tryz.func10 rfl rfl (Nat.le_of_ble_eq_true rfl) ?_
    repeat' (first | refine aw_seq ?_ | refine aw_skip ?_ | refine aw_block ?_ | refine aw_exit ?_ | refine aw_cond rfl (fun _ => ?_) (fun hb => absurd hb (by decide)) | refine aw_cond rfl (fun hb => absurd hb (by decide)) (fun _ => ?_) | (refine aw_reg (fun K hK => ?_); simp -implicitDefEqProofs [h0]) | (refine aw_drw mixd (fun K hK => ?_); simp -implicitDefEqProofs [h0]) | refine hK _ ?_ | refine hK _ _ (by rfl) ?_ | (refine ar_call (cp tk ?_); simp -implicitDefEqProofs [h0]) | (refine ard_call (dp tk ?_); simp -implicitDefEqProofs [h0]) | fail)
    refine aw_ret (fin_ret ?_); simp -implicitDefEqProofs [FinP, resV, resT, z0] <;> try rfl
  rw [if_neg (by simp [h0])]
  have hok := tok_ok h0
  obtain ⟨⟨ts, p, e⟩, ht⟩ : ∃ r, tokG s = r := ⟨_, rfl⟩
  rw [ht] at tk h0 hok ⊢
  dsimp only at h0 hok ⊢
  subst h0
  clear ht
  have hlen := tok_len hok
  unfold modG
  have hsz := mod_sz (ts := ts) s (ts.length + 1)
  have h0 : InvU ts (lpU ts (ts.length + 1) 0 []) (ts.length + 1, 0, []) := ⟨rfl, by dsimp only; omega, by dsimp only; omega, by simp, by simp [sm]⟩
  obtain ⟨C, hC⟩ : ∃ C, lpU ts (ts.length + 1) 0 [] = C := ⟨_, rfl⟩
  rw [hC] at hsz h0 ⊢
  clear hC
  refine row_of Tryz.func10 rfl rfl (Nat.le_of_ble_eq_true rfl) ?_
  repeat' (first | refine aw_seq ?_ | refine aw_skip ?_ | refine aw_block ?_ | refine aw_exit ?_ | refine aw_cond rfl (fun _ => ?_) (fun hb => absurd hb (by decide)) | refine aw_cond rfl (fun hb => absurd hb (by decide)) (fun _ => ?_) | (refine aw_reg (fun K hK => ?_); simp -implicitDefEqProofs) | (refine aw_drw mixd (fun K hK => ?_); simp -implicitDefEqProofs) | refine hK _ ?_ | refine hK _ _ (by rfl) ?_ | (refine ar_call (cp tk ?_); simp -implicitDefEqProofs) | (refine ard_call (dp tk ?_); simp -implicitDefEqProofs) | fail)
  refine aw_lp (ι := Nat × Nat × List VT) (fun x => mkSt [(0, vS s), (2, .v (.c (.ptr 0 0))), (3, vI 0), (4, vI 0), (5, vKs ts), (8, .v (.c (.row 1 6 (x.2.2.map tc)))), (9, vI (x.2.1 : Nat))] [some zTb, some (.row 25 6)]) (InvU ts C) (fun x => x.1) (ts.length + 1, 0, []) h0 (cov_intro [0, 21] (by simp -implicitDefEqProofs) (by simp -implicitDefEqProofs) (by decide) rfl (by simp)) (fun Z hI x hx => ?_)
  clear h0 tk
  obtain ⟨m, i, acc⟩ := x
  have hle := hx.le
  have hfu := hx.fuel
  have hfew := hx.few
  dsimp only at hle hfu hfew ⊢
  obtain ⟨m, rfl⟩ : ∃ k, m = k + 1 := ⟨m - 1, by omega⟩
  have wl : IntKind.i64.wrap ((ts.length : Int) - 1) = (ts.length : Int) - 1 := i64i _ (by omega) (by omega)
  by_cases hnl : ts.length ≤ i + 1
  · have y1 := hx.eq
    dsimp only at y1
    rw [lpU, if_pos hnl] at y1
    subst y1
    have g1 : ¬ (i : Int) < (ts.length : Int) - 1 := by omega
    dsimp only at hsz ⊢
    rw [if_neg (by simp)]
    have dep := rdepth_row (modT s acc) (by omega)
    obtain ⟨d, hd⟩ : ∃ d, dpt (modT s acc) = d := ⟨_, rfl⟩
    rw [hd] at dep ⊢
    unfold modT at dep ⊢
    clear hx hsz hok
    by_cases h6 : 64 < acc.length
    · rw [if_pos h6]
      have h6' : (64 : Int) < acc.length := by omega
      repeat' (first | refine aw_seq ?_ | refine aw_skip ?_ | refine aw_block ?_ | refine aw_exit ?_ | refine aw_cond rfl (fun _ => ?_) (fun hb => absurd hb (by decide)) | refine aw_cond rfl (fun hb => absurd hb (by decide)) (fun _ => ?_) | (refine aw_reg (fun K hK => ?_); simp -implicitDefEqProofs [wl, g1, h6, h6']) | (refine aw_drw mixd (fun K hK => ?_); simp -implicitDefEqProofs [wl, g1, h6, h6']) | refine hK _ ?_ | refine hK _ _ (by rfl) ?_ | (refine ar_call (cp dep ?_); simp -implicitDefEqProofs [wl, g1, h6, h6']) | (refine ard_call (dp dep ?_); simp -implicitDefEqProofs [wl, g1, h6, h6']) | fail)
      refine aw_ret (fin_ret ?_); simp -implicitDefEqProofs [FinP, resV, resT, z0] <;> try rfl
    rw [if_neg h6]
    have h6' : ¬ (64 : Int) < acc.length := by omega
    by_cases h7 : 64 < d
    · rw [if_pos h7]
      have h7' : (64 : Int) < d := by omega
      repeat' (first | refine aw_seq ?_ | refine aw_skip ?_ | refine aw_block ?_ | refine aw_exit ?_ | refine aw_cond rfl (fun _ => ?_) (fun hb => absurd hb (by decide)) | refine aw_cond rfl (fun hb => absurd hb (by decide)) (fun _ => ?_) | (refine aw_reg (fun K hK => ?_); simp -implicitDefEqProofs [wl, g1, h6, h6', h7, h7']) | (refine aw_drw mixd (fun K hK => ?_); simp -implicitDefEqProofs [wl, g1, h6, h6', h7, h7']) | refine hK _ ?_ | refine hK _ _ (by rfl) ?_ | (refine ar_call (cp dep ?_); simp -implicitDefEqProofs [wl, g1, h6, h6', h7, h7']) | (refine ard_call (dp dep ?_); simp -implicitDefEqProofs [wl, g1, h6, h6', h7, h7']) | fail)
      refine aw_ret (fin_ret ?_); simp -implicitDefEqProofs [FinP, resV, resT, z0] <;> try rfl
    · rw [if_neg h7]
      have h7' : ¬ (64 : Int) < d := by omega
      repeat' (first | refine aw_seq ?_ | refine aw_skip ?_ | refine aw_block ?_ | refine aw_exit ?_ | refine aw_cond rfl (fun _ => ?_) (fun hb => absurd hb (by decide)) | refine aw_cond rfl (fun hb => absurd hb (by decide)) (fun _ => ?_) | (refine aw_reg (fun K hK => ?_); simp -implicitDefEqProofs [wl, g1, h6, h6', h7, h7']) | (refine aw_drw mixd (fun K hK => ?_); simp -implicitDefEqProofs [wl, g1, h6, h6', h7, h7']) | refine hK _ ?_ | refine hK _ _ (by rfl) ?_ | (refine ar_call (cp dep ?_); simp -implicitDefEqProofs [wl, g1, h6, h6', h7, h7']) | (refine ard_call (dp dep ?_); simp -implicitDefEqProofs [wl, g1, h6, h6', h7, h7']) | fail)
      refine aw_ret (fin_ret ?_); simp -implicitDefEqProofs [FinP, resV, resT] <;> try rfl
  · have g1 : (i : Int) < (ts.length : Int) - 1 := by omega
    have dc := rdecl_row ts (by omega) i (by omega)
    have ha := decl_ahead hok hle
    have y1 := hx.eq
    dsimp only at y1
    rw [lpU, if_neg hnl] at y1
    have nx := fun h => invU_next hok hx hnl h
    obtain ⟨⟨⟨px, pl⟩, j, e2⟩, hd⟩ : ∃ r, declG ts i = r := ⟨_, rfl⟩
    rw [hd] at dc ha nx y1
    dsimp only at ha nx y1
    by_cases he : e2 = 0; rotate_left
    · rw [if_pos he] at y1
      subst y1
      have hjl : j < ts.length := by omega
      obtain ⟨y, hy⟩ : ∃ y, ts[j]? = some y := ⟨_, List.getElem?_eq_getElem hjl⟩
      have hy' := (List.getElem?_eq_some_iff.1 hy).2
      rw [if_pos he]
      rw [show frT ts j = y.f by unfold frT; rw [nxt_some hy]]
      clear hx nx hok hsz hd
      repeat' (first | refine aw_seq ?_ | refine aw_skip ?_ | refine aw_block ?_ | refine aw_exit ?_ | refine aw_cond rfl (fun _ => ?_) (fun hb => absurd hb (by decide)) | refine aw_cond rfl (fun hb => absurd hb (by decide)) (fun _ => ?_) | (refine aw_reg (fun K hK => ?_); simp -implicitDefEqProofs [wl, g1, he, hjl, hy, hy']) | (refine aw_drw mixd (fun K hK => ?_); simp -implicitDefEqProofs [wl, g1, he, hjl, hy, hy']) | refine hK _ ?_ | refine hK _ _ (by rfl) ?_ | (refine ar_call (cp dc ?_); simp -implicitDefEqProofs [wl, g1, he, hjl, hy, hy']) | (refine ard_call (dp dc ?_); simp -implicitDefEqProofs [wl, g1, he, hjl, hy, hy']) | fail)
      refine aw_ret (fin_ret ?_); simp -implicitDefEqProofs [FinP, resV, resT, z0] <;> try rfl
    · subst he
      have nx := nx rfl
      have b1 : (acc.length + 1) * 72 ≤ 140737488355328 := by omega
      have b2 : acc.length + 1 ≤ 140737488355328 := by omega
      clear hx hok hsz hd y1
      repeat' (first | refine aw_seq ?_ | refine aw_skip ?_ | refine aw_block ?_ | refine aw_exit ?_ | refine aw_cond rfl (fun _ => ?_) (fun hb => absurd hb (by decide)) | refine aw_cond rfl (fun hb => absurd hb (by decide)) (fun _ => ?_) | (refine aw_reg (fun K hK => ?_); simp -implicitDefEqProofs [wl, g1, b1, b2]) | (refine aw_drw mixd (fun K hK => ?_); simp -implicitDefEqProofs [wl, g1, b1, b2]) | refine hK _ ?_ | refine hK _ _ (by rfl) ?_ | (refine ar_call (cp dc ?_); simp -implicitDefEqProofs [wl, g1, b1, b2]) | (refine ard_call (dp dc ?_); simp -implicitDefEqProofs [wl, g1, b1, b2]) | fail)
      refine ⟨(_, _, _), nx, (by dsimp only; omega), ?_⟩; rw [hI]; exact cov_intro [0, 26] (by simp -implicitDefEqProofs) (by simp -implicitDefEqProofs) (by decide) rfl (by simp)
end Go.Proofs.YthcnligihpnfiaaGreatDoor.am
end
section
namespace Go.Proofs.YthcnligihpnfiaaGreatDoor.am
open Go.ChangeShapes Go.WideShapes Go.ChangeAt Go.RowKit
open vt
set_option linter.unusedVariables false
set_option linter.unusedSimpArgs false
theorem chl_drop : ∀ {l : List VT} {lo hi : Int} (k : Nat) {y : VT} {p : Int}, (k = 0 → p = lo) → (∀ z, k ≠ 0 → l[k - 1]? = some z → p = z.lab.t) → ChL lo hi l → l[k]? = some y → p ≤ y.lab.f ∧ y.lab.f ≤ y.lab.t ∧ y.lab.t ≤ hi
  | x :: l, lo, hi, 0, y, p, h1, _, ⟨a1, a2, a3⟩, hy => by
    obtain rfl := Option.some.inj hy
    rw [h1 rfl]
    exact ⟨a1, a2, chl_le a3⟩
  | x :: l, lo, hi, k + 1, y, p, _, h2, ⟨a1, a2, a3⟩, hy => by
    refine chl_drop k (fun hk => ?_) (fun z hk hz => ?_) a3 (by simpa using hy)
    · subst hk; exact h2 x (by omega) (by simp)
    · refine h2 z (by omega) ?_
      obtain ⟨m, rfl⟩ : ∃ m, k = m + 1 := ⟨k - 1, by omega⟩
      simpa using hz
def atW (lo : Int) (l : List VT) (k : Nat) : Int := if k = 0 then lo else match l[k - 1]? with | some z => z.lab.t | none => 0
set_option maxRecDepth 100000 in
set_option maxHeartbeats 4000000 in
theorem within_row (t : VT) (h : Wi t) (hs : t.size ≤ 1000000) : Row Tryz.prog 13 [vT t] [] (vB true) [] := by
  induction h with
  | mk x l hc hl ih =>
  have hlen : l.length ≤ 1000000 := by have := Tr.len_size (x := x) (l := l); omega
  refine row_of Tryz.func13 rfl rfl (Nat.le_of_ble_eq_true rfl) ?_
  repeat (first | refine aw_seq ?_ | refine aw_skip ?_ | refine aw_block ?_ | refine aw_exit ?_ | refine aw_cond rfl (fun _ => ?_) (fun hb => absurd hb (by decide)) | refine aw_cond rfl (fun hb => absurd hb (by decide)) (fun _ => ?_) | (refine aw_reg (fun K hK => ?_); simp -implicitDefEqProofs; refine hK _ ?_) | (refine aw_drw mixd (fun K hK => ?_); simp -implicitDefEqProofs; refine hK _ _ (by rfl) ?_) | fail)
  refine aw_lp (ι := Nat) (fun k => mkSt [(1, .v (.c (.ptr 0 0))), (3, vI (atW x.f l k)), (4, vI (k : Nat))] [some (.box ((tc (.mk x l)).map .pv))]) (fun k => k ≤ l.length) (fun k => l.length - k) 0 (Nat.zero_le _) (cov_intro [0] (by simp -implicitDefEqProofs [atW]) (by simp -implicitDefEqProofs [atW]) (by decide) rfl (by simp)) (fun Z hI k hk => ?_)
  by_cases hkl : k < l.length; rotate_left
  · repeat (first | refine aw_seq ?_ | refine aw_skip ?_ | refine aw_block ?_ | refine aw_exit ?_ | refine aw_cond rfl (fun _ => ?_) (fun hb => absurd hb (by decide)) | refine aw_cond rfl (fun hb => absurd hb (by decide)) (fun _ => ?_) | (refine aw_reg (fun K hK => ?_); simp -implicitDefEqProofs [hkl]; refine hK _ ?_) | (refine aw_drw mixd (fun K hK => ?_); simp -implicitDefEqProofs [hkl]; refine hK _ _ (by rfl) ?_) | fail)
    refine aw_ret (fin_ret ?_); simp -implicitDefEqProofs [FinP, resV, resT] <;> try rfl
  obtain ⟨y, hy⟩ : ∃ y, l[k]? = some y := ⟨_, List.getElem?_eq_getElem hkl⟩
  have hy' := (List.getElem?_eq_some_iff.1 hy).2
  have hm := List.mem_of_getElem? hy
  have hq := ih y hm (by have := Tr.size_at (x := x) hy; omega)
  have hw := chl_drop (p := atW x.f l k) k (fun h0 => if_pos h0) (fun z h0 hz => by unfold atW; rw [if_neg h0, hz]) hc hy
  have hn : atW x.f l (k + 1) = y.lab.t := by unfold atW; rw [if_neg (by omega), Nat.add_sub_cancel, hy]
  obtain ⟨p, hp⟩ : ∃ p, atW x.f l k = p := ⟨_, rfl⟩
  rw [hp] at hw ⊢
  obtain ⟨⟨yk, yn, ys, yf, yt⟩, yl⟩ := y
  dsimp only [Tr.lab] at hw hn
  have e1 : ¬ yf < p := by omega
  have e2 : ¬ x.t < yt := by omega
  have e3 : ¬ yt < yf := by omega
  have w2 : IntKind.i64.wrap ((k : Nat) + 1 : Int) = (k : Nat) + 1 := i64i _ (by omega) (by omega)
  clear ih hl hc hp hm hw
  repeat' (first | refine aw_seq ?_ | refine aw_skip ?_ | refine aw_block ?_ | refine aw_exit ?_ | refine aw_cond rfl (fun _ => ?_) (fun hb => absurd hb (by decide)) | refine aw_cond rfl (fun hb => absurd hb (by decide)) (fun _ => ?_) | (refine aw_reg (fun K hK => ?_); simp -implicitDefEqProofs [hkl, hy, hy', e1, e2, e3, w2]) | (refine aw_drw mixd (fun K hK => ?_); simp -implicitDefEqProofs [hkl, hy, hy', e1, e2, e3, w2]) | refine hK _ ?_ | refine hK _ _ (by rfl) ?_ | (refine ar_call (cp hq ?_); simp -implicitDefEqProofs [hkl, hy, hy', e1, e2, e3, w2]) | (refine ard_call (dp hq ?_); simp -implicitDefEqProofs [hkl, hy, hy', e1, e2, e3, w2]) | fail)
  refine ⟨k + 1, by omega, (by dsimp only; omega), ?_⟩; rw [hI]; exact cov_intro [0] (by simp -implicitDefEqProofs [hn]) (by simp -implicitDefEqProofs [hn]) (by decide) rfl (by simp)
end Go.Proofs.YthcnligihpnfiaaGreatDoor.am
end
section
namespace Go.Proofs.YthcnligihpnfiaaGreatDoor.am
open Go.ChangeShapes Go.WideShapes Go.ChangeAt Go.RowKit
open vt
set_option linter.unusedVariables false
set_option linter.unusedSimpArgs false
abbrev sV : ByteArray := ⟨#[118, 97, 114, 32, 97, 58, 32, 105, 110, 116, 59]⟩
abbrev sVa : ByteArray := ⟨#[97]⟩
abbrev sVi : ByteArray := ⟨#[105, 110, 116]⟩
theorem tk_stp {s : ByteArray} {i j k : Nat} {L : List lx.Tk} {x : lx.Tk} (h : lx.nx s i = j) (hj : j < s.size) (hi : i ≤ s.size) (ho : lx.on s j = (x, 0)) (hk : x.t.toNat = k) : lx.app L (lx.toks s i) = lx.app (L ++ [x]) (lx.toks s k) := by
  rw [lx.app_step (by rw [h]; exact hj) hi (by rw [h, ho]), h, ho, ← hk]
theorem sv_toks : lx.tokens sV = ([⟨3, 0, wVar, 0, 3⟩, ⟨1, 0, sVa, 4, 5⟩, ⟨4, 0, sCol, 5, 6⟩, ⟨3, 0, sVi, 7, 10⟩, ⟨4, 0, sEnd, 10, 11⟩, lx.tkEnd sV], 0, 0) := by
  have b : ∀ i : Nat, (i = 0 ∨ i = 4 ∨ i = 5 ∨ i = 7 ∨ i = 10) → lx.nx sV i = i := fun i hi => lx.nx_stop (by rcases hi with rfl | rfl | rfl | rfl | rfl <;> decide +kernel) (by rcases hi with rfl | rfl | rfl | rfl | rfl <;> decide +kernel)
  have n0 : lx.nx sV 0 = 0 := b 0 (by decide)
  have n3 : lx.nx sV 3 = 4 := by rw [lx.nx_blank (by decide) (by decide +kernel)]; exact b 4 (by decide)
  have n5 : lx.nx sV 5 = 5 := b 5 (by decide)
  have n6 : lx.nx sV 6 = 7 := by rw [lx.nx_blank (by decide) (by decide +kernel)]; exact b 7 (by decide)
  have n10 : lx.nx sV 10 = 10 := b 10 (by decide)
  have h : lx.app [] (lx.toks sV 0) = ([⟨3, 0, wVar, 0, 3⟩, ⟨1, 0, sVa, 4, 5⟩, ⟨4, 0, sCol, 5, 6⟩, ⟨3, 0, sVi, 7, 10⟩, ⟨4, 0, sEnd, 10, 11⟩, lx.tkEnd sV], 0, 0) :=
    (tk_stp (x := ⟨3, 0, wVar, 0, 3⟩) (k := 3) n0 (by decide) (by decide) (by kernel_rfl) rfl).trans
      ((tk_stp (x := ⟨1, 0, sVa, 4, 5⟩) (k := 5) n3 (by decide) (by decide) (by kernel_rfl) rfl).trans
      ((tk_stp (x := ⟨4, 0, sCol, 5, 6⟩) (k := 6) n5 (by decide) (by decide) (by kernel_rfl) rfl).trans
      ((tk_stp (x := ⟨3, 0, sVi, 7, 10⟩) (k := 10) n6 (by decide) (by decide) (by kernel_rfl) rfl).trans
      ((tk_stp (x := ⟨4, 0, sEnd, 10, 11⟩) (k := 11) n10 (by decide) (by decide) (by kernel_rfl) rfl).trans
      (lx.app_end (by rw [lx.nx_end (by decide)]; decide))))))
  rw [lx.app_nil] at h
  unfold lx.tokens
  rw [if_neg (by decide), h]
abbrev tsV : List Tok := [⟨3, 0, wVar, 0, 3⟩, ⟨1, 0, sVa, 4, 5⟩, ⟨4, 0, sCol, 5, 6⟩, ⟨3, 0, sVi, 7, 10⟩, ⟨4, 0, sEnd, 10, 11⟩, ⟨5, 0, ⟨#[]⟩, 11, 11⟩]
theorem sv_tok : tokG sV = (tsV, 0, 0) := by
  unfold tokG
  rw [sv_toks]
  rfl
theorem sv_decl : ∃ y : VT, y.lab.s = sVa ∧ declG tsV 0 = (y, 5, 0) := by
  have t1 : (R9 tsV 1 3).2.2 = 0 := by show (tyG tsV 7 3).2.2 = 0; decide +kernel
  have t2 : (R9 tsV 1 3).2.1 = 4 := by show (tyG tsV 7 3).2.1 = 4; decide +kernel
  unfold declG
  rw [if_neg (by decide +kernel), if_pos (by decide +kernel), short_eq tsV 0 32 wVar sCol 1 (by decide +kernel), if_pos (by decide +kernel), if_pos (by decide +kernel), if_pos t1, t2, if_pos (by decide +kernel)]
  exact ⟨_, rfl, rfl⟩
theorem sv_unit : ∃ y : VT, y.lab.s = sVa ∧ unitG sV = (modT sV [y], 0, 0) := by
  obtain ⟨y, h1, h2⟩ := sv_decl
  have hl : lpU tsV (tsV.length + 1) 0 [] = ([y], 5, 0) := by
    show lpU tsV 7 0 [] = ([y], 5, 0)
    rw [lpU, if_neg (by decide), h2, if_neg (by simp)]
    show lpU tsV 6 5 [y] = ([y], 5, 0)
    rw [lpU, if_pos (by decide)]
  have hs := mod_sz (ts := tsV) sV (tsV.length + 1)
  rw [hl] at hs
  have hd := dpt_le (modT sV [y])
  have h8 : tsV.length = 6 := rfl
  refine ⟨y, h1, ?_⟩
  unfold unitG
  rw [sv_tok, if_neg (by simp)]
  unfold modG
  rw [hl, if_neg (by simp), if_neg (by simp), if_neg (by dsimp only at hs hd ⊢; omega)]
def TkL (L : List (Nat × Array Value)) : Prop := ∀ s : ByteArray, s.size ≤ 9223372036854775807 → Row Tryz.prog 18 [vS s] [.lib L] (vTk (tokG s)) [some (.lib L)]
section
variable {L : List (Nat × Array Value)} (hT : TkL L)
include hT
set_option maxRecDepth 100000 in
set_option maxHeartbeats 4000000 in
theorem awake09_row : Row Tryz.prog 8 [] [.lib L] (vB true) [some (.lib L)] := by
  obtain ⟨⟨⟨yk, yn, ys, yf, yt⟩, yl⟩, h1, h2⟩ := sv_unit
  have h := uparse_row L sV (by decide) (hT sV (by decide))
  rw [h2] at h
  unfold modT at h
  have h1 : ys = sVa := h1
  subst h1
  clear h2
  refine row_of Tryz.func8 rfl rfl (Nat.le_of_ble_eq_true rfl) ?_
  repeat' (first | refine aw_seq ?_ | refine aw_skip ?_ | refine aw_block ?_ | refine aw_exit ?_ | refine aw_cond rfl (fun _ => ?_) (fun hb => absurd hb (by decide)) | refine aw_cond rfl (fun hb => absurd hb (by decide)) (fun _ => ?_) | (refine aw_reg (fun K hK => ?_); simp -implicitDefEqProofs) | (refine aw_drw mixd (fun K hK => ?_); simp -implicitDefEqProofs) | refine hK _ ?_ | refine hK _ _ (by rfl) ?_ | (refine ar_call (cb h 0 ?_); simp -implicitDefEqProofs) | (refine ard_call (db h 0 ?_); simp -implicitDefEqProofs) | fail)
  refine aw_ret (fin_box ?_); simp -implicitDefEqProofs [FinB, resV, resT] <;> try rfl
omit hT in
theorem unit_sz (s : ByteArray) (hs : s.size ≤ 8000) : (unitG s).1.size ≤ 9000 := by
  have hz : Tr.size z0 = 1 := by simp [z0, Tr.size_mk]
  unfold unitG
  split
  · rw [hz]; decide
  · rename_i h
    have h : (tokG s).2.2 = 0 := by simpa using h
    have h1 := tok_len (tok_ok h)
    have h2 := mod_sz (ts := (tokG s).1) s ((tokG s).1.length + 1)
    unfold modG
    split
    · rw [hz]; decide
    split
    · rw [hz]; decide
    split
    · rw [hz]; decide
    · dsimp only; omega
set_option maxRecDepth 100000 in
set_option maxHeartbeats 4000000 in
theorem law_ureads_row (s : ByteArray) (h47 : s.size ≤ 9223372036854775807) : Row Tryz.prog 3 [vS s] [.lib L] (vB true) [some (.lib L)] := by
  have haw := awake09_row hT
  by_cases h3 : 2000 < s.size
  · have h3' : (2000 : Int) < s.size := by omega
    refine row_of Tryz.func3 rfl rfl (Nat.le_of_ble_eq_true rfl) ?_
    repeat' (first | refine aw_seq ?_ | refine aw_skip ?_ | refine aw_block ?_ | refine aw_exit ?_ | refine aw_cond rfl (fun _ => ?_) (fun hb => absurd hb (by decide)) | refine aw_cond rfl (fun hb => absurd hb (by decide)) (fun _ => ?_) | (refine aw_reg (fun K hK => ?_); simp -implicitDefEqProofs [h3, h3']) | (refine aw_drw mixd (fun K hK => ?_); simp -implicitDefEqProofs [h3, h3']) | refine hK _ ?_ | refine hK _ _ (by rfl) ?_ | (refine ar_call (cb haw 0 ?_); simp -implicitDefEqProofs [h3, h3']) | (refine ard_call (db haw 0 ?_); simp -implicitDefEqProofs [h3, h3']) | fail)
    refine aw_ret (fin_box ?_); simp -implicitDefEqProofs [FinB, resV, resT] <;> try rfl
  have h3' : ¬ (2000 : Int) < s.size := by omega
  have h := uparse_row L s (by omega) (hT s h47)
  have r := ruparse_row s (by omega)
  have hz := unit_sz s (by omega)
  have hp := rplac_row (unitG s).1 (by omega) (unitG s).1 (by omega)
  rw [plac_refl] at hp
  obtain ⟨⟨⟨px, pl⟩, a, e⟩, hr⟩ : ∃ r, unitG s = r := ⟨_, rfl⟩
  rw [hr] at h r hp
  dsimp only at hp
  clear hr hz
  refine row_of Tryz.func3 rfl rfl (Nat.le_of_ble_eq_true rfl) ?_
  repeat' (first | refine aw_seq ?_ | refine aw_skip ?_ | refine aw_block ?_ | refine aw_exit ?_ | refine aw_cond rfl (fun _ => ?_) (fun hb => absurd hb (by decide)) | refine aw_cond rfl (fun hb => absurd hb (by decide)) (fun _ => ?_) | (refine aw_reg (fun K hK => ?_); simp -implicitDefEqProofs [h3, h3']) | (refine aw_drw mixd (fun K hK => ?_); simp -implicitDefEqProofs [h3, h3']) | refine hK _ ?_ | refine hK _ _ (by rfl) ?_ | (refine ar_call (cb h 0 ?_); simp -implicitDefEqProofs [h3, h3']) | (refine ard_call (db h 0 ?_); simp -implicitDefEqProofs [h3, h3']) | (refine ar_call (cp r ?_); simp -implicitDefEqProofs [h3, h3']) | (refine ard_call (dp r ?_); simp -implicitDefEqProofs [h3, h3']) | (refine ar_call (cp hp ?_); simp -implicitDefEqProofs [h3, h3']) | (refine ard_call (dp hp ?_); simp -implicitDefEqProofs [h3, h3']) | (refine ar_call (cb haw 0 ?_); simp -implicitDefEqProofs [h3, h3']) | (refine ard_call (db haw 0 ?_); simp -implicitDefEqProofs [h3, h3']) | fail)
  refine aw_ret (fin_box ?_); simp -implicitDefEqProofs [FinB, resV, resT] <;> try rfl
end
end Go.Proofs.YthcnligihpnfiaaGreatDoor.am
end
section
namespace Go.Proofs
open Go.Shelf
def Tryz.laysC174_ren : Go.Shelf.Ren := ⟨fun | 174 => 123 | 247 => 138 | 245 => 139 | 287 => 149 | 279 => 150 | 280 => 151 | 281 => 152 | 282 => 153 | 321 => 159 | 322 => 160 | 316 => 161 | 171 => 163 | 205 => 162 | 243 => 175 | 246 => 158 | 283 => 171 | 284 => 172 | 285 => 173 | 286 => 174 | 129 => 178 | 317 => 177 | 318 => 179 | 319 => 180 | 320 => 181 | 337 => 183 | 338 => 184 | n => n, fun | 9 => 9 | 3 => 3 | 2 => 2 | 75 => 59 | 85 => 122 | 4 => 4 | 167 => 150 | 5 => 5 | 53 => 151 | 175 => 152 | 46 => 154 | 168 => 155 | 37 => 55 | 0 => 0 | 210 => 163 | 21 => 21 | 127 => 100 | 145 => 173 | 143 => 171 | 171 => 166 | 173 => 169 | 212 => 176 | 51 => 177 | 20 => 20 | 213 => 178 | 232 => 182 | 233 => 183 | 80 => 67 | n => n, fun | 15 => 1 | 16 => 2 | 17 => 3 | 18 => 4 | 19 => 5 | n => n⟩
theorem Tryz.laysC174 : Go.Proofs.LaysC.n174 Tryz.prog Tryz.laysC174_ren := {
  mixed := by kernel_rfl
  f129 := Tryz.func178.trans (congrArg some (by kernel_rfl))
  f171 := Tryz.func163.trans (congrArg some (by kernel_rfl))
  f174 := Tryz.func123.trans (congrArg some (by kernel_rfl))
  f205 := Tryz.func162.trans (congrArg some (by kernel_rfl))
  f243 := Tryz.func175.trans (congrArg some (by kernel_rfl))
  f245 := Tryz.func139.trans (congrArg some (by kernel_rfl))
  f246 := Tryz.func158.trans (congrArg some (by kernel_rfl))
  f247 := Tryz.func138.trans (congrArg some (by kernel_rfl))
  f279 := Tryz.func150.trans (congrArg some (by kernel_rfl))
  f280 := Tryz.func151.trans (congrArg some (by kernel_rfl))
  f281 := Tryz.func152.trans (congrArg some (by kernel_rfl))
  f282 := Tryz.func153.trans (congrArg some (by kernel_rfl))
  f283 := Tryz.func171.trans (congrArg some (by kernel_rfl))
  f284 := Tryz.func172.trans (congrArg some (by kernel_rfl))
  f285 := Tryz.func173.trans (congrArg some (by kernel_rfl))
  f286 := Tryz.func174.trans (congrArg some (by kernel_rfl))
  f287 := Tryz.func149.trans (congrArg some (by kernel_rfl))
  f316 := Tryz.func161.trans (congrArg some (by kernel_rfl))
  f317 := Tryz.func177.trans (congrArg some (by kernel_rfl))
  f318 := Tryz.func179.trans (congrArg some (by kernel_rfl))
  f319 := Tryz.func180.trans (congrArg some (by kernel_rfl))
  f320 := Tryz.func181.trans (congrArg some (by kernel_rfl))
  f321 := Tryz.func159.trans (congrArg some (by kernel_rfl))
  f322 := Tryz.func160.trans (congrArg some (by kernel_rfl))
  f337 := Tryz.func183.trans (congrArg some (by kernel_rfl))
  f338 := Tryz.func184.trans (congrArg some (by kernel_rfl))
  t0 := Tryz.underlying0
  a0 := Tryz.isAgg0
  z0 := Tryz.sizeOf0
  v0 := Tryz.zeroValue0
  t2 := Tryz.underlying2
  a2 := Tryz.isAgg2
  z2 := Tryz.sizeOf2
  v2 := Tryz.zeroValue2
  t3 := Tryz.underlying3
  a3 := Tryz.isAgg3
  z3 := Tryz.sizeOf3
  v3 := Tryz.zeroValue3
  t4 := Tryz.underlying4
  a4 := Tryz.isAgg4
  z4 := Tryz.sizeOf4
  v4 := Tryz.zeroValue4
  t5 := Tryz.underlying5
  a5 := Tryz.isAgg5
  z5 := Tryz.sizeOf5
  v5 := Tryz.zeroValue5
  t9 := Tryz.underlying9
  a9 := Tryz.isAgg9
  z9 := Tryz.sizeOf9
  v9 := Tryz.zeroValue9
  t20 := Tryz.underlying20
  a20 := Tryz.isAgg20
  z20 := Tryz.sizeOf20
  v20 := Tryz.zeroValue20
  t21 := Tryz.underlying21
  a21 := Tryz.isAgg21
  z21 := Tryz.sizeOf21
  v21 := Tryz.zeroValue21
  t37 := Tryz.underlying55
  a37 := Tryz.isAgg55
  z37 := Tryz.sizeOf55
  v37 := Tryz.zeroValue55
  t46 := Tryz.underlying154
  a46 := Tryz.isAgg154
  z46 := Tryz.sizeOf154
  v46 := Tryz.zeroValue154
  t51 := Tryz.underlying177
  a51 := Tryz.isAgg177
  z51 := Tryz.sizeOf177
  v51 := Tryz.zeroValue177
  t53 := Tryz.underlying151
  a53 := Tryz.isAgg151
  z53 := Tryz.sizeOf151
  v53 := Tryz.zeroValue151
  t75 := Tryz.underlying59
  a75 := Tryz.isAgg59
  z75 := Tryz.sizeOf59
  v75 := Tryz.zeroValue59
  t85 := Tryz.underlying122
  a85 := Tryz.isAgg122
  z85 := Tryz.sizeOf122
  v85 := Tryz.zeroValue122
  t127 := Tryz.underlying100
  a127 := Tryz.isAgg100
  z127 := Tryz.sizeOf100
  v127 := Tryz.zeroValue100
  t143 := Tryz.underlying171
  a143 := Tryz.isAgg171
  z143 := Tryz.sizeOf171
  v143 := Tryz.zeroValue171
  t145 := Tryz.underlying173
  a145 := Tryz.isAgg173
  z145 := Tryz.sizeOf173
  v145 := Tryz.zeroValue173
  t167 := Tryz.underlying150
  a167 := Tryz.isAgg150
  z167 := Tryz.sizeOf150
  v167 := Tryz.zeroValue150
  t168 := Tryz.underlying155
  a168 := Tryz.isAgg155
  z168 := Tryz.sizeOf155
  v168 := Tryz.zeroValue155
  t171 := Tryz.underlying166
  a171 := Tryz.isAgg166
  z171 := Tryz.sizeOf166
  v171 := Tryz.zeroValue166
  t173 := Tryz.underlying169
  a173 := Tryz.isAgg169
  z173 := Tryz.sizeOf169
  v173 := Tryz.zeroValue169
  t175 := Tryz.underlying152
  a175 := Tryz.isAgg152
  z175 := Tryz.sizeOf152
  v175 := Tryz.zeroValue152
  t210 := Tryz.underlying163
  a210 := Tryz.isAgg163
  z210 := Tryz.sizeOf163
  v210 := Tryz.zeroValue163
  t212 := Tryz.underlying176
  a212 := Tryz.isAgg176
  z212 := Tryz.sizeOf176
  v212 := Tryz.zeroValue176
  t213 := Tryz.underlying178
  a213 := Tryz.isAgg178
  z213 := Tryz.sizeOf178
  t232 := Tryz.underlying182
  a232 := Tryz.isAgg182
  z232 := Tryz.sizeOf182
  v232 := Tryz.zeroValue182
  t233 := Tryz.underlying183
  a233 := Tryz.isAgg183
  z233 := Tryz.sizeOf183
  v233 := Tryz.zeroValue183
  g15 := by kernel_rfl
  g16 := by kernel_rfl
  g17 := by kernel_rfl
  g18 := by kernel_rfl
  g19 := by kernel_rfl
  t80 := Tryz.underlying67
  a80 := Tryz.isAgg67
  z80 := Tryz.sizeOf67
  v80 := Tryz.zeroValue67
  i0 := by kernel_rfl
  i2 := by kernel_rfl
  i3 := by kernel_rfl
  i4 := by kernel_rfl
  i5 := by kernel_rfl
  i9 := by kernel_rfl
  i20 := by kernel_rfl
  i21 := by kernel_rfl
  i37 := by kernel_rfl
  i46 := by kernel_rfl
  i51 := by kernel_rfl
  i53 := by kernel_rfl
  i75 := by kernel_rfl
  i80 := by kernel_rfl
  i85 := by kernel_rfl
  i127 := by kernel_rfl
  i143 := by kernel_rfl
  i145 := by kernel_rfl
  i167 := by kernel_rfl
  i168 := by kernel_rfl
  i171 := by kernel_rfl
  i173 := by kernel_rfl
  i175 := by kernel_rfl
  i210 := by kernel_rfl
  i212 := by kernel_rfl
  i232 := by kernel_rfl
  i233 := by kernel_rfl
  m15 := by kernel_rfl
  m16 := by kernel_rfl
  m17 := by kernel_rfl
  m18 := by kernel_rfl
  m19 := by kernel_rfl
  c0 := by kernel_rfl
  c2 := by kernel_rfl
  c3 := by kernel_rfl
  c4 := by kernel_rfl
  c5 := by kernel_rfl
  c9 := by kernel_rfl
  c20 := by kernel_rfl
  c21 := by kernel_rfl
  c37 := by kernel_rfl
  c46 := by kernel_rfl
  c51 := by kernel_rfl
  c53 := by kernel_rfl
  c75 := by kernel_rfl
  c80 := by kernel_rfl
  c85 := by kernel_rfl
  c127 := by kernel_rfl
  c143 := by kernel_rfl
  c145 := by kernel_rfl
  c167 := by kernel_rfl
  c168 := by kernel_rfl
  c171 := by kernel_rfl
  c173 := by kernel_rfl
  c175 := by kernel_rfl
  c210 := by kernel_rfl
  c212 := by kernel_rfl
  c213 := by kernel_rfl
  c232 := by kernel_rfl
  c233 := by kernel_rfl }
open Go.RowKit in
theorem Tryz.strconv_ParseInt_10_at64_ok (s : ByteArray) (hmax : s.size ≤ 9223372036854775806) (v : Int) (h : Lib.parseIntB 64 s.data.toList = .ok v) (w : World) :
    Calls Tryz.prog 123 #[.string s, .int .i64 10, .int .i64 64] w fun e w' => e = .returned (.tuple #[.int .i64 v, .nilIface]) ∧ (w' = w ∨ ∃ t, w' = Lib.bytesWorld w 5 t) := Any.strconv_ParseInt_10_at64_ok Tryz.laysC174 s hmax v h w
open Go.RowKit in
theorem Tryz.strconv_ParseInt_10_at64_range_var (s : ByteArray) (hlim : s.size ≤ 281474976710656) (h : Lib.parseIntB 64 s.data.toList = .range) (tp : TypeId) (p : Value) (w : World) (hvar : w.var? Tryz.prog "strconv.ErrRange" = some #[.iface tp p]) :
    Calls Tryz.prog 123 #[.string s, .int .i64 10, .int .i64 64] w fun e w' => ∃ N, e = .returned (.tuple #[.int .i64 (Lib.intSat 64 s.data.toList), .iface 155 (.pointer (some ⟨N, 0, none⟩))]) ∧ w.heap.size ≤ N ∧ w'.heap[N]? = some (.cells #[.string ⟨#[80, 97, 114, 115, 101, 73, 110, 116]⟩, .string s, .iface tp p] 163 (0, 0)) ∧ Below w.heap.size w w' := Any.strconv_ParseInt_10_at64_range_var Tryz.laysC174 s hlim h tp p w hvar
end Go.Proofs
end
