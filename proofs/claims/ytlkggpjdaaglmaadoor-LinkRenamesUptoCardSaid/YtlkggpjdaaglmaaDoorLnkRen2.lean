/-
  Layer 22: a client, what it calls named anew: the program's Rename.
-/
import Derived.Test.YtlkggpjdaaglmaaDoorLnkRen
namespace Go.Proofs.YtlkggpjdaaglmaaDoor.am
open Go.ChangeShapes Go.WideShapes Go.ChangeAt Go.RowKit
open vt
set_option linter.unusedVariables false
set_option linter.unusedSimpArgs false
abbrev vRn (r : ByteArray × Int × Int) : AV := .tup [.c (.pv (Sx r.1)), .c (.pv (I r.2.1)), .c (.pv (I r.2.2))]
theorem at_size {c : ByteArray} {ts : List Tok} (h : (tokG c).2.2 = 0) (ht : (tokG c).1 = ts) (i : Nat) (hi : i < ts.length) : 0 ≤ frT ts i ∧ frT ts i ≤ toT ts i ∧ toT ts i ≤ c.size := by
  obtain ⟨M, a1, a2, a3, a4, a5⟩ := (tok_ok h).ex
  rw [ht] at a1
  have hcl : CL c.size 0 ts := by rw [a1]; exact cl_snoc (x := enT c) a2 (Int.le_refl _) (Int.le_refl _)
  obtain ⟨c1, c2, c3, c4⟩ := cl_at i hcl hi
  exact ⟨c1, c2, c3⟩
set_option maxRecDepth 100000 in
set_option maxHeartbeats 4000000 in
theorem rename_row (LL : List (Nat × Array Value)) (hLL : LibL LL) (c : ByteArray) (hc : c.size ≤ 9223372036854775807) (nm : List Nm) (hn : nm.length ≤ 1000000) (hKs : ∀ p ∈ nm, p.2.size ≤ 2097152) : Row Tryd.prog 9 [vS c, vNs nm] [.lib LL] (vRn (renG c nm)) [some (.lib LL)] := by
  have ht := tokens_row LL hLL c hc
  by_cases he : (tokG c).2.2 = 0; rotate_left
  · rw [ren_bad he]
    generalize tokG c = T at ht he ⊢
    obtain ⟨ts, pl, er⟩ := T
    dsimp only at he
    refine row_of Tryd.func9 rfl rfl (Nat.le_of_ble_eq_true rfl) ?_
    repeat' (first | refine aw_seq ?_ | refine aw_skip ?_ | refine aw_block ?_ | refine aw_exit ?_ | refine aw_cond rfl (fun _ => ?_) (fun hb => absurd hb (by decide)) | refine aw_cond rfl (fun hb => absurd hb (by decide)) (fun _ => ?_) | (refine aw_reg (fun K hK => ?_); simp -implicitDefEqProofs [he]) | (refine aw_drw mixd (fun K hK => ?_); simp -implicitDefEqProofs [he]) | refine hK _ ?_ | refine hK _ _ (by rfl) ?_ | (refine ar_call (cb ht 0 ?_); simp -implicitDefEqProofs [he]) | (refine ard_call (db ht 0 ?_); simp -implicitDefEqProofs [he]) | fail)
    refine aw_ret (fin_box ?_); simp -implicitDefEqProofs [FinB, resV, resT] <;> try rfl
  have h8 : c.size ≤ 8192 := by
    obtain ⟨M, a1, a2, a3, a4, a5⟩ := (tok_ok he).ex
    exact a5
  have hln : (tokG c).1.length ≤ 8193 := by
    obtain ⟨M, a1, a2, a3, a4, a5⟩ := (tok_ok he).ex
    rw [a1, List.length_append]; simp; omega
  have hal := along nm he
  have hfin : renG c nm = if 8192 < ((rP c nm (tokG c).1 (tokG c).1.length).2 ++ c.extract (rP c nm (tokG c).1 (tokG c).1.length).1.toNat c.size).size then (ByteArray.empty, 0, 3) else ((rP c nm (tokG c).1 (tokG c).1.length).2 ++ c.extract (rP c nm (tokG c).1 (tokG c).1.length).1.toNat c.size, 0, 0) := by
    unfold renG; rw [if_neg (by rw [he]; simp)]
  have hsz := fun i => rP_size (c := c) (ts := (tokG c).1) hKs i
  have hat := at_size he rfl
  obtain ⟨R, hR⟩ : ∃ R, R = renG c nm := ⟨_, rfl⟩
  rw [← hR]
  rw [hfin] at hR
  clear hfin
  obtain ⟨ts, hts⟩ : ∃ ts, (tokG c).1 = ts := ⟨_, rfl⟩
  have hT : tokG c = (ts, (tokG c).2.1, 0) := by rw [← hts, ← he]
  generalize (tokG c).2.1 = pl at hT
  rw [hT] at ht
  rw [hts] at hln hal hsz hat hR
  clear hT hts he
  refine row_of Tryd.func9 rfl rfl (Nat.le_of_ble_eq_true rfl) ?_
  repeat' (first | refine aw_seq ?_ | refine aw_skip ?_ | refine aw_block ?_ | refine aw_exit ?_ | refine aw_cond rfl (fun _ => ?_) (fun hb => absurd hb (by decide)) | refine aw_cond rfl (fun hb => absurd hb (by decide)) (fun _ => ?_) | (refine aw_reg (fun K hK => ?_); simp -implicitDefEqProofs) | (refine aw_drw mixd (fun K hK => ?_); simp -implicitDefEqProofs) | refine hK _ ?_ | refine hK _ _ (by rfl) ?_ | (refine ar_call (cb ht 0 ?_); simp -implicitDefEqProofs) | (refine ard_call (db ht 0 ?_); simp -implicitDefEqProofs) | fail)
  refine aw_nilb 22 51 5 rfl (by simp) ?_
  simp [St.nilb]
  refine aw_lp (ι := Nat) (fun i => mkSt [(0, vS c), (1, vNs nm), (7, vKs ts), (10, .v (.c (.ptr 1 0))), (11, vI (rP c nm ts i).1), (25, vKs ts), (26, vI (ts.length : Nat)), (27, vI (i : Nat))] [some (.lib LL), some (bld 2 (rP c nm ts i).2), some brw]) (fun i => i ≤ ts.length) (fun i => ts.length - i) 0 (Nat.zero_le _) (cov_intro [0, 22, 27] (by simp -implicitDefEqProofs [rP, bL_empty]) (by simp -implicitDefEqProofs [rP, bL_empty]) (by decide) rfl (by simp)) (fun Z hI i hi => ?_)
  have g := hal i hi
  have hz := hsz i
  have hze : i * (2097152 + c.size) ≤ 8193 * 2105344 := Nat.mul_le_mul (by omega) (by omega)
  by_cases hil : i < ts.length; rotate_left
  · have hie : i = ts.length := by omega
    subst hie
    clear hsz hat hI
    have g0 := g.p0
    have g1 : (rP c nm ts ts.length).1 ≤ c.size := by have := g.pd; have := g.dc; omega
    clear g hal
    generalize rP c nm ts ts.length = r at hz g0 g1 hR ⊢
    obtain ⟨at', acc⟩ := r
    dsimp only at hz g0 g1 hR ⊢
    have w1 := bwrite_row acc (c.extract at'.toNat c.size) (by rw [ByteArray.size_extract]; omega)
    have w2 := blen_row (acc ++ c.extract at'.toNat c.size)
    have w3 := bstring_row (acc ++ c.extract at'.toNat c.size)
    have g2 : at'.toNat ≤ c.size := by omega
    generalize acc ++ c.extract at'.toNat c.size = res at w1 w2 w3 hR
    by_cases q : 8192 < res.size
    · have q' : (8192 : Int) < res.size := by omega
      rw [if_pos q] at hR
      subst hR
      repeat' (first | refine aw_seq ?_ | refine aw_skip ?_ | refine aw_block ?_ | refine aw_exit ?_ | refine aw_cond rfl (fun _ => ?_) (fun hb => absurd hb (by decide)) | refine aw_cond rfl (fun hb => absurd hb (by decide)) (fun _ => ?_) | (refine aw_reg (fun K hK => ?_); simp -implicitDefEqProofs [g0, g1, q, q']) | (refine aw_drw mixd (fun K hK => ?_); simp -implicitDefEqProofs [g0, g1, q, q']) | refine hK _ ?_ | refine hK _ _ (by rfl) ?_ | (refine ar_call (cg w1 [1,2] ?_); simp -implicitDefEqProofs [g0, g1, q, q']) | (refine ard_call (dg w1 [1,2] ?_); simp -implicitDefEqProofs [g0, g1, q, q']) | (refine ar_call (cg w2 [1,7] ?_); simp -implicitDefEqProofs [g0, g1, q, q']) | (refine ard_call (dg w2 [1,7] ?_); simp -implicitDefEqProofs [g0, g1, q, q']) | fail)
      refine aw_ret (fin_g [0] ?_); simp -implicitDefEqProofs [FinG, resV, resT] <;> try rfl
    · have q' : ¬ (8192 : Int) < res.size := by omega
      rw [if_neg q] at hR
      subst hR
      repeat' (first | refine aw_seq ?_ | refine aw_skip ?_ | refine aw_block ?_ | refine aw_exit ?_ | refine aw_cond rfl (fun _ => ?_) (fun hb => absurd hb (by decide)) | refine aw_cond rfl (fun hb => absurd hb (by decide)) (fun _ => ?_) | (refine aw_reg (fun K hK => ?_); simp -implicitDefEqProofs [g0, g1, q, q']) | (refine aw_drw mixd (fun K hK => ?_); simp -implicitDefEqProofs [g0, g1, q, q']) | refine hK _ ?_ | refine hK _ _ (by rfl) ?_ | (refine ar_call (cg w1 [1,2] ?_); simp -implicitDefEqProofs [g0, g1, q, q']) | (refine ard_call (dg w1 [1,2] ?_); simp -implicitDefEqProofs [g0, g1, q, q']) | (refine ar_call (cg w2 [1,7] ?_); simp -implicitDefEqProofs [g0, g1, q, q']) | (refine ard_call (dg w2 [1,7] ?_); simp -implicitDefEqProofs [g0, g1, q, q']) | (refine ar_call (cg w3 [1,7] ?_); simp -implicitDefEqProofs [g0, g1, q, q']) | (refine ard_call (dg w3 [1,7] ?_); simp -implicitDefEqProofs [g0, g1, q, q']) | fail)
      refine aw_ret (fin_g [0] ?_); simp -implicitDefEqProofs [FinG, resV, resT] <;> try rfl
  obtain ⟨x, hx⟩ : ∃ a, ts[i]? = some a := ⟨_, List.getElem?_eq_getElem hil⟩
  have hx' := (List.getElem?_eq_some_iff.1 hx).2
  have w2 : IntKind.i64.wrap ((i : Nat) + 1 : Int) = (i : Nat) + 1 := i64i _ (by omega) (by omega)
  obtain ⟨b1, b2, b3⟩ := hat i hil
  have g0 := g.p0
  have g1 := g.pd
  have g2 := g.dn hil
  clear g hal hat hsz
  have hfx : frT ts i = x.f := by unfold frT; rw [nxt_some hx]
  have htx : toT ts i = x.t := by unfold toT; rw [nxt_some hx]
  rw [hfx, htx] at b2
  rw [hfx] at b1 g2
  rw [htx] at b3
  have e1 : rP c nm ts (i + 1) = if isAt ts i = true then (match fndN nm x.s with
      | some w => (x.t, (rP c nm ts i).2 ++ c.extract (rP c nm ts i).1.toNat x.f.toNat ++ w)
      | none => rP c nm ts i) else rP c nm ts i := by rw [rP, hfx, htx, nxt_some hx]; rfl
  have e2 : isAt ts i = (decide (0 < i) && decide (x.k = 1) && decide ((nxt ts (i - 1)).k = 4) && decide ((nxt ts (i - 1)).s = sAt)) := by unfold isAt; rw [nxt_some hx]
  by_cases h0 : i = 0
  · have h0' : (i = 0) = True := eq_true h0
    have e3 : rP c nm ts (i + 1) = rP c nm ts i := by rw [e1, e2, if_neg (by simp [h0])]
    repeat (first | refine aw_seq ?_ | refine aw_skip ?_ | refine aw_block ?_ | refine aw_exit ?_ | refine aw_cond rfl (fun _ => ?_) (fun hb => absurd hb (by decide)) | refine aw_cond rfl (fun hb => absurd hb (by decide)) (fun _ => ?_) | (refine aw_reg (fun K hK => ?_); simp -implicitDefEqProofs [kc, hil, hx, hx', w2, h0']; refine hK _ ?_) | (refine aw_drw mixd (fun K hK => ?_); simp -implicitDefEqProofs [kc, hil, hx, hx', w2, h0']; refine hK _ _ (by rfl) ?_) | fail)
    refine ⟨i + 1, by omega, (by dsimp only; omega), ?_⟩; rw [hI]; exact cov_intro [0, 1, 2] (by simp -implicitDefEqProofs [e3]) (by simp -implicitDefEqProofs [e3]) (by decide) rfl (by simp)
  have h0' : (i = 0) = False := eq_false h0
  obtain ⟨y, hy⟩ : ∃ a, ts[i - 1]? = some a := ⟨_, List.getElem?_eq_getElem (by omega)⟩
  have hy' := (List.getElem?_eq_some_iff.1 hy).2
  have hyl : i - 1 < ts.length := by omega
  have w3 : IntKind.i64.wrap ((i : Nat) - 1 : Int) = ((i - 1 : Nat) : Int) := by
    rw [i64i _ (by omega) (by omega)]; omega
  rw [nxt_some hy] at e2
  by_cases hk : x.k = 1; rotate_left
  · have e3 : rP c nm ts (i + 1) = rP c nm ts i := by rw [e1, e2, if_neg (by simp [hk])]
    repeat (first | refine aw_seq ?_ | refine aw_skip ?_ | refine aw_block ?_ | refine aw_exit ?_ | refine aw_cond rfl (fun _ => ?_) (fun hb => absurd hb (by decide)) | refine aw_cond rfl (fun hb => absurd hb (by decide)) (fun _ => ?_) | (refine aw_reg (fun K hK => ?_); simp -implicitDefEqProofs [kc, hil, hx, hx', w2, h0', hk]; refine hK _ ?_) | (refine aw_drw mixd (fun K hK => ?_); simp -implicitDefEqProofs [kc, hil, hx, hx', w2, h0', hk]; refine hK _ _ (by rfl) ?_) | fail)
    refine ⟨i + 1, by omega, (by dsimp only; omega), ?_⟩; rw [hI]; exact cov_intro [0, 1, 2] (by simp -implicitDefEqProofs [e3]) (by simp -implicitDefEqProofs [e3]) (by decide) rfl (by simp)
  by_cases hk2 : y.k = 4; rotate_left
  · have e3 : rP c nm ts (i + 1) = rP c nm ts i := by rw [e1, e2, if_neg (by simp [hk2])]
    repeat (first | refine aw_seq ?_ | refine aw_skip ?_ | refine aw_block ?_ | refine aw_exit ?_ | refine aw_cond rfl (fun _ => ?_) (fun hb => absurd hb (by decide)) | refine aw_cond rfl (fun hb => absurd hb (by decide)) (fun _ => ?_) | (refine aw_reg (fun K hK => ?_); simp -implicitDefEqProofs [kc, hil, hx, hx', w2, w3, hyl, hy, hy', h0', hk, hk2]; refine hK _ ?_) | (refine aw_drw mixd (fun K hK => ?_); simp -implicitDefEqProofs [kc, hil, hx, hx', w2, w3, hyl, hy, hy', h0', hk, hk2]; refine hK _ _ (by rfl) ?_) | fail)
    refine ⟨i + 1, by omega, (by dsimp only; omega), ?_⟩; rw [hI]; exact cov_intro [0, 1, 2] (by simp -implicitDefEqProofs [e3]) (by simp -implicitDefEqProofs [e3]) (by decide) rfl (by simp)
  by_cases hs : y.s = sAt; rotate_left
  · have e3 : rP c nm ts (i + 1) = rP c nm ts i := by rw [e1, e2, if_neg (by simp [hs])]
    repeat (first | refine aw_seq ?_ | refine aw_skip ?_ | refine aw_block ?_ | refine aw_exit ?_ | refine aw_cond rfl (fun _ => ?_) (fun hb => absurd hb (by decide)) | refine aw_cond rfl (fun hb => absurd hb (by decide)) (fun _ => ?_) | (refine aw_reg (fun K hK => ?_); simp -implicitDefEqProofs [kc, hil, hx, hx', w2, w3, hyl, hy, hy', h0', hk, hk2, hs]; refine hK _ ?_) | (refine aw_drw mixd (fun K hK => ?_); simp -implicitDefEqProofs [kc, hil, hx, hx', w2, w3, hyl, hy, hy', h0', hk, hk2, hs]; refine hK _ _ (by rfl) ?_) | fail)
    refine ⟨i + 1, by omega, (by dsimp only; omega), ?_⟩; rw [hI]; exact cov_intro [0, 1, 2] (by simp -implicitDefEqProofs [e3]) (by simp -implicitDefEqProofs [e3]) (by decide) rfl (by simp)
  have hi0 : 0 < i := by omega
  have e2' : isAt ts i = true := by rw [e2]; simp [hk, hk2, hs, hi0]
  rw [if_pos e2'] at e1
  have hin := indexN_row x nm hn
  have hk' := eq_true hk
  have hk2' := eq_true hk2
  have hs' := eq_true hs
  cases hf : fndN nm x.s with
  | none =>
    have e3 : rP c nm ts (i + 1) = rP c nm ts i := by rw [e1, hf]
    rw [fst_none hf] at hin
    repeat' (first | refine aw_seq ?_ | refine aw_skip ?_ | refine aw_block ?_ | refine aw_exit ?_ | refine aw_cond rfl (fun _ => ?_) (fun hb => absurd hb (by decide)) | refine aw_cond rfl (fun hb => absurd hb (by decide)) (fun _ => ?_) | (refine aw_reg (fun K hK => ?_); simp -implicitDefEqProofs [kc, hil, hx, hx', w2, w3, hyl, hy, hy', h0', hk', hk2', hs']) | (refine aw_drw mixd (fun K hK => ?_); simp -implicitDefEqProofs [kc, hil, hx, hx', w2, w3, hyl, hy, hy', h0', hk', hk2', hs']) | refine hK _ ?_ | refine hK _ _ (by rfl) ?_ | (refine ar_call (cb hin 7 ?_); simp -implicitDefEqProofs [kc, hil, hx, hx', w2, w3, hyl, hy, hy', h0', hk', hk2', hs']) | (refine ard_call (db hin 7 ?_); simp -implicitDefEqProofs [kc, hil, hx, hx', w2, w3, hyl, hy, hy', h0', hk', hk2', hs']) | fail)
    refine ⟨i + 1, by omega, (by dsimp only; omega), ?_⟩; rw [hI]; exact cov_intro [0, 1, 2] (by simp -implicitDefEqProofs [e3]) (by simp -implicitDefEqProofs [e3]) (by decide) rfl (by simp)
  | some w =>
    have e3 : rP c nm ts (i + 1) = (x.t, (rP c nm ts i).2 ++ c.extract (rP c nm ts i).1.toNat x.f.toNat ++ w) := by rw [e1, hf]
    obtain ⟨k, hk3, hk4⟩ := fst_some hf
    rw [hk3] at hin
    have hk5 := (List.getElem?_eq_some_iff.1 hk4).2
    have hk6 := (List.getElem?_eq_some_iff.1 hk4).1
    have hk7 : w.size ≤ 2097152   := hKs _ (List.mem_of_getElem? hk4)
    clear e1 e2 hf hk3 hR
    generalize rP c nm ts i = r at g0 g1 hz e3 hI ⊢
    obtain ⟨at', acc⟩ := r
    dsimp only at g0 g1 hz e3 ⊢
    have g3 : at' ≤ x.f := by omega
    have g4 : x.f ≤ c.size := by omega
    have v1 := bwrite_row acc (c.extract at'.toNat x.f.toNat) (by rw [ByteArray.size_extract]; omega)
    have v2 := bwrite_row (acc ++ c.extract at'.toNat x.f.toNat) w (by rw [app_sz, ByteArray.size_extract]; omega)
    repeat' (first | refine aw_seq ?_ | refine aw_skip ?_ | refine aw_block ?_ | refine aw_exit ?_ | refine aw_cond rfl (fun _ => ?_) (fun hb => absurd hb (by decide)) | refine aw_cond rfl (fun hb => absurd hb (by decide)) (fun _ => ?_) | (refine aw_reg (fun K hK => ?_); simp -implicitDefEqProofs [kc, hil, hx, hx', w2, w3, hyl, hy, hy', h0', hk', hk2', hs', g0, g3, g4, hk4, hk5, hk6]) | (refine aw_drw mixd (fun K hK => ?_); simp -implicitDefEqProofs [kc, hil, hx, hx', w2, w3, hyl, hy, hy', h0', hk', hk2', hs', g0, g3, g4, hk4, hk5, hk6]) | refine hK _ ?_ | refine hK _ _ (by rfl) ?_ | (refine ar_call (cb hin 7 ?_); simp -implicitDefEqProofs [kc, hil, hx, hx', w2, w3, hyl, hy, hy', h0', hk', hk2', hs', g0, g3, g4, hk4, hk5, hk6]) | (refine ard_call (db hin 7 ?_); simp -implicitDefEqProofs [kc, hil, hx, hx', w2, w3, hyl, hy, hy', h0', hk', hk2', hs', g0, g3, g4, hk4, hk5, hk6]) | (refine ar_call (cg v1 [1,2] ?_); simp -implicitDefEqProofs [kc, hil, hx, hx', w2, w3, hyl, hy, hy', h0', hk', hk2', hs', g0, g3, g4, hk4, hk5, hk6]) | (refine ard_call (dg v1 [1,2] ?_); simp -implicitDefEqProofs [kc, hil, hx, hx', w2, w3, hyl, hy, hy', h0', hk', hk2', hs', g0, g3, g4, hk4, hk5, hk6]) | (refine ar_call (cg v2 [1,53] ?_); simp -implicitDefEqProofs [kc, hil, hx, hx', w2, w3, hyl, hy, hy', h0', hk', hk2', hs', g0, g3, g4, hk4, hk5, hk6]) | (refine ard_call (dg v2 [1,53] ?_); simp -implicitDefEqProofs [kc, hil, hx, hx', w2, w3, hyl, hy, hy', h0', hk', hk2', hs', g0, g3, g4, hk4, hk5, hk6]) | fail)
    refine ⟨i + 1, by omega, (by dsimp only; omega), ?_⟩; rw [hI]; exact cov_intro [0, 1, 66] (by simp -implicitDefEqProofs [e3]) (by simp -implicitDefEqProofs [e3]) (by decide) rfl (by simp)
end Go.Proofs.YtlkggpjdaaglmaaDoor.am
