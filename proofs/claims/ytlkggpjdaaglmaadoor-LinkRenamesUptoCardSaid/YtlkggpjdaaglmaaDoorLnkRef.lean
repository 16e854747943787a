/-
  Layer 22: a client, what it calls named anew: the document's Rename.
-/
import Derived.Test.YtlkggpjdaaglmaaDoorLnkRen2
namespace Go.Proofs.YtlkggpjdaaglmaaDoor.am
open Go.ChangeShapes Go.WideShapes Go.ChangeAt Go.RowKit
open vt
set_option linter.unusedVariables false
set_option linter.unusedSimpArgs false
theorem emp_eq : ByteArray.empty = ⟨#[]⟩ := rfl
set_option maxRecDepth 100000 in
set_option maxHeartbeats 4000000 in
theorem ranew_row (l : List Nm) (hl : l.length ≤ 1000000) (s : ByteArray) : Row Tryd.prog 26 [vNs l, vS s] [] (vS ((fndN l s).getD s)) [] := by
  refine row_of Tryd.func26 rfl rfl (Nat.le_of_ble_eq_true rfl) ?_
  repeat (first | refine aw_seq ?_ | refine aw_skip ?_ | refine aw_block ?_ | refine aw_exit ?_ | refine aw_cond rfl (fun _ => ?_) (fun hb => absurd hb (by decide)) | refine aw_cond rfl (fun hb => absurd hb (by decide)) (fun _ => ?_) | (refine aw_reg (fun K hK => ?_); simp -implicitDefEqProofs; refine hK _ ?_) | (refine aw_drw mixd (fun K hK => ?_); simp -implicitDefEqProofs; refine hK _ _ (by rfl) ?_) | fail)
  refine aw_lp (ι := Nat) (fun k => mkSt [(0, vNs l), (1, vS s), (5, vI (k : Nat))] []) (fun k => k ≤ l.length ∧ ∀ (j : Nat) p, l[j]? = some p → j < k → ¬ p.1 = s) (fun k => l.length - k) 0 ⟨Nat.zero_le _, fun j t _ h => by omega⟩ (cov_intro [] (by simp -implicitDefEqProofs) (by simp -implicitDefEqProofs) (by decide) rfl (by simp)) (fun Z hI k hk => ?_)
  obtain ⟨hk, hz⟩ := hk
  by_cases hkl : k < l.length; rotate_left
  · have e : fndN l s = none := by
      unfold fndN
      rw [Option.map_eq_none_iff, List.find?_eq_none]
      intro y hy
      obtain ⟨j, hj⟩ := List.mem_iff_getElem?.1 hy
      have := hz j y hj (by have := (List.getElem?_eq_some_iff.1 hj).1; omega)
      simpa using this
    rw [e]
    repeat (first | refine aw_seq ?_ | refine aw_skip ?_ | refine aw_block ?_ | refine aw_exit ?_ | refine aw_cond rfl (fun _ => ?_) (fun hb => absurd hb (by decide)) | refine aw_cond rfl (fun hb => absurd hb (by decide)) (fun _ => ?_) | (refine aw_reg (fun K hK => ?_); simp -implicitDefEqProofs [hkl]; refine hK _ ?_) | (refine aw_drw mixd (fun K hK => ?_); simp -implicitDefEqProofs [hkl]; refine hK _ _ (by rfl) ?_) | fail)
    refine aw_ret (fin_ret ?_); simp -implicitDefEqProofs [FinP, resV, resT] <;> try rfl
  obtain ⟨a, ha⟩ : ∃ a, l[k]? = some a := ⟨_, List.getElem?_eq_getElem hkl⟩
  have ha' := (List.getElem?_eq_some_iff.1 ha).2
  have w2 : IntKind.i64.wrap ((k : Nat) + 1 : Int) = (k : Nat) + 1 := i64i _ (by omega) (by omega)
  by_cases hp : a.1 = s
  · have e : fndN l s = some a.2 := by
      unfold fndN
      rw [Option.map_eq_some_iff]
      refine ⟨a, ?_, rfl⟩
      rw [List.find?_eq_some_iff_getElem]
      exact ⟨by simpa using hp, k, hkl, ha', fun j hj => by simpa using hz j l[j] (List.getElem?_eq_getElem (by omega)) hj⟩
    rw [e]
    repeat (first | refine aw_seq ?_ | refine aw_skip ?_ | refine aw_block ?_ | refine aw_exit ?_ | refine aw_cond rfl (fun _ => ?_) (fun hb => absurd hb (by decide)) | refine aw_cond rfl (fun hb => absurd hb (by decide)) (fun _ => ?_) | (refine aw_reg (fun K hK => ?_); simp -implicitDefEqProofs [hkl, ha, ha', w2, hp]; refine hK _ ?_) | (refine aw_drw mixd (fun K hK => ?_); simp -implicitDefEqProofs [hkl, ha, ha', w2, hp]; refine hK _ _ (by rfl) ?_) | fail)
    refine aw_ret (fin_ret ?_); simp -implicitDefEqProofs [FinP, resV, resT] <;> try rfl
  · repeat (first | refine aw_seq ?_ | refine aw_skip ?_ | refine aw_block ?_ | refine aw_exit ?_ | refine aw_cond rfl (fun _ => ?_) (fun hb => absurd hb (by decide)) | refine aw_cond rfl (fun hb => absurd hb (by decide)) (fun _ => ?_) | (refine aw_reg (fun K hK => ?_); simp -implicitDefEqProofs [hkl, ha, ha', w2, hp]; refine hK _ ?_) | (refine aw_drw mixd (fun K hK => ?_); simp -implicitDefEqProofs [hkl, ha, ha', w2, hp]; refine hK _ _ (by rfl) ?_) | fail)
    refine ⟨k + 1, ⟨by omega, fun j p hj hlt => ?_⟩, (by dsimp only; omega), ?_⟩
    · by_cases hjk : j = k
      · subst hjk; rw [ha] at hj; cases hj; exact hp
      · exact hz j p hj (by omega)
    · rw [hI]; exact cov_intro [] (by simp -implicitDefEqProofs) (by simp -implicitDefEqProofs) (by decide) rfl (by simp)
set_option maxRecDepth 100000 in
set_option maxHeartbeats 4000000 in
theorem rrename_row (c : ByteArray) (hc : c.size ≤ 9223372036854775807) (nm : List Nm) (hn : nm.length ≤ 1000000) (hKs : ∀ p ∈ nm, p.2.size ≤ 140737488355328) : Row Tryd.prog 10 [vS c, vNs nm] [] (vRn (renG c nm)) [] := by
  have ht := rtokens_row c hc
  by_cases he : (tokG c).2.2 = 0; rotate_left
  · rw [ren_bad he]
    generalize tokG c = T at ht he ⊢
    obtain ⟨ts, pl, er⟩ := T
    dsimp only at he
    refine row_of Tryd.func10 rfl rfl (Nat.le_of_ble_eq_true rfl) ?_
    repeat' (first | refine aw_seq ?_ | refine aw_skip ?_ | refine aw_block ?_ | refine aw_exit ?_ | refine aw_cond rfl (fun _ => ?_) (fun hb => absurd hb (by decide)) | refine aw_cond rfl (fun hb => absurd hb (by decide)) (fun _ => ?_) | (refine aw_reg (fun K hK => ?_); simp -implicitDefEqProofs [he]) | (refine aw_drw mixd (fun K hK => ?_); simp -implicitDefEqProofs [he]) | refine hK _ ?_ | refine hK _ _ (by rfl) ?_ | (refine ar_call (cp ht ?_); simp -implicitDefEqProofs [he]) | (refine ard_call (dp ht ?_); simp -implicitDefEqProofs [he]) | fail)
    refine aw_ret (fin_ret ?_); simp -implicitDefEqProofs [FinP, resV, resT] <;> try rfl
  have h8 : c.size ≤ 8192 := by
    obtain ⟨M, a1, a2, a3, a4, a5⟩ := (tok_ok he).ex
    exact a5
  have hln : (tokG c).1.length ≤ 8193 := by
    obtain ⟨M, a1, a2, a3, a4, a5⟩ := (tok_ok he).ex
    rw [a1, List.length_append]; simp; omega
  have hal := along nm he
  have hlong := fun (i : Nat) => ren_long (c := c) (nm := nm) he (i := i)
  have hfin := ren_doc (c := c) (nm := nm) he
  have hat := at_size he rfl
  have hnm := tok_nm he
  obtain ⟨R, hR⟩ : ∃ R, R = renG c nm := ⟨_, rfl⟩
  rw [← hR]
  rw [← hR] at hfin
  simp only [← hR] at hlong
  clear hR
  obtain ⟨ts, hts⟩ : ∃ ts, (tokG c).1 = ts := ⟨_, rfl⟩
  have hT : tokG c = (ts, (tokG c).2.1, 0) := by rw [← hts, ← he]
  generalize (tokG c).2.1 = pl at hT
  rw [hT] at ht
  rw [hts] at hln hal hat hfin hnm
  simp only [hts] at hlong
  clear hT hts he
  refine row_of Tryd.func10 rfl rfl (Nat.le_of_ble_eq_true rfl) ?_
  repeat' (first | refine aw_seq ?_ | refine aw_skip ?_ | refine aw_block ?_ | refine aw_exit ?_ | refine aw_cond rfl (fun _ => ?_) (fun hb => absurd hb (by decide)) | refine aw_cond rfl (fun hb => absurd hb (by decide)) (fun _ => ?_) | (refine aw_reg (fun K hK => ?_); simp -implicitDefEqProofs) | (refine aw_drw mixd (fun K hK => ?_); simp -implicitDefEqProofs) | refine hK _ ?_ | refine hK _ _ (by rfl) ?_ | (refine ar_call (cp ht ?_); simp -implicitDefEqProofs) | (refine ard_call (dp ht ?_); simp -implicitDefEqProofs) | fail)
  refine aw_lp (ι := Nat) (fun i => mkSt [(0, vS c), (1, vNs nm), (7, vKs ts), (10, vS (rD c nm ts i).2), (11, vI (rD c nm ts i).1), (12, vI (i : Nat))] []) (fun i => i ≤ ts.length ∧ (rD c nm ts i).2.size ≤ 8192) (fun i => ts.length - i) 0 ⟨Nat.zero_le _, by show 0 ≤ 8192; omega⟩ (cov_intro [] (by simp -implicitDefEqProofs [rD, emp_eq]) (by simp -implicitDefEqProofs [rD, emp_eq]) (by decide) rfl (by simp)) (fun Z hI i hi => ?_)
  obtain ⟨hi, hz⟩ := hi
  have g := hal i hi
  by_cases hil : i < ts.length; rotate_left
  · have hie : i = ts.length := by omega
    subst hie
    clear hlong hat hI
    have g0 : 0 ≤ (rD c nm ts ts.length).1 := by have := g.p0; have := g.pd; omega
    have g1 := g.dc
    clear g hal
    generalize rD c nm ts ts.length = r at hz g0 g1 hfin ⊢
    obtain ⟨at', acc⟩ := r
    dsimp only at hz g0 g1 hfin ⊢
    have g3 : acc.size + (c.extract at'.toNat c.size).size ≤ 9223372036854775807 := by rw [ByteArray.size_extract]; omega
    rw [app_sz] at hfin
    obtain ⟨E, hE⟩ : ∃ E, c.extract at'.toNat c.size = E := ⟨_, rfl⟩
    rw [hE] at hfin g3
    by_cases q : 8192 < acc.size + E.size
    · have q' : (8192 : Int) < acc.size + E.size := by omega
      rw [if_pos q] at hfin
      subst hfin
      repeat (first | refine aw_seq ?_ | refine aw_skip ?_ | refine aw_block ?_ | refine aw_exit ?_ | refine aw_cond rfl (fun _ => ?_) (fun hb => absurd hb (by decide)) | refine aw_cond rfl (fun hb => absurd hb (by decide)) (fun _ => ?_) | (refine aw_reg (fun K hK => ?_); simp -implicitDefEqProofs [g0, g1, q, q', g3, hE]; refine hK _ ?_) | (refine aw_drw mixd (fun K hK => ?_); simp -implicitDefEqProofs [g0, g1, q, q', g3, hE]; refine hK _ _ (by rfl) ?_) | fail)
      refine aw_ret (fin_ret ?_); simp -implicitDefEqProofs [FinP, resV, resT] <;> try rfl
    · have q' : ¬ (8192 : Int) < acc.size + E.size := by omega
      rw [if_neg q] at hfin
      subst hfin
      repeat (first | refine aw_seq ?_ | refine aw_skip ?_ | refine aw_block ?_ | refine aw_exit ?_ | refine aw_cond rfl (fun _ => ?_) (fun hb => absurd hb (by decide)) | refine aw_cond rfl (fun hb => absurd hb (by decide)) (fun _ => ?_) | (refine aw_reg (fun K hK => ?_); simp -implicitDefEqProofs [g0, g1, q, q', g3, hE]; refine hK _ ?_) | (refine aw_drw mixd (fun K hK => ?_); simp -implicitDefEqProofs [g0, g1, q, q', g3, hE]; refine hK _ _ (by rfl) ?_) | fail)
      refine aw_ret (fin_ret ?_); simp -implicitDefEqProofs [FinP, resV, resT] <;> try rfl
  obtain ⟨x, hx⟩ : ∃ a, ts[i]? = some a := ⟨_, List.getElem?_eq_getElem hil⟩
  have hx' := (List.getElem?_eq_some_iff.1 hx).2
  have w2 : IntKind.i64.wrap ((i : Nat) + 1 : Int) = (i : Nat) + 1 := i64i _ (by omega) (by omega)
  obtain ⟨b1, b2, b3⟩ := hat i hil
  have g0 : 0 ≤ (rD c nm ts i).1 := by have := g.p0; have := g.pd; omega
  have g2 := g.dn hil
  have hlg := hlong (i + 1) (by omega)
  clear g hal hat hfin hlong
  have hfx : frT ts i = x.f := by unfold frT; rw [nxt_some hx]
  have htx : toT ts i = x.t := by unfold toT; rw [nxt_some hx]
  rw [hfx, htx] at b2
  rw [hfx] at b1 g2
  rw [htx] at b3
  have e1 : rD c nm ts (i + 1) = if isAt ts i = true then (x.t, (rD c nm ts i).2 ++ c.extract (rD c nm ts i).1.toNat x.f.toNat ++ (fndN nm x.s).getD x.s) else rD c nm ts i := by rw [rD, hfx, htx, nxt_some hx]
  have e2 : isAt ts i = (decide (0 < i) && decide (x.k = 1) && decide ((nxt ts (i - 1)).k = 4) && decide ((nxt ts (i - 1)).s = sAt)) := by unfold isAt; rw [nxt_some hx]
  by_cases h0 : 0 < i; rotate_left
  · have h0' : (0 < i) = False := eq_false h0
    have e3 : rD c nm ts (i + 1) = rD c nm ts i := by rw [e1, e2, if_neg (by simp [h0])]
    repeat (first | refine aw_seq ?_ | refine aw_skip ?_ | refine aw_block ?_ | refine aw_exit ?_ | refine aw_cond rfl (fun _ => ?_) (fun hb => absurd hb (by decide)) | refine aw_cond rfl (fun hb => absurd hb (by decide)) (fun _ => ?_) | (refine aw_reg (fun K hK => ?_); simp -implicitDefEqProofs [kc, hil, hx, hx', w2, h0']; refine hK _ ?_) | (refine aw_drw mixd (fun K hK => ?_); simp -implicitDefEqProofs [kc, hil, hx, hx', w2, h0']; refine hK _ _ (by rfl) ?_) | fail)
    refine ⟨i + 1, ⟨by omega, by rw [e3]; exact hz⟩, (by dsimp only; omega), ?_⟩
    rw [hI]; exact cov_intro [] (by simp -implicitDefEqProofs [e3]) (by simp -implicitDefEqProofs [e3]) (by decide) rfl (by simp)
  have h0' : (0 < i) = True := eq_true h0
  obtain ⟨y, hy⟩ : ∃ a, ts[i - 1]? = some a := ⟨_, List.getElem?_eq_getElem (by omega)⟩
  have hy' := (List.getElem?_eq_some_iff.1 hy).2
  have hyl : i - 1 < ts.length := by omega
  have w3 : IntKind.i64.wrap ((i : Nat) - 1 : Int) = ((i - 1 : Nat) : Int) := by
    rw [i64i _ (by omega) (by omega)]; omega
  rw [nxt_some hy] at e2
  by_cases hk : x.k = 1; rotate_left
  · have e3 : rD c nm ts (i + 1) = rD c nm ts i := by rw [e1, e2, if_neg (by simp [hk])]
    repeat (first | refine aw_seq ?_ | refine aw_skip ?_ | refine aw_block ?_ | refine aw_exit ?_ | refine aw_cond rfl (fun _ => ?_) (fun hb => absurd hb (by decide)) | refine aw_cond rfl (fun hb => absurd hb (by decide)) (fun _ => ?_) | (refine aw_reg (fun K hK => ?_); simp -implicitDefEqProofs [kc, hil, hx, hx', w2, h0', hk]; refine hK _ ?_) | (refine aw_drw mixd (fun K hK => ?_); simp -implicitDefEqProofs [kc, hil, hx, hx', w2, h0', hk]; refine hK _ _ (by rfl) ?_) | fail)
    refine ⟨i + 1, ⟨by omega, by rw [e3]; exact hz⟩, (by dsimp only; omega), ?_⟩
    rw [hI]; exact cov_intro [] (by simp -implicitDefEqProofs [e3]) (by simp -implicitDefEqProofs [e3]) (by decide) rfl (by simp)
  by_cases hk2 : y.k = 4; rotate_left
  · have e3 : rD c nm ts (i + 1) = rD c nm ts i := by rw [e1, e2, if_neg (by simp [hk2])]
    repeat (first | refine aw_seq ?_ | refine aw_skip ?_ | refine aw_block ?_ | refine aw_exit ?_ | refine aw_cond rfl (fun _ => ?_) (fun hb => absurd hb (by decide)) | refine aw_cond rfl (fun hb => absurd hb (by decide)) (fun _ => ?_) | (refine aw_reg (fun K hK => ?_); simp -implicitDefEqProofs [kc, hil, hx, hx', w2, w3, hyl, hy, hy', h0', hk, hk2]; refine hK _ ?_) | (refine aw_drw mixd (fun K hK => ?_); simp -implicitDefEqProofs [kc, hil, hx, hx', w2, w3, hyl, hy, hy', h0', hk, hk2]; refine hK _ _ (by rfl) ?_) | fail)
    refine ⟨i + 1, ⟨by omega, by rw [e3]; exact hz⟩, (by dsimp only; omega), ?_⟩
    rw [hI]; exact cov_intro [] (by simp -implicitDefEqProofs [e3]) (by simp -implicitDefEqProofs [e3]) (by decide) rfl (by simp)
  by_cases hs : y.s = sAt; rotate_left
  · have e3 : rD c nm ts (i + 1) = rD c nm ts i := by rw [e1, e2, if_neg (by simp [hs])]
    repeat (first | refine aw_seq ?_ | refine aw_skip ?_ | refine aw_block ?_ | refine aw_exit ?_ | refine aw_cond rfl (fun _ => ?_) (fun hb => absurd hb (by decide)) | refine aw_cond rfl (fun hb => absurd hb (by decide)) (fun _ => ?_) | (refine aw_reg (fun K hK => ?_); simp -implicitDefEqProofs [kc, hil, hx, hx', w2, w3, hyl, hy, hy', h0', hk, hk2, hs]; refine hK _ ?_) | (refine aw_drw mixd (fun K hK => ?_); simp -implicitDefEqProofs [kc, hil, hx, hx', w2, w3, hyl, hy, hy', h0', hk, hk2, hs]; refine hK _ _ (by rfl) ?_) | fail)
    refine ⟨i + 1, ⟨by omega, by rw [e3]; exact hz⟩, (by dsimp only; omega), ?_⟩
    rw [hI]; exact cov_intro [] (by simp -implicitDefEqProofs [e3]) (by simp -implicitDefEqProofs [e3]) (by decide) rfl (by simp)
  have e2' : isAt ts i = true := by rw [e2]; simp [hk, hk2, hs, h0]
  rw [if_pos e2'] at e1
  have hin := ranew_row nm hn x.s
  have hwz : ((fndN nm x.s).getD x.s).size ≤ 140737488355328 + x.s.size := by
    cases hf : fndN nm x.s with
    | none => show x.s.size ≤ _; omega
    | some w =>
      unfold fndN at hf
      obtain ⟨p, hp, rfl⟩ := Option.map_eq_some_iff.1 hf
      have := hKs p (List.mem_of_find?_eq_some hp)
      show p.2.size ≤ _
      omega
  have hxs : x.s.size ≤ 8192 := by
    rw [hnm x (List.mem_of_getElem? hx) hk, ByteArray.size_extract]; omega
  clear e2 e2' hnm
  generalize (fndN nm x.s).getD x.s = w at hwz hin e1
  generalize rD c nm ts i = r at g0 g2 hz e1 ⊢
  obtain ⟨at', acc⟩ := r
  dsimp only at g0 g2 hz e1 ⊢
  have g3 : x.f ≤ c.size := by omega
  have g5 : (c.extract at'.toNat x.f.toNat).size ≤ 8192 := by rw [ByteArray.size_extract]; omega
  obtain ⟨E, hE⟩ : ∃ E, c.extract at'.toNat x.f.toNat = E := ⟨_, rfl⟩
  rw [hE] at g5 e1
  rw [e1] at hlg
  dsimp only at hlg
  rw [app_sz, app_sz] at hlg
  have g6 : acc.size + E.size ≤ 9223372036854775807 := by omega
  have g7 : acc.size + E.size + w.size ≤ 9223372036854775807 := by omega
  have hk' := eq_true hk
  have hk2' := eq_true hk2
  have hs' := eq_true hs
  by_cases q : 8192 < acc.size + E.size + w.size
  · have q' : (8192 : Int) < acc.size + E.size + w.size := by omega
    have hR := hlg q
    subst hR
    repeat' (first | refine aw_seq ?_ | refine aw_skip ?_ | refine aw_block ?_ | refine aw_exit ?_ | refine aw_cond rfl (fun _ => ?_) (fun hb => absurd hb (by decide)) | refine aw_cond rfl (fun hb => absurd hb (by decide)) (fun _ => ?_) | (refine aw_reg (fun K hK => ?_); simp -implicitDefEqProofs [kc, hil, hx, hx', w2, w3, hyl, hy, hy', h0', hk', hk2', hs', g0, g2, g3, hE, g6, g7, q, q']) | (refine aw_drw mixd (fun K hK => ?_); simp -implicitDefEqProofs [kc, hil, hx, hx', w2, w3, hyl, hy, hy', h0', hk', hk2', hs', g0, g2, g3, hE, g6, g7, q, q']) | refine hK _ ?_ | refine hK _ _ (by rfl) ?_ | (refine ar_call (cp hin ?_); simp -implicitDefEqProofs [kc, hil, hx, hx', w2, w3, hyl, hy, hy', h0', hk', hk2', hs', g0, g2, g3, hE, g6, g7, q, q']) | (refine ard_call (dp hin ?_); simp -implicitDefEqProofs [kc, hil, hx, hx', w2, w3, hyl, hy, hy', h0', hk', hk2', hs', g0, g2, g3, hE, g6, g7, q, q']) | fail)
    refine aw_ret (fin_ret ?_); simp -implicitDefEqProofs [FinP, resV, resT] <;> try rfl
  · have q' : ¬ (8192 : Int) < acc.size + E.size + w.size := by omega
    repeat' (first | refine aw_seq ?_ | refine aw_skip ?_ | refine aw_block ?_ | refine aw_exit ?_ | refine aw_cond rfl (fun _ => ?_) (fun hb => absurd hb (by decide)) | refine aw_cond rfl (fun hb => absurd hb (by decide)) (fun _ => ?_) | (refine aw_reg (fun K hK => ?_); simp -implicitDefEqProofs [kc, hil, hx, hx', w2, w3, hyl, hy, hy', h0', hk', hk2', hs', g0, g2, g3, hE, g6, g7, q, q']) | (refine aw_drw mixd (fun K hK => ?_); simp -implicitDefEqProofs [kc, hil, hx, hx', w2, w3, hyl, hy, hy', h0', hk', hk2', hs', g0, g2, g3, hE, g6, g7, q, q']) | refine hK _ ?_ | refine hK _ _ (by rfl) ?_ | (refine ar_call (cp hin ?_); simp -implicitDefEqProofs [kc, hil, hx, hx', w2, w3, hyl, hy, hy', h0', hk', hk2', hs', g0, g2, g3, hE, g6, g7, q, q']) | (refine ard_call (dp hin ?_); simp -implicitDefEqProofs [kc, hil, hx, hx', w2, w3, hyl, hy, hy', h0', hk', hk2', hs', g0, g2, g3, hE, g6, g7, q, q']) | fail)
    refine ⟨i + 1, ⟨by omega, by rw [e1]; show (acc ++ E ++ w).size ≤ 8192; rw [app_sz, app_sz]; omega⟩, (by dsimp only; omega), ?_⟩
    rw [hI]; exact cov_intro [] (by simp -implicitDefEqProofs [e1]) (by simp -implicitDefEqProofs [e1]) (by decide) rfl (by simp)
end Go.Proofs.YtlkggpjdaaglmaaDoor.am
