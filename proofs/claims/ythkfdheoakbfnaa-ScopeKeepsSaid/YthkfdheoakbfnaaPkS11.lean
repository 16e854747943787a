import Derived.Test.YthkfdheoakbfnaaPkS4
import Derived.Test.YthkfdheoakbfnaaPkS6
import Derived.Test.YthkfdheoakbfnaaPkS3
section
namespace Go.Proofs.Ythkfdheoakbfnaa.vt
open Go.Proofs.Ythkfdheoakbfnaa.am
set_option linter.unusedVariables false
def kptL (x y : Lab) : Bool := decide (x.f = y.f) && decide (x.t = y.t) && !decide (y.k = 19) && (decide (x.k = 19) || decide (x.k = y.k)) && (decide (y.s = ⟨#[]⟩) || decide (y.k = 13) || decide (y.k = 17) || decide (y.k = 34))
noncomputable def kptT (t : VT) : VT → Bool := Tr.fold (fun x l bs u => kptL x u.lab && decide (l.length = u.kids.length) && (bs.zip u.kids).all (fun q => q.1 q.2)) t
theorem kptT_mk (x : Lab) (l : List VT) (u : VT) : kptT (.mk x l) u = (kptL x u.lab && decide (l.length = u.kids.length) && (l.zip u.kids).all fun q => kptT q.1 q.2) := by
  unfold kptT
  rw [Tr.fold_mk]
  congr 1
  rw [List.zip_map_left, List.all_map]
  rfl
theorem kptT_yes {x y : Lab} {l m : List VT} (h1 : kptL x y = true) (h2 : l.length = m.length) (h3 : ∀ (i : Nat) a b, l[i]? = some a → m[i]? = some b → kptT a b = true) : kptT (.mk x l) (.mk y m) = true := by
  rw [kptT_mk]
  rw [Tr.lab, Tr.kids, h1, h2]
  simp only [decide_true, Bool.and_self, Bool.true_and, List.all_eq_true]
  intro q hq
  obtain ⟨i, hi⟩ := List.mem_iff_getElem?.1 hq
  obtain ⟨a, b⟩ := q
  obtain ⟨g1, g2⟩ := List.getElem?_zip_eq_some.1 hi
  exact h3 i a b g1 g2
theorem seqT_all (ml : List VT) (x : Lab) (L : List ByteArray) {Q : VT → VT → Prop} : ∀ (l : List VT) (i : Nat) (kn : List ByteArray) (acc : List VT), (∀ y ∈ l, ∀ L', (anyT ml y L').er = 0 → Q y (anyT ml y L').t) → (seqT ml x L i l kn acc).er = 0 → ∃ r, seqT ml x L i l kn acc = ⟨.mk (outS ml x) (acc ++ r), 0, 0⟩ ∧ l.length = r.length ∧ ∀ (j : Nat) a b, l[j]? = some a → r[j]? = some b → Q a b
  | [], i, kn, acc, hq, h => ⟨[], by unfold seqT; simp, rfl, fun j a b h1 => by simp at h1⟩
  | y :: l, i, kn, acc, hq, h => by
    unfold seqT at h ⊢
    by_cases c : (anyT ml y (knwS x L i kn)).er = 0
    · rw [if_neg (by simpa using c)] at h ⊢
      obtain ⟨r, e1, e2, e3⟩ := seqT_all ml x L l (i + 1) _ _ (fun y hy => hq y (.tail _ hy)) h
      refine ⟨(anyT ml y (knwS x L i kn)).t :: r, by rw [e1]; simp, by simp [e2], fun j a b h1 h2 => ?_⟩
      cases j with
      | zero => simp at h1 h2; subst h1 h2; exact hq y (.head _) _ c
      | succ j => simp at h1 h2; exact e3 j a b h1 h2
    · rw [if_pos c] at h; exact absurd h c
theorem any_kept (ml : List VT) : ∀ t : VT, scpT t → ∀ L, (anyT ml t L).er = 0 → kptT t (anyT ml t L).t = true := by
  intro t
  induction t using Tr.ind with
  | h x l ih =>
  intro hs L h
  obtain ⟨h33, h19, hl⟩ := (scpT_mk x l).1 hs
  rw [anyT_mk] at h ⊢
  by_cases c : x.k = 19
  · rw [if_pos c] at h ⊢
    have hl0 := h19 c
    subst hl0
    unfold namS at h ⊢
    split
    · exact kptT_yes (by simp [kptL, c]) rfl (fun i a b h1 => by simp at h1)
    · rename_i hloc
      rw [hloc] at h
      dsimp only at h
      split
      · exact kptT_yes (by simp [kptL, c]) rfl (fun i a b h1 => by simp at h1)
      · rename_i k1
        rw [if_neg k1] at h
        split
        · exact kptT_yes (by simp [kptL, c]) rfl (fun i a b h1 => by simp at h1)
        · rename_i k2
          rw [if_neg k2] at h
          exact absurd (show (8 : Int) = 0 from h) (by decide)
  · rw [if_neg c] at h ⊢
    by_cases d : wrgS ml x = true
    · rw [if_pos d] at h; exact absurd (show (8 : Int) = 0 from h) (by decide)
    · rw [if_neg d] at h ⊢
      obtain ⟨r, e1, e2, e3⟩ := seqT_all ml x L (Q := fun a b => kptT a b = true) l 0 L [] (fun y hy L' hy' => ih y hy (hl y hy) L' hy') h
      rw [e1]
      refine kptT_yes ?_ e2 e3
      unfold kptL outS
      by_cases e : x.k = 13 ∨ x.k = 17
      · rcases e with e | e <;> simp [e]
      · simp [e, c]
theorem prt_kept (ml : List VT) (keep : Bool) : ∀ (l : List VT) (seen : List ByteArray), (∀ q ∈ l, scpP q) → (prtS ml keep seen l).2.2 = 0 → l.length = (prtS ml keep seen l).1.length ∧ ∀ (j : Nat) a b, l[j]? = some a → (prtS ml keep seen l).1[j]? = some b → kptT a b = true
  | [], seen, hs, h => ⟨rfl, fun j a b h1 => by simp at h1⟩
  | y :: l, seen, hs, h => by
    unfold prtS at h ⊢
    split
    · rename_i c; rw [if_pos c] at h; exact absurd (show (9 : Int) = 0 from h) (by decide)
    rename_i c; rw [if_neg c] at h
    split
    · rename_i c2; rw [if_pos c2] at h; exact absurd h c2
    rename_i c2; rw [if_neg c2] at h
    have c2 : (anyT ml y []).er = 0 := by simpa using c2
    split
    · rename_i c3; rw [if_pos c3] at h; exact absurd h c3
    rename_i c3
    have c3 : (prtS ml keep (seen ++ [y.lab.s]) l).2.2 = 0 := by simpa using c3
    obtain ⟨e1, e2⟩ := prt_kept ml keep l _ (fun q hq => hs q (.tail _ hq)) c3
    refine ⟨by simp [← e1], fun j a b h1 h2 => ?_⟩
    cases j with
    | zero =>
      simp at h1 h2
      subst h1 h2
      obtain ⟨k34, ks⟩ := hs y (.head _)
      obtain ⟨x, kl⟩ := y
      rw [Tr.lab] at k34
      have := any_kept ml (.mk x kl) ((scpT_mk _ _).2 ⟨fun e => by omega, fun e => by omega, ks⟩) [] c2
      unfold keepS
      split
      · generalize (anyT ml (.mk x kl) []).t = u at this
        obtain ⟨ux, ul⟩ := u
        rw [kptT_mk] at this ⊢
        simp only [Bool.and_eq_true, decide_eq_true_eq, Tr.lab, Tr.kids] at this ⊢
        refine ⟨⟨?_, this.1.2⟩, this.2⟩
        have h0 := this.1.1
        unfold kptL at h0 ⊢
        simp only [Bool.and_eq_true, Bool.or_eq_true, decide_eq_true_eq, Bool.not_eq_true', decide_eq_false_iff_not] at h0 ⊢
        obtain ⟨⟨⟨⟨q1, q2⟩, q3⟩, q4⟩, q5⟩ := h0
        refine ⟨⟨⟨⟨q1, q2⟩, q3⟩, q4⟩, .inr ?_⟩
        rcases q4 with q4 | q4
        · omega
        · omega
      · exact this
    | succ j => simp at h1 h2; exact e2 j a b h1 h2
theorem dec_kept (ml : List VT) (d : VT) (hs : scpD d) (h : (decS ml d).er = 0) : kptT d (decS ml d).t = true := by
  obtain ⟨x, l⟩ := d
  unfold decS at h ⊢
  unfold scpD at hs
  rw [Tr.lab] at h hs ⊢
  split
  · rename_i c
    rw [if_pos c] at h hs
    unfold wrpS at h ⊢
    rw [Tr.kids] at h hs ⊢
    split
    · rename_i c2; rw [if_pos c2] at h; exact absurd h c2
    · rename_i c2
      obtain ⟨e1, e2⟩ := prt_kept ml true l [] hs (by simpa using c2)
      exact kptT_yes (by simp [kptL, c]) (by simpa using e1) (by simpa using e2)
  rename_i c; rw [if_neg c] at h hs
  split
  · rename_i c3
    rw [if_pos c3] at h hs
    obtain ⟨p, pl, r, b, hk, hp35, hn, hp, hr, hb⟩ := hs
    rw [Tr.kids] at h hk ⊢
    subst hk
    simp only [List.getD_cons_zero, List.getD_cons_succ, Tr.lab, Tr.kids] at h ⊢
    unfold fnS at h ⊢
    split
    · rename_i q; rw [if_pos q] at h; exact absurd h q
    rename_i q1; rw [if_neg q1] at h
    split
    · rename_i q; rw [if_pos q] at h; exact absurd h q
    rename_i q2; rw [if_neg q2] at h
    split
    · rename_i q; rw [if_pos q] at h; exact absurd h q
    rename_i q3
    obtain ⟨e1, e2⟩ := prt_kept ml false pl [] hp (by simpa using q1)
    refine kptT_yes (by simp [kptL, c3]) rfl (fun i a b' h1 h2 => ?_)
    match i with
    | 0 => simp at h1 h2; subst h1 h2; exact kptT_yes (by simp [kptL, hp35]) e1 e2
    | 1 => simp at h1 h2; subst h1 h2; exact any_kept ml _ hr _ (by simpa using q2)
    | 2 => simp at h1 h2; subst h1 h2; exact any_kept ml _ hb _ (by simpa using q3)
    | i + 3 => simp at h1
  · rename_i c3
    rw [if_neg c3] at h hs
    exact any_kept ml _ hs _ h
end Go.Proofs.Ythkfdheoakbfnaa.vt
end
section
namespace Go.Proofs.Ythkfdheoakbfnaa.am
open Go.ChangeShapes Go.WideShapes Go.ChangeAt Go.RowKit
open vt
set_option linter.unusedVariables false
set_option linter.unusedSimpArgs false
theorem td_tok : td Try.prog 37 = some ⟨true, 5, 48, [.lit (.int .i64 0), .lit (.int .i64 0), .lit (.string ⟨#[]⟩), .lit (.int .i64 0), .lit (.int .i64 0)], [(0, 1, false), (1, 1, false), (2, 1, false), (3, 1, false), (4, 1, false)], .struct⟩ := Eq.trans (by kernel_rfl) (Eq.refl _)
theorem td_toks : td Try.prog 32 = some ⟨false, 1, 24, [.nilS], [], (.slice 37)⟩ := Eq.trans (by kernel_rfl) (Eq.refl _)
theorem td_errno : td Try.prog 26 = some ⟨false, 1, 8, [.lit (.int .i64 0)], [], (.int .i64)⟩ := Eq.trans (by kernel_rfl) (Eq.refl _)
attribute [simp] td_tok td_toks td_errno
attribute [simp] kc
theorem tyG_int {ts : List Tok} {n i : Nat} (h : isK wInt (nxt ts i) = true) : tyG ts (n + 1) i = (.mk ⟨1, 0, ⟨#[]⟩, frT ts i, toT ts i⟩ [], i + 1, 0) := by rw [tyG, if_pos h]
theorem tyG_bool {ts : List Tok} {n i : Nat} (h1 : isK wInt (nxt ts i) = false) (h : isK wBool (nxt ts i) = true) : tyG ts (n + 1) i = (.mk ⟨2, 0, ⟨#[]⟩, frT ts i, toT ts i⟩ [], i + 1, 0) := by rw [tyG, if_neg (by simp [h1]), if_pos h]
theorem tyG_arr {ts : List Tok} {n i : Nat} (h1 : isK wInt (nxt ts i) = false) (h2 : isK wBool (nxt ts i) = false) (h : isK sOpen (nxt ts i) = true) : tyG ts (n + 1) i =
      if (nxt ts (i + 1)).k = 2 then
        if isK sShut (nxt ts (i + 2)) = true then
          if (tyG ts n (i + 3)).2.2 = 0 then (.mk ⟨3, (nxt ts (i + 1)).n, ⟨#[]⟩, frT ts i, toT ts ((tyG ts n (i + 3)).2.1 - 1)⟩ [(tyG ts n (i + 3)).1], (tyG ts n (i + 3)).2.1, 0)
          else tyG ts n (i + 3)
        else (z0, i + 2, 6)
      else (z0, i + 1, 6) := by rw [tyG, if_neg (by simp [h1]), if_neg (by simp [h2]), if_pos h]
theorem tyG_rec {ts : List Tok} {n i : Nat} (h1 : isK wInt (nxt ts i) = false) (h2 : isK wBool (nxt ts i) = false) (h3 : isK sOpen (nxt ts i) = false) : tyG ts (n + 1) i = if (nxt ts i).k = 1 then (.mk ⟨4, 0, (nxt ts i).s, frT ts i, toT ts i⟩ [], i + 1, 0) else (z0, i, 6) := by rw [tyG, if_neg (by simp [h1]), if_neg (by simp [h2]), if_neg (by simp [h3])]
theorem kind_at {ts : List Tok} {i : Nat} {k : Int} (h : (nxt ts i).k = k) (hk : k ≠ 5) : ∃ x, ts[i]? = some x ∧ nxt ts i = x ∧ x.k = k := by
  unfold nxt at h ⊢
  cases hx : ts[i]? with
  | none => rw [hx] at h; exact absurd h.symm hk
  | some x => rw [hx] at h; exact ⟨x, rfl, rfl, h⟩
end Go.Proofs.Ythkfdheoakbfnaa.am
end
section
namespace Go.Proofs.Ythkfdheoakbfnaa.am
open Go.ChangeShapes Go.WideShapes Go.ChangeAt Go.RowKit
open vt
set_option linter.unusedVariables false
set_option linter.unusedSimpArgs false
theorem td_got : td Try.prog 64 = some ⟨true, 8, 88, [.lit (.int .i64 0), .lit (.int .i64 0), .lit (.string ⟨#[]⟩), .nilS, .lit (.int .i64 0), .lit (.int .i64 0), .lit (.int .i64 0), .lit (.int .i64 0)], [(0, 6, true), (6, 1, false), (7, 1, false)], .struct⟩ := Eq.trans (by kernel_rfl) (Eq.refl _)
attribute [simp] td_got
noncomputable abbrev vG (r : VT × Nat × Int) : AV := .v (.agg (((tc r.1) ++ [I (r.2.1 : Nat), I r.2.2]).map .pv))
theorem vG_ren (r : VT × Nat × Int) (ρ : Nat → Nat) : (vG r).ren ρ = vG r := by
  show AV.v (.agg (((tc r.1 ++ [I (r.2.1 : Nat), I r.2.2]).map AC.pv).map (AC.ren ρ))) = _
  rw [ren_pure]
set_option maxRecDepth 100000 in
set_option maxHeartbeats 4000000 in
theorem now_row (ts : List Tok) (i : Nat) : Row Try.prog 66 [vKs ts, vI i] [] (vK (nxt ts i)) [] := by
  by_cases h : i < ts.length
  · obtain ⟨x, hx⟩ : ∃ x, ts[i]? = some x := ⟨_, List.getElem?_eq_getElem h⟩
    have hx' := (List.getElem?_eq_some_iff.1 hx).2
    rw [nxt_some hx]
    refine row_of Try.func66 rfl rfl (Nat.le_of_ble_eq_true rfl) ?_
    repeat (first | refine aw_seq ?_ | refine aw_skip ?_ | refine aw_block ?_ | refine aw_exit ?_ | refine aw_ct rfl ?_ | refine aw_cf rfl ?_ | ((first | refine aw_reg (fun K hK => ?_) | refine aw_drw mixd (fun K hK => ?_) | fail); simp -implicitDefEqProofs [h, hx, hx']; first | refine hK _ ?_ | refine hK _ _ (by rfl) ?_ | fail) | fail)
    refine aw_ret (fin_ret ?_); simp -implicitDefEqProofs [FinP, resV, resT] <;> try rfl
  · rw [nxt_none (by omega)]
    refine row_of Try.func66 rfl rfl (Nat.le_of_ble_eq_true rfl) ?_
    repeat (first | refine aw_seq ?_ | refine aw_skip ?_ | refine aw_block ?_ | refine aw_exit ?_ | refine aw_ct rfl ?_ | refine aw_cf rfl ?_ | ((first | refine aw_reg (fun K hK => ?_) | refine aw_drw mixd (fun K hK => ?_) | fail); simp -implicitDefEqProofs [h]; first | refine hK _ ?_ | refine hK _ _ (by rfl) ?_ | fail) | fail)
    refine aw_ret (fin_ret ?_); simp -implicitDefEqProofs [FinP, resV, resT, endK] <;> try rfl
set_option maxRecDepth 100000 in
set_option maxHeartbeats 4000000 in
theorem word_row (ts : List Tok) (i : Nat) (s : ByteArray) : Row Try.prog 62 [vKs ts, vI i, vS s] [] (vB (decide ((nxt ts i).k = 3) && decide ((nxt ts i).s = s))) [] := by
  have h := now_row ts i
  obtain ⟨⟨k, n, x, f, t⟩, hx⟩ : ∃ x, nxt ts i = x := ⟨_, rfl⟩
  rw [hx] at h ⊢
  refine row_of Try.func62 rfl rfl (Nat.le_of_ble_eq_true rfl) ?_
  repeat' (first | refine aw_seq ?_ | refine aw_skip ?_ | refine aw_block ?_ | refine aw_exit ?_ | refine aw_ct rfl ?_ | refine aw_cf rfl ?_ | ((first | refine aw_reg (fun K hK => ?_) | refine aw_drw mixd (fun K hK => ?_) | refine ar_call (cp h ?_) | refine ard_call (dp h ?_) | fail); simp -implicitDefEqProofs [*]) | refine hK _ ?_ | refine hK _ _ (by rfl) ?_ | (refine aw_cond rfl (fun hb => ?_) (fun hb => ?_) <;> ((try simp only [decide_eq_true_eq, decide_eq_false_iff_not, Bool.not_eq_true', Bool.not_eq_false', Bool.not_eq_eq_eq_not, Bool.not_true, Bool.not_false, beq_iff_eq, beq_true, beq_false, bne_iff_ne, ne_eq, Decidable.not_not, Bool.and_eq_true, Bool.or_eq_true, Bool.and_eq_false_iff, Bool.or_eq_false_iff] at hb) <;> repeat' (refine Or.elim hb (fun hb => ?_) (fun hb => ?_)))) | ((first | refine gx_split (fun hb => ?_) (fun hb => ?_) | refine gxd_split (fun hb => ?_) (fun hb => ?_) | fail) <;> ((try simp only [decide_eq_true_eq, decide_eq_false_iff_not, Bool.not_eq_true', Bool.not_eq_false', Bool.not_eq_eq_eq_not, Bool.not_true, Bool.not_false, beq_iff_eq, beq_true, beq_false, bne_iff_ne, ne_eq, Decidable.not_not, Bool.and_eq_true, Bool.or_eq_true, Bool.and_eq_false_iff, Bool.or_eq_false_iff] at hb) <;> repeat' (refine Or.elim hb (fun hb => ?_) (fun hb => ?_))) <;> simp -implicitDefEqProofs [*]) | fail)
  all_goals (refine aw_ret (fin_ret ?_); simp -implicitDefEqProofs [FinP, resV, resT, *] <;> try rfl)
set_option maxRecDepth 100000 in
set_option maxHeartbeats 4000000 in
theorem sign_row (ts : List Tok) (i : Nat) (s : ByteArray) : Row Try.prog 67 [vKs ts, vI i, vS s] [] (vB (decide ((nxt ts i).k = 4) && decide ((nxt ts i).s = s))) [] := by
  have h := now_row ts i
  obtain ⟨⟨k, n, x, f, t⟩, hx⟩ : ∃ x, nxt ts i = x := ⟨_, rfl⟩
  rw [hx] at h ⊢
  refine row_of Try.func67 rfl rfl (Nat.le_of_ble_eq_true rfl) ?_
  repeat' (first | refine aw_seq ?_ | refine aw_skip ?_ | refine aw_block ?_ | refine aw_exit ?_ | refine aw_ct rfl ?_ | refine aw_cf rfl ?_ | ((first | refine aw_reg (fun K hK => ?_) | refine aw_drw mixd (fun K hK => ?_) | refine ar_call (cp h ?_) | refine ard_call (dp h ?_) | fail); simp -implicitDefEqProofs [*]) | refine hK _ ?_ | refine hK _ _ (by rfl) ?_ | (refine aw_cond rfl (fun hb => ?_) (fun hb => ?_) <;> ((try simp only [decide_eq_true_eq, decide_eq_false_iff_not, Bool.not_eq_true', Bool.not_eq_false', Bool.not_eq_eq_eq_not, Bool.not_true, Bool.not_false, beq_iff_eq, beq_true, beq_false, bne_iff_ne, ne_eq, Decidable.not_not, Bool.and_eq_true, Bool.or_eq_true, Bool.and_eq_false_iff, Bool.or_eq_false_iff] at hb) <;> repeat' (refine Or.elim hb (fun hb => ?_) (fun hb => ?_)))) | ((first | refine gx_split (fun hb => ?_) (fun hb => ?_) | refine gxd_split (fun hb => ?_) (fun hb => ?_) | fail) <;> ((try simp only [decide_eq_true_eq, decide_eq_false_iff_not, Bool.not_eq_true', Bool.not_eq_false', Bool.not_eq_eq_eq_not, Bool.not_true, Bool.not_false, beq_iff_eq, beq_true, beq_false, bne_iff_ne, ne_eq, Decidable.not_not, Bool.and_eq_true, Bool.or_eq_true, Bool.and_eq_false_iff, Bool.or_eq_false_iff] at hb) <;> repeat' (refine Or.elim hb (fun hb => ?_) (fun hb => ?_))) <;> simp -implicitDefEqProofs [*]) | fail)
  all_goals (refine aw_ret (fin_ret ?_); simp -implicitDefEqProofs [FinP, resV, resT, *] <;> try rfl)
set_option maxRecDepth 100000 in
set_option maxHeartbeats 4000000 in
theorem bad_row (i : Nat) : Row Try.prog 65 [vI i] [] (vG (z0, i, 6)) [] := by
  refine row_of Try.func65 rfl rfl (Nat.le_of_ble_eq_true rfl) ?_
  repeat (first | refine aw_seq ?_ | refine aw_skip ?_ | refine aw_block ?_ | refine aw_exit ?_ | refine aw_ct rfl ?_ | refine aw_cf rfl ?_ | ((first | refine aw_reg (fun K hK => ?_) | refine aw_drw mixd (fun K hK => ?_) | fail); simp -implicitDefEqProofs; first | refine hK _ ?_ | refine hK _ _ (by rfl) ?_ | fail) | fail)
  refine aw_ret (fin_ret ?_); simp -implicitDefEqProofs [FinP, resV, resT, z0] <;> try rfl
set_option maxRecDepth 100000 in
set_option maxHeartbeats 4000000 in
theorem make7_row (ts : List Tok) (a b : Nat) (k n : Int) (s : ByteArray) (l : List VT) (ha : a < ts.length) (hb : 0 < b) (hbl : b ≤ ts.length) (hl : ts.length ≤ 9223372036854775807) : Row Try.prog 69 [vKs ts, vI a, vI b, vI k, vI n, vS s, vLs l] [] (vG (.mk ⟨k, n, s, frT ts a, toT ts (b - 1)⟩ l, b, 0)) [] := by
  obtain ⟨y, hy⟩ : ∃ y, ts[a]? = some y := ⟨_, List.getElem?_eq_getElem ha⟩
  have hy' := (List.getElem?_eq_some_iff.1 hy).2
  obtain ⟨j, rfl⟩ : ∃ j, b = j + 1 := ⟨b - 1, by omega⟩
  have hi1 : j < ts.length := by omega
  obtain ⟨z, hz⟩ : ∃ z, ts[j]? = some z := ⟨_, List.getElem?_eq_getElem hi1⟩
  have hz' := (List.getElem?_eq_some_iff.1 hz).2
  rw [show frT ts a = y.f by unfold frT; rw [nxt_some hy], show toT ts (j + 1 - 1) = z.t by unfold toT; rw [Nat.add_sub_cancel, nxt_some hz]]
  have wj : IntKind.i64.wrap ((j : Nat) : Int) = (j : Nat) := i64i _ (by omega) (by omega)
  refine row_of Try.func69 rfl rfl (Nat.le_of_ble_eq_true rfl) ?_
  repeat (first | refine aw_seq ?_ | refine aw_skip ?_ | refine aw_block ?_ | refine aw_exit ?_ | refine aw_ct rfl ?_ | refine aw_cf rfl ?_ | ((first | refine aw_reg (fun K hK => ?_) | refine aw_drw mixd (fun K hK => ?_) | fail); simp -implicitDefEqProofs [ha, hy, hy', hz, hz', hi1, wj]; first | refine hK _ ?_ | refine hK _ _ (by rfl) ?_ | fail) | fail)
  refine aw_ret (fin_ret ?_); simp -implicitDefEqProofs [FinP, resV, resT] <;> try rfl
theorem word_is {s : ByteArray} (h : quo s = 3) (x : Tok) : (decide (x.k = 3) && decide (x.s = s)) = isK s x := by unfold isK; rw [h]
theorem sign_is {s : ByteArray} (h : quo s = 4) (x : Tok) : (decide (x.k = 4) && decide (x.s = s)) = isK s x := by unfold isK; rw [h]
end Go.Proofs.Ythkfdheoakbfnaa.am
end
section
namespace Go.Proofs.Ythkfdheoakbfnaa.am
open Go.ChangeShapes Go.WideShapes Go.ChangeAt Go.RowKit
open vt
set_option linter.unusedVariables false
set_option linter.unusedSimpArgs false
theorem td_strs : td Try.prog 69 = some ⟨false, 1, 24, [.nilS], [], (.slice 9)⟩ := Eq.trans (by kernel_rfl) (Eq.refl _)
theorem td_intv : td Try.prog 166 = some ⟨false, 1, 24, [.nilS], [], (.slice 2)⟩ := Eq.trans (by kernel_rfl) (Eq.refl _)
attribute [simp] td_strs td_intv
abbrev Sg := ByteArray × Int
def opsL : Nat → List Sg
  | 1 => [(⟨#[124, 124]⟩, 1)]
  | 2 => [(⟨#[38, 38]⟩, 2)]
  | 3 => [(⟨#[61, 61]⟩, 3), (⟨#[33, 61]⟩, 4), (⟨#[60]⟩, 5), (⟨#[60, 61]⟩, 6), (⟨#[62]⟩, 7), (⟨#[62, 61]⟩, 8)]
  | 4 => [(⟨#[43]⟩, 9), (⟨#[45]⟩, 10)]
  | _ => [(⟨#[42]⟩, 11), (⟨#[47]⟩, 12), (⟨#[37]⟩, 13)]
def pS (x : Sg) : List PV := [Sx x.1]
def pI (x : Sg) : List PV := [I x.2]
abbrev vSI (l : List Sg) : AV := .tup [.c (.pv (.sl 1 (l.map pS))), .c (.pv (.sl 1 (l.map pI)))]
attribute [simp] pS pI
def fnd (x : Tok) : List Sg → Int
  | [] => 0
  | y :: l => if x.k = 4 ∧ x.s = y.1 then y.2 else fnd x l
theorem fnd_op (x : Tok) (l : Nat) (h1 : 1 ≤ l) (h5 : l ≤ 5) : fnd x (opsL l) = if (opK x).2 = l then (opK x).1 else 0 := by
  have hl : l = 1 ∨ l = 2 ∨ l = 3 ∨ l = 4 ∨ l = 5 := by omega
  unfold opK
  by_cases hk : x.k = 4; rotate_left
  · rcases hl with rfl | rfl | rfl | rfl | rfl <;> simp [opsL, fnd, hk]
  obtain ⟨k, n, s, f, t⟩ := x
  dsimp only at hk
  subst hk
  rw [if_pos rfl]
  dsimp only
  by_cases e0 : s = (⟨#[124, 124]⟩ : ByteArray)
  · subst e0; rcases hl with rfl | rfl | rfl | rfl | rfl <;> rfl
  by_cases e1 : s = (⟨#[38, 38]⟩ : ByteArray)
  · subst e1; rcases hl with rfl | rfl | rfl | rfl | rfl <;> rfl
  by_cases e2 : s = (⟨#[61, 61]⟩ : ByteArray)
  · subst e2; rcases hl with rfl | rfl | rfl | rfl | rfl <;> rfl
  by_cases e3 : s = (⟨#[33, 61]⟩ : ByteArray)
  · subst e3; rcases hl with rfl | rfl | rfl | rfl | rfl <;> rfl
  by_cases e4 : s = (⟨#[60]⟩ : ByteArray)
  · subst e4; rcases hl with rfl | rfl | rfl | rfl | rfl <;> rfl
  by_cases e5 : s = (⟨#[60, 61]⟩ : ByteArray)
  · subst e5; rcases hl with rfl | rfl | rfl | rfl | rfl <;> rfl
  by_cases e6 : s = (⟨#[62]⟩ : ByteArray)
  · subst e6; rcases hl with rfl | rfl | rfl | rfl | rfl <;> rfl
  by_cases e7 : s = (⟨#[62, 61]⟩ : ByteArray)
  · subst e7; rcases hl with rfl | rfl | rfl | rfl | rfl <;> rfl
  by_cases e8 : s = (⟨#[43]⟩ : ByteArray)
  · subst e8; rcases hl with rfl | rfl | rfl | rfl | rfl <;> rfl
  by_cases e9 : s = (⟨#[45]⟩ : ByteArray)
  · subst e9; rcases hl with rfl | rfl | rfl | rfl | rfl <;> rfl
  by_cases e10 : s = (⟨#[42]⟩ : ByteArray)
  · subst e10; rcases hl with rfl | rfl | rfl | rfl | rfl <;> rfl
  by_cases e11 : s = (⟨#[47]⟩ : ByteArray)
  · subst e11; rcases hl with rfl | rfl | rfl | rfl | rfl <;> rfl
  by_cases e12 : s = (⟨#[37]⟩ : ByteArray)
  · subst e12; rcases hl with rfl | rfl | rfl | rfl | rfl <;> rfl
  rcases hl with rfl | rfl | rfl | rfl | rfl <;> simp [opsL, fnd, opS, e0, e1, e2, e3, e4, e5, e6, e7, e8, e9, e10, e11, e12]
theorem opK_pos (x : Tok) (l : Nat) (h5 : l ≤ 5) (h : (opK x).2 = l) : (opK x).1 ≠ 0 := by
  unfold opK at h ⊢
  by_cases hk : x.k = 4; rotate_left
  · rw [if_neg hk] at h; dsimp only at h; omega
  rw [if_pos hk] at h ⊢
  obtain ⟨k, n, s, f, t⟩ := x
  dsimp only at h ⊢
  clear hk
  by_cases e0 : s = (⟨#[124, 124]⟩ : ByteArray)
  · subst e0; exact fun hh => absurd (show (1 : Int) = 0 from hh) (by decide)
  by_cases e1 : s = (⟨#[38, 38]⟩ : ByteArray)
  · subst e1; exact fun hh => absurd (show (2 : Int) = 0 from hh) (by decide)
  by_cases e2 : s = (⟨#[61, 61]⟩ : ByteArray)
  · subst e2; exact fun hh => absurd (show (3 : Int) = 0 from hh) (by decide)
  by_cases e3 : s = (⟨#[33, 61]⟩ : ByteArray)
  · subst e3; exact fun hh => absurd (show (4 : Int) = 0 from hh) (by decide)
  by_cases e4 : s = (⟨#[60]⟩ : ByteArray)
  · subst e4; exact fun hh => absurd (show (5 : Int) = 0 from hh) (by decide)
  by_cases e5 : s = (⟨#[60, 61]⟩ : ByteArray)
  · subst e5; exact fun hh => absurd (show (6 : Int) = 0 from hh) (by decide)
  by_cases e6 : s = (⟨#[62]⟩ : ByteArray)
  · subst e6; exact fun hh => absurd (show (7 : Int) = 0 from hh) (by decide)
  by_cases e7 : s = (⟨#[62, 61]⟩ : ByteArray)
  · subst e7; exact fun hh => absurd (show (8 : Int) = 0 from hh) (by decide)
  by_cases e8 : s = (⟨#[43]⟩ : ByteArray)
  · subst e8; exact fun hh => absurd (show (9 : Int) = 0 from hh) (by decide)
  by_cases e9 : s = (⟨#[45]⟩ : ByteArray)
  · subst e9; exact fun hh => absurd (show (10 : Int) = 0 from hh) (by decide)
  by_cases e10 : s = (⟨#[42]⟩ : ByteArray)
  · subst e10; exact fun hh => absurd (show (11 : Int) = 0 from hh) (by decide)
  by_cases e11 : s = (⟨#[47]⟩ : ByteArray)
  · subst e11; exact fun hh => absurd (show (12 : Int) = 0 from hh) (by decide)
  by_cases e12 : s = (⟨#[37]⟩ : ByteArray)
  · subst e12; exact fun hh => absurd (show (13 : Int) = 0 from hh) (by decide)
  simp [opS, e0, e1, e2, e3, e4, e5, e6, e7, e8, e9, e10, e11, e12] at h
  omega
set_option maxRecDepth 100000 in
set_option maxHeartbeats 4000000 in
theorem ops_row (l : Nat) (h1 : 1 ≤ l) (h5 : l ≤ 5) : Row Try.prog 143 [vI (l : Nat)] [] (vSI (opsL l)) [] := by
  have hl : l = 1 ∨ l = 2 ∨ l = 3 ∨ l = 4 ∨ l = 5 := by omega
  rcases hl with rfl | rfl | rfl | rfl | rfl
  all_goals (
    refine row_of Try.func143 rfl rfl (Nat.le_of_ble_eq_true rfl) ?_
    repeat (first | refine aw_seq ?_ | refine aw_skip ?_ | refine aw_block ?_ | refine aw_exit ?_ | refine aw_ct rfl ?_ | refine aw_cf rfl ?_ | ((first | refine aw_reg (fun K hK => ?_) | refine aw_drw mixd (fun K hK => ?_) | fail); simp -implicitDefEqProofs; first | refine hK _ ?_ | refine hK _ _ (by rfl) ?_ | fail) | fail)
    refine aw_ret (fin_ret ?_); simp -implicitDefEqProofs [FinP, resV, resT, opsL] <;> try rfl)
set_option maxRecDepth 100000 in
set_option maxHeartbeats 4000000 in
theorem op_row (ts : List Tok) (i l : Nat) (h1 : 1 ≤ l) (h5 : l ≤ 5) : Row Try.prog 140 [vKs ts, vI i, vI (l : Nat)] [] (vI (if (opK (nxt ts i)).2 = l then (opK (nxt ts i)).1 else 0)) [] := by
  rw [← fnd_op _ l h1 h5]
  have o := ops_row l h1 h5
  obtain ⟨L, hL⟩ : ∃ L, opsL l = L := ⟨_, rfl⟩
  have hLl : L.length ≤ 6 := by rw [← hL]; unfold opsL; split <;> simp
  rw [hL] at o ⊢
  refine row_of Try.func140 rfl rfl (Nat.le_of_ble_eq_true rfl) ?_
  repeat' (first | refine aw_seq ?_ | refine aw_skip ?_ | refine aw_block ?_ | refine aw_exit ?_ | refine aw_ct rfl ?_ | refine aw_cf rfl ?_ | ((first | refine aw_reg (fun K hK => ?_) | refine aw_drw mixd (fun K hK => ?_) | refine ar_call (cp o ?_) | refine ard_call (dp o ?_) | fail); simp -implicitDefEqProofs) | refine hK _ ?_ | refine hK _ _ (by rfl) ?_ | fail)
  refine aw_lp (ι := Nat) (fun k => mkSt [(0, vKs ts), (1, vI i), (7, .v (.c (.pv (.sl 1 (L.map pS))))), (8, .v (.c (.pv (.sl 1 (L.map pI))))), (9, vI (k : Nat))] []) (fun k => k ≤ L.length ∧ fnd (nxt ts i) (L.drop k) = fnd (nxt ts i) L) (fun k => L.length - k) 0 ⟨Nat.zero_le _, rfl⟩ (cov_intro [] (by simp -implicitDefEqProofs [hL]) (by simp -implicitDefEqProofs [hL]) (by decide) rfl (by simp)) (fun Z hI k hk => ?_)
  obtain ⟨hk, hf⟩ := hk
  by_cases hkl : k < L.length; rotate_left
  · have : k = L.length := by omega
    subst this
    rw [List.drop_length] at hf
    rw [← hf]
    repeat (first | refine aw_seq ?_ | refine aw_skip ?_ | refine aw_block ?_ | refine aw_exit ?_ | refine aw_ct rfl ?_ | refine aw_cf rfl ?_ | ((first | refine aw_reg (fun K hK => ?_) | refine aw_drw mixd (fun K hK => ?_) | fail); simp -implicitDefEqProofs; first | refine hK _ ?_ | refine hK _ _ (by rfl) ?_ | fail) | fail)
    refine aw_ret (fin_ret ?_); simp -implicitDefEqProofs [FinP, resV, resT, fnd] <;> try rfl
  obtain ⟨⟨y1, y2⟩, hy⟩ : ∃ y, L[k]? = some y := ⟨_, List.getElem?_eq_getElem hkl⟩
  have hy' := (List.getElem?_eq_some_iff.1 hy).2
  have w2 : IntKind.i64.wrap ((k : Nat) + 1 : Int) = (k : Nat) + 1 := i64i _ (by omega) (by omega)
  have q := sign_row ts i y1
  rw [List.drop_eq_getElem_cons hkl, hy'] at hf
  rw [fnd] at hf
  by_cases hs : (nxt ts i).k = 4 ∧ (nxt ts i).s = y1
  · rw [if_pos hs] at hf
    dsimp only at hf
    rw [show (decide ((nxt ts i).k = 4) && decide ((nxt ts i).s = y1)) = true by simp [hs.1, hs.2]] at q
    rw [← hf]
    clear hf hs
    repeat' (first | refine aw_seq ?_ | refine aw_skip ?_ | refine aw_block ?_ | refine aw_exit ?_ | refine aw_ct rfl ?_ | refine aw_cf rfl ?_ | ((first | refine aw_reg (fun K hK => ?_) | refine aw_drw mixd (fun K hK => ?_) | refine ar_call (cp q ?_) | refine ard_call (dp q ?_) | fail); simp -implicitDefEqProofs [hkl, hy, hy']) | refine hK _ ?_ | refine hK _ _ (by rfl) ?_ | fail)
    refine aw_ret (fin_ret ?_); simp -implicitDefEqProofs [FinP, resV, resT] <;> try rfl
  · rw [if_neg hs] at hf
    rw [show (decide ((nxt ts i).k = 4) && decide ((nxt ts i).s = y1)) = false by simpa using hs] at q
    clear hs
    repeat' (first | refine aw_seq ?_ | refine aw_skip ?_ | refine aw_block ?_ | refine aw_exit ?_ | refine aw_ct rfl ?_ | refine aw_cf rfl ?_ | ((first | refine aw_reg (fun K hK => ?_) | refine aw_drw mixd (fun K hK => ?_) | refine ar_call (cp q ?_) | refine ard_call (dp q ?_) | fail); simp -implicitDefEqProofs [hkl, hy, hy', w2]) | refine hK _ ?_ | refine hK _ _ (by rfl) ?_ | fail)
    refine ⟨k + 1, ⟨by omega, hf⟩, (by dsimp only; omega), ?_⟩; rw [hI]; exact cov_intro [] (by simp -implicitDefEqProofs) (by simp -implicitDefEqProofs) (by decide) rfl (by simp)
end Go.Proofs.Ythkfdheoakbfnaa.am
end
section
namespace Go.Proofs.Ythkfdheoakbfnaa.am
open Go.ChangeShapes Go.WideShapes Go.ChangeAt Go.RowKit
open vt
set_option linter.unusedVariables false
set_option linter.unusedSimpArgs false
noncomputable abbrev vC3 (r : List VT × Nat × Int) : AV := .tup [.c (.pv (.sl 6 (r.1.map tc))), .c (.pv (I (r.2.1 : Nat))), .c (.pv (I r.2.2))]
noncomputable abbrev gb (r : Got) : AO := .box ((tc r.1 ++ [I (r.2.1 : Nat), I r.2.2]).map .pv)
abbrev zG : AO := .box [.pv (I 0), .pv (I 0), .pv (Sx ⟨#[]⟩), .pv .nilS, .pv (I 0), .pv (I 0), .pv (I 0), .pv (I 0)]
section
variable (ts : List Tok) (hl : ts.length ≤ 1000000000)
include hl
set_option maxRecDepth 100000 in
set_option maxHeartbeats 4000000 in
theorem rmk_row (a b : Nat) (k n : Int) (s : ByteArray) (l : List VT) (ha : a < b) (hb : b ≤ ts.length) : Row Try.prog 69 [vKs ts, vI a, vI b, vI k, vI n, vS s, vLs l] [] (vG (mk7 ts a b k n s l)) [] := make7_row ts a b k n s l (by omega) (by omega) hb (by omega)
set_option maxRecDepth 100000 in
set_option maxHeartbeats 4000000 in
theorem un_step (i : Nat) (hi : i ≤ ts.length) (h7 : Row Try.prog 142 [vKs ts, vI i] [] (vG (Qx ts 7 i)) []) (h6 : i < ts.length → Row Try.prog 139 [vKs ts, vI (i + 1 : Nat)] [] (vG (Qx ts 6 (i + 1))) []) : Row Try.prog 139 [vKs ts, vI i] [] (vG (Qx ts 6 i)) [] := by
  rw [Q_eq 6 i (by decide) (by decide) hi]
  have q1 := sign_row ts i sMin
  rw [sign_is (by decide)] at q1
  have q2 := sign_row ts i sNot
  rw [sign_is (by decide)] at q2
  have w1 : IntKind.i64.wrap ((i : Nat) + 1 : Int) = (i : Nat) + 1 := i64i _ (by omega) (by omega)
  have main : ∀ (u : Int), u ≠ 0 → unN ts i = u → i < ts.length → (bG ts (Qx ts) 6 i = if (Qx ts 6 (i + 1)).2.2 ≠ 0 then Qx ts 6 (i + 1) else mk7 ts i (Qx ts 6 (i + 1)).2.1 11 u ⟨#[]⟩ [(Qx ts 6 (i + 1)).1]) := fun u hu h hlt => by
    unfold bG; rw [if_neg (by decide), if_pos rfl, h, if_neg hu]
  have hk := Q_ok (ts := ts) 6 (i + 1)
  by_cases e2 : isK sNot (nxt ts i) = true
  · have hlt := isK_lt e2
    rw [main 2 (by decide) (by unfold unN; rw [if_pos e2]) hlt]
    rw [e2] at q2
    have h6 := h6 hlt
    have hk := hk (by omega)
    obtain ⟨b1, hb1⟩ : ∃ b, isK sMin (nxt ts i) = b := ⟨_, rfl⟩
    rw [hb1] at q1
    obtain ⟨⟨⟨px, pl⟩, j, e⟩, hr⟩ : ∃ r, Qx ts 6 (i + 1) = r := ⟨_, rfl⟩
    rw [hr] at h6 hk ⊢
    clear main e2 hb1 hr h7
    by_cases he : e = 0
    · subst he
      have hy := hk.yes rfl
      dsimp only at hy
      rw [if_neg (by simp)]
      have m := rmk_row ts hl i j 11 2 ⟨#[]⟩ [.mk px pl] (by omega) hy.2
      cases b1
      · refine row_of Try.func139 rfl rfl (Nat.le_of_ble_eq_true rfl) ?_
        repeat' (first | refine aw_seq ?_ | refine aw_skip ?_ | refine aw_block ?_ | refine aw_exit ?_ | refine aw_ct rfl ?_ | refine aw_cf rfl ?_ | ((first | refine aw_reg (fun K hK => ?_) | refine aw_drw mixd (fun K hK => ?_) | refine ar_call (cp q1 ?_) | refine ard_call (dp q1 ?_) | refine ar_call (cp q2 ?_) | refine ard_call (dp q2 ?_) | refine ar_call (cp h6 ?_) | refine ard_call (dp h6 ?_) | refine ar_call (cp m ?_) | refine ard_call (dp m ?_) | fail); simp -implicitDefEqProofs [w1]) | refine hK _ ?_ | refine hK _ _ (by rfl) ?_ | fail)
        refine aw_ret (fin_ret ?_); simp -implicitDefEqProofs [FinP, resV, resT, mk7] <;> try rfl
      · refine row_of Try.func139 rfl rfl (Nat.le_of_ble_eq_true rfl) ?_
        repeat' (first | refine aw_seq ?_ | refine aw_skip ?_ | refine aw_block ?_ | refine aw_exit ?_ | refine aw_ct rfl ?_ | refine aw_cf rfl ?_ | ((first | refine aw_reg (fun K hK => ?_) | refine aw_drw mixd (fun K hK => ?_) | refine ar_call (cp q1 ?_) | refine ard_call (dp q1 ?_) | refine ar_call (cp q2 ?_) | refine ard_call (dp q2 ?_) | refine ar_call (cp h6 ?_) | refine ard_call (dp h6 ?_) | refine ar_call (cp m ?_) | refine ard_call (dp m ?_) | fail); simp -implicitDefEqProofs [w1]) | refine hK _ ?_ | refine hK _ _ (by rfl) ?_ | fail)
        refine aw_ret (fin_ret ?_); simp -implicitDefEqProofs [FinP, resV, resT, mk7] <;> try rfl
    · rw [if_pos he]
      cases b1
      · refine row_of Try.func139 rfl rfl (Nat.le_of_ble_eq_true rfl) ?_
        repeat' (first | refine aw_seq ?_ | refine aw_skip ?_ | refine aw_block ?_ | refine aw_exit ?_ | refine aw_ct rfl ?_ | refine aw_cf rfl ?_ | ((first | refine aw_reg (fun K hK => ?_) | refine aw_drw mixd (fun K hK => ?_) | refine ar_call (cp q1 ?_) | refine ard_call (dp q1 ?_) | refine ar_call (cp q2 ?_) | refine ard_call (dp q2 ?_) | refine ar_call (cp h6 ?_) | refine ard_call (dp h6 ?_) | fail); simp -implicitDefEqProofs [w1, he]) | refine hK _ ?_ | refine hK _ _ (by rfl) ?_ | fail)
        refine aw_ret (fin_ret ?_); simp -implicitDefEqProofs [FinP, resV, resT] <;> try rfl
      · refine row_of Try.func139 rfl rfl (Nat.le_of_ble_eq_true rfl) ?_
        repeat' (first | refine aw_seq ?_ | refine aw_skip ?_ | refine aw_block ?_ | refine aw_exit ?_ | refine aw_ct rfl ?_ | refine aw_cf rfl ?_ | ((first | refine aw_reg (fun K hK => ?_) | refine aw_drw mixd (fun K hK => ?_) | refine ar_call (cp q1 ?_) | refine ard_call (dp q1 ?_) | refine ar_call (cp q2 ?_) | refine ard_call (dp q2 ?_) | refine ar_call (cp h6 ?_) | refine ard_call (dp h6 ?_) | fail); simp -implicitDefEqProofs [w1, he]) | refine hK _ ?_ | refine hK _ _ (by rfl) ?_ | fail)
        refine aw_ret (fin_ret ?_); simp -implicitDefEqProofs [FinP, resV, resT] <;> try rfl
  have e2 : isK sNot (nxt ts i) = false := by simpa using e2
  rw [e2] at q2
  by_cases e1 : isK sMin (nxt ts i) = true
  · have hlt := isK_lt e1
    rw [main 1 (by decide) (by unfold unN; rw [if_neg (by simp [e2]), if_pos e1]) hlt]
    rw [e1] at q1
    have h6 := h6 hlt
    have hk := hk (by omega)
    obtain ⟨⟨⟨px, pl⟩, j, e⟩, hr⟩ : ∃ r, Qx ts 6 (i + 1) = r := ⟨_, rfl⟩
    rw [hr] at h6 hk ⊢
    clear main e1 e2 hr h7
    by_cases he : e = 0
    · subst he
      have hy := hk.yes rfl
      dsimp only at hy
      rw [if_neg (by simp)]
      have m := rmk_row ts hl i j 11 1 ⟨#[]⟩ [.mk px pl] (by omega) hy.2
      refine row_of Try.func139 rfl rfl (Nat.le_of_ble_eq_true rfl) ?_
      repeat' (first | refine aw_seq ?_ | refine aw_skip ?_ | refine aw_block ?_ | refine aw_exit ?_ | refine aw_ct rfl ?_ | refine aw_cf rfl ?_ | ((first | refine aw_reg (fun K hK => ?_) | refine aw_drw mixd (fun K hK => ?_) | refine ar_call (cp q1 ?_) | refine ard_call (dp q1 ?_) | refine ar_call (cp q2 ?_) | refine ard_call (dp q2 ?_) | refine ar_call (cp h6 ?_) | refine ard_call (dp h6 ?_) | refine ar_call (cp m ?_) | refine ard_call (dp m ?_) | fail); simp -implicitDefEqProofs [w1]) | refine hK _ ?_ | refine hK _ _ (by rfl) ?_ | fail)
      refine aw_ret (fin_ret ?_); simp -implicitDefEqProofs [FinP, resV, resT, mk7] <;> try rfl
    · rw [if_pos he]
      refine row_of Try.func139 rfl rfl (Nat.le_of_ble_eq_true rfl) ?_
      repeat' (first | refine aw_seq ?_ | refine aw_skip ?_ | refine aw_block ?_ | refine aw_exit ?_ | refine aw_ct rfl ?_ | refine aw_cf rfl ?_ | ((first | refine aw_reg (fun K hK => ?_) | refine aw_drw mixd (fun K hK => ?_) | refine ar_call (cp q1 ?_) | refine ard_call (dp q1 ?_) | refine ar_call (cp q2 ?_) | refine ard_call (dp q2 ?_) | refine ar_call (cp h6 ?_) | refine ard_call (dp h6 ?_) | fail); simp -implicitDefEqProofs [w1, he]) | refine hK _ ?_ | refine hK _ _ (by rfl) ?_ | fail)
      refine aw_ret (fin_ret ?_); simp -implicitDefEqProofs [FinP, resV, resT] <;> try rfl
  have e1 : isK sMin (nxt ts i) = false := by simpa using e1
  rw [e1] at q1
  rw [show bG ts (Qx ts) 6 i = Qx ts 7 i by unfold bG; rw [if_neg (by decide), if_pos rfl, if_pos (by unfold unN; simp [e1, e2])]]
  obtain ⟨⟨⟨px, pl⟩, j, e⟩, hr⟩ : ∃ r, Qx ts 7 i = r := ⟨_, rfl⟩
  rw [hr] at h7 ⊢
  clear main e1 e2 hr hk h6
  refine row_of Try.func139 rfl rfl (Nat.le_of_ble_eq_true rfl) ?_
  repeat' (first | refine aw_seq ?_ | refine aw_skip ?_ | refine aw_block ?_ | refine aw_exit ?_ | refine aw_ct rfl ?_ | refine aw_cf rfl ?_ | ((first | refine aw_reg (fun K hK => ?_) | refine aw_drw mixd (fun K hK => ?_) | refine ar_call (cp q1 ?_) | refine ard_call (dp q1 ?_) | refine ar_call (cp q2 ?_) | refine ard_call (dp q2 ?_) | refine ar_call (cp h7 ?_) | refine ard_call (dp h7 ?_) | fail); simp -implicitDefEqProofs) | refine hK _ ?_ | refine hK _ _ (by rfl) ?_ | fail)
  refine aw_ret (fin_ret ?_); simp -implicitDefEqProofs [FinP, resV, resT] <;> try rfl
omit hl in
set_option maxRecDepth 100000 in
set_option maxHeartbeats 4000000 in
theorem lev6_row (i : Nat) (h6 : Row Try.prog 139 [vKs ts, vI i] [] (vG (Qx ts 6 i)) []) : Row Try.prog 134 [vKs ts, vI i, vI (6 : Nat)] [] (vG (Qx ts 6 i)) [] := by
  obtain ⟨⟨⟨px, pl⟩, j, e⟩, hr⟩ : ∃ r, Qx ts 6 i = r := ⟨_, rfl⟩
  rw [hr] at h6 ⊢
  refine row_of Try.func134 rfl rfl (Nat.le_of_ble_eq_true rfl) ?_
  repeat' (first | refine aw_seq ?_ | refine aw_skip ?_ | refine aw_block ?_ | refine aw_exit ?_ | refine aw_ct rfl ?_ | refine aw_cf rfl ?_ | ((first | refine aw_reg (fun K hK => ?_) | refine aw_drw mixd (fun K hK => ?_) | refine ar_call (cp h6 ?_) | refine ard_call (dp h6 ?_) | fail); simp -implicitDefEqProofs) | refine hK _ ?_ | refine hK _ _ (by rfl) ?_ | fail)
  refine aw_ret (fin_ret ?_); simp -implicitDefEqProofs [FinP, resV, resT] <;> try rfl
omit hl in
set_option maxRecDepth 100000 in
set_option maxHeartbeats 4000000 in
theorem expr_of (i : Nat) (h1 : Row Try.prog 134 [vKs ts, vI i, vI (1 : Nat)] [] (vG (Qx ts 1 i)) []) : Row Try.prog 128 [vKs ts, vI i] [] (vG (Qx ts 1 i)) [] := by
  obtain ⟨⟨⟨px, pl⟩, j, e⟩, hr⟩ : ∃ r, Qx ts 1 i = r := ⟨_, rfl⟩
  rw [hr] at h1 ⊢
  refine row_of Try.func128 rfl rfl (Nat.le_of_ble_eq_true rfl) ?_
  repeat' (first | refine aw_seq ?_ | refine aw_skip ?_ | refine aw_block ?_ | refine aw_exit ?_ | refine aw_ct rfl ?_ | refine aw_cf rfl ?_ | ((first | refine aw_reg (fun K hK => ?_) | refine aw_drw mixd (fun K hK => ?_) | refine ar_call (cp h1 ?_) | refine ard_call (dp h1 ?_) | fail); simp -implicitDefEqProofs) | refine hK _ ?_ | refine hK _ _ (by rfl) ?_ | fail)
  refine aw_ret (fin_ret ?_); simp -implicitDefEqProofs [FinP, resV, resT] <;> try rfl
structure InvL (l i : Nat) (x : Nat × Nat × Got) : Prop where
  eq : lpL ts (Qx ts (l + 1)) l i x.1 (decide (0 < x.2.1)) x.2.2 = Qx ts l i
  ok : OkG ts i x.2.2
  fuel : x.2.2.2.2 = 0 → ts.length < x.1 + x.2.2.2.1
  few : x.1 + x.2.1 ≤ ts.length + 1
  three : l = 3 → x.2.1 ≤ 1
set_option maxRecDepth 100000 in
set_option maxHeartbeats 4000000 in
theorem lev_step (l : Nat) (h1 : 1 ≤ l) (h5 : l ≤ 5) (i : Nat) (hi : i ≤ ts.length) (hP : ∀ j, i ≤ j → j ≤ ts.length → Row Try.prog 134 [vKs ts, vI j, vI (l + 1 : Nat)] [] (vG (Qx ts (l + 1) j)) []) : Row Try.prog 134 [vKs ts, vI i, vI (l : Nat)] [] (vG (Qx ts l i)) [] := by
  have q := hP i (Nat.le_refl i) hi
  have wl : IntKind.i64.wrap ((l : Nat) + 1 : Int) = (l : Nat) + 1 := i64i _ (by omega) (by omega)
  have nl : ¬ (l : Int) = 6 := by omega
  have h0 : InvL ts l i (ts.length + 1, 0, Qx ts (l + 1) i) := by
    have ho := Q_ok (ts := ts) (l + 1) i hi
    refine ⟨?_, ho, fun h => by dsimp only; omega, Nat.le_refl _, fun _ => Nat.zero_le _⟩
    rw [Q_eq l i h1 (by omega) hi]; unfold bG; rw [if_pos h5]; rfl
  refine row_of Try.func134 rfl rfl (Nat.le_of_ble_eq_true rfl) ?_
  obtain ⟨⟨⟨ax, al⟩, a2, a3⟩, hr⟩ : ∃ r, Qx ts (l + 1) i = r := ⟨_, rfl⟩
  rw [hr] at q h0
  repeat' (first | refine aw_seq ?_ | refine aw_skip ?_ | refine aw_block ?_ | refine aw_exit ?_ | refine aw_ct rfl ?_ | refine aw_cf rfl ?_ | ((first | refine aw_reg (fun K hK => ?_) | refine aw_drw mixd (fun K hK => ?_) | refine ar_call (cp q ?_) | refine ard_call (dp q ?_) | fail); simp -implicitDefEqProofs [wl, nl]) | refine hK _ ?_ | refine hK _ _ (by rfl) ?_ | fail)
  refine aw_lp (ι := Nat × Nat × Got) (fun x => mkSt [(0, vKs ts), (1, vI i), (2, vI (l : Nat)), (6, .v (.c (.ptr 0 0))), (7, .v (.c (.ptr 1 0))), (8, vI (x.2.1 : Nat))] [some zG, some (gb x.2.2)]) (InvL ts l i) (fun x => x.1) (ts.length + 1, 0, (.mk ax al, a2, a3)) h0 (cov_intro [0, 15] (by simp -implicitDefEqProofs) (by simp -implicitDefEqProofs) (by decide) rfl (by simp)) (fun Z hI x hx => ?_)
  clear h0 hr q
  obtain ⟨m, t, ⟨⟨px, pl⟩, j, e⟩⟩ := x
  obtain ⟨x1, x2, x3, x4, x5⟩ := hx
  dsimp only at x1 x2 x3 x4 x5 ⊢
  by_cases he : e = 0; rotate_left
  · have hd : Qx ts l i = (.mk px pl, j, e) := by
      rw [← x1]
      cases m
      · rfl
      · rw [lpL, if_pos he]
    rw [hd]
    repeat (first | refine aw_seq ?_ | refine aw_skip ?_ | refine aw_block ?_ | refine aw_exit ?_ | refine aw_ct rfl ?_ | refine aw_cf rfl ?_ | ((first | refine aw_reg (fun K hK => ?_) | refine aw_drw mixd (fun K hK => ?_) | fail); simp -implicitDefEqProofs [he]; first | refine hK _ ?_ | refine hK _ _ (by rfl) ?_ | fail) | fail)
    refine aw_ret (fin_ret ?_); simp -implicitDefEqProofs [FinP, resV, resT] <;> try rfl
  subst he
  have x3 := x3 rfl
  have hy := x2.yes rfl
  dsimp only at hy
  obtain ⟨m, rfl⟩ : ∃ m', m = m' + 1 := ⟨m - 1, by omega⟩
  have o := op_row ts j l h1 h5
  by_cases ho : (opK (nxt ts j)).2 = l; rotate_left
  · have hd : Qx ts l i = (.mk px pl, j, 0) := by rw [← x1, lpL, if_neg (by simp), if_pos (.inl ho)]
    rw [hd]
    rw [if_neg ho] at o
    repeat' (first | refine aw_seq ?_ | refine aw_skip ?_ | refine aw_block ?_ | refine aw_exit ?_ | refine aw_ct rfl ?_ | refine aw_cf rfl ?_ | ((first | refine aw_reg (fun K hK => ?_) | refine aw_drw mixd (fun K hK => ?_) | refine ar_call (cp o ?_) | refine ard_call (dp o ?_) | fail); simp -implicitDefEqProofs) | refine hK _ ?_ | refine hK _ _ (by rfl) ?_ | fail)
    refine aw_ret (fin_ret ?_); simp -implicitDefEqProofs [FinP, resV, resT] <;> try rfl
  rw [if_pos ho] at o
  have on := opK_pos _ l h5 ho
  have hlt := op_lt ho h5
  by_cases h3 : l = 3 ∧ 0 < t
  · have hd : Qx ts l i = (.mk px pl, j, 0) := by rw [← x1, lpL, if_neg (by simp), if_pos (.inr ⟨h3.1, by simp [h3.2]⟩)]
    rw [hd]
    have ht := x5 h3.1
    obtain ⟨rfl, h3⟩ := h3
    obtain rfl : t = 1 := by omega
    repeat' (first | refine aw_seq ?_ | refine aw_skip ?_ | refine aw_block ?_ | refine aw_exit ?_ | refine aw_ct rfl ?_ | refine aw_cf rfl ?_ | ((first | refine aw_reg (fun K hK => ?_) | refine aw_drw mixd (fun K hK => ?_) | refine ar_call (cp o ?_) | refine ard_call (dp o ?_) | fail); simp -implicitDefEqProofs [on]) | refine hK _ ?_ | refine hK _ _ (by rfl) ?_ | fail)
    refine aw_ret (fin_ret ?_); simp -implicitDefEqProofs [FinP, resV, resT] <;> try rfl
  have hq := hP (j + 1) (by omega) (by omega)
  have w1 : IntKind.i64.wrap ((j : Nat) + 1 : Int) = (j : Nat) + 1 := i64i _ (by omega) (by omega)
  have w2 : IntKind.i64.wrap ((t : Nat) + 1 : Int) = (t : Nat) + 1 := i64i _ (by omega) (by omega)
  rw [lpL, if_neg (by simp), if_neg (by rw [not_or]; exact ⟨by simpa using ho, by simpa using h3⟩)] at x1
  have hk := Q_ok (ts := ts) (l + 1) (j + 1) (by omega)
  dsimp only at x1
  obtain ⟨⟨⟨rx, rl⟩, r2, r3⟩, hr⟩ : ∃ r, Qx ts (l + 1) (j + 1) = r := ⟨_, rfl⟩
  rw [hr] at hq hk x1
  have n3 : ¬ (l : Int) = 3 ∨ t = 0 := by omega
  by_cases hr3 : r3 = 0; rotate_left
  · rw [if_pos hr3] at x1
    rw [← x1]
    clear x1 hr hP x2 hk ho
    by_cases n3' : l = 3
    · subst n3'
      obtain rfl : t = 0 := by omega
      have wl : IntKind.i64.wrap (4 : Int) = 4 := by decide
      repeat' (first | refine aw_seq ?_ | refine aw_skip ?_ | refine aw_block ?_ | refine aw_exit ?_ | refine aw_ct rfl ?_ | refine aw_cf rfl ?_ | ((first | refine aw_reg (fun K hK => ?_) | refine aw_drw mixd (fun K hK => ?_) | refine ar_call (cp o ?_) | refine ard_call (dp o ?_) | refine ar_call (cp hq ?_) | refine ard_call (dp hq ?_) | fail); simp -implicitDefEqProofs [on, w1, wl, hr3]) | refine hK _ ?_ | refine hK _ _ (by rfl) ?_ | fail)
      refine aw_ret (fin_ret ?_); simp -implicitDefEqProofs [FinP, resV, resT] <;> try rfl
    · have n3 : ¬ (l : Int) = 3 := by omega
      repeat' (first | refine aw_seq ?_ | refine aw_skip ?_ | refine aw_block ?_ | refine aw_exit ?_ | refine aw_ct rfl ?_ | refine aw_cf rfl ?_ | ((first | refine aw_reg (fun K hK => ?_) | refine aw_drw mixd (fun K hK => ?_) | refine ar_call (cp o ?_) | refine ard_call (dp o ?_) | refine ar_call (cp hq ?_) | refine ard_call (dp hq ?_) | fail); simp -implicitDefEqProofs [on, n3, w1, wl, hr3]) | refine hK _ ?_ | refine hK _ _ (by rfl) ?_ | fail)
      refine aw_ret (fin_ret ?_); simp -implicitDefEqProofs [FinP, resV, resT] <;> try rfl
  subst hr3
  rw [if_neg (by simp)] at x1
  have hyy := hk.yes rfl
  dsimp only at hyy x1
  have m7 := rmk_row ts hl i r2 10 (opK (nxt ts j)).1 ⟨#[]⟩ [.mk px pl, .mk rx rl] (by omega) hyy.2
  have nx : InvL ts l i (m, t + 1, mk7 ts i r2 10 (opK (nxt ts j)).1 ⟨#[]⟩ [.mk px pl, .mk rx rl]) := ⟨by rw [show decide (0 < t + 1) = true by simp]; exact x1, ok_mk (by omega) hyy.2, fun _ => by show ts.length < m + r2; omega, by show m + (t + 1) ≤ _; omega, fun h => by show t + 1 ≤ 1; omega⟩
  clear x1 hr hP x2 hk ho
  by_cases n3' : l = 3
  · subst n3'
    obtain rfl : t = 0 := by omega
    have wl : IntKind.i64.wrap (4 : Int) = 4 := by decide
    have w2 : IntKind.i64.wrap (1 : Int) = 1 := by decide
    repeat' (first | refine aw_seq ?_ | refine aw_skip ?_ | refine aw_block ?_ | refine aw_exit ?_ | refine aw_ct rfl ?_ | refine aw_cf rfl ?_ | ((first | refine aw_reg (fun K hK => ?_) | refine aw_drw mixd (fun K hK => ?_) | refine ar_call (cp o ?_) | refine ard_call (dp o ?_) | refine ar_call (cp hq ?_) | refine ard_call (dp hq ?_) | refine ar_call (cp m7 ?_) | refine ard_call (dp m7 ?_) | fail); simp -implicitDefEqProofs [on, w1, w2, wl]) | refine hK _ ?_ | refine hK _ _ (by rfl) ?_ | fail)
    refine ⟨(_, _, _), nx, (by dsimp only; omega), ?_⟩; rw [hI]; exact cov_intro [0, 1] (by simp -implicitDefEqProofs [mk7, z0, w2]) (by simp -implicitDefEqProofs [mk7, z0, w2]) (by decide) rfl (by simp)
  · have n3 : ¬ (l : Int) = 3 := by omega
    repeat' (first | refine aw_seq ?_ | refine aw_skip ?_ | refine aw_block ?_ | refine aw_exit ?_ | refine aw_ct rfl ?_ | refine aw_cf rfl ?_ | ((first | refine aw_reg (fun K hK => ?_) | refine aw_drw mixd (fun K hK => ?_) | refine ar_call (cp o ?_) | refine ard_call (dp o ?_) | refine ar_call (cp hq ?_) | refine ard_call (dp hq ?_) | refine ar_call (cp m7 ?_) | refine ard_call (dp m7 ?_) | fail); simp -implicitDefEqProofs [on, n3, w1, w2, wl]) | refine hK _ ?_ | refine hK _ _ (by rfl) ?_ | fail)
    refine ⟨(_, _, _), nx, (by dsimp only; omega), ?_⟩; rw [hI]; exact cov_intro [0, 1] (by simp -implicitDefEqProofs [mk7, z0, w2]) (by simp -implicitDefEqProofs [mk7, z0, w2]) (by decide) rfl (by simp)
end
end Go.Proofs.Ythkfdheoakbfnaa.am
end
