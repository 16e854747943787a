import Derived.IntWalk
import Derived.Test.YtjjnboenehomgaaPkT4
import Derived.Test.YtjjnboenehomgaaPkT6
section
namespace Go.Proofs.Ytjjnboenehomgaa.am
open Go.ChangeShapes Go.WideShapes Go.ChangeAt Go.RowKit
open vt
set_option linter.unusedVariables false
set_option linter.unusedSimpArgs false
set_option maxRecDepth 100000 in
set_option maxHeartbeats 4000000 in
theorem tsame_row (t : VT) : t.size ≤ 1000000 → ∀ u : VT, u.size ≤ 1000000 → Row Try.prog 30 [vT t, vT u] [] (vB (same t u)) [] := by
  induction t using Tr.ind with
  | h x l ih =>
  intro hsz u hsu
  obtain ⟨y, m⟩ := u
  have hlen := Tr.len_size (x := x) (l := l)
  rw [show same (.mk x l) (.mk y m) = _ from eqv_mk pS x y l m]
  refine row_of Try.func30 rfl rfl (Nat.le_of_ble_eq_true rfl) ?_
  by_cases hk : x.k = y.k; rotate_left
  · repeat (first | refine aw_seq ?_ | refine aw_skip ?_ | refine aw_block ?_ | refine aw_exit ?_ | refine aw_cond rfl (fun _ => ?_) (fun hb => absurd hb (by decide)) | refine aw_cond rfl (fun hb => absurd hb (by decide)) (fun _ => ?_) | (refine aw_reg (fun K hK => ?_); simp -implicitDefEqProofs [hk]; refine hK _ ?_) | (refine aw_drw mixd (fun K hK => ?_); simp -implicitDefEqProofs [hk]; refine hK _ _ (by rfl) ?_) | fail)
    refine aw_ret (fin_ret ?_); simp -implicitDefEqProofs [FinP, resV, resT, hk, pS] <;> try rfl
  by_cases hn : x.n = y.n; rotate_left
  · repeat (first | refine aw_seq ?_ | refine aw_skip ?_ | refine aw_block ?_ | refine aw_exit ?_ | refine aw_cond rfl (fun _ => ?_) (fun hb => absurd hb (by decide)) | refine aw_cond rfl (fun hb => absurd hb (by decide)) (fun _ => ?_) | (refine aw_reg (fun K hK => ?_); simp -implicitDefEqProofs [hk, hn]; refine hK _ ?_) | (refine aw_drw mixd (fun K hK => ?_); simp -implicitDefEqProofs [hk, hn]; refine hK _ _ (by rfl) ?_) | fail)
    refine aw_ret (fin_ret ?_); simp -implicitDefEqProofs [FinP, resV, resT, hk, hn, pS] <;> try rfl
  by_cases hs : x.s = y.s; rotate_left
  · repeat (first | refine aw_seq ?_ | refine aw_skip ?_ | refine aw_block ?_ | refine aw_exit ?_ | refine aw_cond rfl (fun _ => ?_) (fun hb => absurd hb (by decide)) | refine aw_cond rfl (fun hb => absurd hb (by decide)) (fun _ => ?_) | (refine aw_reg (fun K hK => ?_); simp -implicitDefEqProofs [hk, hn, hs]; refine hK _ ?_) | (refine aw_drw mixd (fun K hK => ?_); simp -implicitDefEqProofs [hk, hn, hs]; refine hK _ _ (by rfl) ?_) | fail)
    refine aw_ret (fin_ret ?_); simp -implicitDefEqProofs [FinP, resV, resT, hk, hn, hs, pS] <;> try rfl
  by_cases hm : l.length = m.length; rotate_left
  · have hm' : ¬ (l.length : Int) = (m.length : Int) := by omega
    repeat (first | refine aw_seq ?_ | refine aw_skip ?_ | refine aw_block ?_ | refine aw_exit ?_ | refine aw_cond rfl (fun _ => ?_) (fun hb => absurd hb (by decide)) | refine aw_cond rfl (fun hb => absurd hb (by decide)) (fun _ => ?_) | (refine aw_reg (fun K hK => ?_); simp -implicitDefEqProofs [hk, hn, hs, hm, hm']; refine hK _ ?_) | (refine aw_drw mixd (fun K hK => ?_); simp -implicitDefEqProofs [hk, hn, hs, hm, hm']; refine hK _ _ (by rfl) ?_) | fail)
    refine aw_ret (fin_ret ?_); simp -implicitDefEqProofs [FinP, resV, resT, hk, hn, hs, hm, pS] <;> try rfl
  repeat (first | refine aw_seq ?_ | refine aw_skip ?_ | refine aw_block ?_ | refine aw_exit ?_ | refine aw_cond rfl (fun _ => ?_) (fun hb => absurd hb (by decide)) | refine aw_cond rfl (fun hb => absurd hb (by decide)) (fun _ => ?_) | (refine aw_reg (fun K hK => ?_); simp -implicitDefEqProofs [hk, hn, hs, hm]; refine hK _ ?_) | (refine aw_drw mixd (fun K hK => ?_); simp -implicitDefEqProofs [hk, hn, hs, hm]; refine hK _ _ (by rfl) ?_) | fail)
  refine aw_lp (ι := Nat) (fun k => mkSt [(2, .v (.c (.ptr 0 0))), (3, .v (.c (.ptr 1 0))), (36, vI (l.length : Nat)), (37, vI (k : Nat))] [some (.box (ta (.mk x l))), some (.box (ta (.mk y m)))]) (fun k => k ≤ l.length ∧ zipA (eqv pS) l m k = true) (fun k => l.length - k) 0 ⟨Nat.zero_le _, zipA_zero _ _ _⟩ (cov_intro [0, 1] (by simp -implicitDefEqProofs [hk, hn, hs, hm]) (by simp -implicitDefEqProofs [hk, hn, hs, hm]) (by decide) rfl (by simp)) (fun Z hI k hkz => ?_)
  obtain ⟨hkl', hz⟩ := hkz
  by_cases hkl : k < l.length; rotate_left
  · have : k = l.length := by omega
    subst this
    rw [show (pS x y && decide (l.length = m.length) && zipA (eqv pS) l m l.length) = true by rw [hz]; simp [pS, hk, hn, hs, hm]]
    repeat (first | refine aw_seq ?_ | refine aw_skip ?_ | refine aw_block ?_ | refine aw_exit ?_ | refine aw_cond rfl (fun _ => ?_) (fun hb => absurd hb (by decide)) | refine aw_cond rfl (fun hb => absurd hb (by decide)) (fun _ => ?_) | (refine aw_reg (fun K hK => ?_); simp -implicitDefEqProofs; refine hK _ ?_) | (refine aw_drw mixd (fun K hK => ?_); simp -implicitDefEqProofs; refine hK _ _ (by rfl) ?_) | fail)
    refine aw_ret (fin_ret ?_); simp -implicitDefEqProofs [FinP, resV, resT] <;> try rfl
  have hkm : k < m.length := by omega
  obtain ⟨⟨ax, al⟩, ha⟩ : ∃ a, l[k]? = some a := ⟨_, List.getElem?_eq_getElem hkl⟩
  obtain ⟨⟨bx, bl⟩, hb⟩ : ∃ a, m[k]? = some a := ⟨_, List.getElem?_eq_getElem hkm⟩
  have ha' := (List.getElem?_eq_some_iff.1 ha).2
  have hb' := (List.getElem?_eq_some_iff.1 hb).2
  have hsz1 := Tr.size_at (x := x) ha
  have hsz2 := Tr.size_at (x := y) hb
  have w2 : IntKind.i64.wrap ((k : Nat) + 1 : Int) = (k : Nat) + 1 := i64i _ (by omega) (by omega)
  have hzs := zipA_succ (f := eqv pS) ha hb
  repeat (first | refine aw_seq ?_ | refine aw_skip ?_ | refine aw_block ?_ | refine aw_exit ?_ | refine aw_cond rfl (fun _ => ?_) (fun hb => absurd hb (by decide)) | refine aw_cond rfl (fun hb => absurd hb (by decide)) (fun _ => ?_) | (refine aw_reg (fun K hK => ?_); simp -implicitDefEqProofs [hkl]; refine hK _ ?_) | (refine aw_drw mixd (fun K hK => ?_); simp -implicitDefEqProofs [hkl]; refine hK _ _ (by rfl) ?_) | fail)
  refine aw_drw mixd (fun K hK => ?_); simp -implicitDefEqProofs [hkl, hkm, ha, ha', hb, hb']
  refine ard_call (calld_pure (ih _ (List.mem_of_getElem? ha) (by omega) (.mk bx bl) (by omega)) (by simp) (fun _ => rfl) rfl ?_)
  simp -implicitDefEqProofs
  refine hK _ _ (by rfl) ?_
  refine aw_cond rfl (fun hb => ?_) (fun hb => ?_)
  · have hf : same (.mk ax al) (.mk bx bl) = false := by simpa using hb
    repeat (first | refine aw_seq ?_ | refine aw_skip ?_ | refine aw_block ?_ | refine aw_exit ?_ | refine aw_cond rfl (fun _ => ?_) (fun hb => absurd hb (by decide)) | refine aw_cond rfl (fun hb => absurd hb (by decide)) (fun _ => ?_) | (refine aw_reg (fun K hK => ?_); simp -implicitDefEqProofs; refine hK _ ?_) | (refine aw_drw mixd (fun K hK => ?_); simp -implicitDefEqProofs; refine hK _ _ (by rfl) ?_) | fail)
    have e : zipA (eqv pS) l m l.length = false := by
      have := zipA_mono (l.length - (k + 1)) (show zipA (eqv pS) l m (k + 1) = false by rw [hzs, hz]; simpa using hf)
      rwa [show k + 1 + (l.length - (k + 1)) = l.length by omega] at this
    refine aw_ret (fin_ret ?_); simp -implicitDefEqProofs [FinP, resV, resT, e] <;> try rfl
  · have hf : same (.mk ax al) (.mk bx bl) = true := by simpa using hb
    repeat (first | refine aw_seq ?_ | refine aw_skip ?_ | refine aw_block ?_ | refine aw_exit ?_ | refine aw_cond rfl (fun _ => ?_) (fun hb => absurd hb (by decide)) | refine aw_cond rfl (fun hb => absurd hb (by decide)) (fun _ => ?_) | (refine aw_reg (fun K hK => ?_); simp -implicitDefEqProofs [w2]; refine hK _ ?_) | (refine aw_drw mixd (fun K hK => ?_); simp -implicitDefEqProofs [w2]; refine hK _ _ (by rfl) ?_) | fail)
    refine ⟨k + 1, ⟨by omega, by rw [hzs, hz]; simpa using hf⟩, (by dsimp only; omega), ?_⟩
    rw [hI]; exact cov_intro [0, 1] (by simp -implicitDefEqProofs) (by simp -implicitDefEqProofs) (by decide) rfl (by simp)
end Go.Proofs.Ytjjnboenehomgaa.am
end
section
namespace Go.Proofs.Ytjjnboenehomgaa.am
open Go.ChangeShapes Go.WideShapes Go.ChangeAt Go.RowKit
open vt
set_option linter.unusedVariables false
set_option linter.unusedSimpArgs false
def twoP (op : Int) (a b : VT) : VT × Bool :=
  if op = 1 ∨ op = 2 then (tyT 2, isT a 2 && isT b 2)
  else if op = 3 ∨ op = 4 then (tyT 2, (isT a 2 && isT b 2) || (isT a 1 && isT b 1))
  else if op = 5 ∨ op = 6 ∨ op = 7 ∨ op = 8 then (tyT 2, isT a 1 && isT b 1)
  else (tyT 1, isT a 1 && isT b 1)
set_option maxRecDepth 100000 in
set_option maxHeartbeats 4000000 in
theorem ptwo_row (m : VT) (L : List VT) (x : Lab) (l : List VT) (a b : VT) : Row Try.prog 91 [.v (.c (.ptr 0 0)), vT (.mk x l), fnK 1] [bxW m L 0 0, bxK [a, b]] (vTO (twoP x.n a b).1 (twoP x.n a b).2) [some (bxW m L 0 0), some (bxK [a, b])] := by
  obtain ⟨ax, al⟩ := a
  obtain ⟨bx, bl⟩ := b
  have h0 := kpart_row [.mk ax al, .mk bx bl] 0 ax al rfl
  have h1 := kpart_row [.mk ax al, .mk bx bl] 1 bx bl rfl
  have i1 := isint_row ax al
  have i2 := isint_row bx bl
  have b1 := isbool_row ax al
  have b2 := isbool_row bx bl
  rw [show ((0 : Nat) : Int) = 0 from rfl] at h0
  rw [show ((1 : Nat) : Int) = 1 from rfl] at h1
  unfold twoP tyT
  obtain ⟨p1, q1⟩ : ∃ p, isT (.mk ax al) 1 = p := ⟨_, rfl⟩
  obtain ⟨p2, q2⟩ : ∃ p, isT (.mk bx bl) 1 = p := ⟨_, rfl⟩
  obtain ⟨p3, q3⟩ : ∃ p, isT (.mk ax al) 2 = p := ⟨_, rfl⟩
  obtain ⟨p4, q4⟩ : ∃ p, isT (.mk bx bl) 2 = p := ⟨_, rfl⟩
  rw [q1] at i1
  rw [q2] at i2
  rw [q3] at b1
  rw [q4] at b2
  rw [q1, q2, q3, q4]
  clear q1 q2 q3 q4
  obtain ⟨ints, hi⟩ : ∃ p, (p1 && p2) = p := ⟨_, rfl⟩
  obtain ⟨bools, hbo⟩ : ∃ p, (p3 && p4) = p := ⟨_, rfl⟩
  rw [hi, hbo]
  obtain ⟨mx, ml⟩ := m
  refine row_of Try.func91 rfl rfl (Nat.le_of_ble_eq_true rfl) ?_
  refine aw_seq ?_
  refine aw_reg (fun K hK => ?_); simp -implicitDefEqProofs; refine hK _ ?_
  refine aw_meet (ι := Unit) (fun _ => mkSt [(0, .v (.c (.ptr 0 0))), (2, fnK 1), (4, .v (.c (.ptr 2 0))), (6, .v (.c (.ptr 3 0))), (7, vB false), (8, vB ints)] [some (bxW (.mk mx ml) L 0 0), some (bxK [.mk ax al, .mk bx bl]), some (.box (ta (.mk x l))), some (.box (ta z0T))]) (fun _ => True) (fun I hI => ?_) (fun _ _ => ?_)
  · cases p1 with
    | false =>
      have hi : ints = false := by rw [← hi]; rfl
      subst hi
      repeat' (first | refine aw_seq ?_ | refine aw_skip ?_ | refine aw_block ?_ | refine aw_exit ?_ | refine aw_cond rfl (fun _ => ?_) (fun hb => absurd hb (by decide)) | refine aw_cond rfl (fun hb => absurd hb (by decide)) (fun _ => ?_) | (refine aw_reg (fun K hK => ?_); simp -implicitDefEqProofs) | (refine aw_drw mixd (fun K hK => ?_); simp -implicitDefEqProofs) | refine hK _ ?_ | refine hK _ _ (by rfl) ?_ | (refine ar_call (cb h0 1 ?_); simp -implicitDefEqProofs) | (refine ard_call (db h0 1 ?_); simp -implicitDefEqProofs) | (refine ar_call (cb h1 1 ?_); simp -implicitDefEqProofs) | (refine ard_call (db h1 1 ?_); simp -implicitDefEqProofs) | (refine ar_call (cp i1 ?_); simp -implicitDefEqProofs) | (refine ard_call (dp i1 ?_); simp -implicitDefEqProofs) | (refine ar_call (cp i2 ?_); simp -implicitDefEqProofs) | (refine ard_call (dp i2 ?_); simp -implicitDefEqProofs) | fail)
      refine ⟨(), (by trivial), ?_⟩; rw [hI]; exact cov_intro [0, 1, 2, 3] (by simp -implicitDefEqProofs) (by simp -implicitDefEqProofs) (by decide) rfl (by simp)
    | true =>
      have hi : ints = p2 := by rw [← hi]; rfl
      subst hi
      repeat' (first | refine aw_seq ?_ | refine aw_skip ?_ | refine aw_block ?_ | refine aw_exit ?_ | refine aw_cond rfl (fun _ => ?_) (fun hb => absurd hb (by decide)) | refine aw_cond rfl (fun hb => absurd hb (by decide)) (fun _ => ?_) | (refine aw_reg (fun K hK => ?_); simp -implicitDefEqProofs) | (refine aw_drw mixd (fun K hK => ?_); simp -implicitDefEqProofs) | refine hK _ ?_ | refine hK _ _ (by rfl) ?_ | (refine ar_call (cb h0 1 ?_); simp -implicitDefEqProofs) | (refine ard_call (db h0 1 ?_); simp -implicitDefEqProofs) | (refine ar_call (cb h1 1 ?_); simp -implicitDefEqProofs) | (refine ard_call (db h1 1 ?_); simp -implicitDefEqProofs) | (refine ar_call (cp i1 ?_); simp -implicitDefEqProofs) | (refine ard_call (dp i1 ?_); simp -implicitDefEqProofs) | (refine ar_call (cp i2 ?_); simp -implicitDefEqProofs) | (refine ard_call (dp i2 ?_); simp -implicitDefEqProofs) | fail)
      refine ⟨(), (by trivial), ?_⟩; rw [hI]; exact cov_intro [0, 1, 2, 3] (by simp -implicitDefEqProofs) (by simp -implicitDefEqProofs) (by decide) rfl (by simp)
  clear i1 i2 hi
  refine aw_meet (ι := Unit) (fun _ => mkSt [(0, .v (.c (.ptr 0 0))), (4, .v (.c (.ptr 2 0))), (6, .v (.c (.ptr 3 0))), (7, vB false), (8, vB ints), (9, vB bools)] [some (bxW (.mk mx ml) L 0 0), some (bxK [.mk ax al, .mk bx bl]), some (.box (ta (.mk x l))), some (.box (ta z0T))]) (fun _ => True) (fun I hI => ?_) (fun _ _ => ?_)
  · cases p3 with
    | false =>
      have hbo : bools = false := by rw [← hbo]; rfl
      subst hbo
      repeat' (first | refine aw_seq ?_ | refine aw_skip ?_ | refine aw_block ?_ | refine aw_exit ?_ | refine aw_cond rfl (fun _ => ?_) (fun hb => absurd hb (by decide)) | refine aw_cond rfl (fun hb => absurd hb (by decide)) (fun _ => ?_) | (refine aw_reg (fun K hK => ?_); simp -implicitDefEqProofs) | (refine aw_drw mixd (fun K hK => ?_); simp -implicitDefEqProofs) | refine hK _ ?_ | refine hK _ _ (by rfl) ?_ | (refine ar_call (cb h0 1 ?_); simp -implicitDefEqProofs) | (refine ard_call (db h0 1 ?_); simp -implicitDefEqProofs) | (refine ar_call (cb h1 1 ?_); simp -implicitDefEqProofs) | (refine ard_call (db h1 1 ?_); simp -implicitDefEqProofs) | (refine ar_call (cp b1 ?_); simp -implicitDefEqProofs) | (refine ard_call (dp b1 ?_); simp -implicitDefEqProofs) | (refine ar_call (cp b2 ?_); simp -implicitDefEqProofs) | (refine ard_call (dp b2 ?_); simp -implicitDefEqProofs) | fail)
      refine ⟨(), (by trivial), ?_⟩; rw [hI]; exact cov_intro [0, 1, 2, 3] (by simp -implicitDefEqProofs) (by simp -implicitDefEqProofs) (by decide) rfl (by simp)
    | true =>
      have hbo : bools = p4 := by rw [← hbo]; rfl
      subst hbo
      repeat' (first | refine aw_seq ?_ | refine aw_skip ?_ | refine aw_block ?_ | refine aw_exit ?_ | refine aw_cond rfl (fun _ => ?_) (fun hb => absurd hb (by decide)) | refine aw_cond rfl (fun hb => absurd hb (by decide)) (fun _ => ?_) | (refine aw_reg (fun K hK => ?_); simp -implicitDefEqProofs) | (refine aw_drw mixd (fun K hK => ?_); simp -implicitDefEqProofs) | refine hK _ ?_ | refine hK _ _ (by rfl) ?_ | (refine ar_call (cb h0 1 ?_); simp -implicitDefEqProofs) | (refine ard_call (db h0 1 ?_); simp -implicitDefEqProofs) | (refine ar_call (cb h1 1 ?_); simp -implicitDefEqProofs) | (refine ard_call (db h1 1 ?_); simp -implicitDefEqProofs) | (refine ar_call (cp b1 ?_); simp -implicitDefEqProofs) | (refine ard_call (dp b1 ?_); simp -implicitDefEqProofs) | (refine ar_call (cp b2 ?_); simp -implicitDefEqProofs) | (refine ard_call (dp b2 ?_); simp -implicitDefEqProofs) | fail)
      refine ⟨(), (by trivial), ?_⟩; rw [hI]; exact cov_intro [0, 1, 2, 3] (by simp -implicitDefEqProofs) (by simp -implicitDefEqProofs) (by decide) rfl (by simp)
  clear b1 b2 hbo h0 h1
  cases ints <;> cases bools
  all_goals (
    repeat' (first | refine aw_seq ?_ | refine aw_skip ?_ | refine aw_block ?_ | refine aw_exit ?_ | refine aw_cond rfl (fun _ => ?_) (fun hb => absurd hb (by decide)) | refine aw_cond rfl (fun hb => absurd hb (by decide)) (fun _ => ?_) | (refine aw_reg (fun K hK => ?_); simp -implicitDefEqProofs [*]) | (refine aw_drw mixd (fun K hK => ?_); simp -implicitDefEqProofs [*]) | refine hK _ ?_ | refine hK _ _ (by rfl) ?_ | (refine aw_cond rfl (fun hb => ?_) (fun hb => ?_) <;> ((try simp only [decide_eq_true_eq, decide_eq_false_iff_not, Bool.not_eq_true', Bool.not_eq_false', Bool.not_eq_eq_eq_not, Bool.not_true, Bool.not_false, beq_iff_eq, beq_true, beq_false, bne_iff_ne, ne_eq, Decidable.not_not, Bool.and_eq_true, Bool.or_eq_true, Bool.and_eq_false_iff, Bool.or_eq_false_iff] at hb) <;> repeat' (refine Or.elim hb (fun hb => ?_) (fun hb => ?_)))) | (refine gx_split (fun hb => ?_) (fun hb => ?_) <;> ((try simp only [decide_eq_true_eq, decide_eq_false_iff_not, Bool.not_eq_true', Bool.not_eq_false', Bool.not_eq_eq_eq_not, Bool.not_true, Bool.not_false, beq_iff_eq, beq_true, beq_false, bne_iff_ne, ne_eq, Decidable.not_not, Bool.and_eq_true, Bool.or_eq_true, Bool.and_eq_false_iff, Bool.or_eq_false_iff] at hb) <;> repeat' (refine Or.elim hb (fun hb => ?_) (fun hb => ?_))) <;> simp -implicitDefEqProofs [*]) | (refine gxd_split (fun hb => ?_) (fun hb => ?_) <;> ((try simp only [decide_eq_true_eq, decide_eq_false_iff_not, Bool.not_eq_true', Bool.not_eq_false', Bool.not_eq_eq_eq_not, Bool.not_true, Bool.not_false, beq_iff_eq, beq_true, beq_false, bne_iff_ne, ne_eq, Decidable.not_not, Bool.and_eq_true, Bool.or_eq_true, Bool.and_eq_false_iff, Bool.or_eq_false_iff] at hb) <;> repeat' (refine Or.elim hb (fun hb => ?_) (fun hb => ?_))) <;> simp -implicitDefEqProofs [*]) | fail)
    all_goals (first | contradiction | (refine aw_ret (fin_box2 ?_); simp -implicitDefEqProofs [FinB2, resV, resT, *] <;> try rfl)))
def oneB (op : Int) (a : VT) : Bool := (decide (op = 1) && isT a 1) || (decide (op = 2) && isT a 2)
set_option maxRecDepth 100000 in
set_option maxHeartbeats 4000000 in
theorem pone_row (m : VT) (L : List VT) (x : Lab) (l : List VT) (a : VT) : Row Try.prog 92 [.v (.c (.ptr 0 0)), vT (.mk x l), fnK 1] [bxW m L 0 0, bxK [a]] (vTO a (oneB x.n a)) [some (bxW m L 0 0), some (bxK [a])] := by
  obtain ⟨ax, al⟩ := a
  have h0 := kpart_row [.mk ax al] 0 ax al rfl
  have i1 := isint_row ax al
  have b1 := isbool_row ax al
  rw [show ((0 : Nat) : Int) = 0 from rfl] at h0
  unfold oneB
  obtain ⟨p1, q1⟩ : ∃ p, isT (.mk ax al) 1 = p := ⟨_, rfl⟩
  obtain ⟨p3, q3⟩ : ∃ p, isT (.mk ax al) 2 = p := ⟨_, rfl⟩
  rw [q1] at i1 ⊢
  rw [q3] at b1 ⊢
  clear q1 q3
  obtain ⟨mx, ml⟩ := m
  by_cases n1 : x.n = 1
  · cases p1 with
    | true =>
      refine row_of Try.func92 rfl rfl (Nat.le_of_ble_eq_true rfl) ?_
      repeat' (first | refine aw_seq ?_ | refine aw_skip ?_ | refine aw_block ?_ | refine aw_exit ?_ | refine aw_cond rfl (fun _ => ?_) (fun hb => absurd hb (by decide)) | refine aw_cond rfl (fun hb => absurd hb (by decide)) (fun _ => ?_) | (refine aw_reg (fun K hK => ?_); simp -implicitDefEqProofs [n1]) | (refine aw_drw mixd (fun K hK => ?_); simp -implicitDefEqProofs [n1]) | refine hK _ ?_ | refine hK _ _ (by rfl) ?_ | (refine ar_call (cb h0 1 ?_); simp -implicitDefEqProofs [n1]) | (refine ard_call (db h0 1 ?_); simp -implicitDefEqProofs [n1]) | (refine ar_call (cp i1 ?_); simp -implicitDefEqProofs [n1]) | (refine ard_call (dp i1 ?_); simp -implicitDefEqProofs [n1]) | fail)
      refine aw_ret (fin_box2 ?_); simp -implicitDefEqProofs [FinB2, resV, resT, n1] <;> try rfl
    | false =>
      refine row_of Try.func92 rfl rfl (Nat.le_of_ble_eq_true rfl) ?_
      repeat' (first | refine aw_seq ?_ | refine aw_skip ?_ | refine aw_block ?_ | refine aw_exit ?_ | refine aw_cond rfl (fun _ => ?_) (fun hb => absurd hb (by decide)) | refine aw_cond rfl (fun hb => absurd hb (by decide)) (fun _ => ?_) | (refine aw_reg (fun K hK => ?_); simp -implicitDefEqProofs [n1]) | (refine aw_drw mixd (fun K hK => ?_); simp -implicitDefEqProofs [n1]) | refine hK _ ?_ | refine hK _ _ (by rfl) ?_ | (refine ar_call (cb h0 1 ?_); simp -implicitDefEqProofs [n1]) | (refine ard_call (db h0 1 ?_); simp -implicitDefEqProofs [n1]) | (refine ar_call (cp i1 ?_); simp -implicitDefEqProofs [n1]) | (refine ard_call (dp i1 ?_); simp -implicitDefEqProofs [n1]) | fail)
      refine aw_ret (fin_box2 ?_); simp -implicitDefEqProofs [FinB2, resV, resT, n1] <;> try rfl
  by_cases n2 : x.n = 2
  · cases p3 with
    | true =>
      refine row_of Try.func92 rfl rfl (Nat.le_of_ble_eq_true rfl) ?_
      repeat' (first | refine aw_seq ?_ | refine aw_skip ?_ | refine aw_block ?_ | refine aw_exit ?_ | refine aw_cond rfl (fun _ => ?_) (fun hb => absurd hb (by decide)) | refine aw_cond rfl (fun hb => absurd hb (by decide)) (fun _ => ?_) | (refine aw_reg (fun K hK => ?_); simp -implicitDefEqProofs [n1, n2]) | (refine aw_drw mixd (fun K hK => ?_); simp -implicitDefEqProofs [n1, n2]) | refine hK _ ?_ | refine hK _ _ (by rfl) ?_ | (refine ar_call (cb h0 1 ?_); simp -implicitDefEqProofs [n1, n2]) | (refine ard_call (db h0 1 ?_); simp -implicitDefEqProofs [n1, n2]) | (refine ar_call (cp b1 ?_); simp -implicitDefEqProofs [n1, n2]) | (refine ard_call (dp b1 ?_); simp -implicitDefEqProofs [n1, n2]) | fail)
      refine aw_ret (fin_box2 ?_); simp -implicitDefEqProofs [FinB2, resV, resT, n1, n2] <;> try rfl
    | false =>
      refine row_of Try.func92 rfl rfl (Nat.le_of_ble_eq_true rfl) ?_
      repeat' (first | refine aw_seq ?_ | refine aw_skip ?_ | refine aw_block ?_ | refine aw_exit ?_ | refine aw_cond rfl (fun _ => ?_) (fun hb => absurd hb (by decide)) | refine aw_cond rfl (fun hb => absurd hb (by decide)) (fun _ => ?_) | (refine aw_reg (fun K hK => ?_); simp -implicitDefEqProofs [n1, n2]) | (refine aw_drw mixd (fun K hK => ?_); simp -implicitDefEqProofs [n1, n2]) | refine hK _ ?_ | refine hK _ _ (by rfl) ?_ | (refine ar_call (cb h0 1 ?_); simp -implicitDefEqProofs [n1, n2]) | (refine ard_call (db h0 1 ?_); simp -implicitDefEqProofs [n1, n2]) | (refine ar_call (cp b1 ?_); simp -implicitDefEqProofs [n1, n2]) | (refine ard_call (dp b1 ?_); simp -implicitDefEqProofs [n1, n2]) | fail)
      refine aw_ret (fin_box2 ?_); simp -implicitDefEqProofs [FinB2, resV, resT, n1, n2] <;> try rfl
  · refine row_of Try.func92 rfl rfl (Nat.le_of_ble_eq_true rfl) ?_
    repeat' (first | refine aw_seq ?_ | refine aw_skip ?_ | refine aw_block ?_ | refine aw_exit ?_ | refine aw_cond rfl (fun _ => ?_) (fun hb => absurd hb (by decide)) | refine aw_cond rfl (fun hb => absurd hb (by decide)) (fun _ => ?_) | (refine aw_reg (fun K hK => ?_); simp -implicitDefEqProofs [n1, n2]) | (refine aw_drw mixd (fun K hK => ?_); simp -implicitDefEqProofs [n1, n2]) | refine hK _ ?_ | refine hK _ _ (by rfl) ?_ | (refine ar_call (cb h0 1 ?_); simp -implicitDefEqProofs [n1, n2]) | (refine ard_call (db h0 1 ?_); simp -implicitDefEqProofs [n1, n2]) | fail)
    refine aw_ret (fin_box2 ?_); simp -implicitDefEqProofs [FinB2, resV, resT, n1, n2] <;> try rfl
noncomputable def idxP (a b : VT) : Option VT := if a.lab.k = 3 ∧ a.kids.length = 1 ∧ isT b 1 = true then some (a.kids.getD 0 z0T) else none
set_option maxRecDepth 100000 in
set_option maxHeartbeats 4000000 in
theorem pindex_row (m : VT) (L : List VT) (a b : VT) : Row Try.prog 93 [.v (.c (.ptr 0 0)), fnK 1] [bxW m L 0 0, bxK [a, b]] (vTO ((idxP a b).getD z0T) (idxP a b).isSome) [some (bxW m L 0 0), some (bxK [a, b])] := by
  obtain ⟨ax, al⟩ := a
  obtain ⟨bx, bl⟩ := b
  have h0 := kpart_row [.mk ax al, .mk bx bl] 0 ax al rfl
  have h1 := kpart_row [.mk ax al, .mk bx bl] 1 bx bl rfl
  have i2 := isint_row bx bl
  rw [show ((0 : Nat) : Int) = 0 from rfl] at h0
  rw [show ((1 : Nat) : Int) = 1 from rfl] at h1
  obtain ⟨mx, ml⟩ := m
  by_cases a3 : ax.k = 3; rotate_left
  · rw [show idxP (.mk ax al) (.mk bx bl) = none by unfold idxP; exact if_neg (fun h => a3 h.1)]
    refine row_of Try.func93 rfl rfl (Nat.le_of_ble_eq_true rfl) ?_
    repeat' (first | refine aw_seq ?_ | refine aw_skip ?_ | refine aw_block ?_ | refine aw_exit ?_ | refine aw_cond rfl (fun _ => ?_) (fun hb => absurd hb (by decide)) | refine aw_cond rfl (fun hb => absurd hb (by decide)) (fun _ => ?_) | (refine aw_reg (fun K hK => ?_); simp -implicitDefEqProofs [a3]) | (refine aw_drw mixd (fun K hK => ?_); simp -implicitDefEqProofs [a3]) | refine hK _ ?_ | refine hK _ _ (by rfl) ?_ | (refine ar_call (cb h0 1 ?_); simp -implicitDefEqProofs [a3]) | (refine ard_call (db h0 1 ?_); simp -implicitDefEqProofs [a3]) | fail)
    refine aw_ret (fin_box2 ?_); simp -implicitDefEqProofs [FinB2, resV, resT] <;> try rfl
  by_cases a1 : al.length = 1; rotate_left
  · have a1' : ¬ (al.length : Int) = 1 := by omega
    rw [show idxP (.mk ax al) (.mk bx bl) = none by unfold idxP; exact if_neg (fun h => a1 h.2.1)]
    refine row_of Try.func93 rfl rfl (Nat.le_of_ble_eq_true rfl) ?_
    repeat' (first | refine aw_seq ?_ | refine aw_skip ?_ | refine aw_block ?_ | refine aw_exit ?_ | refine aw_cond rfl (fun _ => ?_) (fun hb => absurd hb (by decide)) | refine aw_cond rfl (fun hb => absurd hb (by decide)) (fun _ => ?_) | (refine aw_reg (fun K hK => ?_); simp -implicitDefEqProofs [a3, a1, a1']) | (refine aw_drw mixd (fun K hK => ?_); simp -implicitDefEqProofs [a3, a1, a1']) | refine hK _ ?_ | refine hK _ _ (by rfl) ?_ | (refine ar_call (cb h0 1 ?_); simp -implicitDefEqProofs [a3, a1, a1']) | (refine ard_call (db h0 1 ?_); simp -implicitDefEqProofs [a3, a1, a1']) | fail)
    refine aw_ret (fin_box2 ?_); simp -implicitDefEqProofs [FinB2, resV, resT] <;> try rfl
  obtain ⟨⟨ux, ul⟩, rfl⟩ := one_of a1
  cases hq : isT (.mk bx bl) 1 with
  | false =>
    rw [hq] at i2
    rw [show idxP (.mk ax [.mk ux ul]) (.mk bx bl) = none by unfold idxP; exact if_neg (fun h => by rw [hq] at h; cases h.2.2)]
    refine row_of Try.func93 rfl rfl (Nat.le_of_ble_eq_true rfl) ?_
    repeat' (first | refine aw_seq ?_ | refine aw_skip ?_ | refine aw_block ?_ | refine aw_exit ?_ | refine aw_cond rfl (fun _ => ?_) (fun hb => absurd hb (by decide)) | refine aw_cond rfl (fun hb => absurd hb (by decide)) (fun _ => ?_) | (refine aw_reg (fun K hK => ?_); simp -implicitDefEqProofs [a3]) | (refine aw_drw mixd (fun K hK => ?_); simp -implicitDefEqProofs [a3]) | refine hK _ ?_ | refine hK _ _ (by rfl) ?_ | (refine ar_call (cb h0 1 ?_); simp -implicitDefEqProofs [a3]) | (refine ard_call (db h0 1 ?_); simp -implicitDefEqProofs [a3]) | (refine ar_call (cb h1 1 ?_); simp -implicitDefEqProofs [a3]) | (refine ard_call (db h1 1 ?_); simp -implicitDefEqProofs [a3]) | (refine ar_call (cp i2 ?_); simp -implicitDefEqProofs [a3]) | (refine ard_call (dp i2 ?_); simp -implicitDefEqProofs [a3]) | fail)
    refine aw_ret (fin_box2 ?_); simp -implicitDefEqProofs [FinB2, resV, resT] <;> try rfl
  | true =>
    rw [hq] at i2
    rw [show idxP (.mk ax [.mk ux ul]) (.mk bx bl) = some (.mk ux ul) by unfold idxP; rw [if_pos ⟨a3, a1, hq⟩]; rfl]
    refine row_of Try.func93 rfl rfl (Nat.le_of_ble_eq_true rfl) ?_
    repeat' (first | refine aw_seq ?_ | refine aw_skip ?_ | refine aw_block ?_ | refine aw_exit ?_ | refine aw_cond rfl (fun _ => ?_) (fun hb => absurd hb (by decide)) | refine aw_cond rfl (fun hb => absurd hb (by decide)) (fun _ => ?_) | (refine aw_reg (fun K hK => ?_); simp -implicitDefEqProofs [a3]) | (refine aw_drw mixd (fun K hK => ?_); simp -implicitDefEqProofs [a3]) | refine hK _ ?_ | refine hK _ _ (by rfl) ?_ | (refine ar_call (cb h0 1 ?_); simp -implicitDefEqProofs [a3]) | (refine ard_call (db h0 1 ?_); simp -implicitDefEqProofs [a3]) | (refine ar_call (cb h1 1 ?_); simp -implicitDefEqProofs [a3]) | (refine ard_call (db h1 1 ?_); simp -implicitDefEqProofs [a3]) | (refine ar_call (cp i2 ?_); simp -implicitDefEqProofs [a3]) | (refine ard_call (dp i2 ?_); simp -implicitDefEqProofs [a3]) | fail)
    refine aw_ret (fin_box2 ?_); simp -implicitDefEqProofs [FinB2, resV, resT] <;> try rfl
noncomputable def fitD : List VT → List VT → Bool
  | [], [] => true
  | d :: D, a :: A => (!decide (d.kids.length = 0) && same (d.kids.getD 0 z0T) a) && fitD D A
  | _, _ => false
theorem fitD_len : ∀ {D A : List VT}, D.length ≠ A.length → fitD D A = false
  | [], [], h => absurd rfl h
  | a :: A, p :: P, h => by unfold fitD; rw [fitD_len (fun e => h (by simp [e])), Bool.and_false]
  | [], _ :: _, _ => rfl
  | _ :: _, [], _ => rfl
set_option maxRecDepth 100000 in
set_option maxHeartbeats 4000000 in
theorem pfits_row (m : VT) (L : List VT) (D A : List VT) (hD : ∀ d ∈ D, d.size ≤ 1000000) (hA : ∀ a ∈ A, a.size ≤ 1000000) (hl : D.length ≤ 1000000) (hl2 : A.length ≤ 1000000) : Row Try.prog 96 [.v (.c (.ptr 0 0)), vLs D, vI (A.length : Nat), fnK 1] [bxW m L 0 0, bxK A] (vB (fitD D A)) [some (bxW m L 0 0), some (bxK A)] := by
  obtain ⟨mx, ml⟩ := m
  by_cases he : D.length = A.length; rotate_left
  · rw [fitD_len he]
    have he' : ¬ (D.length : Int) = (A.length : Int) := by omega
    refine row_of Try.func96 rfl rfl (Nat.le_of_ble_eq_true rfl) ?_
    repeat (first | refine aw_seq ?_ | refine aw_skip ?_ | refine aw_block ?_ | refine aw_exit ?_ | refine aw_cond rfl (fun _ => ?_) (fun hb => absurd hb (by decide)) | refine aw_cond rfl (fun hb => absurd hb (by decide)) (fun _ => ?_) | (refine aw_reg (fun K hK => ?_); simp -implicitDefEqProofs [he, he']; refine hK _ ?_) | (refine aw_drw mixd (fun K hK => ?_); simp -implicitDefEqProofs [he, he']; refine hK _ _ (by rfl) ?_) | fail)
    refine aw_ret (fin_box2 ?_); simp -implicitDefEqProofs [FinB2, resV, resT] <;> try rfl
  obtain ⟨R, hR⟩ : ∃ R, fitD D A = R := ⟨_, rfl⟩
  rw [hR]
  refine row_of Try.func96 rfl rfl (Nat.le_of_ble_eq_true rfl) ?_
  repeat (first | refine aw_seq ?_ | refine aw_skip ?_ | refine aw_block ?_ | refine aw_exit ?_ | refine aw_cond rfl (fun _ => ?_) (fun hb => absurd hb (by decide)) | refine aw_cond rfl (fun hb => absurd hb (by decide)) (fun _ => ?_) | (refine aw_reg (fun K hK => ?_); simp -implicitDefEqProofs [he]; refine hK _ ?_) | (refine aw_drw mixd (fun K hK => ?_); simp -implicitDefEqProofs [he]; refine hK _ _ (by rfl) ?_) | fail)
  refine aw_lp (ι := Nat) (fun k => mkSt [(0, .v (.c (.ptr 0 0))), (3, fnK 1), (15, vLs D), (16, vI (A.length : Nat)), (17, vI (k : Nat))] [some (bxW (.mk mx ml) L 0 0), some (bxK A)]) (fun k => k ≤ A.length ∧ fitD (D.drop k) (A.drop k) = R) (fun k => A.length - k) 0 ⟨Nat.zero_le _, by simpa using hR⟩ (cov_intro [0, 1] (by simp -implicitDefEqProofs [he]) (by simp -implicitDefEqProofs [he]) (by decide) rfl (by simp)) (fun Z hI k hk => ?_)
  obtain ⟨hk, hz⟩ := hk
  by_cases hkl : k < A.length; rotate_left
  · have : k = A.length := by omega
    subst this
    rw [List.drop_of_length_le (by omega), List.drop_of_length_le (Nat.le_refl _)] at hz
    have hz : true = R := hz
    subst hz
    repeat (first | refine aw_seq ?_ | refine aw_skip ?_ | refine aw_block ?_ | refine aw_exit ?_ | refine aw_cond rfl (fun _ => ?_) (fun hb => absurd hb (by decide)) | refine aw_cond rfl (fun hb => absurd hb (by decide)) (fun _ => ?_) | (refine aw_reg (fun K hK => ?_); simp -implicitDefEqProofs; refine hK _ ?_) | (refine aw_drw mixd (fun K hK => ?_); simp -implicitDefEqProofs; refine hK _ _ (by rfl) ?_) | fail)
    refine aw_ret (fin_box2 ?_); simp -implicitDefEqProofs [FinB2, resV, resT] <;> try rfl
  have hkD : k < D.length := by omega
  obtain ⟨⟨ax, al⟩, ha⟩ : ∃ a, A[k]? = some a := ⟨_, List.getElem?_eq_getElem hkl⟩
  have ha' := (List.getElem?_eq_some_iff.1 ha).2
  obtain ⟨⟨px, pl⟩, hp⟩ : ∃ a, D[k]? = some a := ⟨_, List.getElem?_eq_getElem hkD⟩
  have hp' := (List.getElem?_eq_some_iff.1 hp).2
  have w2 : IntKind.i64.wrap ((k : Nat) + 1 : Int) = (k : Nat) + 1 := i64i _ (by omega) (by omega)
  have hdA : A.drop k = .mk ax al :: A.drop (k + 1) := by rw [List.drop_eq_getElem_cons hkl, ha']
  have hdD : D.drop k = .mk px pl :: D.drop (k + 1) := by rw [List.drop_eq_getElem_cons hkD, hp']
  rw [hdA, hdD] at hz
  unfold fitD at hz
  rw [Tr.kids] at hz
  by_cases h0 : pl.length = 0
  · rw [decide_eq_true h0] at hz
    have hz : false = R := hz
    subst hz
    obtain rfl := List.eq_nil_of_length_eq_zero h0
    repeat (first | refine aw_seq ?_ | refine aw_skip ?_ | refine aw_block ?_ | refine aw_exit ?_ | refine aw_cond rfl (fun _ => ?_) (fun hb => absurd hb (by decide)) | refine aw_cond rfl (fun hb => absurd hb (by decide)) (fun _ => ?_) | (refine aw_reg (fun K hK => ?_); simp -implicitDefEqProofs [hkl, hkD, ha, ha', hp, hp']; refine hK _ ?_) | (refine aw_drw mixd (fun K hK => ?_); simp -implicitDefEqProofs [hkl, hkD, ha, ha', hp, hp']; refine hK _ _ (by rfl) ?_) | fail)
    refine aw_ret (fin_box2 ?_); simp -implicitDefEqProofs [FinB2, resV, resT] <;> try rfl
  cases pl with
  | nil => exact absurd rfl h0
  | cons u pr =>
  obtain ⟨ux, ul⟩ := u
  have hps := hD _ (List.mem_of_getElem? hp)
  have hus := Tr.size_at (x := px) (l := .mk ux ul :: pr) (i := 0) rfl
  have hs := tsame_row (.mk ux ul) (by omega) (.mk ax al) (hA _ (List.mem_of_getElem? ha))
  have hkp := kpart_row A k ax al ha
  rw [show (Tr.mk ux ul :: pr).getD 0 z0T = .mk ux ul from rfl, decide_eq_false h0] at hz
  have hpn : ¬ ((pr.length : Int) + 1 = 0) := by omega
  obtain ⟨sm, hsm⟩ : ∃ b, same (.mk ux ul) (.mk ax al) = b := ⟨_, rfl⟩
  rw [hsm] at hs hz
  clear hsm hdA hdD
  cases sm with
  | false =>
    have hz : false = R := hz
    subst hz
    repeat' (first | refine aw_seq ?_ | refine aw_skip ?_ | refine aw_block ?_ | refine aw_exit ?_ | refine aw_cond rfl (fun _ => ?_) (fun hb => absurd hb (by decide)) | refine aw_cond rfl (fun hb => absurd hb (by decide)) (fun _ => ?_) | (refine aw_reg (fun K hK => ?_); simp -implicitDefEqProofs [hkl, hkD, ha, ha', hp, hp', hpn]) | (refine aw_drw mixd (fun K hK => ?_); simp -implicitDefEqProofs [hkl, hkD, ha, ha', hp, hp', hpn]) | refine hK _ ?_ | refine hK _ _ (by rfl) ?_ | (refine ar_call (cb hkp 1 ?_); simp -implicitDefEqProofs [hkl, hkD, ha, ha', hp, hp', hpn]) | (refine ard_call (db hkp 1 ?_); simp -implicitDefEqProofs [hkl, hkD, ha, ha', hp, hp', hpn]) | (refine ar_call (cp hs ?_); simp -implicitDefEqProofs [hkl, hkD, ha, ha', hp, hp', hpn]) | (refine ard_call (dp hs ?_); simp -implicitDefEqProofs [hkl, hkD, ha, ha', hp, hp', hpn]) | fail)
    refine aw_ret (fin_box2 ?_); simp -implicitDefEqProofs [FinB2, resV, resT] <;> try rfl
  | true =>
    have hz : fitD (D.drop (k + 1)) (A.drop (k + 1)) = R := by simpa using hz
    repeat' (first | refine aw_seq ?_ | refine aw_skip ?_ | refine aw_block ?_ | refine aw_exit ?_ | refine aw_cond rfl (fun _ => ?_) (fun hb => absurd hb (by decide)) | refine aw_cond rfl (fun hb => absurd hb (by decide)) (fun _ => ?_) | (refine aw_reg (fun K hK => ?_); simp -implicitDefEqProofs [hkl, hkD, ha, ha', hp, hp', hpn, w2]) | (refine aw_drw mixd (fun K hK => ?_); simp -implicitDefEqProofs [hkl, hkD, ha, ha', hp, hp', hpn, w2]) | refine hK _ ?_ | refine hK _ _ (by rfl) ?_ | (refine ar_call (cb hkp 1 ?_); simp -implicitDefEqProofs [hkl, hkD, ha, ha', hp, hp', hpn, w2]) | (refine ard_call (db hkp 1 ?_); simp -implicitDefEqProofs [hkl, hkD, ha, ha', hp, hp', hpn, w2]) | (refine ar_call (cp hs ?_); simp -implicitDefEqProofs [hkl, hkD, ha, ha', hp, hp', hpn, w2]) | (refine ard_call (dp hs ?_); simp -implicitDefEqProofs [hkl, hkD, ha, ha', hp, hp', hpn, w2]) | fail)
    refine ⟨k + 1, ⟨by omega, hz⟩, (by dsimp only; omega), ?_⟩
    rw [hI]; exact cov_intro [0, 1] (by simp -implicitDefEqProofs) (by simp -implicitDefEqProofs) (by decide) rfl (by simp)
end Go.Proofs.Ytjjnboenehomgaa.am
end
section
namespace Go.Proofs.Ytjjnboenehomgaa.am
open Go.ChangeShapes Go.WideShapes Go.ChangeAt Go.RowKit
open vt
set_option linter.unusedVariables false
set_option linter.unusedSimpArgs false
noncomputable def fldN (m : VT) (x : Lab) (r : Int) : Int := if x.s = ⟨#[]⟩ then x.n else numM m r x.s
noncomputable def fldP (m : VT) (x : Lab) (r : Int) : Option VT := if (fldA m (fldN m x r)).isSome = true ∧ fldN m x r / 64 = r then fldA m (fldN m x r) else none
theorem numM_in {m : VT} (hm : m.size ≤ 1000000) (r : Int) (s : ByteArray) : -1 ≤ numM m r s ∧ numM m r s ≤ 100000000 := by
  unfold numM
  split
  · split
    · rename_i d hd
      have h1 := (List.getElem?_eq_some_iff.1 hd).1
      have hmk : m.kids.length < m.size := by obtain ⟨mx, ml⟩ := m; exact Tr.len_size (x := mx) (l := ml)
      unfold numP
      split
      · rename_i i hi
        have h2 := (List.findIdx?_eq_some_iff_getElem.1 hi).1
        rw [List.length_take] at h2
        constructor <;> omega
      · constructor <;> omega
    · constructor <;> omega
  · constructor <;> omega
theorem fldN_in {m : VT} (hm : m.size ≤ 1000000) {x : Lab} (hx : x.ok) (r : Int) : -9223372036854775808 ≤ fldN m x r ∧ fldN m x r ≤ 9223372036854775807 := by
  unfold fldN
  split
  · exact hx.2.1
  · have := numM_in hm r x.s
    constructor <;> omega
structure RP where
  ty : VT
  ok : Bool
  n : Int
  er : Int
noncomputable def fieP (m : VT) (x : Lab) (a : VT) : RP :=
  if a.lab.k = 4 ∧ a.kids.length = 0 then (match fldP m x a.lab.n with
    | some k => ⟨barT k, true, fldN m x a.lab.n, 0⟩
    | none => ⟨z0T, false, x.n, 8⟩)
  else ⟨z0T, false, x.n, 0⟩
noncomputable abbrev bxT (t : VT) : AO := .box (ta t)
set_option maxRecDepth 100000 in
set_option maxHeartbeats 4000000 in
theorem pfield_row (m : VT) (hms : m.size ≤ 900000) (L : List VT) (x : Lab) (l : List VT) (hx : x.ok) (a : VT) (ha : in64 a) (F : List VT) : Row Try.prog 94 [.v (.c (.ptr 0 0)), vT (.mk x l), .v (.c (.ptr 1 0)), fnK 2] [bxW m L 0 0, bxT (.mk ⟨x.k, x.n, ⟨#[]⟩, 0, 0⟩ F), bxK [a]] (vTO (fieP m x a).ty (fieP m x a).ok) [some (bxW m L (if (fieP m x a).er = 0 then 0 else x.f) (fieP m x a).er), some (bxT (.mk ⟨x.k, (fieP m x a).n, ⟨#[]⟩, 0, 0⟩ F)), some (bxK [a])] := by
  obtain ⟨ax, al⟩ := a
  have hax := ((Tr.all_mk _ _ _).1 ha).1
  have h0 := kpart_row [.mk ax al] 0 ax al rfl
  rw [show ((0 : Nat) : Int) = 0 from rfl] at h0
  unfold fieP
  rw [Tr.lab, Tr.kids]
  by_cases a4 : ax.k = 4; rotate_left
  · rw [if_neg (fun h => a4 h.1)]
    obtain ⟨mx, ml⟩ := m
    refine row_of Try.func94 rfl rfl (Nat.le_of_ble_eq_true rfl) ?_
    repeat' (first | refine aw_seq ?_ | refine aw_skip ?_ | refine aw_block ?_ | refine aw_exit ?_ | refine aw_cond rfl (fun _ => ?_) (fun hb => absurd hb (by decide)) | refine aw_cond rfl (fun hb => absurd hb (by decide)) (fun _ => ?_) | (refine aw_reg (fun K hK => ?_); simp -implicitDefEqProofs [a4]) | (refine aw_drw mixd (fun K hK => ?_); simp -implicitDefEqProofs [a4]) | refine hK _ ?_ | refine hK _ _ (by rfl) ?_ | (refine ar_call (cb h0 2 ?_); simp -implicitDefEqProofs [a4]) | (refine ard_call (db h0 2 ?_); simp -implicitDefEqProofs [a4]) | fail)
    refine aw_ret (fin_g [0, 1, 2] ?_); simp -implicitDefEqProofs [FinG, resV, resT] <;> try rfl
  by_cases a0 : al.length = 0; rotate_left
  · have a0' : ¬ (al.length : Int) = 0 := by omega
    rw [if_neg (fun h => a0 h.2)]
    obtain ⟨mx, ml⟩ := m
    refine row_of Try.func94 rfl rfl (Nat.le_of_ble_eq_true rfl) ?_
    repeat' (first | refine aw_seq ?_ | refine aw_skip ?_ | refine aw_block ?_ | refine aw_exit ?_ | refine aw_cond rfl (fun _ => ?_) (fun hb => absurd hb (by decide)) | refine aw_cond rfl (fun hb => absurd hb (by decide)) (fun _ => ?_) | (refine aw_reg (fun K hK => ?_); simp -implicitDefEqProofs [a4, a0, a0']) | (refine aw_drw mixd (fun K hK => ?_); simp -implicitDefEqProofs [a4, a0, a0']) | refine hK _ ?_ | refine hK _ _ (by rfl) ?_ | (refine ar_call (cb h0 2 ?_); simp -implicitDefEqProofs [a4, a0, a0']) | (refine ard_call (db h0 2 ?_); simp -implicitDefEqProofs [a4, a0, a0']) | fail)
    refine aw_ret (fin_g [0, 1, 2] ?_); simp -implicitDefEqProofs [FinG, resV, resT] <;> try rfl
  obtain rfl := List.eq_nil_of_length_eq_zero a0
  rw [if_pos ⟨a4, rfl⟩]
  have hin := fldN_in (m := m) (by omega) hx ax.n
  have hfi := field12_row m (by omega) (fldN m x ax.n) hin
  have hnu := number_row m (by omega) L 0 0 ax.n hax.2.1.2 x.s
  have hfl := fail_row m L 0 0 x l 8
  have hfp : fldP m x ax.n = if (fldA m (fldN m x ax.n)).isSome = true ∧ fldN m x ax.n / 64 = ax.n then fldA m (fldN m x ax.n) else none := rfl
  have hpos : (fldA m (fldN m x ax.n)).isSome = true → 0 ≤ fldN m x ax.n := fun h => fldA_pos h
  have hsz := fldA_size m (fldN m x ax.n)
  have hnm : ¬ x.s = ⟨#[]⟩ → numM m ax.n x.s = fldN m x ax.n := fun h => by unfold fldN; rw [if_neg h]
  have hn0 : x.s = ⟨#[]⟩ → x.n = fldN m x ax.n := fun h => by unfold fldN; rw [if_pos h]
  obtain ⟨n, hn⟩ : ∃ n, fldN m x ax.n = n := ⟨_, rfl⟩
  rw [hn] at hin hfi hfp hpos hsz hnm hn0 ⊢
  rw [hfp]
  cases hF : fldA m n with
  | none =>
    rw [hF] at hfi
    rw [if_neg (by simp)]
    simp only [Option.getD_none, Option.isSome_none] at hfi
    rw [if_pos rfl, if_pos rfl] at hfl
    clear hsz hpos hfp hF hn
    obtain ⟨mx, ml⟩ := m
    by_cases cs : x.s = ⟨#[]⟩
    · have e := hn0 cs
      clear hnm hn0 hnu
      subst e
      refine row_of Try.func94 rfl rfl (Nat.le_of_ble_eq_true rfl) ?_
      repeat' (first | refine aw_seq ?_ | refine aw_skip ?_ | refine aw_block ?_ | refine aw_exit ?_ | refine aw_cond rfl (fun _ => ?_) (fun hb => absurd hb (by decide)) | refine aw_cond rfl (fun hb => absurd hb (by decide)) (fun _ => ?_) | (refine aw_reg (fun K hK => ?_); simp -implicitDefEqProofs [a4, cs]) | (refine aw_drw mixd (fun K hK => ?_); simp -implicitDefEqProofs [a4, cs]) | refine hK _ ?_ | refine hK _ _ (by rfl) ?_ | (refine ar_call (cb h0 2 ?_); simp -implicitDefEqProofs [a4, cs]) | (refine ard_call (db h0 2 ?_); simp -implicitDefEqProofs [a4, cs]) | (refine ar_call (cp hfi ?_); simp -implicitDefEqProofs [a4, cs]) | (refine ard_call (dp hfi ?_); simp -implicitDefEqProofs [a4, cs]) | (refine ar_call (cb hfl 0 ?_); simp -implicitDefEqProofs [a4, cs]) | (refine ard_call (db hfl 0 ?_); simp -implicitDefEqProofs [a4, cs]) | fail)
      refine aw_ret (fin_g [0, 1, 2] ?_); simp -implicitDefEqProofs [FinG, resV, resT] <;> try rfl
    · have e := hnm cs
      rw [e] at hnu
      clear hnm hn0 e
      refine row_of Try.func94 rfl rfl (Nat.le_of_ble_eq_true rfl) ?_
      repeat' (first | refine aw_seq ?_ | refine aw_skip ?_ | refine aw_block ?_ | refine aw_exit ?_ | refine aw_cond rfl (fun _ => ?_) (fun hb => absurd hb (by decide)) | refine aw_cond rfl (fun hb => absurd hb (by decide)) (fun _ => ?_) | (refine aw_reg (fun K hK => ?_); simp -implicitDefEqProofs [a4, cs]) | (refine aw_drw mixd (fun K hK => ?_); simp -implicitDefEqProofs [a4, cs]) | refine hK _ ?_ | refine hK _ _ (by rfl) ?_ | (refine ar_call (cb h0 2 ?_); simp -implicitDefEqProofs [a4, cs]) | (refine ard_call (db h0 2 ?_); simp -implicitDefEqProofs [a4, cs]) | (refine ar_call (cb hnu 0 ?_); simp -implicitDefEqProofs [a4, cs]) | (refine ard_call (db hnu 0 ?_); simp -implicitDefEqProofs [a4, cs]) | (refine ar_call (cp hfi ?_); simp -implicitDefEqProofs [a4, cs]) | (refine ard_call (dp hfi ?_); simp -implicitDefEqProofs [a4, cs]) | (refine ar_call (cb hfl 0 ?_); simp -implicitDefEqProofs [a4, cs]) | (refine ard_call (db hfl 0 ?_); simp -implicitDefEqProofs [a4, cs]) | fail)
      refine aw_ret (fin_g [0, 1, 2] ?_); simp -implicitDefEqProofs [FinG, resV, resT] <;> try rfl
  | some k =>
    rw [hF] at hfi hpos hsz
    simp only [Option.getD_some, Option.isSome_some] at hfi hpos hsz
    have hp := hpos trivial
    have wq : IntKind.i64.wrap (n.tdiv 64) = n / 64 := by
      rw [Int.tdiv_eq_ediv_of_nonneg hp]
      exact i64i _ (by omega) (by omega)
    have hba := bare_row k (by omega)
    obtain ⟨kx, kl⟩ := k
    obtain ⟨⟨ux, ul⟩, hu⟩ : ∃ t, barT (.mk kx kl) = t := ⟨_, rfl⟩
    rw [hu] at hba
    by_cases hr : n / 64 = ax.n; rotate_left
    · rw [if_neg (fun h => hr h.2)]
      rw [if_pos rfl, if_pos rfl] at hfl
      clear hsz hpos hfp hF hn hu hba
      obtain ⟨mx, ml⟩ := m
      by_cases cs : x.s = ⟨#[]⟩
      · have e := hn0 cs
        clear hnm hn0 hnu
        subst e
        refine row_of Try.func94 rfl rfl (Nat.le_of_ble_eq_true rfl) ?_
        repeat' (first | refine aw_seq ?_ | refine aw_skip ?_ | refine aw_block ?_ | refine aw_exit ?_ | refine aw_cond rfl (fun _ => ?_) (fun hb => absurd hb (by decide)) | refine aw_cond rfl (fun hb => absurd hb (by decide)) (fun _ => ?_) | (refine aw_reg (fun K hK => ?_); simp -implicitDefEqProofs [a4, cs, wq, hr]) | (refine aw_drw mixd (fun K hK => ?_); simp -implicitDefEqProofs [a4, cs, wq, hr]) | refine hK _ ?_ | refine hK _ _ (by rfl) ?_ | (refine ar_call (cb h0 2 ?_); simp -implicitDefEqProofs [a4, cs, wq, hr]) | (refine ard_call (db h0 2 ?_); simp -implicitDefEqProofs [a4, cs, wq, hr]) | (refine ar_call (cp hfi ?_); simp -implicitDefEqProofs [a4, cs, wq, hr]) | (refine ard_call (dp hfi ?_); simp -implicitDefEqProofs [a4, cs, wq, hr]) | (refine ar_call (cb hfl 0 ?_); simp -implicitDefEqProofs [a4, cs, wq, hr]) | (refine ard_call (db hfl 0 ?_); simp -implicitDefEqProofs [a4, cs, wq, hr]) | fail)
        refine aw_ret (fin_g [0, 1, 2] ?_); simp -implicitDefEqProofs [FinG, resV, resT] <;> try rfl
      · have e := hnm cs
        rw [e] at hnu
        clear hnm hn0 e
        refine row_of Try.func94 rfl rfl (Nat.le_of_ble_eq_true rfl) ?_
        repeat' (first | refine aw_seq ?_ | refine aw_skip ?_ | refine aw_block ?_ | refine aw_exit ?_ | refine aw_cond rfl (fun _ => ?_) (fun hb => absurd hb (by decide)) | refine aw_cond rfl (fun hb => absurd hb (by decide)) (fun _ => ?_) | (refine aw_reg (fun K hK => ?_); simp -implicitDefEqProofs [a4, cs, wq, hr]) | (refine aw_drw mixd (fun K hK => ?_); simp -implicitDefEqProofs [a4, cs, wq, hr]) | refine hK _ ?_ | refine hK _ _ (by rfl) ?_ | (refine ar_call (cb h0 2 ?_); simp -implicitDefEqProofs [a4, cs, wq, hr]) | (refine ard_call (db h0 2 ?_); simp -implicitDefEqProofs [a4, cs, wq, hr]) | (refine ar_call (cb hnu 0 ?_); simp -implicitDefEqProofs [a4, cs, wq, hr]) | (refine ard_call (db hnu 0 ?_); simp -implicitDefEqProofs [a4, cs, wq, hr]) | (refine ar_call (cp hfi ?_); simp -implicitDefEqProofs [a4, cs, wq, hr]) | (refine ard_call (dp hfi ?_); simp -implicitDefEqProofs [a4, cs, wq, hr]) | (refine ar_call (cb hfl 0 ?_); simp -implicitDefEqProofs [a4, cs, wq, hr]) | (refine ard_call (db hfl 0 ?_); simp -implicitDefEqProofs [a4, cs, wq, hr]) | fail)
        refine aw_ret (fin_g [0, 1, 2] ?_); simp -implicitDefEqProofs [FinG, resV, resT] <;> try rfl
    rw [if_pos ⟨rfl, hr⟩]
    dsimp only
    rw [hu]
    clear hsz hpos hfp hF hn hu hfl
    obtain ⟨mx, ml⟩ := m
    by_cases cs : x.s = ⟨#[]⟩
    · have e := hn0 cs
      clear hnm hn0 hnu
      subst e
      refine row_of Try.func94 rfl rfl (Nat.le_of_ble_eq_true rfl) ?_
      repeat' (first | refine aw_seq ?_ | refine aw_skip ?_ | refine aw_block ?_ | refine aw_exit ?_ | refine aw_cond rfl (fun _ => ?_) (fun hb => absurd hb (by decide)) | refine aw_cond rfl (fun hb => absurd hb (by decide)) (fun _ => ?_) | (refine aw_reg (fun K hK => ?_); simp -implicitDefEqProofs [a4, cs, wq, hr]) | (refine aw_drw mixd (fun K hK => ?_); simp -implicitDefEqProofs [a4, cs, wq, hr]) | refine hK _ ?_ | refine hK _ _ (by rfl) ?_ | (refine ar_call (cb h0 2 ?_); simp -implicitDefEqProofs [a4, cs, wq, hr]) | (refine ard_call (db h0 2 ?_); simp -implicitDefEqProofs [a4, cs, wq, hr]) | (refine ar_call (cp hfi ?_); simp -implicitDefEqProofs [a4, cs, wq, hr]) | (refine ard_call (dp hfi ?_); simp -implicitDefEqProofs [a4, cs, wq, hr]) | (refine ar_call (cp hba ?_); simp -implicitDefEqProofs [a4, cs, wq, hr]) | (refine ard_call (dp hba ?_); simp -implicitDefEqProofs [a4, cs, wq, hr]) | fail)
      refine aw_ret (fin_g [0, 1, 2] ?_); simp -implicitDefEqProofs [FinG, resV, resT] <;> try rfl
    · have e := hnm cs
      rw [e] at hnu
      clear hnm hn0 e
      refine row_of Try.func94 rfl rfl (Nat.le_of_ble_eq_true rfl) ?_
      repeat' (first | refine aw_seq ?_ | refine aw_skip ?_ | refine aw_block ?_ | refine aw_exit ?_ | refine aw_cond rfl (fun _ => ?_) (fun hb => absurd hb (by decide)) | refine aw_cond rfl (fun hb => absurd hb (by decide)) (fun _ => ?_) | (refine aw_reg (fun K hK => ?_); simp -implicitDefEqProofs [a4, cs, wq, hr]) | (refine aw_drw mixd (fun K hK => ?_); simp -implicitDefEqProofs [a4, cs, wq, hr]) | refine hK _ ?_ | refine hK _ _ (by rfl) ?_ | (refine ar_call (cb h0 2 ?_); simp -implicitDefEqProofs [a4, cs, wq, hr]) | (refine ard_call (db h0 2 ?_); simp -implicitDefEqProofs [a4, cs, wq, hr]) | (refine ar_call (cb hnu 0 ?_); simp -implicitDefEqProofs [a4, cs, wq, hr]) | (refine ard_call (db hnu 0 ?_); simp -implicitDefEqProofs [a4, cs, wq, hr]) | (refine ar_call (cp hfi ?_); simp -implicitDefEqProofs [a4, cs, wq, hr]) | (refine ard_call (dp hfi ?_); simp -implicitDefEqProofs [a4, cs, wq, hr]) | (refine ar_call (cp hba ?_); simp -implicitDefEqProofs [a4, cs, wq, hr]) | (refine ard_call (dp hba ?_); simp -implicitDefEqProofs [a4, cs, wq, hr]) | fail)
      refine aw_ret (fin_g [0, 1, 2] ?_); simp -implicitDefEqProofs [FinG, resV, resT] <;> try rfl
theorem dropP_all {l : List VT} {s : Nat} {p : VT → Bool} (h : ∀ j y, s ≤ j → l[j]? = some y → p y = true) : (l.drop s).all p = true := by
  rw [List.all_eq_true]
  intro y hy
  obtain ⟨i, hi⟩ := List.mem_iff_getElem?.1 hy
  rw [List.getElem?_drop] at hi
  exact h (s + i) y (by omega) hi
theorem dropP_no {l : List VT} {s j : Nat} {y : VT} {p : VT → Bool} (hj : s ≤ j) (hy : l[j]? = some y) (hp : p y = false) : (l.drop s).all p = false := by
  rw [List.all_eq_false]
  refine ⟨y, List.mem_iff_getElem?.2 ⟨j - s, ?_⟩, by rw [hp]; simp⟩
  rw [List.getElem?_drop, show s + (j - s) = j by omega]
  exact hy
noncomputable def lisP (m : VT) (x : Lab) (p : List VT) : RP :=
  if (p.drop 1).all (fun a => same (p.getD 0 z0T) a) = true then
    (if celP m (.mk ⟨3, p.length, ⟨#[]⟩, 0, 0⟩ [p.getD 0 z0T]) = 0 then ⟨z0T, false, x.n, 11⟩ else ⟨.mk ⟨3, p.length, ⟨#[]⟩, 0, 0⟩ [p.getD 0 z0T], true, x.n, 0⟩)
  else ⟨z0T, false, x.n, 0⟩
set_option maxRecDepth 100000 in
set_option maxHeartbeats 4000000 in
theorem plist_row (m : VT) (hm : in64 m) (hms : m.size ≤ 1000000) (L : List VT) (x : Lab) (l : List VT) (p : List VT) (hlp : l.length = p.length) (h1 : 0 < p.length) (hp : ∀ a ∈ p, in64 a ∧ a.size ≤ 900000) (hpl : p.length ≤ 900000) : Row Try.prog 95 [.v (.c (.ptr 0 0)), vT (.mk x l), fnK 1] [bxW m L 0 0, bxK p] (vTO (lisP m x p).ty (lisP m x p).ok) [some (bxW m L (if (lisP m x p).er = 0 then 0 else x.f) (lisP m x p).er), some (bxK p)] := by
  obtain ⟨⟨ax, al⟩, ha⟩ : ∃ a, p[0]? = some a := ⟨_, List.getElem?_eq_getElem h1⟩
  have ha' := (List.getElem?_eq_some_iff.1 ha).2
  have hg : p.getD 0 z0T = .mk ax al := by simp [List.getD, ha]
  have hpa := hp _ (List.mem_of_getElem? ha)
  have h0 := kpart_row p 0 ax al ha
  rw [show ((0 : Nat) : Int) = 0 from rfl] at h0
  have hcel := celP_row m (.mk ⟨3, p.length, ⟨#[]⟩, 0, 0⟩ [.mk ax al]) hm hms ((Tr.all_mk _ _ _).2 ⟨by simp [Lab.ok]; omega, fun y hy => by simp at hy; subst hy; exact hpa.1⟩) (by rw [Tr.size_mk]; simp only [List.map_cons, List.map_nil, List.sum_cons, List.sum_nil]; omega)
  have hfl := fail_row m L 0 0 x l 11
  rw [if_pos rfl, if_pos rfl] at hfl
  unfold lisP
  rw [hg]
  obtain ⟨c, hc⟩ : ∃ c, celP m (.mk ⟨3, p.length, ⟨#[]⟩, 0, 0⟩ [.mk ax al]) = c := ⟨_, rfl⟩
  rw [hc] at hcel ⊢
  clear hc hg
  have hno : ∀ (j : Nat) y, 1 ≤ j → p[j]? = some y → same (.mk ax al) y = false → (p.drop 1).all (fun a => same (.mk ax al) a) = false := fun j y h1 h2 h3 => dropP_no h1 h2 h3
  have hyes : (∀ (j : Nat) y, 1 ≤ j → p[j]? = some y → same (.mk ax al) y = true) → (p.drop 1).all (fun a => same (.mk ax al) a) = true := fun h => dropP_all (fun j y h1 h2 => h j y h1 h2)
  obtain ⟨R, hR⟩ : ∃ R, (p.drop 1).all (fun a => same (.mk ax al) a) = R := ⟨_, rfl⟩
  rw [hR] at hyes ⊢
  simp only [hR] at hno
  clear hR
  have wl : IntKind.i64.wrap ((p.length : Nat) : Int) = (p.length : Nat) := i64i _ (by omega) (by omega)
  obtain ⟨mx, ml⟩ := m
  refine row_of Try.func95 rfl rfl (Nat.le_of_ble_eq_true rfl) ?_
  repeat (first | refine aw_seq ?_ | refine aw_skip ?_ | refine aw_block ?_ | refine aw_exit ?_ | refine aw_cond rfl (fun _ => ?_) (fun hb => absurd hb (by decide)) | refine aw_cond rfl (fun hb => absurd hb (by decide)) (fun _ => ?_) | (refine aw_reg (fun K hK => ?_); simp -implicitDefEqProofs; refine hK _ ?_) | (refine aw_drw mixd (fun K hK => ?_); simp -implicitDefEqProofs; refine hK _ _ (by rfl) ?_) | fail)
  refine aw_lp (ι := Nat) (fun k => mkSt [(0, .v (.c (.ptr 0 0))), (2, fnK 1), (4, .v (.c (.ptr 2 0))), (6, .v (.c (.ptr 3 0))), (7, vB false), (8, vI (k : Nat))] [some (bxW (.mk mx ml) L 0 0), some (bxK p), some (.box (ta (.mk x l))), some (.box (ta z0T))]) (fun k => 1 ≤ k ∧ k ≤ p.length ∧ ∀ (j : Nat) y, 1 ≤ j → j < k → p[j]? = some y → same (.mk ax al) y = true) (fun k => p.length - k) 1 ⟨Nat.le_refl _, by omega, fun j y h1 h2 => by omega⟩ (cov_intro [0, 1, 2, 3] (by simp -implicitDefEqProofs) (by simp -implicitDefEqProofs) (by decide) rfl (by simp)) (fun Z hI k hk => ?_)
  obtain ⟨hk1, hk, hz⟩ := hk
  by_cases hkl : k < p.length; rotate_left
  · have : k = p.length := by omega
    subst this
    have hR := hyes (fun j y g1 g2 => hz j y g1 (List.getElem?_eq_some_iff.1 g2).1 g2)
    subst hR
    clear hyes hno
    by_cases c0 : c = 0
    · repeat' (first | refine aw_seq ?_ | refine aw_skip ?_ | refine aw_block ?_ | refine aw_exit ?_ | refine aw_cond rfl (fun _ => ?_) (fun hb => absurd hb (by decide)) | refine aw_cond rfl (fun hb => absurd hb (by decide)) (fun _ => ?_) | (refine aw_reg (fun K hK => ?_); simp -implicitDefEqProofs [hlp, c0, wl]) | (refine aw_drw mixd (fun K hK => ?_); simp -implicitDefEqProofs [hlp, c0, wl]) | refine hK _ ?_ | refine hK _ _ (by rfl) ?_ | (refine ar_call (cb h0 1 ?_); simp -implicitDefEqProofs [hlp, c0, wl]) | (refine ard_call (db h0 1 ?_); simp -implicitDefEqProofs [hlp, c0, wl]) | (refine ar_call (cp hcel ?_); simp -implicitDefEqProofs [hlp, c0, wl]) | (refine ard_call (dp hcel ?_); simp -implicitDefEqProofs [hlp, c0, wl]) | (refine ar_call (cb hfl 0 ?_); simp -implicitDefEqProofs [hlp, c0, wl]) | (refine ard_call (db hfl 0 ?_); simp -implicitDefEqProofs [hlp, c0, wl]) | fail)
      refine aw_ret (fin_box2 ?_); simp -implicitDefEqProofs [FinB2, resV, resT, c0] <;> try rfl
    · repeat' (first | refine aw_seq ?_ | refine aw_skip ?_ | refine aw_block ?_ | refine aw_exit ?_ | refine aw_cond rfl (fun _ => ?_) (fun hb => absurd hb (by decide)) | refine aw_cond rfl (fun hb => absurd hb (by decide)) (fun _ => ?_) | (refine aw_reg (fun K hK => ?_); simp -implicitDefEqProofs [hlp, c0, wl]) | (refine aw_drw mixd (fun K hK => ?_); simp -implicitDefEqProofs [hlp, c0, wl]) | refine hK _ ?_ | refine hK _ _ (by rfl) ?_ | (refine ar_call (cb h0 1 ?_); simp -implicitDefEqProofs [hlp, c0, wl]) | (refine ard_call (db h0 1 ?_); simp -implicitDefEqProofs [hlp, c0, wl]) | (refine ar_call (cp hcel ?_); simp -implicitDefEqProofs [hlp, c0, wl]) | (refine ard_call (dp hcel ?_); simp -implicitDefEqProofs [hlp, c0, wl]) | fail)
      refine aw_ret (fin_box2 ?_); simp -implicitDefEqProofs [FinB2, resV, resT, c0] <;> try rfl
  have hkl' : ((k : Nat) : Int) < (p.length : Nat) := by omega
  obtain ⟨⟨bx, bl⟩, hb⟩ : ∃ a, p[k]? = some a := ⟨_, List.getElem?_eq_getElem hkl⟩
  have hkp := kpart_row p k bx bl hb
  have w2 : IntKind.i64.wrap ((k : Nat) + 1 : Int) = (k : Nat) + 1 := i64i _ (by omega) (by omega)
  have hs := tsame_row (.mk ax al) (by omega) (.mk bx bl) (by have := (hp _ (List.mem_of_getElem? hb)).2; omega)
  obtain ⟨q, hq⟩ : ∃ q, same (.mk ax al) (.mk bx bl) = q := ⟨_, rfl⟩
  rw [hq] at hs
  cases q with
  | true =>
    clear hyes hno
    repeat' (first | refine aw_seq ?_ | refine aw_skip ?_ | refine aw_block ?_ | refine aw_exit ?_ | refine aw_cond rfl (fun _ => ?_) (fun hb => absurd hb (by decide)) | refine aw_cond rfl (fun hb => absurd hb (by decide)) (fun _ => ?_) | (refine aw_reg (fun K hK => ?_); simp -implicitDefEqProofs [hlp, hkl, hkl', w2]) | (refine aw_drw mixd (fun K hK => ?_); simp -implicitDefEqProofs [hlp, hkl, hkl', w2]) | refine hK _ ?_ | refine hK _ _ (by rfl) ?_ | (refine ar_call (cb h0 1 ?_); simp -implicitDefEqProofs [hlp, hkl, hkl', w2]) | (refine ard_call (db h0 1 ?_); simp -implicitDefEqProofs [hlp, hkl, hkl', w2]) | (refine ar_call (cb hkp 1 ?_); simp -implicitDefEqProofs [hlp, hkl, hkl', w2]) | (refine ard_call (db hkp 1 ?_); simp -implicitDefEqProofs [hlp, hkl, hkl', w2]) | (refine ar_call (cp hs ?_); simp -implicitDefEqProofs [hlp, hkl, hkl', w2]) | (refine ard_call (dp hs ?_); simp -implicitDefEqProofs [hlp, hkl, hkl', w2]) | fail)
    refine ⟨k + 1, ⟨by omega, by omega, fun j y g1 g2 g3 => ?_⟩, (by dsimp only; omega), ?_⟩
    · by_cases hj : j = k
      · subst hj; rw [hb] at g3; cases g3; exact hq
      · exact hz j y g1 (by omega) g3
    · rw [hI]; exact cov_intro [0, 1, 2, 3] (by simp -implicitDefEqProofs) (by simp -implicitDefEqProofs) (by decide) rfl (by simp)
  | false =>
    have hR := hno k _ hk1 hb hq
    subst hR
    clear hyes hno
    repeat' (first | refine aw_seq ?_ | refine aw_skip ?_ | refine aw_block ?_ | refine aw_exit ?_ | refine aw_cond rfl (fun _ => ?_) (fun hb => absurd hb (by decide)) | refine aw_cond rfl (fun hb => absurd hb (by decide)) (fun _ => ?_) | (refine aw_reg (fun K hK => ?_); simp -implicitDefEqProofs [hlp, hkl, hkl']) | (refine aw_drw mixd (fun K hK => ?_); simp -implicitDefEqProofs [hlp, hkl, hkl']) | refine hK _ ?_ | refine hK _ _ (by rfl) ?_ | (refine ar_call (cb h0 1 ?_); simp -implicitDefEqProofs [hlp, hkl, hkl']) | (refine ard_call (db h0 1 ?_); simp -implicitDefEqProofs [hlp, hkl, hkl']) | (refine ar_call (cb hkp 1 ?_); simp -implicitDefEqProofs [hlp, hkl, hkl']) | (refine ard_call (db hkp 1 ?_); simp -implicitDefEqProofs [hlp, hkl, hkl']) | (refine ar_call (cp hs ?_); simp -implicitDefEqProofs [hlp, hkl, hkl']) | (refine ard_call (dp hs ?_); simp -implicitDefEqProofs [hlp, hkl, hkl']) | fail)
    refine aw_ret (fin_box2 ?_); simp -implicitDefEqProofs [FinB2, resV, resT] <;> try rfl
end Go.Proofs.Ytjjnboenehomgaa.am
end
