/-
  Layer 5: Digits, Spell; LexSpells.
-/
import Derived.Test.YtlfhdjlgjekcpaaDoorLexLike
import Derived.Test.YtlfhdjlgjekcpaaDoorLexReads
import Derived.Test.YtlfhdjlgjekcpaaDoorLexROne
import Derived.Deep.RegionHeld3
import Derived.Lib.AppendIntMem
namespace Go.Proofs.YtlfhdjlgjekcpaaDoor.lx
open Go.ChangeShapes Go.WideShapes Go.ChangeAt Go.RowKit
open bs
set_option linter.unusedVariables false

def StP (v : ByteArray) (w : World) (e : Ending) (w' : World) : Prop := e = .returned (.string v) ∧ Below w.heap.size w w'

theorem digits_any (n : Int) (w : World) (hG : Gl w) (h0 : -9223372036854775808 ≤ n) (h1 : n ≤ 9223372036854775807) : Calls Tryd.prog 14 #[.int .i64 n] w (StP (numT n) w) := by
  have HC := Lib.hid (Tryd.strconv_FormatInt_10 n h0 h1 w hG.tab)
  clear hG
  go_enter Tryd.func14, Tryd.ntmps14
  go_wp2_with fail
  refine (HC.out).mono ?_
  rintro e w' ⟨rfl, k, os, rfl⟩
  have HB := Lib.hid (Lib.below_grow w.heap.size w (Nat.le_refl _) k os)
  generalize Go.Sort.grow (w.drewN k) os = W at HB ⊢
  go_wp2
  go_ret
  exact ⟨rfl, HB.out⟩

theorem spell_1 {x : Tk} (h : x.k = 1 ∨ x.k = 3 ∨ x.k = 4) : spell x = x.s := by unfold spell; rw [if_pos h]
theorem spell_2 {x : Tk} (h : x.k = 2) : spell x = numT x.n := by unfold spell; rw [if_neg (by omega), if_pos h]
theorem spell_3 {x : Tk} (h : ¬ (x.k = 1 ∨ x.k = 3 ∨ x.k = 4)) (h2 : ¬ x.k = 2) : spell x = ⟨#[]⟩ := by unfold spell; rw [if_neg h, if_neg h2]

set_option maxRecDepth 100000 in
set_option maxHeartbeats 2000000 in
theorem spell_any (x : Tk) (w : World) (hG : Gl w) (h0 : -9223372036854775808 ≤ x.n) (h1 : x.n ≤ 9223372036854775807) : Calls Tryd.prog 11 #[.agg #[.int .i64 x.k, .int .i64 x.n, .string x.s, .int .i64 x.f, .int .i64 x.t]] w (StP (spell x) w) := by
  have HW := Lib.hid (below_alloc w (.cells #[.int .i64 x.k, .int .i64 x.n, .string x.s, .int .i64 x.f, .int .i64 x.t] 31))
  have HK : Hid (KB (w.alloc (.cells #[.int .i64 x.k, .int .i64 x.n, .string x.s, .int .i64 x.f, .int .i64 x.t] 31)) w.heap.size x) := kb_new w x
  have HG := Lib.hid (hG.below HW.out)
  clear hG
  have fin : ∀ v, spell x = v → ∀ w', Below w.heap.size w w' → StP (spell x) w (.returned (.string v)) w' := fun v hv w' hb => ⟨by rw [hv], hb⟩
  have FIN := Lib.hid fin
  clear fin
  by_cases e1 : x.k = 1
  · have HE : Hid (spell x = x.s) := Lib.hid (spell_1 (.inl e1))
    have d1 : (x.k == 1) = true := beq_iff_eq.2 e1
    clear e1
    go_enter Tryd.func11, Tryd.ntmps11
    go_wp2
    go_ret
    exact FIN.out x.s HE.out _ HW.out
  · have d1 : (x.k == 1) = false := beq_eq_false_iff_ne.2 e1
    by_cases e3 : x.k = 3
    · have HE : Hid (spell x = x.s) := Lib.hid (spell_1 (.inr (.inl e3)))
      have d3 : (x.k == 3) = true := beq_iff_eq.2 e3
      clear e1 e3
      go_enter Tryd.func11, Tryd.ntmps11
      go_wp2
      go_ret
      exact FIN.out x.s HE.out _ HW.out
    · have d3 : (x.k == 3) = false := beq_eq_false_iff_ne.2 e3
      by_cases e4 : x.k = 4
      · have HE : Hid (spell x = x.s) := Lib.hid (spell_1 (.inr (.inr e4)))
        have d4 : (x.k == 4) = true := beq_iff_eq.2 e4
        clear e1 e3 e4
        go_enter Tryd.func11, Tryd.ntmps11
        go_wp2
        go_ret
        exact FIN.out x.s HE.out _ HW.out
      · have d4 : (x.k == 4) = false := beq_eq_false_iff_ne.2 e4
        by_cases e2 : x.k = 2
        · have HE : Hid (spell x = numT x.n) := Lib.hid (spell_2 e2)
          have d2 : (x.k == 2) = true := beq_iff_eq.2 e2
          clear e1 e3 e4 e2
          go_enter Tryd.func11, Tryd.ntmps11
          go_wp2_with fail
          refine (digits_any x.n _ HG.out h0 h1).mono ?_
          rintro e w' ⟨rfl, hb⟩
          have HB := Lib.hid (HW.out.trans (hb.mono HW.out.size))
          clear hb
          go_wp2
          go_ret
          exact FIN.out (numT x.n) HE.out _ HB.out
        · have d2 : (x.k == 2) = false := beq_eq_false_iff_ne.2 e2
          have HE : Hid (spell x = ⟨#[]⟩) := Lib.hid (spell_3 (by omega) e2)
          clear e1 e3 e4 e2
          go_enter Tryd.func11, Tryd.ntmps11
          go_wp2
          go_ret
          exact FIN.out ⟨#[]⟩ HE.out _ HW.out

/-- The tokens that stand from a place on. -/
inductive Ch (s : ByteArray) : Nat → List Tk → Prop where
  | fin (i : Nat) (h : s.size ≤ nx s i) : Ch s i [tkEnd s]
  | step (i j : Nat) (x : Tk) (L : List Tk) (h : nx s i < s.size) (ho : on s (nx s i) = (x, 0)) (ht : x.t = (j : Int)) (h' : Ch s j L) : Ch s i (x :: L)
theorem ch_of (s : ByteArray) : ∀ (n i m : Nat) (L : List Tk), s.size - i ≤ n → i ≤ s.size → toks s i = (L, m, 0) → Ch s i L := by
  intro n
  induction n with
  | zero =>
    intro i m L hn hi h
    have hnx := nx_le hi
    have e := app_end (s := s) (i := i) (L := []) (by omega)
    rw [app_nil, h] at e
    have := (Prod.mk.inj e).1
    rw [this]
    exact .fin i (by omega)
  | succ n ih =>
    intro i m L hn hi h
    have hnx := nx_le hi
    by_cases h1 : nx s i < s.size
    · by_cases h2 : (on s (nx s i)).2 = 0
      · obtain ⟨hf, j, ht, hj1, hj2⟩ := on_to h1 h2
        have e := app_step (s := s) (i := i) (L := []) h1 hi h2
        rw [app_nil, h, ht] at e
        have ej : ((j : Int)).toNat = j := rfl
        rw [ej] at e
        rcases hr : toks s j with ⟨L', m', z⟩
        rw [hr] at e
        unfold app at e
        by_cases hz : z = 0
        · subst hz
          rw [if_pos rfl] at e
          have e1 := (Prod.mk.inj e).1
          rw [e1]
          refine .step i j _ L' h1 ?_ ht (ih j m' L' (by omega) hj2 hr)
          rw [← h2]
        · rw [if_neg hz] at e
          have e2 := (Prod.mk.inj (Prod.mk.inj e).2).2
          exact absurd e2.symm hz
      · have e := app_err (s := s) (i := i) (L := []) h1 hi h2
        rw [app_nil, h] at e
        have e2 := (Prod.mk.inj (Prod.mk.inj e).2).2
        exact absurd e2.symm h2
    · have e := app_end (s := s) (i := i) (L := []) (by omega)
      rw [app_nil, h] at e
      have := (Prod.mk.inj e).1
      rw [this]
      exact .fin i (by omega)
theorem ch_last {s : ByteArray} {i : Nat} {L : List Tk} (h : Ch s i L) : ∃ M, L = M ++ [tkEnd s] := by
  induction h with
  | fin i h => exact ⟨[], rfl⟩
  | step i j x L h ho ht h' ih =>
    obtain ⟨M, hM⟩ := ih
    exact ⟨x :: M, by rw [hM]; rfl⟩
/-- A token's number. -/
theorem on_num {s : ByteArray} {i : Nat} {x : Tk} (hi : i < s.size) (h : on s i = (x, 0)) : -9223372036854775808 ≤ x.n ∧ x.n ≤ 9223372036854775807 := by
  rcases Bool.eq_false_or_eq_true (isL (B s i)) with hL | hL
  · by_cases h2 : 16 < run isN s i - i
    · rw [tk_long hL h2] at h; cases h
    · rw [tk_name hL h2] at h
      rw [← (Prod.mk.inj h).1]
      exact ⟨by show (-9223372036854775808 : Int) ≤ 0; omega, by show (0 : Int) ≤ 9223372036854775807; omega⟩
  · rcases Bool.eq_false_or_eq_true (isD (B s i)) with hD | hD
    · rcases hn : num (s.extract i (run isD s i)) with _ | n
      · rw [tk_nonum hL hD hn] at h; cases h
      · rw [tk_number hL hD hn] at h
        rw [← (Prod.mk.inj h).1]
        have := num_spell (dig_cut (by omega)) hn
        exact ⟨by show _ ≤ n; omega, by show n ≤ _; omega⟩
    · by_cases h0 : sgN s i = 0
      · rw [tk_none hL hD h0] at h; cases h
      · rw [tk_sign hL hD h0] at h
        rw [← (Prod.mk.inj h).1]
        exact ⟨by show (-9223372036854775808 : Int) ≤ 0; omega, by show (0 : Int) ≤ 9223372036854775807; omega⟩
theorem empty_of' {s : ByteArray} (h : s.size = 0) : s = ⟨#[]⟩ := by
  apply ByteArray.ext
  exact Array.eq_empty_of_size_eq_zero h
/-- The first of them. -/
theorem ch_at {s : ByteArray} {p : Nat} {x : Tk} {M : List Tk} (h : Ch s p (x :: M)) (hp : p ≤ s.size) : ∃ i j : Nat, x.f = (i : Int) ∧ x.t = (j : Int) ∧ p ≤ i ∧ i ≤ j ∧ j ≤ s.size ∧ s.extract i j = spell x ∧ -9223372036854775808 ≤ x.n ∧ x.n ≤ 9223372036854775807 ∧ (M = [] ∨ Ch s j M) := by
  cases h with
  | fin _ h =>
    refine ⟨s.size, s.size, rfl, rfl, hp, Nat.le_refl _, Nat.le_refl _, ?_, by show (-9223372036854775808 : Int) ≤ 0; omega, by show (0 : Int) ≤ 9223372036854775807; omega, .inl rfl⟩
    rw [spell_3 (by show ¬ ((5 : Int) = 1 ∨ (5 : Int) = 3 ∨ (5 : Int) = 4); decide) (by show ¬ ((5 : Int) = 2); decide)]
    exact empty_of' (by rw [size_cut _ _ _ (Nat.le_refl _) (Nat.le_refl _)]; omega)
  | step _ j _ _ h ho ht h' =>
    obtain ⟨j', hf, ht', hij, hj, hsp⟩ := on_spell h ho
    have hn := on_num h ho
    have hnx := nx_le hp
    have : j' = j := by rw [ht] at ht'; omega
    subst this
    exact ⟨nx s p, j', hf, ht, hnx.1, by omega, hj, hsp, hn.1, hn.2, .inr h'⟩
end Go.Proofs.YtlfhdjlgjekcpaaDoor.lx
