/-
  Layer 5, pure: the tokens of a text. No program is named here.
-/
import Derived.Test.YtlfhdjlgjekcpaaDoorLexOn
namespace Go.Proofs.YtlfhdjlgjekcpaaDoor.lx
open Go.ChangeShapes Go.WideShapes Go.ChangeAt Go.RowKit
open bs
set_option linter.unusedVariables false

/-- Where a token ends. -/
theorem on_to {s : ByteArray} {i : Nat} (hi : i < s.size) (h : (on s i).2 = 0) : (on s i).1.f = (i : Int) ∧ ∃ j : Nat, (on s i).1.t = (j : Int) ∧ i < j ∧ j ≤ s.size := by
  rcases Bool.eq_false_or_eq_true (isL (B s i)) with hL | hL
  · by_cases h2 : 16 < run isN s i - i
    · rw [tk_long hL h2] at h; cases h
    · rw [tk_name hL h2]
      have h3 := run_bd isN s i (by omega)
      have h4 : i < run isN s i := by
        rw [run_yes hi (by unfold isN; rw [hL]; rfl)]
        have := run_bd isN s (i + 1) (by omega)
        omega
      exact ⟨rfl, _, rfl, h4, h3.2⟩
  · rcases Bool.eq_false_or_eq_true (isD (B s i)) with hD | hD
    · rcases hn : num (s.extract i (run isD s i)) with _ | n
      · rw [tk_nonum hL hD hn] at h; cases h
      · rw [tk_number hL hD hn]
        have h3 := run_bd isD s i (by omega)
        have h4 : i < run isD s i := by
          rw [run_yes hi hD]
          have := run_bd isD s (i + 1) (by omega)
          omega
        exact ⟨rfl, _, rfl, h4, h3.2⟩
    · by_cases h0 : sgN s i = 0
      · rw [tk_none hL hD h0] at h; cases h
      · rw [tk_sign hL hD h0]
        have := sg_le hi
        exact ⟨rfl, _, rfl, by omega, by omega⟩
def tkEnd (s : ByteArray) : Tk := ⟨5, 0, ⟨#[]⟩, s.size, s.size⟩

/-- The tokens from i on, or the place of what is wrong, and what. -/
def toks (s : ByteArray) (i : Nat) : List Tk × Nat × Int :=
  if h : nx s i < s.size ∧ i ≤ s.size then
    if h2 : (on s (nx s i)).2 = 0 then
      let r := toks s (on s (nx s i)).1.t.toNat
      if r.2.2 = 0 then ((on s (nx s i)).1 :: r.1, r.2) else r
    else ([], nx s i, (on s (nx s i)).2)
  else ([tkEnd s], 0, 0)
termination_by s.size - i
decreasing_by
  have h3 := nx_le h.2
  obtain ⟨_, j, h4, h5, h6⟩ := on_to h.1 h2
  rw [h4]
  omega
def app (L : List Tk) (r : List Tk × Nat × Int) : List Tk × Nat × Int := if r.2.2 = 0 then (L ++ r.1, r.2) else r
theorem app_nil (r : List Tk × Nat × Int) : app [] r = r := by unfold app; split <;> rfl
theorem app_end {s : ByteArray} {i : Nat} {L : List Tk} (h : s.size ≤ nx s i) : app L (toks s i) = (L ++ [tkEnd s], 0, 0) := by
  rw [toks, dif_neg (by omega)]
  rfl
theorem app_err {s : ByteArray} {i : Nat} {L : List Tk} (h : nx s i < s.size) (hi : i ≤ s.size) (h2 : ¬ (on s (nx s i)).2 = 0) : app L (toks s i) = ([], nx s i, (on s (nx s i)).2) := by
  rw [toks, dif_pos ⟨h, hi⟩, dif_neg h2]
  unfold app
  rw [if_neg h2]
theorem app_step {s : ByteArray} {i : Nat} {L : List Tk} (h : nx s i < s.size) (hi : i ≤ s.size) (h2 : (on s (nx s i)).2 = 0) : app L (toks s i) = app (L ++ [(on s (nx s i)).1]) (toks s (on s (nx s i)).1.t.toNat) := by
  rw [toks, dif_pos ⟨h, hi⟩, dif_pos h2]
  simp only
  unfold app
  by_cases h3 : (toks s (on s (nx s i)).1.t.toNat).2.2 = 0
  · rw [if_pos h3, if_pos h3, if_pos h3]
    simp
  · rw [if_neg h3, if_neg h3, if_neg h3]
theorem toks_nx {s : ByteArray} {i : Nat} (hi : i ≤ s.size) : toks s (nx s i) = toks s i := by
  have h1 := nx_le hi
  have e1 : app [] (toks s (nx s i)) = app [] (toks s i) := by
    by_cases h : nx s i < s.size
    · have h' : nx s (nx s i) < s.size := by rw [nx_idem hi]; exact h
      by_cases h2 : (on s (nx s i)).2 = 0
      · have h2' : (on s (nx s (nx s i))).2 = 0 := by rw [nx_idem hi]; exact h2
        rw [app_step h' h1.2 h2', app_step h hi h2, nx_idem hi]
      · have h2' : ¬ (on s (nx s (nx s i))).2 = 0 := by rw [nx_idem hi]; exact h2
        rw [app_err h' h1.2 h2', app_err h hi h2, nx_idem hi]
    · rw [app_end (by rw [nx_idem hi]; omega), app_end (by omega)]
  rwa [app_nil, app_nil] at e1
/-- All of a text. -/
def tokens (s : ByteArray) : List Tk × Nat × Int := if 8192 < s.size then ([], 0, 3) else toks s 0
end Go.Proofs.YtlfhdjlgjekcpaaDoor.lx
