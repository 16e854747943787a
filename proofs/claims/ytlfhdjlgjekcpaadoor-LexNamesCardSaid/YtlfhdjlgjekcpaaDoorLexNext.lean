/-
  Layer 5, pure: over blanks and comments. No program is named here.
-/
import Derived.Test.YtlfhdjlgjekcpaaDoorLexPlain
namespace Go.Proofs.YtlfhdjlgjekcpaaDoor.lx
open Go.ChangeShapes Go.WideShapes Go.ChangeAt Go.RowKit
open bs
set_option linter.unusedVariables false

theorem txt_cut (s : ByteArray) (i j : Nat) : txt (s.extract i j) = ((txt s).drop i).take (j - i) := by
  have e : (s.extract i j).data = s.data.extract i j := ByteArray.data_extract
  unfold txt
  rw [e, Array.toList_extract, List.extract_eq_take_drop, List.map_take, List.map_drop]
theorem b_cut {s : ByteArray} {i j k : Nat} (h : i + k < j) : B (s.extract i j) k = B s (i + k) := by
  unfold B
  rw [txt_cut, List.getD_eq_getElem?_getD, List.getD_eq_getElem?_getD, List.getElem?_take, if_pos (by omega), List.getElem?_drop]
theorem at_byte {s : ByteArray} {i : Nat} {v : ByteArray} (h : at' s i v = true) {j : Nat} (hj : j < v.size) : B v j = B s (i + j) := by
  have := (of_decide_eq_true h).2
  rw [← b_cut (s := s) (i := i) (j := i + v.size) (k := j) (by omega), this]

/-- The two strokes. -/
def cc : ByteArray := ⟨#[47, 47]⟩
theorem cc_at {s : ByteArray} {i : Nat} (h : at' s i cc = true) : i + 2 ≤ s.size ∧ B s i = 47 := by
  refine ⟨(of_decide_eq_true h).1, ?_⟩
  have := at_byte h (j := 0) (by decide)
  rw [Nat.add_zero] at this
  rw [← this]
  decide
theorem cc_run {s : ByteArray} {i : Nat} (h : at' s i cc = true) : i < run isC s i := by
  have h1 := cc_at h
  have h2 : isC (B s i) = true := by rw [h1.2]; decide
  rw [run_yes (by omega) h2]
  have := run_bd isC s (i + 1) (by omega)
  omega

/-- The place of the next token. -/
def nx (s : ByteArray) (i : Nat) : Nat :=
  if h : i < s.size then
    if isB (B s i) = true then nx s (i + 1)
    else if h2 : at' s i cc = true then nx s (run isC s i)
    else i
  else i
termination_by s.size - i
decreasing_by
  · omega
  · have := cc_run h2; omega
theorem nx_blank {s : ByteArray} {i : Nat} (h : i < s.size) (hb : isB (B s i) = true) : nx s i = nx s (i + 1) := by
  rw [nx, dif_pos h, if_pos hb]
theorem nx_comment {s : ByteArray} {i : Nat} (h : i < s.size) (hb : isB (B s i) = false) (hc : at' s i cc = true) : nx s i = nx s (run isC s i) := by
  rw [nx, dif_pos h, if_neg (by rw [hb]; decide), dif_pos hc]
theorem nx_stop {s : ByteArray} {i : Nat} (hb : isB (B s i) = false) (hc : at' s i cc = false) : nx s i = i := by
  rw [nx]
  split
  · rw [if_neg (by rw [hb]; decide), dif_neg (by rw [hc]; decide)]
  · rfl
theorem nx_end {s : ByteArray} {i : Nat} (h : s.size ≤ i) : nx s i = i := by
  rw [nx, dif_neg (by omega)]
theorem nx_bd (s : ByteArray) : ∀ (n i : Nat), s.size - i ≤ n → i ≤ s.size → i ≤ nx s i ∧ nx s i ≤ s.size := by
  intro n
  induction n with
  | zero =>
    intro i h h2
    rw [nx_end (by omega)]
    omega
  | succ n ih =>
    intro i h h2
    by_cases hi : i < s.size
    · rcases Bool.eq_false_or_eq_true (isB (B s i)) with hb | hb
      · rw [nx_blank hi hb]
        have := ih (i + 1) (by omega) (by omega)
        omega
      · rcases Bool.eq_false_or_eq_true (at' s i cc) with hc | hc
        · rw [nx_comment hi hb hc]
          have h3 := cc_run hc
          have h4 := run_bd isC s i (by omega)
          have := ih (run isC s i) (by omega) (by omega)
          omega
        · rw [nx_stop hb hc]
          omega
    · rw [nx_end (by omega)]
      omega
theorem nx_le {s : ByteArray} {i : Nat} (h : i ≤ s.size) : i ≤ nx s i ∧ nx s i ≤ s.size := nx_bd s _ i (Nat.le_refl _) h
/-- What stands there is neither blank nor comment. -/
theorem nx_at (s : ByteArray) : ∀ (n i : Nat), s.size - i ≤ n → nx s i < s.size → isB (B s (nx s i)) = false ∧ at' s (nx s i) cc = false := by
  intro n
  induction n with
  | zero =>
    intro i h h2
    rw [nx_end (by omega)] at h2
    omega
  | succ n ih =>
    intro i h h2
    by_cases hi : i < s.size
    · rcases Bool.eq_false_or_eq_true (isB (B s i)) with hb | hb
      · rw [nx_blank hi hb] at h2 ⊢
        exact ih (i + 1) (by omega) h2
      · rcases Bool.eq_false_or_eq_true (at' s i cc) with hc | hc
        · rw [nx_comment hi hb hc] at h2 ⊢
          have h3 := cc_run hc
          exact ih (run isC s i) (by omega) h2
        · rw [nx_stop hb hc]
          exact ⟨hb, hc⟩
    · rw [nx_end (by omega)] at h2
      omega
theorem nx_idem {s : ByteArray} {i : Nat} (h : i ≤ s.size) : nx s (nx s i) = nx s i := by
  have h1 := nx_le h
  rcases Nat.lt_or_ge (nx s i) s.size with h2 | h2
  · have h3 := nx_at s _ i (Nat.le_refl _) h2
    exact nx_stop h3.1 h3.2
  · exact nx_end h2
end Go.Proofs.YtlfhdjlgjekcpaaDoor.lx
