/-
  Plain facts on small primes.
-/
import Derived.Test.YtlpiacofnciodaaRows
namespace Go.Proofs.Ytlpiacofnciodaa.rs
set_option linter.unusedVariables false

/-- Is a number divided by none from 2 on, below itself? (By definition, for small ones.) -/
def isP (n : Nat) : Bool := decide (2 ≤ n) && (List.range n).all fun d => decide (d < 2) || n % d != 0
/-- The primes below p, as the program gathers them. -/
def pl : Nat → List Int
  | 0 => []
  | p + 1 => if isP p then pl p ++ [(p : Int)] else pl p
theorem pl_add (p : Nat) : pl (p + 1) = if isP p then pl p ++ [(p : Int)] else pl p := rfl
/-- Is a number divided by none of a list? -/
def noneOf (p : Int) (l : List Int) : Bool := l.all fun q => p % q != 0
/-- The document's trial. -/
def trial (n : Nat) : Nat → Nat → Bool
  | 0, _ => true
  | f + 1, k => if n < k * k then true else if n % k = 0 then false else trial n f (k + 1)

theorem pl_all : ∀ p : Fin 600, 2 ≤ p.val → noneOf (p.val : Int) (pl p.val) = isP p.val := by decide +kernel
theorem trial_all : ∀ p : Fin 600, 2 ≤ p.val → trial p.val 30 2 = isP p.val := by decide +kernel
theorem pl_542 : (pl 542).length = 100 := by decide +kernel
theorem pl_3 : (pl 6).length = 3 := by decide +kernel

theorem pl_mono (p : Nat) : ∀ k, (pl p).length ≤ (pl (p + k)).length
  | 0 => Nat.le_refl _
  | k + 1 => by
    have h := pl_mono p k
    rw [← Nat.add_assoc, pl_add]
    split
    · simp; omega
    · exact h
theorem pl_lt {p : Nat} (h : (pl p).length < 100) : p < 542 := by
  apply Classical.byContradiction
  intro hn
  have h2 := pl_mono 542 (p - 542)
  rw [show 542 + (p - 542) = p by omega, pl_542] at h2
  omega
theorem pl_bd (p : Nat) : ∀ q ∈ pl p, 2 ≤ q ∧ q < p := by
  induction p with
  | zero => intro q hq; simp [pl] at hq
  | succ k ih =>
    intro q hq
    rw [pl_add] at hq
    split at hq
    · rename_i h
      rcases List.mem_append.1 hq with h1 | h1
      · have := ih q h1; omega
      · simp at h1
        subst h1
        have : 2 ≤ k := by unfold isP at h; simp at h; exact h.1
        omega
    · have := ih q hq; omega
theorem pl_prefix (p : Nat) : ∀ k, ∃ r, pl (p + k) = pl p ++ r
  | 0 => ⟨[], by simp⟩
  | k + 1 => by
    obtain ⟨r, hr⟩ := pl_prefix p k
    rw [← Nat.add_assoc, pl_add]
    split
    · exact ⟨r ++ [((p + k : Nat) : Int)], by rw [hr, List.append_assoc]⟩
    · exact ⟨r, hr⟩
/-- Lists of as many primes are the same one. -/
theorem pl_eq {p q : Nat} (h : (pl p).length = (pl q).length) : pl p = pl q := by
  rcases Nat.le_total p q with hpq | hpq
  · obtain ⟨r, hr⟩ := pl_prefix p (q - p)
    rw [show p + (q - p) = q by omega] at hr
    rw [hr, List.length_append] at h
    have : r = [] := List.eq_nil_of_length_eq_zero (by omega)
    rw [hr, this, List.append_nil]
  · obtain ⟨r, hr⟩ := pl_prefix q (p - q)
    rw [show q + (p - q) = p by omega] at hr
    rw [hr, List.length_append] at h
    have : r = [] := List.eq_nil_of_length_eq_zero (by omega)
    rw [hr, this, List.append_nil]
theorem pl_succ (p : Nat) (b : Bool) (h : isP p = b) : pl (p + 1) = if b then pl p ++ [(p : Int)] else pl p := by subst h; rfl


end Go.Proofs.Ytlpiacofnciodaa.rs
