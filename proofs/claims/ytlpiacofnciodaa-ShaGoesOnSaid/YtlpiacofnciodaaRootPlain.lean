/-
  Plain arithmetic of layer 2: the search, bit by bit, for the greatest number that keeps below.
-/
import Derived.Test.YtlpiacofnciodaaRows
namespace Go.Proofs.Ytlpiacofnciodaa.rs

/-- The search: from x on, with k bits still to try. -/
def srch (B : Nat → Bool) : Nat → Nat → Nat
  | 0, x => x
  | k + 1, x => if B (x + 2 ^ k) then srch B k (x + 2 ^ k) else srch B k x

theorem srch_bd (B : Nat → Bool) : ∀ k x, x ≤ srch B k x ∧ srch B k x < x + 2 ^ k
  | 0, x => by simp [srch]
  | k + 1, x => by
    unfold srch
    have h1 := srch_bd B k (x + 2 ^ k)
    have h2 := srch_bd B k x
    rw [Nat.pow_succ]
    split <;> omega

theorem srch_ok (B : Nat → Bool) : ∀ k x, B x = true → B (x + 2 ^ k) = false → B (srch B k x) = true ∧ B (srch B k x + 1) = false
  | 0, x, h0, h1 => ⟨h0, h1⟩
  | k + 1, x, h0, h1 => by
    unfold srch
    split
    · rename_i h
      refine srch_ok B k _ h ?_
      rw [show x + 2 ^ k + 2 ^ k = x + 2 ^ (k + 1) by rw [Nat.pow_succ]; omega]
      exact h1
    · rename_i h
      exact srch_ok B k x h0 (by simpa using h)

/-- Two searches with the same answers below a bound come to the same. -/
theorem srch_congr (B C : Nat → Bool) (m : Nat) (h : ∀ y, y < m → B y = C y) : ∀ k x, x + 2 ^ k ≤ m → srch B k x = srch C k x
  | 0, x, _ => rfl
  | k + 1, x, hx => by
    have hp : 0 < 2 ^ k := Nat.two_pow_pos k
    rw [Nat.pow_succ] at hx
    unfold srch
    rw [h (x + 2 ^ k) (by omega), srch_congr B C m h k (x + 2 ^ k) (by omega), srch_congr B C m h k x (by omega)]

def clip (p : Int) : Nat := (min (max p 0) 65536).toNat
theorem clip_le (p : Int) : clip p ≤ 65536 := by unfold clip; omega
def sqB (n : Nat) (y : Nat) : Bool := decide (y * y ≤ n * 18446744073709551616)
def cuB (n : Nat) (y : Nat) : Bool := decide (y * y * y ≤ n * 79228162514264337593543950336)
/-- The roots. -/
def sq (p : Int) : Nat := srch (sqB (clip p)) 42 0
def cu (p : Int) : Nat := srch (cuB (clip p)) 42 0

theorem sq_ok (p : Int) : sq p * sq p ≤ clip p * 18446744073709551616 ∧ clip p * 18446744073709551616 < (sq p + 1) * (sq p + 1) ∧ sq p ≤ 1099511627776 := by
  have hc := clip_le p
  have h := srch_ok (sqB (clip p)) 42 0 (by simp [sqB]) (by simp [sqB]; omega)
  simp only [sqB, decide_eq_true_eq, decide_eq_false_iff_not, Nat.not_le] at h
  refine ⟨h.1, h.2, ?_⟩
  apply Classical.byContradiction
  intro hx
  have h2 : 1099511627777 * 1099511627777 ≤ sq p * sq p := Nat.mul_le_mul (by omega) (by omega)
  have := h.1
  unfold sq at h2
  omega

theorem mul3_le {a b : Nat} (h : a ≤ b) : a * a * a ≤ b * b * b := Nat.mul_le_mul (Nat.mul_le_mul h h) h

theorem cu_ok (p : Int) : cu p * cu p * cu p ≤ clip p * 79228162514264337593543950336 ∧ clip p * 79228162514264337593543950336 < (cu p + 1) * (cu p + 1) * (cu p + 1) ∧ cu p ≤ 274877906944 := by
  have hc := clip_le p
  have h := srch_ok (cuB (clip p)) 42 0 (by simp [cuB]) (by simp [cuB]; omega)
  simp only [cuB, decide_eq_true_eq, decide_eq_false_iff_not, Nat.not_le] at h
  refine ⟨h.1, h.2, ?_⟩
  apply Classical.byContradiction
  intro hx
  have h2 : 274877906945 * 274877906945 * 274877906945 ≤ cu p * cu p * cu p := mul3_le (by omega)
  have := h.1
  unfold cu at h2
  omega

theorem sq_four : sq 4 = 8589934592 := by decide +kernel
theorem cu_eight : cu 8 = 8589934592 := by decide +kernel

/-- What the program asks, and what the search asks. -/
theorem below_iff (P n : Nat) : (P / 18446744073709551616 < n ∨ P / 18446744073709551616 = n ∧ P % 18446744073709551616 = 0) ↔ P ≤ n * 18446744073709551616 := by omega

end Go.Proofs.Ytlpiacofnciodaa.rs
