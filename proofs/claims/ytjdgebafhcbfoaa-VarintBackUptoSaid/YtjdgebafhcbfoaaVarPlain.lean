/-
  Plain arithmetic of layer 1: the bytes of a number, and the number of bytes.
-/
import Derived.Test.YtjdgebafhcbfoaaBytes
namespace Go.Proofs.Ytjdgebafhcbfoaa.vs
open Go.ChangeShapes Go.WideShapes Go.ChangeAt Go.RowKit

def encF : Nat → Int → List Int
  | 0, v => [v]
  | k + 1, v => if v < 128 then [v] else (v % 128 + 128) :: encF k (v / 128)
theorem encF_succ (k : Nat) (v : Int) : encF (k + 1) v = if v < 128 then [v] else (v % 128 + 128) :: encF k (v / 128) := rfl
/-- The bytes of a number. -/
def enc (v : Int) : List Int := encF 9 v

/-- What is read from the group i on, v being what is read so far: the number, the number of bytes up to its end, what is wrong. -/
def grp (i : Nat) (v : Int) : List Int → Int × Nat × Int
  | [] => (0, 0, 1)
  | c :: r =>
    if (i = 9 ∧ c ≠ 1) ∨ (0 < i ∧ c = 0) then (0, 0, 2)
    else if c < 128 then (v + c % 128 * 128 ^ i, i + 1, 0)
    else grp (i + 1) (v + c % 128 * 128 ^ i) r

theorem encF_bytes : ∀ (k : Nat) (v : Int), 0 ≤ v → v < 2 * 128 ^ k → bs.AllB (encF k v)
  | 0, v, h0, h1 => by intro n hn; simp [encF] at hn; subst hn; simp at h1; omega
  | k + 1, v, h0, h1 => by
    intro n hn
    unfold encF at hn
    split at hn
    · simp at hn; subst hn; omega
    · rcases List.mem_cons.1 hn with rfl | hn
      · omega
      · refine encF_bytes k (v / 128) (by omega) ?_ n hn
        rw [Int.pow_succ] at h1
        omega

theorem encF_len : ∀ (k : Nat) (v : Int), 1 ≤ (encF k v).length ∧ (encF k v).length ≤ k + 1
  | 0, v => by simp [encF]
  | k + 1, v => by
    unfold encF
    have := encF_len k (v / 128)
    split
    · simp
    · simp; omega

theorem enc_bytes (v : Int) (h0 : 0 ≤ v) (h1 : v ≤ 18446744073709551615) : bs.AllB (enc v) := encF_bytes 9 v h0 (by omega)

theorem pow_pos' (i : Nat) : (0 : Int) < 128 ^ i := Int.pow_pos (by omega)

/-- What was written is read. -/
theorem grp_encF : ∀ (k i : Nat) (v V : Int) (r : List Int), i + k = 9 → 0 ≤ V → V < 2 * 128 ^ k → (0 < i → V ≠ 0) → grp i v (encF k V ++ r) = (v + V * 128 ^ i, i + (encF k V).length, 0)
  | 0, i, v, V, r, hi, h0, h1, h2 => by
    simp at h1
    have : V = 1 := by have := h2 (by omega); omega
    subst this
    have hi9 : i = 9 := by omega
    subst hi9
    simp [encF, grp]
  | k + 1, i, v, V, r, hi, h0, h1, h2 => by
    unfold encF
    split
    · rename_i hV
      simp only [List.cons_append, List.nil_append, grp]
      rw [if_neg (by rintro (⟨h, _⟩ | ⟨h, h'⟩); · omega
                     · exact h2 h h'), if_pos hV, Int.emod_eq_of_lt h0 hV]
      simp
    · rename_i hV
      simp only [List.cons_append, grp]
      rw [if_neg (by omega), if_neg (by omega)]
      have ih := grp_encF k (i + 1) (v + (V % 128 + 128) % 128 * 128 ^ i) (V / 128) r (by omega) (by omega) (by rw [Int.pow_succ] at h1; omega) (by omega)
      rw [ih]
      refine Prod.mk.injEq _ _ _ _ ▸ ⟨?_, ?_⟩
      · rw [show (V % 128 + 128) % 128 = V % 128 by omega, Int.pow_succ]
        have e : V = V % 128 + V / 128 * 128 := by omega
        have e2 : V * 128 ^ i = V % 128 * 128 ^ i + V / 128 * (128 ^ i * 128) := by
          conv => lhs; rw [e]
          rw [Int.add_mul, Int.mul_assoc, Int.mul_comm 128 (128 ^ i)]
        rw [e2]; omega
      · simp; omega

theorem grp_enc (V : Int) (r : List Int) (h0 : 0 ≤ V) (h1 : V ≤ 18446744073709551615) : grp 0 0 (enc V ++ r) = (V, (enc V).length, 0) := by
  have := grp_encF 9 0 0 V r (by omega) h0 (by omega) (by omega)
  simpa [enc] using this

/-- What is read was written so. -/
theorem grp_ok : ∀ (l : List Int) (i : Nat) (v n : Int) (t : Nat), i ≤ 9 → bs.AllB l → grp i v l = (n, t, 0) →
    ∃ V, 0 ≤ V ∧ V < 2 * 128 ^ (9 - i) ∧ n = v + V * 128 ^ i ∧ (0 < i → V ≠ 0) ∧ t = i + (encF (9 - i) V).length ∧ l.take (encF (9 - i) V).length = encF (9 - i) V ∧ (encF (9 - i) V).length ≤ l.length
  | [], i, v, n, t, hi, hl, h => by simp [grp] at h
  | c :: r, i, v, n, t, hi, hl, h => by
    have hc := hl c (by simp)
    unfold grp at h
    split at h
    · simp at h
    · rename_i hf
      have hf1 : i = 9 → c = 1 := fun e => Classical.byContradiction fun x => hf (.inl ⟨e, x⟩)
      have hf2 : 0 < i → c ≠ 0 := fun e x => hf (.inr ⟨e, x⟩)
      split at h
      · rename_i h128
        simp only [Prod.mk.injEq, and_true] at h
        obtain ⟨rfl, rfl⟩ := h
        have hb : c < 2 * 128 ^ (9 - i) := by
          by_cases e : i = 9
          · have := hf1 e; subst e; simp; omega
          · have : (128 : Int) ≤ 128 ^ (9 - i) := by
              obtain ⟨j, hj⟩ : ∃ j, 9 - i = j + 1 := ⟨8 - i, by omega⟩
              rw [hj, Int.pow_succ]
              have := pow_pos' j
              omega
            omega
        have he : encF (9 - i) c = [c] := by
          cases hj : 9 - i with
          | zero => rfl
          | succ j => unfold encF; rw [if_pos h128]
        exact ⟨c, hc.1, hb, by rw [Int.emod_eq_of_lt hc.1 h128], hf2, by rw [he]; rfl, by rw [he]; rfl, by rw [he]; simp⟩
      · rename_i h128
        have hi9 : i ≠ 9 := fun e => by have := hf1 e; omega
        obtain ⟨V, V0, V1, rfl, V2, rfl, V3, V4⟩ := grp_ok r (i + 1) _ n t (by omega) (fun x hx => hl x (by simp [hx])) h
        have hV := V2 (by omega)
        refine ⟨V * 128 + c % 128, by omega, ?_, ?_, by omega, ?_, ?_, ?_⟩
        · obtain ⟨j, hj⟩ : ∃ j, 9 - i = j + 1 := ⟨8 - i, by omega⟩
          rw [show 9 - (i + 1) = j by omega] at V1
          rw [hj, Int.pow_succ]
          omega
        · rw [Int.pow_succ, Int.add_mul, Int.mul_assoc V 128, Int.mul_comm 128 (128 ^ i)]
          omega
        all_goals
          obtain ⟨j, hj⟩ : ∃ j, 9 - i = j + 1 := ⟨8 - i, by omega⟩
          rw [show 9 - (i + 1) = j by omega] at *
          have he : encF (9 - i) (V * 128 + c % 128) = c :: encF j V := by
            rw [hj, encF_succ, if_neg (by omega), show (V * 128 + c % 128) / 128 = V by omega, show (V * 128 + c % 128) % 128 + 128 = c by omega]
          rw [he]
        · simp; omega
        · simp [V3]
        · simp; omega

theorem grp_err : ∀ (l : List Int) (i : Nat) (v n : Int) (t : Nat) (e : Int), grp i v l = (n, t, e) → e = 0 ∨ (n = 0 ∧ t = 0 ∧ (e = 1 ∨ e = 2))
  | [], i, v, n, t, e, h => by simp [grp] at h; omega
  | c :: r, i, v, n, t, e, h => by
    unfold grp at h
    split at h
    · simp at h; omega
    · split at h
      · simp at h; omega
      · exact grp_err r _ _ n t e h

end Go.Proofs.Ytjdgebafhcbfoaa.vs
