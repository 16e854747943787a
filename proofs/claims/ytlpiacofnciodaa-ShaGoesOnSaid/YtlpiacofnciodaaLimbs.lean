/-
  Plain arithmetic of great numbers in parts of 16 bits, the lowest first.
-/
import Derived.Test.YtlpiacofnciodaaRows
namespace Go.Proofs.Ytlpiacofnciodaa.rs

def val : List Int → Int
  | [] => 0
  | a :: l => a + 65536 * val l
def Limbs (l : List Int) : Prop := ∀ a ∈ l, 0 ≤ a ∧ a < 65536

theorem pow_pos16 (i : Nat) : (0 : Int) < 65536 ^ i := Int.pow_pos (by omega)

theorem val_append : ∀ (l r : List Int), val (l ++ r) = val l + 65536 ^ l.length * val r
  | [], r => by simp [val]
  | a :: l, r => by
    simp only [List.cons_append, val, val_append l r, List.length_cons, Int.pow_succ]
    rw [Int.mul_add, ← Int.mul_assoc, Int.mul_comm 65536 (65536 ^ l.length)]
    omega

theorem val_bd : ∀ (l : List Int), Limbs l → 0 ≤ val l ∧ val l < 65536 ^ l.length
  | [], _ => by simp [val]
  | a :: l, h => by
    have h1 := h a (by simp)
    have h2 := val_bd l (fun x hx => h x (by simp [hx]))
    simp only [val, List.length_cons, Int.pow_succ]
    omega

theorem limbs_append {l r : List Int} (h : Limbs l) (k : Limbs r) : Limbs (l ++ r) := fun x hx => (List.mem_append.1 hx).elim (h x) (k x)
theorem limbs_one {a : Int} (h : 0 ≤ a ∧ a < 65536) : Limbs [a] := by intro x hx; simp at hx; subst hx; exact h

/-- One more part of a product. -/
theorem times_step (out l : List Int) (i : Nat) (x over a : Int) (ho : out.length = i) (h : val out + 65536 ^ i * over = val (l.take i) * x) (hi : i < l.length) (ha : l.getD i 0 = a) :
    val (out ++ [(a * x + over) % 65536]) + 65536 ^ (i + 1) * ((a * x + over) / 65536) = val (l.take (i + 1)) * x := by
  have e : l.take (i + 1) = l.take i ++ [a] := by
    rw [List.take_add_one, List.getElem?_eq_getElem hi, ← ha, List.getD_eq_getElem?_getD, List.getElem?_eq_getElem hi]; rfl
  have hv : (a * x + over) % 65536 + 65536 * ((a * x + over) / 65536) = a * x + over := by omega
  rw [e, val_append, val_append, ho, List.length_take, Nat.min_eq_left (by omega)]
  simp only [val, Int.mul_zero, Int.add_zero]
  rw [Int.pow_succ, Int.add_mul, ← h, Int.mul_assoc (65536 ^ i) 65536, Int.mul_assoc (65536 ^ i) a]
  have : 65536 ^ i * ((a * x + over) % 65536) + 65536 ^ i * (65536 * ((a * x + over) / 65536)) = 65536 ^ i * (a * x) + 65536 ^ i * over := by
    rw [← Int.mul_add, hv, Int.mul_add]
  omega

/-- One part more of what is over. -/
theorem over_step (out : List Int) (i : Nat) (over v : Int) (ho : out.length = i) (h : val out + 65536 ^ i * over = v) :
    val (out ++ [over % 65536]) + 65536 ^ (i + 1) * (over / 65536) = v := by
  rw [val_append, ho]
  simp only [val, Int.mul_zero, Int.add_zero]
  rw [Int.pow_succ, Int.mul_assoc (65536 ^ i) 65536, ← h]
  have hv : over % 65536 + 65536 * (over / 65536) = over := by omega
  have : 65536 ^ i * (over % 65536) + 65536 ^ i * (65536 * (over / 65536)) = 65536 ^ i * over := by rw [← Int.mul_add, hv]
  omega

theorem val_zeros (l : List Int) (k : Nat) : val (l ++ List.replicate k 0) = val l := by
  rw [val_append]
  have : ∀ j, val (List.replicate j 0) = 0 := by
    intro j
    induction j with
    | zero => rfl
    | succ j ih => rw [List.replicate_succ]; simp [val, ih]
  rw [this]
  omega

theorem val_split (l : List Int) (i : Nat) (hi : i < l.length) : val l = val (l.take i) + 65536 ^ i * (l.getD i 0 + 65536 * val (l.drop (i + 1))) := by
  conv => lhs; rw [← List.take_append_drop i l]
  rw [val_append, List.length_take, Nat.min_eq_left (by omega), List.drop_eq_getElem_cons hi]
  simp only [val]
  rw [List.getD_eq_getElem?_getD, List.getElem?_eq_getElem hi]
  rfl

/-- Two numbers whose parts above i are the same ones are held against each other by the parts i, if they differ. -/
theorem cmp_at (a b : List Int) (i : Nat) (ha : Limbs a) (hb : Limbs b) (ia : i < a.length) (ib : i < b.length) (hd : a.drop (i + 1) = b.drop (i + 1)) (hne : a.getD i 0 ≠ b.getD i 0) :
    (val a ≤ val b) ↔ a.getD i 0 < b.getD i 0 := by
  have h1 := val_split a i ia
  have h2 := val_split b i ib
  have b1 := val_bd (a.take i) (fun x hx => ha x (List.mem_of_mem_take hx))
  have b2 := val_bd (b.take i) (fun x hx => hb x (List.mem_of_mem_take hx))
  rw [List.length_take, Nat.min_eq_left (by omega)] at b1 b2
  have hp := pow_pos16 i
  rw [hd] at h1
  generalize a.getD i 0 = x at *
  generalize b.getD i 0 = y at *
  generalize val (b.drop (i + 1)) = t at *
  rw [Int.mul_add] at h1 h2
  generalize (65536 : Int) ^ i * (65536 * t) = T at *
  generalize (65536 : Int) ^ i = P at *
  constructor
  · intro h
    apply Classical.byContradiction
    intro hn
    have hx : y + 1 ≤ x := by omega
    have := Int.mul_le_mul_of_nonneg_left hx (Int.le_of_lt hp)
    rw [Int.mul_add, Int.mul_one] at this
    omega
  · intro h
    have hx : x + 1 ≤ y := by omega
    have := Int.mul_le_mul_of_nonneg_left hx (Int.le_of_lt hp)
    rw [Int.mul_add, Int.mul_one] at this
    omega

theorem drop_eq_pred {a b : List Int} {i : Nat} (ia : i < a.length) (ib : i < b.length) (hd : a.drop (i + 1) = b.drop (i + 1)) (he : a.getD i 0 = b.getD i 0) : a.drop i = b.drop i := by
  rw [List.drop_eq_getElem_cons ia, List.drop_eq_getElem_cons ib, hd]
  rw [List.getD_eq_getElem?_getD, List.getElem?_eq_getElem ia, List.getD_eq_getElem?_getD, List.getElem?_eq_getElem ib] at he
  simp only [Option.getD_some] at he
  rw [he]

end Go.Proofs.Ytlpiacofnciodaa.rs
