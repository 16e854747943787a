/-
  Texts as lists of numbers; the leading places at which something holds. No program is named here.
-/
import Derived.Test.YtlkggpjdaaglmaaDoorOwn
namespace Go.Proofs.YtlkggpjdaaglmaaDoor.bs
open Go.ChangeShapes Go.WideShapes Go.ChangeAt Go.RowKit
set_option linter.unusedVariables false

/-- A text's bytes. -/
def txt (p : ByteArray) : List Int := p.data.toList.map fun b => (b.toNat : Int)
theorem txt_len (p : ByteArray) : (txt p).length = p.size := by rw [txt, List.length_map, Array.length_toList]; rfl
theorem txt_at (p : ByteArray) (i : Nat) (h : i < p.size) : ((p[i]).toNat : Int) = (txt p).getD i 0 := by
  have h' : i < p.data.toList.length := by rw [Array.length_toList]; exact h
  rw [txt, List.getD_eq_getElem?_getD, List.getElem?_map, List.getElem?_eq_getElem h']
  rfl
theorem txt_inj {p q : ByteArray} (h : txt p = txt q) : p = q := by
  have h1 : p.data.toList = q.data.toList := by
    have inj : ∀ (l m : List UInt8), l.map (fun b => (b.toNat : Int)) = m.map (fun b => (b.toNat : Int)) → l = m := by
      intro l
      induction l with
      | nil => intro m hm; cases m with
        | nil => rfl
        | cons => simp at hm
      | cons a l ih => intro m hm; cases m with
        | nil => simp at hm
        | cons b m =>
          simp only [List.map_cons, List.cons.injEq] at hm
          have hb : a = b := UInt8.toNat_inj.1 (by omega)
          rw [hb, ih m hm.2]
    exact inj _ _ h
  cases p; cases q
  simp only [ByteArray.mk.injEq]
  exact Array.toList_inj.1 h1

theorem text_beq (p q : ByteArray) : (p == q) = decide (p = q) := by
  cases p with | mk a => cases q with | mk b =>
  have e : ((ByteArray.mk a == ByteArray.mk b) : Bool) = (a == b) := rfl
  rw [e]
  by_cases h : a = b
  · subst h; simp
  · have : ¬ (ByteArray.mk a = ByteArray.mk b) := fun x => h (by cases x; rfl)
    rw [decide_eq_false this, beq_eq_false_iff_ne]
    exact h

theorem text_eq (p q : ByteArray) : (p.toList == q.toList) = decide (p = q) := by
  rw [ByteArray.toList_eq, ByteArray.toList_eq]
  by_cases h : p = q
  · subst h; simp
  · rw [decide_eq_false h, beq_eq_false_iff_ne]
    intro x
    refine h (txt_inj ?_)
    unfold txt
    rw [x]

/-- How many leading places, below n, something holds at. -/
def lead (e : Nat → Bool) : Nat → Nat → Nat
  | 0, i => i
  | k + 1, i => if e i then lead e k (i + 1) else i
theorem lead_bd (e : Nat → Bool) : ∀ k i, i ≤ lead e k i ∧ lead e k i ≤ i + k
  | 0, i => by simp [lead]
  | k + 1, i => by
    unfold lead
    have := lead_bd e k (i + 1)
    split <;> omega
theorem lead_all (e : Nat → Bool) : ∀ k i j, i ≤ j → j < lead e k i → e j = true
  | 0, i, j, h1, h2 => by simp [lead] at h2; omega
  | k + 1, i, j, h1, h2 => by
    unfold lead at h2
    split at h2
    · rename_i h
      rcases Nat.eq_or_lt_of_le h1 with rfl | h3
      · exact h
      · exact lead_all e k (i + 1) j h3 h2
    · omega
theorem lead_stop (e : Nat → Bool) : ∀ k i, lead e k i < i + k → e (lead e k i) = false
  | 0, i, h => by simp [lead] at h
  | k + 1, i, h => by
    unfold lead at h ⊢
    split
    · rename_i he
      rw [if_pos he] at h
      exact lead_stop e k (i + 1) (by omega)
    · rename_i he
      simpa using he
theorem lead_yes (e : Nat → Bool) (k i : Nat) (h : e i = true) : lead e (k + 1) i = lead e k (i + 1) := by
  show (if e i then lead e k (i + 1) else i) = _
  rw [if_pos h]
theorem lead_no (e : Nat → Bool) (k i : Nat) (h : e i = false) : lead e k i = i := by
  cases k with
  | zero => rfl
  | succ k => show (if e i then lead e k (i + 1) else i) = _; rw [h]; rfl
theorem lead_congr (e f : Nat → Bool) : ∀ k i, (∀ j, i ≤ j → j < i + k → e j = f j) → lead e k i = lead f k i
  | 0, i, _ => rfl
  | k + 1, i, h => by
    show (if e i then lead e k (i + 1) else i) = (if f i then lead f k (i + 1) else i)
    rw [h i (Nat.le_refl _) (by omega), lead_congr e f k (i + 1) (fun j h1 h2 => h j (by omega) (by omega))]
end Go.Proofs.YtlkggpjdaaglmaaDoor.bs
