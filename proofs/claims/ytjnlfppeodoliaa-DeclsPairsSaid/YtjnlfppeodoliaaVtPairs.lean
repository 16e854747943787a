/-
  Layer 32: which declaration becomes which: plain. No program is named here.
-/
import Derived.Test.YtjnlfppeodoliaaVtDecl
namespace Go.Proofs.Ytjnlfppeodoliaa.vt
open Go.Proofs.Ytjnlfppeodoliaa.am
set_option linter.unusedVariables false
/-- The pairs of the first ones that go somewhere. -/
def prK (l : List Int) : Nat → List (Int × Int)
  | 0 => []
  | k + 1 => prK l k ++ (match l[k]? with | some z => if z < 0 then [] else [((k : Int), z)] | none => [])
theorem prK_len (l : List Int) : ∀ k, (prK l k).length ≤ k
  | 0 => by simp [prK]
  | k + 1 => by
    have := prK_len l k
    unfold prK
    rw [List.length_append]
    split
    · split <;> simp <;> omega
    · simp; omega
theorem prK_yes {l : List Int} {k : Nat} {z : Int} (h : l[k]? = some z) (h0 : 0 ≤ z) : prK l (k + 1) = prK l k ++ [((k : Int), z)] := by
  conv => lhs; unfold prK
  rw [h]; dsimp only; rw [if_neg (by omega)]
theorem prK_no {l : List Int} {k : Nat} {z : Int} (h : l[k]? = some z) (h0 : z < 0) : prK l (k + 1) = prK l k := by
  conv => lhs; unfold prK
  rw [h]; dsimp only; rw [if_pos h0, List.append_nil]
/-- Where each declaration goes. -/
def goT (rule : Int) (nums : List Int) (n : Nat) : List Int := if rule = 50 then invN nums n else if rule = 51 then lessI (nums.getD 0 0) n else lessI (n : Int) n
/-- Does the rule make something, as far as its numbers tell? -/
def okG (rule : Int) (nums : List Int) (n : Nat) : Prop := (rule = 50 → isOrd nums = true ∧ nums.length = n) ∧ (rule = 51 → ∃ z : Int, nums = [z] ∧ 0 ≤ z ∧ z < n)
theorem lessI_at (i : Int) {n k : Nat} (h : k < n) : (lessI i n)[k]? = some (if (k : Int) < i then (k : Int) else if (k : Int) = i then -1 else (k : Int) - 1) := by
  simp [lessI, List.getElem?_range h]
end Go.Proofs.Ytjnlfppeodoliaa.vt
