/-
  Layer 5, pure: letters, digits and blanks; places in a text. No program is named here.
-/
import Derived.Test.YtlfhdjlgjekcpaaDoorTexts
namespace Go.Proofs.YtlfhdjlgjekcpaaDoor.lx
open Go.ChangeShapes Go.WideShapes Go.ChangeAt Go.RowKit
open bs
set_option linter.unusedVariables false

def isL (c : Int) : Bool := decide ((65 ≤ c ∧ c ≤ 90) ∨ (97 ≤ c ∧ c ≤ 122) ∨ c = 95)
def isD (c : Int) : Bool := decide (48 ≤ c ∧ c ≤ 57)
def isB (c : Int) : Bool := decide (c = 32 ∨ c = 9 ∨ c = 10 ∨ c = 13)
def isN (c : Int) : Bool := isL c || isD c
def isC (c : Int) : Bool := decide (c ≠ 10)
/-- A byte. -/
def B (s : ByteArray) (i : Nat) : Int := (txt s).getD i 0
theorem b_bd (s : ByteArray) (i : Nat) : 0 ≤ B s i ∧ B s i ≤ 255 := by
  unfold B
  rw [List.getD_eq_getElem?_getD]
  rcases h : (txt s)[i]? with _ | y
  · simp
  · have hm := List.mem_of_getElem? h
    rw [txt, List.mem_map] at hm
    obtain ⟨b, _, rfl⟩ := hm
    have := b.toNat_lt
    simp
    omega
theorem b_at (s : ByteArray) (i : Nat) (h : i < s.size) : ((s[i]).toNat : Int) = B s i := txt_at s i h

/-- The place behind the bytes from i on at which p holds. -/
def run (p : Int → Bool) (s : ByteArray) (i : Nat) : Nat := lead (fun j => p (B s j)) (s.size - i) i
theorem run_bd (p : Int → Bool) (s : ByteArray) (i : Nat) (h : i ≤ s.size) : i ≤ run p s i ∧ run p s i ≤ s.size := by
  have := lead_bd (fun j => p (B s j)) (s.size - i) i
  unfold run
  omega
theorem run_yes {p : Int → Bool} {s : ByteArray} {i : Nat} (h : i < s.size) (hp : p (B s i) = true) : run p s i = run p s (i + 1) := by
  unfold run
  rw [show s.size - i = (s.size - (i + 1)) + 1 by omega]
  exact lead_yes (fun j => p (B s j)) _ _ hp
theorem run_no {p : Int → Bool} {s : ByteArray} {i : Nat} (hp : p (B s i) = false) : run p s i = i := lead_no (fun j => p (B s j)) _ _ hp
theorem run_end {p : Int → Bool} {s : ByteArray} {i : Nat} (h : s.size ≤ i) : run p s i = i := by
  unfold run
  rw [show s.size - i = 0 by omega]
  rfl
theorem run_all {p : Int → Bool} {s : ByteArray} {i j : Nat} (h1 : i ≤ j) (h2 : j < run p s i) : p (B s j) = true := lead_all (fun j => p (B s j)) _ _ _ h1 h2
theorem run_stop {p : Int → Bool} {s : ByteArray} {i : Nat} (hi : i ≤ s.size) (h : run p s i < s.size) : p (B s (run p s i)) = false := lead_stop (fun j => p (B s j)) _ _ (by unfold run at h; omega)

/-- Does w stand at i? -/
def at' (s : ByteArray) (i : Nat) (w : ByteArray) : Bool := decide (i + w.size ≤ s.size ∧ s.extract i (i + w.size) = w)
end Go.Proofs.YtlfhdjlgjekcpaaDoor.lx
