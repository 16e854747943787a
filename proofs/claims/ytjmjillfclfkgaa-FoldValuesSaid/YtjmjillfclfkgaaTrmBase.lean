/-
  Layer 6: what walks over terms share.
-/
import Derived.Test.YtjmjillfclfkgaaTrmTree
import Derived.Test.YtjmjillfclfkgaaTreesPut
import Derived.Test.YtjmjillfclfkgaaTexts
import Derived.WalkKit
import Derived.Deep.RegionHeld3
import Derived.StillTailTactics
import Derived.Lib.Hide
namespace Go.Proofs.Ytjmjillfclfkgaa.te
open Go.ChangeShapes Go.WideShapes Go.ChangeAt Go.RowKit
open bs tr
set_option linter.unusedVariables false

/-- A term, of whose labels K is looked at. -/
noncomputable def key (K : Lab → Lab) (t : VT) : VT := Tr.fold (fun x _ b => .mk (K x) b) t
theorem key_mk (K : Lab → Lab) (x : Lab) (l : List VT) : key K (.mk x l) = .mk (K x) (l.map (key K)) := Tr.fold_mk _ x l
theorem key_id (t : VT) : key id t = t := by
  induction t using Tr.ind with
  | h x l ih =>
    rw [key_mk]
    congr 1
    have h : l.map (key id) = l.map id := List.map_congr_left ih
    rw [h, List.map_id]
/-- Without places. -/
def noPl (x : Lab) : Lab := ⟨x.k, x.n, x.s, 0, 0⟩

/-- What is said of two terms. -/
def SPk (K : Lab → Lab) (a b : VT) (w : World) (e : Ending) (w' : World) : Prop := ∃ r : Bool, e = .returned (.bool r) ∧ (r = true ↔ key K a = key K b) ∧ Below w.heap.size w w'
def SP (a b : VT) (w : World) (e : Ending) (w' : World) : Prop := ∃ r : Bool, e = .returned (.bool r) ∧ (r = true ↔ a = b) ∧ Below w.heap.size w w'

theorem same_lists {α : Type} {a b : List α} {n : Nat} (ha : a.length = n) (hb : b.length = n) (h : ∀ j, j < n → a[j]? = b[j]?) : a = b := by
  apply List.ext_getElem?
  intro j
  rcases Nat.lt_or_ge j n with hj | hj
  · exact h j hj
  · rw [List.getElem?_eq_none (by omega), List.getElem?_eq_none (by omega)]

theorem recs_at {α : Type} {size : Nat} {E : World → Nat → Nat → α → Prop} {w : World} {a n c} {l : List α} (h : Recs size E w a n c l) {k : Nat} (hk : k < n) : ∃ b off x, a = some ⟨b, off, none⟩ ∧ b < w.heap.size ∧ l[k]? = some x ∧ E w b (off + k * size) x := by
  obtain ⟨x, hx⟩ := Recs.lt h k hk
  obtain ⟨b, off, ha, hb, he⟩ := Recs.one h k x hx
  exact ⟨b, off, x, ha, hb, hx, he⟩

end Go.Proofs.Ytjmjillfclfkgaa.te
