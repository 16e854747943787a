/-
  Layer 6: the paths of a term, a term ahead of its parts (pure).
-/
import Derived.Test.YtbpjaidfpacbfaaTrmDepth
namespace Go.Proofs.Ytbpjaidfpacbfaa.te
open Go.ChangeShapes Go.WideShapes Go.ChangeAt Go.RowKit
open bs tr
set_option linter.unusedVariables false

noncomputable def pt (t : VT) : List (List Int) := Tr.fold (fun _ _ bs => [] :: (bs.mapIdx fun i b => b.map (fun p => (i : Int) :: p)).flatten) t
/-- Those of the first k parts. -/
noncomputable def pk (l : List VT) (k : Nat) : List (List Int) := ((l.mapIdx fun i y => (pt y).map (fun p => (i : Int) :: p)).take k).flatten
theorem pk_zero (l : List VT) : pk l 0 = [] := rfl
theorem pk_succ {l : List VT} {k : Nat} {y : VT} (h : l[k]? = some y) : pk l (k + 1) = pk l k ++ (pt y).map (fun p => (k : Int) :: p) := by
  unfold pk
  rw [List.take_add_one, List.getElem?_mapIdx, h]
  simp
theorem pt_mk (x : Lab) (l : List VT) {m : Nat} (h : l.length = m) : pt (.mk x l) = [] :: pk l m := by
  have e : pk l m = (l.mapIdx fun i y => (pt y).map (fun p => (i : Int) :: p)).flatten := by
    unfold pk
    rw [List.take_of_length_le (by rw [List.length_mapIdx]; omega)]
  rw [e]
  show Tr.fold _ (.mk x l) = _
  rw [Tr.fold_mk]
  congr 2
  apply List.ext_getElem?
  intro i
  rw [List.getElem?_mapIdx, List.getElem?_mapIdx, List.getElem?_map]
  cases l[i]? <;> rfl
/-- A part's paths from a path on. -/
theorem pt_on (p : List Int) (k : Int) (L : List (List Int)) : L.map (fun q => (p ++ [k]) ++ q) = (L.map (fun q => k :: q)).map (fun q => p ++ q) := by
  rw [List.map_map]
  apply List.map_congr_left
  intro q _
  simp
theorem pk_len (l : List VT) (ih : ∀ y ∈ l, (pt y).length = y.size) : ∀ k, k ≤ l.length → (pk l k).length = Tr.sumk l k := by
  intro k
  induction k with
  | zero => intro _; rw [pk_zero, Tr.sumk_zero]; rfl
  | succ k hk =>
    intro h
    have hy : l[k]? = some (l[k]'(by omega)) := List.getElem?_eq_getElem _
    rw [pk_succ hy, Tr.sumk_succ hy, List.length_append, hk (by omega), List.length_map, ih _ (List.getElem_mem _)]
theorem pt_len (t : VT) : (pt t).length = t.size := by
  induction t using Tr.ind with
  | h x l ih =>
    rw [pt_mk x l rfl, List.length_cons, pk_len l ih _ (Nat.le_refl _)]
    have h : Tr.size (Tr.mk x l) = 1 + Tr.sumk l l.length := Tr.sumk_all rfl
    omega
end Go.Proofs.Ytbpjaidfpacbfaa.te
