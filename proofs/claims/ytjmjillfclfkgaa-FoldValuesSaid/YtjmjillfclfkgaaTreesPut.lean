/-
  Trees: what is put at a path is there, and all else as it was. No program is named here.
-/
import Derived.Test.YtjmjillfclfkgaaTrees
namespace Go.Proofs.Ytjmjillfclfkgaa.tr
set_option linter.unusedVariables false
namespace Tr
variable {α : Type}
theorem at_nil (t : Tr α) : at' t [] = some t := by cases t; rfl
theorem at_cons (t : Tr α) (i : Int) (p : List Int) : at' t (i :: p) = if 0 ≤ i ∧ i < t.kids.length then (t.kids[i.toNat]?).bind fun y => at' y p else none := by cases t; rfl
theorem put_nil (t x : Tr α) : put t [] x = x := by cases t; rfl
theorem put_cons (t : Tr α) (i : Int) (p : List Int) (x : Tr α) : put t (i :: p) x = .mk t.lab (t.kids.modify i.toNat fun y => put y p x) := by cases t; rfl
/-- Where a path goes on. -/
theorem at_some {t : Tr α} {i : Int} {p : List Int} {u : Tr α} (h : at' t (i :: p) = some u) : ∃ (k : Nat) (y : Tr α), i = k ∧ k < t.kids.length ∧ t.kids[k]? = some y ∧ at' y p = some u := by
  rw [at_cons] at h
  by_cases hc : 0 ≤ i ∧ i < t.kids.length
  · rw [if_pos hc] at h
    obtain ⟨y, h1, h2⟩ := Option.bind_eq_some_iff.1 h
    exact ⟨i.toNat, y, by omega, by omega, h1, h2⟩
  · rw [if_neg hc] at h; cases h
theorem at_kid {t : Tr α} {k : Nat} {p : List Int} {y : Tr α} (h : t.kids[k]? = some y) : at' t ((k : Int) :: p) = at' y p := by
  have hk := (List.getElem?_eq_some_iff.1 h).1
  rw [at_cons, if_pos ⟨by omega, by omega⟩, Int.toNat_natCast, h]
  rfl
theorem at_put {x u : Tr α} (p : List Int) : ∀ {t : Tr α}, at' t p = some u → at' (put t p x) p = some x := by
  induction p with
  | nil => intro t h; rw [put_nil, at_nil]
  | cons i p ih =>
    intro t h
    obtain ⟨k, y, rfl, hk, hy, hu⟩ := at_some h
    rw [put_cons]
    rw [at_kid (y := put y p x) (by show ((t.kids.modify _ _))[_]? = _; simp [hy])]
    exact ih hu
theorem put_same {u : Tr α} (p : List Int) : ∀ {t : Tr α}, at' t p = some u → put t p u = t := by
  induction p with
  | nil => intro t h; rw [at_nil] at h; cases h; rw [put_nil]
  | cons i p ih =>
    intro t h
    obtain ⟨k, y, rfl, hk, hy, hu⟩ := at_some h
    rw [put_cons, Int.toNat_natCast]
    cases t with
    | mk z l =>
      simp only [kids, lab] at *
      congr 1
      apply List.ext_getElem?
      intro j
      rw [List.getElem?_modify]
      by_cases hj : k = j
      · subst hj; rw [hy]; simp [ih hu]
      · simp [hj]
theorem put_eq {x u : Tr α} {p : List Int} {t : Tr α} (h : at' t p = some u) : put t p x = t ↔ x = u := by
  constructor
  · intro he
    have h1 := at_put (x := x) p h
    rw [he, h] at h1
    exact (Option.some.inj h1).symm
  · rintro rfl; exact put_same p h
theorem sum_modify {f : Tr α → Nat} {g : Tr α → Tr α} : ∀ (l : List (Tr α)) (k : Nat) (y : Tr α), l[k]? = some y → ((l.modify k g).map f).sum + f y = (l.map f).sum + f (g y)
  | [], k, y, h => by simp at h
  | z :: l, 0, y, h => by simp at h; subst h; simp; omega
  | z :: l, k + 1, y, h => by
    have := sum_modify (f := f) (g := g) l k y (by simpa using h)
    simp at this ⊢; omega
theorem size_put {x u : Tr α} (p : List Int) : ∀ {t : Tr α}, at' t p = some u → size (put t p x) + size u = size t + size x := by
  induction p with
  | nil => intro t h; rw [at_nil] at h; cases h; rw [put_nil]; omega
  | cons i p ih =>
    intro t h
    obtain ⟨k, y, rfl, hk, hy, hu⟩ := at_some h
    rw [put_cons, Int.toNat_natCast]
    cases t with
    | mk z l =>
      simp only [kids, lab] at *
      rw [size_mk, size_mk]
      have h1 := sum_modify (f := size) (g := fun y => put y p x) l k y hy
      have h2 := ih hu
      omega
/-- Whether a path begins with another one. -/
theorem at_other {x u v : Tr α} (p : List Int) : ∀ {t : Tr α} (q : List Int), at' t p = some u → at' t q = some v → ¬ p <+: q → ¬ q <+: p → at' (put t p x) q = some v := by
  induction p with
  | nil => intro t q _ _ h; exact absurd List.nil_prefix h
  | cons i p ih =>
    intro t q h hq hn hn'
    obtain ⟨k, y, rfl, hk, hy, hu⟩ := at_some h
    cases q with
    | nil => exact absurd List.nil_prefix hn'
    | cons j q =>
      obtain ⟨m, z, rfl, hm, hz, hv⟩ := at_some hq
      rw [put_cons, Int.toNat_natCast]
      by_cases hkm : k = m
      · subst hkm
        rw [hy] at hz; cases hz
        rw [at_kid (y := put y p x) (by show ((t.kids.modify _ _))[_]? = _; simp [hy])]
        exact ih q hu hv (fun h => hn (List.cons_prefix_cons.2 ⟨rfl, h⟩)) (fun h => hn' (List.cons_prefix_cons.2 ⟨rfl, h⟩))
      · rw [at_kid (y := z) (by show ((t.kids.modify _ _))[_]? = _; rw [List.getElem?_modify, hz]; simp [hkm])]
        exact hv
theorem ext' {a b : Tr α} (h : a.lab = b.lab) (hk : a.kids = b.kids) : a = b := by cases a; cases b; simp_all [lab, kids]
theorem modify_getElem {l : List (Tr α)} {k : Nat} {y : Tr α} (h : l[k]? = some y) (g : Tr α → Tr α) : l.modify k g = l.set k (g y) := by
  apply List.ext_getElem?
  intro j
  rw [List.getElem?_modify, List.getElem?_set]
  have hk := (List.getElem?_eq_some_iff.1 h).1
  by_cases hj : k = j
  · subst hj; have h2 := (List.getElem?_eq_some_iff.1 h).2; simp [hk, h2]
  · simp [hj]
/-- How large the first k of some trees are. -/
noncomputable def sumk (l : List (Tr α)) (k : Nat) : Nat := ((l.take k).map size).sum
theorem sumk_zero (l : List (Tr α)) : sumk l 0 = 0 := by simp [sumk]
theorem sumk_succ {l : List (Tr α)} {k : Nat} {x : Tr α} (h : l[k]? = some x) : sumk l (k + 1) = sumk l k + size x := by
  unfold sumk
  rw [List.take_add_one, h]
  simp
theorem sumk_all {x : α} {l : List (Tr α)} {n : Nat} (h : l.length = n) : size (.mk x l) = 1 + sumk l n := by
  rw [size_mk, sumk, List.take_of_length_le (by omega)]
theorem len_size {x : α} {l : List (Tr α)} : l.length < size (.mk x l) := by
  rw [size_mk]
  have : l.length ≤ (l.map size).sum := by
    induction l with
    | nil => simp
    | cons y l ih => have := size_pos y; simp; omega
  omega
end Tr
end Go.Proofs.Ytjmjillfclfkgaa.tr
