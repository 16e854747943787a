/-
  Layer 14: what a term moved is: plain. No program is named here.
-/
import Derived.Test.YtjmjillfclfkgaaVt
namespace Go.Proofs.Ytjmjillfclfkgaa.vt
open Go.Proofs.Ytjmjillfclfkgaa.am
set_option linter.unusedVariables false

section
variable {α : Type}
noncomputable def Tr.sumk (l : List (Tr α)) (k : Nat) : Nat := ((l.take k).map Tr.size).sum
theorem Tr.sumk_zero (l : List (Tr α))  : Tr.sumk l 0 = 0 := by simp [Tr.sumk]
theorem Tr.sumk_succ {l : List (Tr α)} {k : Nat} {x : Tr α} (h : l[k]? = some x) : Tr.sumk l (k + 1) = Tr.sumk l k + Tr.size x := by
  unfold Tr.sumk
  rw [List.take_add_one, h]
  simp
theorem Tr.sumk_all {x : α} {l : List (Tr α)} {n : Nat} (h : l.length = n) : Tr.size (.mk x l) = 1 + Tr.sumk l n := by
  rw [Tr.size_mk, sumk, List.take_of_length_le (by omega)]
end
def brB (t : VT) : Bool := decide (t.lab.k = 20) || decide (t.lab.k = 21)
def brC (l : List VT) (k : Nat) : Nat := ((l.take k).filter brB).length
theorem brC_zero (l : List VT) : brC l 0 = 0 := by simp [brC]
theorem brC_succ {l : List VT} {k : Nat} {x : VT} (h : l[k]? = some x) : brC l (k + 1) = brC l k + (if brB x = true then 1 else 0) := by
  unfold brC
  rw [List.take_add_one, h]
  by_cases hb : brB x = true
  · simp [hb]
  · simp [hb]
theorem brC_le (l : List VT) (k : Nat) : brC l k ≤ l.length := by
  unfold brC
  exact Nat.le_trans (List.length_filter_le _ _) (by rw [List.length_take]; omega)
def fst (l : List VT) : Nat := match l with | [] => 0 | y :: _ => y.kids.length
def inn (x : Lab) (l : List VT) (i : Int) : Nat := if i < 0 ∨ (l.length : Int) ≤ i then 0 else if x.k = 29 then brC l i.toNat else if x.k = 25 ∧ i = 2 then 1 else if x.k = 33 ∧ i = 2 then fst l else 0
def outr (n d : Int) : Int := if n < d then -1 else n - d
/-- A label moved. -/
def mv (by' fr : Int) (x : Lab) (d : Int) : Lab := if x.k = 7 ∧ fr ≤ outr x.n d then ⟨x.k, IntKind.i64.wrap (x.n + by'), x.s, x.f, x.t⟩ else x
def ls (by' fr : Int) (x : Lab) (d : Int) : Bool := decide (x.k = 7 ∧ fr ≤ outr x.n d ∧ outr x.n d < fr - by')
/-- A term moved, from a depth on. -/
noncomputable def sh (by' fr : Int) (t : VT) : Int → VT := Tr.fold (fun x l bs d => if x.k = 7 then .mk (mv by' fr x d) l else .mk x (bs.mapIdx fun i f => f (d + (inn x l i : Nat)))) t
noncomputable def kidS (by' fr : Int) (x : Lab) (l : List VT) (d : Int) : List VT := l.mapIdx fun i y => sh by' fr y (d + (inn x l i : Nat))
theorem sh_mk (by' fr : Int) (x : Lab) (l : List VT) (d : Int) : sh by' fr (.mk x l) d = if x.k = 7 then .mk (mv by' fr x d) l else .mk x (kidS by' fr x l d) := by
  unfold sh kidS
  rw [Tr.fold_mk]
  split
  · rfl
  · congr 1
    apply List.ext_getElem?
    intro i
    simp [sh, List.getElem?_mapIdx]
    rfl
/-- Would one be lost? -/
noncomputable def lo (by' fr : Int) (t : VT) : Int → Bool := Tr.fold (fun x l bs d => if x.k = 7 then ls by' fr x d else (bs.mapIdx fun i f => f (d + (inn x l i : Nat))).any id) t
noncomputable def kidL (by' fr : Int) (x : Lab) (l : List VT) (d : Int) : List Bool := l.mapIdx fun i y => lo by' fr y (d + (inn x l i : Nat))
theorem lo_mk (by' fr : Int) (x : Lab) (l : List VT) (d : Int) : lo by' fr (.mk x l) d = if x.k = 7 then ls by' fr x d else (kidL by' fr x l d).any id := by
  unfold lo kidL
  rw [Tr.fold_mk]
  split
  · rfl
  · congr 1
    apply List.ext_getElem?
    intro i
    simp [lo, List.getElem?_mapIdx]
    rfl
theorem kidS_at {by' fr : Int} {x : Lab} {l : List VT} {d : Int} {k : Nat} {y : VT} (h : l[k]? = some y) : (kidS by' fr x l d)[k]? = some (sh by' fr y (d + (inn x l k : Nat))) := by
  unfold kidS; rw [List.getElem?_mapIdx, h]; rfl
theorem kidL_at {by' fr : Int} {x : Lab} {l : List VT} {d : Int} {k : Nat} {y : VT} (h : l[k]? = some y) : (kidL by' fr x l d)[k]? = some (lo by' fr y (d + (inn x l k : Nat))) := by
  unfold kidL; rw [List.getElem?_mapIdx, h]; rfl
theorem kidS_len (by' fr : Int) (x : Lab) (l : List VT) (d : Int) : (kidS by' fr x l d).length = l.length := by unfold kidS; rw [List.length_mapIdx]
theorem kidL_len (by' fr : Int) (x : Lab) (l : List VT) (d : Int) : (kidL by' fr x l d).length = l.length := by unfold kidL; rw [List.length_mapIdx]
theorem any_succ {L : List Bool} {k : Nat} {b : Bool} (h : L[k]? = some b) : (L.take (k + 1)).any id = ((L.take k).any id || b) := by
  rw [List.take_add_one, h]; simp
theorem inn_block {x : Lab} {l : List VT} {k : Nat} (h : x.k = 29) (hk : k < l.length) : inn x l (k : Nat) = brC l k := by
  rw [inn, if_neg (by omega), if_pos h, Int.toNat_natCast]

theorem sumk_le {l : List VT} {k j : Nat} (h : k ≤ j) : Tr.sumk l k ≤ Tr.sumk l j := by
  unfold Tr.sumk
  have : l.take j = l.take k ++ (l.take j).drop k := by
    have h1 := (List.take_append_drop k (l.take j)).symm
    rwa [List.take_take, Nat.min_eq_left h] at h1
  rw [this, List.map_append, List.sum_append]
  omega
theorem le_sumk (l : List VT) (k : Nat) (h : k ≤ l.length) : k ≤ Tr.sumk l k := by
  induction k with
  | zero => exact Nat.zero_le _
  | succ k ih =>
    have hk : l[k]? = some (l[k]'(by omega)) := List.getElem?_eq_getElem _
    rw [Tr.sumk_succ hk]
    have := Tr.size_pos (l[k]'(by omega))
    have := ih (by omega)
    omega
theorem brC_le_k (l : List VT) (k : Nat) : brC l k ≤ k := by
  unfold brC
  exact Nat.le_trans (List.length_filter_le _ _) (by rw [List.length_take]; omega)
theorem inn_size {x : Lab} {l : List VT} {k : Nat} {y : VT} (h : l[k]? = some y) : inn x l (k : Nat) + y.size < Tr.size (Tr.mk x l) := by
  have hk := (List.getElem?_eq_some_iff.1 h).1
  have h1 : Tr.size (Tr.mk x l) = 1 + Tr.sumk l l.length := Tr.sumk_all rfl
  have h2 := Tr.sumk_succ h
  have h3 := sumk_le (l := l) (show k + 1 ≤ l.length by omega)
  have h4 := le_sumk l k (by omega)
  have h5 := brC_le_k l k
  unfold inn
  rw [if_neg (by omega), Int.toNat_natCast]
  split
  · omega
  · split
    · rename_i _ h6; have := h6.2; omega
    · split
      · rename_i _ _ h6
        have hk2 : k = 2 := by have := h6.2; omega
        subst hk2
        cases l with
        | nil => simp at h
        | cons z l =>
          have h7 : Tr.sumk (z :: l) 1 = z.size := by simp [Tr.sumk]
          have h8 := sumk_le (l := z :: l) (show 1 ≤ 2 by omega)
          have h9 : z.kids.length < z.size := by cases z with | mk a b => exact Tr.len_size
          show z.kids.length + _ < _
          omega
      · omega


/-! A term gone through, with what is kept on the way -/
section
variable {σ : Type} (vis : σ → VT → Int → σ × VT)
noncomputable def wk (t : VT) : σ → Int → σ × VT := Tr.fold (fun x l bs s d => if x.k = 7 then vis s (.mk x l) d else
  let r := bs.zipIdx.foldl (fun a p => let q := p.1 a.1 (d + (inn x l p.2 : Nat)); (q.1, a.2 ++ [q.2])) (if x.k = 22 then (vis s (.mk x l) d).1 else s, [])
  (r.1, .mk x r.2)) t
noncomputable def kw (x : Lab) (l : List VT) (d : Int) (s : σ) (k : Nat) : σ × List VT := (l.take k).zipIdx.foldl (fun a p => let q := wk vis p.1 a.1 (d + (inn x l p.2 : Nat)); (q.1, a.2 ++ [q.2])) (s, [])
theorem kw_zero (x : Lab) (l : List VT) (d : Int) (s : σ) : kw vis x l d s 0 = (s, []) := by simp [kw]
theorem kw_succ {x : Lab} {l : List VT} {d : Int} {s : σ} {k : Nat} {y : VT} (h : l[k]? = some y) : kw vis x l d s (k + 1) = ((wk vis y (kw vis x l d s k).1 (d + (inn x l k : Nat))).1, (kw vis x l d s k).2 ++ [(wk vis y (kw vis x l d s k).1 (d + (inn x l k : Nat))).2]) := by
  have hk := (List.getElem?_eq_some_iff.1 h).1
  unfold kw
  rw [List.take_add_one, h, Option.toList_some, List.zipIdx_append, List.foldl_append]
  simp [Nat.min_eq_left (Nat.le_of_lt hk)]
theorem kw_len {x : Lab} {l : List VT} {d : Int} {s : σ} : ∀ {k : Nat}, k ≤ l.length → (kw vis x l d s k).2.length = k
  | 0, _ => by simp [kw]
  | k + 1, h => by
    have hk : l[k]? = some (l[k]'(by omega)) := List.getElem?_eq_getElem _
    rw [kw_succ vis hk]
    have := kw_len (x := x) (l := l) (d := d) (s := s) (k := k) (by omega)
    simp [this]
theorem wk_mk (x : Lab) (l : List VT) (s : σ) (d : Int) : wk vis (.mk x l) s d = if x.k = 7 then vis s (.mk x l) d else ((kw vis x l d (if x.k = 22 then (vis s (.mk x l) d).1 else s) l.length).1, .mk x (kw vis x l d (if x.k = 22 then (vis s (.mk x l) d).1 else s) l.length).2) := by
  unfold wk
  rw [Tr.fold_mk]
  split
  · rfl
  · have e : ∀ (l' : List VT) (n : Nat) (a : σ × List VT), ((l'.map (wk vis)).zipIdx n).foldl (fun a p => let q := p.1 a.1 (d + (inn x l p.2 : Nat)); (q.1, a.2 ++ [q.2])) a = (l'.zipIdx n).foldl (fun a p => let q := wk vis p.1 a.1 (d + (inn x l p.2 : Nat)); (q.1, a.2 ++ [q.2])) a := fun l' => by
      induction l' with
      | nil => intro n a; rfl
      | cons y l' ih => intro n a; simp only [List.map_cons, List.zipIdx_cons, List.foldl_cons]; exact ih _ _
    have e2 := e l 0 (if x.k = 22 then (vis s (.mk x l) d).1 else s, [])
    unfold kw
    rw [List.take_length]
    show (_, _) = _
    unfold wk at e2
    rw [e2]
    rfl
end
/-- What the mover does. -/
def movV (by' fr : Int) (b : Bool) (t : VT) (d : Int) : Bool × VT := (b || ls by' fr t.lab d, .mk (mv by' fr t.lab d) t.kids)
theorem wk_mov (by' fr : Int) (t : VT) : ∀ (b : Bool) (d : Int), wk (movV by' fr) t b d = (b || lo by' fr t d, sh by' fr t d) := by
  induction t using Tr.ind with
  | h x l ih =>
    intro b d
    rw [wk_mk, lo_mk, sh_mk]
    split
    · rfl
    · rename_i h7
      have hb : (if x.k = 22 then (movV by' fr b (.mk x l) d).1 else b) = b := by
        split
        · show (b || ls by' fr x d) = b
          simp [ls, h7]
        · rfl
      rw [hb]
      have key : ∀ k, k ≤ l.length → kw (movV by' fr) x l d b k = (b || ((kidL by' fr x l d).take k).any id, (kidS by' fr x l d).take k) := fun k => by
        induction k with
        | zero => intro _; simp [kw]
        | succ k ihk =>
          intro hk
          have hy : l[k]? = some (l[k]'(by omega)) := List.getElem?_eq_getElem _
          rw [kw_succ _ hy, ihk (by omega), ih _ (List.mem_of_getElem? hy), any_succ (kidL_at hy), List.take_add_one (l := kidS by' fr x l d), kidS_at hy]
          simp [Bool.or_assoc]
      rw [key l.length (Nat.le_refl _)]
      rw [List.take_of_length_le (by rw [kidL_len]; exact Nat.le_refl _), List.take_of_length_le (by rw [kidS_len]; exact Nat.le_refl _)]

end Go.Proofs.Ytjmjillfclfkgaa.vt
