/-
  Terms alike, counted, named: plain. No program is named here.
-/
import Derived.Test.YtlkggpjdaaglmaaDoorVt
namespace Go.Proofs.YtlkggpjdaaglmaaDoor.vt
open Go.Proofs.YtlkggpjdaaglmaaDoor.am
set_option linter.unusedVariables false

/-! Two terms, label by label -/
noncomputable def eqv (p : Lab → Lab → Bool) (t : VT) : VT → Bool := Tr.fold (fun x l bs u => p x u.lab && decide (l.length = u.kids.length) && (bs.zip u.kids).all (fun q => q.1 q.2)) t
def zipA (f : VT → VT → Bool) (l m : List VT) (k : Nat) : Bool := ((l.zip m).take k).all (fun q => f q.1 q.2)
theorem zipA_zero (f : VT → VT → Bool) (l m : List VT) : zipA f l m 0 = true := by simp [zipA]
theorem zipA_succ {f : VT → VT → Bool} {l m : List VT} {k : Nat} {a b : VT} (ha : l[k]? = some a) (hb : m[k]? = some b) : zipA f l m (k + 1) = (zipA f l m k && f a b) := by
  unfold zipA
  rw [List.take_add_one, show (l.zip m)[k]? = some (a, b) from List.getElem?_zip_eq_some.2 ⟨ha, hb⟩]
  simp [List.all_append]
theorem zipA_mono {f : VT → VT → Bool} {l m : List VT} {k : Nat} (j : Nat) (h : zipA f l m k = false) : zipA f l m (k + j) = false := by
  unfold zipA at h ⊢
  rw [List.all_eq_false] at h ⊢
  obtain ⟨q, h1, h2⟩ := h
  refine ⟨q, ?_, h2⟩
  have : (l.zip m).take k <+: (l.zip m).take (k + j) := List.take_prefix_take_left (by omega)
  exact this.subset h1
theorem zip_map_all {α β : Type} (F : α → β → Bool) : ∀ (l : List α) (m : List β), ((l.map F).zip m).all (fun q => q.1 q.2) = (l.zip m).all (fun q => F q.1 q.2)
  | [], m => rfl
  | a :: l, [] => rfl
  | a :: l, b :: m => by simp only [List.map_cons, List.zip_cons_cons, List.all_cons, zip_map_all F l m]
theorem eqv_mk (p : Lab → Lab → Bool) (x y : Lab) (l m : List VT) : eqv p (.mk x l) (.mk y m) = (p x y && decide (l.length = m.length) && zipA (eqv p) l m l.length) := by
  have e : zipA (eqv p) l m l.length = (l.zip m).all (fun q => eqv p q.1 q.2) := by
    unfold zipA
    rw [List.take_of_length_le (l := l.zip m) (by rw [List.length_zip]; exact Nat.min_le_left _ _)]
  rw [e]
  conv => lhs; unfold eqv
  rw [Tr.fold_mk, zip_map_all]
  rfl
def pS (x y : Lab) : Bool := decide (x.k = y.k) && decide (x.n = y.n) && decide (x.s = y.s)
def pP (x y : Lab) : Bool := decide (x.k = y.k) && decide (x.n = y.n) && decide (x.s = y.s) && decide (x.f = y.f) && decide (x.t = y.t)
/-- Alike. -/
noncomputable abbrev same (t u : VT) : Bool := eqv pS t u
/-- Alike, places too. -/
noncomputable abbrev plac (t u : VT) : Bool := eqv pP t u
theorem zipA_refl {f : VT → VT → Bool} {l : List VT} (h : ∀ y ∈ l, f y y = true) : ∀ k, zipA f l l k = true := fun k => by
  unfold zipA
  rw [List.all_eq_true]
  intro q hq
  have hq := List.mem_of_mem_take hq
  obtain ⟨i, hi⟩ := List.mem_iff_getElem?.1 hq
  obtain ⟨h1, h2⟩ := List.getElem?_zip_eq_some.1 hi
  rw [h1] at h2
  have : q.1 = q.2 := by simpa using h2
  rw [← this]
  exact h _ (List.mem_of_getElem? h1)
theorem eqv_refl {p : Lab → Lab → Bool} (hp : ∀ x, p x x = true) (t : VT) : eqv p t t = true := by
  induction t using Tr.ind with
  | h x l ih => rw [eqv_mk, hp, zipA_refl ih]; simp
theorem same_refl (t : VT) : same t t = true := eqv_refl (fun x => by simp [pS]) t
theorem plac_refl (t : VT) : plac t t = true := eqv_refl (fun x => by simp [pP]) t

/-! Counted -/
noncomputable def cntT (t : VT) : Int → Int → Int := Tr.fold (fun x l bs left lv => if lv ≤ 0 then -1 else bs.foldl (fun n f => if 0 ≤ n then f n (lv - 1) else n) (left - 1)) t
noncomputable def cntK (l : List VT) (lv n : Int) (k : Nat) : Int := (l.take k).foldl (fun n y => if 0 ≤ n then cntT y n (lv - 1) else n) n
theorem cnt_mk (x : Lab) (l : List VT) (left lv : Int) : cntT (.mk x l) left lv = if lv ≤ 0 then -1 else cntK l lv (left - 1) l.length := by
  unfold cntT
  rw [Tr.fold_mk]
  split
  · rfl
  · rw [List.foldl_map]; unfold cntK; rw [List.take_length]; rfl
theorem cntK_zero (l : List VT) (lv n : Int) : cntK l lv n 0 = n := by simp [cntK]
theorem cntK_succ {l : List VT} {lv n : Int} {k : Nat} {y : VT} (h : l[k]? = some y) : cntK l lv n (k + 1) = if 0 ≤ cntK l lv n k then cntT y (cntK l lv n k) (lv - 1) else cntK l lv n k := by
  unfold cntK
  rw [List.take_add_one, h, Option.toList_some, List.foldl_append]
  rfl
theorem cntK_neg {l : List VT} {lv n : Int} {k : Nat} (h : cntK l lv n k < 0) : ∀ j, k ≤ j → j ≤ l.length → cntK l lv n j = cntK l lv n k := fun j hj => by
  induction j with
  | zero => intro _; rw [show k = 0 by omega]
  | succ j ih =>
    intro hl
    by_cases hjk : k = j + 1
    · rw [hjk]
    · have hy : l[j]? = some (l[j]'(by omega)) := List.getElem?_eq_getElem _
      rw [cntK_succ hy, ih (by omega) (by omega), if_neg (by omega)]
theorem cnt_le (t : VT) : ∀ left lv : Int, -1 ≤ left → cntT t left lv ≤ left ∧ -2 ≤ cntT t left lv ∧ (0 ≤ cntT t left lv → cntT t left lv + (t.size : Int) = left) := by
  induction t using Tr.ind with
  | h x l ih =>
    intro left lv h0
    rw [cnt_mk]
    split
    · exact ⟨by omega, by omega, fun h => by omega⟩
    · have key : ∀ k, k ≤ l.length → cntK l lv (left - 1) k ≤ left - 1 ∧ -2 ≤ cntK l lv (left - 1) k ∧ (0 ≤ cntK l lv (left - 1) k → cntK l lv (left - 1) k + (((l.take k).map Tr.size).sum : Nat) = left - 1) := fun k => by
        induction k with
        | zero => intro _; rw [cntK_zero]; simp; omega
        | succ k ihk =>
          intro hk
          obtain ⟨a1, a2, a3⟩ := ihk (by omega)
          have hy : l[k]? = some (l[k]'(by omega)) := List.getElem?_eq_getElem _
          rw [cntK_succ hy]
          split
          · rename_i hge
            obtain ⟨b1, b2, b3⟩ := ih _ (List.mem_of_getElem? hy) (cntK l lv (left - 1) k) (lv - 1) (by omega)
            refine ⟨by omega, b2, fun h => ?_⟩
            have c1 := b3 h; have c2 := a3 hge
            rw [List.take_add_one, hy]
            simp only [Option.toList_some, List.map_append, List.map_cons, List.map_nil, List.sum_append, List.sum_cons, List.sum_nil]
            omega
          · exact ⟨a1, a2, fun h => by omega⟩
      obtain ⟨b1, b2, b3⟩ := key l.length (Nat.le_refl _)
      refine ⟨by omega, b2, fun h => ?_⟩
      have := b3 h
      rw [List.take_length] at this
      rw [Tr.size_mk]
      omega
/-! Named -/
noncomputable def nmd (t : VT) : Bool := Tr.fold (fun x l bs => decide (40 < x.s.size) || bs.any id) t
def anyK (f : VT → Bool) (l : List VT) (k : Nat) : Bool := (l.take k).any f
theorem anyK_zero (f : VT → Bool) (l : List VT) : anyK f l 0 = false := by simp [anyK]
theorem anyK_succ {f : VT → Bool} {l : List VT} {k : Nat} {y : VT} (h : l[k]? = some y) : anyK f l (k + 1) = (anyK f l k || f y) := by
  unfold anyK
  rw [List.take_add_one, h]; simp
theorem anyK_all (f : VT → Bool) (l : List VT) : anyK f l l.length = l.any f := by unfold anyK; rw [List.take_length]
theorem any_of {f : VT → Bool} {l : List VT} {k : Nat} {y : VT} (h : l[k]? = some y) (hf : f y = true) : l.any f = true := List.any_eq_true.2 ⟨y, List.mem_of_getElem? h, hf⟩
theorem nmd_mk (x : Lab) (l : List VT) : nmd (.mk x l) = (decide (40 < x.s.size) || l.any nmd) := by
  unfold nmd
  rw [Tr.fold_mk, List.any_map]
  rfl
/-- Too large to be looked at. -/
noncomputable def large (t : VT) : Bool := decide (cntT t 400 70 < 0) || nmd t
theorem large_size {t : VT} (h : large t = false) : t.size ≤ 400 := by
  unfold large at h
  rw [Bool.or_eq_false_iff] at h
  have h1 : ¬ cntT t 400 70 < 0 := by simpa using h.1
  have := (cnt_le t 400 70 (by omega)).2.2 (by omega)
  omega
end Go.Proofs.YtlkggpjdaaglmaaDoor.vt
