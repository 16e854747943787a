/-
  Layer 32: what terms name, renumbered; orders and their inverses: plain. No program is named here.
-/
import Derived.Test.YtjnlfppeodoliaaVtTerm
namespace Go.Proofs.Ytjnlfppeodoliaa.vt
open Go.Proofs.Ytjnlfppeodoliaa.am
set_option linter.unusedVariables false

/-- Does a term name a declaration by its number alone? -/
def nmK (k : Int) : Bool := decide (k = 8) || decide (k = 9) || decide (k = 16) || decide (k = 15) || decide (k = 4)
/-- The place that a term names, and how many numbers are one place's. -/
def nmP (x : Lab) : Int × Int := if nmK x.k = true then (x.n, 1) else if x.k = 13 ∧ 0 ≤ x.n then (x.n / 64, 64) else (0, 0)
/-- .. below 0: none. -/
def nmR (x : Lab) : Int := if nmK x.k = true then x.n else if x.k = 13 ∧ 0 ≤ x.n then x.n / 64 else -1
/-- The new place of a declaration. -/
def plc (to : List Int) (n : Int) : Int := if n < 0 then n else match to[n.toNat]? with | some z => if z < 0 then n else z | none => n
/-- A term's number behind that. -/
def nwN (to : List Int) (x : Lab) : Int := if nmK x.k = true then plc to x.n else if x.k = 13 ∧ 0 ≤ x.n then plc to (x.n / 64) * 64 + x.n % 64 else x.n
noncomputable def renum (to : List Int) (t : VT) : VT := Tr.fold (fun x _ bs => .mk { x with n := nwN to x } bs) t
theorem renum_mk (to : List Int) (x : Lab) (l : List VT) : renum to (.mk x l) = .mk { x with n := nwN to x } (l.map (renum to)) := Tr.fold_mk _ x l
/-- Does a term name a declaration? -/
noncomputable def nmsT (i : Int) (t : VT) : Bool := Tr.fold (fun x _ bs => decide (nmR x = i) || bs.any id) t
theorem nmsT_mk (i : Int) (x : Lab) (l : List VT) : nmsT i (.mk x l) = (decide (nmR x = i) || l.any (nmsT i)) := by
  unfold nmsT; rw [Tr.fold_mk, List.any_map]; rfl
theorem nmP_R (x : Lab) (i : Int) (h : 0 ≤ i) : (decide (0 < (nmP x).2) && decide ((nmP x).1 = i)) = decide (nmR x = i) := by
  unfold nmP nmR
  by_cases h1 : nmK x.k = true
  · simp [h1]
  · rw [if_neg h1, if_neg h1]
    by_cases h2 : x.k = 13 ∧ 0 ≤ x.n
    · rw [if_pos h2, if_pos h2]; simp
    · rw [if_neg h2, if_neg h2]
      have : ¬ (-1 : Int) = i := by omega
      simp [this]
theorem renum_size (to : List Int) (t : VT) : (renum to t).size = t.size := by
  induction t using Tr.ind with
  | h x l ih =>
    rw [renum_mk, Tr.size_mk, Tr.size_mk, List.map_map]
    congr 2
    exact List.map_congr_left fun y hy => ih y hy

/-! Orders -/
theorem pig : ∀ (n : Nat) (l : List Int), l.Nodup → (∀ x ∈ l, 0 ≤ x ∧ x < n) → l.length ≤ n
  | 0, l, _, h => by
    cases l with
    | nil => simp
    | cons a l => have := h a (by simp); omega
  | n + 1, l, hn, h => by
    by_cases hm : (n : Int) ∈ l
    · have := pig n (l.erase n) (hn.erase _) (fun x hx => by
        have h1 := (hn.mem_erase_iff).1 hx
        have h2 := h x h1.2
        omega)
      rw [List.length_erase_of_mem hm] at this
      omega
    · have := pig n l hn (fun x hx => by
        have h2 := h x hx
        have : x ≠ n := fun e => hm (e ▸ hx)
        omega)
      omega
theorem sub_len : ∀ (R l : List Int), R.Nodup → (∀ x ∈ R, x ∈ l) → R.length ≤ l.length ∧ (R.length = l.length → l.Nodup ∧ ∀ x ∈ l, x ∈ R)
  | [], l, _, _ => ⟨by simp, fun h => by
      have : l = [] := List.length_eq_zero_iff.1 h.symm
      subst this; simp⟩
  | a :: R, l, hn, h => by
    have ha := h a (by simp)
    obtain ⟨hna, hnR⟩ := List.nodup_cons.1 hn
    have hlen := List.length_erase_of_mem ha
    have hpos : 0 < l.length := List.length_pos_of_mem ha
    obtain ⟨k1, k2⟩ := sub_len R (l.erase a) hnR (fun x hx => by
      have hxa : x ≠ a := fun e => hna (e ▸ hx)
      exact (List.mem_erase_of_ne hxa).2 (h x (by simp [hx])))
    refine ⟨by simp; omega, fun he => ?_⟩
    obtain ⟨e1, e2⟩ := k2 (by simp at he; omega)
    have hp := List.perm_cons_erase ha
    refine ⟨hp.nodup_iff.2 (List.nodup_cons.2 ⟨fun hx => hna (e2 a hx), e1⟩), fun x hx => ?_⟩
    rcases List.mem_cons.1 (hp.mem_iff.1 hx) with e | hx
    · simp [e]
    · simp [e2 x hx]
/-- Does each place stand just once among the numbers? -/
def isOrd (nums : List Int) : Bool := nums.all (fun z => decide (0 ≤ z) && decide (z < nums.length)) && decide nums.Nodup
theorem isOrd_iff (nums : List Int) : isOrd nums = true ↔ (∀ z ∈ nums, 0 ≤ z ∧ z < nums.length) ∧ nums.Nodup := by
  unfold isOrd
  rw [Bool.and_eq_true, List.all_eq_true, decide_eq_true_eq]
  constructor
  · rintro ⟨h1, h2⟩; exact ⟨fun z hz => by simpa using h1 z hz, h2⟩
  · rintro ⟨h1, h2⟩; exact ⟨fun z hz => by simpa using h1 z hz, h2⟩
/-- .. just if each one stands there. -/
theorem isOrd_all (nums : List Int) : isOrd nums = true ↔ ∀ k : Nat, k < nums.length → (k : Int) ∈ nums := by
  rw [isOrd_iff]
  constructor
  · rintro ⟨h1, h2⟩ k hk
    refine Classical.byContradiction fun hno => ?_
    have := pig nums.length ((k : Int) :: nums) (List.nodup_cons.2 ⟨hno, h2⟩) (fun x hx => by
      rcases List.mem_cons.1 hx with e | hx
      · subst e; omega
      · exact h1 x hx)
    simp at this; omega
  · intro h
    have hR : ((List.range nums.length).map (fun k : Nat => (k : Int))).Nodup := by
      rw [List.nodup_iff_pairwise_ne, List.pairwise_map]
      exact (List.nodup_iff_pairwise_ne.1 List.nodup_range).imp (fun hne e => hne (by omega))
    obtain ⟨_, k2⟩ := sub_len _ nums hR (fun x hx => by
      obtain ⟨k, hk, rfl⟩ := List.mem_map.1 hx
      exact h k (List.mem_range.1 hk))
    obtain ⟨e1, e2⟩ := k2 (by simp)
    refine ⟨fun z hz => ?_, e1⟩
    obtain ⟨k, hk, rfl⟩ := List.mem_map.1 (e2 z hz)
    have := List.mem_range.1 hk
    omega
/-- Where a place stands first among numbers: below 0, nowhere. -/
def atI (k : Int) : List Int → Int
  | [] => -1
  | a :: l => if a = k then 0 else if atI k l < 0 then -1 else atI k l + 1
theorem atI_lt (k : Int) : ∀ l : List Int, -1 ≤ atI k l ∧ atI k l < l.length
  | [] => by simp [atI]
  | a :: l => by
    have := atI_lt k l
    unfold atI
    rw [List.length_cons]
    split
    · omega
    · split <;> omega
theorem atI_neg (k : Int) : ∀ l : List Int, atI k l < 0 ↔ k ∉ l
  | [] => by simp [atI]
  | a :: l => by
    have ih := atI_neg k l
    unfold atI
    by_cases h : a = k
    · subst h; simp
    · rw [if_neg h]
      have h' : ¬ k = a := fun e => h e.symm
      have hk : (k ∉ a :: l) ↔ k ∉ l := by simp [h']
      rw [hk, ← ih]
      split <;> omega
theorem atI_app (k : Int) (l : List Int) (z : Int) : atI k (l ++ [z]) = if atI k l < 0 then (if z = k then (l.length : Int) else -1) else atI k l := by
  induction l with
  | nil => simp [atI]
  | cons a l ih =>
    have := atI_lt k l
    simp only [List.cons_append, atI, ih]
    by_cases h : a = k
    · simp [h]
    · simp only [h, if_false]
      by_cases h2 : atI k l < 0
      · simp only [h2, if_true]
        by_cases h3 : z = k
        · simp [h3]; omega
        · simp [h3]
      · simp only [h2, if_false]
        have h4 : ¬ atI k l + 1 < 0 := by omega
        simp [h4]
theorem atI_val {k : Int} {l : List Int} (h : 0 ≤ atI k l) : l[(atI k l).toNat]? = some k := by
  induction l with
  | nil => simp [atI] at h
  | cons a l ih =>
    unfold atI at h ⊢
    by_cases h1 : a = k
    · simp [h1]
    · rw [if_neg h1] at h ⊢
      by_cases h2 : atI k l < 0
      · rw [if_pos h2] at h; omega
      · rw [if_neg h2]
        have := ih (by omega)
        rw [show (atI k l + 1).toNat = (atI k l).toNat + 1 by omega]
        simpa using this
/-- Where each place goes, by numbers that bring it where it is named. -/
def invN (nums : List Int) (n : Nat) : List Int := (List.range n).map fun k : Nat => atI (k : Int) nums
theorem invN_len (nums : List Int) (n : Nat) : (invN nums n).length = n := by simp [invN]
theorem invN_at (nums : List Int) {n k : Nat} (h : k < n) : (invN nums n)[k]? = some (atI (k : Int) nums) := by
  simp [invN, List.getElem?_range h]
theorem invN_nil (n : Nat) : invN [] n = List.replicate n (-1) := by
  unfold invN
  apply List.ext_getElem?
  intro i
  by_cases hi : i < n
  · simp [hi, atI]
  · simp [hi]
theorem invN_snoc (l : List Int) (n k : Nat) (hk : k < n) (hno : atI (k : Int) l < 0) : invN (l ++ [(k : Int)]) n = (invN l n).set k (l.length : Int) := by
  apply List.ext_getElem?
  intro i
  rw [List.getElem?_set]
  by_cases hi : i < n
  · rw [invN_at _ hi, invN_at _ hi, atI_app]
    by_cases he : k = i
    · subst he; rw [if_pos hno, if_pos rfl, if_pos rfl, if_pos (by rw [invN_len]; exact hi)]
    · rw [if_neg he]
      have h2 : ¬ (k : Int) = (i : Int) := by omega
      rw [if_neg h2]
      have := atI_lt (i : Int) l
      split
      · congr 1; omega
      · rfl
  · rw [List.getElem?_eq_none (by rw [invN_len]; omega), List.getElem?_eq_none (by rw [invN_len]; omega)]
    split
    · rw [if_neg (by rw [invN_len]; omega)]
    · rfl
/-- Where each of n declarations goes, if one is left out. -/
def lessI (i : Int) (n : Nat) : List Int := (List.range n).map fun k : Nat => if (k : Int) < i then (k : Int) else if (k : Int) = i then -1 else (k : Int) - 1
theorem lessI_len (i : Int) (n : Nat) : (lessI i n).length = n := by simp [lessI]
theorem lessI_succ (i : Int) (k : Nat) : lessI i (k + 1) = lessI i k ++ [if (k : Int) < i then (k : Int) else if (k : Int) = i then -1 else (k : Int) - 1] := by
  unfold lessI; rw [List.range_succ, List.map_append]; rfl
theorem er_succ {α : Type} {l : List α} {i k : Nat} {a : α} (h : l[k]? = some a) : (l.take (k + 1)).eraseIdx i = (l.take k).eraseIdx i ++ (if k = i then [] else [a]) := by
  have hk := (List.getElem?_eq_some_iff.1 h).1
  have hlen : (l.take k).length = k := by rw [List.length_take]; omega
  rw [List.take_add_one, h, Option.toList_some]
  by_cases h1 : i < k
  · rw [if_neg (by omega), List.eraseIdx_append_of_lt_length (by omega)]
  · rw [List.eraseIdx_append_of_length_le (by omega), List.eraseIdx_of_length_le (l := l.take k) (by omega), hlen]
    by_cases h2 : k = i
    · subst h2; simp
    · rw [if_neg h2, List.eraseIdx_of_length_le (by simp; omega)]
/-- May a declaration be left out? -/
noncomputable def dropB (m : VT) (i : Int) : Bool := match m with | .mk x l => decide (x.k = 36) && decide (0 ≤ i) && decide (i < l.length) && !(decide ((l.getD i.toNat (.mk ⟨0, 0, ⟨#[]⟩, 0, 0⟩ [])).lab.k = 33) && decide ((l.getD i.toNat (.mk ⟨0, 0, ⟨#[]⟩, 0, 0⟩ [])).lab.n = 1)) && !((l.eraseIdx i.toNat).any (nmsT i))
/-- A module without it. -/
noncomputable def dropT (m : VT) (i : Int) : VT := match m with | .mk x l => .mk x ((l.eraseIdx i.toNat).map (renum (lessI i l.length)))
theorem any_er {i k : Nat} {l : List VT} {p : VT → Bool} {a : VT} (h : l[k]? = some a) (hi : k ≠ i) (hp : p a = true) : (l.eraseIdx i).any p = true := by
  rw [List.any_eq_true]
  refine ⟨a, ?_, hp⟩
  by_cases h1 : k < i
  · exact List.mem_of_getElem? (show (l.eraseIdx i)[k]? = some a by rw [List.getElem?_eraseIdx_of_lt h1]; exact h)
  · exact List.mem_of_getElem? (show (l.eraseIdx i)[k - 1]? = some a by rw [List.getElem?_eraseIdx_of_ge (by omega), show k - 1 + 1 = k by omega]; exact h)
/-- Where a place stands last among so many of the numbers. -/
def lstI (k : Int) (l : List Int) : Nat → Int
  | 0 => -1
  | i + 1 => if l[i]? = some k then (i : Int) else lstI k l i
theorem lstI_lt (k : Int) (l : List Int) : ∀ n : Nat, -1 ≤ lstI k l n ∧ lstI k l n < n
  | 0 => by simp [lstI]
  | n + 1 => by
    have := lstI_lt k l n
    unfold lstI
    split <;> omega
theorem lstI_neg (k : Int) (l : List Int) : ∀ n : Nat, n ≤ l.length → (lstI k l n < 0 ↔ k ∉ l.take n)
  | 0, _ => by simp [lstI]
  | n + 1, h => by
    have ih := lstI_neg k l n (by omega)
    obtain ⟨z, hz⟩ : ∃ z, l[n]? = some z := ⟨_, List.getElem?_eq_getElem (by omega)⟩
    unfold lstI
    rw [List.take_add_one, hz, Option.toList_some, List.mem_append, not_or, ← ih]
    by_cases h1 : z = k
    · subst h1; rw [if_pos rfl]; simp
    · have h1' : ¬ k = z := fun e => h1 e.symm
      rw [if_neg (by simpa using h1)]; simp [h1']
theorem lstI_at {k : Int} {l : List Int} (hn : l.Nodup) : ∀ n : Nat, n ≤ l.length → lstI k l n = atI k (l.take n)
  | 0, _ => by simp [lstI, atI]
  | n + 1, h => by
    have ih := lstI_at (k := k) hn n (by omega)
    obtain ⟨z, hz⟩ : ∃ z, l[n]? = some z := ⟨_, List.getElem?_eq_getElem (by omega)⟩
    have hb := lstI_lt k l n
    unfold lstI
    rw [List.take_add_one, hz, Option.toList_some, atI_app, ← ih, List.length_take, Nat.min_eq_left (by omega)]
    by_cases h1 : z = k
    · subst h1
      have hno : z ∉ l.take n := fun hm => by
        have h2 : (l.take n ++ l.drop n).Nodup := by rw [List.take_append_drop]; exact hn
        exact (List.nodup_append.1 h2).2.2 _ hm z (by
          have hlt : n < l.length := by omega
          rw [List.drop_eq_getElem_cons hlt]
          have := (List.getElem?_eq_some_iff.1 hz).2
          simp [this]) rfl
      rw [if_pos rfl, if_pos ((lstI_neg z l n (by omega)).2 hno), if_pos rfl]
    · rw [if_neg (by simpa using h1), if_neg h1]
      split <;> omega
def lstN (nums : List Int) (k : Nat) : List Int := (List.range k).map fun q : Nat => lstI (q : Int) nums nums.length
theorem lstN_succ (nums : List Int) (k : Nat) : lstN nums (k + 1) = lstN nums k ++ [lstI (k : Int) nums nums.length] := by
  unfold lstN; rw [List.range_succ, List.map_append]; rfl
theorem lstN_len (nums : List Int) (k : Nat) : (lstN nums k).length = k := by simp [lstN]
theorem lstN_inv {nums : List Int} (h : nums.Nodup) (k : Nat) : lstN nums k = invN nums k := by
  unfold lstN invN
  apply List.map_congr_left
  intro q _
  rw [lstI_at h _ (Nat.le_refl _), List.take_length]
end Go.Proofs.Ytjnlfppeodoliaa.vt
