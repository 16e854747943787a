/-
  Layer 5, pure: tokens spelt one behind the other. No program is named here.
-/
import Derived.Test.YtlfhdjlgjekcpaaDoorLexSpells
namespace Go.Proofs.YtlfhdjlgjekcpaaDoor.lx
open Go.ChangeShapes Go.WideShapes Go.ChangeAt Go.RowKit
open bs
set_option linter.unusedVariables false

/-- A token that was read somewhere. -/
def Was (x : Tk) : Prop := ∃ (s : ByteArray) (i : Nat), s.size ≤ 8192 ∧ i < s.size ∧ on s i = (x, 0)
theorem ch_was {s : ByteArray} {i : Nat} {L : List Tk} (h8 : s.size ≤ 8192) (h : Ch s i L) : ∃ M, L = M ++ [tkEnd s] ∧ ∀ x ∈ M, Was x := by
  induction h with
  | fin i h => exact ⟨[], rfl, fun x hx => by cases hx⟩
  | step i j x L h ho ht h' ih =>
    obtain ⟨M, hM, hw⟩ := ih
    refine ⟨x :: M, by rw [hM]; rfl, fun y hy => ?_⟩
    rcases List.mem_cons.1 hy with rfl | hy
    · exact ⟨s, _, h8, h, ho⟩
    · exact hw y hy

def bl : ByteArray := ⟨#[32]⟩
/-- The first k of them, spelt, with a blank between. -/
noncomputable def jn (M : List Tk) : Nat → ByteArray
  | 0 => ⟨#[]⟩
  | k + 1 => (if k = 0 then jn M k else jn M k ++ bl) ++ (match M[k]? with | some x => spell x | none => ⟨#[]⟩)
theorem jn_at {M : List Tk} {k : Nat} {x : Tk} (h : M[k]? = some x) : jn M (k + 1) = (if k = 0 then jn M k else jn M k ++ bl) ++ spell x := by
  show _ ++ (match M[k]? with | some x => spell x | none => ⟨#[]⟩) = _
  rw [h]

theorem txt_app (a b : ByteArray) : txt (a ++ b) = txt a ++ txt b := by
  unfold txt
  rw [ByteArray.data_append, Array.toList_append, List.map_append]
theorem size_app (a b : ByteArray) : (a ++ b).size = a.size + b.size := ByteArray.size_append
theorem b_left {a b : ByteArray} {i : Nat} (h : i < a.size) : B (a ++ b) i = B a i := by
  unfold B
  rw [txt_app, List.getD_eq_getElem?_getD, List.getD_eq_getElem?_getD, List.getElem?_append_left (by rw [txt_len]; exact h)]
theorem b_right {a b : ByteArray} {i : Nat} : B (a ++ b) (a.size + i) = B b i := by
  unfold B
  rw [txt_app, List.getD_eq_getElem?_getD, List.getD_eq_getElem?_getD, List.getElem?_append_right (by rw [txt_len]; omega), txt_len, show a.size + i - a.size = i by omega]
theorem app_nil' (a : ByteArray) : (⟨#[]⟩ : ByteArray) ++ a = a := by
  apply txt_inj
  rw [txt_app]
  rfl

theorem was_size {x : Tk} (h : Was x) : (spell x).size ≤ 8192 := by
  obtain ⟨s, i, h8, hi, ho⟩ := h
  obtain ⟨j, _, _, hij, hj, hsp⟩ := on_spell hi ho
  rw [← hsp, size_cut s i j (by omega) hj]
  omega
theorem jn_size (M : List Tk) (hw : ∀ x ∈ M, Was x) : ∀ k, (jn M k).size ≤ k * 8193 := by
  intro k
  induction k with
  | zero => exact Nat.zero_le _
  | succ k ih =>
    show ((if k = 0 then jn M k else jn M k ++ bl) ++ (match M[k]? with | some x => spell x | none => ⟨#[]⟩)).size ≤ _
    rw [size_app]
    have h1 : (if k = 0 then jn M k else jn M k ++ bl).size ≤ (jn M k).size + 1 := by
      split
      · omega
      · rw [size_app]; exact Nat.le_refl _
    have h2 : (match M[k]? with | some x => spell x | none => (⟨#[]⟩ : ByteArray)).size ≤ 8192 := by
      rcases hk : M[k]? with _ | x
      · exact Nat.zero_le _
      · exact was_size (hw x (List.mem_of_getElem? hk))
    omega

/-- What stands ahead of token k. -/
noncomputable def hd (M : List Tk) (k : Nat) : ByteArray := if k = 0 then jn M k else jn M k ++ bl
theorem hd_size (M : List Tk) (k : Nat) : (hd M k).size = (jn M k).size + (if k = 0 then 0 else 1) := by
  unfold hd
  split
  · rfl
  · rw [size_app]; rfl
theorem jn_hd {M : List Tk} {k : Nat} {x : Tk} (h : M[k]? = some x) : jn M (k + 1) = hd M k ++ spell x := jn_at h
/-- The whole begins with what stands there. -/
theorem jn_pre (M : List Tk) : ∀ (n k : Nat), k ≤ n → ∃ t, jn M n = jn M k ++ t := by
  intro n
  induction n with
  | zero => intro k h; exact ⟨⟨#[]⟩, by rw [show k = 0 by omega]; rfl⟩
  | succ n ih =>
    intro k h
    rcases Nat.eq_or_lt_of_le h with rfl | h
    · exact ⟨⟨#[]⟩, by apply txt_inj; rw [txt_app]; simp [txt]⟩
    · obtain ⟨t, ht⟩ := ih k (by omega)
      refine ⟨(if n = 0 then t else t ++ bl) ++ (match M[n]? with | some x => spell x | none => ⟨#[]⟩), ?_⟩
      show (if n = 0 then jn M n else jn M n ++ bl) ++ (match M[n]? with | some x => spell x | none => ⟨#[]⟩) = _
      apply txt_inj
      rw [txt_app, txt_app, txt_app]
      split
      · rw [ht, txt_app, List.append_assoc]
      · rw [ht, txt_app, txt_app, txt_app]
        simp only [List.append_assoc]
theorem jn_len_le (M : List Tk) {n k : Nat} (h : k ≤ n) : (jn M k).size ≤ (jn M n).size := by
  obtain ⟨t, ht⟩ := jn_pre M n k h
  rw [ht, size_app]
  omega
theorem jn_byte (M : List Tk) {n k : Nat} (h : k ≤ n) {i : Nat} (hi : i < (jn M k).size) : B (jn M n) i = B (jn M k) i := by
  obtain ⟨t, ht⟩ := jn_pre M n k h
  rw [ht, b_left hi]

/-- Token k of the whole is read like it. -/
theorem jn_on {M : List Tk} {k : Nat} {x : Tk} (hk : M[k]? = some x) (hw : Was x) : nx (jn M M.length) (jn M k).size = (hd M k).size ∧ (hd M k).size < (jn M M.length).size ∧
    on (jn M M.length) (hd M k).size = (⟨x.k, x.n, x.s, ((hd M k).size : Nat), ((jn M (k + 1)).size : Nat)⟩, 0) := by
  obtain ⟨s, i, _, hi, ho⟩ := hw
  have hkl := (List.getElem?_eq_some_iff.1 hk).1
  have e1 : (jn M (k + 1)).size = (hd M k).size + (spell x).size := by rw [jn_hd hk, size_app]
  have hle := jn_len_le M (show k + 1 ≤ M.length by omega)
  have hsub : (jn M M.length).extract (hd M k).size ((hd M k).size + (spell x).size) = spell x := by
    apply txt_inj
    apply List.ext_getElem?
    intro q
    rw [txt_cut, show (hd M k).size + (spell x).size - (hd M k).size = (spell x).size by omega, List.getElem?_take, List.getElem?_drop]
    by_cases hq : q < (spell x).size
    · rw [if_pos hq]
      have h1 : (hd M k).size + q < (txt (jn M M.length)).length := by rw [txt_len]; omega
      have h2 : q < (txt (spell x)).length := by rw [txt_len]; exact hq
      have h3 : B (jn M M.length) ((hd M k).size + q) = B (spell x) q := by
        rw [jn_byte M (show k + 1 ≤ M.length by omega) (by omega), jn_hd hk, b_right]
      unfold B at h3
      rw [List.getD_eq_getElem?_getD, List.getD_eq_getElem?_getD, List.getElem?_eq_getElem h1, List.getElem?_eq_getElem h2] at h3
      rw [List.getElem?_eq_getElem h1, List.getElem?_eq_getElem h2]
      exact congrArg some h3
    · rw [if_neg hq, List.getElem?_eq_none (by rw [txt_len]; omega)]
  have hstop : (hd M k).size + (spell x).size = (jn M M.length).size ∨ B (jn M M.length) ((hd M k).size + (spell x).size) = 32 := by
    by_cases hl : k + 1 = M.length
    · left; rw [← e1, hl]
    · right
      obtain ⟨y, hy⟩ : ∃ y, M[k + 1]? = some y := ⟨_, List.getElem?_eq_getElem (by omega)⟩
      have e2 : jn M (k + 1 + 1) = (jn M (k + 1) ++ bl) ++ spell y := by
        rw [jn_at hy, if_neg (by omega)]
      have h4 := jn_len_le M (show k + 1 + 1 ≤ M.length by omega)
      have h5 : (jn M (k + 1 + 1)).size = (jn M (k + 1)).size + 1 + (spell y).size := by rw [e2, size_app, size_app]; rfl
      rw [← e1, jn_byte M (show k + 1 + 1 ≤ M.length by omega) (by omega), e2, b_left (by rw [size_app]; show _ < _ + 1; omega)]
      have this : B (jn M (k + 1) ++ bl) (jn M (k + 1)).size = B bl 0 := b_right (a := jn M (k + 1)) (b := bl) (i := 0)
      rw [this]
      decide
  obtain ⟨h1, h2, h3, h4⟩ := on_like hi ho (out := jn M M.length) (p := (hd M k).size) (by omega) hsub hstop
  have hlt : (hd M k).size < (jn M M.length).size := by omega
  refine ⟨?_, hlt, by rw [h1, e1]⟩
  have hst : nx (jn M M.length) (hd M k).size = (hd M k).size := nx_stop h2 h3
  by_cases h0 : k = 0
  · have e3 : (hd M k).size = (jn M k).size := by rw [hd_size, if_pos h0]; rfl
    rw [← e3]
    exact hst
  · have e3 : (hd M k).size = (jn M k).size + 1 := by rw [hd_size, if_neg h0]
    have hb : B (jn M M.length) (jn M k).size = 32 := by
      rw [jn_byte M (show k + 1 ≤ M.length by omega) (by omega), jn_hd hk, b_left (by omega)]
      unfold hd
      rw [if_neg h0]
      have this : B (jn M k ++ bl) (jn M k).size = B bl 0 := b_right (a := jn M k) (b := bl) (i := 0)
      rw [this]
      decide
    rw [nx_blank (by omega) (by rw [hb]; decide), ← e3]
    exact hst

/-- Alike but for the places. -/
def Alk (x y : Tk) : Prop := x.k = y.k ∧ x.n = y.n ∧ x.s = y.s
theorem jn_toks (M : List Tk) (hw : ∀ x ∈ M, Was x) : ∀ k, k ≤ M.length → ∃ L' : List Tk, L'.length = k ∧ (∀ (i : Nat) (x y : Tk), L'[i]? = some x → M[i]? = some y → Alk x y) ∧ app L' (toks (jn M M.length) (jn M k).size) = toks (jn M M.length) 0 := by
  intro k
  induction k with
  | zero => intro _; exact ⟨[], rfl, fun i x y h => by simp at h, app_nil _⟩
  | succ k ih =>
    intro hk
    obtain ⟨L', hl, ha, he⟩ := ih (by omega)
    have hx : M[k]? = some (M[k]'(by omega)) := List.getElem?_eq_getElem _
    obtain ⟨h1, h2, h3⟩ := jn_on hx (hw _ (List.getElem_mem _))
    have hle := jn_len_le M (show k ≤ M.length by omega)
    refine ⟨L' ++ [⟨M[k].k, M[k].n, M[k].s, ((hd M k).size : Nat), ((jn M (k + 1)).size : Nat)⟩], by simp [hl], fun i x y hi hy => ?_, ?_⟩
    · rcases Nat.lt_or_ge i L'.length with h | h
      · rw [List.getElem?_append_left h] at hi
        exact ha i x y hi hy
      · rw [List.getElem?_append_right h] at hi
        have hi0 : i = k := by
          have := (List.getElem?_eq_some_iff.1 hi).1
          simp at this
          omega
        subst hi0
        rw [hl, Nat.sub_self, List.getElem?_cons_zero] at hi
        rw [hx] at hy
        have e1 := Option.some.inj hi
        have e2 := Option.some.inj hy
        subst e1
        subst e2
        exact ⟨rfl, rfl, rfl⟩
    · have e := app_step (s := jn M M.length) (i := (jn M k).size) (L := L') (by rw [h1]; exact h2) hle (by rw [h1, h3])
      rw [h1, h3] at e
      rw [← he, e]
      rfl
/-- The tokens of the whole. -/
theorem jn_tokens (M : List Tk) (hw : ∀ x ∈ M, Was x) (h8 : (jn M M.length).size ≤ 8192) : ∃ L' : List Tk, L'.length = M.length ∧ (∀ (i : Nat) (x y : Tk), L'[i]? = some x → M[i]? = some y → Alk x y) ∧ tokens (jn M M.length) = (L' ++ [tkEnd (jn M M.length)], 0, 0) := by
  obtain ⟨L', hl, ha, he⟩ := jn_toks M hw M.length (Nat.le_refl _)
  refine ⟨L', hl, ha, ?_⟩
  unfold tokens
  rw [if_neg (by omega), ← he, app_end (by rw [nx_end (Nat.le_refl _)]; exact Nat.le_refl _)]
end Go.Proofs.YtlfhdjlgjekcpaaDoor.lx
