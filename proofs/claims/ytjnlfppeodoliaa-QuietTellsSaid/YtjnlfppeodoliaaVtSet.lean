/-
  Numbers, rising, each once: plain. No program is named here.
-/
import Derived.Test.YtjnlfppeodoliaaAmSort
namespace Go.Proofs.Ytjnlfppeodoliaa.vt
open Go.Proofs.Ytjnlfppeodoliaa.am
set_option linter.unusedVariables false
/-- The numbers of a list, rising, each once. -/
noncomputable def setL (L : List Int) : List Int := Go.Lib.compact (srt L)
def UpL (R : List Int) : Prop := R.Pairwise (· < ·)
theorem up_ext : ∀ {A B : List Int}, UpL A → UpL B → (∀ z, z ∈ A ↔ z ∈ B) → A = B
  | [], [], _, _, _ => rfl
  | [], b :: B, _, _, h => absurd ((h b).2 (by simp)) (by simp)
  | a :: A, [], _, _, h => absurd ((h a).1 (by simp)) (by simp)
  | a :: A, b :: B, hA, hB, h => by
    obtain ⟨a1, a2⟩ := List.pairwise_cons.1 hA
    obtain ⟨b1, b2⟩ := List.pairwise_cons.1 hB
    have e : a = b := by
      rcases List.mem_cons.1 ((h a).1 (by simp)) with h1 | h1
      · exact h1
      · rcases List.mem_cons.1 ((h b).2 (by simp)) with h2 | h2
        · exact h2.symm
        · have := b1 a h1; have := a1 b h2; omega
    subst e
    have : A = B := up_ext a2 b2 (fun z => ⟨fun hz => by
      rcases List.mem_cons.1 ((h z).1 (by simp [hz])) with h1 | h1
      · have := a1 z hz; omega
      · exact h1, fun hz => by
      rcases List.mem_cons.1 ((h z).2 (by simp [hz])) with h1 | h1
      · have := b1 z hz; omega
      · exact h1⟩)
    rw [this]
theorem compact_up (d : Array Int) (hs : ∀ i j, i < j → j < d.size → d[i]! ≤ d[j]!) : ∀ m, m ≤ d.size → UpL (Go.Lib.compactUpTo d m) ∧ ∀ z, z ∈ Go.Lib.compactUpTo d m ↔ ∃ i, i < m ∧ d[i]! = z
  | 0, _ => ⟨by unfold UpL Go.Lib.compactUpTo; simp, fun z => by unfold Go.Lib.compactUpTo; simp⟩
  | m + 1, hm => by
    obtain ⟨h1, h2⟩ := compact_up d hs m (by omega)
    rw [Go.Lib.compactUpTo_succ]
    by_cases hk : 0 < m ∧ d[m]! = d[m - 1]!
    · rw [Go.Lib.keeps_neg hk.1 hk.2]
      refine ⟨by simpa using h1, fun z => ?_⟩
      simp only [Bool.false_eq_true, if_false, List.append_nil]
      rw [h2]
      refine ⟨fun ⟨i, hi, e⟩ => ⟨i, by omega, e⟩, fun ⟨i, hi, e⟩ => ?_⟩
      by_cases him : i = m
      · subst him; exact ⟨i - 1, by omega, by rw [← hk.2]; exact e⟩
      · exact ⟨i, by omega, e⟩
    · have hkp : Go.Lib.keeps d m = true := by
        by_cases h0 : m = 0
        · subst h0; exact Go.Lib.keeps_lt_one d 0 (by omega)
        · exact Go.Lib.keeps_pos (fun e => hk ⟨by omega, e⟩)
      rw [hkp, if_pos rfl]
      refine ⟨List.pairwise_append.2 ⟨h1, List.pairwise_singleton _ _, fun a ha b hb => ?_⟩, fun z => ?_⟩
      · obtain ⟨i, hi, rfl⟩ := (h2 a).1 ha
        rw [List.mem_singleton] at hb; subst hb
        have hle := hs i m hi (by omega)
        have hne : d[m]! ≠ d[m - 1]! := fun e => hk ⟨by omega, e⟩
        by_cases him : i = m - 1
        · subst him; omega
        · have h3 := hs i (m - 1) (by omega) (by omega)
          have h4 := hs (m - 1) m (by omega) (by omega)
          omega
      · rw [List.mem_append, h2, List.mem_singleton]
        refine ⟨fun h => h.elim (fun ⟨i, hi, e⟩ => ⟨i, by omega, e⟩) (fun e => ⟨m, by omega, e.symm⟩), fun ⟨i, hi, e⟩ => ?_⟩
        by_cases him : i = m
        · subst him; exact .inr e.symm
        · exact .inl ⟨i, by omega, e⟩
theorem set_ok (L : List Int) : UpL (setL L) ∧ ∀ z, z ∈ setL L ↔ z ∈ L := by
  have hp : (srt L).Perm L := List.mergeSort_perm _ _
  have hs : (srt L).Pairwise (fun a b : Int => a ≤ b) := by
    have := List.pairwise_mergeSort (le := fun x y : Int => decide (x ≤ y)) (by intro a b c; simp; omega) (by intro a b; simp; omega) L
    exact this.imp (by simp)
  have h := compact_up (srt L).toArray (fun i j hij hj => by
    have hj' : j < (srt L).length := hj
    have := (List.pairwise_iff_getElem.1 hs) i j (by omega) hj' hij
    rw [getElem!_pos (srt L).toArray i (by show i < (srt L).length; omega), getElem!_pos (srt L).toArray j hj]
    exact this) (srt L).toArray.size (Nat.le_refl _)
  refine ⟨h.1, fun z => ?_⟩
  show z ∈ Go.Lib.compactUpTo (srt L).toArray (srt L).toArray.size ↔ z ∈ L
  rw [h.2, ← hp.mem_iff]
  refine ⟨fun ⟨i, hi, e⟩ => ?_, fun hz => ?_⟩
  · rw [getElem!_pos (srt L).toArray i hi] at e
    rw [← e]; exact List.getElem_mem (l := srt L) hi
  · obtain ⟨i, hi, e⟩ := List.mem_iff_getElem.1 hz
    exact ⟨i, hi, by rw [getElem!_pos (srt L).toArray i hi]; exact e⟩
theorem set_of {R L : List Int} (h : UpL R) (hm : ∀ z, z ∈ R ↔ z ∈ L) : R = setL L := up_ext h (set_ok L).1 (fun z => (hm z).trans ((set_ok L).2 z).symm)
theorem compact_len (L : List Int) : (Go.Lib.compact L).length ≤ L.length := by
  unfold Go.Lib.compact Go.Lib.compactUpTo
  rw [List.length_map]
  exact Nat.le_trans (List.length_filter_le _ _) (by simp)
theorem compact_nil : Go.Lib.compact ([] : List Int) = [] := by unfold Go.Lib.compact Go.Lib.compactUpTo; simp
theorem set_len (L : List Int) : (setL L).length ≤ L.length := by unfold setL; have := compact_len (srt L); rw [srt_len] at this; exact this
end Go.Proofs.Ytjnlfppeodoliaa.vt
