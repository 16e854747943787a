/-
  Layer 38: what holds of the one region. No walk here.
-/
import Derived.Test.YtcncfljpbbpaoaaRegionCheck
namespace Go.Proofs.Ytcncfljpbbpaoaa.rg
open Go.ChangeShapes Go.WideShapes Go.ChangeAt Go.RowKit
open bs
set_option linter.unusedVariables false

theorem txt_get (p : ByteArray) (i : Nat) : (txt p)[i]? = if h : i < p.size then some ((p[i]).toNat : Int) else none := by
  split
  · rename_i h
    have h' : i < p.data.toList.length := by rw [Array.length_toList]; exact h
    rw [txt, List.getElem?_map, List.getElem?_eq_getElem h']
    rfl
  · rename_i h
    exact List.getElem?_eq_none (by rw [txt_len]; omega)
theorem txt_extract (p : ByteArray) (a b : Nat) : txt (p.extract a b) = ((txt p).take b).drop a := by
  unfold txt
  rw [ByteArray.data_extract, Array.toList_extract, List.extract_eq_take_drop, List.map_take, List.map_drop, List.drop_take]
theorem ext_eq (p q : ByteArray) (a b c d : Nat) (h : b - a = d - c) (hb : b ≤ p.size) (hd : d ≤ q.size) (he : ∀ i, i < b - a → (txt p).getD (a + i) 0 = (txt q).getD (c + i) 0) : p.extract a b = q.extract c d := by
  apply txt_inj
  rw [txt_extract, txt_extract]
  apply List.ext_getElem
  · simp only [List.length_drop, List.length_take, txt_len]; omega
  · intro i h1 h2
    simp only [List.length_drop, List.length_take, txt_len] at h1 h2
    have := he i (by omega)
    rw [List.getD_eq_getElem?_getD, List.getD_eq_getElem?_getD, List.getElem?_eq_getElem (by rw [txt_len]; omega), List.getElem?_eq_getElem (by rw [txt_len]; omega)] at this
    simpa using this
theorem eq_ext (p q : ByteArray) (a b c d : Nat) (hb : b ≤ p.size) (hd : d ≤ q.size) (h : p.extract a b = q.extract c d) (i : Nat) (hi : i < b - a) (hj : i < d - c) : (txt p).getD (a + i) 0 = (txt q).getD (c + i) 0 := by
  have := congrArg (fun x => (txt x).getD i 0) h
  simp only [txt_extract] at this
  simp only [List.getD_eq_getElem?_getD, List.getElem?_drop] at this ⊢
  rw [List.getElem?_take_of_lt (by omega), List.getElem?_take_of_lt (by omega)] at this
  exact this

theorem one_chk (p q : ByteArray) : chk p q (oneL p q) = 0 := by
  by_cases h : p = q
  · subst h
    rw [show oneL p p = [] from if_pos rfl]
    unfold chk
    rw [show may p.size p.size (-1) (-1) [] = true from rfl, show corr p p 0 0 [] = true from decide_eq_true rfl]
    rfl
  · rw [show oneL p q = _ from if_neg h]
    have h1 := head_le p q
    have h2 := tail_le p q
    have a1 : ∀ i, i < headN p q → (txt p).getD i 0 = (txt q).getD i 0 := fun i hi => eq_of_beq (lead_all _ _ 0 i (Nat.zero_le _) hi)
    have a2 : ∀ i, i < tailN p q → (txt p).getD (p.size - 1 - i) 0 = (txt q).getD (q.size - 1 - i) 0 := fun i hi => eq_of_beq (lead_all _ _ 0 i (Nat.zero_le _) hi)
    generalize headN p q = hh at *
    generalize tailN p q = tt at *
    have e1 : p.extract 0 hh = q.extract 0 hh := ext_eq p q 0 hh 0 hh rfl (by omega) (by omega) (fun i hi => by rw [Nat.zero_add]; exact a1 i (by omega))
    have e2 : p.extract (p.size - tt) p.size = q.extract (q.size - tt) q.size := ext_eq p q _ _ _ _ (by omega) (Nat.le_refl _) (Nat.le_refl _) (fun i hi => by
      have := a2 (tt - 1 - i) (by omega)
      rwa [show p.size - 1 - (tt - 1 - i) = p.size - tt + i by omega, show q.size - 1 - (tt - 1 - i) = q.size - tt + i by omega] at this)
    have m : may p.size q.size (-1) (-1) [⟨hh, (p.size : Int) - tt, hh, (q.size : Int) - tt⟩] = true := by
      simp only [may, withinB, Bool.and_true, Bool.and_eq_true, decide_eq_true_eq]
      omega
    unfold chk
    rw [m]
    have c : corr p q 0 0 [⟨hh, (p.size : Int) - tt, hh, (q.size : Int) - tt⟩] = true := by
      simp only [corr, Bool.and_eq_true, decide_eq_true_eq, Int.toNat_natCast]
      rw [show ((p.size : Int) - tt).toNat = p.size - tt by omega, show ((q.size : Int) - tt).toNat = q.size - tt by omega]
      exact ⟨e1, e2⟩
    rw [c]
    rfl
theorem one_left (p q : ByteArray) (h1 : headN p q < p.size - tailN p q) (h2 : headN p q < q.size - tailN p q) : chk p q [⟨(headN p q : Int) + 1, (p.size : Int) - tailN p q, (headN p q : Int) + 1, (q.size : Int) - tailN p q⟩] ≠ 0 := by
  have hs : ((txt p).getD (headN p q) 0 == (txt q).getD (headN p q) 0) = false := lead_stop (fun i => (txt p).getD i 0 == (txt q).getD i 0) (min p.size q.size) 0 (show headN p q < 0 + min p.size q.size by omega)
  generalize headN p q = hh at *
  generalize tailN p q = tt at *
  intro hc
  unfold chk at hc
  split at hc
  · split at hc
    · rename_i hm hk
      simp only [corr, Bool.and_eq_true, decide_eq_true_eq] at hk
      have := eq_ext p q 0 ((hh : Int) + 1).toNat 0 ((hh : Int) + 1).toNat (by omega) (by omega) hk.1 hh (by omega) (by omega)
      rw [Nat.zero_add] at this
      rw [this] at hs
      simp at hs
    · omega
  · omega
theorem one_right (p q : ByteArray) (h1 : headN p q < p.size - tailN p q) (h2 : headN p q < q.size - tailN p q) : chk p q [⟨headN p q, (p.size : Int) - tailN p q - 1, headN p q, (q.size : Int) - tailN p q - 1⟩] ≠ 0 := by
  have hs : ((txt p).getD (p.size - 1 - tailN p q) 0 == (txt q).getD (q.size - 1 - tailN p q) 0) = false := lead_stop (fun i => (txt p).getD (p.size - 1 - i) 0 == (txt q).getD (q.size - 1 - i) 0) (min p.size q.size - headN p q) 0 (show tailN p q < 0 + (min p.size q.size - headN p q) by omega)
  generalize headN p q = hh at *
  generalize tailN p q = tt at *
  intro hc
  unfold chk at hc
  split at hc
  · split at hc
    · rename_i hm hk
      simp only [corr, Bool.and_eq_true, decide_eq_true_eq] at hk
      have := eq_ext p q ((p.size : Int) - tt - 1).toNat p.size ((q.size : Int) - tt - 1).toNat q.size (Nat.le_refl _) (Nat.le_refl _) hk.2 0 (by omega) (by omega)
      rw [show ((p.size : Int) - tt - 1).toNat + 0 = p.size - 1 - tt by omega, show ((q.size : Int) - tt - 1).toNat + 0 = q.size - 1 - tt by omega] at this
      rw [this] at hs
      simp at hs
    · omega
  · omega
end Go.Proofs.Ytcncfljpbbpaoaa.rg
