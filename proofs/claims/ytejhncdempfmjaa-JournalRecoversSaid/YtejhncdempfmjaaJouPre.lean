/-
  Layer 49: what is read of the beginning of a log. No call is named here.
-/
import Derived.Test.YtejhncdempfmjaaJouMath
namespace Go.Proofs.Ytejhncdempfmjaa.jo
open Go.ChangeShapes Go.WideShapes Go.ChangeAt Go.RowKit
open bs en ch
open Go.Proofs.Ytejhncdempfmjaa.sh (tagB shaSum_len)
set_option linter.unusedVariables false

theorem getD_take {l : List Int} {q k : Nat} (h : k < q) : (l.take q).getD k 0 = l.getD k 0 := by
  rw [List.getD_eq_getElem?_getD, List.getD_eq_getElem?_getD, List.getElem?_take, if_pos h]
theorem sz_take {m : List Int} {q : Nat} (h : 4 ≤ q) : sz (m.take q) = sz m := by
  unfold sz
  rw [getD_take (by omega), getD_take (by omega), getD_take (by omega), getD_take (by omega)]
/-- A frame that lies within the beginning is read as it is in the whole. -/
theorem rd_take {l : List Int} (ha : AllB l) {q i : Nat} (hq : q ≤ l.length) (hi : i + 4 ≤ q) (hs : (i : Int) + 36 + sz (l.drop i) ≤ q) : rdE (l.take q) i = rdE l i ∧ sz ((l.take q).drop i) = sz (l.drop i) ∧ (1 ≤ sz (l.drop i) → frK (l.take q) i = frK l i) := by
  have hd : (l.take q).drop i = (l.drop i).take (q - i) := by rw [List.drop_take]
  have hz : sz ((l.take q).drop i) = sz (l.drop i) := by rw [hd, sz_take (by omega)]
  have hb : AllB (l.drop i) := fun x hx => ha x (List.mem_of_mem_drop hx)
  have b0 := hb.getD 0; have b1 := hb.getD 1; have b2 := hb.getD 2; have b3 := hb.getD 3
  have hs0 : 0 ≤ sz (l.drop i) := by unfold sz four; omega
  have hk : ((l.take q).drop i).getD 4 0 = (l.drop i).getD 4 0 := by rw [hd, getD_take (by omega)]
  have hl : (l.take q).length = q := by rw [List.length_take]; omega
  refine ⟨?_, hz, fun h1 => ?_⟩
  · unfold rdE
    rw [Int.toNat_natCast, hz, hk, hl]
    rw [if_neg (show ¬((i : Int) < 0 ∨ (q : Int) < i) by omega), if_neg (show ¬((i : Int) < 0 ∨ (l.length : Int) < i) by omega), if_neg (show ¬ (q : Int) - i < 4 by omega), if_neg (show ¬ (l.length : Int) - i < 4 by omega)]
    by_cases h3 : sz (l.drop i) = 0
    · rw [if_pos h3, if_pos h3]
    · rw [if_neg h3, if_neg h3]
      by_cases h4 : 1025 < sz (l.drop i)
      · rw [if_pos h4, if_pos h4]
      · rw [if_neg h4, if_neg h4, if_neg (show ¬ (q : Int) - i < 4 + sz (l.drop i) + 32 by omega), if_neg (show ¬ (l.length : Int) - i < 4 + sz (l.drop i) + 32 by omega)]
  · unfold frK
    rw [hz, hk, hd, List.drop_take, List.drop_take, List.take_take, List.take_take, Nat.min_eq_left (by omega), Nat.min_eq_left (by omega)]
theorem rd_take_ok {l : List Int} (ha : AllB l) {q i : Nat} (hq : q ≤ l.length) (h : rdE (l.take q) i = 0) : rdE l i = 0 ∧ sz ((l.take q).drop i) = sz (l.drop i) ∧ frK (l.take q) i = frK l i := by
  have ha' : AllB (l.take q) := fun x hx => ha x (List.mem_of_mem_take hx)
  have hr := rd_ok ha' h
  have hl : (l.take q).length = q := by rw [List.length_take]; omega
  rw [hl] at hr
  have hz : sz ((l.take q).drop i) = sz (l.drop i) := by rw [List.drop_take, sz_take (by omega)]
  rw [hz] at hr
  obtain ⟨h1, h2, h3⟩ := rd_take ha hq (by omega) hr.2.2.1
  exact ⟨by rw [← h1]; exact h, h2, h3 hr.1⟩
/-- The frames of the beginning are those of the whole. -/
theorem up_take {l : List Int} (ha : AllB l) {q : Nat} (hq : q ≤ l.length) (j : Nat) (h : Up (l.take q) j) : Up l j ∧ (∀ i, i ≤ j → atF (l.take q) i = atF l i) ∧ (∀ i, i < j → fm (l.take q) i = fm l i) := by
  induction j with
  | zero => exact ⟨Up.zero l, fun i hi => by rw [show i = 0 by omega]; rfl, fun i hi => absurd hi (Nat.not_lt_zero i)⟩
  | succ j ih =>
    obtain ⟨h1, h2, h3⟩ := ih (fun i hi => h i (by omega))
    obtain ⟨k1, k2⟩ := h j (by omega)
    have hat := h2 j (Nat.le_refl _)
    rw [hat] at k1 k2
    obtain ⟨q1, q2, q3⟩ := rd_take_ok ha hq k2
    have hl : (l.take q).length = q := by rw [List.length_take]; omega
    refine ⟨h1.succ (by omega) q1, fun i hi => ?_, fun i hi => ?_⟩
    · rcases Nat.lt_or_ge i (j + 1) with h4 | h4
      · exact h2 i (by omega)
      · obtain rfl : i = j + 1 := by omega
        rw [atF, atF, hat, q2]
    · rcases Nat.lt_or_ge i j with h4 | h4
      · exact h3 i h4
      · obtain rfl : i = j := by omega
        rw [fm, hat, q3]; rfl
/-- What lies within the beginning is read there. -/
theorem up_within {l : List Int} (ha : AllB l) {q : Nat} (hq : q ≤ l.length) (j : Nat) (h : Up l j) (hj : atF l j ≤ q) : Up (l.take q) j := by
  induction j with
  | zero => exact Up.zero _
  | succ j ih =>
    obtain ⟨k1, k2⟩ := h j (by omega)
    have hr := rd_ok ha k2
    have hle : atF l j ≤ q := by rw [atF] at hj; omega
    have hu := ih (fun i hi => h i (by omega)) hle
    obtain ⟨_, h2, _⟩ := up_take ha hq j hu
    have hat := h2 j (Nat.le_refl _)
    have hl : (l.take q).length = q := by rw [List.length_take]; omega
    rw [atF] at hj
    refine hu.succ ?_ ?_
    · rw [hat, hl]; omega
    · rw [hat, (rd_take ha hq (by omega) (by omega)).1]; exact k2
/-- A right log, cut anywhere behind its first frames: as many are still right. -/
theorem cut_any_right {key l : List Int} (ha : AllB l) {n : Nat} (h : EntE key l n 0) {q sure : Nat} (hq : q ≤ l.length) (hs : sure ≤ n) (hsq : atF l sure ≤ q) {j : Nat} {E : Int} (hj : EntE key (l.take q) j E) :
    sure ≤ j ∧ j ≤ n ∧ (∀ i, i < j → fm (l.take q) i = fm l i) := by
  obtain ⟨h1, h2, h3⟩ := up_take ha hq j hj.1
  refine ⟨?_, ?_, h3⟩
  · rcases Nat.lt_or_ge j sure with h4 | h4
    · exfalso
      have hu := up_within ha hq sure (fun i hi => h.1 i (by omega)) hsq
      obtain ⟨k1, k2⟩ := hu j h4
      obtain ⟨_, _, k5⟩ := up_take ha hq sure hu
      have hg : ch.Good key (fm (l.take q)) j := by
        unfold ch.Good
        rw [mgF_congr k5 h4, k5 j h4]
        exact h.2.1 j (by omega)
      rcases hj.2.2 with ⟨k3, _⟩ | ⟨_, k3, k4⟩ | ⟨_, _, k3, _⟩
      · omega
      · omega
      · exact k3 hg
    · exact h4
  · rcases Nat.lt_or_ge n j with h4 | h4
    · exfalso
      obtain ⟨k1, _⟩ := h1 n h4
      rcases (ente_ends h).2 with ⟨k3, _⟩ | ⟨_, _, k3⟩
      · omega
      · exact absurd rfl k3
    · exact h4

end Go.Proofs.Ytejhncdempfmjaa.jo
