/-
  Layer 38: contract of the given 'One'.
-/
import Derived.Test.YtiimleaphmjnhaeRegionMath
namespace Go.Proofs.Ytiimleaphmjnhae.rg
open Go.ChangeShapes Go.WideShapes Go.ChangeAt Go.RowKit
open bs
set_option linter.unusedVariables false

set_option maxRecDepth 100000 in
set_option maxHeartbeats 1000000 in
theorem rone_any (p q : ByteArray) (w : World) (hp : p.size ≤ 9223372036854775807) (hq : q.size ≤ 9223372036854775807) :
    Calls Try.prog 17 #[.string p, .string q] w (RPost w (oneL p q)) := by
  by_cases hpq : p = q
  · have e : (p.toList == q.toList) = true := by rw [text_eq]; exact decide_eq_true hpq
    have hl : oneL p q = [] := if_pos hpq
    have HL := Lib.hid hl
    clear hpq hl
    go_enter Try.func17, Try.ntmps17
    go_wp2
    go_ret
    refine ⟨_, _, _, rfl, ?_, ?_⟩
    · rw [HL.out]
      exact ⟨rfl, Nat.le_refl _, by omega, by simp, .inl rfl⟩
    · first
        | exact Below.refl _ _
        | exact (Below.refl _ _).alloc (Nat.le_refl _) _
  · have e : (p.toList == q.toList) = false := by rw [text_eq]; exact decide_eq_false hpq
    have hl : oneL p q = [⟨headN p q, (p.size : Int) - tailN p q, headN p q, (q.size : Int) - tailN p q⟩] := if_neg hpq
    have HL := Lib.hid hl
    have h1 := head_le p q
    have h2 := tail_le p q
    have hd : lead (fun i => (txt p).getD i 0 == (txt q).getD i 0) (min p.size q.size) 0 = headN p q := rfl
    have ht : lead (fun i => (txt p).getD (p.size - 1 - i) 0 == (txt q).getD (q.size - 1 - i) 0) (min p.size q.size - headN p q) 0 = tailN p q := rfl
    have HD := Lib.hid hd; have HT := Lib.hid ht
    clear hpq hl hd ht
    go_enter Try.func17, Try.ntmps17
    go_wp2
    go_loopw [5] (fun i wr => ∃ k m : Nat, k ≤ min p.size q.size ∧ i = .int .i64 k ∧ wr = w.drewN m ∧ Hid (lead (fun i => (txt p).getD i 0 == (txt q).getD i 0) (min p.size q.size - k) k = headN p q)) (fun i _ => min p.size q.size - (intOf i).toNat)
    case atStart => exact ⟨0, 0, by omega, rfl, rfl, HD⟩
    case round =>
      obtain ⟨k, m, hk, rfl, rfl, hl⟩ := hrel
      by_cases hall : k < p.size ∧ k < q.size ∧ ((txt p).getD k 0 == (txt q).getD k 0) = true
      · obtain ⟨hkp, hkq, hB⟩ := hall
        have hst : lead (fun i => (txt p).getD i 0 == (txt q).getD i 0) (min p.size q.size - (k + 1)) (k + 1) = headN p q := by
          rw [← hl.out, show min p.size q.size - k = (min p.size q.size - (k + 1)) + 1 by omega]
          exact (lead_yes (fun i => (txt p).getD i 0 == (txt q).getD i 0) _ _ hB).symm
        have HS := Lib.hid hst
        rw [← txt_at p k hkp, ← txt_at q k hkq] at hB
        clear hst hl HD HT HL
        go_wp2_with fail
        go_quiet (fail)
        go_wp2
        go_roundw
        case rel => exact ⟨k + 1, _, by omega, by go_num, rfl, HS⟩
        case measure => simp [intOf]; omega
      · have hst : headN p q = k := by
          rw [← hl.out]
          rcases Nat.lt_or_ge k (min p.size q.size) with h | h
          · refine lead_no (fun i => (txt p).getD i 0 == (txt q).getD i 0) _ _ ?_
            cases hB : ((txt p).getD k 0 == (txt q).getD k 0)
            · rfl
            · exact absurd ⟨by omega, by omega, hB⟩ hall
          · rw [show min p.size q.size - k = 0 by omega]; rfl
        rw [hst] at h1 h2 HL HT
        have h3 : (¬ k < p.size) ∨ (k < p.size ∧ ¬ k < q.size) ∨ (∃ (h : k < p.size) (g : k < q.size), (((p[k]).toNat : Int) == ((q[k]).toNat : Int)) = false) := by
          rcases Nat.lt_or_ge k p.size with h | h
          · rcases Nat.lt_or_ge k q.size with g | g
            · cases hB : ((txt p).getD k 0 == (txt q).getD k 0)
              · exact .inr (.inr ⟨h, g, by rw [txt_at p k h, txt_at q k g]; exact hB⟩)
              · exact absurd ⟨h, g, hB⟩ hall
            · exact .inr (.inl ⟨h, by omega⟩)
          · exact .inl (by omega)
        clear hst hall hl HD
        generalize hT : tailN p q = tt at h2 HL HT
        clear hT
        rcases h3 with h3 | ⟨h3, h4⟩ | ⟨h3, h4, hB⟩
        all_goals
          go_wp2_with fail
          go_quiet (fail)
          go_wp2
          try clear hB
          try clear h4
          try clear h3
          go_loopw [6, 7] (fun a b wr => ∃ A B j m : Nat, j ≤ min p.size q.size - k ∧ A + j = p.size ∧ B + j = q.size ∧ a = .int .i64 A ∧ b = .int .i64 B ∧ wr = w.drewN m ∧ Hid (lead (fun i => (txt p).getD (p.size - 1 - i) 0 == (txt q).getD (q.size - 1 - i) 0) (min p.size q.size - k - j) j = tt)) (fun a _ _ => (intOf a).toNat)
          case atStart => exact ⟨p.size, q.size, 0, _, by omega, by omega, by omega, rfl, rfl, rfl, HT⟩
          case round =>
            obtain ⟨A, B, j, m', hj, hA, hB', rfl, rfl, rfl, hl⟩ := hrel
            by_cases hall : k < A ∧ k < B ∧ ((txt p).getD (A - 1) 0 == (txt q).getD (B - 1) 0) = true
            · obtain ⟨hkp, hkq, hB⟩ := hall
              have hst : lead (fun i => (txt p).getD (p.size - 1 - i) 0 == (txt q).getD (q.size - 1 - i) 0) (min p.size q.size - k - (j + 1)) (j + 1) = tt := by
                rw [← hl.out, show min p.size q.size - k - j = (min p.size q.size - k - (j + 1)) + 1 by omega]
                refine (lead_yes (fun i => (txt p).getD (p.size - 1 - i) 0 == (txt q).getD (q.size - 1 - i) 0) _ _ ?_).symm
                try dsimp only
                rw [show p.size - 1 - j = A - 1 by omega, show q.size - 1 - j = B - 1 by omega]
                exact hB
              have HS := Lib.hid hst
              have i1 : A - 1 < p.size := by omega
              have i2 : B - 1 < q.size := by omega
              have k1 : (A : Int) - 1 = ((A - 1 : Nat) : Int) := by omega
              have k2 : (B : Int) - 1 = ((B - 1 : Nat) : Int) := by omega
              rw [← txt_at p _ i1, ← txt_at q _ i2] at hB
              clear hst hl HT HL
              go_wp2_with fail
              go_quiet (fail)
              go_wp2
              go_roundw
              case rel => exact ⟨A - 1, B - 1, j + 1, _, by omega, by omega, by omega, by go_num, by go_num, rfl, HS⟩
              case measure => simp [intOf]; omega
            · have hst : tt = j := by
                rw [← hl.out]
                rcases Nat.lt_or_ge j (min p.size q.size - k) with h | h
                · refine lead_no (fun i => (txt p).getD (p.size - 1 - i) 0 == (txt q).getD (q.size - 1 - i) 0) _ _ ?_
                  try dsimp only
                  rw [show p.size - 1 - j = A - 1 by omega, show q.size - 1 - j = B - 1 by omega]
                  cases hB : ((txt p).getD (A - 1) 0 == (txt q).getD (B - 1) 0)
                  · rfl
                  · exact absurd ⟨by omega, by omega, hB⟩ hall
                · rw [show min p.size q.size - k - j = 0 by omega]; rfl
              have h3 : (¬ k < A) ∨ (k < A ∧ ¬ k < B) ∨ (∃ (_ : k < A) (_ : k < B) (h : A - 1 < p.size) (g : B - 1 < q.size), (((p[A - 1]).toNat : Int) == ((q[B - 1]).toNat : Int)) = false) := by
                rcases Nat.lt_or_ge k A with h | h
                · rcases Nat.lt_or_ge k B with g | g
                  · cases hB : ((txt p).getD (A - 1) 0 == (txt q).getD (B - 1) 0)
                    · exact .inr (.inr ⟨h, g, by omega, by omega, by rw [txt_at p (A - 1) (by omega), txt_at q (B - 1) (by omega)]; exact hB⟩)
                    · exact absurd ⟨h, g, hB⟩ hall
                  · exact .inr (.inl ⟨h, by omega⟩)
                · exact .inl (by omega)
              clear hall hl HT
              rcases h3 with h3 | ⟨h3, h4⟩ | ⟨h3, h4, h5, h6, hB⟩
              all_goals
                try have k1 : (A : Int) - 1 = ((A - 1 : Nat) : Int) := by omega
                try have k2 : (B : Int) - 1 = ((B - 1 : Nat) : Int) := by omega
                go_wp2_with fail
                go_quiet (fail)
                go_wp2
                go_ret
                refine ⟨_, 1, 1, rfl, ?_, ?_⟩
                · rw [HL.out, hst]
                  refine ⟨rfl, Nat.le_refl _, by omega, by simp, .inr ⟨w.heap.size, 0, by simp, by simp, fun i x hi => ?_⟩⟩
                  cases i with
                  | succ i => simp at hi
                  | zero =>
                    simp only [List.getElem?_cons_zero, Option.some.injEq] at hi
                    subst hi
                    refine ⟨?_, ?_, ?_, ?_, by unfold In64; dsimp only; omega, by unfold In64; dsimp only; omega, by unfold In64; dsimp only; omega, by unfold In64; dsimp only; omega⟩
                    all_goals
                      rw [cell_new _ _ _ _ _ (by simp)]
                      simp
                      try omega
                · exact (below_drewN (Below.refl _ _) _).alloc (by simp) _

end Go.Proofs.Ytiimleaphmjnhae.rg
