/-
  Layer 5, pure: numerals. No program is named here.
-/
import Derived.Test.YtlfhdjlgjekcpaaDoorLexNum
import Derived.Lib.ItoaMem
namespace Go.Proofs.YtlfhdjlgjekcpaaDoor.lx
open Go.ChangeShapes Go.WideShapes Go.ChangeAt Go.RowKit
open bs
set_option linter.unusedVariables false

theorem dec_small {u : Nat} (h : u < 10) : Lib.decDigits u = [UInt8.ofNat (48 + u)] := by rw [Lib.decDigits, dif_pos h]
theorem dec_big {u : Nat} (h : ¬ u < 10) : Lib.decDigits u = Lib.decDigits (u / 10) ++ [UInt8.ofNat (48 + u % 10)] := by rw [Lib.decDigits, dif_neg h]
theorem d8 {d : Nat} (h : d < 10) : (UInt8.ofNat (48 + d)).toNat = 48 + d := by
  rw [UInt8.toNat_ofNat']
  omega
theorem dec_ne (u : Nat) : Lib.decDigits u ≠ [] := by
  by_cases h : u < 10
  · rw [dec_small h]; simp
  · rw [dec_big h]; simp
theorem dec_dig (u : Nat) : Dig (Lib.decDigits u) := by
  induction u using Nat.strongRecOn with
  | _ u ih =>
    intro c hc
    by_cases h : u < 10
    · rw [dec_small h, List.mem_singleton] at hc
      subst hc
      rw [d8 h]
      omega
    · rw [dec_big h, List.mem_append, List.mem_singleton] at hc
      rcases hc with hc | rfl
      · exact ih (u / 10) (by omega) c hc
      · rw [d8 (by omega)]
        omega
theorem val_snoc : ∀ (l : List UInt8) (acc : Nat) (c : UInt8), valF acc (l ++ [c]) = valF acc l * 10 + (c.toNat - 48)
  | [], acc, c => rfl
  | x :: l, acc, c => by
    show valF (acc * 10 + (x.toNat - 48)) (l ++ [c]) = _
    rw [val_snoc]
    rfl
theorem val_dec (u : Nat) : valF 0 (Lib.decDigits u) = u := by
  induction u using Nat.strongRecOn with
  | _ u ih =>
    by_cases h : u < 10
    · rw [dec_small h]
      show 0 * 10 + ((UInt8.ofNat (48 + u)).toNat - 48) = u
      rw [d8 h]
      omega
    · rw [dec_big h, val_snoc, ih (u / 10) (by omega), d8 (by omega)]
      omega
/-- The first digit is no 0 where there are more. -/
theorem dec_first (u : Nat) (h : 0 < u) : ∀ c r, Lib.decDigits u = c :: r → c.toNat ≠ 48 := by
  induction u using Nat.strongRecOn with
  | _ u ih =>
    intro c r e
    by_cases h1 : u < 10
    · rw [dec_small h1] at e
      have := (List.cons.inj e).1
      rw [← this, d8 h1]
      omega
    · rw [dec_big h1] at e
      rcases hd : Lib.decDigits (u / 10) with _ | ⟨c', r'⟩
      · exact absurd hd (dec_ne _)
      · rw [hd, List.cons_append] at e
        have := (List.cons.inj e).1
        rw [← this]
        exact ih (u / 10) (by omega) (by omega) c' r' hd
theorem dec_len_one (u : Nat) (h : (Lib.decDigits u).length = 1) : u < 10 := by
  by_cases h1 : u < 10
  · exact h1
  · rw [dec_big h1, List.length_append, List.length_singleton] at h
    have : 0 < (Lib.decDigits (u / 10)).length := List.length_pos_iff.2 (dec_ne _)
    omega
/-- Digits that begin with no 0, out of their value. -/
theorem dec_of (l : List UInt8) (hd : Dig l) (hne : l ≠ []) (h : l.length = 1 ∨ ∀ c r, l = c :: r → c.toNat ≠ 48) : Lib.decDigits (valF 0 l) = l := by
  induction hn : l.length using Nat.strongRecOn generalizing l with
  | _ n ih =>
    subst hn
    rcases List.eq_nil_or_concat l with rfl | ⟨m, c, rfl⟩
    · exact absurd rfl hne
    · rw [List.concat_eq_append] at *
      have hc := hd c (List.mem_append.2 (.inr (List.mem_singleton.2 rfl)))
      have hc8 : UInt8.ofNat (48 + (c.toNat - 48)) = c := by
        rw [show 48 + (c.toNat - 48) = c.toNat by omega]
        exact UInt8.ofNat_toNat
      rw [val_snoc]
      by_cases hm : m = []
      · subst hm
        show Lib.decDigits (0 * 10 + (c.toNat - 48)) = [c]
        rw [Nat.zero_mul, Nat.zero_add, dec_small (by omega), hc8]
      · obtain ⟨x, r, rfl⟩ := List.exists_cons_of_ne_nil hm
        have hx : x.toNat ≠ 48 := by
          rcases h with h | h
          · simp at h
          · exact h x (r ++ [c]) rfl
        have hdm : Dig (x :: r) := fun y hy => hd y (List.mem_append.2 (.inl hy))
        have hv := ih (x :: r).length (by simp) (x :: r) hdm (by simp) (.inr (fun c' r' e => by rw [← (List.cons.inj e).1]; exact hx)) rfl
        have hpos : ¬ valF 0 (x :: r) * 10 + (c.toNat - 48) < 10 := by
          have hx1 := hdm x (List.mem_cons_self ..)
          have := val_ge r (0 * 10 + (x.toNat - 48))
          have e : valF 0 (x :: r) = valF (0 * 10 + (x.toNat - 48)) r := rfl
          omega
        rw [dec_big hpos, show (valF 0 (x :: r) * 10 + (c.toNat - 48)) / 10 = valF 0 (x :: r) by omega, show (valF 0 (x :: r) * 10 + (c.toNat - 48)) % 10 = c.toNat - 48 by omega, hv, hc8]

/-- A number's numeral. -/
def numT (n : Int) : ByteArray := mkB (Lib.itoa n)
theorem numT_nat (u : Nat) : numT (u : Int) = mkB (Lib.decDigits u) := by unfold numT; rw [Lib.itoa_nonneg]
theorem mk_list (l : List UInt8) : (mkB l).data.toList = l := rfl
theorem mk_of (v : ByteArray) : mkB v.data.toList = v := rfl
theorem b_mk (l : List UInt8) (k : Nat) (h : k < l.length) : B (mkB l) k = ((l[k]).toNat : Int) := by
  unfold B
  rw [txt_mk, List.getD_eq_getElem?_getD, List.getElem?_map, List.getElem?_eq_getElem h]
  rfl
/-- A numeral is read as its number. -/
theorem num_dec (u : Nat) (h : u < 9223372036854775808) : num (mkB (Lib.decDigits u)) = some (u : Int) := by
  have hd := dec_dig u
  have hv := numV_dig (Lib.decDigits u) 0 hd (by omega)
  rw [val_dec, if_pos h] at hv
  have hne := dec_ne u
  have hl : 0 < (Lib.decDigits u).length := List.length_pos_iff.2 hne
  unfold num
  rw [mk_size, if_neg, txt_mk]
  · exact hv
  · rintro (h0 | ⟨h1, h2⟩)
    · omega
    · rcases Nat.eq_zero_or_pos u with rfl | hu
      · rw [dec_small (by omega)] at h1
        simp at h1
      · obtain ⟨c, r, e⟩ := List.exists_cons_of_ne_nil hne
        have h3 := dec_first u hu c r e
        rw [b_mk _ 0 hl] at h2
        simp only [e, List.getElem_cons_zero] at h2
        omega
/-- A number that was read is spelt as it stood. -/
theorem num_spell {v : ByteArray} {n : Int} (hd : Dig v.data.toList) (h : num v = some n) : numT n = v ∧ 0 ≤ n ∧ n ≤ 9223372036854775807 := by
  unfold num at h
  split at h
  · cases h
  · rename_i hc
    have hsz : v.data.toList.length = v.size := by rw [Array.length_toList]; rfl
    have h2 := numV_dig v.data.toList 0 hd (by omega)
    have e : txt v = v.data.toList.map (fun b => (b.toNat : Int)) := rfl
    rw [e] at h
    rw [show ((0 : Nat) : Int) = 0 from rfl, h] at h2
    by_cases hb : valF 0 v.data.toList < 9223372036854775808
    · rw [if_pos hb] at h2
      have hn := Option.some.inj h2
      subst hn
      refine ⟨?_, by omega, by omega⟩
      rw [numT_nat, dec_of _ hd (fun e => hc (.inl (by rw [← hsz, e]; rfl)))]
      · exact mk_of v
      · by_cases h1 : v.size = 1
        · exact .inl (by rw [hsz]; exact h1)
        · refine .inr (fun c r e he => hc (.inr ⟨?_, ?_⟩))
          · have : v.size ≠ 0 := fun h0 => hc (.inl h0)
            omega
          · have hl : 0 < v.data.toList.length := by rw [e]; simp
            have hb0 := b_mk v.data.toList 0 hl
            rw [mk_of] at hb0
            rw [hb0]
            simp only [e, List.getElem_cons_zero]
            omega
    · rw [if_neg hb] at h2
      cases h2
end Go.Proofs.YtlfhdjlgjekcpaaDoor.lx
