/-
  Layer 5, pure: numbers in digits. No program is named here.
-/
import Derived.Test.YtlfhdjlgjekcpaaDoorLexOn
import Derived.Lib.ParseIntBTie
namespace Go.Proofs.YtlfhdjlgjekcpaaDoor.lx
open Go.ChangeShapes Go.WideShapes Go.ChangeAt Go.RowKit
open bs
set_option linter.unusedVariables false

def valF (acc : Nat) : List UInt8 → Nat
  | [] => acc
  | c :: r => valF (acc * 10 + (c.toNat - 48)) r
def Dig (l : List UInt8) : Prop := ∀ c ∈ l, 48 ≤ c.toNat ∧ c.toNat ≤ 57
theorem val_ge : ∀ (l : List UInt8) (acc : Nat), acc ≤ valF acc l
  | [], acc => Nat.le_refl _
  | c :: r, acc => by
    have := val_ge r (acc * 10 + (c.toNat - 48))
    show acc ≤ valF (acc * 10 + (c.toNat - 48)) r
    omega
theorem parse_dig : ∀ (l : List UInt8) (acc : Nat), Dig l → acc < 18446744073709551616 → Lib.parseUint10 acc l = if valF acc l < 18446744073709551616 then .ok (valF acc l) else .range
  | [], acc, _, h => by
    have e : Lib.parseUint10 acc [] = .ok acc := rfl
    rw [e]
    exact (if_pos h).symm
  | c :: r, acc, hd, h => by
    have hc := hd c (List.mem_cons_self ..)
    have hr : Dig r := fun x hx => hd x (List.mem_cons_of_mem _ hx)
    have hge := val_ge r (acc * 10 + (c.toNat - 48))
    rw [Lib.parseUint10, if_pos hc]
    show _ = if valF (acc * 10 + (c.toNat - 48)) r < _ then _ else _
    split
    · rw [if_neg (by omega)]
    · split
      · rw [if_neg (by omega)]
      · exact parse_dig r _ hr (by omega)
theorem numV_dig : ∀ (l : List UInt8) (acc : Nat), Dig l → acc < 9223372036854775808 → numV acc (l.map fun b => (b.toNat : Int)) = if valF acc l < 9223372036854775808 then some ((valF acc l : Nat) : Int) else none
  | [], acc, _, h => by
    have e : numV acc (([] : List UInt8).map fun b => (b.toNat : Int)) = some (acc : Int) := rfl
    rw [e]
    exact (if_pos h).symm
  | c :: r, acc, hd, h => by
    have hc := hd c (List.mem_cons_self ..)
    have hr : Dig r := fun x hx => hd x (List.mem_cons_of_mem _ hx)
    have hge := val_ge r (acc * 10 + (c.toNat - 48))
    rw [List.map_cons, numV]
    show _ = if valF (acc * 10 + (c.toNat - 48)) r < _ then some ((valF (acc * 10 + (c.toNat - 48)) r : Nat) : Int) else _
    split
    · rw [if_neg (by omega)]
    · rw [show (acc : Int) * 10 + ((c.toNat : Int) - 48) = ((acc * 10 + (c.toNat - 48) : Nat) : Int) by omega]
      exact numV_dig r _ hr (by omega)
theorem int_dig (l : List UInt8) (hd : Dig l) (hne : l ≠ []) : Lib.parseIntB 64 l = if valF 0 l < 9223372036854775808 then .ok ((valF 0 l : Nat) : Int) else .range := by
  rw [Lib.parseIntB_64]
  obtain ⟨c, r, rfl⟩ := List.exists_cons_of_ne_nil hne
  have hc := hd c (List.mem_cons_self ..)
  rw [Lib.atoiAll]
  have e : Lib.parseMag (c :: r) = if valF 0 (c :: r) < 18446744073709551616 then .ok (valF 0 (c :: r)) else .range := by
    rw [Lib.parseMag, if_neg (by simp)]
    exact parse_dig _ 0 hd (by omega)
  rw [if_neg (by omega), e]
  by_cases h1 : valF 0 (c :: r) < 18446744073709551616
  · rw [if_pos h1]
    simp only
    by_cases h2 : valF 0 (c :: r) < 9223372036854775808
    · rw [if_pos h2, if_neg (by omega), if_neg (by omega), if_neg (by omega)]
    · rw [if_neg h2, if_pos (by omega)]
  · rw [if_neg h1]
    simp only
    rw [if_neg (by omega)]
/-- What ParseInt and the document's Number make of digits. -/
theorem two_nums (v : ByteArray) (hd : Dig v.data.toList) (hne : v.size ≠ 0) : (∃ n : Int, Lib.parseIntB 64 v.data.toList = .ok n ∧ numV 0 (txt v) = some n) ∨ (Lib.parseIntB 64 v.data.toList = .range ∧ numV 0 (txt v) = none) := by
  have h1 := int_dig v.data.toList hd (fun e => hne (by have : v.data.toList.length = 0 := by rw [e]; rfl
                                                        rw [Array.length_toList] at this; exact this))
  have h2 := numV_dig v.data.toList 0 hd (by omega)
  by_cases h : valF 0 v.data.toList < 9223372036854775808
  · rw [if_pos h] at h1 h2
    exact .inl ⟨_, h1, h2⟩
  · rw [if_neg h] at h1 h2
    exact .inr ⟨h1, h2⟩
/-- The digits that were run over. -/
theorem dig_cut {s : ByteArray} {i : Nat} (hi : i ≤ s.size) : Dig (s.extract i (run isD s i)).data.toList := by
  intro c hc
  have hr := run_bd isD s i hi
  obtain ⟨j, hj, he⟩ := List.getElem_of_mem hc
  have hsz := size_cut s i (run isD s i) hr.1 hr.2
  have hj' : j < run isD s i - i := by
    rw [Array.length_toList] at hj
    have : (s.extract i (run isD s i)).data.size = (s.extract i (run isD s i)).size := rfl
    omega
  have h1 := run_all (p := isD) (s := s) (i := i) (j := i + j) (by omega) (by omega)
  have h2 : B (s.extract i (run isD s i)) j = B s (i + j) := b_cut (by omega)
  rw [← h2] at h1
  have h3 : B (s.extract i (run isD s i)) j = (c.toNat : Int) := by
    unfold B txt
    rw [List.getD_eq_getElem?_getD, List.getElem?_map, List.getElem?_eq_getElem hj, he]
    rfl
  rw [h3] at h1
  have := of_decide_eq_true h1
  omega
end Go.Proofs.YtlfhdjlgjekcpaaDoor.lx
