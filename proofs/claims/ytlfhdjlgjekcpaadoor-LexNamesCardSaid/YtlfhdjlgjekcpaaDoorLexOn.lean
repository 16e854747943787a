/-
  Layer 5, pure: the token at a place. No program is named here.
-/
import Derived.Test.YtlfhdjlgjekcpaaDoorLexNext
namespace Go.Proofs.YtlfhdjlgjekcpaaDoor.lx
open Go.ChangeShapes Go.WideShapes Go.ChangeAt Go.RowKit
open bs
set_option linter.unusedVariables false

def wordL : List (List UInt8) := [[114, 101, 99], [99, 111, 110, 115, 116], [118, 97, 114], [112, 117, 98], [102, 110], [105, 110, 116], [98, 111, 111, 108], [108, 101, 116], [105, 102], [101, 108, 115, 101], [119, 104, 105, 108, 101], [102, 111, 114], [116, 111], [112, 114, 105, 110, 116], [114, 101, 116, 117, 114, 110], [100, 111], [116, 114, 117, 101], [102, 97, 108, 115, 101], [114, 101, 97, 100], [110, 101, 119]]
def isW (v : ByteArray) : Bool := wordL.any (fun l => v.toList == l)
def mkB (l : List UInt8) : ByteArray := ⟨l.toArray⟩
def twoL : List (List UInt8) := [[61, 61], [33, 61], [60, 61], [62, 61], [38, 38], [124, 124]]
def oneL : List UInt8 := [123, 125, 40, 41, 91, 93, 44, 59, 58, 46, 61, 60, 62, 43, 45, 42, 47, 37, 33, 64]
/-- How long the sign at i is. -/
def sgN (s : ByteArray) (i : Nat) : Nat :=
  if twoL.any (fun l => at' s i (mkB l)) then 2 else if oneL.any (fun b => B s i == (b.toNat : Int)) then 1 else 0

def numV (acc : Int) : List Int → Option Int
  | [] => some acc
  | c :: r => if (9223372036854775807 - (c - 48)) / 10 < acc then none else numV (acc * 10 + (c - 48)) r
def num (v : ByteArray) : Option Int := if v.size = 0 ∨ (1 < v.size ∧ B v 0 = 48) then none else numV 0 (txt v)

structure Tk where
  k : Int
  n : Int
  s : ByteArray
  f : Int
  t : Int
def tk0 : Tk := ⟨0, 0, ⟨#[]⟩, 0, 0⟩
def Tk.cells (x : Tk) : List Value := [.int .i64 x.k, .int .i64 x.n, .string x.s, .int .i64 x.f, .int .i64 x.t]
abbrev Tk.row (x : Tk) : Array Value := #[.int .i64 x.k, .int .i64 x.n, .string x.s, .int .i64 x.f, .int .i64 x.t]
abbrev Tk.val (x : Tk) : Value := .agg x.row

/-- The token at i, where neither a blank nor a comment is; or what is wrong. -/
def on (s : ByteArray) (i : Nat) : Tk × Int :=
  if isL (B s i) = true then
    if 16 < run isN s i - i then (tk0, 3) else (⟨if isW (s.extract i (run isN s i)) = true then 3 else 1, 0, s.extract i (run isN s i), i, (run isN s i : Nat)⟩, 0)
  else if isD (B s i) = true then
    match num (s.extract i (run isD s i)) with
    | none => (tk0, 5)
    | some n => (⟨2, n, ⟨#[]⟩, i, (run isD s i : Nat)⟩, 0)
  else if sgN s i = 0 then (tk0, 4) else (⟨4, 0, s.extract i (i + sgN s i), i, (i + sgN s i : Nat)⟩, 0)

theorem tk_name {s : ByteArray} {i : Nat} (h : isL (B s i) = true) (h2 : ¬ 16 < run isN s i - i) : on s i = (⟨if isW (s.extract i (run isN s i)) = true then 3 else 1, 0, s.extract i (run isN s i), i, (run isN s i : Nat)⟩, 0) := by
  unfold on; rw [if_pos h, if_neg h2]
theorem tk_long {s : ByteArray} {i : Nat} (h : isL (B s i) = true) (h2 : 16 < run isN s i - i) : on s i = (tk0, 3) := by
  unfold on; rw [if_pos h, if_pos h2]
theorem tk_number {s : ByteArray} {i : Nat} {n : Int} (h : isL (B s i) = false) (h1 : isD (B s i) = true) (h2 : num (s.extract i (run isD s i)) = some n) : on s i = (⟨2, n, ⟨#[]⟩, i, (run isD s i : Nat)⟩, 0) := by
  unfold on; rw [if_neg (by rw [h]; decide), if_pos h1, h2]
theorem tk_nonum {s : ByteArray} {i : Nat} (h : isL (B s i) = false) (h1 : isD (B s i) = true) (h2 : num (s.extract i (run isD s i)) = none) : on s i = (tk0, 5) := by
  unfold on; rw [if_neg (by rw [h]; decide), if_pos h1, h2]
theorem tk_sign {s : ByteArray} {i : Nat} (h : isL (B s i) = false) (h1 : isD (B s i) = false) (h2 : ¬ sgN s i = 0) : on s i = (⟨4, 0, s.extract i (i + sgN s i), i, (i + sgN s i : Nat)⟩, 0) := by
  unfold on; rw [if_neg (by rw [h]; decide), if_neg (by rw [h1]; decide), if_neg h2]
theorem tk_none {s : ByteArray} {i : Nat} (h : isL (B s i) = false) (h1 : isD (B s i) = false) (h2 : sgN s i = 0) : on s i = (tk0, 4) := by
  unfold on; rw [if_neg (by rw [h]; decide), if_neg (by rw [h1]; decide), if_pos h2]

theorem size_cut (s : ByteArray) (i j : Nat) (h : i ≤ j) (h2 : j ≤ s.size) : (s.extract i j).size = j - i := by
  rw [ByteArray.size_extract]
  omega
theorem txt_mk (l : List UInt8) : txt (mkB l) = l.map (fun b => (b.toNat : Int)) := by
  unfold txt mkB
  rw [List.toList_toArray]
theorem mk_size (l : List UInt8) : (mkB l).size = l.length := by
  unfold mkB
  simp [ByteArray.size]
/-- A sign of one byte. -/
theorem at_one {s : ByteArray} {i : Nat} {b : UInt8} : at' s i (mkB [b]) = true ↔ i < s.size ∧ B s i = (b.toNat : Int) := by
  have hz : (mkB [b]).size = 1 := mk_size _
  constructor
  · intro h
    have h1 := (of_decide_eq_true h).1
    have h2 := at_byte h (j := 0) (by omega)
    refine ⟨by omega, ?_⟩
    rw [Nat.add_zero] at h2
    rw [← h2, B, txt_mk]
    rfl
  · rintro ⟨h1, h2⟩
    refine decide_eq_true ⟨by omega, ?_⟩
    apply txt_inj
    rw [txt_cut, hz, show i + 1 - i = 1 by omega, txt_mk]
    have h3 : i < (txt s).length := by rw [txt_len]; exact h1
    rw [List.drop_eq_getElem_cons h3, List.take_succ_cons, List.take_zero]
    have h4 : (txt s)[i] = B s i := by unfold B; rw [List.getD_eq_getElem?_getD, List.getElem?_eq_getElem h3]; rfl
    rw [h4, h2]
    rfl
theorem sg_le {s : ByteArray} {i : Nat} (hi : i < s.size) : i + sgN s i ≤ s.size := by
  unfold sgN
  split
  · rename_i h
    rw [List.any_eq_true] at h
    obtain ⟨l, hl, h⟩ := h
    have h1 := (of_decide_eq_true h).1
    rw [mk_size] at h1
    have one : ∀ l ∈ twoL, l.length = 2 := by decide
    have := one l hl
    omega
  · split <;> omega
/-- All signs, the longer ones ahead. -/
def signL : List (List UInt8) := twoL ++ oneL.map (fun b => [b])
theorem sg_find {s : ByteArray} {i : Nat} (hi : i < s.size) : signL.find? (fun l => at' s i (mkB l)) = if sgN s i = 0 then none else some (s.extract i (i + sgN s i)).data.toList := by
  have one : ∀ l ∈ twoL, l.length = 2 := by decide
  have hcut : ∀ l, at' s i (mkB l) = true → (s.extract i (i + l.length)).data.toList = l := fun l h => by
    have := (of_decide_eq_true h).2
    rw [mk_size] at this
    rw [this]
    show l.toArray.toList = l
    rfl
  unfold signL
  rw [List.find?_append]
  by_cases h : twoL.any (fun l => at' s i (mkB l)) = true
  · have h0 := h
    rw [List.any_eq_true] at h0
    have h1 : (twoL.find? (fun l => at' s i (mkB l))).isSome = true := by rw [List.find?_isSome]; exact h0
    obtain ⟨l, hl⟩ := Option.isSome_iff_exists.1 h1
    have h2 := List.find?_some hl
    have h3 := one l (List.mem_of_find?_eq_some hl)
    have h4 : sgN s i = 2 := by unfold sgN; rw [if_pos h]
    rw [hl, h4, ← h3, hcut l h2, if_neg (by omega)]
    rfl
  · have h1 : twoL.find? (fun l => at' s i (mkB l)) = none := by
      rw [List.find?_eq_none]
      intro l hl hc
      exact h (List.any_eq_true.2 ⟨l, hl, hc⟩)
    rw [h1, Option.none_or]
    by_cases h2 : oneL.any (fun b => B s i == (b.toNat : Int)) = true
    · have h3 : sgN s i = 1 := by unfold sgN; rw [if_neg h, if_pos h2]
      have h4 : ((oneL.map (fun b => [b])).find? (fun l => at' s i (mkB l))).isSome = true := by
        rw [List.find?_isSome]
        rw [List.any_eq_true] at h2
        obtain ⟨b, hb, he⟩ := h2
        exact ⟨[b], List.mem_map_of_mem hb, at_one.2 ⟨hi, by simpa using he⟩⟩
      obtain ⟨l, hl⟩ := Option.isSome_iff_exists.1 h4
      have h5 := List.find?_some hl
      have h6 := List.mem_of_find?_eq_some hl
      rw [List.mem_map] at h6
      obtain ⟨b, _, rfl⟩ := h6
      have h7 := hcut [b] h5
      rw [hl, h3, if_neg (by omega)]
      rw [show i + [b].length = i + 1 from rfl] at h7
      rw [h7]
    · have h3 : sgN s i = 0 := by unfold sgN; rw [if_neg h, if_neg h2]
      rw [h3, if_pos rfl, List.find?_eq_none]
      intro l hl hc
      rw [List.mem_map] at hl
      obtain ⟨b, hb, rfl⟩ := hl
      have := at_one.1 hc
      exact h2 (List.any_eq_true.2 ⟨b, hb, by simpa using this.2⟩)
end Go.Proofs.YtlfhdjlgjekcpaaDoor.lx
