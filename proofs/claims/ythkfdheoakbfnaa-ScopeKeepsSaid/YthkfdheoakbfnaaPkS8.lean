import Derived.Lib.ParseIntBTie
import Derived.Lib.ItoaMem
import Derived.Test.YthkfdheoakbfnaaPkS0
import Derived.Laws.Rows
import Derived.Deep.AppendLies
import Derived.Test.YthkfdheoakbfnaaPkS2
import Derived.Test.YthkfdheoakbfnaaProg
import Derived.Laws.Tables
import Derived.BigQuiet
import Derived.Deep.CutRange
import Derived.Deep.RegionHeldLaw
import Derived.OwnWalk
section
namespace Go.Proofs.Ythkfdheoakbfnaa.lx
open Go.ChangeShapes Go.WideShapes Go.ChangeAt Go.RowKit
open bs
set_option linter.unusedVariables false
def isL (c : Int) : Bool := decide ((65 ≤ c ∧ c ≤ 90) ∨ (97 ≤ c ∧ c ≤ 122) ∨ c = 95)
def isD (c : Int) : Bool := decide (48 ≤ c ∧ c ≤ 57)
def isB (c : Int) : Bool := decide (c = 32 ∨ c = 9 ∨ c = 10 ∨ c = 13)
def isN (c : Int) : Bool := isL c || isD c
def isC (c : Int) : Bool := decide (c ≠ 10)
def B (s : ByteArray) (i : Nat) : Int := (txt s).getD i 0
theorem b_at (s : ByteArray) (i : Nat) (h : i < s.size) : ((s[i]).toNat : Int) = B s i := txt_at s i h
def run (p : Int → Bool) (s : ByteArray) (i : Nat) : Nat := lead (fun j => p (B s j)) (s.size - i) i
theorem run_bd (p : Int → Bool) (s : ByteArray) (i : Nat) (h : i ≤ s.size) : i ≤ run p s i ∧ run p s i ≤ s.size := by
  have := lead_bd (fun j => p (B s j)) (s.size - i) i
  unfold run
  omega
theorem run_yes {p : Int → Bool} {s : ByteArray} {i : Nat} (h : i < s.size) (hp : p (B s i) = true) : run p s i = run p s (i + 1) := by
  unfold run
  rw [show s.size - i = (s.size - (i + 1)) + 1 by omega]
  exact lead_yes (fun j => p (B s j)) _ _ hp
theorem run_no {p : Int → Bool} {s : ByteArray} {i : Nat} (hp : p (B s i) = false) : run p s i = i := lead_no (fun j => p (B s j)) _ _ hp
theorem run_end {p : Int → Bool} {s : ByteArray} {i : Nat} (h : s.size ≤ i) : run p s i = i := by
  unfold run
  rw [show s.size - i = 0 by omega]
  rfl
theorem run_all {p : Int → Bool} {s : ByteArray} {i j : Nat} (h1 : i ≤ j) (h2 : j < run p s i) : p (B s j) = true := lead_all (fun j => p (B s j)) _ _ _ h1 h2
def at' (s : ByteArray) (i : Nat) (w : ByteArray) : Bool := decide (i + w.size ≤ s.size ∧ s.extract i (i + w.size) = w)
end Go.Proofs.Ythkfdheoakbfnaa.lx
namespace Go.Proofs.Ythkfdheoakbfnaa.lx
open Go.ChangeShapes Go.WideShapes Go.ChangeAt Go.RowKit
open bs
set_option linter.unusedVariables false
theorem txt_cut (s : ByteArray) (i j : Nat) : txt (s.extract i j) = ((txt s).drop i).take (j - i) := by
  have e : (s.extract i j).data = s.data.extract i j := ByteArray.data_extract
  unfold txt
  rw [e, Array.toList_extract, List.extract_eq_take_drop, List.map_take, List.map_drop]
theorem b_cut {s : ByteArray} {i j k : Nat} (h : i + k < j) : B (s.extract i j) k = B s (i + k) := by
  unfold B
  rw [txt_cut, List.getD_eq_getElem?_getD, List.getD_eq_getElem?_getD, List.getElem?_take, if_pos (by omega), List.getElem?_drop]
theorem at_byte {s : ByteArray} {i : Nat} {v : ByteArray} (h : at' s i v = true) {j : Nat} (hj : j < v.size) : B v j = B s (i + j) := by
  have := (of_decide_eq_true h).2
  rw [← b_cut (s := s) (i := i) (j := i + v.size) (k := j) (by omega), this]
def cc : ByteArray := ⟨#[47, 47]⟩
theorem cc_at {s : ByteArray} {i : Nat} (h : at' s i cc = true) : i + 2 ≤ s.size ∧ B s i = 47 := by
  refine ⟨(of_decide_eq_true h).1, ?_⟩
  have := at_byte h (j := 0) (by decide)
  rw [Nat.add_zero] at this
  rw [← this]
  decide
theorem cc_run {s : ByteArray} {i : Nat} (h : at' s i cc = true) : i < run isC s i := by
  have h1 := cc_at h
  have h2 : isC (B s i) = true := by rw [h1.2]; decide
  rw [run_yes (by omega) h2]
  have := run_bd isC s (i + 1) (by omega)
  omega
def nx (s : ByteArray) (i : Nat) : Nat :=
  if h : i < s.size then
    if isB (B s i) = true then nx s (i + 1)
    else if h2 : at' s i cc = true then nx s (run isC s i)
    else i
  else i
termination_by s.size - i
decreasing_by
  · omega
  · have := cc_run h2; omega
theorem nx_blank {s : ByteArray} {i : Nat} (h : i < s.size) (hb : isB (B s i) = true) : nx s i = nx s (i + 1) := by
  rw [nx, dif_pos h, if_pos hb]
theorem nx_comment {s : ByteArray} {i : Nat} (h : i < s.size) (hb : isB (B s i) = false) (hc : at' s i cc = true) : nx s i = nx s (run isC s i) := by
  rw [nx, dif_pos h, if_neg (by rw [hb]; decide), dif_pos hc]
theorem nx_stop {s : ByteArray} {i : Nat} (hb : isB (B s i) = false) (hc : at' s i cc = false) : nx s i = i := by
  rw [nx]
  split
  · rw [if_neg (by rw [hb]; decide), dif_neg (by rw [hc]; decide)]
  · rfl
theorem nx_end {s : ByteArray} {i : Nat} (h : s.size ≤ i) : nx s i = i := by
  rw [nx, dif_neg (by omega)]
theorem nx_bd (s : ByteArray) : ∀ (n i : Nat), s.size - i ≤ n → i ≤ s.size → i ≤ nx s i ∧ nx s i ≤ s.size := by
  intro n
  induction n with
  | zero =>
    intro i h h2
    rw [nx_end (by omega)]
    omega
  | succ n ih =>
    intro i h h2
    by_cases hi : i < s.size
    · rcases Bool.eq_false_or_eq_true (isB (B s i)) with hb | hb
      · rw [nx_blank hi hb]
        have := ih (i + 1) (by omega) (by omega)
        omega
      · rcases Bool.eq_false_or_eq_true (at' s i cc) with hc | hc
        · rw [nx_comment hi hb hc]
          have h3 := cc_run hc
          have h4 := run_bd isC s i (by omega)
          have := ih (run isC s i) (by omega) (by omega)
          omega
        · rw [nx_stop hb hc]
          omega
    · rw [nx_end (by omega)]
      omega
theorem nx_le {s : ByteArray} {i : Nat} (h : i ≤ s.size) : i ≤ nx s i ∧ nx s i ≤ s.size := nx_bd s _ i (Nat.le_refl _) h
theorem nx_at (s : ByteArray) : ∀ (n i : Nat), s.size - i ≤ n → nx s i < s.size → isB (B s (nx s i)) = false ∧ at' s (nx s i) cc = false := by
  intro n
  induction n with
  | zero =>
    intro i h h2
    rw [nx_end (by omega)] at h2
    omega
  | succ n ih =>
    intro i h h2
    by_cases hi : i < s.size
    · rcases Bool.eq_false_or_eq_true (isB (B s i)) with hb | hb
      · rw [nx_blank hi hb] at h2 ⊢
        exact ih (i + 1) (by omega) h2
      · rcases Bool.eq_false_or_eq_true (at' s i cc) with hc | hc
        · rw [nx_comment hi hb hc] at h2 ⊢
          have h3 := cc_run hc
          exact ih (run isC s i) (by omega) h2
        · rw [nx_stop hb hc]
          exact ⟨hb, hc⟩
    · rw [nx_end (by omega)] at h2
      omega
theorem nx_idem {s : ByteArray} {i : Nat} (h : i ≤ s.size) : nx s (nx s i) = nx s i := by
  have h1 := nx_le h
  rcases Nat.lt_or_ge (nx s i) s.size with h2 | h2
  · have h3 := nx_at s _ i (Nat.le_refl _) h2
    exact nx_stop h3.1 h3.2
  · exact nx_end h2
end Go.Proofs.Ythkfdheoakbfnaa.lx
namespace Go.Proofs.Ythkfdheoakbfnaa.lx
open Go.ChangeShapes Go.WideShapes Go.ChangeAt Go.RowKit
open bs
set_option linter.unusedVariables false
def wordL : List (List UInt8) := [[114, 101, 99], [99, 111, 110, 115, 116], [118, 97, 114], [112, 117, 98], [102, 110], [105, 110, 116], [98, 111, 111, 108], [108, 101, 116], [105, 102], [101, 108, 115, 101], [119, 104, 105, 108, 101], [102, 111, 114], [116, 111], [112, 114, 105, 110, 116], [114, 101, 116, 117, 114, 110], [100, 111], [116, 114, 117, 101], [102, 97, 108, 115, 101], [114, 101, 97, 100], [110, 101, 119]]
def isW (v : ByteArray) : Bool := wordL.any (fun l => v.toList == l)
def mkB (l : List UInt8) : ByteArray := ⟨l.toArray⟩
def twoL : List (List UInt8) := [[61, 61], [33, 61], [60, 61], [62, 61], [38, 38], [124, 124]]
def oneL : List UInt8 := [123, 125, 40, 41, 91, 93, 44, 59, 58, 46, 61, 60, 62, 43, 45, 42, 47, 37, 33, 64]
def sgN (s : ByteArray) (i : Nat) : Nat :=
  if twoL.any (fun l => at' s i (mkB l)) then 2 else if oneL.any (fun b => B s i == (b.toNat : Int)) then 1 else 0
def numV (acc : Int) : List Int → Option Int
  | [] => some acc
  | c :: r => if (9223372036854775807 - (c - 48)) / 10 < acc then none else numV (acc * 10 + (c - 48)) r
def num (v : ByteArray) : Option Int := if v.size = 0 ∨ (1 < v.size ∧ B v 0 = 48) then none else numV 0 (txt v)
structure Tk where
  k : Int
  n : Int
  s : ByteArray
  f : Int
  t : Int
def tk0 : Tk := ⟨0, 0, ⟨#[]⟩, 0, 0⟩
def Tk.cells (x : Tk) : List Value := [.int .i64 x.k, .int .i64 x.n, .string x.s, .int .i64 x.f, .int .i64 x.t]
abbrev Tk.row (x : Tk) : Array Value := #[.int .i64 x.k, .int .i64 x.n, .string x.s, .int .i64 x.f, .int .i64 x.t]
abbrev Tk.val (x : Tk) : Value := .agg x.row
def on (s : ByteArray) (i : Nat) : Tk × Int :=
  if isL (B s i) = true then
    if 16 < run isN s i - i then (tk0, 3) else (⟨if isW (s.extract i (run isN s i)) = true then 3 else 1, 0, s.extract i (run isN s i), i, (run isN s i : Nat)⟩, 0)
  else if isD (B s i) = true then
    match num (s.extract i (run isD s i)) with
    | none => (tk0, 5)
    | some n => (⟨2, n, ⟨#[]⟩, i, (run isD s i : Nat)⟩, 0)
  else if sgN s i = 0 then (tk0, 4) else (⟨4, 0, s.extract i (i + sgN s i), i, (i + sgN s i : Nat)⟩, 0)
theorem tk_name {s : ByteArray} {i : Nat} (h : isL (B s i) = true) (h2 : ¬ 16 < run isN s i - i) : on s i = (⟨if isW (s.extract i (run isN s i)) = true then 3 else 1, 0, s.extract i (run isN s i), i, (run isN s i : Nat)⟩, 0) := by
  unfold on; rw [if_pos h, if_neg h2]
theorem tk_long {s : ByteArray} {i : Nat} (h : isL (B s i) = true) (h2 : 16 < run isN s i - i) : on s i = (tk0, 3) := by
  unfold on; rw [if_pos h, if_pos h2]
theorem tk_number {s : ByteArray} {i : Nat} {n : Int} (h : isL (B s i) = false) (h1 : isD (B s i) = true) (h2 : num (s.extract i (run isD s i)) = some n) : on s i = (⟨2, n, ⟨#[]⟩, i, (run isD s i : Nat)⟩, 0) := by
  unfold on; rw [if_neg (by rw [h]; decide), if_pos h1, h2]
theorem tk_nonum {s : ByteArray} {i : Nat} (h : isL (B s i) = false) (h1 : isD (B s i) = true) (h2 : num (s.extract i (run isD s i)) = none) : on s i = (tk0, 5) := by
  unfold on; rw [if_neg (by rw [h]; decide), if_pos h1, h2]
theorem tk_sign {s : ByteArray} {i : Nat} (h : isL (B s i) = false) (h1 : isD (B s i) = false) (h2 : ¬ sgN s i = 0) : on s i = (⟨4, 0, s.extract i (i + sgN s i), i, (i + sgN s i : Nat)⟩, 0) := by
  unfold on; rw [if_neg (by rw [h]; decide), if_neg (by rw [h1]; decide), if_neg h2]
theorem tk_none {s : ByteArray} {i : Nat} (h : isL (B s i) = false) (h1 : isD (B s i) = false) (h2 : sgN s i = 0) : on s i = (tk0, 4) := by
  unfold on; rw [if_neg (by rw [h]; decide), if_neg (by rw [h1]; decide), if_pos h2]
theorem size_cut (s : ByteArray) (i j : Nat) (h : i ≤ j) (h2 : j ≤ s.size) : (s.extract i j).size = j - i := by
  rw [ByteArray.size_extract]
  omega
theorem txt_mk (l : List UInt8) : txt (mkB l) = l.map (fun b => (b.toNat : Int)) := by
  unfold txt mkB
  rw [List.toList_toArray]
theorem mk_size (l : List UInt8) : (mkB l).size = l.length := by
  unfold mkB
  simp [ByteArray.size]
theorem at_one {s : ByteArray} {i : Nat} {b : UInt8} : at' s i (mkB [b]) = true ↔ i < s.size ∧ B s i = (b.toNat : Int) := by
  have hz : (mkB [b]).size = 1 := mk_size _
  constructor
  · intro h
    have h1 := (of_decide_eq_true h).1
    have h2 := at_byte h (j := 0) (by omega)
    refine ⟨by omega, ?_⟩
    rw [Nat.add_zero] at h2
    rw [← h2, B, txt_mk]
    rfl
  · rintro ⟨h1, h2⟩
    refine decide_eq_true ⟨by omega, ?_⟩
    apply txt_inj
    rw [txt_cut, hz, show i + 1 - i = 1 by omega, txt_mk]
    have h3 : i < (txt s).length := by rw [txt_len]; exact h1
    rw [List.drop_eq_getElem_cons h3, List.take_succ_cons, List.take_zero]
    have h4 : (txt s)[i] = B s i := by unfold B; rw [List.getD_eq_getElem?_getD, List.getElem?_eq_getElem h3]; rfl
    rw [h4, h2]
    rfl
theorem sg_le {s : ByteArray} {i : Nat} (hi : i < s.size) : i + sgN s i ≤ s.size := by
  unfold sgN
  split
  · rename_i h
    rw [List.any_eq_true] at h
    obtain ⟨l, hl, h⟩ := h
    have h1 := (of_decide_eq_true h).1
    rw [mk_size] at h1
    have one : ∀ l ∈ twoL, l.length = 2 := by decide
    have := one l hl
    omega
  · split <;> omega
def signL : List (List UInt8) := twoL ++ oneL.map (fun b => [b])
theorem sg_find {s : ByteArray} {i : Nat} (hi : i < s.size) : signL.find? (fun l => at' s i (mkB l)) = if sgN s i = 0 then none else some (s.extract i (i + sgN s i)).data.toList := by
  have one : ∀ l ∈ twoL, l.length = 2 := by decide
  have hcut : ∀ l, at' s i (mkB l) = true → (s.extract i (i + l.length)).data.toList = l := fun l h => by
    have := (of_decide_eq_true h).2
    rw [mk_size] at this
    rw [this]
    show l.toArray.toList = l
    rfl
  unfold signL
  rw [List.find?_append]
  by_cases h : twoL.any (fun l => at' s i (mkB l)) = true
  · have h0 := h
    rw [List.any_eq_true] at h0
    have h1 : (twoL.find? (fun l => at' s i (mkB l))).isSome = true := by rw [List.find?_isSome]; exact h0
    obtain ⟨l, hl⟩ := Option.isSome_iff_exists.1 h1
    have h2 := List.find?_some hl
    have h3 := one l (List.mem_of_find?_eq_some hl)
    have h4 : sgN s i = 2 := by unfold sgN; rw [if_pos h]
    rw [hl, h4, ← h3, hcut l h2, if_neg (by omega)]
    rfl
  · have h1 : twoL.find? (fun l => at' s i (mkB l)) = none := by
      rw [List.find?_eq_none]
      intro l hl hc
      exact h (List.any_eq_true.2 ⟨l, hl, hc⟩)
    rw [h1, Option.none_or]
    by_cases h2 : oneL.any (fun b => B s i == (b.toNat : Int)) = true
    · have h3 : sgN s i = 1 := by unfold sgN; rw [if_neg h, if_pos h2]
      have h4 : ((oneL.map (fun b => [b])).find? (fun l => at' s i (mkB l))).isSome = true := by
        rw [List.find?_isSome]
        rw [List.any_eq_true] at h2
        obtain ⟨b, hb, he⟩ := h2
        exact ⟨[b], List.mem_map_of_mem hb, at_one.2 ⟨hi, by simpa using he⟩⟩
      obtain ⟨l, hl⟩ := Option.isSome_iff_exists.1 h4
      have h5 := List.find?_some hl
      have h6 := List.mem_of_find?_eq_some hl
      rw [List.mem_map] at h6
      obtain ⟨b, _, rfl⟩ := h6
      have h7 := hcut [b] h5
      rw [hl, h3, if_neg (by omega)]
      rw [show i + [b].length = i + 1 from rfl] at h7
      rw [h7]
    · have h3 : sgN s i = 0 := by unfold sgN; rw [if_neg h, if_neg h2]
      rw [h3, if_pos rfl, List.find?_eq_none]
      intro l hl hc
      rw [List.mem_map] at hl
      obtain ⟨b, hb, rfl⟩ := hl
      have := at_one.1 hc
      exact h2 (List.any_eq_true.2 ⟨b, hb, by simpa using this.2⟩)
end Go.Proofs.Ythkfdheoakbfnaa.lx
namespace Go.Proofs.Ythkfdheoakbfnaa.lx
open Go.ChangeShapes Go.WideShapes Go.ChangeAt Go.RowKit
open bs
set_option linter.unusedVariables false
def valF (acc : Nat) : List UInt8 → Nat
  | [] => acc
  | c :: r => valF (acc * 10 + (c.toNat - 48)) r
def Dig (l : List UInt8) : Prop := ∀ c ∈ l, 48 ≤ c.toNat ∧ c.toNat ≤ 57
theorem val_ge : ∀ (l : List UInt8) (acc : Nat), acc ≤ valF acc l
  | [], acc => Nat.le_refl _
  | c :: r, acc => by
    have := val_ge r (acc * 10 + (c.toNat - 48))
    show acc ≤ valF (acc * 10 + (c.toNat - 48)) r
    omega
theorem numV_dig : ∀ (l : List UInt8) (acc : Nat), Dig l → acc < 9223372036854775808 → numV acc (l.map fun b => (b.toNat : Int)) = if valF acc l < 9223372036854775808 then some ((valF acc l : Nat) : Int) else none
  | [], acc, _, h => by
    have e : numV acc (([] : List UInt8).map fun b => (b.toNat : Int)) = some (acc : Int) := rfl
    rw [e]
    exact (if_pos h).symm
  | c :: r, acc, hd, h => by
    have hc := hd c (List.mem_cons_self ..)
    have hr : Dig r := fun x hx => hd x (List.mem_cons_of_mem _ hx)
    have hge := val_ge r (acc * 10 + (c.toNat - 48))
    rw [List.map_cons, numV]
    show _ = if valF (acc * 10 + (c.toNat - 48)) r < _ then some ((valF (acc * 10 + (c.toNat - 48)) r : Nat) : Int) else _
    split
    · rw [if_neg (by omega)]
    · rw [show (acc : Int) * 10 + ((c.toNat : Int) - 48) = ((acc * 10 + (c.toNat - 48) : Nat) : Int) by omega]
      exact numV_dig r _ hr (by omega)
theorem dig_cut {s : ByteArray} {i : Nat} (hi : i ≤ s.size) : Dig (s.extract i (run isD s i)).data.toList := by
  intro c hc
  have hr := run_bd isD s i hi
  obtain ⟨j, hj, he⟩ := List.getElem_of_mem hc
  have hsz := size_cut s i (run isD s i) hr.1 hr.2
  have hj' : j < run isD s i - i := by
    rw [Array.length_toList] at hj
    have : (s.extract i (run isD s i)).data.size = (s.extract i (run isD s i)).size := rfl
    omega
  have h1 := run_all (p := isD) (s := s) (i := i) (j := i + j) (by omega) (by omega)
  have h2 : B (s.extract i (run isD s i)) j = B s (i + j) := b_cut (by omega)
  rw [← h2] at h1
  have h3 : B (s.extract i (run isD s i)) j = (c.toNat : Int) := by
    unfold B txt
    rw [List.getD_eq_getElem?_getD, List.getElem?_map, List.getElem?_eq_getElem hj, he]
    rfl
  rw [h3] at h1
  have := of_decide_eq_true h1
  omega
end Go.Proofs.Ythkfdheoakbfnaa.lx
namespace Go.Proofs.Ythkfdheoakbfnaa.lx
open Go.ChangeShapes Go.WideShapes Go.ChangeAt Go.RowKit
open bs
set_option linter.unusedVariables false
theorem on_to {s : ByteArray} {i : Nat} (hi : i < s.size) (h : (on s i).2 = 0) : (on s i).1.f = (i : Int) ∧ ∃ j : Nat, (on s i).1.t = (j : Int) ∧ i < j ∧ j ≤ s.size := by
  rcases Bool.eq_false_or_eq_true (isL (B s i)) with hL | hL
  · by_cases h2 : 16 < run isN s i - i
    · rw [tk_long hL h2] at h; cases h
    · rw [tk_name hL h2]
      have h3 := run_bd isN s i (by omega)
      have h4 : i < run isN s i := by
        rw [run_yes hi (by unfold isN; rw [hL]; rfl)]
        have := run_bd isN s (i + 1) (by omega)
        omega
      exact ⟨rfl, _, rfl, h4, h3.2⟩
  · rcases Bool.eq_false_or_eq_true (isD (B s i)) with hD | hD
    · rcases hn : num (s.extract i (run isD s i)) with _ | n
      · rw [tk_nonum hL hD hn] at h; cases h
      · rw [tk_number hL hD hn]
        have h3 := run_bd isD s i (by omega)
        have h4 : i < run isD s i := by
          rw [run_yes hi hD]
          have := run_bd isD s (i + 1) (by omega)
          omega
        exact ⟨rfl, _, rfl, h4, h3.2⟩
    · by_cases h0 : sgN s i = 0
      · rw [tk_none hL hD h0] at h; cases h
      · rw [tk_sign hL hD h0]
        have := sg_le hi
        exact ⟨rfl, _, rfl, by omega, by omega⟩
def tkEnd (s : ByteArray) : Tk := ⟨5, 0, ⟨#[]⟩, s.size, s.size⟩
def toks (s : ByteArray) (i : Nat) : List Tk × Nat × Int :=
  if h : nx s i < s.size ∧ i ≤ s.size then
    if h2 : (on s (nx s i)).2 = 0 then
      let r := toks s (on s (nx s i)).1.t.toNat
      if r.2.2 = 0 then ((on s (nx s i)).1 :: r.1, r.2) else r
    else ([], nx s i, (on s (nx s i)).2)
  else ([tkEnd s], 0, 0)
termination_by s.size - i
decreasing_by
  have h3 := nx_le h.2
  obtain ⟨_, j, h4, h5, h6⟩ := on_to h.1 h2
  rw [h4]
  omega
def app (L : List Tk) (r : List Tk × Nat × Int) : List Tk × Nat × Int := if r.2.2 = 0 then (L ++ r.1, r.2) else r
theorem app_nil (r : List Tk × Nat × Int) : app [] r = r := by unfold app; split <;> rfl
theorem app_end {s : ByteArray} {i : Nat} {L : List Tk} (h : s.size ≤ nx s i) : app L (toks s i) = (L ++ [tkEnd s], 0, 0) := by
  rw [toks, dif_neg (by omega)]
  rfl
theorem app_err {s : ByteArray} {i : Nat} {L : List Tk} (h : nx s i < s.size) (hi : i ≤ s.size) (h2 : ¬ (on s (nx s i)).2 = 0) : app L (toks s i) = ([], nx s i, (on s (nx s i)).2) := by
  rw [toks, dif_pos ⟨h, hi⟩, dif_neg h2]
  unfold app
  rw [if_neg h2]
theorem app_step {s : ByteArray} {i : Nat} {L : List Tk} (h : nx s i < s.size) (hi : i ≤ s.size) (h2 : (on s (nx s i)).2 = 0) : app L (toks s i) = app (L ++ [(on s (nx s i)).1]) (toks s (on s (nx s i)).1.t.toNat) := by
  rw [toks, dif_pos ⟨h, hi⟩, dif_pos h2]
  simp only
  unfold app
  by_cases h3 : (toks s (on s (nx s i)).1.t.toNat).2.2 = 0
  · rw [if_pos h3, if_pos h3, if_pos h3]
    simp
  · rw [if_neg h3, if_neg h3, if_neg h3]
theorem toks_nx {s : ByteArray} {i : Nat} (hi : i ≤ s.size) : toks s (nx s i) = toks s i := by
  have h1 := nx_le hi
  have e1 : app [] (toks s (nx s i)) = app [] (toks s i) := by
    by_cases h : nx s i < s.size
    · have h' : nx s (nx s i) < s.size := by rw [nx_idem hi]; exact h
      by_cases h2 : (on s (nx s i)).2 = 0
      · have h2' : (on s (nx s (nx s i))).2 = 0 := by rw [nx_idem hi]; exact h2
        rw [app_step h' h1.2 h2', app_step h hi h2, nx_idem hi]
      · have h2' : ¬ (on s (nx s (nx s i))).2 = 0 := by rw [nx_idem hi]; exact h2
        rw [app_err h' h1.2 h2', app_err h hi h2, nx_idem hi]
    · rw [app_end (by rw [nx_idem hi]; omega), app_end (by omega)]
  rwa [app_nil, app_nil] at e1
def tokens (s : ByteArray) : List Tk × Nat × Int := if 8192 < s.size then ([], 0, 3) else toks s 0
end Go.Proofs.Ythkfdheoakbfnaa.lx
namespace Go.Proofs.Ythkfdheoakbfnaa.lx
open Go.ChangeShapes Go.WideShapes Go.ChangeAt Go.RowKit
open bs
set_option linter.unusedVariables false
theorem dec_small {u : Nat} (h : u < 10) : Lib.decDigits u = [UInt8.ofNat (48 + u)] := by rw [Lib.decDigits, dif_pos h]
theorem dec_big {u : Nat} (h : ¬ u < 10) : Lib.decDigits u = Lib.decDigits (u / 10) ++ [UInt8.ofNat (48 + u % 10)] := by rw [Lib.decDigits, dif_neg h]
theorem val_snoc : ∀ (l : List UInt8) (acc : Nat) (c : UInt8), valF acc (l ++ [c]) = valF acc l * 10 + (c.toNat - 48)
  | [], acc, c => rfl
  | x :: l, acc, c => by
    show valF (acc * 10 + (x.toNat - 48)) (l ++ [c]) = _
    rw [val_snoc]
    rfl
theorem dec_of (l : List UInt8) (hd : Dig l) (hne : l ≠ []) (h : l.length = 1 ∨ ∀ c r, l = c :: r → c.toNat ≠ 48) : Lib.decDigits (valF 0 l) = l := by
  induction hn : l.length using Nat.strongRecOn generalizing l with
  | _ n ih =>
    subst hn
    rcases List.eq_nil_or_concat l with rfl | ⟨m, c, rfl⟩
    · exact absurd rfl hne
    · rw [List.concat_eq_append] at *
      have hc := hd c (List.mem_append.2 (.inr (List.mem_singleton.2 rfl)))
      have hc8 : UInt8.ofNat (48 + (c.toNat - 48)) = c := by
        rw [show 48 + (c.toNat - 48) = c.toNat by omega]
        exact UInt8.ofNat_toNat
      rw [val_snoc]
      by_cases hm : m = []
      · subst hm
        show Lib.decDigits (0 * 10 + (c.toNat - 48)) = [c]
        rw [Nat.zero_mul, Nat.zero_add, dec_small (by omega), hc8]
      · obtain ⟨x, r, rfl⟩ := List.exists_cons_of_ne_nil hm
        have hx : x.toNat ≠ 48 := by
          rcases h with h | h
          · simp at h
          · exact h x (r ++ [c]) rfl
        have hdm : Dig (x :: r) := fun y hy => hd y (List.mem_append.2 (.inl hy))
        have hv := ih (x :: r).length (by simp) (x :: r) hdm (by simp) (.inr (fun c' r' e => by rw [← (List.cons.inj e).1]; exact hx)) rfl
        have hpos : ¬ valF 0 (x :: r) * 10 + (c.toNat - 48) < 10 := by
          have hx1 := hdm x (List.mem_cons_self ..)
          have := val_ge r (0 * 10 + (x.toNat - 48))
          have e : valF 0 (x :: r) = valF (0 * 10 + (x.toNat - 48)) r := rfl
          omega
        rw [dec_big hpos, show (valF 0 (x :: r) * 10 + (c.toNat - 48)) / 10 = valF 0 (x :: r) by omega, show (valF 0 (x :: r) * 10 + (c.toNat - 48)) % 10 = c.toNat - 48 by omega, hv, hc8]
def numT (n : Int) : ByteArray := mkB (Lib.itoa n)
theorem numT_nat (u : Nat) : numT (u : Int) = mkB (Lib.decDigits u) := by unfold numT; rw [Lib.itoa_nonneg]
theorem mk_of (v : ByteArray) : mkB v.data.toList = v := rfl
theorem b_mk (l : List UInt8) (k : Nat) (h : k < l.length) : B (mkB l) k = ((l[k]).toNat : Int) := by
  unfold B
  rw [txt_mk, List.getD_eq_getElem?_getD, List.getElem?_map, List.getElem?_eq_getElem h]
  rfl
theorem num_spell {v : ByteArray} {n : Int} (hd : Dig v.data.toList) (h : num v = some n) : numT n = v ∧ 0 ≤ n ∧ n ≤ 9223372036854775807 := by
  unfold num at h
  split at h
  · cases h
  · rename_i hc
    have hsz : v.data.toList.length = v.size := by rw [Array.length_toList]; rfl
    have h2 := numV_dig v.data.toList 0 hd (by omega)
    have e : txt v = v.data.toList.map (fun b => (b.toNat : Int)) := rfl
    rw [e] at h
    rw [show ((0 : Nat) : Int) = 0 from rfl, h] at h2
    by_cases hb : valF 0 v.data.toList < 9223372036854775808
    · rw [if_pos hb] at h2
      have hn := Option.some.inj h2
      subst hn
      refine ⟨?_, by omega, by omega⟩
      rw [numT_nat, dec_of _ hd (fun e => hc (.inl (by rw [← hsz, e]; rfl)))]
      · exact mk_of v
      · by_cases h1 : v.size = 1
        · exact .inl (by rw [hsz]; exact h1)
        · refine .inr (fun c r e he => hc (.inr ⟨?_, ?_⟩))
          · have : v.size ≠ 0 := fun h0 => hc (.inl h0)
            omega
          · have hl : 0 < v.data.toList.length := by rw [e]; simp
            have hb0 := b_mk v.data.toList 0 hl
            rw [mk_of] at hb0
            rw [hb0]
            simp only [e, List.getElem_cons_zero]
            omega
    · rw [if_neg hb] at h2
      cases h2
end Go.Proofs.Ythkfdheoakbfnaa.lx
namespace Go.Proofs.Ythkfdheoakbfnaa.lx
open Go.ChangeShapes Go.WideShapes Go.ChangeAt Go.RowKit
open bs
set_option linter.unusedVariables false
end Go.Proofs.Ythkfdheoakbfnaa.lx
end
section
namespace Go.Proofs.Ythkfdheoakbfnaa.bs
open Go.ChangeShapes Go.WideShapes Go.ChangeAt Go.RowKit
set_option linter.unusedVariables false
def blockOf : Option Addr → Option Nat
  | some x => some x.block
  | none => none
theorem ownBlock_eq (a : Option Addr) (n c : Nat) : Value.ownBlock (.slice a n c) = blockOf a := by cases a <;> rfl
def Blk (w : World) (g : Nat) (cs : Array Value) (t : TypeId) : Prop := w.heap[g]? = some (.cells cs t (0, 0))
theorem Blk.lt {w : World} {g cs t} (h : Blk w g cs t) : g < w.heap.size := (Array.getElem?_eq_some_iff.1 h).1
theorem Blk.cell {w : World} {g cs t} (h : Blk w g cs t) (i : Nat) : w.cell? ⟨g, i, none⟩ = cs[i]? := cell_of_row w g i cs t _ h
theorem Blk.set {w : World} {g cs t} (h : Blk w g cs t) (i : Nat) (v : Value) : Blk (w.setCell ⟨g, i, none⟩ v) g (cs.setIfInBounds i v) t := heap_setCell_same w g i cs t v h
theorem Blk.new (w : World) (cs : Array Value) (t : TypeId) : Blk (w.alloc (.cells cs t)) w.heap.size cs t := heap_alloc_new w _
theorem Blk.of {w w' : World} {g cs t} (h : Blk w g cs t) (he : w'.heap[g]? = w.heap[g]?) : Blk w' g cs t := by unfold Blk; rw [he]; exact h
theorem Blk.below {w w' : World} {g cs t} (h : Blk w g cs t) (hb : Below w.heap.size w w') : Blk w' g cs t := h.of (hb.block g h.lt)
theorem Blk.drewN {w : World} {g cs t} (h : Blk w g cs t) (m : Nat) : Blk (w.drewN m) g cs t := h
theorem Blk.other {w : World} {g cs t} (h : Blk w g cs t) (p : Addr) (v : Value) (hp : g ≠ p.block) : Blk (w.setCell p v) g cs t := h.of (heap_setCell_other w p g v hp)
structure Turned (w w' : World) (d : Nat) (row : Option Nat) : Prop where
  os : w'.os = w.os
  tape : w'.tape = w.tape
  output : w'.output = w.output
  size : w.heap.size ≤ w'.heap.size
  block : ∀ i, i < w.heap.size → i ≠ d → row ≠ some i → w'.heap[i]? = w.heap[i]?
theorem Turned.of_below {w w' : World} (h : Below w.heap.size w w') (d : Nat) (row : Option Nat) : Turned w w' d row := ⟨h.os, h.tape, h.output, h.size, fun i hi _ _ => h.block i hi⟩
theorem Turned.refl (w : World) (d : Nat) (row : Option Nat) : Turned w w d row := .of_below (Below.refl _ _) d row
theorem Turned.setCell {w w' : World} {d : Nat} {row : Option Nat} (h : Turned w w' d row) (j : Nat) (v : Value) : Turned w (w'.setCell ⟨d, j, none⟩ v) d row :=
  ⟨h.os, h.tape, h.output, by simpa [World.setCell] using h.size, fun i hi hd hr => (Below.heap_setCell w' ⟨d, j, none⟩ v i hd).trans (h.block i hi hd hr)⟩
theorem Turned.drewN {w w' : World} {d : Nat} {row : Option Nat} (h : Turned w w' d row) (m : Nat) : Turned w (w'.drewN m) d row := ⟨h.os, h.tape, h.output, h.size, h.block⟩
theorem Turned.trans {w w' w'' : World} {d : Nat} {row row' : Option Nat} (h : Turned w w' d row) (k : Turned w' w'' d row') (hr : ∀ i, i < w.heap.size → row' = some i → row = some i) : Turned w w'' d row :=
  ⟨k.os.trans h.os, k.tape.trans h.tape, k.output.trans h.output, Nat.le_trans h.size k.size, fun i hi hd hn => (k.block i (Nat.lt_of_lt_of_le hi h.size) hd (fun e => hn (hr i hi e))).trans (h.block i hi hd hn)⟩
theorem Turned.below {w w' : World} {d : Nat} {row : Option Nat} {B : Nat} (h : Turned w w' d row) (hB : B ≤ w.heap.size) (hd : B ≤ d) (hr : ∀ i, row = some i → B ≤ i) : Below B w w' :=
  ⟨h.os, h.tape, h.output, h.size, fun i hi => h.block i (by omega) (by omega) (fun e => by have := hr i e; omega)⟩
theorem OwnB.blockLt {w : World} {base e a n c l} (h : OwnB w base e a n c l) {i : Nat} (hi : blockOf a = some i) : base ≤ i ∧ i < w.heap.size := by
  rcases h.cases with ⟨rfl, _⟩ | ⟨g, rfl, h1, h2, _⟩
  · cases hi
  · cases hi; exact ⟨h1, h2⟩
theorem OwnB.of {w w' : World} {base e a n c l} (h : OwnB w base e a n c l) (hk : ∀ i, blockOf a = some i → w'.heap[i]? = w.heap[i]?) : OwnB w' base e a n c l := by
  rcases h.cases with ⟨rfl, rfl, rfl⟩ | ⟨g, rfl, h1, h2, _⟩
  · exact ⟨⟨h.own.1, .inl ⟨rfl, rfl⟩⟩, h.all⟩
  · exact h.keep (hk g rfl)
theorem OwnB.turned {w w' : World} {base e a n c l} (h : OwnB w base e a n c l) {d : Nat} {row : Option Nat} (ht : Turned w w' d row) (h1 : blockOf a ≠ some d) (h2 : ∀ i, row = some i → blockOf a ≠ some i) : OwnB w' base e a n c l :=
  h.of (fun i hi => ht.block i (h.blockLt hi).2 (fun e => h1 (by rw [hi, e])) (fun e => h2 i e hi))
theorem OwnB.first {w : World} {base e a n c l} (h : OwnB w base e a n c l) (k : Nat) (hk : k ≤ n) : OwnB w base e a k c (l.take k) := by
  have hl := h.len
  refine ⟨⟨by simp [cellsOf]; omega, ?_⟩, fun x hx => h.all x (List.mem_of_mem_take hx)⟩
  rcases h.own.2 with ⟨hv, h0⟩ | ⟨g, cap, cur, hv, hg, hh, hn, hm, hs, ht⟩
  · simp only [Value.slice.injEq] at hv
    obtain ⟨rfl, _, rfl⟩ := hv
    have : k = 0 := by omega
    subst this
    exact .inl ⟨rfl, rfl⟩
  · simp only [Value.slice.injEq] at hv
    obtain ⟨rfl, _, rfl⟩ := hv
    refine .inr ⟨g, c, cur, rfl, hg, hh, by omega, hm, hs, ?_⟩
    rw [Nat.mul_one] at ht ⊢
    rw [cellsOf, List.map_take, ← cellsOf, ← ht, List.take_take, Nat.min_eq_left hk]
section
variable {P : Program} {w : World} {ops : Array Oper} {rest : List Oper} {o : Oper} {a : Act} {Q : Exit → Act → World → Prop}
end
end Go.Proofs.Ythkfdheoakbfnaa.bs
end
section
namespace Go.Proofs.Ythkfdheoakbfnaa.bs
open Go.ChangeShapes Go.WideShapes Go.ChangeAt Go.RowKit
set_option linter.unusedVariables false
structure OwnS {α : Type} (size : Nat) (cells : α → List Value) (w : World) (base : Nat) (e : TypeId) (a : Option Addr) (n c : Nat) (l : List α) : Prop where
  own : w.ownsRow base e size (.slice a n c) n (l.flatMap cells)
  num : l.length = n
variable {α : Type} {size : Nat} {cells : α → List Value}
theorem OwnS.cases {w : World} {base e a n c} {l : List α} (h : OwnS size cells w base e a n c l) : (a = none ∧ n = 0 ∧ c = 0) ∨ ∃ g, a = some ⟨g, 0, none⟩ ∧ base ≤ g ∧ g < w.heap.size ∧ n ≤ c ∧ c ≤ maxLen := by
  rcases h.own.2 with ⟨hv, hn⟩ | ⟨g, cap, cur, hv, hg, hh, hn, hc, _⟩
  · simp only [Value.slice.injEq] at hv
    exact .inl ⟨hv.1, hn, hv.2.2⟩
  · simp only [Value.slice.injEq] at hv
    obtain ⟨rfl, _, rfl⟩ := hv
    exact .inr ⟨g, rfl, hg, (Array.getElem?_eq_some_iff.1 hh).1, hn, hc⟩
theorem OwnS.mono {w : World} {base base' e a n c} {l : List α} (h : OwnS size cells w base e a n c l) (hb : base' ≤ base) : OwnS size cells w base' e a n c l := by
  refine ⟨⟨h.own.1, ?_⟩, h.num⟩
  rcases h.own.2 with hv | ⟨g, cap, cur, hv, hg, r⟩
  · exact .inl hv
  · exact .inr ⟨g, cap, cur, hv, Nat.le_trans hb hg, r⟩
theorem OwnS.below {w w' : World} {base e a n c} {l : List α} (h : OwnS size cells w base e a n c l) (hb : Below w.heap.size w w') : OwnS size cells w' base e a n c l := by
  refine ⟨⟨h.own.1, ?_⟩, h.num⟩
  rcases h.own.2 with hv | ⟨g, cap, cur, hv, hg, hh, r⟩
  · exact .inl hv
  · exact .inr ⟨g, cap, cur, hv, hg, by rw [hb.block g (Array.getElem?_eq_some_iff.1 hh).1]; exact hh, r⟩
theorem OwnS.nil (w : World) (base : Nat) (e : TypeId) : OwnS size cells w base e none 0 0 ([] : List α) := ⟨World.ownsRow_nil w base e size, rfl⟩
theorem flat_at (hz : ∀ x, (cells x).length = size) (l : List α) (i j : Nat) (x : α) (u : Value) (hi : l[i]? = some x) (hj : (cells x)[j]? = some u) : (l.flatMap cells)[i * size + j]? = some u := by
  induction l generalizing i with
  | nil => simp at hi
  | cons y l ih =>
    rw [List.flatMap_cons]
    cases i with
    | zero =>
      simp only [List.getElem?_cons_zero, Option.some.injEq] at hi
      subst hi
      rw [Nat.zero_mul, Nat.zero_add, List.getElem?_append_left (List.getElem?_eq_some_iff.1 hj).1]
      exact hj
    | succ i =>
      rw [List.getElem?_cons_succ] at hi
      rw [List.getElem?_append_right (by rw [hz, Nat.succ_mul]; omega), hz, show (i + 1) * size + j - size = i * size + j by rw [Nat.succ_mul]; omega]
      exact ih i hi
theorem OwnS.recs {w : World} {base e a n c} {l : List α} (h : OwnS size cells w base e a n c l) (hpos : 0 < size) (hz : ∀ x, (cells x).length = size) (Elem : World → Nat → Nat → α → Prop)
    (hel : ∀ b o x, x ∈ l → (∀ j u, (cells x)[j]? = some u → w.cell? ⟨b, o + j, none⟩ = some u) → Elem w b o x) : Recs size Elem w a n c l := by
  rcases h.cases with ⟨rfl, rfl, rfl⟩ | ⟨g, rfl, hg, hs, hn, hc⟩
  · exact ⟨h.num, Nat.le_refl _, by omega, fun _ => rfl, .inl rfl⟩
  · refine ⟨h.num, hn, by unfold maxLen at hc; omega, by simp, .inr ⟨g, 0, rfl, hs, fun i x hi => ?_⟩⟩
    have hil : i < n := by rw [← h.num]; exact (List.getElem?_eq_some_iff.1 hi).1
    refine hel g _ x (List.mem_of_getElem? hi) (fun j u hj => ?_)
    have hjs : j < size := by rw [← hz x]; exact (List.getElem?_eq_some_iff.1 hj).1
    have hb : i * size + j < n * size := by
      have := Nat.mul_le_mul_right size (show i + 1 ≤ n by omega)
      rw [Nat.succ_mul] at this
      omega
    rw [Nat.zero_add, h.own.cellAt (i * size + j) hb]
    exact flat_at hz l i j x u hi hj
structure RecT (P : Program) (t e : TypeId) (z : Value) (size bytes : Nat) : Prop where
  und : P.underlying t = some (.slice e)
  info : (P.info? e).map (fun i => (i.zero, i.size, i.bytes)) = some (some z, size, bytes)
  zero : z.cells.size = size
theorem run_append_s {P : Program} {t e : TypeId} {z : Value} {bytes : Nat} (T : RecT P t e z size bytes) (hpos : 0 < size) (ty : TypeId) (w : World) (base : Nat) {a n c} {l : List α} (h : OwnS size cells w base e a n c l)
    (x : α) (hx : (cells x).length = size) (h1 : ∀ u ∈ cells x, u.oneCell' = true) (ad : Addr) (c' : Nat) (hc : ∀ j u, (cells x)[j]? = some u → w.cell? (ad.add j) = some u)
    (hm : n + 1 ≤ maxLen) (hn : (n + 1) * bytes ≤ 140737488355328) (hbase : base ≤ w.heap.size) :
    ∃ a2 c2 w', (Builtin.append_ #[t, t] ty #[.slice a n c, .slice (some ad) 1 c']).run P w = .ok (.slice a2 (n + 1) c2) w' ∧ OwnS size cells w' base e a2 (n + 1) c2 (l ++ [x]) ∧ Below base w w' ∧ w.grownBy w' (Value.ownBlock (.slice a n c)) := by
  obtain ⟨i0, hi, hz0, hz1, hz2⟩ := info_parts T.info
  have hz3 := T.zero
  obtain ⟨v', w', hr, ho, hg, hnil⟩ := run_append_own (P := P) w base t ty e i0 z size bytes T.und hi hz0 hz1 hz2 hz3 hpos (.slice a n c) n (l.flatMap cells) h.own ad 1 c' (cells x) (by rw [hx, Nat.one_mul]) hc h1 hm hn hbase
  have hbel : Below base w w' := (Below.refl base w).grown hg hbase (fun k hk => (h.own.lt k hk).1)
  have he : (l ++ [x]).flatMap cells = l.flatMap cells ++ cells x := by simp
  rcases ho.2 with ⟨rfl, h0⟩ | ⟨g, cap, cur, rfl, hgb, hh, r⟩
  · omega
  · exact ⟨some ⟨g, 0, none⟩, cap, w', hr, ⟨by rw [he]; exact ho, by simp [h.num]⟩, hbel, hg⟩
section
variable {P : Program} {w : World} {ops : Array Oper} {rest : List Oper} {o : Oper} {a : Act} {Q : Exit → Act → World → Prop}
end
theorem src_new (W : World) (cs : List Value) (e : TypeId) : ∀ j u, cs[j]? = some u → (W.alloc (.cells cs.toArray e)).cell? ((⟨W.heap.size, 0, none⟩ : Addr).add j) = some u := by
  intro j u h
  have hadd : (⟨W.heap.size, 0, none⟩ : Addr).add j = ⟨W.heap.size, j, none⟩ := by unfold Addr.add; split <;> simp_all
  rw [hadd, cell_new _ _ _ _ _ rfl, List.getElem?_toArray]
  exact h
end Go.Proofs.Ythkfdheoakbfnaa.bs
end
section
namespace Go.Proofs.Ythkfdheoakbfnaa.lx
open Go.ChangeShapes Go.WideShapes Go.ChangeAt Go.RowKit
open bs
set_option linter.unusedVariables false
set_option linter.unusedSimpArgs false
abbrev KB (w : World) (g : Nat) (x : Tk) : Prop := Blk w g x.row 37
theorem row_one (x : Tk) : (x.row : Array Value).all (·.oneCell') = true := by simp [Value.oneCell']
theorem row_len (x : Tk) : x.cells.length = 5 := rfl
theorem cells_one (x : Tk) : ∀ u ∈ x.cells, u.oneCell' = true := by
  intro u hu
  simp [Tk.cells] at hu
  rcases hu with rfl | rfl | rfl | rfl | rfl <;> rfl
structure Only (w w' : World) (g : Nat) : Prop where
  os : w'.os = w.os
  tape : w'.tape = w.tape
  output : w'.output = w.output
  size : w'.heap.size = w.heap.size
  block : ∀ k, k ≠ g → w'.heap[k]? = w.heap[k]?
theorem Only.below {w w' : World} {g B : Nat} (h : Only w w' g) (hB : B ≤ g) : Below B w w' := ⟨h.os, h.tape, h.output, Nat.le_of_eq h.size.symm, fun k hk => h.block k (by omega)⟩
theorem only_setRow (w : World) (g : Nat) (cs : Array Value) : Only w (w.setRow g cs) g := ⟨rfl, rfl, rfl, by simp [World.setRow], fun k hk => Go.setRow_other w g k cs hk⟩
theorem blk_setRow {w : World} {g : Nat} {cs cs' : Array Value} {t : TypeId} (h : Blk w g cs t) : Blk (w.setRow g cs') g cs' t := setRow_heap w g cs cs' t (0, 0) h
theorem size_alloc (w : World) (o : Obj) : (w.alloc o).heap.size = w.heap.size + 1 := by simp
theorem below_alloc (w : World) (o : Obj) : Below w.heap.size w (w.alloc o) := (Below.refl _ _).alloc (Nat.le_refl _) _
section
variable {w : World} {ops : Array Oper} {rest : List Oper} {o : Oper} {a : Act} {Q : Exit → Act → World → Prop}
theorem wpList_store_K (hgd : o.guard = none) (x y : Operand) (ho : o.op = .store 37 x y) {g : Nat} (hx : a.eval x = .pointer (some ⟨g, 0, none⟩)) {u : Tk} (hr : KB w g u) (v : Tk) (hy : a.eval y = v.val)
    (k : ∀ w', KB w' g v → Only w w' g → wpList Try.prog ops Q rest (a.put o.dst undef) w') : wpList Try.prog ops Q (o :: rest) a w :=
  wpList_store_row hgd 37 x y ho g v.row hx hy 37 _ hr (by kernel_rfl) rfl (row_one v) (k _ (blk_setRow hr) (only_setRow _ _ _))
theorem wpList_load_K (hgd : o.guard = none) (x : Operand) (ho : o.op = .load 37 x) {g : Nat} (hx : a.eval x = .pointer (some ⟨g, 0, none⟩)) {v : Tk} (hr : KB w g v)
    (h : wpList Try.prog ops Q rest (a.put o.dst v.val) w) : wpList Try.prog ops Q (o :: rest) a w :=
  wpList_load_row hgd 37 x ho g hx 37 _ (0, 0) _ hr Try.underlying37 rfl (by kernel_rfl) h
end
theorem results_cell_tmp {P : Program} {fn : Func} {p q : Tmp} {ty : TypeId} (h : fn.results = #[.cell p ty, .tmp q]) (tmps : Array Value) (w : World) (g : Nat) (t : TypeId) (cs : Array Value) (d : TypeDesc)
    (hp : tmps.getD p undef = .pointer (some ⟨g, 0, none⟩)) (hg : Blk w g cs t)
    (hu : P.underlying ty = some d) (hd : (match d with | .struct _ | .array _ _ => true | _ => false) = true) (hi : (P.info? ty).map (·.size) = some cs.size) :
    (results fn tmps).run P w = .ok (.tuple #[.agg cs, tmps.getD q undef]) w := by
  have hp' : tmps[p]?.getD undef = .pointer (some ⟨g, 0, none⟩) := by simpa using hp
  simp [results, h, hp', asAddr, run_loadVar_row w g t ty cs _ d hg hu hd hi]
def TP (r : Tk × Int) (w : World) (e : Ending) (w' : World) : Prop := e = .returned (.tuple #[r.1.val, .int .i64 r.2]) ∧ Below w.heap.size w w'
theorem kb_new (w : World) (x : Tk) : KB (w.alloc (.cells x.row 37)) w.heap.size x := Blk.new w _ _
end Go.Proofs.Ythkfdheoakbfnaa.lx
namespace Go.Proofs.Ythkfdheoakbfnaa.lx
open Go.ChangeShapes Go.WideShapes Go.ChangeAt Go.RowKit
open bs
set_option linter.unusedVariables false
set_option linter.unusedSimpArgs false
theorem tkT : RecT Try.prog 32 37 (.agg #[.int .i64 0, .int .i64 0, .string ⟨#[]⟩, .int .i64 0, .int .i64 0]) 5 48 := ⟨Try.underlying32, by kernel_rfl, rfl⟩
abbrev OwnK (w : World) (base : Nat) (a : Option Addr) (n c : Nat) (L : List Tk) : Prop := OwnS 5 Tk.cells w base 37 a n c L
theorem OwnS.blockLt {α : Type} {size : Nat} {cells : α → List Value} {w : World} {base : Nat} {e a n c} {L : List α} (h : OwnS size cells w base e a n c L) {i : Nat} (hi : blockOf a = some i) : base ≤ i ∧ i < w.heap.size := by
  rcases h.cases with ⟨rfl, _, _⟩ | ⟨g, rfl, hg, hs, _, _⟩
  · cases hi
  · cases hi; exact ⟨hg, hs⟩
theorem OwnS.of {α : Type} {size : Nat} {cells : α → List Value} {w w' : World} {base : Nat} {e a n c} {L : List α} (h : OwnS size cells w base e a n c L) (hk : ∀ i, blockOf a = some i → w'.heap[i]? = w.heap[i]?) : OwnS size cells w' base e a n c L := by
  refine ⟨⟨h.own.1, ?_⟩, h.num⟩
  rcases h.own.2 with ⟨hv, hn⟩ | ⟨g, cap, cur, hv, hg, hh, r⟩
  · exact .inl ⟨hv, hn⟩
  · refine .inr ⟨g, cap, cur, hv, hg, ?_, r⟩
    simp only [Value.slice.injEq] at hv
    rw [hk g (by rw [hv.1]; rfl)]; exact hh
abbrev KS (w : World) (a : Option Addr) (n c : Nat) (L : List Tk) : Prop := Recs 5 (fun w b o (x : Tk) => ∀ j u, x.cells[j]? = some u → w.cell? ⟨b, o + j, none⟩ = some u) w a n c L
theorem OwnS.toks {w : World} {base : Nat} {a n c} {L : List Tk} (h : OwnK w base a n c L) : KS w a n c L := OwnS.recs h (by decide) row_len _ (fun b o x _ hc => hc)
section
variable {w : World} {ops : Array Oper} {rest : List Oper} {o : Oper} {a : Act} {Q : Exit → Act → World → Prop}
theorem wpList_append_k (hw : Region.wanted o (yielded ops a.tmps) = true) (s y : Operand) (ho : o.op = .call { callee := .builtin .append, args := #[s, y], argTypes := #[32, 32] })
    (base : Nat) {b n c} {l : List Tk} (hs : a.eval s = .slice b n c) (h : OwnK w base b n c l) {ad c'} (hy : a.eval y = .slice (some ad) 1 c') (x : Tk)
    (hc : ∀ j u, x.cells[j]? = some u → w.cell? (ad.add j) = some u) (hn : n + 1 ≤ 1000000) (hbase : base ≤ w.heap.size)
    (k : ∀ a2 c2 w', OwnK w' base a2 (n + 1) c2 (l ++ [x]) → Below base w w' → w.grownBy w' (blockOf b) → wpList Try.prog ops Q rest (a.put o.dst (.slice a2 (n + 1) c2)) w') : wpList Try.prog ops Q (o :: rest) a w :=
  BigFrame.wpList_want hw fun K hK => by
    obtain ⟨a2, c2, w', hr, h2, h3, h4⟩ := run_append_s tkT (by decide) o.type w base h x rfl (cells_one x) ad c' hc (by unfold maxLen; omega) (by omega) hbase
    rw [ownBlock_eq] at h4
    unfold Oper.wp execOp
    simp only [ho, resolve, invoke, builtin, Sem.run_bind, Sem.run_pure, Result.andThen_ok, List.map_toArray, List.map_cons, List.map_nil, hs, hy, hr]
    exact hK _ _ (k a2 c2 w' h2 h3 h4)
end
def TsO (r : List Tk × Nat × Int) (w : World) (e : Ending) (w' : World) : Prop :=
  ∃ (a : Option Addr) (n c : Nat), e = .returned (.tuple #[.slice a n c, .int .i64 (r.2.1 : Nat), .int .i64 r.2.2]) ∧ (KS w' a n c r.1 ∧ (n = 0 ∨ ∃ b off, a = some ⟨b, off, none⟩ ∧ w.heap.size ≤ b)) ∧ Below w.heap.size w w'
theorem OwnS.anew {w : World} {B base : Nat} {a n c} {L : List Tk} (h : OwnK w base a n c L) (hB : B ≤ base) : n = 0 ∨ ∃ b off, a = some ⟨b, off, none⟩ ∧ B ≤ b := by
  rcases OwnS.cases h with ⟨_, h1, _⟩ | ⟨g, h1, h2, _⟩
  · exact .inl h1
  · exact .inr ⟨g, 0, h1, Nat.le_trans hB h2⟩
end Go.Proofs.Ythkfdheoakbfnaa.lx
end
