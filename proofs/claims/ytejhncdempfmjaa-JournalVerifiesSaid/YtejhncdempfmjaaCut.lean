/-
  Parts of slices of bytes: how they read, and what the operation 's[i:]' gives.
-/
import Derived.Test.YtejhncdempfmjaaOwn
namespace Go.Proofs.Ytejhncdempfmjaa.bs
open Go.ChangeShapes Go.WideShapes Go.ChangeAt Go.RowKit
set_option linter.unusedVariables false

/-- A part of a slice of bytes. -/
theorem sub_bytes {w : World} {b off n c : Nat} {l : List Int} (h : Bytes w (some ⟨b, off, none⟩) n c l) (i k : Nat) (hk : i + k ≤ n) : Bytes w (some ⟨b, off + i, none⟩) k (c - i) ((l.drop i).take k) := by
  have hl := h.len
  have hc := h.cap
  refine ⟨by rw [List.length_take, List.length_drop]; omega, by omega, by have := h.most; omega, ?_, by simp, ?_⟩
  · intro x hx
    exact h.all x (List.mem_of_mem_drop (List.mem_of_mem_take hx))
  · rcases Nat.eq_zero_or_pos k with h0 | h0
    · exact .inl h0
    · obtain ⟨b', off', he, hcell⟩ := h.at'.resolve_left (by omega)
      simp only [Option.some.injEq, Addr.mk.injEq, and_true] at he
      obtain ⟨rfl, rfl⟩ := he
      refine .inr ⟨b, off + i, rfl, fun j hj => ?_⟩
      rw [Nat.add_assoc, hcell (i + j) (by omega), List.getD_eq_getElem?_getD, List.getD_eq_getElem?_getD, List.getElem?_take, if_pos hj, List.getElem?_drop]

def tailAddr (a : Option Addr) (c i : Nat) : Option Addr := if c = i then a else a.map fun x => x.add i
theorem slice_tail (a : Option Addr) (n c i : Nat) (j : Int) (hj : j = i) (h : i ≤ n) (hc : n ≤ c) (hm : c ≤ 9223372036854775807) (hnil : a = none → c = 0) (W : World) :
    (Instr.sliceAt 22 (.slice a n c) (some (.int .i64 j)) none none).run Try.prog W = .ok (.slice (tailAddr a c i) (n - i) (c - i)) W := by
  subst hj
  have e1 : ¬ (i : Int) < 0 := by omega
  have e2 : ¬ (n : Int) < i := by omega
  have e3 : (i : Int).toNat = i := by omega
  unfold tailAddr
  by_cases hci : c = i
  · rcases a with _ | x
    · simp [Instr.sliceAt, Instr.slice, Instr.sliceBounds, Instr.sliceBound, asIntOf, go_sem, hci, h]
    · simp [Instr.sliceAt, Instr.slice, Instr.sliceBounds, Instr.sliceBound, asIntOf, go_sem, hci, h]
  · rcases a with _ | x
    · have := hnil rfl
      omega
    · simp [Instr.sliceAt, Instr.slice, Instr.sliceBounds, Instr.sliceBound, asIntOf, go_sem, hci, h]
theorem tail_bytes {w : World} {a : Option Addr} {n c : Nat} {l : List Int} (h : Bytes w a n c l) (i : Nat) (hi : i ≤ n) : Bytes w (tailAddr a c i) (n - i) (c - i) (l.drop i) := by
  have hl := h.len
  have hc := h.cap
  refine ⟨by rw [List.length_drop]; omega, by omega, by have := h.most; omega, fun x hx => h.all x (List.mem_of_mem_drop hx), ?_, ?_⟩
  · intro he
    unfold tailAddr at he
    split at he
    · omega
    · rcases a with _ | x
      · have := h.nil rfl; omega
      · simp at he
  · by_cases h0 : n - i = 0
    · exact .inl h0
    · obtain ⟨b, off, rfl, hcell⟩ := h.at'.resolve_left (by omega)
      refine .inr ⟨b, off + i, ?_, fun j hj => ?_⟩
      · unfold tailAddr
        rw [if_neg (by omega)]
        simp [Addr.add]
      · rw [Nat.add_assoc, hcell (i + j) (by omega), List.getD_eq_getElem?_getD, List.getD_eq_getElem?_getD, List.getElem?_drop]


end Go.Proofs.Ytejhncdempfmjaa.bs
