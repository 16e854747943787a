/-
  A slice of bytes from a place on: what the operation gives, and how it reads.
-/
import Derived.Test.YtlpiacofnciodaaShaSum
namespace Go.Proofs.Ytlpiacofnciodaa.sh
open Go.ChangeShapes Go.WideShapes Go.ChangeAt Go.RowKit
open bs
set_option linter.unusedVariables false

def tailAddr (a : Option Addr) (c i : Nat) : Option Addr := if c = i then a else a.map fun x => x.add i
theorem slice_tail (a : Option Addr) (n c i : Nat) (j : Int) (hj : j = i) (h : i ≤ n) (hc : n ≤ c) (hm : c ≤ 9223372036854775807) (hnil : a = none → c = 0) (W : World) :
    (Instr.sliceAt 22 (.slice a n c) (some (.int .i64 j)) none none).run Try.prog W = .ok (.slice (tailAddr a c i) (n - i) (c - i)) W := by
  subst hj
  have e1 : ¬ (i : Int) < 0 := by omega
  have e2 : ¬ (n : Int) < i := by omega
  have e3 : (i : Int).toNat = i := by omega
  unfold tailAddr
  by_cases hci : c = i
  · rcases a with _ | x
    · simp [Instr.sliceAt, Instr.slice, Instr.sliceBounds, Instr.sliceBound, asIntOf, Try.underlying22, go_sem, hci, h]
    · simp [Instr.sliceAt, Instr.slice, Instr.sliceBounds, Instr.sliceBound, asIntOf, Try.underlying22, go_sem, hci, h]
  · rcases a with _ | x
    · have := hnil rfl
      omega
    · simp [Instr.sliceAt, Instr.slice, Instr.sliceBounds, Instr.sliceBound, asIntOf, Try.underlying22, go_sem, hci, h]
theorem tail_bytes {w : World} {a : Option Addr} {n c : Nat} {l : List Int} (h : Bytes w a n c l) (i : Nat) (hi : i ≤ n) : Bytes w (tailAddr a c i) (n - i) (c - i) (l.drop i) := by
  have hl := h.len
  have hc := h.cap
  refine ⟨by rw [List.length_drop]; omega, by omega, by have := h.most; omega, fun x hx => h.all x (List.mem_of_mem_drop hx), ?_, ?_⟩
  · intro he
    unfold tailAddr at he
    split at he
    · omega
    · rcases a with _ | x
      · have := h.nil rfl; omega
      · simp at he
  · by_cases h0 : n - i = 0
    · exact .inl h0
    · obtain ⟨b, off, rfl, hcell⟩ := h.at'.resolve_left (by omega)
      refine .inr ⟨b, off + i, ?_, fun j hj => ?_⟩
      · unfold tailAddr
        rw [if_neg (by omega)]
        simp [Addr.add]
      · rw [Nat.add_assoc, hcell (i + j) (by omega), List.getD_eq_getElem?_getD, List.getD_eq_getElem?_getD, List.getElem?_drop]

end Go.Proofs.Ytlpiacofnciodaa.sh
