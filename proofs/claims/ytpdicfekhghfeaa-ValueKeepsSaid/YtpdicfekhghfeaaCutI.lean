/-
  What is behind the first ones of a slice of ints.
-/
import Derived.Test.YtpdicfekhghfeaaOpenI
import Derived.Test.YtpdicfekhghfeaaProg
import Derived.WalkKit
namespace Go.Proofs.Ytpdicfekhghfeaa.bs
open Go.ChangeShapes Go.WideShapes Go.ChangeAt Go.RowKit
set_option linter.unusedVariables false

def tailAddr' (a : Option Addr) (c i : Nat) : Option Addr := if c = i then a else a.map fun x => x.add i
theorem slice_tail_i (a : Option Addr) (n c i : Nat) (j : Int) (hj : j = i) (h : i ≤ n) (hc : n ≤ c) (hm : c ≤ 9223372036854775807) (hnil : a = none → c = 0) (W : World) :
    (Instr.sliceAt 35 (.slice a n c) (some (.int .i64 j)) none none).run Try.prog W = .ok (.slice (tailAddr' a c i) (n - i) (c - i)) W := by
  subst hj
  have e1 : ¬ (i : Int) < 0 := by omega
  have e2 : ¬ (n : Int) < i := by omega
  have e3 : (i : Int).toNat = i := by omega
  unfold tailAddr'
  by_cases hci : c = i
  · rcases a with _ | x
    · simp [Instr.sliceAt, Instr.slice, Instr.sliceBounds, Instr.sliceBound, asIntOf, go_sem, hci, h]
    · simp [Instr.sliceAt, Instr.slice, Instr.sliceBounds, Instr.sliceBound, asIntOf, go_sem, hci, h]
  · rcases a with _ | x
    · have := hnil rfl
      omega
    · simp [Instr.sliceAt, Instr.slice, Instr.sliceBounds, Instr.sliceBound, asIntOf, go_sem, hci, h]
theorem tail_i64s {w : World} {a : Option Addr} {n c : Nat} {l : List Int} (h : I64s w a n c l) (i : Nat) (hi : i ≤ n) : I64s w (tailAddr' a c i) (n - i) (c - i) (l.drop i) := by
  have hcap := h.cap
  unfold tailAddr'
  by_cases hci : c = i
  · rw [if_pos hci]
    have hni : n = i := by omega
    refine ⟨by rw [List.length_drop, h.len], by omega, by omega, fun x hx => h.all x (List.mem_of_mem_drop hx), fun ha => by omega, .inl (by omega)⟩
  · rw [if_neg hci]
    refine ⟨by rw [List.length_drop, h.len], by omega, by have := h.most; omega, fun x hx => h.all x (List.mem_of_mem_drop hx), fun ha => ?_, ?_⟩
    · have : a = none := by cases a <;> simp_all
      have := h.nil this; omega
    · rcases h.at' with h0 | ⟨b, off, rfl, hc⟩
      · exact .inl (by omega)
      · have hadd : (⟨b, off, none⟩ : Addr).add i = ⟨b, off + i, none⟩ := by unfold Addr.add; split <;> simp_all
        have := (sub_i64s h i hi).at'
        rcases this with h0 | h1
        · exact .inl h0
        · exact .inr (by simpa [hadd] using h1)
end Go.Proofs.Ytpdicfekhghfeaa.bs
