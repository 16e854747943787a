/-
  Layer 38: two lists of regions that are the same.
-/
import Derived.Test.YtiimleaphmjnhaeRegionMath
namespace Go.Proofs.Ytiimleaphmjnhae.rg
open Go.ChangeShapes Go.WideShapes Go.ChangeAt Go.RowKit
open bs
set_option linter.unusedVariables false

set_option maxHeartbeats 1000000 in
theorem same_any (a b : Option Addr) (n m c d : Nat) (l : List Reg) (w : World) (h : Recs 4 RegAt w a n c l) (k : Recs 4 RegAt w b m d l) :
    Calls Try.prog 16 #[.slice a n c, .slice b m d] w fun e w' => e = .returned (.bool true) ∧ Below w.heap.size w w' := by
  have hm := h.most
  have hk := h.cap
  obtain rfl : m = n := by rw [← k.len, h.len]
  have HX := Lib.hid h; clear h
  have HY := Lib.hid k; clear k
  go_enter Try.func16, Try.ntmps16
  go_wp2
  go_loopw [5] (fun i wr => ∃ k d' : Nat, k ≤ m ∧ i = .int .i64 k ∧ wr = w.drewN d') (fun i _ => m - (intOf i).toNat)
  case atStart => exact ⟨0, 0, by omega, rfl, rfl⟩
  case round =>
    obtain ⟨k, d', hkm, rfl, rfl⟩ := hrel
    by_cases hlt : k < m
    · have HR := HX.out
      have HS := HY.out
      obtain ⟨r, hr⟩ : ∃ r, l[k]? = some r := ⟨l[k]'(by have := HR.len; omega), List.getElem?_eq_getElem _⟩
      rcases HR.at' with h0 | ⟨b1, o1, rfl, hbl1, hcell1⟩
      · omega
      rcases HS.at' with h0 | ⟨b2, o2, rfl, hbl2, hcell2⟩
      · omega
      obtain ⟨c0, c1, c2, c3, i0, i1, i2, i3⟩ := hcell1 k r hr
      obtain ⟨e0, e1, e2, e3, -, -, -, -⟩ := hcell2 k r hr
      obtain ⟨rfp, rtp, rfq, rtq⟩ := r
      dsimp only at c0 c1 c2 c3 e0 e1 e2 e3
      clear HR hcell1 HS hcell2
      go_wp2_with fail
      go_quiet (fail)
      go_wp2
      go_roundw
      case rel => exact ⟨k + 1, _, by omega, by go_num, rfl⟩
      case measure => simp [intOf]; omega
    · obtain rfl : k = m := by omega
      go_wp2
      all_goals
        go_ret
        exact ⟨rfl, below_drewN (Below.refl _ _) _⟩
end Go.Proofs.Ytiimleaphmjnhae.rg
