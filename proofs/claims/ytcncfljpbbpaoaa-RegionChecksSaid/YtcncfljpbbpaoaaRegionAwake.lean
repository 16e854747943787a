/-
  Layer 38: the program is awake.
-/
import Derived.Test.YtcncfljpbbpaoaaRegionMath
namespace Go.Proofs.Ytcncfljpbbpaoaa.rg
open Go.ChangeShapes Go.WideShapes Go.ChangeAt Go.RowKit
open bs
set_option linter.unusedVariables false

theorem cell_old (W : World) (o : Obj) (b k : Nat) (h : b < W.heap.size) : (W.alloc o).cell? ⟨b, k, none⟩ = W.cell? ⟨b, k, none⟩ := ((Below.refl W.heap.size W).alloc (Nat.le_refl _) o).cell (p := ⟨b, k, none⟩) h

set_option maxRecDepth 100000 in
set_option maxHeartbeats 1000000 in
theorem awake_any (w : World) : Calls Try.prog 22 #[] w fun e w' => e = .returned (.bool true) ∧ Below w.heap.size w w' := by
  go_enter Try.func22, Try.ntmps22
  go_wp2_with fail
  refine (one_any _ _ w (by decide) (by decide)).mono ?_
  rintro e w1 ⟨a1, n1, c1, rfl, hr1, hb1⟩
  rw [show oneL _ _ = [⟨1, 1, 1, 2⟩] by kernel_rfl] at hr1
  obtain rfl : n1 = 1 := hr1.len.symm
  have hc1 := hr1.cap
  have hc2 := hr1.most
  rcases hr1.at' with h0 | ⟨b1, o1, rfl, hbl1, hcell1⟩
  · omega
  obtain ⟨e0, e1, e2, e3, -, -, -, -⟩ := hcell1 0 _ rfl
  simp only [Nat.zero_mul, Nat.add_zero] at e0 e1 e2 e3
  clear hcell1 hr1
  go_wp2_with fail
  refine (check_any _ _ none 0 0 [] w1 ⟨rfl, Nat.le_refl _, by omega, fun _ => rfl, .inl rfl⟩ (by decide) (by decide)).mono ?_
  rintro e w2 ⟨rfl, hb2⟩
  rw [show chk _ _ [] = 21 by kernel_rfl]
  go_wp2
  go_ret
  exact ⟨rfl, hb1.trans (hb2.mono hb1.size)⟩
end Go.Proofs.Ytcncfljpbbpaoaa.rg
