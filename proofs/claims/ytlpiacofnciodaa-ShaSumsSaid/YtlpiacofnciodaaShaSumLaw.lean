/-
  The walk of the statement on digests.
-/
import Derived.Test.YtlpiacofnciodaaShaPSum
import Derived.Test.YtlpiacofnciodaaShaRSum
import Derived.Test.YtlpiacofnciodaaSame
namespace Go.Proofs.Ytlpiacofnciodaa.sh
open Go.ChangeShapes Go.WideShapes Go.ChangeAt Go.RowKit
open bs
set_option linter.unusedVariables false

theorem nil_bytes (w : World) : Bytes w none 0 0 [] := ⟨rfl, Nat.le_refl _, by omega, by simp [AllB], fun _ => rfl, .inl rfl⟩

set_option maxHeartbeats 1000000 in
theorem sums (a : Option Addr) (n c : Nat) (l : List Int) (w : World) (h : Bytes w a n c l) :
    Calls Try.prog 3 #[.slice a n c] w fun e w' => e = .returned (.bool true) ∧ Below w.heap.size w w' := by
  have hc := h.cap; have hm := h.most
  have HH := Lib.hid h
  clear h
  by_cases hn : 300 < n
  · go_enter Try.func3, Try.ntmps3
    go_wp2_with fail
    refine (psum_any none 0 0 [] _ (nil_bytes _) (by omega)).mono ?_
    rintro e w1 ⟨a1, c1, rfl, ho, hb⟩
    have HB := Lib.hid hb
    clear ho hb
    go_wp2
    go_ret
    exact ⟨rfl, HB.out⟩
  · go_enter Try.func3, Try.ntmps3
    go_wp2_with fail
    refine (psum_any a n c l _ HH.out (by omega)).mono ?_
    rintro e w1 ⟨a1, c1, rfl, ho, hb⟩
    have HO := Lib.hid ho.bytes; have HB := Lib.hid hb; have HH1 := Lib.hid (HH.out.below hb)
    have s1 := hb.size
    clear ho hb
    go_wp2_with fail
    refine (rsum_any a n c l _ HH1.out (by omega)).mono ?_
    rintro e w2 ⟨a2, c2, rfl, ho, hb⟩
    have HO2 := Lib.hid ho.bytes; have HB2 := Lib.hid (HB.out.trans (hb.mono s1)); have HO1 := Lib.hid (HO.out.below hb)
    clear ho hb
    go_wp2_with fail
    refine (rsame_any _ _ _ _ _ _ _ _ _ HO1.out HO2.out).mono ?_
    rintro e w3 ⟨rfl, m, rfl⟩
    have HB3 := Lib.hid (below_drewN HB2.out m)
    go_wp2
    go_ret
    exact ⟨by simp, HB3.out⟩

end Go.Proofs.Ytlpiacofnciodaa.sh
