/-
  The walk of the statement on 'Same'.
-/
import Derived.Test.YtjdgebafhcbfoabHmacSame
import Derived.Test.YtjdgebafhcbfoabOwn
namespace Go.Proofs.Ytjdgebafhcbfoab.bs
open Go.ChangeShapes Go.WideShapes Go.ChangeAt Go.RowKit
set_option linter.unusedVariables false

theorem byteT : ByteT Try.prog 22 5 := ⟨Try.underlying22, by kernel_rfl⟩

set_option maxRecDepth 100000 in
set_option maxHeartbeats 1000000 in
theorem law (a : Option Addr) (n c : Nat) (x : List Int) (a' : Option Addr) (n' c' : Nat) (y : List Int) (w : World) (hx : Bytes w a n c x) (hy : Bytes w a' n' c' y) (hr : c ≤ 140737488351232) :
    Calls Try.prog 3 #[.slice a n c, .slice a' n' c'] w fun e w' => e = .returned (.bool true) ∧ Below w.heap.size w w' := by
  have hn := hx.cap
  have HX := Lib.hid hx; have HY := Lib.hid hy; clear hx hy
  go_enter Try.func3, Try.ntmps3
  go_wp2_with fail
  refine (psame_any _ _ _ x _ _ _ y _ HX.out HY.out).mono ?_
  rintro e w1 ⟨rfl, m1, rfl⟩
  go_wp2_with fail
  refine (rsame_any _ _ _ x _ _ _ y _ (HX.out.drewN m1) (HY.out.drewN m1)).mono ?_
  rintro e w2 ⟨rfl, m2, rfl⟩
  go_wp2_with (at_builtin; refine wpList_append_b byteT rfl _ _ rfl w.heap.size rfl (OwnB.made _ _ _ [] _ rfl ?_ ?_ ?_) rfl ((HX.out.drewN _).below ((Below.refl _ _).alloc (Nat.le_refl _) _)) ?_ ?_ ?_)
  · simp
  · simp
  · simp [AllB]
  · omega
  · simp
  intro a2 c2 w3 ho hb _
  have hb3 : Below w.heap.size w w3 := (((below_drewN (Below.refl _ _) (m1 + m2))).alloc (by simp) _).trans hb
  have HO := Lib.hid ho; have HB := Lib.hid hb3; clear ho hb hb3
  go_wp2_with fail
  refine (psame_any _ _ _ x _ _ _ x _ (HX.out.below HB.out) HO.out.bytes).mono ?_
  rintro e w4 ⟨rfl, m3, rfl⟩
  have hs := HB.out.size
  go_wp2_with (at_builtin; refine wpList_append_b byteT rfl _ _ rfl w3.heap.size rfl (OwnB.made _ _ _ [0] _ rfl ?_ ?_ ?_) rfl (((HX.out.below HB.out).drewN _).below ((Below.refl _ _).alloc (Nat.le_refl _) _)) ?_ ?_ ?_)
  · simp
  · simp [maxLen]
  · simp [AllB]
  · (try simp only [List.length_cons, List.length_nil]); omega
  · simp
  intro a5 c5 w5 ho hb _
  have hb5 : Below w.heap.size w w5 := HB.out.trans ((((below_drewN (Below.refl _ _) m3)).alloc (by simp; omega) _).trans (hb.mono hs))
  have HO5 := Lib.hid ho; have HB5 := Lib.hid hb5; clear ho hb hb5
  go_wp2_with fail
  refine (psame_any _ _ _ x _ _ _ (0 :: x) _ (HX.out.below HB5.out) HO5.out.bytes).mono ?_
  rintro e w4 ⟨rfl, m6, rfl⟩
  have hne : (x == 0 :: x) = false := by
    rw [beq_eq_false_iff_ne]
    intro h
    have := congrArg List.length h
    simp at this
  have hb6 : Below w.heap.size w (w5.drewN m6) := below_drewN HB5.out m6
  have HB6 := Lib.hid hb6; clear hb6
  go_wp2_with fail
  go_ret
  exact ⟨rfl, HB6.out⟩
end Go.Proofs.Ytjdgebafhcbfoab.bs
