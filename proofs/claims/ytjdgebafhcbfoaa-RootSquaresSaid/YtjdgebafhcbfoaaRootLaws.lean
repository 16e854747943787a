/-
  The walks of the statements of layer 2 on roots.
-/
import Derived.Test.YtjdgebafhcbfoaaPower
import Derived.Test.YtjdgebafhcbfoaaRootSquare
namespace Go.Proofs.Ytjdgebafhcbfoaa.rs
open Go.ChangeShapes Go.WideShapes Go.ChangeAt Go.RowKit
open bs
set_option linter.unusedVariables false

theorem sq_le (p : Int) : decide (((sq p : Nat) : Int) ^ 2 ≤ shv (clip p) 4) = true := by
  have h := (sq_ok p).1
  refine decide_eq_true ?_
  unfold shv
  have e : ((sq p : Nat) : Int) ^ 2 = ((sq p * sq p : Nat) : Int) := by push_cast; rw [Int.pow_succ, Int.pow_succ, Int.pow_zero, Int.one_mul]
  rw [e]
  omega
theorem sq_gt (p : Int) : decide ((((sq p : Nat) : Int) + 1) ^ 2 ≤ shv (clip p) 4) = false := by
  have h := (sq_ok p).2.1
  refine decide_eq_false ?_
  unfold shv
  have e : (((sq p : Nat) : Int) + 1) ^ 2 = (((sq p + 1) * (sq p + 1) : Nat) : Int) := by push_cast; rw [Int.pow_succ, Int.pow_succ, Int.pow_zero, Int.one_mul]
  rw [e]
  omega

set_option maxRecDepth 100000 in
set_option maxHeartbeats 1000000 in
theorem squares (p : Int) (w : World) (h0 : -9223372036854775808 ≤ p) (h1 : p ≤ 9223372036854775807) :
    Calls Try.prog 6 #[.int .i64 p] w fun e w' => e = .returned (.bool true) ∧ Below w.heap.size w w' := by
  have hx := (sq_ok p).2.2
  have hc := clip_le p
  have L1 := Lib.hid (sq_le p)
  have L2 := Lib.hid (sq_gt p)
  go_enter Try.func6, Try.ntmps6
  go_wp2_with fail
  refine (square_any p _ h0 h1).mono ?_
  rintro e w1 ⟨rfl, hb⟩
  have B1 := Lib.hid hb; clear hb
  go_wp2_with fail
  refine (clip_any p _ h0 h1).mono ?_
  rintro e w' ⟨rfl, rfl⟩
  go_wp2_with fail
  refine (shifted4 (clip p) _ (by omega) (by omega)).mono ?_
  rintro e w2 ⟨a2, c2, r2, rfl, ho2, hb2, hr2, hv2⟩
  have O2 := Lib.hid ho2; have B2 := Lib.hid (B1.out.trans (hb2.mono B1.out.size)); have R2 := Lib.hid hr2; have V2 := Lib.hid hv2; clear ho2 hb2 hr2 hv2
  go_wp2_with fail
  refine (power_any (sq p) 2 _ (by omega) (by omega) (by omega)).mono ?_
  rintro e w3 ⟨a3, c3, r3, rfl, ho3, hb3, hr3, hv3⟩
  have O3 := Lib.hid ho3; have B3 := Lib.hid (B2.out.trans (hb3.mono B2.out.size)); have R3 := Lib.hid hr3; have V3 := Lib.hid hv3
  have O23 := Lib.hid (U64s.below O2.out.reads hb3); clear ho3 hb3 hr3 hv3
  go_wp2_with fail
  refine (most_any _ _ _ r3 _ _ _ r2 _ O3.out.reads O23.out rfl rfl R3.out R2.out).mono ?_
  rintro e w4 ⟨rfl, m4, rfl⟩
  rw [V3.out, V2.out, L1.out]
  go_wp2_with fail
  have s4 := B3.out.size
  refine (power_any ((sq p : Int) + 1) 2 _ (by omega) (by omega) (by omega)).mono ?_
  rintro e w5 ⟨a5, c5, r5, rfl, ho5, hb5, hr5, hv5⟩
  have O5 := Lib.hid ho5; have B5 := Lib.hid ((below_drewN B3.out m4).trans (hb5.mono (by simpa using s4))); have R5 := Lib.hid hr5; have V5 := Lib.hid hv5
  have O25 := Lib.hid (U64s.below (O23.out.drewN m4) hb5); clear ho5 hb5 hr5 hv5
  go_wp2_with fail
  refine (most_any _ _ _ r5 _ _ _ r2 _ O5.out.reads O25.out rfl rfl R5.out R2.out).mono ?_
  rintro e w6 ⟨rfl, m6, rfl⟩
  rw [V5.out, V2.out, L2.out]
  have s6 := B5.out.size
  have h4 : (8589934592 : Int) = (sq 4 : Nat) := by rw [sq_four]; rfl
  have H4 := Lib.hid h4; clear h4
  go_wp2_with fail
  refine (square_any 4 _ (by omega) (by omega)).mono ?_
  rintro e w7 ⟨rfl, hb7⟩
  rw [← H4.out]
  have B7 := Lib.hid ((below_drewN B5.out m6).trans (hb7.mono (by simpa using s6))); clear hb7
  go_wp2
  go_ret
  exact ⟨rfl, B7.out⟩

end Go.Proofs.Ytjdgebafhcbfoaa.rs
