/-
  Contracts of the four small functions of layer 1 that turn numbers with a sign into numbers without one, and back.
-/
import Derived.Test.YtjdgebafhcbfoaaRows
import Derived.WalkKit
import Derived.ProofKit
import Derived.Lib.Hide
namespace Go.Proofs.Ytjdgebafhcbfoaa.zigs
open Go.ChangeShapes Go.WideShapes Go.ChangeAt Go.RowKit

/-- How a number with a sign stands. -/
def zig (n : Int) : Int := if n < 0 then 2 * (-(n + 1)) + 1 else 2 * n
/-- The number that stands so. -/
def zag (v : Int) : Int := if v % 2 = 0 then v / 2 else -(v / 2) - 1

theorem ret_int {k : IntKind} {a b : Int} (h : a = b) : Ending.returned (.int k a) = .returned (.int k b) := by rw [h]

set_option maxHeartbeats 400000 in
theorem zig_any (n : Int) (w : World) (h0 : -9223372036854775808 ≤ n) (h1 : n ≤ 9223372036854775807) :
    Calls Try.prog 14 #[.int .i64 n] w fun e w' => e = .returned (.int .u64 (zig n)) ∧ w = w' := by
  by_cases h : n < 0
  · have hz : zig n = 2 * (-(n + 1)) + 1 := by unfold zig; rw [if_pos h]
    have Hz := Lib.hid hz; clear hz
    go_enter Try.func14, Try.ntmps14
    go_wp2
    go_ret
    exact ⟨ret_int Hz.out.symm, rfl⟩
  · have hz : zig n = 2 * n := by unfold zig; rw [if_neg h]
    have Hz := Lib.hid hz; clear hz
    go_enter Try.func14, Try.ntmps14
    go_wp2
    go_ret
    exact ⟨ret_int Hz.out.symm, rfl⟩

set_option maxHeartbeats 400000 in
theorem rzig_any (n : Int) (w : World) (h0 : -9223372036854775808 ≤ n) (h1 : n ≤ 9223372036854775807) :
    Calls Try.prog 15 #[.int .i64 n] w fun e w' => e = .returned (.int .u64 (zig n)) ∧ w = w' := by
  by_cases h : n < 0
  · have hz : zig n = 2 * (-(n + 1)) + 1 := by unfold zig; rw [if_pos h]
    have Hz := Lib.hid hz; clear hz
    go_enter Try.func15, Try.ntmps15
    go_wp2
    go_ret
    exact ⟨ret_int Hz.out.symm, rfl⟩
  · have hz : zig n = 2 * n := by unfold zig; rw [if_neg h]
    have Hz := Lib.hid hz; clear hz
    go_enter Try.func15, Try.ntmps15
    go_wp2
    go_ret
    exact ⟨ret_int Hz.out.symm, rfl⟩

set_option maxHeartbeats 400000 in
theorem zag_any (v : Int) (w : World) (h0 : 0 ≤ v) (h1 : v ≤ 18446744073709551615) :
    Calls Try.prog 16 #[.int .u64 v] w fun e w' => e = .returned (.int .i64 (zag v)) ∧ w = w' := by
  by_cases h : v % 2 = 0
  · have hz : zag v = v / 2 := by unfold zag; rw [if_pos h]
    have Hz := Lib.hid hz; clear hz
    have hb : (v % 2 == 1) = false := by simp; omega
    clear h
    go_enter Try.func16, Try.ntmps16
    go_wp2
    go_ret
    exact ⟨ret_int Hz.out.symm, rfl⟩
  · have hz : zag v = -(v / 2) - 1 := by unfold zag; rw [if_neg h]
    have Hz := Lib.hid hz; clear hz
    have hb : (v % 2 == 1) = true := by simp; omega
    clear h
    go_enter Try.func16, Try.ntmps16
    go_wp2
    go_ret
    exact ⟨ret_int Hz.out.symm, rfl⟩

set_option maxHeartbeats 400000 in
theorem rzag_any (v : Int) (w : World) (h0 : 0 ≤ v) (h1 : v ≤ 18446744073709551615) :
    Calls Try.prog 17 #[.int .u64 v] w fun e w' => e = .returned (.int .i64 (zag v)) ∧ w = w' := by
  by_cases h : v % 2 = 0
  · have hz : zag v = v / 2 := by unfold zag; rw [if_pos h]
    have Hz := Lib.hid hz; clear hz
    have hb : (v % 2 == 0) = true := by simp; omega
    clear h
    go_enter Try.func17, Try.ntmps17
    go_wp2
    go_ret
    exact ⟨ret_int Hz.out.symm, rfl⟩
  · have hz : zag v = -(v / 2) - 1 := by unfold zag; rw [if_neg h]
    have Hz := Lib.hid hz; clear hz
    have hb : (v % 2 == 0) = false := by simp; omega
    clear h
    go_enter Try.func17, Try.ntmps17
    go_wp2
    go_ret
    exact ⟨ret_int Hz.out.symm, rfl⟩

theorem zig_bd (n : Int) (h0 : -9223372036854775808 ≤ n) (h1 : n ≤ 9223372036854775807) : 0 ≤ zig n ∧ zig n ≤ 18446744073709551615 := by
  unfold zig; split <;> omega
theorem zag_bd (v : Int) (h0 : 0 ≤ v) (h1 : v ≤ 18446744073709551615) : -9223372036854775808 ≤ zag v ∧ zag v ≤ 9223372036854775807 := by
  unfold zag; split <;> omega
theorem zag_zig (n : Int) : zag (zig n) = n := by
  unfold zig zag; split <;> split <;> omega
theorem zig_zag (v : Int) (h0 : 0 ≤ v) : zig (zag v) = v := by
  unfold zig zag; split <;> split <;> omega

set_option maxHeartbeats 400000 in
theorem law (n v : Int) (w : World) (h0 : -9223372036854775808 ≤ n) (h1 : n ≤ 9223372036854775807) (g0 : 0 ≤ v) (g1 : v ≤ 18446744073709551615) :
    Calls Try.prog 5 #[.int .i64 n, .int .u64 v] w fun e w' => e = .returned (.bool true) ∧ w = w' := by
  obtain ⟨zb0, zb1⟩ := zig_bd n h0 h1
  obtain ⟨ab0, ab1⟩ := zag_bd v g0 g1
  have e1 := Lib.hid (zag_zig n)
  have e2 := Lib.hid (zig_zag v g0)
  go_enter Try.func5, Try.ntmps5
  go_wp2_with (first
    | (go_at_call 14; refine (zig_any _ _ (by omega) (by omega)).mono ?_; rintro e w' ⟨rfl, rfl⟩)
    | (go_at_call 15; refine (rzig_any _ _ (by omega) (by omega)).mono ?_; rintro e w' ⟨rfl, rfl⟩)
    | (go_at_call 16; refine (zag_any _ _ (by omega) (by omega)).mono ?_; rintro e w' ⟨rfl, rfl⟩)
    | (go_at_call 17; refine (rzag_any _ _ (by omega) (by omega)).mono ?_; rintro e w' ⟨rfl, rfl⟩))
  go_ret
  exact ⟨rfl, rfl⟩
end Go.Proofs.Ytjdgebafhcbfoaa.zigs
