/-
  Contracts of layer 2's roots.
-/
import Derived.Test.YtlpiacofnciodaaRootPlain
import Derived.Test.YtlpiacofnciodaaShelf
import Derived.WalkKit
import Derived.ProofKit
import Derived.Lib.Hide
import Derived.Below
import Derived.WalkSmall
import Derived.Outline
import Derived.WalkLawsBesides
import Derived.OneCell
namespace Go.Proofs.Ytlpiacofnciodaa.rs
open Go.ChangeShapes Go.WideShapes Go.ChangeAt Go.RowKit
set_option linter.unusedVariables false

theorem ret_int {k : IntKind} {a b : Int} (h : a = b) : Ending.returned (.int k a) = .returned (.int k b) := by rw [h]
theorem ret_bool {a b : Bool} (h : a = b) : Ending.returned (.bool a) = .returned (.bool b) := by rw [h]

set_option maxHeartbeats 400000 in
theorem clamp_any (p m : Int) (w : World) (h0 : -9223372036854775808 ≤ p) (h1 : p ≤ 9223372036854775807) (m0 : 0 ≤ m) (m1 : m ≤ 65536) :
    Calls Try.prog 42 #[.int .i64 p, .int .i64 m] w fun e w' => e = .returned (.int .u64 (min (max p 0) m)) ∧ w = w' := by
  go_enter Try.func42, Try.ntmps42
  go_wp2
  all_goals
    go_ret
    exact ⟨ret_int (by omega), rfl⟩

/-- Two halves of a product held against a number, as the program does it. -/
theorem halves (H L n : Nat) : (decide ((H : Int) < n) = true ∧ (decide (H < n ∨ H = n ∧ L = 0)) = true) ∨
    (decide ((H : Int) < n) = false ∧ ((H : Int) == n) = true ∧ ((L : Int) == 0) = true ∧ (decide (H < n ∨ H = n ∧ L = 0)) = true) ∨
    (decide ((H : Int) < n) = false ∧ ((H : Int) == n) = true ∧ ((L : Int) == 0) = false ∧ (decide (H < n ∨ H = n ∧ L = 0)) = false) ∨
    (decide ((H : Int) < n) = false ∧ ((H : Int) == n) = false ∧ (decide (H < n ∨ H = n ∧ L = 0)) = false) := by
  by_cases h1 : H < n
  · left; simp; omega
  · by_cases h2 : H = n
    · by_cases h3 : L = 0
      · right; left; simp; omega
      · right; right; left; simp; omega
    · right; right; right; simp; omega

theorem sqB_eq (n y : Nat) : sqB n y = decide (y * y / 18446744073709551616 < n ∨ y * y / 18446744073709551616 = n ∧ y * y % 18446744073709551616 = 0) := by
  unfold sqB
  rw [decide_eq_decide]
  exact (below_iff _ _).symm

set_option maxHeartbeats 400000 in
theorem square1_any (n y : Nat) (b : Nat) (w : World) (hy : y < 18446744073709551616) (hn : n ≤ 65536) (hc : w.cell? ⟨b, 0, none⟩ = some (.int .u64 n)) :
    Calls Try.prog 45 #[.int .u64 y, .pointer (some ⟨b, 0, none⟩)] w fun e w' => e = .returned (.bool (sqB n y)) ∧ w = w' := by
  have hm := Try.bits_Mul64 y y hy hy
  have hq := sqB_eq n y
  generalize y * y / 18446744073709551616 = H at hm hq
  generalize y * y % 18446744073709551616 = L at hm hq
  rw [hq]
  have HM := Lib.hid hm; clear hm hq
  rcases halves H L n with ⟨h1, hd⟩ | ⟨h1, h2, h3, hd⟩ | ⟨h1, h2, h3, hd⟩ | ⟨h1, h2, hd⟩
  all_goals
    rw [hd]
    clear hd
    simp only [Int.ofNat_lt] at h1
    go_enter Try.func45, Try.ntmps45
    go_wp2_with fail
    refine (HM.out _).mono ?_
    rintro e w' ⟨rfl, hw⟩
    obtain rfl : w = w' := hw.symm
    go_wp2
    go_ret
    exact ⟨rfl, rfl⟩

theorem cuB_eq (n y : Nat) : cuB n y = decide ((y * y / 18446744073709551616 * y + y * y % 18446744073709551616 * y / 18446744073709551616) < n * 4294967296 ∨ (y * y / 18446744073709551616 * y + y * y % 18446744073709551616 * y / 18446744073709551616) = n * 4294967296 ∧ y * y % 18446744073709551616 * y % 18446744073709551616 = 0) := by
  unfold cuB
  rw [decide_eq_decide, show n * 79228162514264337593543950336 = n * 4294967296 * 18446744073709551616 by omega, ← below_iff]
  have e : y * y * y = y * y / 18446744073709551616 * y * 18446744073709551616 + y * y % 18446744073709551616 * y := by
    have h := Nat.div_add_mod (y * y) 18446744073709551616
    conv => lhs; rw [← h]
    rw [Nat.add_mul, Nat.mul_comm 18446744073709551616, Nat.mul_assoc, Nat.mul_comm 18446744073709551616 y, ← Nat.mul_assoc]
  rw [e]
  generalize y * y / 18446744073709551616 * y = A
  generalize y * y % 18446744073709551616 * y = C
  rw [show (A * 18446744073709551616 + C) / 18446744073709551616 = A + C / 18446744073709551616 by omega, show (A * 18446744073709551616 + C) % 18446744073709551616 = C % 18446744073709551616 by omega]

/-- What the cube's halves come to goes not round. -/
theorem top_small (y : Nat) (hy : y ≤ 4398046511104) : y * y / 18446744073709551616 * y + y * y % 18446744073709551616 * y / 18446744073709551616 < 18446744073709551616 := by
  have h1 : y * y ≤ 4398046511104 * 4398046511104 := Nat.mul_le_mul hy hy
  have h2 : y * y / 18446744073709551616 ≤ 1048576 := by omega
  have h3 : y * y / 18446744073709551616 * y ≤ 1048576 * 4398046511104 := Nat.mul_le_mul h2 hy
  have h4 : y * y % 18446744073709551616 * y ≤ 18446744073709551616 * 4398046511104 := Nat.mul_le_mul (by omega) hy
  omega

set_option maxHeartbeats 400000 in
theorem cube1_any (n y : Nat) (b : Nat) (w : World) (hy : y ≤ 4398046511104) (hn : n ≤ 65536) (hc : w.cell? ⟨b, 0, none⟩ = some (.int .u64 (n * 4294967296 : Nat))) :
    Calls Try.prog 47 #[.int .u64 y, .pointer (some ⟨b, 0, none⟩)] w fun e w' => e = .returned (.bool (cuB n y)) ∧ w = w' := by
  have hm := Try.bits_Mul64 y y (by omega) (by omega)
  have hm2 := Try.bits_Mul64 (y * y % 18446744073709551616) y (by omega) (by omega)
  have hq := cuB_eq n y
  have ht := top_small y hy
  rw [hq]
  clear hq
  generalize y * y / 18446744073709551616 = H at hm hm2 ht ⊢
  generalize y * y % 18446744073709551616 = L at hm hm2 ht ⊢
  generalize L * y / 18446744073709551616 = C at hm2 ht ⊢
  generalize L * y % 18446744073709551616 = R at hm2 ⊢
  generalize hN : n * 4294967296 = N at hc ⊢
  generalize hT : H * y + C = T at ht ⊢
  have hT' : IntKind.u64.wrap (IntKind.u64.wrap ((H : Int) * y) + C) = T := by
    simp only [IntKind.wrap, IntKind.signed, IntKind.bits, Bool.false_and]
    rw [if_neg (by simp), if_neg (by simp), ← hT]
    push_cast
    have : (H : Int) * y = ((H * y : Nat) : Int) := by push_cast; rfl
    rw [this]
    omega
  have HM := Lib.hid hm; have HM2 := Lib.hid hm2; have HT := Lib.hid hT'; clear hm hm2 hN hT hT'
  rcases halves T R N with ⟨h1, hd⟩ | ⟨h1, h2, h3, hd⟩ | ⟨h1, h2, h3, hd⟩ | ⟨h1, h2, hd⟩
  all_goals
    rw [hd]
    clear hd
    simp only [Int.ofNat_lt] at h1
    go_enter Try.func47, Try.ntmps47
    go_wp2_with fail
    refine (HM.out _).mono ?_
    rintro e w' ⟨rfl, hw⟩
    obtain rfl : w = w' := hw.symm
    go_wp2_with fail
    refine (HM2.out _).mono ?_
    rintro e w' ⟨rfl, hw⟩
    obtain rfl : w = w' := hw.symm
    have hT' := HT.out
    go_wp2
    go_ret
    exact ⟨rfl, rfl⟩

end Go.Proofs.Ytlpiacofnciodaa.rs
