/-
  Contracts of both 'Get's of layer 1 in all cases.
-/
import Derived.Test.YtjdgebafhcbfoaaVarRGet
namespace Go.Proofs.Ytjdgebafhcbfoaa.vs
open Go.ChangeShapes Go.WideShapes Go.ChangeAt Go.RowKit
open bs
set_option linter.unusedVariables false

set_option maxRecDepth 100000 in
set_option maxHeartbeats 1000000 in
theorem get_any (a : Option Addr) (n c : Nat) (l : List Int) (at' : Int) (w : World) (h : Bytes w a n c l) (hn : n ≤ 140737488355328) (h0 : -9223372036854775808 ≤ at') (h1 : at' ≤ 9223372036854775807) :
    Calls Try.prog 12 #[.slice a n c, .int .i64 at'] w fun e w' => e = .returned (.tuple #[.int .u64 (getAt l at').1, .int .i64 (getAt l at').2.1, .int .i64 (getAt l at').2.2]) ∧ w' = w := by
  by_cases hlo : at' < 0
  · rw [getAt_out l at' (.inl hlo)]
    clear h
    go_enter Try.func12, Try.ntmps12
    go_wp2
    go_ret3
    exact ⟨rfl, rfl⟩
  · by_cases hhi : (n : Int) < at'
    · rw [getAt_out l at' (.inr (by rw [h.len]; exact hhi))]
      clear h
      have d0 : decide (at' < 0) = false := by simpa using hlo
      go_enter Try.func12, Try.ntmps12
      go_wp2
      go_ret3
      exact ⟨rfl, rfl⟩
    · by_cases hz : n = 0
      · subst hz
        obtain rfl : at' = 0 := by omega
        rw [getAt_end l h.len]
        clear h
        go_enter Try.func12, Try.ntmps12
        go_wp2
        go_loop [7, 18] (fun v i => v = .int .u64 0 ∧ i = .int .i64 0) (fun _ _ => 0)
        case atStart => exact ⟨rfl, rfl⟩
        case round =>
          obtain ⟨rfl, rfl⟩ := hrel
          go_wp2
          go_ret3
          exact ⟨rfl, rfl⟩
      · obtain ⟨q, rfl⟩ := Int.eq_ofNat_of_zero_le (show 0 ≤ at' by omega)
        exact get_in a n c l q w h hn (by omega) (by omega)

set_option maxRecDepth 100000 in
set_option maxHeartbeats 1000000 in
theorem rget_any (a : Option Addr) (n c : Nat) (l : List Int) (at' : Int) (w : World) (h : Bytes w a n c l) (hn : n ≤ 140737488355328) (h0 : -9223372036854775808 ≤ at') (h1 : at' ≤ 9223372036854775807) :
    Calls Try.prog 13 #[.slice a n c, .int .i64 at'] w fun e w' => e = .returned (.tuple #[.int .u64 (getAt l at').1, .int .i64 (getAt l at').2.1, .int .i64 (getAt l at').2.2]) ∧ w' = w := by
  by_cases hlo : at' < 0
  · rw [getAt_out l at' (.inl hlo)]
    clear h
    go_enter Try.func13, Try.ntmps13
    go_wp2
    go_ret3
    exact ⟨rfl, rfl⟩
  · by_cases hhi : (n : Int) < at'
    · rw [getAt_out l at' (.inr (by rw [h.len]; exact hhi))]
      clear h
      have d0 : decide (at' < 0) = false := by simpa using hlo
      go_enter Try.func13, Try.ntmps13
      go_wp2
      go_ret3
      exact ⟨rfl, rfl⟩
    · by_cases hz : n = 0
      · subst hz
        obtain rfl : at' = 0 := by omega
        rw [getAt_end l h.len]
        clear h
        go_enter Try.func13, Try.ntmps13
        go_wp2
        go_loop [7, 8, 9] (fun v u i => v = .int .u64 0 ∧ u = .int .u64 1 ∧ i = .int .i64 0) (fun _ _ _ => 0)
        case atStart => exact ⟨rfl, rfl, rfl⟩
        case round =>
          obtain ⟨rfl, rfl, rfl⟩ := hrel
          go_wp2
          go_ret3
          exact ⟨rfl, rfl⟩
      · obtain ⟨q, rfl⟩ := Int.eq_ofNat_of_zero_le (show 0 ≤ at' by omega)
        exact rget_in a n c l q w h hn (by omega) (by omega)

end Go.Proofs.Ytjdgebafhcbfoaa.vs
