/-
  Layer 5: letters, digits, blanks; the scanner.
-/
import Derived.Test.YtlfhdjlgjekcpaaDoorLexPlain
import Derived.Test.YtlfhdjlgjekcpaaDoorTurned
import Derived.Test.YtlfhdjlgjekcpaaDoorProg
namespace Go.Proofs.YtlfhdjlgjekcpaaDoor.lx
open Go.ChangeShapes Go.WideShapes Go.ChangeAt Go.RowKit
open bs
set_option linter.unusedVariables false

theorem letter_any (c : Int) (w : World) : Calls Tryd.prog 21 #[.int .u8 c] w fun e w' => e = .returned (.bool (isL c)) ∧ w' = w := by
  by_cases hp : isL c = true
  · have hc := of_decide_eq_true hp
    by_cases h1 : (65 : Int) ≤ c <;> by_cases h2 : c ≤ 90 <;> by_cases h3 : (97 : Int) ≤ c <;> by_cases h4 : c ≤ 122 <;> by_cases h5 : c = 95 <;> (first | omega |
      (rw [hp]
       have d5 : (c == 95) = decide (c = 95) := rfl
       have H := Lib.hid hc; clear hc hp
       go_enter Tryd.func21, Tryd.ntmps21; go_wp2; go_ret; have hc := H.out; simp [h1, h2, h3, h4, h5]))
  · have hf : isL c = false := by simpa using hp
    have hc := of_decide_eq_false hf
    by_cases h1 : (65 : Int) ≤ c <;> by_cases h2 : c ≤ 90 <;> by_cases h3 : (97 : Int) ≤ c <;> by_cases h4 : c ≤ 122 <;> by_cases h5 : c = 95 <;> (first | omega |
      (rw [hf]
       have H := Lib.hid hc; clear hc hp hf
       go_enter Tryd.func21, Tryd.ntmps21; go_wp2; go_ret; have hc := H.out; simp [h1, h2, h3, h4, h5]))
theorem digit_any (c : Int) (w : World) : Calls Tryd.prog 33 #[.int .u8 c] w fun e w' => e = .returned (.bool (isD c)) ∧ w' = w := by
  unfold isD
  by_cases h1 : (48 : Int) ≤ c <;> by_cases h2 : c ≤ 57 <;>
    (go_enter Tryd.func33, Tryd.ntmps33; go_wp2; go_ret; simp [h1, h2])
theorem blank_any (c : Int) (w : World) : Calls Tryd.prog 29 #[.int .u8 c] w fun e w' => e = .returned (.bool (isB c)) ∧ w' = w := by
  unfold isB
  by_cases h1 : c = 32 <;> by_cases h2 : c = 9 <;> by_cases h3 : c = 10 <;> by_cases h4 : c = 13 <;>
    (go_enter Tryd.func29, Tryd.ntmps29; go_wp2; go_ret; simp [h1, h2, h3, h4])
end Go.Proofs.YtlfhdjlgjekcpaaDoor.lx
