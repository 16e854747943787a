/-
  Layer 5: the words.
-/
import Derived.Test.YtlfhdjlgjekcpaaDoorLexRun
import Derived.Test.YtlfhdjlgjekcpaaDoorLexOn
namespace Go.Proofs.YtlfhdjlgjekcpaaDoor.lx
open Go.ChangeShapes Go.WideShapes Go.ChangeAt Go.RowKit
open bs
set_option linter.unusedVariables false

set_option maxRecDepth 100000 in
set_option maxHeartbeats 4000000 in
theorem word_any (v : ByteArray) (w : World) : Calls Tryd.prog 20 #[.string v] w fun e w' => e = .returned (.bool (isW v)) ∧ w' = w := by
  go_enter Tryd.func20, Tryd.ntmps20
  go_wp2_with fail
  all_goals first
    | (exfalso; simp_all; done)
    | (go_ret
       refine ⟨?_, by trivial⟩
       show Ending.returned (.bool _) = _
       congr 2
       simp_all [isW, wordL])
end Go.Proofs.YtlfhdjlgjekcpaaDoor.lx
