/-
  Layer 14: sizes of what is moved: plain. No program is named here.
-/
import Derived.Test.YtjmjillfclfkgaaVtShi
namespace Go.Proofs.Ytjmjillfclfkgaa.vt
open Go.Proofs.Ytjmjillfclfkgaa.am
set_option linter.unusedVariables false
theorem size_sh (by' fr : Int) (t : VT) : ∀ d, (sh by' fr t d).size = t.size := by
  induction t using Tr.ind with
  | h x l ih =>
  intro d
  rw [sh_mk]
  split
  · rw [Tr.size_mk, Tr.size_mk]
  · rw [Tr.size_mk, Tr.size_mk]
    congr 2
    apply List.ext_getElem?
    intro i
    rw [List.getElem?_map, List.getElem?_map, kidS, List.getElem?_mapIdx]
    cases hi : l[i]? with
    | none => rfl
    | some y => simp [ih y (List.mem_of_getElem? hi)]
end Go.Proofs.Ytjmjillfclfkgaa.vt
