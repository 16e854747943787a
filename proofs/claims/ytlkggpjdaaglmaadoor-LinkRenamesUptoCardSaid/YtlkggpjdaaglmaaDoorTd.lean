/-
  The table's facts on the first types. No function is named here.
-/
import Derived.Test.YtlkggpjdaaglmaaDoorVt
import Derived.Test.YtlkggpjdaaglmaaDoorProg
namespace Go.Proofs.YtlkggpjdaaglmaaDoor.am
open vt
theorem td_term : td Tryd.prog 38 = some ⟨true, 6, 72, [.lit (.int .i64 0), .lit (.int .i64 0), .lit (.string ⟨#[]⟩), .nilS, .lit (.int .i64 0), .lit (.int .i64 0)], [(0, 1, false), (1, 1, false), (2, 1, false), (3, 1, false), (4, 1, false), (5, 1, false)], .struct⟩ := Eq.trans (by kernel_rfl) (Eq.refl _)
theorem td_terms : td Tryd.prog 36 = some ⟨false, 1, 24, [.nilS], [], (.slice 38)⟩ := Eq.trans (by kernel_rfl) (Eq.refl _)
theorem td_int : td Tryd.prog 3 = some ⟨false, 1, 8, [.lit (.int .i64 0)], [], (.int .i64)⟩ := Eq.trans (by kernel_rfl) (Eq.refl _)
theorem td_int64 : td Tryd.prog 2 = some ⟨false, 1, 8, [.lit (.int .i64 0)], [], (.int .i64)⟩ := Eq.trans (by kernel_rfl) (Eq.refl _)
theorem td_bool : td Tryd.prog 4 = some ⟨false, 1, 1, [.lit (.bool false)], [], .bool⟩ := Eq.trans (by kernel_rfl) (Eq.refl _)
theorem td_string : td Tryd.prog 9 = some ⟨false, 1, 16, [.lit (.string ⟨#[]⟩)], [], .string⟩ := Eq.trans (by kernel_rfl) (Eq.refl _)
attribute [simp] td_term td_terms td_int td_int64 td_bool td_string
theorem mixd : Tryd.prog.follows .mixedOrders = true := by kernel_rfl
end Go.Proofs.YtlkggpjdaaglmaaDoor.am
