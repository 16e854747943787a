/-
  Layer 5: what the rows' listed variables give the walks.
-/
import Derived.Test.YtlkggpjdaaglmaaDoorRows
import Derived.Test.YtlkggpjdaaglmaaDoorLexP
import Derived.LaidMore
import Derived.LaidSub
import Derived.Lib.LaidTab
namespace Go.Proofs.YtlkggpjdaaglmaaDoor.lx
open Go.ChangeShapes Go.WideShapes Go.ChangeAt Go.RowKit
open bs
set_option linter.unusedVariables false

theorem trod_if {H : Type} {enc : TypeId × Value → H} {P : Program} {w : World} {base : Nat} {sp : Nat → Bool} {held : Bool} {fuel : Nat} {t : TypeId} {ms : Array (String × TypeId)} {cs : List Value} {n : String} {d : DataW H} {p : List MemPlace}
    (ht : P.underlying t = some (.interface ms)) (h : DataW.trod enc P w base sp held fuel t cs = some (.iface n d, p)) : ∃ u v, cs = [.iface u v] := by
  cases fuel with
  | zero => simp [DataW.trod] at h
  | succ fuel =>
    simp only [DataW.trod, ht] at h
    split at h <;> first | exact ⟨_, _, rfl⟩ | (simp at *; done)

theorem gl_of_laid {W : World} (h : laidMetH Tryd.prog Rows.linkRenamesUptoRow.laid W) : Gl W := by
  rw [MakeChecks.laidMetH_plain _ _ _ (by kernel_rfl)] at h
  obtain ⟨ps, hl, _, _⟩ := h
  obtain ⟨g0, t0, cs0, f0, p0, q0, hg0, ht0, hv0, hd0, hl, _⟩ := hl
  obtain ⟨g1, t1, cs1, f1, p1, q1, hg1, ht1, hv1, hd1, hl, _⟩ := hl
  obtain ⟨g2, t2, cs2, f2, p2, q2, hg2, ht2, hv2, hd2, hl, _⟩ := hl
  obtain ⟨g3, t3, cs3, f3, p3, q3, hg3, ht3, hv3, hd3, hl, _⟩ := hl
  obtain ⟨g4, t4, cs4, f4, p4, q4, hg4, ht4, hv4, hd4, hl, _⟩ := hl
  obtain rfl := Option.some.inj ((show Tryd.prog.globalNamed "internal/strconv.uint64pow10" = some 3 by kernel_rfl).symm.trans hg2)
  obtain rfl := Option.some.inj ((show (Tryd.prog.globals[3]?).map (·.type) = some 143 by kernel_rfl).symm.trans ht2)
  obtain rfl := Option.some.inj ((show Tryd.prog.globalNamed "strconv.ErrRange" = some 2 by kernel_rfl).symm.trans hg3)
  obtain rfl := Option.some.inj ((show (Tryd.prog.globals[2]?).map (·.type) = some 57 by kernel_rfl).symm.trans ht3)
  obtain rfl := Option.some.inj ((show Tryd.prog.globalNamed "strconv.ErrSyntax" = some 1 by kernel_rfl).symm.trans hg4)
  obtain rfl := Option.some.inj ((show (Tryd.prog.globals[1]?).map (·.type) = some 57 by kernel_rfl).symm.trans ht4)
  have hc2 := Lib.cells_of_tab (k := .u64) (zs := Lib.pow10Tab) Tryd.underlying143 Tryd.underlying117 (by kernel_rfl) (by kernel_rfl) hd2
  obtain ⟨u3, v3, hc3⟩ := trod_if Tryd.underlying57 hd3
  obtain ⟨u4, v4, hc4⟩ := trod_if Tryd.underlying57 hd4
  have e2 : cs2 = (Lib.pow10Tab.map fun z => Value.int .u64 z).toArray := by rw [← hc2]
  have e3 : cs3 = #[.iface u3 v3] := by rw [← Array.toList_inj]; exact hc3
  have e4 : cs4 = #[.iface u4 v4] := by rw [← Array.toList_inj]; exact hc4
  refine ⟨⟨u4, v4, by rw [hv4, e4]⟩, ⟨u3, v3, by rw [hv3, e3]⟩, by unfold Lib.TabIs; rw [hv2, e2]⟩
end Go.Proofs.YtlkggpjdaaglmaaDoor.lx
