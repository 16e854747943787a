import Derived.Test.YthcnligihpnfiaaGreatDoorPkV15
import Derived.Test.YthcnligihpnfiaaGreatDoorPkV20
import Derived.Test.YthcnligihpnfiaaGreatDoorRows
import Derived.LaidMore
import Derived.LaidSub
import Derived.Lib.LaidTab
import Derived.Test.YthcnligihpnfiaaGreatDoorChecked
import Derived.Test.YthcnligihpnfiaaGreatDoorPkV14
import Derived.Test.YthcnligihpnfiaaGreatDoorPkV4
import Derived.ChangeMaps5
section
namespace Go.Proofs.YthcnligihpnfiaaGreatDoor.am
open Go.ChangeShapes Go.WideShapes Go.ChangeAt Go.RowKit
open vt
set_option linter.unusedVariables false
structure LibL (L : List (Nat × Array Value)) : Prop where
  syn : ∃ tp p, (1, #[Value.iface tp p]) ∈ L
  rng : ∃ tp p, (2, #[Value.iface tp p]) ∈ L
  tab : (3, (Lib.pow10Tab.map fun z => Value.int .u64 z).toArray) ∈ L
theorem n_syn : Tryz.prog.globalNamed "strconv.ErrSyntax" = some 1 := by kernel_rfl
theorem n_rng : Tryz.prog.globalNamed "strconv.ErrRange" = some 2 := by kernel_rfl
theorem n_tab : Tryz.prog.globalNamed "internal/strconv.uint64pow10" = some 3 := by kernel_rfl
theorem gl_of_lib {L : List (Nat × Array Value)} (hL : LibL L) {γ : Nat → G} {S : CS} {w : World} {x : Nat} (h : Obj' γ S w x (.lib L)) : lx.Gl w := by
  obtain ⟨⟨t1, p1, h1⟩, ⟨t2, p2, h2⟩, h3⟩ := hL
  exact ⟨⟨t1, p1, lib_var h n_syn h1 (show 0 < 1 by decide)⟩, ⟨t2, p2, lib_var h n_rng h2 (show 0 < 1 by decide)⟩, lib_var h n_tab h3 (by decide)⟩
theorem lib_of_gl {w : World} (h : lx.Gl w) : ∃ L, LibL L ∧ ∀ p ∈ L, ∀ o, p.1 < w.heap.size ∧ w.cell? ⟨p.1, o, none⟩ = p.2[o]? := by
  obtain ⟨⟨t1, p1, h1⟩, ⟨t2, p2, h2⟩, h3⟩ := h
  refine ⟨[(1, #[Value.iface t1 p1]), (2, #[Value.iface t2 p2]), (3, (Lib.pow10Tab.map fun z => Value.int .u64 z).toArray)], ⟨⟨t1, p1, .head _⟩, ⟨t2, p2, .tail _ (.head _)⟩, .tail _ (.tail _ (.head _))⟩, ?_⟩
  intro p hp o
  rcases List.mem_cons.1 hp with rfl | hp
  · exact var_lib n_syn h1 o
  rcases List.mem_cons.1 hp with rfl | hp
  · exact var_lib n_rng h2 o
  rcases List.mem_cons.1 hp with rfl | hp
  · exact var_lib n_tab h3 o
  · cases hp
theorem tokens_row (L : List (Nat × Array Value)) (hL : LibL L) (s : ByteArray) (hs : s.size ≤ 9223372036854775807) : Row Tryz.prog 18 [vS s] [.lib L] (vTk (tokG s)) [some (.lib L)] := by
  refine ⟨⟨_, Tryz.func18, rfl, rfl⟩, spec_of_below fun γ S w vs hm hv => ?_⟩
  match vs, hv with
  | [v0], ⟨h0, _⟩ =>
    obtain ⟨rfl, _⟩ := lit_inv h0
    exact (lx.tokens_own s w (gl_of_lib hL (hm.obj 0 _ rfl)) hs).mono fun e w' h => rep_tokens h
end Go.Proofs.YthcnligihpnfiaaGreatDoor.am
end
section
namespace Go.Proofs.YthcnligihpnfiaaGreatDoor.lx
open Go.ChangeShapes Go.WideShapes Go.ChangeAt Go.RowKit
open bs
set_option linter.unusedVariables false
theorem trod_if {H : Type} {enc : TypeId × Value → H} {P : Program} {w : World} {base : Nat} {sp : Nat → Bool} {held : Bool} {fuel : Nat} {t : TypeId} {ms : Array (String × TypeId)} {cs : List Value} {n : String} {d : DataW H} {p : List MemPlace}
    (ht : P.underlying t = some (.interface ms)) (h : DataW.trod enc P w base sp held fuel t cs = some (.iface n d, p)) : ∃ u v, cs = [.iface u v] := by
  cases fuel with
  | zero => simp [DataW.trod] at h
  | succ fuel =>
    simp only [DataW.trod, ht] at h
    split at h <;> first | exact ⟨_, _, rfl⟩ | (simp at *; done)
theorem gl_of_laid {W : World} (h : laidMetH Tryz.prog Rows.unitReadsRow.laid W) : Gl W := by
  rw [MakeChecks.laidMetH_plain _ _ _ (by kernel_rfl)] at h
  obtain ⟨ps, hl, _, _⟩ := h
  obtain ⟨g0, t0, cs0, f0, p0, q0, hg0, ht0, hv0, hd0, hl, _⟩ := hl
  obtain ⟨g1, t1, cs1, f1, p1, q1, hg1, ht1, hv1, hd1, hl, _⟩ := hl
  obtain ⟨g2, t2, cs2, f2, p2, q2, hg2, ht2, hv2, hd2, hl, _⟩ := hl
  obtain ⟨g3, t3, cs3, f3, p3, q3, hg3, ht3, hv3, hd3, hl, _⟩ := hl
  obtain ⟨g4, t4, cs4, f4, p4, q4, hg4, ht4, hv4, hd4, hl, _⟩ := hl
  obtain rfl := Option.some.inj ((show Tryz.prog.globalNamed "internal/strconv.uint64pow10" = some 3 by kernel_rfl).symm.trans hg2)
  obtain rfl := Option.some.inj ((show (Tryz.prog.globals[3]?).map (·.type) = some 176 by kernel_rfl).symm.trans ht2)
  obtain rfl := Option.some.inj ((show Tryz.prog.globalNamed "strconv.ErrRange" = some 2 by kernel_rfl).symm.trans hg3)
  obtain rfl := Option.some.inj ((show (Tryz.prog.globals[2]?).map (·.type) = some 59 by kernel_rfl).symm.trans ht3)
  obtain rfl := Option.some.inj ((show Tryz.prog.globalNamed "strconv.ErrSyntax" = some 1 by kernel_rfl).symm.trans hg4)
  obtain rfl := Option.some.inj ((show (Tryz.prog.globals[1]?).map (·.type) = some 59 by kernel_rfl).symm.trans ht4)
  have hc2 := Lib.cells_of_tab (k := .u64) (zs := Lib.pow10Tab) Tryz.underlying176 Tryz.underlying151 (by kernel_rfl) (by kernel_rfl) hd2
  obtain ⟨u3, v3, hc3⟩ := trod_if Tryz.underlying59 hd3
  obtain ⟨u4, v4, hc4⟩ := trod_if Tryz.underlying59 hd4
  have e2 : cs2 = (Lib.pow10Tab.map fun z => Value.int .u64 z).toArray := by rw [← hc2]
  have e3 : cs3 = #[.iface u3 v3] := by rw [← Array.toList_inj]; exact hc3
  have e4 : cs4 = #[.iface u4 v4] := by rw [← Array.toList_inj]; exact hc4
  refine ⟨⟨u4, v4, by rw [hv4, e4]⟩, ⟨u3, v3, by rw [hv3, e3]⟩, by unfold Lib.TabIs; rw [hv2, e2]⟩
end Go.Proofs.YthcnligihpnfiaaGreatDoor.lx
end
section
namespace Go.Proofs.YthcnligihpnfiaaGreatDoor.am
open Go.ChangeShapes Go.WideShapes Go.ChangeAt Go.RowKit
open vt
set_option linter.unusedVariables false
set_option linter.unusedSimpArgs false
set_option maxRecDepth 100000
end Go.Proofs.YthcnligihpnfiaaGreatDoor.am
end
section
namespace Go.Proofs.YthcnligihpnfiaaGreatDoor.am
open Go.ChangeShapes Go.WideShapes Go.ChangeAt Go.RowKit
open vt
set_option linter.unusedVariables false
set_option maxRecDepth 100000 in
theorem open_vstring {H : Type} {enc : TypeId × Value → H} {w : World} {r : Reach} {b0 : Nat} {v : Value} {d : DataW H} {p : List MemPlace}
    (hv : Value.okWide Tryz.prog w r b0 9 v) (h : DataW.Trod enc Tryz.prog w 0 (fun _ => true) true 9 v d p) : ∃ s : ByteArray, RepV (fun _ => .un) (oldS w) w v (vS s) ∧ s.size ≤ 9223372036854775807 := by
  obtain ⟨s, rfl, _, _, h1⟩ := Go.ChangeMaps.open_string Tryz.underlying9 hv h
  exact ⟨s, .lit _ rfl, by unfold maxLen at h1; omega⟩
end Go.Proofs.YthcnligihpnfiaaGreatDoor.am
end
