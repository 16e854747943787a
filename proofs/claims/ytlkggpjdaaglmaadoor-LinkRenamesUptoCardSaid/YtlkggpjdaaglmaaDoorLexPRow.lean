/-
  Layer 5: the tokens of a text, as rows of the machine of values: the program's.
-/
import Derived.Test.YtlkggpjdaaglmaaDoorLexRow
import Derived.Test.YtlkggpjdaaglmaaDoorLexP
namespace Go.Proofs.YtlkggpjdaaglmaaDoor.am
open Go.ChangeShapes Go.WideShapes Go.ChangeAt Go.RowKit
open vt
set_option linter.unusedVariables false

/-- What the library's variables hold. -/
structure LibL (L : List (Nat × Array Value)) : Prop where
  syn : ∃ tp p, (1, #[Value.iface tp p]) ∈ L
  rng : ∃ tp p, (2, #[Value.iface tp p]) ∈ L
  tab : (3, (Lib.pow10Tab.map fun z => Value.int .u64 z).toArray) ∈ L
theorem n_syn : Tryd.prog.globalNamed "strconv.ErrSyntax" = some 1 := by kernel_rfl
theorem n_rng : Tryd.prog.globalNamed "strconv.ErrRange" = some 2 := by kernel_rfl
theorem n_tab : Tryd.prog.globalNamed "internal/strconv.uint64pow10" = some 3 := by kernel_rfl
theorem gl_of_lib {L : List (Nat × Array Value)} (hL : LibL L) {γ : Nat → G} {S : CS} {w : World} {x : Nat} (h : Obj' γ S w x (.lib L)) : lx.Gl w := by
  obtain ⟨⟨t1, p1, h1⟩, ⟨t2, p2, h2⟩, h3⟩ := hL
  exact ⟨⟨t1, p1, lib_var h n_syn h1 (show 0 < 1 by decide)⟩, ⟨t2, p2, lib_var h n_rng h2 (show 0 < 1 by decide)⟩, lib_var h n_tab h3 (by decide)⟩
theorem lib_of_gl {w : World} (h : lx.Gl w) : ∃ L, LibL L ∧ ∀ p ∈ L, ∀ o, p.1 < w.heap.size ∧ w.cell? ⟨p.1, o, none⟩ = p.2[o]? := by
  obtain ⟨⟨t1, p1, h1⟩, ⟨t2, p2, h2⟩, h3⟩ := h
  refine ⟨[(1, #[Value.iface t1 p1]), (2, #[Value.iface t2 p2]), (3, (Lib.pow10Tab.map fun z => Value.int .u64 z).toArray)], ⟨⟨t1, p1, .head _⟩, ⟨t2, p2, .tail _ (.head _)⟩, .tail _ (.tail _ (.head _))⟩, ?_⟩
  intro p hp o
  rcases List.mem_cons.1 hp with rfl | hp
  · exact var_lib n_syn h1 o
  rcases List.mem_cons.1 hp with rfl | hp
  · exact var_lib n_rng h2 o
  rcases List.mem_cons.1 hp with rfl | hp
  · exact var_lib n_tab h3 o
  · cases hp
theorem tokens_row (L : List (Nat × Array Value)) (hL : LibL L) (s : ByteArray) (hs : s.size ≤ 9223372036854775807) : Row Tryd.prog 20 [vS s] [.lib L] (vTk (tokG s)) [some (.lib L)] := by
  refine ⟨⟨_, Tryd.func20, rfl, rfl⟩, spec_of_below fun γ S w vs hm hv => ?_⟩
  match vs, hv with
  | [v0], ⟨h0, _⟩ =>
    obtain ⟨rfl, _⟩ := lit_inv h0
    exact (lx.tokens_own s w (gl_of_lib hL (hm.obj 0 _ rfl)) hs).mono fun e w' h => rep_tokens h
end Go.Proofs.YtlkggpjdaaglmaaDoor.am
