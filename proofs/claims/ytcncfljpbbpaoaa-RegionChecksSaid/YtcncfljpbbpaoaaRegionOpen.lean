/-
  A slice of regions that comes in, opened.
-/
import Derived.Test.YtcncfljpbbpaoaaRegionEdits
namespace Go.Proofs.Ytcncfljpbbpaoaa.rg
open Go.ChangeShapes Go.WideShapes Go.ChangeAt Go.RowKit
open bs
set_option linter.unusedVariables false

theorem in64_of {z : Int} (h : (Lit.int .i64 z).wf = true) : In64 z := by simpa [In64, Lit.wf, IntKind.min, IntKind.max, IntKind.signed, IntKind.bits] using h

set_option maxRecDepth 100000 in
theorem open_regs {H : Type} {enc : TypeId × Value → H} {w : World} {fuel : Nat} {a : Option Addr} {n c : Nat} {d : DataW H} {p : List MemPlace}
    (h : DataW.trod enc Try.prog w 0 (fun _ => true) true fuel 28 [.slice a n c] = some (d, p)) : ∃ l, Recs 4 RegAt w a n c l := by
  obtain ⟨l, hl, _⟩ := open_recs 4 RegAt Try.underlying28 (by kernel_rfl) (by decide) (fun m cs y b o ht hlen hc => by
    obtain ⟨xs, n', _, _, _, hxl, hg⟩ := DataW.trod_struct Try.underlying39 ht
    have hxl' : xs.length = 4 := hxl
    match cs, hlen, hc with
    | [v0, v1, v2, v3], _, hc =>
      match xs, hxl' with
      | [y0, y1, y2, y3], _ =>
        have c3 : Try.prog.cellsOf 3 = 1 := by kernel_rfl
        have g0 := hg 0 _ rfl
        have g1 := hg 1 _ rfl
        have g2 := hg 2 _ rfl
        have g3 := hg 3 _ rfl
        simp [c3] at g0 g1 g2 g3
        obtain ⟨z0, h0, _, w0⟩ := DataW.trod_int Try.underlying3 g0
        obtain ⟨z1, h1, _, w1⟩ := DataW.trod_int Try.underlying3 g1
        obtain ⟨z2, h2, _, w2⟩ := DataW.trod_int Try.underlying3 g2
        obtain ⟨z3, h3, _, w3⟩ := DataW.trod_int Try.underlying3 g3
        simp only [List.cons.injEq, and_true] at h0 h1 h2 h3
        subst h0 h1 h2 h3
        exact ⟨⟨z0, z1, z2, z3⟩, hc 0 (by decide), hc 1 (by decide), hc 2 (by decide), hc 3 (by decide), in64_of w0, in64_of w1, in64_of w2, in64_of w3⟩) h
  exact ⟨l, hl⟩
end Go.Proofs.Ytcncfljpbbpaoaa.rg
