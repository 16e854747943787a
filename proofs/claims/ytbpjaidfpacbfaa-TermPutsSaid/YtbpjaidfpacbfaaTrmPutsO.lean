/-
  Layer 6: what TermPuts takes, opened; its first steps.
-/
import Derived.Test.YtbpjaidfpacbfaaTrmSet
import Derived.Test.YtbpjaidfpacbfaaTrmWay
import Derived.Test.YtbpjaidfpacbfaaTrmSames
namespace Go.Proofs.Ytbpjaidfpacbfaa.te
open Go.ChangeShapes Go.WideShapes Go.ChangeAt Go.RowKit
open bs tr
set_option linter.unusedVariables false

structure Pt where
  t : Vn
  a : Option Addr
  n : Nat
  c : Nat
  p : List Int
  x : Vn
  a' : Option Addr
  n' : Nat
  c' : Nat
  o : List Int
def Pt.cells (q : Pt) : List Value := q.t.cells ++ [.slice q.a q.n q.c] ++ q.x.cells ++ [.slice q.a' q.n' q.c']
def Pt.val (q : Pt) : Value := .agg #[.int .i64 q.t.x.k, .int .i64 q.t.x.n, .string q.t.x.s, .slice q.t.a q.t.m q.t.c, .int .i64 q.t.x.f, .int .i64 q.t.x.t, .slice q.a q.n q.c, .int .i64 q.x.x.k, .int .i64 q.x.x.n, .string q.x.x.s, .slice q.x.a q.x.m q.x.c, .int .i64 q.x.x.f, .int .i64 q.x.x.t, .slice q.a' q.n' q.c']
structure Pt.Rd (w : World) (q : Pt) : Prop where
  t : q.t.Rd w
  p : I64s w q.a q.n q.c q.p
  x : q.x.Rd w
  o : I64s w q.a' q.n' q.c' q.o

theorem take_len {α : Type} {l : List α} {n : Nat} (h : n ≤ l.length) : (l.take n).length = n := by rw [List.length_take]; omega

set_option maxRecDepth 100000 in
theorem open_puts {H : Type} {enc : TypeId × Value → H} {w : World} {r : Reach} {b0 : Nat} {v : Value} {d : DataW H} {p : List MemPlace}
    (hv : Value.okWide Try.prog w r b0 35 v) (h : DataW.Trod enc Try.prog w 0 (fun _ => true) true 35 v d p) : ∃ q : Pt, v = q.val ∧ q.Rd w := by
  obtain ⟨cs, rfl, hsz⟩ := okWide_struct Try.underlying35 hv
  obtain ⟨fuel, hf⟩ := h
  have hc : Try.prog.cellsOf 35 = 14 := by kernel_rfl
  have hlen : cs.toList.length = 14 := by rw [Array.length_toList, hsz, hc]
  have hf' : DataW.trod enc Try.prog w 0 (fun _ => true) true fuel 35 cs.toList = some (d, p) := hf
  obtain ⟨ls, hls⟩ : ∃ ls, cs.toList = ls := ⟨_, rfl⟩
  rw [hls] at hlen hf'
  obtain ⟨xs, n', hn', _, _, hxl, hg⟩ := DataW.trod_struct Try.underlying35 hf'
  have hxl' : xs.length = 4 := hxl
  have ct : Try.prog.cellsOf 24 = 6 := by kernel_rfl
  have ci : Try.prog.cellsOf 33 = 1 := by kernel_rfl
  match ls, hlen, hls with
  | [z0, z1, z2, z3, z4, z5, z6, z7, z8, z9, z10, z11, z12, z13], _, hls =>
    match xs, hxl' with
    | [y0, y1, y2, y3], _ =>
      have g0 := hg 0 _ rfl
      have g1 := hg 1 _ rfl
      have g2 := hg 2 _ rfl
      have g3 := hg 3 _ rfl
      simp [ct, ci] at g0 g1 g2 g3
      obtain ⟨t, ht, htr⟩ := open_six g0 rfl
      obtain ⟨x, hx, hxr⟩ := open_six g2 rfl
      obtain ⟨a, n, c, l, rfl, hp⟩ := open_i64s_cell Try.underlying33 Try.underlying3 (by kernel_rfl) g1
      obtain ⟨a', n'', c', l', rfl, ho⟩ := open_i64s_cell Try.underlying33 Try.underlying3 (by kernel_rfl) g3
      refine ⟨⟨t, a, n, c, l, x, a', n'', c', l'⟩, ?_, ⟨htr, hp, hxr, ho⟩⟩
      have hcs : cs = ([z0, z1, z2, z3, z4, z5, .slice a n c, z7, z8, z9, z10, z11, z12, .slice a' n'' c'] : List Value).toArray := by rw [← hls]
      simp only [Vn.cells, List.cons.injEq, and_true] at ht hx
      obtain ⟨rfl, rfl, rfl, rfl, rfl, rfl⟩ := ht
      obtain ⟨rfl, rfl, rfl, rfl, rfl, rfl⟩ := hx
      rw [hcs]
      rfl

structure Rel1 (W wx : World) (g3 g5 : Nat) (T X : Vn) : Prop where
  t : VB wx g3 T
  x : VB wx g5 X
  below : Below W.heap.size W wx
end Go.Proofs.Ytbpjaidfpacbfaa.te
