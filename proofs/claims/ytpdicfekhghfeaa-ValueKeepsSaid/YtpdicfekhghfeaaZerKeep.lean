/-
  Layer 19: the argument of ValueKeeps.
-/
import Derived.Test.YtpdicfekhghfeaaTrmTree
import Derived.Test.YtpdicfekhghfeaaValTree
namespace Go.Proofs.Ytpdicfekhghfeaa.zf
open Go.ChangeShapes Go.WideShapes Go.ChangeAt Go.RowKit
open bs tr te
set_option linter.unusedVariables false

structure KV where
  m : te.Vn
  t : te.Vn
  a : Option Addr
  n : Nat
  c : Nat
  l : List Int
  x : Int
def KV.cells (k : KV) : List Value := [.int .i64 k.m.x.k, .int .i64 k.m.x.n, .string k.m.x.s, .slice k.m.a k.m.m k.m.c, .int .i64 k.m.x.f, .int .i64 k.m.x.t, .int .i64 k.t.x.k, .int .i64 k.t.x.n, .string k.t.x.s, .slice k.t.a k.t.m k.t.c, .int .i64 k.t.x.f, .int .i64 k.t.x.t, .slice k.a k.n k.c, .int .i64 k.x]
def KV.val (k : KV) : Value := .agg #[.int .i64 k.m.x.k, .int .i64 k.m.x.n, .string k.m.x.s, .slice k.m.a k.m.m k.m.c, .int .i64 k.m.x.f, .int .i64 k.m.x.t, .int .i64 k.t.x.k, .int .i64 k.t.x.n, .string k.t.x.s, .slice k.t.a k.t.m k.t.c, .int .i64 k.t.x.f, .int .i64 k.t.x.t, .slice k.a k.n k.c, .int .i64 k.x]
structure KV.Rd (w : World) (k : KV) : Prop where
  m : k.m.Rd w
  t : k.t.Rd w
  w : I64s w k.a k.n k.c k.l
  x : va.In64 k.x

set_option maxRecDepth 100000 in
theorem open_keep {H : Type} {enc : TypeId × Value → H} {w : World} {r : Reach} {b0 : Nat} {v : Value} {d : DataW H} {p : List MemPlace}
    (hv : Value.okWide Try.prog w r b0 37 v) (h : DataW.Trod enc Try.prog w 0 (fun _ => true) true 37 v d p) : ∃ x : KV, v = x.val ∧ x.Rd w := by
  obtain ⟨cs, rfl, hsz⟩ := okWide_struct Try.underlying37 hv
  obtain ⟨fuel, hf⟩ := h
  have hc : Try.prog.cellsOf 37 = 14 := by kernel_rfl
  have hlen : cs.toList.length = 14 := by rw [Array.length_toList, hsz, hc]
  obtain ⟨xs, n', hn', _, _, hxl, hg⟩ := DataW.trod_struct Try.underlying37 hf
  have hxl' : xs.length = 4 := hxl
  have hcs : cs = cs.toList.toArray := by simp
  have hcells : (Value.agg cs).cells.toList = cs.toList := rfl
  generalize hL : cs.toList = L at *
  match L, hlen with
  | [v0, v1, v2, v3, v4, v5, v6, v7, v8, v9, v10, v11, v12, v13], _ =>
    match xs, hxl' with
    | [y0, y1, y2, y3], _ =>
      have ct : Try.prog.cellsOf 24 = 6 := by kernel_rfl
      have ci : Try.prog.cellsOf 2 = 1 := by kernel_rfl
      have cb : Try.prog.cellsOf 35 = 1 := by kernel_rfl
      simp only [hcells] at hg
      have g0 := hg 0 _ rfl
      have g1 := hg 1 _ rfl
      have g2 := hg 2 _ rfl
      have g3 := hg 3 _ rfl
      simp [ct, ci, cb] at g0 g1 g2 g3
      obtain ⟨m, hm, hmr⟩ := open_six g0 rfl
      obtain ⟨t, ht, htr⟩ := open_six g1 rfl
      obtain ⟨a, n, c, l, rfl, hw⟩ := open_i64s_cell Try.underlying35 Try.underlying3 (by kernel_rfl) g2
      obtain ⟨z, h3, _, w3⟩ := DataW.trod_int Try.underlying2 g3
      simp only [te.Vn.cells, List.cons.injEq, and_true] at hm ht h3
      obtain ⟨rfl, rfl, rfl, rfl, rfl, rfl⟩ := hm
      obtain ⟨rfl, rfl, rfl, rfl, rfl, rfl⟩ := ht
      subst h3
      exact ⟨⟨m, t, a, n, c, l, z⟩, by rw [hcs]; rfl, ⟨hmr, htr, hw, in64 w3⟩⟩
end Go.Proofs.Ytpdicfekhghfeaa.zf
