/-
  Layer 6: how deep a term is; the program's answer.
-/
import Derived.Test.YtbpjaidfpacbfaaTrmDeepW
namespace Go.Proofs.Ytbpjaidfpacbfaa.te
open Go.ChangeShapes Go.WideShapes Go.ChangeAt Go.RowKit
open bs tr
set_option linter.unusedVariables false

set_option maxRecDepth 100000 in
set_option maxHeartbeats 2000000 in
theorem depth_any (a : Vn) (w : World) (ha : a.Rd w) (hsz : a.tr.size ≤ 100000) : Calls Try.prog 16 #[a.val] w (ZP a.tr.depth w) := by
  have hW1 : Below w.heap.size w ((w.alloc (.cells #[.int .i64 a.x.k, .int .i64 a.x.n, .string a.x.s, .slice a.a a.m a.c, .int .i64 a.x.f, .int .i64 a.x.t] 24)).alloc (.cells #[.int .i64 0, .int .i64 0, .slice none 0 0] 64)) := ((Below.refl _ _).alloc (Nat.le_refl _) _).alloc (by simp) _
  have hZ : VB ((w.alloc (.cells #[.int .i64 a.x.k, .int .i64 a.x.n, .string a.x.s, .slice a.a a.m a.c, .int .i64 a.x.f, .int .i64 a.x.t] 24)).alloc (.cells #[.int .i64 0, .int .i64 0, .slice none 0 0] 64)) w.heap.size a := (vb_new w a).below (below_alloc _ _)
  have hT : Blk ((w.alloc (.cells #[.int .i64 a.x.k, .int .i64 a.x.n, .string a.x.s, .slice a.a a.m a.c, .int .i64 a.x.f, .int .i64 a.x.t] 24)).alloc (.cells #[.int .i64 0, .int .i64 0, .slice none 0 0] 64)) (w.heap.size + 1) #[.int .i64 ((0 : Nat) : Int), .int .i64 0, .slice none 0 0] 64 := by
    have := Blk.new (w.alloc (.cells #[.int .i64 a.x.k, .int .i64 a.x.n, .string a.x.s, .slice a.a a.m a.c, .int .i64 a.x.f, .int .i64 a.x.t] 24)) #[.int .i64 0, .int .i64 0, .slice none 0 0] 64
    rwa [size_alloc] at this
  have HW := Lib.hid hW1; have HZ := Lib.hid hZ; have HT := Lib.hid hT
  have HA := Lib.hid (ha.rs)
  clear ha hW1 hZ hT
  have hmf : ∀ (fn : Fn) (first cap : Array Value) (w : World), (Instr.makeFunc fn first cap).run Try.prog w = .ok (.func fn first cap) w := fun _ _ _ _ => rfl
  unfold Vn.val
  go_enter Try.func16, Try.ntmps16
  go_upto_region 2 with fail
  generalize hWW : ((w.alloc (.cells #[.int .i64 a.x.k, .int .i64 a.x.n, .string a.x.s, .slice a.a a.m a.c, .int .i64 a.x.f, .int .i64 a.x.t] 24)).alloc (.cells #[.int .i64 0, .int .i64 0, .slice none 0 0] 64)) = W at HW HZ HT ⊢
  clear hWW
  go_wp2_with (refine wpList_load_T rfl _ rfl rfl HZ.out ?_)
  refine (td.walk_any (w.heap.size + 1) w.heap.size (by omega) (.int .i64 0) (.slice none 0 0) a.tr a W none 0 0 [] 0 rfl (HA.out.below HW.out) HT.out (OwnI.nil _ _ _) (by omega) (by omega)).mono ?_
  rintro e w2 ⟨a2, c2, rfl, ho2, hb2, ht2, hl2⟩
  have HB := Lib.hid (HW.out.trans (ht2.below HW.out.size (by omega) (fun i h => by cases h)))
  rw [Nat.zero_add, Nat.zero_max] at hb2
  have p0 := hb2.cell 1
  simp at p0
  clear ho2 hb2 ht2 hl2 hmf
  go_wp2
  go_ret
  exact ⟨rfl, HB.out⟩
end Go.Proofs.Ytbpjaidfpacbfaa.te
