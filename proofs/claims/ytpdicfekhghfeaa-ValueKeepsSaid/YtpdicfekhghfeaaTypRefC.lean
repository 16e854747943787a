/-
  Layer 12: the document's Cells.
-/
import Derived.Test.YtpdicfekhghfeaaTypRefW
namespace Go.Proofs.Ytpdicfekhghfeaa.ty
open Go.ChangeShapes Go.WideShapes Go.ChangeAt Go.RowKit
open bs tr te
set_option linter.unusedVariables false

theorem within_any (m : Vn) (hN : m.l.length ≤ 1000000) (g : Nat) : ∀ t, WiP m g t := by
  induction g with
  | zero => exact within_step m hN 0 (fun t h => absurd rfl h)
  | succ g ih => exact within_step m hN (g + 1) (fun t _ => ih t)

set_option maxRecDepth 100000 in
set_option maxHeartbeats 4000000 in
theorem rcells_any (m a : Vn) (w : World) (hm : m.Rd w) (ha : a.Rd w) (hN : m.l.length ≤ 1000000) : Calls Try.prog 12 #[m.val, a.val] w (CsP (ce m.l m.l.length a.tr) w) := by
  have hW : Below w.heap.size w (((w.alloc (.cells #[.int .i64 m.x.k, .int .i64 m.x.n, .string m.x.s, .slice m.a m.m m.c, .int .i64 m.x.f, .int .i64 m.x.t] 24)).alloc (.cells #[.int .i64 a.x.k, .int .i64 a.x.n, .string a.x.s, .slice a.a a.m a.c, .int .i64 a.x.f, .int .i64 a.x.t] 24))) := ((Below.refl _ _).alloc (Nat.le_refl _) _).alloc (by simp only [te.size_alloc]; omega) _
  have HW := Lib.hid hW
  have HMR := Lib.hid hm; have HA := Lib.hid ha
  clear hm ha hW
  unfold Vn.val
  go_enter Try.func12, Try.ntmps12
  go_wp2_with fail
  have hsz : ((w.alloc (.cells #[.int .i64 m.x.k, .int .i64 m.x.n, .string m.x.s, .slice m.a m.m m.c, .int .i64 m.x.f, .int .i64 m.x.t] 24)).alloc (.cells #[.int .i64 a.x.k, .int .i64 a.x.n, .string a.x.s, .slice a.a a.m a.c, .int .i64 a.x.f, .int .i64 a.x.t] 24)).heap.size = w.heap.size + 1 + 1 := by rw [te.size_alloc, te.size_alloc]
  have HSZ := Lib.hid hsz
  clear hsz
  generalize hWW : ((w.alloc (.cells #[.int .i64 m.x.k, .int .i64 m.x.n, .string m.x.s, .slice m.a m.m m.c, .int .i64 m.x.f, .int .i64 m.x.t] 24)).alloc (.cells #[.int .i64 a.x.k, .int .i64 a.x.n, .string a.x.s, .slice a.a a.m a.c, .int .i64 a.x.f, .int .i64 a.x.t] 24)) = W at HW HSZ ⊢
  clear hWW
  have hb : Below w.heap.size w (W.alloc (.cells #[] 3)) := HW.out.alloc (by have := HSZ.out; omega) _
  have ho : I64s (W.alloc (.cells #[] 3)) (some ⟨w.heap.size + 1 + 1, 0, none⟩) 0 0 (ints []) := (own0 (base := 0) (blk_new' HSZ.out.symm) (Nat.zero_le _)).reads
  refine (within_any m hN m.l.length a.tr [] a _ _ _ _ rfl (HA.out.below hb) (HMR.out.below hb) ho (by simp) (inn_nil _ _)).mono ?_
  rintro e w2 ⟨rfl, hb2⟩
  have HB := Lib.hid (hb.trans (hb2.mono hb.size))
  clear hb2 hb ho
  go_wp2
  go_ret
  exact ⟨rfl, HB.out⟩
end Go.Proofs.Ytpdicfekhghfeaa.ty
