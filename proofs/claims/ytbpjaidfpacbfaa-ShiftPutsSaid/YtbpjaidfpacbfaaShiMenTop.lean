/-
  Layer 14: Mentions, the program's; Wild.
-/
import Derived.Test.YtbpjaidfpacbfaaShiMenWalk
namespace Go.Proofs.Ytbpjaidfpacbfaa.te
open Go.ChangeShapes Go.WideShapes Go.ChangeAt Go.RowKit
open bs tr
set_option linter.unusedVariables false

set_option maxRecDepth 100000 in
set_option maxHeartbeats 2000000 in
theorem men_any (fr : Int) (v : Vn) (w : World) (hv : v.Rd w) (hsz : v.tr.size ≤ 100000) (h64 : te.I64 fr) : Calls Try.prog 36 #[A6 v, .int .i64 fr] w (BBP (tm.lo 0 fr v.tr 0) w) := by
  have hW1 : Below w.heap.size w ((w.alloc (.cells #[.int .i64 v.x.k, .int .i64 v.x.n, .string v.x.s, .slice v.a v.m v.c, .int .i64 v.x.f, .int .i64 v.x.t] 24)).alloc (.cells #[.int .i64 fr, .bool false] 77)) := ((Below.refl _ _).alloc (Nat.le_refl _) _).alloc (by simp) _
  have hZ : VB ((w.alloc (.cells #[.int .i64 v.x.k, .int .i64 v.x.n, .string v.x.s, .slice v.a v.m v.c, .int .i64 v.x.f, .int .i64 v.x.t] 24)).alloc (.cells #[.int .i64 fr, .bool false] 77)) w.heap.size v := (vb_new w v).below (below_alloc _ _)
  have hT : tm.MB ((w.alloc (.cells #[.int .i64 v.x.k, .int .i64 v.x.n, .string v.x.s, .slice v.a v.m v.c, .int .i64 v.x.f, .int .i64 v.x.t] 24)).alloc (.cells #[.int .i64 fr, .bool false] 77)) (w.heap.size + 1) 0 fr false := by
    have := Blk.new (w.alloc (.cells #[.int .i64 v.x.k, .int .i64 v.x.n, .string v.x.s, .slice v.a v.m v.c, .int .i64 v.x.f, .int .i64 v.x.t] 24)) #[.int .i64 fr, .bool false] 77
    rwa [size_alloc] at this
  have HW := Lib.hid hW1; have HZ := Lib.hid hZ; have HT := Lib.hid hT
  have HV := Lib.hid hv.rs; have HSZ := Lib.hid hsz; have H64 := Lib.hid h64
  clear hv hW1 hZ hT hsz h64
  have hmf : ∀ (fn : Fn) (first cap : Array Value) (w : World), (Instr.makeFunc fn first cap).run Try.prog w = .ok (.func fn first cap) w := fun _ _ _ _ => rfl
  go_enter Try.func36, Try.ntmps36
  go_upto_region 2 with fail
  generalize hWW : ((w.alloc (.cells #[.int .i64 v.x.k, .int .i64 v.x.n, .string v.x.s, .slice v.a v.m v.c, .int .i64 v.x.f, .int .i64 v.x.t] 24)).alloc (.cells #[.int .i64 fr, .bool false] 77)) = W at HW HZ HT ⊢
  clear hWW
  go_wp2_with (refine wpList_load_T rfl _ rfl rfl HZ.out ?_)
  refine (tm.mwalk_any 0 fr trivial trivial H64.out.1 H64.out.2 (w.heap.size + 1) w.heap.size (by omega) v.tr v 0 false W rfl (HV.out.below HW.out) HT.out (by omega) (by have := HSZ.out; omega) HSZ.out).mono ?_
  rintro e w2 ⟨r, rfl, hrt, hrs, hm2, ht2⟩
  have HB := Lib.hid (HW.out.trans (ht2.below HW.out.size (by omega) (fun i h => by cases h)))
  have p0 := hm2.cell 1
  simp at p0
  clear hrt hrs hm2 ht2 hmf HZ HT
  obtain ⟨lost, hlo⟩ : ∃ b, tm.lo 0 fr v.tr 0 = b := ⟨_, rfl⟩
  have HLO := Lib.hid hlo
  rw [hlo] at p0
  clear hlo
  go_wp2
  go_ret
  exact ⟨by rw [HLO.out]; rfl, HB.out⟩

end Go.Proofs.Ytbpjaidfpacbfaa.te
