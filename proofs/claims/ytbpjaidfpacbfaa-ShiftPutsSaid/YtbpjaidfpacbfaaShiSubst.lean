/-
  Layer 14: Subst, the program's and the document's.
-/
import Derived.Test.YtbpjaidfpacbfaaShiPutR
namespace Go.Proofs.Ytbpjaidfpacbfaa.te
open Go.ChangeShapes Go.WideShapes Go.ChangeAt Go.RowKit
open bs tr
set_option linter.unusedVariables false

def RX (t : VT) (w : World) (e : Ending) (w' : World) : Prop := ∃ r : Vn, e = .returned (A6 r) ∧ r.tr = t ∧ r.Rd w' ∧ Below w.heap.size w w'

set_option maxRecDepth 100000 in
set_option maxHeartbeats 4000000 in
theorem psub_any (v u : Vn) (fr : Int) (w : World) (hv : v.Rd w) (hu : u.Rd w) (h64 : te.I64 fr) (hsz : v.tr.size ≤ 100000) (hsE : u.tr.size ≤ 100000) :
    Calls Try.prog 37 #[A6 v, A6 u, .int .i64 fr] w (RX (tf.sh u fr v.tr 0) w) := by
  obtain ⟨hW, hZ, hX, hY, hs⟩ := tf.w3_facts w v u
  simp only [tf.W3] at hW hZ hX hY hs
  have HW := Lib.hid hW; have HZ := Lib.hid hZ; have HX := Lib.hid hX; have HY := Lib.hid hY; have HS := Lib.hid hs
  have HV := Lib.hid (hv.rs.below hW); have HU := Lib.hid (hu.rs.below hW); have HSZ := Lib.hid hsz; have HSE := Lib.hid hsE; have H64 := Lib.hid h64
  clear hv hu hW hZ hX hY hs hsz hsE h64
  have hmf : ∀ (fn : Fn) (first cap : Array Value) (w : World), (Instr.makeFunc fn first cap).run Try.prog w = .ok (.func fn first cap) w := fun _ _ _ _ => rfl
  go_enter Try.func37, Try.ntmps37
  go_upto_region 1 with fail
  generalize hWW : ((w.alloc (.cells #[.int .i64 v.x.k, .int .i64 v.x.n, .string v.x.s, .slice v.a v.m v.c, .int .i64 v.x.f, .int .i64 v.x.t] 24)).alloc (.cells #[.int .i64 u.x.k, .int .i64 u.x.n, .string u.x.s, .slice u.a u.m u.c, .int .i64 u.x.f, .int .i64 u.x.t] 24)).alloc (.cells #[.int .i64 0, .int .i64 0, .string ⟨#[]⟩, .slice none 0 0, .int .i64 0, .int .i64 0] 24) = W at HW HZ HX HY HS HV HU ⊢
  clear hWW
  have x0 := HX.out.cell 0; have x1 := HX.out.cell 1; have x2 := HX.out.cell 2; have x3 := HX.out.cell 3; have x4 := HX.out.cell 4; have x5 := HX.out.cell 5
  simp at x0 x1 x2 x3 x4 x5
  go_upto_region 2 with fail
  have hM : tf.MB (W.alloc (.cells #[.int .i64 fr, .int .i64 u.x.k, .int .i64 u.x.n, .string u.x.s, .slice u.a u.m u.c, .int .i64 u.x.f, .int .i64 u.x.t] 80)) W.heap.size u fr false := Blk.new W _ _
  have hb : Below W.heap.size W (W.alloc (.cells #[.int .i64 fr, .int .i64 u.x.k, .int .i64 u.x.n, .string u.x.s, .slice u.a u.m u.c, .int .i64 u.x.f, .int .i64 u.x.t] 80)) := below_alloc _ _
  have HM := Lib.hid hM; have HB := Lib.hid hb
  generalize hW3 : W.alloc (.cells #[.int .i64 fr, .int .i64 u.x.k, .int .i64 u.x.n, .string u.x.s, .slice u.a u.m u.c, .int .i64 u.x.f, .int .i64 u.x.t] 80) = w3 at HM HB ⊢
  clear hW3 hM hb x0 x1 x2 x3 x4 x5
  have HZ3 := Lib.hid (HZ.out.below HB.out); have HY3 := Lib.hid (HY.out.below HB.out); have HV3 := Lib.hid (HV.out.below HB.out); have HU3 := Lib.hid (HU.out.below HB.out)
  clear HZ HY HX HV HU
  go_wp2_with (refine wpList_load_T rfl _ rfl rfl HZ3.out ?_)
  refine (tf.mwalk_any u fr trivial H64.out.1 H64.out.2 HSE.out W.heap.size w.heap.size HW.out.size v.tr v 0 false w3 rfl HV3.out HU3.out HM.out (by omega) (by have := HSZ.out; omega) HSZ.out).mono ?_
  rintro e w4 ⟨⟨rx, ra, rm, rc, rl⟩, rfl, hrt, hrs, hm4, ht4⟩
  have hws := HS.out; have hs3 := HB.out.size
  have HB4 := Lib.hid (HW.out.trans (((Turned.of_below HB.out W.heap.size none).trans ht4 (fun _ _ h => h)).below HW.out.size HW.out.size (fun i h => by cases h)))
  have HY4 := Lib.hid (HY3.out.of (ht4.block _ HY3.out.lt (by omega) (fun e => by cases e)))
  have HR4 := Lib.hid hrs; have HRT := Lib.hid hrt
  have HX4 := Lib.hid (show w.heap.size + 3 ≤ w3.heap.size by omega)
  clear hm4 hrs hrt ht4 hmf hws hs3
  go_wp2_with (refine wpList_store_T rfl _ _ rfl rfl HY4.out ⟨rx, ra, rm, rc, rl⟩ rfl ?_)
  intro w5 hv5 ho5
  go_wp2
  try simp only [Exit.inBlock, Exit.then]
  refine bodyPost_ret (results_cell_row rfl _ _ (w.heap.size + 1 + 1) _ _ _ _ rfl hv5 Try.underlying24 rfl (by kernel_rfl)) rfl ?_
  have hx := HX4.out
  exact ⟨⟨rx, ra, rm, rc, rl⟩, rfl, HRT.out, (HR4.out.agree (ho5.kp (fun b hS => by rcases hS with h | h <;> omega))).rd', HB4.out.trans (ho5.below (by omega))⟩

set_option maxRecDepth 100000 in
set_option maxHeartbeats 4000000 in
theorem rsub_any (v u : Vn) (fr : Int) (w : World) (hv : v.Rd w) (hu : u.Rd w) (hsz : v.tr.size ≤ 100000) (hsE : u.tr.size ≤ 100000) :
    Calls Try.prog 38 #[A6 v, A6 u, .int .i64 fr] w (RX (tf.sh u fr v.tr 0) w) := by
  obtain ⟨hW, hZ, hX, hY, hs⟩ := tf.w3_facts w v u
  simp only [tf.W3] at hW hZ hX hY hs
  have HW := Lib.hid hW; have HZ := Lib.hid hZ; have HX := Lib.hid hX; have HY := Lib.hid hY; have HS := Lib.hid hs
  have HV := Lib.hid (hv.rs.below hW); have HU := Lib.hid (hu.rs.below hW); have HSZ := Lib.hid hsz; have HSE := Lib.hid hsE
  clear hv hu hW hZ hX hY hs hsz hsE
  go_enter Try.func38, Try.ntmps38
  go_upto_region 1 with fail
  generalize hWW : ((w.alloc (.cells #[.int .i64 v.x.k, .int .i64 v.x.n, .string v.x.s, .slice v.a v.m v.c, .int .i64 v.x.f, .int .i64 v.x.t] 24)).alloc (.cells #[.int .i64 u.x.k, .int .i64 u.x.n, .string u.x.s, .slice u.a u.m u.c, .int .i64 u.x.f, .int .i64 u.x.t] 24)).alloc (.cells #[.int .i64 0, .int .i64 0, .string ⟨#[]⟩, .slice none 0 0, .int .i64 0, .int .i64 0] 24) = W at HW HZ HX HY HS HV HU ⊢
  clear hWW
  go_wp2_with (first | (refine wpList_load_T rfl _ rfl rfl HZ.out ?_) | (refine wpList_load_T rfl _ rfl rfl HX.out ?_))
  refine (tf.rput_any u fr HSE.out v.tr v 0 w.heap.size W rfl HV.out HU.out HW.out.size (by omega) (by have := HSZ.out; omega) HSZ.out).mono ?_
  rintro e w4 ⟨⟨rx, ra, rm, rc, rl⟩, rfl, hrt, hrs, hb4⟩
  have HB4 := Lib.hid (HW.out.trans (hb4.mono HW.out.size)); have HY4 := Lib.hid (HY.out.below hb4)
  have HR4 := Lib.hid hrs; have HRT := Lib.hid hrt
  clear hrs hrt hb4
  go_wp2_with (refine wpList_store_T rfl _ _ rfl rfl HY4.out ⟨rx, ra, rm, rc, rl⟩ rfl ?_)
  intro w5 hv5 ho5
  go_wp2
  try simp only [Exit.inBlock, Exit.then]
  refine bodyPost_ret (results_cell_row rfl _ _ (w.heap.size + 1 + 1) _ _ _ _ rfl hv5 Try.underlying24 rfl (by kernel_rfl)) rfl ?_
  have hx := HS.out
  exact ⟨⟨rx, ra, rm, rc, rl⟩, rfl, HRT.out, (HR4.out.agree (ho5.kp (fun b hS => by rcases hS with h | h <;> omega))).rd', HB4.out.trans (ho5.below (by omega))⟩
end Go.Proofs.Ytbpjaidfpacbfaa.te
