/-
  Layer 27: what any term of literals comes to: the program's answer is the document's.
-/
import Derived.Test.YtjmjillfclfkgaaFoldRV
import Derived.Test.YtjmjillfclfkgaaFoldAw
import Derived.Test.YtjmjillfclfkgaaTrmCount
import Derived.Test.YtjmjillfclfkgaaTrmPlc
namespace Go.Proofs.Ytjmjillfclfkgaa.fo
open Go.ChangeShapes Go.WideShapes Go.ChangeAt Go.RowKit
open bs tr te
set_option linter.unusedVariables false

set_option maxRecDepth 100000 in
set_option maxHeartbeats 4000000 in
theorem law_values (v : te.Vn) (w : World) (hv : v.Rd w) : Calls Try.prog 3 #[v.val] w (fun e w' => e = .returned (.bool true) ∧ Below w.heap.size w w') := by
  have HW := Lib.hid (below_alloc w (.cells #[.int .i64 v.x.k, .int .i64 v.x.n, .string v.x.s, .slice v.a v.m v.c, .int .i64 v.x.f, .int .i64 v.x.t] 24))
  have HZ : Hid (VB (w.alloc (.cells #[.int .i64 v.x.k, .int .i64 v.x.n, .string v.x.s, .slice v.a v.m v.c, .int .i64 v.x.f, .int .i64 v.x.t] 24)) w.heap.size v) := vb_new w v
  have HV := Lib.hid hv
  obtain ⟨o, ho⟩ : ∃ o, fv v.x.k v.x.n v.x.s v.l = o := ⟨_, rfl⟩
  have HPV := Lib.hid (fun (V : World) (h : v.Rd V) => pvalue_any v V h)
  have HRV := Lib.hid (fun (V : World) (h : v.Rd V) => rvalue_any v V h)
  rw [ho] at HPV HRV
  have HLR := Lib.hid (fun V : World => lv_rd ho V)
  obtain ⟨ob, hob⟩ : ∃ ob, o.isSome = ob := ⟨_, rfl⟩
  obtain ⟨r, hr⟩ : ∃ r, lv o = r := ⟨_, rfl⟩
  unfold VP at HPV HRV
  rw [hob, hr] at HPV HRV
  rw [hr] at HLR
  have hee : (ob == ob) = true := by cases ob <;> rfl
  clear hv ho hob hr
  unfold te.Vn.val
  go_enter Try.func3, Try.ntmps3
  go_upto_region 1 with fail
  generalize hWW : w.alloc (.cells #[.int .i64 v.x.k, .int .i64 v.x.n, .string v.x.s, .slice v.a v.m v.c, .int .i64 v.x.f, .int .i64 v.x.t] 24) = W at HW HZ ⊢
  clear hWW
  go_wp2_with (refine wpList_load_T rfl _ rfl rfl HZ.out ?_)
  refine (rlarge_any v W (HV.out.below HW.out)).mono ?_
  rintro e w1 ⟨lr, rfl, hl1, hb1⟩
  have HB1 := Lib.hid (HW.out.trans (hb1.mono HW.out.size))
  have HZ1 := Lib.hid (HZ.out.below hb1)
  clear hb1 hl1 HZ
  cases lr with
  | true =>
    go_wp2_with fail
    refine (awake27 _).mono ?_
    rintro e w2 ⟨rfl, hb2⟩
    have HB2 := Lib.hid (HB1.out.trans (hb2.mono HB1.out.size))
    clear hb2
    go_wp2
    go_ret
    exact ⟨rfl, HB2.out⟩
  | false =>
  go_wp2_with (refine wpList_load_T rfl _ rfl rfl HZ1.out ?_)
  refine (HPV.out w1 (HV.out.below HB1.out)).mono ?_
  rintro e w2 ⟨rfl, hb2⟩
  have hbA : Below w2.heap.size w2 (w2.alloc (.cells #[.int .i64 r.x.k, .int .i64 r.x.n, .string r.x.s, .slice r.a r.m r.c, .int .i64 r.x.f, .int .i64 r.x.t] 24)) := below_alloc _ _
  have HG : Hid (VB (w2.alloc (.cells #[.int .i64 r.x.k, .int .i64 r.x.n, .string r.x.s, .slice r.a r.m r.c, .int .i64 r.x.f, .int .i64 r.x.t] 24)) w2.heap.size r) := vb_new w2 r
  have HB2 := Lib.hid (HB1.out.trans ((hb2.trans (hbA.mono hb2.size)).mono HB1.out.size))
  have HZ2 := Lib.hid (HZ1.out.below (hb2.trans (hbA.mono hb2.size)))
  clear hb2 hbA HZ1
  unfold te.Vn.val
  go_upto_region 4 with fail
  generalize hW2 : w2.alloc (.cells #[.int .i64 r.x.k, .int .i64 r.x.n, .string r.x.s, .slice r.a r.m r.c, .int .i64 r.x.f, .int .i64 r.x.t] 24) = w3 at HG HB2 HZ2 ⊢
  generalize w2.heap.size = g2 at HG ⊢
  clear hW2
  go_wp2_with (refine wpList_load_T rfl _ rfl rfl HZ2.out ?_)
  refine (HRV.out w3 (HV.out.below HB2.out)).mono ?_
  rintro e w4 ⟨rfl, hb4⟩
  have hbA : Below w4.heap.size w4 (w4.alloc (.cells #[.int .i64 r.x.k, .int .i64 r.x.n, .string r.x.s, .slice r.a r.m r.c, .int .i64 r.x.f, .int .i64 r.x.t] 24)) := below_alloc _ _
  have HGS : Hid (VB (w4.alloc (.cells #[.int .i64 r.x.k, .int .i64 r.x.n, .string r.x.s, .slice r.a r.m r.c, .int .i64 r.x.f, .int .i64 r.x.t] 24)) w4.heap.size r) := vb_new w4 r
  have HKK := Lib.hid (hb4.trans (hbA.mono hb4.size))
  clear hb4 hbA
  unfold te.Vn.val
  go_upto_region 5 with fail
  generalize hW4 : w4.alloc (.cells #[.int .i64 r.x.k, .int .i64 r.x.n, .string r.x.s, .slice r.a r.m r.c, .int .i64 r.x.f, .int .i64 r.x.t] 24) = w5 at HGS HKK ⊢
  generalize w4.heap.size = g4 at HGS ⊢
  clear hW4
  have HB5 := Lib.hid (HB2.out.trans (HKK.out.mono HB2.out.size))
  have HG5 := Lib.hid (HG.out.below HKK.out)
  clear HKK HZ2 HG
  have ca0 : w5.cell? ⟨g2, 0, none⟩ = some (.int .i64 r.x.k) := HG5.out.cell 0
  have ca1 : w5.cell? ⟨g2, 1, none⟩ = some (.int .i64 r.x.n) := HG5.out.cell 1
  have ca2 : w5.cell? ⟨g2, 2, none⟩ = some (.string r.x.s) := HG5.out.cell 2
  have ca3 : w5.cell? ⟨g2, 3, none⟩ = some (.slice r.a r.m r.c) := HG5.out.cell 3
  have ca4 : w5.cell? ⟨g2, 4, none⟩ = some (.int .i64 r.x.f) := HG5.out.cell 4
  have ca5 : w5.cell? ⟨g2, 5, none⟩ = some (.int .i64 r.x.t) := HG5.out.cell 5
  have cb0 : w5.cell? ⟨g4, 0, none⟩ = some (.int .i64 r.x.k) := HGS.out.cell 0
  have cb1 : w5.cell? ⟨g4, 1, none⟩ = some (.int .i64 r.x.n) := HGS.out.cell 1
  have cb2 : w5.cell? ⟨g4, 2, none⟩ = some (.string r.x.s) := HGS.out.cell 2
  have cb3 : w5.cell? ⟨g4, 3, none⟩ = some (.slice r.a r.m r.c) := HGS.out.cell 3
  have cb4 : w5.cell? ⟨g4, 4, none⟩ = some (.int .i64 r.x.f) := HGS.out.cell 4
  have cb5 : w5.cell? ⟨g4, 5, none⟩ = some (.int .i64 r.x.t) := HGS.out.cell 5
  go_wp2_with fail
  refine (placed_k r.tr r r _ rfl (HLR.out _) (HLR.out _)).mono ?_
  rintro e w6 ⟨b, rfl, hb, hb6⟩
  obtain rfl : b = true := hb.2 rfl
  have HB6 := Lib.hid (HB5.out.trans (hb6.mono HB5.out.size))
  clear hb6 hb
  go_wp2_with fail
  refine (awake27 _).mono ?_
  rintro e w7 ⟨rfl, hb7⟩
  have HB7 := Lib.hid (HB6.out.trans (hb7.mono HB6.out.size))
  clear hb7
  go_wp2
  go_ret
  exact ⟨rfl, HB7.out⟩
end Go.Proofs.Ytjmjillfclfkgaa.fo
