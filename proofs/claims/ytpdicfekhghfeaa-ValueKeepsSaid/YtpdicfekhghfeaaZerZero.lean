/-
  Layer 19: the program's Zero.
-/
import Derived.Test.YtpdicfekhghfeaaZerClo
import Derived.Laws.EntriesVeiled
namespace Go.Proofs.Ytpdicfekhghfeaa.zf
open Go.ChangeShapes Go.WideShapes Go.ChangeAt Go.RowKit
open bs tr te ty
open va (Frst OwnV)
set_option linter.unusedVariables false

open Classical in
/-- A type's zero value; of what is no type an empty one. -/
noncomputable def zv (M : List PT) (t : PT) : PV := if h : Ok M t then zr M (Classical.choose (deep M M.length t h)) t else .mk 0 []
theorem zv_ok {M : List PT} {t : PT} (h : Ok M t) : ∃ f, Dp M f t ∧ zv M t = zr M f t := ⟨_, Classical.choose_spec (deep M M.length t h), by unfold zv; rw [dif_pos h]⟩
theorem zv_not {M : List PT} {t : PT} (h : ¬ Ok M t) : zv M t = .mk 0 [] := by unfold zv; rw [dif_neg h]

def ZvP (z : PV) (w : World) (e : Ending) (w' : World) : Prop := ∃ x : va.Vn, e = .returned (.agg #[.int .i64 x.x, .slice x.a x.m x.c]) ∧ x.tr = z ∧ x.Rd w' ∧ Below w.heap.size w w'

set_option maxRecDepth 100000 in
set_option maxHeartbeats 4000000 in
theorem pzero_any (m a : te.Vn) (w : World) (hm : m.Rd w) (ha : a.Rd w) (hN : m.l.length ≤ 1000000) (hM : ∀ d ∈ m.l, d.kids.length ≤ 1000) : Calls Try.prog 8 #[m.val, a.val] w (ZvP (zv m.l a.tr) w) := by
  have hW : Below w.heap.size w (((w.alloc (.cells #[.int .i64 m.x.k, .int .i64 m.x.n, .string m.x.s, .slice m.a m.m m.c, .int .i64 m.x.f, .int .i64 m.x.t] 24)).alloc (.cells #[.int .i64 a.x.k, .int .i64 a.x.n, .string a.x.s, .slice a.a a.m a.c, .int .i64 a.x.f, .int .i64 a.x.t] 24)).alloc (.cells #[.int .i64 0, .slice none 0 0] 27)) := (((Below.refl _ _).alloc (Nat.le_refl _) _).alloc (by simp only [te.size_alloc]; omega) _).alloc (by simp only [te.size_alloc]; omega) _
  have hM1 : VB (((w.alloc (.cells #[.int .i64 m.x.k, .int .i64 m.x.n, .string m.x.s, .slice m.a m.m m.c, .int .i64 m.x.f, .int .i64 m.x.t] 24)).alloc (.cells #[.int .i64 a.x.k, .int .i64 a.x.n, .string a.x.s, .slice a.a a.m a.c, .int .i64 a.x.f, .int .i64 a.x.t] 24)).alloc (.cells #[.int .i64 0, .slice none 0 0] 27)) w.heap.size m := ((vb_new w m).below (below_alloc _ _)).below (below_alloc _ _)
  have hX : VB (((w.alloc (.cells #[.int .i64 m.x.k, .int .i64 m.x.n, .string m.x.s, .slice m.a m.m m.c, .int .i64 m.x.f, .int .i64 m.x.t] 24)).alloc (.cells #[.int .i64 a.x.k, .int .i64 a.x.n, .string a.x.s, .slice a.a a.m a.c, .int .i64 a.x.f, .int .i64 a.x.t] 24)).alloc (.cells #[.int .i64 0, .slice none 0 0] 27)) (w.heap.size + 1) a := by
    have := (vb_new (w.alloc (.cells #[.int .i64 m.x.k, .int .i64 m.x.n, .string m.x.s, .slice m.a m.m m.c, .int .i64 m.x.f, .int .i64 m.x.t] 24)) a).below (below_alloc _ (.cells #[.int .i64 0, .slice none 0 0] 27))
    rwa [te.size_alloc] at this
  have hY : Blk (((w.alloc (.cells #[.int .i64 m.x.k, .int .i64 m.x.n, .string m.x.s, .slice m.a m.m m.c, .int .i64 m.x.f, .int .i64 m.x.t] 24)).alloc (.cells #[.int .i64 a.x.k, .int .i64 a.x.n, .string a.x.s, .slice a.a a.m a.c, .int .i64 a.x.f, .int .i64 a.x.t] 24)).alloc (.cells #[.int .i64 0, .slice none 0 0] 27)) (w.heap.size + 1 + 1) #[.int .i64 0, .slice none 0 0] 27 := by
    have := Blk.new ((w.alloc (.cells #[.int .i64 m.x.k, .int .i64 m.x.n, .string m.x.s, .slice m.a m.m m.c, .int .i64 m.x.f, .int .i64 m.x.t] 24)).alloc (.cells #[.int .i64 a.x.k, .int .i64 a.x.n, .string a.x.s, .slice a.a a.m a.c, .int .i64 a.x.f, .int .i64 a.x.t] 24)) #[.int .i64 0, .slice none 0 0] 27
    rwa [te.size_alloc, te.size_alloc] at this
  have HW := Lib.hid hW; have HX := Lib.hid hX; have HY := Lib.hid hY; have HMB := Lib.hid hM1
  have HMR := Lib.hid hm; have HV := Lib.hid ha; have HK := Lib.hid hM
  have hmf : ∀ (fn : Fn) (first cap : Array Value) (w : World), (Instr.makeFunc fn first cap).run Try.prog w = .ok (.func fn first cap) w := fun _ _ _ _ => rfl
  clear hW hX hY hM1 hm ha hM
  unfold te.Vn.val
  go_enter Try.func8, Try.ntmps8
  go_upto_region 1 with fail
  generalize hWW : (((w.alloc (.cells #[.int .i64 m.x.k, .int .i64 m.x.n, .string m.x.s, .slice m.a m.m m.c, .int .i64 m.x.f, .int .i64 m.x.t] 24)).alloc (.cells #[.int .i64 a.x.k, .int .i64 a.x.n, .string a.x.s, .slice a.a a.m a.c, .int .i64 a.x.f, .int .i64 a.x.t] 24)).alloc (.cells #[.int .i64 0, .slice none 0 0] 27)) = W at HW HX HY HMB ⊢
  clear hWW
  go_wp2_with (first | (refine wpList_load_T rfl _ rfl rfl HMB.out ?_) | (refine wpList_load_T rfl _ rfl rfl HX.out ?_))
  refine (pcells_any m a W (HMR.out.below HW.out) (HV.out.below HW.out) hN).mono ?_
  rintro e w2 ⟨rfl, hb2⟩
  have HB2 := Lib.hid (HW.out.trans (hb2.mono HW.out.size)); have HX2 := Lib.hid (HX.out.below hb2); have HY2 := Lib.hid (HY.out.below hb2); have HM2 := Lib.hid (HMB.out.below hb2)
  clear hb2 HX HY HMB
  by_cases hc : ce m.l m.l.length a.tr = 0
  · have hnot : ¬ Ok m.l a.tr := by unfold Ok; omega
    have HZ := Lib.hid (zv_not hnot)
    have e0 : (((ce m.l m.l.length a.tr : Nat) : Int) == 0) = true := by rw [hc]; rfl
    have q0 := HY2.out.cell 0; have q1 := HY2.out.cell 1; have f0 := HY2.out.free 0; have f1 := HY2.out.free 1
    simp at q0 q1
    clear hc hnot
    go_wp2
    try simp only [Exit.inBlock, Exit.then]
    refine bodyPost_ret (results_cell_row rfl _ _ (w.heap.size + 1 + 1) _ #[.int .i64 0, .slice none 0 0] _ _ rfl (by have := (HY2.out.set 0 (.int .i64 0)).set 1 (.slice none 0 0); simpa [Blk] using this) Try.underlying27 rfl (by kernel_rfl)) rfl ?_
    refine ⟨va.v0, rfl, HZ.out.symm, va.v0_rd _, ?_⟩
    exact (HB2.out.setCell (by show w.heap.size ≤ w.heap.size + 1 + 1; omega) _).setCell (by show w.heap.size ≤ w.heap.size + 1 + 1; omega) _
  · have hok : Ok m.l a.tr := by unfold Ok; omega
    obtain ⟨f, hf, hz⟩ := zv_ok hok
    have HZ := Lib.hid hz; have HOK := Lib.hid hok; have HF := Lib.hid hf
    have e0 : (((ce m.l m.l.length a.tr : Nat) : Int) == 0) = false := by rw [beq_eq_false_iff_ne]; omega
    clear hc hok hz hf
    go_upto_region 4 with fail
    have hN3 : Blk (w2.alloc (.cells #[.nilFunc] 44)) w2.heap.size #[.nilFunc] 44 := Blk.new w2 _ _
    have hB3 : Below w2.heap.size w2 (w2.alloc (.cells #[.nilFunc] 44)) := (Below.refl _ _).alloc (Nat.le_refl _) _
    generalize hVV : (w2.alloc (.cells #[.nilFunc] 44)) = V at hN3 hB3 ⊢
    clear hVV
    have n0 := hN3.cell 0; have n1 := hN3.free 0
    simp at n0
    have hlt2 := HY2.out.lt
    have hN4 := hN3.set 0 (cloV w.heap.size w2.heap.size)
    have hB4 : Below w2.heap.size w2 (V.setCell ⟨w2.heap.size, 0, none⟩ (cloV w.heap.size w2.heap.size)) := hB3.setCell (Nat.le_refl _) _
    have HN4 := Lib.hid hN4; have HB4 := Lib.hid hB4
    clear hN3 hB3 hN4 hB4
    unfold cloV at HN4 HB4
    go_upto_region 5 with fail
    generalize hVV : (V.setCell ⟨w2.heap.size, 0, none⟩ (.func (.func 21) #[] #[.pointer (some ⟨w.heap.size, 0, none⟩), .pointer (some ⟨w2.heap.size, 0, none⟩)])) = V4 at HN4 HB4 ⊢
    clear hVV n0 n1
    have h0 := HN4.out.cell 0
    simp at h0
    have HX4 := Lib.hid (HX2.out.below HB4.out); have HY4 := Lib.hid (HY2.out.below HB4.out); have HM4 := Lib.hid (HM2.out.below HB4.out)
    have HB5 := Lib.hid (HB2.out.trans (HB4.out.mono HB2.out.size))
    have hs4 : w2.heap.size < V4.heap.size := HN4.out.lt
    have HCL := Lib.hid (show Calls Try.prog 21 #[(.agg #[.int .i64 a.x.k, .int .i64 a.x.n, .string a.x.s, .slice a.a a.m a.c, .int .i64 a.x.f, .int .i64 a.x.t]), .pointer (some ⟨w.heap.size, 0, none⟩), .pointer (some ⟨w2.heap.size, 0, none⟩)] V4 (ZPost (zr m.l f a.tr) V4) from
      clo_any m HK.out w.heap.size w2.heap.size f a V4 (HV.out.below HB5.out) (HMR.out.below HB5.out) HM4.out h0 HOK.out HF.out)
    clear HX2 HY2 HM2 HB2 HB4 HN4
    go_wp2_with (first | (refine wpList_load_T rfl _ rfl rfl HX4.out ?_))
    refine HCL.out.mono ?_
    rintro e w5 ⟨x, rfl, hxt, hxr, hb5⟩
    have HXT := Lib.hid hxt; have HXR := Lib.hid hxr; have HB6 := Lib.hid (HB5.out.trans (hb5.mono HB5.out.size)); have HY6 := Lib.hid (HY4.out.below hb5)
    clear hxt hxr hb5 h0 HCL
    have q0 := HY6.out.cell 0; have q1 := HY6.out.cell 1; have f0 := HY6.out.free 0; have f1 := HY6.out.free 1
    simp at q0 q1
    go_wp2
    try simp only [Exit.inBlock, Exit.then]
    refine bodyPost_ret (results_cell_row rfl _ _ (w.heap.size + 1 + 1) _ #[.int .i64 x.x, .slice x.a x.m x.c] _ _ rfl (by have := (HY6.out.set 0 (.int .i64 x.x)).set 1 (.slice x.a x.m x.c); simpa [Blk] using this) Try.underlying27 rfl (by kernel_rfl)) rfl ?_
    refine ⟨x, rfl, HXT.out.trans HZ.out.symm, ?_, ?_⟩
    · refine va.Vn.Rs.rd' (S := va.Old 0 V4.heap.size) (HXR.out.agree ⟨by simp [World.setCell], fun i hS hi => ?_⟩)
      have hi2 : i ≠ w.heap.size + 1 + 1 := by
        rcases hS with h0 | h0 <;> omega
      exact (Below.heap_setCell _ ⟨w.heap.size + 1 + 1, 1, none⟩ _ i hi2).trans (Below.heap_setCell _ ⟨w.heap.size + 1 + 1, 0, none⟩ _ i hi2)
    · exact (HB6.out.setCell (by show w.heap.size ≤ w.heap.size + 1 + 1; omega) _).setCell (by show w.heap.size ≤ w.heap.size + 1 + 1; omega) _
end Go.Proofs.Ytpdicfekhghfeaa.zf
