/-
  Layer 14: what the seeker (mention) does to one term. The words of text ShiMove again, for the seeker.
-/
import Derived.Test.YtbpjaidfpacbfaaShiTop
namespace Go.Proofs.Ytbpjaidfpacbfaa.tm
open Go.ChangeShapes Go.WideShapes Go.ChangeAt Go.RowKit
open bs tr te
set_option linter.unusedVariables false

/-- A label is left as it is. -/
def mv (by' fr : Int) (x : Lab) (d : Int) : Lab := if x.k = 7 ∧ fr ≤ outr x.n d then x else x
theorem mv_id (by' fr : Int) (x : Lab) (d : Int) : mv by' fr x d = x := by unfold mv; split <;> rfl
/-- Is it the local? -/
def ls (by' fr : Int) (x : Lab) (d : Int) : Bool := decide (x.k = 7 ∧ 0 ≤ fr ∧ outr x.n d = fr)
theorem mv64 {by' fr d : Int} {x : Lab} (h : In64 x) : In64 (mv by' fr x d) := by rw [mv_id]; exact h

/-- The seeker in its block. -/
abbrev MB (w : World) (mb : Nat) (by' fr : Int) (lost : Bool) : Prop := Blk w mb #[.int .i64 fr, .bool lost] 77

def MP (by' fr : Int) (v : Vn) (d : Int) (mb : Nat) (lost : Bool) (w : World) (e : Ending) (w' : World) : Prop :=
  e = .returned (A6 ⟨mv by' fr v.x d, v.a, v.m, v.c, v.l⟩) ∧ MB w' mb by' fr (lost || ls by' fr v.x d) ∧ Turned w w' mb none

set_option maxRecDepth 100000 in
set_option maxHeartbeats 4000000 in
theorem move_any (by' fr : Int) (v : Vn) (d : Int) (mb : Nat) (lost : Bool) (w : World) (h64 : In64 v.x) (d0 : 0 ≤ d) (d1 : d ≤ 1000000) (hb : MB w mb by' fr lost) (b0 : True) (b1 : True) (f0 : -9223372036854775808 ≤ fr) (f1 : fr ≤ 9223372036854775807) :
    Calls Try.prog 60 #[.pointer (some ⟨mb, 0, none⟩), A6 v, .int .i64 d] w (MP by' fr v d mb lost w) := by
  obtain ⟨hW1, hZ, hY, hs⟩ := te.w2_facts w v
  simp only [te.W2] at hW1 hZ hY hs
  have hmb := hb.lt
  have HW := Lib.hid hW1; have HZ := Lib.hid hZ; have HY := Lib.hid hY; have HM := Lib.hid (hb.below hW1)
  have H64 := Lib.hid h64
  clear hW1 hZ hY hb h64 b0 b1 hs
  go_enter Try.func60, Try.ntmps60
  go_upto_region 1 with fail
  generalize hWW : ((w.alloc (.cells #[.int .i64 v.x.k, .int .i64 v.x.n, .string v.x.s, .slice v.a v.m v.c, .int .i64 v.x.f, .int .i64 v.x.t] 24)).alloc (.cells #[.int .i64 0, .int .i64 0, .string ⟨#[]⟩, .slice none 0 0, .int .i64 0, .int .i64 0] 24)) = W at HW HZ HY HM ⊢
  clear hWW
  have z0 := HZ.out.cell 0; have z1 := HZ.out.cell 1; have z2 := HZ.out.cell 2; have z3 := HZ.out.cell 3; have z4 := HZ.out.cell 4; have z5 := HZ.out.cell 5
  have m0 := HM.out.cell 0
  simp at z0 z1 z2 z3 z4 z5 m0
  have HMV := Lib.hid (mv_id by' fr v.x d)
  by_cases hk : v.x.k = 7 ∧ 0 ≤ fr
  case neg =>
    have hls : ls by' fr v.x d = false := by unfold ls; rw [decide_eq_false_iff_not]; exact fun h => hk ⟨h.1, h.2.1⟩
    have HLS := Lib.hid hls
    clear hls
    by_cases hk7 : v.x.k = 7
    all_goals
      have e1 : (v.x.k == 7) = decide (v.x.k = 7) := rfl
      first
        | (have e2 : (v.x.k == 7) = true := by rw [beq_iff_eq]; exact hk7
           have n1 : ¬ 0 ≤ fr := fun h => hk ⟨hk7, h⟩
           have n2 : decide (0 ≤ fr) = false := decide_eq_false n1)
        | (have e2 : (v.x.k == 7) = false := by rw [beq_eq_false_iff_ne]; exact hk7)
      clear e1 hk
      clear hk7
      go_quiet (fail)
      go_upto_region 3 with fail
      have HZ2 := Lib.hid (HZ.out.drewN nq); have HY2 := Lib.hid (HY.out.drewN nq); have HM2 := Lib.hid (HM.out.drewN nq)
      have HB2 : Hid (Turned w (W.drewN nq) mb none) := (Turned.of_below HW.out mb none).drewN nq
      generalize hW3 : W.drewN nq = w2 at HZ2 HY2 HM2 HB2 ⊢
      clear hW3 z0 z1 z2 z3 z4 z5 m0 HZ HY HM
      go_wp2_with (first | (refine wpList_load_T rfl _ rfl rfl HZ2.out ?_) | (refine wpList_store_T rfl _ _ rfl rfl HY2.out v rfl ?_))
      intro w3 hv3 ho3
      go_wp2
      try simp only [Exit.inBlock, Exit.then]
      refine bodyPost_ret (results_cell_row rfl _ _ (w.heap.size + 1) _ _ _ _ rfl hv3 Try.underlying24 rfl (by kernel_rfl)) rfl ?_
      refine ⟨by rw [HMV.out], ?_, te.Turned.trans_below' HB2.out (ho3.below (by omega))⟩
      rw [HLS.out, Bool.or_false]
      exact ho3.blk HM2.out (by omega)
  have e1 : (v.x.k == 7) = true := by rw [beq_iff_eq]; exact hk.1
  have n1 : 0 ≤ fr := hk.2
  have n2 : decide (0 ≤ fr) = true := decide_eq_true n1
  have hlq : ls by' fr v.x d = decide (outr v.x.n d = fr) := by unfold ls; rw [decide_eq_decide]; exact ⟨fun h => h.2.2, fun h => ⟨hk.1, n1, h⟩⟩
  have HLQ := Lib.hid hlq
  clear hlq hk
  have Kp := Lib.hid (show ∀ V : World, Hid (Below W.heap.size W V) → V.cell? ⟨w.heap.size, 0, none⟩ = some (.int .i64 v.x.k) ∧ V.cell? ⟨w.heap.size, 1, none⟩ = some (.int .i64 v.x.n) ∧ V.cell? ⟨w.heap.size, 2, none⟩ = some (.string v.x.s) ∧ V.cell? ⟨w.heap.size, 3, none⟩ = some (.slice v.a v.m v.c) ∧ V.cell? ⟨w.heap.size, 4, none⟩ = some (.int .i64 v.x.f) ∧ V.cell? ⟨w.heap.size, 5, none⟩ = some (.int .i64 v.x.t) ∧ V.cell? ⟨mb, 0, none⟩ = some (.int .i64 fr) from
    fun V h => ⟨(HZ.out.below h.out).cell 0, (HZ.out.below h.out).cell 1, (HZ.out.below h.out).cell 2, (HZ.out.below h.out).cell 3, (HZ.out.below h.out).cell 4, (HZ.out.below h.out).cell 5, (HM.out.below h.out).cell 0⟩)
  have HO := Lib.hid (show ∀ V : World, Calls Try.prog 68 #[.agg #[.int .i64 v.x.k, .int .i64 v.x.n, .string v.x.s, .slice v.a v.m v.c, .int .i64 v.x.f, .int .i64 v.x.t], .int .i64 d] V (NP (outr v.x.n d) V) from
    fun V => outer_any v d V H64.out.n d0 d1)
  have K0 : Hid (Below W.heap.size W W.drew) := Below.drew (Below.refl _ _)
  have KR : Hid (Below W.heap.size W W) := Below.refl _ _
  generalize outr v.x.n d = n at HLQ HO
  clear z0 z1 z2 z3 z4 z5 m0
  go_region_held3 (fun V => V.cell? ⟨w.heap.size, 0, none⟩ = some (.int .i64 v.x.k) ∧ V.cell? ⟨w.heap.size, 1, none⟩ = some (.int .i64 v.x.n) ∧ V.cell? ⟨w.heap.size, 2, none⟩ = some (.string v.x.s) ∧ V.cell? ⟨w.heap.size, 3, none⟩ = some (.slice v.a v.m v.c) ∧ V.cell? ⟨w.heap.size, 4, none⟩ = some (.int .i64 v.x.f) ∧ V.cell? ⟨w.heap.size, 5, none⟩ = some (.int .i64 v.x.t) ∧ V.cell? ⟨mb, 0, none⟩ = some (.int .i64 fr))
    (with_reducible first | exact Kp.out _ KR | exact Kp.out _ K0 | exact Kp.out _ KA)
    (first
      | (go_at_call 68; (with_reducible refine (HO.out _).mono ?_); rintro e wa ⟨rfl, hba⟩; have KA : Hid (Below W.heap.size W wa) := K0.out.trans (hba.mono K0.out.size); clear hba))
  have HZ2 := Lib.hid (HZ.out.below KA.out); have HY2 := Lib.hid (HY.out.below KA.out); have HM2 := Lib.hid (HM.out.below KA.out)
  have HB2 := Lib.hid (HW.out.trans (KA.out.mono HW.out.size))
  clear Kp HO K0 KR HZ HY HM
  by_cases hn : n = fr
  · have e3 : (n == fr) = true := by rw [beq_iff_eq]; exact hn
    have hls : ls by' fr v.x d = true := by rw [HLQ.out]; exact decide_eq_true hn
    have HLS := Lib.hid hls
    clear hls hn
    have mf := HM2.out.free 1
    have m2 := HM2.out.cell 1
    simp at m2
    go_upto_region 3 with fail
    have hm3 : MB (wa.setCell ⟨mb, 1, none⟩ (.bool true)) mb by' fr true := by
      have h := HM2.out.set 1 (.bool true)
      simpa using h
    have hon3 := only_cell wa mb 1 (.bool true)
    have HM3 : Hid (MB (wa.setCell ⟨mb, 1, none⟩ (.bool true)) mb by' fr (lost || true)) := by rw [Bool.or_true]; exact hm3
    have HZ3 := Lib.hid (hon3.blk HZ2.out (by omega)); have HY3 := Lib.hid (hon3.blk HY2.out (by omega))
    have HB3 : Hid (Turned w (wa.setCell ⟨mb, 1, none⟩ (.bool true)) mb none) := (Turned.of_below HB2.out mb none).trans (Turned.of_only hon3 none) (fun _ _ h => h)
    generalize hW3 : wa.setCell ⟨mb, 1, none⟩ (.bool true) = w3 at HM3 HZ3 HY3 HB3 ⊢
    clear hW3 hm3 hon3 mf m2
    go_wp2_with (first | (refine wpList_load_T rfl _ rfl rfl HZ3.out ?_) | (refine wpList_store_T rfl _ _ rfl rfl HY3.out v rfl ?_))
    intro w5 hv5 ho5
    go_wp2
    try simp only [Exit.inBlock, Exit.then]
    refine bodyPost_ret (results_cell_row rfl _ _ (w.heap.size + 1) _ _ _ _ rfl hv5 Try.underlying24 rfl (by kernel_rfl)) rfl ?_
    refine ⟨by rw [HMV.out], ?_, te.Turned.trans_below' HB3.out (ho5.below (by omega))⟩
    rw [HLS.out]
    exact ho5.blk HM3.out (by omega)
  · have e3 : (n == fr) = false := by rw [beq_eq_false_iff_ne]; exact hn
    have hls : ls by' fr v.x d = false := by rw [HLQ.out]; exact decide_eq_false hn
    have HLS := Lib.hid hls
    clear hls hn
    go_wp2_with (first | (refine wpList_load_T rfl _ rfl rfl HZ2.out ?_) | (refine wpList_store_T rfl _ _ rfl rfl HY2.out v rfl ?_))
    intro w5 hv5 ho5
    go_wp2
    try simp only [Exit.inBlock, Exit.then]
    refine bodyPost_ret (results_cell_row rfl _ _ (w.heap.size + 1) _ _ _ _ rfl hv5 Try.underlying24 rfl (by kernel_rfl)) rfl ?_
    refine ⟨by rw [HMV.out], ?_, Turned.of_below (HB2.out.trans (ho5.below (by omega))) _ _⟩
    rw [HLS.out, Bool.or_false]
    exact ho5.blk HM2.out (by omega)
end Go.Proofs.Ytbpjaidfpacbfaa.tm
