/-
  Layer 14: what the mover does to one term.
-/
import Derived.Test.YtbpjaidfpacbfaaShiLeaf
namespace Go.Proofs.Ytbpjaidfpacbfaa.te
open Go.ChangeShapes Go.WideShapes Go.ChangeAt Go.RowKit
open bs tr
set_option linter.unusedVariables false

/-- A label moved. -/
def mv (by' fr : Int) (x : Lab) (d : Int) : Lab := if x.k = 7 ∧ fr ≤ outr x.n d then ⟨x.k, IntKind.i64.wrap (x.n + by'), x.s, x.f, x.t⟩ else x
def ls (by' fr : Int) (x : Lab) (d : Int) : Bool := decide (x.k = 7 ∧ fr ≤ outr x.n d ∧ outr x.n d < fr - by')
theorem mv64 {by' fr d : Int} {x : Lab} (h : In64 x) : In64 (mv by' fr x d) := by
  unfold mv
  split
  · refine ⟨h.k, ?_, h.f, h.t⟩
    show -9223372036854775808 ≤ IntKind.i64.wrap (x.n + by') ∧ IntKind.i64.wrap (x.n + by') ≤ 9223372036854775807
    rw [IntKind.wrap_i64]
    omega
  · exact h

/-- The mover in its block. -/
abbrev MB (w : World) (mb : Nat) (by' fr : Int) (lost : Bool) : Prop := Blk w mb #[.int .i64 by', .int .i64 fr, .bool lost] 69

def MP (by' fr : Int) (v : Vn) (d : Int) (mb : Nat) (lost : Bool) (w : World) (e : Ending) (w' : World) : Prop :=
  e = .returned (A6 ⟨mv by' fr v.x d, v.a, v.m, v.c, v.l⟩) ∧ MB w' mb by' fr (lost || ls by' fr v.x d) ∧ Turned w w' mb none

theorem Turned.trans_below' {w w' w'' : World} {d : Nat} {row : Option Nat} (h : Turned w w' d row) (k : Below w.heap.size w' w'') : Turned w w'' d row :=
  ⟨k.os.trans h.os, k.tape.trans h.tape, k.output.trans h.output, Nat.le_trans h.size k.size, fun i hi h1 h2 => (k.block i hi).trans (h.block i hi h1 h2)⟩

set_option maxRecDepth 100000 in
set_option maxHeartbeats 4000000 in
theorem move_any (by' fr : Int) (v : Vn) (d : Int) (mb : Nat) (lost : Bool) (w : World) (h64 : In64 v.x) (d0 : 0 ≤ d) (d1 : d ≤ 1000000) (hb : MB w mb by' fr lost) (b0 : -10000 ≤ by') (b1 : by' ≤ 1000000) (f0 : 0 ≤ fr) (f1 : fr ≤ 10000) :
    Calls Try.prog 56 #[.pointer (some ⟨mb, 0, none⟩), A6 v, .int .i64 d] w (MP by' fr v d mb lost w) := by
  have hW1 : Below w.heap.size w ((w.alloc (.cells #[.int .i64 v.x.k, .int .i64 v.x.n, .string v.x.s, .slice v.a v.m v.c, .int .i64 v.x.f, .int .i64 v.x.t] 24)).alloc (.cells #[.int .i64 0, .int .i64 0, .string ⟨#[]⟩, .slice none 0 0, .int .i64 0, .int .i64 0] 24)) := ((Below.refl _ _).alloc (Nat.le_refl _) _).alloc (by simp) _
  have hZ : VB ((w.alloc (.cells #[.int .i64 v.x.k, .int .i64 v.x.n, .string v.x.s, .slice v.a v.m v.c, .int .i64 v.x.f, .int .i64 v.x.t] 24)).alloc (.cells #[.int .i64 0, .int .i64 0, .string ⟨#[]⟩, .slice none 0 0, .int .i64 0, .int .i64 0] 24)) w.heap.size v := (vb_new w v).below (below_alloc _ _)
  have hY : VB ((w.alloc (.cells #[.int .i64 v.x.k, .int .i64 v.x.n, .string v.x.s, .slice v.a v.m v.c, .int .i64 v.x.f, .int .i64 v.x.t] 24)).alloc (.cells #[.int .i64 0, .int .i64 0, .string ⟨#[]⟩, .slice none 0 0, .int .i64 0, .int .i64 0] 24)) (w.heap.size + 1) v0 := by
    have h := vb_new0 (w.alloc (.cells #[.int .i64 v.x.k, .int .i64 v.x.n, .string v.x.s, .slice v.a v.m v.c, .int .i64 v.x.f, .int .i64 v.x.t] 24))
    rwa [size_alloc] at h
  have hmb := hb.lt
  have HW := Lib.hid hW1; have HZ := Lib.hid hZ; have HY := Lib.hid hY; have HM := Lib.hid (hb.below hW1)
  have H64 := Lib.hid h64
  clear hW1 hZ hY hb h64
  go_enter Try.func56, Try.ntmps56
  go_upto_region 1 with fail
  generalize hWW : ((w.alloc (.cells #[.int .i64 v.x.k, .int .i64 v.x.n, .string v.x.s, .slice v.a v.m v.c, .int .i64 v.x.f, .int .i64 v.x.t] 24)).alloc (.cells #[.int .i64 0, .int .i64 0, .string ⟨#[]⟩, .slice none 0 0, .int .i64 0, .int .i64 0] 24)) = W at HW HZ HY HM ⊢
  clear hWW
  go_wp2_with (refine wpList_load_T rfl _ rfl rfl HZ.out ?_)
  refine (outer_any v d W H64.out.n d0 d1).mono ?_
  rintro e w2 ⟨rfl, hb2⟩
  have HB2 := Lib.hid (HW.out.trans (hb2.mono HW.out.size))
  have HZ2 := Lib.hid (HZ.out.below hb2); have HY2 := Lib.hid (HY.out.below hb2); have HM2 := Lib.hid (HM.out.below hb2)
  clear hb2 HZ HY HM
  obtain ⟨n, hn⟩ : ∃ n, outr v.x.n d = n := ⟨_, rfl⟩
  have hnb : -1 ≤ n ∧ n ≤ 9223372036854775807 := by
    have h1 := H64.out.n.2
    rw [← hn]; unfold outr; split <;> omega
  have HN := Lib.hid hn
  rw [hn]
  clear hn
  have z0 := HZ2.out.cell 0
  have m1 := HM2.out.cell 1
  simp at z0 m1
  have fin : ∀ (w3 w4 : World) (u : Vn), Only w2 w3 w.heap.size ∨ w3 = w2 → True := fun _ _ _ _ => trivial
  by_cases hk : v.x.k = 7
  case neg =>
    have e1 : (v.x.k == 7) = false := by rw [beq_eq_false_iff_ne]; exact hk
    have e2 : (v.x.k != 7) = true := by rw [bne_iff_ne]; exact hk
    have hmv : mv by' fr v.x d = v.x := by unfold mv; rw [if_neg (fun h => hk h.1)]
    have hls : ls by' fr v.x d = false := by unfold ls; rw [decide_eq_false_iff_not]; exact fun h => hk h.1
    have HMV := Lib.hid hmv; have HLS := Lib.hid hls
    clear hmv hls hk
    go_wp2_with (first | (refine wpList_load_T rfl _ rfl rfl HZ2.out ?_) | (refine wpList_store_T rfl _ _ rfl rfl HY2.out v rfl ?_))
    intro w3 hv3 ho3
    go_wp2
    try simp only [Exit.inBlock, Exit.then]
    refine bodyPost_ret (results_cell_row rfl _ _ (w.heap.size + 1) _ _ _ _ rfl hv3 Try.underlying24 rfl (by kernel_rfl)) rfl ?_
    refine ⟨by rw [HMV.out], ?_, Turned.of_below (HB2.out.trans (ho3.below (by omega))) _ _⟩
    rw [HLS.out, Bool.or_false]
    exact ho3.blk HM2.out (by omega)
  have e1 : (v.x.k == 7) = true := by rw [beq_iff_eq]; exact hk
  have e2 : (v.x.k != 7) = false := by rw [bne_eq_false_iff_eq]; exact hk
  have HK := Lib.hid hk
  clear hk
  by_cases hf : n < fr
  · have hmv : mv by' fr v.x d = v.x := by unfold mv; rw [HN.out, if_neg (fun h => by omega)]
    have hls : ls by' fr v.x d = false := by unfold ls; rw [HN.out, decide_eq_false_iff_not]; exact fun h => by omega
    have HMV := Lib.hid hmv; have HLS := Lib.hid hls
    clear hmv hls
    go_wp2_with (first | (refine wpList_load_T rfl _ rfl rfl HZ2.out ?_) | (refine wpList_store_T rfl _ _ rfl rfl HY2.out v rfl ?_))
    intro w3 hv3 ho3
    go_wp2
    try simp only [Exit.inBlock, Exit.then]
    refine bodyPost_ret (results_cell_row rfl _ _ (w.heap.size + 1) _ _ _ _ rfl hv3 Try.underlying24 rfl (by kernel_rfl)) rfl ?_
    refine ⟨by rw [HMV.out], ?_, Turned.of_below (HB2.out.trans (ho3.below (by omega))) _ _⟩
    rw [HLS.out, Bool.or_false]
    exact ho3.blk HM2.out (by omega)
  have hmv : mv by' fr v.x d = ⟨v.x.k, IntKind.i64.wrap (v.x.n + by'), v.x.s, v.x.f, v.x.t⟩ := by unfold mv; rw [HN.out, if_pos ⟨HK.out, by omega⟩]
  have HMV := Lib.hid hmv
  have hw : IntKind.i64.wrap (fr - by') = fr - by' := IntWalk.i64_in _ (by omega)
  have m0 := HM2.out.cell 0
  simp at m0
  clear hmv fin
  go_upto_region 4 with fail
  go_quiet (fail)
  by_cases hl : n < fr - by'
  · have hls : ls by' fr v.x d = true := by unfold ls; rw [HN.out, decide_eq_true_iff]; exact ⟨HK.out, by omega, hl⟩
    have HLS := Lib.hid hls
    have mf := HM2.out.free 2
    have m2 := HM2.out.cell 2
    simp at m2
    go_upto_region 6 with fail
    have hm3 : MB ((w2.drewN nq).setCell ⟨mb, 2, none⟩ (.bool true)) mb by' fr true := by
      have h := (HM2.out.drewN nq).set 2 (.bool true)
      simpa using h
    have hon3 := only_cell (w2.drewN nq) mb 2 (.bool true)
    have HM3 : Hid (MB ((w2.drewN nq).setCell ⟨mb, 2, none⟩ (.bool true)) mb by' fr (lost || true)) := by rw [Bool.or_true]; exact hm3
    have HZ3 := Lib.hid (hon3.blk (HZ2.out.drewN nq) (by omega)); have HY3 := Lib.hid (hon3.blk (HY2.out.drewN nq) (by omega))
    have HB3 : Hid (Turned w ((w2.drewN nq).setCell ⟨mb, 2, none⟩ (.bool true)) mb none) := ((Turned.of_below HB2.out mb none).drewN nq).trans (Turned.of_only hon3 none) (fun _ _ h => h)
    generalize hW3 : (w2.drewN nq).setCell ⟨mb, 2, none⟩ (.bool true) = w3 at HM3 HZ3 HY3 HB3 ⊢
    clear hW3 hm3 hon3 hls mf m2 m0 m1 z0
    have zz := HZ3.out.cell 1
    have k0 := HM3.out.cell 0
    have zf := HZ3.out.free 1
    simp at zz k0
    generalize hNN : IntKind.i64.wrap (v.x.n + by') = N' at HMV ⊢
    have hNN' : ∀ W' : World, (binOp .add 2 (.int .i64 v.x.n) (.int .i64 by')).run Try.prog W' = .ok (.int .i64 N') W' := fun W' => by rw [← hNN]; rfl
    go_upto_region 6 with fail
    go_still_tail 8, (by kernel_rfl)
    change wpList _ _ _ _ _ (w3.drewN 1)
    go_upto_region 7 with fail
    have hset : VB ((w3.drewN 1).setCell ⟨w.heap.size, 1, none⟩ (.int .i64 N')) w.heap.size ⟨⟨v.x.k, N', v.x.s, v.x.f, v.x.t⟩, v.a, v.m, v.c, v.l⟩ := by
      have h := (HZ3.out.drewN 1).set 1 (.int .i64 N')
      simpa using h
    have hon := only_cell (w3.drewN 1) w.heap.size 1 (.int .i64 N')
    have HS4 := Lib.hid hset
    have HY4 := Lib.hid (hon.blk (HY3.out.drewN 1) (by omega)); have HM4 := Lib.hid (hon.blk (HM3.out.drewN 1) (by omega))
    have HB4 := Lib.hid (Turned.trans_below' (HB3.out.drewN 1) (hon.below (Nat.le_refl _)))
    generalize hW4 : (w3.drewN 1).setCell ⟨w.heap.size, 1, none⟩ (.int .i64 N') = w4 at HS4 HY4 HM4 HB4 ⊢
    clear hW4 hset hon zz k0 zf
    go_wp2_with (first | (refine wpList_load_T rfl _ rfl rfl HS4.out ?_) | (refine wpList_store_T rfl _ _ rfl rfl HY4.out ⟨⟨v.x.k, N', v.x.s, v.x.f, v.x.t⟩, v.a, v.m, v.c, v.l⟩ rfl ?_))
    intro w5 hv5 ho5
    go_wp2
    try simp only [Exit.inBlock, Exit.then]
    refine bodyPost_ret (results_cell_row rfl _ _ (w.heap.size + 1) _ _ _ _ rfl hv5 Try.underlying24 rfl (by kernel_rfl)) rfl ?_
    refine ⟨by rw [HMV.out], ?_, Turned.trans_below' HB4.out (ho5.below (by omega))⟩
    rw [HLS.out]
    exact ho5.blk HM4.out (by omega)
  · have hls : ls by' fr v.x d = false := by unfold ls; rw [HN.out, decide_eq_false_iff_not]; exact fun h => hl h.2.2
    have HLS := Lib.hid hls
    go_upto_region 6 with fail
    have HM3 : Hid (MB (w2.drewN nq) mb by' fr (lost || false)) := by rw [Bool.or_false]; exact HM2.out.drewN nq
    have HZ3 := Lib.hid (HZ2.out.drewN nq); have HY3 := Lib.hid (HY2.out.drewN nq)
    have HB3 : Hid (Turned w (w2.drewN nq) mb none) := (Turned.of_below HB2.out mb none).drewN nq
    generalize hW3 : w2.drewN nq = w3 at HM3 HZ3 HY3 HB3 ⊢
    clear hW3 hls m0 m1 z0
    have zz := HZ3.out.cell 1
    have k0 := HM3.out.cell 0
    have zf := HZ3.out.free 1
    simp at zz k0
    generalize hNN : IntKind.i64.wrap (v.x.n + by') = N' at HMV ⊢
    have hNN' : ∀ W' : World, (binOp .add 2 (.int .i64 v.x.n) (.int .i64 by')).run Try.prog W' = .ok (.int .i64 N') W' := fun W' => by rw [← hNN]; rfl
    go_upto_region 6 with fail
    go_still_tail 8, (by kernel_rfl)
    change wpList _ _ _ _ _ (w3.drewN 1)
    go_upto_region 7 with fail
    have hset : VB ((w3.drewN 1).setCell ⟨w.heap.size, 1, none⟩ (.int .i64 N')) w.heap.size ⟨⟨v.x.k, N', v.x.s, v.x.f, v.x.t⟩, v.a, v.m, v.c, v.l⟩ := by
      have h := (HZ3.out.drewN 1).set 1 (.int .i64 N')
      simpa using h
    have hon := only_cell (w3.drewN 1) w.heap.size 1 (.int .i64 N')
    have HS4 := Lib.hid hset
    have HY4 := Lib.hid (hon.blk (HY3.out.drewN 1) (by omega)); have HM4 := Lib.hid (hon.blk (HM3.out.drewN 1) (by omega))
    have HB4 := Lib.hid (Turned.trans_below' (HB3.out.drewN 1) (hon.below (Nat.le_refl _)))
    generalize hW4 : (w3.drewN 1).setCell ⟨w.heap.size, 1, none⟩ (.int .i64 N') = w4 at HS4 HY4 HM4 HB4 ⊢
    clear hW4 hset hon zz k0 zf
    go_wp2_with (first | (refine wpList_load_T rfl _ rfl rfl HS4.out ?_) | (refine wpList_store_T rfl _ _ rfl rfl HY4.out ⟨⟨v.x.k, N', v.x.s, v.x.f, v.x.t⟩, v.a, v.m, v.c, v.l⟩ rfl ?_))
    intro w5 hv5 ho5
    go_wp2
    try simp only [Exit.inBlock, Exit.then]
    refine bodyPost_ret (results_cell_row rfl _ _ (w.heap.size + 1) _ _ _ _ rfl hv5 Try.underlying24 rfl (by kernel_rfl)) rfl ?_
    refine ⟨by rw [HMV.out], ?_, Turned.trans_below' HB4.out (ho5.below (by omega))⟩
    rw [HLS.out]
    exact ho5.blk HM4.out (by omega)
end Go.Proofs.Ytbpjaidfpacbfaa.te
