/-
  Layer 14: what the filler does to one term. The words of text ShiMove again, for the filler; by' is what is filled in.
-/
import Derived.Test.YtbpjaidfpacbfaaShiTop
namespace Go.Proofs.Ytbpjaidfpacbfaa.tf
open Go.ChangeShapes Go.WideShapes Go.ChangeAt Go.RowKit
open bs tr te
set_option linter.unusedVariables false

/-- A label that is no local's is left as it is. -/
def mv (by' : Vn) (fr : Int) (x : Lab) (d : Int) : Lab := if x.k = 7 ∧ fr ≤ outr x.n d then x else x
theorem mv_id (by' : Vn) (fr : Int) (x : Lab) (d : Int) : mv by' fr x d = x := by unfold mv; split <;> rfl
def ls (by' : Vn) (fr : Int) (x : Lab) (d : Int) : Bool := decide (x.k = 7 ∧ False)
/-- What stands for a local. -/
noncomputable def fl (by' : Vn) (fr : Int) (x : Lab) (l : List VT) (d : Int) : VT := if 0 ≤ fr ∧ outr x.n d = fr then te.sh d 0 by'.tr 0 else .mk x l
theorem mv64 {by' : Vn} {fr d : Int} {x : Lab} (h : In64 x) : In64 (mv by' fr x d) := by rw [mv_id]; exact h

/-- The filler in its block. -/
abbrev MB (w : World) (mb : Nat) (by' : Vn) (fr : Int) (lost : Bool) : Prop := Blk w mb #[.int .i64 fr, .int .i64 by'.x.k, .int .i64 by'.x.n, .string by'.x.s, .slice by'.a by'.m by'.c, .int .i64 by'.x.f, .int .i64 by'.x.t] 80

def MP (by' : Vn) (fr : Int) (v : Vn) (d : Int) (mb : Nat) (lost : Bool) (w : World) (e : Ending) (w' : World) : Prop :=
  e = .returned (A6 ⟨mv by' fr v.x d, v.a, v.m, v.c, v.l⟩) ∧ MB w' mb by' fr (lost || ls by' fr v.x d) ∧ Turned w w' mb none
/-- .. of a local. -/
def FP (by' : Vn) (fr : Int) (v : Vn) (d : Int) (mb B0 : Nat) (lost : Bool) (w : World) (e : Ending) (w' : World) : Prop :=
  ∃ u : Vn, e = .returned (A6 u) ∧ u.tr = fl by' fr v.x v.l d ∧ u.Rs (Old B0 w.heap.size) w' ∧ MB w' mb by' fr lost ∧ Turned w w' mb none

set_option maxRecDepth 100000 in
set_option maxHeartbeats 4000000 in
theorem move_any (by' : Vn) (fr : Int) (v : Vn) (d : Int) (mb : Nat) (lost : Bool) (w : World) (h64 : In64 v.x) (d0 : 0 ≤ d) (d1 : d ≤ 1000000) (hb : MB w mb by' fr lost) (b0 : v.x.k ≠ 7) (b1 : True) (f0 : -9223372036854775808 ≤ fr) (f1 : fr ≤ 9223372036854775807) :
    Calls Try.prog 61 #[.pointer (some ⟨mb, 0, none⟩), A6 v, .int .i64 d] w (MP by' fr v d mb lost w) := by
  obtain ⟨hW1, hZ, hY, hs⟩ := te.w2_facts w v
  simp only [te.W2] at hW1 hZ hY hs
  have hmb := hb.lt
  have HW := Lib.hid hW1; have HZ := Lib.hid hZ; have HY := Lib.hid hY; have HM := Lib.hid (hb.below hW1)
  clear hW1 hZ hY hb h64 b1 hs
  go_enter Try.func61, Try.ntmps61
  go_upto_region 1 with fail
  generalize hWW : ((w.alloc (.cells #[.int .i64 v.x.k, .int .i64 v.x.n, .string v.x.s, .slice v.a v.m v.c, .int .i64 v.x.f, .int .i64 v.x.t] 24)).alloc (.cells #[.int .i64 0, .int .i64 0, .string ⟨#[]⟩, .slice none 0 0, .int .i64 0, .int .i64 0] 24)) = W at HW HZ HY HM ⊢
  clear hWW
  have z0 := HZ.out.cell 0
  simp at z0
  have HMV := Lib.hid (mv_id by' fr v.x d)
  have e1 : (v.x.k == 7) = false := by rw [beq_eq_false_iff_ne]; exact b0
  have e2 : (v.x.k != 7) = true := by rw [bne_iff_ne]; exact b0
  clear b0
  go_quiet (fail)
  go_upto_region 2 with fail
  have HZ2 := Lib.hid (HZ.out.drewN nq); have HY2 := Lib.hid (HY.out.drewN nq); have HM2 := Lib.hid (HM.out.drewN nq)
  have HB2 : Hid (Turned w (W.drewN nq) mb none) := (Turned.of_below HW.out mb none).drewN nq
  generalize hW3 : W.drewN nq = w2 at HZ2 HY2 HM2 HB2 ⊢
  clear hW3 z0 HZ HY HM
  go_wp2_with (first | (refine wpList_load_T rfl _ rfl rfl HZ2.out ?_) | (refine wpList_store_T rfl _ _ rfl rfl HY2.out v rfl ?_))
  intro w3 hv3 ho3
  go_wp2
  try simp only [Exit.inBlock, Exit.then]
  refine bodyPost_ret (results_cell_row rfl _ _ (w.heap.size + 1) _ _ _ _ rfl hv3 Try.underlying24 rfl (by kernel_rfl)) rfl ?_
  refine ⟨by rw [HMV.out], ?_, te.Turned.trans_below' HB2.out (ho3.below (by omega))⟩
  exact ho3.blk HM2.out (by omega)

set_option maxRecDepth 100000 in
set_option maxHeartbeats 4000000 in
theorem fill_any (by' : Vn) (fr : Int) (v : Vn) (d : Int) (mb B0 : Nat) (lost : Bool) (w : World) (hk7 : v.x.k = 7) (hv : v.Rs (· < B0) w) (he : by'.Rs (· < B0) w) (hBm : B0 ≤ mb) (d0 : 0 ≤ d) (d1 : d ≤ 1000000) (hb : MB w mb by' fr lost) (hsz : by'.tr.size ≤ 100000) :
    Calls Try.prog 61 #[.pointer (some ⟨mb, 0, none⟩), A6 v, .int .i64 d] w (FP by' fr v d mb B0 lost w) := by
  obtain ⟨hW1, hZ, hY, hs⟩ := te.w2_facts w v
  simp only [te.W2] at hW1 hZ hY hs
  have hmb := hb.lt
  have HW := Lib.hid hW1; have HZ := Lib.hid hZ; have HY := Lib.hid hY; have HM := Lib.hid (hb.below hW1)
  have H64 := Lib.hid hv.x64; have HV := Lib.hid (hv.below hW1); have HE := Lib.hid (he.below hW1); have HS := Lib.hid hs; have HSZ := Lib.hid hsz
  clear hW1 hZ hY hb hv he hs hsz
  have hmf : ∀ (fn : Fn) (first cap : Array Value) (w : World), (Instr.makeFunc fn first cap).run Try.prog w = .ok (.func fn first cap) w := fun _ _ _ _ => rfl
  have e1 : (v.x.k == 7) = true := by rw [beq_iff_eq]; exact hk7
  have e2 : (v.x.k != 7) = false := by rw [bne_eq_false_iff_eq]; exact hk7
  clear hk7
  go_enter Try.func61, Try.ntmps61
  go_upto_region 1 with fail
  generalize hWW : ((w.alloc (.cells #[.int .i64 v.x.k, .int .i64 v.x.n, .string v.x.s, .slice v.a v.m v.c, .int .i64 v.x.f, .int .i64 v.x.t] 24)).alloc (.cells #[.int .i64 0, .int .i64 0, .string ⟨#[]⟩, .slice none 0 0, .int .i64 0, .int .i64 0] 24)) = W at HW HZ HY HM HV HE HS ⊢
  clear hWW
  by_cases hf : fr < 0
  case pos =>
    have hfl : fl by' fr v.x v.l d = .mk v.x v.l := by unfold fl; rw [if_neg (fun h => by omega)]
    have HFL := Lib.hid hfl
    have n2 : decide (fr < 0) = true := decide_eq_true hf
    have z0 := HZ.out.cell 0
    have m0 := HM.out.cell 0
    simp at z0 m0
    clear hfl
    go_quiet (fail)
    go_upto_region 2 with fail
    have HZ2 := Lib.hid (HZ.out.drewN nq); have HY2 := Lib.hid (HY.out.drewN nq); have HM2 := Lib.hid (HM.out.drewN nq)
    have HB2 : Hid (Turned w (W.drewN nq) mb none) := (Turned.of_below HW.out mb none).drewN nq
    have HWT : Hid (Turned W (W.drewN nq) mb none) := (Turned.refl W mb none).drewN nq
    generalize hW3 : W.drewN nq = w2 at HZ2 HY2 HM2 HB2 HWT ⊢
    clear hW3 z0 m0 HZ HY HM
    go_wp2_with (first | (refine wpList_load_T rfl _ rfl rfl HZ2.out ?_) | (refine wpList_store_T rfl _ _ rfl rfl HY2.out v rfl ?_))
    intro w3 hv3 ho3
    go_wp2
    try simp only [Exit.inBlock, Exit.then]
    refine bodyPost_ret (results_cell_row rfl _ _ (w.heap.size + 1) _ _ _ _ rfl hv3 Try.underlying24 rfl (by kernel_rfl)) rfl ?_
    have hT := te.Turned.trans_below' HB2.out (ho3.below (by omega))
    exact ⟨v, rfl, HFL.out.symm, ((HV.out.agree (kp_mb HWT.out hBm)).agree (ho3.kp (fun b (hb : b < B0) => by omega))).weak (fun b _ h => .inl h), ho3.blk HM2.out (by omega), hT⟩
  have n1 : ¬ fr < 0 := hf
  have n2 : decide (fr < 0) = false := decide_eq_false hf
  have n3 : 0 ≤ fr := by omega
  clear hf
  have Kp := Lib.hid (show ∀ V : World, Hid (Below W.heap.size W V) → V.cell? ⟨w.heap.size, 0, none⟩ = some (.int .i64 v.x.k) ∧ V.cell? ⟨w.heap.size, 1, none⟩ = some (.int .i64 v.x.n) ∧ V.cell? ⟨w.heap.size, 2, none⟩ = some (.string v.x.s) ∧ V.cell? ⟨w.heap.size, 3, none⟩ = some (.slice v.a v.m v.c) ∧ V.cell? ⟨w.heap.size, 4, none⟩ = some (.int .i64 v.x.f) ∧ V.cell? ⟨w.heap.size, 5, none⟩ = some (.int .i64 v.x.t) ∧ V.cell? ⟨mb, 0, none⟩ = some (.int .i64 fr) from
    fun V h => ⟨(HZ.out.below h.out).cell 0, (HZ.out.below h.out).cell 1, (HZ.out.below h.out).cell 2, (HZ.out.below h.out).cell 3, (HZ.out.below h.out).cell 4, (HZ.out.below h.out).cell 5, (HM.out.below h.out).cell 0⟩)
  have HO := Lib.hid (show ∀ V : World, Calls Try.prog 68 #[.agg #[.int .i64 v.x.k, .int .i64 v.x.n, .string v.x.s, .slice v.a v.m v.c, .int .i64 v.x.f, .int .i64 v.x.t], .int .i64 d] V (NP (outr v.x.n d) V) from
    fun V => outer_any v d V H64.out.n d0 d1)
  have K0 : Hid (Below W.heap.size W W.drew) := Below.drew (Below.refl _ _)
  have KR : Hid (Below W.heap.size W W) := Below.refl _ _
  obtain ⟨n, hn0⟩ : ∃ n, outr v.x.n d = n := ⟨_, rfl⟩
  have HN := Lib.hid hn0
  rw [hn0] at HO
  clear hn0
  go_region_held3 (fun V => V.cell? ⟨w.heap.size, 0, none⟩ = some (.int .i64 v.x.k) ∧ V.cell? ⟨w.heap.size, 1, none⟩ = some (.int .i64 v.x.n) ∧ V.cell? ⟨w.heap.size, 2, none⟩ = some (.string v.x.s) ∧ V.cell? ⟨w.heap.size, 3, none⟩ = some (.slice v.a v.m v.c) ∧ V.cell? ⟨w.heap.size, 4, none⟩ = some (.int .i64 v.x.f) ∧ V.cell? ⟨w.heap.size, 5, none⟩ = some (.int .i64 v.x.t) ∧ V.cell? ⟨mb, 0, none⟩ = some (.int .i64 fr))
    (with_reducible first | exact Kp.out _ KR | exact Kp.out _ K0 | exact Kp.out _ KA)
    (first
      | (go_at_call 68; (with_reducible refine (HO.out _).mono ?_); rintro e wa ⟨rfl, hba⟩; have KA : Hid (Below W.heap.size W wa) := K0.out.trans (hba.mono K0.out.size); clear hba))
  have HZ2 := Lib.hid (HZ.out.below KA.out); have HY2 := Lib.hid (HY.out.below KA.out); have HM2 := Lib.hid (HM.out.below KA.out)
  have HB2 := Lib.hid (HW.out.trans (KA.out.mono HW.out.size)); have HV2 := Lib.hid (HV.out.below KA.out); have HE2 := Lib.hid (HE.out.below KA.out)
  have HSA := Lib.hid KA.out.size
  clear Kp HO K0 KR HZ HY HM HV HE
  by_cases hn : n = fr
  case neg =>
    have e3 : (n == fr) = false := by rw [beq_eq_false_iff_ne]; exact hn
    have e4 : (n != fr) = true := by rw [bne_iff_ne]; exact hn
    have hfl : fl by' fr v.x v.l d = .mk v.x v.l := by unfold fl; rw [if_neg (fun h => hn (HN.out.symm.trans h.2))]
    have HFL := Lib.hid hfl
    clear hfl hn
    go_wp2_with (first | (refine wpList_load_T rfl _ rfl rfl HZ2.out ?_) | (refine wpList_store_T rfl _ _ rfl rfl HY2.out v rfl ?_))
    intro w5 hv5 ho5
    go_wp2
    try simp only [Exit.inBlock, Exit.then]
    refine bodyPost_ret (results_cell_row rfl _ _ (w.heap.size + 1) _ _ _ _ rfl hv5 Try.underlying24 rfl (by kernel_rfl)) rfl ?_
    exact ⟨v, rfl, HFL.out.symm, (HV2.out.agree (ho5.kp (fun b (hb : b < B0) => by omega))).weak (fun b _ h => .inl h), ho5.blk HM2.out (by omega), Turned.of_below (HB2.out.trans (ho5.below (by omega))) _ _⟩
  have e3 : (n == fr) = true := by rw [beq_iff_eq]; exact hn
  have e4 : (n != fr) = false := by rw [bne_eq_false_iff_eq]; exact hn
  have hfl : fl by' fr v.x v.l d = te.sh d 0 by'.tr 0 := by unfold fl; rw [if_pos ⟨n3, HN.out.trans hn⟩]
  have HFL := Lib.hid hfl
  clear hfl hn
  go_upto_region 4 with fail
  have hM : te.MB (wa.alloc (.cells #[.int .i64 d, .int .i64 0, .bool false] 69)) wa.heap.size d 0 false := Blk.new wa _ _
  have hba : Below wa.heap.size wa (wa.alloc (.cells #[.int .i64 d, .int .i64 0, .bool false] 69)) := below_alloc _ _
  have HMM := Lib.hid hM; have HBA := Lib.hid hba
  have HM3 := Lib.hid (HM2.out.below hba); have HY3 := Lib.hid (HY2.out.below hba); have HE3 := Lib.hid (HE2.out.below hba); have HB3 := Lib.hid (HB2.out.trans (hba.mono HB2.out.size))
  generalize hW3 : wa.alloc (.cells #[.int .i64 d, .int .i64 0, .bool false] 69) = w3 at HMM HBA HM3 HY3 HE3 HB3 ⊢
  clear hW3 hM hba HM2 HY2 HE2 HZ2
  have m1 := HM3.out.cell 1; have m2 := HM3.out.cell 2; have m3 := HM3.out.cell 3; have m4 := HM3.out.cell 4; have m5 := HM3.out.cell 5; have m6 := HM3.out.cell 6
  simp at m1 m2 m3 m4 m5 m6
  go_wp2_with fail
  refine (te.mwalk_any d 0 (by omega) d1 (by omega) (by omega) wa.heap.size B0 (by have := HB2.out.size; omega) by'.tr by' 0 false w3 rfl HE3.out HMM.out (by omega) (by have := HSZ.out; omega) HSZ.out).mono ?_
  rintro e w4 ⟨⟨rx, ra, rm, rc, rl⟩, rfl, hrt, hrs, hm4, ht4⟩
  have hws := HS.out; have hsa := HSA.out; have hs3 := HBA.out.size
  have HB4 := Lib.hid (HB3.out.trans (ht4.below HB3.out.size (by omega) (fun i h => by cases h)))
  have HY4 := Lib.hid (HY3.out.of (ht4.block _ HY3.out.lt (by omega) (fun e => by cases e)))
  have HM4 := Lib.hid (HM3.out.of (ht4.block _ HM3.out.lt (by omega) (fun e => by cases e)))
  have HR4 := Lib.hid hrs; have HRT := Lib.hid hrt
  clear hm4 hrs hrt ht4 hmf m1 m2 m3 m4 m5 m6
  have HX := Lib.hid (show w.heap.size + 2 ≤ w3.heap.size by omega)
  clear hws hsa hs3
  go_wp2_with (refine wpList_store_T rfl _ _ rfl rfl HY4.out ⟨rx, ra, rm, rc, rl⟩ rfl ?_)
  intro w5 hv5 ho5
  go_wp2
  try simp only [Exit.inBlock, Exit.then]
  refine bodyPost_ret (results_cell_row rfl _ _ (w.heap.size + 1) _ _ _ _ rfl hv5 Try.underlying24 rfl (by kernel_rfl)) rfl ?_
  have hx := HX.out
  exact ⟨⟨rx, ra, rm, rc, rl⟩, rfl, HRT.out.trans HFL.out.symm, (HR4.out.agree (ho5.kp (fun b hS => by rcases hS with h | h <;> omega))).weak (fun b _ h => h.imp id (fun h => by omega)), ho5.blk HM4.out (by omega), Turned.of_below (HB4.out.trans (ho5.below (by omega))) _ _⟩
end Go.Proofs.Ytbpjaidfpacbfaa.tf
