/-
  Layer 14: Shift, the program's and the document's.
-/
import Derived.Test.YtbpjaidfpacbfaaShiRaise
namespace Go.Proofs.Ytbpjaidfpacbfaa.te
open Go.ChangeShapes Go.WideShapes Go.ChangeAt Go.RowKit
open bs tr
set_option linter.unusedVariables false

theorem lo_up {by' fr : Int} (h : 0 ≤ by') (t : VT) : ∀ d, lo by' fr t d = false := by
  induction t using Tr.ind with
  | h x l ih =>
    intro d
    rw [lo_mk]
    split
    · unfold ls
      rw [decide_eq_false_iff_not]
      omega
    · rw [List.any_eq_false]
      intro b hb
      unfold kidL at hb
      rw [List.mem_mapIdx] at hb
      obtain ⟨i, hi, rfl⟩ := hb
      rw [ih _ (List.getElem_mem hi)]
      simp

def inS (by' fr : Int) : Bool := decide (0 ≤ fr ∧ fr ≤ 8192 ∧ by' ≤ 8192 ∧ -8192 ≤ by')
noncomputable def okS (by' fr : Int) (t : VT) : Bool := inS by' fr && !(lo by' fr t 0)
noncomputable def shT (by' fr : Int) (t : VT) : VT := if okS by' fr t = true then sh by' fr t 0 else v0.tr
def SX (ok : Bool) (t : VT) (w : World) (e : Ending) (w' : World) : Prop := ∃ r : Vn, e = .returned (.tuple #[A6 r, .bool ok]) ∧ r.tr = t ∧ r.Rd w' ∧ Below w.heap.size w w'

theorem okS_out {by' fr : Int} {t : VT} (h : inS by' fr = false) : okS by' fr t = false ∧ shT by' fr t = v0.tr := by
  have h1 : okS by' fr t = false := by unfold okS; rw [h]; rfl
  exact ⟨h1, by unfold shT; rw [h1]; rfl⟩
theorem okS_lost {by' fr : Int} {t : VT} (h : lo by' fr t 0 = true) : okS by' fr t = false ∧ shT by' fr t = v0.tr := by
  have h1 : okS by' fr t = false := by unfold okS; rw [h]; simp
  exact ⟨h1, by unfold shT; rw [h1]; rfl⟩
theorem okS_in {by' fr : Int} {t : VT} (h0 : inS by' fr = true) (h : lo by' fr t 0 = false) : okS by' fr t = true ∧ shT by' fr t = sh by' fr t 0 := by
  have h1 : okS by' fr t = true := by unfold okS; rw [h, h0]; rfl
  exact ⟨h1, by unfold shT; rw [if_pos h1]⟩

set_option maxRecDepth 100000 in
set_option maxHeartbeats 4000000 in
theorem pshift_any (by' fr : Int) (v : Vn) (w : World) (hv : v.Rd w) (hsz : v.tr.size ≤ 100000) :
    Calls Try.prog 31 #[A6 v, .int .i64 by', .int .i64 fr] w (SX (okS by' fr v.tr) (shT by' fr v.tr) w) := by
  obtain ⟨hW, hZ, hY, hs⟩ := w2_facts w v
  simp only [W2] at hW hZ hY hs
  have HW := Lib.hid hW; have HZ := Lib.hid hZ; have HY := Lib.hid hY; have HS := Lib.hid hs
  have HV := Lib.hid hv.rs; have HSZ := Lib.hid hsz
  clear hv hW hZ hY hs hsz
  have hmf : ∀ (fn : Fn) (first cap : Array Value) (w : World), (Instr.makeFunc fn first cap).run Try.prog w = .ok (.func fn first cap) w := fun _ _ _ _ => rfl
  go_enter Try.func31, Try.ntmps31
  go_upto_region 1 with fail
  generalize hWW : (w.alloc (.cells #[.int .i64 v.x.k, .int .i64 v.x.n, .string v.x.s, .slice v.a v.m v.c, .int .i64 v.x.f, .int .i64 v.x.t] 24)).alloc (.cells #[.int .i64 0, .int .i64 0, .string ⟨#[]⟩, .slice none 0 0, .int .i64 0, .int .i64 0] 24) = W at HW HZ HY HS ⊢
  clear hWW
  by_cases hin : inS by' fr = true
  case neg =>
    have hin2 : inS by' fr = false := by rw [← Bool.not_eq_true]; exact hin
    have HO := Lib.hid (okS_out (t := v.tr) hin2)
    have hc : fr < 0 ∨ (¬ fr < 0 ∧ fr > 8192) ∨ (¬ fr < 0 ∧ ¬ fr > 8192 ∧ by' > 8192) ∨ (¬ fr < 0 ∧ ¬ fr > 8192 ∧ ¬ by' > 8192 ∧ by' < -8192) := by
      unfold inS at hin2
      rw [decide_eq_false_iff_not] at hin2
      omega
    clear hin hin2
    rcases hc with h1 | ⟨h1, h2⟩ | ⟨h1, h2, h3⟩ | ⟨h1, h2, h3, h4⟩
    all_goals
      go_wp2_with (refine wpList_store_T rfl _ _ rfl rfl HY.out v0 rfl ?_)
      intro w4 hv4 ho4
      go_wp2
      try simp only [Exit.inBlock, Exit.then]
      refine bodyPost_ret (results_cell_tmp rfl _ _ (w.heap.size + 1) _ _ _ rfl hv4 Try.underlying24 rfl (by kernel_rfl)) rfl ?_
      exact ⟨v0, by rw [HO.out.1]; rfl, HO.out.2.symm, v0_rd _, HW.out.trans (ho4.below (by omega))⟩
  have HIN := Lib.hid hin
  have hr : 0 ≤ fr ∧ fr ≤ 8192 ∧ by' ≤ 8192 ∧ -8192 ≤ by' := by unfold inS at hin; rwa [decide_eq_true_iff] at hin
  obtain ⟨r1, r2, r3, r4⟩ := hr
  have n1 : ¬ fr < 0 := by omega
  have n2 : ¬ fr > 8192 := by omega
  have n3 : ¬ by' > 8192 := by omega
  have n4 : ¬ by' < -8192 := by omega
  clear hin
  go_upto_region 4 with fail
  have hM : MB (W.alloc (.cells #[.int .i64 by', .int .i64 fr, .bool false] 69)) W.heap.size by' fr false := Blk.new W _ _
  have hb : Below W.heap.size W (W.alloc (.cells #[.int .i64 by', .int .i64 fr, .bool false] 69)) := below_alloc _ _
  have HM := Lib.hid hM; have HB := Lib.hid hb
  have hWs := HS.out
  generalize hW3 : W.alloc (.cells #[.int .i64 by', .int .i64 fr, .bool false] 69) = w3 at HM HB ⊢
  clear hW3 hM hb
  have HZ3 := Lib.hid (HZ.out.below HB.out); have HY3 := Lib.hid (HY.out.below HB.out)
  have hWH := Lib.hid hWs
  clear hWs
  go_wp2_with (refine wpList_load_T rfl _ rfl rfl HZ3.out ?_)
  refine (mwalk_any by' fr (by omega) (by omega) r1 (by omega) W.heap.size w.heap.size (by have := HW.out.size; omega) v.tr v 0 false w3 rfl ((HV.out.below HW.out).below HB.out) HM.out (by omega) (by have := HSZ.out; omega) HSZ.out).mono ?_
  rintro e w4 ⟨⟨rx, ra, rm, rc, rl⟩, rfl, hrt, hrs, hm4, ht4⟩
  have HB4 := Lib.hid (HW.out.trans (((Turned.of_below HB.out W.heap.size none).trans ht4 (fun _ _ h => h)).below HW.out.size HW.out.size (fun i h => by cases h)))
  have HY4 := Lib.hid (HY3.out.of (ht4.block _ HY3.out.lt (by have := hWH.out; omega) (fun e => by cases e)))
  have HM4 := Lib.hid hm4; have HR4 := Lib.hid hrs; have HRT := Lib.hid hrt
  clear hm4 hrs hrt ht4 hmf HM HZ3 HY3 HZ HY
  go_upto_region 5 with fail
  have hb5 : Below w4.heap.size w4 (w4.alloc (.cells #[.int .i64 rx.k, .int .i64 rx.n, .string rx.s, .slice ra rm rc, .int .i64 rx.f, .int .i64 rx.t] 24)) := below_alloc _ _
  have hx5 : VB (w4.alloc (.cells #[.int .i64 rx.k, .int .i64 rx.n, .string rx.s, .slice ra rm rc, .int .i64 rx.f, .int .i64 rx.t] 24)) w4.heap.size ⟨rx, ra, rm, rc, rl⟩ := vb_new w4 ⟨rx, ra, rm, rc, rl⟩
  have hM5 := HM4.out.below hb5
  have HX5 := Lib.hid hx5; have HY5 := Lib.hid (HY4.out.below hb5); have HR5 := Lib.hid (HR4.out.below hb5); have HB5 := Lib.hid (HB4.out.trans (hb5.mono HB4.out.size))
  generalize hW5 : w4.alloc (.cells #[.int .i64 rx.k, .int .i64 rx.n, .string rx.s, .slice ra rm rc, .int .i64 rx.f, .int .i64 rx.t] 24) = w5 at hM5 HX5 HY5 HR5 HB5 ⊢
  clear hW5 hb5 hx5
  have p2 := hM5.cell 2
  simp at p2
  clear hM5 HM4 HY4 HR4 HB4
  obtain ⟨lost, hlo⟩ : ∃ b, lo by' fr v.tr 0 = b := ⟨_, rfl⟩
  have HLO := Lib.hid hlo
  rw [hlo] at p2
  clear hlo
  cases lost with
  | true =>
    have HO := Lib.hid (okS_lost (by' := by') HLO.out)
    go_wp2_with (refine wpList_store_T rfl _ _ rfl rfl HY5.out v0 rfl ?_)
    intro w6 hv6 ho6
    go_wp2
    try simp only [Exit.inBlock, Exit.then]
    refine bodyPost_ret (results_cell_tmp rfl _ _ (w.heap.size + 1) _ _ _ rfl hv6 Try.underlying24 rfl (by kernel_rfl)) rfl ?_
    exact ⟨v0, by rw [HO.out.1]; rfl, HO.out.2.symm, v0_rd _, HB5.out.trans (ho6.below (by omega))⟩
  | false =>
    have HO := Lib.hid (okS_in HIN.out HLO.out)
    go_wp2_with (first | (refine wpList_load_T rfl _ rfl rfl HX5.out ?_) | (refine wpList_store_T rfl _ _ rfl rfl HY5.out ⟨rx, ra, rm, rc, rl⟩ rfl ?_))
    intro w6 hv6 ho6
    go_wp2
    try simp only [Exit.inBlock, Exit.then]
    refine bodyPost_ret (results_cell_tmp rfl _ _ (w.heap.size + 1) _ _ _ rfl hv6 Try.underlying24 rfl (by kernel_rfl)) rfl ?_
    have hr6 : Vn.Rd w6 ⟨rx, ra, rm, rc, rl⟩ := (HR5.out.agree (ho6.kp (fun b hS => by have h3 := HB.out.size; have h4 := HS.out; rcases hS with h | h <;> omega))).rd'
    exact ⟨⟨rx, ra, rm, rc, rl⟩, by rw [HO.out.1]; rfl, by rw [HO.out.2]; exact HRT.out, hr6, HB5.out.trans (ho6.below (by omega))⟩

set_option maxRecDepth 100000 in
set_option maxHeartbeats 4000000 in
theorem rshift_any (by' fr : Int) (v : Vn) (w : World) (hv : v.Rd w) (hsz : v.tr.size ≤ 100000) :
    Calls Try.prog 32 #[A6 v, .int .i64 by', .int .i64 fr] w (SX (okS by' fr v.tr) (shT by' fr v.tr) w) := by
  obtain ⟨hW, hZ, hY, hs⟩ := w2_facts w v
  simp only [W2] at hW hZ hY hs
  have HW := Lib.hid hW; have HZ := Lib.hid hZ; have HY := Lib.hid hY; have HS := Lib.hid hs
  have HV := Lib.hid hv.rs; have HSZ := Lib.hid hsz
  clear hv hW hZ hY hs hsz
  go_enter Try.func32, Try.ntmps32
  go_upto_region 1 with fail
  generalize hWW : (w.alloc (.cells #[.int .i64 v.x.k, .int .i64 v.x.n, .string v.x.s, .slice v.a v.m v.c, .int .i64 v.x.f, .int .i64 v.x.t] 24)).alloc (.cells #[.int .i64 0, .int .i64 0, .string ⟨#[]⟩, .slice none 0 0, .int .i64 0, .int .i64 0] 24) = W at HW HZ HY HS ⊢
  clear hWW
  by_cases hin : inS by' fr = true
  case neg =>
    have hin2 : inS by' fr = false := by rw [← Bool.not_eq_true]; exact hin
    have HO := Lib.hid (okS_out (t := v.tr) hin2)
    have hc : fr < 0 ∨ (¬ fr < 0 ∧ fr > 8192) ∨ (¬ fr < 0 ∧ ¬ fr > 8192 ∧ by' > 8192) ∨ (¬ fr < 0 ∧ ¬ fr > 8192 ∧ ¬ by' > 8192 ∧ by' < -8192) := by
      unfold inS at hin2
      rw [decide_eq_false_iff_not] at hin2
      omega
    clear hin hin2
    rcases hc with h1 | ⟨h1, h2⟩ | ⟨h1, h2, h3⟩ | ⟨h1, h2, h3, h4⟩
    all_goals
      go_wp2_with (refine wpList_store_T rfl _ _ rfl rfl HY.out v0 rfl ?_)
      intro w4 hv4 ho4
      go_wp2
      try simp only [Exit.inBlock, Exit.then]
      refine bodyPost_ret (results_cell_tmp rfl _ _ (w.heap.size + 1) _ _ _ rfl hv4 Try.underlying24 rfl (by kernel_rfl)) rfl ?_
      exact ⟨v0, by rw [HO.out.1]; rfl, HO.out.2.symm, v0_rd _, HW.out.trans (ho4.below (by omega))⟩
  have HIN := Lib.hid hin
  have hr : 0 ≤ fr ∧ fr ≤ 8192 ∧ by' ≤ 8192 ∧ -8192 ≤ by' := by unfold inS at hin; rwa [decide_eq_true_iff] at hin
  obtain ⟨r1, r2, r3, r4⟩ := hr
  have n1 : ¬ fr < 0 := by omega
  have n2 : ¬ fr > 8192 := by omega
  have n3 : ¬ by' > 8192 := by omega
  have n4 : ¬ by' < -8192 := by omega
  clear hin
  go_cut [33] from 8 to 33 (fun s33 wx => s33 = .bool (lo by' fr v.tr 0) ∧ Hid (Below w.heap.size w wx) ∧ Hid (VB wx w.heap.size v) ∧ Hid (VB wx (w.heap.size + 1) v0))
  case first =>
    by_cases hb0 : by' < 0
    · have hw : IntKind.i64.wrap (fr - by') = fr - by' := IntWalk.i64_in _ (by omega)
      have z0 := HZ.out.cell 0; have z1 := HZ.out.cell 1; have z2 := HZ.out.cell 2; have z3 := HZ.out.cell 3; have z4 := HZ.out.cell 4; have z5 := HZ.out.cell 5
      simp at z0 z1 z2 z3 z4 z5
      go_wp2_with fail
      have hmm := rmeant_any fr (fr - by') r1 (by omega) (by omega) (by omega) v.tr v 0 W rfl (HV.out.below HW.out).rd' (by omega) (by have := HSZ.out; omega) HSZ.out
      rw [show fr - (fr - by') = by' by omega] at hmm
      refine hmm.mono ?_
      rintro e w2 ⟨rfl, hb2⟩
      have HB2 := Lib.hid (HW.out.trans (hb2.mono HW.out.size))
      have HZ2 := Lib.hid (HZ.out.below hb2); have HY2 := Lib.hid (HY.out.below hb2)
      clear hb2 hmm z0 z1 z2 z3 z4 z5
      go_wp2_with fail
      go_meet
      exact ⟨rfl, HB2, HZ2, HY2⟩
    · have HLO := Lib.hid (lo_up (by' := by') (fr := fr) (by omega) v.tr 0)
      go_wp2_with fail
      go_meet
      exact ⟨by rw [HLO.out], HW, HZ, HY⟩
  case rest =>
    obtain ⟨hs33, HB2, HZ2, HY2⟩ := hcut
    clear HZ HY
    obtain ⟨lost, hlo⟩ : ∃ b, lo by' fr v.tr 0 = b := ⟨_, rfl⟩
    have HLO := Lib.hid hlo
    rw [hlo] at hs33
    subst hs33
    clear hlo
    cases lost with
    | true =>
      have HO := Lib.hid (okS_lost (by' := by') HLO.out)
      go_wp2_with (refine wpList_store_T rfl _ _ rfl rfl HY2.out v0 rfl ?_)
      intro w4 hv4 ho4
      go_wp2
      try simp only [Exit.inBlock, Exit.then]
      refine bodyPost_ret (results_cell_tmp rfl _ _ (w.heap.size + 1) _ _ _ rfl hv4 Try.underlying24 rfl (by kernel_rfl)) rfl ?_
      exact ⟨v0, by rw [HO.out.1]; rfl, HO.out.2.symm, v0_rd _, HB2.out.trans (ho4.below (by omega))⟩
    | false =>
      have HO := Lib.hid (okS_in HIN.out HLO.out)
      go_wp2_with (refine wpList_load_T rfl _ rfl rfl HZ2.out ?_)
      refine (rraise_any by' fr (by omega) (by omega) r1 (by omega) v.tr v 0 w.heap.size _ rfl (HV.out.below HB2.out) HB2.out.size (by omega) (by have := HSZ.out; omega) HSZ.out).mono ?_
      rintro e w4 ⟨⟨rx, ra, rm, rc, rl⟩, rfl, hrt, hrs, hb4⟩
      have HB4 := Lib.hid (HB2.out.trans (hb4.mono HB2.out.size)); have HY4 := Lib.hid (HY2.out.below hb4)
      have HR4 := Lib.hid hrs; have HRT := Lib.hid hrt
      have hl := HY2.out.lt
      clear hrs hrt hb4
      go_wp2_with (refine wpList_store_T rfl _ _ rfl rfl HY4.out ⟨rx, ra, rm, rc, rl⟩ rfl ?_)
      intro w6 hv6 ho6
      go_wp2
      try simp only [Exit.inBlock, Exit.then]
      refine bodyPost_ret (results_cell_tmp rfl _ _ (w.heap.size + 1) _ _ _ rfl hv6 Try.underlying24 rfl (by kernel_rfl)) rfl ?_
      have hr6 : Vn.Rd w6 ⟨rx, ra, rm, rc, rl⟩ := (HR4.out.agree (ho6.kp (fun b hS => by rcases hS with h | h <;> omega))).rd'
      exact ⟨⟨rx, ra, rm, rc, rl⟩, by rw [HO.out.1]; rfl, by rw [HO.out.2]; exact HRT.out, hr6, HB4.out.trans (ho6.below (by omega))⟩
end Go.Proofs.Ytbpjaidfpacbfaa.te
