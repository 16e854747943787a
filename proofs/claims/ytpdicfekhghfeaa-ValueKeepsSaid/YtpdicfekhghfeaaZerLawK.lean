/-
  Layer 19: ValueKeeps.
-/
import Derived.Test.YtpdicfekhghfeaaZerLawZ
import Derived.Test.YtpdicfekhghfeaaZerKeep
import Derived.Deep.CutRange
namespace Go.Proofs.Ytpdicfekhghfeaa.zf
open Go.ChangeShapes Go.WideShapes Go.ChangeAt Go.RowKit
open bs tr te ty
set_option linter.unusedVariables false

theorem zr_wd (M : List PT) (hM : ∀ d ∈ M, d.kids.length ≤ 1000) (f : Nat) : ∀ t, Ok M t → va.Wd (zr M f t) := by
  induction f with
  | zero => intro t _; exact va.wd_mk.2 ⟨by simp, fun y hy => by cases hy⟩
  | succ f ih =>
    intro t h
    refine va.wd_mk.2 ⟨by rw [List.length_map]; exact pts_len' h.gd hM, fun y hy => ?_⟩
    obtain ⟨p, hp, rfl⟩ := List.mem_map.1 hy
    exact ih p (h.pts p hp)
theorem leaf_eq {x : Int} {l : List PV} {n : Int} (hx : x = 0) (hl : l = []) : (Tr.mk n [] : PV) = .mk x l ↔ n = 0 := by
  subst hx hl
  exact ⟨fun h => by cases h; rfl, fun h => by rw [h]⟩

set_option maxRecDepth 100000 in
set_option maxHeartbeats 8000000 in
theorem law_keeps (k : KV) (w : World) (hk : k.Rd w) : Calls Try.prog 4 #[k.val] w (Gw w) := by
  obtain ⟨m, a, pa, pn, pc, pl, n⟩ := k
  have hm := hk.m; have ha := hk.t; have hp := hk.w; have hx := hk.x
  dsimp only at hm ha hp hx
  have hn1 := hx.1; have hn2 := hx.2
  have hW : Below w.heap.size w (w.alloc (.cells #[.int .i64 m.x.k, .int .i64 m.x.n, .string m.x.s, .slice m.a m.m m.c, .int .i64 m.x.f, .int .i64 m.x.t, .int .i64 a.x.k, .int .i64 a.x.n, .string a.x.s, .slice a.a a.m a.c, .int .i64 a.x.f, .int .i64 a.x.t, .slice pa pn pc, .int .i64 n] 37)) := (Below.refl _ _).alloc (Nat.le_refl _) _
  have hK : Blk (w.alloc (.cells #[.int .i64 m.x.k, .int .i64 m.x.n, .string m.x.s, .slice m.a m.m m.c, .int .i64 m.x.f, .int .i64 m.x.t, .int .i64 a.x.k, .int .i64 a.x.n, .string a.x.s, .slice a.a a.m a.c, .int .i64 a.x.f, .int .i64 a.x.t, .slice pa pn pc, .int .i64 n] 37)) w.heap.size #[.int .i64 m.x.k, .int .i64 m.x.n, .string m.x.s, .slice m.a m.m m.c, .int .i64 m.x.f, .int .i64 m.x.t, .int .i64 a.x.k, .int .i64 a.x.n, .string a.x.s, .slice a.a a.m a.c, .int .i64 a.x.f, .int .i64 a.x.t, .slice pa pn pc, .int .i64 n] 37 := Blk.new w _ _
  have HMR := Lib.hid hm; have HAR := Lib.hid ha; have HP := Lib.hid hp
  have HW := Lib.hid hW; have HK := Lib.hid hK
  clear hk hm ha hp hx hW hK
  unfold KV.val
  go_enter Try.func4, Try.ntmps4
  go_upto_region 1 with fail
  generalize hWW : w.alloc (.cells #[.int .i64 m.x.k, .int .i64 m.x.n, .string m.x.s, .slice m.a m.m m.c, .int .i64 m.x.f, .int .i64 m.x.t, .int .i64 a.x.k, .int .i64 a.x.n, .string a.x.s, .slice a.a a.m a.c, .int .i64 a.x.f, .int .i64 a.x.t, .slice pa pn pc, .int .i64 n] 37) = W at HW HK ⊢
  clear hWW
  have hlt := HK.out.lt
  have hkq : ∀ V, Below W.heap.size W V → V.cell? ⟨w.heap.size, 0, none⟩ = some (.int .i64 m.x.k) ∧ V.cell? ⟨w.heap.size, 1, none⟩ = some (.int .i64 m.x.n) ∧ V.cell? ⟨w.heap.size, 2, none⟩ = some (.string m.x.s) ∧ V.cell? ⟨w.heap.size, 3, none⟩ = some (.slice m.a m.m m.c) ∧ V.cell? ⟨w.heap.size, 4, none⟩ = some (.int .i64 m.x.f) ∧ V.cell? ⟨w.heap.size, 5, none⟩ = some (.int .i64 m.x.t) ∧ V.cell? ⟨w.heap.size, 6, none⟩ = some (.int .i64 a.x.k) ∧ V.cell? ⟨w.heap.size, 7, none⟩ = some (.int .i64 a.x.n) ∧ V.cell? ⟨w.heap.size, 8, none⟩ = some (.string a.x.s) ∧ V.cell? ⟨w.heap.size, 9, none⟩ = some (.slice a.a a.m a.c) ∧ V.cell? ⟨w.heap.size, 10, none⟩ = some (.int .i64 a.x.f) ∧ V.cell? ⟨w.heap.size, 11, none⟩ = some (.int .i64 a.x.t) ∧ V.cell? ⟨w.heap.size, 12, none⟩ = some (.slice pa pn pc) ∧ V.cell? ⟨w.heap.size, 13, none⟩ = some (.int .i64 n) := fun V hV => by
    have h2 := HK.out.below hV
    have c0 := h2.cell 0; have c1 := h2.cell 1; have c2 := h2.cell 2; have c3 := h2.cell 3; have c4 := h2.cell 4; have c5 := h2.cell 5; have c6 := h2.cell 6; have c7 := h2.cell 7; have c8 := h2.cell 8; have c9 := h2.cell 9; have c10 := h2.cell 10; have c11 := h2.cell 11; have c12 := h2.cell 12; have c13 := h2.cell 13
    simp at c0 c1 c2 c3 c4 c5 c6 c7 c8 c9 c10 c11 c12 c13
    exact ⟨c0, c1, c2, c3, c4, c5, c6, c7, c8, c9, c10, c11, c12, c13⟩
  have KQ := Lib.hid hkq
  clear hkq
  go_cut [3, 4, 5, 6] from 12 to 19 (fun s3 s4 s5 s6 w' => ∃ g3 g4 : Nat, s3 = .pointer (some ⟨g3, 0, none⟩) ∧ s4 = .pointer (some ⟨g4, 0, none⟩) ∧ s5 = .slice pa pn pc ∧ s6 = .int .i64 n ∧ Hid (VB w' g3 m) ∧ Hid (VB w' g4 a) ∧ Hid (Below w.heap.size w w'))
  case first =>
    go_region_held3 (fun V => V.cell? ⟨w.heap.size, 0, none⟩ = some (.int .i64 m.x.k) ∧ V.cell? ⟨w.heap.size, 1, none⟩ = some (.int .i64 m.x.n) ∧ V.cell? ⟨w.heap.size, 2, none⟩ = some (.string m.x.s) ∧ V.cell? ⟨w.heap.size, 3, none⟩ = some (.slice m.a m.m m.c) ∧ V.cell? ⟨w.heap.size, 4, none⟩ = some (.int .i64 m.x.f) ∧ V.cell? ⟨w.heap.size, 5, none⟩ = some (.int .i64 m.x.t) ∧ V.cell? ⟨w.heap.size, 6, none⟩ = some (.int .i64 a.x.k) ∧ V.cell? ⟨w.heap.size, 7, none⟩ = some (.int .i64 a.x.n) ∧ V.cell? ⟨w.heap.size, 8, none⟩ = some (.string a.x.s) ∧ V.cell? ⟨w.heap.size, 9, none⟩ = some (.slice a.a a.m a.c) ∧ V.cell? ⟨w.heap.size, 10, none⟩ = some (.int .i64 a.x.f) ∧ V.cell? ⟨w.heap.size, 11, none⟩ = some (.int .i64 a.x.t) ∧ V.cell? ⟨w.heap.size, 12, none⟩ = some (.slice pa pn pc) ∧ V.cell? ⟨w.heap.size, 13, none⟩ = some (.int .i64 n))
      (with_reducible (refine KQ.out _ ?_; repeat (first | exact Below.refl _ _ | refine Below.drew ?_ | refine bel_alloc ?_ _ rfl)))
      (fail)
    · have h3 : VB ((W.alloc (.cells #[.int .i64 m.x.k, .int .i64 m.x.n, .string m.x.s, .slice m.a m.m m.c, .int .i64 m.x.f, .int .i64 m.x.t] 24)).alloc (.cells #[.int .i64 a.x.k, .int .i64 a.x.n, .string a.x.s, .slice a.a a.m a.c, .int .i64 a.x.f, .int .i64 a.x.t] 24)).drew W.heap.size m := ((vb_new W m).below (below_alloc _ _)).below (Below.drew (Below.refl _ _))
      have h4 : VB ((W.alloc (.cells #[.int .i64 m.x.k, .int .i64 m.x.n, .string m.x.s, .slice m.a m.m m.c, .int .i64 m.x.f, .int .i64 m.x.t] 24)).alloc (.cells #[.int .i64 a.x.k, .int .i64 a.x.n, .string a.x.s, .slice a.a a.m a.c, .int .i64 a.x.f, .int .i64 a.x.t] 24)).drew (W.heap.size + 1) a := by
        have := (vb_new (W.alloc (.cells #[.int .i64 m.x.k, .int .i64 m.x.n, .string m.x.s, .slice m.a m.m m.c, .int .i64 m.x.f, .int .i64 m.x.t] 24)) a).below (Below.drew (Below.refl _ _))
        rwa [te.size_alloc] at this
      have hb : Below w.heap.size w ((W.alloc (.cells #[.int .i64 m.x.k, .int .i64 m.x.n, .string m.x.s, .slice m.a m.m m.c, .int .i64 m.x.f, .int .i64 m.x.t] 24)).alloc (.cells #[.int .i64 a.x.k, .int .i64 a.x.n, .string a.x.s, .slice a.a a.m a.c, .int .i64 a.x.f, .int .i64 a.x.t] 24)).drew := ((HW.out.alloc HW.out.size _).alloc (by have := HW.out.size; rw [te.size_alloc]; omega) _).drew
      have H3 := Lib.hid h3; have H4 := Lib.hid h4; have H5 := Lib.hid hb
      clear h3 h4 hb
      go_wp2_with fail
      go_meet
      case rel => exact ⟨_, _, rfl, rfl, rfl, rfl, H3, H4, H5⟩
    · have h3 : VB ((W.alloc (.cells #[.int .i64 a.x.k, .int .i64 a.x.n, .string a.x.s, .slice a.a a.m a.c, .int .i64 a.x.f, .int .i64 a.x.t] 24)).alloc (.cells #[.int .i64 m.x.k, .int .i64 m.x.n, .string m.x.s, .slice m.a m.m m.c, .int .i64 m.x.f, .int .i64 m.x.t] 24)).drew (W.heap.size + 1) m := by
        have := (vb_new (W.alloc (.cells #[.int .i64 a.x.k, .int .i64 a.x.n, .string a.x.s, .slice a.a a.m a.c, .int .i64 a.x.f, .int .i64 a.x.t] 24)) m).below (Below.drew (Below.refl _ _))
        rwa [te.size_alloc] at this
      have h4 : VB ((W.alloc (.cells #[.int .i64 a.x.k, .int .i64 a.x.n, .string a.x.s, .slice a.a a.m a.c, .int .i64 a.x.f, .int .i64 a.x.t] 24)).alloc (.cells #[.int .i64 m.x.k, .int .i64 m.x.n, .string m.x.s, .slice m.a m.m m.c, .int .i64 m.x.f, .int .i64 m.x.t] 24)).drew W.heap.size a := ((vb_new W a).below (below_alloc _ _)).below (Below.drew (Below.refl _ _))
      have hb : Below w.heap.size w ((W.alloc (.cells #[.int .i64 a.x.k, .int .i64 a.x.n, .string a.x.s, .slice a.a a.m a.c, .int .i64 a.x.f, .int .i64 a.x.t] 24)).alloc (.cells #[.int .i64 m.x.k, .int .i64 m.x.n, .string m.x.s, .slice m.a m.m m.c, .int .i64 m.x.f, .int .i64 m.x.t] 24)).drew := ((HW.out.alloc HW.out.size _).alloc (by have := HW.out.size; rw [te.size_alloc]; omega) _).drew
      have H3 := Lib.hid h3; have H4 := Lib.hid h4; have H5 := Lib.hid hb
      clear h3 h4 hb
      go_wp2_with fail
      go_meet
      case rel => exact ⟨_, _, rfl, rfl, rfl, rfl, H3, H4, H5⟩
  case rest =>
    obtain ⟨g3, g4, rfl, rfl, rfl, rfl, HM, HA, HB⟩ := hcut
    clear KQ HK HW hlt
    have hf2 : ∀ V : World, VB V g3 m → VB V g4 a → V.cell? ⟨g3, 0, none⟩ = some (.int .i64 m.x.k) ∧ V.cell? ⟨g3, 3, none⟩ = some (.slice m.a m.m m.c) ∧ V.cell? ⟨g3, 1, none⟩ = some (.int .i64 m.x.n) ∧ V.cell? ⟨g3, 2, none⟩ = some (.string m.x.s) ∧ V.cell? ⟨g3, 4, none⟩ = some (.int .i64 m.x.f) ∧ V.cell? ⟨g3, 5, none⟩ = some (.int .i64 m.x.t) ∧ V.cell? ⟨g4, 0, none⟩ = some (.int .i64 a.x.k) ∧ V.cell? ⟨g4, 3, none⟩ = some (.slice a.a a.m a.c) ∧ V.cell? ⟨g4, 1, none⟩ = some (.int .i64 a.x.n) ∧ V.cell? ⟨g4, 2, none⟩ = some (.string a.x.s) ∧ V.cell? ⟨g4, 4, none⟩ = some (.int .i64 a.x.f) ∧ V.cell? ⟨g4, 5, none⟩ = some (.int .i64 a.x.t) := fun V h1 h2 => by
      have m0 := h1.cell 0; have m1 := h1.cell 1; have m2 := h1.cell 2; have m3 := h1.cell 3; have m4 := h1.cell 4; have m5 := h1.cell 5
      have a0 := h2.cell 0; have a1 := h2.cell 1; have a2 := h2.cell 2; have a3 := h2.cell 3; have a4 := h2.cell 4; have a5 := h2.cell 5
      simp at m0 m1 m2 m3 m4 m5 a0 a1 a2 a3 a4 a5
      exact ⟨m0, m3, m1, m2, m4, m5, a0, a3, a1, a2, a4, a5⟩
    have F2 := Lib.hid hf2
    clear hf2
    have HPC := Lib.hid HP.out.len
    obtain ⟨m0, m3, m1, m2, m4, m5, a0, a3, a1, a2, a4, a5⟩ := F2.out _ HM.out HA.out
    go_wp2_with fail
    refine (te.rlarge_any m wc (HMR.out.below HB.out)).mono ?_
    rintro e w1 ⟨lr, rfl, hl1, hb1⟩
    have HB1 := Lib.hid (HB.out.trans (hb1.mono HB.out.size)); have HM1 := Lib.hid (HM.out.below hb1); have HA1 := Lib.hid (HA.out.below hb1); have HL1 := Lib.hid hl1
    clear hb1 hl1 HM HA m0 m1 m2 m3 m4 m5 a0 a1 a2 a3 a4 a5
    cases lr with
    | true =>
      go_wp2_with fail
      refine (va.awake_any _).mono ?_
      rintro e wq ⟨rfl, hbq⟩
      have HBQ := Lib.hid (HB1.out.trans (hbq.mono HB1.out.size))
      clear hbq
      go_wp2
      go_ret
      exact ⟨rfl, HBQ.out⟩
    | false =>
    obtain ⟨m0, m3, m1, m2, m4, m5, a0, a3, a1, a2, a4, a5⟩ := F2.out _ HM1.out HA1.out
    go_wp2_with fail
    refine (te.rlarge_any a w1 (HAR.out.below HB1.out)).mono ?_
    rintro e w2 ⟨lr, rfl, hl2, hb2⟩
    have HB2 := Lib.hid (HB1.out.trans (hb2.mono HB1.out.size)); have HM2 := Lib.hid (HM1.out.below hb2); have HA2 := Lib.hid (HA1.out.below hb2)
    clear hb2 hl2 HM1 HA1 m0 m1 m2 m3 m4 m5 a0 a1 a2 a3 a4 a5
    cases lr with
    | true =>
      go_wp2_with fail
      refine (va.awake_any _).mono ?_
      rintro e wq ⟨rfl, hbq⟩
      have HBQ := Lib.hid (HB2.out.trans (hbq.mono HB2.out.size))
      clear hbq
      go_wp2
      go_ret
      exact ⟨rfl, HBQ.out⟩
    | false =>
    obtain ⟨hN, hK⟩ := size_kids (HL1.out (by trivial))
    have HK := Lib.hid hK
    clear hK HL1
    by_cases hpn : 100 < pn
    · have d0 : decide ((100 : Int) < (pn : Int)) = true := decide_eq_true (by omega)
      go_wp2_with fail
      refine (va.awake_any _).mono ?_
      rintro e wq ⟨rfl, hbq⟩
      have HBQ := Lib.hid (HB2.out.trans (hbq.mono HB2.out.size))
      clear hbq
      go_wp2
      go_ret
      exact ⟨rfl, HBQ.out⟩
    have d0 : decide ((100 : Int) < (pn : Int)) = false := decide_eq_false (by omega)
    have HPN := Lib.hid hpn
    clear hpn
    go_upto_region 4 with fail
    clear d0
    go_wp2_with (first | (refine wpList_load_T rfl _ rfl rfl HM2.out ?_) | (refine wpList_load_T rfl _ rfl rfl HA2.out ?_))
    refine (pzero_any m a w2 (HMR.out.below HB2.out) (HAR.out.below HB2.out) hN HK.out).mono ?_
    rintro e w4 ⟨z, rfl, hzt, hzr, hb4⟩
    have hbA : Below w4.heap.size w4 (w4.alloc (.cells #[.int .i64 z.x, .slice z.a z.m z.c] 27)) := (Below.refl _ _).alloc (Nat.le_refl _) _
    have HZR := Lib.hid (hzr.below hbA); have HZT := Lib.hid hzt
    have HZB : Hid (Blk (w4.alloc (.cells #[.int .i64 z.x, .slice z.a z.m z.c] 27)) w4.heap.size #[.int .i64 z.x, .slice z.a z.m z.c] 27) := Lib.hid (Blk.new w4 _ _)
    have HK4 := Lib.hid (hb4.trans (hbA.mono hb4.size))
    clear hb4 hzt hzr hbA
    go_upto_region 5 with fail
    generalize hW5 : w4.alloc (.cells #[.int .i64 z.x, .slice z.a z.m z.c] 27) = w5 at HZR HZB HK4 ⊢
    generalize w4.heap.size = gz at HZB ⊢
    clear hW5
    have HB5 := Lib.hid (HB2.out.trans (HK4.out.mono HB2.out.size)); have HM5 := Lib.hid (HM2.out.below HK4.out); have HA5 := Lib.hid (HA2.out.below HK4.out)
    clear HK4 HM2 HA2
    have z0 := HZB.out.cell 0; have z1 := HZB.out.cell 1
    simp at z0 z1
    go_wp2_with fail
    refine (va.get_any z pa pn pc pl w5 HZR.out (HP.out.below HB5.out)).mono ?_
    rintro e w6 ⟨⟨ux, ua, um, uc, ul⟩, ok, rfl, hb6, hu, h1, h2⟩
    have hbA : Below w6.heap.size w6 (w6.alloc (.cells #[.int .i64 ux, .slice ua um uc] 27)) := (Below.refl _ _).alloc (Nat.le_refl _) _
    have HUL := Lib.hid hu.1.len
    have HUB : Hid (Blk (w6.alloc (.cells #[.int .i64 ux, .slice ua um uc] 27)) w6.heap.size #[.int .i64 ux, .slice ua um uc] 27) := Lib.hid (Blk.new w6 _ _)
    have HK6 := Lib.hid (hb6.trans (hbA.mono hb6.size))
    have H1 := Lib.hid h1
    clear hb6 hu h1 h2 hbA z0 z1
    unfold va.Vn.val
    go_upto_region 6 with fail
    generalize hW7 : w6.alloc (.cells #[.int .i64 ux, .slice ua um uc] 27) = w7 at HUB HK6 ⊢
    generalize w6.heap.size = gu at HUB ⊢
    clear hW7
    have HB7 := Lib.hid (HB5.out.trans (HK6.out.mono HB5.out.size)); have HM7 := Lib.hid (HM5.out.below HK6.out); have HA7 := Lib.hid (HA5.out.below HK6.out)
    have HZ7 := Lib.hid (HZB.out.below HK6.out); have HZR7 := Lib.hid (HZR.out.below HK6.out)
    clear HK6 HM5 HA5 HZB HZR
    cases ok with
    | false =>
      go_wp2_with fail
      refine (va.awake_any _).mono ?_
      rintro e wq ⟨rfl, hbq⟩
      have HBQ := Lib.hid (HB7.out.trans (hbq.mono HB7.out.size))
      clear hbq
      go_wp2
      go_ret
      exact ⟨rfl, HBQ.out⟩
    | true =>
    have u1 := HUB.out.cell 1
    simp at u1
    by_cases hum : 0 < um
    · have d0 : decide ((0 : Int) < (um : Int)) = true := decide_eq_true (by omega)
      have d1 : decide (0 < um) = true := decide_eq_true hum
      go_wp2_with fail
      refine (va.awake_any _).mono ?_
      rintro e wq ⟨rfl, hbq⟩
      have HBQ := Lib.hid (HB7.out.trans (hbq.mono HB7.out.size))
      clear hbq
      go_wp2
      go_ret
      exact ⟨rfl, HBQ.out⟩
    have d0 : decide ((0 : Int) < (um : Int)) = false := decide_eq_false (by omega)
    have d1 : decide (0 < um) = false := decide_eq_false hum
    have hul : ul = [] := List.eq_nil_of_length_eq_zero (by have := HUL.out; omega)
    have HULN := Lib.hid hul
    have hat := H1.out (by trivial)
    have HAT := Lib.hid hat
    clear hul hat H1 HUL
    obtain ⟨m0, m3, m1, m2, m4, m5, a0, a3, a1, a2, a4, a5⟩ := F2.out _ HM7.out HA7.out
    go_wp2_with fail
    refine (rcells_any m a w7 (HMR.out.below HB7.out) (HAR.out.below HB7.out) hN).mono ?_
    rintro e w8 ⟨rfl, hb8⟩
    have HB8 := Lib.hid (HB7.out.trans (hb8.mono HB7.out.size)); have HM8 := Lib.hid (HM7.out.below hb8); have HA8 := Lib.hid (HA7.out.below hb8)
    have HZ8 := Lib.hid (HZ7.out.below hb8); have HZR8 := Lib.hid (HZR7.out.below hb8)
    clear hb8 HM7 HA7 HZ7 HZR7 HUB u1 m0 m1 m2 m3 m4 m5 a0 a1 a2 a3 a4 a5
    obtain ⟨c, hc⟩ : ∃ c, ce m.l m.l.length a.tr = c := ⟨_, rfl⟩
    rw [hc]
    by_cases hc0 : c = 0
    · have e0 : ((c : Int) == 0) = true := by rw [hc0]; rfl
      go_wp2_with fail
      refine (va.awake_any _).mono ?_
      rintro e wq ⟨rfl, hbq⟩
      have HBQ := Lib.hid (HB8.out.trans (hbq.mono HB8.out.size))
      clear hbq
      go_wp2
      go_ret
      exact ⟨rfl, HBQ.out⟩
    have e0 : ((c : Int) == 0) = false := by rw [beq_eq_false_iff_ne]; omega
    have hok : Ok m.l a.tr := by unfold Ok; omega
    obtain ⟨f, hf, hz⟩ := zv_ok hok
    have hzz : z.tr = zr m.l f a.tr := HZT.out.trans hz
    obtain ⟨hux, hkp⟩ := keeps m.l f a.tr pl ux n hok hf (by rw [← hzz]; rw [HAT.out, HULN.out]; rfl)
    rw [← hzz] at hkp
    have hwd : va.Wd z.tr := by rw [hzz]; exact zr_wd m.l HK.out f a.tr hok
    have HOK := Lib.hid hok; have HUX := Lib.hid hux; have HKP := Lib.hid hkp; have HWD := Lib.hid hwd
    clear hc hc0 hok hf hz hzz hux hkp hwd d1
    go_upto_region 8 with fail
    clear e0 d0
    have z0 := HZ8.out.cell 0; have z1 := HZ8.out.cell 1
    simp at z0 z1
    have hxr : va.Vn.Rd w8 ⟨n, none, 0, 0, []⟩ := ⟨(va.v0_rd w8).1, ⟨hn1, hn2⟩⟩
    have HXR := Lib.hid hxr
    clear hxr
    go_wp2_with fail
    refine (va.psetw_any z ⟨n, none, 0, 0, []⟩ pa pn pc pl w8 HZR8.out HXR.out (HP.out.below HB8.out) HWD.out).mono ?_
    rintro e w9 ⟨⟨yx, ya, ym, yc, yl⟩, ok2, rfl, hb9, hy, h1, h2⟩
    have hyt : va.Vn.tr ⟨yx, ya, ym, yc, yl⟩ = Tr.put z.tr pl (.mk n []) := by
      cases ok2 with
      | true => exact (h1 rfl).2
      | false => have := (h2 rfl).1; rw [HAT.out] at this; cases this
    have hbA : Below w9.heap.size w9 (w9.alloc (.cells #[.int .i64 yx, .slice ya ym yc] 27)) := (Below.refl _ _).alloc (Nat.le_refl _) _
    have HYR := Lib.hid (hy.below hbA); have HYT := Lib.hid hyt
    have HYB : Hid (Blk (w9.alloc (.cells #[.int .i64 yx, .slice ya ym yc] 27)) w9.heap.size #[.int .i64 yx, .slice ya ym yc] 27) := Lib.hid (Blk.new w9 _ _)
    have HK9 := Lib.hid (hb9.trans (hbA.mono hb9.size))
    clear hb9 hy h1 h2 hbA hyt z0 z1
    unfold va.Vn.val
    go_upto_region 9 with fail
    generalize hWA : w9.alloc (.cells #[.int .i64 yx, .slice ya ym yc] 27) = wA at HYR HYB HK9 ⊢
    generalize w9.heap.size = gy at HYB ⊢
    clear hWA
    have HBA := Lib.hid (HB8.out.trans (HK9.out.mono HB8.out.size))
    have HMA := Lib.hid (HM8.out.below HK9.out); have HAA := Lib.hid (HA8.out.below HK9.out); have HZA := Lib.hid (HZ8.out.below HK9.out); have HZRA := Lib.hid (HZR8.out.below HK9.out)
    clear HK9 HM8 HA8 HZ8 HZR8 HXR
    obtain ⟨b1, hb1⟩ := bool_of (Ok m.l a.tr ∧ fit m.l (va.Vn.tr ⟨yx, ya, ym, yc, yl⟩) a.tr)
    have hin : b1 = false → n ≠ 0 ∧ n ≠ 1 := fun h => by
      have hno : ¬ (Ok m.l a.tr ∧ fit m.l (va.Vn.tr ⟨yx, ya, ym, yc, yl⟩) a.tr) := fun h' => by rw [hb1.2 h'] at h; cases h
      rw [HYT.out] at hno
      exact ⟨fun h => hno ⟨HOK.out, HKP.out (.inl h)⟩, fun h => hno ⟨HOK.out, HKP.out (.inr h)⟩⟩
    obtain ⟨b2, hb2⟩ := bool_of (va.Vn.tr ⟨yx, ya, ym, yc, yl⟩ = z.tr)
    have hbn : (n == 0) = b2 := by
      rw [Bool.eq_iff_iff, beq_iff_eq, hb2, HYT.out, Tr.put_eq HAT.out]
      exact (leaf_eq HUX.out HULN.out).symm
    have HPF := Lib.hid (fun (V : World) (hV : Below wA.heap.size wA V) => show Calls Try.prog 11 #[(.agg #[.int .i64 m.x.k, .int .i64 m.x.n, .string m.x.s, .slice m.a m.m m.c, .int .i64 m.x.f, .int .i64 m.x.t]), (.agg #[.int .i64 a.x.k, .int .i64 a.x.n, .string a.x.s, .slice a.a a.m a.c, .int .i64 a.x.f, .int .i64 a.x.t]), .agg #[.int .i64 yx, .slice ya ym yc]] V (fun e w' => e = .returned (.bool b1) ∧ Below V.heap.size V w') from
      (pfits_any m a ⟨yx, ya, ym, yc, yl⟩ V ((HMR.out.below HBA.out).below hV) ((HAR.out.below HBA.out).below hV) (HYR.out.below hV) hN HK.out).mono (bp_same hb1))
    have HRF := Lib.hid (fun (V : World) (hV : Below wA.heap.size wA V) => show Calls Try.prog 13 #[(.agg #[.int .i64 m.x.k, .int .i64 m.x.n, .string m.x.s, .slice m.a m.m m.c, .int .i64 m.x.f, .int .i64 m.x.t]), (.agg #[.int .i64 a.x.k, .int .i64 a.x.n, .string a.x.s, .slice a.a a.m a.c, .int .i64 a.x.f, .int .i64 a.x.t]), .agg #[.int .i64 yx, .slice ya ym yc]] V (fun e w' => e = .returned (.bool b1) ∧ Below V.heap.size V w') from
      (rfits_any m a ⟨yx, ya, ym, yc, yl⟩ V ((HMR.out.below HBA.out).below hV) ((HAR.out.below HBA.out).below hV) (HYR.out.below hV) hN HK.out).mono (bp_same hb1))
    have HSM := Lib.hid (fun (V : World) (hV : Below wA.heap.size wA V) => show Calls Try.prog 16 #[.agg #[.int .i64 yx, .slice ya ym yc], (.agg #[.int .i64 z.x, .slice z.a z.m z.c])] V (fun e w' => e = .returned (.bool b2) ∧ Below V.heap.size V w') from
      (va.psame_any (va.Vn.tr ⟨yx, ya, ym, yc, yl⟩) ⟨yx, ya, ym, yc, yl⟩ z V rfl (HYR.out.below hV) (HZRA.out.below hV)).mono (by
        rintro e w' ⟨r, rfl, hr, hb⟩
        have : r = b2 := by rw [Bool.eq_iff_iff]; exact hr.trans hb2.symm
        rw [this]
        exact ⟨rfl, hb⟩))
    have hkq : ∀ V, Below wA.heap.size wA V → (V.cell? ⟨g3, 0, none⟩ = some (.int .i64 m.x.k) ∧ V.cell? ⟨g3, 3, none⟩ = some (.slice m.a m.m m.c) ∧ V.cell? ⟨g3, 1, none⟩ = some (.int .i64 m.x.n) ∧ V.cell? ⟨g3, 2, none⟩ = some (.string m.x.s) ∧ V.cell? ⟨g3, 4, none⟩ = some (.int .i64 m.x.f) ∧ V.cell? ⟨g3, 5, none⟩ = some (.int .i64 m.x.t) ∧ V.cell? ⟨g4, 0, none⟩ = some (.int .i64 a.x.k) ∧ V.cell? ⟨g4, 3, none⟩ = some (.slice a.a a.m a.c) ∧ V.cell? ⟨g4, 1, none⟩ = some (.int .i64 a.x.n) ∧ V.cell? ⟨g4, 2, none⟩ = some (.string a.x.s) ∧ V.cell? ⟨g4, 4, none⟩ = some (.int .i64 a.x.f) ∧ V.cell? ⟨g4, 5, none⟩ = some (.int .i64 a.x.t)) ∧ V.cell? ⟨gy, 0, none⟩ = some (.int .i64 yx) ∧ V.cell? ⟨gy, 1, none⟩ = some (.slice ya ym yc) ∧ V.cell? ⟨gz, 0, none⟩ = some (.int .i64 z.x) ∧ V.cell? ⟨gz, 1, none⟩ = some (.slice z.a z.m z.c) := fun V hV => by
      have y2 := HYB.out.below hV; have z2 := HZA.out.below hV
      have y0 := y2.cell 0; have y1 := y2.cell 1; have z0 := z2.cell 0; have z1 := z2.cell 1
      simp at y0 y1 z0 z1
      exact ⟨F2.out V (HMA.out.below hV) (HAA.out.below hV), y0, y1, z0, z1⟩
    have KQ := Lib.hid hkq
    have HIN := Lib.hid hin
    clear hkq hb1 hin hb2
    obtain ⟨⟨m0, m3, m1, m2, m4, m5, a0, a3, a1, a2, a4, a5⟩, y0, y1, z0, z1⟩ := KQ.out wA (Below.refl _ _)
    go_wp2_with fail
    refine (HPF.out wA (Below.refl _ _)).mono ?_
    rintro e wB ⟨rfl, hbB⟩
    have HKB := Lib.hid hbB
    clear hbB m0 m1 m2 m3 m4 m5 a0 a1 a2 a3 a4 a5 y0 y1 z0 z1
    obtain ⟨⟨m0, m3, m1, m2, m4, m5, a0, a3, a1, a2, a4, a5⟩, y0, y1, z0, z1⟩ := KQ.out wB HKB.out
    cases b1 with
    | true =>
      clear HRF HIN
      go_wp2_with fail
      refine (HSM.out wB HKB.out).mono ?_
      rintro e wC ⟨rfl, hbC⟩
      have HKC := Lib.hid (HKB.out.trans (hbC.mono HKB.out.size))
      have HBC := Lib.hid (HBA.out.trans (HKC.out.mono HBA.out.size))
      clear hbC m0 m1 m2 m3 m4 m5 a0 a1 a2 a3 a4 a5 y0 y1 z0 z1
      cases b2 with
      | true =>
        go_wp2_with fail
        refine (va.awake_any _).mono ?_
        rintro e wD ⟨rfl, hbD⟩
        have HBD := Lib.hid (HBC.out.trans (hbD.mono HBC.out.size))
        clear hbD
        go_wp2
        go_ret
        exact ⟨rfl, HBD.out⟩
      | false =>
        go_wp2_with fail
        refine (va.awake_any _).mono ?_
        rintro e wD ⟨rfl, hbD⟩
        have HBD := Lib.hid (HBC.out.trans (hbD.mono HBC.out.size))
        clear hbD
        go_wp2
        go_ret
        exact ⟨rfl, HBD.out⟩
    | false =>
      obtain ⟨hn0, hn1'⟩ := HIN.out rfl
      have q0 : (n != 0) = true := by rw [bne_iff_ne]; exact hn0
      have q1 : (n != 1) = true := by rw [bne_iff_ne]; exact hn1'
      have q2 : (n == 0) = false := by rw [beq_eq_false_iff_ne]; exact hn0
      have hb2f : b2 = false := by rw [← hbn]; exact q2
      subst hb2f
      clear hn0 hn1' HIN
      go_wp2_with fail
      refine (HRF.out wB HKB.out).mono ?_
      rintro e wC ⟨rfl, hbC⟩
      have HKC := Lib.hid (HKB.out.trans (hbC.mono HKB.out.size))
      clear hbC m0 m1 m2 m3 m4 m5 a0 a1 a2 a3 a4 a5 y0 y1 z0 z1
      obtain ⟨⟨m0, m3, m1, m2, m4, m5, a0, a3, a1, a2, a4, a5⟩, y0, y1, z0, z1⟩ := KQ.out wC HKC.out
      go_wp2_with fail
      refine (HSM.out wC HKC.out).mono ?_
      rintro e wD ⟨rfl, hbD⟩
      have HKD := Lib.hid (HKC.out.trans (hbD.mono HKC.out.size))
      have HBD := Lib.hid (HBA.out.trans (HKD.out.mono HBA.out.size))
      clear hbD m0 m1 m2 m3 m4 m5 a0 a1 a2 a3 a4 a5 y0 y1 z0 z1
      go_wp2_with fail
      refine (va.awake_any _).mono ?_
      rintro e wE ⟨rfl, hbE⟩
      have HBE := Lib.hid (HBD.out.trans (hbE.mono HBD.out.size))
      clear hbE
      go_wp2
      go_ret
      exact ⟨rfl, HBE.out⟩
end Go.Proofs.Ytpdicfekhghfeaa.zf
