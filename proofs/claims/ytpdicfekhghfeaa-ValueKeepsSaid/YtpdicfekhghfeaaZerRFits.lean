/-
  Layer 19: the document's Fits.
-/
import Derived.Test.YtpdicfekhghfeaaZerRParts
import Derived.Test.YtpdicfekhghfeaaZerFits
import Derived.Test.YtpdicfekhghfeaaTypRefC
import Derived.Deep.CutRange
namespace Go.Proofs.Ytpdicfekhghfeaa.zf
open Go.ChangeShapes Go.WideShapes Go.ChangeAt Go.RowKit
open bs tr te ty
set_option linter.unusedVariables false

def RfP (m : te.Vn) (f : Nat) : Prop := ∀ (a : te.Vn) (v : va.Vn) (w : World), a.Rd w → m.Rd w → v.Rd w → Ok m.l a.tr → Dp m.l f a.tr → Calls Try.prog 13 #[m.val, a.val, v.val] w (BP (fit m.l v.tr a.tr) w)

theorem fit_cnd {M : List PT} {v : va.Vn} {t : PT} (h : ¬ cnd t v.x) : ¬ fit M v.tr t := fun hf => h ((fit_mk M v.x v.l t).1 hf).1
theorem fit_all {M : List PT} {v : va.Vn} {t : PT} {n : Nat} (hc : cnd t v.x) (hl : v.l.length = n) (hn : (pts M t).length = n) (h : ∀ (i : Nat) p q, v.l[i]? = some p → (pts M t)[i]? = some q → fit M p q) : fit M v.tr t :=
  (fit_mk M v.x v.l t).2 ⟨hc, by omega, h⟩

set_option maxRecDepth 100000 in
set_option maxHeartbeats 4000000 in
theorem rfits_step (m : te.Vn) (f : Nat) (ih : RfP m f) (hN : m.l.length ≤ 1000000) (hM : ∀ d ∈ m.l, d.kids.length ≤ 1000) : RfP m (f + 1) := by
  intro a v w ha hm hv hok hdp
  have hW : Below w.heap.size w (((w.alloc (.cells #[.int .i64 m.x.k, .int .i64 m.x.n, .string m.x.s, .slice m.a m.m m.c, .int .i64 m.x.f, .int .i64 m.x.t] 24)).alloc (.cells #[.int .i64 a.x.k, .int .i64 a.x.n, .string a.x.s, .slice a.a a.m a.c, .int .i64 a.x.f, .int .i64 a.x.t] 24)).alloc (.cells #[.int .i64 v.x, .slice v.a v.m v.c] 27)) := (((Below.refl _ _).alloc (Nat.le_refl _) _).alloc (by simp only [te.size_alloc]; omega) _).alloc (by simp only [te.size_alloc]; omega) _
  have hM1 : VB (((w.alloc (.cells #[.int .i64 m.x.k, .int .i64 m.x.n, .string m.x.s, .slice m.a m.m m.c, .int .i64 m.x.f, .int .i64 m.x.t] 24)).alloc (.cells #[.int .i64 a.x.k, .int .i64 a.x.n, .string a.x.s, .slice a.a a.m a.c, .int .i64 a.x.f, .int .i64 a.x.t] 24)).alloc (.cells #[.int .i64 v.x, .slice v.a v.m v.c] 27)) w.heap.size m := ((vb_new w m).below (below_alloc _ _)).below (below_alloc _ _)
  have hX : VB (((w.alloc (.cells #[.int .i64 m.x.k, .int .i64 m.x.n, .string m.x.s, .slice m.a m.m m.c, .int .i64 m.x.f, .int .i64 m.x.t] 24)).alloc (.cells #[.int .i64 a.x.k, .int .i64 a.x.n, .string a.x.s, .slice a.a a.m a.c, .int .i64 a.x.f, .int .i64 a.x.t] 24)).alloc (.cells #[.int .i64 v.x, .slice v.a v.m v.c] 27)) (w.heap.size + 1) a := by
    have := (vb_new (w.alloc (.cells #[.int .i64 m.x.k, .int .i64 m.x.n, .string m.x.s, .slice m.a m.m m.c, .int .i64 m.x.f, .int .i64 m.x.t] 24)) a).below (below_alloc _ (.cells #[.int .i64 v.x, .slice v.a v.m v.c] 27))
    rwa [te.size_alloc] at this
  have hY : Blk (((w.alloc (.cells #[.int .i64 m.x.k, .int .i64 m.x.n, .string m.x.s, .slice m.a m.m m.c, .int .i64 m.x.f, .int .i64 m.x.t] 24)).alloc (.cells #[.int .i64 a.x.k, .int .i64 a.x.n, .string a.x.s, .slice a.a a.m a.c, .int .i64 a.x.f, .int .i64 a.x.t] 24)).alloc (.cells #[.int .i64 v.x, .slice v.a v.m v.c] 27)) (w.heap.size + 1 + 1) #[.int .i64 v.x, .slice v.a v.m v.c] 27 := by
    have := Blk.new ((w.alloc (.cells #[.int .i64 m.x.k, .int .i64 m.x.n, .string m.x.s, .slice m.a m.m m.c, .int .i64 m.x.f, .int .i64 m.x.t] 24)).alloc (.cells #[.int .i64 a.x.k, .int .i64 a.x.n, .string a.x.s, .slice a.a a.m a.c, .int .i64 a.x.f, .int .i64 a.x.t] 24)) #[.int .i64 v.x, .slice v.a v.m v.c] 27
    rwa [te.size_alloc, te.size_alloc] at this
  have hc : ce m.l m.l.length a.tr ≠ 0 := by have := hok; unfold Ok at this; omega
  obtain ⟨c0, hc0⟩ : ∃ c0, ce m.l m.l.length a.tr = c0 := ⟨_, rfl⟩
  rw [hc0] at hc
  have HC0 := Lib.hid hc0
  have e0 : ((c0 : Int) == 0) = false := by rw [beq_eq_false_iff_ne]; omega
  have hg := hok.gd
  have hlen := pts_len' hg hM
  have HW := Lib.hid hW; have HX := Lib.hid hX; have HY := Lib.hid hY; have HMB := Lib.hid hM1
  have HMR := Lib.hid hm; have HAR := Lib.hid ha; have HVR := Lib.hid hv; have HG := Lib.hid hg; have HOK := Lib.hid hok; have HDP := Lib.hid hdp; have HIH := Lib.hid ih; have HK := Lib.hid hM
  have HVL := Lib.hid hv.1.len; have hvcap := hv.1.cap; have hvmost := hv.1.most
  obtain ⟨n, hn⟩ : ∃ n, (pts m.l a.tr).length = n := ⟨_, rfl⟩
  rw [hn] at hlen
  have HN := Lib.hid hn
  clear hW hX hY hM1 hm ha hv hg hok hdp ih hn hc hc0 hM
  unfold te.Vn.val va.Vn.val
  go_enter Try.func13, Try.ntmps13
  go_upto_region 1 with fail
  generalize hWW : (((w.alloc (.cells #[.int .i64 m.x.k, .int .i64 m.x.n, .string m.x.s, .slice m.a m.m m.c, .int .i64 m.x.f, .int .i64 m.x.t] 24)).alloc (.cells #[.int .i64 a.x.k, .int .i64 a.x.n, .string a.x.s, .slice a.a a.m a.c, .int .i64 a.x.f, .int .i64 a.x.t] 24)).alloc (.cells #[.int .i64 v.x, .slice v.a v.m v.c] 27)) = W at HW HX HY HMB ⊢
  clear hWW
  go_wp2_with (first | (refine wpList_load_T rfl _ rfl rfl HMB.out ?_) | (refine wpList_load_T rfl _ rfl rfl HX.out ?_))
  refine (rcells_any m a W (HMR.out.below HW.out) (HAR.out.below HW.out) hN).mono ?_
  rintro e w2 ⟨rfl, hb2⟩
  rw [HC0.out]
  have HB2 := Lib.hid (HW.out.trans (hb2.mono HW.out.size)); have HX2 := Lib.hid (HX.out.below hb2); have HY2 := Lib.hid (HY.out.below hb2); have HM2 := Lib.hid (HMB.out.below hb2)
  clear hb2 HX HY HMB HW
  go_upto_region 3 with fail
  obtain ⟨bc, hbc⟩ : ∃ bc : Bool, bc = true ↔ ¬ cnd a.tr v.x := by
    by_cases h : cnd a.tr v.x
    · exact ⟨false, by simp [h]⟩
    · exact ⟨true, by simp [h]⟩
  have HBC := Lib.hid hbc
  clear hbc
  go_cut [40] from 13 to 40 (fun s w' => s = .bool bc ∧ w' = w2)
  case first =>
    have p0 := HX2.out.cell 0; have y0 := HY2.out.cell 0
    simp at p0 y0
    by_cases k2 : a.x.k = 2
    · have c2 : (a.x.k == 2) = true := by rw [beq_iff_eq]; exact k2
      have c3 : (a.x.k != 2) = false := by rw [bne_eq_false_iff_eq]; exact k2
      have hcn : cnd a.tr v.x ↔ (v.x = 0 ∨ v.x = 1) := ⟨fun h => h.1 k2, fun h => ⟨fun _ => h, fun _ h2 => absurd k2 h2⟩⟩
      by_cases x0 : v.x = 0
      · have d0 : (v.x != 0) = false := by rw [bne_eq_false_iff_eq]; exact x0
        have hd : bc = false := Bool.eq_false_iff.2 (fun h => HBC.out.1 h (hcn.2 (.inl x0)))
        subst hd
        clear k2 x0 hcn
        go_wp2_with fail
        go_meet
        exact ⟨rfl, rfl⟩
      · have d0 : (v.x != 0) = true := by rw [bne_iff_ne]; exact x0
        by_cases x1 : v.x = 1
        · have d1 : (v.x != 1) = false := by rw [bne_eq_false_iff_eq]; exact x1
          have hd : bc = false := Bool.eq_false_iff.2 (fun h => HBC.out.1 h (hcn.2 (.inr x1)))
          subst hd
          clear k2 x0 x1 hcn
          go_wp2_with fail
          go_meet
          exact ⟨rfl, rfl⟩
        · have d1 : (v.x != 1) = true := by rw [bne_iff_ne]; exact x1
          have hd : bc = true := HBC.out.2 (fun h => (hcn.1 h).elim x0 x1)
          subst hd
          clear k2 x0 x1 hcn
          go_wp2_with fail
          go_meet
          exact ⟨rfl, rfl⟩
    · have c2 : (a.x.k == 2) = false := by rw [beq_eq_false_iff_ne]; exact k2
      have c3 : (a.x.k != 2) = true := by rw [bne_iff_ne]; exact k2
      by_cases k1 : a.x.k = 1
      · have c1 : (a.x.k != 1) = false := by rw [bne_eq_false_iff_eq]; exact k1
        have hd : bc = false := Bool.eq_false_iff.2 (fun h => HBC.out.1 h ⟨fun h => absurd h k2, fun h => absurd k1 h⟩)
        subst hd
        clear k1 k2
        go_wp2_with fail
        go_meet
        exact ⟨rfl, rfl⟩
      · have c1 : (a.x.k != 1) = true := by rw [bne_iff_ne]; exact k1
        have hcn : cnd a.tr v.x ↔ v.x = 0 := ⟨fun h => h.2 k1 k2, fun h => ⟨fun h2 => absurd h2 k2, fun _ _ => h⟩⟩
        by_cases x0 : v.x = 0
        · have d0 : (v.x != 0) = false := by rw [bne_eq_false_iff_eq]; exact x0
          have hd : bc = false := Bool.eq_false_iff.2 (fun h => HBC.out.1 h (hcn.2 x0))
          subst hd
          clear k1 k2 x0 hcn
          go_wp2_with fail
          go_meet
          exact ⟨rfl, rfl⟩
        · have d0 : (v.x != 0) = true := by rw [bne_iff_ne]; exact x0
          have hd : bc = true := HBC.out.2 (fun h => x0 (hcn.1 h))
          subst hd
          clear k1 k2 x0 hcn
          go_wp2_with fail
          go_meet
          exact ⟨rfl, rfl⟩
  case rest =>
    obtain ⟨rfl, hwc⟩ := hcut
    rw [hwc]
    clear hwc
    cases bc with
    | true =>
      have hnf := fit_cnd (M := m.l) (v := v) (HBC.out.1 rfl)
      have HNF := Lib.hid hnf
      clear hnf
      go_wp2
      go_ret
      exact ⟨false, rfl, Lib.hid (ff HNF.out), HB2.out⟩
    | false =>
      have hcn : cnd a.tr v.x := Classical.byContradiction (fun h => Bool.noConfusion (HBC.out.2 h))
      have HCN := Lib.hid hcn
      clear hcn HBC
      go_wp2_with (first | (refine wpList_load_T rfl _ rfl rfl HM2.out ?_) | (refine wpList_load_T rfl _ rfl rfl HX2.out ?_))
      refine (rparts_any m a w w2 HB2.out HMR.out HAR.out HG.out HK.out).mono ?_
      rintro e w3 ⟨gp, np, cp, LP, rfl, hgp, hop, hlp, hrp, hb3⟩
      have hnp : np = n := by rw [← hop.num, ← HN.out, ← hlp, List.length_map]
      subst hnp
      have HB3 := Lib.hid (HB2.out.trans (hb3.mono HB2.out.size)); have HX3 := Lib.hid (HX2.out.below hb3); have HY3 := Lib.hid (HY2.out.below hb3); have HM3 := Lib.hid (HM2.out.below hb3)
      have HOP := Lib.hid hop; have HLP := Lib.hid hlp; have HRP := Lib.hid hrp
      have hgp3 : gp < w3.heap.size := by
        rcases hop.cases with ⟨h, _⟩ | ⟨g, h, _, hg, _⟩
        · cases h
        · cases h; exact hg
      have hpc : np ≤ cp ∧ cp ≤ 9223372036854775807 := by
        rcases hop.cases with ⟨h, _⟩ | ⟨g, h, _, _, h1, h2⟩
        · cases h
        · unfold maxLen at h2; omega
      have hpc1 := hpc.1; have hpc2 := hpc.2
      clear hb3 hop hlp hrp HX2 HY2 HM2 hgp hpc
      have y1 := HY3.out.cell 1
      simp at y1
      by_cases hvn : np = v.m
      · have c0' : ((np : Int) != (v.m : Int)) = false := by rw [bne_eq_false_iff_eq]; omega
        subst hvn
        go_wp2_with fail
        go_loopw [8] (fun i wr => ∃ (k : Nat), k ≤ v.m ∧ i = .int .i64 k ∧ Hid (Below w3.heap.size w3 wr) ∧ Hid (∀ (i : Nat) p q, i < k → v.l[i]? = some p → (pts m.l a.tr)[i]? = some q → fit m.l p q)) (fun i _ => v.m - (intOf i).toNat)
        case atStart => exact ⟨0, by omega, rfl, Lib.hid (Below.refl _ _), Lib.hid (fun i p q h => absurd h (Nat.not_lt_zero i))⟩
        case round =>
          obtain ⟨k, hk, rfl, HBr, HT⟩ := hrel
          clear y1
          have HBW := Lib.hid (HB3.out.trans (HBr.out.mono HB3.out.size))
          by_cases hkn : k < v.m
          · obtain ⟨y, hy⟩ : ∃ y, LP[k]? = some y := ⟨_, List.getElem?_eq_getElem (by have := HOP.out.num; omega)⟩
            obtain ⟨t, ht⟩ : ∃ t, (pts m.l a.tr)[k]? = some t := ⟨_, List.getElem?_eq_getElem (by have := HN.out; omega)⟩
            have hyt : y.tr = t := by
              have h := HLP.out
              rw [← h, List.getElem?_map, hy] at ht
              exact Option.some.inj ht
            obtain ⟨u, hu⟩ : ∃ u, v.l[k]? = some u := ⟨_, List.getElem?_eq_getElem (by have := HVL.out; omega)⟩
            obtain ⟨b4, o4, z, hav, hbv, hkv, hzt, hzr, z0, z1⟩ := vkid HVR.out HBW.out hu
            have HT1 := Lib.hid ht; have HU1 := Lib.hid hu; have HAV := Lib.hid hav
            have htm := List.mem_of_getElem? ht
            have hdt : Dp m.l f t := HDP.out t htm
            have hot : Ok m.l t := HOK.out.pts t htm
            have hyr := HRP.out y (List.mem_of_getElem? hy)
            have hkq : ∀ V, Below wr.heap.size wr V → V.cell? ⟨w.heap.size, 0, none⟩ = some (.int .i64 m.x.k) ∧ V.cell? ⟨w.heap.size, 3, none⟩ = some (.slice m.a m.m m.c) ∧ V.cell? ⟨w.heap.size, 1, none⟩ = some (.int .i64 m.x.n) ∧ V.cell? ⟨w.heap.size, 2, none⟩ = some (.string m.x.s) ∧ V.cell? ⟨w.heap.size, 4, none⟩ = some (.int .i64 m.x.f) ∧ V.cell? ⟨w.heap.size, 5, none⟩ = some (.int .i64 m.x.t) ∧ V.cell? ⟨gp, k * 6, none⟩ = some (.int .i64 y.x.k) ∧ V.cell? ⟨gp, k * 6 + 3, none⟩ = some (.slice y.a y.m y.c) ∧ V.cell? ⟨gp, k * 6 + 1, none⟩ = some (.int .i64 y.x.n) ∧ V.cell? ⟨gp, k * 6 + 2, none⟩ = some (.string y.x.s) ∧ V.cell? ⟨gp, k * 6 + 4, none⟩ = some (.int .i64 y.x.f) ∧ V.cell? ⟨gp, k * 6 + 5, none⟩ = some (.int .i64 y.x.t) ∧ V.cell? ⟨w.heap.size + 1 + 1, 1, none⟩ = some (.slice (some ⟨b4, o4, none⟩) v.m v.c) ∧ V.cell? ⟨b4, o4 + k * 2, none⟩ = some (.int .i64 z.x) ∧ V.cell? ⟨b4, o4 + k * 2 + 1, none⟩ = some (.slice z.a z.m z.c) := fun V hV => by
              have hb3 : Below w3.heap.size w3 V := HBr.out.trans (hV.mono HBr.out.size)
              have hm2 := HM3.out.below hb3; have hy2 := HY3.out.below hb3
              obtain ⟨y0, y3, y1, y2, y4, y5⟩ := OwnT.six (OwnS.below HOP.out hb3) hy
              have ez : ∀ j : Nat, V.cell? ⟨b4, j, none⟩ = wr.cell? ⟨b4, j, none⟩ := fun j => hV.cell (p := ⟨b4, j, none⟩) (by show b4 < _; have := HBW.out.size; omega)
              have m0 := hm2.cell 0; have m1 := hm2.cell 1; have m2 := hm2.cell 2; have m3 := hm2.cell 3; have m4 := hm2.cell 4; have m5 := hm2.cell 5
              have v1 := hy2.cell 1
              simp at m0 m1 m2 m3 m4 m5 v1
              rw [hav] at v1
              exact ⟨m0, m3, m1, m2, m4, m5, y0, y3, y1, y2, y4, y5, v1, by rw [ez]; exact z0, by rw [ez]; exact z1⟩
            have KQ := Lib.hid hkq
            have D0 : Hid (Below wr.heap.size wr wr.drew) := Lib.hid (Below.drew (Below.refl _ _))
            have HFC := Lib.hid (fun (U : World) (hU : Below wr.heap.size wr U) => show Calls Try.prog 13 #[(.agg #[.int .i64 m.x.k, .int .i64 m.x.n, .string m.x.s, .slice m.a m.m m.c, .int .i64 m.x.f, .int .i64 m.x.t]), (.agg #[.int .i64 y.x.k, .int .i64 y.x.n, .string y.x.s, .slice y.a y.m y.c, .int .i64 y.x.f, .int .i64 y.x.t]), (.agg #[.int .i64 z.x, .slice z.a z.m z.c])] U (BP (fit m.l u t) U) from by
              have hwU : Below w.heap.size w U := HBW.out.trans (hU.mono HBW.out.size)
              have h := HIH.out y z U (hyr.below hwU) (HMR.out.below hwU) (hzr.below hwU) (by rw [hyt]; exact hot) (by rw [hyt]; exact hdt)
              rw [hyt, hzt] at h
              exact h)
            have g0 : decide ((v.m : Int) ≤ (k : Int)) = false := decide_eq_false (by omega)
            have g1 : decide (v.m ≤ k) = false := decide_eq_false (by omega)
            have g3 : decide ((k : Int) < 0) = false := decide_eq_false (by omega)
            have hkn' : (k : Int) < (v.m : Int) := by omega
            clear hkq ht htm hdt hot hyr hyt hy hav hzt hzr hu z0 z1
            go_wp2_with fail
            go_region_held3 (fun V => V.cell? ⟨w.heap.size, 0, none⟩ = some (.int .i64 m.x.k) ∧ V.cell? ⟨w.heap.size, 3, none⟩ = some (.slice m.a m.m m.c) ∧ V.cell? ⟨w.heap.size, 1, none⟩ = some (.int .i64 m.x.n) ∧ V.cell? ⟨w.heap.size, 2, none⟩ = some (.string m.x.s) ∧ V.cell? ⟨w.heap.size, 4, none⟩ = some (.int .i64 m.x.f) ∧ V.cell? ⟨w.heap.size, 5, none⟩ = some (.int .i64 m.x.t) ∧ V.cell? ⟨gp, k * 6, none⟩ = some (.int .i64 y.x.k) ∧ V.cell? ⟨gp, k * 6 + 3, none⟩ = some (.slice y.a y.m y.c) ∧ V.cell? ⟨gp, k * 6 + 1, none⟩ = some (.int .i64 y.x.n) ∧ V.cell? ⟨gp, k * 6 + 2, none⟩ = some (.string y.x.s) ∧ V.cell? ⟨gp, k * 6 + 4, none⟩ = some (.int .i64 y.x.f) ∧ V.cell? ⟨gp, k * 6 + 5, none⟩ = some (.int .i64 y.x.t) ∧ V.cell? ⟨w.heap.size + 1 + 1, 1, none⟩ = some (.slice (some ⟨b4, o4, none⟩) v.m v.c) ∧ V.cell? ⟨b4, o4 + k * 2, none⟩ = some (.int .i64 z.x) ∧ V.cell? ⟨b4, o4 + k * 2 + 1, none⟩ = some (.slice z.a z.m z.c))
              (with_reducible first | exact KQ.out _ D0.out | exact KQ.out _ DB.out)
              (first
                | (go_at_call 13; (with_reducible refine (HFC.out _ D0.out).mono ?_); rintro e wb ⟨r, rfl, hrr, hbb⟩; have HRR := hrr; have DB : Hid (Below wr.heap.size wr wb) := Lib.hid (D0.out.trans (hbb.mono D0.out.size)); clear hrr hbb))
            have HBB := Lib.hid (HBr.out.trans (DB.out.mono HBr.out.size))
            have HBX := Lib.hid (HB3.out.trans (HBB.out.mono HB3.out.size))
            clear KQ HFC
            cases r with
            | false =>
              have hnf := fit_less (v := v) HU1.out HT1.out (fun h => Bool.noConfusion (HRR.out.2 h))
              have HNF := Lib.hid hnf
              clear hnf
              go_wp2
              go_ret
              exact ⟨false, rfl, Lib.hid (ff HNF.out), HBX.out⟩
            | true =>
              have hft := HRR.out.1 rfl
              have hT2 : ∀ (i : Nat) p q, i < k + 1 → v.l[i]? = some p → (pts m.l a.tr)[i]? = some q → fit m.l p q := fun i p q hi hp hq => by
                rcases Nat.lt_or_ge i k with h | h
                · exact HT.out i p q h hp hq
                · have : i = k := by omega
                  subst this
                  rw [HU1.out] at hp; cases hp
                  rw [HT1.out] at hq; cases hq
                  exact hft
              have HT2 := Lib.hid hT2
              clear hft hT2
              go_wp2
              go_roundw
              case rel => exact ⟨k + 1, by omega, by go_num, HBB, HT2⟩
              case measure => simp [intOf]; omega
          · have hke : k = v.m := by omega
            subst hke
            have hf := fit_all (v := v) (t := a.tr) HCN.out HVL.out HN.out (fun i p q hp hq => HT.out i p q (by have := (List.getElem?_eq_some_iff.1 hp).1; have := HVL.out; omega) hp hq)
            have HF := Lib.hid hf
            clear hf
            go_wp2
            go_ret
            exact ⟨true, rfl, Lib.hid (tt HF.out), HBW.out⟩
      · have c0' : ((np : Int) != (v.m : Int)) = true := by rw [bne_iff_ne]; omega
        have hnf : ¬ fit m.l v.tr a.tr := fit_len HN.out (by have := HVL.out; omega)
        have HNF := Lib.hid hnf
        clear hvn hnf
        go_wp2
        go_ret
        exact ⟨false, rfl, Lib.hid (ff HNF.out), HB3.out⟩
end Go.Proofs.Ytpdicfekhghfeaa.zf
