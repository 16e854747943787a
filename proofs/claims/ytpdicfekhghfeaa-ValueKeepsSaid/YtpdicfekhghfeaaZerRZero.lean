/-
  Layer 19: the document's Zero.
-/
import Derived.Test.YtpdicfekhghfeaaZerRParts
import Derived.Test.YtpdicfekhghfeaaZerLoop
import Derived.Test.YtpdicfekhghfeaaZerZero
import Derived.Test.YtpdicfekhghfeaaTypRefC
import Derived.Deep.RegionHeldLaw
namespace Go.Proofs.Ytpdicfekhghfeaa.zf
open Go.ChangeShapes Go.WideShapes Go.ChangeAt Go.RowKit
open bs tr te ty
open va (Frst OwnV)
set_option linter.unusedVariables false

def RzP (m : te.Vn) (f : Nat) : Prop := ∀ (a : te.Vn) (w : World), a.Rd w → m.Rd w → Ok m.l a.tr → Dp m.l f a.tr → Calls Try.prog 10 #[m.val, a.val] w (ZPost (zr m.l f a.tr) w)

set_option maxRecDepth 100000 in
set_option maxHeartbeats 4000000 in
theorem rz_step (m : te.Vn) (hN : m.l.length ≤ 1000000) (hM : ∀ d ∈ m.l, d.kids.length ≤ 1000) (f : Nat) (ih : RzP m f) : RzP m (f + 1) := by
  intro a w ha hm hok hdp
  have hW : Below w.heap.size w ((((w.alloc (.cells #[.int .i64 m.x.k, .int .i64 m.x.n, .string m.x.s, .slice m.a m.m m.c, .int .i64 m.x.f, .int .i64 m.x.t] 24)).alloc (.cells #[.int .i64 a.x.k, .int .i64 a.x.n, .string a.x.s, .slice a.a a.m a.c, .int .i64 a.x.f, .int .i64 a.x.t] 24)).alloc (.cells #[.int .i64 0, .slice none 0 0] 27)).alloc (.cells #[.int .i64 0, .slice none 0 0] 27)) := ((((Below.refl _ _).alloc (Nat.le_refl _) _).alloc (by simp only [te.size_alloc]; omega) _).alloc (by simp only [te.size_alloc]; omega) _).alloc (by simp only [te.size_alloc]; omega) _
  have hM1 : VB ((((w.alloc (.cells #[.int .i64 m.x.k, .int .i64 m.x.n, .string m.x.s, .slice m.a m.m m.c, .int .i64 m.x.f, .int .i64 m.x.t] 24)).alloc (.cells #[.int .i64 a.x.k, .int .i64 a.x.n, .string a.x.s, .slice a.a a.m a.c, .int .i64 a.x.f, .int .i64 a.x.t] 24)).alloc (.cells #[.int .i64 0, .slice none 0 0] 27)).alloc (.cells #[.int .i64 0, .slice none 0 0] 27)) w.heap.size m := (((vb_new w m).below (below_alloc _ _)).below (below_alloc _ _)).below (below_alloc _ _)
  have hX : VB ((((w.alloc (.cells #[.int .i64 m.x.k, .int .i64 m.x.n, .string m.x.s, .slice m.a m.m m.c, .int .i64 m.x.f, .int .i64 m.x.t] 24)).alloc (.cells #[.int .i64 a.x.k, .int .i64 a.x.n, .string a.x.s, .slice a.a a.m a.c, .int .i64 a.x.f, .int .i64 a.x.t] 24)).alloc (.cells #[.int .i64 0, .slice none 0 0] 27)).alloc (.cells #[.int .i64 0, .slice none 0 0] 27)) (w.heap.size + 1) a := by
    have := ((vb_new (w.alloc (.cells #[.int .i64 m.x.k, .int .i64 m.x.n, .string m.x.s, .slice m.a m.m m.c, .int .i64 m.x.f, .int .i64 m.x.t] 24)) a).below (below_alloc _ (.cells #[.int .i64 0, .slice none 0 0] 27))).below (below_alloc _ (.cells #[.int .i64 0, .slice none 0 0] 27))
    rwa [te.size_alloc] at this
  have hY : Blk ((((w.alloc (.cells #[.int .i64 m.x.k, .int .i64 m.x.n, .string m.x.s, .slice m.a m.m m.c, .int .i64 m.x.f, .int .i64 m.x.t] 24)).alloc (.cells #[.int .i64 a.x.k, .int .i64 a.x.n, .string a.x.s, .slice a.a a.m a.c, .int .i64 a.x.f, .int .i64 a.x.t] 24)).alloc (.cells #[.int .i64 0, .slice none 0 0] 27)).alloc (.cells #[.int .i64 0, .slice none 0 0] 27)) (w.heap.size + 1 + 1) #[.int .i64 0, .slice none 0 0] 27 := by
    have := (Blk.new ((w.alloc (.cells #[.int .i64 m.x.k, .int .i64 m.x.n, .string m.x.s, .slice m.a m.m m.c, .int .i64 m.x.f, .int .i64 m.x.t] 24)).alloc (.cells #[.int .i64 a.x.k, .int .i64 a.x.n, .string a.x.s, .slice a.a a.m a.c, .int .i64 a.x.f, .int .i64 a.x.t] 24)) #[.int .i64 0, .slice none 0 0] 27).below (below_alloc _ (.cells #[.int .i64 0, .slice none 0 0] 27))
    rwa [te.size_alloc, te.size_alloc] at this
  have hZ : Blk ((((w.alloc (.cells #[.int .i64 m.x.k, .int .i64 m.x.n, .string m.x.s, .slice m.a m.m m.c, .int .i64 m.x.f, .int .i64 m.x.t] 24)).alloc (.cells #[.int .i64 a.x.k, .int .i64 a.x.n, .string a.x.s, .slice a.a a.m a.c, .int .i64 a.x.f, .int .i64 a.x.t] 24)).alloc (.cells #[.int .i64 0, .slice none 0 0] 27)).alloc (.cells #[.int .i64 0, .slice none 0 0] 27)) (w.heap.size + 1 + 1 + 1) #[.int .i64 0, .slice none 0 0] 27 := by
    have := Blk.new (((w.alloc (.cells #[.int .i64 m.x.k, .int .i64 m.x.n, .string m.x.s, .slice m.a m.m m.c, .int .i64 m.x.f, .int .i64 m.x.t] 24)).alloc (.cells #[.int .i64 a.x.k, .int .i64 a.x.n, .string a.x.s, .slice a.a a.m a.c, .int .i64 a.x.f, .int .i64 a.x.t] 24)).alloc (.cells #[.int .i64 0, .slice none 0 0] 27)) #[.int .i64 0, .slice none 0 0] 27
    rwa [te.size_alloc, te.size_alloc, te.size_alloc] at this
  have hws : ((((w.alloc (.cells #[.int .i64 m.x.k, .int .i64 m.x.n, .string m.x.s, .slice m.a m.m m.c, .int .i64 m.x.f, .int .i64 m.x.t] 24)).alloc (.cells #[.int .i64 a.x.k, .int .i64 a.x.n, .string a.x.s, .slice a.a a.m a.c, .int .i64 a.x.f, .int .i64 a.x.t] 24)).alloc (.cells #[.int .i64 0, .slice none 0 0] 27)).alloc (.cells #[.int .i64 0, .slice none 0 0] 27)).heap.size = w.heap.size + 4 := by simp only [te.size_alloc]
  have hc : ce m.l m.l.length a.tr ≠ 0 := by have := hok; unfold Ok at this; omega
  obtain ⟨c0, hc0⟩ : ∃ c0, ce m.l m.l.length a.tr = c0 := ⟨_, rfl⟩
  rw [hc0] at hc
  have HC0 := Lib.hid hc0
  have HW := Lib.hid hW; have HX := Lib.hid hX; have HY := Lib.hid hY; have HZ := Lib.hid hZ; have HWS := Lib.hid hws; have HMB := Lib.hid hM1
  have HV := Lib.hid ha; have HMR := Lib.hid hm
  have hg := hok.gd
  have HG := Lib.hid hg; have HOK := Lib.hid hok; have HDP := Lib.hid hdp; have HIH := Lib.hid ih; have HK := Lib.hid hM
  have hlen := pts_len' hg hM
  obtain ⟨n, hn⟩ : ∃ n, (pts m.l a.tr).length = n := ⟨_, rfl⟩
  rw [hn] at hlen
  have HN := Lib.hid hn
  have hzr : zr m.l (f + 1) a.tr = .mk 0 ((pts m.l a.tr).map (zr m.l f)) := rfl
  have HZR := Lib.hid hzr
  have e0 : ((c0 : Int) == 0) = false := by rw [beq_eq_false_iff_ne]; omega
  clear hW hX hY hZ hws ha hm hok hdp ih hg hn hzr hM hM1 hc hc0
  unfold te.Vn.val
  go_enter Try.func10, Try.ntmps10
  go_upto_region 2 with fail
  generalize hWW : ((((w.alloc (.cells #[.int .i64 m.x.k, .int .i64 m.x.n, .string m.x.s, .slice m.a m.m m.c, .int .i64 m.x.f, .int .i64 m.x.t] 24)).alloc (.cells #[.int .i64 a.x.k, .int .i64 a.x.n, .string a.x.s, .slice a.a a.m a.c, .int .i64 a.x.f, .int .i64 a.x.t] 24)).alloc (.cells #[.int .i64 0, .slice none 0 0] 27)).alloc (.cells #[.int .i64 0, .slice none 0 0] 27)) = W at HW HX HY HZ HWS HMB ⊢
  clear hWW
  go_wp2_with (first | (refine wpList_load_T rfl _ rfl rfl HMB.out ?_) | (refine wpList_load_T rfl _ rfl rfl HX.out ?_))
  refine (rcells_any m a W (HMR.out.below HW.out) (HV.out.below HW.out) hN).mono ?_
  rintro e w2 ⟨rfl, hb2⟩
  rw [HC0.out]
  have HB2 := Lib.hid (HW.out.trans (hb2.mono HW.out.size)); have HX2 := Lib.hid (HX.out.below hb2); have HY2 := Lib.hid (HY.out.below hb2); have HZ2 := Lib.hid (HZ.out.below hb2); have HM2 := Lib.hid (HMB.out.below hb2)
  have hs2 : w.heap.size + 4 ≤ w2.heap.size := by have h1 := hb2.size; have h2 := HWS.out; omega
  clear hb2 HX HY HZ HMB
  go_wp2_with (first | (refine wpList_load_T rfl _ rfl rfl HM2.out ?_) | (refine wpList_load_T rfl _ rfl rfl HX2.out ?_))
  refine (rparts_any m a w w2 HB2.out HMR.out HV.out HG.out HK.out).mono ?_
  rintro e w3 ⟨gp, np, cp, LP, rfl, hgp, hop, hlp, hrp, hb3⟩
  have hnp : np = n := by rw [← hop.num, ← HN.out, ← hlp, List.length_map]
  subst hnp
  have HB3 := Lib.hid (HB2.out.trans (hb3.mono HB2.out.size)); have HX3 := Lib.hid (HX2.out.below hb3); have HY3 := Lib.hid (HY2.out.below hb3); have HM3 := Lib.hid (HM2.out.below hb3)
  have HL3 := Lib.hid (LZ.start (B := w3.heap.size) (HZ2.out.below hb3))
  have hs3 : w.heap.size + 4 ≤ w3.heap.size := Nat.le_trans hs2 hb3.size
  have HOP := Lib.hid hop; have HLP := Lib.hid hlp; have HRP := Lib.hid hrp
  have hgp4 : w.heap.size + 4 ≤ gp := by omega
  have hgp3 : gp < w3.heap.size := by
    rcases hop.cases with ⟨h, _⟩ | ⟨g, h, _, hg, _⟩
    · cases h
    · cases h; exact hg
  have hpc : np ≤ cp ∧ cp ≤ 9223372036854775807 := by
    rcases hop.cases with ⟨h, _⟩ | ⟨g, h, _, _, h1, h2⟩
    · cases h
    · unfold maxLen at h2; omega
  have hpc1 := hpc.1; have hpc2 := hpc.2
  clear hb3 hop hlp hrp HX2 HY2 HZ2 HM2 hgp hpc
  go_wp2_with fail
  go_loopw [7] (fun i wr => ∃ (k : Nat) (b : Option Addr) (c' : Nat) (L : List va.Vn), k ≤ np ∧ i = .int .i64 k ∧ Hid (Below w.heap.size w wr) ∧ Hid (VB wr w.heap.size m) ∧ Hid (Blk wr (w.heap.size + 1 + 1) #[.int .i64 0, .slice none 0 0] 27) ∧ w3.heap.size ≤ wr.heap.size ∧ Hid (OwnT wr w2.heap.size (some ⟨gp, 0, none⟩) np cp LP) ∧ Hid (LZ w3.heap.size (w.heap.size + 1 + 1 + 1) wr k b c' L) ∧ Hid (L.map va.Vn.tr = ((pts m.l a.tr).take k).map (zr m.l f))) (fun i _ => np - (intOf i).toNat)
  case atStart => exact ⟨0, none, 0, [], by omega, rfl, HB3, HM3, HY3, Nat.le_refl _, HOP, HL3, Lib.hid rfl⟩
  case round =>
    obtain ⟨k, b, c', L, hk, rfl, HBr, HMr, HYr, hwr3, HOr, HLr, HT⟩ := hrel
    clear HB3 HX3 HY3 HM3 HL3 HOP
    by_cases hkn : k < np
    · obtain ⟨y, hy⟩ : ∃ y, LP[k]? = some y := ⟨_, List.getElem?_eq_getElem (by have := HOr.out.num; omega)⟩
      obtain ⟨t, ht⟩ : ∃ t, (pts m.l a.tr)[k]? = some t := ⟨_, List.getElem?_eq_getElem (by have := HN.out; omega)⟩
      have hyt : y.tr = t := by
        have h := HLP.out
        rw [← h, List.getElem?_map, hy] at ht
        exact Option.some.inj ht
      have HTK := Lib.hid ht
      have htm := List.mem_of_getElem? ht
      have hdt : Dp m.l f t := HDP.out t htm
      have hot : Ok m.l t := HOK.out.pts t htm
      have hyr := HRP.out y (List.mem_of_getElem? hy)
      have hkq : ∀ V : World, (∀ i, (i = w.heap.size ∨ i = gp) → V.heap[i]? = wr.heap[i]?) → V.cell? ⟨w.heap.size, 0, none⟩ = some (.int .i64 m.x.k) ∧ V.cell? ⟨w.heap.size, 3, none⟩ = some (.slice m.a m.m m.c) ∧ V.cell? ⟨w.heap.size, 1, none⟩ = some (.int .i64 m.x.n) ∧ V.cell? ⟨w.heap.size, 2, none⟩ = some (.string m.x.s) ∧ V.cell? ⟨w.heap.size, 4, none⟩ = some (.int .i64 m.x.f) ∧ V.cell? ⟨w.heap.size, 5, none⟩ = some (.int .i64 m.x.t) ∧ V.cell? ⟨gp, k * 6, none⟩ = some (.int .i64 y.x.k) ∧ V.cell? ⟨gp, k * 6 + 3, none⟩ = some (.slice y.a y.m y.c) ∧ V.cell? ⟨gp, k * 6 + 1, none⟩ = some (.int .i64 y.x.n) ∧ V.cell? ⟨gp, k * 6 + 2, none⟩ = some (.string y.x.s) ∧ V.cell? ⟨gp, k * 6 + 4, none⟩ = some (.int .i64 y.x.f) ∧ V.cell? ⟨gp, k * 6 + 5, none⟩ = some (.int .i64 y.x.t) := fun V hV => by
        have hm2 : VB V w.heap.size m := HMr.out.of (hV w.heap.size (.inl rfl))
        obtain ⟨y0, y3, y1, y2, y4, y5⟩ := OwnT.six HOr.out hy
        have e : ∀ j : Nat, V.cell? ⟨gp, j, none⟩ = wr.cell? ⟨gp, j, none⟩ := fun j => World.cell?_of_block (w := wr) (a := ⟨gp, j, none⟩) (hV gp (.inr rfl))
        have m0 := hm2.cell 0; have m1 := hm2.cell 1; have m2 := hm2.cell 2; have m3 := hm2.cell 3; have m4 := hm2.cell 4; have m5 := hm2.cell 5
        simp at m0 m1 m2 m3 m4 m5
        exact ⟨m0, m3, m1, m2, m4, m5, by rw [e]; exact y0, by rw [e]; exact y3, by rw [e]; exact y1, by rw [e]; exact y2, by rw [e]; exact y4, by rw [e]; exact y5⟩
      have hkB : ∀ V, Below w3.heap.size wr V → V.cell? ⟨w.heap.size, 0, none⟩ = some (.int .i64 m.x.k) ∧ V.cell? ⟨w.heap.size, 3, none⟩ = some (.slice m.a m.m m.c) ∧ V.cell? ⟨w.heap.size, 1, none⟩ = some (.int .i64 m.x.n) ∧ V.cell? ⟨w.heap.size, 2, none⟩ = some (.string m.x.s) ∧ V.cell? ⟨w.heap.size, 4, none⟩ = some (.int .i64 m.x.f) ∧ V.cell? ⟨w.heap.size, 5, none⟩ = some (.int .i64 m.x.t) ∧ V.cell? ⟨gp, k * 6, none⟩ = some (.int .i64 y.x.k) ∧ V.cell? ⟨gp, k * 6 + 3, none⟩ = some (.slice y.a y.m y.c) ∧ V.cell? ⟨gp, k * 6 + 1, none⟩ = some (.int .i64 y.x.n) ∧ V.cell? ⟨gp, k * 6 + 2, none⟩ = some (.string y.x.s) ∧ V.cell? ⟨gp, k * 6 + 4, none⟩ = some (.int .i64 y.x.f) ∧ V.cell? ⟨gp, k * 6 + 5, none⟩ = some (.int .i64 y.x.t) := fun V hV => hkq V (fun i hi => hV.block i (by rcases hi with h | h <;> omega))
      have hkS : ∀ (V : World) (v : Value), Below w3.heap.size wr V → ∀ W : World, W = V.setCell ⟨w.heap.size + 1 + 1 + 1, 1, none⟩ v → W.cell? ⟨w.heap.size, 0, none⟩ = some (.int .i64 m.x.k) ∧ W.cell? ⟨w.heap.size, 3, none⟩ = some (.slice m.a m.m m.c) ∧ W.cell? ⟨w.heap.size, 1, none⟩ = some (.int .i64 m.x.n) ∧ W.cell? ⟨w.heap.size, 2, none⟩ = some (.string m.x.s) ∧ W.cell? ⟨w.heap.size, 4, none⟩ = some (.int .i64 m.x.f) ∧ W.cell? ⟨w.heap.size, 5, none⟩ = some (.int .i64 m.x.t) ∧ W.cell? ⟨gp, k * 6, none⟩ = some (.int .i64 y.x.k) ∧ W.cell? ⟨gp, k * 6 + 3, none⟩ = some (.slice y.a y.m y.c) ∧ W.cell? ⟨gp, k * 6 + 1, none⟩ = some (.int .i64 y.x.n) ∧ W.cell? ⟨gp, k * 6 + 2, none⟩ = some (.string y.x.s) ∧ W.cell? ⟨gp, k * 6 + 4, none⟩ = some (.int .i64 y.x.f) ∧ W.cell? ⟨gp, k * 6 + 5, none⟩ = some (.int .i64 y.x.t) := fun V v hV W hWV => by
        subst hWV
        exact hkq _ (fun i hi => (Below.heap_setCell V ⟨w.heap.size + 1 + 1 + 1, 1, none⟩ v i (by show i ≠ w.heap.size + 1 + 1 + 1; rcases hi with h | h <;> omega)).trans (hV.block i (by rcases hi with h | h <;> omega)))
      have KB := Lib.hid hkB; have KS := Lib.hid hkS
      have hoq : ∀ V, Below w3.heap.size wr V → V.cell? ⟨w.heap.size + 1 + 1 + 1, 1, none⟩ = some (.slice b k c') ∧ V.frozen? ⟨w.heap.size + 1 + 1 + 1, 1, none⟩ = false := fun V hV => by
        have ho2 := HLr.out.out.of (w' := V) (hV.block (w.heap.size + 1 + 1 + 1) (by omega))
        have o1 := ho2.cell 1
        simp at o1
        exact ⟨o1, ho2.free 1⟩
      have OQ := Lib.hid hoq
      have o1 := (hoq wr (Below.refl _ _)).1
      have o1d := (hoq wr.drew (Below.drew (Below.refl _ _))).1
      have K0 : Hid (Below w3.heap.size wr wr.drew) := Lib.hid (Below.drew (Below.refl _ _))
      have D0 : Hid (Below wr.heap.size wr wr.drew) := Lib.hid (Below.drew (Below.refl _ _))
      have HZC := Lib.hid (fun (V : World) (hV : Below wr.heap.size wr V) => show Calls Try.prog 10 #[(.agg #[.int .i64 m.x.k, .int .i64 m.x.n, .string m.x.s, .slice m.a m.m m.c, .int .i64 m.x.f, .int .i64 m.x.t]), (.agg #[.int .i64 y.x.k, .int .i64 y.x.n, .string y.x.s, .slice y.a y.m y.c, .int .i64 y.x.f, .int .i64 y.x.t])] V (ZPost (zr m.l f t) V) from by
        have hwV : Below w.heap.size w V := HBr.out.trans (hV.mono HBr.out.size)
        have h := HIH.out y V (hyr.below hwV) (HMR.out.below hwV) (by rw [hyt]; exact hot) (by rw [hyt]; exact hdt)
        rw [hyt] at h
        exact h)
      have g0 : decide ((np : Int) ≤ (k : Int)) = false := decide_eq_false (by omega)
      have g1 : decide (np ≤ k) = false := decide_eq_false (by omega)
      have g3 : decide ((k : Int) < 0) = false := decide_eq_false (by omega)
      have hkn' : (k : Int) < (np : Int) := by omega
      clear hkq hkB hkS hoq ht htm hdt hot hyr hyt hy
      go_wp2_with fail
      refine wp_region_held_drew (S := fun V => V.cell? ⟨w.heap.size, 0, none⟩ = some (.int .i64 m.x.k) ∧ V.cell? ⟨w.heap.size, 3, none⟩ = some (.slice m.a m.m m.c) ∧ V.cell? ⟨w.heap.size, 1, none⟩ = some (.int .i64 m.x.n) ∧ V.cell? ⟨w.heap.size, 2, none⟩ = some (.string m.x.s) ∧ V.cell? ⟨w.heap.size, 4, none⟩ = some (.int .i64 m.x.f) ∧ V.cell? ⟨w.heap.size, 5, none⟩ = some (.int .i64 m.x.t) ∧ V.cell? ⟨gp, k * 6, none⟩ = some (.int .i64 y.x.k) ∧ V.cell? ⟨gp, k * 6 + 3, none⟩ = some (.slice y.a y.m y.c) ∧ V.cell? ⟨gp, k * 6 + 1, none⟩ = some (.int .i64 y.x.n) ∧ V.cell? ⟨gp, k * 6 + 2, none⟩ = some (.string y.x.s) ∧ V.cell? ⟨gp, k * 6 + 4, none⟩ = some (.int .i64 y.x.f) ∧ V.cell? ⟨gp, k * 6 + 5, none⟩ = some (.int .i64 y.x.t)) (by kernel_rfl) ?_ (fun hH0 => ?_)
      · exact KB.out _ K0.out
      refine wpAnyH_take (i := 0) (v := ?v1) rfl (by kernel_rfl) (by kernel_rfl) (by kernel_rfl) (fun _ _ _ h => h) (Or.inl ⟨by rfl, ?hy1⟩) (by assumption) ?rest1
      case hy1 => (intro w hSw; (try dsimp only at hSw); go_simp; try with_reducible rfl)
      try simp only [Act.put, List.setIfInBounds_toArray, List.set_cons_zero, List.set_cons_succ]
      refine wpAnyH_take (i := 2) (v := ?v2) rfl (by kernel_rfl) (by kernel_rfl) (by kernel_rfl) (fun _ _ _ h => h) (Or.inl ⟨by rfl, ?hy2⟩) (by assumption) ?rest2
      case hy2 => (intro w hSw; (try dsimp only at hSw); go_simp; try with_reducible rfl)
      try simp only [Act.put, List.setIfInBounds_toArray, List.set_cons_zero, List.set_cons_succ]
      refine wpAnyH_take (i := 3) (v := ?v3) rfl (by kernel_rfl) (by kernel_rfl) (by kernel_rfl) (fun _ _ _ h => h) (Or.inl ⟨by rfl, ?hy3⟩) (by assumption) ?rest3
      case hy3 => (intro w hSw; (try dsimp only at hSw); go_simp; try with_reducible rfl)
      try simp only [Act.put, List.setIfInBounds_toArray, List.set_cons_zero, List.set_cons_succ]
      refine wpAnyH_take (i := 4) (v := ?v4) rfl (by kernel_rfl) (by kernel_rfl) (by kernel_rfl) (fun _ _ _ h => h) (Or.inl ⟨by rfl, ?hy4⟩) (by assumption) ?rest4
      case hy4 => (intro w hSw; (try dsimp only at hSw); go_simp; try with_reducible rfl)
      try simp only [Act.put, List.setIfInBounds_toArray, List.set_cons_zero, List.set_cons_succ]
      refine wpAnyH_take (i := 5) (v := ?v5) rfl (by kernel_rfl) (by kernel_rfl) (by kernel_rfl) (fun _ _ _ h => h) (Or.inl ⟨by rfl, ?hy5⟩) (by assumption) ?rest5
      case hy5 => (intro w hSw; (try dsimp only at hSw); go_simp; try with_reducible rfl)
      try simp only [Act.put, List.setIfInBounds_toArray, List.set_cons_zero, List.set_cons_succ]
      refine wpAnyH_take (i := 6) (v := ?v6) rfl (by kernel_rfl) (by kernel_rfl) (by kernel_rfl) (fun _ _ _ h => h) (Or.inl ⟨by rfl, ?hy6⟩) (by assumption) ?rest6
      case hy6 => (intro w hSw; (try dsimp only at hSw); go_simp; try with_reducible rfl)
      try simp only [Act.put, List.setIfInBounds_toArray, List.set_cons_zero, List.set_cons_succ]
      refine wpAnyH_ready (rs := [1, 7]) (by kernel_rfl) (by simp) ?_
      refine AllReadyH.cons rfl (fun K hK => ?_) ?_
      · skip
        go_simp
        refine hK.out _ _ ?_ (fun hH1 => ?_)
        · exact hH0
        clear hK K hH0
        refine wpAnyH_ready (rs := [7]) (by kernel_rfl) (by simp) ?_
        refine AllReadyH.cons rfl (fun K hK => ?_) ?_
        · skip
          go_simp
          go_wp2_with (go_at_call 10; (with_reducible refine (HZC.out _ D0.out).mono ?_); rintro e wb ⟨x, rfl, hxt, hxr, hbb⟩; have HXT := Lib.hid hxt; have DB : Hid (Below wr.heap.size wr wb) := Lib.hid (D0.out.trans (hbb.mono D0.out.size)); have HXR := Lib.hid (va.Vn.Rs.apart (B0 := 0) (H := w3.heap.size) HLr.out.fr.own (Nat.zero_le _) hwr3 (hxr.weak (fun i _ h => h.imp id (fun h => Nat.le_trans D0.out.size h)))); have KX : Hid (Below w3.heap.size wr wb) := Lib.hid (DB.out.mono hwr3); have DC : Hid (Below wr.heap.size wr (wb.alloc (.cells #[.int .i64 x.x, .slice x.a x.m x.c] 27))) := Lib.hid (DB.out.alloc DB.out.size _); have KC : Hid (Below w3.heap.size wr (wb.alloc (.cells #[.int .i64 x.x, .slice x.a x.m x.c] 27))) := Lib.hid (DC.out.mono hwr3); have ob := (OQ.out _ KX.out).1; have oc := (OQ.out _ KC.out).1; clear hxt hxr hbb)
          refine hK.out _ _ ?_ (fun hH2 => ?_)
          · exact KB.out _ KX.out
          clear hK K hH1
          refine wpAnyH_ready (rs := [8]) (by kernel_rfl) (by simp) ?_
          refine AllReadyH.cons rfl (fun K hK => ?_) ?_
          · skip
            go_simp
            refine hK.out _ _ ?_ (fun hH3 => ?_)
            · exact KB.out _ KC.out
            clear hK K hH2
            refine wpAnyH_ready (rs := [9]) (by kernel_rfl) (by simp) ?_
            refine AllReadyH.cons rfl (fun K hK => ?_) ?_
            · skip
              refine va.step_append_v (B0 := 0) (H := w3.heap.size) (by rfl) (.tmp 24) (.tmp 31) (by rfl) w3.heap.size (by rfl) (HLr.out.fr.below DC.out) (by rfl) x (HXR.out.below (below_alloc _ _)) ?a1 (by omega) (Nat.le_trans hwr3 DC.out.size) ?_
              case a1 =>
                intro j u hj
                have hn := Blk.new wb #[.int .i64 x.x, .slice x.a x.m x.c] 27
                match j with
                | 0 => cases hj; exact hn.cell 0
                | 1 => cases hj; exact hn.cell 1
                | j + 2 => simp [va.Vn.cells] at hj
              intro a2 c2 w6 hf6 hb6
              have HF6 := Lib.hid hf6
              have K6 : Hid (Below w3.heap.size wr w6) := Lib.hid (KC.out.trans hb6)
              clear hf6 hb6
              have o6 := (OQ.out _ K6.out).1; have f6 := (OQ.out _ K6.out).2
              refine hK.out _ _ ?_ (fun hH4 => ?_)
              · exact KB.out _ K6.out
              clear hK K hH3
              refine wpAnyH_take (i := 10) (v := ?v7) rfl (by kernel_rfl) (by kernel_rfl) (by kernel_rfl) (fun _ _ _ h => h) (Or.inl ⟨by rfl, ?hy7⟩) (by assumption) ?rest7
              case hy7 => (intro w hSw; (try dsimp only at hSw); go_simp; try with_reducible rfl)
              try simp only [Act.put, List.setIfInBounds_toArray, List.set_cons_zero, List.set_cons_succ]
              refine wpAnyH_ready (rs := [11]) (by kernel_rfl) (by simp) ?_
              refine AllReadyH.cons rfl (fun K hK => ?_) ?_
              · skip
                go_simp
                refine hK.out _ _ ?_ (fun hH5 => ?_)
                · exact KS.out _ _ K6.out _ rfl
                clear hK K hH4
                refine wpAnyH_done (by kernel_rfl) ?_ _
                have hlz := LZ.next HLr.out (by omega) hwr3 HF6.out K6.out
                have hbw : Below w.heap.size w (w6.setCell ⟨w.heap.size + 1 + 1 + 1, 1, none⟩ (.slice a2 (k + 1) c2)) := (HBr.out.trans (K6.out.mono (by omega))).setCell (by show w.heap.size ≤ w.heap.size + 1 + 1 + 1; omega) _
                have hxw : VB (w6.setCell ⟨w.heap.size + 1 + 1 + 1, 1, none⟩ (.slice a2 (k + 1) c2)) w.heap.size m := (HMr.out.of (K6.out.block w.heap.size (by omega))).other _ _ (by show w.heap.size ≠ w.heap.size + 1 + 1 + 1; omega)
                have hyw : Blk (w6.setCell ⟨w.heap.size + 1 + 1 + 1, 1, none⟩ (.slice a2 (k + 1) c2)) (w.heap.size + 1 + 1) #[.int .i64 0, .slice none 0 0] 27 := (HYr.out.of (K6.out.block (w.heap.size + 1 + 1) (by omega))).other _ _ (by show w.heap.size + 1 + 1 ≠ w.heap.size + 1 + 1 + 1; omega)
                have hsw : w3.heap.size ≤ (w6.setCell ⟨w.heap.size + 1 + 1 + 1, 1, none⟩ (.slice a2 (k + 1) c2)).heap.size := by have := K6.out.size; simp [World.setCell]; omega
                have how : OwnT (w6.setCell ⟨w.heap.size + 1 + 1 + 1, 1, none⟩ (.slice a2 (k + 1) c2)) w2.heap.size (some ⟨gp, 0, none⟩) np cp LP := by
                  have hk : (w6.setCell ⟨w.heap.size + 1 + 1 + 1, 1, none⟩ (.slice a2 (k + 1) c2)).heap[gp]? = wr.heap[gp]? := (Below.heap_setCell w6 ⟨w.heap.size + 1 + 1 + 1, 1, none⟩ _ gp (by show gp ≠ w.heap.size + 1 + 1 + 1; omega)).trans (K6.out.block gp hgp3)
                  exact ownT_of HOr.out hk
                have htk : (L ++ [x]).map va.Vn.tr = ((pts m.l a.tr).take (k + 1)).map (zr m.l f) := by rw [take_next _ HTK.out, List.map_append, HT.out, ← HXT.out]; rfl
                have R1 := Lib.hid hlz; have R2 := Lib.hid hbw; have R3 := Lib.hid hxw; have R4 := Lib.hid hyw; have R5 := Lib.hid htk; have R6 := Lib.hid how
                generalize (w6.setCell ⟨w.heap.size + 1 + 1 + 1, 1, none⟩ (.slice a2 (k + 1) c2)) = w7 at R1 R2 R3 R4 R6 hsw ⊢
                clear hlz hbw hxw hyw htk how KB KS OQ HZC
                try clear o1 o1d
                try clear ob
                try clear oc
                try clear o6
                try clear f6
                go_wp2
                go_roundw
                case rel => exact ⟨k + 1, a2, c2, L ++ [x], by omega, by go_num, R2, R3, R4, hsw, R6, R1, R5⟩
                case measure => simp [intOf]; omega
              exact AllReadyH.nil
            exact AllReadyH.nil
          exact AllReadyH.nil
        exact AllReadyH.nil
      refine AllReadyH.cons rfl (fun K hK => ?_) ?_
      · skip
        go_simp
        go_wp2_with (go_at_call 10; (with_reducible refine (HZC.out _ D0.out).mono ?_); rintro e wb ⟨x, rfl, hxt, hxr, hbb⟩; have HXT := Lib.hid hxt; have DB : Hid (Below wr.heap.size wr wb) := Lib.hid (D0.out.trans (hbb.mono D0.out.size)); have HXR := Lib.hid (va.Vn.Rs.apart (B0 := 0) (H := w3.heap.size) HLr.out.fr.own (Nat.zero_le _) hwr3 (hxr.weak (fun i _ h => h.imp id (fun h => Nat.le_trans D0.out.size h)))); have KX : Hid (Below w3.heap.size wr wb) := Lib.hid (DB.out.mono hwr3); have DC : Hid (Below wr.heap.size wr (wb.alloc (.cells #[.int .i64 x.x, .slice x.a x.m x.c] 27))) := Lib.hid (DB.out.alloc DB.out.size _); have KC : Hid (Below w3.heap.size wr (wb.alloc (.cells #[.int .i64 x.x, .slice x.a x.m x.c] 27))) := Lib.hid (DC.out.mono hwr3); have ob := (OQ.out _ KX.out).1; have oc := (OQ.out _ KC.out).1; clear hxt hxr hbb)
        refine hK.out _ _ ?_ (fun hH1 => ?_)
        · exact KB.out _ KX.out
        clear hK K hH0
        refine wpAnyH_ready (rs := [1, 8]) (by kernel_rfl) (by simp) ?_
        refine AllReadyH.cons rfl (fun K hK => ?_) ?_
        · skip
          go_simp
          refine hK.out _ _ ?_ (fun hH2 => ?_)
          · exact hH1
          clear hK K hH1
          refine wpAnyH_ready (rs := [8]) (by kernel_rfl) (by simp) ?_
          refine AllReadyH.cons rfl (fun K hK => ?_) ?_
          · skip
            go_simp
            refine hK.out _ _ ?_ (fun hH3 => ?_)
            · exact KB.out _ KC.out
            clear hK K hH2
            refine wpAnyH_ready (rs := [9]) (by kernel_rfl) (by simp) ?_
            refine AllReadyH.cons rfl (fun K hK => ?_) ?_
            · skip
              refine va.step_append_v (B0 := 0) (H := w3.heap.size) (by rfl) (.tmp 24) (.tmp 31) (by rfl) w3.heap.size (by rfl) (HLr.out.fr.below DC.out) (by rfl) x (HXR.out.below (below_alloc _ _)) ?a1 (by omega) (Nat.le_trans hwr3 DC.out.size) ?_
              case a1 =>
                intro j u hj
                have hn := Blk.new wb #[.int .i64 x.x, .slice x.a x.m x.c] 27
                match j with
                | 0 => cases hj; exact hn.cell 0
                | 1 => cases hj; exact hn.cell 1
                | j + 2 => simp [va.Vn.cells] at hj
              intro a2 c2 w6 hf6 hb6
              have HF6 := Lib.hid hf6
              have K6 : Hid (Below w3.heap.size wr w6) := Lib.hid (KC.out.trans hb6)
              clear hf6 hb6
              have o6 := (OQ.out _ K6.out).1; have f6 := (OQ.out _ K6.out).2
              refine hK.out _ _ ?_ (fun hH4 => ?_)
              · exact KB.out _ K6.out
              clear hK K hH3
              refine wpAnyH_take (i := 10) (v := ?v8) rfl (by kernel_rfl) (by kernel_rfl) (by kernel_rfl) (fun _ _ _ h => h) (Or.inl ⟨by rfl, ?hy8⟩) (by assumption) ?rest8
              case hy8 => (intro w hSw; (try dsimp only at hSw); go_simp; try with_reducible rfl)
              try simp only [Act.put, List.setIfInBounds_toArray, List.set_cons_zero, List.set_cons_succ]
              refine wpAnyH_ready (rs := [11]) (by kernel_rfl) (by simp) ?_
              refine AllReadyH.cons rfl (fun K hK => ?_) ?_
              · skip
                go_simp
                refine hK.out _ _ ?_ (fun hH5 => ?_)
                · exact KS.out _ _ K6.out _ rfl
                clear hK K hH4
                refine wpAnyH_done (by kernel_rfl) ?_ _
                have hlz := LZ.next HLr.out (by omega) hwr3 HF6.out K6.out
                have hbw : Below w.heap.size w (w6.setCell ⟨w.heap.size + 1 + 1 + 1, 1, none⟩ (.slice a2 (k + 1) c2)) := (HBr.out.trans (K6.out.mono (by omega))).setCell (by show w.heap.size ≤ w.heap.size + 1 + 1 + 1; omega) _
                have hxw : VB (w6.setCell ⟨w.heap.size + 1 + 1 + 1, 1, none⟩ (.slice a2 (k + 1) c2)) w.heap.size m := (HMr.out.of (K6.out.block w.heap.size (by omega))).other _ _ (by show w.heap.size ≠ w.heap.size + 1 + 1 + 1; omega)
                have hyw : Blk (w6.setCell ⟨w.heap.size + 1 + 1 + 1, 1, none⟩ (.slice a2 (k + 1) c2)) (w.heap.size + 1 + 1) #[.int .i64 0, .slice none 0 0] 27 := (HYr.out.of (K6.out.block (w.heap.size + 1 + 1) (by omega))).other _ _ (by show w.heap.size + 1 + 1 ≠ w.heap.size + 1 + 1 + 1; omega)
                have hsw : w3.heap.size ≤ (w6.setCell ⟨w.heap.size + 1 + 1 + 1, 1, none⟩ (.slice a2 (k + 1) c2)).heap.size := by have := K6.out.size; simp [World.setCell]; omega
                have how : OwnT (w6.setCell ⟨w.heap.size + 1 + 1 + 1, 1, none⟩ (.slice a2 (k + 1) c2)) w2.heap.size (some ⟨gp, 0, none⟩) np cp LP := by
                  have hk : (w6.setCell ⟨w.heap.size + 1 + 1 + 1, 1, none⟩ (.slice a2 (k + 1) c2)).heap[gp]? = wr.heap[gp]? := (Below.heap_setCell w6 ⟨w.heap.size + 1 + 1 + 1, 1, none⟩ _ gp (by show gp ≠ w.heap.size + 1 + 1 + 1; omega)).trans (K6.out.block gp hgp3)
                  exact ownT_of HOr.out hk
                have htk : (L ++ [x]).map va.Vn.tr = ((pts m.l a.tr).take (k + 1)).map (zr m.l f) := by rw [take_next _ HTK.out, List.map_append, HT.out, ← HXT.out]; rfl
                have R1 := Lib.hid hlz; have R2 := Lib.hid hbw; have R3 := Lib.hid hxw; have R4 := Lib.hid hyw; have R5 := Lib.hid htk; have R6 := Lib.hid how
                generalize (w6.setCell ⟨w.heap.size + 1 + 1 + 1, 1, none⟩ (.slice a2 (k + 1) c2)) = w7 at R1 R2 R3 R4 R6 hsw ⊢
                clear hlz hbw hxw hyw htk how KB KS OQ HZC
                try clear o1 o1d
                try clear ob
                try clear oc
                try clear o6
                try clear f6
                go_wp2
                go_roundw
                case rel => exact ⟨k + 1, a2, c2, L ++ [x], by omega, by go_num, R2, R3, R4, hsw, R6, R1, R5⟩
                case measure => simp [intOf]; omega
              exact AllReadyH.nil
            exact AllReadyH.nil
          exact AllReadyH.nil
        refine AllReadyH.cons rfl (fun K hK => ?_) ?_
        · skip
          go_simp
          refine hK.out _ _ ?_ (fun hH2 => ?_)
          · exact KB.out _ KC.out
          clear hK K hH1
          refine wpAnyH_ready (rs := [1]) (by kernel_rfl) (by simp) ?_
          refine AllReadyH.cons rfl (fun K hK => ?_) ?_
          · skip
            go_simp
            refine hK.out _ _ ?_ (fun hH3 => ?_)
            · exact hH2
            clear hK K hH2
            refine wpAnyH_ready (rs := [9]) (by kernel_rfl) (by simp) ?_
            refine AllReadyH.cons rfl (fun K hK => ?_) ?_
            · skip
              refine va.step_append_v (B0 := 0) (H := w3.heap.size) (by rfl) (.tmp 24) (.tmp 31) (by rfl) w3.heap.size (by rfl) (HLr.out.fr.below DC.out) (by rfl) x (HXR.out.below (below_alloc _ _)) ?a1 (by omega) (Nat.le_trans hwr3 DC.out.size) ?_
              case a1 =>
                intro j u hj
                have hn := Blk.new wb #[.int .i64 x.x, .slice x.a x.m x.c] 27
                match j with
                | 0 => cases hj; exact hn.cell 0
                | 1 => cases hj; exact hn.cell 1
                | j + 2 => simp [va.Vn.cells] at hj
              intro a2 c2 w6 hf6 hb6
              have HF6 := Lib.hid hf6
              have K6 : Hid (Below w3.heap.size wr w6) := Lib.hid (KC.out.trans hb6)
              clear hf6 hb6
              have o6 := (OQ.out _ K6.out).1; have f6 := (OQ.out _ K6.out).2
              refine hK.out _ _ ?_ (fun hH4 => ?_)
              · exact KB.out _ K6.out
              clear hK K hH3
              refine wpAnyH_take (i := 10) (v := ?v9) rfl (by kernel_rfl) (by kernel_rfl) (by kernel_rfl) (fun _ _ _ h => h) (Or.inl ⟨by rfl, ?hy9⟩) (by assumption) ?rest9
              case hy9 => (intro w hSw; (try dsimp only at hSw); go_simp; try with_reducible rfl)
              try simp only [Act.put, List.setIfInBounds_toArray, List.set_cons_zero, List.set_cons_succ]
              refine wpAnyH_ready (rs := [11]) (by kernel_rfl) (by simp) ?_
              refine AllReadyH.cons rfl (fun K hK => ?_) ?_
              · skip
                go_simp
                refine hK.out _ _ ?_ (fun hH5 => ?_)
                · exact KS.out _ _ K6.out _ rfl
                clear hK K hH4
                refine wpAnyH_done (by kernel_rfl) ?_ _
                have hlz := LZ.next HLr.out (by omega) hwr3 HF6.out K6.out
                have hbw : Below w.heap.size w (w6.setCell ⟨w.heap.size + 1 + 1 + 1, 1, none⟩ (.slice a2 (k + 1) c2)) := (HBr.out.trans (K6.out.mono (by omega))).setCell (by show w.heap.size ≤ w.heap.size + 1 + 1 + 1; omega) _
                have hxw : VB (w6.setCell ⟨w.heap.size + 1 + 1 + 1, 1, none⟩ (.slice a2 (k + 1) c2)) w.heap.size m := (HMr.out.of (K6.out.block w.heap.size (by omega))).other _ _ (by show w.heap.size ≠ w.heap.size + 1 + 1 + 1; omega)
                have hyw : Blk (w6.setCell ⟨w.heap.size + 1 + 1 + 1, 1, none⟩ (.slice a2 (k + 1) c2)) (w.heap.size + 1 + 1) #[.int .i64 0, .slice none 0 0] 27 := (HYr.out.of (K6.out.block (w.heap.size + 1 + 1) (by omega))).other _ _ (by show w.heap.size + 1 + 1 ≠ w.heap.size + 1 + 1 + 1; omega)
                have hsw : w3.heap.size ≤ (w6.setCell ⟨w.heap.size + 1 + 1 + 1, 1, none⟩ (.slice a2 (k + 1) c2)).heap.size := by have := K6.out.size; simp [World.setCell]; omega
                have how : OwnT (w6.setCell ⟨w.heap.size + 1 + 1 + 1, 1, none⟩ (.slice a2 (k + 1) c2)) w2.heap.size (some ⟨gp, 0, none⟩) np cp LP := by
                  have hk : (w6.setCell ⟨w.heap.size + 1 + 1 + 1, 1, none⟩ (.slice a2 (k + 1) c2)).heap[gp]? = wr.heap[gp]? := (Below.heap_setCell w6 ⟨w.heap.size + 1 + 1 + 1, 1, none⟩ _ gp (by show gp ≠ w.heap.size + 1 + 1 + 1; omega)).trans (K6.out.block gp hgp3)
                  exact ownT_of HOr.out hk
                have htk : (L ++ [x]).map va.Vn.tr = ((pts m.l a.tr).take (k + 1)).map (zr m.l f) := by rw [take_next _ HTK.out, List.map_append, HT.out, ← HXT.out]; rfl
                have R1 := Lib.hid hlz; have R2 := Lib.hid hbw; have R3 := Lib.hid hxw; have R4 := Lib.hid hyw; have R5 := Lib.hid htk; have R6 := Lib.hid how
                generalize (w6.setCell ⟨w.heap.size + 1 + 1 + 1, 1, none⟩ (.slice a2 (k + 1) c2)) = w7 at R1 R2 R3 R4 R6 hsw ⊢
                clear hlz hbw hxw hyw htk how KB KS OQ HZC
                try clear o1 o1d
                try clear ob
                try clear oc
                try clear o6
                try clear f6
                go_wp2
                go_roundw
                case rel => exact ⟨k + 1, a2, c2, L ++ [x], by omega, by go_num, R2, R3, R4, hsw, R6, R1, R5⟩
                case measure => simp [intOf]; omega
              exact AllReadyH.nil
            exact AllReadyH.nil
          exact AllReadyH.nil
        exact AllReadyH.nil
      exact AllReadyH.nil
    · have hke : k = np := by omega
      subst hke
      have hval := LZ.val HLr.out (Nat.le_refl _)
      have p0 := HLr.out.out.cell 0; have p1 := HLr.out.out.cell 1
      have q0 := HYr.out.cell 0; have q1 := HYr.out.cell 1; have f0 := HYr.out.free 0; have f1 := HYr.out.free 1
      simp at p0 p1 q0 q1
      have HVL := Lib.hid hval
      have htr : va.Vn.tr ⟨0, b, k, c', L.map va.Vn.tr⟩ = zr m.l (f + 1) a.tr := by
        show Tr.mk 0 _ = _
        rw [HZR.out, HT.out, List.take_of_length_le (by have := HN.out; omega)]
      have HTR := Lib.hid htr
      clear hval htr
      go_wp2
      try simp only [Exit.inBlock, Exit.then]
      refine bodyPost_ret (results_cell_row rfl _ _ (w.heap.size + 1 + 1) _ #[.int .i64 0, .slice b k c'] _ _ rfl (by have := (HYr.out.set 0 (.int .i64 0)).set 1 (.slice b k c'); simpa [Blk] using this) Try.underlying27 rfl (by kernel_rfl)) rfl ?_
      refine ⟨⟨0, b, k, c', L.map va.Vn.tr⟩, rfl, HTR.out, ?_, ?_⟩
      · refine (HVL.out.agree ⟨by simp [World.setCell], fun i hS hi => ?_⟩).weak (fun i _ hS => hS.imp id (fun h => by omega))
        have hi2 : i ≠ w.heap.size + 1 + 1 := by
          rcases hS with h0 | h0 <;> omega
        exact (Below.heap_setCell _ ⟨w.heap.size + 1 + 1, 1, none⟩ _ i hi2).trans (Below.heap_setCell _ ⟨w.heap.size + 1 + 1, 0, none⟩ _ i hi2)
      · exact (HBr.out.setCell (by show w.heap.size ≤ w.heap.size + 1 + 1; omega) _).setCell (by show w.heap.size ≤ w.heap.size + 1 + 1; omega) _

theorem rz_any (m : te.Vn) (hN : m.l.length ≤ 1000000) (hM : ∀ d ∈ m.l, d.kids.length ≤ 1000) (f : Nat) : RzP m f := by
  induction f with
  | zero => intro a w _ _ _ hd; cases hd
  | succ f ih => exact rz_step m hN hM f ih
end Go.Proofs.Ytpdicfekhghfeaa.zf
