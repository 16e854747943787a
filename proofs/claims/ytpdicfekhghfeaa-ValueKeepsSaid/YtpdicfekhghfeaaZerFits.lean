/-
  Layer 19: the program's fits, Fits.
-/
import Derived.Test.YtpdicfekhghfeaaZerParts
import Derived.Test.YtpdicfekhghfeaaValSame
import Derived.Test.YtpdicfekhghfeaaValGet
import Derived.Deep.RegionHeld3
namespace Go.Proofs.Ytpdicfekhghfeaa.zf
open Go.ChangeShapes Go.WideShapes Go.ChangeAt Go.RowKit
open bs tr te ty
set_option linter.unusedVariables false

def BP (p : Prop) (w : World) (e : Ending) (w' : World) : Prop := ∃ r : Bool, e = .returned (.bool r) ∧ Hid (r = true ↔ p) ∧ Below w.heap.size w w'
theorem vkid {w W : World} {v : va.Vn} (h : v.Rd w) (hb : Below w.heap.size w W) {k : Nat} {u : PV} (hk : v.l[k]? = some u) : ∃ (b o : Nat) (y : va.Vn), v.a = some ⟨b, o, none⟩ ∧ b < w.heap.size ∧ k < v.m ∧ y.tr = u ∧ y.Rd w ∧ W.cell? ⟨b, o + k * 2, none⟩ = some (.int .i64 y.x) ∧ W.cell? ⟨b, o + k * 2 + 1, none⟩ = some (.slice y.a y.m y.c) := by
  have hkl := (List.getElem?_eq_some_iff.1 hk).1
  have hlm := h.1.len
  obtain ⟨b, o, x, ha, hb', hx, hc⟩ := va.recs_at h.1 (k := k) (by omega)
  obtain ⟨y, hy, hr, c0, c1⟩ := va.VA.out hc
  rw [hk] at hx
  cases hx
  have e : ∀ j : Nat, W.cell? ⟨b, j, none⟩ = w.cell? ⟨b, j, none⟩ := fun j => hb.cell (p := ⟨b, j, none⟩) hb'
  exact ⟨b, o, y, ha, hb', by omega, hy, hr, by rw [e]; exact c0, by rw [e]; exact c1⟩

theorem ff {p : Prop} (h : ¬ p) : (false = true ↔ p) := ⟨nofun, fun h' => absurd h' h⟩
theorem tt {p : Prop} (h : p) : (true = true ↔ p) := ⟨fun _ => h, fun _ => rfl⟩

def FitP (m : te.Vn) (f : Nat) : Prop := ∀ (a : te.Vn) (v : va.Vn) (w : World), a.Rd w → m.Rd w → v.Rd w → Ok m.l a.tr → Dp m.l f a.tr → Calls Try.prog 25 #[m.val, a.val, v.val] w (BP (fit m.l v.tr a.tr) w)

theorem fit_len {M : List PT} {v : va.Vn} {t : PT} {n : Nat} (hn : (pts M t).length = n) (h : v.l.length ≠ n) : ¬ fit M v.tr t := fun hf => by
  have := ((fit_mk M v.x v.l t).1 hf).2.1
  omega
theorem fit_one {M : List PT} {v : va.Vn} {t : PT} (h1 : t.lab.k = 1) (hl : v.l.length = 0) : fit M v.tr t :=
  (fit_mk M v.x v.l t).2 ⟨⟨fun h => by omega, fun h _ => absurd h1 h⟩, by rw [pts_one (.inl h1), hl]; rfl, fun i p q _ hq => by rw [pts_one (.inl h1)] at hq; cases hq⟩
theorem fit_two {M : List PT} {v : va.Vn} {t : PT} (h1 : t.lab.k = 2) (hl : v.l.length = 0) : fit M v.tr t ↔ (v.x = 0 ∨ v.x = 1) :=
  ⟨fun h => ((fit_mk M v.x v.l t).1 h).1.1 h1, fun h => (fit_mk M v.x v.l t).2 ⟨⟨fun _ => h, fun _ h2 => absurd h1 h2⟩, by rw [pts_one (.inr h1), hl]; rfl, fun i p q _ hq => by rw [pts_one (.inr h1)] at hq; cases hq⟩⟩
theorem fit_more {M : List PT} {v : va.Vn} {t : PT} {n : Nat} (h1 : t.lab.k ≠ 1) (h2 : t.lab.k ≠ 2) (hl : v.l.length = n) (hn : (pts M t).length = n) (h : ∀ (i : Nat) p q, v.l[i]? = some p → (pts M t)[i]? = some q → fit M p q) : fit M v.tr t ↔ v.x = 0 :=
  ⟨fun hf => ((fit_mk M v.x v.l t).1 hf).1.2 h1 h2, fun hx => (fit_mk M v.x v.l t).2 ⟨⟨fun h => absurd h h2, fun _ _ => hx⟩, by omega, h⟩⟩
theorem fit_less {M : List PT} {v : va.Vn} {t : PT} {i : Nat} {p : PV} {q : PT} (hp : v.l[i]? = some p) (hq : (pts M t)[i]? = some q) (h : ¬ fit M p q) : ¬ fit M v.tr t := fun hf =>
  h (((fit_mk M v.x v.l t).1 hf).2.2 i p q hp hq)

theorem pts_ne {M : List PT} {t : PT} (hg : Gd M t) (h : ¬ (t.lab.k = 1 ∨ t.lab.k = 2)) : 0 < (pts M t).length := by
  rcases hg with ⟨h1, h2⟩ | ⟨u, q, h1, h2, h3, h4, h5⟩ | ⟨q, d, h1, h2, h3, h4, h5, h6⟩
  · exact absurd h1 h
  · rw [pts_arr h1 h2 h3, List.length_replicate]; omega
  · rw [pts_rec h1 h3 h4, List.length_map]; exact List.length_pos_iff.2 h5

set_option maxRecDepth 100000 in
set_option maxHeartbeats 4000000 in
theorem fits_step (m : te.Vn) (f : Nat) (ih : FitP m f) (hM : ∀ d ∈ m.l, d.kids.length ≤ 1000) : FitP m (f + 1) := by
  intro a v w ha hm hv hok hdp
  have hW : Below w.heap.size w (((w.alloc (.cells #[.int .i64 m.x.k, .int .i64 m.x.n, .string m.x.s, .slice m.a m.m m.c, .int .i64 m.x.f, .int .i64 m.x.t] 24)).alloc (.cells #[.int .i64 a.x.k, .int .i64 a.x.n, .string a.x.s, .slice a.a a.m a.c, .int .i64 a.x.f, .int .i64 a.x.t] 24)).alloc (.cells #[.int .i64 v.x, .slice v.a v.m v.c] 27)) := (((Below.refl _ _).alloc (Nat.le_refl _) _).alloc (by simp only [te.size_alloc]; omega) _).alloc (by simp only [te.size_alloc]; omega) _
  have hM1 : VB (((w.alloc (.cells #[.int .i64 m.x.k, .int .i64 m.x.n, .string m.x.s, .slice m.a m.m m.c, .int .i64 m.x.f, .int .i64 m.x.t] 24)).alloc (.cells #[.int .i64 a.x.k, .int .i64 a.x.n, .string a.x.s, .slice a.a a.m a.c, .int .i64 a.x.f, .int .i64 a.x.t] 24)).alloc (.cells #[.int .i64 v.x, .slice v.a v.m v.c] 27)) w.heap.size m := ((vb_new w m).below (below_alloc _ _)).below (below_alloc _ _)
  have hX : VB (((w.alloc (.cells #[.int .i64 m.x.k, .int .i64 m.x.n, .string m.x.s, .slice m.a m.m m.c, .int .i64 m.x.f, .int .i64 m.x.t] 24)).alloc (.cells #[.int .i64 a.x.k, .int .i64 a.x.n, .string a.x.s, .slice a.a a.m a.c, .int .i64 a.x.f, .int .i64 a.x.t] 24)).alloc (.cells #[.int .i64 v.x, .slice v.a v.m v.c] 27)) (w.heap.size + 1) a := by
    have := (vb_new (w.alloc (.cells #[.int .i64 m.x.k, .int .i64 m.x.n, .string m.x.s, .slice m.a m.m m.c, .int .i64 m.x.f, .int .i64 m.x.t] 24)) a).below (below_alloc _ (.cells #[.int .i64 v.x, .slice v.a v.m v.c] 27))
    rwa [te.size_alloc] at this
  have hY : Blk (((w.alloc (.cells #[.int .i64 m.x.k, .int .i64 m.x.n, .string m.x.s, .slice m.a m.m m.c, .int .i64 m.x.f, .int .i64 m.x.t] 24)).alloc (.cells #[.int .i64 a.x.k, .int .i64 a.x.n, .string a.x.s, .slice a.a a.m a.c, .int .i64 a.x.f, .int .i64 a.x.t] 24)).alloc (.cells #[.int .i64 v.x, .slice v.a v.m v.c] 27)) (w.heap.size + 1 + 1) #[.int .i64 v.x, .slice v.a v.m v.c] 27 := by
    have := Blk.new ((w.alloc (.cells #[.int .i64 m.x.k, .int .i64 m.x.n, .string m.x.s, .slice m.a m.m m.c, .int .i64 m.x.f, .int .i64 m.x.t] 24)).alloc (.cells #[.int .i64 a.x.k, .int .i64 a.x.n, .string a.x.s, .slice a.a a.m a.c, .int .i64 a.x.f, .int .i64 a.x.t] 24)) #[.int .i64 v.x, .slice v.a v.m v.c] 27
    rwa [te.size_alloc, te.size_alloc] at this
  have hg := hok.gd
  have hlen := pts_len' hg hM
  have HW := Lib.hid hW; have HX := Lib.hid hX; have HY := Lib.hid hY; have HMB := Lib.hid hM1
  have HMR := Lib.hid hm; have HAR := Lib.hid ha; have HVR := Lib.hid hv; have HG := Lib.hid hg; have HOK := Lib.hid hok; have HDP := Lib.hid hdp; have HIH := Lib.hid ih
  have HVL := Lib.hid hv.1.len; have hvcap := hv.1.cap; have hvmost := hv.1.most
  obtain ⟨n, hn⟩ : ∃ n, (pts m.l a.tr).length = n := ⟨_, rfl⟩
  rw [hn] at hlen
  have HN := Lib.hid hn
  clear hW hX hY hM1 hm ha hv hg hok hdp ih hn
  unfold te.Vn.val va.Vn.val
  go_enter Try.func25, Try.ntmps25
  go_upto_region 1 with fail
  generalize hWW : (((w.alloc (.cells #[.int .i64 m.x.k, .int .i64 m.x.n, .string m.x.s, .slice m.a m.m m.c, .int .i64 m.x.f, .int .i64 m.x.t] 24)).alloc (.cells #[.int .i64 a.x.k, .int .i64 a.x.n, .string a.x.s, .slice a.a a.m a.c, .int .i64 a.x.f, .int .i64 a.x.t] 24)).alloc (.cells #[.int .i64 v.x, .slice v.a v.m v.c] 27)) = W at HW HX HY HMB ⊢
  clear hWW
  have hkq : ∀ V, Below W.heap.size W V → V.cell? ⟨w.heap.size, 0, none⟩ = some (.int .i64 m.x.k) ∧ V.cell? ⟨w.heap.size, 3, none⟩ = some (.slice m.a m.m m.c) ∧ V.cell? ⟨w.heap.size, 1, none⟩ = some (.int .i64 m.x.n) ∧ V.cell? ⟨w.heap.size, 2, none⟩ = some (.string m.x.s) ∧ V.cell? ⟨w.heap.size, 4, none⟩ = some (.int .i64 m.x.f) ∧ V.cell? ⟨w.heap.size, 5, none⟩ = some (.int .i64 m.x.t) ∧ V.cell? ⟨w.heap.size + 1, 0, none⟩ = some (.int .i64 a.x.k) ∧ V.cell? ⟨w.heap.size + 1, 3, none⟩ = some (.slice a.a a.m a.c) ∧ V.cell? ⟨w.heap.size + 1, 1, none⟩ = some (.int .i64 a.x.n) ∧ V.cell? ⟨w.heap.size + 1, 2, none⟩ = some (.string a.x.s) ∧ V.cell? ⟨w.heap.size + 1, 4, none⟩ = some (.int .i64 a.x.f) ∧ V.cell? ⟨w.heap.size + 1, 5, none⟩ = some (.int .i64 a.x.t) ∧ V.cell? ⟨w.heap.size + 1 + 1, 0, none⟩ = some (.int .i64 v.x) ∧ V.cell? ⟨w.heap.size + 1 + 1, 1, none⟩ = some (.slice v.a v.m v.c) := fun V hV => by
    have hm2 := HMB.out.below hV; have hx2 := HX.out.below hV; have hy2 := HY.out.below hV
    have m0 := hm2.cell 0; have m1 := hm2.cell 1; have m2 := hm2.cell 2; have m3 := hm2.cell 3; have m4 := hm2.cell 4; have m5 := hm2.cell 5
    have a0 := hx2.cell 0; have a1 := hx2.cell 1; have a2 := hx2.cell 2; have a3 := hx2.cell 3; have a4 := hx2.cell 4; have a5 := hx2.cell 5
    have y0 := hy2.cell 0; have y1 := hy2.cell 1
    simp at m0 m1 m2 m3 m4 m5 a0 a1 a2 a3 a4 a5 y0 y1
    exact ⟨m0, m3, m1, m2, m4, m5, a0, a3, a1, a2, a4, a5, y0, y1⟩
  have KQ := Lib.hid hkq
  have K0 : Hid (Below W.heap.size W W.drew) := Lib.hid (Below.drew (Below.refl _ _))
  have HPC := Lib.hid (fun V (hV : Below W.heap.size W V) => show Calls Try.prog 22 #[(.agg #[.int .i64 m.x.k, .int .i64 m.x.n, .string m.x.s, .slice m.a m.m m.c, .int .i64 m.x.f, .int .i64 m.x.t]), (.agg #[.int .i64 a.x.k, .int .i64 a.x.n, .string a.x.s, .slice a.a a.m a.c, .int .i64 a.x.f, .int .i64 a.x.t])] V (CsP n V) from by
    have h := parts_any m a V ((HMR.out.below HW.out).below hV) ((HAR.out.below HW.out).below hV) HG.out
    rw [HN.out] at h
    exact h)
  clear hkq
  go_region_held3 (fun V => V.cell? ⟨w.heap.size, 0, none⟩ = some (.int .i64 m.x.k) ∧ V.cell? ⟨w.heap.size, 3, none⟩ = some (.slice m.a m.m m.c) ∧ V.cell? ⟨w.heap.size, 1, none⟩ = some (.int .i64 m.x.n) ∧ V.cell? ⟨w.heap.size, 2, none⟩ = some (.string m.x.s) ∧ V.cell? ⟨w.heap.size, 4, none⟩ = some (.int .i64 m.x.f) ∧ V.cell? ⟨w.heap.size, 5, none⟩ = some (.int .i64 m.x.t) ∧ V.cell? ⟨w.heap.size + 1, 0, none⟩ = some (.int .i64 a.x.k) ∧ V.cell? ⟨w.heap.size + 1, 3, none⟩ = some (.slice a.a a.m a.c) ∧ V.cell? ⟨w.heap.size + 1, 1, none⟩ = some (.int .i64 a.x.n) ∧ V.cell? ⟨w.heap.size + 1, 2, none⟩ = some (.string a.x.s) ∧ V.cell? ⟨w.heap.size + 1, 4, none⟩ = some (.int .i64 a.x.f) ∧ V.cell? ⟨w.heap.size + 1, 5, none⟩ = some (.int .i64 a.x.t) ∧ V.cell? ⟨w.heap.size + 1 + 1, 0, none⟩ = some (.int .i64 v.x) ∧ V.cell? ⟨w.heap.size + 1 + 1, 1, none⟩ = some (.slice v.a v.m v.c))
    (with_reducible (refine KQ.out _ ?_; first | exact K0.out | exact KA.out))
    (first
      | (go_at_call 22; (with_reducible refine (HPC.out _ K0.out).mono ?_); rintro e w2 ⟨rfl, hb2⟩; have KA : Hid (Below W.heap.size W w2) := Lib.hid (K0.out.trans (hb2.mono K0.out.size)); clear hb2))
  have HBA := Lib.hid (HW.out.trans (KA.out.mono HW.out.size))
  by_cases hvn : v.m = n
  · have c0 : ((v.m : Int) != (n : Int)) = false := by rw [bne_eq_false_iff_eq]; omega
    obtain ⟨g0, g3, g1, g2, g4, g5, a0, a3, a1, a2, a4, a5, y0, y1⟩ := KQ.out w2 KA.out
    subst hvn
    by_cases h1 : a.tr.lab.k = 1 ∨ a.tr.lab.k = 2
    · rcases h1 with h1 | h1
      · have h1' : a.x.k = 1 := h1
        have c1 : (a.x.k == 1) = true := by rw [beq_iff_eq]; omega
        have hf : fit m.l v.tr a.tr := fit_one h1 (by have := HN.out; rw [pts_one (.inl h1)] at this; have h7 := HVL.out; simp at this; omega)
        have HF := Lib.hid hf
        clear h1 h1' hf HG
        go_wp2
        go_ret
        exact ⟨true, rfl, Lib.hid ⟨fun _ => HF.out, fun _ => rfl⟩, HBA.out⟩
      · have h1' : a.x.k = 2 := h1
        have c1 : (a.x.k == 1) = false := by rw [beq_eq_false_iff_ne]; omega
        have c2 : (a.x.k == 2) = true := by rw [beq_iff_eq]; omega
        have hf : fit m.l v.tr a.tr ↔ (v.x = 0 ∨ v.x = 1) := fit_two h1 (by have := HN.out; rw [pts_one (.inr h1)] at this; have h7 := HVL.out; simp at this; omega)
        have HF := Lib.hid hf
        clear h1 h1' hf HG
        by_cases hx0 : v.x = 0
        · have d0 : (v.x == 0) = true := by rw [beq_iff_eq]; exact hx0
          have HX0 := Lib.hid hx0
          clear hx0
          go_wp2
          go_ret
          exact ⟨true, rfl, Lib.hid ⟨fun _ => HF.out.2 (.inl HX0.out), fun _ => rfl⟩, HBA.out⟩
        · have d0 : (v.x == 0) = false := by rw [beq_eq_false_iff_ne]; exact hx0
          have HX0 := Lib.hid hx0
          clear hx0
          by_cases hx1 : v.x = 1
          · have d1 : (v.x == 1) = true := by rw [beq_iff_eq]; exact hx1
            have HX1 := Lib.hid hx1
            clear hx1
            go_wp2
            go_ret
            exact ⟨true, rfl, Lib.hid ⟨fun _ => HF.out.2 (.inr HX1.out), fun _ => rfl⟩, HBA.out⟩
          · have d1 : (v.x == 1) = false := by rw [beq_eq_false_iff_ne]; exact hx1
            have HX1 := Lib.hid hx1
            clear hx1
            go_wp2
            go_ret
            exact ⟨false, rfl, Lib.hid (ff (fun h => (HF.out.1 h).elim HX0.out HX1.out)), HBA.out⟩
    · have h1' : ¬ (a.x.k = 1 ∨ a.x.k = 2) := h1
      have c1 : (a.x.k == 1) = false := by rw [beq_eq_false_iff_ne]; omega
      have c2 : (a.x.k == 2) = false := by rw [beq_eq_false_iff_ne]; omega
      have H1 := Lib.hid h1
      have hpos := pts_ne HG.out h1
      obtain ⟨b, o, hav⟩ : ∃ b o, v.a = some ⟨b, o, none⟩ := by
        obtain ⟨u, hu⟩ : ∃ u, v.l[0]? = some u := ⟨_, List.getElem?_eq_getElem (by have := HN.out; have := HVL.out; omega)⟩
        obtain ⟨b, o, y, hav, _⟩ := vkid HVR.out HW.out hu
        exact ⟨b, o, hav⟩
      have HAV := Lib.hid hav
      clear h1 h1' HPC hpos
      rw [hav] at y1
      go_wp2_with fail
      try rw [hav]
      clear hav
      go_loopw [33] (fun i wr => ∃ (k : Nat), k ≤ v.m ∧ i = .int .i64 k ∧ Hid (Below W.heap.size W wr) ∧ Hid (∀ (i : Nat) p q, i < k → v.l[i]? = some p → (pts m.l a.tr)[i]? = some q → fit m.l p q)) (fun i _ => v.m - (intOf i).toNat)
      case atStart => exact ⟨0, by omega, rfl, KA, Lib.hid (fun i p q h => absurd h (Nat.not_lt_zero i))⟩
      case round =>
        obtain ⟨k, hk, rfl, HBr, HT⟩ := hrel
        clear g0 g1 g2 g3 g4 g5 a0 a1 a2 a3 a4 a5 y0 y1
        have HBW := Lib.hid (HW.out.trans (HBr.out.mono HW.out.size))
        by_cases hkn : k < v.m
        · obtain ⟨t, ht⟩ : ∃ t, (pts m.l a.tr)[k]? = some t := ⟨_, List.getElem?_eq_getElem (by have := HN.out; omega)⟩
          obtain ⟨u, hu⟩ : ∃ u, v.l[k]? = some u := ⟨_, List.getElem?_eq_getElem (by have := HVL.out; omega)⟩
          obtain ⟨b', o', y, hav, hbv, hkv, hyt, hyr, c00, c01⟩ := vkid HVR.out HBW.out hu
          rw [HAV.out] at hav
          cases hav
          have htm := List.mem_of_getElem? ht
          have HT1 := Lib.hid ht; have HU1 := Lib.hid hu; have HYT := Lib.hid hyt; have HYR := Lib.hid hyr
          have hdt : Dp m.l f t := HDP.out t htm
          have hot : Ok m.l t := HOK.out.pts t htm
          have HDT := Lib.hid hdt; have HOT := Lib.hid hot
          have hkn' : (k : Int) < (v.m : Int) := by omega
          have b0 : decide ((v.m : Int) ≤ (k : Int)) = false := decide_eq_false (by omega)
          have b1 : decide (v.m ≤ k) = false := decide_eq_false (by omega)
          have b2 : decide ((k : Int) < 0) = false := decide_eq_false (by omega)
          have hN2 := Blk.new wr #[.int .i64 y.x, .slice y.a y.m y.c] 27
          have hB2 : Below wr.heap.size wr (wr.alloc (.cells #[.int .i64 y.x, .slice y.a y.m y.c] 27)) := (Below.refl _ _).alloc (Nat.le_refl _) _
          have HN2 := Lib.hid hN2; have HB2 := Lib.hid hB2
          clear hN2 hB2 ht hu hyt hyr htm hdt hot
          go_upto_region 11 with fail
          generalize hVV : (wr.alloc (.cells #[.int .i64 y.x, .slice y.a y.m y.c] 27)) = V at HN2 HB2 ⊢
          clear hVV c00 c01
          have HBV := Lib.hid (HBr.out.trans (HB2.out.mono HBr.out.size))
          have hkq : ∀ U, Below V.heap.size V U → U.cell? ⟨w.heap.size, 0, none⟩ = some (.int .i64 m.x.k) ∧ U.cell? ⟨w.heap.size, 3, none⟩ = some (.slice m.a m.m m.c) ∧ U.cell? ⟨w.heap.size, 1, none⟩ = some (.int .i64 m.x.n) ∧ U.cell? ⟨w.heap.size, 2, none⟩ = some (.string m.x.s) ∧ U.cell? ⟨w.heap.size, 4, none⟩ = some (.int .i64 m.x.f) ∧ U.cell? ⟨w.heap.size, 5, none⟩ = some (.int .i64 m.x.t) ∧ U.cell? ⟨w.heap.size + 1, 0, none⟩ = some (.int .i64 a.x.k) ∧ U.cell? ⟨w.heap.size + 1, 3, none⟩ = some (.slice a.a a.m a.c) ∧ U.cell? ⟨w.heap.size + 1, 1, none⟩ = some (.int .i64 a.x.n) ∧ U.cell? ⟨w.heap.size + 1, 2, none⟩ = some (.string a.x.s) ∧ U.cell? ⟨w.heap.size + 1, 4, none⟩ = some (.int .i64 a.x.f) ∧ U.cell? ⟨w.heap.size + 1, 5, none⟩ = some (.int .i64 a.x.t) ∧ U.cell? ⟨wr.heap.size, 0, none⟩ = some (.int .i64 y.x) ∧ U.cell? ⟨wr.heap.size, 1, none⟩ = some (.slice y.a y.m y.c) := fun U hU => by
            have hWU : Below W.heap.size W U := HBV.out.trans (hU.mono HBV.out.size)
            obtain ⟨g0, g3, g1, g2, g4, g5, a0, a3, a1, a2, a4, a5, y0, y1⟩ := KQ.out U hWU
            have hn2 := HN2.out.below hU
            have z0 := hn2.cell 0; have z1 := hn2.cell 1
            simp at z0 z1
            exact ⟨g0, g3, g1, g2, g4, g5, a0, a3, a1, a2, a4, a5, z0, z1⟩
          have KQ2 := Lib.hid hkq
          have D0 : Hid (Below V.heap.size V V.drew) := Lib.hid (Below.drew (Below.refl _ _))
          have HBVW := Lib.hid (HW.out.trans (HBV.out.mono HW.out.size))
          have HPT := Lib.hid (fun U (hU : Below V.heap.size V U) => show Calls Try.prog 23 #[(.agg #[.int .i64 m.x.k, .int .i64 m.x.n, .string m.x.s, .slice m.a m.m m.c, .int .i64 m.x.f, .int .i64 m.x.t]), (.agg #[.int .i64 a.x.k, .int .i64 a.x.n, .string a.x.s, .slice a.a a.m a.c, .int .i64 a.x.f, .int .i64 a.x.t]), .int .i64 k] U (TP t U) from partType_any m a U k t ((HMR.out.below HBVW.out).below hU) ((HAR.out.below HBVW.out).below hU) HG.out HT1.out (by omega))
          have HFC := Lib.hid (fun (U : World) (z : te.Vn) (hU : Below V.heap.size V U) (hzt : z.tr = t) (hzr : z.Rd U) => show Calls Try.prog 25 #[(.agg #[.int .i64 m.x.k, .int .i64 m.x.n, .string m.x.s, .slice m.a m.m m.c, .int .i64 m.x.f, .int .i64 m.x.t]), (.agg #[.int .i64 z.x.k, .int .i64 z.x.n, .string z.x.s, .slice z.a z.m z.c, .int .i64 z.x.f, .int .i64 z.x.t]), (.agg #[.int .i64 y.x, .slice y.a y.m y.c])] U (BP (fit m.l u t) U) from by
            have h := HIH.out z y U hzr ((HMR.out.below HBVW.out).below hU) ((HYR.out.below HBVW.out).below hU) (by rw [hzt]; exact HOT.out) (by rw [hzt]; exact HDT.out)
            rw [hzt, HYT.out] at h
            exact h)
          clear hkq
          go_region_held3 (fun V => V.cell? ⟨w.heap.size, 0, none⟩ = some (.int .i64 m.x.k) ∧ V.cell? ⟨w.heap.size, 3, none⟩ = some (.slice m.a m.m m.c) ∧ V.cell? ⟨w.heap.size, 1, none⟩ = some (.int .i64 m.x.n) ∧ V.cell? ⟨w.heap.size, 2, none⟩ = some (.string m.x.s) ∧ V.cell? ⟨w.heap.size, 4, none⟩ = some (.int .i64 m.x.f) ∧ V.cell? ⟨w.heap.size, 5, none⟩ = some (.int .i64 m.x.t) ∧ V.cell? ⟨w.heap.size + 1, 0, none⟩ = some (.int .i64 a.x.k) ∧ V.cell? ⟨w.heap.size + 1, 3, none⟩ = some (.slice a.a a.m a.c) ∧ V.cell? ⟨w.heap.size + 1, 1, none⟩ = some (.int .i64 a.x.n) ∧ V.cell? ⟨w.heap.size + 1, 2, none⟩ = some (.string a.x.s) ∧ V.cell? ⟨w.heap.size + 1, 4, none⟩ = some (.int .i64 a.x.f) ∧ V.cell? ⟨w.heap.size + 1, 5, none⟩ = some (.int .i64 a.x.t) ∧ V.cell? ⟨wr.heap.size, 0, none⟩ = some (.int .i64 y.x) ∧ V.cell? ⟨wr.heap.size, 1, none⟩ = some (.slice y.a y.m y.c))
            (with_reducible (refine KQ2.out _ ?_; first | exact D0.out | exact DA.out | exact DB.out))
            (first
              | (go_at_call 23; (with_reducible refine (HPT.out _ D0.out).mono ?_); rintro e wa ⟨z, rfl, hzt, hzr, hba⟩; have HZT := Lib.hid hzt; have HZR := Lib.hid hzr; have DA : Hid (Below V.heap.size V wa) := Lib.hid (D0.out.trans (hba.mono D0.out.size)); clear hzt hzr hba)
              | (go_at_call 25; (with_reducible refine (HFC.out _ z DA.out HZT.out HZR.out).mono ?_); rintro e wb ⟨r, rfl, hrr, hbb⟩; have HRR := hrr; have DB : Hid (Below V.heap.size V wb) := Lib.hid (DA.out.trans (hbb.mono DA.out.size)); clear hrr hbb))
          have HBB := Lib.hid (HBV.out.trans (DB.out.mono HBV.out.size))
          have HBX := Lib.hid (HW.out.trans (HBB.out.mono HW.out.size))
          clear KQ2 HPT HFC
          cases r with
          | false =>
            have hnf := fit_less (v := v) HU1.out HT1.out (fun h => Bool.noConfusion (HRR.out.2 h))
            have HNF := Lib.hid hnf
            clear hnf
            go_wp2
            go_ret
            exact ⟨false, rfl, Lib.hid (ff HNF.out), HBX.out⟩
          | true =>
            have hft := HRR.out.1 rfl
            have hT2 : ∀ (i : Nat) p q, i < k + 1 → v.l[i]? = some p → (pts m.l a.tr)[i]? = some q → fit m.l p q := fun i p q hi hp hq => by
              rcases Nat.lt_or_ge i k with h | h
              · exact HT.out i p q h hp hq
              · have : i = k := by omega
                subst this
                rw [HU1.out] at hp; cases hp
                rw [HT1.out] at hq; cases hq
                exact hft
            have HT2 := Lib.hid hT2
            clear hft hT2
            go_wp2
            go_roundw
            case rel => exact ⟨_, _, _, _, ⟨k + 1, by omega, by go_num, HT2⟩, rfl, rfl, rfl, rfl⟩
            case measure => simp [intOf]; omega
        · have hke : k = v.m := by omega
          subst hke
          obtain ⟨g0, g3, g1, g2, g4, g5, a0, a3, a1, a2, a4, a5, y0, y1⟩ := KQ.out wr HBr.out
          have h1 := H1.out
          have hfm := fit_more (v := v) (t := a.tr) (fun h => h1 (.inl h)) (fun h => h1 (.inr h)) HVL.out HN.out (fun i p q hp hq => HT.out i p q (by have := (List.getElem?_eq_some_iff.1 hp).1; have := HVL.out; omega) hp hq)
          have HFM := Lib.hid hfm
          clear h1 hfm
          by_cases hx0 : v.x = 0
          · have d0 : (v.x == 0) = true := by rw [beq_iff_eq]; exact hx0
            have HX0 := Lib.hid hx0
            clear hx0
            go_wp2
            go_ret
            exact ⟨true, rfl, Lib.hid (tt (HFM.out.2 HX0.out)), HBW.out⟩
          · have d0 : (v.x == 0) = false := by rw [beq_eq_false_iff_ne]; exact hx0
            have HX0 := Lib.hid hx0
            clear hx0
            go_wp2
            go_ret
            exact ⟨false, rfl, Lib.hid (ff (fun h => HX0.out (HFM.out.1 h))), HBW.out⟩
  · have c0 : ((v.m : Int) != (n : Int)) = true := by rw [bne_iff_ne]; omega
    have hnf : ¬ fit m.l v.tr a.tr := fit_len HN.out (by have := HVL.out; omega)
    have HNF := Lib.hid hnf
    clear hvn hnf
    go_wp2
    go_ret
    exact ⟨false, rfl, Lib.hid (ff HNF.out), HBA.out⟩
end Go.Proofs.Ytpdicfekhghfeaa.zf
