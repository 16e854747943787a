/-
  Layer 19: the program's parts and partType.
-/
import Derived.Test.YtpdicfekhghfeaaTypRec
import Derived.Test.YtpdicfekhghfeaaZerPure
namespace Go.Proofs.Ytpdicfekhghfeaa.zf
open Go.ChangeShapes Go.WideShapes Go.ChangeAt Go.RowKit
open bs tr te ty
set_option linter.unusedVariables false

/-- A part, and where it lies. -/
theorem kid {w : World} {v : te.Vn} (h : v.Rd w) {k : Nat} {u : PT} (hk : v.l[k]? = some u) : ∃ (b o : Nat) (y : te.Vn), v.a = some ⟨b, o, none⟩ ∧ b < w.heap.size ∧ k < v.m ∧ y.tr = u ∧ y.Rd w ∧ w.cell? ⟨b, o + k * 6, none⟩ = some (.int .i64 y.x.k) ∧ w.cell? ⟨b, o + k * 6 + 3, none⟩ = some (.slice y.a y.m y.c) ∧ w.cell? ⟨b, o + k * 6 + 1, none⟩ = some (.int .i64 y.x.n) ∧ w.cell? ⟨b, o + k * 6 + 2, none⟩ = some (.string y.x.s) ∧ w.cell? ⟨b, o + k * 6 + 4, none⟩ = some (.int .i64 y.x.f) ∧ w.cell? ⟨b, o + k * 6 + 5, none⟩ = some (.int .i64 y.x.t) := by
  have hkl := (List.getElem?_eq_some_iff.1 hk).1
  have hlm := h.1.len
  obtain ⟨b, o, x, ha, hb, hx, hc⟩ := recs_at h.1 (k := k) (by omega)
  obtain ⟨y, hy, hr, c0, c3, c1, c2, c4, c5⟩ := te.VA.out hc
  rw [hk] at hx
  cases hx
  exact ⟨b, o, y, ha, hb, by omega, hy, hr, c0, c3, c1, c2, c4, c5⟩
/-- .. seen in a later world. -/
theorem kid' {w W : World} {v : te.Vn} (h : v.Rd w) (hb : Below w.heap.size w W) {k : Nat} {u : PT} (hk : v.l[k]? = some u) : ∃ (b o : Nat) (y : te.Vn), v.a = some ⟨b, o, none⟩ ∧ b < w.heap.size ∧ k < v.m ∧ y.tr = u ∧ y.Rd w ∧ W.cell? ⟨b, o + k * 6, none⟩ = some (.int .i64 y.x.k) ∧ W.cell? ⟨b, o + k * 6 + 3, none⟩ = some (.slice y.a y.m y.c) ∧ W.cell? ⟨b, o + k * 6 + 1, none⟩ = some (.int .i64 y.x.n) ∧ W.cell? ⟨b, o + k * 6 + 2, none⟩ = some (.string y.x.s) ∧ W.cell? ⟨b, o + k * 6 + 4, none⟩ = some (.int .i64 y.x.f) ∧ W.cell? ⟨b, o + k * 6 + 5, none⟩ = some (.int .i64 y.x.t) := by
  obtain ⟨b, o, y, ha, hb', hkm, hy, hr, c0, c3, c1, c2, c4, c5⟩ := kid h hk
  have e : ∀ j : Nat, W.cell? ⟨b, j, none⟩ = w.cell? ⟨b, j, none⟩ := fun j => hb.cell (p := ⟨b, j, none⟩) hb'
  exact ⟨b, o, y, ha, hb', hkm, hy, hr, by rw [e]; exact c0, by rw [e]; exact c3, by rw [e]; exact c1, by rw [e]; exact c2, by rw [e]; exact c4, by rw [e]; exact c5⟩

set_option maxRecDepth 100000 in
set_option maxHeartbeats 2000000 in
theorem parts_any (m a : te.Vn) (w : World) (hm : m.Rd w) (ha : a.Rd w) (hg : Gd m.l a.tr) : Calls Try.prog 22 #[m.val, a.val] w (CsP (pts m.l a.tr).length w) := by
  have hW : Below w.heap.size w ((w.alloc (.cells #[.int .i64 m.x.k, .int .i64 m.x.n, .string m.x.s, .slice m.a m.m m.c, .int .i64 m.x.f, .int .i64 m.x.t] 24)).alloc (.cells #[.int .i64 a.x.k, .int .i64 a.x.n, .string a.x.s, .slice a.a a.m a.c, .int .i64 a.x.f, .int .i64 a.x.t] 24)) := ((Below.refl _ _).alloc (Nat.le_refl _) _).alloc (by simp only [te.size_alloc]; omega) _
  have hM : VB ((w.alloc (.cells #[.int .i64 m.x.k, .int .i64 m.x.n, .string m.x.s, .slice m.a m.m m.c, .int .i64 m.x.f, .int .i64 m.x.t] 24)).alloc (.cells #[.int .i64 a.x.k, .int .i64 a.x.n, .string a.x.s, .slice a.a a.m a.c, .int .i64 a.x.f, .int .i64 a.x.t] 24)) w.heap.size m := (vb_new w m).below (below_alloc _ _)
  have hX : VB ((w.alloc (.cells #[.int .i64 m.x.k, .int .i64 m.x.n, .string m.x.s, .slice m.a m.m m.c, .int .i64 m.x.f, .int .i64 m.x.t] 24)).alloc (.cells #[.int .i64 a.x.k, .int .i64 a.x.n, .string a.x.s, .slice a.a a.m a.c, .int .i64 a.x.f, .int .i64 a.x.t] 24)) (w.heap.size + 1) a := by
    have := vb_new (w.alloc (.cells #[.int .i64 m.x.k, .int .i64 m.x.n, .string m.x.s, .slice m.a m.m m.c, .int .i64 m.x.f, .int .i64 m.x.t] 24)) a
    rwa [te.size_alloc] at this
  have HW := Lib.hid hW; have HM := Lib.hid hM; have HX := Lib.hid hX
  have HMR := Lib.hid hm; have HV := Lib.hid ha; have HG := Lib.hid hg
  have hmcap := hm.1.cap; have hmmost := hm.1.most; have hmlen := hm.1.len
  clear hW hM hX hm ha hg
  unfold te.Vn.val
  go_enter Try.func22, Try.ntmps22
  go_upto_region 1 with fail
  generalize hWW : ((w.alloc (.cells #[.int .i64 m.x.k, .int .i64 m.x.n, .string m.x.s, .slice m.a m.m m.c, .int .i64 m.x.f, .int .i64 m.x.t] 24)).alloc (.cells #[.int .i64 a.x.k, .int .i64 a.x.n, .string a.x.s, .slice a.a a.m a.c, .int .i64 a.x.f, .int .i64 a.x.t] 24)) = W at HW HM HX ⊢
  clear hWW
  have p0 := HX.out.cell 0; have p1 := HX.out.cell 1; have q3 := HM.out.cell 3
  simp at p0 p1 q3
  rcases HG.out with ⟨h1, h2⟩ | ⟨u, q, h1, h2, h3, h4, h5⟩ | ⟨q, d, h1, h2, h3, h4, h5, h6⟩
  · have h1' : a.x.k = 1 ∨ a.x.k = 2 := h1
    have HP := Lib.hid (pts_one (M := m.l) h1)
    have c3 : (a.x.k == 3) = false := by rw [beq_eq_false_iff_ne]; omega
    have c4 : (a.x.k == 4) = false := by rw [beq_eq_false_iff_ne]; omega
    clear h1 h1' h2 HG
    go_wp2
    go_ret
    exact ⟨by rw [HP.out]; rfl, HW.out⟩
  · have h1' : a.x.k = 3 := h1
    have h3' : a.x.n = (q : Int) := h3
    have HP := Lib.hid (pts_arr (M := m.l) h1 h2 h3)
    have c3 : (a.x.k == 3) = true := by rw [beq_iff_eq]; omega
    have hw : IntKind.i64.wrap (q : Int) = q := by rw [IntWalk.i64_in _ (by omega)]
    rw [h3'] at p1
    clear h1 h1' h2 h3 h3' HG
    go_wp2
    go_ret
    exact ⟨by rw [HP.out]; simp, HW.out⟩
  · have h1' : a.x.k = 4 := h1
    have h3' : a.x.n = (q : Int) := h3
    have HP := Lib.hid (pts_rec (M := m.l) h1 h3 h4)
    have c3 : (a.x.k == 3) = false := by rw [beq_eq_false_iff_ne]; omega
    have c4 : (a.x.k == 4) = true := by rw [beq_iff_eq]; omega
    rw [h3'] at p1
    obtain ⟨b2, o2, y, ha2, hb2, hqm, hy, hr, d0, d3, d1, d2, d4, d5⟩ := kid' HMR.out HW.out h4
    rw [ha2] at q3
    have HY := Lib.hid hy
    have HYL := Lib.hid hr.1.len
    have hqc : (q : Int) < (m.m : Int) := by omega
    have b0 : decide ((m.m : Int) ≤ (q : Int)) = false := decide_eq_false (by omega)
    have b1 : decide (m.m ≤ q) = false := decide_eq_false (by omega)
    have b3 : decide ((q : Int) < 0) = false := decide_eq_false (by omega)
    clear h1 h1' h2 h3 h3' h4 h5 h6 HG hy hr
    go_wp2
    go_ret
    refine ⟨?_, HW.out⟩
    rw [HP.out, List.length_map, ← HY.out]
    show _ = Ending.returned (.int .i64 ((y.l.length : Nat) : Int))
    rw [HYL.out]
    rfl

/-- A term of which more is not known but what it is. -/
def TP (t : PT) (w : World) (e : Ending) (w' : World) : Prop := ∃ y : te.Vn, e = .returned (.agg #[.int .i64 y.x.k, .int .i64 y.x.n, .string y.x.s, .slice y.a y.m y.c, .int .i64 y.x.f, .int .i64 y.x.t]) ∧ y.tr = t ∧ y.Rd w' ∧ Below w.heap.size w w'

set_option maxRecDepth 100000 in
set_option maxHeartbeats 2000000 in
theorem partType_any (m a : te.Vn) (w : World) (i : Nat) (t : PT) (hm : m.Rd w) (ha : a.Rd w) (hg : Gd m.l a.tr) (hi : (pts m.l a.tr)[i]? = some t) (hi6 : i ≤ 1000000) : Calls Try.prog 23 #[m.val, a.val, .int .i64 i] w (TP t w) := by
  have hW : Below w.heap.size w (((w.alloc (.cells #[.int .i64 m.x.k, .int .i64 m.x.n, .string m.x.s, .slice m.a m.m m.c, .int .i64 m.x.f, .int .i64 m.x.t] 24)).alloc (.cells #[.int .i64 a.x.k, .int .i64 a.x.n, .string a.x.s, .slice a.a a.m a.c, .int .i64 a.x.f, .int .i64 a.x.t] 24)).alloc (.cells #[.int .i64 0, .int .i64 0, .string ⟨#[]⟩, .slice none 0 0, .int .i64 0, .int .i64 0] 24)) := (((Below.refl _ _).alloc (Nat.le_refl _) _).alloc (by simp only [te.size_alloc]; omega) _).alloc (by simp only [te.size_alloc]; omega) _
  have hM : VB (((w.alloc (.cells #[.int .i64 m.x.k, .int .i64 m.x.n, .string m.x.s, .slice m.a m.m m.c, .int .i64 m.x.f, .int .i64 m.x.t] 24)).alloc (.cells #[.int .i64 a.x.k, .int .i64 a.x.n, .string a.x.s, .slice a.a a.m a.c, .int .i64 a.x.f, .int .i64 a.x.t] 24)).alloc (.cells #[.int .i64 0, .int .i64 0, .string ⟨#[]⟩, .slice none 0 0, .int .i64 0, .int .i64 0] 24)) w.heap.size m := ((vb_new w m).below (below_alloc _ _)).below (below_alloc _ _)
  have hX : VB (((w.alloc (.cells #[.int .i64 m.x.k, .int .i64 m.x.n, .string m.x.s, .slice m.a m.m m.c, .int .i64 m.x.f, .int .i64 m.x.t] 24)).alloc (.cells #[.int .i64 a.x.k, .int .i64 a.x.n, .string a.x.s, .slice a.a a.m a.c, .int .i64 a.x.f, .int .i64 a.x.t] 24)).alloc (.cells #[.int .i64 0, .int .i64 0, .string ⟨#[]⟩, .slice none 0 0, .int .i64 0, .int .i64 0] 24)) (w.heap.size + 1) a := by
    have := (vb_new (w.alloc (.cells #[.int .i64 m.x.k, .int .i64 m.x.n, .string m.x.s, .slice m.a m.m m.c, .int .i64 m.x.f, .int .i64 m.x.t] 24)) a).below (below_alloc _ (.cells #[.int .i64 0, .int .i64 0, .string ⟨#[]⟩, .slice none 0 0, .int .i64 0, .int .i64 0] 24))
    rwa [te.size_alloc] at this
  have hY : VB (((w.alloc (.cells #[.int .i64 m.x.k, .int .i64 m.x.n, .string m.x.s, .slice m.a m.m m.c, .int .i64 m.x.f, .int .i64 m.x.t] 24)).alloc (.cells #[.int .i64 a.x.k, .int .i64 a.x.n, .string a.x.s, .slice a.a a.m a.c, .int .i64 a.x.f, .int .i64 a.x.t] 24)).alloc (.cells #[.int .i64 0, .int .i64 0, .string ⟨#[]⟩, .slice none 0 0, .int .i64 0, .int .i64 0] 24)) (w.heap.size + 1 + 1) te.v0 := by
    have := vb_new0 ((w.alloc (.cells #[.int .i64 m.x.k, .int .i64 m.x.n, .string m.x.s, .slice m.a m.m m.c, .int .i64 m.x.f, .int .i64 m.x.t] 24)).alloc (.cells #[.int .i64 a.x.k, .int .i64 a.x.n, .string a.x.s, .slice a.a a.m a.c, .int .i64 a.x.f, .int .i64 a.x.t] 24))
    rwa [te.size_alloc, te.size_alloc] at this
  have HW := Lib.hid hW; have HM := Lib.hid hM; have HX := Lib.hid hX; have HY := Lib.hid hY
  have HMR := Lib.hid hm; have HV := Lib.hid ha; have HG := Lib.hid hg; have HI := Lib.hid hi
  have hmcap := hm.1.cap; have hmmost := hm.1.most; have hacap := ha.1.cap; have hamost := ha.1.most
  clear hW hM hX hY hm ha hg hi
  unfold te.Vn.val
  go_enter Try.func23, Try.ntmps23
  go_upto_region 1 with fail
  generalize hWW : (((w.alloc (.cells #[.int .i64 m.x.k, .int .i64 m.x.n, .string m.x.s, .slice m.a m.m m.c, .int .i64 m.x.f, .int .i64 m.x.t] 24)).alloc (.cells #[.int .i64 a.x.k, .int .i64 a.x.n, .string a.x.s, .slice a.a a.m a.c, .int .i64 a.x.f, .int .i64 a.x.t] 24)).alloc (.cells #[.int .i64 0, .int .i64 0, .string ⟨#[]⟩, .slice none 0 0, .int .i64 0, .int .i64 0] 24)) = W at HW HM HX HY ⊢
  clear hWW
  have p0 := HX.out.cell 0; have p1 := HX.out.cell 1; have p3 := HX.out.cell 3; have q3 := HM.out.cell 3
  simp at p0 p1 p3 q3
  rcases HG.out with ⟨h1, h2⟩ | ⟨u, q, h1, h2, h3, h4, h5⟩ | ⟨q, d, h1, h2, h3, h4, h5, h6⟩
  · have := HI.out
    rw [pts_one h1] at this
    cases this
  · have h1' : a.x.k = 3 := h1
    have h2' : a.l = [u] := h2
    have hu := HI.out
    rw [pts_arr h1 h2 h3] at hu
    have HU := Lib.hid (List.mem_replicate.1 (List.mem_of_getElem? hu)).2
    have c3 : (a.x.k == 3) = true := by rw [beq_iff_eq]; omega
    obtain ⟨b2, o2, y, ha2, hb2, hqm, hy, hr, d0, d3, d1, d2, d4, d5⟩ := kid' HV.out HW.out (k := 0) (u := u) (by rw [h2']; rfl)
    simp only [Nat.zero_mul, Nat.add_zero] at d0 d1 d2 d3 d4 d5
    rw [ha2] at p3
    have HYT := Lib.hid hy; have HYR := Lib.hid hr
    clear h1 h1' h2 h2' h3 h4 h5 hu HG HI hy hr
    go_wp2_with (refine wpList_store_T rfl _ _ rfl rfl HY.out y rfl ?_)
    intro w2 hv2 ho2
    go_wp2
    try simp only [Exit.inBlock, Exit.then]
    have hbb : Below w.heap.size w w2 := HW.out.trans (ho2.below (by omega))
    refine bodyPost_ret (results_cell_row rfl _ _ (w.heap.size + 1 + 1) _ _ _ _ rfl hv2 Try.underlying24 rfl (by kernel_rfl)) rfl ?_
    exact ⟨y, rfl, HYT.out.trans HU.out.symm, HYR.out.below hbb, hbb⟩
  · have h1' : a.x.k = 4 := h1
    have h3' : a.x.n = (q : Int) := h3
    have hu := HI.out
    rw [pts_rec h1 h3 h4, List.getElem?_map] at hu
    have c3 : (a.x.k == 3) = false := by rw [beq_eq_false_iff_ne]; omega
    rw [h3'] at p1
    obtain ⟨b2, o2, y, ha2, hb2, hqm, hy, hr, d0, d3, d1, d2, d4, d5⟩ := kid' HMR.out HW.out h4
    rw [ha2] at q3
    rcases hp : d.kids[i]? with _ | p
    · rw [hp] at hu; cases hu
    rw [hp] at hu
    have hpt : sub p = t := Option.some.inj hu
    have hf := h6 p (List.mem_of_getElem? hp)
    obtain ⟨u, hpu⟩ := List.length_eq_one_iff.1 hf.2
    have htu : t = u := by rw [← hpt]; unfold sub; rw [hpu]; rfl
    have hyl : y.l[i]? = some p := by rw [← hp, ← hy]; rfl
    obtain ⟨b3, o3, z, ha3, hb3, him, hz, hrz, e0, e3, e1, e2, e4, e5⟩ := kid' hr HW.out hyl
    have hzl : z.l[0]? = some u := by
      have : z.l = p.kids := by rw [← hz]; rfl
      rw [this, hpu]; rfl
    obtain ⟨b4, o4, x, ha4, hb4, h0m, hx, hrx, f0, f3, f1, f2, f4, f5⟩ := kid' hrz HW.out hzl
    simp only [Nat.zero_mul, Nat.add_zero] at f0 f1 f2 f3 f4 f5
    rw [ha3] at d3
    rw [ha4] at e3
    have HYT := Lib.hid (hx.trans htu.symm); have HYR := Lib.hid hrx
    have ycap := hr.1.cap; have ymost := hr.1.most; have zcap := hrz.1.cap; have zmost := hrz.1.most
    have b0 : decide ((m.m : Int) ≤ (q : Int)) = false := decide_eq_false (by omega)
    have b1 : decide (m.m ≤ q) = false := decide_eq_false (by omega)
    have b3' : decide ((q : Int) < 0) = false := decide_eq_false (by omega)
    have g0 : decide ((y.m : Int) ≤ (i : Int)) = false := decide_eq_false (by omega)
    have g1 : decide (y.m ≤ i) = false := decide_eq_false (by omega)
    have g3 : decide ((i : Int) < 0) = false := decide_eq_false (by omega)
    clear h1 h1' h2 h3 h3' h4 h5 h6 HG HI hy hr hu hp hpt hf hpu htu hyl hz hrz hzl hx hrx
    go_wp2_with (refine wpList_store_T rfl _ _ rfl rfl HY.out x rfl ?_)
    intro w2 hv2 ho2
    go_wp2
    try simp only [Exit.inBlock, Exit.then]
    have hbb : Below w.heap.size w w2 := HW.out.trans (ho2.below (by omega))
    refine bodyPost_ret (results_cell_row rfl _ _ (w.heap.size + 1 + 1) _ _ _ _ rfl hv2 Try.underlying24 rfl (by kernel_rfl)) rfl ?_
    exact ⟨x, rfl, HYT.out, HYR.out.below hbb, hbb⟩
end Go.Proofs.Ytpdicfekhghfeaa.zf
