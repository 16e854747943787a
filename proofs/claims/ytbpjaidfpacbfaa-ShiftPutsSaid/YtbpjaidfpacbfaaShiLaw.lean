/-
  Layer 14: ShiftMoves.
-/
import Derived.Test.YtbpjaidfpacbfaaShiTop
namespace Go.Proofs.Ytbpjaidfpacbfaa.te
open Go.ChangeShapes Go.WideShapes Go.ChangeAt Go.RowKit
open bs tr
set_option linter.unusedVariables false

theorem placed_s (a b : Vn) (w : World) (h : a.Rd w) (h' : b.Rd w) : Calls Try.prog 18 #[A6 a, A6 b] w (SP a.tr b.tr w) := rsame_any a.tr a b w rfl h h'

def labA : Lab := ⟨7, 2, ⟨#[]⟩, 0, 0⟩
def vA : Vn := ⟨labA, none, 0, 0, []⟩
theorem vA_rd (w : World) : vA.Rd w := ⟨⟨rfl, Nat.le_refl _, by show 0 ≤ _; omega, fun _ => rfl, .inl rfl⟩, ⟨⟨by decide, by decide⟩, ⟨by decide, by decide⟩, i64_0, i64_0⟩⟩
theorem vA_shift : okS 3 1 vA.tr = true ∧ shT 3 1 vA.tr = .mk ⟨7, 5, ⟨#[]⟩, 0, 0⟩ [] := by
  have h := okS_in (by' := 3) (fr := 1) (t := vA.tr) (by decide) (lo_up (by decide) _ _)
  refine ⟨h.1, h.2.trans ?_⟩
  show sh 3 1 (.mk labA []) 0 = _
  rw [sh_mk, if_pos (show labA.k = 7 from rfl)]
  have : mv 3 1 labA 0 = ⟨7, 5, ⟨#[]⟩, 0, 0⟩ := by
    unfold mv
    rw [if_pos (by decide)]
    rfl
  rw [this]

set_option maxRecDepth 100000 in
set_option maxHeartbeats 2000000 in
theorem awake14 (w : World) : Calls Try.prog 30 #[] w (Good w) := by
  go_enter Try.func30, Try.ntmps30
  go_wp2_with fail
  refine (pshift_any 3 1 vA w (vA_rd w) (by show Tr.size (.mk labA []) ≤ _; simp [Tr.size_mk])).mono ?_
  rintro e w2 ⟨⟨rx, ra, rm, rc, rl⟩, rfl, hrt, hrd, hb2⟩
  rw [vA_shift.1]
  have hrx : rx = ⟨7, 5, ⟨#[]⟩, 0, 0⟩ := by
    rw [vA_shift.2] at hrt
    exact (Tr.mk.inj hrt).1
  subst hrx
  have HB := Lib.hid (hb2.alloc hb2.size (.cells #[.int .i64 7, .int .i64 5, .string ⟨#[]⟩, .slice ra rm rc, .int .i64 0, .int .i64 0] 24))
  clear hb2 hrt hrd
  go_wp2
  go_ret
  exact ⟨rfl, HB.out⟩

set_option maxRecDepth 100000 in
set_option maxHeartbeats 8000000 in
theorem law_moves (v : Vn) (by' fr : Int) (w : World) (hv : v.Rd w) (hb0 : te.I64 by') (hf0 : te.I64 fr) : Calls Try.prog 6 #[v.val, .int .i64 by', .int .i64 fr] w (Good w) := by
  have HW := Lib.hid (below_alloc w (.cells #[.int .i64 v.x.k, .int .i64 v.x.n, .string v.x.s, .slice v.a v.m v.c, .int .i64 v.x.f, .int .i64 v.x.t] 24))
  have HZ : Hid (VB (w.alloc (.cells #[.int .i64 v.x.k, .int .i64 v.x.n, .string v.x.s, .slice v.a v.m v.c, .int .i64 v.x.f, .int .i64 v.x.t] 24)) w.heap.size v) := vb_new w v
  have HV := Lib.hid hv; have HF := Lib.hid hf0
  clear hv hb0 hf0
  unfold Vn.val
  go_enter Try.func6, Try.ntmps6
  go_upto_region 1 with fail
  generalize hWW : w.alloc (.cells #[.int .i64 v.x.k, .int .i64 v.x.n, .string v.x.s, .slice v.a v.m v.c, .int .i64 v.x.f, .int .i64 v.x.t] 24) = W at HW HZ ⊢
  clear hWW
  go_wp2_with (refine wpList_load_T rfl _ rfl rfl HZ.out ?_)
  refine (rlarge_any v W (HV.out.below HW.out)).mono ?_
  rintro e w1 ⟨lr, rfl, hl1, hb1⟩
  have HB1 := Lib.hid (HW.out.trans (hb1.mono HW.out.size))
  have HZ1 := Lib.hid (HZ.out.below hb1)
  have HL1 := Lib.hid hl1
  clear hb1 hl1 HZ
  cases lr with
  | true =>
    go_wp2_with fail
    refine (awake14 _).mono ?_
    rintro e w2 ⟨rfl, hb2⟩
    have HB2 := Lib.hid (HB1.out.trans (hb2.mono HB1.out.size))
    clear hb2
    go_wp2
    go_ret
    exact ⟨rfl, HB2.out⟩
  | false =>
  have hsz : v.tr.size ≤ 400 := HL1.out (by trivial)
  have hm : v.m ≤ 100000 := by
    have h1 := HV.out.1.len
    have h2 := Tr.len_size (x := v.x) (l := v.l)
    have h3 : Tr.size (.mk v.x v.l) ≤ 400 := hsz
    omega
  have HSZ : Hid (v.tr.size ≤ 100000) := Lib.hid (by omega)
  have HM := Lib.hid hm
  clear hsz hm HL1
  go_wp2_with (refine wpList_load_T rfl _ rfl rfl HZ1.out ?_)
  refine (pshift_any by' fr v w1 (HV.out.below HB1.out) HSZ.out).mono ?_
  rintro e w2 ⟨r, rfl, hrt, hr, hb2⟩
  have hbA : Below w2.heap.size w2 (w2.alloc (.cells #[.int .i64 r.x.k, .int .i64 r.x.n, .string r.x.s, .slice r.a r.m r.c, .int .i64 r.x.f, .int .i64 r.x.t] 24)) := below_alloc _ _
  have HR := Lib.hid (hr.below hbA)
  have HG : Hid (VB (w2.alloc (.cells #[.int .i64 r.x.k, .int .i64 r.x.n, .string r.x.s, .slice r.a r.m r.c, .int .i64 r.x.f, .int .i64 r.x.t] 24)) w2.heap.size r) := vb_new w2 r
  have HB2 := Lib.hid (HB1.out.trans ((hb2.trans (hbA.mono hb2.size)).mono HB1.out.size))
  have HZ2 := Lib.hid (HZ1.out.below (hb2.trans (hbA.mono hb2.size)))
  have HRT := Lib.hid hrt
  clear hb2 hr hrt hbA HZ1
  go_upto_region 4 with fail
  generalize hW2 : w2.alloc (.cells #[.int .i64 r.x.k, .int .i64 r.x.n, .string r.x.s, .slice r.a r.m r.c, .int .i64 r.x.f, .int .i64 r.x.t] 24) = w3 at HR HG HB2 HZ2 ⊢
  generalize w2.heap.size = g2 at HG ⊢
  clear hW2
  go_wp2_with (refine wpList_load_T rfl _ rfl rfl HZ2.out ?_)
  refine (rshift_any by' fr v w3 (HV.out.below HB2.out) HSZ.out).mono ?_
  rintro e w4 ⟨s, rfl, hst, hs, hb4⟩
  have hbA : Below w4.heap.size w4 (w4.alloc (.cells #[.int .i64 s.x.k, .int .i64 s.x.n, .string s.x.s, .slice s.a s.m s.c, .int .i64 s.x.f, .int .i64 s.x.t] 24)) := below_alloc _ _
  have HS := Lib.hid (hs.below hbA)
  have HGS : Hid (VB (w4.alloc (.cells #[.int .i64 s.x.k, .int .i64 s.x.n, .string s.x.s, .slice s.a s.m s.c, .int .i64 s.x.f, .int .i64 s.x.t] 24)) w4.heap.size s) := vb_new w4 s
  have HKK := Lib.hid (hb4.trans (hbA.mono hb4.size))
  have HST := Lib.hid hst
  clear hb4 hs hst hbA
  go_upto_region 5 with fail
  generalize hW4 : w4.alloc (.cells #[.int .i64 s.x.k, .int .i64 s.x.n, .string s.x.s, .slice s.a s.m s.c, .int .i64 s.x.f, .int .i64 s.x.t] 24) = w5 at HS HGS HKK ⊢
  generalize w4.heap.size = g4 at HGS ⊢
  clear hW4
  have HB5 := Lib.hid (HB2.out.trans (HKK.out.mono HB2.out.size))
  have HZ5 := Lib.hid (HZ2.out.below HKK.out); have HG5 := Lib.hid (HG.out.below HKK.out); have HR5 := Lib.hid (HR.out.below HKK.out)
  clear HKK HZ2 HG HR
  have Kp := Lib.hid (show ∀ V : World, Hid (Below w5.heap.size w5 V) → V.cell? ⟨w.heap.size, 0, none⟩ = some (.int .i64 v.x.k) ∧ V.cell? ⟨w.heap.size, 1, none⟩ = some (.int .i64 v.x.n) ∧ V.cell? ⟨w.heap.size, 2, none⟩ = some (.string v.x.s) ∧ V.cell? ⟨w.heap.size, 3, none⟩ = some (.slice v.a v.m v.c) ∧ V.cell? ⟨w.heap.size, 4, none⟩ = some (.int .i64 v.x.f) ∧ V.cell? ⟨w.heap.size, 5, none⟩ = some (.int .i64 v.x.t) ∧
      V.cell? ⟨g2, 0, none⟩ = some (.int .i64 r.x.k) ∧ V.cell? ⟨g2, 1, none⟩ = some (.int .i64 r.x.n) ∧ V.cell? ⟨g2, 2, none⟩ = some (.string r.x.s) ∧ V.cell? ⟨g2, 3, none⟩ = some (.slice r.a r.m r.c) ∧ V.cell? ⟨g2, 4, none⟩ = some (.int .i64 r.x.f) ∧ V.cell? ⟨g2, 5, none⟩ = some (.int .i64 r.x.t) ∧
      V.cell? ⟨g4, 0, none⟩ = some (.int .i64 s.x.k) ∧ V.cell? ⟨g4, 1, none⟩ = some (.int .i64 s.x.n) ∧ V.cell? ⟨g4, 2, none⟩ = some (.string s.x.s) ∧ V.cell? ⟨g4, 3, none⟩ = some (.slice s.a s.m s.c) ∧ V.cell? ⟨g4, 4, none⟩ = some (.int .i64 s.x.f) ∧ V.cell? ⟨g4, 5, none⟩ = some (.int .i64 s.x.t) from
    fun V h => ⟨(HZ5.out.below h.out).cell 0, (HZ5.out.below h.out).cell 1, (HZ5.out.below h.out).cell 2, (HZ5.out.below h.out).cell 3, (HZ5.out.below h.out).cell 4, (HZ5.out.below h.out).cell 5,
      (HG5.out.below h.out).cell 0, (HG5.out.below h.out).cell 1, (HG5.out.below h.out).cell 2, (HG5.out.below h.out).cell 3, (HG5.out.below h.out).cell 4, (HG5.out.below h.out).cell 5,
      (HGS.out.below h.out).cell 0, (HGS.out.below h.out).cell 1, (HGS.out.below h.out).cell 2, (HGS.out.below h.out).cell 3, (HGS.out.below h.out).cell 4, (HGS.out.below h.out).cell 5⟩)
  have HP := Lib.hid (show ∀ V : World, Hid (Below w5.heap.size w5 V) → Calls Try.prog 18 #[.agg #[.int .i64 r.x.k, .int .i64 r.x.n, .string r.x.s, .slice r.a r.m r.c, .int .i64 r.x.f, .int .i64 r.x.t], .agg #[.int .i64 s.x.k, .int .i64 s.x.n, .string s.x.s, .slice s.a s.m s.c, .int .i64 s.x.f, .int .i64 s.x.t]] V (Good V) from
    fun V h => (placed_s r s V (HR5.out.below h.out) (HS.out.below h.out)).mono fun e w' ⟨b, h1, h2, h3⟩ => ⟨by rw [h1, h2.2 (HRT.out.trans HST.out.symm)], h3⟩)
  have HI := Lib.hid (show ∀ V : World, Hid (Below w5.heap.size w5 V) → Calls Try.prog 33 #[.agg #[.int .i64 v.x.k, .int .i64 v.x.n, .string v.x.s, .slice v.a v.m v.c, .int .i64 v.x.f, .int .i64 v.x.t], .int .i64 fr] V (NP ((inn v.x v.l fr : Nat) : Int) V) from
    fun V h => in_any v fr V ((HV.out.below HB5.out).below h.out) HM.out HF.out.1 HF.out.2)
  have HJ := Lib.hid (show ∀ V : World, Hid (Below w5.heap.size w5 V) → Calls Try.prog 34 #[.agg #[.int .i64 v.x.k, .int .i64 v.x.n, .string v.x.s, .slice v.a v.m v.c, .int .i64 v.x.f, .int .i64 v.x.t], .int .i64 fr] V (NP ((inn v.x v.l fr : Nat) : Int) V) from
    fun V h => rin_any v fr V ((HV.out.below HB5.out).below h.out) HM.out HF.out.1 HF.out.2)
  have K0 : Hid (Below w5.heap.size w5 w5.drew) := Below.drew (Below.refl _ _)
  have KR : Hid (Below w5.heap.size w5 w5) := Below.refl _ _
  generalize okS by' fr v.tr = ok
  generalize ((inn v.x v.l fr : Nat) : Int) = nn at HI HJ
  have hee : (ok == ok) = true := by cases ok <;> rfl
  clear HST HRT HS HR5 HV HM HF HSZ HZ5 HG5 HGS HB1 HB2
  go_region_held3 (fun V => V.cell? ⟨w.heap.size, 0, none⟩ = some (.int .i64 v.x.k) ∧ V.cell? ⟨w.heap.size, 1, none⟩ = some (.int .i64 v.x.n) ∧ V.cell? ⟨w.heap.size, 2, none⟩ = some (.string v.x.s) ∧ V.cell? ⟨w.heap.size, 3, none⟩ = some (.slice v.a v.m v.c) ∧ V.cell? ⟨w.heap.size, 4, none⟩ = some (.int .i64 v.x.f) ∧ V.cell? ⟨w.heap.size, 5, none⟩ = some (.int .i64 v.x.t) ∧
      V.cell? ⟨g2, 0, none⟩ = some (.int .i64 r.x.k) ∧ V.cell? ⟨g2, 1, none⟩ = some (.int .i64 r.x.n) ∧ V.cell? ⟨g2, 2, none⟩ = some (.string r.x.s) ∧ V.cell? ⟨g2, 3, none⟩ = some (.slice r.a r.m r.c) ∧ V.cell? ⟨g2, 4, none⟩ = some (.int .i64 r.x.f) ∧ V.cell? ⟨g2, 5, none⟩ = some (.int .i64 r.x.t) ∧
      V.cell? ⟨g4, 0, none⟩ = some (.int .i64 s.x.k) ∧ V.cell? ⟨g4, 1, none⟩ = some (.int .i64 s.x.n) ∧ V.cell? ⟨g4, 2, none⟩ = some (.string s.x.s) ∧ V.cell? ⟨g4, 3, none⟩ = some (.slice s.a s.m s.c) ∧ V.cell? ⟨g4, 4, none⟩ = some (.int .i64 s.x.f) ∧ V.cell? ⟨g4, 5, none⟩ = some (.int .i64 s.x.t))
    (with_reducible first | exact Kp.out _ KR | exact Kp.out _ K0 | exact Kp.out _ KD | exact Kp.out _ KC | exact Kp.out _ KB | exact Kp.out _ KA)
    (first
      | (go_at_call 18; (with_reducible refine (HP.out _ K0).mono ?_); rintro e wa ⟨rfl, hba⟩; have KA : Hid (Below w5.heap.size w5 wa) := K0.out.trans (hba.mono K0.out.size); clear hba)
      | (go_at_call 33; (with_reducible refine (HI.out _ KA).mono ?_); rintro e wb ⟨rfl, hbb⟩; have KB : Hid (Below w5.heap.size w5 wb) := KA.out.trans (hbb.mono KA.out.size); clear hbb)
      | (go_at_call 34; (with_reducible refine (HJ.out _ KB).mono ?_); rintro e wc ⟨rfl, hbc⟩; have KC : Hid (Below w5.heap.size w5 wc) := KB.out.trans (hbc.mono KB.out.size); clear hbc)
      | (go_at_call 30; (with_reducible refine (awake14 _).mono ?_); rintro e wd ⟨rfl, hbd⟩; have KD : Hid (Below w5.heap.size w5 wd) := KC.out.trans (hbd.mono KC.out.size); clear hbd))
  have HBD := Lib.hid (HB5.out.trans (KD.out.mono HB5.out.size))
  clear Kp HP HI HJ KA KB KC KD K0 KR
  go_wp2
  go_ret
  exact ⟨rfl, HBD.out⟩
end Go.Proofs.Ytbpjaidfpacbfaa.te
