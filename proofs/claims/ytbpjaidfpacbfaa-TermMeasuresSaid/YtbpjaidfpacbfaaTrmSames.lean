/-
  Layer 6: TermSames.
-/
import Derived.Test.YtbpjaidfpacbfaaTrmBare
import Derived.Test.YtbpjaidfpacbfaaTrmSize
namespace Go.Proofs.Ytbpjaidfpacbfaa.te
open Go.ChangeShapes Go.WideShapes Go.ChangeAt Go.RowKit
open bs tr
set_option linter.unusedVariables false

/-- What a law ends in. -/
def Good (w : World) (e : Ending) (w' : World) : Prop := e = .returned (.bool true) ∧ Below w.heap.size w w'

abbrev A6 (v : Vn) : Value := .agg #[.int .i64 v.x.k, .int .i64 v.x.n, .string v.x.s, .slice v.a v.m v.c, .int .i64 v.x.f, .int .i64 v.x.t]
theorem like_x (a b : Vn) (w : World) (h : a.Rd w) (h' : b.Rd w) : Calls Try.prog 28 #[A6 a, A6 b] w (SPk noPl a.tr b.tr w) := like_any a.tr a b w rfl h h'
theorem rlike_x (a b : Vn) (w : World) (h : a.Rd w) (h' : b.Rd w) : Calls Try.prog 29 #[A6 a, A6 b] w (SPk noPl a.tr b.tr w) := rlike_any a.tr a b w rfl h h'
theorem bare_x (a : Vn) (w : World) (h : a.Rd w) (hsz : a.tr.size ≤ 100000) : Calls Try.prog 19 #[A6 a] w (PXe (key noPl a.tr) w.heap.size w) := bare_any a.tr a w.heap.size w rfl h.rs (Nat.le_refl _) hsz
theorem same_bool {a b : Bool} {P Q : Prop} (ha : a = true ↔ P) (hb : b = true ↔ Q) (h : P ↔ Q) : a = b := by
  cases a <;> cases b <;> simp_all

set_option maxRecDepth 100000 in
set_option maxHeartbeats 8000000 in
theorem law_sames (v x : Vn) (pa : Option Addr) (n c : Nat) (p : List Int) (w : World) (hv : v.Rd w) (hx : x.Rd w) (hp : I64s w pa n c p) : Calls Try.prog 5 #[v.val, x.val, .slice pa n c] w (Good w) := by
  have hlen := hp.len; have hcap := hp.cap; have hmost := hp.most
  have hW1 : Below w.heap.size w ((w.alloc (.cells #[.int .i64 v.x.k, .int .i64 v.x.n, .string v.x.s, .slice v.a v.m v.c, .int .i64 v.x.f, .int .i64 v.x.t] 24)).alloc (.cells #[.int .i64 x.x.k, .int .i64 x.x.n, .string x.x.s, .slice x.a x.m x.c, .int .i64 x.x.f, .int .i64 x.x.t] 24)) := ((Below.refl _ _).alloc (Nat.le_refl _) _).alloc (by simp) _
  have hZ : VB ((w.alloc (.cells #[.int .i64 v.x.k, .int .i64 v.x.n, .string v.x.s, .slice v.a v.m v.c, .int .i64 v.x.f, .int .i64 v.x.t] 24)).alloc (.cells #[.int .i64 x.x.k, .int .i64 x.x.n, .string x.x.s, .slice x.a x.m x.c, .int .i64 x.x.f, .int .i64 x.x.t] 24)) w.heap.size v := (vb_new w v).below (below_alloc _ _)
  have hX : VB ((w.alloc (.cells #[.int .i64 v.x.k, .int .i64 v.x.n, .string v.x.s, .slice v.a v.m v.c, .int .i64 v.x.f, .int .i64 v.x.t] 24)).alloc (.cells #[.int .i64 x.x.k, .int .i64 x.x.n, .string x.x.s, .slice x.a x.m x.c, .int .i64 x.x.f, .int .i64 x.x.t] 24)) (w.heap.size + 1) x := by
    have h := vb_new (w.alloc (.cells #[.int .i64 v.x.k, .int .i64 v.x.n, .string v.x.s, .slice v.a v.m v.c, .int .i64 v.x.f, .int .i64 v.x.t] 24)) x
    rwa [size_alloc] at h
  have HW := Lib.hid hW1; have HZ := Lib.hid hZ; have HX := Lib.hid hX
  have HV := Lib.hid hv; have HXR := Lib.hid hx; have HP := Lib.hid hp; have HLN := Lib.hid hlen
  clear hv hx hp hW1 hZ hX hlen
  unfold Vn.val
  go_enter Try.func5, Try.ntmps5
  go_upto_region 1 with fail
  generalize hWW : (w.alloc (.cells #[.int .i64 v.x.k, .int .i64 v.x.n, .string v.x.s, .slice v.a v.m v.c, .int .i64 v.x.f, .int .i64 v.x.t] 24)).alloc (.cells #[.int .i64 x.x.k, .int .i64 x.x.n, .string x.x.s, .slice x.a x.m x.c, .int .i64 x.x.f, .int .i64 x.x.t] 24) = W at HW HZ HX ⊢
  clear hWW
  go_wp2_with (refine wpList_load_T rfl _ rfl rfl HZ.out ?_)
  refine (rlarge_any v W (HV.out.below HW.out)).mono ?_
  rintro e w1 ⟨lr, rfl, hl1, hb1⟩
  have HB1 := Lib.hid (HW.out.trans (hb1.mono HW.out.size))
  have HWB := Lib.hid hb1
  have HL1 := Lib.hid hl1
  clear hb1 hl1
  cases lr with
  | true =>
    go_wp2_with fail
    refine (awake_any _).mono ?_
    rintro e w2 ⟨rfl, hb2⟩
    have HB2 := Lib.hid (HB1.out.trans (hb2.mono HB1.out.size))
    clear hb2
    go_wp2
    go_ret
    exact ⟨rfl, HB2.out⟩
  | false =>
  have HX1 := Lib.hid (HX.out.below HWB.out)
  have r0 := HX1.out.cell 0; have r1 := HX1.out.cell 1; have r2 := HX1.out.cell 2; have r3 := HX1.out.cell 3; have r4 := HX1.out.cell 4; have r5 := HX1.out.cell 5
  simp at r0 r1 r2 r3 r4 r5
  go_wp2_with fail
  refine (rlarge_any x w1 (HXR.out.below HB1.out)).mono ?_
  rintro e w2 ⟨lr, rfl, hl2, hb2⟩
  have HB2 := Lib.hid (HB1.out.trans (hb2.mono HB1.out.size))
  have HWB2 := Lib.hid (HWB.out.trans (hb2.mono HWB.out.size))
  clear hb2 hl2 r0 r1 r2 r3 r4 r5
  cases lr with
  | true =>
    go_wp2_with fail
    refine (awake_any _).mono ?_
    rintro e w3 ⟨rfl, hb3⟩
    have HB3 := Lib.hid (HB2.out.trans (hb3.mono HB2.out.size))
    clear hb3
    go_wp2
    go_ret
    exact ⟨rfl, HB3.out⟩
  | false =>
  by_cases hn : 100 < n
  · go_wp2_with fail
    refine (awake_any _).mono ?_
    rintro e w3 ⟨rfl, hb3⟩
    have HB3 := Lib.hid (HB2.out.trans (hb3.mono HB2.out.size))
    clear hb3
    go_wp2
    go_ret
    exact ⟨rfl, HB3.out⟩
  have hszv : v.tr.size ≤ 1000 := by have := HL1.out (by trivial); omega
  have HZ2 := Lib.hid (HZ.out.below HWB2.out); have HX2 := Lib.hid (HX.out.below HWB2.out)
  clear HZ HX HL1 HX1 HWB HWB2
  go_upto_region 3 with fail
  have hKeep : ∀ V : World, Hid (Below w2.heap.size w2 V) → V.cell? ⟨w.heap.size, 0, none⟩ = some (.int .i64 v.x.k) ∧ V.cell? ⟨w.heap.size, 1, none⟩ = some (.int .i64 v.x.n) ∧ V.cell? ⟨w.heap.size, 2, none⟩ = some (.string v.x.s) ∧ V.cell? ⟨w.heap.size, 3, none⟩ = some (.slice v.a v.m v.c) ∧ V.cell? ⟨w.heap.size, 4, none⟩ = some (.int .i64 v.x.f) ∧ V.cell? ⟨w.heap.size, 5, none⟩ = some (.int .i64 v.x.t) ∧
      V.cell? ⟨w.heap.size + 1, 0, none⟩ = some (.int .i64 x.x.k) ∧ V.cell? ⟨w.heap.size + 1, 1, none⟩ = some (.int .i64 x.x.n) ∧ V.cell? ⟨w.heap.size + 1, 2, none⟩ = some (.string x.x.s) ∧ V.cell? ⟨w.heap.size + 1, 3, none⟩ = some (.slice x.a x.m x.c) ∧ V.cell? ⟨w.heap.size + 1, 4, none⟩ = some (.int .i64 x.x.f) ∧ V.cell? ⟨w.heap.size + 1, 5, none⟩ = some (.int .i64 x.x.t) := fun V hV =>
    ⟨(HZ2.out.below hV.out).cell 0, (HZ2.out.below hV.out).cell 1, (HZ2.out.below hV.out).cell 2, (HZ2.out.below hV.out).cell 3, (HZ2.out.below hV.out).cell 4, (HZ2.out.below hV.out).cell 5, (HX2.out.below hV.out).cell 0, (HX2.out.below hV.out).cell 1, (HX2.out.below hV.out).cell 2, (HX2.out.below hV.out).cell 3, (HX2.out.below hV.out).cell 4, (HX2.out.below hV.out).cell 5⟩
  have Kp := Lib.hid hKeep
  have HVD := Lib.hid (show ∀ V : World, Hid (Below w2.heap.size w2 V) → v.Rd V from fun V h => (HV.out.below HB2.out).below h.out)
  have HXD := Lib.hid (show ∀ V : World, Hid (Below w2.heap.size w2 V) → x.Rd V from fun V h => (HXR.out.below HB2.out).below h.out)
  have HSZ : Hid (v.tr.size ≤ 100000) := Lib.hid (by omega)
  have K0 : Hid (Below w2.heap.size w2 w2.drew) := Below.drew (Below.refl _ _)
  have KR : Hid (Below w2.heap.size w2 w2) := Below.refl _ _
  clear hKeep
  go_region_held3 (fun V => V.cell? ⟨w.heap.size, 0, none⟩ = some (.int .i64 v.x.k) ∧ V.cell? ⟨w.heap.size, 1, none⟩ = some (.int .i64 v.x.n) ∧ V.cell? ⟨w.heap.size, 2, none⟩ = some (.string v.x.s) ∧ V.cell? ⟨w.heap.size, 3, none⟩ = some (.slice v.a v.m v.c) ∧ V.cell? ⟨w.heap.size, 4, none⟩ = some (.int .i64 v.x.f) ∧ V.cell? ⟨w.heap.size, 5, none⟩ = some (.int .i64 v.x.t) ∧
      V.cell? ⟨w.heap.size + 1, 0, none⟩ = some (.int .i64 x.x.k) ∧ V.cell? ⟨w.heap.size + 1, 1, none⟩ = some (.int .i64 x.x.n) ∧ V.cell? ⟨w.heap.size + 1, 2, none⟩ = some (.string x.x.s) ∧ V.cell? ⟨w.heap.size + 1, 3, none⟩ = some (.slice x.a x.m x.c) ∧ V.cell? ⟨w.heap.size + 1, 4, none⟩ = some (.int .i64 x.x.f) ∧ V.cell? ⟨w.heap.size + 1, 5, none⟩ = some (.int .i64 x.x.t))
    (with_reducible first | exact Kp.out _ KR | exact Kp.out _ K0 | exact Kp.out _ KD | exact Kp.out _ KC | exact Kp.out _ KB | exact Kp.out _ KA)
    (first
      | (go_at_call 28; (with_reducible refine (like_x v x _ (HVD.out _ K0) (HXD.out _ K0)).mono ?_); rintro e wa ⟨r1, rfl, hr1, hba⟩; have KA : Hid (Below w2.heap.size w2 wa) := K0.out.trans (hba.mono K0.out.size); have HR1 := Lib.hid hr1; clear hr1 hba)
      | (go_at_call 29; (with_reducible refine (rlike_x v x _ (HVD.out _ KA) (HXD.out _ KA)).mono ?_); rintro e wb ⟨r2, rfl, hr2, hbb⟩; (obtain rfl : r2 = r1 := same_bool hr2 HR1.out Iff.rfl); have KB : Hid (Below w2.heap.size w2 wb) := KA.out.trans (hbb.mono KA.out.size); have dne : (r2 != r2) = false := bne_self_eq_false r2; clear hr2 hbb)
      | (go_at_call 19; (with_reducible refine (bare_x v _ (HVD.out _ KB) HSZ.out).mono ?_); rintro e wc ⟨s, rfl, hts, hrs, hbc⟩; have KC : Hid (Below w2.heap.size w2 wc) := KB.out.trans (hbc.mono KB.out.size); have HTS := Lib.hid hts; have HRS := Lib.hid hrs.rd'; clear hts hrs hbc)
      | (go_at_call 28; (with_reducible refine (like_x v s _ (HVD.out _ KC) HRS.out).mono ?_); rintro e wd ⟨r3, rfl, hr3, hbd⟩; (obtain rfl : r3 = true := hr3.2 (by rw [HTS.out, key_idem])); have KD : Hid (Below w2.heap.size w2 wd) := KC.out.trans (hbd.mono KC.out.size); clear hr3 hbd))
  have HBD := Lib.hid (HB2.out.trans (KD.out.mono HB2.out.size))
  have HZD := Lib.hid (HZ2.out.below KD.out)
  clear Kp HVD HXD KA KB KC K0 KR HZ2 HX2 HRS HTS HR1
  go_wp2_with (refine wpList_load_T rfl _ rfl rfl HZD.out ?_)
  refine (get_any v pa n c p wd (HV.out.below HBD.out) (HP.out.below HBD.out)).mono ?_
  rintro e w3 ⟨u, ok, rfl, hb3, hu, h1, h2⟩
  have hbA : Below w3.heap.size w3 (w3.alloc (.cells #[.int .i64 u.x.k, .int .i64 u.x.n, .string u.x.s, .slice u.a u.m u.c, .int .i64 u.x.f, .int .i64 u.x.t] 24)) := below_alloc _ _
  have HU := Lib.hid (hu.below hbA)
  have HG3 : Hid (VB (w3.alloc (.cells #[.int .i64 u.x.k, .int .i64 u.x.n, .string u.x.s, .slice u.a u.m u.c, .int .i64 u.x.f, .int .i64 u.x.t] 24)) w3.heap.size u) := vb_new w3 u
  have HK3 := Lib.hid (hb3.trans (hbA.mono hb3.size))
  have H1 := Lib.hid h1
  clear hb3 hu h1 h2 hbA
  unfold Vn.val
  go_upto_region 6 with fail
  generalize hW3 : w3.alloc (.cells #[.int .i64 u.x.k, .int .i64 u.x.n, .string u.x.s, .slice u.a u.m u.c, .int .i64 u.x.f, .int .i64 u.x.t] 24) = w4 at HU HG3 HK3 ⊢
  generalize w3.heap.size = g3 at HG3 ⊢
  clear hW3
  have HB4 := Lib.hid (HBD.out.trans (HK3.out.mono HBD.out.size))
  have HZ4 := Lib.hid (HZD.out.below HK3.out)
  clear HK3 HZD KD
  cases ok with
  | false =>
    go_wp2_with fail
    refine (awake_any _).mono ?_
    rintro e w5 ⟨rfl, hb5⟩
    have HB5 := Lib.hid (HB4.out.trans (hb5.mono HB4.out.size))
    clear hb5
    go_wp2
    go_ret
    exact ⟨rfl, HB5.out⟩
  | true =>
  have hat := H1.out (by trivial)
  have HAT := Lib.hid hat
  clear hat H1
  go_wp2_with (first | (refine wpList_load_T rfl _ rfl rfl HZ4.out ?_) | (refine wpList_load_T rfl _ rfl rfl HG3.out ?_))
  refine (pset_any v u pa n c p w4 (HV.out.below HB4.out) HU.out (HP.out.below HB4.out) hszv).mono ?_
  rintro e w5 ⟨y, ok2, rfl, hb5, hy, h1, h2⟩
  have hok : ok2 = true := by
    cases ok2 with
    | true => rfl
    | false => have := (h2 rfl).1; rw [HAT.out] at this; cases this
  subst hok
  have hyt : y.tr = v.tr := by rw [(h1 rfl).2]; exact Tr.put_same p HAT.out
  have hbA : Below w5.heap.size w5 (w5.alloc (.cells #[.int .i64 y.x.k, .int .i64 y.x.n, .string y.x.s, .slice y.a y.m y.c, .int .i64 y.x.f, .int .i64 y.x.t] 24)) := below_alloc _ _
  have HYR := Lib.hid (hy.below hbA)
  have HG5 : Hid (VB (w5.alloc (.cells #[.int .i64 y.x.k, .int .i64 y.x.n, .string y.x.s, .slice y.a y.m y.c, .int .i64 y.x.f, .int .i64 y.x.t] 24)) w5.heap.size y) := vb_new w5 y
  have HK5 := Lib.hid (hb5.trans (hbA.mono hb5.size))
  have HYT := Lib.hid hyt
  clear hb5 hy h1 h2 hbA hyt
  unfold Vn.val
  go_upto_region 9 with fail
  generalize hW5 : w5.alloc (.cells #[.int .i64 y.x.k, .int .i64 y.x.n, .string y.x.s, .slice y.a y.m y.c, .int .i64 y.x.f, .int .i64 y.x.t] 24) = w6 at HYR HG5 HK5 ⊢
  generalize w5.heap.size = g5 at HG5 ⊢
  clear hW5
  have HB6 := Lib.hid (HB4.out.trans (HK5.out.mono HB4.out.size))
  have HZ6 := Lib.hid (HZ4.out.below HK5.out)
  clear HK5 HZ4 HG3
  have r0 := HZ6.out.cell 0; have r1 := HZ6.out.cell 1; have r2 := HZ6.out.cell 2; have r3 := HZ6.out.cell 3; have r4 := HZ6.out.cell 4; have r5 := HZ6.out.cell 5
  have s0 := HG5.out.cell 0; have s1 := HG5.out.cell 1; have s2 := HG5.out.cell 2; have s3 := HG5.out.cell 3; have s4 := HG5.out.cell 4; have s5 := HG5.out.cell 5
  simp at r0 r1 r2 r3 r4 r5 s0 s1 s2 s3 s4 s5
  go_wp2_with fail
  refine (like_x v y w6 (HV.out.below HB6.out) HYR.out).mono ?_
  rintro e w7 ⟨r, rfl, hr, hb7⟩
  obtain rfl : r = true := hr.2 (by rw [HYT.out])
  have HB7 := Lib.hid (HB6.out.trans (hb7.mono HB6.out.size))
  clear hr hb7 r0 r1 r2 r3 r4 r5 s0 s1 s2 s3 s4 s5
  go_wp2_with fail
  refine (awake_any _).mono ?_
  rintro e w8 ⟨rfl, hb8⟩
  have HB8 := Lib.hid (HB7.out.trans (hb8.mono HB7.out.size))
  clear hb8
  go_wp2
  go_ret
  exact ⟨rfl, HB8.out⟩
end Go.Proofs.Ytbpjaidfpacbfaa.te
