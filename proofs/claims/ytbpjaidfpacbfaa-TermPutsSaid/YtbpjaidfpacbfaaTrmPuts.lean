/-
  Layer 6: TermPuts.
-/
import Derived.Test.YtbpjaidfpacbfaaTrmPutsO
namespace Go.Proofs.Ytbpjaidfpacbfaa.te
open Go.ChangeShapes Go.WideShapes Go.ChangeAt Go.RowKit
open bs tr
set_option linter.unusedVariables false

theorem below_dd (w : World) (o o' : Obj) : Hid (Below w.heap.size w ((w.alloc o).alloc o').drew) := Below.drew (((Below.refl _ _).alloc (Nat.le_refl _) o).alloc (by rw [size_alloc]; omega) o')
theorem rel1a (W : World) (v x : Vn) : Hid (Rel1 W ((W.alloc (.cells #[.int .i64 v.x.k, .int .i64 v.x.n, .string v.x.s, .slice v.a v.m v.c, .int .i64 v.x.f, .int .i64 v.x.t] 24)).alloc (.cells #[.int .i64 x.x.k, .int .i64 x.x.n, .string x.x.s, .slice x.a x.m x.c, .int .i64 x.x.f, .int .i64 x.x.t] 24)).drew W.heap.size (W.heap.size + 1) v x) := by
  refine ⟨((vb_new W v).below (below_alloc _ _)).below (Below.drew (Below.refl _ _)), ?_, (below_dd W _ _).out⟩
  have h := (vb_new (W.alloc (.cells #[.int .i64 v.x.k, .int .i64 v.x.n, .string v.x.s, .slice v.a v.m v.c, .int .i64 v.x.f, .int .i64 v.x.t] 24)) x).below (Below.drew (Below.refl _ _))
  rwa [size_alloc] at h
theorem rel1b (W : World) (v x : Vn) : Hid (Rel1 W ((W.alloc (.cells #[.int .i64 x.x.k, .int .i64 x.x.n, .string x.x.s, .slice x.a x.m x.c, .int .i64 x.x.f, .int .i64 x.x.t] 24)).alloc (.cells #[.int .i64 v.x.k, .int .i64 v.x.n, .string v.x.s, .slice v.a v.m v.c, .int .i64 v.x.f, .int .i64 v.x.t] 24)).drew (W.heap.size + 1) W.heap.size v x) := by
  refine ⟨?_, ((vb_new W x).below (below_alloc _ _)).below (Below.drew (Below.refl _ _)), (below_dd W _ _).out⟩
  have h := (vb_new (W.alloc (.cells #[.int .i64 x.x.k, .int .i64 x.x.n, .string x.x.s, .slice x.a x.m x.c, .int .i64 x.x.f, .int .i64 x.x.t] 24)) v).below (Below.drew (Below.refl _ _))
  rwa [size_alloc] at h
theorem placed_x (a b : Vn) (w : World) (h : a.Rd w) (h' : b.Rd w) : Calls Try.prog 18 #[A6 a, A6 b] w (SP a.tr b.tr w) := rsame_any a.tr a b w rfl h h'
def RXe (t : VT) (w : World) (e : Ending) (w' : World) : Prop := ∃ r : Vn, e = .returned (A6 r) ∧ r.tr = t ∧ r.Rd w' ∧ Below w.heap.size w w'
theorem rat_x (p : List Int) (v : Vn) (u : VT) (pa : Option Addr) (n c : Nat) (w : World) (hat : Tr.at' v.tr p = some u) (hv : v.Rd w) (hp : I64s w pa n c p) : Calls Try.prog 25 #[A6 v, .slice pa n c] w (RXe u w) :=
  (rget_any (· < w.heap.size) p v u pa n c w hat hv.rs (fun _ h => h) hp).mono fun e w' ⟨x, h1, h2, h3, h4⟩ => ⟨x, h1, h2, h3.rd', h4⟩
theorem rput_x (p : List Int) (v x : Vn) (u : VT) (pa : Option Addr) (n c : Nat) (w : World) (hat : Tr.at' v.tr p = some u) (hv : v.Rd w) (hx : x.Rd w) (hsz : v.tr.size ≤ 1000) (hp : I64s w pa n c p) : Calls Try.prog 26 #[A6 v, .slice pa n c, A6 x] w (RXe (Tr.put v.tr p x.tr) w) :=
  (rset_any p v x u w.heap.size pa n c w hat hv.rs hx.rs (Nat.le_refl _) hsz hp).mono fun e w' ⟨r, h1, h2, h3, h4⟩ => ⟨r, h1, h2, h3.rd', h4⟩
theorem size_x (a : Vn) (k : Nat) (w : World) (h : a.Rd w) (hk : a.tr.size = k) (hsz : k ≤ 100000) : Calls Try.prog 14 #[A6 a] w (ZP k w) := by
  subst hk; exact size_any a w h hsz

set_option maxRecDepth 100000 in
set_option maxHeartbeats 8000000 in
theorem law_puts (q : Pt) (w : World) (hq : q.Rd w) : Calls Try.prog 4 #[q.val] w (Good w) := by
  obtain ⟨v, pa, n, c, p, x, oa, on, oc, o⟩ := q
  obtain ⟨hv, hp, hx, ho⟩ := hq
  dsimp only at hv hp hx ho
  have hlen := hp.len; have hcap := hp.cap; have hmost := hp.most; have hcap' := ho.cap; have hmost' := ho.most
  have HV := Lib.hid hv; have HXR := Lib.hid hx; have HP := Lib.hid hp; have HO := Lib.hid ho
  have hWb : Below w.heap.size w (w.alloc (.cells #[.int .i64 v.x.k, .int .i64 v.x.n, .string v.x.s, .slice v.a v.m v.c, .int .i64 v.x.f, .int .i64 v.x.t, .slice pa n c, .int .i64 x.x.k, .int .i64 x.x.n, .string x.x.s, .slice x.a x.m x.c, .int .i64 x.x.f, .int .i64 x.x.t, .slice oa on oc] 35)) := below_alloc _ _
  have hBx : Blk (w.alloc (.cells #[.int .i64 v.x.k, .int .i64 v.x.n, .string v.x.s, .slice v.a v.m v.c, .int .i64 v.x.f, .int .i64 v.x.t, .slice pa n c, .int .i64 x.x.k, .int .i64 x.x.n, .string x.x.s, .slice x.a x.m x.c, .int .i64 x.x.f, .int .i64 x.x.t, .slice oa on oc] 35)) w.heap.size #[.int .i64 v.x.k, .int .i64 v.x.n, .string v.x.s, .slice v.a v.m v.c, .int .i64 v.x.f, .int .i64 v.x.t, .slice pa n c, .int .i64 x.x.k, .int .i64 x.x.n, .string x.x.s, .slice x.a x.m x.c, .int .i64 x.x.f, .int .i64 x.x.t, .slice oa on oc] 35 := Blk.new w _ _
  have HW := Lib.hid hWb; have HBX := Lib.hid hBx
  clear hv hx hp ho hlen hWb hBx
  unfold Pt.val
  go_enter Try.func4, Try.ntmps4
  go_upto_region 1 with fail
  try dsimp only
  generalize hWW : w.alloc (.cells #[.int .i64 v.x.k, .int .i64 v.x.n, .string v.x.s, .slice v.a v.m v.c, .int .i64 v.x.f, .int .i64 v.x.t, .slice pa n c, .int .i64 x.x.k, .int .i64 x.x.n, .string x.x.s, .slice x.a x.m x.c, .int .i64 x.x.f, .int .i64 x.x.t, .slice oa on oc] 35) = W at HW HBX ⊢
  clear hWW
  have Kp := Lib.hid (show ∀ V : World, Hid (Below W.heap.size W V) → V.cell? ⟨w.heap.size, 0, none⟩ = some (.int .i64 v.x.k) ∧ V.cell? ⟨w.heap.size, 1, none⟩ = some (.int .i64 v.x.n) ∧ V.cell? ⟨w.heap.size, 2, none⟩ = some (.string v.x.s) ∧ V.cell? ⟨w.heap.size, 3, none⟩ = some (.slice v.a v.m v.c) ∧ V.cell? ⟨w.heap.size, 4, none⟩ = some (.int .i64 v.x.f) ∧ V.cell? ⟨w.heap.size, 5, none⟩ = some (.int .i64 v.x.t) ∧ V.cell? ⟨w.heap.size, 6, none⟩ = some (.slice pa n c) ∧ V.cell? ⟨w.heap.size, 7, none⟩ = some (.int .i64 x.x.k) ∧ V.cell? ⟨w.heap.size, 8, none⟩ = some (.int .i64 x.x.n) ∧ V.cell? ⟨w.heap.size, 9, none⟩ = some (.string x.x.s) ∧ V.cell? ⟨w.heap.size, 10, none⟩ = some (.slice x.a x.m x.c) ∧ V.cell? ⟨w.heap.size, 11, none⟩ = some (.int .i64 x.x.f) ∧ V.cell? ⟨w.heap.size, 12, none⟩ = some (.int .i64 x.x.t) ∧ V.cell? ⟨w.heap.size, 13, none⟩ = some (.slice oa on oc) from fun V h => ⟨(HBX.out.below h.out).cell 0, (HBX.out.below h.out).cell 1, (HBX.out.below h.out).cell 2, (HBX.out.below h.out).cell 3, (HBX.out.below h.out).cell 4, (HBX.out.below h.out).cell 5, (HBX.out.below h.out).cell 6, (HBX.out.below h.out).cell 7, (HBX.out.below h.out).cell 8, (HBX.out.below h.out).cell 9, (HBX.out.below h.out).cell 10, (HBX.out.below h.out).cell 11, (HBX.out.below h.out).cell 12, (HBX.out.below h.out).cell 13⟩)
  have KR : Hid (Below W.heap.size W W) := Below.refl _ _
  have K0 : Hid (Below W.heap.size W W.drew) := Below.drew (Below.refl _ _)
  go_cut [3, 4, 5, 6] from 17 to 24 (fun s3 s4 s5 s6 wx => ∃ (g3 g5 : Nat), s3 = .pointer (some ⟨g3, 0, none⟩) ∧ s4 = .slice pa n c ∧ s5 = .pointer (some ⟨g5, 0, none⟩) ∧ s6 = .slice oa on oc ∧ Hid (Rel1 W wx g3 g5 v x))
  case first =>
    go_region_held3 (fun V => V.cell? ⟨w.heap.size, 0, none⟩ = some (.int .i64 v.x.k) ∧ V.cell? ⟨w.heap.size, 1, none⟩ = some (.int .i64 v.x.n) ∧ V.cell? ⟨w.heap.size, 2, none⟩ = some (.string v.x.s) ∧ V.cell? ⟨w.heap.size, 3, none⟩ = some (.slice v.a v.m v.c) ∧ V.cell? ⟨w.heap.size, 4, none⟩ = some (.int .i64 v.x.f) ∧ V.cell? ⟨w.heap.size, 5, none⟩ = some (.int .i64 v.x.t) ∧ V.cell? ⟨w.heap.size, 6, none⟩ = some (.slice pa n c) ∧ V.cell? ⟨w.heap.size, 7, none⟩ = some (.int .i64 x.x.k) ∧ V.cell? ⟨w.heap.size, 8, none⟩ = some (.int .i64 x.x.n) ∧ V.cell? ⟨w.heap.size, 9, none⟩ = some (.string x.x.s) ∧ V.cell? ⟨w.heap.size, 10, none⟩ = some (.slice x.a x.m x.c) ∧ V.cell? ⟨w.heap.size, 11, none⟩ = some (.int .i64 x.x.f) ∧ V.cell? ⟨w.heap.size, 12, none⟩ = some (.int .i64 x.x.t) ∧ V.cell? ⟨w.heap.size, 13, none⟩ = some (.slice oa on oc))
      (with_reducible first | exact Kp.out _ KR | exact Kp.out _ K0 | exact Kp.out _ (below_al K0 _) | exact Kp.out _ (below_al (below_al K0 _) _) | exact Kp.out _ (below_da W _) | exact Kp.out _ (below_dd W _ _))
      (first | fail)
    all_goals
      go_wp2_with fail
      go_meet
      first
        | exact ⟨_, _, rfl, rfl, rfl, rfl, rel1a W v x⟩
        | exact ⟨_, _, rfl, rfl, rfl, rfl, rel1b W v x⟩
  case rest =>
    obtain ⟨g3, g5, rfl, rfl, rfl, rfl, HR⟩ := hcut
    have HB0 := Lib.hid (HW.out.trans (HR.out.below.mono HW.out.size))
    have HT := Lib.hid HR.out.t; have HX := Lib.hid HR.out.x
    clear HR Kp KR K0 HBX HW
    go_wp2_with (refine wpList_load_T rfl _ rfl rfl HT.out ?_)
    refine (rlarge_any v wc (HV.out.below HB0.out)).mono ?_
    rintro e w1 ⟨lr, rfl, hl1, hb1⟩
    have HB1 := Lib.hid (HB0.out.trans (hb1.mono HB0.out.size))
    have HT1 := Lib.hid (HT.out.below hb1); have HX1 := Lib.hid (HX.out.below hb1)
    have HL1 := Lib.hid hl1
    clear hb1 hl1 HT HX
    cases lr with
    | true =>
      go_wp2_with fail
      refine (awake_any _).mono ?_
      rintro e wz ⟨rfl, hbz⟩
      have HBz := Lib.hid (HB1.out.trans (hbz.mono HB1.out.size))
      clear hbz
      go_wp2
      go_ret
      exact ⟨rfl, HBz.out⟩
    | false =>
    have r0 := HX1.out.cell 0; have r1 := HX1.out.cell 1; have r2 := HX1.out.cell 2; have r3 := HX1.out.cell 3; have r4 := HX1.out.cell 4; have r5 := HX1.out.cell 5
    simp at r0 r1 r2 r3 r4 r5
    go_wp2_with fail
    refine (rlarge_any x w1 (HXR.out.below HB1.out)).mono ?_
    rintro e w2 ⟨lr, rfl, hl2, hb2⟩
    have HB2 := Lib.hid (HB1.out.trans (hb2.mono HB1.out.size))
    have HT2 := Lib.hid (HT1.out.below hb2); have HX2 := Lib.hid (HX1.out.below hb2)
    have HL2 := Lib.hid hl2
    clear hb2 hl2 HT1 HX1 r0 r1 r2 r3 r4 r5
    cases lr with
    | true =>
      go_wp2_with fail
      refine (awake_any _).mono ?_
      rintro e wz ⟨rfl, hbz⟩
      have HBz := Lib.hid (HB2.out.trans (hbz.mono HB2.out.size))
      clear hbz
      go_wp2
      go_ret
      exact ⟨rfl, HBz.out⟩
    | false =>
    by_cases hn : 100 < n
    · go_wp2_with fail
      refine (awake_any _).mono ?_
      rintro e wz ⟨rfl, hbz⟩
      have HBz := Lib.hid (HB2.out.trans (hbz.mono HB2.out.size))
      clear hbz
      go_wp2
      go_ret
      exact ⟨rfl, HBz.out⟩
    by_cases hn2 : 100 < on
    · go_wp2_with fail
      refine (awake_any _).mono ?_
      rintro e wz ⟨rfl, hbz⟩
      have HBz := Lib.hid (HB2.out.trans (hbz.mono HB2.out.size))
      clear hbz
      go_wp2
      go_ret
      exact ⟨rfl, HBz.out⟩
    have hszv : v.tr.size ≤ 1000 := by have := HL1.out (by trivial); omega
    have hszx : x.tr.size ≤ 1000 := by have := HL2.out (by trivial); omega
    clear HL1 HL2
    go_wp2_with (refine wpList_load_T rfl _ rfl rfl HT2.out ?_)
    refine (get_any v pa n c p w2 (HV.out.below HB2.out) (HP.out.below HB2.out)).mono ?_
    rintro e w3 ⟨u, ok, rfl, hb3, hu, h1, h2⟩
    have hbA : Below w3.heap.size w3 (w3.alloc (.cells #[.int .i64 u.x.k, .int .i64 u.x.n, .string u.x.s, .slice u.a u.m u.c, .int .i64 u.x.f, .int .i64 u.x.t] 24)) := below_alloc _ _
    have HU := Lib.hid (hu.below hbA)
    have HG3 : Hid (VB (w3.alloc (.cells #[.int .i64 u.x.k, .int .i64 u.x.n, .string u.x.s, .slice u.a u.m u.c, .int .i64 u.x.f, .int .i64 u.x.t] 24)) w3.heap.size u) := vb_new w3 u
    have HK3 := Lib.hid (hb3.trans (hbA.mono hb3.size))
    have H1 := Lib.hid h1; have H2 := Lib.hid h2
    clear hb3 hu h1 h2 hbA
    unfold Vn.val
    go_upto_region 5 with fail
    generalize hW3 : w3.alloc (.cells #[.int .i64 u.x.k, .int .i64 u.x.n, .string u.x.s, .slice u.a u.m u.c, .int .i64 u.x.f, .int .i64 u.x.t] 24) = w4 at HU HG3 HK3 ⊢
    generalize w3.heap.size = g7 at HG3 ⊢
    clear hW3
    have HB4 := Lib.hid (HB2.out.trans (HK3.out.mono HB2.out.size))
    have HT4 := Lib.hid (HT2.out.below HK3.out); have HX4 := Lib.hid (HX2.out.below HK3.out)
    clear HT2 HX2 HK3
    go_wp2_with (first | (refine wpList_load_T rfl _ rfl rfl HT4.out ?_) | (refine wpList_load_T rfl _ rfl rfl HX4.out ?_))
    refine (pset_any v x pa n c p w4 (HV.out.below HB4.out) (HXR.out.below HB4.out) (HP.out.below HB4.out) hszv).mono ?_
    rintro e w5 ⟨y, ok2, rfl, hb5, hy, h1, h2⟩
    have hbA : Below w5.heap.size w5 (w5.alloc (.cells #[.int .i64 y.x.k, .int .i64 y.x.n, .string y.x.s, .slice y.a y.m y.c, .int .i64 y.x.f, .int .i64 y.x.t] 24)) := below_alloc _ _
    have HYR := Lib.hid (hy.below hbA)
    have HG5 : Hid (VB (w5.alloc (.cells #[.int .i64 y.x.k, .int .i64 y.x.n, .string y.x.s, .slice y.a y.m y.c, .int .i64 y.x.f, .int .i64 y.x.t] 24)) w5.heap.size y) := vb_new w5 y
    have HK5 := Lib.hid (hb5.trans (hbA.mono hb5.size))
    have H3 := Lib.hid h1; have H4 := Lib.hid h2
    clear hb5 hy h1 h2 hbA
    unfold Vn.val
    go_upto_region 6 with fail
    generalize hW5 : w5.alloc (.cells #[.int .i64 y.x.k, .int .i64 y.x.n, .string y.x.s, .slice y.a y.m y.c, .int .i64 y.x.f, .int .i64 y.x.t] 24) = w6 at HYR HG5 HK5 ⊢
    generalize w5.heap.size = g9 at HG5 ⊢
    clear hW5
    have HB6 := Lib.hid (HB4.out.trans (HK5.out.mono HB4.out.size))
    have HT6 := Lib.hid (HT4.out.below HK5.out); have HX6 := Lib.hid (HX4.out.below HK5.out)
    have HG6 := Lib.hid (HG3.out.below HK5.out); have HU6 := Lib.hid (HU.out.below HK5.out)
    clear HT4 HX4 HG3 HU HK5
    have hok : ok = (Tr.at' v.tr p).isSome ∧ ok2 = (Tr.at' v.tr p).isSome := by
      constructor
      · cases ok with
        | true => rw [H1.out rfl]; rfl
        | false => rw [(H2.out rfl).1]; rfl
      · cases ok2 with
        | true => obtain ⟨⟨u, hu⟩, _⟩ := H3.out rfl; rw [hu]; rfl
        | false => rw [(H4.out rfl).1]; rfl
    obtain ⟨hok1, hok2⟩ := hok
    go_wp2_with (refine wpList_load_T rfl _ rfl rfl HT6.out ?_)
    refine (rleads_any p v pa n c w6 (HV.out.below HB6.out) (HP.out.below HB6.out)).mono ?_
    rintro e w7 ⟨rl, rfl, hrl, hb7⟩
    have hrl' : rl = (Tr.at' v.tr p).isSome := by cases rl <;> cases h : (Tr.at' v.tr p).isSome <;> simp_all
    have HB7 := Lib.hid (HB6.out.trans (hb7.mono HB6.out.size))
    have HT7 := Lib.hid (HT6.out.below hb7); have HX7 := Lib.hid (HX6.out.below hb7); have HG7 := Lib.hid (HG6.out.below hb7); have HQ7 := Lib.hid (HG5.out.below hb7)
    have HU7 := Lib.hid (HU6.out.below hb7); have HY7 := Lib.hid (HYR.out.below hb7)
    clear hb7 hrl HT6 HX6 HG6 HG5 HU6 HYR
    rcases hat : Tr.at' v.tr p with _ | u'
    · rw [hat] at hok1 hok2 hrl'
      simp only [Option.isSome_none] at hok1 hok2 hrl'
      subst hok1 hok2 hrl'
      obtain rfl : u = v0 := (H2.out (by trivial)).2
      obtain rfl : y = v0 := (H4.out (by trivial)).2
      have s0 := HG7.out.cell 0; have s1 := HG7.out.cell 1; have s2 := HG7.out.cell 2; have s3 := HG7.out.cell 3; have s4 := HG7.out.cell 4; have s5 := HG7.out.cell 5
      simp [v0, lab0] at s0 s1 s2 s3 s4 s5
      go_wp2_with fail
      refine (placed_x v0 v0 w7 (v0_rd _) (v0_rd _)).mono ?_
      rintro e w8 ⟨rs, rfl, hrs, hb8⟩
      obtain rfl : rs = true := hrs.2 rfl
      have HB8 := Lib.hid (HB7.out.trans (hb8.mono HB7.out.size))
      have HQ8 := Lib.hid (HQ7.out.below hb8)
      clear hrs hb8 s0 s1 s2 s3 s4 s5
      have s0 := HQ8.out.cell 0; have s1 := HQ8.out.cell 1; have s2 := HQ8.out.cell 2; have s3 := HQ8.out.cell 3; have s4 := HQ8.out.cell 4; have s5 := HQ8.out.cell 5
      simp [v0, lab0] at s0 s1 s2 s3 s4 s5
      go_wp2_with fail
      refine (placed_x v0 v0 w8 (v0_rd _) (v0_rd _)).mono ?_
      rintro e w9 ⟨rs, rfl, hrs, hb9⟩
      obtain rfl : rs = true := hrs.2 rfl
      have HB9 := Lib.hid (HB8.out.trans (hb9.mono HB8.out.size))
      clear hrs hb9 s0 s1 s2 s3 s4 s5
      go_wp2_with fail
      refine (awake_any _).mono ?_
      rintro e wz ⟨rfl, hbz⟩
      have HBz := Lib.hid (HB9.out.trans (hbz.mono HB9.out.size))
      clear hbz
      go_wp2
      go_ret
      exact ⟨rfl, HBz.out⟩
    · have HAT := Lib.hid hat
      rw [hat] at hok1 hok2 hrl'
      simp only [Option.isSome_some] at hok1 hok2 hrl'
      subst hok1 hok2 hrl'
      have hu1 : u.tr = u' := by have := H1.out (by trivial); rw [hat] at this; exact (Option.some.inj this).symm
      have hy1 := (H3.out (by trivial)).2
      have HU1 := Lib.hid hu1; have HY1 := Lib.hid hy1
      clear hu1 hy1 hat H1 H2 H3 H4
      go_wp2_with (refine wpList_load_T rfl _ rfl rfl HQ7.out ?_)
      refine (get_any y pa n c p w7 HY7.out (HP.out.below HB7.out)).mono ?_
      rintro e w8 ⟨z, ok3, rfl, hb8, hz, h1, h2⟩
      have hat2 : Tr.at' y.tr p = some x.tr := by rw [HY1.out]; exact Tr.at_put p HAT.out
      have hok3 : ok3 = true := by
        cases ok3 with
        | true => rfl
        | false => have := (h2 rfl).1; rw [hat2] at this; cases this
      subst hok3
      have hz1 : z.tr = x.tr := by have := h1 rfl; rw [hat2] at this; exact (Option.some.inj this).symm
      have hbA : Below w8.heap.size w8 (w8.alloc (.cells #[.int .i64 z.x.k, .int .i64 z.x.n, .string z.x.s, .slice z.a z.m z.c, .int .i64 z.x.f, .int .i64 z.x.t] 24)) := below_alloc _ _
      have HZR := Lib.hid (hz.below hbA)
      have HG8 : Hid (VB (w8.alloc (.cells #[.int .i64 z.x.k, .int .i64 z.x.n, .string z.x.s, .slice z.a z.m z.c, .int .i64 z.x.f, .int .i64 z.x.t] 24)) w8.heap.size z) := vb_new w8 z
      have HK8 := Lib.hid (hb8.trans (hbA.mono hb8.size))
      have HZ1 := Lib.hid hz1
      clear hb8 hz h1 h2 hbA hat2 hz1
      unfold Vn.val
      go_upto_region 11 with fail
      generalize hW8 : w8.alloc (.cells #[.int .i64 z.x.k, .int .i64 z.x.n, .string z.x.s, .slice z.a z.m z.c, .int .i64 z.x.f, .int .i64 z.x.t] 24) = w9 at HZR HG8 HK8 ⊢
      generalize w8.heap.size = g11 at HG8 ⊢
      clear hW8
      have HB9 := Lib.hid (HB7.out.trans (HK8.out.mono HB7.out.size))
      have HT9 := Lib.hid (HT7.out.below HK8.out); have HX9 := Lib.hid (HX7.out.below HK8.out); have HG9 := Lib.hid (HG7.out.below HK8.out); have HQ9 := Lib.hid (HQ7.out.below HK8.out)
      have HU9 := Lib.hid (HU7.out.below HK8.out); have HY9 := Lib.hid (HY7.out.below HK8.out)
      clear HT7 HX7 HG7 HQ7 HU7 HY7 HK8

      obtain ⟨st, hst⟩ : ∃ k, v.tr.size = k := ⟨_, rfl⟩
      obtain ⟨sw, hsw⟩ : ∃ k, u.tr.size = k := ⟨_, rfl⟩
      obtain ⟨sx, hsx⟩ : ∃ k, x.tr.size = k := ⟨_, rfl⟩
      obtain ⟨sy, hsy⟩ : ∃ k, y.tr.size = k := ⟨_, rfl⟩
      have hS : sy + sw = st + sx := by
        have h := Tr.size_put (x := x.tr) p HAT.out
        rw [← HY1.out, ← HU1.out, hsy, hsw, hst, hsx] at h
        exact h
      rw [hst] at hszv; rw [hsx] at hszx
      have HSt := Lib.hid hst; have HSw := Lib.hid hsw; have HSx := Lib.hid hsx; have HSy := Lib.hid hsy
      have hszv2 : v.tr.size ≤ 1000 := by omega
      have HSV := Lib.hid hszv2
      have hw1 : IntKind.i64.wrap ((st : Int) - (sw : Int)) = (st : Int) - (sw : Int) := IntWalk.i64_in _ (by omega)
      have hw2 : IntKind.i64.wrap ((st : Int) - (sw : Int) + (sx : Int)) = (sy : Int) := by rw [IntWalk.i64_in _ (by omega)]; omega
      have B1 : Hid (sy ≤ 100000) := Lib.hid (by omega)
      have B2 : Hid (st ≤ 100000) := Lib.hid (by omega)
      have B3 : Hid (sw ≤ 100000) := Lib.hid (by omega)
      have B4 : Hid (sx ≤ 100000) := Lib.hid (by omega)
      have HSS := Lib.hid hS
      clear hst hsw hsx hsy hS hszv2
      have Kp := Lib.hid (show ∀ V : World, Hid (Below w9.heap.size w9 V) → V.cell? ⟨g7, 0, none⟩ = some (.int .i64 u.x.k) ∧ V.cell? ⟨g7, 1, none⟩ = some (.int .i64 u.x.n) ∧ V.cell? ⟨g7, 2, none⟩ = some (.string u.x.s) ∧ V.cell? ⟨g7, 3, none⟩ = some (.slice u.a u.m u.c) ∧ V.cell? ⟨g7, 4, none⟩ = some (.int .i64 u.x.f) ∧ V.cell? ⟨g7, 5, none⟩ = some (.int .i64 u.x.t) ∧ V.cell? ⟨g3, 0, none⟩ = some (.int .i64 v.x.k) ∧ V.cell? ⟨g3, 1, none⟩ = some (.int .i64 v.x.n) ∧ V.cell? ⟨g3, 2, none⟩ = some (.string v.x.s) ∧ V.cell? ⟨g3, 3, none⟩ = some (.slice v.a v.m v.c) ∧ V.cell? ⟨g3, 4, none⟩ = some (.int .i64 v.x.f) ∧ V.cell? ⟨g3, 5, none⟩ = some (.int .i64 v.x.t) ∧ V.cell? ⟨g11, 0, none⟩ = some (.int .i64 z.x.k) ∧ V.cell? ⟨g11, 1, none⟩ = some (.int .i64 z.x.n) ∧ V.cell? ⟨g11, 2, none⟩ = some (.string z.x.s) ∧ V.cell? ⟨g11, 3, none⟩ = some (.slice z.a z.m z.c) ∧ V.cell? ⟨g11, 4, none⟩ = some (.int .i64 z.x.f) ∧ V.cell? ⟨g11, 5, none⟩ = some (.int .i64 z.x.t) ∧ V.cell? ⟨g5, 0, none⟩ = some (.int .i64 x.x.k) ∧ V.cell? ⟨g5, 1, none⟩ = some (.int .i64 x.x.n) ∧ V.cell? ⟨g5, 2, none⟩ = some (.string x.x.s) ∧ V.cell? ⟨g5, 3, none⟩ = some (.slice x.a x.m x.c) ∧ V.cell? ⟨g5, 4, none⟩ = some (.int .i64 x.x.f) ∧ V.cell? ⟨g5, 5, none⟩ = some (.int .i64 x.x.t) ∧ V.cell? ⟨g9, 0, none⟩ = some (.int .i64 y.x.k) ∧ V.cell? ⟨g9, 1, none⟩ = some (.int .i64 y.x.n) ∧ V.cell? ⟨g9, 2, none⟩ = some (.string y.x.s) ∧ V.cell? ⟨g9, 3, none⟩ = some (.slice y.a y.m y.c) ∧ V.cell? ⟨g9, 4, none⟩ = some (.int .i64 y.x.f) ∧ V.cell? ⟨g9, 5, none⟩ = some (.int .i64 y.x.t) from fun V h => ⟨(HG9.out.below h.out).cell 0, (HG9.out.below h.out).cell 1, (HG9.out.below h.out).cell 2, (HG9.out.below h.out).cell 3, (HG9.out.below h.out).cell 4, (HG9.out.below h.out).cell 5, (HT9.out.below h.out).cell 0, (HT9.out.below h.out).cell 1, (HT9.out.below h.out).cell 2, (HT9.out.below h.out).cell 3, (HT9.out.below h.out).cell 4, (HT9.out.below h.out).cell 5, (HG8.out.below h.out).cell 0, (HG8.out.below h.out).cell 1, (HG8.out.below h.out).cell 2, (HG8.out.below h.out).cell 3, (HG8.out.below h.out).cell 4, (HG8.out.below h.out).cell 5, (HX9.out.below h.out).cell 0, (HX9.out.below h.out).cell 1, (HX9.out.below h.out).cell 2, (HX9.out.below h.out).cell 3, (HX9.out.below h.out).cell 4, (HX9.out.below h.out).cell 5, (HQ9.out.below h.out).cell 0, (HQ9.out.below h.out).cell 1, (HQ9.out.below h.out).cell 2, (HQ9.out.below h.out).cell 3, (HQ9.out.below h.out).cell 4, (HQ9.out.below h.out).cell 5⟩)
      have KR : Hid (Below w9.heap.size w9 w9) := Below.refl _ _
      have K0 : Hid (Below w9.heap.size w9 w9.drew) := Below.drew (Below.refl _ _)
      have HVD := Lib.hid (show ∀ V : World, Hid (Below w9.heap.size w9 V) → v.Rd V from fun V h => (HV.out.below HB9.out).below h.out)
      have HXD := Lib.hid (show ∀ V : World, Hid (Below w9.heap.size w9 V) → x.Rd V from fun V h => (HXR.out.below HB9.out).below h.out)
      have HPD := Lib.hid (show ∀ V : World, Hid (Below w9.heap.size w9 V) → I64s V pa n c p from fun V h => (HP.out.below HB9.out).below h.out)
      have HUD := Lib.hid (show ∀ V : World, Hid (Below w9.heap.size w9 V) → u.Rd V from fun V h => HU9.out.below h.out)
      have HYD := Lib.hid (show ∀ V : World, Hid (Below w9.heap.size w9 V) → y.Rd V from fun V h => HY9.out.below h.out)
      have HZD := Lib.hid (show ∀ V : World, Hid (Below w9.heap.size w9 V) → z.Rd V from fun V h => HZR.out.below h.out)
      go_region_held3 (fun V => V.cell? ⟨g7, 0, none⟩ = some (.int .i64 u.x.k) ∧ V.cell? ⟨g7, 1, none⟩ = some (.int .i64 u.x.n) ∧ V.cell? ⟨g7, 2, none⟩ = some (.string u.x.s) ∧ V.cell? ⟨g7, 3, none⟩ = some (.slice u.a u.m u.c) ∧ V.cell? ⟨g7, 4, none⟩ = some (.int .i64 u.x.f) ∧ V.cell? ⟨g7, 5, none⟩ = some (.int .i64 u.x.t) ∧ V.cell? ⟨g3, 0, none⟩ = some (.int .i64 v.x.k) ∧ V.cell? ⟨g3, 1, none⟩ = some (.int .i64 v.x.n) ∧ V.cell? ⟨g3, 2, none⟩ = some (.string v.x.s) ∧ V.cell? ⟨g3, 3, none⟩ = some (.slice v.a v.m v.c) ∧ V.cell? ⟨g3, 4, none⟩ = some (.int .i64 v.x.f) ∧ V.cell? ⟨g3, 5, none⟩ = some (.int .i64 v.x.t) ∧ V.cell? ⟨g11, 0, none⟩ = some (.int .i64 z.x.k) ∧ V.cell? ⟨g11, 1, none⟩ = some (.int .i64 z.x.n) ∧ V.cell? ⟨g11, 2, none⟩ = some (.string z.x.s) ∧ V.cell? ⟨g11, 3, none⟩ = some (.slice z.a z.m z.c) ∧ V.cell? ⟨g11, 4, none⟩ = some (.int .i64 z.x.f) ∧ V.cell? ⟨g11, 5, none⟩ = some (.int .i64 z.x.t) ∧ V.cell? ⟨g5, 0, none⟩ = some (.int .i64 x.x.k) ∧ V.cell? ⟨g5, 1, none⟩ = some (.int .i64 x.x.n) ∧ V.cell? ⟨g5, 2, none⟩ = some (.string x.x.s) ∧ V.cell? ⟨g5, 3, none⟩ = some (.slice x.a x.m x.c) ∧ V.cell? ⟨g5, 4, none⟩ = some (.int .i64 x.x.f) ∧ V.cell? ⟨g5, 5, none⟩ = some (.int .i64 x.x.t) ∧ V.cell? ⟨g9, 0, none⟩ = some (.int .i64 y.x.k) ∧ V.cell? ⟨g9, 1, none⟩ = some (.int .i64 y.x.n) ∧ V.cell? ⟨g9, 2, none⟩ = some (.string y.x.s) ∧ V.cell? ⟨g9, 3, none⟩ = some (.slice y.a y.m y.c) ∧ V.cell? ⟨g9, 4, none⟩ = some (.int .i64 y.x.f) ∧ V.cell? ⟨g9, 5, none⟩ = some (.int .i64 y.x.t))
        (with_reducible first | exact Kp.out _ KR | exact Kp.out _ K0 | exact Kp.out _ KI | exact Kp.out _ KH | exact Kp.out _ KG | exact Kp.out _ KF | exact Kp.out _ KE | exact Kp.out _ KD | exact Kp.out _ KC | exact Kp.out _ KB | exact Kp.out _ KA)
        (first
          | (go_at_call 25; (with_reducible refine (rat_x p v u' pa n c _ HAT.out (HVD.out _ K0) (HPD.out _ K0)).mono ?_); rintro e wa ⟨ra, rfl, hta, hra, hba⟩; have KA : Hid (Below w9.heap.size w9 wa) := below_step K0 hba; have HTA := Lib.hid hta; have HRA := Lib.hid hra; clear hta hra hba)
          | (go_at_call 18; (with_reducible refine (placed_x u ra _ (HUD.out _ KA) HRA.out).mono ?_); rintro e wb ⟨rs, rfl, hrs, hbb⟩; (obtain rfl : rs = true := hrs.2 (HU1.out.trans HTA.out.symm)); have KB : Hid (Below w9.heap.size w9 wb) := below_step KA hbb; clear hrs hbb)
          | (go_at_call 18; (with_reducible refine (placed_x z x _ (HZD.out _ KB) (HXD.out _ KB)).mono ?_); rintro e wc' ⟨rs, rfl, hrs, hbb⟩; (obtain rfl : rs = true := hrs.2 HZ1.out); have KC : Hid (Below w9.heap.size w9 wc') := below_step KB hbb; clear hrs hbb)
          | (go_at_call 26; (with_reducible refine (rput_x p v x u' pa n c _ HAT.out (HVD.out _ KC) (HXD.out _ KC) HSV.out (HPD.out _ KC)).mono ?_); rintro e wd ⟨rd, rfl, htd, hrd, hbd⟩; have KD : Hid (Below w9.heap.size w9 wd) := below_step KC hbd; have HTD := Lib.hid htd; have HRD := Lib.hid hrd; clear htd hrd hbd)
          | (go_at_call 18; (with_reducible refine (placed_x y rd _ (HYD.out _ KD) HRD.out).mono ?_); rintro e we ⟨rs, rfl, hrs, hbb⟩; (obtain rfl : rs = true := hrs.2 (HY1.out.trans HTD.out.symm)); have KE : Hid (Below w9.heap.size w9 we) := below_step KD hbb; clear hrs hbb)
          | (go_at_call 14; (with_reducible refine (size_x y sy _ (HYD.out _ KE) HSy.out B1.out).mono ?_); rintro e wf ⟨rfl, hbb⟩; have KF : Hid (Below w9.heap.size w9 wf) := below_step KE hbb; clear hbb)
          | (go_at_call 14; (with_reducible refine (size_x v st _ (HVD.out _ KF) HSt.out B2.out).mono ?_); rintro e wg ⟨rfl, hbb⟩; have KG : Hid (Below w9.heap.size w9 wg) := below_step KF hbb; clear hbb)
          | (go_at_call 14; (with_reducible refine (size_x u sw _ (HUD.out _ KG) HSw.out B3.out).mono ?_); rintro e wh ⟨rfl, hbb⟩; have KH : Hid (Below w9.heap.size w9 wh) := below_step KG hbb; clear hbb)
          | (go_at_call 14; (with_reducible refine (size_x x sx _ (HXD.out _ KH) HSx.out B4.out).mono ?_); rintro e wi ⟨rfl, hbb⟩; have KI : Hid (Below w9.heap.size w9 wi) := below_step KH hbb; clear hbb))
      have HBI := Lib.hid (HB9.out.trans (KI.out.mono HB9.out.size))
      have HTI := Lib.hid (HT9.out.below KI.out); have HQI := Lib.hid (HQ9.out.below KI.out); have HYI := Lib.hid (HY9.out.below KI.out)
      clear Kp HVD HXD HPD HUD HYD HZD KA KB KC KD KE KF KG KH K0 KR HT9 HX9 HG9 HG8 HQ9 HRA HTA HRD HTD hw1 hw2 KI
      go_wp2_with (refine wpList_load_T rfl _ rfl rfl HTI.out ?_)
      refine (rleads_any o v oa on oc wi (HV.out.below HBI.out) (HO.out.below HBI.out)).mono ?_
      rintro e w10 ⟨rl2, rfl, hrl2, hb10⟩
      have HB10 := Lib.hid (HBI.out.trans (hb10.mono HBI.out.size))
      have HTj := Lib.hid (HTI.out.below hb10); have HQj := Lib.hid (HQI.out.below hb10); have HYj := Lib.hid (HYI.out.below hb10)
      have HRL := Lib.hid hrl2
      clear hb10 hrl2 HTI HQI HYI
      cases rl2 with
      | false =>
        go_wp2_with fail
        refine (awake_any _).mono ?_
        rintro e wz ⟨rfl, hbz⟩
        have HBz := Lib.hid (HB10.out.trans (hbz.mono HB10.out.size))
        clear hbz
        go_wp2
        go_ret
        exact ⟨rfl, HBz.out⟩
      | true =>
      have hso := HRL.out.1 (by trivial)
      obtain ⟨to', hto⟩ := Option.isSome_iff_exists.1 hso
      have HTO := Lib.hid hto
      clear hso hto HRL
      go_wp2_with fail
      refine (below_any pa n c p oa on oc o _ (HP.out.below HB10.out) (HO.out.below HB10.out)).mono ?_
      rintro e w11 ⟨rb, rfl, hrb, hb11⟩
      have HB11 := Lib.hid (HB10.out.trans (hb11.mono HB10.out.size))
      have HTk := Lib.hid (HTj.out.below hb11); have HQk := Lib.hid (HQj.out.below hb11); have HYk := Lib.hid (HYj.out.below hb11)
      have HRB := Lib.hid hrb
      clear hb11 hrb HTj HQj HYj
      cases rb with
      | true =>
        go_wp2_with fail
        refine (awake_any _).mono ?_
        rintro e wz ⟨rfl, hbz⟩
        have HBz := Lib.hid (HB11.out.trans (hbz.mono HB11.out.size))
        clear hbz
        go_wp2
        go_ret
        exact ⟨rfl, HBz.out⟩
      | false =>
      go_wp2_with fail
      refine (below_any oa on oc o pa n c p _ (HO.out.below HB11.out) (HP.out.below HB11.out)).mono ?_
      rintro e w12 ⟨rb2, rfl, hrb2, hb12⟩
      have HB12 := Lib.hid (HB11.out.trans (hb12.mono HB11.out.size))
      have HTl := Lib.hid (HTk.out.below hb12); have HQl := Lib.hid (HQk.out.below hb12); have HYl := Lib.hid (HYk.out.below hb12)
      have HRB2 := Lib.hid hrb2
      clear hb12 hrb2 HTk HQk HYk
      cases rb2 with
      | true =>
        go_wp2_with fail
        refine (awake_any _).mono ?_
        rintro e wz ⟨rfl, hbz⟩
        have HBz := Lib.hid (HB12.out.trans (hbz.mono HB12.out.size))
        clear hbz
        go_wp2
        go_ret
        exact ⟨rfl, HBz.out⟩
      | false =>
      have hno1 : ¬ o <+: p := fun h => by have := HRB.out.2 h; cases this
      have hno2 : ¬ p <+: o := fun h => by have := HRB2.out.2 h; cases this
      have hato := Tr.at_other (x := x.tr) p o HAT.out HTO.out hno2 hno1
      rw [← HY1.out] at hato
      have HATO := Lib.hid hato
      clear hno1 hno2 hato HRB HRB2
      go_wp2_with (refine wpList_load_T rfl _ rfl rfl HTl.out ?_)
      refine (get_any v oa on oc o w12 (HV.out.below HB12.out) (HO.out.below HB12.out)).mono ?_
      rintro e w13 ⟨f, ok4, rfl, hb13, hf, h1, h2⟩
      have hok4 : ok4 = true := by
        cases ok4 with
        | true => rfl
        | false => have := (h2 rfl).1; rw [HTO.out] at this; cases this
      subst hok4
      have hft : f.tr = to' := by have := h1 rfl; rw [HTO.out] at this; exact (Option.some.inj this).symm
      have hbA : Below w13.heap.size w13 (w13.alloc (.cells #[.int .i64 f.x.k, .int .i64 f.x.n, .string f.x.s, .slice f.a f.m f.c, .int .i64 f.x.f, .int .i64 f.x.t] 24)) := below_alloc _ _
      have HFR := Lib.hid (hf.below hbA)
      have HG13 : Hid (VB (w13.alloc (.cells #[.int .i64 f.x.k, .int .i64 f.x.n, .string f.x.s, .slice f.a f.m f.c, .int .i64 f.x.f, .int .i64 f.x.t] 24)) w13.heap.size f) := vb_new w13 f
      have HK13 := Lib.hid (hb13.trans (hbA.mono hb13.size))
      have HFT := Lib.hid hft
      clear hb13 hf h1 h2 hbA hft
      unfold Vn.val
      go_upto_region 16 with fail
      generalize hW13 : w13.alloc (.cells #[.int .i64 f.x.k, .int .i64 f.x.n, .string f.x.s, .slice f.a f.m f.c, .int .i64 f.x.f, .int .i64 f.x.t] 24) = w14 at HFR HG13 HK13 ⊢
      generalize w13.heap.size = g13 at HG13 ⊢
      clear hW13
      have HB14 := Lib.hid (HB12.out.trans (HK13.out.mono HB12.out.size))
      have HQm := Lib.hid (HQl.out.below HK13.out); have HYm := Lib.hid (HYl.out.below HK13.out)
      clear HTl HQl HYl HK13
      go_wp2_with (refine wpList_load_T rfl _ rfl rfl HQm.out ?_)
      refine (get_any y oa on oc o w14 HYm.out (HO.out.below HB14.out)).mono ?_
      rintro e w15 ⟨h', ok5, rfl, hb15, hh, h1, h2⟩
      have hok5 : ok5 = true := by
        cases ok5 with
        | true => rfl
        | false => have := (h2 rfl).1; rw [HATO.out] at this; cases this
      subst hok5
      have hht : h'.tr = to' := by have := h1 rfl; rw [HATO.out] at this; exact (Option.some.inj this).symm
      have hbA : Below w15.heap.size w15 (w15.alloc (.cells #[.int .i64 h'.x.k, .int .i64 h'.x.n, .string h'.x.s, .slice h'.a h'.m h'.c, .int .i64 h'.x.f, .int .i64 h'.x.t] 24)) := below_alloc _ _
      have HHR := Lib.hid (hh.below hbA)
      have HG15 : Hid (VB (w15.alloc (.cells #[.int .i64 h'.x.k, .int .i64 h'.x.n, .string h'.x.s, .slice h'.a h'.m h'.c, .int .i64 h'.x.f, .int .i64 h'.x.t] 24)) w15.heap.size h') := vb_new w15 h'
      have HK15 := Lib.hid (hb15.trans (hbA.mono hb15.size))
      have HHT := Lib.hid hht
      clear hb15 hh h1 h2 hbA hht
      unfold Vn.val
      go_upto_region 17 with fail
      generalize hW15 : w15.alloc (.cells #[.int .i64 h'.x.k, .int .i64 h'.x.n, .string h'.x.s, .slice h'.a h'.m h'.c, .int .i64 h'.x.f, .int .i64 h'.x.t] 24) = w16 at HHR HG15 HK15 ⊢
      generalize w15.heap.size = g15 at HG15 ⊢
      clear hW15
      have HB16 := Lib.hid (HB14.out.trans (HK15.out.mono HB14.out.size))
      have HG17 := Lib.hid (HG13.out.below HK15.out); have HFR2 := Lib.hid (HFR.out.below HK15.out)
      clear HG13 HFR HK15 HQm HYm
      have r0 := HG17.out.cell 0; have r1 := HG17.out.cell 1; have r2 := HG17.out.cell 2; have r3 := HG17.out.cell 3; have r4 := HG17.out.cell 4; have r5 := HG17.out.cell 5
      have s0 := HG15.out.cell 0; have s1 := HG15.out.cell 1; have s2 := HG15.out.cell 2; have s3 := HG15.out.cell 3; have s4 := HG15.out.cell 4; have s5 := HG15.out.cell 5
      simp at r0 r1 r2 r3 r4 r5 s0 s1 s2 s3 s4 s5
      go_wp2_with fail
      refine (placed_x f h' w16 HFR2.out HHR.out).mono ?_
      rintro e w17 ⟨rs, rfl, hrs, hb17⟩
      obtain rfl : rs = true := hrs.2 (HFT.out.trans HHT.out.symm)
      have HB17 := Lib.hid (HB16.out.trans (hb17.mono HB16.out.size))
      clear hrs hb17 r0 r1 r2 r3 r4 r5 s0 s1 s2 s3 s4 s5
      go_wp2_with fail
      refine (awake_any _).mono ?_
      rintro e wz ⟨rfl, hbz⟩
      have HBz := Lib.hid (HB17.out.trans (hbz.mono HB17.out.size))
      clear hbz
      go_wp2
      go_ret
      exact ⟨rfl, HBz.out⟩
end Go.Proofs.Ytbpjaidfpacbfaa.te
