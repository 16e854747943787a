/-
  Layer 19: ValueSets.
-/
import Derived.Test.YtbpjaidfpacbfaaValAwake
namespace Go.Proofs.Ytbpjaidfpacbfaa.va
open Go.ChangeShapes Go.WideShapes Go.ChangeAt Go.RowKit
open bs tr
set_option linter.unusedVariables false

/-- What a law ends in. -/
def Good (w : World) (e : Ending) (w' : World) : Prop := e = .returned (.bool true) ∧ Below w.heap.size w w'

theorem rsame_x (x : Int) (a : Option Addr) (m c : Nat) (l : List VT) (x' : Int) (a' : Option Addr) (m' c' : Nat) (l' : List VT) (w : World) (h : Vn.Rd w ⟨x, a, m, c, l⟩) (h' : Vn.Rd w ⟨x', a', m', c', l'⟩) :
    Calls Try.prog 44 #[.agg #[.int .i64 x, .slice a m c], .agg #[.int .i64 x', .slice a' m' c']] w (SP (.mk x l) (.mk x' l') w) := rsame_any _ ⟨x, a, m, c, l⟩ ⟨x', a', m', c', l'⟩ w rfl h h'
theorem psame_x (x : Int) (a : Option Addr) (m c : Nat) (l : List VT) (x' : Int) (a' : Option Addr) (m' c' : Nat) (l' : List VT) (w : World) (h : Vn.Rd w ⟨x, a, m, c, l⟩) (h' : Vn.Rd w ⟨x', a', m', c', l'⟩) :
    Calls Try.prog 47 #[.agg #[.int .i64 x, .slice a m c], .agg #[.int .i64 x', .slice a' m' c']] w (SP (.mk x l) (.mk x' l') w) := psame_any _ ⟨x, a, m, c, l⟩ ⟨x', a', m', c', l'⟩ w rfl h h'
def RX (S : Nat → Prop) (t : VT) (w : World) (e : Ending) (w' : World) : Prop := ∃ (x : Int) (a : Option Addr) (m c : Nat) (l : List VT), e = .returned (.agg #[.int .i64 x, .slice a m c]) ∧ Tr.mk x l = t ∧ Vn.Rs S w' ⟨x, a, m, c, l⟩ ∧ Below w.heap.size w w'
theorem rget_x (S : Nat → Prop) (p : List Int) (x : Int) (a : Option Addr) (m c : Nat) (l : List VT) (u : VT) (pa : Option Addr) (n pc : Nat) (w : World) (hat : Tr.at' (.mk x l) p = some u) (hv : Vn.Rs S w ⟨x, a, m, c, l⟩) (hS : ∀ b, S b → b < w.heap.size) (hp : I64s w pa n pc p) :
    Calls Try.prog 45 #[.agg #[.int .i64 x, .slice a m c], .slice pa n pc] w (RX S u w) :=
  (rget_any S p ⟨x, a, m, c, l⟩ u pa n pc w hat hv hS hp).mono fun e w' ⟨⟨x, a, m, c, l⟩, h1, h2, h3, h4⟩ => ⟨x, a, m, c, l, h1, h2, h3, h4⟩
theorem rset_x (p : List Int) (x : Int) (a : Option Addr) (m c : Nat) (l : List VT) (x' : Int) (a' : Option Addr) (m' c' : Nat) (l' : List VT) (u : VT) (B0 : Nat) (pa : Option Addr) (n pc : Nat) (w : World) (hat : Tr.at' (.mk x l) p = some u) (hv : Vn.Rs (· < B0) w ⟨x, a, m, c, l⟩) (hx : Vn.Rs (· < B0) w ⟨x', a', m', c', l'⟩) (hB : B0 ≤ w.heap.size) (hsz : Tr.size (.mk x l) ≤ 1000) (hp : I64s w pa n pc p) :
    Calls Try.prog 46 #[.agg #[.int .i64 x, .slice a m c], .slice pa n pc, .agg #[.int .i64 x', .slice a' m' c']] w (RX (Old B0 w.heap.size) (Tr.put (.mk x l) p (.mk x' l')) w) :=
  (rset_any p ⟨x, a, m, c, l⟩ ⟨x', a', m', c', l'⟩ u B0 pa n pc w hat hv hx hB hsz hp).mono fun e w' ⟨⟨x, a, m, c, l⟩, h1, h2, h3, h4⟩ => ⟨x, a, m, c, l, h1, h2, h3, h4⟩
theorem same_bool {a b : Bool} {P Q : Prop} (ha : a = true ↔ P) (hb : b = true ↔ Q) (h : P ↔ Q) : a = b := by
  cases a <;> cases b <;> simp_all

set_option maxRecDepth 100000 in
set_option maxHeartbeats 8000000 in
theorem law_sets (v x : Vn) (pa : Option Addr) (n c : Nat) (p : List Int) (w : World) (hv : v.Rd w) (hp : I64s w pa n c p) (hx : x.Rd w) : Calls Try.prog 9 #[v.val, .slice pa n c, x.val] w (Good w) := by
  have hlen := hp.len; have hcap := hp.cap; have hmost := hp.most
  have hW1 : Below w.heap.size w ((w.alloc (.cells #[.int .i64 v.x, .slice v.a v.m v.c] 52)).alloc (.cells #[.int .i64 x.x, .slice x.a x.m x.c] 52)) := ((Below.refl _ _).alloc (Nat.le_refl _) _).alloc (by simp) _
  have hZ : VB ((w.alloc (.cells #[.int .i64 v.x, .slice v.a v.m v.c] 52)).alloc (.cells #[.int .i64 x.x, .slice x.a x.m x.c] 52)) w.heap.size v :=
    (Blk.new w #[.int .i64 v.x, .slice v.a v.m v.c] 52).below ((Below.refl _ _).alloc (Nat.le_refl _) (.cells #[.int .i64 x.x, .slice x.a x.m x.c] 52))
  have hX : VB ((w.alloc (.cells #[.int .i64 v.x, .slice v.a v.m v.c] 52)).alloc (.cells #[.int .i64 x.x, .slice x.a x.m x.c] 52)) (w.heap.size + 1) x := by
    have := Blk.new (w.alloc (.cells #[.int .i64 v.x, .slice v.a v.m v.c] 52)) #[.int .i64 x.x, .slice x.a x.m x.c] 52
    simpa using this
  have HW := Lib.hid hW1; have HZ := Lib.hid hZ; have HX := Lib.hid hX
  have HV := Lib.hid hv; have HXR := Lib.hid hx; have HP := Lib.hid hp; have HLN := Lib.hid hlen
  clear hv hx hp hW1 hZ hX hlen
  unfold Vn.val
  go_enter Try.func9, Try.ntmps9
  go_upto_region 1 with fail
  generalize hWW : (w.alloc (.cells #[.int .i64 v.x, .slice v.a v.m v.c] 52)).alloc (.cells #[.int .i64 x.x, .slice x.a x.m x.c] 52) = W at HW HZ HX ⊢
  clear hWW
  have p0 := HZ.out.cell 0; have p1 := HZ.out.cell 1
  have r0 := HX.out.cell 0; have r1 := HX.out.cell 1
  simp at p0 p1 r0 r1
  go_wp2_with fail
  refine (rlarge_any v W (HV.out.below HW.out)).mono ?_
  rintro e w1 ⟨lr, rfl, hl1, hb1⟩
  have HB1 := Lib.hid (HW.out.trans (hb1.mono HW.out.size))
  have HWB := Lib.hid hb1
  have HL1 := Lib.hid hl1
  clear hb1 hl1 p0 p1 r0 r1
  cases lr with
  | true =>
    go_wp2_with fail
    refine (awake_any _).mono ?_
    rintro e w2 ⟨rfl, hb2⟩
    have HB2 := Lib.hid (HB1.out.trans (hb2.mono HB1.out.size))
    clear hb2
    go_wp2
    go_ret
    exact ⟨rfl, HB2.out⟩
  | false =>
  have r0 := (HX.out.below HWB.out).cell 0; have r1 := (HX.out.below HWB.out).cell 1
  simp at r0 r1
  go_wp2_with fail
  refine (rlarge_any x w1 (HXR.out.below HB1.out)).mono ?_
  rintro e w2 ⟨lr, rfl, hl2, hb2⟩
  have HB2 := Lib.hid (HB1.out.trans (hb2.mono HB1.out.size))
  have HWB2 := Lib.hid (HWB.out.trans (hb2.mono HWB.out.size))
  have HL2 := Lib.hid hl2
  clear hb2 hl2 r0 r1
  cases lr with
  | true =>
    go_wp2_with fail
    refine (awake_any _).mono ?_
    rintro e w3 ⟨rfl, hb3⟩
    have HB3 := Lib.hid (HB2.out.trans (hb3.mono HB2.out.size))
    clear hb3
    go_wp2
    go_ret
    exact ⟨rfl, HB3.out⟩
  | false =>
  by_cases hn : 100 < n
  · go_wp2_with fail
    refine (awake_any _).mono ?_
    rintro e w3 ⟨rfl, hb3⟩
    have HB3 := Lib.hid (HB2.out.trans (hb3.mono HB2.out.size))
    clear hb3
    go_wp2
    go_ret
    exact ⟨rfl, HB3.out⟩
  have hszv : v.tr.size ≤ 1000 := by have := HL1.out (by trivial); omega
  have hszx : x.tr.size ≤ 1000 := by have := HL2.out (by trivial); omega
  have HZ2 := Lib.hid (HZ.out.below HWB2.out); have HX2 := Lib.hid (HX.out.below HWB2.out)
  clear HZ HX HL1 HL2
  have p0 := HZ2.out.cell 0; have p1 := HZ2.out.cell 1
  simp at p0 p1
  go_wp2_with fail
  refine (get_any v pa n c p w2 (HV.out.below HB2.out) (HP.out.below HB2.out)).mono ?_
  rintro e w3 ⟨⟨ux, ua, um, uc, ul⟩, ok, rfl, hb3, hu, h1, h2⟩
  have hbA : Below w3.heap.size w3 (w3.alloc (.cells #[.int .i64 ux, .slice ua um uc] 52)) := (Below.refl _ _).alloc (Nat.le_refl _) _
  have HU := Lib.hid (hu.below hbA)
  have HG3 : Hid (VB (w3.alloc (.cells #[.int .i64 ux, .slice ua um uc] 52)) w3.heap.size ⟨ux, ua, um, uc, ul⟩) := Blk.new w3 _ _
  have HK3 := Lib.hid (hb3.trans (hbA.mono hb3.size))
  have H1 := Lib.hid h1; have H2 := Lib.hid h2
  have hg3 : w2.heap.size ≤ w3.heap.size := hb3.size
  clear hb3 hu h1 h2 hbA p0 p1
  unfold Vn.val
  go_upto_region 4 with fail
  generalize hW3 : w3.alloc (.cells #[.int .i64 ux, .slice ua um uc] 52) = w4 at HU HG3 HK3 ⊢
  generalize w3.heap.size = g3 at HG3 hg3 ⊢
  clear hW3
  have HB4 := Lib.hid (HB2.out.trans (HK3.out.mono HB2.out.size))
  have HZ4 := Lib.hid (HZ2.out.below HK3.out); have HX4 := Lib.hid (HX2.out.below HK3.out)
  have p0 := HZ4.out.cell 0; have p1 := HZ4.out.cell 1
  have r0 := HX4.out.cell 0; have r1 := HX4.out.cell 1
  simp at p0 p1 r0 r1
  go_wp2_with fail
  refine (pset_any v x pa n c p w4 (HV.out.below HB4.out) (HXR.out.below HB4.out) (HP.out.below HB4.out) hszv).mono ?_
  rintro e w5 ⟨⟨yx, ya, ym, yc, yl⟩, ok2, rfl, hb5, hy, h1, h2⟩
  have hbA : Below w5.heap.size w5 (w5.alloc (.cells #[.int .i64 yx, .slice ya ym yc] 52)) := (Below.refl _ _).alloc (Nat.le_refl _) _
  have HYR := Lib.hid (hy.below hbA)
  have HG5 : Hid (VB (w5.alloc (.cells #[.int .i64 yx, .slice ya ym yc] 52)) w5.heap.size ⟨yx, ya, ym, yc, yl⟩) := Blk.new w5 _ _
  have HK5 := Lib.hid (hb5.trans (hbA.mono hb5.size))
  have H3 := Lib.hid h1; have H4 := Lib.hid h2
  clear hb5 hy h1 h2 hbA p0 p1 r0 r1
  unfold Vn.val
  go_upto_region 5 with fail
  generalize hW5 : w5.alloc (.cells #[.int .i64 yx, .slice ya ym yc] 52) = w6 at HYR HG5 HK5 ⊢
  generalize w5.heap.size = g5 at HG5 ⊢
  clear hW5
  have HB6 := Lib.hid (HB4.out.trans (HK5.out.mono HB4.out.size))
  have HZ6 := Lib.hid (HZ4.out.below HK5.out); have HX6 := Lib.hid (HX4.out.below HK5.out)
  have HG6 := Lib.hid (HG3.out.below HK5.out); have HU6 := Lib.hid (HU.out.below HK5.out)
  have p0 := HZ6.out.cell 0; have p1 := HZ6.out.cell 1
  simp at p0 p1
  have hok : ok = (Tr.at' v.tr p).isSome ∧ ok2 = (Tr.at' v.tr p).isSome := by
    constructor
    · cases ok with
      | true => rw [H1.out rfl]; rfl
      | false => rw [(H2.out rfl).1]; rfl
    · cases ok2 with
      | true => obtain ⟨⟨u, hu⟩, _⟩ := H3.out rfl; rw [hu]; rfl
      | false => rw [(H4.out rfl).1]; rfl
  obtain ⟨hok1, hok2⟩ := hok
  go_wp2_with fail
  refine (rleads_any p v pa n c w6 (HV.out.below HB6.out) (HP.out.below HB6.out)).mono ?_
  rintro e w7 ⟨rl, rfl, hrl, hb7⟩
  have hrl' : rl = (Tr.at' v.tr p).isSome := by cases rl <;> cases h : (Tr.at' v.tr p).isSome <;> simp_all
  have HB7 := Lib.hid (HB6.out.trans (hb7.mono HB6.out.size))
  have HZ7 := Lib.hid (HZ6.out.below hb7); have HX7 := Lib.hid (HX6.out.below hb7); have HG7 := Lib.hid (HG6.out.below hb7); have HQ7 := Lib.hid (HG5.out.below hb7)
  have HU7 := Lib.hid (HU6.out.below hb7); have HY7 := Lib.hid (HYR.out.below hb7)
  clear hb7 hrl p0 p1
  rcases hat : Tr.at' v.tr p with _ | u
  · rw [hat] at hok1 hok2 hrl'
    simp only [Option.isSome_none] at hok1 hok2 hrl'
    subst hok1 hok2 hrl'
    have hu0 := (H2.out (by trivial)).2
    have hy0 := (H4.out (by trivial)).2
    have hux : ux = 0 ∧ ua = none ∧ um = 0 ∧ uc = 0 ∧ ul = [] := by injection hu0 with a b c d e; exact ⟨a, b, c, d, e⟩
    have hyx : yx = 0 ∧ ya = none ∧ ym = 0 ∧ yc = 0 ∧ yl = [] := by injection hy0 with a b c d e; exact ⟨a, b, c, d, e⟩
    obtain ⟨rfl, rfl, rfl, rfl, rfl⟩ := hux
    obtain ⟨rfl, rfl, rfl, rfl, rfl⟩ := hyx
    have s0 := HG7.out.cell 0; have s1 := HG7.out.cell 1
    simp at s0 s1
    clear hu0 hy0
    go_wp2_with fail
    refine (rsame_any _ ⟨0, none, 0, 0, []⟩ ⟨0, none, 0, 0, []⟩ w7 rfl (v0_rd _) (v0_rd _)).mono ?_
    rintro e w8 ⟨rs, rfl, hrs, hb8⟩
    have hrs1 : rs = true := hrs.2 rfl
    subst hrs1
    have HB8 := Lib.hid (HB7.out.trans (hb8.mono HB7.out.size))
    have HQ8 := Lib.hid (HQ7.out.below hb8)
    clear hrs hb8 s0 s1
    have s0 := HQ8.out.cell 0; have s1 := HQ8.out.cell 1
    simp at s0 s1
    go_wp2_with fail
    refine (rsame_any _ ⟨0, none, 0, 0, []⟩ ⟨0, none, 0, 0, []⟩ w8 rfl (v0_rd _) (v0_rd _)).mono ?_
    rintro e w9 ⟨rs, rfl, hrs, hb9⟩
    have hrs1 : rs = true := hrs.2 rfl
    subst hrs1
    have HB9 := Lib.hid (HB8.out.trans (hb9.mono HB8.out.size))
    clear hrs hb9 s0 s1
    go_wp2_with fail
    refine (awake_any _).mono ?_
    rintro e w10 ⟨rfl, hb10⟩
    have HB10 := Lib.hid (HB9.out.trans (hb10.mono HB9.out.size))
    clear hb10
    go_wp2
    go_ret
    exact ⟨rfl, HB10.out⟩
  · have HAT := Lib.hid hat
    rw [hat] at hok1 hok2 hrl'
    simp only [Option.isSome_some] at hok1 hok2 hrl'
    subst hok1 hok2 hrl'
    have hu1 : Vn.tr ⟨ux, ua, um, uc, ul⟩ = u := by have := H1.out (by trivial); rw [hat] at this; exact (Option.some.inj this).symm
    have hy1 := (H3.out (by trivial)).2
    have HU1 := Lib.hid hu1; have HY1 := Lib.hid hy1
    clear hu1 hy1 hat
    have s0 := HQ7.out.cell 0; have s1 := HQ7.out.cell 1
    simp at s0 s1
    go_wp2_with fail
    refine (get_any ⟨yx, ya, ym, yc, yl⟩ pa n c p w7 HY7.out (HP.out.below HB7.out)).mono ?_
    rintro e w8 ⟨⟨zx, za, zm, zc, zl⟩, ok3, rfl, hb8, hz, h1, h2⟩
    have hat2 : Tr.at' (Vn.tr ⟨yx, ya, ym, yc, yl⟩) p = some x.tr := by rw [HY1.out]; exact Tr.at_put p HAT.out
    have hok3 : ok3 = true := by
      cases ok3 with
      | true => rfl
      | false => have := (h2 rfl).1; rw [hat2] at this; cases this
    subst hok3
    have hz1 : Vn.tr ⟨zx, za, zm, zc, zl⟩ = x.tr := by have := h1 rfl; rw [hat2] at this; exact (Option.some.inj this).symm
    have hbA : Below w8.heap.size w8 (w8.alloc (.cells #[.int .i64 zx, .slice za zm zc] 52)) := (Below.refl _ _).alloc (Nat.le_refl _) _
    have HZR := Lib.hid (hz.below hbA)
    have HG8 : Hid (VB (w8.alloc (.cells #[.int .i64 zx, .slice za zm zc] 52)) w8.heap.size ⟨zx, za, zm, zc, zl⟩) := Blk.new w8 _ _
    have HK8 := Lib.hid (hb8.trans (hbA.mono hb8.size))
    have HZ1 := Lib.hid hz1
    clear hb8 hz h1 h2 hbA s0 s1 hat2 hz1
    unfold Vn.val
    go_upto_region 10 with fail
    generalize hW8 : w8.alloc (.cells #[.int .i64 zx, .slice za zm zc] 52) = w9 at HZR HG8 HK8 ⊢
    generalize w8.heap.size = g8 at HG8 ⊢
    clear hW8
    have HB9 := Lib.hid (HB7.out.trans (HK8.out.mono HB7.out.size))
    have hKeep : ∀ V : World, Below w9.heap.size w9 V → V.cell? ⟨w.heap.size, 0, none⟩ = some (.int .i64 v.x) ∧ V.cell? ⟨w.heap.size, 1, none⟩ = some (.slice v.a v.m v.c) ∧ V.cell? ⟨w.heap.size + 1, 0, none⟩ = some (.int .i64 x.x) ∧ V.cell? ⟨w.heap.size + 1, 1, none⟩ = some (.slice x.a x.m x.c) ∧ V.cell? ⟨g3, 0, none⟩ = some (.int .i64 ux) ∧ V.cell? ⟨g3, 1, none⟩ = some (.slice ua um uc) ∧ V.cell? ⟨g5, 0, none⟩ = some (.int .i64 yx) ∧ V.cell? ⟨g5, 1, none⟩ = some (.slice ya ym yc) ∧ V.cell? ⟨g8, 0, none⟩ = some (.int .i64 zx) ∧ V.cell? ⟨g8, 1, none⟩ = some (.slice za zm zc) := fun V hV =>
      ⟨((HZ7.out.below HK8.out).below hV).cell 0, ((HZ7.out.below HK8.out).below hV).cell 1, ((HX7.out.below HK8.out).below hV).cell 0, ((HX7.out.below HK8.out).below hV).cell 1,
       ((HG7.out.below HK8.out).below hV).cell 0, ((HG7.out.below HK8.out).below hV).cell 1, ((HQ7.out.below HK8.out).below hV).cell 0, ((HQ7.out.below HK8.out).below hV).cell 1, (HG8.out.below hV).cell 0, (HG8.out.below hV).cell 1⟩
    have Kp := Lib.hid hKeep
    have HU9 := Lib.hid (HU7.out.below HK8.out); have HY9 := Lib.hid (HY7.out.below HK8.out)
    have HV9 := Lib.hid (HV.out.below HB9.out); have HX9 := Lib.hid (HXR.out.below HB9.out); have HP9 := Lib.hid (HP.out.below HB9.out)
    have HAT2 : Hid (Tr.at' (.mk v.x v.l) p = some u) := HAT
    have HSZ2 : Hid (Tr.size (.mk v.x v.l) ≤ 1000) := hszv
    have HVD := Lib.hid (show ∀ V : World, Below w9.heap.size w9 V → Vn.Rd V ⟨v.x, v.a, v.m, v.c, v.l⟩ from fun V h => HV9.out.below h)
    have HXD := Lib.hid (show ∀ V : World, Below w9.heap.size w9 V → Vn.Rd V ⟨x.x, x.a, x.m, x.c, x.l⟩ from fun V h => HX9.out.below h)
    have HVS := Lib.hid (show ∀ V : World, Below w9.heap.size w9 V → Vn.Rs (· < w9.heap.size) V ⟨v.x, v.a, v.m, v.c, v.l⟩ from fun V h => HV9.out.rs.below h)
    have HXS := Lib.hid (show ∀ V : World, Below w9.heap.size w9 V → Vn.Rs (· < w9.heap.size) V ⟨x.x, x.a, x.m, x.c, x.l⟩ from fun V h => HX9.out.rs.below h)
    have HSS := Lib.hid (show ∀ V : World, Below w9.heap.size w9 V → ∀ b, b < w9.heap.size → b < V.heap.size from fun V h b hb => Nat.lt_of_lt_of_le hb h.size)
    have HZ2' : Hid (Tr.mk zx zl = Tr.mk x.x x.l) := HZ1
    have HY2' : Hid (Tr.mk yx yl = Tr.put (Tr.mk v.x v.l) p (Tr.mk x.x x.l)) := HY1
    have HU2' : Hid (Tr.mk ux ul = u) := HU1
    have HRR2 := Lib.hid (show (Tr.mk x.x x.l = Tr.mk ux ul) ↔ (Tr.mk yx yl = Tr.mk v.x v.l) by rw [HY2'.out, HU2'.out]; exact (Tr.put_eq HAT2.out).symm)
    clear hKeep HZ7 HX7 HG7 HQ7 HG8 HZ6 HX6 HG6 HG5 HZ4 HX4 HG3 HZ2 HX2
    go_region_held3 (fun V => V.cell? ⟨w.heap.size, 0, none⟩ = some (.int .i64 v.x) ∧ V.cell? ⟨w.heap.size, 1, none⟩ = some (.slice v.a v.m v.c) ∧ V.cell? ⟨w.heap.size + 1, 0, none⟩ = some (.int .i64 x.x) ∧ V.cell? ⟨w.heap.size + 1, 1, none⟩ = some (.slice x.a x.m x.c) ∧ V.cell? ⟨g3, 0, none⟩ = some (.int .i64 ux) ∧ V.cell? ⟨g3, 1, none⟩ = some (.slice ua um uc) ∧ V.cell? ⟨g5, 0, none⟩ = some (.int .i64 yx) ∧ V.cell? ⟨g5, 1, none⟩ = some (.slice ya ym yc) ∧ V.cell? ⟨g8, 0, none⟩ = some (.int .i64 zx) ∧ V.cell? ⟨g8, 1, none⟩ = some (.slice za zm zc))
      (first | exact Kp.out _ (Below.refl _ _) | exact Kp.out _ (Below.drew (Below.refl _ _)) | exact Kp.out _ KH.out | exact Kp.out _ KG.out | exact Kp.out _ KF.out | exact Kp.out _ KE.out | exact Kp.out _ KD.out | exact Kp.out _ KC.out | exact Kp.out _ KB.out | exact Kp.out _ KA.out)
      (first
        | (go_at_call 45; (with_reducible refine (rget_x (· < w9.heap.size) p v.x v.a v.m v.c v.l u pa n c _ HAT2.out (HVS.out _ (Below.drew (Below.refl _ _))) (HSS.out _ (Below.drew (Below.refl _ _))) (HP9.out.below (Below.drew (Below.refl _ _)))).mono ?_); rintro e wa ⟨ax, aa, am, ac, al, rfl, hta, hra, hba⟩; have KA : Hid (Below w9.heap.size w9 wa) := (Below.drew (Below.refl _ _)).trans hba; have HTA := Lib.hid hta; have HRA := Lib.hid hra.rd'; clear hta hra hba)
        | (go_at_call 44; (with_reducible refine (rsame_x ux ua um uc ul ax aa am ac al _ (HU9.out.below KA.out) HRA.out).mono ?_); rintro e wb ⟨rs, rfl, hrs, hbb⟩; (obtain rfl : rs = true := hrs.2 (HU2'.out.trans HTA.out.symm)); have KB : Hid (Below w9.heap.size w9 wb) := KA.out.trans (hbb.mono KA.out.size); clear hrs hbb)
        | (go_at_call 44; (with_reducible refine (rsame_x zx za zm zc zl x.x x.a x.m x.c x.l _ (HZR.out.below KB.out) (HXD.out _ KB.out)).mono ?_); rintro e wc ⟨rs, rfl, hrs, hbb⟩; (obtain rfl : rs = true := hrs.2 HZ2'.out); have KC : Hid (Below w9.heap.size w9 wc) := KB.out.trans (hbb.mono KB.out.size); clear hrs hbb)
        | (go_at_call 46; (with_reducible refine (rset_x p v.x v.a v.m v.c v.l x.x x.a x.m x.c x.l u w9.heap.size pa n c _ HAT2.out (HVS.out _ KC.out) (HXS.out _ KC.out) KC.out.size HSZ2.out (HP9.out.below KC.out)).mono ?_); rintro e wd ⟨sx, sa, sm, sc, sl, rfl, hts, hrs, hbs⟩; have KD : Hid (Below w9.heap.size w9 wd) := KC.out.trans (hbs.mono KC.out.size); have HTS := Lib.hid hts; have HRS := Lib.hid hrs.rd'; clear hts hrs hbs)
        | (go_at_call 44; (with_reducible refine (rsame_x yx ya ym yc yl sx sa sm sc sl _ (HY9.out.below KD.out) HRS.out).mono ?_); rintro e we ⟨rs, rfl, hrs, hbb⟩; (obtain rfl : rs = true := hrs.2 (HY2'.out.trans HTS.out.symm)); have KE : Hid (Below w9.heap.size w9 we) := KD.out.trans (hbb.mono KD.out.size); clear hrs hbb)
        | (go_at_call 47; (with_reducible refine (psame_x yx ya ym yc yl v.x v.a v.m v.c v.l _ (HY9.out.below KE.out) (HVD.out _ KE.out)).mono ?_); rintro e wf ⟨r1, rfl, hr1, hbb⟩; have KF : Hid (Below w9.heap.size w9 wf) := KE.out.trans (hbb.mono KE.out.size); have HR1 := Lib.hid hr1; clear hr1 hbb)
        | (go_at_call 44; (with_reducible refine (rsame_x x.x x.a x.m x.c x.l ux ua um uc ul _ (HXD.out _ KF.out) (HU9.out.below KF.out)).mono ?_); rintro e wg ⟨r2, rfl, hr2, hbb⟩; (obtain rfl : r2 = r1 := same_bool hr2 HR1.out HRR2.out); have KG : Hid (Below w9.heap.size w9 wg) := KF.out.trans (hbb.mono KF.out.size); clear hr2 hbb)
        | (go_at_call 40; refine (awake_any _).mono ?_; rintro e wh ⟨rfl, hbb⟩; have KH : Hid (Below w9.heap.size w9 wh) := KG.out.trans (hbb.mono KG.out.size); clear hbb))
    go_wp2
    go_ret
    exact ⟨rfl, HB9.out.trans (KH.out.mono HB9.out.size)⟩
end Go.Proofs.Ytbpjaidfpacbfaa.va
