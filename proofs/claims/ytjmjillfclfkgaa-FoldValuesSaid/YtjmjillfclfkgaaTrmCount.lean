/-
  Layer 6: is a value too large to be looked at? What is not has no more than 300 parts.
-/
import Derived.Test.YtjmjillfclfkgaaTrmBase
import Derived.Test.YtjmjillfclfkgaaTreesPut
namespace Go.Proofs.Ytjmjillfclfkgaa.te
open Go.ChangeShapes Go.WideShapes Go.ChangeAt Go.RowKit
open bs tr
set_option linter.unusedVariables false

def CP (t : VT) (left : Int) (w : World) (e : Ending) (w' : World) : Prop := ∃ r : Int, e = .returned (.int .i64 r) ∧ -1 ≤ r ∧ r ≤ left ∧ (0 ≤ r → r + t.size = left) ∧ Below w.heap.size w w'

set_option maxRecDepth 100000 in
set_option maxHeartbeats 2000000 in
theorem rcount_any (t : VT) : ∀ (a : Vn) (left lv : Int) (w : World), a.tr = t → a.Rd w → 0 ≤ left → left ≤ 1000 → 0 ≤ lv → lv ≤ 1000 → Calls Try.prog 17 #[a.val, .int .i64 left, .int .i64 lv] w (CP a.tr left w) := by
  induction t using Tr.ind with
  | h tx tl ih =>
  intro a left lv w hat ha hl0 hl1 hv0 hv1
  obtain ⟨ax, aa, am, ac, al⟩ := a
  cases hat
  obtain ⟨ha, hax⟩ := ha
  dsimp only at ha hax
  have hcapa := ha.cap; have hmosta := ha.most
  unfold Vn.val
  have hW1 : Below w.heap.size w (w.alloc (.cells #[.int .i64 ax.k, .int .i64 ax.n, .string ax.s, .slice aa am ac, .int .i64 ax.f, .int .i64 ax.t] 24)) := ((Below.refl _ _).alloc (Nat.le_refl _) _)
  have hX : Blk (w.alloc (.cells #[.int .i64 ax.k, .int .i64 ax.n, .string ax.s, .slice aa am ac, .int .i64 ax.f, .int .i64 ax.t] 24)) w.heap.size #[.int .i64 ax.k, .int .i64 ax.n, .string ax.s, .slice aa am ac, .int .i64 ax.f, .int .i64 ax.t] 24 := Blk.new w _ _
  have HW := Lib.hid hW1; have HX := Lib.hid hX
  have HA := Lib.hid (ha.below va_stays hW1)
  have hla := ha.len
  have HLA := Lib.hid hla
  have HIH := Lib.hid ih
  clear ha hW1 hX hla ih
  go_enter Try.func17, Try.ntmps17
  by_cases hv : lv ≤ 0
  · go_wp2
    go_ret
    exact ⟨-1, rfl, by omega, by omega, fun h => by omega, HW.out⟩
  · have hlm : IntKind.i64.wrap (left - 1) = left - 1 := IntWalk.i64_in _ (by omega)
    have hvm : IntKind.i64.wrap (lv - 1) = lv - 1 := IntWalk.i64_in _ (by omega)
    go_wp2_with fail
    generalize hWW : (w.alloc (.cells #[.int .i64 ax.k, .int .i64 ax.n, .string ax.s, .slice aa am ac, .int .i64 ax.f, .int .i64 ax.t] 24)) = W at HW HX HA ⊢
    clear hWW
    go_loopw [1, 7] (fun s1 i wr => ∃ (k : Nat) (r : Int), k ≤ am ∧ i = .int .i64 k ∧ s1 = .int .i64 r ∧ -1 ≤ r ∧ r < left ∧ Hid (Below W.heap.size W wr) ∧ Hid (0 ≤ r → r + 1 + Tr.sumk al k = left)) (fun _ i _ => am - (intOf i).toNat)
    case atStart => exact ⟨0, left - 1, by omega, rfl, by go_num, by omega, by omega, Lib.hid (Below.refl _ _), Lib.hid fun _ => by rw [Tr.sumk_zero]; omega⟩
    case round =>
      obtain ⟨k, r, hk2, rfl, rfl, hr0, hr1, HR, HE⟩ := hrel
      have p0 := (HX.out.below HR.out).cell 0; have p1 := (HX.out.below HR.out).cell 3; have p2 := (HX.out.below HR.out).cell 1; have p3 := (HX.out.below HR.out).cell 2; have p4 := (HX.out.below HR.out).cell 4; have p5 := (HX.out.below HR.out).cell 5
      simp at p0 p1 p2 p3 p4 p5
      by_cases hlt : k < am
      · by_cases hrr : 0 ≤ r
        · obtain ⟨b1, o1, x1, rfl, hb1, hx1, hc1⟩ := recs_at (HA.out.below va_stays HR.out) hlt
          obtain ⟨v1, hv1, hr1, c10, c11, c12, c13, c14, c15⟩ := VA.out hc1
          have HR1 := Lib.hid hr1
          have HV1 := Lib.hid hv1; have HX1 := Lib.hid hx1
          have hmem : x1 ∈ al := List.mem_of_getElem? hx1
          have HMEM := Lib.hid hmem
          clear hr1 hv1 hx1 hmem hc1
          obtain ⟨z1, aa1, am1, ac1, al1⟩ := v1
          dsimp only at c10 c11 c12 c13 c14 c15
          go_wp2_with fail
          refine (HIH.out x1 HMEM.out ⟨z1, aa1, am1, ac1, al1⟩ r (lv - 1) _ HV1.out HR1.out (by omega) (by omega) (by omega) (by omega)).mono ?_
          rintro e w2 ⟨r', rfl, hq0, hq1, hq2, hb2⟩
          have HBW := Lib.hid (HR.out.trans (hb2.mono HR.out.size))
          have hq3 : 0 ≤ r' → r' + x1.size = r := by rw [← HV1.out]; exact hq2
          have HQ := Lib.hid hq3
          clear hq2 hq3 hb2
          go_wp2
          go_roundw
          case rel =>
            refine ⟨k + 1, r', by omega, by go_num, rfl, by omega, by omega, HBW, Lib.hid fun h => ?_⟩
            have h1 := HQ.out h
            have h2 := HE.out (by omega)
            rw [Tr.sumk_succ HX1.out]
            omega
          case measure => simp [intOf]; omega
        · go_wp2
          go_ret
          exact ⟨r, rfl, by omega, by omega, fun h => absurd h (by omega), HW.out.trans (HR.out.mono HW.out.size)⟩
      · have hkm : k = am := by omega
        subst hkm
        by_cases hrr : 0 ≤ r
        · go_wp2
          go_ret
          refine ⟨r, rfl, by omega, by omega, fun h => ?_, HW.out.trans (HR.out.mono HW.out.size)⟩
          have h1 := HE.out h
          show r + ((Tr.size (.mk ax al) : Nat) : Int) = left
          rw [Tr.sumk_all HLA.out]
          omega
        · go_wp2
          go_ret
          exact ⟨r, rfl, by omega, by omega, fun h => absurd h (by omega), HW.out.trans (HR.out.mono HW.out.size)⟩

def BP (w : World) (e : Ending) (w' : World) : Prop := ∃ r : Bool, e = .returned (.bool r) ∧ Below w.heap.size w w'

set_option maxRecDepth 100000 in
set_option maxHeartbeats 2000000 in
theorem rnamed_any (t : VT) : ∀ (a : Vn) (w : World), a.tr = t → a.Rd w → Calls Try.prog 18 #[a.val] w (BP w) := by
  induction t using Tr.ind with
  | h tx tl ih =>
  intro a w hat ha
  obtain ⟨ax, aa, am, ac, al⟩ := a
  cases hat
  obtain ⟨ha, hax⟩ := ha
  dsimp only at ha hax
  have hcapa := ha.cap; have hmosta := ha.most
  unfold Vn.val
  have hW1 : Below w.heap.size w (w.alloc (.cells #[.int .i64 ax.k, .int .i64 ax.n, .string ax.s, .slice aa am ac, .int .i64 ax.f, .int .i64 ax.t] 24)) := ((Below.refl _ _).alloc (Nat.le_refl _) _)
  have hX : Blk (w.alloc (.cells #[.int .i64 ax.k, .int .i64 ax.n, .string ax.s, .slice aa am ac, .int .i64 ax.f, .int .i64 ax.t] 24)) w.heap.size #[.int .i64 ax.k, .int .i64 ax.n, .string ax.s, .slice aa am ac, .int .i64 ax.f, .int .i64 ax.t] 24 := Blk.new w _ _
  have HW := Lib.hid hW1; have HX := Lib.hid hX
  have HA := Lib.hid (ha.below va_stays hW1)
  have HIH := Lib.hid ih
  clear ha hW1 hX ih
  go_enter Try.func18, Try.ntmps18
  by_cases hs : 40 < ax.s.size
  · go_wp2
    go_ret
    exact ⟨true, rfl, HW.out⟩
  · go_wp2_with fail
    generalize hWW : (w.alloc (.cells #[.int .i64 ax.k, .int .i64 ax.n, .string ax.s, .slice aa am ac, .int .i64 ax.f, .int .i64 ax.t] 24)) = W at HW HX HA ⊢
    clear hWW
    go_loopw [3] (fun i wr => ∃ (k : Nat), k ≤ am ∧ i = .int .i64 k ∧ Hid (Below W.heap.size W wr)) (fun i _ => am - (intOf i).toNat)
    case atStart => exact ⟨0, by omega, rfl, Lib.hid (Below.refl _ _)⟩
    case round =>
      obtain ⟨k, hk2, rfl, HR⟩ := hrel
      have p1 := (HX.out.below HR.out).cell 3
      simp at p1
      by_cases hlt : k < am
      · obtain ⟨b1, o1, x1, rfl, hb1, hx1, hc1⟩ := recs_at (HA.out.below va_stays HR.out) hlt
        obtain ⟨v1, hv1, hr1, c10, c11, c12, c13, c14, c15⟩ := VA.out hc1
        have HR1 := Lib.hid hr1
        have HV1 := Lib.hid hv1
        have hmem : x1 ∈ al := List.mem_of_getElem? hx1
        have HMEM := Lib.hid hmem
        clear hr1 hv1 hx1 hmem hc1
        obtain ⟨z1, aa1, am1, ac1, al1⟩ := v1
        dsimp only at c10 c11 c12 c13 c14 c15
        go_wp2_with fail
        refine (HIH.out x1 HMEM.out ⟨z1, aa1, am1, ac1, al1⟩ _ HV1.out HR1.out).mono ?_
        rintro e w2 ⟨r', rfl, hb2⟩
        have HBW := Lib.hid (HR.out.trans (hb2.mono HR.out.size))
        clear hb2
        cases r' with
        | true =>
          go_wp2
          go_ret
          exact ⟨true, rfl, HW.out.trans (HBW.out.mono HW.out.size)⟩
        | false =>
          go_wp2
          go_roundw
          case rel => exact ⟨k + 1, by omega, by go_num, HBW⟩
          case measure => simp [intOf]; omega
      · go_wp2
        go_ret
        exact ⟨false, rfl, HW.out.trans (HR.out.mono HW.out.size)⟩

def LP (t : VT) (m : Nat) (w : World) (e : Ending) (w' : World) : Prop := ∃ r : Bool, e = .returned (.bool r) ∧ (r = false → t.size ≤ m) ∧ Below w.heap.size w w'

set_option maxRecDepth 100000 in
theorem rlarge_any (a : Vn) (w : World) (ha : a.Rd w) : Calls Try.prog 6 #[a.val] w (LP a.tr 400 w) := by
  have hW1 : Below w.heap.size w (w.alloc (.cells #[.int .i64 a.x.k, .int .i64 a.x.n, .string a.x.s, .slice a.a a.m a.c, .int .i64 a.x.f, .int .i64 a.x.t] 24)) := ((Below.refl _ _).alloc (Nat.le_refl _) _)
  have hX : Blk (w.alloc (.cells #[.int .i64 a.x.k, .int .i64 a.x.n, .string a.x.s, .slice a.a a.m a.c, .int .i64 a.x.f, .int .i64 a.x.t] 24)) w.heap.size #[.int .i64 a.x.k, .int .i64 a.x.n, .string a.x.s, .slice a.a a.m a.c, .int .i64 a.x.f, .int .i64 a.x.t] 24 := Blk.new w _ _
  have HW := Lib.hid hW1; have HA := Lib.hid (ha.below hW1); have HX := Lib.hid hX
  clear ha hW1 hX
  unfold Vn.val
  go_enter Try.func6, Try.ntmps6
  go_wp2_with fail
  refine (rcount_any a.tr a 400 70 _ rfl HA.out (by omega) (by omega) (by omega) (by omega)).mono ?_
  rintro e w2 ⟨r, rfl, h0, h1, h2, hb⟩
  have HB := Lib.hid (HW.out.trans (hb.mono HW.out.size))
  have HQ := Lib.hid h2
  have HA2 := Lib.hid (HA.out.below hb); have HX2 := Lib.hid (HX.out.below hb)
  clear h2 hb
  by_cases hr : r < 0
  · go_wp2
    go_ret
    exact ⟨_, rfl, fun h => (by cases h), HB.out⟩
  · have p0 := HX2.out.cell 0; have p1 := HX2.out.cell 3; have p2 := HX2.out.cell 1; have p3 := HX2.out.cell 2; have p4 := HX2.out.cell 4; have p5 := HX2.out.cell 5
    simp at p0 p1 p2 p3 p4 p5
    go_wp2_with fail
    refine (rnamed_any a.tr a _ rfl HA2.out).mono ?_
    rintro e w3 ⟨r', rfl, hb3⟩
    have HB3 := Lib.hid (HB.out.trans (hb3.mono HB.out.size))
    clear hb3
    go_wp2
    go_ret
    refine ⟨_, rfl, fun h => ?_, HB3.out⟩
    have := HQ.out (by omega)
    omega
end Go.Proofs.Ytjmjillfclfkgaa.te
