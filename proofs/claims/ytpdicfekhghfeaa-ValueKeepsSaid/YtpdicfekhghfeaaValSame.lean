/-
  Layer 19: are two values the same? Both sides ask so.
-/
import Derived.Test.YtpdicfekhghfeaaValTree
import Derived.WalkKit
import Derived.Deep.RegionHeld3
import Derived.StillTailTactics
import Derived.Lib.Hide
namespace Go.Proofs.Ytpdicfekhghfeaa.va
open Go.ChangeShapes Go.WideShapes Go.ChangeAt Go.RowKit
open bs tr
set_option linter.unusedVariables false

/-- What is said of two values. -/
def SP (a b : VT) (w : World) (e : Ending) (w' : World) : Prop := ∃ r : Bool, e = .returned (.bool r) ∧ (r = true ↔ a = b) ∧ Below w.heap.size w w'

theorem same_lists {α : Type} {a b : List α} {n : Nat} (ha : a.length = n) (hb : b.length = n) (h : ∀ j, j < n → a[j]? = b[j]?) : a = b := by
  apply List.ext_getElem?
  intro j
  rcases Nat.lt_or_ge j n with hj | hj
  · exact h j hj
  · rw [List.getElem?_eq_none (by omega), List.getElem?_eq_none (by omega)]

abbrev T1 (w : World) (v : Vn) : World := w.alloc (.cells #[.int .i64 v.x, .slice v.a v.m v.c] 27)

theorem recs_at {α : Type} {size : Nat} {E : World → Nat → Nat → α → Prop} {w : World} {a n c} {l : List α} (h : Recs size E w a n c l) {k : Nat} (hk : k < n) : ∃ b off x, a = some ⟨b, off, none⟩ ∧ b < w.heap.size ∧ l[k]? = some x ∧ E w b (off + k * size) x := by
  obtain ⟨x, hx⟩ := Recs.lt h k hk
  obtain ⟨b, off, ha, hb, he⟩ := Recs.one h k x hx
  exact ⟨b, off, x, ha, hb, hx, he⟩

set_option maxRecDepth 100000 in
set_option maxHeartbeats 2000000 in
theorem rsame_any (t : VT) : ∀ (a b : Vn) (w : World), a.tr = t → a.Rd w → b.Rd w → Calls Try.prog 9 #[a.val, b.val] w (SP a.tr b.tr w) := by
  induction t using Tr.ind with
  | h tx tl ih =>
  intro a b w hat ha hb
  obtain ⟨ax, aa, am, ac, al⟩ := a
  obtain ⟨bx, ba, bm, bc, bl⟩ := b
  cases hat
  obtain ⟨ha, hax⟩ := ha
  obtain ⟨hb, hbx⟩ := hb
  dsimp only at ha hb hax hbx
  have hcapa := ha.cap; have hmosta := ha.most; have hcapb := hb.cap; have hmostb := hb.most
  unfold Vn.val
  have hW1 : Below w.heap.size w ((w.alloc (.cells #[.int .i64 ax, .slice aa am ac] 27)).alloc (.cells #[.int .i64 bx, .slice ba bm bc] 27)) := ((Below.refl _ _).alloc (Nat.le_refl _) _).alloc (by simp) _
  have hX : Blk ((w.alloc (.cells #[.int .i64 ax, .slice aa am ac] 27)).alloc (.cells #[.int .i64 bx, .slice ba bm bc] 27)) w.heap.size #[.int .i64 ax, .slice aa am ac] 27 := (Blk.new w _ _).below ((Below.refl _ _).alloc (Nat.le_refl _) _)
  have hY : Blk ((w.alloc (.cells #[.int .i64 ax, .slice aa am ac] 27)).alloc (.cells #[.int .i64 bx, .slice ba bm bc] 27)) (w.heap.size + 1) #[.int .i64 bx, .slice ba bm bc] 27 := by
    have := Blk.new (w.alloc (.cells #[.int .i64 ax, .slice aa am ac] 27)) #[.int .i64 bx, .slice ba bm bc] 27
    simpa using this
  have HW := Lib.hid hW1; have HX := Lib.hid hX; have HY := Lib.hid hY
  have HA := Lib.hid (ha.below va_stays hW1); have HB := Lib.hid (hb.below va_stays hW1)
  have hla := ha.len; have hlb := hb.len
  have HLA := Lib.hid hla; have HLB := Lib.hid hlb
  have HIH := Lib.hid ih
  clear ha hb hW1 hX hY hla hlb ih
  go_enter Try.func9, Try.ntmps9
  by_cases hx : ax = bx
  · subst hx
    by_cases hm : am = bm
    · subst hm
      go_wp2_with fail
      generalize hWW : (w.alloc (.cells #[.int .i64 ax, .slice aa am ac] 27)).alloc (.cells #[.int .i64 ax, .slice ba am bc] 27) = W at HW HX HY HA HB ⊢
      clear hWW
      go_loopw [5] (fun i wr => ∃ k : Nat, k ≤ am ∧ i = .int .i64 k ∧ Hid (Below W.heap.size W wr) ∧ Hid (∀ j, j < k → al[j]? = bl[j]?)) (fun i _ => am - (intOf i).toNat)
      case atStart => exact ⟨0, by omega, rfl, Lib.hid (Below.refl _ _), Lib.hid fun j hj => by omega⟩
      case round =>
        obtain ⟨k, hk2, rfl, HR, HE⟩ := hrel
        have p0 := (HX.out.below HR.out).cell 0
        have p1 := (HX.out.below HR.out).cell 1
        have q0 := (HY.out.below HR.out).cell 0
        have q1 := (HY.out.below HR.out).cell 1
        simp at p0 p1 q0 q1
        by_cases hlt : k < am
        · obtain ⟨b1, o1, x1, rfl, hb1, hx1, hc1⟩ := recs_at (HA.out.below va_stays HR.out) hlt
          obtain ⟨b2, o2, x2, rfl, hb2, hx2, hc2⟩ := recs_at (HB.out.below va_stays HR.out) hlt
          obtain ⟨v1, hv1, hr1, c10, c11⟩ := VA.out hc1
          obtain ⟨v2, hv2, hr2, c20, c21⟩ := VA.out hc2
          have HR1 := Lib.hid hr1; have HR2 := Lib.hid hr2
          have HV1 := Lib.hid hv1; have HV2 := Lib.hid hv2; have HX1 := Lib.hid hx1; have HX2 := Lib.hid hx2
          have hmem : x1 ∈ al := List.mem_of_getElem? hx1
          have HMEM := Lib.hid hmem
          clear hr1 hr2 hv1 hv2 hx1 hx2 hmem hc1 hc2
          obtain ⟨z1, aa1, am1, ac1, al1⟩ := v1
          obtain ⟨z2, aa2, am2, ac2, al2⟩ := v2
          dsimp only at c10 c11 c20 c21
          go_wp2_with fail
          go_still_tail 10, (by kernel_rfl)
          change wpList _ _ _ _ _ (wr.drewN 1)
          go_wp2_with fail
          refine (HIH.out x1 HMEM.out ⟨z1, aa1, am1, ac1, al1⟩ ⟨z2, aa2, am2, ac2, al2⟩ _ HV1.out (HR1.out.below (below_drewN (Below.refl _ _) 1)) (HR2.out.below (below_drewN (Below.refl _ _) 1))).mono ?_
          rintro e w2 ⟨r, rfl, hr, hb2⟩
          have HBW := Lib.hid (HR.out.trans ((below_drewN (Below.refl _ _) 1).trans (hb2.mono (by show wr.heap.size ≤ _; exact Nat.le_refl _)) |>.mono HR.out.size))
          have HRR := Lib.hid hr
          clear hr hb2
          cases r with
          | true =>
            go_wp2
            go_roundw
            case rel =>
              refine ⟨k + 1, by omega, by go_num, HBW, Lib.hid fun j hj => ?_⟩
              rcases Nat.lt_or_ge j k with h | h
              · exact HE.out j h
              · have : j = k := by omega
                subst this
                rw [HX1.out, HX2.out, ← HV1.out, ← HV2.out, HRR.out.1 (by trivial)]
            case measure => simp [intOf]; omega
          | false =>
            go_wp2
            go_ret
            refine ⟨false, rfl, ⟨fun h => (by cases h), fun h => ?_⟩, HW.out.trans (HBW.out.mono HW.out.size)⟩
            have h1 : al = bl := by injection h
            subst h1
            have h2 := HX1.out.symm.trans HX2.out
            have h3 : x1 = x2 := Option.some.inj h2
            have h4 := HRR.out.2 (by rw [HV1.out, HV2.out, h3])
            cases h4
        · have hkm : k = am := by omega
          subst hkm
          go_wp2
          go_ret
          refine ⟨true, rfl, ⟨fun _ => ?_, fun _ => rfl⟩, HW.out.trans (HR.out.mono HW.out.size)⟩
          have := same_lists HLA.out HLB.out HE.out
          subst this
          rfl
    · have hm' : ¬ (am : Int) = (bm : Int) := by omega
      go_wp2
      go_ret
      refine ⟨false, rfl, ⟨fun h => (by cases h), fun h => ?_⟩, HW.out⟩
      injection h with h1 h2
      subst h2
      exact absurd (HLA.out.symm.trans HLB.out) hm
  · go_wp2
    go_ret
    refine ⟨false, rfl, ⟨fun h => (by cases h), fun h => ?_⟩, HW.out⟩
    injection h with h1 h2
    exact absurd h1 hx

set_option maxRecDepth 100000 in
set_option maxHeartbeats 2000000 in
theorem psame_any (t : VT) : ∀ (a b : Vn) (w : World), a.tr = t → a.Rd w → b.Rd w → Calls Try.prog 16 #[a.val, b.val] w (SP a.tr b.tr w) := by
  induction t using Tr.ind with
  | h tx tl ih =>
  intro a b w hat ha hb
  obtain ⟨ax, aa, am, ac, al⟩ := a
  obtain ⟨bx, ba, bm, bc, bl⟩ := b
  cases hat
  obtain ⟨ha, hax⟩ := ha
  obtain ⟨hb, hbx⟩ := hb
  dsimp only at ha hb hax hbx
  have hcapa := ha.cap; have hmosta := ha.most; have hcapb := hb.cap; have hmostb := hb.most
  unfold Vn.val
  have hW1 : Below w.heap.size w ((w.alloc (.cells #[.int .i64 ax, .slice aa am ac] 27)).alloc (.cells #[.int .i64 bx, .slice ba bm bc] 27)) := ((Below.refl _ _).alloc (Nat.le_refl _) _).alloc (by simp) _
  have hX : Blk ((w.alloc (.cells #[.int .i64 ax, .slice aa am ac] 27)).alloc (.cells #[.int .i64 bx, .slice ba bm bc] 27)) w.heap.size #[.int .i64 ax, .slice aa am ac] 27 := (Blk.new w _ _).below ((Below.refl _ _).alloc (Nat.le_refl _) _)
  have hY : Blk ((w.alloc (.cells #[.int .i64 ax, .slice aa am ac] 27)).alloc (.cells #[.int .i64 bx, .slice ba bm bc] 27)) (w.heap.size + 1) #[.int .i64 bx, .slice ba bm bc] 27 := by
    have := Blk.new (w.alloc (.cells #[.int .i64 ax, .slice aa am ac] 27)) #[.int .i64 bx, .slice ba bm bc] 27
    simpa using this
  have HW := Lib.hid hW1; have HX := Lib.hid hX; have HY := Lib.hid hY
  have HA := Lib.hid (ha.below va_stays hW1); have HB := Lib.hid (hb.below va_stays hW1)
  have hla := ha.len; have hlb := hb.len
  have HLA := Lib.hid hla; have HLB := Lib.hid hlb
  have HIH := Lib.hid ih
  clear ha hb hW1 hX hY hla hlb ih
  go_enter Try.func16, Try.ntmps16
  by_cases hx : ax = bx
  · subst hx
    by_cases hm : am = bm
    · subst hm
      go_wp2_with fail
      generalize hWW : (w.alloc (.cells #[.int .i64 ax, .slice aa am ac] 27)).alloc (.cells #[.int .i64 ax, .slice ba am bc] 27) = W at HW HX HY HA HB ⊢
      clear hWW
      go_loopw [5, 23] (fun s5 i wr => ∃ k : Nat, k ≤ am ∧ i = .int .i64 k ∧ Hid (Below W.heap.size W wr) ∧ Hid (∀ j, j < k → al[j]? = bl[j]?)) (fun s5 i _ => am - (intOf i).toNat)
      case atStart => exact ⟨0, by omega, rfl, Lib.hid (Below.refl _ _), Lib.hid fun j hj => by omega⟩
      case round =>
        obtain ⟨k, hk2, rfl, HR, HE⟩ := hrel
        have p0 := (HX.out.below HR.out).cell 0
        have p1 := (HX.out.below HR.out).cell 1
        have q0 := (HY.out.below HR.out).cell 0
        have q1 := (HY.out.below HR.out).cell 1
        simp at p0 p1 q0 q1
        by_cases hlt : k < am
        · obtain ⟨b1, o1, x1, rfl, hb1, hx1, hc1⟩ := recs_at (HA.out.below va_stays HR.out) hlt
          obtain ⟨b2, o2, x2, rfl, hb2, hx2, hc2⟩ := recs_at (HB.out.below va_stays HR.out) hlt
          obtain ⟨v1, hv1, hr1, c10, c11⟩ := VA.out hc1
          obtain ⟨v2, hv2, hr2, c20, c21⟩ := VA.out hc2
          have HR1 := Lib.hid hr1; have HR2 := Lib.hid hr2
          have HV1 := Lib.hid hv1; have HV2 := Lib.hid hv2; have HX1 := Lib.hid hx1; have HX2 := Lib.hid hx2
          have hmem : x1 ∈ al := List.mem_of_getElem? hx1
          have HMEM := Lib.hid hmem
          clear hr1 hr2 hv1 hv2 hx1 hx2 hmem hc1 hc2
          obtain ⟨z1, aa1, am1, ac1, al1⟩ := v1
          obtain ⟨z2, aa2, am2, ac2, al2⟩ := v2
          dsimp only at c10 c11 c20 c21
          go_wp2_with fail
          go_still_tail 10, (by kernel_rfl)
          change wpList _ _ _ _ _ (wr.drewN 1)
          go_wp2_with fail
          refine (HIH.out x1 HMEM.out ⟨z1, aa1, am1, ac1, al1⟩ ⟨z2, aa2, am2, ac2, al2⟩ _ HV1.out (HR1.out.below (below_drewN (Below.refl _ _) 1)) (HR2.out.below (below_drewN (Below.refl _ _) 1))).mono ?_
          rintro e w2 ⟨r, rfl, hr, hb2⟩
          have HBW := Lib.hid (HR.out.trans ((below_drewN (Below.refl _ _) 1).trans (hb2.mono (by show wr.heap.size ≤ _; exact Nat.le_refl _)) |>.mono HR.out.size))
          have HRR := Lib.hid hr
          clear hr hb2
          cases r with
          | true =>
            go_wp2
            go_roundw
            case rel =>
              refine ⟨k + 1, by omega, by go_num, HBW, Lib.hid fun j hj => ?_⟩
              rcases Nat.lt_or_ge j k with h | h
              · exact HE.out j h
              · have : j = k := by omega
                subst this
                rw [HX1.out, HX2.out, ← HV1.out, ← HV2.out, HRR.out.1 (by trivial)]
            case measure => simp [intOf]; omega
          | false =>
            go_wp2
            go_ret
            refine ⟨false, rfl, ⟨fun h => (by cases h), fun h => ?_⟩, HW.out.trans (HBW.out.mono HW.out.size)⟩
            have h1 : al = bl := by injection h
            subst h1
            have h2 := HX1.out.symm.trans HX2.out
            have h3 : x1 = x2 := Option.some.inj h2
            have h4 := HRR.out.2 (by rw [HV1.out, HV2.out, h3])
            cases h4
        · have hkm : k = am := by omega
          subst hkm
          go_wp2
          go_ret
          refine ⟨true, rfl, ⟨fun _ => ?_, fun _ => rfl⟩, HW.out.trans (HR.out.mono HW.out.size)⟩
          have := same_lists HLA.out HLB.out HE.out
          subst this
          rfl
    · have hm' : ¬ (am : Int) = (bm : Int) := by omega
      go_wp2
      go_ret
      refine ⟨false, rfl, ⟨fun h => (by cases h), fun h => ?_⟩, HW.out⟩
      injection h with h1 h2
      subst h2
      exact absurd (HLA.out.symm.trans HLB.out) hm
  · go_wp2
    go_ret
    refine ⟨false, rfl, ⟨fun h => (by cases h), fun h => ?_⟩, HW.out⟩
    injection h with h1 h2
    exact absurd h1 hx

end Go.Proofs.Ytpdicfekhghfeaa.va
