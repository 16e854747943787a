/-
  Layer 6: are two terms the same? Both sides ask so; the document with places, too.
-/
import Derived.Test.YtjmjillfclfkgaaTrmBase
namespace Go.Proofs.Ytjmjillfclfkgaa.te
open Go.ChangeShapes Go.WideShapes Go.ChangeAt Go.RowKit
open bs tr
set_option linter.unusedVariables false

set_option maxRecDepth 100000 in
set_option maxHeartbeats 4000000 in
theorem placed_k (t : VT) : ∀ (a b : Vn) (w : World), a.tr = t → a.Rd w → b.Rd w → Calls Try.prog 10 #[a.val, b.val] w (SPk id a.tr b.tr w) := by
  induction t using Tr.ind with
  | h tx tl ih =>
  intro a b w hat ha hb
  obtain ⟨⟨ak, an, a5, af, atq⟩, aa, am, ac, al⟩ := a
  obtain ⟨⟨bk, bn, bs, bf, bt⟩, ba, bm, bc, bl⟩ := b
  cases hat
  obtain ⟨ha, hax⟩ := ha
  obtain ⟨hb, hbx⟩ := hb
  dsimp only at ha hb
  have hcapa := ha.cap; have hmosta := ha.most; have hcapb := hb.cap; have hmostb := hb.most
  unfold Vn.val
  have hW1 : Below w.heap.size w ((w.alloc (.cells #[.int .i64 ak, .int .i64 an, .string a5, .slice aa am ac, .int .i64 af, .int .i64 atq] 24)).alloc (.cells #[.int .i64 bk, .int .i64 bn, .string bs, .slice ba bm bc, .int .i64 bf, .int .i64 bt] 24)) := ((Below.refl _ _).alloc (Nat.le_refl _) _).alloc (by simp) _
  have hX : Blk ((w.alloc (.cells #[.int .i64 ak, .int .i64 an, .string a5, .slice aa am ac, .int .i64 af, .int .i64 atq] 24)).alloc (.cells #[.int .i64 bk, .int .i64 bn, .string bs, .slice ba bm bc, .int .i64 bf, .int .i64 bt] 24)) w.heap.size #[.int .i64 ak, .int .i64 an, .string a5, .slice aa am ac, .int .i64 af, .int .i64 atq] 24 := (Blk.new w _ _).below ((Below.refl _ _).alloc (Nat.le_refl _) _)
  have hY : Blk ((w.alloc (.cells #[.int .i64 ak, .int .i64 an, .string a5, .slice aa am ac, .int .i64 af, .int .i64 atq] 24)).alloc (.cells #[.int .i64 bk, .int .i64 bn, .string bs, .slice ba bm bc, .int .i64 bf, .int .i64 bt] 24)) (w.heap.size + 1) #[.int .i64 bk, .int .i64 bn, .string bs, .slice ba bm bc, .int .i64 bf, .int .i64 bt] 24 := by
    have := Blk.new (w.alloc (.cells #[.int .i64 ak, .int .i64 an, .string a5, .slice aa am ac, .int .i64 af, .int .i64 atq] 24)) #[.int .i64 bk, .int .i64 bn, .string bs, .slice ba bm bc, .int .i64 bf, .int .i64 bt] 24
    simpa using this
  have HW := Lib.hid hW1; have HX := Lib.hid hX; have HY := Lib.hid hY
  have HA := Lib.hid (ha.below va_stays hW1); have HB := Lib.hid (hb.below va_stays hW1)
  have hla := ha.len; have hlb := hb.len
  have HLA := Lib.hid hla; have HLB := Lib.hid hlb
  have HIH := Lib.hid ih
  clear ha hb hW1 hX hY hla hlb ih hax hbx
  go_enter Try.func10, Try.ntmps10
  by_cases hk : ak = bk
  case neg =>
    go_wp2
    go_ret
    refine ⟨false, rfl, ⟨fun h => (by cases h), fun h => ?_⟩, HW.out⟩
    have h1 : key id (.mk _ al) = key id (.mk _ bl) := h
    rw [key_mk, key_mk] at h1
    injection h1 with h2 h3
    exact absurd (congrArg Lab.k h2) hk
  subst hk
  by_cases hn : an = bn
  case neg =>
    go_wp2
    go_ret
    refine ⟨false, rfl, ⟨fun h => (by cases h), fun h => ?_⟩, HW.out⟩
    have h1 : key id (.mk _ al) = key id (.mk _ bl) := h
    rw [key_mk, key_mk] at h1
    injection h1 with h2 h3
    exact absurd (congrArg Lab.n h2) hn
  subst hn
  by_cases hs : a5 = bs
  case neg =>
    have d1 : (a5.toList == bs.toList) = false := by rw [text_eq]; exact decide_eq_false hs
    go_wp2
    go_ret
    refine ⟨false, rfl, ⟨fun h => (by cases h), fun h => ?_⟩, HW.out⟩
    have h1 : key id (.mk _ al) = key id (.mk _ bl) := h
    rw [key_mk, key_mk] at h1
    injection h1 with h2 h3
    exact absurd (congrArg Lab.s h2) hs
  subst hs
  by_cases hf : af = bf
  case neg =>
    go_wp2
    go_ret
    refine ⟨false, rfl, ⟨fun h => (by cases h), fun h => ?_⟩, HW.out⟩
    have h1 : key id (.mk _ al) = key id (.mk _ bl) := h
    rw [key_mk, key_mk] at h1
    injection h1 with h2 h3
    exact absurd (congrArg Lab.f h2) hf
  subst hf
  by_cases ht : atq = bt
  case neg =>
    go_wp2
    go_ret
    refine ⟨false, rfl, ⟨fun h => (by cases h), fun h => ?_⟩, HW.out⟩
    have h1 : key id (.mk _ al) = key id (.mk _ bl) := h
    rw [key_mk, key_mk] at h1
    injection h1 with h2 h3
    exact absurd (congrArg Lab.t h2) ht
  subst ht
  by_cases hm : am = bm
  case neg =>
    have hm' : ¬ (am : Int) = (bm : Int) := by omega
    go_wp2
    go_ret
    refine ⟨false, rfl, ⟨fun h => (by cases h), fun h => ?_⟩, HW.out⟩
    have h2 := congrArg (fun t : VT => t.kids.length) h
    simp only [Vn.tr, key_mk, Tr.kids, List.length_map] at h2
    exact absurd ((HLA.out.symm.trans h2).trans HLB.out) hm
  subst hm
  go_wp2_with fail
  generalize hWW : ((w.alloc (.cells #[.int .i64 ak, .int .i64 an, .string a5, .slice aa am ac, .int .i64 af, .int .i64 atq] 24)).alloc (.cells #[.int .i64 ak, .int .i64 an, .string a5, .slice ba am bc, .int .i64 af, .int .i64 atq] 24)) = W at HW HX HY HA HB ⊢
  clear hWW
  go_loopw [5] (fun i wr => ∃ k : Nat, k ≤ am ∧ i = .int .i64 k ∧ Hid (Below W.heap.size W wr) ∧ Hid (∀ j, j < k → (al.map (key id))[j]? = (bl.map (key id))[j]?)) (fun i _ => am - (intOf i).toNat)
  case atStart => exact ⟨0, by omega, rfl, Lib.hid (Below.refl _ _), Lib.hid fun j hj => by omega⟩
  case round =>
    obtain ⟨k, hk2, rfl, HR, HE⟩ := hrel
    have p3 := (HX.out.below HR.out).cell 3
    have q3 := (HY.out.below HR.out).cell 3
    simp at p3 q3
    by_cases hlt : k < am
    · obtain ⟨b1, o1, x1, rfl, hb1, hx1, hc1⟩ := recs_at (HA.out.below va_stays HR.out) hlt
      obtain ⟨b2, o2, x2, rfl, hb2, hx2, hc2⟩ := recs_at (HB.out.below va_stays HR.out) hlt
      obtain ⟨v1, hv1, hr1, c10, c11, c12, c13, c14, c15⟩ := VA.out hc1
      obtain ⟨v2, hv2, hr2, c20, c21, c22, c23, c24, c25⟩ := VA.out hc2
      have HR1 := Lib.hid hr1; have HR2 := Lib.hid hr2
      have HV1 := Lib.hid hv1; have HV2 := Lib.hid hv2; have HX1 := Lib.hid hx1; have HX2 := Lib.hid hx2
      have hmem : x1 ∈ al := List.mem_of_getElem? hx1
      have HMEM := Lib.hid hmem
      clear hr1 hr2 hv1 hv2 hx1 hx2 hmem hc1 hc2
      obtain ⟨z1, aa1, am1, ac1, al1⟩ := v1
      obtain ⟨z2, aa2, am2, ac2, al2⟩ := v2
      dsimp only at c10 c11 c12 c13 c14 c15 c20 c21 c22 c23 c24 c25
      go_wp2_with fail
      go_still_tail 10, (by kernel_rfl)
      change wpList _ _ _ _ _ (wr.drewN 1)
      go_wp2_with fail
      refine (HIH.out x1 HMEM.out ⟨z1, aa1, am1, ac1, al1⟩ ⟨z2, aa2, am2, ac2, al2⟩ _ HV1.out (HR1.out.below (below_drewN (Below.refl _ _) 1)) (HR2.out.below (below_drewN (Below.refl _ _) 1))).mono ?_
      rintro e w2 ⟨r, rfl, hr, hb2⟩
      have HBW := Lib.hid (HR.out.trans ((below_drewN (Below.refl _ _) 1).trans (hb2.mono (by show wr.heap.size ≤ _; exact Nat.le_refl _)) |>.mono HR.out.size))
      have HRR := Lib.hid hr
      clear hr hb2
      cases r with
      | true =>
        go_wp2
        go_roundw
        case rel =>
          refine ⟨k + 1, by omega, by go_num, HBW, Lib.hid fun j hj => ?_⟩
          rcases Nat.lt_or_ge j k with h | h
          · exact HE.out j h
          · have : j = k := by omega
            subst this
            rw [List.getElem?_map, List.getElem?_map, HX1.out, HX2.out, ← HV1.out, ← HV2.out]
            exact congrArg some (HRR.out.1 (by trivial))
        case measure => simp [intOf]; omega
      | false =>
        go_wp2
        go_ret
        refine ⟨false, rfl, ⟨fun h => (by cases h), fun h => ?_⟩, HW.out.trans (HBW.out.mono HW.out.size)⟩
        have h1 := congrArg (fun t : VT => t.kids[k]?) h
        simp only [Vn.tr, key_mk, Tr.kids, List.getElem?_map, HX1.out, HX2.out, Option.map_some, Option.some.injEq] at h1
        have h4 := HRR.out.2 (by rw [HV1.out, HV2.out]; exact h1)
        cases h4
    · have hkm : k = am := by omega
      subst hkm
      go_wp2
      go_ret
      refine ⟨true, rfl, ⟨fun _ => ?_, fun _ => rfl⟩, HW.out.trans (HR.out.mono HW.out.size)⟩
      have := same_lists (by rw [List.length_map]; exact HLA.out) (by rw [List.length_map]; exact HLB.out) HE.out
      show key id (.mk _ al) = key id (.mk _ bl)
      rw [key_mk, key_mk, this]
      try rfl

theorem rsame_any (t : VT) (a b : Vn) (w : World) (h : a.tr = t) (ha : a.Rd w) (hb : b.Rd w) : Calls Try.prog 10 #[a.val, b.val] w (SP a.tr b.tr w) :=
  (placed_k t a b w h ha hb).mono fun e w' ⟨r, h1, h2, h3⟩ => ⟨r, h1, by rw [h2, key_id, key_id], h3⟩

end Go.Proofs.Ytjmjillfclfkgaa.te
