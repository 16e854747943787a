/-
  Layer 14: is a number wild? (the document's)
-/
import Derived.Test.YtbpjaidfpacbfaaShiBackM
namespace Go.Proofs.Ytbpjaidfpacbfaa.te
open Go.ChangeShapes Go.WideShapes Go.ChangeAt Go.RowKit
open bs tr
set_option linter.unusedVariables false

def WlP (t : VT) (w : World) (e : Ending) (w' : World) : Prop := ∃ r : Bool, e = .returned (.bool r) ∧ (r = false → wi t = false) ∧ Below w.heap.size w w'

set_option maxRecDepth 100000 in
set_option maxHeartbeats 2000000 in
theorem rwild_any (t : VT) : ∀ (a : Vn) (w : World), a.tr = t → a.Rd w → Calls Try.prog 35 #[A6 a] w (WlP a.tr w) := by
  induction t using Tr.ind with
  | h tx tl ih =>
  intro a w hat ha
  obtain ⟨ax, aa, am, ac, al⟩ := a
  cases hat
  obtain ⟨ha, hax⟩ := ha
  dsimp only at ha hax
  have hcapa := ha.cap; have hmosta := ha.most; have hlen := ha.len
  have hW1 : Below w.heap.size w (w.alloc (.cells #[.int .i64 ax.k, .int .i64 ax.n, .string ax.s, .slice aa am ac, .int .i64 ax.f, .int .i64 ax.t] 24)) := ((Below.refl _ _).alloc (Nat.le_refl _) _)
  have hX : Blk (w.alloc (.cells #[.int .i64 ax.k, .int .i64 ax.n, .string ax.s, .slice aa am ac, .int .i64 ax.f, .int .i64 ax.t] 24)) w.heap.size #[.int .i64 ax.k, .int .i64 ax.n, .string ax.s, .slice aa am ac, .int .i64 ax.f, .int .i64 ax.t] 24 := Blk.new w _ _
  have HW := Lib.hid hW1; have HX := Lib.hid hX
  have HA := Lib.hid (ha.below va_stays hW1)
  have HIH := Lib.hid ih; have HLEN := Lib.hid hlen
  clear ha hW1 hX ih hlen
  go_enter Try.func35, Try.ntmps35
  go_upto_region 1 with fail
  generalize hWW : (w.alloc (.cells #[.int .i64 ax.k, .int .i64 ax.n, .string ax.s, .slice aa am ac, .int .i64 ax.f, .int .i64 ax.t] 24)) = W at HW HX HA ⊢
  clear hWW
  have p0 := HX.out.cell 0; have pn := HX.out.cell 1; have p3 := HX.out.cell 3
  simp at p0 pn p3
  by_cases hs : ax.k = 7 ∧ 1099511627776 < ax.n
  · have e1 : (ax.k == 7) = true := by rw [beq_iff_eq]; exact hs.1
    have n1 := hs.2
    clear hs
    go_wp2
    go_ret
    exact ⟨true, rfl, (fun h => by cases h), HW.out⟩
  · have hd : decide (ax.k = 7 ∧ 1099511627776 < ax.n) = false := decide_eq_false hs
    have HD := Lib.hid hd
    clear hd
    go_cut [11] from 4 to 11 (fun s11 wx => s11 = .bool false ∧ wx = W)
    case first =>
      by_cases hk : ax.k = 7
      · have e1 : (ax.k == 7) = true := by rw [beq_iff_eq]; exact hk
        have n1 : ¬ 1099511627776 < ax.n := fun h => hs ⟨hk, h⟩
        have n2 : decide (1099511627776 < ax.n) = false := decide_eq_false n1
        clear hk hs
        go_wp2_with fail
        go_meet
        exact ⟨rfl, rfl⟩
      · have e1 : (ax.k == 7) = false := by rw [beq_eq_false_iff_ne]; exact hk
        clear hk hs
        go_wp2_with fail
        go_meet
        exact ⟨rfl, rfl⟩
    case rest =>
      obtain ⟨rfl, hwx⟩ := hcut
      subst hwx
      clear hs p0 pn p3
      go_wp2_with fail
      go_loopw [3] (fun i wr => ∃ (k : Nat), k ≤ am ∧ i = .int .i64 k ∧ Hid (Below wc.heap.size wc wr) ∧ Hid (((al.map wi).take k).any id = false)) (fun i _ => am - (intOf i).toNat)
      case atStart => exact ⟨0, by omega, rfl, Lib.hid (Below.refl _ _), Lib.hid (by simp)⟩
      case round =>
        obtain ⟨k, hk2, rfl, HR, HE⟩ := hrel
        have p1 := (HX.out.below HR.out).cell 3
        simp at p1
        by_cases hlt : k < am
        · obtain ⟨b1, o1, x1, rfl, hb1, hx1, hc1⟩ := recs_at (HA.out.below va_stays HR.out) hlt
          obtain ⟨v1, hv1, hr1, c10, c11, c12, c13, c14, c15⟩ := VA.out hc1
          have HR1 := Lib.hid hr1
          have HV1 := Lib.hid hv1
          have hmem : x1 ∈ al := List.mem_of_getElem? hx1
          have HMEM := Lib.hid hmem
          have HKA := Lib.hid (show (al.map wi)[k]? = some (wi x1) by rw [List.getElem?_map, hx1]; rfl)
          clear hr1 hv1 hx1 hmem hc1
          obtain ⟨z1, aa1, am1, ac1, al1⟩ := v1
          dsimp only at c10 c11 c12 c13 c14 c15
          go_wp2_with fail
          refine (HIH.out x1 HMEM.out ⟨z1, aa1, am1, ac1, al1⟩ _ HV1.out HR1.out).mono ?_
          rintro e w2 ⟨r', rfl, hrf, hb2⟩
          have HBW := Lib.hid (HR.out.trans (hb2.mono HR.out.size))
          have HRF := Lib.hid hrf
          clear hb2 hrf
          cases r' with
          | true =>
            go_wp2
            go_ret
            exact ⟨true, rfl, (fun h => by cases h), HW.out.trans (HBW.out.mono HW.out.size)⟩
          | false =>
            have HE2 := Lib.hid (any_false_succ HKA.out HE.out (by rw [← HV1.out]; exact HRF.out rfl))
            go_wp2
            go_roundw
            case rel => exact ⟨k + 1, by omega, by go_num, HBW, HE2⟩
            case measure => simp [intOf]; omega
        · obtain rfl : k = am := by omega
          go_wp2
          go_ret
          refine ⟨false, rfl, fun _ => ?_, HW.out.trans (HR.out.mono HW.out.size)⟩
          show wi (.mk ax al) = false
          have h := HE.out
          rw [List.take_of_length_le (by rw [List.length_map, HLEN.out]; exact Nat.le_refl _)] at h
          rw [wi_mk, HD.out, h]; rfl
end Go.Proofs.Ytbpjaidfpacbfaa.te
