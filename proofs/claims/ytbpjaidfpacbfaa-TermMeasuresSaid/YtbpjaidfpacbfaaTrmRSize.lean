/-
  Layer 6: the document's size of a term.
-/
import Derived.Test.YtbpjaidfpacbfaaShiWalk
namespace Go.Proofs.Ytbpjaidfpacbfaa.te
open Go.ChangeShapes Go.WideShapes Go.ChangeAt Go.RowKit
open bs tr
set_option linter.unusedVariables false

set_option maxRecDepth 100000 in
set_option maxHeartbeats 2000000 in
theorem rsize_any (t : VT) : ∀ (a : Vn) (w : World), a.tr = t → a.Rd w → t.size ≤ 100000 → Calls Try.prog 15 #[A6 a] w (ZP a.tr.size w) := by
  induction t using Tr.ind with
  | h tx tl ih =>
  intro a w hat ha hsz
  obtain ⟨ax, aa, am, ac, al⟩ := a
  cases hat
  obtain ⟨ha, hax⟩ := ha
  dsimp only at ha hax
  have hcapa := ha.cap; have hmosta := ha.most; have hlen := ha.len
  have hsz2 : Tr.size (Tr.mk ax al) ≤ 100000 := hsz
  have hW1 : Below w.heap.size w (w.alloc (.cells #[.int .i64 ax.k, .int .i64 ax.n, .string ax.s, .slice aa am ac, .int .i64 ax.f, .int .i64 ax.t] 24)) := ((Below.refl _ _).alloc (Nat.le_refl _) _)
  have hX : Blk (w.alloc (.cells #[.int .i64 ax.k, .int .i64 ax.n, .string ax.s, .slice aa am ac, .int .i64 ax.f, .int .i64 ax.t] 24)) w.heap.size #[.int .i64 ax.k, .int .i64 ax.n, .string ax.s, .slice aa am ac, .int .i64 ax.f, .int .i64 ax.t] 24 := Blk.new w _ _
  have HW := Lib.hid hW1; have HX := Lib.hid hX
  have HA := Lib.hid (ha.below va_stays hW1)
  have HIH := Lib.hid ih; have HLEN := Lib.hid hlen; have HSZ := Lib.hid hsz2
  clear ha hW1 hX ih hlen hsz hsz2
  go_enter Try.func15, Try.ntmps15
  go_wp2_with fail
  generalize hWW : (w.alloc (.cells #[.int .i64 ax.k, .int .i64 ax.n, .string ax.s, .slice aa am ac, .int .i64 ax.f, .int .i64 ax.t] 24)) = W at HW HX HA ⊢
  clear hWW
  go_loopw [3, 4] (fun s i wr => ∃ (k : Nat), k ≤ am ∧ i = .int .i64 k ∧ s = .int .i64 ((1 + Tr.sumk al k : Nat) : Int) ∧ Hid (Below W.heap.size W wr)) (fun _ i _ => am - (intOf i).toNat)
  case atStart => exact ⟨0, by omega, rfl, by rw [Tr.sumk_zero]; rfl, Lib.hid (Below.refl _ _)⟩
  case round =>
    obtain ⟨k, hk2, rfl, rfl, HR⟩ := hrel
    have p1 := (HX.out.below HR.out).cell 3
    simp at p1
    by_cases hlt : k < am
    · obtain ⟨b1, o1, x1, rfl, hb1, hx1, hc1⟩ := recs_at (HA.out.below va_stays HR.out) hlt
      obtain ⟨v1, hv1, hr1, c10, c11, c12, c13, c14, c15⟩ := VA.out hc1
      have HR1 := Lib.hid hr1
      have HV1 := Lib.hid hv1
      have hmem : x1 ∈ al := List.mem_of_getElem? hx1
      have HMEM := Lib.hid hmem
      have hsk := Tr.sumk_succ hx1
      have hle := sumk_le (l := al) (show k + 1 ≤ al.length by have := HLEN.out; omega)
      have hall : Tr.size (Tr.mk ax al) = 1 + Tr.sumk al al.length := Tr.sumk_all rfl
      have HSK := Lib.hid hsk
      have hb2 : 1 + Tr.sumk al k + x1.size ≤ 100000 := by have := HSZ.out; omega
      clear hr1 hv1 hx1 hmem hc1 hsk hle hall
      obtain ⟨z1, aa1, am1, ac1, al1⟩ := v1
      dsimp only at c10 c11 c12 c13 c14 c15
      generalize Tr.sumk al k = S0 at HSK hb2
      generalize hS : x1.size = S1 at HSK hb2
      go_wp2_with fail
      refine (HIH.out x1 HMEM.out ⟨z1, aa1, am1, ac1, al1⟩ _ HV1.out HR1.out (by omega)).mono ?_
      rintro e w2 ⟨rfl, hb2'⟩
      rw [HV1.out, hS]
      have HBW := Lib.hid (HR.out.trans (hb2'.mono HR.out.size))
      have hw : IntKind.i64.wrap (((1 + S0 : Nat) : Int) + ((S1 : Nat) : Int)) = ((1 + S0 + S1 : Nat) : Int) := by rw [IntWalk.i64_in _ (by omega)]; omega
      clear hb2'
      go_wp2
      go_roundw
      case rel => exact ⟨k + 1, by omega, by go_num, by rw [HSK.out]; go_num, HBW⟩
      case measure => simp [intOf]; omega
    · obtain rfl : k = am := by omega
      have hall : Tr.size (Tr.mk ax al) = 1 + Tr.sumk al k := Tr.sumk_all HLEN.out
      have HAL := Lib.hid hall
      clear hall
      go_wp2
      go_ret
      exact ⟨by show _ = Ending.returned (.int .i64 ((Tr.size (Tr.mk ax al) : Nat) : Int)); rw [HAL.out]; rfl, HW.out.trans (HR.out.mono HW.out.size)⟩
end Go.Proofs.Ytbpjaidfpacbfaa.te
