/-
  Layer 14: the document's Meant and Raise.
-/
import Derived.Test.YtbpjaidfpacbfaaShiWalk
namespace Go.Proofs.Ytbpjaidfpacbfaa.te
open Go.ChangeShapes Go.WideShapes Go.ChangeAt Go.RowKit
open bs tr
set_option linter.unusedVariables false

theorem any_false_succ {L : List Bool} {k : Nat} {b : Bool} (h : L[k]? = some b) (h0 : (L.take k).any id = false) (hb : b = false) : (L.take (k + 1)).any id = false := by
  rw [any_succ h, h0, hb]; rfl
theorem any_true {L : List Bool} {k : Nat} (h : L[k]? = some true) : L.any id = true := by
  rw [List.any_eq_true]; exact ⟨true, List.mem_of_getElem? h, rfl⟩

set_option maxRecDepth 100000 in
set_option maxHeartbeats 4000000 in
theorem rmeant_any (fr hi : Int) (f0 : 0 ≤ fr) (f1 : fr ≤ 100000) (h0 : -100000 ≤ hi) (h1 : hi ≤ 100000) (t : VT) : ∀ (v : Vn) (d : Int) (w : World), v.tr = t → v.Rd w → 0 ≤ d → d + t.size ≤ 1000000 → t.size ≤ 100000 →
    Calls Try.prog 57 #[A6 v, .int .i64 fr, .int .i64 hi, .int .i64 d] w (BBP (lo (fr - hi) fr v.tr d) w) := by
  induction t using Tr.ind with
  | h tx tl ih =>
  intro v d w hat hv hd0 hd1 hsz
  obtain ⟨x, a, m, c, l⟩ := v
  cases hat
  have hd2 : d + ((Tr.size (Tr.mk x l) : Nat) : Int) ≤ 1000000 := hd1
  have hsz2 : Tr.size (Tr.mk x l) ≤ 100000 := hsz
  have hlm := Tr.len_size (x := x) (l := l)
  have hvl := hv.1
  have hx64 : In64 x := hv.2
  dsimp only at hvl
  have hcap := hvl.cap; have hmost := hvl.most; have hlx := hvl.len
  have hm : m ≤ 100000 := by omega
  have hW := below_alloc w (.cells #[.int .i64 x.k, .int .i64 x.n, .string x.s, .slice a m c, .int .i64 x.f, .int .i64 x.t] 24)
  have HW := Lib.hid hW; have HZ := Lib.hid (vb_new w ⟨x, a, m, c, l⟩); have HV : Hid (Vn.Rd _ ⟨x, a, m, c, l⟩) := Lib.hid (hv.below hW)
  have HIH := Lib.hid ih; have HLX := Lib.hid hlx; have H64 := Lib.hid hx64
  have HD2 := Lib.hid hd2; have HSZ := Lib.hid hsz2
  have hinn : ∀ i : Int, inn x l i ≤ Tr.size (Tr.mk x l) := fun i => inn_le x l i
  have HINN := Lib.hid hinn
  clear hv hvl hx64 hW ih hlx hsz hsz2 hlm hd1 hd2 hinn
  go_enter Try.func57, Try.ntmps57
  go_upto_region 1 with fail
  try dsimp only at HZ HW HV
  generalize hWW : w.alloc (.cells #[.int .i64 x.k, .int .i64 x.n, .string x.s, .slice a m c, .int .i64 x.f, .int .i64 x.t] 24) = W at HW HZ HV ⊢
  clear hWW
  have z0 := HZ.out.cell 0; have z1 := HZ.out.cell 1; have z2 := HZ.out.cell 2; have z3 := HZ.out.cell 3; have z4 := HZ.out.cell 4; have z5 := HZ.out.cell 5
  simp at z0 z1 z2 z3 z4 z5
  have hle : lo (fr - hi) fr (Vn.tr ⟨x, a, m, c, l⟩) d = if x.k = 7 then ls (fr - hi) fr x d else (kidL (fr - hi) fr x l d).any id := lo_mk _ _ _ _ _
  have HLE := Lib.hid hle
  clear hle
  by_cases hk : x.k = 7
  · have hlp : lo (fr - hi) fr (Vn.tr ⟨x, a, m, c, l⟩) d = ls (fr - hi) fr x d := by rw [HLE.out, if_pos hk]
    have e1 : (x.k == 7) = true := by rw [beq_iff_eq]; exact hk
    have hls : ls (fr - hi) fr x d = decide (fr ≤ outr x.n d ∧ outr x.n d < hi) := by
      unfold ls
      rw [show fr - (fr - hi) = hi by omega]
      simp [hk]
    have HLS := Lib.hid (hlp.trans hls)
    clear hk hls hlp HLE
    go_wp2_with fail
    refine (router_any ⟨x, a, m, c, l⟩ d W H64.out.n hd0 (by have := HD2.out; omega)).mono ?_
    rintro e w2 ⟨rfl, hb2⟩
    have HB2 := Lib.hid (HW.out.trans (hb2.mono HW.out.size))
    clear hb2 z0 z1 z2 z3 z4 z5
    dsimp only
    generalize outr x.n d = n at HLS ⊢
    by_cases n1 : 0 ≤ n
    · by_cases n2 : fr ≤ n
      · by_cases n3 : n < hi
        · go_wp2
          go_ret
          exact ⟨by rw [HLS.out, decide_eq_true (show fr ≤ n ∧ n < hi from ⟨n2, n3⟩)]; rfl, HB2.out⟩
        · go_wp2
          go_ret
          exact ⟨by rw [HLS.out, decide_eq_false (show ¬ (fr ≤ n ∧ n < hi) from fun h => by omega)]; rfl, HB2.out⟩
      · go_wp2
        go_ret
        exact ⟨by rw [HLS.out, decide_eq_false (show ¬ (fr ≤ n ∧ n < hi) from fun h => by omega)]; rfl, HB2.out⟩
    · go_wp2
      go_ret
      exact ⟨by rw [HLS.out, decide_eq_false (show ¬ (fr ≤ n ∧ n < hi) from fun h => by omega)]; rfl, HB2.out⟩
  have hlp : lo (fr - hi) fr (Vn.tr ⟨x, a, m, c, l⟩) d = (kidL (fr - hi) fr x l d).any id := by rw [HLE.out, if_neg hk]
  have HLP := Lib.hid hlp
  clear hlp HLE
  have e1 : (x.k == 7) = false := by rw [beq_eq_false_iff_ne]; exact hk
  clear hk
  go_wp2_with fail
  go_loopw [10] (fun i wr => ∃ k : Nat, k ≤ m ∧ i = .int .i64 k ∧ Hid (Below W.heap.size W wr) ∧ Hid (((kidL (fr - hi) fr x l d).take k).any id = false)) (fun i _ => m - (intOf i).toNat)
  case atStart => exact ⟨0, by omega, rfl, Lib.hid (Below.refl _ _), Lib.hid (by simp)⟩
  case round =>
    obtain ⟨k, hk2, rfl, HR, HE⟩ := hrel
    have HZr := Lib.hid (HZ.out.below HR.out)
    have p0 := HZr.out.cell 0; have p1 := HZr.out.cell 1; have p2 := HZr.out.cell 2; have p3 := HZr.out.cell 3; have p4 := HZr.out.cell 4; have p5 := HZr.out.cell 5
    simp at p0 p1 p2 p3 p4 p5
    by_cases hlt : k < m
    · obtain ⟨b1, o1, x1, rfl, hb1, hx1, hc1⟩ := recs_at (HV.out.below HR.out).1 hlt
      obtain ⟨y, hv1, hr1, c10, c11, c12, c13, c14, c15⟩ := VA.out hc1
      have HR1 := Lib.hid hr1; have HV1E := Lib.hid hv1; have HX1 := Lib.hid hx1
      have hmem : x1 ∈ l := List.mem_of_getElem? hx1
      have HMEM := Lib.hid hmem
      have hin0 : inn x l (k : Nat) ≤ 100000 := by have := HINN.out (k : Nat); have := HSZ.out; omega
      have hdk : d + (inn x l (k : Nat) : Nat) + (Tr.size x1 : Nat) ≤ 1000000 := by have h := inn_size (x := x) (l := l) HX1.out; have := HD2.out; omega
      have hszx : x1.size ≤ 100000 := by have h := inn_size (x := x) (l := l) HX1.out; have := HSZ.out; omega
      have hw : IntKind.i64.wrap (d + ((inn x l (k : Nat) : Nat) : Int)) = d + ((inn x l (k : Nat) : Nat) : Int) := IntWalk.i64_in _ (by omega)
      have Kp := Lib.hid (show ∀ V : World, Hid (Below wr.heap.size wr V) → V.cell? ⟨w.heap.size, 0, none⟩ = some (.int .i64 x.k) ∧ V.cell? ⟨w.heap.size, 1, none⟩ = some (.int .i64 x.n) ∧ V.cell? ⟨w.heap.size, 2, none⟩ = some (.string x.s) ∧ V.cell? ⟨w.heap.size, 3, none⟩ = some (.slice (some ⟨b1, o1, none⟩) m c) ∧ V.cell? ⟨w.heap.size, 4, none⟩ = some (.int .i64 x.f) ∧ V.cell? ⟨w.heap.size, 5, none⟩ = some (.int .i64 x.t) ∧
          V.cell? ⟨b1, o1 + k * 6, none⟩ = some (.int .i64 y.x.k) ∧ V.cell? ⟨b1, o1 + k * 6 + 1, none⟩ = some (.int .i64 y.x.n) ∧ V.cell? ⟨b1, o1 + k * 6 + 2, none⟩ = some (.string y.x.s) ∧ V.cell? ⟨b1, o1 + k * 6 + 3, none⟩ = some (.slice y.a y.m y.c) ∧ V.cell? ⟨b1, o1 + k * 6 + 4, none⟩ = some (.int .i64 y.x.f) ∧ V.cell? ⟨b1, o1 + k * 6 + 5, none⟩ = some (.int .i64 y.x.t) from
        fun V h => ⟨(HZr.out.below h.out).cell 0, (HZr.out.below h.out).cell 1, (HZr.out.below h.out).cell 2, (HZr.out.below h.out).cell 3, (HZr.out.below h.out).cell 4, (HZr.out.below h.out).cell 5,
          by rw [h.out.cell (World.block_lt_of_cell? wr _ c10)]; exact c10, by rw [h.out.cell (World.block_lt_of_cell? wr _ c12)]; exact c12, by rw [h.out.cell (World.block_lt_of_cell? wr _ c13)]; exact c13, by rw [h.out.cell (World.block_lt_of_cell? wr _ c11)]; exact c11, by rw [h.out.cell (World.block_lt_of_cell? wr _ c14)]; exact c14, by rw [h.out.cell (World.block_lt_of_cell? wr _ c15)]; exact c15⟩)
      have K0 : Hid (Below wr.heap.size wr wr.drew) := Below.drew (Below.refl _ _)
      have KR : Hid (Below wr.heap.size wr wr) := Below.refl _ _
      have HI := Lib.hid (show Calls Try.prog 34 #[.agg #[.int .i64 x.k, .int .i64 x.n, .string x.s, .slice (some ⟨b1, o1, none⟩) m c, .int .i64 x.f, .int .i64 x.t], .int .i64 (k : Nat)] wr.drew (NP ((inn x l (k : Nat) : Nat) : Int) wr.drew) from rin_any ⟨x, some ⟨b1, o1, none⟩, m, c, l⟩ (k : Nat) wr.drew ((HV.out.below HR.out).below K0.out) hm (by omega) (by omega))
      have HC := Lib.hid (show ∀ V : World, Hid (Below wr.heap.size wr V) → Calls Try.prog 57 #[.agg #[.int .i64 y.x.k, .int .i64 y.x.n, .string y.x.s, .slice y.a y.m y.c, .int .i64 y.x.f, .int .i64 y.x.t], .int .i64 fr, .int .i64 hi, .int .i64 (d + ((inn x l (k : Nat) : Nat) : Int))] V (BBP (lo (fr - hi) fr x1 (d + ((inn x l (k : Nat) : Nat) : Int))) V) from
        fun V h => by
          have h := HIH.out x1 HMEM.out y (d + ((inn x l (k : Nat) : Nat) : Int)) V HV1E.out (HR1.out.below h.out) (by omega) hdk hszx
          rw [HV1E.out] at h
          exact h)
      have HKA := Lib.hid (kidL_at (by' := fr - hi) (fr := fr) (x := x) (d := d) (l := l) HX1.out)
      clear hr1 hv1 hx1 hmem hc1 c10 c12 c13 c14 c15 c11
      generalize hB : lo (fr - hi) fr x1 (d + ((inn x l (k : Nat) : Nat) : Int)) = B at HC HKA
      go_wp2_with fail
      go_region_held3 (fun V => V.cell? ⟨w.heap.size, 0, none⟩ = some (.int .i64 x.k) ∧ V.cell? ⟨w.heap.size, 1, none⟩ = some (.int .i64 x.n) ∧ V.cell? ⟨w.heap.size, 2, none⟩ = some (.string x.s) ∧ V.cell? ⟨w.heap.size, 3, none⟩ = some (.slice (some ⟨b1, o1, none⟩) m c) ∧ V.cell? ⟨w.heap.size, 4, none⟩ = some (.int .i64 x.f) ∧ V.cell? ⟨w.heap.size, 5, none⟩ = some (.int .i64 x.t) ∧
          V.cell? ⟨b1, o1 + k * 6, none⟩ = some (.int .i64 y.x.k) ∧ V.cell? ⟨b1, o1 + k * 6 + 1, none⟩ = some (.int .i64 y.x.n) ∧ V.cell? ⟨b1, o1 + k * 6 + 2, none⟩ = some (.string y.x.s) ∧ V.cell? ⟨b1, o1 + k * 6 + 3, none⟩ = some (.slice y.a y.m y.c) ∧ V.cell? ⟨b1, o1 + k * 6 + 4, none⟩ = some (.int .i64 y.x.f) ∧ V.cell? ⟨b1, o1 + k * 6 + 5, none⟩ = some (.int .i64 y.x.t))
        (with_reducible first | exact Kp.out _ KR | exact Kp.out _ K0 | exact Kp.out _ KB | exact Kp.out _ KA)
        (first
          | (go_at_call 34; (with_reducible refine HI.out.mono ?_); rintro e wa ⟨rfl, hba⟩; have KA : Hid (Below wr.heap.size wr wa) := below_step K0 hba; clear hba)
          | (go_at_call 57; (with_reducible refine (HC.out _ KA).mono ?_); rintro e wb ⟨rfl, hbb⟩; have KB : Hid (Below wr.heap.size wr wb) := below_step KA hbb; clear hbb))
      have HBW := Lib.hid (HR.out.trans (KB.out.mono HR.out.size))
      clear Kp K0 KR HI HC hw p0 p1 p2 p3 p4 p5
      cases B with
      | true =>
        go_wp2
        go_ret
        exact ⟨by rw [show lo (fr - hi) fr (Vn.tr ⟨x, some ⟨b1, o1, none⟩, m, c, l⟩) d = _ from HLP.out, any_true HKA.out]; rfl, HW.out.trans (HBW.out.mono HW.out.size)⟩
      | false =>
        go_wp2
        go_roundw
        case rel => exact ⟨k + 1, by omega, by go_num, HBW, Lib.hid (any_false_succ HKA.out HE.out rfl)⟩
        case measure => simp [intOf]; omega
    · obtain rfl : k = m := by omega
      go_wp2
      go_ret
      refine ⟨?_, HW.out.trans (HR.out.mono HW.out.size)⟩
      have h := HE.out
      rw [List.take_of_length_le (by rw [kidL_len, HLX.out]; exact Nat.le_refl _)] at h
      rw [HLP.out, h]; rfl
end Go.Proofs.Ytbpjaidfpacbfaa.te
