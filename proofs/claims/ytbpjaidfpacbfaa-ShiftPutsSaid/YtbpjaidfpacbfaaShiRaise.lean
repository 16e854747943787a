/-
  Layer 14: the document's Raise.
-/
import Derived.Test.YtbpjaidfpacbfaaShiRef
import Derived.Deep.RegionHeldLaw
namespace Go.Proofs.Ytbpjaidfpacbfaa.te
open Go.ChangeShapes Go.WideShapes Go.ChangeAt Go.RowKit
open bs tr
set_option linter.unusedVariables false

set_option maxRecDepth 100000 in
set_option maxHeartbeats 4000000 in
theorem rraise_any (by' fr : Int) (b0 : -10000 ≤ by') (b1 : by' ≤ 1000000) (f0 : 0 ≤ fr) (f1 : fr ≤ 10000) (t : VT) : ∀ (v : Vn) (d : Int) (B0 : Nat) (w : World), v.tr = t → v.Rs (· < B0) w → B0 ≤ w.heap.size → 0 ≤ d → d + t.size ≤ 1000000 → t.size ≤ 100000 →
    Calls Try.prog 58 #[A6 v, .int .i64 by', .int .i64 fr, .int .i64 d] w (PXe (sh by' fr v.tr d) B0 w) := by
  induction t using Tr.ind with
  | h tx tl ih =>
  intro v d B0 w hat hv hB0 hd0 hd1 hsz
  obtain ⟨x, a, m, c, l⟩ := v
  cases hat
  have hd2 : d + ((Tr.size (Tr.mk x l) : Nat) : Int) ≤ 1000000 := hd1
  have hsz2 : Tr.size (Tr.mk x l) ≤ 100000 := hsz
  have hlm := Tr.len_size (x := x) (l := l)
  have hvl := hv.rd
  have hx64 : In64 x := hv.x64
  dsimp only at hvl
  have hcap := hvl.cap; have hmost := hvl.most; have hlx := hvl.len
  have hm : m ≤ 100000 := by omega
  have hinn : ∀ i : Int, inn x l i ≤ Tr.size (Tr.mk x l) := fun i => inn_le x l i
  obtain ⟨hW, hZ, hY, hs⟩ := w2_facts w ⟨x, a, m, c, l⟩
  simp only [W2] at hW hZ hY hs
  have HW := Lib.hid hW; have HZ := Lib.hid hZ; have HY := Lib.hid hY; have HS := Lib.hid hs
  have HV := Lib.hid (hv.below hW); have HIH := Lib.hid ih; have HLX := Lib.hid hlx; have H64 := Lib.hid hx64; have HINN := Lib.hid hinn
  have HD2 := Lib.hid hd2; have HSZ := Lib.hid hsz2; have HLM := Lib.hid hlm
  clear hv hvl hx64 hW hZ hY hs ih hlx hsz hsz2 hlm hd1 hd2 hinn
  go_enter Try.func58, Try.ntmps58
  go_upto_region 1 with fail
  generalize hWW : (w.alloc (.cells #[.int .i64 x.k, .int .i64 x.n, .string x.s, .slice a m c, .int .i64 x.f, .int .i64 x.t] 24)).alloc (.cells #[.int .i64 0, .int .i64 0, .string ⟨#[]⟩, .slice none 0 0, .int .i64 0, .int .i64 0] 24) = W at HW HZ HY HS HV ⊢
  clear hWW
  have z0 := HZ.out.cell 0
  simp at z0
  by_cases hk : x.k = 7
  case pos =>
    have e1 : (x.k == 7) = true := by rw [beq_iff_eq]; exact hk
    have HK := Lib.hid hk
    have hshm : sh by' fr (Vn.tr ⟨x, a, m, c, l⟩) d = Tr.mk (mv by' fr x d) l := by show sh by' fr (.mk x l) d = _; rw [sh_mk, if_pos hk]
    have HSH := Lib.hid hshm
    clear hk hshm
    go_wp2_with (refine wpList_load_T rfl _ rfl rfl HZ.out ?_)
    refine (router_any ⟨x, a, m, c, l⟩ d W H64.out.n hd0 (by have := HD2.out; omega)).mono ?_
    rintro e w2 ⟨rfl, hb2⟩
    have HB2 := Lib.hid (HW.out.trans (hb2.mono HW.out.size))
    have HZ2 := Lib.hid (HZ.out.below hb2); have HY2 := Lib.hid (HY.out.below hb2); have HV2 := Lib.hid (HV.out.below hb2)
    clear hb2 HZ HY HV z0
    dsimp only
    obtain ⟨n, hn⟩ : ∃ n, outr x.n d = n := ⟨_, rfl⟩
    have HN := Lib.hid hn
    rw [hn]
    clear hn
    by_cases hf : fr ≤ n
    · have hmv : mv by' fr x d = ⟨x.k, IntKind.i64.wrap (x.n + by'), x.s, x.f, x.t⟩ := by unfold mv; rw [HN.out, if_pos ⟨HK.out, hf⟩]
      have HMV := Lib.hid hmv
      clear hmv
      have zz := HZ2.out.cell 1
      have zf := HZ2.out.free 1
      simp at zz
      have hN64 : te.I64 (IntKind.i64.wrap (x.n + by')) := by
        show -9223372036854775808 ≤ IntKind.i64.wrap (x.n + by') ∧ IntKind.i64.wrap (x.n + by') ≤ 9223372036854775807
        rw [IntKind.wrap_i64]
        omega
      have HN64 := Lib.hid hN64
      clear hN64
      obtain ⟨N', hNN⟩ : ∃ N', wrap64 (x.n + by') = N' := ⟨_, rfl⟩
      rw [show IntKind.i64.wrap (x.n + by') = N' from by rw [← hNN]; unfold wrap64; rw [IntKind.wrap_i64]] at HMV HN64
      go_upto_region 4 with fail
      try rw [hNN]
      clear hNN
      have hset : VB (w2.setCell ⟨w.heap.size, 1, none⟩ (.int .i64 N')) w.heap.size ⟨⟨x.k, N', x.s, x.f, x.t⟩, a, m, c, l⟩ := by
        have h := HZ2.out.set 1 (.int .i64 N')
        simpa using h
      have hon := only_cell w2 w.heap.size 1 (.int .i64 N')
      have HS4 := Lib.hid hset
      have HY4 := Lib.hid (hon.blk HY2.out (by omega))
      have HB4 := Lib.hid (HB2.out.trans (hon.below (Nat.le_refl _)))
      have HV4 := Lib.hid (HV2.out.agree (hon.kp (fun b (hb : b < B0) => by omega)))
      generalize hW4 : w2.setCell ⟨w.heap.size, 1, none⟩ (.int .i64 N') = w4 at HS4 HY4 HB4 HV4 ⊢
      clear hW4 hset hon zz zf HZ2 HY2 HV2
      go_wp2_with (first | (refine wpList_load_T rfl _ rfl rfl HS4.out ?_) | (refine wpList_store_T rfl _ _ rfl rfl HY4.out ⟨⟨x.k, N', x.s, x.f, x.t⟩, a, m, c, l⟩ rfl ?_))
      intro w5 hv5 ho5
      go_wp2
      try simp only [Exit.inBlock, Exit.then]
      refine bodyPost_ret (results_cell_row rfl _ _ (w.heap.size + 1) _ _ _ _ rfl hv5 Try.underlying24 rfl (by kernel_rfl)) rfl ?_
      have hvr := HV4.out.agree (ho5.kp (fun b (hb : b < B0) => by omega))
      refine ⟨⟨⟨x.k, N', x.s, x.f, x.t⟩, a, m, c, l⟩, rfl, ?_, Vn.Rs.weak (S := (· < B0)) ⟨hvr.rd, hvr.sb, ⟨hvr.x64.k, HN64.out, hvr.x64.f, hvr.x64.t⟩⟩ (fun b _ h => .inl h), HB4.out.trans (ho5.below (by omega))⟩
      show Tr.mk _ l = _
      rw [HSH.out, HMV.out]
    · have hmv : mv by' fr x d = x := by unfold mv; rw [HN.out, if_neg (fun h => hf h.2)]
      have HMV := Lib.hid hmv
      clear hmv
      go_wp2_with (first | (refine wpList_load_T rfl _ rfl rfl HZ2.out ?_) | (refine wpList_store_T rfl _ _ rfl rfl HY2.out ⟨x, a, m, c, l⟩ rfl ?_))
      intro w5 hv5 ho5
      go_wp2
      try simp only [Exit.inBlock, Exit.then]
      refine bodyPost_ret (results_cell_row rfl _ _ (w.heap.size + 1) _ _ _ _ rfl hv5 Try.underlying24 rfl (by kernel_rfl)) rfl ?_
      refine ⟨⟨x, a, m, c, l⟩, rfl, ?_, Vn.Rs.weak (S := (· < B0)) (HV2.out.agree (ho5.kp (fun b (hb : b < B0) => by omega))) (fun b _ h => .inl h), HB2.out.trans (ho5.below (by omega))⟩
      show Tr.mk _ l = _
      rw [HSH.out, HMV.out]
  have e1 : (x.k == 7) = false := by rw [beq_eq_false_iff_ne]; exact hk
  have hshm : sh by' fr (Vn.tr ⟨x, a, m, c, l⟩) d = Tr.mk x (kidS by' fr x l d) := by show sh by' fr (.mk x l) d = _; rw [sh_mk, if_neg hk]
  have HSH := Lib.hid hshm
  clear hk hshm
  have hWB : B0 ≤ W.heap.size := Nat.le_trans hB0 HW.out.size
  have HF0 : Hid (Frst B0 W.heap.size (W.alloc (.cells #[] 24)) W.heap.size (some ⟨W.heap.size, 0, none⟩) 0 0 []) := ⟨OwnS.made0 W W.heap.size 24 (Nat.le_refl _), fun x hx => by cases hx⟩
  have HB0 : Hid (Below W.heap.size W (W.alloc (.cells #[] 24))) := (Below.refl _ _).alloc (Nat.le_refl _) _
  go_wp2_with fail
  go_loopw [9, 10] (fun lo i wr => ∃ (k : Nat) (a : Option Addr) (c' : Nat) (L : List Vn), k ≤ m ∧ i = .int .i64 k ∧ lo = .slice a k c' ∧ Hid (Frst B0 W.heap.size wr W.heap.size a k c' L) ∧ Hid (Below W.heap.size W wr) ∧ Hid (L.map Vn.tr = (kidS by' fr x l d).take k)) (fun _ i _ => m - (intOf i).toNat)
  case atStart => exact ⟨0, _, 0, [], by omega, rfl, rfl, HF0, HB0, Lib.hid (by simp)⟩
  case round =>
    obtain ⟨k, a1, c', L, hk2, rfl, rfl, HF, HB, HL⟩ := hrel
    have HZr := Lib.hid (HZ.out.below HB.out)
    have p0 := HZr.out.cell 0; have p1 := HZr.out.cell 1; have p2 := HZr.out.cell 2; have p3 := HZr.out.cell 3; have p4 := HZr.out.cell 4; have p5 := HZr.out.cell 5
    simp at p0 p1 p2 p3 p4 p5
    have hsB := HB.out.size
    by_cases hlt : k < m
    · obtain ⟨b1, o1, x1, rfl, hb1, hx1, hc1⟩ := recs_at HV.out.rd hlt
      obtain ⟨⟨z1, aa1, am1, ac1, al1⟩, hv1e, hr1, c10, c11, c12, c13, c14, c15⟩ := VAs.out hc1
      dsimp only at c10 c11 c12 c13 c14 c15
      have HR1 := Lib.hid hr1; have HV1E := Lib.hid hv1e; have HX1 := Lib.hid hx1
      have hmem : x1 ∈ l := List.mem_of_getElem? hx1
      have HMEM := Lib.hid hmem
      have hin0 : inn x l (k : Nat) ≤ 100000 := by have := HINN.out (k : Nat); have := HSZ.out; omega
      have hdk : d + (inn x l (k : Nat) : Nat) + (Tr.size x1 : Nat) ≤ 1000000 := by have h := inn_size (x := x) (l := l) HX1.out; have := HD2.out; omega
      have hszx : x1.size ≤ 100000 := by have h := inn_size (x := x) (l := l) HX1.out; have := HSZ.out; omega
      have hw : IntKind.i64.wrap (d + ((inn x l (k : Nat) : Nat) : Int)) = d + ((inn x l (k : Nat) : Nat) : Int) := IntWalk.i64_in _ (by omega)
      have Kp := Lib.hid (show ∀ V : World, Hid (Below W.heap.size W V) → V.cell? ⟨w.heap.size, 0, none⟩ = some (.int .i64 x.k) ∧ V.cell? ⟨w.heap.size, 1, none⟩ = some (.int .i64 x.n) ∧ V.cell? ⟨w.heap.size, 2, none⟩ = some (.string x.s) ∧ V.cell? ⟨w.heap.size, 3, none⟩ = some (.slice (some ⟨b1, o1, none⟩) m c) ∧ V.cell? ⟨w.heap.size, 4, none⟩ = some (.int .i64 x.f) ∧ V.cell? ⟨w.heap.size, 5, none⟩ = some (.int .i64 x.t) ∧
          V.cell? ⟨b1, o1 + k * 6, none⟩ = some (.int .i64 z1.k) ∧ V.cell? ⟨b1, o1 + k * 6 + 1, none⟩ = some (.int .i64 z1.n) ∧ V.cell? ⟨b1, o1 + k * 6 + 2, none⟩ = some (.string z1.s) ∧ V.cell? ⟨b1, o1 + k * 6 + 3, none⟩ = some (.slice aa1 am1 ac1) ∧ V.cell? ⟨b1, o1 + k * 6 + 4, none⟩ = some (.int .i64 z1.f) ∧ V.cell? ⟨b1, o1 + k * 6 + 5, none⟩ = some (.int .i64 z1.t) from
        fun V h => ⟨(HZ.out.below h.out).cell 0, (HZ.out.below h.out).cell 1, (HZ.out.below h.out).cell 2, (HZ.out.below h.out).cell 3, (HZ.out.below h.out).cell 4, (HZ.out.below h.out).cell 5,
          by rw [h.out.cell (World.block_lt_of_cell? W _ c10)]; exact c10, by rw [h.out.cell (World.block_lt_of_cell? W _ c12)]; exact c12, by rw [h.out.cell (World.block_lt_of_cell? W _ c13)]; exact c13, by rw [h.out.cell (World.block_lt_of_cell? W _ c11)]; exact c11, by rw [h.out.cell (World.block_lt_of_cell? W _ c14)]; exact c14, by rw [h.out.cell (World.block_lt_of_cell? W _ c15)]; exact c15⟩)
      have HI := Lib.hid (show Calls Try.prog 34 #[.agg #[.int .i64 x.k, .int .i64 x.n, .string x.s, .slice (some ⟨b1, o1, none⟩) m c, .int .i64 x.f, .int .i64 x.t], .int .i64 (k : Nat)] wr.drew (NP ((inn x l (k : Nat) : Nat) : Int) wr.drew) from rin_any ⟨x, some ⟨b1, o1, none⟩, m, c, l⟩ (k : Nat) wr.drew (HV.out.below (Below.drew HB.out)).rd' hm (by omega) (by omega))
      have HC := Lib.hid (show ∀ V : World, Hid (Below W.heap.size W V) → Calls Try.prog 58 #[.agg #[.int .i64 z1.k, .int .i64 z1.n, .string z1.s, .slice aa1 am1 ac1, .int .i64 z1.f, .int .i64 z1.t], .int .i64 by', .int .i64 fr, .int .i64 (d + ((inn x l (k : Nat) : Nat) : Int))] V (PXe (sh by' fr x1 (d + ((inn x l (k : Nat) : Nat) : Int))) B0 V) from
        fun V h => by
          have h := HIH.out x1 HMEM.out ⟨z1, aa1, am1, ac1, al1⟩ (d + ((inn x l (k : Nat) : Nat) : Int)) B0 V HV1E.out (HR1.out.below h.out) (Nat.le_trans hWB h.out.size) (by omega) hdk hszx
          rw [HV1E.out] at h
          exact h)
      have HKA := Lib.hid (kidS_at (by' := by') (fr := fr) (x := x) (d := d) (l := l) HX1.out)
      have KR : Hid (Below W.heap.size W wr) := HB
      have K0 : Hid (Below W.heap.size W wr.drew) := Below.drew HB.out
      have hrw : wr.drew.heap.size = wr.heap.size := rfl
      clear hr1 hv1e hx1 hmem hc1 c10 c12 c13 c14 c15 c11
      generalize hB : sh by' fr x1 (d + ((inn x l (k : Nat) : Nat) : Int)) = B at HC HKA
      clear hB
      go_wp2_with fail
      go_region_held_law (fun V => V.cell? ⟨w.heap.size, 0, none⟩ = some (.int .i64 x.k) ∧ V.cell? ⟨w.heap.size, 1, none⟩ = some (.int .i64 x.n) ∧ V.cell? ⟨w.heap.size, 2, none⟩ = some (.string x.s) ∧ V.cell? ⟨w.heap.size, 3, none⟩ = some (.slice (some ⟨b1, o1, none⟩) m c) ∧ V.cell? ⟨w.heap.size, 4, none⟩ = some (.int .i64 x.f) ∧ V.cell? ⟨w.heap.size, 5, none⟩ = some (.int .i64 x.t) ∧
          V.cell? ⟨b1, o1 + k * 6, none⟩ = some (.int .i64 z1.k) ∧ V.cell? ⟨b1, o1 + k * 6 + 1, none⟩ = some (.int .i64 z1.n) ∧ V.cell? ⟨b1, o1 + k * 6 + 2, none⟩ = some (.string z1.s) ∧ V.cell? ⟨b1, o1 + k * 6 + 3, none⟩ = some (.slice aa1 am1 ac1) ∧ V.cell? ⟨b1, o1 + k * 6 + 4, none⟩ = some (.int .i64 z1.f) ∧ V.cell? ⟨b1, o1 + k * 6 + 5, none⟩ = some (.int .i64 z1.t))
        (with_reducible first | exact Kp.out _ KR | exact Kp.out _ K0 | exact Kp.out _ KA | exact Kp.out _ KB | exact Kp.out _ (Lib.hid (KB.out.alloc KB.out.size _)) | exact Kp.out _ HB4)
        (first
          | (go_at_call 34; (with_reducible refine HI.out.mono ?_); rintro e wa ⟨rfl, hba⟩; have KA : Hid (Below W.heap.size W wa) := K0.out.trans (hba.mono hsB); have HFA := Lib.hid ((HF.out.below (Below.drew (Below.refl _ _))).below hba); have hsA := KA.out.size; clear hba)
          | (go_at_call 58; (with_reducible refine (HC.out _ KA).mono ?_); rintro e wb ⟨r, rfl, ht3, hr3, hbb⟩; have KB : Hid (Below W.heap.size W wb) := KA.out.trans (hbb.mono hsA); have HF3 := Lib.hid (HFA.out.below hbb); have HR3 := Lib.hid (Vn.Rs.apart (w := wa) (H := W.heap.size) HFA.out.own hWB hsA hr3); have HT3 := Lib.hid ht3; clear ht3 hr3 hbb)
          | (refine step_append_v (by rfl) (.tmp 33) (.tmp 47) (by rfl) W.heap.size (by rfl) (HF3.out.below ((Below.refl _ _).alloc (Nat.le_refl _) _)) (by rfl) r (HR3.out.below ((Below.refl _ _).alloc (Nat.le_refl _) _)) (src_new _ (Vn.cells r) 24) (by omega) (KB.out.alloc KB.out.size _).size ?_; intro a4 c4 w4 hf4 hb4 hg4; have HB4 : Hid (Below W.heap.size W w4) := (KB.out.alloc KB.out.size _).trans hb4; have HF4 := Lib.hid hf4; clear hf4 hb4))
      go_wp2
      go_roundw
      case rel => exact ⟨k + 1, a4, c4, _, by omega, by go_num, rfl, HF4, HB4, Lib.hid (by rw [List.map_append, HL.out, List.take_add_one, HKA.out, ← HT3.out]; rfl)⟩
      case measure => simp [intOf]; omega
    · have hkm : k = m := by omega
      subst hkm
      have HYB := Lib.hid (HY.out.below HB.out)
      go_wp2_with (refine wpList_store_T rfl _ _ rfl rfl HYB.out ⟨x, a1, k, c', []⟩ rfl ?_)
      intro w7 hv7 hon7
      go_wp2
      try simp only [Exit.inBlock, Exit.then]
      have hWs := HS.out
      refine bodyPost_ret (results_cell_row rfl _ _ (w.heap.size + 1) _ _ _ _ rfl hv7 Try.underlying24 rfl (by kernel_rfl)) rfl ?_
      have hsb : SB (Old B0 W.heap.size) a1 k := fun _ b off ha => .inr (HF.out.own.blockLt (by rw [ha]; rfl)).1
      refine ⟨⟨x, a1, k, c', L.map Vn.tr⟩, rfl, ?_, (Vn.Rs.agree (S := Old B0 W.heap.size) (w := wr) ⟨HF.out.reads, hsb, H64.out⟩ (hon7.kp (fun b hS => by rcases hS with h | h <;> omega))).weak (fun b _ h => h.imp id (fun h => by omega)), (HW.out.trans (HB.out.mono HW.out.size)).trans (hon7.below (by omega))⟩
      rw [show sh by' fr (Vn.tr ⟨x, a, k, c, l⟩) d = _ from HSH.out]
      show Tr.mk x _ = _
      rw [HL.out, List.take_of_length_le (by rw [kidS_len, HLX.out]; exact Nat.le_refl _)]
end Go.Proofs.Ytbpjaidfpacbfaa.te
