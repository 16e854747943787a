/-
  Layer 6: a term without places.
-/
import Derived.Test.YtbpjaidfpacbfaaTrmFrst
import Derived.Deep.RegionLaw
namespace Go.Proofs.Ytbpjaidfpacbfaa.te
open Go.ChangeShapes Go.WideShapes Go.ChangeAt Go.RowKit
open bs tr
set_option linter.unusedVariables false

def PXe (t : VT) (B0 : Nat) (w : World) (e : Ending) (w' : World) : Prop := ∃ r : Vn, e = .returned (.agg #[.int .i64 r.x.k, .int .i64 r.x.n, .string r.x.s, .slice r.a r.m r.c, .int .i64 r.x.f, .int .i64 r.x.t]) ∧ r.tr = t ∧ r.Rs (Old B0 w.heap.size) w' ∧ Below w.heap.size w w'
theorem noPl64 {x : Lab} (h : In64 x) : In64 (noPl x) := ⟨h.k, h.n, i64_0, i64_0⟩

set_option maxRecDepth 100000 in
set_option maxHeartbeats 4000000 in
theorem bare_any (t : VT) : ∀ (v : Vn) (B0 : Nat) (w : World), v.tr = t → v.Rs (· < B0) w → B0 ≤ w.heap.size → v.tr.size ≤ 100000 → Calls Try.prog 19 #[v.val] w (PX (key noPl v.tr) B0 w) := by
  induction t using Tr.ind with
  | h tx tl ih =>
  intro v B0 w hat hv hB0 hsz
  obtain ⟨vx, va, m, vc', l⟩ := v
  cases hat
  have hsz2 : Tr.size (Tr.mk vx l) ≤ 100000 := hsz
  have hlm : l.length < Tr.size (Tr.mk vx l) := Tr.len_size
  have hvl := hv.rd
  have hx64 := noPl64 hv.x64
  dsimp only at hvl hx64
  have hlx := hvl.len
  have hcapx := hvl.cap; have hmostx := hvl.most
  have hm : m ≤ 100000 := by omega
  have hlim : ∀ x ∈ l, x.size ≤ 100000 := fun x hx => by have := Tr.size_le (x := vx) hx; omega
  have hW1 : Below w.heap.size w (((w.alloc (.cells #[.int .i64 vx.k, .int .i64 vx.n, .string vx.s, .slice va m vc', .int .i64 vx.f, .int .i64 vx.t] 24)).alloc (.cells #[.int .i64 0, .int .i64 0, .string ⟨#[]⟩, .slice none 0 0, .int .i64 0, .int .i64 0] 24)).alloc (.cells #[.int .i64 vx.k, .int .i64 vx.n, .string vx.s, .slice none 0 0, .int .i64 0, .int .i64 0] 24)) := (((Below.refl _ _).alloc (Nat.le_refl _) _).alloc (by simp) _).alloc (by simp; omega) _
  have hZ : VB (((w.alloc (.cells #[.int .i64 vx.k, .int .i64 vx.n, .string vx.s, .slice va m vc', .int .i64 vx.f, .int .i64 vx.t] 24)).alloc (.cells #[.int .i64 0, .int .i64 0, .string ⟨#[]⟩, .slice none 0 0, .int .i64 0, .int .i64 0] 24)).alloc (.cells #[.int .i64 vx.k, .int .i64 vx.n, .string vx.s, .slice none 0 0, .int .i64 0, .int .i64 0] 24)) w.heap.size ⟨vx, va, m, vc', l⟩ :=
    ((vb_new w ⟨vx, va, m, vc', l⟩).below (below_alloc _ _)).below (below_alloc _ _)
  have hY : VB (((w.alloc (.cells #[.int .i64 vx.k, .int .i64 vx.n, .string vx.s, .slice va m vc', .int .i64 vx.f, .int .i64 vx.t] 24)).alloc (.cells #[.int .i64 0, .int .i64 0, .string ⟨#[]⟩, .slice none 0 0, .int .i64 0, .int .i64 0] 24)).alloc (.cells #[.int .i64 vx.k, .int .i64 vx.n, .string vx.s, .slice none 0 0, .int .i64 0, .int .i64 0] 24)) (w.heap.size + 1) v0 := by
    have h := (vb_new0 (w.alloc (.cells #[.int .i64 vx.k, .int .i64 vx.n, .string vx.s, .slice va m vc', .int .i64 vx.f, .int .i64 vx.t] 24))).below (below_alloc _ (.cells #[.int .i64 vx.k, .int .i64 vx.n, .string vx.s, .slice none 0 0, .int .i64 0, .int .i64 0] 24))
    rwa [size_alloc] at h
  have hO : VB (((w.alloc (.cells #[.int .i64 vx.k, .int .i64 vx.n, .string vx.s, .slice va m vc', .int .i64 vx.f, .int .i64 vx.t] 24)).alloc (.cells #[.int .i64 0, .int .i64 0, .string ⟨#[]⟩, .slice none 0 0, .int .i64 0, .int .i64 0] 24)).alloc (.cells #[.int .i64 vx.k, .int .i64 vx.n, .string vx.s, .slice none 0 0, .int .i64 0, .int .i64 0] 24)) (w.heap.size + 1 + 1) ⟨noPl vx, none, 0, 0, []⟩ := by
    have h := vb_new ((w.alloc (.cells #[.int .i64 vx.k, .int .i64 vx.n, .string vx.s, .slice va m vc', .int .i64 vx.f, .int .i64 vx.t] 24)).alloc (.cells #[.int .i64 0, .int .i64 0, .string ⟨#[]⟩, .slice none 0 0, .int .i64 0, .int .i64 0] 24)) ⟨noPl vx, none, 0, 0, []⟩
    rw [size_alloc, size_alloc] at h
    exact h
  have HW := Lib.hid hW1; have HZ := Lib.hid hZ; have HY := Lib.hid hY; have HO := Lib.hid hO
  have HV := Lib.hid hv; have HIH := Lib.hid ih; have HLX := Lib.hid hlx; have HLIM := Lib.hid hlim
  clear hv hW1 hZ hY hO hvl ih hlx hlim hsz hsz2 hlm
  unfold Vn.val
  go_enter Try.func19, Try.ntmps19
  go_upto_region 2 with fail
  generalize hWW : (((w.alloc (.cells #[.int .i64 vx.k, .int .i64 vx.n, .string vx.s, .slice va m vc', .int .i64 vx.f, .int .i64 vx.t] 24)).alloc (.cells #[.int .i64 0, .int .i64 0, .string ⟨#[]⟩, .slice none 0 0, .int .i64 0, .int .i64 0] 24)).alloc (.cells #[.int .i64 vx.k, .int .i64 vx.n, .string vx.s, .slice none 0 0, .int .i64 0, .int .i64 0] 24)) = W at HW HZ HY HO ⊢
  have hWs : W.heap.size = w.heap.size + 3 := by rw [← hWW]; simp
  have HWS := Lib.hid hWs
  clear hWW hWs
  have p1 := HZ.out.cell 3
  simp at p1
  go_wp2_with fail
  go_loopw [5, 16] (fun s5 i wr => ∃ (k : Nat) (a : Option Addr) (c' : Nat) (L : List Vn), k ≤ m ∧ i = .int .i64 k ∧ Hid (Frst B0 W.heap.size wr W.heap.size a k c' L) ∧ Hid (Below w.heap.size w wr) ∧ Hid (VB wr (w.heap.size + 1) v0) ∧ Hid (VB wr (w.heap.size + 1 + 1) ⟨noPl vx, a, k, c', []⟩) ∧ Hid (W.heap.size ≤ wr.heap.size) ∧ Hid (L.map Vn.tr = (l.take k).map (key noPl))) (fun _ i _ => m - (intOf i).toNat)
  case atStart => exact ⟨0, none, 0, [], by omega, rfl, ⟨OwnS.nil _ _ _, fun x hx => by cases hx⟩, HW, HY, HO, Lib.hid (Nat.le_refl _), Lib.hid (by simp)⟩
  case round =>
    obtain ⟨k, a, c', L, hk2, rfl, HF, HB, HYr, HOr, HWr, HL⟩ := hrel
    by_cases hlt : k < m
    · obtain ⟨b1, o1, x1, rfl, hb1, hx1, hc1⟩ := recs_at (HV.out.below HB.out).rd hlt
      obtain ⟨x, hv1, hr1, c10, c11, c12, c13, c14, c15⟩ := VAs.out hc1
      have HR1 := Lib.hid hr1; have HV1E := Lib.hid hv1; have HX1 := Lib.hid hx1
      have hmem : x1 ∈ l := List.mem_of_getElem? hx1
      have HMEM := Lib.hid hmem
      clear hr1 hv1 hx1 hmem hc1
      go_wp2_with fail
      have hV0 : Below wr.heap.size wr (wr.alloc (.cells #[.int .i64 x.x.k, .int .i64 x.x.n, .string x.x.s, .slice x.a x.m x.c, .int .i64 x.x.f, .int .i64 x.x.t] 24)) := below_alloc _ _
      have hX8 : VB (wr.alloc (.cells #[.int .i64 x.x.k, .int .i64 x.x.n, .string x.x.s, .slice x.a x.m x.c, .int .i64 x.x.f, .int .i64 x.x.t] 24)) wr.heap.size x := vb_new wr x
      have HFv := Lib.hid (HF.out.below hV0); have HX8 := Lib.hid hX8; have HYv := Lib.hid (HYr.out.below hV0); have HOv := Lib.hid (HOr.out.below hV0)
      have HRv := Lib.hid (HR1.out.below hV0); have HBv := Lib.hid (HB.out.trans (hV0.mono HB.out.size))
      have HWv : Hid (W.heap.size ≤ (wr.alloc (.cells #[.int .i64 x.x.k, .int .i64 x.x.n, .string x.x.s, .slice x.a x.m x.c, .int .i64 x.x.f, .int .i64 x.x.t] 24)).heap.size) := Nat.le_trans HWr.out hV0.size
      generalize hV : wr.alloc (.cells #[.int .i64 x.x.k, .int .i64 x.x.n, .string x.x.s, .slice x.a x.m x.c, .int .i64 x.x.f, .int .i64 x.x.t] 24) = V0 at hV0 HFv HX8 HYv HOv HRv HBv HWv hX8 ⊢
      clear hV hX8 c10 c11 c12 c13 c14 c15 hV0
      have g0 := HX8.out.cell 0; have g1 := HX8.out.cell 1; have g2 := HX8.out.cell 2; have g3 := HX8.out.cell 3; have g4 := HX8.out.cell 4; have g5 := HX8.out.cell 5
      have q3 := HOv.out.cell 3
      simp at g0 g1 g2 g3 g4 g5 q3
      have HC := Lib.hid (show Calls Try.prog 19 #[.agg #[.int .i64 x.x.k, .int .i64 x.x.n, .string x.x.s, .slice x.a x.m x.c, .int .i64 x.x.f, .int .i64 x.x.t]] V0.drew (PXe (key noPl x1) B0 V0.drew) from by
        have h := HIH.out x1 HMEM.out x B0 V0.drew HV1E.out (HRv.out.below (Below.drew (Below.refl _ _))) (by show B0 ≤ V0.heap.size; have := HBv.out.size; omega) (by rw [HV1E.out]; exact HLIM.out x1 HMEM.out)
        rw [HV1E.out] at h
        exact h)
      have hks : W.heap.size ≤ V0.drew.heap.size := HWv.out
      have hWB : B0 ≤ W.heap.size := by have := HWS.out; omega
      go_region_law
        (first
          | (go_simp; go_at_call 19; (with_reducible refine HC.out.mono ?_); rintro e w2 ⟨r, rfl, ht2, hr2, hb2⟩; have HF2 := Lib.hid ((HFv.out.below (Below.drew (Below.refl _ _))).below hb2); have HR2 := Lib.hid (Vn.Rs.apart (w := V0) (H := W.heap.size) HFv.out.own hWB HWv.out hr2); have hbv2 : Below V0.heap.size V0 w2 := (Below.drew (Below.refl _ _)).trans hb2; have HBv2 := Lib.hid hbv2; have q32 := (HOv.out.below hbv2).cell 3; have q3a := ((HOv.out.below hbv2).below (below_alloc w2 (.cells #[.int .i64 r.x.k, .int .i64 r.x.n, .string r.x.s, .slice r.a r.m r.c, .int .i64 r.x.f, .int .i64 r.x.t] 24))).cell 3; have hs2 := hbv2.size; have HT2 := Lib.hid ht2; clear ht2 hr2 hb2 hbv2; simp at q32 q3a)
          | (refine step_append_v (by rfl) (.tmp 21) (.tmp 24) (by rfl) W.heap.size (by rfl) (HF2.out.below (below_alloc _ _)) (by rfl) r (HR2.out.below (below_alloc _ _)) (src_new w2 (Vn.cells r) 24) (by omega) (by rw [size_alloc]; have := HWv.out; omega) ?_; intro a4 c4 w4 hf4 hb4 hg4; have HF4 := Lib.hid hf4; have hbW4 : Below W.heap.size V0 w4 := (HBv2.out.mono HWv.out).trans (((below_alloc w2 _).mono (Nat.le_trans HWv.out hs2)).trans hb4); have HO4 := Lib.hid (HOv.out.of (hbW4.block (w.heap.size + 1 + 1) (by have := HWS.out; omega))); have HY4 := Lib.hid (HYv.out.of (hbW4.block (w.heap.size + 1) (by have := HWS.out; omega))); have HB4 := Lib.hid (HBv.out.trans (hbW4.mono HW.out.size)); have hs4 := hbW4.size; have z3 := HO4.out.cell 3; have y3 := HO4.out.free 3; simp at z3; clear hf4 hb4 hg4 hbW4))
      all_goals
        have HTK := Lib.hid (show (l.take (k + 1)).map (key noPl) = (l.take k).map (key noPl) ++ [key noPl x1] by rw [List.take_add_one, HX1.out]; simp)
        go_wp2
        go_roundw
        case rel =>
          have hWs := HWS.out
          refine ⟨k + 1, a4, c4, L ++ [r], by omega, by go_num, ?_, ?_, ?_, ?_, ?_, ?_⟩
          · exact ⟨⟨ownsRow_setCell_below HF4.out.own.own (a := ⟨w.heap.size + 1 + 1, 3, none⟩) (by show w.heap.size + 1 + 1 < _; omega) _, HF4.out.own.num⟩, fun y hy => ((HF4.out.rs y hy).agree ((only_cell w4 (w.heap.size + 1 + 1) 3 (.slice a4 (k + 1) c4)).kp (fun b hS => by rcases hS.1 with h | h <;> omega)))⟩
          · exact HB4.out.trans ((only_cell w4 (w.heap.size + 1 + 1) 3 (.slice a4 (k + 1) c4)).below (by omega))
          · exact (only_cell w4 (w.heap.size + 1 + 1) 3 (.slice a4 (k + 1) c4)).blk HY4.out (by omega)
          · refine Lib.hid ?_
            have := HO4.out.set 3 (.slice a4 (k + 1) c4)
            simpa [VB] using this
          · rw [(only_cell w4 (w.heap.size + 1 + 1) 3 (.slice a4 (k + 1) c4)).size]; have := HWv.out; exact Lib.hid (by omega)
          · exact Lib.hid (by rw [List.map_append, HL.out, HTK.out, ← HT2.out]; rfl)
        case measure => simp [intOf]; omega
    · have hkm : k = m := by omega
      subst hkm
      go_wp2_with (first | (refine wpList_load_T rfl _ rfl rfl HOr.out ?_) | (refine wpList_store_T rfl _ _ rfl rfl HYr.out ⟨noPl vx, a, k, c', []⟩ rfl ?_))
      intro w7 hv7 hon7
      go_wp2
      try simp only [Exit.inBlock, Exit.then]
      refine bodyPost_ret (results_cell_row rfl _ _ (w.heap.size + 1) _ _ _ _ rfl hv7 Try.underlying24 rfl (by kernel_rfl)) rfl ?_
      have hWs := HWS.out
      have hsb : SB (Old B0 W.heap.size) a k := fun _ b off ha => .inr (HF.out.own.blockLt (by rw [ha]; rfl)).1
      refine ⟨⟨noPl vx, a, k, c', L.map Vn.tr⟩, rfl, ?_, (Vn.Rs.agree (S := Old B0 W.heap.size) (w := wr) ⟨HF.out.reads, hsb, hx64⟩ (hon7.kp (fun b hS => by rcases hS with h | h <;> omega))).weak (fun b _ h => h.imp id (fun h => by omega)), HB.out.trans (hon7.below (by omega))⟩
      show Tr.mk (noPl vx) _ = key noPl (.mk vx l)
      rw [key_mk, HL.out, List.take_of_length_le (by rw [HLX.out]; exact Nat.le_refl _)]

theorem key_idem (t : VT) : key noPl (key noPl t) = key noPl t := by
  induction t using Tr.ind with
  | h x l ih =>
    rw [key_mk, key_mk, List.map_map]
    congr 1
    exact List.map_congr_left ih
end Go.Proofs.Ytbpjaidfpacbfaa.te
