/-
  Layer 6: a term without places; the document's answer.
-/
import Derived.Test.YtbpjaidfpacbfaaShiWalk
namespace Go.Proofs.Ytbpjaidfpacbfaa.te
open Go.ChangeShapes Go.WideShapes Go.ChangeAt Go.RowKit
open bs tr
set_option linter.unusedVariables false

set_option maxRecDepth 100000 in
set_option maxHeartbeats 4000000 in
theorem rbare_any (t : VT) : ∀ (v : Vn) (B0 : Nat) (w : World), v.tr = t → v.Rs (· < B0) w → B0 ≤ w.heap.size → t.size ≤ 100000 →
    Calls Try.prog 20 #[A6 v] w (PXe (key noPl v.tr) B0 w) := by
  induction t using Tr.ind with
  | h tx tl ih =>
  intro v B0 w hat hv hB0 hsz
  obtain ⟨x, a, m, c, l⟩ := v
  cases hat
  have hsz2 : Tr.size (Tr.mk x l) ≤ 100000 := hsz
  have hlm := Tr.len_size (x := x) (l := l)
  have hvl := hv.rd
  have hx64 : In64 x := hv.x64
  dsimp only at hvl
  have hcap := hvl.cap; have hmost := hvl.most; have hlx := hvl.len
  have hm : m ≤ 100000 := by omega
  have hlim : ∀ y ∈ l, y.size ≤ 100000 := fun y hy => by have := Tr.size_le (x := x) hy; omega
  obtain ⟨hW, hZ, hY, hs⟩ := w2_facts w ⟨x, a, m, c, l⟩
  simp only [W2] at hW hZ hY hs
  have HW := Lib.hid hW; have HZ := Lib.hid hZ; have HY := Lib.hid hY; have HS := Lib.hid hs
  have HV := Lib.hid (hv.below hW); have HIH := Lib.hid ih; have HLX := Lib.hid hlx; have H64 := Lib.hid (noPl64 hx64); have HLIM := Lib.hid hlim
  clear hv hvl hx64 hW hZ hY hs ih hlx hsz hsz2 hlm hlim
  go_enter Try.func20, Try.ntmps20
  go_upto_region 1 with fail
  generalize hWW : (w.alloc (.cells #[.int .i64 x.k, .int .i64 x.n, .string x.s, .slice a m c, .int .i64 x.f, .int .i64 x.t] 24)).alloc (.cells #[.int .i64 0, .int .i64 0, .string ⟨#[]⟩, .slice none 0 0, .int .i64 0, .int .i64 0] 24) = W at HW HZ HY HS HV ⊢
  clear hWW
  have hWB : B0 ≤ W.heap.size := Nat.le_trans hB0 HW.out.size
  have HF0 : Hid (Frst B0 W.heap.size (W.alloc (.cells #[] 24)) W.heap.size (some ⟨W.heap.size, 0, none⟩) 0 0 []) := ⟨OwnS.made0 W W.heap.size 24 (Nat.le_refl _), fun x hx => by cases hx⟩
  have HB0 : Hid (Below W.heap.size W (W.alloc (.cells #[] 24))) := (Below.refl _ _).alloc (Nat.le_refl _) _
  go_wp2_with fail
  go_loopw [3, 4] (fun lo i wr => ∃ (k : Nat) (a : Option Addr) (c' : Nat) (L : List Vn), k ≤ m ∧ i = .int .i64 k ∧ lo = .slice a k c' ∧ Hid (Frst B0 W.heap.size wr W.heap.size a k c' L) ∧ Hid (Below W.heap.size W wr) ∧ Hid (L.map Vn.tr = (l.map (key noPl)).take k)) (fun _ i _ => m - (intOf i).toNat)
  case atStart => exact ⟨0, _, 0, [], by omega, rfl, rfl, HF0, HB0, Lib.hid (by simp)⟩
  case round =>
    obtain ⟨k, a1, c', L, hk2, rfl, rfl, HF, HB, HL⟩ := hrel
    have HZr := Lib.hid (HZ.out.below HB.out)
    have p0 := HZr.out.cell 0; have p1 := HZr.out.cell 1; have p2 := HZr.out.cell 2; have p3 := HZr.out.cell 3
    simp at p0 p1 p2 p3
    have hsB := HB.out.size
    by_cases hlt : k < m
    · obtain ⟨b1, o1, x1, rfl, hb1, hx1, hc1⟩ := recs_at (HV.out.below HB.out).rd hlt
      obtain ⟨⟨z1, aa1, am1, ac1, al1⟩, hv1e, hr1, c10, c11, c12, c13, c14, c15⟩ := VAs.out hc1
      dsimp only at c10 c11 c12 c13 c14 c15
      have HR1 := Lib.hid hr1; have HV1E := Lib.hid hv1e
      have HX1 := Lib.hid (show (l.map (key noPl))[k]? = some (key noPl x1) by rw [List.getElem?_map, hx1]; rfl)
      have hmem : x1 ∈ l := List.mem_of_getElem? hx1
      have HMEM := Lib.hid hmem
      clear hr1 hv1e hx1 hmem hc1
      go_wp2_with fail
      refine (HIH.out x1 HMEM.out ⟨z1, aa1, am1, ac1, al1⟩ B0 wr HV1E.out HR1.out (by omega) (HLIM.out x1 HMEM.out)).mono ?_
      rintro e w3 ⟨⟨rx, ra, rm, rc, rl⟩, rfl, ht3, hr3, hb3⟩
      rw [HV1E.out] at ht3
      have HB3 : Hid (Below W.heap.size W w3) := HB.out.trans (hb3.mono hsB)
      have HF3 := Lib.hid (HF.out.below hb3)
      have HR3 := Lib.hid (Vn.Rs.apart (w := wr) (H := W.heap.size) HF.out.own hWB hsB hr3)
      have HT3 := Lib.hid ht3
      clear ht3 hr3 hb3 c10 c11 c12 c13 c14 c15 p0 p1 p2 p3
      go_wp2_with (at_builtin; refine wpList_append_v rfl _ _ rfl W.heap.size rfl (HF3.out.below ((Below.refl _ _).alloc (Nat.le_refl _) _)) rfl ⟨rx, ra, rm, rc, rl⟩ (HR3.out.below ((Below.refl _ _).alloc (Nat.le_refl _) _)) (src_new _ (Vn.cells ⟨rx, ra, rm, rc, rl⟩) 24) (by omega) (HB3.out.alloc HB3.out.size _).size ?_)
      intro a4 c4 w4 hf4 hb4 hg4
      have HB4 : Hid (Below W.heap.size W w4) := (HB3.out.alloc HB3.out.size _).trans hb4
      have HF4 := Lib.hid hf4
      clear hf4 hb4
      go_wp2
      go_roundw
      case rel => exact ⟨k + 1, a4, c4, _, by omega, by go_num, rfl, HF4, HB4, Lib.hid (by rw [List.map_append, HL.out, List.take_add_one, HX1.out, ← HT3.out]; rfl)⟩
      case measure => simp [intOf]; omega
    · have hkm : k = m := by omega
      subst hkm
      have HYB := Lib.hid (HY.out.below HB.out)
      go_wp2_with (refine wpList_store_T rfl _ _ rfl rfl HYB.out ⟨noPl x, a1, k, c', []⟩ rfl ?_)
      intro w7 hv7 hon7
      go_wp2
      try simp only [Exit.inBlock, Exit.then]
      have hWs := HS.out
      refine bodyPost_ret (results_cell_row rfl _ _ (w.heap.size + 1) _ _ _ _ rfl hv7 Try.underlying24 rfl (by kernel_rfl)) rfl ?_
      have hsb : SB (Old B0 W.heap.size) a1 k := fun _ b off ha => .inr (HF.out.own.blockLt (by rw [ha]; rfl)).1
      refine ⟨⟨noPl x, a1, k, c', L.map Vn.tr⟩, rfl, ?_, (Vn.Rs.agree (S := Old B0 W.heap.size) (w := wr) ⟨HF.out.reads, hsb, H64.out⟩ (hon7.kp (fun b hS => by rcases hS with h | h <;> omega))).weak (fun b _ h => h.imp id (fun h => by omega)), (HW.out.trans (HB.out.mono HW.out.size)).trans (hon7.below (by omega))⟩
      show Tr.mk (noPl x) _ = key noPl (.mk x l)
      rw [key_mk, HL.out, List.take_of_length_le (by rw [List.length_map, HLX.out]; exact Nat.le_refl _)]
end Go.Proofs.Ytbpjaidfpacbfaa.te
