/-
  Layer 4: the contracts of the program's key block, and of the block xor a byte.
-/
import Derived.Test.YtlpiacofnciodaaShaKey
import Derived.Test.YtlpiacofnciodaaShaPSum
import Derived.Laws.CopyOwn
import Derived.Deep.RegionHeldLaw
namespace Go.Proofs.Ytlpiacofnciodaa.sh
open Go.ChangeShapes Go.WideShapes Go.ChangeAt Go.RowKit
open bs
set_option linter.unusedVariables false
open Go.Proofs.Ytlpiacofnciodaa.ss (be be_len be_bytes tail zer APost byteT)

/-- The block g holds the bytes L. -/
def BRow (w : World) (g : Nat) (t : TypeId) (L : List Int) : Prop := w.heap[g]? = some (.cells (cellsOf L).toArray t (0, 0))
theorem BRow.lt {w : World} {g t L} (h : BRow w g t L) : g < w.heap.size := (Array.getElem?_eq_some_iff.1 h).1
theorem BRow.below {w w' : World} {g t L} (h : BRow w g t L) {B : Nat} (hg : g < B) (hb : Below B w w') : BRow w' g t L := by
  unfold BRow
  rw [hb.block g hg]
  exact h
theorem cellsOf_one (L : List Int) : (cellsOf L).toArray.all (·.oneCell') = true := by
  simp only [cellsOf, List.all_toArray, List.all_map, List.all_eq_true]
  intro x _
  rfl
theorem cellsOf_len (L : List Int) : (cellsOf L).length = L.length := by simp [cellsOf]
theorem cellsOf_at (L : List Int) (i : Nat) (h : i < L.length) : (cellsOf L).toArray[i]? = some (.int .u8 (L.getD i 0)) := by
  simp only [cellsOf, List.getElem?_toArray, List.getElem?_map, List.getD_eq_getElem?_getD, List.getElem?_eq_getElem h]
  rfl
def Z64 : List Int := List.replicate 64 0
theorem Z64_len : Z64.length = 64 := by simp [Z64]
theorem splice_kb (k : List Int) (h : k.length ≤ 64) : splice (cellsOf Z64) 0 (cellsOf k) = cellsOf (k ++ List.replicate (64 - k.length) 0) := by
  unfold splice Z64
  rw [List.take_zero, List.nil_append, Nat.zero_add, cellsOf_append, cellsOf_len]
  congr 1
  unfold cellsOf
  rw [← List.map_drop, List.drop_replicate]
theorem src_cells {w : World} {a : Option Addr} {n c : Nat} {l : List Int} (h : Bytes w a n c l) : 0 < (cellsOf l).length → ∃ ad, a = some ad ∧ ∀ j v, (cellsOf l)[j]? = some v → w.cell? (ad.add j) = some v := by
  intro hp
  have hl := h.len
  rw [cellsOf_len] at hp
  obtain ⟨b, off, rfl, hc⟩ := h.at'.resolve_left (by omega)
  refine ⟨_, rfl, fun j v hv => ?_⟩
  have hj : j < n := by
    have := (List.getElem?_eq_some_iff.1 hv).1
    rw [cellsOf_len] at this
    omega
  have e : (⟨b, off, none⟩ : Addr).add j = ⟨b, off + j, none⟩ := by unfold Addr.add; split <;> simp_all
  rw [e, hc j hj, ← hv, cellsOf, List.getElem?_map, List.getElem?_eq_getElem (by omega), List.getD_eq_getElem?_getD, List.getElem?_eq_getElem (by omega)]
  rfl
theorem cellsOf_all1 (L : List Int) : ∀ v ∈ cellsOf L, v.oneCell' = true := by
  intro v hv
  obtain ⟨x, _, rfl⟩ := List.mem_map.1 hv
  rfl

set_option maxRecDepth 100000 in
set_option maxHeartbeats 2000000 in
theorem pkey_any (a : Option Addr) (n c : Nat) (l : List Int) (w : World) (h : Bytes w a n c l) (hn : n ≤ 1000000) :
    Calls Try.prog 29 #[.slice a n c] w fun e w' => e = .returned (.agg (cellsOf (kb l)).toArray) ∧ Below w.heap.size w w' := by
  have hlen := h.len
  subst hlen
  have hcap := h.cap
  have hmost := h.most
  have HH := Lib.hid h
  clear h
  have hW : Below w.heap.size w ((w.alloc (.cells (cellsOf Z64).toArray 49)).alloc (.cells (cellsOf Z64).toArray 49)) := ((Below.refl _ _).alloc (Nat.le_refl _) _).alloc (by simp) _
  have hz0 : BRow ((w.alloc (.cells (cellsOf Z64).toArray 49)).alloc (.cells (cellsOf Z64).toArray 49)) w.heap.size 49 Z64 := heap_alloc2_old w _ _
  have hz1 : BRow ((w.alloc (.cells (cellsOf Z64).toArray 49)).alloc (.cells (cellsOf Z64).toArray 49)) (w.heap.size + 1) 49 Z64 := heap_alloc2_new w _ _
  have HW := Lib.hid hW; have HZ0 := Lib.hid hz0; have HZ1 := Lib.hid hz1
  clear hW hz0 hz1
  by_cases hg : 64 < l.length
  · have hgi : (64 : Int) < (l.length : Int) := by omega
    have hkl : kk l = shaSum l := if_pos hg
    have HKL := Lib.hid hkl
    have HN1 := Lib.hid (show (cellsOf (shaSum l)).length = Nat.min 32 64 by rw [cellsOf_len, shaSum_len]; rfl)
    have HF1 := Lib.hid (show 0 + (cellsOf (shaSum l)).length ≤ (cellsOf Z64).length by rw [cellsOf_len, cellsOf_len, Z64_len, shaSum_len]; omega)
    clear hkl
    go_enter Try.func29, Try.ntmps29
    go_wp2_with fail
    change Code.wp _ _ _ _ ((w.alloc (.cells (cellsOf Z64).toArray 49)).alloc (.cells (cellsOf Z64).toArray 49))
    generalize ((w.alloc (.cells (cellsOf Z64).toArray 49)).alloc (.cells (cellsOf Z64).toArray 49)) = W0 at HW HZ0 HZ1 ⊢
    have HHd : Hid (Bytes W0.drew a l.length c l) := (HH.out.below HW.out).drewN 1
    have HZd : Hid (BRow W0.drew (w.heap.size + 1) 49 Z64) := HZ1.out
    have hlt : w.heap.size + 1 < W0.drew.heap.size := HZ1.out.lt
    have HD : Hid (Below (w.heap.size + 1) W0 W0.drew) := Below.drew (Below.refl _ _)
    have HLT := Lib.hid hlt
    clear hlt
    go_region_held_law (fun W => Hid (Below (w.heap.size + 1) W0 W))
      (first | exact HD | exact hS1 | exact hS2)
      (first
        | (go_at_call 8; (with_reducible refine (psum_any a _ c l _ HHd.out hn).mono ?_); rintro e w1 ⟨a1, c1, rfl, ho1, hb1⟩; have HO1 := Lib.hid ho1.bytes; have HZ2 : Hid (BRow w1 (w.heap.size + 1) 49 Z64) := BRow.below HZd.out HLT.out hb1; have hS1 : Hid (Below (w.heap.size + 1) W0 w1) := HD.out.trans (hb1.mono (Nat.le_of_lt HLT.out)); clear ho1 hb1)
        | (refine step_copy_splice (by rfl) (.tmp 7) (.tmp 9) 22 22 (by rfl) 5 Try.underlying22 (by kernel_rfl) (some ⟨w.heap.size + 1, 0, none⟩) a1 64 64 32 c1 (by rfl) (by rfl) (w.heap.size + 1) 0 (cellsOf Z64) 49 HZ2.out (cellsOf (shaSum l)) HN1.out (fun hp => ⟨rfl, src_cells HO1.out hp⟩) HF1.out (cellsOf_all1 _) (w.heap.size + 1) W0 hS1.out (Nat.le_refl _) ?_; intro w2 hcp hb2; have hS2 := Lib.hid hb2; clear hb2))
    have hcp2 : BRow w2 (w.heap.size + 1) 49 (kb l) := by
      have := hcp.out
      rw [splice_kb _ (by rw [shaSum_len]; omega)] at this
      unfold kb
      rw [HKL.out]
      exact this
    have hr0 : BRow w2 w.heap.size 49 Z64 := BRow.below HZ0.out (by omega) hS2.out
    have HC := Lib.hid hcp2; have HR := Lib.hid hr0
    have HB := Lib.hid (HW.out.trans (hS2.out.mono (by omega)))
    clear hcp hcp2 hr0 hS2
    have HS1 := Lib.hid (show (Try.prog.info? 49).map (·.size) = some (cellsOf (kb l)).toArray.size by rw [List.size_toArray, cellsOf_len, kb_len]; kernel_rfl)
    have HS2 := Lib.hid (show (cellsOf Z64).toArray.size = (cellsOf (kb l)).toArray.size by rw [List.size_toArray, List.size_toArray, cellsOf_len, cellsOf_len, kb_len, Z64_len])
    go_wp2_with (first
      | (refine wpList_load_row rfl 49 (.tmp 3) rfl (w.heap.size + 1) rfl 49 (cellsOf (kb l)).toArray (0, 0) _ HC.out Try.underlying49 rfl HS1.out ?_)
      | (refine wpList_store_row rfl 49 (.tmp 2) _ rfl w.heap.size (cellsOf (kb l)).toArray rfl rfl 49 (cellsOf Z64).toArray HR.out HS1.out HS2.out (cellsOf_one _) ?_))
    refine bodyPost_ret (v := .agg (cellsOf (kb l)).toArray) ?_ rfl ⟨rfl, Go.below_setRow HB.out (Nat.le_refl _) _⟩
    exact results_cell_row rfl _ _ w.heap.size _ _ _ _ rfl (setRow_heap w2 w.heap.size _ _ _ _ HR.out) Try.underlying49 rfl HS1.out
  · have hgi : ¬ (64 : Int) < (l.length : Int) := by omega
    have hkl : kk l = l := if_neg hg
    have HKL := Lib.hid hkl
    have HN1 := Lib.hid (show (cellsOf l).length = Nat.min l.length 64 by rw [cellsOf_len]; exact (Nat.min_eq_left (by omega)).symm)
    have HF1 := Lib.hid (show 0 + (cellsOf l).length ≤ (cellsOf Z64).length by rw [cellsOf_len, cellsOf_len, Z64_len]; omega)
    clear hkl
    go_enter Try.func29, Try.ntmps29
    go_wp2_with (refine wpList_copy_splice (o := ⟨some 13, _, _, _, _, _⟩) rfl (.tmp 11) (.tmp 12) 22 22 rfl 5 Try.underlying22 (by kernel_rfl) (some ⟨w.heap.size + 1, 0, none⟩) a 64 64 l.length c rfl rfl (w.heap.size + 1) 0 (cellsOf Z64) 49 HZ1.out (cellsOf l) HN1.out (fun hp => ⟨rfl, src_cells (HH.out.below HW.out) hp⟩) HF1.out (cellsOf_all1 l) (w.heap.size + 1) _ (Below.refl _ _) (Nat.le_refl _) ?_)
    intro w1 hcp hb1
    have hcp2 : BRow w1 (w.heap.size + 1) 49 (kb l) := by
      have := hcp.out
      rw [splice_kb l (by omega)] at this
      unfold kb
      rw [HKL.out]
      exact this
    have hr0 : BRow w1 w.heap.size 49 Z64 := BRow.below HZ0.out (by omega) hb1
    have HC := Lib.hid hcp2; have HR := Lib.hid hr0
    have HB := Lib.hid (HW.out.trans (hb1.mono (by omega)))
    clear hcp hcp2 hr0 hb1
    have HS1 := Lib.hid (show (Try.prog.info? 49).map (·.size) = some (cellsOf (kb l)).toArray.size by rw [List.size_toArray, cellsOf_len, kb_len]; kernel_rfl)
    have HS2 := Lib.hid (show (cellsOf Z64).toArray.size = (cellsOf (kb l)).toArray.size by rw [List.size_toArray, List.size_toArray, cellsOf_len, cellsOf_len, kb_len, Z64_len])
    go_wp2_with (first
      | (refine wpList_load_row rfl 49 (.tmp 3) rfl (w.heap.size + 1) rfl 49 (cellsOf (kb l)).toArray (0, 0) _ HC.out Try.underlying49 rfl HS1.out ?_)
      | (refine wpList_store_row rfl 49 (.tmp 2) _ rfl w.heap.size (cellsOf (kb l)).toArray rfl rfl 49 (cellsOf Z64).toArray HR.out HS1.out HS2.out (cellsOf_one _) ?_))
    refine bodyPost_ret (v := .agg (cellsOf (kb l)).toArray) ?_ rfl ⟨rfl, Go.below_setRow HB.out (Nat.le_refl _) _⟩
    exact results_cell_row rfl _ _ w.heap.size _ _ _ _ rfl (setRow_heap w1 w.heap.size _ _ _ _ HR.out) Try.underlying49 rfl HS1.out

end Go.Proofs.Ytlpiacofnciodaa.sh
