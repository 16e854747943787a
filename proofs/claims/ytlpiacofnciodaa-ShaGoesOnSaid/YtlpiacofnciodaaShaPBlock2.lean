/-
  Layer 3: the contract of the program's 'Block'.
-/
import Derived.Test.YtlpiacofnciodaaShaPBlock
import Derived.Deep.RegionHeldLaw
namespace Go.Proofs.Ytlpiacofnciodaa.sh
open Go.ChangeShapes Go.WideShapes Go.ChangeAt Go.RowKit
open bs
open Go.Proofs.Ytlpiacofnciodaa.rs
set_option linter.unusedVariables false

theorem behind_y (s : St) (K : List (BitVec 32)) (hK : K.length = 64) (a : Option Addr) (c : Nat) (l : List Int) (w : World) (h : Bytes w a 64 c l) :
    Calls Try.prog 22 #[.agg #[.int .u32 (I s.a), .int .u32 (I s.b), .int .u32 (I s.c), .int .u32 (I s.d), .int .u32 (I s.e), .int .u32 (I s.f), .int .u32 (I s.g), .int .u32 (I s.h)], .slice a 64 c, .agg (cells32 K)] w
      fun e w' => ∃ L, (blk K s l).list = L ∧ L.length = 8 ∧ e = .returned (.agg (cells32 L)) ∧ Below w.heap.size w w' :=
  (behind_any s K hK a c l w h).mono fun e w' h => ⟨_, rfl, rfl, h⟩
theorem lit8 (W : World) : Row (W.alloc (.cells #[.int .u32 0, .int .u32 0, .int .u32 0, .int .u32 0, .int .u32 0, .int .u32 0, .int .u32 0, .int .u32 0] 37)) W.heap.size 37 (List.replicate 8 0#32) := Row.made W _ (List.replicate 8 0#32)
theorem store_eq {w : World} {g : Nat} {L : List (BitVec 32)} (hr : Row w g 37 (List.replicate 8 0#32)) (hL : L.length = 8) :
    (storeCells ⟨g, 0, none⟩ (cells32 L).toList).run Try.prog w = .ok () (w.setRow g (cells32 L)) := by
  have h := run_storeCells_from (P := Try.prog) g 37 (cells32 L).toList 0 (cells32 (List.replicate 8 0#32)) w hr (by simp [cells32, hL]) (fun v hv => (Array.all_eq_true_iff_forall_mem.1 (cells32_one L)) v (by simpa using hv))
  rw [h]
  congr 2
theorem below_step {w W W' : World} (h : Hid (Below w.heap.size w W)) (hb : Below W.heap.size W W') : Hid (Below w.heap.size w W') := h.out.trans (hb.mono h.out.size)
theorem below_al {w W : World} (h : Hid (Below w.heap.size w W)) (o : Obj) : Hid (Below w.heap.size w (W.alloc o)) := h.out.alloc h.out.size o
theorem below_d (w : World) : Hid (Below w.heap.size w w.drew) := Below.drew (Below.refl _ _)
theorem below_da (w : World) (o : Obj) : Hid (Below w.heap.size w (w.drew.alloc o)) := below_al (below_d w) o
theorem below_ad (w : World) (o : Obj) : Hid (Below w.heap.size w (w.alloc o).drew) := Below.drew ((Below.refl _ _).alloc (Nat.le_refl _) o)
theorem lit8d (W : World) : Row (W.alloc (.cells #[.int .u32 0, .int .u32 0, .int .u32 0, .int .u32 0, .int .u32 0, .int .u32 0, .int .u32 0, .int .u32 0] 37)).drew W.heap.size 37 (List.replicate 8 0#32) := Row.made W _ (List.replicate 8 0#32)
theorem below_sr {w W : World} (h : Hid (Below w.heap.size w W)) {g : Nat} (hg : w.heap.size ≤ g) (cs : Array Value) : Hid (Below w.heap.size w (W.setRow g cs)) := below_setRow h.out hg cs

theorem keep8s {w W : World} {b off : Nat} {s : St} (h : ∀ i, i < 8 → w.cell? ⟨b, off + i, none⟩ = some (.int .u32 (I (s.list.getD i 0)))) (hb : Hid (Below w.heap.size w W)) :
    W.cell? ⟨b, off, none⟩ = some (.int .u32 (I s.a)) ∧ W.cell? ⟨b, off + 1, none⟩ = some (.int .u32 (I s.b)) ∧ W.cell? ⟨b, off + 2, none⟩ = some (.int .u32 (I s.c)) ∧ W.cell? ⟨b, off + 3, none⟩ = some (.int .u32 (I s.d)) ∧
    W.cell? ⟨b, off + 4, none⟩ = some (.int .u32 (I s.e)) ∧ W.cell? ⟨b, off + 5, none⟩ = some (.int .u32 (I s.f)) ∧ W.cell? ⟨b, off + 6, none⟩ = some (.int .u32 (I s.g)) ∧ W.cell? ⟨b, off + 7, none⟩ = some (.int .u32 (I s.h)) ∧ Hid (Below w.heap.size w W) := by
  have g : ∀ i, i < 8 → W.cell? ⟨b, off + i, none⟩ = some (.int .u32 (I (s.list.getD i 0))) := fun i hi => by
    rw [hb.out.cell (World.block_lt_of_cell? w _ (h i hi))]
    exact h i hi
  exact ⟨g 0 (by omega), g 1 (by omega), g 2 (by omega), g 3 (by omega), g 4 (by omega), g 5 (by omega), g 6 (by omega), g 7 (by omega), hb⟩

set_option maxRecDepth 100000 in
set_option maxHeartbeats 3000000 in
theorem pblock_any (s : St) (a : Option Addr) (c : Nat) (a' : Option Addr) (c' : Nat) (l : List Int) (w : World) (hs : U32s w a 8 c (s.list.map I)) (h : Bytes w a' 64 c' l) :
    Calls Try.prog 11 #[.slice a 8 c, .slice a' 64 c'] w (UPost w 8 ((blk Kc s l).list.map I)) := by
  obtain ⟨b0, off0, rfl, hc0⟩ := hs.at'.resolve_left (by omega)
  have hm0 := hs.most; have hk0 := hs.cap
  have hc0' : ∀ i, i < 8 → w.cell? ⟨b0, off0 + i, none⟩ = some (.int .u32 (I (s.list.getD i 0))) := fun i hi => by
    have h1 := hc0 i hi
    rwa [mapI_at _ _ (by simpa [St.list] using hi)] at h1
  have HC := Lib.hid hc0'
  have HH := Lib.hid h
  clear h hc0 hs hc0'
  go_enter Try.func11, Try.ntmps11
  go_wp2_with fail
  have harr : ∀ W : World, (Instr.arrayAt 37 (.slice (some ⟨b0, off0, none⟩) 8 c)).run Try.prog W = .ok (.pointer (some ⟨b0, off0, none⟩)) W := fun W => by
    simp [Instr.arrayAt, Try.underlying37, go_sem]
  have Hd := below_d w
  go_region_held_law (fun W => W.cell? ⟨b0, off0, none⟩ = some (.int .u32 (I s.a)) ∧ W.cell? ⟨b0, off0 + 1, none⟩ = some (.int .u32 (I s.b)) ∧ W.cell? ⟨b0, off0 + 2, none⟩ = some (.int .u32 (I s.c)) ∧ W.cell? ⟨b0, off0 + 3, none⟩ = some (.int .u32 (I s.d)) ∧
      W.cell? ⟨b0, off0 + 4, none⟩ = some (.int .u32 (I s.e)) ∧ W.cell? ⟨b0, off0 + 5, none⟩ = some (.int .u32 (I s.f)) ∧ W.cell? ⟨b0, off0 + 6, none⟩ = some (.int .u32 (I s.g)) ∧ W.cell? ⟨b0, off0 + 7, none⟩ = some (.int .u32 (I s.h)) ∧ Hid (Below w.heap.size w W))
    (with_reducible first
      | exact keep8s HC.out Hd
      | exact keep8s HC.out hS1
      | exact keep8s HC.out hS2
      | exact keep8s HC.out (below_al hS1 _)
      | exact keep8s HC.out (below_al hS2 _)
      | exact keep8s HC.out (below_da w _)
      | exact keep8s HC.out (below_ad w _)
      | exact keep8s HC.out (below_sr hS2 hs1 _)
      | exact keep8s HC.out (below_sr (below_al hS2 _) hs2 _)
      | exact keep8s HC.out (below_sr hS2 (Nat.le_refl _) _))
    (first
      | (go_at_call 21; (with_reducible refine (rounds_any _).mono ?_); rintro e w1 ⟨rfl, hb1⟩; have hS1 : Hid (Below w.heap.size w w1) := (by with_reducible first | exact below_step Hd hb1 | exact below_step (below_da w _) hb1 | exact below_step (below_ad w _) hb1); have hs1 := hS1.out.size; first | (have hR1 : Hid (Row w1 w.heap.size 37 (List.replicate 8 0#32)) := Lib.hid (Row.below (lit8d w) hb1); clear hb1) | clear hb1)
      | (go_at_call 22; (with_reducible refine (behind_y s Kc Kc_len _ _ l _ (HH.out.below (by with_reducible first | exact hS1.out | exact (below_al hS1 _).out))).mono ?_); rintro e w2 ⟨L, hL, hL8, rfl, hb2⟩; have hz8 : (cells32 L).size = 8 := (by rw [cells32_size, hL8]); have HL := Lib.hid hL; have HL8 := Lib.hid hL8; have hS2 : Hid (Below w.heap.size w w2) := (by with_reducible first | exact below_step hS1 hb2 | exact below_step (below_al hS1 _) hb2); have hs2 := hS2.out.size; have hst2 := store_eq (lit8 w2) hL8; first | (have hR2 : Hid (Row w2 w1.heap.size 37 (List.replicate 8 0#32)) := Lib.hid (Row.below (lit8 w1) hb2); have hst := store_eq hR2.out hL8; clear hb2 hL hL8) | (have hR2 : Hid (Row w2 w.heap.size 37 (List.replicate 8 0#32)) := Lib.hid (Row.below hR1.out hb2); have hst := store_eq hR2.out hL8; clear hb2 hL hL8) | clear hb2 hL hL8))
  all_goals
    clear hst2 harr HC HH
    go_wp2
    go_ret
    rw [HL.out]
    first
      | exact ⟨_, _, rfl, Row.u32s ((lit8 w2).setRow L) HL8.out (by omega), (below_sr (below_al hS2 _) hs2 _).out⟩
      | exact ⟨_, _, rfl, Row.u32s (hR2.out.setRow L) HL8.out (by omega), (below_sr hS2 hs1 _).out⟩
      | exact ⟨_, _, rfl, Row.u32s (hR2.out.setRow L) HL8.out (by omega), (below_sr hS2 (Nat.le_refl _) _).out⟩

end Go.Proofs.Ytlpiacofnciodaa.sh
