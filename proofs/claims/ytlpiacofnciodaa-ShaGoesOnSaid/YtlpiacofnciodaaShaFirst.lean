/-
  Layer 3: the contracts of the first state and of the round numbers, as the program makes them.
-/
import Derived.Test.YtlpiacofnciodaaShaSpread
import Derived.Test.YtlpiacofnciodaaPrimes
namespace Go.Proofs.Ytlpiacofnciodaa.sh
open Go.ChangeShapes Go.WideShapes Go.ChangeAt Go.RowKit
open bs
open Go.Proofs.Ytlpiacofnciodaa.rs
set_option linter.unusedVariables false

theorem ofNatm (n : Nat) : (n : Int) % 4294967296 = I (BitVec.ofNat 32 n) := by rw [← wrap32, I_ofNat]
/-- The first numbers of D, and 0 behind them. -/
def fil (D : List (BitVec 32)) (i : Nat) : List (BitVec 32) := D.take i ++ List.replicate (D.length - i) 0#32
theorem fil_len (D : List (BitVec 32)) (i : Nat) (h : i ≤ D.length) : (fil D i).length = D.length := by
  unfold fil
  simp
  omega
theorem fil_all (D : List (BitVec 32)) (i : Nat) (h : D.length = i) : fil D i = D := by
  subst h
  unfold fil
  simp
theorem fil_set (D : List (BitVec 32)) (i : Nat) (h : i < D.length) : (fil D i).set i (D.getD i 0) = fil D (i + 1) := by
  unfold fil
  rw [List.set_append_right _ _ (by simp; omega), List.length_take, Nat.min_eq_left (by omega), Nat.sub_self, show D.length - i = (D.length - (i + 1)) + 1 by omega, List.replicate_succ, List.set_cons_zero, List.take_add_one, List.getElem?_eq_getElem h,
    List.getD_eq_getElem?_getD, List.getElem?_eq_getElem h, List.append_assoc]
  rfl
theorem cells32_kind (L : List (BitVec 32)) (i : Nat) (v : Int) : (cells32 L)[i]? ≠ some (.int .i64 v) := by
  intro h
  simp only [cells32, List.getElem?_toArray, List.getElem?_map, Option.map_eq_some_iff] at h
  obtain ⟨x, _, hx⟩ := h
  simp at hx

set_option maxRecDepth 100000 in
set_option maxHeartbeats 1000000 in
theorem first_any (w : World) :
    Calls Try.prog 20 #[] w fun e w' => e = .returned (.agg (cells32 Hl)) ∧ Below w.heap.size w w' := by
  go_enter Try.func20, Try.ntmps20
  go_wp2_with fail
  have hB : Below w.heap.size w ((w.alloc (.cells (cells32 (List.replicate 8 0#32)) 37)).alloc (.cells (cells32 (List.replicate 8 0#32)) 37)) :=
    ((Below.refl _ _).alloc (Nat.le_refl _) _).alloc (by simp) _
  refine (primes_any 8 _ (by omega) (by omega)).mono ?_
  rintro e w1 ⟨a, c, p, rfl, ho, hb, hl⟩
  have hpl : pl p = pl 20 := pl_eq (by rw [hl]; decide +kernel)
  rw [show cnt 8 = 8 from rfl, hpl] at ho
  rw [show cnt 8 = 8 from rfl]
  have r0 : Row w1 w.heap.size 37 (List.replicate 8 0#32) := Row.below ((Row.made w 37 (List.replicate 8 0#32)).alloc _) hb
  have r1 : Row w1 (w.heap.size + 1) 37 (List.replicate 8 0#32) := Row.below (Row.made2 w _ 37 (List.replicate 8 0#32)) hb
  have hB1 : Below w.heap.size w w1 := hB.trans (hb.mono (by simp; omega))
  have hi := ho.reads
  obtain ⟨b, off, rfl, hc⟩ := hi.at'.resolve_left (by omega)
  have HC := Lib.hid hc
  have hm := hi.most
  have hk := hi.cap
  have HL := Lib.hid (show (pl 20).length = 8 from pl_20)
  have hbz := World.block_lt_of_cell? w1 _ (hc 0 (by omega))
  have HZ := Lib.hid hbz
  have R0 := Lib.hid r0; have R1 := Lib.hid r1; have HB := Lib.hid hB1
  clear hi hc r0 r1 hB1 hB hb hl hpl ho hbz
  go_wp2_with fail
  go_loopw [6] (fun i wr => ∃ t : Nat, t ≤ 8 ∧ i = .int .i64 t ∧ Row wr w.heap.size 37 (List.replicate 8 0#32) ∧ Row wr (w.heap.size + 1) 37 (fil Hl t) ∧ Below w.heap.size w wr ∧ (∀ k, k < 8 → wr.cell? ⟨b, off + k, none⟩ = some (.int .i64 ((pl 20).getD k 0)))) (fun i _ => 8 - (intOf i).toNat)
  case atStart => exact ⟨0, by omega, rfl, R0.out, R1.out, HB.out, HC.out⟩
  case round =>
    clear R0 R1 HB HC HZ
    obtain ⟨t, ht, rfl, h0, h1, hb, hc⟩ := hrel
    by_cases h : t < 8
    · have ct := hc t h
      have hbd := pl_bd 20 ((pl 20).getD t 0) (by rw [List.getD_eq_getElem?_getD, List.getElem?_eq_getElem (by rw [HL.out]; exact h)]; exact List.getElem_mem _)
      have hv : Hl.getD t 0 = BitVec.ofNat 32 (sq ((pl 20).getD t 0)) := by
        unfold Hl
        rw [List.getD_eq_getElem?_getD, List.getElem?_map, List.getD_eq_getElem?_getD, List.getElem?_eq_getElem (by rw [HL.out]; exact h)]
        rfl
      generalize (pl 20).getD t 0 = q at ct hbd hv
      have HV := Lib.hid hv
      have H0 := Lib.hid h0; have H1 := Lib.hid h1; have HBl := Lib.hid hb; have HC := Lib.hid hc
      have hbz := World.block_lt_of_cell? wr _ ct
      have HZ := Lib.hid hbz
      clear hv h0 h1 hb hc hbz
      go_wp2_with fail
      refine (square_any q _ (by omega) (by omega)).mono ?_
      rintro e w2 ⟨rfl, hb2⟩
      have n1 := H1.out.below hb2
      have cc := n1.cellAt t (by rw [fil_len _ _ (by rw [Hl_len]; exact ht), Hl_len]; exact h)
      have cf := n1.frozenAt t
      have N0 := Lib.hid (H0.out.below hb2); have N1 := Lib.hid n1; have NB := Lib.hid (HBl.out.trans (hb2.mono HBl.out.size))
      have NC := Lib.hid (fun k hk => (hb2.cell (p := ⟨b, off + k, none⟩) HZ.out).trans (HC.out k hk))
      have hg : b ≠ w.heap.size + 1 := by
        rintro rfl
        have := H1.out
        unfold Row at this
        have h2 := HC.out 0 (by omega)
        rw [cell_of_row _ _ _ _ _ _ this] at h2
        exact cells32_kind _ _ _ h2
      have HG := Lib.hid hg
      clear n1 hb2 hg
      go_wp2
      rw [ofNatm]
      go_roundw
      case rel =>
        refine ⟨t + 1, by omega, by go_num, N0.out.other _ _ (by simp), ?_, NB.out.setCell (by simp) _, ?_⟩
        · rw [← fil_set Hl t (by rw [Hl_len]; exact h), HV.out]
          exact N1.out.stored t _
        · intro k hk
          rw [← NC.out k hk]
          exact World.cell?_setCell_far _ _ _ _ (fun e => HG.out e.symm)
      case measure => simp [intOf]; omega
    · obtain rfl : t = 8 := by omega
      have hf : fil Hl 8 = Hl := fil_all _ _ Hl_len
      rw [hf] at h1
      have H0 := Lib.hid h0; have H1 := Lib.hid h1; have HBl := Lib.hid hb
      clear h0 h1 hb hf hc
      go_wp2_with (first
        | (refine wpList_load_32 rfl 37 (.tmp 1) rfl rfl (L := Hl) H1.out Try.underlying37 rfl (n := 8) (by kernel_rfl) Hl_len ?_)
        | (refine wpList_store_32 rfl 37 (.tmp 0) _ rfl rfl (L := Hl) rfl H0.out (n := 8) (by kernel_rfl) Hl_len rfl ?_))
      refine bodyPost_ret (v := .agg (cells32 Hl)) ?_ rfl ⟨rfl, below_setRow HBl.out (by omega) _⟩
      exact results_cell_row rfl _ _ w.heap.size _ _ _ _ rfl (H0.out.setRow Hl) Try.underlying37 rfl (by rw [cells32_size, Hl_len]; kernel_rfl)

set_option maxRecDepth 100000 in
set_option maxHeartbeats 1000000 in
theorem rounds_any (w : World) :
    Calls Try.prog 21 #[] w fun e w' => e = .returned (.agg (cells32 Kc)) ∧ Below w.heap.size w w' := by
  go_enter Try.func21, Try.ntmps21
  go_wp2_with fail
  have hB : Below w.heap.size w ((w.alloc (.cells (cells32 (List.replicate 64 0#32)) 39)).alloc (.cells (cells32 (List.replicate 64 0#32)) 39)) :=
    ((Below.refl _ _).alloc (Nat.le_refl _) _).alloc (by simp) _
  refine (primes_any 64 _ (by omega) (by omega)).mono ?_
  rintro e w1 ⟨a, c, p, rfl, ho, hb, hl⟩
  have hpl : pl p = pl 312 := pl_eq (by rw [hl]; decide +kernel)
  rw [show cnt 64 = 64 from rfl, hpl] at ho
  rw [show cnt 64 = 64 from rfl]
  have r0 : Row w1 w.heap.size 39 (List.replicate 64 0#32) := Row.below ((Row.made w 39 (List.replicate 64 0#32)).alloc _) hb
  have r1 : Row w1 (w.heap.size + 1) 39 (List.replicate 64 0#32) := Row.below (Row.made2 w _ 39 (List.replicate 64 0#32)) hb
  have hB1 : Below w.heap.size w w1 := hB.trans (hb.mono (by simp; omega))
  have hi := ho.reads
  obtain ⟨b, off, rfl, hc⟩ := hi.at'.resolve_left (by omega)
  have HC := Lib.hid hc
  have hm := hi.most
  have hk := hi.cap
  have HL := Lib.hid (show (pl 312).length = 64 from pl_312)
  have hbz := World.block_lt_of_cell? w1 _ (hc 0 (by omega))
  have HZ := Lib.hid hbz
  have R0 := Lib.hid r0; have R1 := Lib.hid r1; have HB := Lib.hid hB1
  clear hi hc r0 r1 hB1 hB hb hl hpl ho hbz
  go_wp2_with fail
  go_loopw [6] (fun i wr => ∃ t : Nat, t ≤ 64 ∧ i = .int .i64 t ∧ Row wr w.heap.size 39 (List.replicate 64 0#32) ∧ Row wr (w.heap.size + 1) 39 (fil Kc t) ∧ Below w.heap.size w wr ∧ (∀ k, k < 64 → wr.cell? ⟨b, off + k, none⟩ = some (.int .i64 ((pl 312).getD k 0)))) (fun i _ => 64 - (intOf i).toNat)
  case atStart => exact ⟨0, by omega, rfl, R0.out, R1.out, HB.out, HC.out⟩
  case round =>
    clear R0 R1 HB HC HZ
    obtain ⟨t, ht, rfl, h0, h1, hb, hc⟩ := hrel
    by_cases h : t < 64
    · have ct := hc t h
      have hbd := pl_bd 312 ((pl 312).getD t 0) (by rw [List.getD_eq_getElem?_getD, List.getElem?_eq_getElem (by rw [HL.out]; exact h)]; exact List.getElem_mem _)
      have hv : Kc.getD t 0 = BitVec.ofNat 32 (cu ((pl 312).getD t 0)) := by
        unfold Kc
        rw [List.getD_eq_getElem?_getD, List.getElem?_map, List.getD_eq_getElem?_getD, List.getElem?_eq_getElem (by rw [HL.out]; exact h)]
        rfl
      generalize (pl 312).getD t 0 = q at ct hbd hv
      have HV := Lib.hid hv
      have H0 := Lib.hid h0; have H1 := Lib.hid h1; have HBl := Lib.hid hb; have HC := Lib.hid hc
      have hbz := World.block_lt_of_cell? wr _ ct
      have HZ := Lib.hid hbz
      clear hv h0 h1 hb hc hbz
      go_wp2_with fail
      refine (cube_any q _ (by omega) (by omega)).mono ?_
      rintro e w2 ⟨rfl, hb2⟩
      have n1 := H1.out.below hb2
      have cc := n1.cellAt t (by rw [fil_len _ _ (by rw [Kc_len]; exact ht), Kc_len]; exact h)
      have cf := n1.frozenAt t
      have N0 := Lib.hid (H0.out.below hb2); have N1 := Lib.hid n1; have NB := Lib.hid (HBl.out.trans (hb2.mono HBl.out.size))
      have NC := Lib.hid (fun k hk => (hb2.cell (p := ⟨b, off + k, none⟩) HZ.out).trans (HC.out k hk))
      have hg : b ≠ w.heap.size + 1 := by
        rintro rfl
        have := H1.out
        unfold Row at this
        have h2 := HC.out 0 (by omega)
        rw [cell_of_row _ _ _ _ _ _ this] at h2
        exact cells32_kind _ _ _ h2
      have HG := Lib.hid hg
      clear n1 hb2 hg
      go_wp2
      rw [ofNatm]
      go_roundw
      case rel =>
        refine ⟨t + 1, by omega, by go_num, N0.out.other _ _ (by simp), ?_, NB.out.setCell (by simp) _, ?_⟩
        · rw [← fil_set Kc t (by rw [Kc_len]; exact h), HV.out]
          exact N1.out.stored t _
        · intro k hk
          rw [← NC.out k hk]
          exact World.cell?_setCell_far _ _ _ _ (fun e => HG.out e.symm)
      case measure => simp [intOf]; omega
    · obtain rfl : t = 64 := by omega
      have hf : fil Kc 64 = Kc := fil_all _ _ Kc_len
      rw [hf] at h1
      have H0 := Lib.hid h0; have H1 := Lib.hid h1; have HBl := Lib.hid hb
      clear h0 h1 hb hf hc
      go_wp2_with (first
        | (refine wpList_load_32 rfl 39 (.tmp 1) rfl rfl (L := Kc) H1.out Try.underlying39 rfl (n := 64) (by kernel_rfl) Kc_len ?_)
        | (refine wpList_store_32 rfl 39 (.tmp 0) _ rfl rfl (L := Kc) rfl H0.out (n := 64) (by kernel_rfl) Kc_len rfl ?_))
      refine bodyPost_ret (v := .agg (cells32 Kc)) ?_ rfl ⟨rfl, below_setRow HBl.out (by omega) _⟩
      exact results_cell_row rfl _ _ w.heap.size _ _ _ _ rfl (H0.out.setRow Kc) Try.underlying39 rfl (by rw [cells32_size, Kc_len]; kernel_rfl)

end Go.Proofs.Ytlpiacofnciodaa.sh
