/-
  Layer 3: the contract of 'behind'.
-/
import Derived.Test.YtlpiacofnciodaaShaSpread
import Derived.StillTailTactics
namespace Go.Proofs.Ytlpiacofnciodaa.sh
open Go.ChangeShapes Go.WideShapes Go.ChangeAt Go.RowKit
open bs
set_option linter.unusedVariables false

/-- The state behind the rounds, while its numbers are added one by one. -/
def part (s z : St) (i : Nat) : List (BitVec 32) := (s.add z).list.take i ++ z.list.drop i
theorem part_len (s z : St) (i : Nat) : (part s z i).length = 8 := by
  unfold part
  simp [St.list]
  omega
theorem part_next (s z : St) (i : Nat) (h : i < 8) : (part s z i).set i ((part s z i).getD i 0 + s.list.getD i 0) = part s z (i + 1) := by
  have : i = 0 ∨ i = 1 ∨ i = 2 ∨ i = 3 ∨ i = 4 ∨ i = 5 ∨ i = 6 ∨ i = 7 := by omega
  rcases this with rfl | rfl | rfl | rfl | rfl | rfl | rfl | rfl <;> rfl

def BRel (w : World) (s : St) (K : List (BitVec 32)) (l : List Int) (g : Nat) (L : List (BitVec 32)) (wr : World) : Prop :=
  Row wr w.heap.size 37 s.list ∧ Row wr (w.heap.size + 1) 39 K ∧ Row wr (w.heap.size + 2) 37 (List.replicate 8 0#32) ∧
  Row wr g 39 (ws l 64) ∧ Row wr (g + 1) 37 L ∧ Below w.heap.size w wr

set_option maxRecDepth 100000 in
set_option maxHeartbeats 1000000 in
theorem behind_any (s : St) (K : List (BitVec 32)) (hK : K.length = 64) (a : Option Addr) (c : Nat) (l : List Int) (w : World) (h : Bytes w a 64 c l) :
    Calls Try.prog 22 #[vSt s, .slice a 64 c, .agg (cells32 K)] w fun e w' => e = .returned (vSt (blk K s l)) ∧ Below w.heap.size w w' := by
  have HH := Lib.hid h
  have HK := Lib.hid hK
  clear h hK
  rw [show vSt s = .agg (cells32 s.list) from rfl]
  go_enter Try.func22, Try.ntmps22
  go_wp2_with fail
  have hB : Below w.heap.size w (((w.alloc (.cells (cells32 s.list) 37)).alloc (.cells (cells32 K) 39)).alloc (.cells (cells32 (List.replicate 8 0#32)) 37)) :=
    (((Below.refl _ _).alloc (Nat.le_refl _) _).alloc (by simp) _).alloc (by simp; omega) _
  refine (spread_any a c l _ (HH.out.below hB)).mono ?_
  rintro e w1 ⟨rfl, hb⟩
  have r0 : Row w1 w.heap.size 37 s.list := Row.below (((Row.made w 37 s.list).alloc _).alloc _) hb
  have r1 : Row w1 (w.heap.size + 1) 39 K := Row.below ((Row.made2 w _ 39 K).alloc _) hb
  have r2 : Row w1 (w.heap.size + 2) 37 (List.replicate 8 0#32) := Row.below (by have := Row.made ((w.alloc (.cells (cells32 s.list) 37)).alloc (.cells (cells32 K) 39)) 37 (List.replicate 8 0#32); simpa using this) hb
  have hB1 : Below w.heap.size w w1 := hB.trans (hb.mono (by simp; omega))
  have s1 := r2.lt
  have R0 := Lib.hid r0; have R1 := Lib.hid r1; have R2 := Lib.hid r2; have B1 := Lib.hid hB1
  clear r0 r1 r2 hB1 hB hb
  go_wp2_with (first
    | (refine wpList_store_32 rfl 39 (.tmp 7) _ rfl rfl (L := ws l 64) rfl (Row.made _ _ (List.replicate 64 0#32)) (n := 64) (by kernel_rfl) (ws_len l 64) rfl ?_)
    | (refine wpList_load_32 rfl 37 (.tmp 3) rfl rfl (L := s.list) ((R0.out.alloc _).setRow_other _ _ ?_) Try.underlying37 rfl (n := 8) (by kernel_rfl) rfl ?_)
    | (refine wpList_store_32 rfl 37 (.tmp 8) (.tmp 13) rfl rfl (L := s.list) rfl (Row.made_at _ _ (List.replicate 8 0#32) ?_) (n := 8) (by kernel_rfl) rfl rfl ?_))
  case refine_1 => omega
  case refine_1 => simp [size_setRow]
  go_loopw [14] (fun i wr => ∃ t : Nat, t ≤ 64 ∧ i = .int .i64 t ∧ BRel w s K l w1.heap.size (rs s K (ws l 64) t).list wr) (fun i _ => 64 - (intOf i).toNat)
  case atStart =>
    refine ⟨0, by omega, rfl, ?_, ?_, ?_, ?_, ?_, ?_⟩
    · exact (((R0.out.alloc _).setRow_other _ _ (by omega)).alloc _).setRow_other _ _ (by omega)
    · exact (((R1.out.alloc _).setRow_other _ _ (by omega)).alloc _).setRow_other _ _ (by omega)
    · exact (((R2.out.alloc _).setRow_other _ _ (by omega)).alloc _).setRow_other _ _ (by omega)
    · exact (((Row.made w1 _ (List.replicate 64 0#32)).setRow (ws l 64)).alloc _).setRow_other _ _ (by omega)
    · exact (Row.made_at _ _ (List.replicate 8 0#32) (by simp [size_setRow])).setRow s.list
    · exact below_setRow ((below_setRow (B1.out.alloc (by omega) _) (by omega) _).alloc (by simp [size_setRow]; omega) _) (by omega) _
  case round =>
    clear R0 R1 R2 B1
    obtain ⟨t, ht, rfl, h0, h1, h2, h7, h8, hb⟩ := hrel
    by_cases h64 : t < 64
    · have cK := h1.cellAt t (by rw [HK.out]; exact h64)
      have cW := h7.cellAt t (by rw [ws_len]; exact h64)
      have hst : (rs s K (ws l 64) (t + 1)) = rnd (rs s K (ws l 64) t) (K.getD t 0 + (ws l 64).getD t 0) := rfl
      generalize rs s K (ws l 64) t = z at h8 hst
      generalize K.getD t 0 = kt at cK hst
      generalize (ws l 64).getD t 0 = wt at cW hst
      have HST := Lib.hid hst
      have e0 := h8.cellAt 0 (by simp [St.list])
      have e1 := h8.cellAt 1 (by simp [St.list])
      have e2 := h8.cellAt 2 (by simp [St.list])
      have e3 := h8.cellAt 3 (by simp [St.list])
      have e4 := h8.cellAt 4 (by simp [St.list])
      have e5 := h8.cellAt 5 (by simp [St.list])
      have e6 := h8.cellAt 6 (by simp [St.list])
      have e7 := h8.cellAt 7 (by simp [St.list])
      have H0 := Lib.hid h0; have H1 := Lib.hid h1; have H2 := Lib.hid h2; have H7 := Lib.hid h7; have H8 := Lib.hid h8; have HBl := Lib.hid hb
      clear h0 h1 h2 h7 h8 hb hst
      simp only [St.list] at e0 e1 e2 e3 e4 e5 e6 e7
      go_wp2_with fail
      go_still_tail 8, (by kernel_rfl)
      change wpList _ _ _ _ _ (wr.drewN 1)
      go_wp2_with fail
      rw [I_addm]
      refine (turn_any z (kt + wt) _).mono ?_
      rintro e w2 ⟨rfl, hb2⟩
      have n8 := (H8.out.drewN 1).below hb2
      have N8 := Lib.hid n8
      have N0 := Lib.hid ((H0.out.drewN 1).below hb2); have N1 := Lib.hid ((H1.out.drewN 1).below hb2); have N2 := Lib.hid ((H2.out.drewN 1).below hb2); have N7 := Lib.hid ((H7.out.drewN 1).below hb2)
      have NB := Lib.hid ((below_drewN HBl.out 1).trans (hb2.mono HBl.out.size))
      clear n8 hb2 e0 e1 e2 e3 e4 e5 e6 e7 cK cW
      go_wp2_with (refine wpList_store_32 rfl 37 (.tmp 8) _ rfl rfl (L := (rnd z (kt + wt)).list) rfl N8.out (n := 8) (by kernel_rfl) rfl rfl ?_)
      go_roundw
      case rel =>
        refine ⟨t + 1, by omega, by go_num, ?_, ?_, ?_, ?_, ?_, ?_⟩
        · exact N0.out.setRow_other _ _ (by omega)
        · exact N1.out.setRow_other _ _ (by omega)
        · exact N2.out.setRow_other _ _ (by omega)
        · exact N7.out.setRow_other _ _ (by omega)
        · rw [HST.out]; exact N8.out.setRow _
        · exact below_setRow NB.out (by omega) _
      case measure => simp [intOf]; omega
    · obtain rfl : t = 64 := by omega
      obtain ⟨z, hz⟩ : ∃ z, rs s K (ws l 64) 64 = z := ⟨_, rfl⟩
      rw [hz] at h8
      have HZ := Lib.hid (show s.add z = blk K s l by rw [← hz]; rfl)
      have H0 := Lib.hid h0; have H1 := Lib.hid h1; have H2 := Lib.hid h2; have H7 := Lib.hid h7; have H8 := Lib.hid h8; have HBl := Lib.hid hb
      clear h0 h1 h2 h7 h8 hb hz
      go_wp2_with fail
      rw [show ((64 : Nat) : Int) = 64 from rfl]
      go_loopw [27] (fun i wr => ∃ t : Nat, t ≤ 8 ∧ i = .int .i64 t ∧ BRel w s K l w1.heap.size (part s z t) wr) (fun i _ => 8 - (intOf i).toNat)
      case atStart => exact ⟨0, by omega, rfl, H0.out, H1.out, H2.out, H7.out, H8.out, HBl.out⟩
      case round =>
        clear H0 H1 H2 H7 H8 HBl
        obtain ⟨t, ht, rfl, h0, h1, h2, h7, h8, hb⟩ := hrel
        by_cases h64 : t < 8
        · have c0 := h0.cellAt t h64
          have c8 := h8.cellAt t (by rw [part_len]; exact h64)
          have f8 := h8.frozenAt t
          have hst := h8.stored t ((part s z t).getD t 0 + s.list.getD t 0)
          rw [part_next s z t h64] at hst
          generalize (part s z t).getD t 0 = x at c8 hst
          generalize s.list.getD t 0 = y at c0 hst
          have H0 := Lib.hid h0; have H1 := Lib.hid h1; have H2 := Lib.hid h2; have H7 := Lib.hid h7; have HS := Lib.hid hst; have HBl := Lib.hid hb
          clear h0 h1 h2 h7 h8 hst hb
          go_wp2_with fail
          go_region
          rw [I_addm]
          go_wp2
          go_roundw
          case rel =>
            refine ⟨t + 1, by omega, by go_num, ?_, ?_, ?_, ?_, ?_, ?_⟩
            · exact H0.out.other _ _ (by simp; omega)
            · exact H1.out.other _ _ (by simp; omega)
            · exact H2.out.other _ _ (by simp; omega)
            · exact H7.out.other _ _ (by simp)
            · exact HS.out
            · exact (HBl.out.setCell (by simp; omega) _).drew
          case measure => simp [intOf]; omega
        · obtain rfl : t = 8 := by omega
          have H0 := Lib.hid h0; have H2 := Lib.hid h2; have H8 := Lib.hid h8; have HBl := Lib.hid hb
          clear h0 h1 h2 h7 h8 hb
          have hp : part s z 8 = (s.add z).list := rfl
          have HP := Lib.hid hp; clear hp
          go_wp2_with (first
            | (refine wpList_load_32 rfl 37 (.tmp 8) rfl rfl (L := part s z 8) H8.out Try.underlying37 rfl (n := 8) (by kernel_rfl) (part_len s z 8) ?_)
            | (refine wpList_store_32 rfl 37 (.tmp 6) _ rfl rfl (L := part s z 8) rfl H2.out (n := 8) (by kernel_rfl) (part_len s z 8) rfl ?_))
          rw [← HZ.out, show vSt (s.add z) = .agg (cells32 (part s z 8)) from rfl]
          refine bodyPost_ret (v := .agg (cells32 (part s z 8))) ?_ rfl ⟨rfl, below_setRow HBl.out (by omega) _⟩
          exact results_cell_row rfl _ _ (w.heap.size + 2) _ _ _ _ rfl (H2.out.setRow (part s z 8)) Try.underlying37 rfl (by rw [cells32_size, part_len]; kernel_rfl)

end Go.Proofs.Ytlpiacofnciodaa.sh
