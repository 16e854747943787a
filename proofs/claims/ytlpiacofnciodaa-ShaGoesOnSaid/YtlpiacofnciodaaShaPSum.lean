/-
  Layer 3: the contract of the program's 'Sum'.
-/
import Derived.Test.YtlpiacofnciodaaShaCut
namespace Go.Proofs.Ytlpiacofnciodaa.sh
open Go.ChangeShapes Go.WideShapes Go.ChangeAt Go.RowKit
open bs
set_option linter.unusedVariables false
open Go.Proofs.Ytlpiacofnciodaa.ss (be be_len be_bytes tail zer zer_le zer_cast tail_any append_any APost byteT)

def KRel (w : World) (g : Nat) (s : St) (wr : World) : Prop := Row wr g 37 s.list ∧ Row wr (g + 1) 39 Kc ∧ Below w.heap.size w wr

set_option maxRecDepth 100000 in
set_option maxHeartbeats 2000000 in
theorem psum_any (a : Option Addr) (n c : Nat) (l : List Int) (w : World) (h : Bytes w a n c l) (hn : n ≤ 1000000) :
    Calls Try.prog 8 #[.slice a n c] w (APost w w.heap.size 32 (shaSum l)) := by
  have hlen := h.len
  subst hlen
  have hcap := h.cap
  have hmost := h.most
  have HH := Lib.hid h
  clear h
  go_enter Try.func8, Try.ntmps8
  go_wp2_with fail
  refine (first_any _).mono ?_
  rintro e w1 ⟨rfl, hb1⟩
  go_wp2_with fail
  refine (rounds_any _).mono ?_
  rintro e w2 ⟨rfl, hb2⟩
  have HB := Lib.hid (hb1.trans (hb2.mono hb1.size))
  have s2 := HB.out.size
  clear hb1 hb2
  obtain ⟨K0, hK0⟩ : ∃ K0, l.length / 64 = K0 := ⟨_, rfl⟩
  have HW := Lib.hid (show (((l.length : Nat) : Int) - (l.length : Int) % 64) = 64 * (K0 : Int) by omega)
  have hK1 : 64 * K0 ≤ l.length := by omega
  have HK := Lib.hid hK0
  clear hK0
  go_wp2_with (first
    | (refine wpList_store_32 (g := w2.heap.size) (t := 37) rfl 37 (.tmp 3) _ rfl rfl (L := Hl) (L0 := List.replicate 8 0#32) rfl ?hr1 (n := 8) (by kernel_rfl) Hl_len rfl ?_)
    | (refine wpList_store_32 (g := w2.heap.size + 1) (t := 39) rfl 39 (.tmp 4) _ rfl rfl (L := Kc) (L0 := List.replicate 64 0#32) rfl ?hr2 (n := 64) (by kernel_rfl) Kc_len rfl ?_))
  case hr1 => exact (Row.made w2 _ (List.replicate 8 0#32)).alloc _
  case hr2 => exact (Row.made2 w2 _ _ (List.replicate 64 0#32)).setRow_other _ _ (by omega)
  rw [HW.out]
  go_loopw [6] (fun i wr => ∃ k : Nat, k ≤ K0 ∧ i = .int .i64 (64 * (k : Int)) ∧ KRel w w2.heap.size (blks (allB l) k) wr) (fun i _ => (64 * (K0 : Int) - intOf i).toNat)
  case atStart =>
    refine ⟨0, by omega, rfl, ?_, ?_, ?_⟩
    · have := (((Row.made w2 37 (List.replicate 8 0#32)).alloc (.cells (cells32 (List.replicate 64 0#32)) 39)).setRow Hl).setRow_other (w2.heap.size + 1) (cells32 Kc) (by omega)
      rw [← H0_list] at this ⊢
      exact this
    · exact ((Row.made2 w2 _ 39 (List.replicate 64 0#32)).setRow_other _ _ (by omega)).setRow Kc
    · exact below_setRow (below_setRow ((HB.out.alloc s2 _).alloc (by simp; omega) _) s2 _) (by omega) _
  case round =>
    obtain ⟨k, hk, rfl, hs, hc, hb⟩ := hrel
    have hsz := hb.size
    have HS := Lib.hid hs; have HC := Lib.hid hc; have HBl := Lib.hid hb
    clear hs hc hb
    by_cases hk0 : k < K0
    · obtain ⟨b, off, rfl, _⟩ := HH.out.at'.resolve_left (by omega)
      have hby := sub_bytes HH.out (64 * k) 64 (by omega)
      have hby2 := (hby.below HBl.out).drewN 1
      have HBY := Lib.hid hby2
      have hst : blks (allB l) (k + 1) = blk Kc (blks (allB l) k) ((l.drop (64 * k)).take 64) := by
        rw [blks, allB, drop_take_append l _ _ (by omega)]
      have HST := Lib.hid hst
      clear hby hby2 hst
      generalize (l.drop (64 * k)).take 64 = bl at HBY HST
      generalize blks (allB l) k = st at HS HST
      have x0 : ((64 : Int) * k).toNat = 64 * k := by omega
      have x1 : ((64 : Int) * k + 64).toNat = 64 * k + 64 := by omega
      have x2 : (0 : Int) ≤ 64 * (k : Int) := by omega
      have x3 : (64 * (k : Int)) + 64 ≤ c := by omega
      have x5 : (0 : Int) ≤ 64 * (k : Int) + 64 := by omega
      have x6 : 64 * (k : Int) ≤ 64 * (k : Int) + 64 := by omega
      have x7 : ¬ c = 64 * k := by omega
      have x4 : IntKind.i64.wrap (64 * (k : Int) + 64) = 64 * (k : Int) + 64 := IntWalk.i64_in _ (by omega)
      go_wp2_with fail
      refine wp_region_still_tail 7 (by kernel_rfl) (by kernel_rfl) ?_
      simp only [List.take_succ_cons, List.take_zero, List.drop_succ_cons, List.drop_zero]
      refine wpStill_load_32 rfl 37 (.tmp 3) rfl rfl (HS.out.drewN 1) Try.underlying37 rfl (n := 8) (by kernel_rfl) rfl ?_
      still_step
      still_step
      still_step
      still_step
      still_step
      refine wpStill_load_32 rfl 39 (.tmp 4) rfl rfl (HC.out.drewN 1) Try.underlying39 rfl (n := 64) (by kernel_rfl) Kc_len ?_
      refine wpStill_nil ?_
      change wpList _ _ _ _ _ (wr.drewN 1)
      go_wp2_with fail
      refine (behind_any st Kc Kc_len _ _ bl _ HBY.out).mono ?_
      rintro e w3 ⟨rfl, hb3⟩
      have N0 := Lib.hid ((HS.out.drewN 1).below hb3); have N1 := Lib.hid ((HC.out.drewN 1).below hb3); have NB := Lib.hid ((below_drewN HBl.out 1).trans (hb3.mono HBl.out.size))
      clear hb3 x0 x1 x2 x3 x4 x5 x6 x7
      go_wp2_with (refine wpList_store_32 (g := w2.heap.size) (t := 37) rfl 37 (.tmp 3) _ rfl rfl (L := (blk Kc st bl).list) (L0 := st.list) rfl ?hr3 (n := 8) (by kernel_rfl) rfl rfl ?_)
      case hr3 => exact N0.out
      go_roundw
      case rel =>
        refine ⟨k + 1, by omega, by go_num, ?_, N1.out.setRow_other _ _ (by omega), below_setRow NB.out s2 _⟩
        rw [HST.out]
        exact N0.out.setRow _
      case measure => simp [intOf]; omega
    · obtain rfl : k = K0 := by omega
      have hsl := fun W => slice_tail a l.length c (64 * k) (64 * (k : Int)) (by omega) hK1 hcap hmost HH.out.nil W
      have HT := Lib.hid ((tail_bytes HH.out (64 * k) hK1).below HBl.out)
      obtain ⟨wA, rfl⟩ : ∃ wA : World, wA = wr := ⟨_, rfl⟩
      go_wp2_with (at_builtin; refine wpList_append_b byteT rfl _ _ rfl wA.heap.size rfl (l := []) ?o1 rfl (l' := l.drop (64 * k)) ?b1 ?_ ?_ ?_)
      case o1 => exact OwnB.made wA _ _ [] _ rfl (Nat.le_refl _) (by simp [maxLen]) (by simp [AllB])
      case b1 => exact Bytes.below HT.out ((Below.refl _ _).alloc (Nat.le_refl _) _)
      · omega
      · simp
      intro a3 c3 w3 ho3 hb3 _
      clear hsl
      have HO3 := Lib.hid ho3
      have HB3 := Lib.hid (((Below.refl wA.heap.size wA).alloc (Nat.le_refl _) _).trans hb3)
      clear ho3 hb3
      have s3 := HB3.out.size
      go_wp2_with fail
      refine (tail_any (l.length : Int) _ (by omega) (by omega)).mono ?_
      rintro e w4 ⟨a4, c4, rfl, ho4, hb4⟩
      have HO4 := Lib.hid ho4.bytes
      have HO34 := Lib.hid (HO3.out.below hb4)
      have HB4 := Lib.hid (HB3.out.trans (hb4.mono s3))
      have s4 := HB4.out.size
      have hz := zer_le (l.length : Int)
      have HM := Lib.hid (nblk_eq l.length)
      clear ho4 hb4
      go_wp2_with (at_builtin; refine wpList_append_b byteT rfl _ _ rfl wA.heap.size rfl (l := [] ++ l.drop (64 * k)) ?o2 rfl (l' := tail l.length) ?b2 ?_ ?_ ?_)
      case o2 => exact HO34.out
      case b2 => exact HO4.out
      · omega
      · exact s4
      intro a5 c5 w5 ho5 hb5 hn5
      have HB5 := Lib.hid (HB4.out.trans hb5)
      have hgx := ho5.cases
      obtain ⟨g5, rfl, hg1, hg2, hg3, hg4⟩ := hgx.resolve_left (fun h => by omega)
      obtain ⟨R, hR⟩ : ∃ R, l.drop (64 * k) ++ tail l.length = R := ⟨_, rfl⟩
      rw [hR] at ho5
      obtain ⟨M, hM⟩ : ∃ M, nblk l.length = k + M := ⟨nblk l.length - k, by have := HM.out; omega⟩
      have hlen : l.length - 64 * k + (9 + zer l.length) = 64 * M := by have := HM.out; omega
      rw [hlen] at ho5 ⊢
      have hall : ∀ j, j < M → ((R.drop (64 * j)).take 64) = ((allB l).drop (64 * (k + j))).take 64 := by
        intro j hj
        have e1 : (allB l).drop (64 * (k + j)) = ((allB l).drop (64 * k)).drop (64 * j) := by rw [List.drop_drop]; congr 1; omega
        have e2 : (allB l).drop (64 * k) = R := by unfold allB; rw [List.drop_append_of_le_length hK1]; exact hR
        rw [e1, e2]
      have HA := Lib.hid hall
      have hc5 : 64 * M ≤ c5 := by omega
      have HMM := Lib.hid hM
      have HO5 := Lib.hid ho5
      have HSA := Lib.hid (HS.out.below HB5.out); have HCA := Lib.hid (HC.out.below HB5.out)
      have HBA := Lib.hid (HBl.out.trans (HB5.out.mono hsz))
      have sA := HC.out.lt
      simp only [maxLen] at hg4
      clear ho5 hb5 hn5 hR hM hall hlen hgx HO3 HO34 HO4 HB3 HB4 HS HC HBl
      go_wp2_with fail
      go_loopw [8] (fun i wr => ∃ j : Nat, j ≤ M ∧ i = .int .i64 (64 * (j : Int)) ∧ KRel w w2.heap.size (blks (allB l) (k + j)) wr ∧ OwnB wr wA.heap.size 5 (some ⟨g5, 0, none⟩) (64 * M) c5 R) (fun i _ => (64 * (M : Int) - intOf i).toNat)
      case atStart => exact ⟨0, by omega, rfl, ⟨HSA.out, HCA.out, HBA.out⟩, HO5.out⟩
      case round =>
        clear HSA HCA HBA HO5 HB5 HT
        obtain ⟨j, hj, rfl, ⟨hs, hc, hb⟩, ho⟩ := hrel
        have HS := Lib.hid hs; have HC := Lib.hid hc; have HBl := Lib.hid hb; have HO := Lib.hid ho
        have hsz := hb.size
        by_cases hjM : j < M
        · have hst : blks (allB l) (k + (j + 1)) = blk Kc (blks (allB l) (k + j)) ((R.drop (64 * j)).take 64) := by
            rw [← Nat.add_assoc, blks, HA.out j hjM]
          have hby := (sub_bytes ho.bytes (64 * j) 64 (by omega)).drewN 1
          rw [Nat.zero_add] at hby
          have HST := Lib.hid hst; have HBY := Lib.hid hby
          clear hst hby hs hc hb ho
          generalize (R.drop (64 * j)).take 64 = bl at HBY HST
          generalize blks (allB l) (k + j) = st at HS HST
          have x0 : ((64 : Int) * j).toNat = 64 * j := by omega
          have x1 : ((64 : Int) * j + 64).toNat = 64 * j + 64 := by omega
          have x2 : (0 : Int) ≤ 64 * (j : Int) := by omega
          have x3 : (64 * (j : Int)) + 64 ≤ c5 := by omega
          have x5 : (0 : Int) ≤ 64 * (j : Int) + 64 := by omega
          have x6 : 64 * (j : Int) ≤ 64 * (j : Int) + 64 := by omega
          have x7 : ¬ c5 = 64 * j := by omega
          have x4 : IntKind.i64.wrap (64 * (j : Int) + 64) = 64 * (j : Int) + 64 := IntWalk.i64_in _ (by omega)
          go_wp2_with fail
          refine wp_region_still_tail 7 (by kernel_rfl) (by kernel_rfl) ?_
          simp only [List.take_succ_cons, List.take_zero, List.drop_succ_cons, List.drop_zero]
          refine wpStill_load_32 rfl 37 (.tmp 3) rfl rfl (HS.out.drewN 1) Try.underlying37 rfl (n := 8) (by kernel_rfl) rfl ?_
          still_step
          still_step
          still_step
          still_step
          still_step
          refine wpStill_load_32 rfl 39 (.tmp 4) rfl rfl (HC.out.drewN 1) Try.underlying39 rfl (n := 64) (by kernel_rfl) Kc_len ?_
          refine wpStill_nil ?_
          change wpList _ _ _ _ _ (wr.drewN 1)
          go_wp2_with fail
          refine (behind_any st Kc Kc_len _ _ bl _ HBY.out).mono ?_
          rintro e w3 ⟨rfl, hb3⟩
          have N0 := Lib.hid ((HS.out.drewN 1).below hb3); have N1 := Lib.hid ((HC.out.drewN 1).below hb3); have NB := Lib.hid ((below_drewN HBl.out 1).trans (hb3.mono HBl.out.size))
          have NO := Lib.hid ((HO.out.drewN 1).below hb3)
          clear hb3 x0 x1 x2 x3 x4 x5 x6 x7
          go_wp2_with (refine wpList_store_32 (g := w2.heap.size) (t := 37) rfl 37 (.tmp 3) _ rfl rfl (L := (blk Kc st bl).list) (L0 := st.list) rfl ?hr3 (n := 8) (by kernel_rfl) rfl rfl ?_)
          case hr3 => exact N0.out
          go_roundw
          case rel =>
            refine ⟨j + 1, by omega, by go_num, ⟨?_, N1.out.setRow_other _ _ (by omega), below_setRow NB.out s2 _⟩, ?_⟩
            · rw [HST.out]
              exact N0.out.setRow _
            · exact NO.out.keep (setRow_other _ _ _ _ (by omega))
          case measure => simp [intOf]; omega
        · obtain rfl : j = M := by omega
          have hfin : outB (blks (allB l) (k + j)) = shaSum l := by unfold shaSum; rw [HMM.out]
          have HF := Lib.hid hfin
          clear hfin hs hc hb ho
          generalize blks (allB l) (k + j) = st at HS HF
          go_wp2_with (refine wpList_load_32 (g := w2.heap.size) (t := 37) rfl 37 (.tmp 3) rfl rfl (L := st.list) ?hr4 Try.underlying37 rfl (n := 8) (by kernel_rfl) rfl ?_)
          case hr4 => exact HS.out
          have hsize := HBl.out.size
          go_loopw [9, 57] (fun out i wr => ∃ (t c : Nat) (a : Option Addr), t ≤ 8 ∧ i = .int .i64 t ∧ out = .slice a (4 * t) c ∧ OwnB wr w.heap.size 5 a (4 * t) c (outN st.list t) ∧ Below w.heap.size w wr) (fun _ i _ => 8 - (intOf i).toNat)
          case atStart => exact ⟨0, 0, none, by omega, rfl, rfl, OwnB.nil _ _ _, HBl.out⟩
          case round =>
            clear HS HC HBl HO
            obtain ⟨t, c6, a6, ht, rfl, rfl, ho, hb⟩ := hrel
            by_cases h8 : t < 8
            · have hidx : ∀ W : World, (Instr.index 37 (.agg (cells32 st.list)) (.int .i64 t)).run Try.prog W = .ok (.int .u32 (I (st.list.getD t 0))) W := fun W => by
                have h1 := cells32_at st.list t h8
                have h2 := cells32_size st.list
                simp [Instr.index, asIntOf, Try.underlying37, go_sem, h1, h2]
                intro h9
                omega
              have hnx := outN_next st.list t h8
              have l0 := I_lo (st.list.getD t 0)
              have l1 := I_hi (st.list.getD t 0)
              generalize st.list.getD t 0 = x at hidx hnx l0 l1
              have HN := Lib.hid hnx; have HO := Lib.hid ho; have HBl := Lib.hid hb
              clear hnx ho hb
              go_wp2_with fail
              refine (append_any w.heap.size _ _ _ (outN st.list t) (I x) 4 _ HO.out HBl.out.size (by omega) l0 (by omega) (by omega)).mono ?_
              rintro e w7 ⟨a7, c7, rfl, ho7, hb7⟩
              rw [HN.out] at ho7
              have HO7 := Lib.hid ho7; have HB7 := Lib.hid (HBl.out.trans hb7)
              clear ho7 hb7 hidx
              go_wp2
              go_roundw
              case rel => exact ⟨t + 1, c7, a7, by omega, by go_num, rfl, HO7.out, HB7.out⟩
              case measure => simp [intOf]; omega
            · obtain rfl : t = 8 := by omega
              rw [outN_all, HF.out] at ho
              have HO := Lib.hid ho; have HBl := Lib.hid hb
              clear ho hb
              go_wp2
              go_ret
              exact ⟨a6, c6, rfl, HO.out, HBl.out⟩

end Go.Proofs.Ytlpiacofnciodaa.sh
