/-
  Layer 3: the contract of the document's 'Sum'.
-/
import Derived.Test.YtlpiacofnciodaaShaCut
import Derived.Test.YtlpiacofnciodaaShaRBlock
import Derived.Deep.RegionHeldLaw
namespace Go.Proofs.Ytlpiacofnciodaa.sh
open Go.ChangeShapes Go.WideShapes Go.ChangeAt Go.RowKit
open bs
set_option linter.unusedVariables false
open Go.Proofs.Ytlpiacofnciodaa.ss (be be_len be_bytes tail zer zer_le zer_cast rtail_any append_any APost byteT)

theorem be4 (x : BitVec 32) : be (I x) 4 = [I x / 16777216 % 256, I x / 65536 % 256, I x / 256 % 256, I x % 256] := by
  simp [be]
theorem four_bytes (w : World) (e : TypeId) (p q r s : Int) (hp : 0 ≤ p ∧ p ≤ 255) (hq : 0 ≤ q ∧ q ≤ 255) (hr : 0 ≤ r ∧ r ≤ 255) (hs : 0 ≤ s ∧ s ≤ 255) :
    Bytes (w.alloc (.cells #[.int .u8 p, .int .u8 q, .int .u8 r, .int .u8 s] e)) (some ⟨w.heap.size, 0, none⟩) 4 4 [p, q, r, s] :=
  (OwnB.made w 0 e [p, q, r, s] _ rfl (Nat.zero_le _) (by simp [maxLen]) (by
    intro x hx
    simp only [List.mem_cons, List.not_mem_nil, or_false] at hx
    rcases hx with rfl | rfl | rfl | rfl <;> assumption)).bytes

set_option maxRecDepth 100000 in
set_option maxHeartbeats 2000000 in
theorem rsum_any (a : Option Addr) (n c : Nat) (l : List Int) (w : World) (h : Bytes w a n c l) (hn : n ≤ 1000000) :
    Calls Try.prog 10 #[.slice a n c] w (APost w w.heap.size 32 (shaSum l)) := by
  have hlen := h.len
  subst hlen
  have hcap := h.cap
  have hmost := h.most
  have HH := Lib.hid h
  clear h
  go_enter Try.func10, Try.ntmps10
  go_wp2_with (at_builtin; refine wpList_append_b byteT rfl _ _ rfl w.heap.size rfl (l := []) ?o1 rfl (l' := l) ?b1 ?_ ?_ ?_)
  case o1 => exact OwnB.made w _ _ [] _ rfl (Nat.le_refl _) (by simp [maxLen]) (by simp [AllB])
  case b1 => exact HH.out.below ((Below.refl _ _).alloc (Nat.le_refl _) _)
  · omega
  · simp
  intro a1 c1 w1 ho1 hb1 _
  have HO1 := Lib.hid ho1
  have HB1 := Lib.hid (((Below.refl w.heap.size w).alloc (Nat.le_refl _) _).trans hb1)
  have s1 := HB1.out.size
  clear ho1 hb1
  go_wp2_with fail
  refine (rtail_any (l.length : Int) _ (by omega) (by omega)).mono ?_
  rintro e w2 ⟨a2, c2, rfl, ho2, hb2⟩
  have HO2 := Lib.hid ho2.bytes
  have HO12 := Lib.hid (HO1.out.below hb2)
  have HB2 := Lib.hid (HB1.out.trans (hb2.mono s1))
  have s2 := HB2.out.size
  have hz := zer_le (l.length : Int)
  have HM := Lib.hid (nblk_eq l.length)
  clear ho2 hb2
  go_wp2_with (at_builtin; refine wpList_append_b byteT rfl _ _ rfl w.heap.size rfl (l := [] ++ l) ?o2 rfl (l' := tail l.length) ?b2 ?_ ?_ ?_)
  case o2 => exact HO12.out
  case b2 => exact HO2.out
  · omega
  · exact s2
  intro a3 c3 w3 ho3 hb3 _
  have HB3 := Lib.hid (HB2.out.trans hb3)
  have s3 := HB3.out.size
  rw [show l ++ tail (l.length : Int) = allB l from rfl] at ho3
  obtain ⟨M, hM⟩ : ∃ M, nblk l.length = M := ⟨_, rfl⟩
  have hl2 : l.length + (9 + zer l.length) = 64 * M := by have := HM.out; omega
  rw [hl2] at ho3 ⊢
  have hM2 : 1 ≤ M := by omega
  have hM3 : M ≤ 20000 := by omega
  obtain ⟨g, rfl, hg1, hg2, hg3, hg4⟩ := ho3.cases.resolve_left (fun h => by omega)
  have HO3 := Lib.hid ho3
  have HMM := Lib.hid hM
  simp only [maxLen] at hg4
  clear ho3 hb3 hM hl2 HO1 HO2 HO12 HB1 HB2
  go_wp2_with fail
  refine (rrounds_any _).mono ?_
  rintro e w4 ⟨a4, c4, rfl, ho4, hb4⟩
  have HK := Lib.hid ho4.reads
  have HO4 := Lib.hid (HO3.out.below hb4)
  have HB4 := Lib.hid (HB3.out.trans (hb4.mono s3))
  have s4 := HB4.out.size
  clear ho4 hb4 HO3 HB3
  go_wp2_with fail
  refine (rstart_any _).mono ?_
  rintro e w5 ⟨a5, c5, rfl, ho5, hb5⟩
  have HS5 := Lib.hid ho5.reads
  have HK5 := Lib.hid (HK.out.below hb5)
  have HO5 := Lib.hid (HO4.out.below hb5)
  have HB5 := Lib.hid (HB4.out.trans (hb5.mono s4))
  have s5 := HB5.out.size
  clear ho5 hb5 HO4 HB4 HK
  go_wp2_with fail
  go_loopw [5, 6] (fun s i wr => ∃ (k cs : Nat) (as' : Option Addr), k ≤ M ∧ i = .int .i64 (64 * (k : Int)) ∧ s = .slice as' 8 cs ∧ U32s wr as' 8 cs ((blks (allB l) k).list.map I) ∧ Below w5.heap.size w5 wr) (fun _ i _ => (64 * (M : Int) - intOf i).toNat)
  case atStart =>
    refine ⟨0, c5, a5, by omega, rfl, rfl, ?_, Below.refl _ _⟩
    have := HS5.out
    rw [← H0_list] at this
    exact this
  case round =>
    obtain ⟨k, cs, as', hk, rfl, rfl, hs, hb⟩ := hrel
    have HS := Lib.hid hs; have HBl := Lib.hid hb
    have hsz := hb.size
    clear hs hb
    by_cases hkM : k < M
    · have hby := (sub_bytes HO5.out.bytes (64 * k) 64 (by omega)).below HBl.out
      rw [Nat.zero_add] at hby
      have hst : blks (allB l) (k + 1) = blk Kc (blks (allB l) k) (((allB l).drop (64 * k)).take 64) := rfl
      have HST := Lib.hid hst; have HBY := Lib.hid hby
      have HK6 := Lib.hid (HK5.out.below HBl.out)
      clear hst hby
      generalize ((allB l).drop (64 * k)).take 64 = bl at HBY HST
      generalize blks (allB l) k = st at HS HST
      have x0 : ((64 : Int) * k).toNat = 64 * k := by omega
      have x1 : ((64 : Int) * k + 64).toNat = 64 * k + 64 := by omega
      have x2 : (0 : Int) ≤ 64 * (k : Int) := by omega
      have x3 : (64 * (k : Int)) + 64 ≤ c3 := by omega
      have x5 : (0 : Int) ≤ 64 * (k : Int) + 64 := by omega
      have x6 : 64 * (k : Int) ≤ 64 * (k : Int) + 64 := by omega
      have x7 : ¬ c3 = 64 * k := by omega
      have x8 : 64 * (k : Int) + 64 ≤ 64 * (M : Int) := by omega
      go_wp2_with fail
      refine (rblock_any st as' cs Kc Kc_len a4 c4 _ _ bl _ HS.out HBY.out HK6.out).mono ?_
      rintro e w7 ⟨a7, c7, rfl, ho7, hb7⟩
      rw [← HST.out] at ho7
      have HO7 := Lib.hid ho7.reads; have HB7 := Lib.hid (HBl.out.trans (hb7.mono hsz))
      clear ho7 hb7 x0 x1 x2 x3 x5 x6 x7 x8
      go_wp2
      go_roundw
      case rel => exact ⟨k + 1, c7, a7, by omega, by go_num, rfl, HO7.out, HB7.out⟩
      case measure => simp [intOf]; omega
    · obtain rfl : k = M := by omega
      have hfin : outB (blks (allB l) k) = shaSum l := by unfold shaSum; rw [HMM.out]
      have HF := Lib.hid hfin
      generalize blks (allB l) k = st at HS HF
      have x8 : ¬ (64 * (k : Int) + 64 ≤ 64 * (k : Int)) := by omega
      clear hfin
      obtain ⟨wS, rfl⟩ : ∃ wS : World, wS = wr := ⟨_, rfl⟩
      have hms := HS.out.most; have hcs := HS.out.cap
      obtain ⟨bs', offs, rfl, hcell⟩ := HS.out.at'.resolve_left (by omega)
      have HCell := Lib.hid hcell
      have HBS := Lib.hid (HB5.out.trans (HBl.out.mono s5))
      have sS := HBS.out.size
      clear hcell HS HBl
      go_wp2_with fail
      go_loopw [7, 8] (fun out i wr => ∃ (t c : Nat) (a : Option Addr), t ≤ 8 ∧ i = .int .i64 t ∧ out = .slice a (4 * t) c ∧ OwnB wr wS.heap.size 5 a (4 * t) c (outN st.list t) ∧ Below wS.heap.size wS wr) (fun _ i _ => 8 - (intOf i).toNat)
      case atStart => exact ⟨0, 0, _, by omega, rfl, rfl, OwnB.made wS _ _ [] _ rfl (Nat.le_refl _) (by simp [maxLen]) (by simp [AllB]), (Below.refl _ _).alloc (Nat.le_refl _) _⟩
      case round =>
        obtain ⟨t, c6, a6, ht, rfl, rfl, ho, hb⟩ := hrel
        have HO := Lib.hid ho; have HBl := Lib.hid hb
        have hsz2 := hb.size
        by_cases h8 : t < 8
        · have ct := HCell.out t h8
          rw [← hb.cell (World.block_lt_of_cell? wS _ ct), mapI_at _ _ (by simpa [St.list] using h8)] at ct
          have hnx := outN_next st.list t h8
          rw [be4] at hnx
          have l0 := I_lo (st.list.getD t 0)
          have l1 := I_hi (st.list.getD t 0)
          generalize st.list.getD t 0 = x at ct hnx l0 l1
          have HN := Lib.hid hnx
          have hn1 : 4 * t + 4 ≤ 140737488355328 := by omega
          have ub : ∀ z : Int, 0 ≤ IntKind.u8.wrap z ∧ IntKind.u8.wrap z ≤ 255 := fun z => by rw [ss.u8_wrap]; omega
          have UB := Lib.hid ub
          have hi0 : (0 : Int) ≤ t := by omega
          have hi1 : (t : Int) < 8 := by omega
          have hi2 : (t : Int).toNat = t := by omega
          clear hnx ho hb ub
          go_wp2_with fail
          have hlt : bs' < wS.heap.size := World.block_lt_of_cell? wS _ (HCell.out t h8)
          have hkeep : ∀ W : World, Below wS.heap.size wr W → W.cell? ⟨bs', offs + t, none⟩ = some (.int .u32 (I x)) := fun W h => by rw [h.cell (p := ⟨bs', offs + t, none⟩) hlt]; exact ct
          have Keep := Lib.hid hkeep
          clear hkeep
          go_region_held_law (fun W => W.cell? ⟨bs', offs + t, none⟩ = some (.int .u32 (I x)))
            (first | exact ct | exact Keep.out _ ((Below.drew (Below.refl _ _)).alloc hsz2 _) | exact Keep.out _ (((Below.drew (Below.refl _ _)).alloc hsz2 _).trans hb9) | exact Keep.out _ (Below.trans (Below.drew (Below.alloc (Below.refl _ _) hsz2 _)) hb9) | exact Keep.out _ (Below.drew (Below.alloc (Below.refl _ _) hsz2 _)))
            (((first
                | refine step_append_b byteT (by rfl) _ _ (by rfl) wS.heap.size (by rfl) (HO.out.drew.alloc _) (by rfl) (four_bytes _ _ _ _ _ _ (by first | exact UB.out _ | omega) (by first | exact UB.out _ | omega) (by first | exact UB.out _ | omega) (by first | exact UB.out _ | omega)) hn1 (by simp; omega) ?_
                | refine step_append_b byteT (by rfl) _ _ (by rfl) wS.heap.size (by rfl) (HO.out.alloc _).drew (by rfl) (Bytes.drewN (four_bytes _ _ _ _ _ _ (by first | exact UB.out _ | omega) (by first | exact UB.out _ | omega) (by first | exact UB.out _ | omega) (by first | exact UB.out _ | omega)) 1) hn1 (by simp; omega) ?_); intro a9 c9 w9 ho9 hb9 hg9))
          have q1 : IntKind.u8.wrap (IntKind.u32.wrap ((I x).tdiv 16777216)) = I x / 16777216 % 256 := by rw [Int.tdiv_eq_ediv_of_nonneg l0, wrap32, ss.u8_wrap]; omega
          have q2 : IntKind.u8.wrap ((IntKind.u32.wrap ((I x).tdiv 65536)).tmod 256) = I x / 65536 % 256 := by rw [Int.tdiv_eq_ediv_of_nonneg l0, wrap32, Int.tmod_eq_emod_of_nonneg (by omega), ss.u8_wrap]; omega
          have q3 : IntKind.u8.wrap ((IntKind.u32.wrap ((I x).tdiv 256)).tmod 256) = I x / 256 % 256 := by rw [Int.tdiv_eq_ediv_of_nonneg l0, wrap32, Int.tmod_eq_emod_of_nonneg (by omega), ss.u8_wrap]; omega
          have q4 : IntKind.u8.wrap ((I x).tmod 256) = I x % 256 := by rw [Int.tmod_eq_emod_of_nonneg l0, ss.u8_wrap]; omega
          rw [q1, q2, q3, q4, HN.out] at ho9
          have HO9 := Lib.hid ho9; have HB9 := Lib.hid (HBl.out.trans (Below.trans (by first | exact Below.drew (Below.alloc (Below.refl _ _) hsz2 _) | exact (Below.drew (Below.refl _ _)).alloc hsz2 _) hb9))
          clear ho9 hb9 hg9 q1 q2 q3 q4
          go_wp2
          go_roundw
          case rel => exact ⟨t + 1, c9, a9, by omega, by go_num, rfl, HO9.out, HB9.out⟩
          case measure => simp [intOf]; omega
        · obtain rfl : t = 8 := by omega
          rw [outN_all, HF.out] at ho
          have HO9 := Lib.hid (ho.mono sS); have HB9 := Lib.hid (HBS.out.trans (hb.mono sS))
          clear ho hb
          go_wp2
          go_ret
          exact ⟨a6, c6, rfl, HO9.out, HB9.out⟩

end Go.Proofs.Ytlpiacofnciodaa.sh
