/-
  Layer 3: the walk of the statement that a digest goes on block by block.
-/
import Derived.Test.YtlpiacofnciodaaShaPBlock2
import Derived.Test.YtlpiacofnciodaaShaPSum
namespace Go.Proofs.Ytlpiacofnciodaa.sh
open Go.ChangeShapes Go.WideShapes Go.ChangeAt Go.RowKit
open bs
set_option linter.unusedVariables false
open Go.Proofs.Ytlpiacofnciodaa.ss (be be_len be_bytes tail zer zer_le tail_any append_any APost byteT)

theorem be4g (x : BitVec 32) : be (I x) 4 = [I x / 16777216 % 256, I x / 65536 % 256, I x / 256 % 256, I x % 256] := by
  simp [be]
theorem outB_at (s : St) (t : Nat) (h : t < 8) (k : Nat) (hk : k < 4) : (outB s).getD (4 * t + k) 0 = (be (I (s.list.getD t 0)) 4).getD k 0 := by
  have h1 : t = 0 ∨ t = 1 ∨ t = 2 ∨ t = 3 ∨ t = 4 ∨ t = 5 ∨ t = 6 ∨ t = 7 := by omega
  have h2 : k = 0 ∨ k = 1 ∨ k = 2 ∨ k = 3 := by omega
  have e : outB s = be (I s.a) 4 ++ (be (I s.b) 4 ++ (be (I s.c) 4 ++ (be (I s.d) 4 ++ (be (I s.e) 4 ++ (be (I s.f) 4 ++ (be (I s.g) 4 ++ (be (I s.h) 4 ++ []))))))) := rfl
  rw [e]
  simp only [be4g]
  rcases h1 with rfl | rfl | rfl | rfl | rfl | rfl | rfl | rfl <;> rcases h2 with rfl | rfl | rfl | rfl <;> rfl

set_option maxRecDepth 100000 in
set_option maxHeartbeats 2000000 in
theorem goesOn (a : Option Addr) (n c : Nat) (l : List Int) (w : World) (h : Bytes w a n c l) :
    Calls Try.prog 5 #[.slice a n c] w fun e w' => e = .returned (.bool true) ∧ Below w.heap.size w w' := by
  have hlen := h.len
  subst hlen
  have hc := h.cap; have hm := h.most
  have HH := Lib.hid h
  clear h
  by_cases hn : 200 < l.length
  · have d1 : (200 : Int) < (l.length : Int) := by omega
    go_enter Try.func5, Try.ntmps5
    go_wp2_with fail
    refine (tail_any 0 _ (by omega) (by omega)).mono ?_
    rintro e w1 ⟨a1, c1, rfl, ho, hb⟩
    rw [show 9 + zer 0 = 64 from rfl]
    have HB := Lib.hid hb
    clear ho hb
    go_wp2
    go_ret
    exact ⟨rfl, HB.out⟩
  · have d1 : ¬ (200 : Int) < (l.length : Int) := by omega
    have hz := zer_le (l.length : Int)
    have HM := Lib.hid (nblk_eq l.length)
    obtain ⟨M, hM⟩ : ∃ M, nblk l.length = M := ⟨_, rfl⟩
    have hl2 : l.length + (9 + zer l.length) = 64 * M := by have := HM.out; omega
    have HMM := Lib.hid hM
    have hM2 : 1 ≤ M := by omega
    have hM3 : M ≤ 10 := by omega
    clear hM HM
    go_enter Try.func5, Try.ntmps5
    go_wp2_with fail
    refine (tail_any (l.length : Int) _ (by omega) (by omega)).mono ?_
    rintro e w1 ⟨a1, c1, rfl, ho1, hb1⟩
    have HO1 := Lib.hid ho1.bytes; have HB1 := Lib.hid hb1; have HH1 := Lib.hid (HH.out.below hb1)
    have s1 := hb1.size
    clear ho1 hb1
    obtain ⟨Z, hZ⟩ : ∃ Z, 9 + zer (l.length : Int) = Z := ⟨_, rfl⟩
    rw [hZ] at HO1 hl2 ⊢
    have hZ1 : 9 ≤ Z := by omega
    have hZ2 : Z ≤ 72 := by omega
    have t1 : decide ((Z : Int) < 9) = false := decide_eq_false (by omega)
    have t2 : decide ((72 : Int) < (Z : Int)) = false := decide_eq_false (by omega)
    clear hZ hz
    go_wp2_with (at_builtin; refine wpList_append_b byteT rfl _ _ rfl w1.heap.size rfl (l := []) ?o1 rfl (l' := l) ?b1 ?_ ?_ ?_)
    case o1 => exact OwnB.made w1 _ _ [] _ rfl (Nat.le_refl _) (by simp [maxLen]) (by simp [AllB])
    case b1 => exact HH1.out.below ((Below.refl _ _).alloc (Nat.le_refl _) _)
    all_goals try (first | omega | (simp; done) | (simp; omega))
    intro a2 c2 w2 ho2 hb2 _
    have HO2 := Lib.hid ho2; have HB2 := Lib.hid (((Below.refl w1.heap.size w1).alloc (Nat.le_refl _) _).trans hb2)
    have HT2 := Lib.hid (HO1.out.below HB2.out)
    have s2 := HB2.out.size
    clear ho2 hb2
    go_wp2_with (at_builtin; refine wpList_append_b byteT rfl _ _ rfl w1.heap.size rfl (l := l) ?o2 rfl (l' := tail l.length) ?b2 ?_ ?_ ?_)
    case o2 => exact HO2.out
    case b2 => exact HT2.out
    all_goals try (first | omega | (simp; done) | (simp; omega))
    intro a3 c3 w3 ho3 hb3 _
    have HB3 := Lib.hid (HB1.out.trans ((HB2.out.trans hb3).mono s1))
    have s3 := HB3.out.size
    rw [show l ++ tail (l.length : Int) = allB l from rfl] at ho3
    obtain ⟨g, rfl, hg1, hg2, hg3, hg4⟩ := ho3.cases.resolve_left (fun h => by omega)
    have HO3 := Lib.hid ho3
    simp only [maxLen] at hg4
    have m1 : ((64 * (M : Int)) % 64 != 0) = false := by rw [bne_eq_false_iff_eq]; omega
    clear ho3 hb3 HB1 HB2 HO1 HO2 HT2 HH1
    go_wp2_with fail
    refine (pstart_any _).mono ?_
    rintro e w4 ⟨a4, c4, rfl, ho4, hb4⟩
    have HS4 := Lib.hid ho4; have HB4 := Lib.hid (HB3.out.trans (hb4.mono s3)); have HO4 := Lib.hid (HO3.out.below hb4)
    have s4 := HB4.out.size
    clear ho4 hb4 HO3 HB3 m1
    go_wp2_with fail
    go_loopw [5, 6] (fun s i wr => ∃ (k cs : Nat) (as' : Option Addr), k ≤ M ∧ i = .int .i64 (64 * (k : Int)) ∧ s = .slice as' 8 cs ∧ U32s wr as' 8 cs ((blks (allB l) k).list.map I) ∧ Below w4.heap.size w4 wr) (fun _ i _ => (64 * (M : Int) - intOf i).toNat)
    case atStart => exact ⟨0, c4, a4, by omega, rfl, rfl, HS4.out, Below.refl _ _⟩
    case round =>
      clear HS4
      obtain ⟨k, cs, as', hk, rfl, rfl, hs, hb⟩ := hrel
      have HS := Lib.hid hs; have HBl := Lib.hid hb
      have hsz := hb.size
      clear hs hb
      by_cases hkM : k < M
      · have hby := (sub_bytes HO4.out.bytes (64 * k) 64 (by omega)).below HBl.out
        rw [Nat.zero_add] at hby
        have hst : blks (allB l) (k + 1) = blk Kc (blks (allB l) k) (((allB l).drop (64 * k)).take 64) := rfl
        have HST := Lib.hid hst; have HBY := Lib.hid hby
        clear hst hby
        generalize ((allB l).drop (64 * k)).take 64 = bl at HBY HST
        generalize blks (allB l) k = st at HS HST
        have x0 : ((64 : Int) * k).toNat = 64 * k := by omega
        have x1 : ((64 : Int) * k + 64).toNat = 64 * k + 64 := by omega
        have x2 : (0 : Int) ≤ 64 * (k : Int) := by omega
        have x3 : (64 * (k : Int)) + 64 ≤ c3 := by omega
        have x5 : (0 : Int) ≤ 64 * (k : Int) + 64 := by omega
        have x6 : 64 * (k : Int) ≤ 64 * (k : Int) + 64 := by omega
        have x7 : ¬ c3 = 64 * k := by omega
        have x8 : 64 * (k : Int) < 64 * (M : Int) := by omega
        go_wp2_with fail
        refine (pblock_any st as' cs _ _ bl _ HS.out HBY.out).mono ?_
        rintro e w7 ⟨a7, c7, rfl, ho7, hb7⟩
        rw [← HST.out] at ho7
        have HO7 := Lib.hid ho7; have HB7 := Lib.hid (HBl.out.trans (hb7.mono hsz))
        clear ho7 hb7 x0 x1 x2 x3 x5 x6 x7 x8
        go_wp2
        go_roundw
        case rel => exact ⟨k + 1, c7, a7, by omega, by go_num, rfl, HO7.out, HB7.out⟩
        case measure => simp [intOf]; omega
      · obtain rfl : k = M := by omega
        have hfin : outB (blks (allB l) k) = shaSum l := by unfold shaSum; rw [HMM.out]
        have HF := Lib.hid hfin
        clear hfin
        generalize blks (allB l) k = st at HS HF
        have x8 : ¬ (64 * (k : Int) < 64 * (k : Int)) := by omega
        go_wp2_with fail
        refine (psum_any a l.length c l _ (HH.out.below (HB4.out.trans (HBl.out.mono s4))) (by omega)).mono ?_
        rintro e w8 ⟨a8, c8, rfl, ho8, hb8⟩
        rw [← HF.out] at ho8
        have HX := Lib.hid ho8.bytes; have HSX := Lib.hid (HS.out.below hb8); have HB8 := Lib.hid ((HB4.out.trans (HBl.out.mono s4)).trans (hb8.mono (by omega)))
        have hms := HSX.out.most; have hcs := HSX.out.cap
        have hmx := HX.out.most; have hcx := HX.out.cap
        clear ho8 hb8
        obtain ⟨bs', offs, rfl, hcell⟩ := HSX.out.at'.resolve_left (by omega)
        obtain ⟨bx, offx, rfl, hcellx⟩ := HX.out.at'.resolve_left (by omega)
        have HCell := Lib.hid hcell; have HCellx := Lib.hid hcellx
        clear hcell hcellx
        go_wp2_with fail
        go_loopw [8] (fun i wr => ∃ t m : Nat, t ≤ 8 ∧ i = .int .i64 t ∧ wr = w8.drewN m) (fun i _ => 8 - (intOf i).toNat)
        case atStart => exact ⟨0, 0, by omega, rfl, rfl⟩
        case round =>
          obtain ⟨t, m, ht, rfl, rfl⟩ := hrel
          by_cases h8 : t < 8
          · have ct := HCell.out t h8
            rw [mapI_at _ _ (by simpa [St.list] using h8)] at ct
            have p0 := HCellx.out (4 * t + 0) (by omega)
            have p1 := HCellx.out (4 * t + 1) (by omega)
            have p2 := HCellx.out (4 * t + 2) (by omega)
            have p3 := HCellx.out (4 * t + 3) (by omega)
            rw [outB_at st t h8 _ (by omega), be4g] at p0 p1 p2 p3
            generalize st.list.getD t 0 = x at ct p0 p1 p2 p3
            simp only [List.getD_cons_zero, List.getD_cons_succ, Nat.add_zero] at p0 p1 p2 p3
            have l0 := I_lo x
            have l1 := I_hi x
            have y0 : (0 : Int) ≤ 4 * (t : Int) := by omega
            have y1 : (0 : Int) ≤ 4 * (t : Int) + 1 := by omega
            have y2 : (0 : Int) ≤ 4 * (t : Int) + 2 := by omega
            have y3 : (0 : Int) ≤ 4 * (t : Int) + 3 := by omega
            have z0 : (4 * (t : Int)).toNat = 4 * t := by omega
            have z1 : (4 * (t : Int) + 1).toNat = 4 * t + 1 := by omega
            have z2 : (4 * (t : Int) + 2).toNat = 4 * t + 2 := by omega
            have z3 : (4 * (t : Int) + 3).toNat = 4 * t + 3 := by omega
            have v0 : 4 * (t : Int) < 32 := by omega
            have v1 : 4 * (t : Int) + 1 < 32 := by omega
            have v2 : 4 * (t : Int) + 2 < 32 := by omega
            have v3 : 4 * (t : Int) + 3 < 32 := by omega
            have u0 : IntKind.i64.wrap (4 * (t : Int)) = 4 * (t : Int) := IntWalk.i64_in _ (by omega)
            have u1 : IntKind.i64.wrap (4 * (t : Int) + 1) = 4 * (t : Int) + 1 := IntWalk.i64_in _ (by omega)
            have u2 : IntKind.i64.wrap (4 * (t : Int) + 2) = 4 * (t : Int) + 2 := IntWalk.i64_in _ (by omega)
            have u3 : IntKind.i64.wrap (4 * (t : Int) + 3) = 4 * (t : Int) + 3 := IntWalk.i64_in _ (by omega)
            go_wp2_with fail
            go_quiet (fail)
            clear y0 y1 y2 y3 z0 z1 z2 z3 v0 v1 v2 v3 u0 u1 u2 u3 p0 p1 p2 p3 ct
            have heq : (I x / 16777216 % 256 * 16777216 + I x / 65536 % 256 * 65536 + I x / 256 % 256 * 256 + I x % 256 != I x) = false := by rw [bne_eq_false_iff_eq]; omega
            go_wp2_with fail
            go_roundw
            case rel => exact ⟨t + 1, _, by omega, by go_num, rfl⟩
            case measure => simp [intOf]; omega
          · obtain rfl : t = 8 := by omega
            have HB9 := Lib.hid (below_drewN HB8.out m)
            go_wp2
            go_ret
            exact ⟨rfl, HB9.out⟩

end Go.Proofs.Ytlpiacofnciodaa.sh
