/-
  Layer 3: the contract of the document's 'Numbers'.
-/
import Derived.Test.YtlpiacofnciodaaShaRef
import Derived.Deep.RegionLaw
namespace Go.Proofs.Ytlpiacofnciodaa.sh
open Go.ChangeShapes Go.WideShapes Go.ChangeAt Go.RowKit
open bs
open Go.Proofs.Ytlpiacofnciodaa.rs
set_option linter.unusedVariables false

theorem shr10 (x : BitVec 32) : I x / (1024 : Int) = I (x >>> 10) := I_shr x 10
theorem shr3 (x : BitVec 32) : I x / (8 : Int) = I (x >>> 3) := I_shr x 3
theorem ws_next (l : List Int) (t : Nat) (x : BitVec 32) (h : (if t < 16 then wd l t 4 else nxt (ws l t) t) = x) : (ws l t).map I ++ [I x] = (ws l (t + 1)).map I := by
  rw [ws, h, List.map_append]
  rfl
theorem ws_mapat (l : List Int) (t i : Nat) (h : i < t) : ((ws l t).map I).getD i 0 = I ((ws l t).getD i 0) := by
  rw [List.getD_eq_getElem?_getD, List.getElem?_map, List.getD_eq_getElem?_getD, List.getElem?_eq_getElem (by rw [ws_len]; exact h)]
  rfl

set_option maxRecDepth 100000 in
set_option maxHeartbeats 1000000 in
theorem numbers_any (a : Option Addr) (c : Nat) (l : List Int) (w : World) (h : Bytes w a 64 c l) :
    Calls Try.prog 27 #[.slice a 64 c] w (WPost w w.heap.size 64 ((ws l 64).map I)) := by
  obtain ⟨b, off, rfl, hc⟩ := h.at'.resolve_left (by omega)
  have hm := h.most; have hk := h.cap
  have HB := Lib.hid h.all
  have HC := Lib.hid hc
  clear h hc
  go_enter Try.func27, Try.ntmps27
  go_wp2_with fail
  go_loopw [3, 4] (fun out i wr => ∃ (t c2 : Nat) (a : Option Addr), t ≤ 16 ∧ i = .int .i64 t ∧ out = .slice a t c2 ∧ OwnW wr w.heap.size 33 a t c2 ((ws l t).map I) ∧ Below w.heap.size w wr) (fun _ i _ => 16 - (intOf i).toNat)
  case atStart => exact ⟨0, 0, _, by omega, rfl, rfl, OwnW.made w _ _ [] _ rfl (Nat.le_refl _) (by simp [maxLen]) (by simp [AllW]), (Below.refl _ _).alloc (Nat.le_refl _) _⟩
  case round =>
    obtain ⟨t, c2, a2, ht, rfl, rfl, ho, hb⟩ := hrel
    have HO := Lib.hid ho; have HBl := Lib.hid hb
    have s1 := hb.size
    clear ho hb
    by_cases htl : t < 16
    · go_wp2_with fail
      obtain ⟨wo, rfl⟩ : ∃ wo : World, wo = wr := ⟨_, rfl⟩
      go_loop [5, 6] (fun v j => ∃ k : Nat, k ≤ 4 ∧ j = .int .i64 k ∧ v = .int .u32 (I (wd l t k))) (fun _ j => 4 - (intOf j).toNat)
      case atStart => exact ⟨0, by omega, rfl, rfl⟩
      case round =>
        obtain ⟨k, hk, rfl, rfl⟩ := hrel
        by_cases hk4 : k < 4
        · have cp := HC.out (4 * t + k) (by omega)
          rw [← HBl.out.cell (World.block_lt_of_cell? w _ cp)] at cp
          obtain ⟨p, hp⟩ : ∃ p, l.getD (4 * t + k) 0 = p := ⟨_, rfl⟩
          have hp0 := HB.out.getD (4 * t + k)
          rw [hp] at cp hp0
          obtain ⟨p0, p1⟩ := hp0
          have HN := Lib.hid (show I (wd l t k) * 256 % 4294967296 + p = I (wd l t (k + 1)) by rw [next8 _ _ p0 p1, ← hp]; rfl)
          have i0 : ((4 : Int) * t + k).toNat = 4 * t + k := by omega
          have j0 : (0 : Int) ≤ 4 * (t : Int) + k := by omega
          clear hp
          go_wp2_with fail
          go_round
          case rel => exact ⟨k + 1, by omega, by go_num, by rw [HN.out]⟩
          case measure => simp [intOf]; omega
        · obtain rfl : k = 4 := by omega
          have HN := Lib.hid (ws_next l t (wd l t 4) (if_pos htl))
          have b0 := I_lo (wd l t 4)
          have b1 := I_hi (wd l t 4)
          go_wp2_with (at_builtin; refine wpList_append_W u32T rfl _ _ rfl w.heap.size rfl (HO.out.alloc _) rfl (U32s.one _ _ _ ⟨b0, b1⟩) ?_ ?_ ?_)
          · omega
          · (try simp); omega
          intro a3 c3 w3 ho3 hb3 _
          rw [HN.out] at ho3
          have HO3 := Lib.hid ho3; have HB3 := Lib.hid ((HBl.out.alloc s1 _).trans hb3)
          clear ho3 hb3
          go_wp2
          go_roundw
          case rel => exact ⟨t + 1, c3, a3, by omega, by go_num, rfl, HO3.out, HB3.out⟩
          case measure => simp [intOf]; omega
    · obtain rfl : t = 16 := by omega
      go_wp2_with fail
      rw [show ((16 : Nat) : Int) = 16 from rfl]
      go_loopw [3, 7] (fun out i wr => ∃ (t c2 : Nat) (a : Option Addr), 16 ≤ t ∧ t ≤ 64 ∧ i = .int .i64 t ∧ out = .slice a t c2 ∧ OwnW wr w.heap.size 33 a t c2 ((ws l t).map I) ∧ Below w.heap.size w wr) (fun _ i _ => 64 - (intOf i).toNat)
      case atStart => exact ⟨16, c2, a2, by omega, by omega, rfl, rfl, HO.out, HBl.out⟩
      case round =>
        clear HO HBl s1
        obtain ⟨t, c2, a2, ht0, ht1, rfl, rfl, ho, hb⟩ := hrel
        have s1 := hb.size
        by_cases h64 : t < 64
        · have hca := ho.cases
          obtain ⟨g, rfl, hg1, hg2, hg3, hg4⟩ := hca.resolve_left (fun h => by omega)
          have x2 := ho.cellAt (t - 2) (by omega)
          have x7 := ho.cellAt (t - 7) (by omega)
          have x15 := ho.cellAt (t - 15) (by omega)
          have x16 := ho.cellAt (t - 16) (by omega)
          rw [ws_mapat l t _ (by omega)] at x2 x7 x15 x16
          have hn := ws_next l t (nxt (ws l t) t) (if_neg (by omega))
          have hx : nxt (ws l t) t = sml ((ws l t).getD (t - 2) 0) 17 19 10 + (ws l t).getD (t - 7) 0 + sml ((ws l t).getD (t - 15) 0) 7 18 3 + (ws l t).getD (t - 16) 0 := rfl
          generalize (ws l t).getD (t - 2) 0 = y2 at x2 hx
          generalize (ws l t).getD (t - 7) 0 = y7 at x7 hx
          generalize (ws l t).getD (t - 15) 0 = y15 at x15 hx
          generalize (ws l t).getD (t - 16) 0 = y16 at x16 hx
          have HN := Lib.hid hn; have HX := Lib.hid hx
          have HO := Lib.hid ho; have HBl := Lib.hid hb
          have i0 : ((t : Int) - 2).toNat = t - 2 := by omega
          have i1 : ((t : Int) - 7).toNat = t - 7 := by omega
          have i2 : ((t : Int) - 15).toNat = t - 15 := by omega
          have i3 : ((t : Int) - 16).toNat = t - 16 := by omega
          simp only [maxLen] at hg4
          have q0 : (2 : Int) ≤ t := by omega
          have q1 : (7 : Int) ≤ t := by omega
          have q2 : (15 : Int) ≤ t := by omega
          have q3 : (16 : Int) ≤ t := by omega
          clear hn hx ho hb hca
          go_wp2_with fail
          refine (rrot_any y2 17 _ (by omega) (by omega)).mono ?_
          rintro e w' ⟨rfl, rfl⟩
          go_wp2_with fail
          refine (rrot_any y2 19 _ (by omega) (by omega)).mono ?_
          rintro e w' ⟨rfl, rfl⟩
          go_wp2_with fail
          refine (rrot_any y15 7 _ (by omega) (by omega)).mono ?_
          rintro e w' ⟨rfl, rfl⟩
          go_wp2_with fail
          refine (rrot_any y15 18 _ (by omega) (by omega)).mono ?_
          rintro e w' ⟨rfl, rfl⟩
          go_wp2_with fail
          have k1 : IntKind.i64.wrap ((t : Int) - 7) = (t : Int) - 7 := IntWalk.i64_in _ (by omega)
          have k3 : IntKind.i64.wrap ((t : Int) - 16) = (t : Int) - 16 := IntWalk.i64_in _ (by omega)
          have r1 : (t : Int) - 7 < t := by omega
          have r3 : (t : Int) - 16 < t := by omega
          have j1 : (0 : Int) ≤ (t : Int) - 7 := by omega
          have j3 : (0 : Int) ≤ (t : Int) - 16 := by omega
          have hn1 : t + 1 ≤ 17592186044416 := by omega
          go_region_law ((refine step_append_W u32T rfl _ _ (by rfl) w.heap.size (by rfl) (HO.out.alloc _).drew (by rfl) (Go.Proofs.Ytlpiacofnciodaa.bs.U32s.drewN (U32s.one _ _ _ ⟨by simp only [wrap32]; omega, by simp only [wrap32]; omega⟩) 1) hn1 (by simp; omega) ?_; intro a3 c3 w3 ho3 hb3 hg3))
          all_goals
            have hr : IntKind.u32.wrap (IntKind.u32.wrap (IntKind.u32.wrap (bits .xor .u32 (bits .xor .u32 (I (rotr y2 17)) (I (rotr y2 19))) (I y2 / 1024) + I y7) + bits .xor .u32 (bits .xor .u32 (I (rotr y15 7)) (I (rotr y15 18))) (I y15 / 8)) + I y16) = I (nxt (ws l t) t) := by
              rw [shr10, shr3, I_xor, I_xor, I_add, I_xor, I_xor, I_add, I_add, HX.out]
              rfl
            rw [hr, HN.out] at ho3
            have HO3 := Lib.hid ho3; have HB3 := Lib.hid (((HBl.out.alloc s1 _).drew).trans hb3)
            clear ho3 hb3 hg3 hr k1 k3 r1 r3 j1 j3 i0 i1 i2 i3
            go_wp2
            go_roundw
            case rel => exact ⟨t + 1, c3, a3, by omega, by omega, by go_num, rfl, HO3.out, HB3.out⟩
            case measure => simp [intOf]; omega
        · obtain rfl : t = 64 := by omega
          have HO := Lib.hid ho; have HBl := Lib.hid hb
          clear ho hb
          go_wp2
          go_ret
          exact ⟨a2, c2, rfl, HO.out, HBl.out⟩

end Go.Proofs.Ytlpiacofnciodaa.sh
