/-
  Layer 3: the contract of 'spread'.
-/
import Derived.Test.YtlpiacofnciodaaShaTurn
import Derived.Test.YtlpiacofnciodaaShaRow
import Derived.Deep.RegionHeld3
import Derived.IntWalk
namespace Go.Proofs.Ytlpiacofnciodaa.sh
open Go.ChangeShapes Go.WideShapes Go.ChangeAt Go.RowKit
open bs
set_option linter.unusedVariables false

/-- The array while the word t is made. -/
def mid (l : List Int) (t k : Nat) : List (BitVec 32) := ws l t ++ wd l t k :: List.replicate (63 - t) 0#32
def full (l : List Int) (t : Nat) : List (BitVec 32) := ws l t ++ List.replicate (64 - t) 0#32
theorem full_mid (l : List Int) (t : Nat) (h : t < 64) : full l t = mid l t 0 := by
  unfold full mid
  rw [show 64 - t = (63 - t) + 1 by omega, List.replicate_succ]
  rfl
theorem mid_full (l : List Int) (t : Nat) (h : t < 16) : mid l t 4 = full l (t + 1) := by
  unfold full mid
  rw [ws, if_pos h, List.append_assoc, show 64 - (t + 1) = 63 - t by omega]
  rfl
theorem mid_set (l : List Int) (t k : Nat) (x : BitVec 32) (h : wd l t (k + 1) = x) : (mid l t k).set t x = mid l t (k + 1) := by
  unfold mid
  rw [List.set_append_right _ _ (by rw [ws_len]; omega), ws_len, Nat.sub_self, List.set_cons_zero, h]
theorem mid_at (l : List Int) (t k : Nat) : (mid l t k).getD t 0 = wd l t k := by
  unfold mid
  rw [List.getD_eq_getElem?_getD, List.getElem?_append_right (by rw [ws_len]; omega), ws_len, Nat.sub_self]
  rfl
theorem mid_len (l : List Int) (t k : Nat) (h : t < 64) : (mid l t k).length = 64 := by
  unfold mid
  simp [ws_len]
  omega
theorem full_len (l : List Int) (t : Nat) (h : t ≤ 64) : (full l t).length = 64 := by
  unfold full
  simp [ws_len]
  omega
theorem full_at (l : List Int) (t i : Nat) (h : i < t) : (full l t).getD i 0 = (ws l t).getD i 0 := by
  unfold full
  rw [List.getD_eq_getElem?_getD, List.getElem?_append_left (by rw [ws_len]; exact h), ← List.getD_eq_getElem?_getD]
theorem full_set (l : List Int) (t : Nat) (x : BitVec 32) (h : 16 ≤ t) (h2 : t < 64) (hx : nxt (ws l t) t = x) : (full l t).set t x = full l (t + 1) := by
  unfold full
  rw [List.set_append_right _ _ (by rw [ws_len]; omega), ws_len, Nat.sub_self, show 64 - t = (63 - t) + 1 by omega, List.replicate_succ, List.set_cons_zero, ws, if_neg (by omega), hx, List.append_assoc, show 64 - (t + 1) = 63 - t by omega]
  rfl
theorem full_64 (l : List Int) : full l 64 = ws l 64 := by unfold full; simp

def MRel (w : World) (l : List Int) (t k : Nat) (wr : World) : Prop :=
  Row wr w.heap.size 39 (List.replicate 64 0#32) ∧ Row wr (w.heap.size + 1) 39 (mid l t k) ∧ Below w.heap.size w wr
def SRel (w : World) (l : List Int) (t : Nat) (wr : World) : Prop :=
  Row wr w.heap.size 39 (List.replicate 64 0#32) ∧ Row wr (w.heap.size + 1) 39 (full l t) ∧ Below w.heap.size w wr

theorem SRel.drewN {w W : World} {l : List Int} {t : Nat} (h : SRel w l t W) (m : Nat) : SRel w l t (W.drewN m) := ⟨h.1.drewN m, h.2.1.drewN m, below_drewN h.2.2 m⟩
def TRel (w : World) (l : List Int) (t : Nat) (W : World) : Prop := SRel w l t W ∨ SRel w l (t + 1) W
theorem TRel.drewN {w W : World} {l : List Int} {t : Nat} (h : TRel w l t W) (m : Nat) : TRel w l t (W.drewN m) := h.elim (fun h => .inl (h.drewN m)) (fun h => .inr (h.drewN m))
theorem ws_at (l : List Int) (t i : Nat) (h : i < t) : (ws l (t + 1)).getD i 0 = (ws l t).getD i 0 := by
  rw [ws, List.getD_eq_getElem?_getD, List.getElem?_append_left (by rw [ws_len]; exact h), ← List.getD_eq_getElem?_getD]
theorem TRel.at' {w W : World} {l : List Int} {t : Nat} (h : TRel w l t W) (ht : t < 64) (i : Nat) (hi : i < t) : W.cell? ⟨w.heap.size + 1, i, none⟩ = some (.int .u32 (I ((ws l t).getD i 0))) := by
  rcases h with h | h
  · rw [h.2.1.cellAt i (by rw [full_len l t (by omega)]; omega), full_at l t i hi]
  · rw [h.2.1.cellAt i (by rw [full_len l (t + 1) (by omega)]; omega), full_at l (t + 1) i (by omega), ws_at l t i hi]
theorem TRel.fr {w W : World} {l : List Int} {t : Nat} (h : TRel w l t W) (i : Nat) : W.frozen? ⟨w.heap.size + 1, i, none⟩ = false := by
  rcases h with h | h
  · exact h.2.1.frozenAt i
  · exact h.2.1.frozenAt i
theorem st_rel {w W : World} {l : List Int} {t : Nat} (h : SRel w l t W) (ht : 16 ≤ t) (h2 : t < 64) {v : Int} (hv : v = I (nxt (ws l t) t)) : SRel w l (t + 1) (W.setCell ⟨w.heap.size + 1, t, none⟩ (.int .u32 v)) := by
  subst hv
  have := h.2.1.stored t (nxt (ws l t) t)
  rw [full_set l t _ ht h2 rfl] at this
  exact ⟨h.1.other _ _ (by simp), this, h.2.2.setCell (by simp) _⟩
/-- What a cell holds, whatever that is. -/
def vof (W : World) (p : Addr) : Value := (W.cell? p).getD undef
theorem vof_of {W : World} {p : Addr} {v : Value} (h : W.cell? p = some v) : W.cell? p = some (vof W p) := by unfold vof; rw [h]; rfl
theorem TRel.has {w W : World} {l : List Int} {t : Nat} (h : TRel w l t W) (ht : t < 64) : W.cell? ⟨w.heap.size + 1, t, none⟩ = some (vof W ⟨w.heap.size + 1, t, none⟩) := by
  rcases h with h | h
  · exact vof_of (h.2.1.cellAt t (by rw [full_len l t (by omega)]; omega))
  · exact vof_of (h.2.1.cellAt t (by rw [full_len l (t + 1) (by omega)]; omega))
theorem held_mk {w W : World} {l : List Int} {t : Nat} (ht : 16 ≤ t) (h2 : t < 64) (h : TRel w l t W) {x2 x7 x15 x16 : BitVec 32} (e2 : (ws l t).getD (t - 2) 0 = x2) (e7 : (ws l t).getD (t - 7) 0 = x7) (e15 : (ws l t).getD (t - 15) 0 = x15) (e16 : (ws l t).getD (t - 16) 0 = x16) :
    W.cell? ⟨w.heap.size + 1, t - 2, none⟩ = some (.int .u32 (I x2)) ∧ W.cell? ⟨w.heap.size + 1, t - 7, none⟩ = some (.int .u32 (I x7)) ∧ W.cell? ⟨w.heap.size + 1, t - 15, none⟩ = some (.int .u32 (I x15)) ∧ W.cell? ⟨w.heap.size + 1, t - 16, none⟩ = some (.int .u32 (I x16)) ∧ W.cell? ⟨w.heap.size + 1, t, none⟩ = some (vof W ⟨w.heap.size + 1, t, none⟩) ∧ W.frozen? ⟨w.heap.size + 1, t, none⟩ = false ∧ Hid (TRel w l t W) := by
  subst e2 e7 e15 e16
  exact ⟨h.at' h2 _ (by omega), h.at' h2 _ (by omega), h.at' h2 _ (by omega), h.at' h2 _ (by omega), h.has h2, h.fr t, h⟩

set_option maxRecDepth 100000 in
set_option maxHeartbeats 1000000 in
theorem spread_any (a : Option Addr) (c : Nat) (l : List Int) (w : World) (h : Bytes w a 64 c l) :
    Calls Try.prog 35 #[.slice a 64 c] w fun e w' => e = .returned (.agg (cells32 (ws l 64))) ∧ Below w.heap.size w w' := by
  obtain ⟨b, off, rfl, hc⟩ := h.at'.resolve_left (by omega)
  have hm := h.most; have hk := h.cap
  have HB := Lib.hid h.all
  have HC := Lib.hid hc
  clear h hc
  go_enter Try.func35, Try.ntmps35
  go_wp2_with fail
  go_loopw [8] (fun i wr => ∃ t : Nat, t ≤ 16 ∧ i = .int .i64 t ∧ SRel w l t wr) (fun i _ => 16 - (intOf i).toNat)
  case atStart => exact ⟨0, by omega, rfl, Row.alloc (Row.made w _ (List.replicate 64 0)) _, Row.made2 w _ _ (List.replicate 64 0), ((Below.refl _ _).alloc (Nat.le_refl _) _).alloc (by simp) _⟩
  case round =>
    obtain ⟨t, ht, rfl, h2, h3, hb⟩ := hrel
    have H2 := Lib.hid h2; have H3 := Lib.hid h3; have HBl := Lib.hid hb
    clear h2 h3 hb
    by_cases htl : t < 16
    · go_wp2_with fail
      have hl0 := full_mid l t (by omega)
      have H3' := Lib.hid (show Row wr (w.heap.size + 1) 39 (mid l t 0) by rw [← hl0]; exact H3.out)
      clear hl0 H3
      obtain ⟨wo, rfl⟩ : ∃ wo : World, wo = wr := ⟨_, rfl⟩
      go_loopw [19] (fun j wi => ∃ k : Nat, k ≤ 4 ∧ j = .int .i64 k ∧ MRel w l t k wi) (fun j _ => 4 - (intOf j).toNat)
      case atStart => exact ⟨0, by omega, rfl, H2.out, H3'.out, HBl.out⟩
      case round =>
        clear H2 H3' HBl
        obtain ⟨k, hk, rfl, h2, h3, hb⟩ := hrel
        by_cases hk4 : k < 4
        · have cb := h3.cellAt t (by rw [mid_len l t k (by omega)]; omega)
          have fb := h3.frozenAt t
          rw [mid_at] at cb
          have cp := HC.out (4 * t + k) (by omega)
          rw [← hb.cell (World.block_lt_of_cell? w _ cp), ← Nat.add_assoc] at cp
          obtain ⟨p, hp⟩ : ∃ p, l.getD (4 * t + k) 0 = p := ⟨_, rfl⟩
          have hp0 := HB.out.getD (4 * t + k)
          rw [hp] at cp hp0
          obtain ⟨p0, p1⟩ := hp0
          have hst := Lib.hid (h3.stored t (wd l t (k + 1)))
          have H2 := Lib.hid h2; have H3 := Lib.hid h3; have HBl := Lib.hid hb; have HP := Lib.hid hp
          clear h2 h3 hb hp
          go_wp2_with fail
          go_roundw
          case rel =>
            refine ⟨k + 1, by omega, by go_num, ?_⟩
            have hn : I (wd l t k) * 256 % 4294967296 + p = I (wd l t (k + 1)) := by rw [next8 _ _ p0 p1, ← HP.out]; rfl
            rw [hn]
            have hs := hst.out
            rw [mid_set l t k _ rfl] at hs
            exact ⟨H2.out.other _ _ (by simp), hs, HBl.out.setCell (by simp) _⟩
          case measure => simp [intOf]; omega
        · obtain rfl : k = 4 := by omega
          have h3' := Lib.hid (show Row wr (w.heap.size + 1) 39 (full l (t + 1)) by rw [← mid_full l t htl]; exact h3)
          have H2 := Lib.hid h2; have HBl := Lib.hid hb
          clear h2 h3 hb
          go_wp2_with fail
          go_roundw
          case rel => exact ⟨t + 1, by omega, by go_num, H2.out, h3'.out, HBl.out⟩
          case measure => simp [intOf]; omega
    · obtain rfl : t = 16 := by omega
      go_wp2_with fail
      rw [show ((16 : Nat) : Int) = 16 from rfl]
      go_loopw [7] (fun i wr => ∃ t : Nat, 16 ≤ t ∧ t ≤ 64 ∧ i = .int .i64 t ∧ SRel w l t wr) (fun i _ => 64 - (intOf i).toNat)
      case atStart => exact ⟨16, by omega, by omega, rfl, H2.out, H3.out, HBl.out⟩
      case round =>
        clear H2 H3 HBl
        obtain ⟨t, ht0, ht1, rfl, hs⟩ := hrel
        by_cases h64 : t < 64
        · obtain ⟨x2, e2⟩ : ∃ x, (ws l t).getD (t - 2) 0 = x := ⟨_, rfl⟩
          obtain ⟨x7, e7⟩ : ∃ x, (ws l t).getD (t - 7) 0 = x := ⟨_, rfl⟩
          obtain ⟨x15, e15⟩ : ∃ x, (ws l t).getD (t - 15) 0 = x := ⟨_, rfl⟩
          obtain ⟨x16, e16⟩ : ∃ x, (ws l t).getD (t - 16) 0 = x := ⟨_, rfl⟩
          have hn : I (sml x2 17 19 10 + x7 + sml x15 7 18 3 + x16) = I (nxt (ws l t) t) := by rw [← e2, ← e7, ← e15, ← e16]; rfl
          have HN := Lib.hid hn; clear hn
          have HS := Lib.hid hs
          have E2 := Lib.hid e2; have E7 := Lib.hid e7; have E15 := Lib.hid e15; have E16 := Lib.hid e16
          clear hs e2 e7 e15 e16
          have i0 : ((t : Int) - 2).toNat = t - 2 := by omega
          have i1 : ((t : Int) - 7).toNat = t - 7 := by omega
          have i2 : ((t : Int) - 15).toNat = t - 15 := by omega
          have i3 : ((t : Int) - 16).toNat = t - 16 := by omega
          have j0 : (0 : Int) ≤ (t : Int) - 2 := by omega
          have j1 : (0 : Int) ≤ (t : Int) - 7 := by omega
          have j2 : (0 : Int) ≤ (t : Int) - 15 := by omega
          have j3 : (0 : Int) ≤ (t : Int) - 16 := by omega
          have q0 : (2 : Int) ≤ t := by omega
          have q1 : (7 : Int) ≤ t := by omega
          have q2 : (15 : Int) ≤ t := by omega
          have q3 : (16 : Int) ≤ t := by omega
          have r0 : (t : Int) - 2 < 64 := by omega
          have r1 : (t : Int) - 7 < 64 := by omega
          have r2 : (t : Int) - 15 < 64 := by omega
          have r3 : (t : Int) - 16 < 64 := by omega
          have k0 : IntKind.i64.wrap ((t : Int) - 2) = (t : Int) - 2 := IntWalk.i64_in _ (by omega)
          have k1 : IntKind.i64.wrap ((t : Int) - 7) = (t : Int) - 7 := IntWalk.i64_in _ (by omega)
          have k2 : IntKind.i64.wrap ((t : Int) - 15) = (t : Int) - 15 := IntWalk.i64_in _ (by omega)
          have k3 : IntKind.i64.wrap ((t : Int) - 16) = (t : Int) - 16 := IntWalk.i64_in _ (by omega)
          go_wp2_with fail
          go_region_held3 (fun W => W.cell? ⟨w.heap.size + 1, t - 2, none⟩ = some (.int .u32 (I x2)) ∧ W.cell? ⟨w.heap.size + 1, t - 7, none⟩ = some (.int .u32 (I x7)) ∧ W.cell? ⟨w.heap.size + 1, t - 15, none⟩ = some (.int .u32 (I x15)) ∧ W.cell? ⟨w.heap.size + 1, t - 16, none⟩ = some (.int .u32 (I x16)) ∧ W.cell? ⟨w.heap.size + 1, t, none⟩ = some (vof W ⟨w.heap.size + 1, t, none⟩) ∧ W.frozen? ⟨w.heap.size + 1, t, none⟩ = false ∧ Hid (TRel w l t W)) (first
            | exact held_mk ht0 h64 (.inl (HS.out.drewN _)) E2.out E7.out E15.out E16.out
            | exact held_mk ht0 h64 (.inr (st_rel (HS.out.drewN _) ht0 h64 (by rw [I_add, I_add, I_add]; exact HN.out))) E2.out E7.out E15.out E16.out
            | assumption) (first
            | (go_at_call 48; (with_reducible refine (small_a _ _).mono ?_); rintro e w' ⟨rfl, m, rfl⟩)
            | (go_at_call 48; (with_reducible refine (small_b _ _).mono ?_); rintro e w' ⟨rfl, m, rfl⟩))
          clear i0 i1 i2 i3 j0 j1 j2 j3 q0 q1 q2 q3 r0 r1 r2 r3 k0 k1 k2 k3
          go_wp2
          go_roundw
          case rel =>
            refine ⟨t + 1, by omega, by omega, by go_num, st_rel (HS.out.drewN _) ht0 h64 ?_⟩
            first
              | (rw [I_add, I_add, I_add]; exact HN.out)
              | (rw [← HN.out]; simp only [modI, BitVec.ofInt_add, ofInt_I])
          case measure => simp [intOf]; omega
        · obtain rfl : t = 64 := by omega
          obtain ⟨h2, h3, hb⟩ := hs
          have H2 := Lib.hid h2; have H3 := Lib.hid h3; have HBl := Lib.hid hb
          clear h2 h3 hb
          go_wp2_with (first
            | (refine wpList_load_32 rfl 39 (.tmp 3) rfl rfl H3.out Try.underlying39 rfl (n := 64) (by kernel_rfl) (full_len l 64 (by omega)) ?_)
            | (refine wpList_store_32 rfl 39 (.tmp 2) _ rfl rfl (L := full l 64) rfl H2.out (n := 64) (by kernel_rfl) (full_len l 64 (by omega)) rfl ?_))
          refine bodyPost_ret (v := .agg (cells32 (ws l 64))) ?_ rfl ⟨rfl, below_setRow HBl.out (Nat.le_refl _) _⟩
          have hr := H2.out.setRow (full l 64)
          rw [full_64] at hr ⊢
          exact results_cell_row rfl _ _ w.heap.size _ _ _ _ rfl hr Try.underlying39 rfl (by rw [cells32_size, ws_len]; kernel_rfl)

end Go.Proofs.Ytlpiacofnciodaa.sh
