/-
  Contracts of the document's great numbers of layer 2: powers, comparisons, shifted numbers.
-/
import Derived.Test.YtlpiacofnciodaaTimes
import Derived.Test.YtlpiacofnciodaaRootPlain
import Derived.WalkLawsBesides
namespace Go.Proofs.Ytlpiacofnciodaa.rs
open Go.ChangeShapes Go.WideShapes Go.ChangeAt Go.RowKit
open bs
set_option linter.unusedVariables false

def PRel (w : World) (x : Int) (i : Nat) (out : Value) (wr : World) : Prop :=
  ∃ (a : Option Addr) (n c : Nat) (r : List Int), out = .slice a n c ∧ n = 1 + 4 * i ∧ OwnU wr w.heap.size 43 a n c r ∧ Below w.heap.size w wr ∧ Limbs r ∧ val r = x ^ i
def ZRel (w : World) (v : Int) (out : Value) (wr : World) : Prop :=
  ∃ (a : Option Addr) (n c : Nat) (r : List Int), out = .slice a n c ∧ n ≤ 20 ∧ OwnU wr w.heap.size 43 a n c r ∧ Below w.heap.size w wr ∧ Limbs r ∧ val r = v
def lenOf : Value → Nat | .slice _ n _ => n | _ => 0

set_option maxRecDepth 100000 in
set_option maxHeartbeats 1000000 in
theorem power_any (x : Int) (m : Nat) (w : World) (x0 : 0 ≤ x) (x1 : x ≤ 4398046511104) (hm : m ≤ 4) :
    Calls Try.prog 41 #[.int .u64 x, .int .i64 m] w (LPost w (x ^ m) 20) := by
  go_enter Try.func41, Try.ntmps41
  go_wp2
  go_loopw [5, 6] (fun out i wr => ∃ k : Nat, k ≤ m ∧ i = .int .i64 k ∧ PRel w x k out wr) (fun _ i _ => m - (intOf i).toNat)
  case atStart => exact ⟨0, by omega, rfl, _, 1, 1, [1], rfl, rfl, OwnU.made _ _ _ [1] _ rfl (Nat.le_refl _) (by simp [maxLen]) (by simp [AllU]), (Below.refl _ _).alloc (Nat.le_refl _) _, by simp [Limbs], by simp [val]⟩
  case round =>
    obtain ⟨k, hk, rfl, a1, n1, c1, r, rfl, hn1, ho, hb, hr, hv⟩ := hrel
    have hn1' : n1 ≤ 1000 := by omega
    have HN := Lib.hid hn1; clear hn1
    have HO := Lib.hid ho; have HB := Lib.hid hb; have HR := Lib.hid hr; have HV := Lib.hid hv
    have hs := hb.size
    clear ho hb hr hv
    by_cases hkm : k < m
    · go_wp2_with fail
      refine (times_any a1 n1 c1 r x wr HO.out.reads HR.out hn1' x0 x1).mono ?_
      rintro e w' ⟨a2, c2, r2, rfl, ho2, hb2, hr2, hv2⟩
      have HO2 := Lib.hid (ho2.mono hs); have HB2 := Lib.hid (HB.out.trans (hb2.mono hs)); have HR2 := Lib.hid hr2; have HV2 := Lib.hid hv2; clear ho2 hb2 hr2 hv2
      go_wp2
      go_roundw
      case rel => exact ⟨k + 1, by omega, by go_num, a2, n1 + 4, c2, r2, rfl, by have := HN.out; omega, HO2.out, HB2.out, HR2.out, by rw [HV2.out, HV.out, Int.pow_succ]⟩
      case measure => simp [intOf]; omega
    · obtain rfl : k = m := by omega
      have hn20 : n1 ≤ 20 := by have := HN.out; omega
      go_wp2
      go_loopw [5] (fun out wr => ZRel w (x ^ k) out wr) (fun out _ => 20 - lenOf out)
      case atStart => exact ⟨a1, n1, c1, r, rfl, hn20, HO.out, HB.out, HR.out, HV.out⟩
      case round =>
        obtain ⟨a3, n3, c3, r3, rfl, hn3, ho3, hb3, hr3, hv3⟩ := hrel
        have HO3 := Lib.hid ho3; have HB3 := Lib.hid hb3; have HR3 := Lib.hid hr3; have HV3 := Lib.hid hv3
        have hs3 := hb3.size
        clear ho3 hb3 hr3 hv3
        by_cases h20 : n3 < 20
        · go_wp2_with (at_builtin; refine wpList_append_U u64T rfl _ _ rfl w.heap.size rfl (HO3.out.alloc _) rfl (U64s.one _ _ _ ?_) ?_ ?_ ?_)
          · omega
          · omega
          · simp; omega
          intro a2 c2 w' ho2 hb2 _
          have HO2 := Lib.hid ho2; have HB2 := Lib.hid ((HB3.out.alloc hs3 _).trans hb2); clear ho2 hb2
          go_wp2
          go_roundw
          case rel => exact ⟨a2, n3 + 1, c2, _, rfl, by omega, HO2.out, HB2.out, limbs_append HR3.out (limbs_one (by omega)), by rw [← HV3.out]; exact val_zeros r3 1⟩
          case measure => simp [lenOf]; omega
        · obtain rfl : n3 = 20 := by omega
          go_wp2
          go_ret
          exact ⟨a3, c3, r3, rfl, HO3.out, HB3.out, HR3.out, HV3.out⟩

theorem most_end (x y : List Int) (h : x.drop 0 = y.drop 0) : decide (val x ≤ val y) = true := by
  simp only [List.drop_zero] at h
  rw [h]
  simp

set_option maxRecDepth 100000 in
set_option maxHeartbeats 1000000 in
theorem most_any (a : Option Addr) (n c : Nat) (x : List Int) (a' : Option Addr) (n' c' : Nat) (y : List Int) (w : World) (h : U64s w a n c x) (h' : U64s w a' n' c' y) (hn : n = 20) (hn' : n' = 20) (lx : Limbs x) (ly : Limbs y) :
    Calls Try.prog 40 #[.slice a n c, .slice a' n' c'] w fun e w' => e = .returned (.bool (decide (val x ≤ val y))) ∧ ∃ m, w' = w.drewN m := by
  subst hn hn'
  obtain ⟨b, off, rfl, hc⟩ := h.at'.resolve_left (by omega)
  obtain ⟨b', off', rfl, hc'⟩ := h'.at'.resolve_left (by omega)
  have hm := h.most; have hm' := h'.most; have hk := h.cap; have hk' := h'.cap
  have X := Lib.hid h.len; have Y := Lib.hid h'.len
  have HC := Lib.hid hc; have HC' := Lib.hid hc'; have LX := Lib.hid lx; have LY := Lib.hid ly
  clear h h' hc hc' lx ly
  go_enter Try.func40, Try.ntmps40
  go_wp2
  go_loopw [5] (fun i wr => ∃ k m : Nat, k ≤ 20 ∧ i = .int .i64 ((k : Int) - 1) ∧ wr = w.drewN m ∧ Hid (x.drop k = y.drop k)) (fun i _ => (intOf i + 1).toNat)
  case atStart => exact ⟨20, 0, by omega, rfl, rfl, by show x.drop 20 = y.drop 20; rw [List.drop_of_length_le (by rw [X.out]; omega), List.drop_of_length_le (by rw [Y.out]; omega)]⟩
  case round =>
    obtain ⟨k, m, hk1, rfl, rfl, ht⟩ := hrel
    cases k with
    | zero =>
      have HF := Lib.hid (most_end x y ht.out)
      go_wp2
      go_ret
      exact ⟨by rw [HF.out]; rfl, m, rfl⟩
    | succ j =>
      have ix : ((j + 1 : Nat) : Int) - 1 = j := by omega
      rw [ix]
      clear ix
      have c1 := HC.out j (by omega)
      have c2 := HC'.out j (by omega)
      have jx : j < x.length := by rw [X.out]; omega
      have jy : j < y.length := by rw [Y.out]; omega
      have hcmp := Lib.hid (fun hne => cmp_at x y j LX.out LY.out jx jy ht.out hne)
      have hprd := Lib.hid (fun he => drop_eq_pred jx jy ht.out he)
      clear jx jy
      obtain ⟨p, hp⟩ : ∃ p, x.getD j 0 = p := ⟨_, rfl⟩
      obtain ⟨q, hq⟩ : ∃ q, y.getD j 0 = q := ⟨_, rfl⟩
      rw [hp] at c1 hcmp hprd
      rw [hq] at c2 hcmp hprd
      clear hp hq
      by_cases hd : p = q
      · subst hd
        have hbq : (p != p) = false := by simp
        have hpr := Lib.hid (hprd.out rfl)
        go_wp2_with fail
        go_quiet (fail)
        go_wp2
        go_roundw
        case rel => exact ⟨j, _, by omega, rfl, rfl, hpr.out⟩
        case measure => simp [intOf]
      · have hbq : (p != q) = true := by rw [bne_iff_ne]; exact hd
        have hpr : decide (val x ≤ val y) = decide (p < q) := by rw [decide_eq_decide]; exact hcmp.out hd
        have HPR := Lib.hid hpr
        have HD := Lib.hid hd
        clear hd hpr
        go_wp2_with fail
        go_quiet (fail)
        go_wp2_with fail
        go_quiet (fail)
        go_wp2
        go_ret
        exact ⟨by rw [HPR.out]; rfl, by simp only [World.drewN_drewN]; exact ⟨_, rfl⟩⟩

/-! ### shifted numbers -/
theorem clip_any (p : Int) (w : World) (h0 : -9223372036854775808 ≤ p) (h1 : p ≤ 9223372036854775807) :
    Calls Try.prog 39 #[.int .i64 p] w fun e w' => e = .returned (.int .u64 (clip p)) ∧ w = w' := by
  have hc : (clip p : Int) = min (max p 0) 65536 := by unfold clip; omega
  have HC := Lib.hid hc; clear hc
  by_cases a0 : p < 0
  · go_enter Try.func39, Try.ntmps39
    go_wp2
    go_ret
    exact ⟨by rw [HC.out]; rw [show min (max p 0) 65536 = 0 by omega]; rfl, rfl⟩
  · by_cases a1 : 65536 < p
    · go_enter Try.func39, Try.ntmps39
      go_wp2
      go_ret
      exact ⟨by rw [HC.out]; rw [show min (max p 0) 65536 = 65536 by omega]; rfl, rfl⟩
    · go_enter Try.func39, Try.ntmps39
      go_wp2
      go_ret
      exact ⟨by rw [HC.out]; rw [show min (max p 0) 65536 = p by omega]; rfl, rfl⟩

/-- A number with so many parts 0 ahead. -/
def shv (v : Int) (k : Nat) : Int := v * 65536 ^ k

theorem shifted_limbs4 (v : Int) (v0 : 0 ≤ v) (v1 : v ≤ 65536) : Limbs (((List.replicate 20 0).set 4 (v % 65536)).set 5 (v / 65536)) := by
  intro x hx
  rcases List.mem_or_eq_of_mem_set hx with h | h
  · rcases List.mem_or_eq_of_mem_set h with h | h
    · have := List.eq_of_mem_replicate h; omega
    · omega
  · omega
theorem shifted_val4 (v : Int) (v0 : 0 ≤ v) (v1 : v ≤ 65536) : val (((List.replicate 20 0).set 4 (v % 65536)).set 5 (v / 65536)) = shv v 4 := by
  simp only [List.replicate_succ, List.replicate_zero, List.set_cons_succ, List.set_cons_zero, val, shv]
  omega

theorem shifted_limbs6 (v : Int) (v0 : 0 ≤ v) (v1 : v ≤ 65536) : Limbs (((List.replicate 20 0).set 6 (v % 65536)).set 7 (v / 65536)) := by
  intro x hx
  rcases List.mem_or_eq_of_mem_set hx with h | h
  · rcases List.mem_or_eq_of_mem_set h with h | h
    · have := List.eq_of_mem_replicate h; omega
    · omega
  · omega
theorem shifted_val6 (v : Int) (v0 : 0 ≤ v) (v1 : v ≤ 65536) : val (((List.replicate 20 0).set 6 (v % 65536)).set 7 (v / 65536)) = shv v 6 := by
  simp only [List.replicate_succ, List.replicate_zero, List.set_cons_succ, List.set_cons_zero, val, shv]
  omega

set_option maxRecDepth 100000 in
set_option maxHeartbeats 1000000 in
theorem shifted4 (v : Int) (w : World) (v0 : 0 ≤ v) (v1 : v ≤ 65536) :
    Calls Try.prog 38 #[.int .u64 v, .int .i64 4] w (LPost w (shv v 4) 20) := by
  go_enter Try.func38, Try.ntmps38
  go_wp2_with (at_make; refine wpList_make_U u64T rfl _ _ rfl w.heap.size .i64 .i64 20 20 20 rfl rfl rfl rfl ?_ ?_ ?_)
  · omega
  · exact Nat.le_refl _
  intro w1 ho hb hsz
  have c4 := ho.cellAt 4 (by omega)
  have f4 := ho.frozenAt 4
  have c5 := ho.cellAt 5 (by omega)
  have f5 := ho.frozenAt 5
  have HO := Lib.hid (((ho.stored 4 (v % 65536) (by omega)).stored 5 (v / 65536) (by omega)))
  have HB := Lib.hid ((hb.setCell (p := ⟨w.heap.size, 4, none⟩) (Nat.le_refl _) (.int .u64 (v % 65536))).setCell (p := ⟨w.heap.size, 5, none⟩) (Nat.le_refl _) (.int .u64 (v / 65536)))
  clear ho hb
  go_wp2
  go_ret
  exact ⟨_, _, _, rfl, HO.out, HB.out, shifted_limbs4 v v0 v1, shifted_val4 v v0 v1⟩

set_option maxRecDepth 100000 in
set_option maxHeartbeats 1000000 in
theorem shifted6 (v : Int) (w : World) (v0 : 0 ≤ v) (v1 : v ≤ 65536) :
    Calls Try.prog 38 #[.int .u64 v, .int .i64 6] w (LPost w (shv v 6) 20) := by
  go_enter Try.func38, Try.ntmps38
  go_wp2_with (at_make; refine wpList_make_U u64T rfl _ _ rfl w.heap.size .i64 .i64 20 20 20 rfl rfl rfl rfl ?_ ?_ ?_)
  · omega
  · exact Nat.le_refl _
  intro w1 ho hb hsz
  have c4 := ho.cellAt 6 (by omega)
  have f4 := ho.frozenAt 6
  have c5 := ho.cellAt 7 (by omega)
  have f5 := ho.frozenAt 7
  have HO := Lib.hid (((ho.stored 6 (v % 65536) (by omega)).stored 7 (v / 65536) (by omega)))
  have HB := Lib.hid ((hb.setCell (p := ⟨w.heap.size, 6, none⟩) (Nat.le_refl _) (.int .u64 (v % 65536))).setCell (p := ⟨w.heap.size, 7, none⟩) (Nat.le_refl _) (.int .u64 (v / 65536)))
  clear ho hb
  go_wp2
  go_ret
  exact ⟨_, _, _, rfl, HO.out, HB.out, shifted_limbs6 v v0 v1, shifted_val6 v v0 v1⟩

end Go.Proofs.Ytlpiacofnciodaa.rs
