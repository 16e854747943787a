/-
  Contracts of the document's great numbers of layer 2: products and powers.
-/
import Derived.Test.YtlpiacofnciodaaLimbs
import Derived.Test.YtlpiacofnciodaaU64s
namespace Go.Proofs.Ytlpiacofnciodaa.rs
open Go.ChangeShapes Go.WideShapes Go.ChangeAt Go.RowKit
open bs
set_option linter.unusedVariables false

theorem u64T : U64T Try.prog 57 43 := ⟨Try.underlying57, by kernel_rfl⟩

def LRel (w : World) (l : List Int) (x : Int) (i : Nat) (out over : Value) (wr : World) : Prop :=
  ∃ (a : Option Addr) (c : Nat) (r : List Int) (o : Int), out = .slice a i c ∧ over = .int .u64 o ∧ OwnU wr w.heap.size 43 a i c r ∧ Below w.heap.size w wr ∧ Limbs r ∧ 0 ≤ o ∧ o ≤ x ∧ val r + 65536 ^ i * o = val (l.take i) * x

def ORel (w : World) (v : Int) (len : Nat) (x : Int) (j : Nat) (out over : Value) (wr : World) : Prop :=
  ∃ (a : Option Addr) (c : Nat) (r : List Int) (o : Int), out = .slice a (len + j) c ∧ over = .int .u64 o ∧ OwnU wr w.heap.size 43 a (len + j) c r ∧ Below w.heap.size w wr ∧ Limbs r ∧ 0 ≤ o ∧ o * 65536 ^ j ≤ x ∧ val r + 65536 ^ (len + j) * o = v

def LPost (w : World) (v : Int) (len : Nat) (e : Ending) (w' : World) : Prop :=
  ∃ (a : Option Addr) (c : Nat) (r : List Int), e = .returned (.slice a len c) ∧ OwnU w' w.heap.size 43 a len c r ∧ Below w.heap.size w w' ∧ Limbs r ∧ val r = v

theorem limbs_all {l : List Int} (h : Limbs l) : AllU l := fun x hx => by have := h x hx; omega

theorem over_small (o : Int) (j : Nat) (x : Int) (h0 : 0 ≤ o) (h : o * 65536 ^ j ≤ x) : o / 65536 * 65536 ^ (j + 1) ≤ x := by
  have hp := pow_pos16 j
  have : o / 65536 * 65536 ≤ o := by omega
  have h2 := Int.mul_le_mul_of_nonneg_right this (Int.le_of_lt hp)
  rw [Int.pow_succ, Int.mul_comm (65536 ^ j) 65536, ← Int.mul_assoc]
  omega
theorem over_le (o : Int) (j : Nat) (x : Int) (h0 : 0 ≤ o) (h : o * 65536 ^ j ≤ x) : o ≤ x := by
  have hp := pow_pos16 j
  have h2 := Int.mul_le_mul_of_nonneg_left (show (1 : Int) ≤ 65536 ^ j by omega) h0
  rw [Int.mul_one] at h2
  omega

set_option maxRecDepth 100000 in
set_option maxHeartbeats 1000000 in
theorem times_any (a : Option Addr) (n c : Nat) (l : List Int) (x : Int) (w : World) (h : U64s w a n c l) (hl : Limbs l) (hn : n ≤ 1000) (x0 : 0 ≤ x) (x1 : x ≤ 4398046511104) :
    Calls Try.prog 50 #[.slice a n c, .int .u64 x] w (LPost w (val l * x) (n + 4)) := by
  have HX := Lib.hid h
  have HL := Lib.hid hl
  have hcap := h.cap
  have hmost := h.most
  clear h hl
  go_enter Try.func50, Try.ntmps50
  go_wp2
  go_loopw [5, 6, 7] (fun out over i wr => ∃ k : Nat, k ≤ n ∧ i = .int .i64 k ∧ LRel w l x k out over wr) (fun _ _ i _ => n - (intOf i).toNat)
  case atStart => exact ⟨0, by omega, rfl, _, 0, [], 0, rfl, rfl, OwnU.made _ _ _ [] _ rfl (Nat.le_refl _) (by simp [maxLen]) (by simp [AllU]), (Below.refl _ _).alloc (Nat.le_refl _) _, by simp [Limbs], by omega, by omega, by simp [val]⟩
  case round =>
    obtain ⟨k, hk, rfl, a1, c1, r, o, rfl, rfl, ho, hb, hr, o0, o1, hv⟩ := hrel
    have HO := Lib.hid ho; have HB := Lib.hid hb; have HR := Lib.hid hr; have HV := Lib.hid hv
    have hs := hb.size
    have hlen := Lib.hid ho.len
    clear ho hb hr hv
    by_cases hkn : k < n
    · obtain ⟨b, off, rfl, hc⟩ := HX.out.at'.resolve_left (by omega)
      have c0 := (U64s.below HX.out HB.out)
      obtain ⟨b', off', hab, hc'⟩ := c0.at'.resolve_left (by omega)
      simp only [Option.some.injEq, Addr.mk.injEq, and_true] at hab
      obtain ⟨rfl, rfl⟩ := hab
      have cell := hc' k hkn
      have hlk : k < l.length := by rw [HX.out.len]; exact hkn
      have hpl := HL.out (l.getD k 0) (by rw [List.getD_eq_getElem?_getD, List.getElem?_eq_getElem hlk]; exact List.getElem_mem hlk)
      clear hc hc' c0
      obtain ⟨p, hp⟩ : ∃ p, l.getD k 0 = p := ⟨_, rfl⟩
      rw [hp] at cell hpl
      obtain ⟨p0, p1⟩ := hpl
      have HP := Lib.hid hp; clear hp
      have m0 : 0 ≤ p * x := Int.mul_nonneg p0 x0
      have m1 : p * x ≤ 65535 * x := Int.mul_le_mul_of_nonneg_right (by omega) x0
      obtain ⟨m, hm⟩ : ∃ m, p * x = m := ⟨_, rfl⟩
      rw [hm] at m0 m1
      have hm2 := hm
      have HM := Lib.hid hm2; clear hm2
      go_wp2_with (at_builtin; refine wpList_append_U u64T rfl _ _ rfl w.heap.size rfl (HO.out.alloc _) rfl (U64s.one _ _ _ ?_) ?_ ?_ ?_)
      · omega
      · omega
      · simp; omega
      intro a2 c2 w' ho2 hb2 _
      have HO2 := Lib.hid ho2; have HB2 := Lib.hid ((HB.out.alloc hs _).trans hb2); clear ho2 hb2
      clear hm
      go_wp2
      go_roundw
      case rel =>
        have hst := times_step r l k x o p (by rw [hlen.out]) HV.out (by rw [HX.out.len]; exact hkn) HP.out
        rw [HM.out] at hst
        exact ⟨k + 1, by omega, by go_num, a2, c2, _, _, rfl, rfl, HO2.out, HB2.out, limbs_append HR.out (limbs_one (by omega)), by omega, by omega, hst⟩
      case measure => simp [intOf]; omega
    · obtain rfl : k = n := by omega
      have hv0 : val r + 65536 ^ (k + 0) * o = val l * x := by
        have := HV.out
        rw [List.take_of_length_le (by rw [HX.out.len]; omega)] at this
        exact this
      have HV0 := Lib.hid hv0; clear hv0
      go_wp2
      go_loopw [5, 6, 9] (fun out over j wr => ∃ i : Nat, i ≤ 4 ∧ j = .int .i64 i ∧ ORel w (val l * x) k x i out over wr) (fun _ _ j _ => 4 - (intOf j).toNat)
      case atStart => exact ⟨0, by omega, rfl, a1, c1, r, o, rfl, rfl, HO.out, HB.out, HR.out, o0, by simp; exact o1, HV0.out⟩
      case round =>
        obtain ⟨i, hi, rfl, a3, c3, r3, o3, rfl, rfl, ho3, hb3, hr3, z0, z1, hv3⟩ := hrel
        have HO3 := Lib.hid ho3; have HB3 := Lib.hid hb3; have HR3 := Lib.hid hr3; have HV3 := Lib.hid hv3; have HZ := Lib.hid z1
        have hs3 := hb3.size
        have hlen3 := Lib.hid ho3.len
        have zle := over_le o3 i x z0 z1
        clear ho3 hb3 hr3 hv3 z1
        by_cases hi4 : i < 4
        · go_wp2_with (at_builtin; refine wpList_append_U u64T rfl _ _ rfl w.heap.size rfl (HO3.out.alloc _) rfl (U64s.one _ _ _ ?_) ?_ ?_ ?_)
          · omega
          · omega
          · simp; omega
          intro a2 c2 w' ho2 hb2 _
          have HO2 := Lib.hid ho2; have HB2 := Lib.hid ((HB3.out.alloc hs3 _).trans hb2); clear ho2 hb2
          go_wp2
          go_roundw
          case rel => exact ⟨i + 1, by omega, by go_num, a2, c2, _, _, by rfl, rfl, HO2.out, HB2.out, limbs_append HR3.out (limbs_one (by omega)), by omega, over_small o3 i x z0 HZ.out, over_step r3 (k + i) o3 _ hlen3.out HV3.out⟩
          case measure => simp [intOf]; omega
        · obtain rfl : i = 4 := by omega
          have hz : o3 = 0 := by
            have := HZ.out
            have e : (65536 : Int) ^ 4 = 18446744073709551616 := by decide
            rw [e] at this
            omega
          have hfin : val r3 = val l * x := by
            have := HV3.out
            rw [hz] at this
            simpa using this
          have HF := Lib.hid hfin; clear hfin hz
          go_wp2
          go_ret
          exact ⟨a3, c3, r3, rfl, HO3.out, HB3.out, HR3.out, HF.out⟩

end Go.Proofs.Ytlpiacofnciodaa.rs
