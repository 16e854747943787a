/-
  The contract of layer 4's 'Same', and the walk of the statement on it.
-/
import Derived.Test.YtejhncdempfmjaaSame
namespace Go.Proofs.Ytejhncdempfmjaa.bs
open Go.ChangeShapes Go.WideShapes Go.ChangeAt Go.RowKit
set_option linter.unusedVariables false

theorem u8_wrap (x : Nat) (h : x < 256) : IntKind.u8.wrap (x : Int) = x := by
  simp only [IntKind.wrap, IntKind.signed, IntKind.bits, Bool.false_and]
  rw [if_neg (by simp)]
  omega
theorem u8_xor (p q : Int) : bits .xor .u8 p q = ((BitVec.ofInt 8 p ^^^ BitVec.ofInt 8 q).toNat : Int) := by
  show IntKind.u8.wrap ((BitVec.ofInt 8 p ^^^ BitVec.ofInt 8 q).toNat : Int) = _
  exact u8_wrap _ (BitVec.isLt _)
theorem u8_or (p q : Int) : bits .or .u8 p q = ((BitVec.ofInt 8 p ||| BitVec.ofInt 8 q).toNat : Int) := by
  show IntKind.u8.wrap ((BitVec.ofInt 8 p ||| BitVec.ofInt 8 q).toNat : Int) = _
  exact u8_wrap _ (BitVec.isLt _)
theorem ofInt8_inj (p q : Int) (p0 : 0 ≤ p) (p1 : p ≤ 255) (q0 : 0 ≤ q) (q1 : q ≤ 255) (h : BitVec.ofInt 8 p = BitVec.ofInt 8 q) : p = q := by
  have := congrArg BitVec.toNat h
  simp only [BitVec.toNat_ofInt] at this
  omega
theorem or_xor_zero (z p q : Int) (z0 : 0 ≤ z) (z1 : z ≤ 255) (p0 : 0 ≤ p) (p1 : p ≤ 255) (q0 : 0 ≤ q) (q1 : q ≤ 255) :
    (bits .or .u8 z (bits .xor .u8 p q) = 0 ↔ z = 0 ∧ p = q) ∧ 0 ≤ bits .or .u8 z (bits .xor .u8 p q) ∧ bits .or .u8 z (bits .xor .u8 p q) ≤ 255 := by
  have lt := (BitVec.ofInt 8 z ||| BitVec.ofInt 8 (bits .xor .u8 p q)).isLt
  rw [u8_or]
  refine ⟨?_, by omega, by omega⟩
  have e : BitVec.ofInt 8 (bits .xor .u8 p q) = BitVec.ofInt 8 p ^^^ BitVec.ofInt 8 q := by
    rw [u8_xor, BitVec.ofInt_natCast, BitVec.ofNat_toNat, BitVec.setWidth_eq]
  rw [e]
  constructor
  · intro h
    have h' : BitVec.ofInt 8 z ||| (BitVec.ofInt 8 p ^^^ BitVec.ofInt 8 q) = 0#8 := BitVec.eq_of_toNat_eq (by simpa using h)
    rw [BitVec.or_eq_zero_iff, BitVec.xor_eq_zero_iff] at h'
    exact ⟨ofInt8_inj z 0 z0 z1 (by omega) (by omega) (by rw [h'.1]; rfl), ofInt8_inj p q p0 p1 q0 q1 h'.2⟩
  · rintro ⟨rfl, rfl⟩
    simp

theorem take_step {x y : List Int} {k : Nat} {z p q : Int} (hx : k < x.length) (hy : k < y.length) (hp : x.getD k 0 = p) (hq : y.getD k 0 = q) (h : z = 0 ↔ x.take k = y.take k) {v : Int} (hv : v = 0 ↔ z = 0 ∧ p = q) :
    v = 0 ↔ x.take (k + 1) = y.take (k + 1) := by
  rw [hv, h, take_getD hx, take_getD hy, hp, hq]
  constructor
  · rintro ⟨a, b⟩; rw [a, b]
  · intro e
    have := List.append_inj' e rfl
    exact ⟨this.1, by simpa using this.2⟩

set_option maxHeartbeats 400000 in
theorem psame_any (a : Option Addr) (n c : Nat) (x : List Int) (a' : Option Addr) (n' c' : Nat) (y : List Int) (w : World) (hx : Bytes w a n c x) (hy : Bytes w a' n' c' y) :
    Calls Try.prog 57 #[.slice a n c, .slice a' n' c'] w fun e w' => e = .returned (.bool (x == y)) ∧ ∃ m, w' = w.drewN m := by
  have hm := hx.most
  have hm' := hy.most
  have hk := hx.cap
  have hk' := hy.cap
  have lx := Lib.hid hx.len
  have ly := Lib.hid hy.len
  by_cases hl : n = n'
  · subst hl
    have hne : ((n : Int) != (n : Int)) = false := by simp
    by_cases hn : n = 0
    · subst hn
      have e : (x == y) = true := by rw [beq_iff_eq, List.eq_nil_of_length_eq_zero lx.out, List.eq_nil_of_length_eq_zero ly.out]
      have HE := Lib.hid e; clear e
      go_enter Try.func57, Try.ntmps57
      go_wp2
      go_loopw [5, 14] (fun u i wr => u = .int .u8 0 ∧ i = .int .i64 0 ∧ wr = w) (fun _ _ _ => 0)
      case atStart => exact ⟨rfl, rfl, rfl⟩
      case round =>
        obtain ⟨rfl, rfl, rfl⟩ := hrel
        go_wp2
        go_ret
        exact ⟨ret_bool HE.out.symm, 0, rfl⟩
    · obtain ⟨b, off, rfl, hc⟩ := hx.at'.resolve_left hn
      obtain ⟨b', off', rfl, hc'⟩ := hy.at'.resolve_left hn
      have HC := Lib.hid hc; clear hc
      have HC' := Lib.hid hc'; clear hc'
      have bx := Lib.hid hx.all
      have by' := Lib.hid hy.all
      clear hx hy
      go_enter Try.func57, Try.ntmps57
      go_wp2
      go_loopw [5, 14] (fun u i wr => ∃ (k m : Nat) (z : Int), k ≤ n ∧ i = .int .i64 k ∧ wr = w.drewN m ∧ u = .int .u8 z ∧ 0 ≤ z ∧ z ≤ 255 ∧ Hid (z = 0 ↔ x.take k = y.take k)) (fun _ i _ => n - (intOf i).toNat)
      case atStart => exact ⟨0, 0, 0, by omega, rfl, rfl, rfl, by omega, by omega, ⟨fun _ => rfl, fun _ => rfl⟩⟩
      case round =>
        obtain ⟨k, m, z, hk1, rfl, rfl, rfl, hz0, hz1, ht⟩ := hrel
        by_cases hkn : k < n
        · have c1 := HC.out k hkn
          have c2 := HC'.out k hkn
          obtain ⟨p, hp⟩ : ∃ p, x.getD k 0 = p := ⟨_, rfl⟩
          obtain ⟨q, hq⟩ : ∃ q, y.getD k 0 = q := ⟨_, rfl⟩
          rw [hp] at c1
          rw [hq] at c2
          have HP := Lib.hid hp; have HQ := Lib.hid hq; clear hp hq
          go_wp2_with fail
          go_quiet (fail)
          go_wp2
          have hb := or_xor_zero z p q hz0 hz1 (by rw [← HP.out]; exact (bx.out.getD k).1) (by rw [← HP.out]; exact (bx.out.getD k).2) (by rw [← HQ.out]; exact (by'.out.getD k).1) (by rw [← HQ.out]; exact (by'.out.getD k).2)
          go_roundw
          case rel => exact ⟨k + 1, _, _, by omega, by go_num, rfl, rfl, hb.2.1, hb.2.2, take_step (by rw [lx.out]; exact hkn) (by rw [ly.out]; exact hkn) HP.out HQ.out ht.out hb.1⟩
          case measure => simp [intOf]; omega
        · obtain rfl : k = n := by omega
          have e : (x == y) = (z == 0) := by
            have e := ht.out
            rw [List.take_of_length_le (by rw [lx.out]; omega), List.take_of_length_le (by rw [ly.out]; omega)] at e
            rw [Bool.eq_iff_iff, beq_iff_eq, beq_iff_eq, e]
          have HE := Lib.hid e; clear e
          go_wp2
          go_ret
          exact ⟨ret_bool HE.out.symm, m, rfl⟩
  · have e : (x == y) = false := by rw [beq_eq_false_iff_ne]; intro h; exact hl (by rw [← lx.out, ← ly.out, h])
    have hne : ((n : Int) != (n' : Int)) = true := by rw [bne_iff_ne]; omega
    rw [e]
    clear e
    go_enter Try.func57, Try.ntmps57
    go_wp2
    go_ret
    exact ⟨rfl, 0, rfl⟩
end Go.Proofs.Ytejhncdempfmjaa.bs
