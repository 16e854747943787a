/-
  The walk of the statement of layer 2 on primes.
-/
import Derived.Test.YtjdgebafhcbfoaaPrimes
import Derived.Deep.QuietTactic
import Derived.BigQuiet
namespace Go.Proofs.Ytjdgebafhcbfoaa.rs
open Go.ChangeShapes Go.WideShapes Go.ChangeAt Go.RowKit
open bs
set_option linter.unusedVariables false

theorem cnt_three : cnt 3 = 3 := by decide

set_option maxRecDepth 100000 in
set_option maxHeartbeats 1000000 in
theorem primes_tail (n p q : Int) (w : World) (h0 : -9223372036854775808 ≤ n) (h1 : n ≤ 9223372036854775807) (p0 : -9223372036854775808 ≤ p) (p1 : p ≤ 9223372036854775807) (q0 : -9223372036854775808 ≤ q) (q1 : q ≤ 9223372036854775807) :
    Calls Try.prog 8 #[.int .i64 n, .int .i64 p, .int .i64 q] w fun e w' => e = .returned (.bool true) ∧ Below w.heap.size w w' := by
  have hc := cnt_le n
  have hne : ((cnt n : Int) != (cnt n : Int)) = false := by simp
  by_cases hpq : p ≤ q
  · have hsq := sq_mono hpq
    have hcu := cu_mono hpq
    have d0 : decide (p ≤ q) = true := decide_eq_true hpq
    have d1 : decide (sq q < sq p) = false := decide_eq_false (by omega)
    have d2 : decide (cu q < cu p) = false := decide_eq_false (by omega)
    go_enter Try.func8, Try.ntmps8
    go_wp2_with fail
    refine (primes_any n _ h0 h1).mono ?_
    rintro e w1 ⟨a1, c1, r1, rfl, ho1, hb1, hl1⟩
    have s1 := hb1.size
    have O1 := Lib.hid ho1; have B1 := Lib.hid hb1; have L1 := Lib.hid hl1; clear ho1 hb1 hl1
    go_wp2_with fail
    refine (rprimes_any n _ h0 h1).mono ?_
    rintro e w2 ⟨a2, c2, r2, rfl, ho2, hb2, hl2⟩
    have O2 := Lib.hid ho2; have B2 := Lib.hid (B1.out.trans (hb2.mono s1)); have L2 := Lib.hid hl2
    have O12 := Lib.hid (O1.out.reads.below hb2); clear ho2 hb2 hl2
    have s2 := B2.out.size
    go_wp2_with fail
    refine (square_any p _ p0 p1).mono ?_
    rintro e w3 ⟨rfl, hb3⟩
    go_wp2_with fail
    have s3 := hb3.size
    refine (square_any q _ q0 q1).mono ?_
    rintro e w4 ⟨rfl, hb4⟩
    go_wp2_with fail
    have s4 := hb4.size
    refine (cube_any p _ p0 p1).mono ?_
    rintro e w5 ⟨rfl, hb5⟩
    go_wp2_with fail
    have s5 := hb5.size
    refine (cube_any q _ q0 q1).mono ?_
    rintro e w6 ⟨rfl, hb6⟩
    have hb36 : Below w2.heap.size w2 w6 := hb3.trans ((hb4.mono s3).trans ((hb5.mono (by omega)).trans (hb6.mono (by omega))))
    have B6 := Lib.hid (B2.out.trans (hb36.mono s2))
    have X6 := Lib.hid (O12.out.below hb36)
    have Y6 := Lib.hid (O2.out.reads.below hb36)
    clear hb3 hb4 hb5 hb6 hb36 s3 s4 s5
    have EQ := Lib.hid (pl_eq (L1.out.trans L2.out.symm))
    go_wp2
    go_loopw [9] (fun i wr => ∃ k m : Nat, k ≤ cnt n ∧ i = .int .i64 k ∧ wr = w6.drewN m) (fun i _ => cnt n - (intOf i).toNat)
    case atStart => exact ⟨0, 0, by omega, rfl, rfl⟩
    case round =>
      obtain ⟨k, m, hk, rfl, rfl⟩ := hrel
      by_cases hkn : k < cnt n
      · obtain ⟨b, off, rfl, hcx⟩ := X6.out.at'.resolve_left (by omega)
        obtain ⟨b', off', rfl, hcy⟩ := Y6.out.at'.resolve_left (by omega)
        have e1 := hcx k hkn
        have e2 := hcy k hkn
        have xm := X6.out.most
        have ym := Y6.out.most
        have xc := X6.out.cap
        have yc := Y6.out.cap
        rw [EQ.out] at e1
        clear hcx hcy
        obtain ⟨v, hv⟩ : ∃ v, (pl r2).getD k 0 = v := ⟨_, rfl⟩
        rw [hv] at e1 e2
        clear hv
        have hb : (v != v) = false := by simp
        go_wp2_with fail
        go_quiet (fail)
        go_wp2
        go_roundw
        case rel => exact ⟨k + 1, _, by omega, by go_num, rfl⟩
        case measure => simp [intOf]; omega
      · obtain rfl : k = cnt n := by omega
        have s6 := B6.out.size
        go_wp2_with fail
        refine (primes_any 3 _ (by omega) (by omega)).mono ?_
        rintro e w9 ⟨a9, c9, r9, rfl, ho9, hb9, hl9⟩
        have B9 := Lib.hid ((below_drewN B6.out m).trans (hb9.mono (by simpa using s6)))
        clear ho9 hb9 hl9
        rw [cnt_three]
        go_wp2
        go_ret
        exact ⟨rfl, B9.out⟩
  · have d0 : decide (p ≤ q) = false := decide_eq_false hpq
    go_enter Try.func8, Try.ntmps8
    go_wp2_with fail
    refine (primes_any n _ h0 h1).mono ?_
    rintro e w1 ⟨a1, c1, r1, rfl, ho1, hb1, hl1⟩
    have s1 := hb1.size
    have O1 := Lib.hid ho1; have B1 := Lib.hid hb1; have L1 := Lib.hid hl1; clear ho1 hb1 hl1
    go_wp2_with fail
    refine (rprimes_any n _ h0 h1).mono ?_
    rintro e w2 ⟨a2, c2, r2, rfl, ho2, hb2, hl2⟩
    have Y6 := Lib.hid ho2.reads; have B6 := Lib.hid (B1.out.trans (hb2.mono s1)); have L2 := Lib.hid hl2
    have X6 := Lib.hid (O1.out.reads.below hb2); clear ho2 hb2 hl2
    have EQ := Lib.hid (pl_eq (L1.out.trans L2.out.symm))
    go_wp2
    go_loopw [9] (fun i wr => ∃ k m : Nat, k ≤ cnt n ∧ i = .int .i64 k ∧ wr = w2.drewN m) (fun i _ => cnt n - (intOf i).toNat)
    case atStart => exact ⟨0, 0, by omega, rfl, rfl⟩
    case round =>
      obtain ⟨k, m, hk, rfl, rfl⟩ := hrel
      by_cases hkn : k < cnt n
      · obtain ⟨b, off, rfl, hcx⟩ := X6.out.at'.resolve_left (by omega)
        obtain ⟨b', off', rfl, hcy⟩ := Y6.out.at'.resolve_left (by omega)
        have e1 := hcx k hkn
        have e2 := hcy k hkn
        have xm := X6.out.most
        have ym := Y6.out.most
        have xc := X6.out.cap
        have yc := Y6.out.cap
        rw [EQ.out] at e1
        clear hcx hcy
        obtain ⟨v, hv⟩ : ∃ v, (pl r2).getD k 0 = v := ⟨_, rfl⟩
        rw [hv] at e1 e2
        clear hv
        have hb : (v != v) = false := by simp
        go_wp2_with fail
        go_quiet (fail)
        go_wp2
        go_roundw
        case rel => exact ⟨k + 1, _, by omega, by go_num, rfl⟩
        case measure => simp [intOf]; omega
      · obtain rfl : k = cnt n := by omega
        have s6 := B6.out.size
        go_wp2_with fail
        refine (primes_any 3 _ (by omega) (by omega)).mono ?_
        rintro e w9 ⟨a9, c9, r9, rfl, ho9, hb9, hl9⟩
        have B9 := Lib.hid ((below_drewN B6.out m).trans (hb9.mono (by simpa using s6)))
        clear ho9 hb9 hl9
        rw [cnt_three]
        go_wp2
        go_ret
        exact ⟨rfl, B9.out⟩

end Go.Proofs.Ytjdgebafhcbfoaa.rs
