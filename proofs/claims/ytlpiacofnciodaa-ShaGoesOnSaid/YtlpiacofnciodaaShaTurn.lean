/-
  Layer 3: the contracts of turning, and of one round.
-/
import Derived.Test.YtlpiacofnciodaaShaPlain
import Derived.Test.YtlpiacofnciodaaOwn
import Derived.WalkLawsBesides
namespace Go.Proofs.Ytlpiacofnciodaa.sh
open Go.ChangeShapes Go.WideShapes Go.ChangeAt Go.RowKit
open bs
set_option linter.unusedVariables false

theorem ret_int {k : IntKind} {a b : Int} (h : a = b) : Ending.returned (.int k a) = .returned (.int k b) := by rw [h]

theorem and31 (n : Nat) (h1 : 1 ≤ n) (h2 : n ≤ 31) : bits .and .u64 (IntKind.u64.wrap (-(n : Int))) 31 = 32 - n := by
  have h : ∀ m : Fin 32, 1 ≤ m.val → bits .and .u64 (IntKind.u64.wrap (-(m.val : Int))) 31 = 32 - m.val := by decide +kernel
  exact h ⟨n, by omega⟩ h1

set_option maxHeartbeats 400000 in
theorem rl_any (x : BitVec 32) (n : Nat) (w : World) (h1 : 1 ≤ n) (h2 : n ≤ 31) :
    Calls Try.prog 52 #[.int .u32 (I x), .int .i64 (-(n : Int))] w fun e w' => e = .returned (.int .u32 (I (rotr x n))) ∧ w = w' := by
  have hs := and31 n h1 h2
  go_enter Try.func52, Try.ntmps52
  go_wp2
  go_ret
  refine ⟨ret_int ?_, rfl⟩
  rw [show 32 - (32 - n) = n by omega, I_shlm, I_shr, I_or]
  unfold rotr
  rw [BitVec.or_comm]

set_option maxHeartbeats 400000 in
theorem rot_any (x : BitVec 32) (n : Nat) (w : World) (h1 : 1 ≤ n) (h2 : n ≤ 31) :
    Calls Try.prog 51 #[.int .u32 (I x), .int .i64 n] w fun e w' => e = .returned (.int .u32 (I (rotr x n))) ∧ w = w' := by
  go_enter Try.func51, Try.ntmps51
  go_wp2_with fail
  refine (rl_any x n _ h1 h2).mono ?_
  rintro e w' ⟨rfl, rfl⟩
  go_wp2
  go_ret
  exact ⟨rfl, rfl⟩

theorem qs {P : Program} {f : FuncId} {args : Array Value} {w : World} {n : Nat} {v : Value}
    (h : Calls P f args (w.drewN n) fun e w' => e = .returned v ∧ w.drewN n = w') : Calls P f args (w.drewN n) fun e w'' => e = .returned v ∧ ∃ m, w'' = w.drewN m :=
  h.mono fun _ _ ⟨he, hm⟩ => ⟨he, n, hm.symm⟩

/-- The same behind an earlier quiet region, whose draws the walk adds. -/
theorem qa {P : Program} {f : FuncId} {args : Array Value} {w : World} {b n : Nat} {v : Value}
    (h : Calls P f args (w.drewN (b + n)) fun e w' => e = .returned v ∧ w.drewN (b + n) = w') : Calls P f args (w.drewN (b + n)) fun e w'' => e = .returned v ∧ ∃ m, w'' = w.drewN (b + m) :=
  h.mono fun _ _ ⟨he, hm⟩ => ⟨he, n, by rw [← hm]⟩

set_option maxHeartbeats 400000 in
theorem small_any (x : BitVec 32) (i j k : Nat) (w : World) (h1 : 1 ≤ i) (h2 : i ≤ 31) (g1 : 1 ≤ j) (g2 : j ≤ 31) (k1 : 1 ≤ k) (k2 : k ≤ 31) :
    Calls Try.prog 48 #[.int .u32 (I x), .int .i64 i, .int .i64 j, .int .i64 k] w fun e w' => e = .returned (.int .u32 (I (sml x i j k))) ∧ ∃ m, w' = w.drewN m := by
  go_enter Try.func48, Try.ntmps48
  go_wp2_with fail
  go_quiet ((go_at_call 51; exact qs (rot_any _ _ _ (by assumption) (by assumption))))
  go_wp2
  go_ret
  refine ⟨ret_int ?_, _, rfl⟩
  rw [I_xor, I_shr, I_xor]
  rfl

theorem small_a (x : BitVec 32) (w : World) : Calls Try.prog 48 #[.int .u32 (I x), .int .i64 17, .int .i64 19, .int .i64 10] w fun e w' => e = .returned (.int .u32 (I (sml x 17 19 10))) ∧ ∃ m, w' = w.drewN m :=
  small_any x 17 19 10 w (by omega) (by omega) (by omega) (by omega) (by omega) (by omega)
theorem small_b (x : BitVec 32) (w : World) : Calls Try.prog 48 #[.int .u32 (I x), .int .i64 7, .int .i64 18, .int .i64 3] w fun e w' => e = .returned (.int .u32 (I (sml x 7 18 3))) ∧ ∃ m, w' = w.drewN m :=
  small_any x 7 18 3 w (by omega) (by omega) (by omega) (by omega) (by omega) (by omega)

set_option maxHeartbeats 400000 in
theorem great_any (x : BitVec 32) (i j k : Nat) (w : World) (h1 : 1 ≤ i) (h2 : i ≤ 31) (g1 : 1 ≤ j) (g2 : j ≤ 31) (k1 : 1 ≤ k) (k2 : k ≤ 31) :
    Calls Try.prog 49 #[.int .u32 (I x), .int .i64 i, .int .i64 j, .int .i64 k] w fun e w' => e = .returned (.int .u32 (I (gre x i j k))) ∧ w = w' := by
  go_enter Try.func49, Try.ntmps49
  go_wp2_with fail
  refine (rot_any x i _ h1 h2).mono ?_
  rintro e w' ⟨rfl, rfl⟩
  go_wp2_with fail
  refine (rot_any x j _ g1 g2).mono ?_
  rintro e w' ⟨rfl, rfl⟩
  go_wp2_with fail
  refine (rot_any x k _ k1 k2).mono ?_
  rintro e w' ⟨rfl, rfl⟩
  go_wp2
  go_ret
  refine ⟨ret_int ?_, rfl⟩
  rw [I_xor, I_xor]
  rfl

set_option maxHeartbeats 400000 in
theorem rrot_any (x : BitVec 32) (n : Nat) (w : World) (h1 : 1 ≤ n) (h2 : n ≤ 31) :
    Calls Try.prog 28 #[.int .u32 (I x), .int .u64 n] w fun e w' => e = .returned (.int .u32 (I (rotr x n))) ∧ w = w' := by
  have hs : ((32 : Int) - n).toNat = 32 - n := by omega
  go_enter Try.func28, Try.ntmps28
  go_wp2
  go_ret
  refine ⟨ret_int ?_, rfl⟩
  rw [I_shlm, I_shr, I_or]
  rfl

/-- The eight numbers as a value. -/
def vSt (s : St) : Value := .agg #[.int .u32 (I s.a), .int .u32 (I s.b), .int .u32 (I s.c), .int .u32 (I s.d), .int .u32 (I s.e), .int .u32 (I s.f), .int .u32 (I s.g), .int .u32 (I s.h)]

set_option maxRecDepth 100000 in
set_option maxHeartbeats 1000000 in
theorem turn_any (s : St) (kw : BitVec 32) (w : World) :
    Calls Try.prog 36 #[vSt s, .int .u32 (I kw)] w fun e w' => e = .returned (vSt (rnd s kw)) ∧ Below w.heap.size w w' := by
  obtain ⟨a, b, c, d, e, f, g, z⟩ := s
  have e0 : (I z + I (gre e 6 11 25) + bits .xor .u32 (bits .and .u32 (I e) (I f)) (bits .and .u32 (bits .xor .u32 IntKind.u32.max (I e)) (I g)) + I kw +
      (I (gre a 2 13 22) + bits .xor .u32 (bits .xor .u32 (bits .and .u32 (I a) (I b)) (bits .and .u32 (I a) (I c))) (bits .and .u32 (I b) (I c)))) % 4294967296 = I (rnd ⟨a, b, c, d, e, f, g, z⟩ kw).a := by
    simp only [I_and, I_notm, I_xor, modI, BitVec.ofInt_add, ofInt_I, rnd]
  have e4 : (I d + (I z + I (gre e 6 11 25) + bits .xor .u32 (bits .and .u32 (I e) (I f)) (bits .and .u32 (bits .xor .u32 IntKind.u32.max (I e)) (I g)) + I kw)) % 4294967296 = I (rnd ⟨a, b, c, d, e, f, g, z⟩ kw).e := by
    simp only [I_and, I_notm, I_xor, modI, BitVec.ofInt_add, ofInt_I, rnd]
  have E0 := Lib.hid e0; have E4 := Lib.hid e4; clear e0 e4
  have hv : vSt (rnd ⟨a, b, c, d, e, f, g, z⟩ kw) = .agg #[.int .u32 (I (rnd ⟨a, b, c, d, e, f, g, z⟩ kw).a), .int .u32 (I a), .int .u32 (I b), .int .u32 (I c), .int .u32 (I (rnd ⟨a, b, c, d, e, f, g, z⟩ kw).e), .int .u32 (I e), .int .u32 (I f), .int .u32 (I g)] := rfl
  rw [hv]
  clear hv
  simp only [vSt]
  generalize (rnd ⟨a, b, c, d, e, f, g, z⟩ kw).a = A0 at E0 ⊢
  generalize (rnd ⟨a, b, c, d, e, f, g, z⟩ kw).e = A4 at E4 ⊢
  go_enter Try.func36, Try.ntmps36
  go_wp2_with fail
  go_quiet (fail)
  go_wp2_with fail
  go_quiet ((go_at_call 49; exact qa (great_any e 6 11 25 _ (by omega) (by omega) (by omega) (by omega) (by omega) (by omega))))
  go_wp2_with fail
  refine (great_any a 2 13 22 _ (by omega) (by omega) (by omega) (by omega) (by omega) (by omega)).mono ?_
  rintro ee w' ⟨rfl, rfl⟩
  go_wp2_with fail
  rw [E0.out, E4.out]
  refine bodyPost_ret (v := .agg #[.int .u32 (I A0), .int .u32 (I a), .int .u32 (I b), .int .u32 (I c), .int .u32 (I A4), .int .u32 (I e), .int .u32 (I f), .int .u32 (I g)]) (by simp [results, Try.results36, go_sem]) rfl ⟨rfl, ?_⟩
  repeat refine Below.setCell ?_ (by simp) _
  exact below_drewN (((Below.refl _ _).alloc (Nat.le_refl _) _).alloc (by simp) _) _

end Go.Proofs.Ytlpiacofnciodaa.sh
