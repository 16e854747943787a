/-
  Joined texts: ShaPlain, ShaTurn, ShaRow, ShaSpread, ShaBehind, ShaFirst, ShaRef, ShaNum, ShaRBlock, ShaSum, ShaCut, ShaPSum, ShaRSum, ShaKey, ShaPKey, ShaTag.
-/
import Derived.Test.YtejhncdempfmjaaMRoot
import Derived.WalkKit
import Derived.Test.YtejhncdempfmjaaOwn
import Derived.WalkLawsBesides
import Derived.Laws.Rows
import Derived.Laws.Tables
import Derived.Deep.RegionHeld3
import Derived.IntWalk
import Derived.StillTailTactics
import Derived.Deep.RegionLaw
import Derived.Test.YtejhncdempfmjaaTail
import Derived.Deep.RegionHeldLaw
import Derived.Laws.CopyOwn
/-
  Layer 3 without any program: numbers of 32 bits as integers, the rounds, the blocks, the digest.
-/
namespace Go.Proofs.Ytejhncdempfmjaa.sh
open Go.Proofs.Ytejhncdempfmjaa.rs
set_option linter.unusedVariables false

/-- A number of 32 bits as an integer. -/
def I (x : BitVec 32) : Int := (x.toNat : Int)
theorem I_lo (x : BitVec 32) : 0 ≤ I x := by unfold I; omega
theorem I_hi (x : BitVec 32) : I x ≤ 4294967295 := by unfold I; have := x.isLt; omega
theorem wrap32 (n : Int) : IntKind.u32.wrap n = n % 4294967296 := by
  simp only [IntKind.wrap, IntKind.signed, IntKind.bits, Bool.false_and]
  exact if_neg (by simp)
theorem I_ofInt (n : Int) : IntKind.u32.wrap n = I (BitVec.ofInt 32 n) := by
  rw [wrap32]
  unfold I
  rw [BitVec.toNat_ofInt]
  omega
theorem I_ofNat (n : Nat) : IntKind.u32.wrap (n : Int) = I (BitVec.ofNat 32 n) := by
  rw [wrap32]
  unfold I
  rw [BitVec.toNat_ofNat]
  omega
theorem ofInt_I (x : BitVec 32) : BitVec.ofInt 32 (I x) = x := by
  unfold I
  rw [BitVec.ofInt_natCast, BitVec.ofNat_toNat, BitVec.setWidth_eq]
theorem I_inj {x y : BitVec 32} (h : I x = I y) : x = y := by
  rw [← ofInt_I x, ← ofInt_I y, h]
theorem I_add (x y : BitVec 32) : IntKind.u32.wrap (I x + I y) = I (x + y) := by
  rw [wrap32]
  unfold I
  rw [BitVec.toNat_add]
  omega
theorem bits_I (x y : BitVec 32) : bits .and .u32 (I x) (I y) = I (x &&& y) ∧ bits .or .u32 (I x) (I y) = I (x ||| y) ∧ bits .xor .u32 (I x) (I y) = I (x ^^^ y) := by
  have h : ∀ r : BitVec 32, IntKind.u32.wrap (r.toNat : Int) = I r := fun r => by rw [wrap32]; unfold I; have := r.isLt; omega
  refine ⟨?_, ?_, ?_⟩
  · show IntKind.u32.wrap ((BitVec.ofInt 32 (I x) &&& BitVec.ofInt 32 (I y)).toNat : Int) = _
    rw [h, ofInt_I, ofInt_I]
  · show IntKind.u32.wrap ((BitVec.ofInt 32 (I x) ||| BitVec.ofInt 32 (I y)).toNat : Int) = _
    rw [h, ofInt_I, ofInt_I]
  · show IntKind.u32.wrap ((BitVec.ofInt 32 (I x) ^^^ BitVec.ofInt 32 (I y)).toNat : Int) = _
    rw [h, ofInt_I, ofInt_I]
theorem I_and (x y : BitVec 32) : bits .and .u32 (I x) (I y) = I (x &&& y) := (bits_I x y).1
theorem I_or (x y : BitVec 32) : bits .or .u32 (I x) (I y) = I (x ||| y) := (bits_I x y).2.1
theorem I_xor (x y : BitVec 32) : bits .xor .u32 (I x) (I y) = I (x ^^^ y) := (bits_I x y).2.2
theorem I_ones : (4294967295 : Int) = I (BitVec.allOnes 32) := by decide
theorem I_not (x : BitVec 32) : bits .xor .u32 4294967295 (I x) = I (~~~x) := by
  rw [I_ones, I_xor]
  rw [BitVec.allOnes_xor]
theorem I_shr (x : BitVec 32) (n : Nat) : I x / 2 ^ n = I (x >>> n) := by
  unfold I
  rw [BitVec.toNat_ushiftRight, Nat.shiftRight_eq_div_pow, Int.natCast_ediv, Int.natCast_pow]
  rfl
theorem I_shl (x : BitVec 32) (n : Nat) : IntKind.u32.wrap (I x * 2 ^ n) = I (x <<< n) := by
  rw [wrap32]
  unfold I
  rw [BitVec.toNat_shiftLeft, Nat.shiftLeft_eq, Int.natCast_emod, Int.natCast_mul, Int.natCast_pow]
  rfl
theorem I_addm (x y : BitVec 32) : (I x + I y) % 4294967296 = I (x + y) := by rw [← wrap32, I_add]
theorem I_shlm (x : BitVec 32) (n : Nat) : I x * 2 ^ n % 4294967296 = I (x <<< n) := by rw [← wrap32, I_shl]
theorem modI (n : Int) : n % 4294967296 = I (BitVec.ofInt 32 n) := by rw [← wrap32, I_ofInt]
theorem I_notm (x : BitVec 32) : bits .xor .u32 IntKind.u32.max (I x) = I (~~~x) := I_not x
theorem next8 (x : BitVec 32) (p : Int) (p0 : 0 ≤ p) (p1 : p ≤ 255) : I x * 256 % 4294967296 + p = I (x * 256#32 + BitVec.ofInt 32 p) := by
  have h := x.isLt
  unfold I
  rw [BitVec.toNat_add, BitVec.toNat_mul, BitVec.toNat_ofInt, show (256#32).toNat = 256 from rfl]
  omega
theorem I_zero : (0 : Int) = I 0#32 := rfl

/-- Turned to the right. -/
def rotr (x : BitVec 32) (n : Nat) : BitVec 32 := x >>> n ||| x <<< (32 - n)
def sml (x : BitVec 32) (i j k : Nat) : BitVec 32 := rotr x i ^^^ rotr x j ^^^ x >>> k
def gre (x : BitVec 32) (i j k : Nat) : BitVec 32 := rotr x i ^^^ rotr x j ^^^ rotr x k

/-- The eight numbers. -/
structure St where
  a : BitVec 32
  b : BitVec 32
  c : BitVec 32
  d : BitVec 32
  e : BitVec 32
  f : BitVec 32
  g : BitVec 32
  h : BitVec 32
def rnd (s : St) (kw : BitVec 32) : St :=
  ⟨s.h + gre s.e 6 11 25 + (s.e &&& s.f ^^^ ~~~s.e &&& s.g) + kw + (gre s.a 2 13 22 + (s.a &&& s.b ^^^ s.a &&& s.c ^^^ s.b &&& s.c)), s.a, s.b, s.c,
   s.d + (s.h + gre s.e 6 11 25 + (s.e &&& s.f ^^^ ~~~s.e &&& s.g) + kw), s.e, s.f, s.g⟩
def St.add (s z : St) : St := ⟨z.a + s.a, z.b + s.b, z.c + s.c, z.d + s.d, z.e + s.e, z.f + s.f, z.g + s.g, z.h + s.h⟩
def St.list (s : St) : List (BitVec 32) := [s.a, s.b, s.c, s.d, s.e, s.f, s.g, s.h]

/-- A block's number t, of so many of its four bytes. -/
def wd (l : List Int) (t : Nat) : Nat → BitVec 32
  | 0 => 0#32
  | k + 1 => wd l t k * 256#32 + BitVec.ofInt 32 (l.getD (4 * t + k) 0)
def nxt (W : List (BitVec 32)) (t : Nat) : BitVec 32 :=
  sml (W.getD (t - 2) 0) 17 19 10 + W.getD (t - 7) 0 + sml (W.getD (t - 15) 0) 7 18 3 + W.getD (t - 16) 0
/-- The first n of the 64 numbers of a block. -/
def ws (l : List Int) : Nat → List (BitVec 32)
  | 0 => []
  | n + 1 => ws l n ++ [if n < 16 then wd l n 4 else nxt (ws l n) n]
theorem ws_len (l : List Int) : ∀ n, (ws l n).length = n
  | 0 => rfl
  | n + 1 => by simp [ws, ws_len l n]
def rs (s : St) (K W : List (BitVec 32)) : Nat → St
  | 0 => s
  | t + 1 => rnd (rs s K W t) (K.getD t 0 + W.getD t 0)
/-- The state behind a block. -/
def blk (K : List (BitVec 32)) (s : St) (l : List Int) : St := s.add (rs s K (ws l 64) 64)

/-- The round numbers. -/
def Kc : List (BitVec 32) := (pl 312).map fun p => BitVec.ofNat 32 (cu p)
def Hl : List (BitVec 32) := (pl 20).map fun p => BitVec.ofNat 32 (sq p)
theorem pl_312 : (pl 312).length = 64 := by decide +kernel
theorem pl_20 : (pl 20).length = 8 := by decide +kernel
theorem Kc_len : Kc.length = 64 := by unfold Kc; rw [List.length_map, pl_312]
theorem Hl_len : Hl.length = 8 := by unfold Hl; rw [List.length_map, pl_20]
def H0 : St := ⟨Hl.getD 0 0, Hl.getD 1 0, Hl.getD 2 0, Hl.getD 3 0, Hl.getD 4 0, Hl.getD 5 0, Hl.getD 6 0, Hl.getD 7 0⟩
theorem list8 {α : Type} (d : α) : ∀ (l : List α), l.length = 8 → l = [l.getD 0 d, l.getD 1 d, l.getD 2 d, l.getD 3 d, l.getD 4 d, l.getD 5 d, l.getD 6 d, l.getD 7 d]
  | [_, _, _, _, _, _, _, _], _ => rfl
theorem H0_list : H0.list = Hl := (list8 0 Hl Hl_len).symm

/-- The state behind the first n blocks of bytes. -/
def blks (l : List Int) : Nat → St
  | 0 => H0
  | n + 1 => blk Kc (blks l n) ((l.drop (64 * n)).take 64)

theorem drop_take_append (x y : List Int) (i : Nat) (h : i + 64 ≤ x.length) : ((x ++ y).drop i).take 64 = (x.drop i).take 64 := by
  rw [List.drop_append_of_le_length (by omega), List.take_append_of_le_length (by rw [List.length_drop]; omega)]
theorem blks_append (x y : List Int) : ∀ n, 64 * n ≤ x.length → blks (x ++ y) n = blks x n
  | 0, _ => rfl
  | n + 1, h => by
    rw [blks, blks, blks_append x y n (by omega), drop_take_append x y _ (by omega)]

end Go.Proofs.Ytejhncdempfmjaa.sh

/-
  Layer 3: the contracts of turning, and of one round.
-/
namespace Go.Proofs.Ytejhncdempfmjaa.sh
open Go.ChangeShapes Go.WideShapes Go.ChangeAt Go.RowKit
open bs
set_option linter.unusedVariables false

theorem ret_int {k : IntKind} {a b : Int} (h : a = b) : Ending.returned (.int k a) = .returned (.int k b) := by rw [h]

theorem and31 (n : Nat) (h1 : 1 ≤ n) (h2 : n ≤ 31) : bits .and .u64 (IntKind.u64.wrap (-(n : Int))) 31 = 32 - n := by
  have h : ∀ m : Fin 32, 1 ≤ m.val → bits .and .u64 (IntKind.u64.wrap (-(m.val : Int))) 31 = 32 - m.val := by decide +kernel
  exact h ⟨n, by omega⟩ h1

set_option maxHeartbeats 400000 in
theorem rl_any (x : BitVec 32) (n : Nat) (w : World) (h1 : 1 ≤ n) (h2 : n ≤ 31) :
    Calls Try.prog 120 #[.int .u32 (I x), .int .i64 (-(n : Int))] w fun e w' => e = .returned (.int .u32 (I (rotr x n))) ∧ w = w' := by
  have hs := and31 n h1 h2
  go_enter Try.func120, Try.ntmps120
  go_wp2
  go_ret
  refine ⟨ret_int ?_, rfl⟩
  rw [show 32 - (32 - n) = n by omega, I_shlm, I_shr, I_or]
  unfold rotr
  rw [BitVec.or_comm]

set_option maxHeartbeats 400000 in
theorem rot_any (x : BitVec 32) (n : Nat) (w : World) (h1 : 1 ≤ n) (h2 : n ≤ 31) :
    Calls Try.prog 114 #[.int .u32 (I x), .int .i64 n] w fun e w' => e = .returned (.int .u32 (I (rotr x n))) ∧ w = w' := by
  go_enter Try.func114, Try.ntmps114
  go_wp2_with fail
  refine (rl_any x n _ h1 h2).mono ?_
  rintro e w' ⟨rfl, rfl⟩
  go_wp2
  go_ret
  exact ⟨rfl, rfl⟩

theorem qs {P : Program} {f : FuncId} {args : Array Value} {w : World} {n : Nat} {v : Value}
    (h : Calls P f args (w.drewN n) fun e w' => e = .returned v ∧ w.drewN n = w') : Calls P f args (w.drewN n) fun e w'' => e = .returned v ∧ ∃ m, w'' = w.drewN m :=
  h.mono fun _ _ ⟨he, hm⟩ => ⟨he, n, hm.symm⟩

/-- The same behind an earlier quiet region, whose draws the walk adds. -/
theorem qa {P : Program} {f : FuncId} {args : Array Value} {w : World} {b n : Nat} {v : Value}
    (h : Calls P f args (w.drewN (b + n)) fun e w' => e = .returned v ∧ w.drewN (b + n) = w') : Calls P f args (w.drewN (b + n)) fun e w'' => e = .returned v ∧ ∃ m, w'' = w.drewN (b + m) :=
  h.mono fun _ _ ⟨he, hm⟩ => ⟨he, n, by rw [← hm]⟩

set_option maxHeartbeats 400000 in
theorem small_any (x : BitVec 32) (i j k : Nat) (w : World) (h1 : 1 ≤ i) (h2 : i ≤ 31) (g1 : 1 ≤ j) (g2 : j ≤ 31) (k1 : 1 ≤ k) (k2 : k ≤ 31) :
    Calls Try.prog 108 #[.int .u32 (I x), .int .i64 i, .int .i64 j, .int .i64 k] w fun e w' => e = .returned (.int .u32 (I (sml x i j k))) ∧ ∃ m, w' = w.drewN m := by
  go_enter Try.func108, Try.ntmps108
  go_wp2_with fail
  go_quiet ((go_at_call 114; exact qs (rot_any _ _ _ (by assumption) (by assumption))))
  go_wp2
  go_ret
  refine ⟨ret_int ?_, _, rfl⟩
  rw [I_xor, I_shr, I_xor]
  rfl

theorem small_a (x : BitVec 32) (w : World) : Calls Try.prog 108 #[.int .u32 (I x), .int .i64 17, .int .i64 19, .int .i64 10] w fun e w' => e = .returned (.int .u32 (I (sml x 17 19 10))) ∧ ∃ m, w' = w.drewN m :=
  small_any x 17 19 10 w (by omega) (by omega) (by omega) (by omega) (by omega) (by omega)
theorem small_b (x : BitVec 32) (w : World) : Calls Try.prog 108 #[.int .u32 (I x), .int .i64 7, .int .i64 18, .int .i64 3] w fun e w' => e = .returned (.int .u32 (I (sml x 7 18 3))) ∧ ∃ m, w' = w.drewN m :=
  small_any x 7 18 3 w (by omega) (by omega) (by omega) (by omega) (by omega) (by omega)

set_option maxHeartbeats 400000 in
theorem great_any (x : BitVec 32) (i j k : Nat) (w : World) (h1 : 1 ≤ i) (h2 : i ≤ 31) (g1 : 1 ≤ j) (g2 : j ≤ 31) (k1 : 1 ≤ k) (k2 : k ≤ 31) :
    Calls Try.prog 109 #[.int .u32 (I x), .int .i64 i, .int .i64 j, .int .i64 k] w fun e w' => e = .returned (.int .u32 (I (gre x i j k))) ∧ w = w' := by
  go_enter Try.func109, Try.ntmps109
  go_wp2_with fail
  refine (rot_any x i _ h1 h2).mono ?_
  rintro e w' ⟨rfl, rfl⟩
  go_wp2_with fail
  refine (rot_any x j _ g1 g2).mono ?_
  rintro e w' ⟨rfl, rfl⟩
  go_wp2_with fail
  refine (rot_any x k _ k1 k2).mono ?_
  rintro e w' ⟨rfl, rfl⟩
  go_wp2
  go_ret
  refine ⟨ret_int ?_, rfl⟩
  rw [I_xor, I_xor]
  rfl

set_option maxHeartbeats 400000 in
theorem rrot_any (x : BitVec 32) (n : Nat) (w : World) (h1 : 1 ≤ n) (h2 : n ≤ 31) :
    Calls Try.prog 113 #[.int .u32 (I x), .int .u64 n] w fun e w' => e = .returned (.int .u32 (I (rotr x n))) ∧ w = w' := by
  have hs : ((32 : Int) - n).toNat = 32 - n := by omega
  go_enter Try.func113, Try.ntmps113
  go_wp2
  go_ret
  refine ⟨ret_int ?_, rfl⟩
  rw [I_shlm, I_shr, I_or]
  rfl

/-- The eight numbers as a value. -/
def vSt (s : St) : Value := .agg #[.int .u32 (I s.a), .int .u32 (I s.b), .int .u32 (I s.c), .int .u32 (I s.d), .int .u32 (I s.e), .int .u32 (I s.f), .int .u32 (I s.g), .int .u32 (I s.h)]

set_option maxRecDepth 100000 in
set_option maxHeartbeats 1000000 in
theorem turn_any (s : St) (kw : BitVec 32) (w : World) :
    Calls Try.prog 97 #[vSt s, .int .u32 (I kw)] w fun e w' => e = .returned (vSt (rnd s kw)) ∧ Below w.heap.size w w' := by
  obtain ⟨a, b, c, d, e, f, g, z⟩ := s
  have e0 : (I z + I (gre e 6 11 25) + bits .xor .u32 (bits .and .u32 (I e) (I f)) (bits .and .u32 (bits .xor .u32 IntKind.u32.max (I e)) (I g)) + I kw +
      (I (gre a 2 13 22) + bits .xor .u32 (bits .xor .u32 (bits .and .u32 (I a) (I b)) (bits .and .u32 (I a) (I c))) (bits .and .u32 (I b) (I c)))) % 4294967296 = I (rnd ⟨a, b, c, d, e, f, g, z⟩ kw).a := by
    simp only [I_and, I_notm, I_xor, modI, BitVec.ofInt_add, ofInt_I, rnd]
  have e4 : (I d + (I z + I (gre e 6 11 25) + bits .xor .u32 (bits .and .u32 (I e) (I f)) (bits .and .u32 (bits .xor .u32 IntKind.u32.max (I e)) (I g)) + I kw)) % 4294967296 = I (rnd ⟨a, b, c, d, e, f, g, z⟩ kw).e := by
    simp only [I_and, I_notm, I_xor, modI, BitVec.ofInt_add, ofInt_I, rnd]
  have E0 := Lib.hid e0; have E4 := Lib.hid e4; clear e0 e4
  have hv : vSt (rnd ⟨a, b, c, d, e, f, g, z⟩ kw) = .agg #[.int .u32 (I (rnd ⟨a, b, c, d, e, f, g, z⟩ kw).a), .int .u32 (I a), .int .u32 (I b), .int .u32 (I c), .int .u32 (I (rnd ⟨a, b, c, d, e, f, g, z⟩ kw).e), .int .u32 (I e), .int .u32 (I f), .int .u32 (I g)] := rfl
  rw [hv]
  clear hv
  simp only [vSt]
  generalize (rnd ⟨a, b, c, d, e, f, g, z⟩ kw).a = A0 at E0 ⊢
  generalize (rnd ⟨a, b, c, d, e, f, g, z⟩ kw).e = A4 at E4 ⊢
  go_enter Try.func97, Try.ntmps97
  go_wp2_with fail
  go_quiet (fail)
  go_wp2_with fail
  go_quiet ((go_at_call 109; exact qa (great_any e 6 11 25 _ (by omega) (by omega) (by omega) (by omega) (by omega) (by omega))))
  go_wp2_with fail
  refine (great_any a 2 13 22 _ (by omega) (by omega) (by omega) (by omega) (by omega) (by omega)).mono ?_
  rintro ee w' ⟨rfl, rfl⟩
  go_wp2_with fail
  rw [E0.out, E4.out]
  refine bodyPost_ret (v := .agg #[.int .u32 (I A0), .int .u32 (I a), .int .u32 (I b), .int .u32 (I c), .int .u32 (I A4), .int .u32 (I e), .int .u32 (I f), .int .u32 (I g)]) (by simp [results, Try.results97, go_sem]) rfl ⟨rfl, ?_⟩
  repeat refine Below.setCell ?_ (by simp) _
  exact below_drewN (((Below.refl _ _).alloc (Nat.le_refl _) _).alloc (by simp) _) _

end Go.Proofs.Ytejhncdempfmjaa.sh

/-
  Arrays of numbers of 32 bits in a block of their own. No program is named here.
-/
namespace Go.Proofs.Ytejhncdempfmjaa.sh
open Go.ChangeShapes Go.WideShapes Go.ChangeAt Go.RowKit
open bs
set_option linter.unusedVariables false

def cells32 (L : List (BitVec 32)) : Array Value := (L.map fun x => Value.int .u32 (I x)).toArray
theorem cells32_size (L : List (BitVec 32)) : (cells32 L).size = L.length := by simp [cells32]
theorem cells32_at (L : List (BitVec 32)) (i : Nat) (h : i < L.length) : (cells32 L)[i]? = some (.int .u32 (I (L.getD i 0))) := by
  simp only [cells32, List.getElem?_toArray, List.getElem?_map, List.getD_eq_getElem?_getD, List.getElem?_eq_getElem h]
  rfl
theorem cells32_one (L : List (BitVec 32)) : (cells32 L).all (·.oneCell') = true := by
  simp only [cells32, List.all_toArray, List.all_map, List.all_eq_true]
  intro x _
  rfl
theorem cells32_set (L : List (BitVec 32)) (i : Nat) (x : BitVec 32) : (cells32 L).setIfInBounds i (.int .u32 (I x)) = cells32 (L.set i x) := by
  simp only [cells32, List.setIfInBounds_toArray, List.map_set]

/-- The block g holds the numbers L. -/
def Row (w : World) (g : Nat) (t : TypeId) (L : List (BitVec 32)) : Prop := w.heap[g]? = some (.cells (cells32 L) t (0, 0))
theorem Row.lt {w : World} {g t L} (h : Row w g t L) : g < w.heap.size := (Array.getElem?_eq_some_iff.1 h).1
theorem Row.cellAt {w : World} {g t L} (h : Row w g t L) (i : Nat) (hi : i < L.length) : w.cell? ⟨g, i, none⟩ = some (.int .u32 (I (L.getD i 0))) := by
  rw [cell_of_row w g i _ t _ h, cells32_at L i hi]
theorem Row.frozenAt {w : World} {g t L} (h : Row w g t L) (i : Nat) : w.frozen? ⟨g, i, none⟩ = false := frozen_of_row w g i _ t h
theorem Row.stored {w : World} {g t L} (h : Row w g t L) (i : Nat) (x : BitVec 32) : Row (w.setCell ⟨g, i, none⟩ (.int .u32 (I x))) g t (L.set i x) := by
  unfold Row
  rw [heap_setCell_same w g i _ t _ h, cells32_set]
theorem Row.below {w w' : World} {g t L} (h : Row w g t L) (hb : Below w.heap.size w w') : Row w' g t L := by
  unfold Row
  rw [hb.block g h.lt]
  exact h
theorem Row.drewN {w : World} {g t L} (h : Row w g t L) (m : Nat) : Row (w.drewN m) g t L := h
theorem Row.alloc {w : World} {g t L} (h : Row w g t L) (o : Obj) : Row (w.alloc o) g t L :=
  h.below ((Below.refl _ _).alloc (Nat.le_refl _) o)
theorem Row.other {w : World} {g t L} (h : Row w g t L) (p : Addr) (v : Value) (hp : g ≠ p.block) : Row (w.setCell p v) g t L := by
  unfold Row
  rw [heap_setCell_other w p g v hp]
  exact h
theorem Row.made (w : World) (t : TypeId) (L : List (BitVec 32)) : Row (w.alloc (.cells (cells32 L) t)) w.heap.size t L := heap_alloc_new w _
theorem Row.made_at (w : World) (t : TypeId) (L : List (BitVec 32)) {g : Nat} (hg : w.heap.size = g) : Row (w.alloc (.cells (cells32 L) t)) g t L := by subst hg; exact heap_alloc_new w _
theorem size_setRow (w : World) (g : Nat) (cs : Array Value) : (w.setRow g cs).heap.size = w.heap.size := by simp [World.setRow]
theorem Row.made2 (w : World) (A : Obj) (t : TypeId) (L : List (BitVec 32)) : Row ((w.alloc A).alloc (.cells (cells32 L) t)) (w.heap.size + 1) t L := heap_alloc2_new w A _

theorem Row.setRow {w : World} {g t L0} (h : Row w g t L0) (L : List (BitVec 32)) : Row (w.setRow g (cells32 L)) g t L := setRow_heap w g _ _ t _ h
theorem Row.setRow_other {w : World} {g t L} (h : Row w g t L) (k : Nat) (cs : Array Value) (hk : g ≠ k) : Row (w.setRow k cs) g t L := by
  unfold Row
  rw [Go.setRow_other w k g cs hk]
  exact h
theorem below_setRow {B : Nat} {w w' : World} (h : Below B w w') {g : Nat} (hg : B ≤ g) (cs : Array Value) : Below B w (w'.setRow g cs) := by
  refine ⟨h.os, h.tape, h.output, ?_, fun k hk => ?_⟩
  · have := h.size
    simpa [World.setRow] using this
  · rw [Go.setRow_other w' g k cs (by omega)]
    exact h.block k hk

section
variable {P : Program} {w : World} {ops : Array Oper} {rest : List Oper} {o : Oper} {a : Act} {Q : Exit → Act → World → Prop}
/-- A whole array is loaded. -/
theorem wpList_load_32 (hgd : o.guard = none) (ty : TypeId) (x : Operand) (ho : o.op = .load ty x) {g : Nat} (hx : a.eval x = .pointer (some ⟨g, 0, none⟩)) {t : TypeId} {L : List (BitVec 32)} (hr : Row w g t L)
    {d : TypeDesc} (hu : P.underlying ty = some d) (hd : (match d with | .struct _ | .array _ _ => true | _ => false) = true) {n : Nat} (hi : (P.info? ty).map (·.size) = some n) (hn : L.length = n)
    (h : wpList P ops Q rest (a.put o.dst (.agg (cells32 L))) w) : wpList P ops Q (o :: rest) a w :=
  wpList_load_row hgd ty x ho g hx t (cells32 L) (0, 0) d hr hu hd (by rw [hi, cells32_size, hn]) h
/-- A whole array is stored. -/
theorem wpList_store_32 (hgd : o.guard = none) (ty : TypeId) (x y : Operand) (ho : o.op = .store ty x y) {g : Nat} (hx : a.eval x = .pointer (some ⟨g, 0, none⟩)) {L : List (BitVec 32)} (hy : a.eval y = .agg (cells32 L))
    {t : TypeId} {L0 : List (BitVec 32)} (hr : Row w g t L0) {n : Nat} (hi : (P.info? ty).map (·.size) = some n) (hn : L.length = n) (hn0 : L0.length = n)
    (h : wpList P ops Q rest (a.put o.dst undef) (w.setRow g (cells32 L))) : wpList P ops Q (o :: rest) a w :=
  wpList_store_row hgd ty x y ho g (cells32 L) hx hy t (cells32 L0) hr (by rw [hi, cells32_size, hn]) (by rw [cells32_size, cells32_size, hn, hn0]) (cells32_one L) h
end
end Go.Proofs.Ytejhncdempfmjaa.sh

/-
  Layer 3: the contract of 'spread'.
-/
namespace Go.Proofs.Ytejhncdempfmjaa.sh
open Go.ChangeShapes Go.WideShapes Go.ChangeAt Go.RowKit
open bs
set_option linter.unusedVariables false

/-- The array while the word t is made. -/
def mid (l : List Int) (t k : Nat) : List (BitVec 32) := ws l t ++ wd l t k :: List.replicate (63 - t) 0#32
def full (l : List Int) (t : Nat) : List (BitVec 32) := ws l t ++ List.replicate (64 - t) 0#32
theorem full_mid (l : List Int) (t : Nat) (h : t < 64) : full l t = mid l t 0 := by
  unfold full mid
  rw [show 64 - t = (63 - t) + 1 by omega, List.replicate_succ]
  rfl
theorem mid_full (l : List Int) (t : Nat) (h : t < 16) : mid l t 4 = full l (t + 1) := by
  unfold full mid
  rw [ws, if_pos h, List.append_assoc, show 64 - (t + 1) = 63 - t by omega]
  rfl
theorem mid_set (l : List Int) (t k : Nat) (x : BitVec 32) (h : wd l t (k + 1) = x) : (mid l t k).set t x = mid l t (k + 1) := by
  unfold mid
  rw [List.set_append_right _ _ (by rw [ws_len]; omega), ws_len, Nat.sub_self, List.set_cons_zero, h]
theorem mid_at (l : List Int) (t k : Nat) : (mid l t k).getD t 0 = wd l t k := by
  unfold mid
  rw [List.getD_eq_getElem?_getD, List.getElem?_append_right (by rw [ws_len]; omega), ws_len, Nat.sub_self]
  rfl
theorem mid_len (l : List Int) (t k : Nat) (h : t < 64) : (mid l t k).length = 64 := by
  unfold mid
  simp [ws_len]
  omega
theorem full_len (l : List Int) (t : Nat) (h : t ≤ 64) : (full l t).length = 64 := by
  unfold full
  simp [ws_len]
  omega
theorem full_at (l : List Int) (t i : Nat) (h : i < t) : (full l t).getD i 0 = (ws l t).getD i 0 := by
  unfold full
  rw [List.getD_eq_getElem?_getD, List.getElem?_append_left (by rw [ws_len]; exact h), ← List.getD_eq_getElem?_getD]
theorem full_set (l : List Int) (t : Nat) (x : BitVec 32) (h : 16 ≤ t) (h2 : t < 64) (hx : nxt (ws l t) t = x) : (full l t).set t x = full l (t + 1) := by
  unfold full
  rw [List.set_append_right _ _ (by rw [ws_len]; omega), ws_len, Nat.sub_self, show 64 - t = (63 - t) + 1 by omega, List.replicate_succ, List.set_cons_zero, ws, if_neg (by omega), hx, List.append_assoc, show 64 - (t + 1) = 63 - t by omega]
  rfl
theorem full_64 (l : List Int) : full l 64 = ws l 64 := by unfold full; simp

def MRel (w : World) (l : List Int) (t k : Nat) (wr : World) : Prop :=
  Row wr w.heap.size 124 (List.replicate 64 0#32) ∧ Row wr (w.heap.size + 1) 124 (mid l t k) ∧ Below w.heap.size w wr
def SRel (w : World) (l : List Int) (t : Nat) (wr : World) : Prop :=
  Row wr w.heap.size 124 (List.replicate 64 0#32) ∧ Row wr (w.heap.size + 1) 124 (full l t) ∧ Below w.heap.size w wr

theorem SRel.drewN {w W : World} {l : List Int} {t : Nat} (h : SRel w l t W) (m : Nat) : SRel w l t (W.drewN m) := ⟨h.1.drewN m, h.2.1.drewN m, below_drewN h.2.2 m⟩
def TRel (w : World) (l : List Int) (t : Nat) (W : World) : Prop := SRel w l t W ∨ SRel w l (t + 1) W
theorem TRel.drewN {w W : World} {l : List Int} {t : Nat} (h : TRel w l t W) (m : Nat) : TRel w l t (W.drewN m) := h.elim (fun h => .inl (h.drewN m)) (fun h => .inr (h.drewN m))
theorem ws_at (l : List Int) (t i : Nat) (h : i < t) : (ws l (t + 1)).getD i 0 = (ws l t).getD i 0 := by
  rw [ws, List.getD_eq_getElem?_getD, List.getElem?_append_left (by rw [ws_len]; exact h), ← List.getD_eq_getElem?_getD]
theorem TRel.at' {w W : World} {l : List Int} {t : Nat} (h : TRel w l t W) (ht : t < 64) (i : Nat) (hi : i < t) : W.cell? ⟨w.heap.size + 1, i, none⟩ = some (.int .u32 (I ((ws l t).getD i 0))) := by
  rcases h with h | h
  · rw [h.2.1.cellAt i (by rw [full_len l t (by omega)]; omega), full_at l t i hi]
  · rw [h.2.1.cellAt i (by rw [full_len l (t + 1) (by omega)]; omega), full_at l (t + 1) i (by omega), ws_at l t i hi]
theorem TRel.fr {w W : World} {l : List Int} {t : Nat} (h : TRel w l t W) (i : Nat) : W.frozen? ⟨w.heap.size + 1, i, none⟩ = false := by
  rcases h with h | h
  · exact h.2.1.frozenAt i
  · exact h.2.1.frozenAt i
theorem st_rel {w W : World} {l : List Int} {t : Nat} (h : SRel w l t W) (ht : 16 ≤ t) (h2 : t < 64) {v : Int} (hv : v = I (nxt (ws l t) t)) : SRel w l (t + 1) (W.setCell ⟨w.heap.size + 1, t, none⟩ (.int .u32 v)) := by
  subst hv
  have := h.2.1.stored t (nxt (ws l t) t)
  rw [full_set l t _ ht h2 rfl] at this
  exact ⟨h.1.other _ _ (by simp), this, h.2.2.setCell (by simp) _⟩
/-- What a cell holds, whatever that is. -/
def vof (W : World) (p : Addr) : Value := (W.cell? p).getD undef
theorem vof_of {W : World} {p : Addr} {v : Value} (h : W.cell? p = some v) : W.cell? p = some (vof W p) := by unfold vof; rw [h]; rfl
theorem TRel.has {w W : World} {l : List Int} {t : Nat} (h : TRel w l t W) (ht : t < 64) : W.cell? ⟨w.heap.size + 1, t, none⟩ = some (vof W ⟨w.heap.size + 1, t, none⟩) := by
  rcases h with h | h
  · exact vof_of (h.2.1.cellAt t (by rw [full_len l t (by omega)]; omega))
  · exact vof_of (h.2.1.cellAt t (by rw [full_len l (t + 1) (by omega)]; omega))
theorem held_mk {w W : World} {l : List Int} {t : Nat} (ht : 16 ≤ t) (h2 : t < 64) (h : TRel w l t W) {x2 x7 x15 x16 : BitVec 32} (e2 : (ws l t).getD (t - 2) 0 = x2) (e7 : (ws l t).getD (t - 7) 0 = x7) (e15 : (ws l t).getD (t - 15) 0 = x15) (e16 : (ws l t).getD (t - 16) 0 = x16) :
    W.cell? ⟨w.heap.size + 1, t - 2, none⟩ = some (.int .u32 (I x2)) ∧ W.cell? ⟨w.heap.size + 1, t - 7, none⟩ = some (.int .u32 (I x7)) ∧ W.cell? ⟨w.heap.size + 1, t - 15, none⟩ = some (.int .u32 (I x15)) ∧ W.cell? ⟨w.heap.size + 1, t - 16, none⟩ = some (.int .u32 (I x16)) ∧ W.cell? ⟨w.heap.size + 1, t, none⟩ = some (vof W ⟨w.heap.size + 1, t, none⟩) ∧ W.frozen? ⟨w.heap.size + 1, t, none⟩ = false ∧ Hid (TRel w l t W) := by
  subst e2 e7 e15 e16
  exact ⟨h.at' h2 _ (by omega), h.at' h2 _ (by omega), h.at' h2 _ (by omega), h.at' h2 _ (by omega), h.has h2, h.fr t, h⟩

set_option maxRecDepth 100000 in
set_option maxHeartbeats 1000000 in
theorem spread_any (a : Option Addr) (c : Nat) (l : List Int) (w : World) (h : Bytes w a 64 c l) :
    Calls Try.prog 96 #[.slice a 64 c] w fun e w' => e = .returned (.agg (cells32 (ws l 64))) ∧ Below w.heap.size w w' := by
  obtain ⟨b, off, rfl, hc⟩ := h.at'.resolve_left (by omega)
  have hm := h.most; have hk := h.cap
  have HB := Lib.hid h.all
  have HC := Lib.hid hc
  clear h hc
  go_enter Try.func96, Try.ntmps96
  go_wp2_with fail
  go_loopw [8] (fun i wr => ∃ t : Nat, t ≤ 16 ∧ i = .int .i64 t ∧ SRel w l t wr) (fun i _ => 16 - (intOf i).toNat)
  case atStart => exact ⟨0, by omega, rfl, Row.alloc (Row.made w _ (List.replicate 64 0)) _, Row.made2 w _ _ (List.replicate 64 0), ((Below.refl _ _).alloc (Nat.le_refl _) _).alloc (by simp) _⟩
  case round =>
    obtain ⟨t, ht, rfl, h2, h3, hb⟩ := hrel
    have H2 := Lib.hid h2; have H3 := Lib.hid h3; have HBl := Lib.hid hb
    clear h2 h3 hb
    by_cases htl : t < 16
    · go_wp2_with fail
      have hl0 := full_mid l t (by omega)
      have H3' := Lib.hid (show Row wr (w.heap.size + 1) 124 (mid l t 0) by rw [← hl0]; exact H3.out)
      clear hl0 H3
      obtain ⟨wo, rfl⟩ : ∃ wo : World, wo = wr := ⟨_, rfl⟩
      go_loopw [19] (fun j wi => ∃ k : Nat, k ≤ 4 ∧ j = .int .i64 k ∧ MRel w l t k wi) (fun j _ => 4 - (intOf j).toNat)
      case atStart => exact ⟨0, by omega, rfl, H2.out, H3'.out, HBl.out⟩
      case round =>
        clear H2 H3' HBl
        obtain ⟨k, hk, rfl, h2, h3, hb⟩ := hrel
        by_cases hk4 : k < 4
        · have cb := h3.cellAt t (by rw [mid_len l t k (by omega)]; omega)
          have fb := h3.frozenAt t
          rw [mid_at] at cb
          have cp := HC.out (4 * t + k) (by omega)
          rw [← hb.cell (World.block_lt_of_cell? w _ cp), ← Nat.add_assoc] at cp
          obtain ⟨p, hp⟩ : ∃ p, l.getD (4 * t + k) 0 = p := ⟨_, rfl⟩
          have hp0 := HB.out.getD (4 * t + k)
          rw [hp] at cp hp0
          obtain ⟨p0, p1⟩ := hp0
          have hst := Lib.hid (h3.stored t (wd l t (k + 1)))
          have H2 := Lib.hid h2; have H3 := Lib.hid h3; have HBl := Lib.hid hb; have HP := Lib.hid hp
          clear h2 h3 hb hp
          go_wp2_with fail
          go_roundw
          case rel =>
            refine ⟨k + 1, by omega, by go_num, ?_⟩
            have hn : I (wd l t k) * 256 % 4294967296 + p = I (wd l t (k + 1)) := by rw [next8 _ _ p0 p1, ← HP.out]; rfl
            rw [hn]
            have hs := hst.out
            rw [mid_set l t k _ rfl] at hs
            exact ⟨H2.out.other _ _ (by simp), hs, HBl.out.setCell (by simp) _⟩
          case measure => simp [intOf]; omega
        · obtain rfl : k = 4 := by omega
          have h3' := Lib.hid (show Row wr (w.heap.size + 1) 124 (full l (t + 1)) by rw [← mid_full l t htl]; exact h3)
          have H2 := Lib.hid h2; have HBl := Lib.hid hb
          clear h2 h3 hb
          go_wp2_with fail
          go_roundw
          case rel => exact ⟨t + 1, by omega, by go_num, H2.out, h3'.out, HBl.out⟩
          case measure => simp [intOf]; omega
    · obtain rfl : t = 16 := by omega
      go_wp2_with fail
      rw [show ((16 : Nat) : Int) = 16 from rfl]
      go_loopw [7] (fun i wr => ∃ t : Nat, 16 ≤ t ∧ t ≤ 64 ∧ i = .int .i64 t ∧ SRel w l t wr) (fun i _ => 64 - (intOf i).toNat)
      case atStart => exact ⟨16, by omega, by omega, rfl, H2.out, H3.out, HBl.out⟩
      case round =>
        clear H2 H3 HBl
        obtain ⟨t, ht0, ht1, rfl, hs⟩ := hrel
        by_cases h64 : t < 64
        · obtain ⟨x2, e2⟩ : ∃ x, (ws l t).getD (t - 2) 0 = x := ⟨_, rfl⟩
          obtain ⟨x7, e7⟩ : ∃ x, (ws l t).getD (t - 7) 0 = x := ⟨_, rfl⟩
          obtain ⟨x15, e15⟩ : ∃ x, (ws l t).getD (t - 15) 0 = x := ⟨_, rfl⟩
          obtain ⟨x16, e16⟩ : ∃ x, (ws l t).getD (t - 16) 0 = x := ⟨_, rfl⟩
          have hn : I (sml x2 17 19 10 + x7 + sml x15 7 18 3 + x16) = I (nxt (ws l t) t) := by rw [← e2, ← e7, ← e15, ← e16]; rfl
          have HN := Lib.hid hn; clear hn
          have HS := Lib.hid hs
          have E2 := Lib.hid e2; have E7 := Lib.hid e7; have E15 := Lib.hid e15; have E16 := Lib.hid e16
          clear hs e2 e7 e15 e16
          have i0 : ((t : Int) - 2).toNat = t - 2 := by omega
          have i1 : ((t : Int) - 7).toNat = t - 7 := by omega
          have i2 : ((t : Int) - 15).toNat = t - 15 := by omega
          have i3 : ((t : Int) - 16).toNat = t - 16 := by omega
          have j0 : (0 : Int) ≤ (t : Int) - 2 := by omega
          have j1 : (0 : Int) ≤ (t : Int) - 7 := by omega
          have j2 : (0 : Int) ≤ (t : Int) - 15 := by omega
          have j3 : (0 : Int) ≤ (t : Int) - 16 := by omega
          have q0 : (2 : Int) ≤ t := by omega
          have q1 : (7 : Int) ≤ t := by omega
          have q2 : (15 : Int) ≤ t := by omega
          have q3 : (16 : Int) ≤ t := by omega
          have r0 : (t : Int) - 2 < 64 := by omega
          have r1 : (t : Int) - 7 < 64 := by omega
          have r2 : (t : Int) - 15 < 64 := by omega
          have r3 : (t : Int) - 16 < 64 := by omega
          have k0 : IntKind.i64.wrap ((t : Int) - 2) = (t : Int) - 2 := IntWalk.i64_in _ (by omega)
          have k1 : IntKind.i64.wrap ((t : Int) - 7) = (t : Int) - 7 := IntWalk.i64_in _ (by omega)
          have k2 : IntKind.i64.wrap ((t : Int) - 15) = (t : Int) - 15 := IntWalk.i64_in _ (by omega)
          have k3 : IntKind.i64.wrap ((t : Int) - 16) = (t : Int) - 16 := IntWalk.i64_in _ (by omega)
          go_wp2_with fail
          go_region_held3 (fun W => W.cell? ⟨w.heap.size + 1, t - 2, none⟩ = some (.int .u32 (I x2)) ∧ W.cell? ⟨w.heap.size + 1, t - 7, none⟩ = some (.int .u32 (I x7)) ∧ W.cell? ⟨w.heap.size + 1, t - 15, none⟩ = some (.int .u32 (I x15)) ∧ W.cell? ⟨w.heap.size + 1, t - 16, none⟩ = some (.int .u32 (I x16)) ∧ W.cell? ⟨w.heap.size + 1, t, none⟩ = some (vof W ⟨w.heap.size + 1, t, none⟩) ∧ W.frozen? ⟨w.heap.size + 1, t, none⟩ = false ∧ Hid (TRel w l t W)) (first
            | exact held_mk ht0 h64 (.inl (HS.out.drewN _)) E2.out E7.out E15.out E16.out
            | exact held_mk ht0 h64 (.inr (st_rel (HS.out.drewN _) ht0 h64 (by rw [I_add, I_add, I_add]; exact HN.out))) E2.out E7.out E15.out E16.out
            | assumption) (first
            | (go_at_call 108; (with_reducible refine (small_a _ _).mono ?_); rintro e w' ⟨rfl, m, rfl⟩)
            | (go_at_call 108; (with_reducible refine (small_b _ _).mono ?_); rintro e w' ⟨rfl, m, rfl⟩))
          clear i0 i1 i2 i3 j0 j1 j2 j3 q0 q1 q2 q3 r0 r1 r2 r3 k0 k1 k2 k3
          go_wp2
          go_roundw
          case rel =>
            refine ⟨t + 1, by omega, by omega, by go_num, st_rel (HS.out.drewN _) ht0 h64 ?_⟩
            first
              | (rw [I_add, I_add, I_add]; exact HN.out)
              | (rw [← HN.out]; simp only [modI, BitVec.ofInt_add, ofInt_I])
          case measure => simp [intOf]; omega
        · obtain rfl : t = 64 := by omega
          obtain ⟨h2, h3, hb⟩ := hs
          have H2 := Lib.hid h2; have H3 := Lib.hid h3; have HBl := Lib.hid hb
          clear h2 h3 hb
          go_wp2_with (first
            | (refine wpList_load_32 rfl 124 (.tmp 3) rfl rfl H3.out Try.underlying124 rfl (n := 64) (by kernel_rfl) (full_len l 64 (by omega)) ?_)
            | (refine wpList_store_32 rfl 124 (.tmp 2) _ rfl rfl (L := full l 64) rfl H2.out (n := 64) (by kernel_rfl) (full_len l 64 (by omega)) rfl ?_))
          refine bodyPost_ret (v := .agg (cells32 (ws l 64))) ?_ rfl ⟨rfl, below_setRow HBl.out (Nat.le_refl _) _⟩
          have hr := H2.out.setRow (full l 64)
          rw [full_64] at hr ⊢
          exact results_cell_row rfl _ _ w.heap.size _ _ _ _ rfl hr Try.underlying124 rfl (by rw [cells32_size, ws_len]; kernel_rfl)

end Go.Proofs.Ytejhncdempfmjaa.sh

/-
  Layer 3: the contract of 'behind'.
-/
namespace Go.Proofs.Ytejhncdempfmjaa.sh
open Go.ChangeShapes Go.WideShapes Go.ChangeAt Go.RowKit
open bs
set_option linter.unusedVariables false

/-- The state behind the rounds, while its numbers are added one by one. -/
def part (s z : St) (i : Nat) : List (BitVec 32) := (s.add z).list.take i ++ z.list.drop i
theorem part_len (s z : St) (i : Nat) : (part s z i).length = 8 := by
  unfold part
  simp [St.list]
  omega
theorem part_next (s z : St) (i : Nat) (h : i < 8) : (part s z i).set i ((part s z i).getD i 0 + s.list.getD i 0) = part s z (i + 1) := by
  have : i = 0 ∨ i = 1 ∨ i = 2 ∨ i = 3 ∨ i = 4 ∨ i = 5 ∨ i = 6 ∨ i = 7 := by omega
  rcases this with rfl | rfl | rfl | rfl | rfl | rfl | rfl | rfl <;> rfl

def BRel (w : World) (s : St) (K : List (BitVec 32)) (l : List Int) (g : Nat) (L : List (BitVec 32)) (wr : World) : Prop :=
  Row wr w.heap.size 122 s.list ∧ Row wr (w.heap.size + 1) 124 K ∧ Row wr (w.heap.size + 2) 122 (List.replicate 8 0#32) ∧
  Row wr g 124 (ws l 64) ∧ Row wr (g + 1) 122 L ∧ Below w.heap.size w wr

set_option maxRecDepth 100000 in
set_option maxHeartbeats 1000000 in
theorem behind_any (s : St) (K : List (BitVec 32)) (hK : K.length = 64) (a : Option Addr) (c : Nat) (l : List Int) (w : World) (h : Bytes w a 64 c l) :
    Calls Try.prog 87 #[vSt s, .slice a 64 c, .agg (cells32 K)] w fun e w' => e = .returned (vSt (blk K s l)) ∧ Below w.heap.size w w' := by
  have HH := Lib.hid h
  have HK := Lib.hid hK
  clear h hK
  rw [show vSt s = .agg (cells32 s.list) from rfl]
  go_enter Try.func87, Try.ntmps87
  go_wp2_with fail
  have hB : Below w.heap.size w (((w.alloc (.cells (cells32 s.list) 122)).alloc (.cells (cells32 K) 124)).alloc (.cells (cells32 (List.replicate 8 0#32)) 122)) :=
    (((Below.refl _ _).alloc (Nat.le_refl _) _).alloc (by simp) _).alloc (by simp; omega) _
  refine (spread_any a c l _ (HH.out.below hB)).mono ?_
  rintro e w1 ⟨rfl, hb⟩
  have r0 : Row w1 w.heap.size 122 s.list := Row.below (((Row.made w 122 s.list).alloc _).alloc _) hb
  have r1 : Row w1 (w.heap.size + 1) 124 K := Row.below ((Row.made2 w _ 124 K).alloc _) hb
  have r2 : Row w1 (w.heap.size + 2) 122 (List.replicate 8 0#32) := Row.below (by have := Row.made ((w.alloc (.cells (cells32 s.list) 122)).alloc (.cells (cells32 K) 124)) 122 (List.replicate 8 0#32); simpa using this) hb
  have hB1 : Below w.heap.size w w1 := hB.trans (hb.mono (by simp; omega))
  have s1 := r2.lt
  have R0 := Lib.hid r0; have R1 := Lib.hid r1; have R2 := Lib.hid r2; have B1 := Lib.hid hB1
  clear r0 r1 r2 hB1 hB hb
  go_wp2_with (first
    | (refine wpList_store_32 rfl 124 (.tmp 7) _ rfl rfl (L := ws l 64) rfl (Row.made _ _ (List.replicate 64 0#32)) (n := 64) (by kernel_rfl) (ws_len l 64) rfl ?_)
    | (refine wpList_load_32 rfl 122 (.tmp 3) rfl rfl (L := s.list) ((R0.out.alloc _).setRow_other _ _ ?_) Try.underlying122 rfl (n := 8) (by kernel_rfl) rfl ?_)
    | (refine wpList_store_32 rfl 122 (.tmp 8) (.tmp 13) rfl rfl (L := s.list) rfl (Row.made_at _ _ (List.replicate 8 0#32) ?_) (n := 8) (by kernel_rfl) rfl rfl ?_))
  case refine_1 => omega
  case refine_1 => simp []
  go_loopw [14] (fun i wr => ∃ t : Nat, t ≤ 64 ∧ i = .int .i64 t ∧ BRel w s K l w1.heap.size (rs s K (ws l 64) t).list wr) (fun i _ => 64 - (intOf i).toNat)
  case atStart =>
    refine ⟨0, by omega, rfl, ?_, ?_, ?_, ?_, ?_, ?_⟩
    · exact (((R0.out.alloc _).setRow_other _ _ (by omega)).alloc _).setRow_other _ _ (by omega)
    · exact (((R1.out.alloc _).setRow_other _ _ (by omega)).alloc _).setRow_other _ _ (by omega)
    · exact (((R2.out.alloc _).setRow_other _ _ (by omega)).alloc _).setRow_other _ _ (by omega)
    · exact (((Row.made w1 _ (List.replicate 64 0#32)).setRow (ws l 64)).alloc _).setRow_other _ _ (by omega)
    · exact (Row.made_at _ _ (List.replicate 8 0#32) (by simp [])).setRow s.list
    · exact below_setRow ((below_setRow (B1.out.alloc (by omega) _) (by omega) _).alloc (by simp []; omega) _) (by omega) _
  case round =>
    clear R0 R1 R2 B1
    obtain ⟨t, ht, rfl, h0, h1, h2, h7, h8, hb⟩ := hrel
    by_cases h64 : t < 64
    · have cK := h1.cellAt t (by rw [HK.out]; exact h64)
      have cW := h7.cellAt t (by rw [ws_len]; exact h64)
      have hst : (rs s K (ws l 64) (t + 1)) = rnd (rs s K (ws l 64) t) (K.getD t 0 + (ws l 64).getD t 0) := rfl
      generalize rs s K (ws l 64) t = z at h8 hst
      generalize K.getD t 0 = kt at cK hst
      generalize (ws l 64).getD t 0 = wt at cW hst
      have HST := Lib.hid hst
      have e0 := h8.cellAt 0 (by simp [St.list])
      have e1 := h8.cellAt 1 (by simp [St.list])
      have e2 := h8.cellAt 2 (by simp [St.list])
      have e3 := h8.cellAt 3 (by simp [St.list])
      have e4 := h8.cellAt 4 (by simp [St.list])
      have e5 := h8.cellAt 5 (by simp [St.list])
      have e6 := h8.cellAt 6 (by simp [St.list])
      have e7 := h8.cellAt 7 (by simp [St.list])
      have H0 := Lib.hid h0; have H1 := Lib.hid h1; have H2 := Lib.hid h2; have H7 := Lib.hid h7; have H8 := Lib.hid h8; have HBl := Lib.hid hb
      clear h0 h1 h2 h7 h8 hb hst
      simp only [St.list] at e0 e1 e2 e3 e4 e5 e6 e7
      go_wp2_with fail
      go_still_tail 8, (by kernel_rfl)
      change wpList _ _ _ _ _ (wr.drewN 1)
      go_wp2_with fail
      rw [I_addm]
      refine (turn_any z (kt + wt) _).mono ?_
      rintro e w2 ⟨rfl, hb2⟩
      have n8 := (H8.out.drewN 1).below hb2
      have N8 := Lib.hid n8
      have N0 := Lib.hid ((H0.out.drewN 1).below hb2); have N1 := Lib.hid ((H1.out.drewN 1).below hb2); have N2 := Lib.hid ((H2.out.drewN 1).below hb2); have N7 := Lib.hid ((H7.out.drewN 1).below hb2)
      have NB := Lib.hid ((below_drewN HBl.out 1).trans (hb2.mono HBl.out.size))
      clear n8 hb2 e0 e1 e2 e3 e4 e5 e6 e7 cK cW
      go_wp2_with (refine wpList_store_32 rfl 122 (.tmp 8) _ rfl rfl (L := (rnd z (kt + wt)).list) rfl N8.out (n := 8) (by kernel_rfl) rfl rfl ?_)
      go_roundw
      case rel =>
        refine ⟨t + 1, by omega, by go_num, ?_, ?_, ?_, ?_, ?_, ?_⟩
        · exact N0.out.setRow_other _ _ (by omega)
        · exact N1.out.setRow_other _ _ (by omega)
        · exact N2.out.setRow_other _ _ (by omega)
        · exact N7.out.setRow_other _ _ (by omega)
        · rw [HST.out]; exact N8.out.setRow _
        · exact below_setRow NB.out (by omega) _
      case measure => simp [intOf]; omega
    · obtain rfl : t = 64 := by omega
      obtain ⟨z, hz⟩ : ∃ z, rs s K (ws l 64) 64 = z := ⟨_, rfl⟩
      rw [hz] at h8
      have HZ := Lib.hid (show s.add z = blk K s l by rw [← hz]; rfl)
      have H0 := Lib.hid h0; have H1 := Lib.hid h1; have H2 := Lib.hid h2; have H7 := Lib.hid h7; have H8 := Lib.hid h8; have HBl := Lib.hid hb
      clear h0 h1 h2 h7 h8 hb hz
      go_wp2_with fail
      rw [show ((64 : Nat) : Int) = 64 from rfl]
      go_loopw [27] (fun i wr => ∃ t : Nat, t ≤ 8 ∧ i = .int .i64 t ∧ BRel w s K l w1.heap.size (part s z t) wr) (fun i _ => 8 - (intOf i).toNat)
      case atStart => exact ⟨0, by omega, rfl, H0.out, H1.out, H2.out, H7.out, H8.out, HBl.out⟩
      case round =>
        clear H0 H1 H2 H7 H8 HBl
        obtain ⟨t, ht, rfl, h0, h1, h2, h7, h8, hb⟩ := hrel
        by_cases h64 : t < 8
        · have c0 := h0.cellAt t h64
          have c8 := h8.cellAt t (by rw [part_len]; exact h64)
          have f8 := h8.frozenAt t
          have hst := h8.stored t ((part s z t).getD t 0 + s.list.getD t 0)
          rw [part_next s z t h64] at hst
          generalize (part s z t).getD t 0 = x at c8 hst
          generalize s.list.getD t 0 = y at c0 hst
          have H0 := Lib.hid h0; have H1 := Lib.hid h1; have H2 := Lib.hid h2; have H7 := Lib.hid h7; have HS := Lib.hid hst; have HBl := Lib.hid hb
          clear h0 h1 h2 h7 h8 hst hb
          go_wp2_with fail
          go_region
          rw [I_addm]
          go_wp2
          go_roundw
          case rel =>
            refine ⟨t + 1, by omega, by go_num, ?_, ?_, ?_, ?_, ?_, ?_⟩
            · exact H0.out.other _ _ (by simp; omega)
            · exact H1.out.other _ _ (by simp; omega)
            · exact H2.out.other _ _ (by simp; omega)
            · exact H7.out.other _ _ (by simp)
            · exact HS.out
            · exact (HBl.out.setCell (by simp; omega) _).drew
          case measure => simp [intOf]; omega
        · obtain rfl : t = 8 := by omega
          have H0 := Lib.hid h0; have H2 := Lib.hid h2; have H8 := Lib.hid h8; have HBl := Lib.hid hb
          clear h0 h1 h2 h7 h8 hb
          have hp : part s z 8 = (s.add z).list := rfl
          have HP := Lib.hid hp; clear hp
          go_wp2_with (first
            | (refine wpList_load_32 rfl 122 (.tmp 8) rfl rfl (L := part s z 8) H8.out Try.underlying122 rfl (n := 8) (by kernel_rfl) (part_len s z 8) ?_)
            | (refine wpList_store_32 rfl 122 (.tmp 6) _ rfl rfl (L := part s z 8) rfl H2.out (n := 8) (by kernel_rfl) (part_len s z 8) rfl ?_))
          rw [← HZ.out, show vSt (s.add z) = .agg (cells32 (part s z 8)) from rfl]
          refine bodyPost_ret (v := .agg (cells32 (part s z 8))) ?_ rfl ⟨rfl, below_setRow HBl.out (by omega) _⟩
          exact results_cell_row rfl _ _ (w.heap.size + 2) _ _ _ _ rfl (H2.out.setRow (part s z 8)) Try.underlying122 rfl (by rw [cells32_size, part_len]; kernel_rfl)

end Go.Proofs.Ytejhncdempfmjaa.sh

/-
  Layer 3: the contracts of the first state and of the round numbers, as the program makes them.
-/
namespace Go.Proofs.Ytejhncdempfmjaa.sh
open Go.ChangeShapes Go.WideShapes Go.ChangeAt Go.RowKit
open bs
open Go.Proofs.Ytejhncdempfmjaa.rs
set_option linter.unusedVariables false

theorem ofNatm (n : Nat) : (n : Int) % 4294967296 = I (BitVec.ofNat 32 n) := by rw [← wrap32, I_ofNat]
/-- The first numbers of D, and 0 behind them. -/
def fil (D : List (BitVec 32)) (i : Nat) : List (BitVec 32) := D.take i ++ List.replicate (D.length - i) 0#32
theorem fil_len (D : List (BitVec 32)) (i : Nat) (h : i ≤ D.length) : (fil D i).length = D.length := by
  unfold fil
  simp
  omega
theorem fil_all (D : List (BitVec 32)) (i : Nat) (h : D.length = i) : fil D i = D := by
  subst h
  unfold fil
  simp
theorem fil_set (D : List (BitVec 32)) (i : Nat) (h : i < D.length) : (fil D i).set i (D.getD i 0) = fil D (i + 1) := by
  unfold fil
  rw [List.set_append_right _ _ (by simp; omega), List.length_take, Nat.min_eq_left (by omega), Nat.sub_self, show D.length - i = (D.length - (i + 1)) + 1 by omega, List.replicate_succ, List.set_cons_zero, List.take_add_one, List.getElem?_eq_getElem h,
    List.getD_eq_getElem?_getD, List.getElem?_eq_getElem h, List.append_assoc]
  rfl
theorem cells32_kind (L : List (BitVec 32)) (i : Nat) (v : Int) : (cells32 L)[i]? ≠ some (.int .i64 v) := by
  intro h
  simp only [cells32, List.getElem?_toArray, List.getElem?_map, Option.map_eq_some_iff] at h
  obtain ⟨x, _, hx⟩ := h
  simp at hx

set_option maxRecDepth 100000 in
set_option maxHeartbeats 1000000 in
theorem first_any (w : World) :
    Calls Try.prog 85 #[] w fun e w' => e = .returned (.agg (cells32 Hl)) ∧ Below w.heap.size w w' := by
  go_enter Try.func85, Try.ntmps85
  go_wp2_with fail
  have hB : Below w.heap.size w ((w.alloc (.cells (cells32 (List.replicate 8 0#32)) 122)).alloc (.cells (cells32 (List.replicate 8 0#32)) 122)) :=
    ((Below.refl _ _).alloc (Nat.le_refl _) _).alloc (by simp) _
  refine (primes_any 8 _ (by omega) (by omega)).mono ?_
  rintro e w1 ⟨a, c, p, rfl, ho, hb, hl⟩
  have hpl : pl p = pl 20 := pl_eq (by rw [hl]; decide +kernel)
  rw [show cnt 8 = 8 from rfl, hpl] at ho
  rw [show cnt 8 = 8 from rfl]
  have r0 : Row w1 w.heap.size 122 (List.replicate 8 0#32) := Row.below ((Row.made w 122 (List.replicate 8 0#32)).alloc _) hb
  have r1 : Row w1 (w.heap.size + 1) 122 (List.replicate 8 0#32) := Row.below (Row.made2 w _ 122 (List.replicate 8 0#32)) hb
  have hB1 : Below w.heap.size w w1 := hB.trans (hb.mono (by simp; omega))
  have hi := ho.reads
  obtain ⟨b, off, rfl, hc⟩ := hi.at'.resolve_left (by omega)
  have HC := Lib.hid hc
  have hm := hi.most
  have hk := hi.cap
  have HL := Lib.hid (show (pl 20).length = 8 from pl_20)
  have hbz := World.block_lt_of_cell? w1 _ (hc 0 (by omega))
  have HZ := Lib.hid hbz
  have R0 := Lib.hid r0; have R1 := Lib.hid r1; have HB := Lib.hid hB1
  clear hi hc r0 r1 hB1 hB hb hl hpl ho hbz
  go_wp2_with fail
  go_loopw [6] (fun i wr => ∃ t : Nat, t ≤ 8 ∧ i = .int .i64 t ∧ Row wr w.heap.size 122 (List.replicate 8 0#32) ∧ Row wr (w.heap.size + 1) 122 (fil Hl t) ∧ Below w.heap.size w wr ∧ (∀ k, k < 8 → wr.cell? ⟨b, off + k, none⟩ = some (.int .i64 ((pl 20).getD k 0)))) (fun i _ => 8 - (intOf i).toNat)
  case atStart => exact ⟨0, by omega, rfl, R0.out, R1.out, HB.out, HC.out⟩
  case round =>
    clear R0 R1 HB HC HZ
    obtain ⟨t, ht, rfl, h0, h1, hb, hc⟩ := hrel
    by_cases h : t < 8
    · have ct := hc t h
      have hbd := pl_bd 20 ((pl 20).getD t 0) (by rw [List.getD_eq_getElem?_getD, List.getElem?_eq_getElem (by rw [HL.out]; exact h)]; exact List.getElem_mem _)
      have hv : Hl.getD t 0 = BitVec.ofNat 32 (sq ((pl 20).getD t 0)) := by
        unfold Hl
        rw [List.getD_eq_getElem?_getD, List.getElem?_map, List.getD_eq_getElem?_getD, List.getElem?_eq_getElem (by rw [HL.out]; exact h)]
        rfl
      generalize (pl 20).getD t 0 = q at ct hbd hv
      have HV := Lib.hid hv
      have H0 := Lib.hid h0; have H1 := Lib.hid h1; have HBl := Lib.hid hb; have HC := Lib.hid hc
      have hbz := World.block_lt_of_cell? wr _ ct
      have HZ := Lib.hid hbz
      clear hv h0 h1 hb hc hbz
      go_wp2_with fail
      refine (square_any q _ (by omega) (by omega)).mono ?_
      rintro e w2 ⟨rfl, hb2⟩
      have n1 := H1.out.below hb2
      have cc := n1.cellAt t (by rw [fil_len _ _ (by rw [Hl_len]; exact ht), Hl_len]; exact h)
      have cf := n1.frozenAt t
      have N0 := Lib.hid (H0.out.below hb2); have N1 := Lib.hid n1; have NB := Lib.hid (HBl.out.trans (hb2.mono HBl.out.size))
      have NC := Lib.hid (fun k hk => (hb2.cell (p := ⟨b, off + k, none⟩) HZ.out).trans (HC.out k hk))
      have hg : b ≠ w.heap.size + 1 := by
        rintro rfl
        have := H1.out
        unfold Row at this
        have h2 := HC.out 0 (by omega)
        rw [cell_of_row _ _ _ _ _ _ this] at h2
        exact cells32_kind _ _ _ h2
      have HG := Lib.hid hg
      clear n1 hb2 hg
      go_wp2
      rw [ofNatm]
      go_roundw
      case rel =>
        refine ⟨t + 1, by omega, by go_num, N0.out.other _ _ (by simp), ?_, NB.out.setCell (by simp) _, ?_⟩
        · rw [← fil_set Hl t (by rw [Hl_len]; exact h), HV.out]
          exact N1.out.stored t _
        · intro k hk
          rw [← NC.out k hk]
          exact World.cell?_setCell_far _ _ _ _ (fun e => HG.out e.symm)
      case measure => simp [intOf]; omega
    · obtain rfl : t = 8 := by omega
      have hf : fil Hl 8 = Hl := fil_all _ _ Hl_len
      rw [hf] at h1
      have H0 := Lib.hid h0; have H1 := Lib.hid h1; have HBl := Lib.hid hb
      clear h0 h1 hb hf hc
      go_wp2_with (first
        | (refine wpList_load_32 rfl 122 (.tmp 1) rfl rfl (L := Hl) H1.out Try.underlying122 rfl (n := 8) (by kernel_rfl) Hl_len ?_)
        | (refine wpList_store_32 rfl 122 (.tmp 0) _ rfl rfl (L := Hl) rfl H0.out (n := 8) (by kernel_rfl) Hl_len rfl ?_))
      refine bodyPost_ret (v := .agg (cells32 Hl)) ?_ rfl ⟨rfl, below_setRow HBl.out (by omega) _⟩
      exact results_cell_row rfl _ _ w.heap.size _ _ _ _ rfl (H0.out.setRow Hl) Try.underlying122 rfl (by rw [cells32_size, Hl_len]; kernel_rfl)

set_option maxRecDepth 100000 in
set_option maxHeartbeats 1000000 in
theorem rounds_any (w : World) :
    Calls Try.prog 86 #[] w fun e w' => e = .returned (.agg (cells32 Kc)) ∧ Below w.heap.size w w' := by
  go_enter Try.func86, Try.ntmps86
  go_wp2_with fail
  have hB : Below w.heap.size w ((w.alloc (.cells (cells32 (List.replicate 64 0#32)) 124)).alloc (.cells (cells32 (List.replicate 64 0#32)) 124)) :=
    ((Below.refl _ _).alloc (Nat.le_refl _) _).alloc (by simp) _
  refine (primes_any 64 _ (by omega) (by omega)).mono ?_
  rintro e w1 ⟨a, c, p, rfl, ho, hb, hl⟩
  have hpl : pl p = pl 312 := pl_eq (by rw [hl]; decide +kernel)
  rw [show cnt 64 = 64 from rfl, hpl] at ho
  rw [show cnt 64 = 64 from rfl]
  have r0 : Row w1 w.heap.size 124 (List.replicate 64 0#32) := Row.below ((Row.made w 124 (List.replicate 64 0#32)).alloc _) hb
  have r1 : Row w1 (w.heap.size + 1) 124 (List.replicate 64 0#32) := Row.below (Row.made2 w _ 124 (List.replicate 64 0#32)) hb
  have hB1 : Below w.heap.size w w1 := hB.trans (hb.mono (by simp; omega))
  have hi := ho.reads
  obtain ⟨b, off, rfl, hc⟩ := hi.at'.resolve_left (by omega)
  have HC := Lib.hid hc
  have hm := hi.most
  have hk := hi.cap
  have HL := Lib.hid (show (pl 312).length = 64 from pl_312)
  have hbz := World.block_lt_of_cell? w1 _ (hc 0 (by omega))
  have HZ := Lib.hid hbz
  have R0 := Lib.hid r0; have R1 := Lib.hid r1; have HB := Lib.hid hB1
  clear hi hc r0 r1 hB1 hB hb hl hpl ho hbz
  go_wp2_with fail
  go_loopw [6] (fun i wr => ∃ t : Nat, t ≤ 64 ∧ i = .int .i64 t ∧ Row wr w.heap.size 124 (List.replicate 64 0#32) ∧ Row wr (w.heap.size + 1) 124 (fil Kc t) ∧ Below w.heap.size w wr ∧ (∀ k, k < 64 → wr.cell? ⟨b, off + k, none⟩ = some (.int .i64 ((pl 312).getD k 0)))) (fun i _ => 64 - (intOf i).toNat)
  case atStart => exact ⟨0, by omega, rfl, R0.out, R1.out, HB.out, HC.out⟩
  case round =>
    clear R0 R1 HB HC HZ
    obtain ⟨t, ht, rfl, h0, h1, hb, hc⟩ := hrel
    by_cases h : t < 64
    · have ct := hc t h
      have hbd := pl_bd 312 ((pl 312).getD t 0) (by rw [List.getD_eq_getElem?_getD, List.getElem?_eq_getElem (by rw [HL.out]; exact h)]; exact List.getElem_mem _)
      have hv : Kc.getD t 0 = BitVec.ofNat 32 (cu ((pl 312).getD t 0)) := by
        unfold Kc
        rw [List.getD_eq_getElem?_getD, List.getElem?_map, List.getD_eq_getElem?_getD, List.getElem?_eq_getElem (by rw [HL.out]; exact h)]
        rfl
      generalize (pl 312).getD t 0 = q at ct hbd hv
      have HV := Lib.hid hv
      have H0 := Lib.hid h0; have H1 := Lib.hid h1; have HBl := Lib.hid hb; have HC := Lib.hid hc
      have hbz := World.block_lt_of_cell? wr _ ct
      have HZ := Lib.hid hbz
      clear hv h0 h1 hb hc hbz
      go_wp2_with fail
      refine (cube_any q _ (by omega) (by omega)).mono ?_
      rintro e w2 ⟨rfl, hb2⟩
      have n1 := H1.out.below hb2
      have cc := n1.cellAt t (by rw [fil_len _ _ (by rw [Kc_len]; exact ht), Kc_len]; exact h)
      have cf := n1.frozenAt t
      have N0 := Lib.hid (H0.out.below hb2); have N1 := Lib.hid n1; have NB := Lib.hid (HBl.out.trans (hb2.mono HBl.out.size))
      have NC := Lib.hid (fun k hk => (hb2.cell (p := ⟨b, off + k, none⟩) HZ.out).trans (HC.out k hk))
      have hg : b ≠ w.heap.size + 1 := by
        rintro rfl
        have := H1.out
        unfold Row at this
        have h2 := HC.out 0 (by omega)
        rw [cell_of_row _ _ _ _ _ _ this] at h2
        exact cells32_kind _ _ _ h2
      have HG := Lib.hid hg
      clear n1 hb2 hg
      go_wp2
      rw [ofNatm]
      go_roundw
      case rel =>
        refine ⟨t + 1, by omega, by go_num, N0.out.other _ _ (by simp), ?_, NB.out.setCell (by simp) _, ?_⟩
        · rw [← fil_set Kc t (by rw [Kc_len]; exact h), HV.out]
          exact N1.out.stored t _
        · intro k hk
          rw [← NC.out k hk]
          exact World.cell?_setCell_far _ _ _ _ (fun e => HG.out e.symm)
      case measure => simp [intOf]; omega
    · obtain rfl : t = 64 := by omega
      have hf : fil Kc 64 = Kc := fil_all _ _ Kc_len
      rw [hf] at h1
      have H0 := Lib.hid h0; have H1 := Lib.hid h1; have HBl := Lib.hid hb
      clear h0 h1 hb hf hc
      go_wp2_with (first
        | (refine wpList_load_32 rfl 124 (.tmp 1) rfl rfl (L := Kc) H1.out Try.underlying124 rfl (n := 64) (by kernel_rfl) Kc_len ?_)
        | (refine wpList_store_32 rfl 124 (.tmp 0) _ rfl rfl (L := Kc) rfl H0.out (n := 64) (by kernel_rfl) Kc_len rfl ?_))
      refine bodyPost_ret (v := .agg (cells32 Kc)) ?_ rfl ⟨rfl, below_setRow HBl.out (by omega) _⟩
      exact results_cell_row rfl _ _ w.heap.size _ _ _ _ rfl (H0.out.setRow Kc) Try.underlying124 rfl (by rw [cells32_size, Kc_len]; kernel_rfl)

end Go.Proofs.Ytejhncdempfmjaa.sh

/-
  Layer 3: the contracts of the first state and of the round numbers, as the document makes them.
-/
namespace Go.Proofs.Ytejhncdempfmjaa.sh
open Go.ChangeShapes Go.WideShapes Go.ChangeAt Go.RowKit
open bs
open Go.Proofs.Ytejhncdempfmjaa.rs
set_option linter.unusedVariables false

theorem u32T : U32T Try.prog 136 120 := ⟨Try.underlying136, by kernel_rfl⟩
def WPost (w : World) (base n : Nat) (l : List Int) (e : Ending) (w' : World) : Prop :=
  ∃ (a : Option Addr) (c : Nat), e = .returned (.slice a n c) ∧ OwnW w' base 120 a n c l ∧ Below base w w'
theorem own_apart {w : World} {base base' n c n' c' : Nat} {a : Option Addr} {l l' : List Int} {g : Nat} (h : OwnW w base 120 a n c l) (h' : OwnI w base' 3 (some ⟨g, 0, none⟩) n' c' l') : Value.ownBlock (.slice a n c) ≠ some g := by
  intro he
  rcases h.cases with ⟨rfl, rfl, rfl⟩ | ⟨g2, rfl, _⟩
  · simp [Value.ownBlock] at he
  · simp only [Value.ownBlock, Option.some.injEq] at he
    subst he
    obtain ⟨c1, h1⟩ := h.block
    obtain ⟨c2, h2⟩ := h'.block
    rw [h1] at h2
    simp at h2
theorem I_allW (D : List (BitVec 32)) : AllW (D.map I) := by
  intro x hx
  obtain ⟨b, _, rfl⟩ := List.mem_map.1 hx
  exact ⟨I_lo b, I_hi b⟩

set_option maxRecDepth 100000 in
set_option maxHeartbeats 1000000 in
theorem rstart_any (w : World) : Calls Try.prog 100 #[] w (WPost w w.heap.size 8 (Hl.map I)) := by
  go_enter Try.func100, Try.ntmps100
  go_wp2_with fail
  have hB : Below w.heap.size w (w.alloc (.cells #[] 120)) := (Below.refl _ _).alloc (Nat.le_refl _) _
  have hO : OwnW (w.alloc (.cells #[] 120)) w.heap.size 120 (some ⟨w.heap.size, 0, none⟩) 0 0 [] := OwnW.made w _ _ [] _ rfl (Nat.le_refl _) (by simp [maxLen]) (by simp [AllW])
  refine (rprimes_any 8 _ (by omega) (by omega)).mono ?_
  rintro e w1 ⟨a, c, p, rfl, ho, hb, hl⟩
  have hpl : pl p = pl 20 := pl_eq (by rw [hl]; decide +kernel)
  rw [show cnt 8 = 8 from rfl, hpl] at ho
  rw [show cnt 8 = 8 from rfl]
  have hca := ho.cases
  simp only [show ¬ (8 = 0) by omega, false_and, and_false, false_or] at hca
  obtain ⟨g, rfl, hg1, hg2, hg3, hg4⟩ := hca
  have HL := Lib.hid (show (pl 20).length = 8 from pl_20)
  have HO := Lib.hid (hO.below hb)
  have HB := Lib.hid (hB.trans (hb.mono (by simp)))
  have HP := Lib.hid (ho.mono (show w.heap.size ≤ _ by simp))
  have hsz := HB.out.size
  clear hpl ho hb hl hO hB
  simp only [maxLen] at hg4
  go_wp2_with fail
  go_loopw [1, 3] (fun out i wr => ∃ (t c2 : Nat) (a : Option Addr), t ≤ 8 ∧ i = .int .i64 t ∧ out = .slice a t c2 ∧ OwnW wr w.heap.size 120 a t c2 ((Hl.map I).take t) ∧ OwnI wr w.heap.size 3 (some ⟨g, 0, none⟩) 8 c (pl 20) ∧ Below w.heap.size w wr) (fun _ i _ => 8 - (intOf i).toNat)
  case atStart => exact ⟨0, 0, _, by omega, rfl, rfl, HO.out, HP.out, HB.out⟩
  case round =>
    clear HO HP HB
    obtain ⟨t, c2, a2, ht, rfl, rfl, ho, hp, hb⟩ := hrel
    by_cases h : t < 8
    · have ct := hp.cellAt t h
      have hbd := pl_bd 20 ((pl 20).getD t 0) (by rw [List.getD_eq_getElem?_getD, List.getElem?_eq_getElem (by rw [HL.out]; exact h)]; exact List.getElem_mem _)
      have hv : Hl.getD t 0 = BitVec.ofNat 32 (sq ((pl 20).getD t 0)) := by
        unfold Hl
        rw [List.getD_eq_getElem?_getD, List.getElem?_map, List.getD_eq_getElem?_getD, List.getElem?_eq_getElem (by rw [HL.out]; exact h)]
        rfl
      generalize (pl 20).getD t 0 = q at ct hbd hv
      have hv2 : (Hl.map I).take t ++ [((sq q : Nat) : Int) % 4294967296] = (Hl.map I).take (t + 1) := by
        rw [ofNatm, ← hv, List.take_add_one, List.getElem?_map, List.getElem?_eq_getElem (by rw [Hl_len]; exact h), List.getD_eq_getElem?_getD, List.getElem?_eq_getElem (by rw [Hl_len]; exact h)]
        rfl
      have HV := Lib.hid hv2
      have HO := Lib.hid ho; have HP := Lib.hid hp; have HBl := Lib.hid hb
      clear hv hv2 ho hp hb
      go_wp2_with fail
      refine (root2_any q _ (by omega) (by omega)).mono ?_
      rintro e w2 ⟨rfl, hb2⟩
      have NO := Lib.hid (HO.out.below hb2); have NP := Lib.hid (HP.out.below hb2); have NB := Lib.hid (HBl.out.trans (hb2.mono HBl.out.size))
      have s2 := NB.out.size
      clear hb2 ct
      go_wp2_with (at_builtin; refine wpList_append_W2 u32T rfl _ _ rfl w.heap.size rfl (NO.out.alloc _) rfl (U32s.one _ _ _ ?_) ?_ ?_ ?_)
      · omega
      · omega
      · (try simp); omega
      intro a3 c3 w3 ho3 hb3 hg3
      rw [HV.out] at ho3
      have hne : Value.ownBlock (.slice a2 t c2) ≠ some g := own_apart NO.out NP.out
      have hlt : g < w2.heap.size := by
        obtain ⟨cur, hcur⟩ := NP.out.block
        exact (Array.getElem?_eq_some_iff.1 hcur).1
      have HP3 := Lib.hid (NP.out.keep (w' := w3) (by rw [hg3.block g (by simp; omega) (Ne.symm hne), heap_alloc_old _ _ hlt]))
      have HO3 := Lib.hid ho3; have HB3 := Lib.hid ((NB.out.alloc s2 _).trans hb3)
      clear ho3 hb3 hg3 hne hlt
      go_wp2
      go_roundw
      case rel => exact ⟨t + 1, c3, a3, by omega, by go_num, rfl, HO3.out, HP3.out, HB3.out⟩
      case measure => simp [intOf]; omega
    · obtain rfl : t = 8 := by omega
      rw [List.take_of_length_le (by rw [List.length_map, Hl_len]; omega)] at ho
      have HO := Lib.hid ho; have HBl := Lib.hid hb
      clear ho hp hb
      go_wp2
      go_ret
      exact ⟨a2, c2, rfl, HO.out, HBl.out⟩

set_option maxRecDepth 100000 in
set_option maxHeartbeats 1000000 in
theorem rrounds_any (w : World) : Calls Try.prog 99 #[] w (WPost w w.heap.size 64 (Kc.map I)) := by
  go_enter Try.func99, Try.ntmps99
  go_wp2_with fail
  have hB : Below w.heap.size w (w.alloc (.cells #[] 120)) := (Below.refl _ _).alloc (Nat.le_refl _) _
  have hO : OwnW (w.alloc (.cells #[] 120)) w.heap.size 120 (some ⟨w.heap.size, 0, none⟩) 0 0 [] := OwnW.made w _ _ [] _ rfl (Nat.le_refl _) (by simp [maxLen]) (by simp [AllW])
  refine (rprimes_any 64 _ (by omega) (by omega)).mono ?_
  rintro e w1 ⟨a, c, p, rfl, ho, hb, hl⟩
  have hpl : pl p = pl 312 := pl_eq (by rw [hl]; decide +kernel)
  rw [show cnt 64 = 64 from rfl, hpl] at ho
  rw [show cnt 64 = 64 from rfl]
  have hca := ho.cases
  simp only [show ¬ (64 = 0) by omega, false_and, and_false, false_or] at hca
  obtain ⟨g, rfl, hg1, hg2, hg3, hg4⟩ := hca
  have HL := Lib.hid (show (pl 312).length = 64 from pl_312)
  have HO := Lib.hid (hO.below hb)
  have HB := Lib.hid (hB.trans (hb.mono (by simp)))
  have HP := Lib.hid (ho.mono (show w.heap.size ≤ _ by simp))
  have hsz := HB.out.size
  clear hpl ho hb hl hO hB
  simp only [maxLen] at hg4
  go_wp2_with fail
  go_loopw [1, 3] (fun out i wr => ∃ (t c2 : Nat) (a : Option Addr), t ≤ 64 ∧ i = .int .i64 t ∧ out = .slice a t c2 ∧ OwnW wr w.heap.size 120 a t c2 ((Kc.map I).take t) ∧ OwnI wr w.heap.size 3 (some ⟨g, 0, none⟩) 64 c (pl 312) ∧ Below w.heap.size w wr) (fun _ i _ => 64 - (intOf i).toNat)
  case atStart => exact ⟨0, 0, _, by omega, rfl, rfl, HO.out, HP.out, HB.out⟩
  case round =>
    clear HO HP HB
    obtain ⟨t, c2, a2, ht, rfl, rfl, ho, hp, hb⟩ := hrel
    by_cases h : t < 64
    · have ct := hp.cellAt t h
      have hbd := pl_bd 312 ((pl 312).getD t 0) (by rw [List.getD_eq_getElem?_getD, List.getElem?_eq_getElem (by rw [HL.out]; exact h)]; exact List.getElem_mem _)
      have hv : Kc.getD t 0 = BitVec.ofNat 32 (cu ((pl 312).getD t 0)) := by
        unfold Kc
        rw [List.getD_eq_getElem?_getD, List.getElem?_map, List.getD_eq_getElem?_getD, List.getElem?_eq_getElem (by rw [HL.out]; exact h)]
        rfl
      generalize (pl 312).getD t 0 = q at ct hbd hv
      have hv2 : (Kc.map I).take t ++ [((cu q : Nat) : Int) % 4294967296] = (Kc.map I).take (t + 1) := by
        rw [ofNatm, ← hv, List.take_add_one, List.getElem?_map, List.getElem?_eq_getElem (by rw [Kc_len]; exact h), List.getD_eq_getElem?_getD, List.getElem?_eq_getElem (by rw [Kc_len]; exact h)]
        rfl
      have HV := Lib.hid hv2
      have HO := Lib.hid ho; have HP := Lib.hid hp; have HBl := Lib.hid hb
      clear hv hv2 ho hp hb
      go_wp2_with fail
      refine (root_any q _ (by omega) (by omega)).mono ?_
      rintro e w2 ⟨rfl, hb2⟩
      have NO := Lib.hid (HO.out.below hb2); have NP := Lib.hid (HP.out.below hb2); have NB := Lib.hid (HBl.out.trans (hb2.mono HBl.out.size))
      have s2 := NB.out.size
      clear hb2 ct
      go_wp2_with (at_builtin; refine wpList_append_W2 u32T rfl _ _ rfl w.heap.size rfl (NO.out.alloc _) rfl (U32s.one _ _ _ ?_) ?_ ?_ ?_)
      · omega
      · omega
      · (try simp); omega
      intro a3 c3 w3 ho3 hb3 hg3
      rw [HV.out] at ho3
      have hne : Value.ownBlock (.slice a2 t c2) ≠ some g := own_apart NO.out NP.out
      have hlt : g < w2.heap.size := by
        obtain ⟨cur, hcur⟩ := NP.out.block
        exact (Array.getElem?_eq_some_iff.1 hcur).1
      have HP3 := Lib.hid (NP.out.keep (w' := w3) (by rw [hg3.block g (by simp; omega) (Ne.symm hne), heap_alloc_old _ _ hlt]))
      have HO3 := Lib.hid ho3; have HB3 := Lib.hid ((NB.out.alloc s2 _).trans hb3)
      clear ho3 hb3 hg3 hne hlt
      go_wp2
      go_roundw
      case rel => exact ⟨t + 1, c3, a3, by omega, by go_num, rfl, HO3.out, HP3.out, HB3.out⟩
      case measure => simp [intOf]; omega
    · obtain rfl : t = 64 := by omega
      rw [List.take_of_length_le (by rw [List.length_map, Kc_len]; omega)] at ho
      have HO := Lib.hid ho; have HBl := Lib.hid hb
      clear ho hp hb
      go_wp2
      go_ret
      exact ⟨a2, c2, rfl, HO.out, HBl.out⟩

end Go.Proofs.Ytejhncdempfmjaa.sh

/-
  Layer 3: the contract of the document's 'Numbers'.
-/
namespace Go.Proofs.Ytejhncdempfmjaa.sh
open Go.ChangeShapes Go.WideShapes Go.ChangeAt Go.RowKit
open bs
open Go.Proofs.Ytejhncdempfmjaa.rs
set_option linter.unusedVariables false

theorem shr10 (x : BitVec 32) : I x / (1024 : Int) = I (x >>> 10) := I_shr x 10
theorem shr3 (x : BitVec 32) : I x / (8 : Int) = I (x >>> 3) := I_shr x 3
theorem ws_next (l : List Int) (t : Nat) (x : BitVec 32) (h : (if t < 16 then wd l t 4 else nxt (ws l t) t) = x) : (ws l t).map I ++ [I x] = (ws l (t + 1)).map I := by
  rw [ws, h, List.map_append]
  rfl
theorem ws_mapat (l : List Int) (t i : Nat) (h : i < t) : ((ws l t).map I).getD i 0 = I ((ws l t).getD i 0) := by
  rw [List.getD_eq_getElem?_getD, List.getElem?_map, List.getD_eq_getElem?_getD, List.getElem?_eq_getElem (by rw [ws_len]; exact h)]
  rfl

set_option maxRecDepth 100000 in
set_option maxHeartbeats 1000000 in
theorem numbers_any (a : Option Addr) (c : Nat) (l : List Int) (w : World) (h : Bytes w a 64 c l) :
    Calls Try.prog 112 #[.slice a 64 c] w (WPost w w.heap.size 64 ((ws l 64).map I)) := by
  obtain ⟨b, off, rfl, hc⟩ := h.at'.resolve_left (by omega)
  have hm := h.most; have hk := h.cap
  have HB := Lib.hid h.all
  have HC := Lib.hid hc
  clear h hc
  go_enter Try.func112, Try.ntmps112
  go_wp2_with fail
  go_loopw [3, 4] (fun out i wr => ∃ (t c2 : Nat) (a : Option Addr), t ≤ 16 ∧ i = .int .i64 t ∧ out = .slice a t c2 ∧ OwnW wr w.heap.size 120 a t c2 ((ws l t).map I) ∧ Below w.heap.size w wr) (fun _ i _ => 16 - (intOf i).toNat)
  case atStart => exact ⟨0, 0, _, by omega, rfl, rfl, OwnW.made w _ _ [] _ rfl (Nat.le_refl _) (by simp [maxLen]) (by simp [AllW]), (Below.refl _ _).alloc (Nat.le_refl _) _⟩
  case round =>
    obtain ⟨t, c2, a2, ht, rfl, rfl, ho, hb⟩ := hrel
    have HO := Lib.hid ho; have HBl := Lib.hid hb
    have s1 := hb.size
    clear ho hb
    by_cases htl : t < 16
    · go_wp2_with fail
      obtain ⟨wo, rfl⟩ : ∃ wo : World, wo = wr := ⟨_, rfl⟩
      go_loop [5, 6] (fun v j => ∃ k : Nat, k ≤ 4 ∧ j = .int .i64 k ∧ v = .int .u32 (I (wd l t k))) (fun _ j => 4 - (intOf j).toNat)
      case atStart => exact ⟨0, by omega, rfl, rfl⟩
      case round =>
        obtain ⟨k, hk, rfl, rfl⟩ := hrel
        by_cases hk4 : k < 4
        · have cp := HC.out (4 * t + k) (by omega)
          rw [← HBl.out.cell (World.block_lt_of_cell? w _ cp)] at cp
          obtain ⟨p, hp⟩ : ∃ p, l.getD (4 * t + k) 0 = p := ⟨_, rfl⟩
          have hp0 := HB.out.getD (4 * t + k)
          rw [hp] at cp hp0
          obtain ⟨p0, p1⟩ := hp0
          have HN := Lib.hid (show I (wd l t k) * 256 % 4294967296 + p = I (wd l t (k + 1)) by rw [next8 _ _ p0 p1, ← hp]; rfl)
          have i0 : ((4 : Int) * t + k).toNat = 4 * t + k := by omega
          have j0 : (0 : Int) ≤ 4 * (t : Int) + k := by omega
          clear hp
          go_wp2_with fail
          go_round
          case rel => exact ⟨k + 1, by omega, by go_num, by rw [HN.out]⟩
          case measure => simp [intOf]; omega
        · obtain rfl : k = 4 := by omega
          have HN := Lib.hid (ws_next l t (wd l t 4) (if_pos htl))
          have b0 := I_lo (wd l t 4)
          have b1 := I_hi (wd l t 4)
          go_wp2_with (at_builtin; refine wpList_append_W u32T rfl _ _ rfl w.heap.size rfl (HO.out.alloc _) rfl (U32s.one _ _ _ ⟨b0, b1⟩) ?_ ?_ ?_)
          · omega
          · (try simp); omega
          intro a3 c3 w3 ho3 hb3 _
          rw [HN.out] at ho3
          have HO3 := Lib.hid ho3; have HB3 := Lib.hid ((HBl.out.alloc s1 _).trans hb3)
          clear ho3 hb3
          go_wp2
          go_roundw
          case rel => exact ⟨t + 1, c3, a3, by omega, by go_num, rfl, HO3.out, HB3.out⟩
          case measure => simp [intOf]; omega
    · obtain rfl : t = 16 := by omega
      go_wp2_with fail
      rw [show ((16 : Nat) : Int) = 16 from rfl]
      go_loopw [3, 7] (fun out i wr => ∃ (t c2 : Nat) (a : Option Addr), 16 ≤ t ∧ t ≤ 64 ∧ i = .int .i64 t ∧ out = .slice a t c2 ∧ OwnW wr w.heap.size 120 a t c2 ((ws l t).map I) ∧ Below w.heap.size w wr) (fun _ i _ => 64 - (intOf i).toNat)
      case atStart => exact ⟨16, c2, a2, by omega, by omega, rfl, rfl, HO.out, HBl.out⟩
      case round =>
        clear HO HBl s1
        obtain ⟨t, c2, a2, ht0, ht1, rfl, rfl, ho, hb⟩ := hrel
        have s1 := hb.size
        by_cases h64 : t < 64
        · have hca := ho.cases
          obtain ⟨g, rfl, hg1, hg2, hg3, hg4⟩ := hca.resolve_left (fun h => by omega)
          have x2 := ho.cellAt (t - 2) (by omega)
          have x7 := ho.cellAt (t - 7) (by omega)
          have x15 := ho.cellAt (t - 15) (by omega)
          have x16 := ho.cellAt (t - 16) (by omega)
          rw [ws_mapat l t _ (by omega)] at x2 x7 x15 x16
          have hn := ws_next l t (nxt (ws l t) t) (if_neg (by omega))
          have hx : nxt (ws l t) t = sml ((ws l t).getD (t - 2) 0) 17 19 10 + (ws l t).getD (t - 7) 0 + sml ((ws l t).getD (t - 15) 0) 7 18 3 + (ws l t).getD (t - 16) 0 := rfl
          generalize (ws l t).getD (t - 2) 0 = y2 at x2 hx
          generalize (ws l t).getD (t - 7) 0 = y7 at x7 hx
          generalize (ws l t).getD (t - 15) 0 = y15 at x15 hx
          generalize (ws l t).getD (t - 16) 0 = y16 at x16 hx
          have HN := Lib.hid hn; have HX := Lib.hid hx
          have HO := Lib.hid ho; have HBl := Lib.hid hb
          have i0 : ((t : Int) - 2).toNat = t - 2 := by omega
          have i1 : ((t : Int) - 7).toNat = t - 7 := by omega
          have i2 : ((t : Int) - 15).toNat = t - 15 := by omega
          have i3 : ((t : Int) - 16).toNat = t - 16 := by omega
          simp only [maxLen] at hg4
          have q0 : (2 : Int) ≤ t := by omega
          have q1 : (7 : Int) ≤ t := by omega
          have q2 : (15 : Int) ≤ t := by omega
          have q3 : (16 : Int) ≤ t := by omega
          clear hn hx ho hb hca
          go_wp2_with fail
          refine (rrot_any y2 17 _ (by omega) (by omega)).mono ?_
          rintro e w' ⟨rfl, rfl⟩
          go_wp2_with fail
          refine (rrot_any y2 19 _ (by omega) (by omega)).mono ?_
          rintro e w' ⟨rfl, rfl⟩
          go_wp2_with fail
          refine (rrot_any y15 7 _ (by omega) (by omega)).mono ?_
          rintro e w' ⟨rfl, rfl⟩
          go_wp2_with fail
          refine (rrot_any y15 18 _ (by omega) (by omega)).mono ?_
          rintro e w' ⟨rfl, rfl⟩
          go_wp2_with fail
          have k1 : IntKind.i64.wrap ((t : Int) - 7) = (t : Int) - 7 := IntWalk.i64_in _ (by omega)
          have k3 : IntKind.i64.wrap ((t : Int) - 16) = (t : Int) - 16 := IntWalk.i64_in _ (by omega)
          have r1 : (t : Int) - 7 < t := by omega
          have r3 : (t : Int) - 16 < t := by omega
          have j1 : (0 : Int) ≤ (t : Int) - 7 := by omega
          have j3 : (0 : Int) ≤ (t : Int) - 16 := by omega
          have hn1 : t + 1 ≤ 17592186044416 := by omega
          go_region_law ((refine step_append_W u32T rfl _ _ (by rfl) w.heap.size (by rfl) (HO.out.alloc _).drew (by rfl) (Go.Proofs.Ytejhncdempfmjaa.bs.U32s.drewN (U32s.one _ _ _ ⟨by simp only [wrap32]; omega, by simp only [wrap32]; omega⟩) 1) hn1 (by simp; omega) ?_; intro a3 c3 w3 ho3 hb3 hg3))
          all_goals
            have hr : IntKind.u32.wrap (IntKind.u32.wrap (IntKind.u32.wrap (bits .xor .u32 (bits .xor .u32 (I (rotr y2 17)) (I (rotr y2 19))) (I y2 / 1024) + I y7) + bits .xor .u32 (bits .xor .u32 (I (rotr y15 7)) (I (rotr y15 18))) (I y15 / 8)) + I y16) = I (nxt (ws l t) t) := by
              rw [shr10, shr3, I_xor, I_xor, I_add, I_xor, I_xor, I_add, I_add, HX.out]
              rfl
            rw [hr, HN.out] at ho3
            have HO3 := Lib.hid ho3; have HB3 := Lib.hid (((HBl.out.alloc s1 _).drew).trans hb3)
            clear ho3 hb3 hg3 hr k1 k3 r1 r3 j1 j3 i0 i1 i2 i3
            go_wp2
            go_roundw
            case rel => exact ⟨t + 1, c3, a3, by omega, by omega, by go_num, rfl, HO3.out, HB3.out⟩
            case measure => simp [intOf]; omega
        · obtain rfl : t = 64 := by omega
          have HO := Lib.hid ho; have HBl := Lib.hid hb
          clear ho hb
          go_wp2
          go_ret
          exact ⟨a2, c2, rfl, HO.out, HBl.out⟩

end Go.Proofs.Ytejhncdempfmjaa.sh

/-
  Layer 3: the contract of the document's 'Block'.
-/
namespace Go.Proofs.Ytejhncdempfmjaa.sh
open Go.ChangeShapes Go.WideShapes Go.ChangeAt Go.RowKit
open bs
open Go.Proofs.Ytejhncdempfmjaa.rs
set_option linter.unusedVariables false

theorem mapI_at (D : List (BitVec 32)) (i : Nat) (h : i < D.length) : (D.map I).getD i 0 = I (D.getD i 0) := by
  rw [List.getD_eq_getElem?_getD, List.getElem?_map, List.getD_eq_getElem?_getD, List.getElem?_eq_getElem h]
  rfl

theorem rrot_int (x : BitVec 32) (i : Int) (w : World) (h1 : 1 ≤ i) (h2 : i ≤ 31) :
    Calls Try.prog 113 #[.int .u32 (I x), .int .u64 i] w fun e w' => e = .returned (.int .u32 (I (rotr x i.toNat))) ∧ w = w' := by
  have h := rrot_any x i.toNat w (by omega) (by omega)
  rwa [Int.toNat_of_nonneg (by omega)] at h

def ZRel (s : St) (K W : List (BitVec 32)) (w1 : World) (t : Nat) (va vb vc vd ve vf vg vh : Value) (wr : World) : Prop :=
  ∃ (n : Nat) (z : St), wr = w1.drewN n ∧ va = .int .u32 (I z.a) ∧ vb = .int .u32 (I z.b) ∧ vc = .int .u32 (I z.c) ∧ vd = .int .u32 (I z.d) ∧ ve = .int .u32 (I z.e) ∧ vf = .int .u32 (I z.f) ∧ vg = .int .u32 (I z.g) ∧ vh = .int .u32 (I z.h) ∧ rs s K W t = z

set_option maxRecDepth 100000 in
set_option maxHeartbeats 2000000 in
theorem rblock_any (s : St) (a0 : Option Addr) (c0 : Nat) (K : List (BitVec 32)) (hK : K.length = 64) (ak : Option Addr) (ck : Nat) (a : Option Addr) (c : Nat) (l : List Int) (w : World)
    (hs : U32s w a0 8 c0 (s.list.map I)) (h : Bytes w a 64 c l) (hk : U32s w ak 64 ck (K.map I)) :
    Calls Try.prog 101 #[.slice a0 8 c0, .slice a 64 c, .slice ak 64 ck] w (WPost w w.heap.size 8 ((blk K s l).list.map I)) := by
  obtain ⟨b0, off0, rfl, hc0⟩ := hs.at'.resolve_left (by omega)
  obtain ⟨bk, offk, rfl, hck⟩ := hk.at'.resolve_left (by omega)
  have hm0 := hs.most; have hk0 := hs.cap
  have hmk := hk.most; have hkk := hk.cap
  have HK := Lib.hid hK
  go_enter Try.func101, Try.ntmps101
  go_wp2_with fail
  refine (numbers_any a c l _ h).mono ?_
  rintro e w1 ⟨a1, c1, rfl, ho, hb⟩
  obtain ⟨g, rfl, hg1, hg2, hg3, hg4⟩ := ho.cases.resolve_left (fun h => by omega)
  have hc0' : ∀ i, i < 8 → w1.cell? ⟨b0, off0 + i, none⟩ = some (.int .u32 (I (s.list.getD i 0))) := fun i hi => by
    have h1 := hc0 i hi
    rw [mapI_at _ _ (by simpa [St.list] using hi)] at h1
    rw [hb.cell (World.block_lt_of_cell? w _ h1)]
    exact h1
  have hck' : ∀ i, i < 64 → w1.cell? ⟨bk, offk + i, none⟩ = some (.int .u32 (I (K.getD i 0))) := fun i hi => by
    have h1 := hck i hi
    rw [mapI_at _ _ (by omega)] at h1
    rw [hb.cell (World.block_lt_of_cell? w _ h1)]
    exact h1
  have hcw : ∀ i, i < 64 → w1.cell? ⟨g, i, none⟩ = some (.int .u32 (I ((ws l 64).getD i 0))) := fun i hi => by
    have h1 := ho.cellAt i hi
    rw [ws_mapat l 64 i hi] at h1
    exact h1
  simp only [maxLen] at hg4
  have e0 := hc0' 0 (by omega)
  have e1 := hc0' 1 (by omega)
  have e2 := hc0' 2 (by omega)
  have e3 := hc0' 3 (by omega)
  have e4 := hc0' 4 (by omega)
  have e5 := hc0' 5 (by omega)
  have e6 := hc0' 6 (by omega)
  have e7 := hc0' 7 (by omega)
  simp only [St.list] at e0 e1 e2 e3 e4 e5 e6 e7
  rw [Nat.add_zero] at e0
  have CK := Lib.hid hck'; have CW := Lib.hid hcw; have HB := Lib.hid hb
  clear hs h hk hc0 hck hc0' hck' hcw ho hb hK
  go_wp2_with fail
  go_quiet (fail)
  go_wp2_with fail
  go_quiet (fail)
  go_wp2_with fail
  go_loopw [8, 9, 10, 11, 12, 13, 14, 15, 16] (fun va vb vc vd ve vf vg vh i wr => ∃ t : Nat, t ≤ 64 ∧ i = .int .i64 t ∧ ZRel s K (ws l 64) w1 t va vb vc vd ve vf vg vh wr) (fun _ _ _ _ _ _ _ _ i _ => 64 - (intOf i).toNat)
  case atStart => exact ⟨0, by omega, rfl, _, s, World.drewN_drewN _ _ _, rfl, rfl, rfl, rfl, rfl, rfl, rfl, rfl, rfl⟩
  case round =>
    obtain ⟨t, ht, rfl, n, z, rfl, rfl, rfl, rfl, rfl, rfl, rfl, rfl, rfl, hz⟩ := hrel
    by_cases h64 : t < 64
    · have ct := CK.out t h64
      have cw := CW.out t h64
      have hn : rs s K (ws l 64) (t + 1) = rnd z (K.getD t 0 + (ws l 64).getD t 0) := by rw [← hz]; rfl
      generalize K.getD t 0 = kt at ct hn
      generalize (ws l 64).getD t 0 = wt at cw hn
      have HN := Lib.hid hn
      clear hn hz e0 e1 e2 e3 e4 e5 e6 e7
      obtain ⟨za, zb, zc, zd, ze, zf, zg, zh⟩ := z
      simp only
      go_wp2_with fail
      go_quiet ((go_at_call 113; exact qa (rrot_int _ _ _ (by omega) (by omega))))
      go_wp2_with fail
      refine (rrot_any za 2 _ (by omega) (by omega)).mono ?_
      rintro ee w' ⟨rfl, rfl⟩
      go_wp2_with fail
      refine (rrot_any za 13 _ (by omega) (by omega)).mono ?_
      rintro ee w' ⟨rfl, rfl⟩
      go_wp2_with fail
      refine (rrot_any za 22 _ (by omega) (by omega)).mono ?_
      rintro ee w' ⟨rfl, rfl⟩
      go_wp2
      go_roundw
      case rel =>
        refine ⟨t + 1, by omega, by go_num, _, _, rfl, ?_, rfl, rfl, rfl, ?_, rfl, rfl, rfl, HN.out⟩
        · congr 1
          simp only [I_and, I_not, I_xor, modI, BitVec.ofInt_add, ofInt_I, rnd, gre, BitVec.add_assoc]
        · congr 1
          simp only [I_and, I_not, I_xor, modI, BitVec.ofInt_add, ofInt_I, rnd, gre, BitVec.add_assoc]
      case measure => simp [intOf]; omega
    · obtain rfl : t = 64 := by omega
      go_wp2_with fail
      obtain ⟨W, hW⟩ : ∃ W, W = w1.drewN n := ⟨_, rfl⟩
      rw [← hW]
      rw [show ∀ p, w1.cell? p = W.cell? p from fun p => by rw [hW]; rfl] at e0 e1 e2 e3 e4 e5 e6 e7
      have HBW := Lib.hid (show Below w.heap.size w W by rw [hW]; exact below_drewN HB.out n)
      clear hW
      go_still_tail 40, (by kernel_rfl)
      change wpList _ _ _ _ _ (W.drewN 1)
      go_wp2
      simp only [I_addm]
      have hL : (blk K s l).list.map I = [I (s.a + z.a), I (s.b + z.b), I (s.c + z.c), I (s.d + z.d), I (s.e + z.e), I (s.f + z.f), I (s.g + z.g), I (s.h + z.h)] := by
        rw [show blk K s l = s.add z by rw [← hz]; rfl]
        simp only [St.add, St.list, List.map_cons, List.map_nil, BitVec.add_comm]
      go_ret
      rw [hL]
      refine ⟨_, 8, rfl, ?_, ?_⟩
      · exact OwnW.made (W.drewN 1) w.heap.size _ [I (s.a + z.a), I (s.b + z.b), I (s.c + z.c), I (s.d + z.d), I (s.e + z.e), I (s.f + z.f), I (s.g + z.g), I (s.h + z.h)] _ rfl HBW.out.size (by simp [maxLen]) (by
          have := I_allW [s.a + z.a, s.b + z.b, s.c + z.c, s.d + z.d, s.e + z.e, s.f + z.f, s.g + z.g, s.h + z.h]
          exact this)
      · exact (below_drewN HBW.out 1).alloc HBW.out.size _

end Go.Proofs.Ytejhncdempfmjaa.sh

/-
  Layer 3: the contract of the program's 'Sum'.
-/
namespace Go.Proofs.Ytejhncdempfmjaa.sh
open Go.ChangeShapes Go.WideShapes Go.ChangeAt Go.RowKit
open bs
set_option linter.unusedVariables false
open Go.Proofs.Ytejhncdempfmjaa.ss (be be_len be_bytes tail zer zer_le zer_cast tail_any append_any APost byteT)

/-- A part of a slice of bytes. -/
theorem sub_bytes {w : World} {b off n c : Nat} {l : List Int} (h : Bytes w (some ⟨b, off, none⟩) n c l) (i k : Nat) (hk : i + k ≤ n) : Bytes w (some ⟨b, off + i, none⟩) k (c - i) ((l.drop i).take k) := by
  have hl := h.len
  have hc := h.cap
  refine ⟨by rw [List.length_take, List.length_drop]; omega, by omega, by have := h.most; omega, ?_, by simp, ?_⟩
  · intro x hx
    exact h.all x (List.mem_of_mem_drop (List.mem_of_mem_take hx))
  · rcases Nat.eq_zero_or_pos k with h0 | h0
    · exact .inl h0
    · obtain ⟨b', off', he, hcell⟩ := h.at'.resolve_left (by omega)
      simp only [Option.some.injEq, Addr.mk.injEq, and_true] at he
      obtain ⟨rfl, rfl⟩ := he
      refine .inr ⟨b, off + i, rfl, fun j hj => ?_⟩
      rw [Nat.add_assoc, hcell (i + j) (by omega), List.getD_eq_getElem?_getD, List.getD_eq_getElem?_getD, List.getElem?_take, if_pos hj, List.getElem?_drop]

section
variable {P : Program} {w : World} {ops : Array Oper} {rest : List Oper} {o : Oper} {a : Act} {Q : Act → Prop}
/-- A whole array is loaded, in a region that draws its order. -/
theorem wpStill_load_32 (hgd : o.guard = none) (ty : TypeId) (x : Operand) (ho : o.op = .load ty x) {g : Nat} (hx : a.eval x = .pointer (some ⟨g, 0, none⟩)) {t : TypeId} {L : List (BitVec 32)} (hr : Row w g t L)
    {d : TypeDesc} (hu : P.underlying ty = some d) (hd : (match d with | .struct _ | .array _ _ => true | _ => false) = true) {n : Nat} (hi : (P.info? ty).map (·.size) = some n) (hn : L.length = n)
    (h : wpStill P ops w Q rest (a.put o.dst (.agg (cells32 L)))) : wpStill P ops w Q (o :: rest) a :=
  wpStill_step fun K hK => by
    have hw : Region.wanted o (yielded ops a.tmps) = true := by simp [Region.wanted, hgd]
    rw [if_pos hw]
    unfold Oper.still execOp
    simp only [ho, hx, Instr.loadAt, Instr.sureAddr, Sem.run_bind, Sem.run_pure, Result.andThen_ok, run_loadVar_row w g t ty (cells32 L) (0, 0) d hr hu hd (by rw [hi, cells32_size, hn])]
    exact (Oper.stillUpon_value _ _ _ _ _).mpr (hK _ h)
end

/-- A digest. -/
def outB (s : St) : List Int := s.list.flatMap fun x => be (I x) 4
/-- The first of a digest's bytes. -/
def outN (L : List (BitVec 32)) (t : Nat) : List Int := (L.take t).flatMap fun x => be (I x) 4
theorem outN_next (L : List (BitVec 32)) (t : Nat) (h : t < L.length) : outN L t ++ be (I (L.getD t 0)) 4 = outN L (t + 1) := by
  unfold outN
  rw [List.take_add_one, List.getElem?_eq_getElem h, List.getD_eq_getElem?_getD, List.getElem?_eq_getElem h, List.flatMap_append]
  simp
theorem outN_all (s : St) : outN s.list 8 = outB s := rfl
def nblk (n : Nat) : Nat := (n + 9 + zer n) / 64
theorem nblk_eq (n : Nat) : 64 * nblk n = n + (9 + zer n) := by
  have h := zer_cast n
  have := zer_le n
  unfold nblk
  omega
def allB (l : List Int) : List Int := l ++ tail l.length
def shaSum (l : List Int) : List Int := outB (blks (allB l) (nblk l.length))

end Go.Proofs.Ytejhncdempfmjaa.sh

/-
  A slice of bytes from a place on: what the operation gives, and how it reads.
-/
namespace Go.Proofs.Ytejhncdempfmjaa.sh
open Go.ChangeShapes Go.WideShapes Go.ChangeAt Go.RowKit
open bs
set_option linter.unusedVariables false

def tailAddr (a : Option Addr) (c i : Nat) : Option Addr := if c = i then a else a.map fun x => x.add i
theorem slice_tail (a : Option Addr) (n c i : Nat) (j : Int) (hj : j = i) (h : i ≤ n) (hc : n ≤ c) (hm : c ≤ 9223372036854775807) (hnil : a = none → c = 0) (W : World) :
    (Instr.sliceAt 22 (.slice a n c) (some (.int .i64 j)) none none).run Try.prog W = .ok (.slice (tailAddr a c i) (n - i) (c - i)) W := by
  subst hj
  have e1 : ¬ (i : Int) < 0 := by omega
  have e2 : ¬ (n : Int) < i := by omega
  have e3 : (i : Int).toNat = i := by omega
  unfold tailAddr
  by_cases hci : c = i
  · rcases a with _ | x
    · simp [Instr.sliceAt, Instr.slice, Instr.sliceBounds, Instr.sliceBound, asIntOf, go_sem, hci, h]
    · simp [Instr.sliceAt, Instr.slice, Instr.sliceBounds, Instr.sliceBound, asIntOf, go_sem, hci, h]
  · rcases a with _ | x
    · have := hnil rfl
      omega
    · simp [Instr.sliceAt, Instr.slice, Instr.sliceBounds, Instr.sliceBound, asIntOf, go_sem, hci, h]
theorem tail_bytes {w : World} {a : Option Addr} {n c : Nat} {l : List Int} (h : Bytes w a n c l) (i : Nat) (hi : i ≤ n) : Bytes w (tailAddr a c i) (n - i) (c - i) (l.drop i) := by
  have hl := h.len
  have hc := h.cap
  refine ⟨by rw [List.length_drop]; omega, by omega, by have := h.most; omega, fun x hx => h.all x (List.mem_of_mem_drop hx), ?_, ?_⟩
  · intro he
    unfold tailAddr at he
    split at he
    · omega
    · rcases a with _ | x
      · have := h.nil rfl; omega
      · simp at he
  · by_cases h0 : n - i = 0
    · exact .inl h0
    · obtain ⟨b, off, rfl, hcell⟩ := h.at'.resolve_left (by omega)
      refine .inr ⟨b, off + i, ?_, fun j hj => ?_⟩
      · unfold tailAddr
        rw [if_neg (by omega)]
        simp [Addr.add]
      · rw [Nat.add_assoc, hcell (i + j) (by omega), List.getD_eq_getElem?_getD, List.getD_eq_getElem?_getD, List.getElem?_drop]

end Go.Proofs.Ytejhncdempfmjaa.sh

/-
  Layer 3: the contract of the program's 'Sum'.
-/
namespace Go.Proofs.Ytejhncdempfmjaa.sh
open Go.ChangeShapes Go.WideShapes Go.ChangeAt Go.RowKit
open bs
set_option linter.unusedVariables false
open Go.Proofs.Ytejhncdempfmjaa.ss (be be_len be_bytes tail zer zer_le zer_cast tail_any append_any APost byteT)

def KRel (w : World) (g : Nat) (s : St) (wr : World) : Prop := Row wr g 122 s.list ∧ Row wr (g + 1) 124 Kc ∧ Below w.heap.size w wr

set_option maxRecDepth 100000 in
set_option maxHeartbeats 2000000 in
theorem psum_any (a : Option Addr) (n c : Nat) (l : List Int) (w : World) (h : Bytes w a n c l) (hn : n ≤ 1000000) :
    Calls Try.prog 67 #[.slice a n c] w (APost w w.heap.size 32 (shaSum l)) := by
  have hlen := h.len
  subst hlen
  have hcap := h.cap
  have hmost := h.most
  have HH := Lib.hid h
  clear h
  go_enter Try.func67, Try.ntmps67
  go_wp2_with fail
  refine (first_any _).mono ?_
  rintro e w1 ⟨rfl, hb1⟩
  go_wp2_with fail
  refine (rounds_any _).mono ?_
  rintro e w2 ⟨rfl, hb2⟩
  have HB := Lib.hid (hb1.trans (hb2.mono hb1.size))
  have s2 := HB.out.size
  clear hb1 hb2
  obtain ⟨K0, hK0⟩ : ∃ K0, l.length / 64 = K0 := ⟨_, rfl⟩
  have HW := Lib.hid (show (((l.length : Nat) : Int) - (l.length : Int) % 64) = 64 * (K0 : Int) by omega)
  have hK1 : 64 * K0 ≤ l.length := by omega
  have HK := Lib.hid hK0
  clear hK0
  go_wp2_with (first
    | (refine wpList_store_32 (g := w2.heap.size) (t := 122) rfl 122 (.tmp 3) _ rfl rfl (L := Hl) (L0 := List.replicate 8 0#32) rfl ?hr1 (n := 8) (by kernel_rfl) Hl_len rfl ?_)
    | (refine wpList_store_32 (g := w2.heap.size + 1) (t := 124) rfl 124 (.tmp 4) _ rfl rfl (L := Kc) (L0 := List.replicate 64 0#32) rfl ?hr2 (n := 64) (by kernel_rfl) Kc_len rfl ?_))
  case hr1 => exact (Row.made w2 _ (List.replicate 8 0#32)).alloc _
  case hr2 => exact (Row.made2 w2 _ _ (List.replicate 64 0#32)).setRow_other _ _ (by omega)
  rw [HW.out]
  go_loopw [6] (fun i wr => ∃ k : Nat, k ≤ K0 ∧ i = .int .i64 (64 * (k : Int)) ∧ KRel w w2.heap.size (blks (allB l) k) wr) (fun i _ => (64 * (K0 : Int) - intOf i).toNat)
  case atStart =>
    refine ⟨0, by omega, rfl, ?_, ?_, ?_⟩
    · have := (((Row.made w2 122 (List.replicate 8 0#32)).alloc (.cells (cells32 (List.replicate 64 0#32)) 124)).setRow Hl).setRow_other (w2.heap.size + 1) (cells32 Kc) (by omega)
      rw [← H0_list] at this ⊢
      exact this
    · exact ((Row.made2 w2 _ 124 (List.replicate 64 0#32)).setRow_other _ _ (by omega)).setRow Kc
    · exact below_setRow (below_setRow ((HB.out.alloc s2 _).alloc (by simp; omega) _) s2 _) (by omega) _
  case round =>
    obtain ⟨k, hk, rfl, hs, hc, hb⟩ := hrel
    have hsz := hb.size
    have HS := Lib.hid hs; have HC := Lib.hid hc; have HBl := Lib.hid hb
    clear hs hc hb
    by_cases hk0 : k < K0
    · obtain ⟨b, off, rfl, _⟩ := HH.out.at'.resolve_left (by omega)
      have hby := sub_bytes HH.out (64 * k) 64 (by omega)
      have hby2 := (hby.below HBl.out).drewN 1
      have HBY := Lib.hid hby2
      have hst : blks (allB l) (k + 1) = blk Kc (blks (allB l) k) ((l.drop (64 * k)).take 64) := by
        rw [blks, allB, drop_take_append l _ _ (by omega)]
      have HST := Lib.hid hst
      clear hby hby2 hst
      generalize (l.drop (64 * k)).take 64 = bl at HBY HST
      generalize blks (allB l) k = st at HS HST
      have x0 : ((64 : Int) * k).toNat = 64 * k := by omega
      have x1 : ((64 : Int) * k + 64).toNat = 64 * k + 64 := by omega
      have x2 : (0 : Int) ≤ 64 * (k : Int) := by omega
      have x3 : (64 * (k : Int)) + 64 ≤ c := by omega
      have x5 : (0 : Int) ≤ 64 * (k : Int) + 64 := by omega
      have x6 : 64 * (k : Int) ≤ 64 * (k : Int) + 64 := by omega
      have x7 : ¬ c = 64 * k := by omega
      have x4 : IntKind.i64.wrap (64 * (k : Int) + 64) = 64 * (k : Int) + 64 := IntWalk.i64_in _ (by omega)
      go_wp2_with fail
      refine wp_region_still_tail 7 (by kernel_rfl) (by kernel_rfl) ?_
      simp only [List.take_succ_cons, List.take_zero, List.drop_succ_cons, List.drop_zero]
      refine wpStill_load_32 rfl 122 (.tmp 3) rfl rfl (HS.out.drewN 1) Try.underlying122 rfl (n := 8) (by kernel_rfl) rfl ?_
      still_step
      still_step
      still_step
      still_step
      still_step
      refine wpStill_load_32 rfl 124 (.tmp 4) rfl rfl (HC.out.drewN 1) Try.underlying124 rfl (n := 64) (by kernel_rfl) Kc_len ?_
      refine wpStill_nil ?_
      change wpList _ _ _ _ _ (wr.drewN 1)
      go_wp2_with fail
      refine (behind_any st Kc Kc_len _ _ bl _ HBY.out).mono ?_
      rintro e w3 ⟨rfl, hb3⟩
      have N0 := Lib.hid ((HS.out.drewN 1).below hb3); have N1 := Lib.hid ((HC.out.drewN 1).below hb3); have NB := Lib.hid ((below_drewN HBl.out 1).trans (hb3.mono HBl.out.size))
      clear hb3 x0 x1 x2 x3 x4 x5 x6 x7
      go_wp2_with (refine wpList_store_32 (g := w2.heap.size) (t := 122) rfl 122 (.tmp 3) _ rfl rfl (L := (blk Kc st bl).list) (L0 := st.list) rfl ?hr3 (n := 8) (by kernel_rfl) rfl rfl ?_)
      case hr3 => exact N0.out
      go_roundw
      case rel =>
        refine ⟨k + 1, by omega, by go_num, ?_, N1.out.setRow_other _ _ (by omega), below_setRow NB.out s2 _⟩
        rw [HST.out]
        exact N0.out.setRow _
      case measure => simp [intOf]; omega
    · obtain rfl : k = K0 := by omega
      have hsl := fun W => slice_tail a l.length c (64 * k) (64 * (k : Int)) (by omega) hK1 hcap hmost HH.out.nil W
      have HT := Lib.hid ((tail_bytes HH.out (64 * k) hK1).below HBl.out)
      obtain ⟨wA, rfl⟩ : ∃ wA : World, wA = wr := ⟨_, rfl⟩
      go_wp2_with (at_builtin; refine wpList_append_b byteT rfl _ _ rfl wA.heap.size rfl (l := []) ?o1 rfl (l' := l.drop (64 * k)) ?b1 ?_ ?_ ?_)
      case o1 => exact OwnB.made wA _ _ [] _ rfl (Nat.le_refl _) (by simp [maxLen]) (by simp [AllB])
      case b1 => exact Bytes.below HT.out ((Below.refl _ _).alloc (Nat.le_refl _) _)
      · omega
      · simp
      intro a3 c3 w3 ho3 hb3 _
      clear hsl
      have HO3 := Lib.hid ho3
      have HB3 := Lib.hid (((Below.refl wA.heap.size wA).alloc (Nat.le_refl _) _).trans hb3)
      clear ho3 hb3
      have s3 := HB3.out.size
      go_wp2_with fail
      refine (tail_any (l.length : Int) _ (by omega) (by omega)).mono ?_
      rintro e w4 ⟨a4, c4, rfl, ho4, hb4⟩
      have HO4 := Lib.hid ho4.bytes
      have HO34 := Lib.hid (HO3.out.below hb4)
      have HB4 := Lib.hid (HB3.out.trans (hb4.mono s3))
      have s4 := HB4.out.size
      have hz := zer_le (l.length : Int)
      have HM := Lib.hid (nblk_eq l.length)
      clear ho4 hb4
      go_wp2_with (at_builtin; refine wpList_append_b byteT rfl _ _ rfl wA.heap.size rfl (l := [] ++ l.drop (64 * k)) ?o2 rfl (l' := tail l.length) ?b2 ?_ ?_ ?_)
      case o2 => exact HO34.out
      case b2 => exact HO4.out
      · omega
      · exact s4
      intro a5 c5 w5 ho5 hb5 hn5
      have HB5 := Lib.hid (HB4.out.trans hb5)
      have hgx := ho5.cases
      obtain ⟨g5, rfl, hg1, hg2, hg3, hg4⟩ := hgx.resolve_left (fun h => by omega)
      obtain ⟨R, hR⟩ : ∃ R, l.drop (64 * k) ++ tail l.length = R := ⟨_, rfl⟩
      rw [hR] at ho5
      obtain ⟨M, hM⟩ : ∃ M, nblk l.length = k + M := ⟨nblk l.length - k, by have := HM.out; omega⟩
      have hlen : l.length - 64 * k + (9 + zer l.length) = 64 * M := by have := HM.out; omega
      rw [hlen] at ho5 ⊢
      have hall : ∀ j, j < M → ((R.drop (64 * j)).take 64) = ((allB l).drop (64 * (k + j))).take 64 := by
        intro j hj
        have e1 : (allB l).drop (64 * (k + j)) = ((allB l).drop (64 * k)).drop (64 * j) := by rw [List.drop_drop]; congr 1; omega
        have e2 : (allB l).drop (64 * k) = R := by unfold allB; rw [List.drop_append_of_le_length hK1]; exact hR
        rw [e1, e2]
      have HA := Lib.hid hall
      have hc5 : 64 * M ≤ c5 := by omega
      have HMM := Lib.hid hM
      have HO5 := Lib.hid ho5
      have HSA := Lib.hid (HS.out.below HB5.out); have HCA := Lib.hid (HC.out.below HB5.out)
      have HBA := Lib.hid (HBl.out.trans (HB5.out.mono hsz))
      have sA := HC.out.lt
      simp only [maxLen] at hg4
      clear ho5 hb5 hn5 hR hM hall hlen hgx HO3 HO34 HO4 HB3 HB4 HS HC HBl
      go_wp2_with fail
      go_loopw [8] (fun i wr => ∃ j : Nat, j ≤ M ∧ i = .int .i64 (64 * (j : Int)) ∧ KRel w w2.heap.size (blks (allB l) (k + j)) wr ∧ OwnB wr wA.heap.size 5 (some ⟨g5, 0, none⟩) (64 * M) c5 R) (fun i _ => (64 * (M : Int) - intOf i).toNat)
      case atStart => exact ⟨0, by omega, rfl, ⟨HSA.out, HCA.out, HBA.out⟩, HO5.out⟩
      case round =>
        clear HSA HCA HBA HO5 HB5 HT
        obtain ⟨j, hj, rfl, ⟨hs, hc, hb⟩, ho⟩ := hrel
        have HS := Lib.hid hs; have HC := Lib.hid hc; have HBl := Lib.hid hb; have HO := Lib.hid ho
        have hsz := hb.size
        by_cases hjM : j < M
        · have hst : blks (allB l) (k + (j + 1)) = blk Kc (blks (allB l) (k + j)) ((R.drop (64 * j)).take 64) := by
            rw [← Nat.add_assoc, blks, HA.out j hjM]
          have hby := (sub_bytes ho.bytes (64 * j) 64 (by omega)).drewN 1
          rw [Nat.zero_add] at hby
          have HST := Lib.hid hst; have HBY := Lib.hid hby
          clear hst hby hs hc hb ho
          generalize (R.drop (64 * j)).take 64 = bl at HBY HST
          generalize blks (allB l) (k + j) = st at HS HST
          have x0 : ((64 : Int) * j).toNat = 64 * j := by omega
          have x1 : ((64 : Int) * j + 64).toNat = 64 * j + 64 := by omega
          have x2 : (0 : Int) ≤ 64 * (j : Int) := by omega
          have x3 : (64 * (j : Int)) + 64 ≤ c5 := by omega
          have x5 : (0 : Int) ≤ 64 * (j : Int) + 64 := by omega
          have x6 : 64 * (j : Int) ≤ 64 * (j : Int) + 64 := by omega
          have x7 : ¬ c5 = 64 * j := by omega
          have x4 : IntKind.i64.wrap (64 * (j : Int) + 64) = 64 * (j : Int) + 64 := IntWalk.i64_in _ (by omega)
          go_wp2_with fail
          refine wp_region_still_tail 7 (by kernel_rfl) (by kernel_rfl) ?_
          simp only [List.take_succ_cons, List.take_zero, List.drop_succ_cons, List.drop_zero]
          refine wpStill_load_32 rfl 122 (.tmp 3) rfl rfl (HS.out.drewN 1) Try.underlying122 rfl (n := 8) (by kernel_rfl) rfl ?_
          still_step
          still_step
          still_step
          still_step
          still_step
          refine wpStill_load_32 rfl 124 (.tmp 4) rfl rfl (HC.out.drewN 1) Try.underlying124 rfl (n := 64) (by kernel_rfl) Kc_len ?_
          refine wpStill_nil ?_
          change wpList _ _ _ _ _ (wr.drewN 1)
          go_wp2_with fail
          refine (behind_any st Kc Kc_len _ _ bl _ HBY.out).mono ?_
          rintro e w3 ⟨rfl, hb3⟩
          have N0 := Lib.hid ((HS.out.drewN 1).below hb3); have N1 := Lib.hid ((HC.out.drewN 1).below hb3); have NB := Lib.hid ((below_drewN HBl.out 1).trans (hb3.mono HBl.out.size))
          have NO := Lib.hid ((HO.out.drewN 1).below hb3)
          clear hb3 x0 x1 x2 x3 x4 x5 x6 x7
          go_wp2_with (refine wpList_store_32 (g := w2.heap.size) (t := 122) rfl 122 (.tmp 3) _ rfl rfl (L := (blk Kc st bl).list) (L0 := st.list) rfl ?hr3 (n := 8) (by kernel_rfl) rfl rfl ?_)
          case hr3 => exact N0.out
          go_roundw
          case rel =>
            refine ⟨j + 1, by omega, by go_num, ⟨?_, N1.out.setRow_other _ _ (by omega), below_setRow NB.out s2 _⟩, ?_⟩
            · rw [HST.out]
              exact N0.out.setRow _
            · exact NO.out.keep (setRow_other _ _ _ _ (by omega))
          case measure => simp [intOf]; omega
        · obtain rfl : j = M := by omega
          have hfin : outB (blks (allB l) (k + j)) = shaSum l := by unfold shaSum; rw [HMM.out]
          have HF := Lib.hid hfin
          clear hfin hs hc hb ho
          generalize blks (allB l) (k + j) = st at HS HF
          go_wp2_with (refine wpList_load_32 (g := w2.heap.size) (t := 122) rfl 122 (.tmp 3) rfl rfl (L := st.list) ?hr4 Try.underlying122 rfl (n := 8) (by kernel_rfl) rfl ?_)
          case hr4 => exact HS.out
          have hsize := HBl.out.size
          go_loopw [9, 57] (fun out i wr => ∃ (t c : Nat) (a : Option Addr), t ≤ 8 ∧ i = .int .i64 t ∧ out = .slice a (4 * t) c ∧ OwnB wr w.heap.size 5 a (4 * t) c (outN st.list t) ∧ Below w.heap.size w wr) (fun _ i _ => 8 - (intOf i).toNat)
          case atStart => exact ⟨0, 0, none, by omega, rfl, rfl, OwnB.nil _ _ _, HBl.out⟩
          case round =>
            clear HS HC HBl HO
            obtain ⟨t, c6, a6, ht, rfl, rfl, ho, hb⟩ := hrel
            by_cases h8 : t < 8
            · have hidx : ∀ W : World, (Instr.index 122 (.agg (cells32 st.list)) (.int .i64 t)).run Try.prog W = .ok (.int .u32 (I (st.list.getD t 0))) W := fun W => by
                have h1 := cells32_at st.list t h8
                have h2 := cells32_size st.list
                simp [Instr.index, asIntOf, go_sem, h1]
                intro h9
                omega
              have hnx := outN_next st.list t h8
              have l0 := I_lo (st.list.getD t 0)
              have l1 := I_hi (st.list.getD t 0)
              generalize st.list.getD t 0 = x at hidx hnx l0 l1
              have HN := Lib.hid hnx; have HO := Lib.hid ho; have HBl := Lib.hid hb
              clear hnx ho hb
              go_wp2_with fail
              refine (append_any w.heap.size _ _ _ (outN st.list t) (I x) 4 _ HO.out HBl.out.size (by omega) l0 (by omega) (by omega)).mono ?_
              rintro e w7 ⟨a7, c7, rfl, ho7, hb7⟩
              rw [HN.out] at ho7
              have HO7 := Lib.hid ho7; have HB7 := Lib.hid (HBl.out.trans hb7)
              clear ho7 hb7 hidx
              go_wp2
              go_roundw
              case rel => exact ⟨t + 1, c7, a7, by omega, by go_num, rfl, HO7.out, HB7.out⟩
              case measure => simp [intOf]; omega
            · obtain rfl : t = 8 := by omega
              rw [outN_all, HF.out] at ho
              have HO := Lib.hid ho; have HBl := Lib.hid hb
              clear ho hb
              go_wp2
              go_ret
              exact ⟨a6, c6, rfl, HO.out, HBl.out⟩

end Go.Proofs.Ytejhncdempfmjaa.sh

/-
  Layer 3: the contract of the document's 'Sum'.
-/
namespace Go.Proofs.Ytejhncdempfmjaa.sh
open Go.ChangeShapes Go.WideShapes Go.ChangeAt Go.RowKit
open bs
set_option linter.unusedVariables false
open Go.Proofs.Ytejhncdempfmjaa.ss (be be_len be_bytes tail zer zer_le zer_cast rtail_any append_any APost byteT)

theorem be4 (x : BitVec 32) : be (I x) 4 = [I x / 16777216 % 256, I x / 65536 % 256, I x / 256 % 256, I x % 256] := by
  simp [be]
theorem four_bytes (w : World) (e : TypeId) (p q r s : Int) (hp : 0 ≤ p ∧ p ≤ 255) (hq : 0 ≤ q ∧ q ≤ 255) (hr : 0 ≤ r ∧ r ≤ 255) (hs : 0 ≤ s ∧ s ≤ 255) :
    Bytes (w.alloc (.cells #[.int .u8 p, .int .u8 q, .int .u8 r, .int .u8 s] e)) (some ⟨w.heap.size, 0, none⟩) 4 4 [p, q, r, s] :=
  (OwnB.made w 0 e [p, q, r, s] _ rfl (Nat.zero_le _) (by simp [maxLen]) (by
    intro x hx
    simp only [List.mem_cons, List.not_mem_nil, or_false] at hx
    rcases hx with rfl | rfl | rfl | rfl <;> assumption)).bytes

set_option maxRecDepth 100000 in
set_option maxHeartbeats 2000000 in
theorem rsum_any (a : Option Addr) (n c : Nat) (l : List Int) (w : World) (h : Bytes w a n c l) (hn : n ≤ 1000000) :
    Calls Try.prog 92 #[.slice a n c] w (APost w w.heap.size 32 (shaSum l)) := by
  have hlen := h.len
  subst hlen
  have hcap := h.cap
  have hmost := h.most
  have HH := Lib.hid h
  clear h
  go_enter Try.func92, Try.ntmps92
  go_wp2_with (at_builtin; refine wpList_append_b byteT rfl _ _ rfl w.heap.size rfl (l := []) ?o1 rfl (l' := l) ?b1 ?_ ?_ ?_)
  case o1 => exact OwnB.made w _ _ [] _ rfl (Nat.le_refl _) (by simp [maxLen]) (by simp [AllB])
  case b1 => exact HH.out.below ((Below.refl _ _).alloc (Nat.le_refl _) _)
  · omega
  · simp
  intro a1 c1 w1 ho1 hb1 _
  have HO1 := Lib.hid ho1
  have HB1 := Lib.hid (((Below.refl w.heap.size w).alloc (Nat.le_refl _) _).trans hb1)
  have s1 := HB1.out.size
  clear ho1 hb1
  go_wp2_with fail
  refine (rtail_any (l.length : Int) _ (by omega) (by omega)).mono ?_
  rintro e w2 ⟨a2, c2, rfl, ho2, hb2⟩
  have HO2 := Lib.hid ho2.bytes
  have HO12 := Lib.hid (HO1.out.below hb2)
  have HB2 := Lib.hid (HB1.out.trans (hb2.mono s1))
  have s2 := HB2.out.size
  have hz := zer_le (l.length : Int)
  have HM := Lib.hid (nblk_eq l.length)
  clear ho2 hb2
  go_wp2_with (at_builtin; refine wpList_append_b byteT rfl _ _ rfl w.heap.size rfl (l := [] ++ l) ?o2 rfl (l' := tail l.length) ?b2 ?_ ?_ ?_)
  case o2 => exact HO12.out
  case b2 => exact HO2.out
  · omega
  · exact s2
  intro a3 c3 w3 ho3 hb3 _
  have HB3 := Lib.hid (HB2.out.trans hb3)
  have s3 := HB3.out.size
  rw [show l ++ tail (l.length : Int) = allB l from rfl] at ho3
  obtain ⟨M, hM⟩ : ∃ M, nblk l.length = M := ⟨_, rfl⟩
  have hl2 : l.length + (9 + zer l.length) = 64 * M := by have := HM.out; omega
  rw [hl2] at ho3 ⊢
  have hM2 : 1 ≤ M := by omega
  have hM3 : M ≤ 20000 := by omega
  obtain ⟨g, rfl, hg1, hg2, hg3, hg4⟩ := ho3.cases.resolve_left (fun h => by omega)
  have HO3 := Lib.hid ho3
  have HMM := Lib.hid hM
  simp only [maxLen] at hg4
  clear ho3 hb3 hM hl2 HO1 HO2 HO12 HB1 HB2
  go_wp2_with fail
  refine (rrounds_any _).mono ?_
  rintro e w4 ⟨a4, c4, rfl, ho4, hb4⟩
  have HK := Lib.hid ho4.reads
  have HO4 := Lib.hid (HO3.out.below hb4)
  have HB4 := Lib.hid (HB3.out.trans (hb4.mono s3))
  have s4 := HB4.out.size
  clear ho4 hb4 HO3 HB3
  go_wp2_with fail
  refine (rstart_any _).mono ?_
  rintro e w5 ⟨a5, c5, rfl, ho5, hb5⟩
  have HS5 := Lib.hid ho5.reads
  have HK5 := Lib.hid (HK.out.below hb5)
  have HO5 := Lib.hid (HO4.out.below hb5)
  have HB5 := Lib.hid (HB4.out.trans (hb5.mono s4))
  have s5 := HB5.out.size
  clear ho5 hb5 HO4 HB4 HK
  go_wp2_with fail
  go_loopw [5, 6] (fun s i wr => ∃ (k cs : Nat) (as' : Option Addr), k ≤ M ∧ i = .int .i64 (64 * (k : Int)) ∧ s = .slice as' 8 cs ∧ U32s wr as' 8 cs ((blks (allB l) k).list.map I) ∧ Below w5.heap.size w5 wr) (fun _ i _ => (64 * (M : Int) - intOf i).toNat)
  case atStart =>
    refine ⟨0, c5, a5, by omega, rfl, rfl, ?_, Below.refl _ _⟩
    have := HS5.out
    rw [← H0_list] at this
    exact this
  case round =>
    obtain ⟨k, cs, as', hk, rfl, rfl, hs, hb⟩ := hrel
    have HS := Lib.hid hs; have HBl := Lib.hid hb
    have hsz := hb.size
    clear hs hb
    by_cases hkM : k < M
    · have hby := (sub_bytes HO5.out.bytes (64 * k) 64 (by omega)).below HBl.out
      rw [Nat.zero_add] at hby
      have hst : blks (allB l) (k + 1) = blk Kc (blks (allB l) k) (((allB l).drop (64 * k)).take 64) := rfl
      have HST := Lib.hid hst; have HBY := Lib.hid hby
      have HK6 := Lib.hid (HK5.out.below HBl.out)
      clear hst hby
      generalize ((allB l).drop (64 * k)).take 64 = bl at HBY HST
      generalize blks (allB l) k = st at HS HST
      have x0 : ((64 : Int) * k).toNat = 64 * k := by omega
      have x1 : ((64 : Int) * k + 64).toNat = 64 * k + 64 := by omega
      have x2 : (0 : Int) ≤ 64 * (k : Int) := by omega
      have x3 : (64 * (k : Int)) + 64 ≤ c3 := by omega
      have x5 : (0 : Int) ≤ 64 * (k : Int) + 64 := by omega
      have x6 : 64 * (k : Int) ≤ 64 * (k : Int) + 64 := by omega
      have x7 : ¬ c3 = 64 * k := by omega
      have x8 : 64 * (k : Int) + 64 ≤ 64 * (M : Int) := by omega
      go_wp2_with fail
      refine (rblock_any st as' cs Kc Kc_len a4 c4 _ _ bl _ HS.out HBY.out HK6.out).mono ?_
      rintro e w7 ⟨a7, c7, rfl, ho7, hb7⟩
      rw [← HST.out] at ho7
      have HO7 := Lib.hid ho7.reads; have HB7 := Lib.hid (HBl.out.trans (hb7.mono hsz))
      clear ho7 hb7 x0 x1 x2 x3 x5 x6 x7 x8
      go_wp2
      go_roundw
      case rel => exact ⟨k + 1, c7, a7, by omega, by go_num, rfl, HO7.out, HB7.out⟩
      case measure => simp [intOf]; omega
    · obtain rfl : k = M := by omega
      have hfin : outB (blks (allB l) k) = shaSum l := by unfold shaSum; rw [HMM.out]
      have HF := Lib.hid hfin
      generalize blks (allB l) k = st at HS HF
      have x8 : ¬ (64 * (k : Int) + 64 ≤ 64 * (k : Int)) := by omega
      clear hfin
      obtain ⟨wS, rfl⟩ : ∃ wS : World, wS = wr := ⟨_, rfl⟩
      have hms := HS.out.most; have hcs := HS.out.cap
      obtain ⟨bs', offs, rfl, hcell⟩ := HS.out.at'.resolve_left (by omega)
      have HCell := Lib.hid hcell
      have HBS := Lib.hid (HB5.out.trans (HBl.out.mono s5))
      have sS := HBS.out.size
      clear hcell HS HBl
      go_wp2_with fail
      go_loopw [7, 8] (fun out i wr => ∃ (t c : Nat) (a : Option Addr), t ≤ 8 ∧ i = .int .i64 t ∧ out = .slice a (4 * t) c ∧ OwnB wr wS.heap.size 5 a (4 * t) c (outN st.list t) ∧ Below wS.heap.size wS wr) (fun _ i _ => 8 - (intOf i).toNat)
      case atStart => exact ⟨0, 0, _, by omega, rfl, rfl, OwnB.made wS _ _ [] _ rfl (Nat.le_refl _) (by simp [maxLen]) (by simp [AllB]), (Below.refl _ _).alloc (Nat.le_refl _) _⟩
      case round =>
        obtain ⟨t, c6, a6, ht, rfl, rfl, ho, hb⟩ := hrel
        have HO := Lib.hid ho; have HBl := Lib.hid hb
        have hsz2 := hb.size
        by_cases h8 : t < 8
        · have ct := HCell.out t h8
          rw [← hb.cell (World.block_lt_of_cell? wS _ ct), mapI_at _ _ (by simpa [St.list] using h8)] at ct
          have hnx := outN_next st.list t h8
          rw [be4] at hnx
          have l0 := I_lo (st.list.getD t 0)
          have l1 := I_hi (st.list.getD t 0)
          generalize st.list.getD t 0 = x at ct hnx l0 l1
          have HN := Lib.hid hnx
          have hn1 : 4 * t + 4 ≤ 140737488355328 := by omega
          have ub : ∀ z : Int, 0 ≤ IntKind.u8.wrap z ∧ IntKind.u8.wrap z ≤ 255 := fun z => by rw [ss.u8_wrap]; omega
          have UB := Lib.hid ub
          have hi0 : (0 : Int) ≤ t := by omega
          have hi1 : (t : Int) < 8 := by omega
          have hi2 : (t : Int).toNat = t := by omega
          clear hnx ho hb ub
          go_wp2_with fail
          have hlt : bs' < wS.heap.size := World.block_lt_of_cell? wS _ (HCell.out t h8)
          have hkeep : ∀ W : World, Below wS.heap.size wr W → W.cell? ⟨bs', offs + t, none⟩ = some (.int .u32 (I x)) := fun W h => by rw [h.cell (p := ⟨bs', offs + t, none⟩) hlt]; exact ct
          have Keep := Lib.hid hkeep
          clear hkeep
          go_region_held_law (fun W => W.cell? ⟨bs', offs + t, none⟩ = some (.int .u32 (I x)))
            (first | exact ct | exact Keep.out _ ((Below.drew (Below.refl _ _)).alloc hsz2 _) | exact Keep.out _ (((Below.drew (Below.refl _ _)).alloc hsz2 _).trans hb9) | exact Keep.out _ (Below.trans (Below.drew (Below.alloc (Below.refl _ _) hsz2 _)) hb9) | exact Keep.out _ (Below.drew (Below.alloc (Below.refl _ _) hsz2 _)))
            (((first
                | refine step_append_b byteT (by rfl) _ _ (by rfl) wS.heap.size (by rfl) (HO.out.drew.alloc _) (by rfl) (four_bytes _ _ _ _ _ _ (by first | exact UB.out _ | omega) (by first | exact UB.out _ | omega) (by first | exact UB.out _ | omega) (by first | exact UB.out _ | omega)) hn1 (by simp; omega) ?_
                | refine step_append_b byteT (by rfl) _ _ (by rfl) wS.heap.size (by rfl) (HO.out.alloc _).drew (by rfl) (Bytes.drewN (four_bytes _ _ _ _ _ _ (by first | exact UB.out _ | omega) (by first | exact UB.out _ | omega) (by first | exact UB.out _ | omega) (by first | exact UB.out _ | omega)) 1) hn1 (by simp; omega) ?_); intro a9 c9 w9 ho9 hb9 hg9))
          have q1 : IntKind.u8.wrap (IntKind.u32.wrap ((I x).tdiv 16777216)) = I x / 16777216 % 256 := by rw [Int.tdiv_eq_ediv_of_nonneg l0, wrap32, ss.u8_wrap]; omega
          have q2 : IntKind.u8.wrap ((IntKind.u32.wrap ((I x).tdiv 65536)).tmod 256) = I x / 65536 % 256 := by rw [Int.tdiv_eq_ediv_of_nonneg l0, wrap32, Int.tmod_eq_emod_of_nonneg (by omega), ss.u8_wrap]; omega
          have q3 : IntKind.u8.wrap ((IntKind.u32.wrap ((I x).tdiv 256)).tmod 256) = I x / 256 % 256 := by rw [Int.tdiv_eq_ediv_of_nonneg l0, wrap32, Int.tmod_eq_emod_of_nonneg (by omega), ss.u8_wrap]; omega
          have q4 : IntKind.u8.wrap ((I x).tmod 256) = I x % 256 := by rw [Int.tmod_eq_emod_of_nonneg l0, ss.u8_wrap]; omega
          rw [q1, q2, q3, q4, HN.out] at ho9
          have HO9 := Lib.hid ho9; have HB9 := Lib.hid (HBl.out.trans (Below.trans (by first | exact Below.drew (Below.alloc (Below.refl _ _) hsz2 _) | exact (Below.drew (Below.refl _ _)).alloc hsz2 _) hb9))
          clear ho9 hb9 hg9 q1 q2 q3 q4
          go_wp2
          go_roundw
          case rel => exact ⟨t + 1, c9, a9, by omega, by go_num, rfl, HO9.out, HB9.out⟩
          case measure => simp [intOf]; omega
        · obtain rfl : t = 8 := by omega
          rw [outN_all, HF.out] at ho
          have HO9 := Lib.hid (ho.mono sS); have HB9 := Lib.hid (HBS.out.trans (hb.mono sS))
          clear ho hb
          go_wp2
          go_ret
          exact ⟨a6, c6, rfl, HO9.out, HB9.out⟩

end Go.Proofs.Ytejhncdempfmjaa.sh

/-
  Layer 4: the contract of the document's key block.
-/
namespace Go.Proofs.Ytejhncdempfmjaa.sh
open Go.ChangeShapes Go.WideShapes Go.ChangeAt Go.RowKit
open bs
set_option linter.unusedVariables false
open Go.Proofs.Ytejhncdempfmjaa.ss (be be_len be_bytes tail zer APost byteT)

theorem xb_bd (p q : Int) : 0 ≤ bits .xor .u8 p q ∧ bits .xor .u8 p q ≤ 255 := by
  show 0 ≤ IntKind.u8.wrap _ ∧ IntKind.u8.wrap _ ≤ 255
  rw [ss.u8_wrap]
  omega
theorem shaSum_len (l : List Int) : (shaSum l).length = 32 := by
  unfold shaSum outB
  simp [St.list, be_len]
/-- What a key comes to, of at most 64 bytes. -/
def kk (l : List Int) : List Int := if 64 < l.length then shaSum l else l
theorem kk_len (l : List Int) : (kk l).length ≤ 64 := by
  unfold kk
  split
  · rw [shaSum_len]; omega
  · omega
/-- A key's block. -/
def kb (l : List Int) : List Int := kk l ++ List.replicate (64 - (kk l).length) 0
theorem kb_len (l : List Int) : (kb l).length = 64 := by
  have := kk_len l
  unfold kb
  rw [List.length_append, List.length_replicate]
  omega
theorem kb_at (l : List Int) (t : Nat) (h : t < 64) : (kb l).getD t 0 = if t < (kk l).length then (kk l).getD t 0 else 0 := by
  unfold kb
  split
  · rw [List.getD_eq_getElem?_getD, List.getElem?_append_left (by assumption), ← List.getD_eq_getElem?_getD]
  · rw [List.getD_eq_getElem?_getD, List.getElem?_append_right (by omega), List.getElem?_replicate]
    split <;> rfl
def padB (l : List Int) (q : Int) : List Int := (kb l).map fun p => bits .xor .u8 p q
theorem padB_len (l : List Int) (q : Int) : (padB l q).length = 64 := by unfold padB; rw [List.length_map, kb_len]
theorem padB_next (l : List Int) (q : Int) (t : Nat) (h : t < 64) : (padB l q).take t ++ [bits .xor .u8 ((kb l).getD t 0) q] = (padB l q).take (t + 1) := by
  rw [take_getD (by rw [padB_len]; exact h)]
  congr 2
  unfold padB
  rw [List.getD_eq_getElem?_getD, List.getD_eq_getElem?_getD, List.getElem?_map, List.getElem?_eq_getElem (by rw [kb_len]; exact h)]
  rfl

set_option maxRecDepth 100000 in
set_option maxHeartbeats 2000000 in
theorem rkey_any (a : Option Addr) (n c : Nat) (l : List Int) (q : Int) (w : World) (h : Bytes w a n c l) (hn : n ≤ 1000000) (q0 : 0 ≤ q) (q1 : q ≤ 255) (h0 : bits .xor .u8 0 q = q) :
    Calls Try.prog 91 #[.slice a n c, .int .u8 q] w (APost w w.heap.size 64 (padB l q)) := by
  have hlen := h.len
  subst hlen
  have hcap := h.cap
  have hmost := h.most
  have HH := Lib.hid h
  have H0 := Lib.hid h0
  clear h h0
  by_cases hg : 64 < l.length
  · have hgi : (64 : Int) < (l.length : Int) := by omega
    go_enter Try.func91, Try.ntmps91
    go_wp2_with fail
    refine (rsum_any a _ c l _ HH.out hn).mono ?_
    rintro e w1 ⟨a1, c1, rfl, ho1, hb1⟩
    have HBK := Lib.hid ho1.bytes
    have HWW := Lib.hid hb1
    have HSZ := Lib.hid hb1.size
    have HKB := Lib.hid (show ∀ t, t < 64 → (kb l).getD t 0 = if t < 32 then (shaSum l).getD t 0 else 0 from fun t ht => by
      rw [kb_at l t ht, show kk l = shaSum l from if_pos hg, shaSum_len])
    clear ho1 hb1
    go_wp2_with fail

    go_loopw [6, 7] (fun out i wr => ∃ (t c2 : Nat) (a2 : Option Addr), t ≤ 64 ∧ i = .int .i64 t ∧ out = .slice a2 t c2 ∧ OwnB wr w1.heap.size 5 a2 t c2 ((padB l q).take t) ∧ Below w1.heap.size w1 wr) (fun _ i _ => 64 - (intOf i).toNat)
    case atStart => exact ⟨0, 0, _, by omega, rfl, rfl, OwnB.made w1 _ _ [] _ rfl (Nat.le_refl _) (by simp [maxLen]) (by simp [AllB]), (Below.refl _ _).alloc (Nat.le_refl _) _⟩
    case round =>
      obtain ⟨t, c2, a2, ht, rfl, rfl, ho, hb⟩ := hrel
      have hsz := hb.size
      by_cases h64 : t < 64
      · have hnx := padB_next l q t h64
        by_cases htk : t < 32
        · obtain ⟨bk, offk, hak, hck⟩ := HBK.out.at'.resolve_left (by omega)
          have ct := hck t htk
          rw [← hb.cell (World.block_lt_of_cell? w1 _ ct)] at ct
          rw [HKB.out t h64, if_pos htk] at hnx
          have hbt := HBK.out.all.getD t
          have hmk := HBK.out.most; have hkk := HBK.out.cap
          generalize (shaSum l).getD t 0 = p at ct hnx hbt
          have hx := xb_bd p q
          have HN := Lib.hid hnx; have HO := Lib.hid ho; have HBl := Lib.hid hb
          clear hnx ho hb hck
          subst hak
          have htz : (t : Int) < (32 : Int) := by omega
          go_wp2_with (at_builtin; refine wpList_append_b byteT rfl _ _ rfl w1.heap.size rfl (l := (padB l q).take t) ?o1 rfl (l' := [bits .xor .u8 p q]) ?b1 ?_ ?_ ?_)
          case o1 => exact HO.out.alloc _
          case b1 => exact Bytes.one _ _ _ hx
          · omega
          · (try simp); omega
          intro a3 c3 w3 ho3 hb3 _
          rw [HN.out] at ho3
          have HO3 := Lib.hid ho3; have HB3 := Lib.hid ((HBl.out.alloc hsz _).trans hb3)
          clear ho3 hb3
          go_wp2
          go_roundw
          case rel => exact ⟨t + 1, c3, a3, by omega, by go_num, rfl, HO3.out, HB3.out⟩
          case measure => simp [intOf]; omega
        · rw [HKB.out t h64, if_neg htk, H0.out] at hnx
          have HN := Lib.hid hnx; have HO := Lib.hid ho; have HBl := Lib.hid hb
          have hmk := HBK.out.most; have hkk := HBK.out.cap
          clear hnx ho hb
          have htz : ¬ (t : Int) < (32 : Int) := by omega
          go_wp2_with (at_builtin; refine wpList_append_b byteT rfl _ _ rfl w1.heap.size rfl (l := (padB l q).take t) ?o1 rfl (l' := [q]) ?b1 ?_ ?_ ?_)
          case o1 => exact HO.out.alloc _
          case b1 => exact Bytes.one _ _ _ ⟨q0, q1⟩
          · omega
          · (try simp); omega
          intro a3 c3 w3 ho3 hb3 _
          rw [HN.out] at ho3
          have HO3 := Lib.hid ho3; have HB3 := Lib.hid ((HBl.out.alloc hsz _).trans hb3)
          clear ho3 hb3
          go_wp2
          go_roundw
          case rel => exact ⟨t + 1, c3, a3, by omega, by go_num, rfl, HO3.out, HB3.out⟩
          case measure => simp [intOf]; omega
      · obtain rfl : t = 64 := by omega
        rw [List.take_of_length_le (by rw [padB_len]; omega)] at ho
        have HO := Lib.hid (ho.mono HSZ.out); have HBl := Lib.hid (HWW.out.trans (hb.mono HSZ.out))
        clear ho hb
        go_wp2
        go_ret
        exact ⟨a2, c2, rfl, HO.out, HBl.out⟩

  · have hgi : ¬ (64 : Int) < (l.length : Int) := by omega
    have HBK := Lib.hid HH.out
    have HWW := Lib.hid (Below.refl w.heap.size w)
    have HSZ := Lib.hid (Nat.le_refl w.heap.size)
    have HKB := Lib.hid (show ∀ t, t < 64 → (kb l).getD t 0 = if t < l.length then l.getD t 0 else 0 from fun t ht => by
      rw [kb_at l t ht, show kk l = l from if_neg hg])
    go_enter Try.func91, Try.ntmps91
    go_wp2_with fail

    go_loopw [6, 7] (fun out i wr => ∃ (t c2 : Nat) (a2 : Option Addr), t ≤ 64 ∧ i = .int .i64 t ∧ out = .slice a2 t c2 ∧ OwnB wr w.heap.size 5 a2 t c2 ((padB l q).take t) ∧ Below w.heap.size w wr) (fun _ i _ => 64 - (intOf i).toNat)
    case atStart => exact ⟨0, 0, _, by omega, rfl, rfl, OwnB.made w _ _ [] _ rfl (Nat.le_refl _) (by simp [maxLen]) (by simp [AllB]), (Below.refl _ _).alloc (Nat.le_refl _) _⟩
    case round =>
      obtain ⟨t, c2, a2, ht, rfl, rfl, ho, hb⟩ := hrel
      have hsz := hb.size
      by_cases h64 : t < 64
      · have hnx := padB_next l q t h64
        by_cases htk : t < l.length
        · obtain ⟨bk, offk, hak, hck⟩ := HBK.out.at'.resolve_left (by omega)
          have ct := hck t htk
          rw [← hb.cell (World.block_lt_of_cell? w _ ct)] at ct
          rw [HKB.out t h64, if_pos htk] at hnx
          have hbt := HBK.out.all.getD t
          have hmk := HBK.out.most; have hkk := HBK.out.cap
          generalize l.getD t 0 = p at ct hnx hbt
          have hx := xb_bd p q
          have HN := Lib.hid hnx; have HO := Lib.hid ho; have HBl := Lib.hid hb
          clear hnx ho hb hck
          subst hak
          have htz : (t : Int) < (l.length : Int) := by omega
          go_wp2_with (at_builtin; refine wpList_append_b byteT rfl _ _ rfl w.heap.size rfl (l := (padB l q).take t) ?o1 rfl (l' := [bits .xor .u8 p q]) ?b1 ?_ ?_ ?_)
          case o1 => exact HO.out.alloc _
          case b1 => exact Bytes.one _ _ _ hx
          · omega
          · (try simp); omega
          intro a3 c3 w3 ho3 hb3 _
          rw [HN.out] at ho3
          have HO3 := Lib.hid ho3; have HB3 := Lib.hid ((HBl.out.alloc hsz _).trans hb3)
          clear ho3 hb3
          go_wp2
          go_roundw
          case rel => exact ⟨t + 1, c3, a3, by omega, by go_num, rfl, HO3.out, HB3.out⟩
          case measure => simp [intOf]; omega
        · rw [HKB.out t h64, if_neg htk, H0.out] at hnx
          have HN := Lib.hid hnx; have HO := Lib.hid ho; have HBl := Lib.hid hb
          have hmk := HBK.out.most; have hkk := HBK.out.cap
          clear hnx ho hb
          have htz : ¬ (t : Int) < (l.length : Int) := by omega
          go_wp2_with (at_builtin; refine wpList_append_b byteT rfl _ _ rfl w.heap.size rfl (l := (padB l q).take t) ?o1 rfl (l' := [q]) ?b1 ?_ ?_ ?_)
          case o1 => exact HO.out.alloc _
          case b1 => exact Bytes.one _ _ _ ⟨q0, q1⟩
          · omega
          · (try simp); omega
          intro a3 c3 w3 ho3 hb3 _
          rw [HN.out] at ho3
          have HO3 := Lib.hid ho3; have HB3 := Lib.hid ((HBl.out.alloc hsz _).trans hb3)
          clear ho3 hb3
          go_wp2
          go_roundw
          case rel => exact ⟨t + 1, c3, a3, by omega, by go_num, rfl, HO3.out, HB3.out⟩
          case measure => simp [intOf]; omega
      · obtain rfl : t = 64 := by omega
        rw [List.take_of_length_le (by rw [padB_len]; omega)] at ho
        have HO := Lib.hid (ho.mono HSZ.out); have HBl := Lib.hid (HWW.out.trans (hb.mono HSZ.out))
        clear ho hb
        go_wp2
        go_ret
        exact ⟨a2, c2, rfl, HO.out, HBl.out⟩

end Go.Proofs.Ytejhncdempfmjaa.sh

/-
  Layer 4: the contracts of the program's key block, and of the block xor a byte.
-/
namespace Go.Proofs.Ytejhncdempfmjaa.sh
open Go.ChangeShapes Go.WideShapes Go.ChangeAt Go.RowKit
open bs
set_option linter.unusedVariables false
open Go.Proofs.Ytejhncdempfmjaa.ss (be be_len be_bytes tail zer APost byteT)

/-- The block g holds the bytes L. -/
def BRow (w : World) (g : Nat) (t : TypeId) (L : List Int) : Prop := w.heap[g]? = some (.cells (cellsOf L).toArray t (0, 0))
theorem BRow.lt {w : World} {g t L} (h : BRow w g t L) : g < w.heap.size := (Array.getElem?_eq_some_iff.1 h).1
theorem BRow.below {w w' : World} {g t L} (h : BRow w g t L) {B : Nat} (hg : g < B) (hb : Below B w w') : BRow w' g t L := by
  unfold BRow
  rw [hb.block g hg]
  exact h
theorem cellsOf_one (L : List Int) : (cellsOf L).toArray.all (·.oneCell') = true := by
  simp only [cellsOf, List.all_toArray, List.all_map, List.all_eq_true]
  intro x _
  rfl
theorem cellsOf_len (L : List Int) : (cellsOf L).length = L.length := by simp [cellsOf]
theorem cellsOf_at (L : List Int) (i : Nat) (h : i < L.length) : (cellsOf L).toArray[i]? = some (.int .u8 (L.getD i 0)) := by
  simp only [cellsOf, List.getElem?_toArray, List.getElem?_map, List.getD_eq_getElem?_getD, List.getElem?_eq_getElem h]
  rfl
def Z64 : List Int := List.replicate 64 0
theorem Z64_len : Z64.length = 64 := by simp [Z64]
theorem splice_kb (k : List Int) (h : k.length ≤ 64) : splice (cellsOf Z64) 0 (cellsOf k) = cellsOf (k ++ List.replicate (64 - k.length) 0) := by
  unfold splice Z64
  rw [List.take_zero, List.nil_append, Nat.zero_add, cellsOf_append, cellsOf_len]
  congr 1
  unfold cellsOf
  rw [← List.map_drop, List.drop_replicate]
theorem src_cells {w : World} {a : Option Addr} {n c : Nat} {l : List Int} (h : Bytes w a n c l) : 0 < (cellsOf l).length → ∃ ad, a = some ad ∧ ∀ j v, (cellsOf l)[j]? = some v → w.cell? (ad.add j) = some v := by
  intro hp
  have hl := h.len
  rw [cellsOf_len] at hp
  obtain ⟨b, off, rfl, hc⟩ := h.at'.resolve_left (by omega)
  refine ⟨_, rfl, fun j v hv => ?_⟩
  have hj : j < n := by
    have := (List.getElem?_eq_some_iff.1 hv).1
    rw [cellsOf_len] at this
    omega
  have e : (⟨b, off, none⟩ : Addr).add j = ⟨b, off + j, none⟩ := by unfold Addr.add; split <;> simp_all
  rw [e, hc j hj, ← hv, cellsOf, List.getElem?_map, List.getElem?_eq_getElem (by omega), List.getD_eq_getElem?_getD, List.getElem?_eq_getElem (by omega)]
  rfl
theorem cellsOf_all1 (L : List Int) : ∀ v ∈ cellsOf L, v.oneCell' = true := by
  intro v hv
  obtain ⟨x, _, rfl⟩ := List.mem_map.1 hv
  rfl

set_option maxRecDepth 100000 in
set_option maxHeartbeats 2000000 in
theorem pkey_any (a : Option Addr) (n c : Nat) (l : List Int) (w : World) (h : Bytes w a n c l) (hn : n ≤ 1000000) :
    Calls Try.prog 65 #[.slice a n c] w fun e w' => e = .returned (.agg (cellsOf (kb l)).toArray) ∧ Below w.heap.size w w' := by
  have hlen := h.len
  subst hlen
  have hcap := h.cap
  have hmost := h.most
  have HH := Lib.hid h
  clear h
  have hW : Below w.heap.size w ((w.alloc (.cells (cellsOf Z64).toArray 97)).alloc (.cells (cellsOf Z64).toArray 97)) := ((Below.refl _ _).alloc (Nat.le_refl _) _).alloc (by simp) _
  have hz0 : BRow ((w.alloc (.cells (cellsOf Z64).toArray 97)).alloc (.cells (cellsOf Z64).toArray 97)) w.heap.size 97 Z64 := heap_alloc2_old w _ _
  have hz1 : BRow ((w.alloc (.cells (cellsOf Z64).toArray 97)).alloc (.cells (cellsOf Z64).toArray 97)) (w.heap.size + 1) 97 Z64 := heap_alloc2_new w _ _
  have HW := Lib.hid hW; have HZ0 := Lib.hid hz0; have HZ1 := Lib.hid hz1
  clear hW hz0 hz1
  by_cases hg : 64 < l.length
  · have hgi : (64 : Int) < (l.length : Int) := by omega
    have hkl : kk l = shaSum l := if_pos hg
    have HKL := Lib.hid hkl
    have HN1 := Lib.hid (show (cellsOf (shaSum l)).length = Nat.min 32 64 by rw [cellsOf_len, shaSum_len]; rfl)
    have HF1 := Lib.hid (show 0 + (cellsOf (shaSum l)).length ≤ (cellsOf Z64).length by rw [cellsOf_len, cellsOf_len, Z64_len, shaSum_len]; omega)
    clear hkl
    go_enter Try.func65, Try.ntmps65
    go_wp2_with fail
    change Code.wp _ _ _ _ ((w.alloc (.cells (cellsOf Z64).toArray 97)).alloc (.cells (cellsOf Z64).toArray 97))
    generalize ((w.alloc (.cells (cellsOf Z64).toArray 97)).alloc (.cells (cellsOf Z64).toArray 97)) = W0 at HW HZ0 HZ1 ⊢
    have HHd : Hid (Bytes W0.drew a l.length c l) := (HH.out.below HW.out).drewN 1
    have HZd : Hid (BRow W0.drew (w.heap.size + 1) 97 Z64) := HZ1.out
    have hlt : w.heap.size + 1 < W0.drew.heap.size := HZ1.out.lt
    have HD : Hid (Below (w.heap.size + 1) W0 W0.drew) := Below.drew (Below.refl _ _)
    have HLT := Lib.hid hlt
    clear hlt
    go_region_held_law (fun W => Hid (Below (w.heap.size + 1) W0 W))
      (first | exact HD | exact hS1 | exact hS2)
      (first
        | (go_at_call 67; (with_reducible refine (psum_any a _ c l _ HHd.out hn).mono ?_); rintro e w1 ⟨a1, c1, rfl, ho1, hb1⟩; have HO1 := Lib.hid ho1.bytes; have HZ2 : Hid (BRow w1 (w.heap.size + 1) 97 Z64) := BRow.below HZd.out HLT.out hb1; have hS1 : Hid (Below (w.heap.size + 1) W0 w1) := HD.out.trans (hb1.mono (Nat.le_of_lt HLT.out)); clear ho1 hb1)
        | (refine step_copy_splice (by rfl) (.tmp 7) (.tmp 9) 22 22 (by rfl) 5 Try.underlying22 (by kernel_rfl) (some ⟨w.heap.size + 1, 0, none⟩) a1 64 64 32 c1 (by rfl) (by rfl) (w.heap.size + 1) 0 (cellsOf Z64) 97 HZ2.out (cellsOf (shaSum l)) HN1.out (fun hp => ⟨rfl, src_cells HO1.out hp⟩) HF1.out (cellsOf_all1 _) (w.heap.size + 1) W0 hS1.out (Nat.le_refl _) ?_; intro w2 hcp hb2; have hS2 := Lib.hid hb2; clear hb2))
    have hcp2 : BRow w2 (w.heap.size + 1) 97 (kb l) := by
      have := hcp.out
      rw [splice_kb _ (by rw [shaSum_len]; omega)] at this
      unfold kb
      rw [HKL.out]
      exact this
    have hr0 : BRow w2 w.heap.size 97 Z64 := BRow.below HZ0.out (by omega) hS2.out
    have HC := Lib.hid hcp2; have HR := Lib.hid hr0
    have HB := Lib.hid (HW.out.trans (hS2.out.mono (by omega)))
    clear hcp hcp2 hr0 hS2
    have HS1 := Lib.hid (show (Try.prog.info? 97).map (·.size) = some (cellsOf (kb l)).toArray.size by rw [List.size_toArray, cellsOf_len, kb_len]; kernel_rfl)
    have HS2 := Lib.hid (show (cellsOf Z64).toArray.size = (cellsOf (kb l)).toArray.size by rw [List.size_toArray, List.size_toArray, cellsOf_len, cellsOf_len, kb_len, Z64_len])
    go_wp2_with (first
      | (refine wpList_load_row rfl 97 (.tmp 3) rfl (w.heap.size + 1) rfl 97 (cellsOf (kb l)).toArray (0, 0) _ HC.out Try.underlying97 rfl HS1.out ?_)
      | (refine wpList_store_row rfl 97 (.tmp 2) _ rfl w.heap.size (cellsOf (kb l)).toArray rfl rfl 97 (cellsOf Z64).toArray HR.out HS1.out HS2.out (cellsOf_one _) ?_))
    refine bodyPost_ret (v := .agg (cellsOf (kb l)).toArray) ?_ rfl ⟨rfl, Go.below_setRow HB.out (Nat.le_refl _) _⟩
    exact results_cell_row rfl _ _ w.heap.size _ _ _ _ rfl (setRow_heap w2 w.heap.size _ _ _ _ HR.out) Try.underlying97 rfl HS1.out
  · have hgi : ¬ (64 : Int) < (l.length : Int) := by omega
    have hkl : kk l = l := if_neg hg
    have HKL := Lib.hid hkl
    have HN1 := Lib.hid (show (cellsOf l).length = Nat.min l.length 64 by rw [cellsOf_len]; exact (Nat.min_eq_left (by omega)).symm)
    have HF1 := Lib.hid (show 0 + (cellsOf l).length ≤ (cellsOf Z64).length by rw [cellsOf_len, cellsOf_len, Z64_len]; omega)
    clear hkl
    go_enter Try.func65, Try.ntmps65
    go_wp2_with (refine wpList_copy_splice (o := ⟨some 13, _, _, _, _, _⟩) rfl (.tmp 11) (.tmp 12) 22 22 rfl 5 Try.underlying22 (by kernel_rfl) (some ⟨w.heap.size + 1, 0, none⟩) a 64 64 l.length c rfl rfl (w.heap.size + 1) 0 (cellsOf Z64) 97 HZ1.out (cellsOf l) HN1.out (fun hp => ⟨rfl, src_cells (HH.out.below HW.out) hp⟩) HF1.out (cellsOf_all1 l) (w.heap.size + 1) _ (Below.refl _ _) (Nat.le_refl _) ?_)
    intro w1 hcp hb1
    have hcp2 : BRow w1 (w.heap.size + 1) 97 (kb l) := by
      have := hcp.out
      rw [splice_kb l (by omega)] at this
      unfold kb
      rw [HKL.out]
      exact this
    have hr0 : BRow w1 w.heap.size 97 Z64 := BRow.below HZ0.out (by omega) hb1
    have HC := Lib.hid hcp2; have HR := Lib.hid hr0
    have HB := Lib.hid (HW.out.trans (hb1.mono (by omega)))
    clear hcp hcp2 hr0 hb1
    have HS1 := Lib.hid (show (Try.prog.info? 97).map (·.size) = some (cellsOf (kb l)).toArray.size by rw [List.size_toArray, cellsOf_len, kb_len]; kernel_rfl)
    have HS2 := Lib.hid (show (cellsOf Z64).toArray.size = (cellsOf (kb l)).toArray.size by rw [List.size_toArray, List.size_toArray, cellsOf_len, cellsOf_len, kb_len, Z64_len])
    go_wp2_with (first
      | (refine wpList_load_row rfl 97 (.tmp 3) rfl (w.heap.size + 1) rfl 97 (cellsOf (kb l)).toArray (0, 0) _ HC.out Try.underlying97 rfl HS1.out ?_)
      | (refine wpList_store_row rfl 97 (.tmp 2) _ rfl w.heap.size (cellsOf (kb l)).toArray rfl rfl 97 (cellsOf Z64).toArray HR.out HS1.out HS2.out (cellsOf_one _) ?_))
    refine bodyPost_ret (v := .agg (cellsOf (kb l)).toArray) ?_ rfl ⟨rfl, Go.below_setRow HB.out (Nat.le_refl _) _⟩
    exact results_cell_row rfl _ _ w.heap.size _ _ _ _ rfl (setRow_heap w1 w.heap.size _ _ _ _ HR.out) Try.underlying97 rfl HS1.out

end Go.Proofs.Ytejhncdempfmjaa.sh

/-
  Layer 4: the contracts of both tags.
-/
namespace Go.Proofs.Ytejhncdempfmjaa.sh
open Go.ChangeShapes Go.WideShapes Go.ChangeAt Go.RowKit
open bs
set_option linter.unusedVariables false
open Go.Proofs.Ytejhncdempfmjaa.ss (be be_len be_bytes tail zer APost byteT)

section
variable {P : Program} {w : World} {ops : Array Oper} {rest : List Oper} {o : Oper} {a : Act} {Q : Exit → Act → World → Prop}
theorem wpList_load_B (hgd : o.guard = none) (ty : TypeId) (x : Operand) (ho : o.op = .load ty x) {g : Nat} (hx : a.eval x = .pointer (some ⟨g, 0, none⟩)) {t : TypeId} {L : List Int} (hr : BRow w g t L)
    {d : TypeDesc} (hu : P.underlying ty = some d) (hd : (match d with | .struct _ | .array _ _ => true | _ => false) = true) {n : Nat} (hi : (P.info? ty).map (·.size) = some n) (hn : L.length = n)
    (h : wpList P ops Q rest (a.put o.dst (.agg (cellsOf L).toArray)) w) : wpList P ops Q (o :: rest) a w :=
  wpList_load_row hgd ty x ho g hx t (cellsOf L).toArray (0, 0) d hr hu hd (by rw [hi, List.size_toArray, cellsOf_len, hn]) h
theorem wpList_store_B (hgd : o.guard = none) (ty : TypeId) (x y : Operand) (ho : o.op = .store ty x y) {g : Nat} (hx : a.eval x = .pointer (some ⟨g, 0, none⟩)) {L : List Int} (hy : a.eval y = .agg (cellsOf L).toArray)
    {t : TypeId} {L0 : List Int} (hr : BRow w g t L0) {n : Nat} (hi : (P.info? ty).map (·.size) = some n) (hn : L.length = n) (hn0 : L0.length = n)
    (h : wpList P ops Q rest (a.put o.dst undef) (w.setRow g (cellsOf L).toArray)) : wpList P ops Q (o :: rest) a w :=
  wpList_store_row hgd ty x y ho g (cellsOf L).toArray hx hy t (cellsOf L0).toArray hr (by rw [hi, List.size_toArray, cellsOf_len, hn]) (by rw [List.size_toArray, List.size_toArray, cellsOf_len, cellsOf_len, hn, hn0]) (cellsOf_one L) h
end

def filI (D : List Int) (i : Nat) : List Int := D.take i ++ List.replicate (D.length - i) 0
theorem filI_set (D : List Int) (i : Nat) (h : i < D.length) : (filI D i).set i (D.getD i 0) = filI D (i + 1) := by
  unfold filI
  rw [List.set_append_right _ _ (by simp; omega), List.length_take, Nat.min_eq_left (by omega), Nat.sub_self, show D.length - i = (D.length - (i + 1)) + 1 by omega, List.replicate_succ, List.set_cons_zero, take_getD h, List.append_assoc]
  rfl
theorem filI_all (D : List Int) (i : Nat) (h : D.length = i) : filI D i = D := by
  subst h
  unfold filI
  simp

set_option maxRecDepth 100000 in
set_option maxHeartbeats 1000000 in
theorem ppad_any (q : Int) (g : Nat) (l : List Int) (w : World) (hg : BRow w g 97 (kb l)) (q0 : 0 ≤ q) (q1 : q ≤ 255) :
    Calls Try.prog 66 #[.int .u8 q, .pointer (some ⟨g, 0, none⟩)] w (APost w w.heap.size 64 (padB l q)) := by
  have hlt := hg.lt
  have HG := Lib.hid hg
  have HPL := Lib.hid (padB_len l q)
  have HKL := Lib.hid (kb_len l)
  clear hg
  go_enter Try.func66, Try.ntmps66
  go_wp2_with (at_make; refine wpList_make_b byteT rfl _ _ rfl w.heap.size .i64 .i64 64 64 64 rfl rfl rfl rfl ?_ ?_ ?_)
  · omega
  · exact Nat.le_refl _
  intro w1 ho hb hsz
  have HO := Lib.hid (show OwnB w1 w.heap.size 5 (some ⟨w.heap.size, 0, none⟩) 64 64 (filI (padB l q) 0) by unfold filI; rw [HPL.out]; exact ho)
  have HB := Lib.hid hb
  have HG1 := Lib.hid (BRow.below HG.out hlt hb)
  clear ho hb hlt
  go_wp2_with (refine wpList_load_B rfl 97 (.tmp 1) rfl rfl (L := kb l) HG1.out Try.underlying97 rfl (n := 64) (by kernel_rfl) HKL.out ?_)
  go_loopw [9] (fun i wr => ∃ t : Nat, t ≤ 64 ∧ i = .int .i64 t ∧ OwnB wr w.heap.size 5 (some ⟨w.heap.size, 0, none⟩) 64 64 (filI (padB l q) t) ∧ Below w.heap.size w wr) (fun i _ => 64 - (intOf i).toNat)
  case atStart => exact ⟨0, by omega, rfl, HO.out, HB.out⟩
  case round =>
    clear HO HB HG1
    obtain ⟨t, ht, rfl, ho, hb⟩ := hrel
    by_cases h64 : t < 64
    · have hidx : ∀ W : World, (Instr.index 97 (.agg (cellsOf (kb l)).toArray) (.int .i64 t)).run Try.prog W = .ok (.int .u8 ((kb l).getD t 0)) W := fun W => by
        have h1 := cellsOf_at (kb l) t (by rw [HKL.out]; exact h64)
        have h2 : (cellsOf (kb l)).length = 64 := by rw [cellsOf_len, HKL.out]
        simp only [List.getElem?_toArray] at h1
        simp [Instr.index, asIntOf, go_sem, h1]
        intro h9
        omega
      have hv : (padB l q).getD t 0 = bits .xor .u8 ((kb l).getD t 0) q := by
        unfold padB
        rw [List.getD_eq_getElem?_getD, List.getD_eq_getElem?_getD, List.getElem?_map, List.getElem?_eq_getElem (by rw [HKL.out]; exact h64)]
        rfl
      generalize (kb l).getD t 0 = p at hidx hv
      have ct := ho.cellAt t h64
      have ft := ho.frozenAt t
      generalize (filI (padB l q) t).getD t 0 = y at ct
      have hx := xb_bd p q
      have hst := ho.stored t (bits .xor .u8 p q) hx
      rw [← hv, filI_set _ _ (by rw [HPL.out]; exact h64), hv] at hst
      have HST := Lib.hid hst; have HBl := Lib.hid hb
      clear hv hst ho hb hx
      go_wp2_with fail
      clear hidx
      go_wp2
      go_roundw
      case rel => exact ⟨t + 1, by omega, by go_num, HST.out, HBl.out.setCell (Nat.le_refl _) _⟩
      case measure => simp [intOf]; omega
    · obtain rfl : t = 64 := by omega
      rw [filI_all _ _ HPL.out] at ho
      have HO := Lib.hid ho; have HBl := Lib.hid hb
      clear ho hb
      go_wp2
      go_ret
      exact ⟨_, _, rfl, HO.out, HBl.out⟩

/-- The tag. -/
def tagB (l m : List Int) : List Int := shaSum (padB l 92 ++ shaSum (padB l 54 ++ m))

set_option maxRecDepth 100000 in
set_option maxHeartbeats 1000000 in
theorem rtag_any (a : Option Addr) (n c : Nat) (l : List Int) (a' : Option Addr) (n' c' : Nat) (m : List Int) (w : World) (h : Bytes w a n c l) (h' : Bytes w a' n' c' m) (hn : n ≤ 100000) (hn' : n' ≤ 100000) :
    Calls Try.prog 81 #[.slice a n c, .slice a' n' c'] w (APost w w.heap.size 32 (tagB l m)) := by
  have H1 := Lib.hid h; have H2 := Lib.hid h'
  have x54 : bits .xor .u8 0 54 = 54 := by decide
  have x92 : bits .xor .u8 0 92 = 92 := by decide
  have X54 := Lib.hid x54; have X92 := Lib.hid x92
  clear h h' x54 x92
  go_enter Try.func81, Try.ntmps81
  go_wp2_with fail
  refine (rkey_any a n c l 54 _ H1.out (by omega) (by omega) (by omega) X54.out).mono ?_
  rintro e w1 ⟨a1, c1, rfl, ho1, hb1⟩
  have HO1 := Lib.hid ho1; have HB1 := Lib.hid hb1; have HM1 := Lib.hid (H2.out.below hb1); have HK1 := Lib.hid (H1.out.below hb1)
  have s1 := hb1.size
  clear ho1 hb1
  go_wp2_with (at_builtin; refine wpList_append_b byteT rfl _ _ rfl w.heap.size rfl (l := padB l 54) ?o1 rfl (l' := m) ?b1 ?_ ?_ ?_)
  case o1 => exact HO1.out
  case b1 => exact HM1.out
  · omega
  · exact s1
  intro a2 c2 w2 ho2 hb2 _
  have HO2 := Lib.hid ho2; have HB2 := Lib.hid (HB1.out.trans hb2)
  have HK2 := Lib.hid (H1.out.below HB2.out)
  have s2 := HB2.out.size
  clear ho2 hb2 HO1
  go_wp2_with fail
  refine (rkey_any a n c l 92 _ HK2.out (by omega) (by omega) (by omega) X92.out).mono ?_
  rintro e w3 ⟨a3, c3, rfl, ho3, hb3⟩
  have HO3 := Lib.hid ho3; have HB3 := Lib.hid (HB2.out.trans (hb3.mono s2)); have HO23 := Lib.hid ((HO2.out.below hb3).bytes)
  have s3 := HB3.out.size
  clear ho3 hb3
  go_wp2_with fail
  refine (rsum_any a2 _ c2 (padB l 54 ++ m) _ HO23.out (by omega)).mono ?_
  rintro e w4 ⟨a4, c4, rfl, ho4, hb4⟩
  have HO4 := Lib.hid ho4.bytes; have HB4 := Lib.hid (HB3.out.trans (hb4.mono s3)); have HO34 := Lib.hid (OwnB.mono (HO3.out.below hb4) s2)
  have s4 := HB4.out.size
  clear ho4 hb4
  go_wp2_with (at_builtin; refine wpList_append_b byteT rfl _ _ rfl w.heap.size rfl (l := padB l 92) ?o2 rfl (l' := shaSum (padB l 54 ++ m)) ?b2 ?_ ?_ ?_)
  case o2 => exact HO34.out
  case b2 => exact HO4.out
  · omega
  · exact s4
  intro a5 c5 w5 ho5 hb5 _
  have HO5 := Lib.hid ho5.bytes; have HB5 := Lib.hid (HB4.out.trans hb5)
  have s5 := HB5.out.size
  clear ho5 hb5
  go_wp2_with fail
  refine (rsum_any a5 _ c5 (padB l 92 ++ shaSum (padB l 54 ++ m)) _ HO5.out (by omega)).mono ?_
  rintro e w6 ⟨a6, c6, rfl, ho6, hb6⟩
  have HO6 := Lib.hid (ho6.mono s5); have HB6 := Lib.hid (HB5.out.trans (hb6.mono s5))
  clear ho6 hb6
  go_wp2
  go_ret
  exact ⟨a6, c6, rfl, HO6.out, HB6.out⟩

set_option maxRecDepth 100000 in
set_option maxHeartbeats 1000000 in
theorem ptag_any (a : Option Addr) (n c : Nat) (l : List Int) (a' : Option Addr) (n' c' : Nat) (m : List Int) (w : World) (h : Bytes w a n c l) (h' : Bytes w a' n' c' m) (hn : n ≤ 100000) (hn' : n' ≤ 100000) :
    Calls Try.prog 28 #[.slice a n c, .slice a' n' c'] w (APost w w.heap.size 32 (tagB l m)) := by
  have hmf : ∀ (fn : Fn) (first cap : Array Value) (w : World), (Instr.makeFunc fn first cap).run Try.prog w = .ok (.func fn first cap) w := fun _ _ _ _ => rfl
  have H1 := Lib.hid h; have H2 := Lib.hid h'
  have HKL := Lib.hid (kb_len l)
  clear h h'
  go_enter Try.func28, Try.ntmps28
  go_wp2_with fail
  refine (pkey_any a n c l _ H1.out (by omega)).mono ?_
  rintro e w0 ⟨rfl, hb0⟩
  have HB0 := Lib.hid hb0; have HM0 := Lib.hid (H2.out.below hb0)
  have s0 := hb0.size
  clear hb0
  go_wp2_with (refine wpList_store_B (g := w0.heap.size) (t := 97) rfl 97 (.tmp 5) _ rfl rfl (L := kb l) (L0 := Z64) rfl ?hr1 (n := 64) (by kernel_rfl) HKL.out Z64_len ?_)
  case hr1 => exact heap_alloc_new w0 _
  obtain ⟨W1, hW1⟩ : ∃ W1, W1 = (w0.alloc (.cells (cellsOf Z64).toArray 97)).setRow w0.heap.size (cellsOf (kb l)).toArray := ⟨_, rfl⟩
  change Calls _ _ _ ((w0.alloc (.cells (cellsOf Z64).toArray 97)).setRow w0.heap.size (cellsOf (kb l)).toArray) _
  rw [← hW1]
  have HG := Lib.hid (show BRow W1 w0.heap.size 97 (kb l) by rw [hW1]; exact setRow_heap _ _ _ _ _ _ (heap_alloc_new w0 _))
  have hB1 : Below w0.heap.size w0 W1 := by rw [hW1]; exact Go.below_setRow ((Below.refl _ _).alloc (Nat.le_refl _) _) (Nat.le_refl _) _
  have HM1 := Lib.hid (HM0.out.below hB1)
  have HB1 := Lib.hid (HB0.out.trans (hB1.mono s0))
  have s1 := HB1.out.size
  clear hW1 hB1
  refine (ppad_any 54 w0.heap.size l _ HG.out (by omega) (by omega)).mono ?_
  rintro e w2 ⟨a2, c2, rfl, ho2, hb2⟩
  have HO2 := Lib.hid (ho2.mono s1); have HM2 := Lib.hid (HM1.out.below hb2); have HG2 := Lib.hid (BRow.below HG.out HG.out.lt hb2); have HB2 := Lib.hid (HB1.out.trans (hb2.mono s1))
  have HOx := Lib.hid ho2
  have hbase : w0.heap.size < W1.heap.size := HG.out.lt
  have s2 := HB2.out.size
  have s22 := hb2.size
  clear ho2 hb2
  go_wp2_with (at_builtin; refine wpList_append_b byteT rfl _ _ rfl W1.heap.size rfl (l := padB l 54) ?o1 rfl (l' := m) ?b1 ?_ ?_ ?_)
  case o1 => exact HOx.out
  case b1 => exact HM2.out
  · omega
  · exact s22
  intro a3 c3 w3 ho3 hb3 _
  have HO3 := Lib.hid ho3.bytes; have HB3 := Lib.hid (HB2.out.trans (hb3.mono s1)); have HG3 := Lib.hid (BRow.below HG2.out hbase hb3)
  have s3 := HB3.out.size
  clear ho3 hb3
  go_wp2_with fail
  refine (psum_any a3 _ c3 (padB l 54 ++ m) _ HO3.out (by omega)).mono ?_
  rintro e w4 ⟨a4, c4, rfl, ho4, hb4⟩
  have HO4 := Lib.hid ho4.bytes; have HB4 := Lib.hid (HB3.out.trans (hb4.mono s3)); have HG4 := Lib.hid (BRow.below HG3.out HG3.out.lt hb4)
  have s4 := HB4.out.size
  clear ho4 hb4
  go_wp2_with fail
  refine (ppad_any 92 w0.heap.size l _ HG4.out (by omega) (by omega)).mono ?_
  rintro e w5 ⟨a5, c5, rfl, ho5, hb5⟩
  have HO5 := Lib.hid (ho5.mono s4); have HB5 := Lib.hid (HB4.out.trans (hb5.mono s4)); have HO45 := Lib.hid (HO4.out.below hb5)
  have s5 := HB5.out.size
  clear ho5 hb5
  go_wp2_with (at_builtin; refine wpList_append_b byteT rfl _ _ rfl w.heap.size rfl (l := padB l 92) ?o2 rfl (l' := shaSum (padB l 54 ++ m)) ?b2 ?_ ?_ ?_)
  case o2 => exact HO5.out
  case b2 => exact HO45.out
  · omega
  · exact s5
  intro a6 c6 w6 ho6 hb6 _
  have HO6 := Lib.hid ho6.bytes; have HB6 := Lib.hid (HB5.out.trans hb6)
  have s6 := HB6.out.size
  clear ho6 hb6
  go_wp2_with fail
  refine (psum_any a6 _ c6 (padB l 92 ++ shaSum (padB l 54 ++ m)) _ HO6.out (by omega)).mono ?_
  rintro e w7 ⟨a7, c7, rfl, ho7, hb7⟩
  have HO7 := Lib.hid (ho7.mono s6); have HB7 := Lib.hid (HB6.out.trans (hb7.mono s6))
  clear ho7 hb7
  go_wp2
  go_ret
  exact ⟨a7, c7, rfl, HO7.out, HB7.out⟩

end Go.Proofs.Ytejhncdempfmjaa.sh
