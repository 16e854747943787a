/-
  Layer 3 without any program: numbers of 32 bits as integers, the rounds, the blocks, the digest.
-/
import Derived.Test.YtlpiacofnciodaaPrimePlain
import Derived.Test.YtlpiacofnciodaaRootPlain
import Derived.WalkKit
namespace Go.Proofs.Ytlpiacofnciodaa.sh
open Go.Proofs.Ytlpiacofnciodaa.rs
set_option linter.unusedVariables false

/-- A number of 32 bits as an integer. -/
def I (x : BitVec 32) : Int := (x.toNat : Int)
theorem I_lo (x : BitVec 32) : 0 ≤ I x := by unfold I; omega
theorem I_hi (x : BitVec 32) : I x ≤ 4294967295 := by unfold I; have := x.isLt; omega
theorem wrap32 (n : Int) : IntKind.u32.wrap n = n % 4294967296 := by
  simp only [IntKind.wrap, IntKind.signed, IntKind.bits, Bool.false_and]
  exact if_neg (by simp)
theorem I_ofInt (n : Int) : IntKind.u32.wrap n = I (BitVec.ofInt 32 n) := by
  rw [wrap32]
  unfold I
  rw [BitVec.toNat_ofInt]
  omega
theorem I_ofNat (n : Nat) : IntKind.u32.wrap (n : Int) = I (BitVec.ofNat 32 n) := by
  rw [wrap32]
  unfold I
  rw [BitVec.toNat_ofNat]
  omega
theorem ofInt_I (x : BitVec 32) : BitVec.ofInt 32 (I x) = x := by
  unfold I
  rw [BitVec.ofInt_natCast, BitVec.ofNat_toNat, BitVec.setWidth_eq]
theorem I_inj {x y : BitVec 32} (h : I x = I y) : x = y := by
  rw [← ofInt_I x, ← ofInt_I y, h]
theorem I_add (x y : BitVec 32) : IntKind.u32.wrap (I x + I y) = I (x + y) := by
  rw [wrap32]
  unfold I
  rw [BitVec.toNat_add]
  omega
theorem bits_I (x y : BitVec 32) : bits .and .u32 (I x) (I y) = I (x &&& y) ∧ bits .or .u32 (I x) (I y) = I (x ||| y) ∧ bits .xor .u32 (I x) (I y) = I (x ^^^ y) := by
  have h : ∀ r : BitVec 32, IntKind.u32.wrap (r.toNat : Int) = I r := fun r => by rw [wrap32]; unfold I; have := r.isLt; omega
  refine ⟨?_, ?_, ?_⟩
  · show IntKind.u32.wrap ((BitVec.ofInt 32 (I x) &&& BitVec.ofInt 32 (I y)).toNat : Int) = _
    rw [h, ofInt_I, ofInt_I]
  · show IntKind.u32.wrap ((BitVec.ofInt 32 (I x) ||| BitVec.ofInt 32 (I y)).toNat : Int) = _
    rw [h, ofInt_I, ofInt_I]
  · show IntKind.u32.wrap ((BitVec.ofInt 32 (I x) ^^^ BitVec.ofInt 32 (I y)).toNat : Int) = _
    rw [h, ofInt_I, ofInt_I]
theorem I_and (x y : BitVec 32) : bits .and .u32 (I x) (I y) = I (x &&& y) := (bits_I x y).1
theorem I_or (x y : BitVec 32) : bits .or .u32 (I x) (I y) = I (x ||| y) := (bits_I x y).2.1
theorem I_xor (x y : BitVec 32) : bits .xor .u32 (I x) (I y) = I (x ^^^ y) := (bits_I x y).2.2
theorem I_ones : (4294967295 : Int) = I (BitVec.allOnes 32) := by decide
theorem I_not (x : BitVec 32) : bits .xor .u32 4294967295 (I x) = I (~~~x) := by
  rw [I_ones, I_xor]
  rw [BitVec.allOnes_xor]
theorem I_shr (x : BitVec 32) (n : Nat) : I x / 2 ^ n = I (x >>> n) := by
  unfold I
  rw [BitVec.toNat_ushiftRight, Nat.shiftRight_eq_div_pow, Int.natCast_ediv, Int.natCast_pow]
  rfl
theorem I_shl (x : BitVec 32) (n : Nat) : IntKind.u32.wrap (I x * 2 ^ n) = I (x <<< n) := by
  rw [wrap32]
  unfold I
  rw [BitVec.toNat_shiftLeft, Nat.shiftLeft_eq, Int.natCast_emod, Int.natCast_mul, Int.natCast_pow]
  rfl
theorem I_addm (x y : BitVec 32) : (I x + I y) % 4294967296 = I (x + y) := by rw [← wrap32, I_add]
theorem I_shlm (x : BitVec 32) (n : Nat) : I x * 2 ^ n % 4294967296 = I (x <<< n) := by rw [← wrap32, I_shl]
theorem modI (n : Int) : n % 4294967296 = I (BitVec.ofInt 32 n) := by rw [← wrap32, I_ofInt]
theorem I_notm (x : BitVec 32) : bits .xor .u32 IntKind.u32.max (I x) = I (~~~x) := I_not x
theorem next8 (x : BitVec 32) (p : Int) (p0 : 0 ≤ p) (p1 : p ≤ 255) : I x * 256 % 4294967296 + p = I (x * 256#32 + BitVec.ofInt 32 p) := by
  have h := x.isLt
  unfold I
  rw [BitVec.toNat_add, BitVec.toNat_mul, BitVec.toNat_ofInt, show (256#32).toNat = 256 from rfl]
  omega
theorem I_zero : (0 : Int) = I 0#32 := rfl

/-- Turned to the right. -/
def rotr (x : BitVec 32) (n : Nat) : BitVec 32 := x >>> n ||| x <<< (32 - n)
def sml (x : BitVec 32) (i j k : Nat) : BitVec 32 := rotr x i ^^^ rotr x j ^^^ x >>> k
def gre (x : BitVec 32) (i j k : Nat) : BitVec 32 := rotr x i ^^^ rotr x j ^^^ rotr x k

/-- The eight numbers. -/
structure St where
  a : BitVec 32
  b : BitVec 32
  c : BitVec 32
  d : BitVec 32
  e : BitVec 32
  f : BitVec 32
  g : BitVec 32
  h : BitVec 32
def rnd (s : St) (kw : BitVec 32) : St :=
  ⟨s.h + gre s.e 6 11 25 + (s.e &&& s.f ^^^ ~~~s.e &&& s.g) + kw + (gre s.a 2 13 22 + (s.a &&& s.b ^^^ s.a &&& s.c ^^^ s.b &&& s.c)), s.a, s.b, s.c,
   s.d + (s.h + gre s.e 6 11 25 + (s.e &&& s.f ^^^ ~~~s.e &&& s.g) + kw), s.e, s.f, s.g⟩
def St.add (s z : St) : St := ⟨z.a + s.a, z.b + s.b, z.c + s.c, z.d + s.d, z.e + s.e, z.f + s.f, z.g + s.g, z.h + s.h⟩
def St.list (s : St) : List (BitVec 32) := [s.a, s.b, s.c, s.d, s.e, s.f, s.g, s.h]

/-- A block's number t, of so many of its four bytes. -/
def wd (l : List Int) (t : Nat) : Nat → BitVec 32
  | 0 => 0#32
  | k + 1 => wd l t k * 256#32 + BitVec.ofInt 32 (l.getD (4 * t + k) 0)
def nxt (W : List (BitVec 32)) (t : Nat) : BitVec 32 :=
  sml (W.getD (t - 2) 0) 17 19 10 + W.getD (t - 7) 0 + sml (W.getD (t - 15) 0) 7 18 3 + W.getD (t - 16) 0
/-- The first n of the 64 numbers of a block. -/
def ws (l : List Int) : Nat → List (BitVec 32)
  | 0 => []
  | n + 1 => ws l n ++ [if n < 16 then wd l n 4 else nxt (ws l n) n]
theorem ws_len (l : List Int) : ∀ n, (ws l n).length = n
  | 0 => rfl
  | n + 1 => by simp [ws, ws_len l n]
def rs (s : St) (K W : List (BitVec 32)) : Nat → St
  | 0 => s
  | t + 1 => rnd (rs s K W t) (K.getD t 0 + W.getD t 0)
/-- The state behind a block. -/
def blk (K : List (BitVec 32)) (s : St) (l : List Int) : St := s.add (rs s K (ws l 64) 64)

/-- The round numbers. -/
def Kc : List (BitVec 32) := (pl 312).map fun p => BitVec.ofNat 32 (cu p)
def Hl : List (BitVec 32) := (pl 20).map fun p => BitVec.ofNat 32 (sq p)
theorem pl_312 : (pl 312).length = 64 := by decide +kernel
theorem pl_20 : (pl 20).length = 8 := by decide +kernel
theorem Kc_len : Kc.length = 64 := by unfold Kc; rw [List.length_map, pl_312]
theorem Hl_len : Hl.length = 8 := by unfold Hl; rw [List.length_map, pl_20]
def H0 : St := ⟨Hl.getD 0 0, Hl.getD 1 0, Hl.getD 2 0, Hl.getD 3 0, Hl.getD 4 0, Hl.getD 5 0, Hl.getD 6 0, Hl.getD 7 0⟩
theorem list8 {α : Type} (d : α) : ∀ (l : List α), l.length = 8 → l = [l.getD 0 d, l.getD 1 d, l.getD 2 d, l.getD 3 d, l.getD 4 d, l.getD 5 d, l.getD 6 d, l.getD 7 d]
  | [_, _, _, _, _, _, _, _], _ => rfl
theorem H0_list : H0.list = Hl := (list8 0 Hl Hl_len).symm

/-- The state behind the first n blocks of bytes. -/
def blks (l : List Int) : Nat → St
  | 0 => H0
  | n + 1 => blk Kc (blks l n) ((l.drop (64 * n)).take 64)

theorem drop_take_append (x y : List Int) (i : Nat) (h : i + 64 ≤ x.length) : ((x ++ y).drop i).take 64 = (x.drop i).take 64 := by
  rw [List.drop_append_of_le_length (by omega), List.take_append_of_le_length (by rw [List.length_drop]; omega)]
theorem blks_append (x y : List Int) : ∀ n, 64 * n ≤ x.length → blks (x ++ y) n = blks x n
  | 0, _ => rfl
  | n + 1, h => by
    rw [blks, blks, blks_append x y n (by omega), drop_take_append x y _ (by omega)]

end Go.Proofs.Ytlpiacofnciodaa.sh
