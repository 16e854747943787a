/-
  Layer 3's tails: contracts of the program's and the document's own.
-/
import Derived.Test.YtejhncdempfmjaaOwn
import Derived.Test.YtejhncdempfmjaaSame
namespace Go.Proofs.Ytejhncdempfmjaa.ss
open Go.ChangeShapes Go.WideShapes Go.ChangeAt Go.RowKit
open bs
set_option linter.unusedVariables false

theorem byteT : ByteT Try.prog 22 5 := ⟨Try.underlying22, by kernel_rfl⟩

/-- A number's last bytes, the highest first. -/
def be (v : Int) : Nat → List Int
  | 0 => []
  | k + 1 => (v / 256 ^ k % 256) :: be v k
theorem be_bytes (v : Int) : ∀ k, AllB (be v k)
  | 0 => by simp [be, AllB]
  | k + 1 => by
    intro x hx
    rcases List.mem_cons.1 hx with rfl | h
    · omega
    · exact be_bytes v k x h
theorem be_len (v : Int) : ∀ k, (be v k).length = k
  | 0 => rfl
  | k + 1 => by simp [be, be_len v k]
theorem two_pow8 (k : Nat) : (2 : Int) ^ (8 * k) = 256 ^ k := by rw [Int.pow_mul]; rfl
theorem u8_wrap (x : Int) : IntKind.u8.wrap x = x % 256 := by
  simp only [IntKind.wrap, IntKind.signed, IntKind.bits, Bool.false_and]
  exact if_neg (by simp)
theorem u64_wrap (x : Int) : IntKind.u64.wrap x = x % 18446744073709551616 := by
  simp only [IntKind.wrap, IntKind.signed, IntKind.bits, Bool.false_and]
  exact if_neg (by simp)

def APost (w : World) (base n : Nat) (l : List Int) (e : Ending) (w' : World) : Prop :=
  ∃ (a : Option Addr) (c : Nat), e = .returned (.slice a n c) ∧ OwnB w' base 5 a n c l ∧ Below base w w'
def ARel (w : World) (base n : Nat) (v : Int) (l : List Int) (size : Nat) (out i : Value) (wr : World) : Prop :=
  ∃ (k m c : Nat) (a : Option Addr) (r : List Int), out = .slice a m c ∧ i = .int .i64 ((k : Int) - 1) ∧ k ≤ size ∧ m + k = n + size ∧ OwnB wr base 5 a m c r ∧ Below base w wr ∧ r ++ be v k = l ++ be v size

set_option maxHeartbeats 1000000 in
theorem append_any (base : Nat) (a : Option Addr) (n c : Nat) (l : List Int) (v : Int) (size : Nat) (w : World) (h : OwnB w base 5 a n c l) (hb : base ≤ w.heap.size) (hn : n ≤ 1000000) (v0 : 0 ≤ v) (v1 : v ≤ 18446744073709551615) (hs : size ≤ 8) :
    Calls Try.prog 89 #[.slice a n c, .int .u64 v, .int .i64 size] w (APost w base (n + size) (l ++ be v size)) := by
  have HO := Lib.hid h; clear h
  go_enter Try.func89, Try.ntmps89
  go_wp2
  go_loopw [0, 7] (fun out i wr => ARel w base n v l size out i wr) (fun _ i _ => (intOf i + 1).toNat)
  case atStart => exact ⟨size, n, c, a, l, rfl, rfl, by omega, rfl, HO.out, Below.refl _ _, rfl⟩
  case round =>
    obtain ⟨k, m, c1, a1, r, rfl, rfl, hk, hm, ho, hbl, hr⟩ := hrel
    have HM := Lib.hid hm
    have hm2 : m ≤ 1000008 := by omega
    have H1 := Lib.hid ho; have HB := Lib.hid hbl; have HR := Lib.hid hr
    have hs2 := hbl.size
    clear hm ho hbl hr
    cases k with
    | zero =>
      have hfin : r = l ++ be v size := by have := HR.out; simpa [be] using this
      have hmf : m = n + size := by have := HM.out; omega
      have HF := Lib.hid hfin; have HMF := Lib.hid hmf
      clear hfin hmf
      go_wp2
      go_ret
      exact ⟨a1, c1, by rw [← HMF.out]; rfl, by rw [← HMF.out, ← HF.out]; exact H1.out, HB.out⟩
    | succ j =>
      have ix : ((j + 1 : Nat) : Int) - 1 = j := by omega
      rw [ix]
      clear ix
      have s0 : (0 : Int) ≤ 8 * j := by omega
      have s1 : (8 * j : Int) ≤ 63 := by omega
      go_wp2_with (at_builtin; refine wpList_append_b byteT rfl _ _ rfl base rfl (H1.out.alloc _) rfl (Bytes.one _ _ _ ?_) ?_ ?_ ?_)
      · omega
      · omega
      · (try simp); omega
      intro a2 c2 w2 ho2 hb2 _
      have HO2 := Lib.hid ho2; have HB2 := Lib.hid ((HB.out.alloc (by omega) _).trans hb2); clear ho2 hb2
      go_wp2
      go_roundw
      case rel =>
        refine ⟨j, m + 1, c2, a2, _, rfl, rfl, by omega, by have := HM.out; omega, HO2.out, HB2.out, ?_⟩
        rw [two_pow8, List.append_assoc, List.singleton_append]
        exact HR.out
      case measure => simp [intOf]

/-- How many bytes 0 a tail has. -/
def zer (n : Int) : Nat := ((119 - n % 64) % 64).toNat
theorem zer_cast (n : Int) : (119 - n % 64) % 64 = (zer n : Int) := by unfold zer; omega
theorem zer_le (n : Int) : zer n ≤ 63 := by unfold zer; omega
/-- The tail. -/
def tail (n : Int) : List Int := 128 :: List.replicate (zer n) 0 ++ be (8 * n % 18446744073709551616) 8

theorem set_head (z : Nat) : (List.replicate (1 + z) (0 : Int)).set 0 128 = 128 :: List.replicate z 0 := by
  rw [Nat.add_comm, List.replicate_succ]; rfl

set_option maxHeartbeats 1000000 in
theorem tail_any (n : Int) (w : World) (h0 : 0 ≤ n) (h1 : n ≤ 9223372036854775807) :
    Calls Try.prog 88 #[.int .i64 n] w (APost w w.heap.size (9 + zer n) (tail n)) := by
  have hz := zer_cast n
  have hle := zer_le n
  have hd : (128 :: List.replicate (zer n) (0 : Int)) ++ be (IntKind.u64.wrap (8 * n)) 8 = tail n := by rw [u64_wrap]; rfl
  have HD := Lib.hid hd; clear hd
  generalize zer n = z at hz hle HD ⊢
  go_enter Try.func88, Try.ntmps88
  go_wp2_with (at_make; refine wpList_mk_b byteT rfl _ _ rfl w.heap.size .i64 .i64 (1 + z) (9 + z) (1 + z) (9 + z) rfl rfl (by omega) (by omega) ?_ ?_ ?_ ?_)
  · omega
  · omega
  · exact Nat.le_refl _
  intro w1 ho hb hsz
  have c0 := ho.cellAt 0 (by omega)
  have f0 := ho.frozenAt 0
  have ho2 := ho.stored 0 128 (by omega)
  rw [set_head] at ho2
  have hb2 := hb.setCell (p := ⟨w.heap.size, 0, none⟩) (Nat.le_refl _) (.int .u8 128)
  have HO := Lib.hid ho2; have HB := Lib.hid hb2; clear ho hb ho2 hb2
  have HZ := Lib.hid hz; clear hz
  have wb := u64_wrap (8 * n)
  have wb0 : 0 ≤ IntKind.u64.wrap (8 * n) ∧ IntKind.u64.wrap (8 * n) ≤ 18446744073709551615 := by rw [wb]; omega
  obtain ⟨wb1, wb2⟩ := wb0
  clear wb
  go_wp2_with fail
  refine (append_any w.heap.size _ _ _ _ (IntKind.u64.wrap (8 * n)) 8 _ HO.out HB.out.size (by omega) wb1 wb2 (by omega)).mono ?_
  rintro e w3 ⟨a3, c3, rfl, ho3, hb3⟩
  rw [HD.out] at ho3
  have H3 := Lib.hid ho3; have B3 := Lib.hid (HB.out.trans hb3); clear ho3 hb3
  go_wp2
  go_ret
  exact ⟨a3, c3, by rw [show 9 + z = 1 + z + 8 by omega]; rfl, by rw [show 9 + z = 1 + z + 8 by omega]; exact H3.out, B3.out⟩

set_option maxHeartbeats 1000000 in
theorem tail_neg (n : Int) (w : World) (h0 : n < 0) :
    Calls Try.prog 88 #[.int .i64 n] w fun e w' => e = .returned (.slice none 0 0) ∧ w = w' := by
  go_enter Try.func88, Try.ntmps88
  go_wp2
  go_ret
  exact ⟨rfl, rfl⟩

def unitv : Nat → Int
  | 0 => 0
  | k + 1 => 256 ^ k
theorem unitv_next (k : Nat) : unitv (k + 1) / 256 = unitv k := by
  cases k with
  | zero => rfl
  | succ j => simp only [unitv, Int.pow_succ]; omega
theorem unitv_bd (k : Nat) (hk : k ≤ 8) : 0 ≤ unitv k ∧ unitv k ≤ 72057594037927936 := by
  have : k = 0 ∨ k = 1 ∨ k = 2 ∨ k = 3 ∨ k = 4 ∨ k = 5 ∨ k = 6 ∨ k = 7 ∨ k = 8 := by omega
  rcases this with rfl | rfl | rfl | rfl | rfl | rfl | rfl | rfl | rfl <;> decide
theorem unitv_pos (k : Nat) : 0 < unitv (k + 1) := Int.pow_pos (by omega)

def TRel (w : World) (m : Int) (j : Nat) (out have' : Value) (wr : World) : Prop :=
  ∃ (a : Option Addr) (c : Nat), out = .slice a (1 + j) c ∧ have' = .int .i64 (m + 1 + j) ∧ OwnB wr w.heap.size 5 a (1 + j) c (128 :: List.replicate j 0) ∧ Below w.heap.size w wr
def URel (w : World) (V : Int) (total : List Int) (n : Nat) (out unit : Value) (wr : World) : Prop :=
  ∃ (k m c : Nat) (a : Option Addr) (r : List Int), out = .slice a m c ∧ unit = .int .u64 (unitv k) ∧ k ≤ 8 ∧ m + k = n ∧ OwnB wr w.heap.size 5 a m c r ∧ Below w.heap.size w wr ∧ r ++ be V k = total

set_option maxHeartbeats 1000000 in
theorem rtail_any (n : Int) (w : World) (h0 : 0 ≤ n) (h1 : n ≤ 9223372036854775807) :
    Calls Try.prog 98 #[.int .i64 n] w (APost w w.heap.size (9 + zer n) (tail n)) := by
  have hz := zer_cast n
  have hle := zer_le n
  have hd : (128 :: List.replicate (zer n) (0 : Int)) ++ be (IntKind.u64.wrap (n * 8)) 8 = tail n := by rw [u64_wrap, Int.mul_comm]; rfl
  have HD := Lib.hid hd; clear hd
  have hm0 : 0 ≤ n % 64 := by omega
  have hm63 : n % 64 ≤ 63 := by omega
  have HZ := Lib.hid hz; clear hz
  have wb0 : 0 ≤ IntKind.u64.wrap (n * 8) ∧ IntKind.u64.wrap (n * 8) ≤ 18446744073709551615 := by rw [u64_wrap]; omega
  obtain ⟨V, hV⟩ : ∃ V, IntKind.u64.wrap (n * 8) = V := ⟨_, rfl⟩
  rw [hV] at HD wb0
  obtain ⟨wb1, wb2⟩ := wb0
  have HV := Lib.hid hV; clear hV
  generalize zer n = z at HZ hle HD ⊢
  generalize tail n = total at HD ⊢
  go_enter Try.func98, Try.ntmps98
  go_wp2
  go_loopw [3, 4] (fun out have' wr => ∃ j : Nat, j ≤ z ∧ TRel w (n % 64) j out have' wr) (fun _ have' _ => (200 - intOf have').toNat)
  case atStart => exact ⟨0, by omega, _, 1, rfl, by simp, OwnB.made _ _ _ [128] _ rfl (Nat.le_refl _) (by simp [maxLen]) (by simp [AllB]), (Below.refl _ _).alloc (Nat.le_refl _) _⟩
  case round =>
    obtain ⟨j, hj, a, c, rfl, rfl, ho, hb⟩ := hrel
    have HO := Lib.hid ho; have HB := Lib.hid hb
    have hs := hb.size
    clear ho hb
    by_cases hjz : j < z
    · have ht : ((n % 64 + 1 + j + 8) % 64 != 0) = true := by rw [bne_iff_ne]; have := HZ.out; omega
      have HT := Lib.hid ht
      go_wp2_with (at_builtin; refine wpList_append_b byteT rfl _ _ rfl w.heap.size rfl (HO.out.alloc _) rfl (Bytes.one _ _ _ ?_) ?_ ?_ ?_)
      · omega
      · omega
      · (try simp); omega
      intro a2 c2 w2 ho2 hb2 _
      have HO2 := Lib.hid ho2; have HB2 := Lib.hid ((HB.out.alloc hs _).trans hb2); clear ho2 hb2
      go_wp2
      go_roundw
      case rel =>
        refine ⟨j + 1, by omega, a2, c2, rfl, by go_num, ?_, HB2.out⟩
        have := HO2.out
        rwa [← List.replicate_succ'] at this
      case measure => simp [intOf]; omega
    · obtain rfl : j = z := by omega
      have ht : ((n % 64 + 1 + j + 8) % 64 != 0) = false := by rw [bne_eq_false_iff_eq]; have := HZ.out; omega
      have hV := HV.out
      go_wp2
      clear hV
      go_loopw [3, 6] (fun out unit wr => URel w V total (9 + j) out unit wr) (fun _ unit _ => (intOf unit).toNat)
      case atStart => exact ⟨8, 1 + j, c, a, _, rfl, rfl, by omega, by omega, HO.out, HB.out, HD.out⟩
      case round =>
        obtain ⟨k, l, c3, a3, r, rfl, rfl, hk, hl, ho3, hb3, hr⟩ := hrel
        have H3 := Lib.hid ho3; have B3 := Lib.hid hb3; have HR := Lib.hid hr; have HL := Lib.hid hl
        have hs3 := hb3.size
        have hl2 : l ≤ 9 + j := by omega
        clear ho3 hb3 hr hl
        cases k with
        | zero =>
          have e1 : r = total := by have := HR.out; simpa [be] using this
          have e2 : l = 9 + j := by have := HL.out; omega
          have E1 := Lib.hid e1; have E2 := Lib.hid e2; clear e1 e2
          go_wp2
          go_ret
          exact ⟨a3, c3, by rw [← E2.out]; rfl, by rw [← E2.out, ← E1.out]; exact H3.out, B3.out⟩
        | succ k =>
          obtain ⟨u0, u1⟩ := unitv_bd (k + 1) hk
          have up := unitv_pos k
          have un := Lib.hid (unitv_next k)
          have ue : unitv (k + 1) = 256 ^ k := rfl
          have UE := Lib.hid ue; clear ue
          generalize unitv (k + 1) = U at u0 u1 up un UE ⊢
          have hdv : 0 ≤ V / U := Int.ediv_nonneg wb1 u0
          go_wp2_with (at_builtin; refine wpList_append_b byteT rfl _ _ rfl w.heap.size rfl (H3.out.alloc _) rfl (Bytes.one _ _ _ ?_) ?_ ?_ ?_)
          · omega
          · omega
          · (try simp); omega
          intro a2 c2 w2 ho2 hb2 _
          have HO2 := Lib.hid ho2; have HB2 := Lib.hid ((B3.out.alloc hs3 _).trans hb2); clear ho2 hb2
          go_wp2
          go_roundw
          case rel =>
            refine ⟨k, l + 1, c2, a2, _, rfl, by rw [un.out], by omega, by have := HL.out; omega, HO2.out, HB2.out, ?_⟩
            rw [UE.out, List.append_assoc, List.singleton_append]
            exact HR.out
          case measure => simp [intOf]; omega

end Go.Proofs.Ytejhncdempfmjaa.ss
