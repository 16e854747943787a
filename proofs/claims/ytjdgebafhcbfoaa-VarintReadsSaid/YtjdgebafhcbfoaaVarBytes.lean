/-
  Contracts of layer 1's 'Bytes', the program's and the document's own.
-/
import Derived.Test.YtjdgebafhcbfoaaVarPlain
import Derived.Test.YtjdgebafhcbfoaaOwn
namespace Go.Proofs.Ytjdgebafhcbfoaa.vs
open Go.ChangeShapes Go.WideShapes Go.ChangeAt Go.RowKit
open bs
set_option linter.unusedVariables false

theorem byteT : ByteT Try.prog 22 5 := ⟨Try.underlying22, by kernel_rfl⟩

/-- The bytes so far, and what is left of the number. -/
def BRel (w : World) (v : Int) (x out : Value) (wr : World) : Prop :=
  ∃ (k : Nat) (V : Int) (a : Option Addr) (n c : Nat) (l : List Int), x = .int .u64 V ∧ out = .slice a n c ∧ OwnB wr w.heap.size 5 a n c l ∧ Below w.heap.size w wr ∧
    0 ≤ V ∧ V < 2 * 128 ^ k ∧ n + k = 9 ∧ l ++ encF k V = enc v

/-- How both end. -/
def BPost (w : World) (v : Int) (e : Ending) (w' : World) : Prop :=
  ∃ (a : Option Addr) (n c : Nat), e = .returned (.slice a n c) ∧ OwnB w' w.heap.size 5 a n c (enc v) ∧ Below w.heap.size w w'

theorem u8_in (n : Int) (h0 : 0 ≤ n) (h1 : n ≤ 255) : IntKind.u8.wrap n = n := by
  simp only [IntKind.wrap, IntKind.signed, IntKind.bits, Bool.false_and]
  rw [if_neg (by simp)]
  omega

theorem small_of (k : Nat) (V : Int) (h : V < 2 * 128 ^ k) (hk : k ≤ 9) : V ≤ 18446744073709551615 := by
  have : ∀ j, j ≤ 9 → (128 : Int) ^ j ≤ 9223372036854775808 := by
    intro j hj
    have : j = 0 ∨ j = 1 ∨ j = 2 ∨ j = 3 ∨ j = 4 ∨ j = 5 ∨ j = 6 ∨ j = 7 ∨ j = 8 ∨ j = 9 := by omega
    rcases this with rfl | rfl | rfl | rfl | rfl | rfl | rfl | rfl | rfl | rfl <;> decide
  have := this k hk
  omega
theorem big_of (k : Nat) (V : Int) (h : V < 2 * 128 ^ k) (hV : 128 ≤ V) : ∃ j, k = j + 1 ∧ V / 128 < 2 * 128 ^ j := by
  cases k with
  | zero => simp at h; omega
  | succ j => exact ⟨j, rfl, by rw [Int.pow_succ] at h; omega⟩
theorem encF_big (j : Nat) (V : Int) (hV : 128 ≤ V) : encF (j + 1) V = (V % 128 + 128) :: encF j (V / 128) := by rw [encF_succ, if_neg (by omega)]
theorem encF_small (k : Nat) (V : Int) (hV : V < 128) : encF k V = [V] := by
  cases k with
  | zero => rfl
  | succ j => rw [encF_succ, if_pos hV]

set_option maxHeartbeats 400000 in
theorem bytes_any (v : Int) (w : World) (h0 : 0 ≤ v) (h1 : v ≤ 18446744073709551615) :
    Calls Try.prog 9 #[.int .u64 v] w (BPost w v) := by
  go_enter Try.func9, Try.ntmps9
  go_wp2
  go_loopw [0, 3] (fun x out wr => BRel w v x out wr) (fun x _ _ => (intOf x).toNat)
  case atStart => exact ⟨9, v, none, 0, 0, [], rfl, rfl, OwnB.nil _ _ _, Below.refl _ _, h0, by omega, rfl, rfl⟩
  case round =>
    obtain ⟨k, V, a, n, c, l, rfl, rfl, ho, hb, V0, V1, hk, he⟩ := hrel
    have hV := small_of k V V1 (by omega)
    have hn9 : n ≤ 9 := by omega
    have HO := Lib.hid ho; have HB := Lib.hid hb; have HE := Lib.hid he; have H1 := Lib.hid V1; have HK := Lib.hid hk
    have hs := hb.size
    clear ho hb he V1 hk
    by_cases hbig : 128 ≤ V
    · go_wp2_with (at_builtin; refine wpList_append_b byteT rfl _ _ rfl w.heap.size rfl (HO.out.alloc _) rfl (Bytes.one _ _ _ ?_) ?_ ?_ ?_)
      · omega
      · omega
      · (try simp); omega
      intro a2 c2 w' ho2 hb2 _
      have hb3 : Below w.heap.size w w' := (HB.out.alloc hs _).trans hb2
      have HO2 := Lib.hid ho2; have HB3 := Lib.hid hb3; clear ho2 hb2 hb3
      go_wp2
      go_roundw
      case rel =>
        obtain ⟨j, rfl, hj⟩ := big_of k V H1.out hbig
        have e1 := HK.out
        refine ⟨j, V / 128, a2, n + 1, c2, l ++ [V % 128 + 128], rfl, rfl, (by first | exact HO2.out | (rw [Int.add_comm]; exact HO2.out)), HB3.out, by omega, hj, by omega, ?_⟩
        rw [List.append_assoc, List.singleton_append, ← encF_big j V hbig]
        exact HE.out
      case measure => simp [intOf]; omega
    · have hsm : V < 128 := by omega
      go_wp2_with (at_builtin; refine wpList_append_b byteT rfl _ _ rfl w.heap.size rfl (HO.out.alloc _) rfl (Bytes.one _ _ _ ?_) ?_ ?_ ?_)
      · omega
      · omega
      · (try simp); omega
      intro a2 c2 w' ho2 hb2 _
      have hb3 : Below w.heap.size w w' := (HB.out.alloc hs _).trans hb2
      have HO2 := Lib.hid ho2; have HB3 := Lib.hid hb3; clear ho2 hb2 hb3
      go_wp2
      go_ret
      refine ⟨a2, n + 1, c2, rfl, ?_, HB3.out⟩
      rw [← HE.out, encF_small k V hsm]
      exact HO2.out

set_option maxHeartbeats 400000 in
theorem rbytes_any (v : Int) (w : World) (h0 : 0 ≤ v) (h1 : v ≤ 18446744073709551615) :
    Calls Try.prog 11 #[.int .u64 v] w (BPost w v) := by
  go_enter Try.func11, Try.ntmps11
  go_wp2
  go_loopw [0, 3] (fun x out wr => BRel w v x out wr) (fun x _ _ => (intOf x).toNat)
  case atStart => exact ⟨9, v, _, 0, 0, [], rfl, rfl, OwnB.made _ _ _ [] _ rfl (Nat.le_refl _) (by simp [maxLen]) (by simp [AllB]), (Below.refl _ _).alloc (Nat.le_refl _) _, h0, by omega, rfl, rfl⟩
  case round =>
    obtain ⟨k, V, a, n, c, l, rfl, rfl, ho, hb, V0, V1, hk, he⟩ := hrel
    have hV := small_of k V V1 (by omega)
    have hn9 : n ≤ 9 := by omega
    have HO := Lib.hid ho; have HB := Lib.hid hb; have HE := Lib.hid he; have H1 := Lib.hid V1; have HK := Lib.hid hk
    have hs := hb.size
    clear ho hb he V1 hk
    by_cases hbig : 128 ≤ V
    · go_wp2_with (at_builtin; refine wpList_append_b byteT rfl _ _ rfl w.heap.size rfl (HO.out.alloc _) rfl (Bytes.one _ _ _ ?_) ?_ ?_ ?_)
      · omega
      · omega
      · (try simp); omega
      intro a2 c2 w' ho2 hb2 _
      have hb3 : Below w.heap.size w w' := (HB.out.alloc hs _).trans hb2
      have HO2 := Lib.hid ho2; have HB3 := Lib.hid hb3; clear ho2 hb2 hb3
      go_wp2
      go_roundw
      case rel =>
        obtain ⟨j, rfl, hj⟩ := big_of k V H1.out hbig
        have e1 := HK.out
        refine ⟨j, V / 128, a2, n + 1, c2, l ++ [V % 128 + 128], rfl, rfl, (by first | exact HO2.out | (rw [Int.add_comm]; exact HO2.out)), HB3.out, by omega, hj, by omega, ?_⟩
        rw [List.append_assoc, List.singleton_append, ← encF_big j V hbig]
        exact HE.out
      case measure => simp [intOf]; omega
    · have hsm : V < 128 := by omega
      go_wp2_with (at_builtin; refine wpList_append_b byteT rfl _ _ rfl w.heap.size rfl (HO.out.alloc _) rfl (Bytes.one _ _ _ ?_) ?_ ?_ ?_)
      · omega
      · omega
      · (try simp); omega
      intro a2 c2 w' ho2 hb2 _
      have hb3 : Below w.heap.size w w' := (HB.out.alloc hs _).trans hb2
      have HO2 := Lib.hid ho2; have HB3 := Lib.hid hb3; clear ho2 hb2 hb3
      go_wp2
      go_ret
      refine ⟨a2, n + 1, c2, rfl, ?_, HB3.out⟩
      rw [← HE.out, encF_small k V hsm]
      exact HO2.out

end Go.Proofs.Ytjdgebafhcbfoaa.vs
