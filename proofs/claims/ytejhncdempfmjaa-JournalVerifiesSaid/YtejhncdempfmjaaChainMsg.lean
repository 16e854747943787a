/-
  Layer 47: the message of an entry behind a tag: the program's.
-/
import Derived.Test.YtejhncdempfmjaaMEntry
namespace Go.Proofs.Ytejhncdempfmjaa.ch
open Go.ChangeShapes Go.WideShapes Go.ChangeAt Go.RowKit
open bs en
set_option linter.unusedVariables false

/-- What is wrong with a message, as a number. -/
def msE (t : Nat) (k : Int) (n : Nat) : Int := if t = 32 then payE k n else 2
/-- A number's eight bytes, the highest first. -/
def be8 (N : Int) : List Int := [N / 72057594037927936 % 256, N / 281474976710656 % 256, N / 1099511627776 % 256, N / 4294967296 % 256, N / 16777216 % 256, N / 65536 % 256, N / 256 % 256, N % 256]
/-- A message's bytes. -/
def msB (ahead : List Int) (N k : Int) (l : List Int) : List Int := ahead ++ (be8 N ++ (k :: l))
def MPost (w : World) (ahead : List Int) (N k : Int) (l : List Int) (e : Ending) (w' : World) : Prop :=
  Below w.heap.size w w' ∧ ∃ (a : Option Addr) (m c : Nat) (r : List Int), e = .returned (.tuple #[.slice a m c, .int .i64 (msE ahead.length k l.length)]) ∧ OwnB w' w.heap.size 5 a m c r ∧ r = (if msE ahead.length k l.length = 0 then msB ahead N k l else [])

/-- The eight cells when so many of them are written. -/
def cl (N : Int) (k j : Nat) : Value := .int .u8 (if j < k then (be8 N).getD j 0 else 0)
def cls (N : Int) (k : Nat) : Array Value := #[cl N k 0, cl N k 1, cl N k 2, cl N k 3, cl N k 4, cl N k 5, cl N k 6, cl N k 7]

theorem cls_set (N : Int) (j : Nat) (v : Value) (hj : j < 8) (hv : v = .int .u8 ((be8 N).getD j 0)) : (cls N j).setIfInBounds j v = cls N (j + 1) := by
  subst hv
  rcases j with _ | _ | _ | _ | _ | _ | _ | _ | j
  rotate_left 8
  · omega
  all_goals simp [cls, cl]
theorem eight_new (W : World) (N : Int) : Bytes (W.alloc (.cells (cls N 8) 81)) (some ⟨W.heap.size, 0, none⟩) 8 8 (be8 N) := by
  refine ⟨rfl, by omega, by omega, ?_, by simp, .inr ⟨_, 0, rfl, fun i hi => ?_⟩⟩
  · intro z hz
    simp only [be8, List.mem_cons, List.not_mem_nil, or_false] at hz
    rcases hz with rfl | rfl | rfl | rfl | rfl | rfl | rfl | rfl <;> omega
  · have h8 : i < 8 := hi
    rcases i with _ | _ | _ | _ | _ | _ | _ | _ | i
    rotate_left 8
    · omega
    all_goals simp [cls, cl]

set_option maxRecDepth 100000 in
set_option maxHeartbeats 2000000 in
theorem message_any (a' : Option Addr) (n' c' : Nat) (ah : List Int) (N : Int) (k : Int) (a : Option Addr) (n c : Nat) (l : List Int) (w : World) (h' : Bytes w a' n' c' ah) (h : Bytes w a n c l) (k0 : -9223372036854775808 ≤ k) (k1 : k ≤ 9223372036854775807) (N0 : 0 ≤ N) (N1 : N ≤ 18446744073709551615) :
    Calls Try.prog 19 #[.slice a' n' c', .int .u64 N, .agg #[.int .i64 k, .slice a n c]] w (MPost w ah N k l) := by
  have hcap := h.cap; have hmost := h.most
  have hcap' := h'.cap; have hmost' := h'.most
  have hl := h.len; have hl' := h'.len
  subst hl hl'
  have HH := Lib.hid h; have HH' := Lib.hid h'
  clear h h'
  by_cases ht : ah.length = 32
  · by_cases hz : payE k l.length = 0
    · have hE : msE ah.length k l.length = 0 := by unfold msE; rw [if_pos ht, hz]
      have dt : ((ah.length : Int) != 32) = false := by simp [ht]
      have hc1 : l.length ≤ 1024 := by
        rcases payE_cases k l.length with ⟨_, h, _⟩ | h | h
        · exact h
        · omega
        · omega
      have HE := Lib.hid hE; have HZ := Lib.hid hz; have HT := Lib.hid ht
      clear hE hz ht
      go_enter Try.func19, Try.ntmps19
      go_wp2_with fail
      refine (payload_any k a _ c l _ (HH.out.below ((Below.refl _ _).alloc (Nat.le_refl _) _)) k0 k1).mono ?_
      rintro e w1 ⟨hb1, a1, m1, c1, r1, rfl, ho1, hr1⟩
      rw [if_pos HZ.out] at hr1
      have hm1 : m1 = l.length + 1 := by rw [← ho1.len, hr1]; rfl
      subst hr1 hm1
      rw [HZ.out]
      have HO1 := Lib.hid ho1; have HB1 := Lib.hid (((Below.refl w.heap.size w).alloc (Nat.le_refl _) _).trans (hb1.mono (by simp)))
      have hs1 := hb1.size
      rw [World.size_alloc] at hs1
      clear ho1 hb1
      go_wp2
      go_loopw [23] (fun i wr => ∃ j : Nat, j ≤ 8 ∧ i = .int .i64 j ∧ wr = w1.alloc (.cells (cls N j) 81)) (fun i _ => 8 - (intOf i).toNat)
      case atStart => exact ⟨0, by omega, rfl, rfl⟩
      case round =>
        obtain ⟨j, hj, rfl, rfl⟩ := hrel
        rcases j with _ | _ | _ | _ | _ | _ | _ | _ | _ | j
        rotate_left 8
        · go_wp2_with fail
          have hB3 : Below w1.heap.size w1 ((w1.alloc (.cells (cls N 8) 81)).alloc (.cells #[.slice a' ah.length c', .slice (some ⟨w1.heap.size, 0, none⟩) 8 8, .slice a1 (l.length + 1) c1] 22)) :=
            ((Below.refl _ _).alloc (Nat.le_refl _) _).alloc (by simp) _
          refine (concat_any (three ⟨a', ah.length, c', ah⟩ ⟨some ⟨w1.heap.size, 0, none⟩, 8, 8, be8 N⟩ ⟨a1, l.length + 1, c1, k :: l⟩) _ 3 _ _ (three_cells w1 _ _ _ _)
            (three_bytes _ _ _ _ ((HH'.out.below HB1.out).below hB3) ((eight_new w1 N).below ((Below.refl _ _).alloc (Nat.le_refl _) _)) (HO1.out.bytes.below hB3)) (by simp only [tot, three]; omega) (by omega) (by omega) (by omega) (by have := HT.out; simp only [tot, three]; omega)).mono ?_
          rintro e w3 ⟨a3, c3, rfl, ho3, hb3⟩
          have HO3 := Lib.hid (ho3.mono (Nat.le_trans HB1.out.size hB3.size)); have HB3 := Lib.hid ((HB1.out.trans (hB3.mono HB1.out.size)).trans (hb3.mono (Nat.le_trans HB1.out.size hB3.size)))
          clear ho3 hb3 hB3
          go_wp2
          go_ret2
          exact ⟨HB3.out, a3, _, c3, _, by rw [HE.out]; rfl, HO3.out, by rw [HE.out, if_pos rfl]; simp [cat, three, msB]⟩
        · omega
        all_goals
          go_wp2
          go_roundw
          case rel =>
            refine ⟨_, ?_, rfl, ?_⟩
            rotate_left
            · refine congrArg (fun z => World.alloc w1 (.cells z 81)) (cls_set N _ _ (by omega) (congrArg (Value.int .u8) ?_))
              simp [be8] <;> omega
            · exact Nat.le_of_ble_eq_true rfl
          case measure => simp [intOf]
    · have hE : msE ah.length k l.length = payE k l.length := by unfold msE; rw [if_pos ht]
      have d : (payE k l.length != 0) = true := by rw [bne_iff_ne]; exact hz
      have dt : ((ah.length : Int) != 32) = false := by simp [ht]
      have HE := Lib.hid hE; have HZ := Lib.hid hz
      clear hE hz ht
      go_enter Try.func19, Try.ntmps19
      go_wp2_with fail
      refine (payload_any k a _ c l _ (HH.out.below ((Below.refl _ _).alloc (Nat.le_refl _) _)) k0 k1).mono ?_
      rintro e w1 ⟨hb1, a1, m1, c1, r1, rfl, ho1, hr1⟩
      have HB1 := Lib.hid (((Below.refl w.heap.size w).alloc (Nat.le_refl _) _).trans (hb1.mono (by simp)))
      clear ho1 hb1 hr1
      go_wp2
      go_ret2
      exact ⟨HB1.out, none, 0, 0, [], by rw [HE.out]; rfl, OwnB.nil _ _ _, by rw [HE.out, if_neg HZ.out]⟩
  · have hE : msE ah.length k l.length = 2 := by unfold msE; rw [if_neg ht]
    have d : ((ah.length : Int) != 32) = true := by rw [bne_iff_ne]; omega
    have HE := Lib.hid hE
    clear hE ht
    go_enter Try.func19, Try.ntmps19
    go_wp2
    go_ret2
    exact ⟨(Below.refl _ _).alloc (Nat.le_refl _) _, none, 0, 0, [], by rw [HE.out]; rfl, OwnB.nil _ _ _, by rw [HE.out]; rfl⟩

end Go.Proofs.Ytejhncdempfmjaa.ch
