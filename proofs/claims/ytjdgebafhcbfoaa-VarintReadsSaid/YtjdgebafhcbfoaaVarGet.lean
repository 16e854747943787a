/-
  Contracts of layer 1's 'Get', the program's and the document's own.
-/
import Derived.Test.YtjdgebafhcbfoaaVarPlain
namespace Go.Proofs.Ytjdgebafhcbfoaa.vs
open Go.ChangeShapes Go.WideShapes Go.ChangeAt Go.RowKit
open bs
set_option linter.unusedVariables false

/-- What 'Get' answers. -/
def getAt (l : List Int) (at' : Int) : Int × Int × Int :=
  if at' < 0 ∨ (l.length : Int) < at' then (0, 0, 13)
  else ((grp 0 0 (l.drop at'.toNat)).1, (if (grp 0 0 (l.drop at'.toNat)).2.2 = 0 then at' + (grp 0 0 (l.drop at'.toNat)).2.1 else 0), (grp 0 0 (l.drop at'.toNat)).2.2)

theorem ret_three {N T E N' T' E' : Int} (h : (N, T, E) = (N', T', E')) : Ending.returned (.tuple #[.int .u64 N, .int .i64 T, .int .i64 E]) = .returned (.tuple #[.int .u64 N', .int .i64 T', .int .i64 E']) := by
  simp only [Prod.mk.injEq] at h
  obtain ⟨rfl, rfl, rfl⟩ := h
  rfl

theorem getAt_of (l : List Int) (q : Nat) (hq : q ≤ l.length) {N : Int} {t : Nat} {E : Int} (h : grp 0 0 (l.drop q) = (N, t, E)) : getAt l q = (N, (if E = 0 then (q : Int) + t else 0), E) := by
  unfold getAt
  rw [if_neg (by omega), show ((q : Int).toNat) = q from rfl, h]

theorem drop_cons (l : List Int) (k : Nat) (h : k < l.length) : l.drop k = l.getD k 0 :: l.drop (k + 1) := by
  rw [List.drop_eq_getElem_cons h, List.getD_eq_getElem?_getD, List.getElem?_eq_getElem h]; rfl

/-- At the head of a round: what is read so far, and what is still to come makes the same answer. -/
def GRel (l : List Int) (q : Nat) (v i : Value) : Prop := ∃ (k : Nat) (V : Int), k ≤ 9 ∧ v = .int .u64 V ∧ i = .int .i64 k ∧ 0 ≤ V ∧ V < 128 ^ k ∧ grp k V (l.drop (q + k)) = grp 0 0 (l.drop q)

theorem pow_le (k : Nat) (hk : k ≤ 9) : (128 : Int) ^ k ≤ 9223372036854775808 := by
  have : k = 0 ∨ k = 1 ∨ k = 2 ∨ k = 3 ∨ k = 4 ∨ k = 5 ∨ k = 6 ∨ k = 7 ∨ k = 8 ∨ k = 9 := by omega
  rcases this with rfl | rfl | rfl | rfl | rfl | rfl | rfl | rfl | rfl | rfl <;> decide

theorem u64_wrap (x : Int) : IntKind.u64.wrap x = x % 18446744073709551616 := by
  simp only [IntKind.wrap, IntKind.signed, IntKind.bits, Bool.false_and]
  exact if_neg (by simp)

theorem group_le (k : Nat) (V m : Int) (hk : k ≤ 9) (V0 : 0 ≤ V) (V1 : V < 128 ^ k) (m0 : 0 ≤ m) (m1 : m ≤ 127) (h9 : 9 ≤ k → m ≤ 1) :
    0 ≤ m * 128 ^ k ∧ V + m * 128 ^ k < 128 ^ (k + 1) ∧ m * 128 ^ k ≤ 9223372036854775808 ∧ V + m * 128 ^ k < 18446744073709551616 := by
  have hp := pow_pos' k
  have hle := pow_le k hk
  have a0 : 0 ≤ m * 128 ^ k := Int.mul_nonneg m0 (Int.le_of_lt hp)
  have a1 : m * 128 ^ k ≤ 127 * 128 ^ k := Int.mul_le_mul_of_nonneg_right m1 (Int.le_of_lt hp)
  have a2 : m * 128 ^ k ≤ 9223372036854775808 := by
    by_cases h : 9 ≤ k
    · have := Int.mul_le_mul_of_nonneg_right (h9 h) (Int.le_of_lt hp)
      omega
    · have hq : (128 : Int) ^ (k + 1) ≤ 9223372036854775808 := pow_le (k + 1) (by omega)
      rw [Int.pow_succ] at hq
      omega
  refine ⟨a0, ?_, a2, by omega⟩
  rw [Int.pow_succ]
  omega

theorem two_pow (k : Nat) : (2 : Int) ^ (7 * k) = 128 ^ k := by rw [Int.pow_mul]; rfl

theorem group_val (k : Nat) (V m : Int) (hk : k ≤ 9) (V0 : 0 ≤ V) (V1 : V < 128 ^ k) (m0 : 0 ≤ m) (m1 : m ≤ 127) (h9 : 9 ≤ k → m ≤ 1) :
    IntKind.u64.wrap (V + IntKind.u64.wrap (m * 2 ^ (7 * k))) = V + m * 128 ^ k := by
  obtain ⟨a0, a1, a2, a3⟩ := group_le k V m hk V0 V1 m0 m1 h9
  rw [u64_wrap, u64_wrap, two_pow]
  generalize m * 128 ^ k = X at *
  omega

set_option maxRecDepth 100000 in
set_option maxHeartbeats 1000000 in
theorem get_in (a : Option Addr) (n c : Nat) (l : List Int) (q : Nat) (w : World) (h : Bytes w a n c l) (hn : n ≤ 140737488355328) (hq : q ≤ n) (h0 : 0 < n) :
    Calls Try.prog 12 #[.slice a n c, .int .i64 q] w fun e w' => e = .returned (.tuple #[.int .u64 (getAt l q).1, .int .i64 (getAt l q).2.1, .int .i64 (getAt l q).2.2]) ∧ w' = w := by
  obtain ⟨b, off, rfl, hc⟩ := h.at'.resolve_left (by omega)
  have hlen := Lib.hid h.len
  have HC := Lib.hid hc; clear hc
  have HA := Lib.hid h.all
  have hcap := h.cap
  have hmost := h.most
  clear h
  obtain ⟨G, hG⟩ : ∃ G, grp 0 0 (l.drop q) = G := ⟨_, rfl⟩
  obtain ⟨N, t, E⟩ := G
  have HR := Lib.hid (getAt_of l q (by rw [hlen.out]; exact hq) hG)
  have HG := Lib.hid hG; clear hG
  have q0 : decide ((q : Int) < 0) = false := by simp
  have q1 : decide (n < q) = false := by simp; omega
  go_enter Try.func12, Try.ntmps12
  go_wp2
  go_loop [7, 18] (fun v i => GRel l q v i) (fun _ i => (10 - intOf i).toNat)
  case atStart => exact ⟨0, 0, by omega, rfl, rfl, by omega, by simp, rfl⟩
  case round =>
    obtain ⟨k, V, hk, rfl, rfl, V0, V1, hg⟩ := hrel
    have hp := pow_le k hk
    have V2 : V ≤ 9223372036854775807 := by omega
    have H1 := Lib.hid V1; clear V1 hp
    rw [HG.out] at hg
    have Hg := Lib.hid hg; clear hg
    by_cases hend : n ≤ q + k
    · have hN : (N, (if E = 0 then (q : Int) + t else 0), E) = ((0 : Int), (0 : Int), (1 : Int)) := by
        have := Hg.out
        rw [List.drop_of_length_le (by rw [hlen.out]; exact hend)] at this
        simp only [grp, Prod.mk.injEq] at this
        obtain ⟨rfl, rfl, rfl⟩ := this
        rfl
      have HN := Lib.hid hN; clear hN
      go_wp2
      go_ret3
      exact ⟨ret_three (by rw [HR.out, HN.out]), rfl⟩
    · have c1 := HC.out (q + k) (by omega)
      have cb := HA.out.getD (q + k)
      have hd := Hg.out
      rw [drop_cons l (q + k) (by rw [hlen.out]; omega)] at hd
      obtain ⟨p, hp⟩ : ∃ p, l.getD (q + k) 0 = p := ⟨_, rfl⟩
      rw [hp] at c1 cb hd
      obtain ⟨p0, p1⟩ := cb
      have HD := Lib.hid hd; clear hd hp
      by_cases hbad : (k = 9 ∧ p ≠ 1) ∨ (0 < k ∧ p = 0)
      · have hN : (N, (if E = 0 then (q : Int) + t else 0), E) = ((0 : Int), (0 : Int), (2 : Int)) := by
          have := HD.out
          unfold grp at this
          rw [if_pos hbad] at this
          simp only [Prod.mk.injEq] at this
          obtain ⟨rfl, rfl, rfl⟩ := this
          rfl
        have HN := Lib.hid hN; clear hN
        by_cases hk9 : 9 ≤ k
        · have e9 : ((k : Int) == 9) = true := by rw [beq_iff_eq]; omega
          by_cases hp1 : p = 1
          · omega
          · have e1 : (p != 1) = true := by rw [bne_iff_ne]; exact hp1
            clear hbad hp1
            go_wp2
            go_ret3
            exact ⟨ret_three (by rw [HR.out, HN.out]), rfl⟩
        · have e9 : ((k : Int) == 9) = false := by rw [beq_eq_false_iff_ne]; omega
          have hk0 : 0 < k := by omega
          have e0 : (p == 0) = true := by rw [beq_iff_eq]; omega
          clear hbad
          go_wp2
          go_ret3
          exact ⟨ret_three (by rw [HR.out, HN.out]), rfl⟩
      · have hd := HD.out
        unfold grp at hd
        rw [if_neg hbad] at hd
        have m0 : 0 ≤ p % 128 := by omega
        have m1 : p % 128 ≤ 127 := by omega
        have pp := pow_pos' k
        have HB := Lib.hid hbad; clear hbad
        have HD2 := Lib.hid hd; clear hd pp
        have s0 : (0 : Int) ≤ 7 * k := by omega
        have s1 : (7 * k : Int) ≤ 63 := by omega
        have hm9 : 9 ≤ k → p % 128 ≤ 1 := fun h => by
          have := Classical.byContradiction fun x => HB.out (.inl ⟨by omega, x⟩)
          omega
        have HM := Lib.hid hm9; clear hm9
        by_cases hlt : p < 128
        · have hN : (N, (if E = 0 then (q : Int) + t else 0), E) = (V + p % 128 * 128 ^ k, (q : Int) + k + 1, (0 : Int)) := by
            have := HD2.out
            rw [if_pos hlt] at this
            simp only [Prod.mk.injEq] at this
            obtain ⟨rfl, rfl, rfl⟩ := this
            simp; omega
          have HN := Lib.hid hN; clear hN
          by_cases hk9 : 9 ≤ k
          · have e9 : ((k : Int) == 9) = true := by rw [beq_iff_eq]; omega
            have hp1 : p = 1 := Classical.byContradiction fun x => HB.out (.inl ⟨by omega, x⟩)
            have e1 : (p != 1) = false := by rw [hp1]; rfl
            have e0 : (p == 0) = false := by rw [hp1]; rfl
            clear hp1
            go_wp2
            go_ret3
            exact ⟨ret_three (by rw [HR.out, HN.out, group_val k V _ hk V0 H1.out m0 m1 HM.out]), rfl⟩
          · have e9 : ((k : Int) == 9) = false := by rw [beq_eq_false_iff_ne]; omega
            by_cases hk0 : 0 < k
            · have e0 : (p == 0) = false := by rw [beq_eq_false_iff_ne]; exact fun x => HB.out (.inr ⟨hk0, x⟩)
              go_wp2
              go_ret3
              exact ⟨ret_three (by rw [HR.out, HN.out, group_val k V _ hk V0 H1.out m0 m1 HM.out]), rfl⟩
            · go_wp2
              go_ret3
              exact ⟨ret_three (by rw [HR.out, HN.out, group_val k V _ hk V0 H1.out m0 m1 HM.out]), rfl⟩
        · have hk9 : ¬ 9 ≤ k := fun h => by
            have := Classical.byContradiction fun x => HB.out (.inl ⟨by omega, x⟩)
            omega
          have e9 : ((k : Int) == 9) = false := by rw [beq_eq_false_iff_ne]; omega
          have e0 : (p == 0) = false := by rw [beq_eq_false_iff_ne]; omega
          go_wp2
          all_goals
            go_round
            case rel =>
              obtain ⟨a0, a1, a2, a3⟩ := group_le k V _ hk V0 H1.out m0 m1 HM.out
              refine ⟨k + 1, V + p % 128 * 128 ^ k, by omega, ?_, by go_num, by omega, a1, ?_⟩
              · rw [group_val k V _ hk V0 H1.out m0 m1 HM.out]
              · have := HD2.out
                rw [if_neg hlt] at this
                rw [HG.out, ← this]
                rfl
            case measure => simp [intOf]; omega

end Go.Proofs.Ytjdgebafhcbfoaa.vs
