/-
  Contracts of the document's own 'Get' of layer 1; and of both at places that are none, and in no bytes.
-/
import Derived.Test.YtjdgebafhcbfoaaVarGet
namespace Go.Proofs.Ytjdgebafhcbfoaa.vs
open Go.ChangeShapes Go.WideShapes Go.ChangeAt Go.RowKit
open bs
set_option linter.unusedVariables false

def RRel (l : List Int) (q : Nat) (v u i : Value) : Prop := ∃ (k : Nat) (V U : Int), k ≤ 9 ∧ v = .int .u64 V ∧ u = .int .u64 U ∧ i = .int .i64 (q + k) ∧ 0 ≤ V ∧ V < 128 ^ k ∧ U = 128 ^ k ∧ q + k ≤ l.length ∧ grp k V (l.drop (q + k)) = grp 0 0 (l.drop q)

theorem unit_val (k : Nat) (V U m : Int) (hk : k ≤ 9) (V0 : 0 ≤ V) (V1 : V < 128 ^ k) (hU : U = 128 ^ k) (m0 : 0 ≤ m) (m1 : m ≤ 127) (h9 : 9 ≤ k → m ≤ 1) :
    IntKind.u64.wrap (V + IntKind.u64.wrap (m * U)) = V + m * 128 ^ k := by
  obtain ⟨a0, a1, a2, a3⟩ := group_le k V m hk V0 V1 m0 m1 h9
  rw [u64_wrap, u64_wrap, hU]
  generalize m * 128 ^ k = X at *
  omega
theorem unit_next (k : Nat) (U : Int) (hk : k ≤ 8) (hU : U = 128 ^ k) : IntKind.u64.wrap (U * 128) = 128 ^ (k + 1) := by
  have := pow_le (k + 1) (by omega)
  have := pow_pos' (k + 1)
  rw [u64_wrap, hU, ← Int.pow_succ]
  omega

set_option maxRecDepth 100000 in
set_option maxHeartbeats 1000000 in
theorem rget_in (a : Option Addr) (n c : Nat) (l : List Int) (q : Nat) (w : World) (h : Bytes w a n c l) (hn : n ≤ 140737488355328) (hq : q ≤ n) (h0 : 0 < n) :
    Calls Try.prog 13 #[.slice a n c, .int .i64 q] w fun e w' => e = .returned (.tuple #[.int .u64 (getAt l q).1, .int .i64 (getAt l q).2.1, .int .i64 (getAt l q).2.2]) ∧ w' = w := by
  obtain ⟨b, off, rfl, hc⟩ := h.at'.resolve_left (by omega)
  have hlen := Lib.hid h.len
  have HC := Lib.hid hc; clear hc
  have HA := Lib.hid h.all
  have hcap := h.cap
  have hmost := h.most
  clear h
  obtain ⟨G, hG⟩ : ∃ G, grp 0 0 (l.drop q) = G := ⟨_, rfl⟩
  obtain ⟨N, t, E⟩ := G
  have HR := Lib.hid (getAt_of l q (by rw [hlen.out]; exact hq) hG)
  have HG := Lib.hid hG; clear hG
  have q0 : decide ((q : Int) < 0) = false := by simp
  have q1 : decide (n < q) = false := by simp; omega
  go_enter Try.func13, Try.ntmps13
  go_wp2
  go_loop [7, 8, 9] (fun v u i => RRel l q v u i) (fun _ _ i => (n - intOf i).toNat)
  case atStart => exact ⟨0, 0, 1, by omega, rfl, rfl, by simp, by omega, by simp, rfl, by rw [hlen.out]; omega, rfl⟩
  case round =>
    obtain ⟨k, V, U, hk, rfl, rfl, rfl, V0, V1, hU, hqk, hg⟩ := hrel
    rw [hlen.out] at hqk
    have hp := pow_le k hk
    have hp0 := pow_pos' k
    have V2 : V ≤ 9223372036854775807 := by omega
    have U0 : 0 ≤ U := by omega
    have U1 : U ≤ 9223372036854775808 := by omega
    have H1 := Lib.hid V1; clear V1 hp hp0
    have HU := Lib.hid hU; clear hU
    rw [HG.out] at hg
    have Hg := Lib.hid hg; clear hg
    by_cases hend : n ≤ q + k
    · have hN : (N, (if E = 0 then (q : Int) + t else 0), E) = ((0 : Int), (0 : Int), (1 : Int)) := by
        have := Hg.out
        rw [List.drop_of_length_le (by rw [hlen.out]; exact hend)] at this
        simp only [grp, Prod.mk.injEq] at this
        obtain ⟨rfl, rfl, rfl⟩ := this
        rfl
      have HN := Lib.hid hN; clear hN
      go_wp2
      go_ret3
      exact ⟨ret_three (by rw [HR.out, HN.out]), rfl⟩
    · have c1 := HC.out (q + k) (by omega)
      have cb := HA.out.getD (q + k)
      have hd := Hg.out
      rw [drop_cons l (q + k) (by rw [hlen.out]; omega)] at hd
      obtain ⟨p, hp⟩ : ∃ p, l.getD (q + k) 0 = p := ⟨_, rfl⟩
      rw [hp] at c1 cb hd
      obtain ⟨p0, p1⟩ := cb
      have HD := Lib.hid hd; clear hd hp
      by_cases hbad : (k = 9 ∧ p ≠ 1) ∨ (0 < k ∧ p = 0)
      · have hN : (N, (if E = 0 then (q : Int) + t else 0), E) = ((0 : Int), (0 : Int), (2 : Int)) := by
          have := HD.out
          unfold grp at this
          rw [if_pos hbad] at this
          simp only [Prod.mk.injEq] at this
          obtain ⟨rfl, rfl, rfl⟩ := this
          rfl
        have HN := Lib.hid hN; clear hN
        by_cases hk9 : 9 ≤ k
        · have e9 : ((q : Int) + k - q == 9) = true := by rw [beq_iff_eq]; omega
          by_cases hp1 : p = 1
          · omega
          · have e1 : (p != 1) = true := by rw [bne_iff_ne]; exact hp1
            clear hbad hp1
            go_wp2
            go_ret3
            exact ⟨ret_three (by rw [HR.out, HN.out]), rfl⟩
        · have e9 : ((q : Int) + k - q == 9) = false := by rw [beq_eq_false_iff_ne]; omega
          have hk0 : 0 < k := by omega
          have e0 : (p == 0) = true := by rw [beq_iff_eq]; omega
          clear hbad
          go_wp2
          go_ret3
          exact ⟨ret_three (by rw [HR.out, HN.out]), rfl⟩
      · have hd := HD.out
        unfold grp at hd
        rw [if_neg hbad] at hd
        have m0 : 0 ≤ p % 128 := by omega
        have m1 : p % 128 ≤ 127 := by omega
        have HB := Lib.hid hbad; clear hbad
        have HD2 := Lib.hid hd; clear hd
        have hm9 : 9 ≤ k → p % 128 ≤ 1 := fun h => by
          have := Classical.byContradiction fun x => HB.out (.inl ⟨by omega, x⟩)
          omega
        have HM := Lib.hid hm9; clear hm9
        by_cases hlt : p < 128
        · have hN : (N, (if E = 0 then (q : Int) + t else 0), E) = (V + p % 128 * 128 ^ k, (q : Int) + k + 1, (0 : Int)) := by
            have := HD2.out
            rw [if_pos hlt] at this
            simp only [Prod.mk.injEq] at this
            obtain ⟨rfl, rfl, rfl⟩ := this
            simp; omega
          have HN := Lib.hid hN; clear hN
          by_cases hk9 : 9 ≤ k
          · have e9 : ((q : Int) + k - q == 9) = true := by rw [beq_iff_eq]; omega
            have hp1 : p = 1 := Classical.byContradiction fun x => HB.out (.inl ⟨by omega, x⟩)
            have e1 : (p != 1) = false := by rw [hp1]; rfl
            have e0 : (p == 0) = false := by rw [hp1]; rfl
            clear hp1
            go_wp2
            all_goals go_ret3
            all_goals exact ⟨ret_three (by rw [HR.out, HN.out, unit_val k V U _ hk V0 H1.out HU.out m0 m1 HM.out]), rfl⟩
          · have e9 : ((q : Int) + k - q == 9) = false := by rw [beq_eq_false_iff_ne]; omega
            by_cases hk0 : 0 < k
            · have e0 : (p == 0) = false := by rw [beq_eq_false_iff_ne]; exact fun x => HB.out (.inr ⟨hk0, x⟩)
              go_wp2
              all_goals go_ret3
              all_goals exact ⟨ret_three (by rw [HR.out, HN.out, unit_val k V U _ hk V0 H1.out HU.out m0 m1 HM.out]), rfl⟩
            · go_wp2
              all_goals go_ret3
              all_goals exact ⟨ret_three (by rw [HR.out, HN.out, unit_val k V U _ hk V0 H1.out HU.out m0 m1 HM.out]), rfl⟩
        · have hk9 : ¬ 9 ≤ k := fun h => by
            have := Classical.byContradiction fun x => HB.out (.inl ⟨by omega, x⟩)
            omega
          have e9 : ((q : Int) + k - q == 9) = false := by rw [beq_eq_false_iff_ne]; omega
          have e0 : (p == 0) = false := by rw [beq_eq_false_iff_ne]; omega
          go_wp2
          all_goals
            go_round
            case rel =>
              obtain ⟨a0, a1, a2, a3⟩ := group_le k V _ hk V0 H1.out m0 m1 HM.out
              refine ⟨k + 1, V + p % 128 * 128 ^ k, 128 ^ (k + 1), by omega, ?_, ?_, by go_num, by omega, a1, rfl, by rw [hlen.out]; omega, ?_⟩
              · rw [unit_val k V U _ hk V0 H1.out HU.out m0 m1 HM.out]
              · rw [unit_next k U (by omega) HU.out]
              · have := HD2.out
                rw [if_neg hlt] at this
                rw [HG.out, ← this]
                rfl
            case measure => simp [intOf]; omega

/-- At a place that is none. -/
theorem getAt_out (l : List Int) (at' : Int) (h : at' < 0 ∨ (l.length : Int) < at') : getAt l at' = (0, 0, 13) := by unfold getAt; rw [if_pos h]
theorem getAt_end (l : List Int) (h : l.length = 0) : getAt l 0 = (0, 0, 1) := by
  rw [List.eq_nil_of_length_eq_zero h]; rfl

end Go.Proofs.Ytjdgebafhcbfoaa.vs
