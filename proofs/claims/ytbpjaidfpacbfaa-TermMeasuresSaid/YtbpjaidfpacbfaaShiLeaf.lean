/-
  Layer 14: the document's In; a local's number from outside, on both sides; what the mover does to one term.
-/
import Derived.Test.YtbpjaidfpacbfaaShiIn
namespace Go.Proofs.Ytbpjaidfpacbfaa.te
open Go.ChangeShapes Go.WideShapes Go.ChangeAt Go.RowKit
open bs tr
set_option linter.unusedVariables false

set_option maxRecDepth 100000 in
set_option maxHeartbeats 4000000 in
theorem rin_any (v : Vn) (i : Int) (w : World) (hv : v.Rd w) (hm : v.m ≤ 100000) (hi0 : -9223372036854775808 ≤ i) (hi1 : i ≤ 9223372036854775807) : Calls Try.prog 34 #[A6 v, .int .i64 i] w (NP ((inn v.x v.l i : Nat) : Int) w) := by
  obtain ⟨x, a, m, c, l⟩ := v
  obtain ⟨hvl, hvx⟩ := hv
  dsimp only at hvl hvx hm
  have hcap := hvl.cap; have hmost := hvl.most
  have hW := below_alloc w (.cells #[.int .i64 x.k, .int .i64 x.n, .string x.s, .slice a m c, .int .i64 x.f, .int .i64 x.t] 24)
  have HW := Lib.hid hW; have HV := Lib.hid (hvl.below va_stays hW); have HL := Lib.hid hvl.len
  have HX := Lib.hid (vb_new w ⟨x, a, m, c, l⟩)
  clear hvl hvx hW
  show Calls Try.prog 34 #[.agg #[.int .i64 x.k, .int .i64 x.n, .string x.s, .slice a m c, .int .i64 x.f, .int .i64 x.t], .int .i64 i] w (NP ((inn x l i : Nat) : Int) w)
  go_enter Try.func34, Try.ntmps34
  by_cases h1 : i < 0
  · go_wp2
    go_ret
    exact ⟨by rw [inn, if_pos (.inl h1)]; rfl, HW.out⟩
  by_cases h2 : (m : Int) ≤ i
  · go_wp2
    go_ret
    exact ⟨by rw [inn, if_pos (.inr (by rw [HL.out]; exact h2))]; rfl, HW.out⟩
  obtain ⟨j, rfl⟩ : ∃ j : Nat, i = j := ⟨i.toNat, by omega⟩
  have hin : inn x l (j : Int) = if x.k = 29 then brC l j else if x.k = 25 ∧ (j : Int) = 2 then 1 else if x.k = 33 ∧ (j : Int) = 2 then fst l else 0 := by
    rw [inn, if_neg (by rw [HL.out]; omega), Int.toNat_natCast]
  rw [hin]
  clear hin
  by_cases h3 : x.k = 29
  · rw [if_pos h3]
    have e3 : (x.k == 29) = true := by rw [beq_iff_eq]; exact h3
    clear h3
    go_wp2_with fail
    generalize hWW : w.alloc (.cells #[.int .i64 x.k, .int .i64 x.n, .string x.s, .slice a m c, .int .i64 x.f, .int .i64 x.t] 24) = W at HW HV HX ⊢
    clear hWW
    have p3 := HX.out.cell 3
    simp at p3
    go_loopw [5, 6] (fun s5 i wr => ∃ k : Nat, k ≤ j ∧ i = .int .i64 k ∧ s5 = .int .i64 ((brC l k : Nat) : Int) ∧ wr = W) (fun _ i _ => j - (intOf i).toNat)
    case atStart => exact ⟨0, by omega, rfl, by rw [brC_zero]; rfl, rfl⟩
    case round =>
      obtain ⟨k, hk2, rfl, rfl, rfl⟩ := hrel
      by_cases hlt : k < j
      · obtain ⟨b1, o1, x1, rfl, hb1, hx1, hc1⟩ := recs_at HV.out (k := k) (by omega)
        obtain ⟨y, hv1, hr1, c10, c11, c12, c13, c14, c15⟩ := VA.out hc1
        have HS := Lib.hid (brC_succ hx1)
        have hle : brC l k ≤ m := Nat.le_trans (brC_le l k) (Nat.le_of_eq HL.out)
        have hbr : brB x1 = (y.x.k == 20 || y.x.k == 21) := by rw [← hv1]; rfl
        have HBR := Lib.hid hbr
        have hw : IntKind.i64.wrap (((brC l k : Nat) : Int) + 1) = ((brC l k + 1 : Nat) : Int) := by rw [IntWalk.i64_in _ (by omega)]; omega
        clear hv1 hr1 hx1 hc1 c11 c12 c13 c14 c15 hbr
        by_cases e1 : y.x.k = 20
        · have hs : brC l (k + 1) = brC l k + 1 := by rw [HS.out, HBR.out, e1]; rfl
          have HSS := Lib.hid hs
          have d1 : (y.x.k == 20) = true := by rw [beq_iff_eq]; exact e1
          clear hs e1
          go_wp2
          go_roundw
          case rel => exact ⟨k + 1, by omega, by go_num, (by rw [HSS.out]; try go_num), by trivial⟩
          case measure => simp [intOf]; omega
        · by_cases e2 : y.x.k = 21
          · have hs : brC l (k + 1) = brC l k + 1 := by rw [HS.out, HBR.out, e2]; rfl
            have HSS := Lib.hid hs
            have d1 : (y.x.k == 20) = false := by rw [beq_eq_false_iff_ne]; exact e1
            have d2 : (y.x.k == 21) = true := by rw [beq_iff_eq]; exact e2
            clear hs e1 e2
            go_wp2
            go_roundw
            case rel => exact ⟨k + 1, by omega, by go_num, (by rw [HSS.out]; try go_num), by trivial⟩
            case measure => simp [intOf]; omega
          · have d1 : (y.x.k == 20) = false := by rw [beq_eq_false_iff_ne]; exact e1
            have d2 : (y.x.k == 21) = false := by rw [beq_eq_false_iff_ne]; exact e2
            have hs : brC l (k + 1) = brC l k := by rw [HS.out, HBR.out, d1, d2]; rfl
            have HSS := Lib.hid hs
            clear hs hw
            go_wp2
            go_roundw
            case rel => exact ⟨k + 1, by omega, by go_num, (by rw [HSS.out]; try go_num), by trivial⟩
            case measure => simp [intOf]; omega
      · obtain rfl : k = j := by omega
        go_wp2
        go_ret
        exact ⟨rfl, HW.out⟩
  rw [if_neg h3]
  have e3 : (x.k == 29) = false := by rw [beq_eq_false_iff_ne]; exact h3
  by_cases h4 : x.k = 25 ∧ (j : Int) = 2
  · rw [if_pos h4]
    obtain ⟨h5, h6⟩ := h4
    have hj : j = 2 := by omega
    subst hj
    have e4 : (x.k == 25) = true := by rw [beq_iff_eq]; exact h5
    clear h5 h3 h6
    go_wp2
    go_ret
    exact ⟨rfl, HW.out⟩
  rw [if_neg h4]
  by_cases h5 : x.k = 33 ∧ (j : Int) = 2
  · rw [if_pos h5]
    obtain ⟨h6, h7⟩ := h5
    have hj : j = 2 := by omega
    subst hj
    have e4 : (x.k == 25) = false := by rw [beq_eq_false_iff_ne]; exact fun h => h4 ⟨h, rfl⟩
    have e5 : (x.k == 33) = true := by rw [beq_iff_eq]; exact h6
    clear h6 h7 h3
    obtain ⟨b1, o1, x1, rfl, hb1, hx1, hc1⟩ := recs_at HV.out (k := 0) (by omega)
    obtain ⟨y, hv1, hr1, c10, c11, c12, c13, c14, c15⟩ := VA.out hc1
    have hf : fst l = y.m := by
      cases l with
      | nil => simp at hx1
      | cons z l => simp at hx1; subst hx1; show z.kids.length = y.m; rw [← hv1]; exact hr1.1.len
    rw [hf]
    have hyc := hr1.1.cap; have hym := hr1.1.most
    simp only [Nat.zero_mul, Nat.add_zero] at c10 c11 c12 c13 c14 c15
    clear hr1 hc1 hx1 hv1 c10 c12 c13 c14 c15 hf h4
    go_wp2
    go_ret
    exact ⟨rfl, HW.out⟩
  rw [if_neg h5]
  by_cases h6 : x.k = 25
  · have h7 : ¬ (j : Int) = 2 := fun h => h4 ⟨h6, h⟩
    have e4 : (x.k == 25) = true := by rw [beq_iff_eq]; exact h6
    have e5 : (x.k == 33) = false := by rw [beq_eq_false_iff_ne, h6]; decide
    have e6 : ((j : Int) == 2) = false := by rw [beq_eq_false_iff_ne]; exact h7
    clear h6 h3 h4 h5 h7
    go_wp2
    go_ret
    exact ⟨rfl, HW.out⟩
  by_cases h7 : x.k = 33
  · have h8 : ¬ (j : Int) = 2 := fun h => h5 ⟨h7, h⟩
    have e4 : (x.k == 25) = false := by rw [beq_eq_false_iff_ne]; exact h6
    have e5 : (x.k == 33) = true := by rw [beq_iff_eq]; exact h7
    have e6 : ((j : Int) == 2) = false := by rw [beq_eq_false_iff_ne]; exact h8
    clear h6 h3 h4 h5 h7 h8
    go_wp2
    go_ret
    exact ⟨rfl, HW.out⟩
  have e4 : (x.k == 25) = false := by rw [beq_eq_false_iff_ne]; exact h6
  have e5 : (x.k == 33) = false := by rw [beq_eq_false_iff_ne]; exact h7
  clear h3 h4 h5 h6 h7
  go_wp2
  go_ret
  exact ⟨rfl, HW.out⟩

set_option maxRecDepth 100000 in
theorem outer_any (v : Vn) (d : Int) (w : World) (h64 : te.I64 v.x.n) (d0 : 0 ≤ d) (d1 : d ≤ 1000000) : Calls Try.prog 68 #[A6 v, .int .i64 d] w (NP (outr v.x.n d) w) := by
  have HB := Lib.hid (below_alloc w (.cells #[.int .i64 v.x.k, .int .i64 v.x.n, .string v.x.s, .slice v.a v.m v.c, .int .i64 v.x.f, .int .i64 v.x.t] 24))
  obtain ⟨h1, h2⟩ := h64
  unfold outr
  go_enter Try.func68, Try.ntmps68
  by_cases h : v.x.n < d
  · rw [if_pos h]
    go_wp2
    go_ret
    exact ⟨rfl, HB.out⟩
  · rw [if_neg h]
    have hw : IntKind.i64.wrap (v.x.n - d) = v.x.n - d := IntWalk.i64_in _ (by omega)
    go_wp2
    go_ret
    exact ⟨rfl, HB.out⟩
set_option maxRecDepth 100000 in
theorem router_any (v : Vn) (d : Int) (w : World) (h64 : te.I64 v.x.n) (d0 : 0 ≤ d) (d1 : d ≤ 1000000) : Calls Try.prog 69 #[A6 v, .int .i64 d] w (NP (outr v.x.n d) w) := by
  have HB := Lib.hid (below_alloc w (.cells #[.int .i64 v.x.k, .int .i64 v.x.n, .string v.x.s, .slice v.a v.m v.c, .int .i64 v.x.f, .int .i64 v.x.t] 24))
  obtain ⟨h1, h2⟩ := h64
  unfold outr
  go_enter Try.func69, Try.ntmps69
  by_cases h : v.x.n < d
  · rw [if_pos h]
    go_wp2
    go_ret
    exact ⟨rfl, HB.out⟩
  · rw [if_neg h]
    have hw : IntKind.i64.wrap (v.x.n - d) = v.x.n - d := IntWalk.i64_in _ (by omega)
    go_wp2
    go_ret
    exact ⟨rfl, HB.out⟩
end Go.Proofs.Ytbpjaidfpacbfaa.te
