/-
  Layer 38: contracts of the document's May, Rest, Check, Turned.
-/
import Derived.Test.YtcncfljpbbpaoaaRegMath2
import Derived.IntWalk
namespace Go.Proofs.Ytcncfljpbbpaoaa.rg
open Go.ChangeShapes Go.WideShapes Go.ChangeAt Go.RowKit
open bs
set_option linter.unusedVariables false

theorem within_ways (f t : Int) (n : Nat) : (f < 0 ∧ withinB f t n = false) ∨ (¬ f < 0 ∧ t < f ∧ withinB f t n = false) ∨ (¬ f < 0 ∧ ¬ t < f ∧ (n : Int) < t ∧ withinB f t n = false) ∨ (¬ f < 0 ∧ ¬ t < f ∧ ¬ (n : Int) < t ∧ withinB f t n = true) := by
  unfold withinB
  by_cases h1 : f < 0
  · exact .inl ⟨h1, decide_eq_false (by omega)⟩
  · by_cases h2 : t < f
    · exact .inr (.inl ⟨h1, h2, decide_eq_false (by omega)⟩)
    · by_cases h3 : (n : Int) < t
      · exact .inr (.inr (.inl ⟨h1, h2, h3, decide_eq_false (by omega)⟩))
      · exact .inr (.inr (.inr ⟨h1, h2, h3, decide_eq_true (by omega)⟩))

set_option maxRecDepth 100000 in
set_option maxHeartbeats 2000000 in
theorem rmay_any (np nq : Nat) (a : Option Addr) (n c : Nat) (l : List Reg) (w : World) (h : Recs 4 RegAt w a n c l) (hp : np ≤ 9223372036854775807) (hq : nq ≤ 9223372036854775807) :
    Calls Try.prog 54 #[.int .i64 np, .int .i64 nq, .slice a n c] w fun e w' => e = .returned (.bool (may np nq (-1) (-1) l)) ∧ Below w.heap.size w w' := by
  have hm := h.most
  have hk := h.cap
  have HX := Lib.hid h; clear h
  go_enter Try.func54, Try.ntmps54
  go_wp2
  go_loopw [7] (fun i wr => ∃ (k : Nat) (ex ey : Int), k ≤ n ∧ i = .int .i64 k ∧ Hid (Below w.heap.size w wr) ∧ Hid (may np nq ex ey (l.drop k) = may np nq (-1) (-1) l) ∧ Hid ((k = 0 ∧ ex = -1 ∧ ey = -1) ∨ ∃ j r', k = j + 1 ∧ l[j]? = some r' ∧ ex = r'.tp ∧ ey = r'.tq)) (fun i _ => n - (intOf i).toNat)
  case atStart => exact ⟨0, -1, -1, by omega, rfl, Below.refl _ _, rfl, .inl ⟨rfl, rfl, rfl⟩⟩
  case round =>
    obtain ⟨k, ex, ey, hkn, rfl, hb, hl, hpre⟩ := hrel
    by_cases hlt : k < n
    · have HR := HX.out.below regStays hb.out
      obtain ⟨r, hr⟩ : ∃ r, l[k]? = some r := ⟨l[k]'(by have := HR.len; omega), List.getElem?_eq_getElem _⟩
      rcases HR.at' with h0 | ⟨b, off, rfl, hbl, hcell⟩
      · omega
      obtain ⟨c0, c1, c2, c3, i0, i1, i2, i3⟩ := hcell k r hr
      have HCell := Lib.hid hcell; have HRK := Lib.hid hr
      have hbs := hb.out.size
      have hst := hl.out
      rw [may_cons np nq ex ey l k r hr] at hst
      have HST := Lib.hid hst
      clear HR hcell hl hst hr
      have HB1 : Hid (∀ cs : Array Value, Below w.heap.size w (wr.alloc (.cells cs 39))) := fun cs => hb.out.alloc hbs _
      obtain ⟨rfp, rtp, rfq, rtq⟩ := r
      dsimp only at c0 c1 c2 c3 HST
      have hbad : (withinB rfp rtp np = false ∨ withinB rfq rtq nq = false) → may np nq (-1) (-1) l = false := by
        intro h
        rw [← HST.out]
        rcases h with h | h
        · rw [h]; simp
        · rw [h]; simp
      have HBad := Lib.hid hbad
      clear hbad i0 i1 i2 i3
      rcases within_ways rfp rtp np with ⟨g1, gv⟩ | ⟨g1, g2, gv⟩ | ⟨g1, g2, g3, gv⟩ | ⟨g1, g2, g3, gv⟩
      · have HV := Lib.hid (HBad.out (.inl gv)); clear gv
        go_wp2
        go_ret
        exact ⟨ret_bool HV.out.symm, HB1.out _⟩
      · have HV := Lib.hid (HBad.out (.inl gv)); clear gv
        go_wp2
        go_ret
        exact ⟨ret_bool HV.out.symm, HB1.out _⟩
      · have HV := Lib.hid (HBad.out (.inl gv)); clear gv
        go_wp2
        go_ret
        exact ⟨ret_bool HV.out.symm, HB1.out _⟩
      · have HVP := Lib.hid gv; clear gv
        rcases within_ways rfq rtq nq with ⟨g4, gv⟩ | ⟨g4, g5, gv⟩ | ⟨g4, g5, g6, gv⟩ | ⟨g4, g5, g6, gv⟩
        · have HV := Lib.hid (HBad.out (.inr gv)); clear gv
          go_wp2
          go_ret
          exact ⟨ret_bool HV.out.symm, HB1.out _⟩
        · have HV := Lib.hid (HBad.out (.inr gv)); clear gv
          go_wp2
          go_ret
          exact ⟨ret_bool HV.out.symm, HB1.out _⟩
        · have HV := Lib.hid (HBad.out (.inr gv)); clear gv
          go_wp2
          go_ret
          exact ⟨ret_bool HV.out.symm, HB1.out _⟩
        · have HVQ := Lib.hid gv; clear gv
          rcases hpre.out with ⟨rfl, rfl, rfl⟩ | ⟨j, r', rfl, hr', rfl, rfl⟩
          · have hs : may np nq rtp rtq (l.drop (0 + 1)) = may np nq (-1) (-1) l := by
              rw [← HST.out, HVP.out, HVQ.out, decide_eq_true (show (-1 : Int) < rfp by omega), decide_eq_true (show (-1 : Int) < rfq by omega)]; simp
            have HS := Lib.hid hs
            have HN := Lib.hid HRK.out
            simp only [Nat.zero_mul, Nat.add_zero] at c0 c1 c2 c3
            clear hs hpre
            go_wp2_with fail
            go_quiet (fail)
            go_wp2
            go_roundw
            case rel => exact ⟨1, rtp, rtq, by omega, by go_num, below_drewN (HB1.out _) _, HS, .inr ⟨0, _, rfl, HN.out, rfl, rfl⟩⟩
            case measure => simp [intOf]; omega
          · obtain ⟨-, e1, -, e3, -, -, -, -⟩ := HCell.out j r' hr'
            have e1' := (cell_old wr (.cells #[.int .i64 rfp, .int .i64 rtp, .int .i64 rfq, .int .i64 rtq] 39) b (off + j * 4 + 1) hbl).trans e1
            have e3' := (cell_old wr (.cells #[.int .i64 rfp, .int .i64 rtp, .int .i64 rfq, .int .i64 rtq] 39) b (off + j * 4 + 3) hbl).trans e3
            obtain ⟨rfp', rtp', rfq', rtq'⟩ := r'
            dsimp only at e1 e3 e1' e3' HST
            have z1 : IntKind.i64.wrap ((j : Int) + 1 - 1) = (j : Int) := by rw [Int.add_sub_cancel]; exact IntWalk.i64_in _ (by omega)
            have HN := Lib.hid HRK.out
            clear hpre hr' e1 e3
            by_cases h1 : rfp ≤ rtp'
            · have hv : may np nq (-1) (-1) l = false := by rw [← HST.out, decide_eq_false (show ¬ rtp' < rfp by omega)]; simp
              have HV := Lib.hid hv
              have d1 : decide (rfp ≤ rtp') = true := decide_eq_true h1
              clear hv
              go_wp2_with fail
              go_quiet (fail)
              go_wp2
              go_ret
              exact ⟨ret_bool HV.out.symm, below_drewN (HB1.out _) _⟩
            · have d1 : decide (rfp ≤ rtp') = false := decide_eq_false h1
              by_cases h2 : rfq ≤ rtq'
              · have hv : may np nq (-1) (-1) l = false := by rw [← HST.out, decide_eq_false (show ¬ rtq' < rfq by omega)]; simp
                have HV := Lib.hid hv
                have d2 : decide (rfq ≤ rtq') = true := decide_eq_true h2
                clear hv
                go_wp2_with fail
                go_quiet (fail)
                go_wp2
                go_ret
                exact ⟨ret_bool HV.out.symm, below_drewN (HB1.out _) _⟩
              · have d2 : decide (rfq ≤ rtq') = false := decide_eq_false h2
                have hs : may np nq rtp rtq (l.drop (j + 1 + 1)) = may np nq (-1) (-1) l := by
                  rw [← HST.out, HVP.out, HVQ.out, decide_eq_true (show rtp' < rfp by omega), decide_eq_true (show rtq' < rfq by omega)]; simp
                have HS := Lib.hid hs
                clear hs
                go_wp2_with fail
                go_quiet (fail)
                go_wp2
                go_roundw
                case rel => exact ⟨j + 1 + 1, rtp, rtq, by omega, by go_num, below_drewN (HB1.out _) _, HS, .inr ⟨j + 1, _, rfl, HN.out, rfl, rfl⟩⟩
                case measure => simp [intOf]; omega
    · obtain rfl : k = n := by omega
      have hv : may np nq (-1) (-1) l = true := by rw [← hl.out, List.drop_eq_nil_of_le (by have := HX.out.len; omega)]; rfl
      have HV := Lib.hid hv
      clear hv hl hpre
      go_wp2
      go_ret
      exact ⟨ret_bool HV.out.symm, hb.out⟩
end Go.Proofs.Ytcncfljpbbpaoaa.rg
