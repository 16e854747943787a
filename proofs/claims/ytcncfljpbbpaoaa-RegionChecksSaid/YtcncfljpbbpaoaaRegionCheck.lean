/-
  Layer 38: contracts of the program's 'Check', and what it stands on.
-/
import Derived.Test.YtcncfljpbbpaoaaRegionOne
namespace Go.Proofs.Ytcncfljpbbpaoaa.rg
open Go.ChangeShapes Go.WideShapes Go.ChangeAt Go.RowKit
open bs
set_option linter.unusedVariables false

theorem ret_bool {a b : Bool} (h : a = b) : Ending.returned (.bool a) = .returned (.bool b) := by rw [h]

/-- Are there bytes from one place to another in so many? -/
def withinB (f t : Int) (n : Nat) : Bool := decide (0 ≤ f ∧ f ≤ t ∧ t ≤ n)

set_option maxHeartbeats 400000 in
theorem within_any (f t : Int) (p : ByteArray) (w : World) (hp : p.size ≤ 9223372036854775807) :
    Calls Try.prog 56 #[.int .i64 f, .int .i64 t, .string p] w fun e w' => e = .returned (.bool (withinB f t p.size)) ∧ w = w' := by
  by_cases h1 : 0 ≤ f
  · have d1 : decide (0 ≤ f) = true := decide_eq_true h1
    by_cases h2 : f ≤ t
    · have d2 : decide (f ≤ t) = true := decide_eq_true h2
      by_cases h3 : t ≤ p.size
      · have d3 : decide (t ≤ p.size) = true := decide_eq_true h3
        have hv : withinB f t p.size = true := decide_eq_true ⟨h1, h2, h3⟩
        rw [hv]; clear hv
        go_enter Try.func56, Try.ntmps56
        go_wp2
        go_ret
        exact ⟨rfl, rfl⟩
      · have d3 : decide (t ≤ p.size) = false := decide_eq_false h3
        have hv : withinB f t p.size = false := decide_eq_false (fun h => h3 h.2.2)
        rw [hv]; clear hv
        go_enter Try.func56, Try.ntmps56
        go_wp2
        go_ret
        exact ⟨rfl, rfl⟩
    · have d2 : decide (f ≤ t) = false := decide_eq_false h2
      have hv : withinB f t p.size = false := decide_eq_false (fun h => h2 h.2.1)
      rw [hv]; clear hv
      go_enter Try.func56, Try.ntmps56
      go_wp2
      go_ret
      exact ⟨rfl, rfl⟩
  · have d1 : decide (0 ≤ f) = false := decide_eq_false h1
    have hv : withinB f t p.size = false := decide_eq_false (fun h => h1 h.1)
    rw [hv]; clear hv
    go_enter Try.func56, Try.ntmps56
    go_wp2
    go_ret
    exact ⟨rfl, rfl⟩

/-- May regions be for texts of these lengths, behind these ends? -/
def may (np nq : Nat) : Int → Int → List Reg → Bool
  | _, _, [] => true
  | ep, eq, r :: l => (decide (ep < r.fp) && withinB r.fp r.tp np && decide (eq < r.fq) && withinB r.fq r.tq nq) && may np nq r.tp r.tq l

theorem may_cons (np nq : Nat) (ep eq : Int) (l : List Reg) (k : Nat) (r : Reg) (h : l[k]? = some r) : may np nq ep eq (l.drop k) = ((decide (ep < r.fp) && withinB r.fp r.tp np && decide (eq < r.fq) && withinB r.fq r.tq nq) && may np nq r.tp r.tq (l.drop (k + 1))) := by
  obtain ⟨hk, he⟩ := List.getElem?_eq_some_iff.1 h
  rw [List.drop_eq_getElem_cons hk, he]
  rfl

set_option maxRecDepth 100000 in
set_option maxHeartbeats 1000000 in
theorem mayBe_any (p q : ByteArray) (a : Option Addr) (n c : Nat) (l : List Reg) (w : World) (h : Recs 4 RegAt w a n c l) (hp : p.size ≤ 9223372036854775807) (hq : q.size ≤ 9223372036854775807) :
    Calls Try.prog 53 #[.string p, .string q, .slice a n c] w fun e w' => e = .returned (.bool (may p.size q.size (-1) (-1) l)) ∧ Below w.heap.size w w' := by
  have hm := h.most
  have hk := h.cap
  have HX := Lib.hid h; clear h
  go_enter Try.func53, Try.ntmps53
  go_wp2
  go_loopw [7, 8, 13] (fun ep eq i wr => ∃ (k : Nat) (x y : Int), k ≤ n ∧ i = .int .i64 k ∧ ep = .int .i64 x ∧ eq = .int .i64 y ∧ In64 x ∧ In64 y ∧ Below w.heap.size w wr ∧ Hid (may p.size q.size x y (l.drop k) = may p.size q.size (-1) (-1) l)) (fun _ _ i _ => n - (intOf i).toNat)
  case atStart => exact ⟨0, -1, -1, by omega, rfl, rfl, rfl, by unfold In64; omega, by unfold In64; omega, Below.refl _ _, rfl⟩
  case round =>
    obtain ⟨k, x, y, hkn, rfl, rfl, rfl, hx, hy, hb, hl⟩ := hrel
    by_cases hlt : k < n
    · have HR := HX.out.below regStays hb
      obtain ⟨r, hr⟩ : ∃ r, l[k]? = some r := ⟨l[k]'(by have := HR.len; omega), List.getElem?_eq_getElem _⟩
      rcases HR.at' with h0 | ⟨b, off, rfl, hbl, hcell⟩
      · omega
      have HC := hcell k r hr
      obtain ⟨c0, c1, c2, c3, i0, i1, i2, i3⟩ := HC
      clear HR hcell
      have hstep := hl.out
      rw [may_cons p.size q.size x y l k r hr] at hstep
      clear hl
      have hfin : ∀ cs : Array Value, Below w.heap.size w (wr.alloc (.cells cs 39)) := fun cs => hb.alloc hb.size _
      rcases Int.lt_or_le x r.fp with g1 | g1
      · have d1 : decide (x < r.fp) = true := decide_eq_true g1
        cases g2 : withinB r.fp r.tp p.size with
        | false =>
          have hv : may p.size q.size (-1) (-1) l = false := by rw [← hstep, d1, g2]; simp
          have HV := Lib.hid hv
          clear hv hstep d1
          go_wp2_with fail
          refine (within_any r.fp r.tp p _ hp).mono ?_
          rintro e w' ⟨rfl, rfl⟩
          rw [g2]
          clear g2
          go_wp2
          go_ret
          exact ⟨ret_bool HV.out.symm, hfin _⟩
        | true =>
          rcases Int.lt_or_le y r.fq with g3 | g3
          · have d3 : decide (y < r.fq) = true := decide_eq_true g3
            cases g4 : withinB r.fq r.tq q.size with
            | false =>
              have hv : may p.size q.size (-1) (-1) l = false := by rw [← hstep, g4]; simp
              have HV := Lib.hid hv
              clear hv hstep d1 d3
              go_wp2_with fail
              refine (within_any r.fp r.tp p _ hp).mono ?_
              rintro e w' ⟨rfl, rfl⟩
              rw [g2]
              clear g2
              go_wp2_with fail
              refine (within_any r.fq r.tq q _ hq).mono ?_
              rintro e w' ⟨rfl, rfl⟩
              rw [g4]
              clear g4
              go_wp2
              go_ret
              exact ⟨ret_bool HV.out.symm, hfin _⟩
            | true =>
              have hst : may p.size q.size r.tp r.tq (l.drop (k + 1)) = may p.size q.size (-1) (-1) l := by rw [← hstep, d1, g2, d3, g4]; simp
              have HS := Lib.hid hst
              clear hst hstep d1 d3
              go_wp2_with fail
              refine (within_any r.fp r.tp p _ hp).mono ?_
              rintro e w' ⟨rfl, rfl⟩
              rw [g2]
              clear g2
              go_wp2_with fail
              refine (within_any r.fq r.tq q _ hq).mono ?_
              rintro e w' ⟨rfl, rfl⟩
              rw [g4]
              clear g4
              go_wp2_with fail
              go_quiet (fail)
              go_wp2
              go_roundw
              case rel => exact ⟨k + 1, r.tp, r.tq, by omega, by go_num, rfl, rfl, i1, i3, below_drewN (hfin _) _, HS⟩
              case measure => simp [intOf]; omega
          · have hv : may p.size q.size (-1) (-1) l = false := by rw [← hstep, decide_eq_false (Int.not_lt.2 g3)]; simp
            have HV := Lib.hid hv
            clear hv hstep d1
            go_wp2_with fail
            refine (within_any r.fp r.tp p _ hp).mono ?_
            rintro e w' ⟨rfl, rfl⟩
            rw [g2]
            clear g2
            go_wp2
            go_ret
            exact ⟨ret_bool HV.out.symm, hfin _⟩
      · have hv : may p.size q.size (-1) (-1) l = false := by rw [← hstep, decide_eq_false (Int.not_lt.2 g1)]; simp
        have HV := Lib.hid hv
        clear hv hstep
        go_wp2
        go_ret
        exact ⟨ret_bool HV.out.symm, hfin _⟩
    · obtain rfl : k = n := by omega
      have hv : may p.size q.size (-1) (-1) l = true := by
        rw [← hl.out, List.drop_eq_nil_of_le (by have := HX.out.len; omega)]; rfl
      have HV := Lib.hid hv
      clear hv hl
      go_wp2
      all_goals
        go_ret
        exact ⟨ret_bool HV.out.symm, hb⟩
/-- Is the text between the regions the same, from two places on? -/
def corr (p q : ByteArray) : Nat → Nat → List Reg → Bool
  | x, y, [] => decide (p.extract x p.size = q.extract y q.size)
  | x, y, r :: l => decide (p.extract x r.fp.toNat = q.extract y r.fq.toNat) && corr p q r.tp.toNat r.tq.toNat l
theorem corr_cons (p q : ByteArray) (x y : Nat) (l : List Reg) (k : Nat) (r : Reg) (h : l[k]? = some r) : corr p q x y (l.drop k) = (decide (p.extract x r.fp.toNat = q.extract y r.fq.toNat) && corr p q r.tp.toNat r.tq.toNat (l.drop (k + 1))) := by
  obtain ⟨hk, he⟩ := List.getElem?_eq_some_iff.1 h
  rw [List.drop_eq_getElem_cons hk, he]
  rfl
def chk (p q : ByteArray) (l : List Reg) : Int := if may p.size q.size (-1) (-1) l then (if corr p q 0 0 l then 0 else 21) else 13

set_option maxRecDepth 100000 in
set_option maxHeartbeats 1000000 in
theorem check_any (p q : ByteArray) (a : Option Addr) (n c : Nat) (l : List Reg) (w : World) (h : Recs 4 RegAt w a n c l) (hp : p.size ≤ 9223372036854775807) (hq : q.size ≤ 9223372036854775807) :
    Calls Try.prog 23 #[.string p, .string q, .slice a n c] w fun e w' => e = .returned (.int .i64 (chk p q l)) ∧ Below w.heap.size w w' := by
  have hm := h.most
  have hk := h.cap
  have HX := Lib.hid h; clear h
  have HM := Lib.hid (mayBe_any p q a n c l w HX.out hp hq)
  cases hma : may p.size q.size (-1) (-1) l with
  | false =>
    go_enter Try.func23, Try.ntmps23
    go_wp2_with fail
    refine (HM.out).mono ?_
    rintro e w1 ⟨rfl, hb1⟩
    rw [hma]
    have hv : chk p q l = 13 := by unfold chk; rw [hma]; rfl
    have HV := Lib.hid hv
    clear hv hma
    go_wp2
    go_ret
    exact ⟨ret_int HV.out.symm, hb1⟩
  | true =>
    have hv : chk p q l = if corr p q 0 0 l then 0 else 21 := by unfold chk; rw [hma]; rfl
    have HV := Lib.hid hv
    have HMA := Lib.hid hma
    clear hv
    go_enter Try.func23, Try.ntmps23
    go_wp2_with fail
    refine (HM.out).mono ?_
    rintro e w1 ⟨rfl, hb1⟩
    rw [hma]
    clear hma
    have HX1 := Lib.hid (HX.out.below regStays hb1)
    have hs1 := hb1.size
    go_wp2
    go_loopw [7, 8, 18] (fun ep eq i wr => ∃ (k x y : Nat) (ex ey : Int), k ≤ n ∧ i = .int .i64 k ∧ ep = .int .i64 x ∧ eq = .int .i64 y ∧ x ≤ p.size ∧ y ≤ q.size ∧ (ex = x ∨ ex = -1 ∧ x = 0) ∧ (ey = y ∨ ey = -1 ∧ y = 0) ∧ Below w1.heap.size w1 wr ∧ Hid (may p.size q.size ex ey (l.drop k) = true) ∧ Hid (corr p q x y (l.drop k) = corr p q 0 0 l)) (fun _ _ i _ => n - (intOf i).toNat)
    case atStart => exact ⟨0, 0, 0, -1, -1, by omega, rfl, rfl, rfl, by omega, by omega, .inr ⟨rfl, rfl⟩, .inr ⟨rfl, rfl⟩, Below.refl _ _, HMA, rfl⟩
    case round =>
      obtain ⟨k, x, y, ex, ey, hkn, rfl, rfl, rfl, hx, hy, hex, hey, hb, hmy, hcr⟩ := hrel
      by_cases hlt : k < n
      · have HR := HX1.out.below regStays hb
        obtain ⟨r, hr⟩ : ∃ r, l[k]? = some r := ⟨l[k]'(by have := HR.len; omega), List.getElem?_eq_getElem _⟩
        rcases HR.at' with h0 | ⟨b, off, rfl, hbl, hcell⟩
        · omega
        obtain ⟨c0, c1, c2, c3, i0, i1, i2, i3⟩ := hcell k r hr
        clear HR hcell
        have hst := hmy.out
        rw [may_cons p.size q.size ex ey l k r hr] at hst
        simp only [Bool.and_eq_true, decide_eq_true_eq, withinB] at hst
        obtain ⟨⟨⟨⟨s1, s2, s3, s4⟩, s5⟩, s6, s7, s8⟩, s9⟩ := hst
        have hco := hcr.out
        rw [corr_cons p q x y l k r hr] at hco
        have SM := Lib.hid s9
        clear s9 hcr hmy i0 i1 i2 i3
        obtain ⟨rfp, rtp, rfq, rtq⟩ := r
        dsimp only at s1 s2 s3 s4 s5 s6 s7 s8 SM hco c0 c1 c2 c3
        obtain ⟨f, rfl⟩ := Int.eq_ofNat_of_zero_le s2
        obtain ⟨t, rfl⟩ := Int.eq_ofNat_of_zero_le (show 0 ≤ rtp by omega)
        obtain ⟨g, rfl⟩ := Int.eq_ofNat_of_zero_le s6
        obtain ⟨u, rfl⟩ := Int.eq_ofNat_of_zero_le (show 0 ≤ rtq by omega)
        simp only [Int.toNat_natCast] at hco
        have a1 : x ≤ f := by omega
        have a2 : f ≤ p.size := by omega
        have a3 : y ≤ g := by omega
        have a4 : g ≤ q.size := by omega
        have a5 : t ≤ p.size := by omega
        have a6 : u ≤ q.size := by omega
        clear s1 s2 s3 s4 s5 s6 s7 s8 hex hey
        have hfin : ∀ cs : Array Value, Below w1.heap.size w1 (wr.alloc (.cells cs 39)) := fun cs => hb.alloc hb.size _
        have hTE := text_eq (p.extract x f) (q.extract y g)
        by_cases hB : p.extract x f = q.extract y g
        · have hst2 : corr p q t u (l.drop (k + 1)) = corr p q 0 0 l := by rw [← hco, decide_eq_true hB, Bool.true_and]
          rw [decide_eq_true hB] at hTE
          have HS := Lib.hid hst2
          clear hst2 hco hB
          go_wp2_with fail
          go_quiet (fail)
          go_wp2_with fail
          go_quiet (fail)
          go_wp2
          go_roundw
          case rel =>
            refine ⟨k + 1, t, u, t, u, by omega, by go_num, rfl, rfl, a5, a6, .inl rfl, .inl rfl, ?_, SM, HS⟩
            exact below_drewN (hfin _) _
          case measure => simp [intOf]; omega
        · have hst2 : chk p q l = 21 := by rw [HV.out, ← hco, decide_eq_false hB, Bool.false_and]; rfl
          rw [decide_eq_false hB] at hTE
          have HS := Lib.hid hst2
          clear hst2 hco hB
          go_wp2_with fail
          go_quiet (fail)
          go_wp2
          go_ret
          exact ⟨ret_int HS.out.symm, hb1.trans ((below_drewN (hfin _) _).mono hs1)⟩
      · obtain rfl : k = n := by omega
        have hco := hcr.out
        rw [List.drop_eq_nil_of_le (by have := HX.out.len; omega)] at hco
        have hTE := text_eq (p.extract x p.size) (q.extract y q.size)
        clear hex hey hmy hcr
        by_cases hB : p.extract x p.size = q.extract y q.size
        · have hst2 : chk p q l = 0 := by rw [HV.out, ← hco, show corr p q x y [] = true from decide_eq_true hB]; rfl
          rw [decide_eq_true hB] at hTE
          have HS := Lib.hid hst2
          clear hst2 hco hB
          go_wp2_with fail
          all_goals
            go_quiet (fail)
            go_wp2
            go_ret
            exact ⟨ret_int HS.out.symm, hb1.trans ((below_drewN hb _).mono hs1)⟩
        · have hst2 : chk p q l = 21 := by rw [HV.out, ← hco, show corr p q x y [] = false from decide_eq_false hB]; rfl
          rw [decide_eq_false hB] at hTE
          have HS := Lib.hid hst2
          clear hst2 hco hB
          go_wp2_with fail
          all_goals
            go_quiet (fail)
            go_wp2
            go_ret
            exact ⟨ret_int HS.out.symm, hb1.trans ((below_drewN hb _).mono hs1)⟩
end Go.Proofs.Ytcncfljpbbpaoaa.rg
