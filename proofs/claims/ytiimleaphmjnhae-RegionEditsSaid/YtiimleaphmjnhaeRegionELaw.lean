/-
  Layer 38: the statement on the edits of regions.
-/
import Derived.Test.YtiimleaphmjnhaeRegionEdits
namespace Go.Proofs.Ytiimleaphmjnhae.rg
open Go.ChangeShapes Go.WideShapes Go.ChangeAt Go.RowKit
open bs
set_option linter.unusedVariables false

theorem edsOk_has (q : ByteArray) (l : List Reg) (h : edsOk q l = true) (k : Nat) (r : Reg) (hr : l[k]? = some r) : withinB r.fq r.tq q.size = true := List.all_eq_true.1 h r (List.mem_of_getElem? hr)
theorem edsOk_first (q : ByteArray) (l : List Reg) (h : edsOk q l = false) : ∃ k r, k < l.length ∧ l[k]? = some r ∧ withinB r.fq r.tq q.size = false ∧ ∀ j s, j < k → l[j]? = some s → withinB s.fq s.tq q.size = true := by
  induction l with
  | nil => cases h
  | cons x l ih =>
    cases hx : withinB x.fq x.tq q.size with
    | false => exact ⟨0, x, by simp, rfl, hx, fun j s hj => by omega⟩
    | true =>
      have h' : edsOk q l = false := by
        unfold edsOk at *
        rw [List.all_cons, hx] at h
        simpa using h
      obtain ⟨k, r, h1, h2, h3, h4⟩ := ih h'
      refine ⟨k + 1, r, by simp; omega, by simpa using h2, h3, fun j s hj hs => ?_⟩
      cases j with
      | zero => simp only [List.getElem?_cons_zero, Option.some.injEq] at hs; subst hs; exact hx
      | succ j => exact h4 j s (by omega) (by simpa using hs)

/-- An edit's three cells. -/
structure EdAt (w : World) (b o : Nat) (r : Ed) : Prop where
  c0 : w.cell? ⟨b, o, none⟩ = some (.int .i64 r.f)
  c1 : w.cell? ⟨b, o + 1, none⟩ = some (.int .i64 r.t)
  c2 : w.cell? ⟨b, o + 2, none⟩ = some (.string r.s)

set_option maxRecDepth 100000 in
set_option maxHeartbeats 1000000 in
theorem law_edits (q : ByteArray) (a : Option Addr) (n c : Nat) (l : List Reg) (w : World) (h : Recs 4 RegAt w a n c l) (hq : q.size ≤ 9223372036854775807) :
    Calls Try.prog 4 #[.string q, .slice a n c] w fun e w' => e = .returned (.bool true) ∧ Below w.heap.size w w' := by
  have hm := h.most
  have hk := h.cap
  have HX := Lib.hid h; clear h
  by_cases hn : 100 < n
  · go_enter Try.func4, Try.ntmps4
    go_wp2_with fail
    refine (awake_any _).mono ?_
    rintro e w5 ⟨rfl, hb5⟩
    go_wp2
    go_ret
    exact ⟨rfl, hb5⟩
  · go_enter Try.func4, Try.ntmps4
    go_wp2_with fail
    refine (edits_any q a n c l w HX.out hq (by omega)).mono ?_
    rintro e w2 ⟨hb2, hcase⟩
    have s2 := hb2.size
    have HY := Lib.hid (HX.out.below regStays hb2)
    rcases hcase with ⟨hno, rfl⟩ | ⟨hyes, a2, n2, c2, rfl, ho⟩
    · have NO := Lib.hid (edsOk_first q l hno)
      clear hno
      obtain ⟨k0, r0, hk0, hr0, hw0, hbef⟩ := NO.out
      have BEF := Lib.hid hbef
      clear hbef NO
      have hk0n : k0 < n := by have := HY.out.len; omega
      go_wp2
      go_loopw [7] (fun i wr => ∃ k d : Nat, k ≤ k0 ∧ i = .int .i64 k ∧ wr = w2.drewN d) (fun i _ => n - (intOf i).toNat)
      case atStart => exact ⟨0, 0, by omega, rfl, rfl⟩
      case round =>
        obtain ⟨k, d, hkk, rfl, rfl⟩ := hrel
        have hlt : k < n := by omega
        have HR := HY.out
        obtain ⟨r, hr⟩ : ∃ r, l[k]? = some r := ⟨l[k]'(by have := HR.len; omega), List.getElem?_eq_getElem _⟩
        rcases HR.at' with h0 | ⟨b, off, rfl, hbl, hcell⟩
        · omega
        obtain ⟨c0, c1, c2', c3, i0, i1, i2, i3⟩ := hcell k r hr
        clear HR hcell
        by_cases hkl : k < k0
        · have hin := of_decide_eq_true (BEF.out k r hkl hr)
          have d1 : decide (r.fq < 0) = false := decide_eq_false (by omega)
          have d2 : decide (r.tq < r.fq) = false := decide_eq_false (by omega)
          have d3 : decide ((q.size : Int) < r.tq) = false := decide_eq_false (by omega)
          clear hin
          go_wp2_with fail
          go_quiet (fail)
          go_wp2
          go_roundw
          case rel => exact ⟨k + 1, _, by omega, by go_num, rfl⟩
          case measure => simp [intOf]; omega
        · obtain rfl : k = k0 := by omega
          obtain rfl : r = r0 := by rw [hr0] at hr; exact (Option.some.inj hr).symm
          have hout := of_decide_eq_false hw0
          have h3 : (decide (r.fq < 0) = true) ∨ (decide (r.fq < 0) = false ∧ decide (r.tq < r.fq) = true) ∨ (decide (r.fq < 0) = false ∧ decide (r.tq < r.fq) = false ∧ decide ((q.size : Int) < r.tq) = true) := by
            rcases Int.lt_or_le r.fq 0 with g1 | g1
            · exact .inl (decide_eq_true g1)
            · rcases Int.lt_or_le r.tq r.fq with g2 | g2
              · exact .inr (.inl ⟨decide_eq_false (by omega), decide_eq_true g2⟩)
              · exact .inr (.inr ⟨decide_eq_false (by omega), decide_eq_false (by omega), decide_eq_true (by omega)⟩)
          clear hout hw0
          rcases h3 with d1 | ⟨d1, d2⟩ | ⟨d1, d2, d3⟩
          all_goals
            go_wp2_with fail
            go_quiet (fail)
            go_wp2_with fail
            refine (awake_any _).mono ?_
            rintro e w5 ⟨rfl, hb5⟩
            go_wp2
            go_ret
            exact ⟨rfl, hb2.trans ((below_drewN (Below.refl _ _) _).trans (hb5.mono (Nat.le_trans s2 (Nat.le_refl _))))⟩
    · have YES := Lib.hid (edsOk_has q l hyes)
      clear hyes
      obtain rfl : n2 = n := by have := ho.num; have := HY.out.len; simp at *; omega
      have HE : Hid (Recs 3 EdAt w2 a2 n2 c2 (l.map (edOf q))) := Lib.hid (ho.recs (by decide) (fun _ => rfl) EdAt (fun b o x _ hx => ⟨hx 0 _ rfl, hx 1 _ rfl, hx 2 _ rfl⟩))
      have hm2 := HE.out.most
      have hk2 := HE.out.cap
      clear ho
      go_wp2
      go_loopw [7] (fun i wr => ∃ k d : Nat, k ≤ n2 ∧ i = .int .i64 k ∧ wr = w2.drewN d) (fun i _ => n2 - (intOf i).toNat)
      case atStart => exact ⟨0, 0, by omega, rfl, rfl⟩
      case round =>
        obtain ⟨k, d, hkk, rfl, rfl⟩ := hrel
        by_cases hlt : k < n2
        · have HR := HY.out
          obtain ⟨r, hr⟩ : ∃ r, l[k]? = some r := ⟨l[k]'(by have := HR.len; omega), List.getElem?_eq_getElem _⟩
          rcases HR.at' with h0 | ⟨b, off, rfl, hbl, hcell⟩
          · omega
          obtain ⟨c0, c1, c2', c3, i0, i1, i2, i3⟩ := hcell k r hr
          clear HR hcell
          have hin := of_decide_eq_true (YES.out k r hr)
          have d1 : decide (r.fq < 0) = false := decide_eq_false (by omega)
          have d2 : decide (r.tq < r.fq) = false := decide_eq_false (by omega)
          have d3 : decide ((q.size : Int) < r.tq) = false := decide_eq_false (by omega)
          clear hin
          go_wp2_with fail
          go_quiet (fail)
          go_wp2
          go_roundw
          case rel => exact ⟨k + 1, _, by omega, by go_num, rfl⟩
          case measure => simp [intOf]; omega
        · obtain rfl : k = n2 := by omega
          go_wp2
          go_loopw [8] (fun i wr => ∃ j d : Nat, j ≤ k ∧ i = .int .i64 j ∧ wr = w2.drewN d) (fun i _ => k - (intOf i).toNat)
          case atStart => exact ⟨0, _, by omega, rfl, rfl⟩
          case round =>
            obtain ⟨j, d', hjk, rfl, rfl⟩ := hrel
            by_cases hlt : j < k
            · have HR := HY.out
              have HS := HE.out
              obtain ⟨r, hr⟩ : ∃ r, l[j]? = some r := ⟨l[j]'(by have := HR.len; omega), List.getElem?_eq_getElem _⟩
              rcases HR.at' with h0 | ⟨b, off, rfl, hbl, hcell⟩
              · omega
              rcases HS.at' with h0 | ⟨b', off', rfl, hbl', hcell'⟩
              · omega
              obtain ⟨c0, c1, c2', c3, i0, i1, i2, i3⟩ := hcell j r hr
              obtain ⟨e0, e1, e2⟩ := hcell' j (edOf q r) (by rw [List.getElem?_map, hr]; rfl)
              have hin := of_decide_eq_true (YES.out j r hr)
              clear HR hcell HS hcell'
              obtain ⟨rfp, rtp, rfq, rtq⟩ := r
              dsimp only [edOf] at hin c0 c1 c2' c3 e0 e1 e2
              obtain ⟨g, rfl⟩ := Int.eq_ofNat_of_zero_le (show 0 ≤ rfq by omega)
              obtain ⟨u, rfl⟩ := Int.eq_ofNat_of_zero_le (show 0 ≤ rtq by omega)
              have a3 : g ≤ u := by omega
              have a4 : u ≤ q.size := by omega
              simp only [Int.toNat_natCast] at e2
              have hTE := text_eq (q.extract g u) (q.extract g u)
              rw [decide_eq_true rfl] at hTE
              clear hin i0 i1 i2 i3
              go_wp2_with fail
              go_quiet (fail)
              go_wp2
              go_roundw
              case rel => exact ⟨j + 1, _, by omega, by go_num, rfl⟩
              case measure => simp [intOf]; omega
            · obtain rfl : j = k := by omega
              go_wp2_with fail
              refine (awake_any _).mono ?_
              rintro e w5 ⟨rfl, hb5⟩
              go_wp2
              go_ret
              exact ⟨rfl, hb2.trans ((below_drewN (Below.refl _ _) _).trans (hb5.mono (Nat.le_trans s2 (Nat.le_refl _))))⟩
end Go.Proofs.Ytiimleaphmjnhae.rg
