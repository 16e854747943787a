/-
  Layer 38: the statement on what corresponds.
-/
import Derived.Test.YtcncfljpbbpaoaaRegCheck2
import Derived.Test.YtcncfljpbbpaoaaRegSort
import Derived.Test.YtcncfljpbbpaoaaRegionOpen
namespace Go.Proofs.Ytcncfljpbbpaoaa.rg
open Go.ChangeShapes Go.WideShapes Go.ChangeAt Go.RowKit
open bs
set_option linter.unusedVariables false

set_option maxRecDepth 100000 in
theorem open_regs2 {H : Type} {enc : TypeId × Value → H} {w : World} {r : Reach} {b0 : Nat} {v : Value} {d : DataW H} {p : List MemPlace}
    (hv : Value.okWide Try.prog w r b0 28 v) (h : DataW.Trod enc Try.prog w 0 (fun _ => true) true 28 v d p) : ∃ a n c l, v = .slice a n c ∧ Recs 4 RegAt w a n c l := by
  obtain ⟨a, n, c, rfl⟩ := okWide_slice Try.underlying28 hv
  obtain ⟨fuel, hf⟩ := h
  obtain ⟨l, hl⟩ := open_regs hf
  exact ⟨a, n, c, l, rfl, hl⟩

set_option maxRecDepth 100000 in
set_option maxHeartbeats 2000000 in
theorem law_checks (p q : ByteArray) (a : Option Addr) (n c : Nat) (l : List Reg) (w : World) (h : Recs 4 RegAt w a n c l) (hp : p.size ≤ 140737488355328) (hq : q.size ≤ 140737488355328) :
    Calls Try.prog 6 #[.string p, .string q, .slice a n c] w fun e w' => e = .returned (.bool true) ∧ Below w.heap.size w w' := by
  have hm := h.most
  have hk := h.cap
  have HX := Lib.hid h; clear h
  by_cases hn : 100 < n
  · go_enter Try.func6, Try.ntmps6
    go_wp2_with fail
    refine (awake_any _).mono ?_
    rintro e w5 ⟨rfl, hb5⟩
    go_wp2
    go_ret
    exact ⟨rfl, hb5⟩
  · go_enter Try.func6, Try.ntmps6
    go_wp2_with fail
    refine (check_any p q a n c l w HX.out (by omega) (by omega)).mono ?_
    rintro e w1 ⟨rfl, hb1⟩
    have HB1 := Lib.hid hb1; have HX1 := Lib.hid (HX.out.below regStays hb1); have hs1 := hb1.size
    clear hb1
    go_wp2_with fail
    refine (rcheck_any p q a n c l w1 HX1.out (by omega) (by omega) (by omega)).mono ?_
    rintro e w2 ⟨rfl, hb2⟩
    have HB2 := Lib.hid (HB1.out.trans (hb2.mono hs1)); have HX2 := Lib.hid (HX1.out.below regStays hb2)
    have hs2 := HB2.out.size
    clear hb2
    have hct := chk_turn p q l
    have HCT := Lib.hid hct; clear hct
    have HST : Hid (chk p q l = 0 → Steps p q l) := chk_steps p q l
    obtain ⟨E, hE⟩ : ∃ E, chk p q l = E := ⟨_, rfl⟩
    rw [hE] at HCT HST ⊢
    clear hE
    go_wp2_with fail
    refine (turned_any a n c l w2 HX2.out (by omega)).mono ?_
    rintro e w3 ⟨a3, n3, c3, rfl, hr3, hb3⟩
    have HB3 := Lib.hid (HB2.out.trans (hb3.mono hs2)); have HR3 := Lib.hid hr3
    have HX3 := Lib.hid (HX2.out.below regStays hb3)
    have hs3 := HB3.out.size
    clear hr3 hb3
    go_wp2_with fail
    refine (check_any q p a3 n3 c3 (l.map turnR) w3 HR3.out (by omega) (by omega)).mono ?_
    rintro e w4 ⟨rfl, hb4⟩
    rw [HCT.out]
    have HB4 := Lib.hid (HB3.out.trans (hb4.mono hs3))
    have HX4 := Lib.hid (HX3.out.below regStays hb4)
    have hs4 := HB4.out.size
    clear hb4
    by_cases hz : E = 0
    · subst hz
      have HS := Lib.hid (HST.out rfl)
      go_wp2_with fail
      refine (edits_any q a n c l w4 HX4.out (by omega) (by omega)).mono ?_
      rintro e w5 ⟨hb5, hcase⟩
      rcases hcase with ⟨hno, rfl⟩ | ⟨hyes, a5, n5, c5, rfl, ho5⟩
      · rw [steps_ok HS.out] at hno; cases hno
      · have hn5 : n5 = n := by have := ho5.num; have := HX.out.len; simp at *; omega
        subst hn5
        have HB5 := Lib.hid (HB4.out.trans (hb5.mono hs4))
        have HR5 := Lib.hid (ed_recs ho5)
        have hc5 := HR5.out.cap; have hm5 := HR5.out.most
        have hs5 := HB5.out.size
        clear hb5 ho5 hyes
        go_wp2_with fail
        refine (apply_any p q l a5 n5 c5 w5 HR5.out HS.out (by omega) hp hq).mono ?_
        rintro e w6 ⟨rfl, hb6⟩
        have HB6 := Lib.hid (HB5.out.trans (hb6.mono hs5))
        have hs6 := HB6.out.size
        have hTE := text_eq q q
        rw [decide_eq_true rfl] at hTE
        clear hb6
        go_wp2_with fail
        refine (awake_any _).mono ?_
        rintro e w7 ⟨rfl, hb7⟩
        go_wp2
        go_ret
        exact ⟨rfl, HB6.out.trans (hb7.mono hs6)⟩
    · have d : (E != 0) = true := by rw [bne_iff_ne]; exact hz
      clear hz
      go_wp2_with fail
      refine (awake_any _).mono ?_
      rintro e w5 ⟨rfl, hb5⟩
      go_wp2
      go_ret
      exact ⟨rfl, HB4.out.trans (hb5.mono hs4)⟩
end Go.Proofs.Ytcncfljpbbpaoaa.rg
