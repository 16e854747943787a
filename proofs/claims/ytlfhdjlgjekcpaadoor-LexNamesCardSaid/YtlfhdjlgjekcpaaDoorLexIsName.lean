/-
  Layer 5: is it a name?
-/
import Derived.Test.YtlfhdjlgjekcpaaDoorLexRNum
import Derived.Test.YtlfhdjlgjekcpaaDoorLexRun
namespace Go.Proofs.YtlfhdjlgjekcpaaDoor.lx
open Go.ChangeShapes Go.WideShapes Go.ChangeAt Go.RowKit
open bs
set_option linter.unusedVariables false

def nm (s : ByteArray) : Bool := decide (¬ s.size = 0 ∧ ¬ 16 < s.size ∧ isW s = false ∧ isL (B s 0) = true ∧ run isN s 0 = s.size)
theorem empty_of {s : ByteArray} (h : s.size = 0) : s = ⟨#[]⟩ := by
  apply ByteArray.ext
  exact Array.eq_empty_of_size_eq_zero h
theorem toList_ne {s : ByteArray} (h : ¬ s.size = 0) : (s.toList == []) = false := by
  rw [ByteArray.toList_eq, beq_eq_false_iff_ne]
  intro e
  apply h
  have : s.data.toList.length = 0 := by rw [e]; rfl
  rw [Array.length_toList] at this
  exact this

def NmP (b : Bool) (w : World) (e : Ending) (w' : World) : Prop := e = .returned (.bool b) ∧ Below w.heap.size w w'

set_option maxRecDepth 100000 in
set_option maxHeartbeats 2000000 in
theorem isname_any (s : ByteArray) (w : World) (hmax : s.size ≤ 9223372036854775807) : Calls Tryd.prog 12 #[.string s] w (NmP (nm s) w) := by
  by_cases h0 : s.size = 0
  · have e := empty_of h0
    subst e
    go_enter Tryd.func12, Tryd.ntmps12
    go_wp2
    go_ret
    exact ⟨rfl, Below.refl _ _⟩
  · have d0 := toList_ne h0
    by_cases h1 : 16 < s.size
    · have d1 : decide ((16 : Int) < s.size) = true := decide_eq_true (by omega)
      have HE : Hid (nm s = false) := Lib.hid (decide_eq_false (fun h => h.2.1 h1))
      clear h0 h1
      go_enter Tryd.func12, Tryd.ntmps12
      go_wp2
      go_ret
      rw [HE.out]
      exact ⟨rfl, Below.refl _ _⟩
    · have d1 : decide ((16 : Int) < s.size) = false := decide_eq_false (by omega)
      have hpos : 0 < s.size := by omega
      have HB := Lib.hid (b_at s 0 hpos)
      rcases Bool.eq_false_or_eq_true (isW s) with hw | hw
      · have HE : Hid (nm s = false) := Lib.hid (decide_eq_false (fun h => by rw [hw] at h; exact absurd h.2.2.1 (by decide)))
        clear h0 h1
        go_enter Tryd.func12, Tryd.ntmps12
        go_wp2_with fail
        refine (word_any s w).mono ?_
        rintro e w' ⟨rfl, rfl⟩
        rw [hw]
        go_wp2
        go_ret
        rw [HE.out]
        exact ⟨rfl, Below.refl _ _⟩
      · rcases Bool.eq_false_or_eq_true (isL (B s 0)) with hl | hl
        · have hbd := run_bd isN s 0 (by omega)
          have HE : Hid (nm s = decide (run isN s 0 = s.size)) := Lib.hid (by
            unfold nm
            rw [decide_eq_decide]
            exact ⟨fun h => h.2.2.2.2, fun h => ⟨h0, h1, hw, hl, h⟩⟩)
          have HS : Hid (Sc (w.alloc (.cells #[.string s, .int .i64 0] 36)) w.heap.size s 0) := Lib.hid (Blk.new w _ _)
          have HW := Lib.hid ((Below.refl w.heap.size w).alloc (Nat.le_refl _) (.cells #[.string s, .int .i64 0] 36))
          have hmf : ∀ (fn : Fn) (first cap : Array Value) (w : World), (Instr.makeFunc fn first cap).run Tryd.prog w = .ok (.func fn first cap) w := fun _ _ _ _ => rfl
          have hm : s.size ≤ 100000 := by omega
          clear h0 h1
          go_enter Tryd.func12, Tryd.ntmps12
          go_wp2_with fail
          refine (word_any s w).mono ?_
          rintro e w' ⟨rfl, rfl⟩
          rw [hw]
          go_wp2_with fail
          refine (letter_any _ w').mono ?_
          rintro e w1 ⟨rfl, rfl⟩
          rw [HB.out, hl]
          clear hw hl
          go_wp2_with fail
          refine (run_any (on_name w1.heap.size) s 0 _ HS.out (by omega) hm).mono ?_
          rintro e w2 ⟨rfl, rfl⟩
          obtain ⟨r, hr⟩ : ∃ r, run isN s 0 = r := ⟨_, rfl⟩
          rw [hr] at HE ⊢
          clear hr hbd
          have hd : ((r : Int) == (s.size : Int)) = decide (r = s.size) := by
            rw [Bool.eq_iff_iff, beq_iff_eq, decide_eq_true_eq]
            omega
          have HD := Lib.hid hd
          clear hd
          go_wp2
          go_ret
          rw [HE.out]
          refine ⟨?_, HW.out⟩
          show Ending.returned (.bool ((r : Int) == (s.size : Int))) = _
          rw [HD.out]
        · have HE : Hid (nm s = false) := Lib.hid (decide_eq_false (fun h => by rw [hl] at h; exact absurd h.2.2.2.1 (by decide)))
          clear h0 h1
          go_enter Tryd.func12, Tryd.ntmps12
          go_wp2_with fail
          refine (word_any s w).mono ?_
          rintro e w' ⟨rfl, rfl⟩
          rw [hw]
          go_wp2_with fail
          refine (letter_any _ w').mono ?_
          rintro e w1 ⟨rfl, rfl⟩
          rw [HB.out, hl]
          go_wp2
          go_ret
          rw [HE.out]
          exact ⟨rfl, Below.refl _ _⟩

set_option maxRecDepth 100000 in
set_option maxHeartbeats 2000000 in
theorem risname_any (s : ByteArray) (w : World) (hmax : s.size ≤ 9223372036854775807) : Calls Tryd.prog 13 #[.string s] w (NmP (nm s) w) := by
  by_cases h0 : s.size = 0
  · have e := empty_of h0
    subst e
    go_enter Tryd.func13, Tryd.ntmps13
    go_wp2
    go_ret
    exact ⟨rfl, Below.refl _ _⟩
  · have d0 : ((s.size : Int) == 0) = false := by rw [beq_eq_false_iff_ne]; omega
    by_cases h1 : 16 < s.size
    · have d1 : decide ((16 : Int) < s.size) = true := decide_eq_true (by omega)
      have HE : Hid (nm s = false) := Lib.hid (decide_eq_false (fun h => h.2.1 h1))
      clear h0 h1
      go_enter Tryd.func13, Tryd.ntmps13
      go_wp2
      go_ret
      rw [HE.out]
      exact ⟨rfl, Below.refl _ _⟩
    · have d1 : decide ((16 : Int) < s.size) = false := decide_eq_false (by omega)
      have hpos : 0 < s.size := by omega
      have HB := Lib.hid (b_at s 0 hpos)
      rcases Bool.eq_false_or_eq_true (isL (B s 0)) with hl | hl
      · rcases Bool.eq_false_or_eq_true (isW s) with hw | hw
        · have HE : Hid (nm s = false) := Lib.hid (decide_eq_false (fun h => by rw [hw] at h; exact absurd h.2.2.1 (by decide)))
          clear h0 h1
          go_enter Tryd.func13, Tryd.ntmps13
          go_wp2_with fail
          refine (rletter_any _ w).mono ?_
          rintro e w1 ⟨rfl, rfl⟩
          rw [HB.out, hl]
          go_wp2_with fail
          refine (words_any w1).mono ?_
          rintro e w2 ⟨rfl, hss, hb2⟩
          have HSS := Lib.hid hss; have HB2 := Lib.hid hb2
          clear hss hb2
          go_wp2_with fail
          refine (among_any s _ 20 20 wordB w2 HSS.out).mono ?_
          rintro e w3 ⟨rfl, rfl⟩
          rw [← isw_eq, hw]
          go_wp2
          go_ret
          rw [HE.out]
          exact ⟨rfl, HB2.out⟩
        · have HE : Hid (nm s = decide (run isN s 0 = s.size)) := Lib.hid (by
            unfold nm
            rw [decide_eq_decide]
            exact ⟨fun h => h.2.2.2.2, fun h => ⟨h0, h1, hw, hl, h⟩⟩)
          have hm : s.size ≤ 100000 := by omega
          clear h0 h1
          go_enter Tryd.func13, Tryd.ntmps13
          go_wp2_with fail
          refine (rletter_any _ w).mono ?_
          rintro e w1 ⟨rfl, rfl⟩
          rw [HB.out, hl]
          go_wp2_with fail
          refine (words_any w1).mono ?_
          rintro e w2 ⟨rfl, hss, hb2⟩
          have HSS := Lib.hid hss; have HB2 := Lib.hid hb2
          clear hss hb2
          go_wp2_with fail
          refine (among_any s _ 20 20 wordB w2 HSS.out).mono ?_
          rintro e w3 ⟨rfl, rfl⟩
          rw [← isw_eq, hw]
          clear hw hl
          go_wp2
          go_loopw [3] (fun j wr => ∃ k : Nat, k ≤ s.size ∧ j = .int .i64 k ∧ wr = w3 ∧ Hid (run isN s k = run isN s 0)) (fun j _ => s.size - (intOf j).toNat)
          case atStart => exact ⟨0, by omega, rfl, rfl, Lib.hid rfl⟩
          case round =>
            obtain ⟨k, hk, rfl, rfl, HR⟩ := hrel
            by_cases hlt : k < s.size
            · have HBk := Lib.hid (b_at s k hlt)
              go_wp2_with fail
              refine (rletter_any _ _).mono ?_
              rintro e w4 ⟨rfl, rfl⟩
              rw [HBk.out]
              rcases Bool.eq_false_or_eq_true (isL (B s k)) with hp | hp
              · have HP : Hid (isN (B s k) = true) := Lib.hid (by unfold isN; rw [hp]; rfl)
                rw [hp]
                clear hp
                go_wp2
                go_roundw
                case rel => exact ⟨k + 1, by omega, by go_num, by trivial, Lib.hid ((run_yes hlt HP.out).symm.trans HR.out)⟩
                case measure => simp [intOf]; omega
              · have HPL := Lib.hid hp
                rw [hp]
                clear hp
                go_wp2_with fail
                refine (rdigit_any _ _).mono ?_
                rintro e w5 ⟨rfl, rfl⟩
                rw [HBk.out]
                rcases Bool.eq_false_or_eq_true (isD (B s k)) with hq | hq
                · have HP : Hid (isN (B s k) = true) := Lib.hid (by unfold isN; rw [hq, Bool.or_true])
                  rw [hq]
                  clear hq
                  go_wp2
                  go_roundw
                  case rel => exact ⟨k + 1, by omega, by go_num, by trivial, Lib.hid ((run_yes hlt HP.out).symm.trans HR.out)⟩
                  case measure => simp [intOf]; omega
                · have HP : Hid (isN (B s k) = false) := Lib.hid (by unfold isN; rw [HPL.out, hq]; rfl)
                  have HF : Hid (nm s = false) := Lib.hid (by rw [HE.out, ← HR.out, run_no HP.out]; exact decide_eq_false (by omega))
                  rw [hq]
                  clear hq
                  go_wp2
                  go_ret
                  rw [HF.out]
                  exact ⟨rfl, HB2.out⟩
            · have d9 : decide ((k : Int) < s.size) = false := decide_eq_false (by omega)
              have HF : Hid (nm s = true) := Lib.hid (by rw [HE.out, ← HR.out, run_end (by omega)]; exact decide_eq_true (by omega))
              go_wp2
              go_ret
              rw [HF.out]
              exact ⟨rfl, HB2.out⟩
      · have HE : Hid (nm s = false) := Lib.hid (decide_eq_false (fun h => by rw [hl] at h; exact absurd h.2.2.2.1 (by decide)))
        clear h0 h1
        go_enter Tryd.func13, Tryd.ntmps13
        go_wp2_with fail
        refine (rletter_any _ w).mono ?_
        rintro e w1 ⟨rfl, rfl⟩
        rw [HB.out, hl]
        go_wp2
        go_ret
        rw [HE.out]
        exact ⟨rfl, Below.refl _ _⟩
end Go.Proofs.YtlfhdjlgjekcpaaDoor.lx
