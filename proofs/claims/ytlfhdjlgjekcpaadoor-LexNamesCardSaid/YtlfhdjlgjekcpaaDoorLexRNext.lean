/-
  Layer 5: the document's letters, digits and blanks, and its Next.
-/
import Derived.Test.YtlfhdjlgjekcpaaDoorLexRun
import Derived.Test.YtlfhdjlgjekcpaaDoorLexNext
namespace Go.Proofs.YtlfhdjlgjekcpaaDoor.lx
open Go.ChangeShapes Go.WideShapes Go.ChangeAt Go.RowKit
open bs
set_option linter.unusedVariables false

theorem rletter_any (c : Int) (w : World) : Calls Tryd.prog 24 #[.int .u8 c] w fun e w' => e = .returned (.bool (isL c)) ∧ w' = w := by
  by_cases hp : isL c = true
  · have hc := of_decide_eq_true hp
    by_cases h1 : (65 : Int) ≤ c <;> by_cases h2 : c ≤ 90 <;> by_cases h3 : (97 : Int) ≤ c <;> by_cases h4 : c ≤ 122 <;> by_cases h5 : c = 95 <;> (first | omega |
      (rw [hp]
       have H := Lib.hid hc; clear hc hp
       go_enter Tryd.func24, Tryd.ntmps24; go_wp2; go_ret; have hc := H.out; simp [h1, h2, h3, h4, h5]))
  · have hf : isL c = false := by simpa using hp
    have hc := of_decide_eq_false hf
    by_cases h1 : (65 : Int) ≤ c <;> by_cases h2 : c ≤ 90 <;> by_cases h3 : (97 : Int) ≤ c <;> by_cases h4 : c ≤ 122 <;> by_cases h5 : c = 95 <;> (first | omega |
      (rw [hf]
       have H := Lib.hid hc; clear hc hp hf
       go_enter Tryd.func24, Tryd.ntmps24; go_wp2; go_ret; have hc := H.out; simp [h1, h2, h3, h4, h5]))
theorem rdigit_any (c : Int) (w : World) : Calls Tryd.prog 27 #[.int .u8 c] w fun e w' => e = .returned (.bool (isD c)) ∧ w' = w := by
  unfold isD
  by_cases h1 : (48 : Int) ≤ c <;> by_cases h2 : c ≤ 57 <;>
    (go_enter Tryd.func27, Tryd.ntmps27; go_wp2; go_ret; simp [h1, h2])
theorem rblank_any (c : Int) (w : World) : Calls Tryd.prog 36 #[.int .u8 c] w fun e w' => e = .returned (.bool (isB c)) ∧ w' = w := by
  unfold isB
  by_cases h1 : c = 32 <;> by_cases h2 : c = 9 <;> by_cases h3 : c = 10 <;> by_cases h4 : c = 13 <;>
    (go_enter Tryd.func36, Tryd.ntmps36; go_wp2; go_ret; simp [h1, h2, h3, h4])

set_option maxRecDepth 100000 in
set_option maxHeartbeats 1000000 in
theorem begins_any (s : ByteArray) (i : Nat) (v : ByteArray) (w : World) (hi : i ≤ s.size) (hm : s.size ≤ 100000) (hv : v.size ≤ 100) :
    Calls Tryd.prog 37 #[.string s, .int .i64 i, .string v] w fun e w' => e = .returned (.bool (at' s i v)) ∧ w' = w := by
  by_cases h : i + v.size ≤ s.size
  · have d1 : decide ((v.size : Int) ≤ (s.size : Int) - i) = true := decide_eq_true (by omega)
    go_enter Tryd.func37, Tryd.ntmps37
    go_wp2
    go_ret
    refine ⟨?_, by trivial⟩
    show Ending.returned (.bool ((s.extract i (i + v.size)).toList == v.toList)) = _
    rw [text_eq]
    congr 2
    unfold at'
    rw [decide_eq_decide]
    exact ⟨fun e => ⟨h, e⟩, fun e => e.2⟩
  · have d1 : decide ((v.size : Int) ≤ (s.size : Int) - i) = false := decide_eq_false (by omega)
    go_enter Tryd.func37, Tryd.ntmps37
    go_wp2
    go_ret
    refine ⟨?_, by trivial⟩
    have e : at' s i v = false := decide_eq_false (fun x => h x.1)
    rw [e]
    rfl

theorem cc_eq' : (⟨#[47, 47]⟩ : ByteArray) = cc := rfl
set_option maxRecDepth 100000 in
set_option maxHeartbeats 2000000 in
theorem rnext_any (s : ByteArray) (i : Nat) (w : World) (hi : i ≤ s.size) (hm : s.size ≤ 100000) :
    Calls Tryd.prog 18 #[.string s, .int .i64 i] w fun e w' => e = .returned (.int .i64 (nx s i)) ∧ w' = w := by
  go_enter Tryd.func18, Tryd.ntmps18
  go_wp2
  go_loopw [1] (fun j wr => ∃ k : Nat, k ≤ s.size ∧ j = .int .i64 k ∧ wr = w ∧ Hid (nx s k = nx s i)) (fun j _ => s.size - (intOf j).toNat)
  case atStart => exact ⟨i, hi, rfl, rfl, Lib.hid rfl⟩
  case round =>
    obtain ⟨k, hk, rfl, rfl, HN⟩ := hrel
    by_cases hlt : k < s.size
    · go_wp2_with fail
      refine (rblank_any _ _).mono ?_
      rintro e w1 ⟨rfl, rfl⟩
      rw [b_at s k hlt]
      have HB := Lib.hid (b_at s k hlt)
      rcases Bool.eq_false_or_eq_true (isB (B s k)) with hb | hb
      · have HBk := Lib.hid hb
        rw [hb]
        clear hb
        go_wp2
        go_roundw
        case rel => exact ⟨k + 1, by omega, by go_num, by trivial, Lib.hid ((nx_blank hlt HBk.out).symm.trans HN.out)⟩
        case measure => simp [intOf]; omega
      · have HBk := Lib.hid hb
        rw [hb]
        clear hb
        go_wp2_with fail
        refine (begins_any s k ⟨#[47, 47]⟩ _ hk hm (by decide)).mono ?_
        rintro e w2 ⟨rfl, rfl⟩
        rw [cc_eq']
        rcases Bool.eq_false_or_eq_true (at' s k cc) with hc | hc
        · have HC := Lib.hid hc
          rw [hc]
          have h1 := cc_run HC.out
          have h2 := run_bd isC s k hk
          have H3 := Lib.hid ((nx_comment hlt HBk.out HC.out).symm.trans HN.out)
          clear hc
          obtain ⟨Wo, hWo⟩ : ∃ Wo, Wo = w2 := ⟨_, rfl⟩
          subst hWo
          go_wp2
          go_loopw [1] (fun j V => ∃ q : Nat, k ≤ q ∧ q ≤ s.size ∧ j = .int .i64 q ∧ V = Wo ∧ Hid (run isC s q = run isC s k)) (fun j _ => s.size - (intOf j).toNat)
          case atStart => exact ⟨k, by omega, hk, rfl, rfl, Lib.hid rfl⟩
          case round =>
            obtain ⟨q, hkq, hq, rfl, rfl, HR⟩ := hrel
            by_cases hql : q < s.size
            · have HBq := Lib.hid (b_at s q hql)
              rcases Bool.eq_false_or_eq_true (isC (B s q)) with hp | hp
              · have HP := Lib.hid hp
                have hne : B s q ≠ 10 := of_decide_eq_true hp
                have d1 : (((s[q]).toNat : Int) != 10) = true := by rw [b_at s q hql, bne_iff_ne]; exact hne
                clear hp hne
                go_wp2
                go_roundw
                case rel => exact ⟨q + 1, by omega, by omega, by go_num, by trivial, Lib.hid ((run_yes hql HP.out).symm.trans HR.out)⟩
                case measure => simp [intOf]; omega
              · have HP := Lib.hid hp
                have hne : B s q = 10 := Decidable.not_not.1 (of_decide_eq_false hp)
                have d1 : (((s[q]).toNat : Int) != 10) = false := by rw [b_at s q hql, bne_eq_false_iff_eq]; exact hne
                have hr := (run_no HP.out).symm.trans HR.out
                have HRq := Lib.hid hr
                clear hp hne hr
                rw [← HRq.out] at h1 H3
                go_wp2
                go_roundw
                case rel => exact ⟨q, by omega, rfl, by trivial, H3⟩
                case measure => simp [intOf]; omega
            · obtain rfl : q = s.size := by omega
              have HRq := Lib.hid ((run_end (p := isC) (Nat.le_refl s.size)).symm.trans HR.out)
              rw [← HRq.out] at h1 H3
              go_wp2
              go_roundw
              case rel => exact ⟨s.size, by omega, rfl, by trivial, H3⟩
              case measure => simp [intOf]; omega
        · have hst := nx_stop HBk.out hc
          rw [hc]
          have HST := Lib.hid (hst.symm.trans HN.out)
          clear hst hc
          go_wp2
          go_ret
          exact ⟨by rw [← HST.out]; rfl, by trivial⟩
    · obtain rfl : k = s.size := by omega
      have HE := Lib.hid ((nx_end (Nat.le_refl s.size)).symm.trans HN.out)
      go_wp2
      go_ret
      exact ⟨by rw [← HE.out]; rfl, by trivial⟩
end Go.Proofs.YtlfhdjlgjekcpaaDoor.lx
