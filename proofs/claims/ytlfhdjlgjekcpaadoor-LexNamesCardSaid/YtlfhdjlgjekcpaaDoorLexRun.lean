/-
  Layer 5: the scanner's walk over bytes.
-/
import Derived.Test.YtlfhdjlgjekcpaaDoorLexChar
namespace Go.Proofs.YtlfhdjlgjekcpaaDoor.lx
open Go.ChangeShapes Go.WideShapes Go.ChangeAt Go.RowKit
open bs
set_option linter.unusedVariables false

/-- A scanner at i of the text s. -/
abbrev Sc (w : World) (sb : Nat) (s : ByteArray) (i : Nat) : Prop := Blk w sb #[.string s, .int .i64 i] 36

structure GoesOn (F : Nat) (p : Int → Bool) (sb : Nat) : Prop where
  enters : ∀ args W, Sem.run Tryd.prog (callFunc F args) W = .ok (.enter F args) W
  does : ∀ (c : Int) (w : World), Calls Tryd.prog F #[.pointer (some ⟨sb, 0, none⟩), .int .u8 c] w fun e w' => e = .returned (.bool (p c)) ∧ w' = w

theorem on_name (sb : Nat) : GoesOn 23 isN sb := ⟨fun _ _ => rfl, fun c w => by
  by_cases hL : isL c = true
  · go_enter Tryd.func23, Tryd.ntmps23
    go_wp2_with fail
    refine (letter_any c w).mono ?_
    rintro e w' ⟨rfl, rfl⟩
    go_wp2
    go_ret
    simp [isN, hL]
  · have hL' : isL c = false := by simpa using hL
    go_enter Tryd.func23, Tryd.ntmps23
    go_wp2_with fail
    refine (letter_any c w).mono ?_
    rintro e w' ⟨rfl, rfl⟩
    go_wp2_with fail
    refine (digit_any c w').mono ?_
    rintro e w1 ⟨rfl, rfl⟩
    go_wp2
    go_ret
    simp [isN, hL']⟩
theorem on_number (sb : Nat) : GoesOn 41 isD sb := ⟨fun _ _ => rfl, fun c w => by
  go_enter Tryd.func41, Tryd.ntmps41
  go_wp2_with fail
  refine (digit_any c w).mono ?_
  rintro e w' ⟨rfl, rfl⟩
  go_wp2
  go_ret
  exact ⟨rfl, rfl⟩⟩
theorem on_comment (sb : Nat) : GoesOn 31 isC sb := ⟨fun _ _ => rfl, fun c w => by
  go_enter Tryd.func31, Tryd.ntmps31
  go_wp2
  go_ret
  refine ⟨?_, rfl⟩
  simp only [isC, bne]
  by_cases h : c = 10 <;> simp [h]⟩

set_option maxRecDepth 100000 in
set_option maxHeartbeats 1000000 in
theorem run_any {F : Nat} {p : Int → Bool} {sb : Nat} (hF : GoesOn F p sb) (s : ByteArray) (i : Nat) (w : World) (hS : Sc w sb s i) (hi : i ≤ s.size) (hm : s.size ≤ 100000) :
    Calls Tryd.prog 22 #[.pointer (some ⟨sb, 0, none⟩), .func (.func F) #[.pointer (some ⟨sb, 0, none⟩)] #[]] w fun e w' => e = .returned (.int .i64 (run p s i)) ∧ w' = w := by
  have c0 := hS.cell 0; have c1 := hS.cell 1
  simp at c0 c1
  have HF := Lib.hid hF
  clear hS hF
  go_enter Tryd.func22, Tryd.ntmps22
  go_wp2
  go_loopw [5] (fun j wr => ∃ k : Nat, k ≤ s.size ∧ j = .int .i64 k ∧ wr = w ∧ Hid (run p s k = run p s i)) (fun j _ => s.size - (intOf j).toNat)
  case atStart => exact ⟨i, hi, rfl, rfl, Lib.hid rfl⟩
  case round =>
    obtain ⟨k, hk, rfl, rfl, HR⟩ := hrel
    by_cases hlt : k < s.size
    · go_wp2_with fail
      rw [HF.out.enters, Oper.upon_enter]
      refine (HF.out.does _ _).mono ?_
      rintro e w1 ⟨rfl, rfl⟩
      rw [b_at s k hlt]
      have HB := Lib.hid (b_at s k hlt)
      by_cases hp : p (B s k) = true
      · have HP := Lib.hid hp
        rw [hp]
        clear hp
        go_wp2
        go_roundw
        case rel => exact ⟨k + 1, by omega, by go_num, by trivial, Lib.hid ((run_yes hlt HP.out).symm.trans HR.out)⟩
        case measure => simp [intOf]; omega
      · have hp' : p (B s k) = false := by simpa using hp
        have HP := Lib.hid hp'
        rw [hp']
        clear hp hp'
        go_wp2
        go_ret
        exact ⟨by rw [← HR.out, run_no HP.out]; rfl, by trivial⟩
    · obtain rfl : k = s.size := by omega
      go_wp2
      go_ret
      exact ⟨by rw [← HR.out, run_end (Nat.le_refl _)]; rfl, by trivial⟩

set_option maxRecDepth 100000 in
set_option maxHeartbeats 1000000 in
theorem starts_any (sb : Nat) (s : ByteArray) (i : Nat) (v : ByteArray) (w : World) (hS : Sc w sb s i) (hi : i ≤ s.size) (hm : s.size ≤ 100000) (hv : v.size ≤ 100) :
    Calls Tryd.prog 30 #[.pointer (some ⟨sb, 0, none⟩), .string v] w fun e w' => e = .returned (.bool (at' s i v)) ∧ ∃ m, w' = w.drewN m := by
  have c0 := hS.cell 0; have c1 := hS.cell 1
  simp at c0 c1
  clear hS
  by_cases h : i + v.size ≤ s.size
  · have d1 : decide ((i : Int) + v.size ≤ s.size) = true := decide_eq_true (by omega)
    have d2 : decide (i + v.size ≤ s.size) = true := decide_eq_true h
    go_enter Tryd.func30, Tryd.ntmps30
    go_wp2_with fail
    go_quiet (fail)
    go_wp2
    go_ret
    refine ⟨?_, _, rfl⟩
    show Ending.returned (.bool ((s.extract i (i + v.size)).toList == v.toList)) = _
    rw [text_eq]
    congr 2
    unfold at'
    rw [decide_eq_decide]
    exact ⟨fun e => ⟨h, e⟩, fun e => e.2⟩
  · have d1 : decide ((i : Int) + v.size ≤ s.size) = false := decide_eq_false (by omega)
    have d2 : decide (i + v.size ≤ s.size) = false := decide_eq_false h
    go_enter Tryd.func30, Tryd.ntmps30
    go_wp2_with fail
    go_quiet (fail)
    go_wp2
    go_ret
    refine ⟨?_, _, rfl⟩
    have e : at' s i v = false := decide_eq_false (fun x => h x.1)
    rw [e]
    rfl
end Go.Proofs.YtlfhdjlgjekcpaaDoor.lx
