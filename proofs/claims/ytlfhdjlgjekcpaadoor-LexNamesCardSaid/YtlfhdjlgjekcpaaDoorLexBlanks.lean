/-
  Layer 5: the scanner goes over blanks and comments; the document's Next.
-/
import Derived.Test.YtlfhdjlgjekcpaaDoorLexRun
import Derived.Test.YtlfhdjlgjekcpaaDoorLexNext
import Derived.BigQuiet
namespace Go.Proofs.YtlfhdjlgjekcpaaDoor.lx
open Go.ChangeShapes Go.WideShapes Go.ChangeAt Go.RowKit
open bs
set_option linter.unusedVariables false

theorem cc_eq : (⟨#[47, 47]⟩ : ByteArray) = cc := rfl
def BlP (sb : Nat) (s : ByteArray) (i : Nat) (w : World) (e : Ending) (w' : World) : Prop := e = .returned (.tuple #[]) ∧ Sc w' sb s (nx s i) ∧ Turned w w' sb none

set_option maxRecDepth 100000 in
set_option maxHeartbeats 2000000 in
theorem blanks_any (sb : Nat) (s : ByteArray) (i : Nat) (w : World) (hS : Sc w sb s i) (hi : i ≤ s.size) (hm : s.size ≤ 100000) :
    Calls Tryd.prog 16 #[.pointer (some ⟨sb, 0, none⟩)] w (BlP sb s i w) := by
  have HS := Lib.hid hS
  have hmf : ∀ (fn : Fn) (first cap : Array Value) (w : World), (Instr.makeFunc fn first cap).run Tryd.prog w = .ok (.func fn first cap) w := fun _ _ _ _ => rfl
  clear hS
  go_enter Tryd.func16, Tryd.ntmps16
  go_wp2
  go_loopw [2] (fun _ wr => ∃ k : Nat, k ≤ s.size ∧ Hid (Sc wr sb s k) ∧ Hid (Turned w wr sb none) ∧ Hid (nx s k = nx s i)) (fun _ wr => s.size - (intOf ((wr.cell? ⟨sb, 1, none⟩).getD undef)).toNat)
  case atStart => exact ⟨i, hi, HS, Lib.hid (Turned.refl _ _ _), Lib.hid rfl⟩
  case round =>
    clear HS
    obtain ⟨k, hk, HSr, HTr, HN⟩ := hrel
    have c0 : wr.cell? ⟨sb, 0, none⟩ = some (.string s) := by simpa using HSr.out.cell 0
    have c1 : wr.cell? ⟨sb, 1, none⟩ = some (.int .i64 k) := by simpa using HSr.out.cell 1
    by_cases hlt : k < s.size
    · have HB := Lib.hid (b_at s k hlt)
      go_wp2_with fail
      go_quiet (fail)
      have HS2 : Hid (Sc (wr.drewN nq) sb s k) := Lib.hid (HSr.out.drewN nq)
      have HT2 := Lib.hid (HTr.out.drewN nq)
      have m0 : (wr.cell? ⟨sb, 1, none⟩) = some (.int .i64 k) := c1
      have M0 := Lib.hid m0
      clear c0 c1 m0
      generalize wr.drewN nq = V at HS2 HT2 ⊢
      have c0 : V.cell? ⟨sb, 0, none⟩ = some (.string s) := by simpa using HS2.out.cell 0
      have c1 : V.cell? ⟨sb, 1, none⟩ = some (.int .i64 k) := by simpa using HS2.out.cell 1
      go_wp2_with fail
      go_quiet ((go_at_call 29; exact Calls.quiet_of_same (blank_any _ _)))
      rw [b_at s k hlt]
      have HS3 : Hid (Sc (V.drewN nq) sb s k) := Lib.hid (HS2.out.drewN nq)
      have HT3 := Lib.hid (HT2.out.drewN nq)
      clear c0 c1 HS2 HT2
      generalize V.drewN nq = V2 at HS3 HT3 ⊢
      have c0 : V2.cell? ⟨sb, 0, none⟩ = some (.string s) := by simpa using HS3.out.cell 0
      have c1 : V2.cell? ⟨sb, 1, none⟩ = some (.int .i64 k) := by simpa using HS3.out.cell 1
      have f1 : V2.frozen? ⟨sb, 1, none⟩ = false := HS3.out.free 1
      have fin : ∀ (k' : Nat), k < k' → k' ≤ s.size → nx s k' = nx s i → (∃ k : Nat, k ≤ s.size ∧ Hid (Sc (V2.setCell ⟨sb, 1, none⟩ (.int .i64 k')) sb s k) ∧ Hid (Turned w (V2.setCell ⟨sb, 1, none⟩ (.int .i64 k')) sb none) ∧ Hid (nx s k = nx s i)) ∧
          s.size - (intOf (((V2.setCell ⟨sb, 1, none⟩ (.int .i64 k')).cell? ⟨sb, 1, none⟩).getD undef)).toNat < s.size - (intOf ((wr.cell? ⟨sb, 1, none⟩).getD undef)).toNat := fun k' h1 h2 h3 => by
        have h4 : Sc (V2.setCell ⟨sb, 1, none⟩ (.int .i64 k')) sb s k' := by
          have := HS3.out.set 1 (.int .i64 k')
          simpa using this
        refine ⟨⟨k', h2, h4, HT3.out.setCell 1 _, h3⟩, ?_⟩
        have h5 : (V2.setCell ⟨sb, 1, none⟩ (.int .i64 k')).cell? ⟨sb, 1, none⟩ = some (.int .i64 k') := by simpa using h4.cell 1
        rw [h5, M0.out]
        simp [intOf]
        omega
      have FIN := Lib.hid fin
      clear fin
      rcases Bool.eq_false_or_eq_true (isB (B s k)) with hb | hb
      · have HBk := Lib.hid hb
        rw [hb]
        clear hb
        go_wp2
        have h := FIN.out (k + 1) (by omega) (by omega) ((nx_blank hlt HBk.out).symm.trans HN.out)
        have e : ((k + 1 : Nat) : Int) = (k : Int) + 1 := by omega
        rw [e] at h
        exact h
      · have HBk := Lib.hid hb
        rw [hb]
        clear hb
        go_wp2_with fail
        refine (starts_any sb s k ⟨#[47, 47]⟩ V2 HS3.out hk hm (by decide)).mono ?_
        rintro e w5 ⟨rfl, n5, rfl⟩
        rw [cc_eq]
        have HS5 : Hid (Sc (V2.drewN n5) sb s k) := Lib.hid (HS3.out.drewN n5)
        have HT5 := Lib.hid (HT3.out.drewN n5)
        clear c0 c1 f1 HS3 HT3 FIN
        generalize V2.drewN n5 = V3 at HS5 HT5 ⊢
        rcases Bool.eq_false_or_eq_true (at' s k cc) with hc | hc
        · have HC := Lib.hid hc
          rw [hc]
          clear hc
          go_wp2_with fail
          refine (run_any (on_comment sb) s k V3 HS5.out hk hm).mono ?_
          rintro e w6 ⟨rfl, rfl⟩
          have f1 : w6.frozen? ⟨sb, 1, none⟩ = false := HS5.out.free 1
          have c1 : w6.cell? ⟨sb, 1, none⟩ = some (.int .i64 k) := by simpa using HS5.out.cell 1
          have h1 := cc_run HC.out
          have h2 := run_bd isC s k hk
          have h3 := (nx_comment hlt HBk.out HC.out).symm.trans HN.out
          have H3 := Lib.hid h3
          obtain ⟨r, hr⟩ : ∃ r, run isC s k = r := ⟨_, rfl⟩
          rw [hr] at h1 h2 H3 ⊢
          clear h3 hr
          go_wp2
          have h4 : Sc (w6.setCell ⟨sb, 1, none⟩ (.int .i64 r)) sb s r := by
            have := HS5.out.set 1 (.int .i64 r)
            simpa using this
          refine ⟨⟨r, h2.2, h4, HT5.out.setCell 1 _, H3⟩, ?_⟩
          have h5 : (w6.setCell ⟨sb, 1, none⟩ (.int .i64 r)).cell? ⟨sb, 1, none⟩ = some (.int .i64 r) := by simpa using h4.cell 1
          rw [h5, M0.out]
          simp [intOf]
          omega
        · have hst := nx_stop HBk.out hc
          rw [hc]
          have HST := Lib.hid (hst.symm.trans HN.out)
          clear hst hc
          go_wp2
          go_end0
          exact ⟨rfl, by rw [← HST.out]; exact HS5.out, HT5.out⟩
    · obtain rfl : k = s.size := by omega
      have HE := Lib.hid ((nx_end (Nat.le_refl s.size)).symm.trans HN.out)
      go_wp2_with fail
      go_quiet (fail)
      go_wp2
      go_end0
      exact ⟨rfl, by rw [← HE.out]; exact HSr.out.drewN _, HTr.out.drewN _⟩
end Go.Proofs.YtlfhdjlgjekcpaaDoor.lx
