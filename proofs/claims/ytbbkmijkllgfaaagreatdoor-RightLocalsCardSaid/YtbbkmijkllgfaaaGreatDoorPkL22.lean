import Derived.Test.YtbbkmijkllgfaaaGreatDoorProg
import Derived.BigQuiet
import Derived.Laws.Tables
import Derived.Deep.CutRange
import Derived.WalkSmall
import Derived.Lib.AtoiErrMem
import Derived.StillTailTactics
import Derived.Deep.RegionHeldLaw
import Derived.OwnWalk
import Derived.Test.YtbbkmijkllgfaaaGreatDoorPkL19
import Derived.Test.YtbbkmijkllgfaaaGreatDoorPkL20
import Derived.Test.YtbbkmijkllgfaaaGreatDoorPkL21
set_option maxRecDepth 100000
set_option maxHeartbeats 4000000
section
namespace Go.Proofs.YtbbkmijkllgfaaaGreatDoor.lx
open Go.ChangeShapes Go.WideShapes Go.ChangeAt Go.RowKit
open bs
set_option linter.unusedVariables false
theorem a26 (c : Int) (w : World) : Calls Tryz.prog 96 #[.int .u8 c] w fun e w' => e = .returned (.bool (isL c)) ∧ w' = w := by
  by_cases hp : isL c = true
  · have hc := of_decide_eq_true hp
    by_cases h1 : (65 : Int) ≤ c <;> by_cases h2 : c ≤ 90 <;> by_cases h3 : (97 : Int) ≤ c <;> by_cases h4 : c ≤ 122 <;> by_cases h5 : c = 95 <;> (first | omega |
      (rw [hp]
       have d5 : (c == 95) = decide (c = 95) := rfl
       have H := Lib.hid hc; clear hc hp
       go_enter Tryz.func96, Tryz.ntmps96; go_wp2; go_ret; have hc := H.out; simp [h1, h2, h3, h4, h5]))
  · have hf : isL c = false := by simpa using hp
    have hc := of_decide_eq_false hf
    by_cases h1 : (65 : Int) ≤ c <;> by_cases h2 : c ≤ 90 <;> by_cases h3 : (97 : Int) ≤ c <;> by_cases h4 : c ≤ 122 <;> by_cases h5 : c = 95 <;> (first | omega |
      (rw [hf]
       have H := Lib.hid hc; clear hc hp hf
       go_enter Tryz.func96, Tryz.ntmps96; go_wp2; go_ret; have hc := H.out; simp [h1, h2, h3, h4, h5]))
theorem a4c (c : Int) (w : World) : Calls Tryz.prog 98 #[.int .u8 c] w fun e w' => e = .returned (.bool (isD c)) ∧ w' = w := by
  unfold isD
  by_cases h1 : (48 : Int) ≤ c <;> by_cases h2 : c ≤ 57 <;>
    (go_enter Tryz.func98, Tryz.ntmps98; go_wp2; go_ret; simp [h1, h2])
theorem b62 (c : Int) (w : World) : Calls Tryz.prog 92 #[.int .u8 c] w fun e w' => e = .returned (.bool (isB c)) ∧ w' = w := by
  unfold isB
  by_cases h1 : c = 32 <;> by_cases h2 : c = 9 <;> by_cases h3 : c = 10 <;> by_cases h4 : c = 13 <;>
    (go_enter Tryz.func92, Tryz.ntmps92; go_wp2; go_ret; simp [h1, h2, h3, h4])
end Go.Proofs.YtbbkmijkllgfaaaGreatDoor.lx
namespace Go.Proofs.YtbbkmijkllgfaaaGreatDoor.lx
open Go.ChangeShapes Go.WideShapes Go.ChangeAt Go.RowKit
open bs
set_option linter.unusedVariables false
abbrev Sc (w : World) (sb : Nat) (s : ByteArray) (i : Nat) : Prop := Blk w sb #[.string s, .int .i64 i] 96
structure GoesOn (F : Nat) (p : Int → Bool) (sb : Nat) : Prop where
  enters : ∀ args W, Sem.run Tryz.prog (callFunc F args) W = .ok (.enter F args) W
  does : ∀ (c : Int) (w : World), Calls Tryz.prog F #[.pointer (some ⟨sb, 0, none⟩), .int .u8 c] w fun e w' => e = .returned (.bool (p c)) ∧ w' = w
set_option maxRecDepth 100000 in
theorem c5z (sb : Nat) : GoesOn 141 isN sb := ⟨fun _ _ => rfl, fun c w => by
  by_cases hL : isL c = true
  · go_enter Tryz.func141, Tryz.ntmps141
    go_wp2_with fail
    refine (a26 c w).mono ?_
    rintro e w' ⟨rfl, rfl⟩
    go_wp2
    go_ret
    simp [isN, hL]
  · have hL' : isL c = false := by simpa using hL
    go_enter Tryz.func141, Tryz.ntmps141
    go_wp2_with fail
    refine (a26 c w).mono ?_
    rintro e w' ⟨rfl, rfl⟩
    go_wp2_with fail
    refine (a4c c w').mono ?_
    rintro e w1 ⟨rfl, rfl⟩
    go_wp2
    go_ret
    simp [isN, hL']⟩
set_option maxRecDepth 100000 in
theorem b8f (sb : Nat) : GoesOn 143 isD sb := ⟨fun _ _ => rfl, fun c w => by
  go_enter Tryz.func143, Tryz.ntmps143
  go_wp2_with fail
  refine (a4c c w).mono ?_
  rintro e w' ⟨rfl, rfl⟩
  go_wp2
  go_ret
  exact ⟨rfl, rfl⟩⟩
set_option maxRecDepth 100000 in
theorem b4y (sb : Nat) : GoesOn 95 isC sb := ⟨fun _ _ => rfl, fun c w => by
  go_enter Tryz.func95, Tryz.ntmps95
  go_wp2
  go_ret
  refine ⟨?_, rfl⟩
  simp only [isC, bne]
  by_cases h : c = 10 <;> simp [h]⟩
set_option maxRecDepth 100000 in
set_option maxHeartbeats 1000000 in
theorem b1s {F : Nat} {p : Int → Bool} {sb : Nat} (hF : GoesOn F p sb) (s : ByteArray) (i : Nat) (w : World) (hS : Sc w sb s i) (hi : i ≤ s.size) (hm : s.size ≤ 100000) :
    Calls Tryz.prog 94 #[.pointer (some ⟨sb, 0, none⟩), .func (.func F) #[.pointer (some ⟨sb, 0, none⟩)] #[]] w fun e w' => e = .returned (.int .i64 (run p s i)) ∧ w' = w := by
  have c0 := hS.cell 0; have c1 := hS.cell 1
  simp at c0 c1
  have HF := Lib.hid hF
  clear hS hF
  go_enter Tryz.func94, Tryz.ntmps94
  go_wp2
  go_loopw [5] (fun j wr => ∃ k : Nat, k ≤ s.size ∧ j = .int .i64 k ∧ wr = w ∧ Hid (run p s k = run p s i)) (fun j _ => s.size - (intOf j).toNat)
  case atStart => exact ⟨i, hi, rfl, rfl, Lib.hid rfl⟩
  case round =>
    obtain ⟨k, hk, rfl, rfl, HR⟩ := hrel
    by_cases hlt : k < s.size
    · go_wp2_with fail
      rw [HF.out.enters, Oper.upon_enter]
      refine (HF.out.does _ _).mono ?_
      rintro e w1 ⟨rfl, rfl⟩
      rw [c4x s k hlt]
      have HB := Lib.hid (c4x s k hlt)
      by_cases hp : p (B s k) = true
      · have HP := Lib.hid hp
        rw [hp]
        clear hp
        go_wp2
        go_roundw
        case rel => exact ⟨k + 1, by omega, by go_num, by trivial, Lib.hid ((a42 hlt HP.out).symm.trans HR.out)⟩
        case measure => simp [intOf]; omega
      · have hp' : p (B s k) = false := by simpa using hp
        have HP := Lib.hid hp'
        rw [hp']
        clear hp hp'
        go_wp2
        go_ret
        exact ⟨by rw [← HR.out, run_no HP.out]; rfl, by trivial⟩
    · obtain rfl : k = s.size := by omega
      go_wp2
      go_ret
      exact ⟨by rw [← HR.out, c6d (Nat.le_refl _)]; rfl, by trivial⟩
set_option maxRecDepth 100000 in
set_option maxHeartbeats 1000000 in
theorem x4 (sb : Nat) (s : ByteArray) (i : Nat) (v : ByteArray) (w : World) (hS : Sc w sb s i) (hi : i ≤ s.size) (hm : s.size ≤ 100000) (hv : v.size ≤ 100) :
    Calls Tryz.prog 93 #[.pointer (some ⟨sb, 0, none⟩), .string v] w fun e w' => e = .returned (.bool (at' s i v)) ∧ ∃ m, w' = w.drewN m := by
  have c0 := hS.cell 0; have c1 := hS.cell 1
  simp at c0 c1
  clear hS
  by_cases h : i + v.size ≤ s.size
  · have d1 : decide ((i : Int) + v.size ≤ s.size) = true := decide_eq_true (by omega)
    have d2 : decide (i + v.size ≤ s.size) = true := decide_eq_true h
    go_enter Tryz.func93, Tryz.ntmps93
    go_wp2_with fail
    go_quiet (fail)
    go_wp2
    go_ret
    refine ⟨?_, _, rfl⟩
    show Ending.returned (.bool ((s.extract i (i + v.size)).toList == v.toList)) = _
    rw [text_eq]
    congr 2
    unfold at'
    rw [decide_eq_decide]
    exact ⟨fun e => ⟨h, e⟩, fun e => e.2⟩
  · have d1 : decide ((i : Int) + v.size ≤ s.size) = false := decide_eq_false (by omega)
    have d2 : decide (i + v.size ≤ s.size) = false := decide_eq_false h
    go_enter Tryz.func93, Tryz.ntmps93
    go_wp2_with fail
    go_quiet (fail)
    go_wp2
    go_ret
    refine ⟨?_, _, rfl⟩
    have e : at' s i v = false := decide_eq_false (fun x => h x.1)
    rw [e]
    rfl
end Go.Proofs.YtbbkmijkllgfaaaGreatDoor.lx
namespace Go.Proofs.YtbbkmijkllgfaaaGreatDoor.lx
open Go.ChangeShapes Go.WideShapes Go.ChangeAt Go.RowKit
open bs
set_option linter.unusedVariables false
theorem cc_eq : (⟨#[47, 47]⟩ : ByteArray) = cc := rfl
def BlP (sb : Nat) (s : ByteArray) (i : Nat) (w : World) (e : Ending) (w' : World) : Prop := e = .returned (.tuple #[]) ∧ Sc w' sb s (nx s i) ∧ Turned w w' sb none
set_option maxRecDepth 100000 in
set_option maxHeartbeats 2000000 in
theorem b4g (sb : Nat) (s : ByteArray) (i : Nat) (w : World) (hS : Sc w sb s i) (hi : i ≤ s.size) (hm : s.size ≤ 100000) :
    Calls Tryz.prog 60 #[.pointer (some ⟨sb, 0, none⟩)] w (BlP sb s i w) := by
  have HS := Lib.hid hS
  have hmf : ∀ (fn : Fn) (first cap : Array Value) (w : World), (Instr.makeFunc fn first cap).run Tryz.prog w = .ok (.func fn first cap) w := fun _ _ _ _ => rfl
  clear hS
  go_enter Tryz.func60, Tryz.ntmps60
  go_wp2
  go_loopw [2] (fun _ wr => ∃ k : Nat, k ≤ s.size ∧ Hid (Sc wr sb s k) ∧ Hid (Turned w wr sb none) ∧ Hid (nx s k = nx s i)) (fun _ wr => s.size - (intOf ((wr.cell? ⟨sb, 1, none⟩).getD undef)).toNat)
  case atStart => exact ⟨i, hi, HS, Lib.hid (Turned.refl _ _ _), Lib.hid rfl⟩
  case round =>
    clear HS
    obtain ⟨k, hk, HSr, HTr, HN⟩ := hrel
    have c0 : wr.cell? ⟨sb, 0, none⟩ = some (.string s) := by simpa using HSr.out.cell 0
    have c1 : wr.cell? ⟨sb, 1, none⟩ = some (.int .i64 k) := by simpa using HSr.out.cell 1
    by_cases hlt : k < s.size
    · have HB := Lib.hid (c4x s k hlt)
      go_wp2_with fail
      go_quiet (fail)
      have HS2 : Hid (Sc (wr.drewN nq) sb s k) := Lib.hid (HSr.out.drewN nq)
      have HT2 := Lib.hid (HTr.out.drewN nq)
      have m0 : (wr.cell? ⟨sb, 1, none⟩) = some (.int .i64 k) := c1
      have M0 := Lib.hid m0
      clear c0 c1 m0
      generalize wr.drewN nq = V at HS2 HT2 ⊢
      have c0 : V.cell? ⟨sb, 0, none⟩ = some (.string s) := by simpa using HS2.out.cell 0
      have c1 : V.cell? ⟨sb, 1, none⟩ = some (.int .i64 k) := by simpa using HS2.out.cell 1
      go_wp2_with fail
      go_quiet ((go_at_call 92; exact Calls.quiet_of_same (b62 _ _)))
      rw [c4x s k hlt]
      have HS3 : Hid (Sc (V.drewN nq) sb s k) := Lib.hid (HS2.out.drewN nq)
      have HT3 := Lib.hid (HT2.out.drewN nq)
      clear c0 c1 HS2 HT2
      generalize V.drewN nq = V2 at HS3 HT3 ⊢
      have c0 : V2.cell? ⟨sb, 0, none⟩ = some (.string s) := by simpa using HS3.out.cell 0
      have c1 : V2.cell? ⟨sb, 1, none⟩ = some (.int .i64 k) := by simpa using HS3.out.cell 1
      have f1 : V2.frozen? ⟨sb, 1, none⟩ = false := HS3.out.free 1
      have fin : ∀ (k' : Nat), k < k' → k' ≤ s.size → nx s k' = nx s i → (∃ k : Nat, k ≤ s.size ∧ Hid (Sc (V2.setCell ⟨sb, 1, none⟩ (.int .i64 k')) sb s k) ∧ Hid (Turned w (V2.setCell ⟨sb, 1, none⟩ (.int .i64 k')) sb none) ∧ Hid (nx s k = nx s i)) ∧
          s.size - (intOf (((V2.setCell ⟨sb, 1, none⟩ (.int .i64 k')).cell? ⟨sb, 1, none⟩).getD undef)).toNat < s.size - (intOf ((wr.cell? ⟨sb, 1, none⟩).getD undef)).toNat := fun k' h1 h2 h3 => by
        have h4 : Sc (V2.setCell ⟨sb, 1, none⟩ (.int .i64 k')) sb s k' := by
          have := HS3.out.set 1 (.int .i64 k')
          simpa using this
        refine ⟨⟨k', h2, h4, HT3.out.setCell 1 _, h3⟩, ?_⟩
        have h5 : (V2.setCell ⟨sb, 1, none⟩ (.int .i64 k')).cell? ⟨sb, 1, none⟩ = some (.int .i64 k') := by simpa using h4.cell 1
        rw [h5, M0.out]
        simp [intOf]
        omega
      have FIN := Lib.hid fin
      clear fin
      rcases Bool.eq_false_or_eq_true (isB (B s k)) with hb | hb
      · have HBk := Lib.hid hb
        rw [hb]
        clear hb
        go_wp2
        have h := FIN.out (k + 1) (by omega) (by omega) ((nx_blank hlt HBk.out).symm.trans HN.out)
        have e : ((k + 1 : Nat) : Int) = (k : Int) + 1 := by omega
        rw [e] at h
        exact h
      · have HBk := Lib.hid hb
        rw [hb]
        clear hb
        go_wp2_with fail
        refine (x4 sb s k ⟨#[47, 47]⟩ V2 HS3.out hk hm (by decide)).mono ?_
        rintro e w5 ⟨rfl, n5, rfl⟩
        rw [cc_eq]
        have HS5 : Hid (Sc (V2.drewN n5) sb s k) := Lib.hid (HS3.out.drewN n5)
        have HT5 := Lib.hid (HT3.out.drewN n5)
        clear c0 c1 f1 HS3 HT3 FIN
        generalize V2.drewN n5 = V3 at HS5 HT5 ⊢
        rcases Bool.eq_false_or_eq_true (at' s k cc) with hc | hc
        · have HC := Lib.hid hc
          rw [hc]
          clear hc
          go_wp2_with fail
          refine (b1s (b4y sb) s k V3 HS5.out hk hm).mono ?_
          rintro e w6 ⟨rfl, rfl⟩
          have f1 : w6.frozen? ⟨sb, 1, none⟩ = false := HS5.out.free 1
          have c1 : w6.cell? ⟨sb, 1, none⟩ = some (.int .i64 k) := by simpa using HS5.out.cell 1
          have h1 := b2a HC.out
          have h2 := a05 isC s k hk
          have h3 := (a28 hlt HBk.out HC.out).symm.trans HN.out
          have H3 := Lib.hid h3
          obtain ⟨r, hr⟩ : ∃ r, run isC s k = r := ⟨_, rfl⟩
          rw [hr] at h1 h2 H3 ⊢
          clear h3 hr
          go_wp2
          have h4 : Sc (w6.setCell ⟨sb, 1, none⟩ (.int .i64 r)) sb s r := by
            have := HS5.out.set 1 (.int .i64 r)
            simpa using this
          refine ⟨⟨r, h2.2, h4, HT5.out.setCell 1 _, H3⟩, ?_⟩
          have h5 : (w6.setCell ⟨sb, 1, none⟩ (.int .i64 r)).cell? ⟨sb, 1, none⟩ = some (.int .i64 r) := by simpa using h4.cell 1
          rw [h5, M0.out]
          simp [intOf]
          omega
        · have hst := nx_stop HBk.out hc
          rw [hc]
          have HST := Lib.hid (hst.symm.trans HN.out)
          clear hst hc
          go_wp2
          go_end0
          exact ⟨rfl, by rw [← HST.out]; exact HS5.out, HT5.out⟩
    · obtain rfl : k = s.size := by omega
      have HE := Lib.hid ((nx_end (Nat.le_refl s.size)).symm.trans HN.out)
      go_wp2_with fail
      go_quiet (fail)
      go_wp2
      go_end0
      exact ⟨rfl, by rw [← HE.out]; exact HSr.out.drewN _, HTr.out.drewN _⟩
end Go.Proofs.YtbbkmijkllgfaaaGreatDoor.lx
namespace Go.Proofs.YtbbkmijkllgfaaaGreatDoor.lx
open Go.ChangeShapes Go.WideShapes Go.ChangeAt Go.RowKit
open bs
set_option linter.unusedVariables false
theorem c2y (v : ByteArray) (w : World) : Calls Tryz.prog 142 #[.string v] w fun e w' => e = .returned (.bool (isW v)) ∧ w' = w := by
  go_enter Tryz.func142, Tryz.ntmps142
  go_wp2_with fail
  all_goals first
    | (exfalso; simp_all; done)
    | (go_ret
       refine ⟨?_, by trivial⟩
       show Ending.returned (.bool _) = _
       congr 2
       simp_all [isW, wordL])
end Go.Proofs.YtbbkmijkllgfaaaGreatDoor.lx
namespace Go.Proofs.YtbbkmijkllgfaaaGreatDoor.lx
open Go.ChangeShapes Go.WideShapes Go.ChangeAt Go.RowKit
open bs
set_option linter.unusedVariables false
set_option maxRecDepth 100000 in
set_option maxHeartbeats 2000000 in
theorem c1s (sb : Nat) (s : ByteArray) (i : Nat) (w : World) (hS : Sc w sb s i) (hi : i < s.size) (hm : s.size ≤ 100000) (hL : isL (B s i) = true) :
    Calls Tryz.prog 97 #[.pointer (some ⟨sb, 0, none⟩)] w (TP (on s i) w) := by
  have hmf : ∀ (fn : Fn) (first cap : Array Value) (w : World), (Instr.makeFunc fn first cap).run Tryz.prog w = .ok (.func fn first cap) w := fun _ _ _ _ => rfl
  have HW := Lib.hid (i7 w (.cells #[.int .i64 0, .int .i64 0, .string ⟨#[]⟩, .int .i64 0, .int .i64 0] 70))
  have HK : Hid (KB (w.alloc (.cells #[.int .i64 0, .int .i64 0, .string ⟨#[]⟩, .int .i64 0, .int .i64 0] 70)) w.heap.size tk0) := b22 w tk0
  have HS := Lib.hid (hS.below (i7 w (.cells #[.int .i64 0, .int .i64 0, .string ⟨#[]⟩, .int .i64 0, .int .i64 0] 70)))
  have hbd := a05 isN s i (by omega)
  have HL := Lib.hid hL
  clear hS hL
  go_enter Tryz.func97, Tryz.ntmps97
  go_upto_region 1 with fail
  generalize hWW : w.alloc (.cells #[.int .i64 0, .int .i64 0, .string ⟨#[]⟩, .int .i64 0, .int .i64 0] 70) = W at HW HK HS ⊢
  clear hWW
  go_wp2_with fail
  refine (b1s (c5z sb) s i W HS.out (by omega) hm).mono ?_
  rintro e w' ⟨rfl, rfl⟩
  have c0 : w'.cell? ⟨sb, 0, none⟩ = some (.string s) := by simpa using HS.out.cell 0
  have c1 : w'.cell? ⟨sb, 1, none⟩ = some (.int .i64 i) := by simpa using HS.out.cell 1
  obtain ⟨r, hr⟩ : ∃ r, run isN s i = r := ⟨_, rfl⟩
  rw [hr] at hbd ⊢
  have HR := Lib.hid hr
  have hcut : (s.extract i r).size = r - i := a7t s i r hbd.1 hbd.2
  have HCUT := Lib.hid hcut
  obtain ⟨hb1, hb2⟩ := hbd
  clear hr hcut
  go_wp2_with fail
  go_quiet (fail)
  have HK2 := Lib.hid (HK.out.drewN nq); have HS2 : Hid (Sc (w'.drewN nq) sb s i) := Lib.hid (HS.out.drewN nq)
  have HB2 := Lib.hid (below_drewN HW.out nq)
  clear c0 c1 HK HS HW
  generalize w'.drewN nq = V at HK2 HS2 HB2 ⊢
  have c1 : V.cell? ⟨sb, 1, none⟩ = some (.int .i64 i) := by simpa using HS2.out.cell 1
  obtain ⟨v, hv⟩ : ∃ v, s.extract i r = v := ⟨_, rfl⟩
  rw [hv]
  have HV := Lib.hid hv
  by_cases hlong : 16 < r - i
  · have d1 : decide ((16 : Int) < v.size) = true := decide_eq_true (by rw [← hv, HCUT.out]; omega)
    have HLONG := Lib.hid hlong
    clear hlong hv
    go_wp2_with (refine j4 rfl _ _ rfl rfl HK2.out tk0 rfl ?_)
    intro w5 hv5 ho5
    have HV5 := Lib.hid hv5; have HB5 := Lib.hid (HB2.out.trans (ho5.below (Nat.le_refl _)))
    clear ho5
    go_wp2
    try simp only [Exit.inBlock, Exit.then]
    refine bodyPost_ret (i8 rfl _ _ w.heap.size _ _ _ rfl hv5 Tryz.underlying70 rfl (by kernel_rfl)) rfl ?_
    have e : on s i = (tk0, 3) := b9o HL.out (by rw [HR.out]; exact HLONG.out)
    rw [e]
    exact ⟨rfl, HB5.out⟩
  · have d1 : decide ((16 : Int) < v.size) = false := decide_eq_false (by rw [← hv, HCUT.out]; omega)
    have HLONG := Lib.hid hlong
    clear hlong hv
    go_wp2_with fail
    refine (c2y v V).mono ?_
    rintro e V' ⟨rfl, rfl⟩
    have fin : ∀ (kk : Int) (w5 : World), kk = (if isW v = true then 3 else 1) → KB w5 w.heap.size ⟨kk, 0, v, i, r⟩ → Only V' w5 w.heap.size → TP (on s i) w (.returned (.tuple #[(⟨kk, 0, v, i, r⟩ : Tk).val, .int .i64 0])) w5 := fun kk w5 hkk h5 ho5 => by
      have e : on s i = _ := b9p HL.out (by rw [HR.out]; exact HLONG.out)
      rw [e, HR.out, HV.out, ← hkk]
      exact ⟨rfl, HB2.out.trans (ho5.below (Nat.le_refl _))⟩
    have FIN := Lib.hid fin
    clear fin
    rcases Bool.eq_false_or_eq_true (isW v) with hw | hw
    · rw [hw]
      have HWv := Lib.hid hw
      clear hw
      go_wp2_with (refine j4 rfl _ _ rfl rfl HK2.out ⟨3, 0, v, i, r⟩ rfl ?_)
      intro w5 hv5 ho5
      have HO5 := Lib.hid ho5
      clear ho5
      go_wp2
      try simp only [Exit.inBlock, Exit.then]
      refine bodyPost_ret (i8 rfl _ _ w.heap.size _ _ _ rfl hv5 Tryz.underlying70 rfl (by kernel_rfl)) rfl ?_
      exact FIN.out 3 w5 (by rw [HWv.out]; rfl) hv5 HO5.out
    · rw [hw]
      have HWv := Lib.hid hw
      clear hw
      go_wp2_with (refine j4 rfl _ _ rfl rfl HK2.out ⟨1, 0, v, i, r⟩ rfl ?_)
      intro w5 hv5 ho5
      have HO5 := Lib.hid ho5
      clear ho5
      go_wp2
      try simp only [Exit.inBlock, Exit.then]
      refine bodyPost_ret (i8 rfl _ _ w.heap.size _ _ _ rfl hv5 Tryz.underlying70 rfl (by kernel_rfl)) rfl ?_
      exact FIN.out 1 w5 (by rw [HWv.out]; rfl) hv5 HO5.out
end Go.Proofs.YtbbkmijkllgfaaaGreatDoor.lx
namespace Go.Proofs.YtbbkmijkllgfaaaGreatDoor.lx
open Go.ChangeShapes Go.WideShapes Go.ChangeAt Go.RowKit
open bs
set_option linter.unusedVariables false
structure Gl (w : World) : Prop where
  syn : ∃ tp p, w.var? Tryz.prog "strconv.ErrSyntax" = some #[.iface tp p]
  rng : ∃ tp p, w.var? Tryz.prog "strconv.ErrRange" = some #[.iface tp p]
  tab : Lib.TabIs Tryz.prog w "internal/strconv.uint64pow10" .u64 Lib.pow10Tab
theorem a70 {w w' : World} {n : String} {cs : Array Value} (h : w.var? Tryz.prog n = some cs) (hb : Below w.heap.size w w') : w'.var? Tryz.prog n = some cs := by
  unfold World.var? at h ⊢
  cases hg : Tryz.prog.globalNamed n with
  | none => simp [hg] at h
  | some g =>
    simp only [hg, Option.bind_some] at h ⊢
    have hlt : g < w.heap.size := by
      rcases Nat.lt_or_ge g w.heap.size with h' | h'
      · exact h'
      · simp [Array.getElem?_eq_none h'] at h
    rw [hb.block g hlt]
    exact h
theorem Gl.below {w w' : World} (h : Gl w) (hb : Below w.heap.size w w') : Gl w' := by
  obtain ⟨⟨a, b, h1⟩, ⟨c, d, h2⟩, h3⟩ := h
  exact ⟨⟨a, b, a70 h1 hb⟩, ⟨c, d, a70 h2 hb⟩, a70 h3 hb⟩
theorem b8i (v : ByteArray) (w : World) (hG : Gl w) (hd : Dig v.data.toList) (hne : v.size ≠ 0) (hm : v.size ≤ 100000) :
    Calls Tryz.prog 144 #[.string v, .int .i64 10, .int .i64 64] w fun e w' => Below w.heap.size w w' ∧ ((∃ n : Int, c1t 0 (txt v) = some n ∧ e = .returned (.tuple #[.int .i64 n, .nilIface])) ∨ (c1t 0 (txt v) = none ∧ ∃ (z : Int) (tp : TypeId) (p : Value), e = .returned (.tuple #[.int .i64 z, .iface tp p]))) := by
  rcases c2o v hd hne with ⟨n, h1, h2⟩ | ⟨h1, h2⟩
  · refine (Tryz.strconv_ParseInt_10_at64_ok v (by omega) n h1 w).mono ?_
    rintro e w' ⟨rfl, hw⟩
    refine ⟨?_, .inl ⟨n, h2, rfl⟩⟩
    rcases hw with rfl | ⟨t, rfl⟩
    · exact Below.refl _ _
    · exact Lib.bytesWorld_below _ _ _
  · obtain ⟨tp, p, hv⟩ := hG.rng
    refine (Tryz.strconv_ParseInt_10_at64_range_var v (by omega) h1 tp p w hv).mono ?_
    rintro e w' ⟨N, rfl, _, _, hb⟩
    exact ⟨hb, .inr ⟨h2, _, _, _, rfl⟩⟩
set_option maxRecDepth 100000 in
set_option maxHeartbeats 2000000 in
theorem b4x (sb : Nat) (s : ByteArray) (i : Nat) (w : World) (hG : Gl w) (hS : Sc w sb s i) (hi : i < s.size) (hm : s.size ≤ 100000) (hL : isL (B s i) = false) (hD : isD (B s i) = true) :
    Calls Tryz.prog 99 #[.pointer (some ⟨sb, 0, none⟩)] w (TP (on s i) w) := by
  have hmf : ∀ (fn : Fn) (first cap : Array Value) (w : World), (Instr.makeFunc fn first cap).run Tryz.prog w = .ok (.func fn first cap) w := fun _ _ _ _ => rfl
  have HW := Lib.hid (i7 w (.cells #[.int .i64 0, .int .i64 0, .string ⟨#[]⟩, .int .i64 0, .int .i64 0] 70))
  have HK : Hid (KB (w.alloc (.cells #[.int .i64 0, .int .i64 0, .string ⟨#[]⟩, .int .i64 0, .int .i64 0] 70)) w.heap.size tk0) := b22 w tk0
  have HS := Lib.hid (hS.below (i7 w (.cells #[.int .i64 0, .int .i64 0, .string ⟨#[]⟩, .int .i64 0, .int .i64 0] 70)))
  have HG := Lib.hid (hG.below (i7 w (.cells #[.int .i64 0, .int .i64 0, .string ⟨#[]⟩, .int .i64 0, .int .i64 0] 70)))
  have hbd := a05 isD s i (by omega)
  have hlt : i < run isD s i := by
    rw [a42 hi hD]
    have := a05 isD s (i + 1) (by omega)
    omega
  have HL := Lib.hid hL; have HD := Lib.hid hD
  have HDIG := Lib.hid (c44 (s := s) (i := i) (by omega))
  clear hS hL hD hG
  go_enter Tryz.func99, Tryz.ntmps99
  go_upto_region 1 with fail
  generalize hWW : w.alloc (.cells #[.int .i64 0, .int .i64 0, .string ⟨#[]⟩, .int .i64 0, .int .i64 0] 70) = W at HW HK HS HG ⊢
  clear hWW
  go_wp2_with fail
  refine (b1s (b8f sb) s i W HS.out (by omega) hm).mono ?_
  rintro e w' ⟨rfl, rfl⟩
  have c0 : w'.cell? ⟨sb, 0, none⟩ = some (.string s) := by simpa using HS.out.cell 0
  have c1 : w'.cell? ⟨sb, 1, none⟩ = some (.int .i64 i) := by simpa using HS.out.cell 1
  obtain ⟨r, hr⟩ : ∃ r, run isD s i = r := ⟨_, rfl⟩
  rw [hr] at hbd hlt HDIG ⊢
  have HR := Lib.hid hr
  have hcut : (s.extract i r).size = r - i := a7t s i r hbd.1 hbd.2
  have HCUT := Lib.hid hcut
  obtain ⟨hb1, hb2⟩ := hbd
  clear hr hcut
  go_wp2_with fail
  go_quiet (fail)
  have HK2 := Lib.hid (HK.out.drewN nq); have HS2 : Hid (Sc (w'.drewN nq) sb s i) := Lib.hid (HS.out.drewN nq)
  have HB2 := Lib.hid (below_drewN HW.out nq); have HG2 := Lib.hid (HG.out.below (below_drewN (Below.refl _ _) nq))
  clear c0 c1 HK HS HW HG
  generalize w'.drewN nq = V at HK2 HS2 HB2 HG2 ⊢
  obtain ⟨v, hv⟩ : ∃ v, s.extract i r = v := ⟨_, rfl⟩
  rw [hv] at HDIG HCUT ⊢
  have HV := Lib.hid hv
  have hvs : 0 < v.size := by have := HCUT.out; omega
  have HVS := Lib.hid hvs
  clear hv hvs
  go_wp2_with fail
  refine (b8i v V HG2.out HDIG.out (by have := HVS.out; omega) (by have := HCUT.out; omega)).mono ?_
  rintro e w3 ⟨hb3, hcase⟩
  have HK3 := Lib.hid (HK2.out.below hb3); have HS3 := Lib.hid (HS2.out.below hb3); have HB3 := Lib.hid (HB2.out.trans (hb3.mono HB2.out.size))
  have c1 : w3.cell? ⟨sb, 1, none⟩ = some (.int .i64 i) := by simpa using HS3.out.cell 1
  have hv0 : 0 < v.size := HVS.out
  have e0 := c4x v 0 hv0
  clear hb3 HK2 HS2 HB2 HG2
  have bad : ∀ w5, num v = none → KB w5 w.heap.size tk0 → Only w3 w5 w.heap.size → TP (on s i) w (.returned (.tuple #[tk0.val, .int .i64 5])) w5 := fun w5 hn h5 ho5 => by
    have e : on s i = (tk0, 5) := b3r HL.out HD.out (by rw [HR.out, HV.out]; exact hn)
    rw [e]
    exact ⟨rfl, HB3.out.trans (ho5.below (Nat.le_refl _))⟩
  have BAD := Lib.hid bad
  clear bad
  rcases hcase with ⟨n, hn, rfl⟩ | ⟨hn, z, tp, p, rfl⟩
  · by_cases h0 : 1 < v.size ∧ B v 0 = 48
    · have d1 : decide ((1 : Int) < v.size) = true := decide_eq_true (by omega)
      have d2 : (((v[0]).toNat : Int) == 48) = true := by rw [e0, h0.2]; rfl
      have HN : Hid (num v = none) := Lib.hid (by unfold num; rw [if_pos (.inr h0)])
      clear h0 e0 hn
      go_wp2_with (refine j4 rfl _ _ rfl rfl HK3.out tk0 rfl ?_)
      intro w5 hv5 ho5
      have HO5 := Lib.hid ho5
      clear ho5
      go_wp2
      try simp only [Exit.inBlock, Exit.then]
      refine bodyPost_ret (i8 rfl _ _ w.heap.size _ _ _ rfl hv5 Tryz.underlying70 rfl (by kernel_rfl)) rfl ?_
      exact BAD.out w5 HN.out hv5 HO5.out
    · have HN : Hid (num v = some n) := Lib.hid (by unfold num; rw [if_neg (by rintro (h | h); omega; exact h0 h)]; exact hn)
      have good : ∀ w5, KB w5 w.heap.size ⟨2, n, ⟨#[]⟩, i, r⟩ → Only w3 w5 w.heap.size → TP (on s i) w (.returned (.tuple #[(⟨2, n, ⟨#[]⟩, i, r⟩ : Tk).val, .int .i64 0])) w5 := fun w5 h5 ho5 => by
        have e : on s i = _ := a9t HL.out HD.out (by rw [HR.out, HV.out]; exact HN.out)
        rw [e, HR.out]
        exact ⟨rfl, HB3.out.trans (ho5.below (Nat.le_refl _))⟩
      have GOOD := Lib.hid good
      clear good hn
      by_cases h1 : B v 0 = 48
      · have d2 : (((v[0]).toNat : Int) == 48) = true := by rw [e0, h1]; rfl
        have d1 : decide ((1 : Int) < v.size) = false := decide_eq_false (fun h => h0 ⟨by omega, h1⟩)
        clear h0 h1 e0
        go_wp2_with (refine j4 rfl _ _ rfl rfl HK3.out ⟨2, n, ⟨#[]⟩, i, r⟩ rfl ?_)
        intro w5 hv5 ho5
        have HO5 := Lib.hid ho5
        clear ho5
        go_wp2
        try simp only [Exit.inBlock, Exit.then]
        refine bodyPost_ret (i8 rfl _ _ w.heap.size _ _ _ rfl hv5 Tryz.underlying70 rfl (by kernel_rfl)) rfl ?_
        exact GOOD.out w5 hv5 HO5.out
      · have d2 : (((v[0]).toNat : Int) == 48) = false := by rw [e0, beq_eq_false_iff_ne]; exact h1
        clear h0 h1 e0
        go_wp2_with (refine j4 rfl _ _ rfl rfl HK3.out ⟨2, n, ⟨#[]⟩, i, r⟩ rfl ?_)
        intro w5 hv5 ho5
        have HO5 := Lib.hid ho5
        clear ho5
        go_wp2
        try simp only [Exit.inBlock, Exit.then]
        refine bodyPost_ret (i8 rfl _ _ w.heap.size _ _ _ rfl hv5 Tryz.underlying70 rfl (by kernel_rfl)) rfl ?_
        exact GOOD.out w5 hv5 HO5.out
  · have HN : Hid (num v = none) := Lib.hid (by
      unfold num
      split
      · rfl
      · exact hn)
    clear hn e0
    go_wp2_with (refine j4 rfl _ _ rfl rfl HK3.out tk0 rfl ?_)
    intro w5 hv5 ho5
    have HO5 := Lib.hid ho5
    clear ho5
    go_wp2
    try simp only [Exit.inBlock, Exit.then]
    refine bodyPost_ret (i8 rfl _ _ w.heap.size _ _ _ rfl hv5 Tryz.underlying70 rfl (by kernel_rfl)) rfl ?_
    exact BAD.out w5 HN.out hv5 HO5.out
end Go.Proofs.YtbbkmijkllgfaaaGreatDoor.lx
namespace Go.Proofs.YtbbkmijkllgfaaaGreatDoor.lx
open Go.ChangeShapes Go.WideShapes Go.ChangeAt Go.RowKit
open bs
set_option linter.unusedVariables false
def oneI : List Int := [123, 125, 40, 41, 91, 93, 44, 59, 58, 46, 61, 60, 62, 43, 45, 42, 47, 37, 33, 64]
theorem c50 (c : Int) : oneL.any (fun b => c == (b.toNat : Int)) = oneI.any (fun z => c == z) := by
  have e : oneI = oneL.map (fun b => (b.toNat : Int)) := by decide
  rw [e, List.any_map]
  rfl
theorem a6k {s : ByteArray} {i : Nat} {l : List UInt8} (hl : l ∈ a9x) (h : at' s i (mkB l) = true) : sgN s i = 2 := by
  unfold sgN
  rw [if_pos (List.any_eq_true.2 ⟨l, hl, h⟩)]
theorem sg_one {s : ByteArray} {i : Nat} (h : ∀ l ∈ a9x, at' s i (mkB l) = false) : sgN s i = if oneI.any (fun z => B s i == z) = true then 1 else 0 := by
  unfold sgN
  rw [if_neg (fun hc => by
    rw [List.any_eq_true] at hc
    obtain ⟨l, hl, hc⟩ := hc
    rw [h l hl] at hc
    cases hc), c50]
set_option maxRecDepth 100000 in
set_option maxHeartbeats 8000000 in
theorem c2k (sb : Nat) (s : ByteArray) (i : Nat) (w : World) (hS : Sc w sb s i) (hi : i < s.size) (hm : s.size ≤ 100000) :
    Calls Tryz.prog 100 #[.pointer (some ⟨sb, 0, none⟩)] w fun e w' => e = .returned (.int .i64 (sgN s i : Nat)) ∧ ∃ d, w' = w.drewN d := by
  have HS := Lib.hid hS
  clear hS
  go_enter Tryz.func100, Tryz.ntmps100
  go_wp2
  go_loopw [4, 6] (fun _ j wr => ∃ (k d : Nat), k ≤ 6 ∧ j = .int .i64 k ∧ wr = w.drewN d ∧ Hid (∀ l, l ∈ a9x.take k → at' s i (mkB l) = false)) (fun _ j _ => 6 - (intOf j).toNat)
  case atStart => exact ⟨0, 0, by omega, rfl, rfl, Lib.hid (fun l hl => by simp at hl)⟩
  case round =>
    obtain ⟨k, d, hk, rfl, rfl, HN⟩ := hrel
    have hk6 : k = 0 ∨ k = 1 ∨ k = 2 ∨ k = 3 ∨ k = 4 ∨ k = 5 ∨ k = 6 := by omega
    rcases hk6 with rfl | rfl | rfl | rfl | rfl | rfl | rfl
    · have hidx : ∀ W : World, (Instr.index 146 (.agg #[.string ⟨#[61, 61]⟩, .string ⟨#[33, 61]⟩, .string ⟨#[60, 61]⟩, .string ⟨#[62, 61]⟩, .string ⟨#[38, 38]⟩, .string ⟨#[124, 124]⟩]) (.int .i64 0)).run Tryz.prog W = .ok (.string ⟨#[61, 61]⟩) W := fun W => by
        simp [Instr.index, asIntOf, Tryz.underlying146, go_sem]
      go_wp2_with fail
      refine (x4 sb s i ⟨#[61, 61]⟩ _ (HS.out.drewN d) (by omega) hm (by decide)).mono ?_
      rintro e w1 ⟨rfl, d1, rfl⟩
      rcases Bool.eq_false_or_eq_true (at' s i ⟨#[61, 61]⟩) with hc | hc
      · have HC : Hid (sgN s i = 2) := Lib.hid (a6k (l := [61, 61]) (by decide) hc)
        rw [hc]
        clear hc
        go_wp2
        go_ret
        exact ⟨by rw [HC.out]; rfl, _, rfl⟩
      · have HC : Hid (∀ l, l ∈ a9x.take (0 + 1) → at' s i (mkB l) = false) := Lib.hid (fun l hl => by
          rw [List.take_add_one, List.mem_append] at hl
          rcases hl with hl | hl
          · exact HN.out l hl
          · have e : l = [61, 61] := by simpa [a9x] using hl
            rw [e]; exact hc)
        rw [hc]
        clear hc
        go_wp2
        go_roundw
        case rel => exact ⟨0 + 1, _, by omega, by go_num, rfl, HC⟩
        case measure => simp [intOf]
    · have hidx : ∀ W : World, (Instr.index 146 (.agg #[.string ⟨#[61, 61]⟩, .string ⟨#[33, 61]⟩, .string ⟨#[60, 61]⟩, .string ⟨#[62, 61]⟩, .string ⟨#[38, 38]⟩, .string ⟨#[124, 124]⟩]) (.int .i64 1)).run Tryz.prog W = .ok (.string ⟨#[33, 61]⟩) W := fun W => by
        simp [Instr.index, asIntOf, Tryz.underlying146, go_sem]
      go_wp2_with fail
      refine (x4 sb s i ⟨#[33, 61]⟩ _ (HS.out.drewN d) (by omega) hm (by decide)).mono ?_
      rintro e w1 ⟨rfl, d1, rfl⟩
      rcases Bool.eq_false_or_eq_true (at' s i ⟨#[33, 61]⟩) with hc | hc
      · have HC : Hid (sgN s i = 2) := Lib.hid (a6k (l := [33, 61]) (by decide) hc)
        rw [hc]
        clear hc
        go_wp2
        go_ret
        exact ⟨by rw [HC.out]; rfl, _, rfl⟩
      · have HC : Hid (∀ l, l ∈ a9x.take (1 + 1) → at' s i (mkB l) = false) := Lib.hid (fun l hl => by
          rw [List.take_add_one, List.mem_append] at hl
          rcases hl with hl | hl
          · exact HN.out l hl
          · have e : l = [33, 61] := by simpa [a9x] using hl
            rw [e]; exact hc)
        rw [hc]
        clear hc
        go_wp2
        go_roundw
        case rel => exact ⟨1 + 1, _, by omega, by go_num, rfl, HC⟩
        case measure => simp [intOf]
    · have hidx : ∀ W : World, (Instr.index 146 (.agg #[.string ⟨#[61, 61]⟩, .string ⟨#[33, 61]⟩, .string ⟨#[60, 61]⟩, .string ⟨#[62, 61]⟩, .string ⟨#[38, 38]⟩, .string ⟨#[124, 124]⟩]) (.int .i64 2)).run Tryz.prog W = .ok (.string ⟨#[60, 61]⟩) W := fun W => by
        simp [Instr.index, asIntOf, Tryz.underlying146, go_sem]
      go_wp2_with fail
      refine (x4 sb s i ⟨#[60, 61]⟩ _ (HS.out.drewN d) (by omega) hm (by decide)).mono ?_
      rintro e w1 ⟨rfl, d1, rfl⟩
      rcases Bool.eq_false_or_eq_true (at' s i ⟨#[60, 61]⟩) with hc | hc
      · have HC : Hid (sgN s i = 2) := Lib.hid (a6k (l := [60, 61]) (by decide) hc)
        rw [hc]
        clear hc
        go_wp2
        go_ret
        exact ⟨by rw [HC.out]; rfl, _, rfl⟩
      · have HC : Hid (∀ l, l ∈ a9x.take (2 + 1) → at' s i (mkB l) = false) := Lib.hid (fun l hl => by
          rw [List.take_add_one, List.mem_append] at hl
          rcases hl with hl | hl
          · exact HN.out l hl
          · have e : l = [60, 61] := by simpa [a9x] using hl
            rw [e]; exact hc)
        rw [hc]
        clear hc
        go_wp2
        go_roundw
        case rel => exact ⟨2 + 1, _, by omega, by go_num, rfl, HC⟩
        case measure => simp [intOf]
    · have hidx : ∀ W : World, (Instr.index 146 (.agg #[.string ⟨#[61, 61]⟩, .string ⟨#[33, 61]⟩, .string ⟨#[60, 61]⟩, .string ⟨#[62, 61]⟩, .string ⟨#[38, 38]⟩, .string ⟨#[124, 124]⟩]) (.int .i64 3)).run Tryz.prog W = .ok (.string ⟨#[62, 61]⟩) W := fun W => by
        simp [Instr.index, asIntOf, Tryz.underlying146, go_sem]
      go_wp2_with fail
      refine (x4 sb s i ⟨#[62, 61]⟩ _ (HS.out.drewN d) (by omega) hm (by decide)).mono ?_
      rintro e w1 ⟨rfl, d1, rfl⟩
      rcases Bool.eq_false_or_eq_true (at' s i ⟨#[62, 61]⟩) with hc | hc
      · have HC : Hid (sgN s i = 2) := Lib.hid (a6k (l := [62, 61]) (by decide) hc)
        rw [hc]
        clear hc
        go_wp2
        go_ret
        exact ⟨by rw [HC.out]; rfl, _, rfl⟩
      · have HC : Hid (∀ l, l ∈ a9x.take (3 + 1) → at' s i (mkB l) = false) := Lib.hid (fun l hl => by
          rw [List.take_add_one, List.mem_append] at hl
          rcases hl with hl | hl
          · exact HN.out l hl
          · have e : l = [62, 61] := by simpa [a9x] using hl
            rw [e]; exact hc)
        rw [hc]
        clear hc
        go_wp2
        go_roundw
        case rel => exact ⟨3 + 1, _, by omega, by go_num, rfl, HC⟩
        case measure => simp [intOf]
    · have hidx : ∀ W : World, (Instr.index 146 (.agg #[.string ⟨#[61, 61]⟩, .string ⟨#[33, 61]⟩, .string ⟨#[60, 61]⟩, .string ⟨#[62, 61]⟩, .string ⟨#[38, 38]⟩, .string ⟨#[124, 124]⟩]) (.int .i64 4)).run Tryz.prog W = .ok (.string ⟨#[38, 38]⟩) W := fun W => by
        simp [Instr.index, asIntOf, Tryz.underlying146, go_sem]
      go_wp2_with fail
      refine (x4 sb s i ⟨#[38, 38]⟩ _ (HS.out.drewN d) (by omega) hm (by decide)).mono ?_
      rintro e w1 ⟨rfl, d1, rfl⟩
      rcases Bool.eq_false_or_eq_true (at' s i ⟨#[38, 38]⟩) with hc | hc
      · have HC : Hid (sgN s i = 2) := Lib.hid (a6k (l := [38, 38]) (by decide) hc)
        rw [hc]
        clear hc
        go_wp2
        go_ret
        exact ⟨by rw [HC.out]; rfl, _, rfl⟩
      · have HC : Hid (∀ l, l ∈ a9x.take (4 + 1) → at' s i (mkB l) = false) := Lib.hid (fun l hl => by
          rw [List.take_add_one, List.mem_append] at hl
          rcases hl with hl | hl
          · exact HN.out l hl
          · have e : l = [38, 38] := by simpa [a9x] using hl
            rw [e]; exact hc)
        rw [hc]
        clear hc
        go_wp2
        go_roundw
        case rel => exact ⟨4 + 1, _, by omega, by go_num, rfl, HC⟩
        case measure => simp [intOf]
    · have hidx : ∀ W : World, (Instr.index 146 (.agg #[.string ⟨#[61, 61]⟩, .string ⟨#[33, 61]⟩, .string ⟨#[60, 61]⟩, .string ⟨#[62, 61]⟩, .string ⟨#[38, 38]⟩, .string ⟨#[124, 124]⟩]) (.int .i64 5)).run Tryz.prog W = .ok (.string ⟨#[124, 124]⟩) W := fun W => by
        simp [Instr.index, asIntOf, Tryz.underlying146, go_sem]
      go_wp2_with fail
      refine (x4 sb s i ⟨#[124, 124]⟩ _ (HS.out.drewN d) (by omega) hm (by decide)).mono ?_
      rintro e w1 ⟨rfl, d1, rfl⟩
      rcases Bool.eq_false_or_eq_true (at' s i ⟨#[124, 124]⟩) with hc | hc
      · have HC : Hid (sgN s i = 2) := Lib.hid (a6k (l := [124, 124]) (by decide) hc)
        rw [hc]
        clear hc
        go_wp2
        go_ret
        exact ⟨by rw [HC.out]; rfl, _, rfl⟩
      · have HC : Hid (∀ l, l ∈ a9x.take (5 + 1) → at' s i (mkB l) = false) := Lib.hid (fun l hl => by
          rw [List.take_add_one, List.mem_append] at hl
          rcases hl with hl | hl
          · exact HN.out l hl
          · have e : l = [124, 124] := by simpa [a9x] using hl
            rw [e]; exact hc)
        rw [hc]
        clear hc
        go_wp2
        go_roundw
        case rel => exact ⟨5 + 1, _, by omega, by go_num, rfl, HC⟩
        case measure => simp [intOf]
    · have c0 : w.cell? ⟨sb, 0, none⟩ = some (.string s) := by simpa using HS.out.cell 0
      have c1 : w.cell? ⟨sb, 1, none⟩ = some (.int .i64 i) := by simpa using HS.out.cell 1
      have HE := Lib.hid (sg_one (s := s) (i := i) (fun l hl => HN.out l (by rw [List.take_of_length_le (by decide)]; exact hl)))
      have hbi := c4x s i hi
      have HBI := Lib.hid hbi
      have HS2 : Hid (Sc (w.drewN d) sb s i) := Lib.hid (HS.out.drewN d)
      obtain ⟨Wd, hWd⟩ : ∃ Wd, w.drewN d = Wd := ⟨_, rfl⟩
      have HWD := Lib.hid hWd
      rw [hWd] at HS2 ⊢
      clear c0 c1 hbi hWd
      have c0 : Wd.cell? ⟨sb, 0, none⟩ = some (.string s) := by simpa using HS2.out.cell 0
      have c1 : Wd.cell? ⟨sb, 1, none⟩ = some (.int .i64 i) := by simpa using HS2.out.cell 1
      go_wp2_with fail
      go_quiet (fail)
      rw [HBI.out]
      obtain ⟨c, hc⟩ : ∃ c, B s i = c := ⟨_, rfl⟩
      rw [hc] at HE ⊢
      have HD : Hid (∃ n, Wd.drewN nq = w.drewN n) := Lib.hid ⟨d + nq, by rw [← HWD.out, World.drewN_drewN]⟩
      clear c0 c1 hc HS HN HBI HS2
      generalize Wd.drewN nq = V at HD ⊢
      go_wp2_with fail
      all_goals first
        | (exfalso; simp_all; done)
        | (go_ret
           obtain ⟨n, hn⟩ := HD.out
           refine ⟨?_, n, hn⟩
           have he := HE.out
           rw [he]
           show Ending.returned (.int .i64 _) = _
           simp_all [oneI])
end Go.Proofs.YtbbkmijkllgfaaaGreatDoor.lx
namespace Go.Proofs.YtbbkmijkllgfaaaGreatDoor.lx
open Go.ChangeShapes Go.WideShapes Go.ChangeAt Go.RowKit
open bs
set_option linter.unusedVariables false
theorem b5g (s : ByteArray) (i g : Nat) (h : i + g ≤ s.size) (hm : s.size ≤ 100000) (W : World) : (Instr.sliceAt 9 (.string s) (some (.int .i64 i)) (some (.int .i64 ((i : Int) + g))) none).run Tryz.prog W = .ok (.string (s.extract i (i + g))) W := by
  have e1 : ¬ (i : Int) < 0 := by omega
  have e2 : ¬ (i : Int) + g < 0 := by omega
  have e3 : ((i : Int) + g).toNat = i + g := by omega
  have e4 : i + g ≤ s.size := h
  have e5 : i ≤ i + g := by omega
  have e6 : ¬ (s.size : Int) < (i : Int) + g := by omega
  simp [Instr.sliceAt, Instr.slice, Instr.sliceBounds, Instr.sliceBound, asIntOf, Tryz.underlying9, go_sem, e1, e2, e3, e4, e5, e6]
theorem b9t (sb : Nat) (s : ByteArray) (i : Nat) (w : World) (hG : Gl w) (hS : Sc w sb s i) (hi : i < s.size) (hm : s.size ≤ 100000) :
    Calls Tryz.prog 61 #[.pointer (some ⟨sb, 0, none⟩)] w (TP (on s i) w) := by
  have HW := Lib.hid (i7 w (.cells #[.int .i64 0, .int .i64 0, .string ⟨#[]⟩, .int .i64 0, .int .i64 0] 70))
  have HK : Hid (KB (w.alloc (.cells #[.int .i64 0, .int .i64 0, .string ⟨#[]⟩, .int .i64 0, .int .i64 0] 70)) w.heap.size tk0) := b22 w tk0
  have HS := Lib.hid (hS.below (i7 w (.cells #[.int .i64 0, .int .i64 0, .string ⟨#[]⟩, .int .i64 0, .int .i64 0] 70)))
  have HG := Lib.hid (hG.below (i7 w (.cells #[.int .i64 0, .int .i64 0, .string ⟨#[]⟩, .int .i64 0, .int .i64 0] 70)))
  have hb0 := c4x s i hi
  have HB0 := Lib.hid hb0
  clear hS hG hb0
  go_enter Tryz.func61, Tryz.ntmps61
  go_upto_region 1 with fail
  generalize hWW : w.alloc (.cells #[.int .i64 0, .int .i64 0, .string ⟨#[]⟩, .int .i64 0, .int .i64 0] 70) = W at HW HK HS HG ⊢
  clear hWW
  have c0 : W.cell? ⟨sb, 0, none⟩ = some (.string s) := by simpa using HS.out.cell 0
  have c1 : W.cell? ⟨sb, 1, none⟩ = some (.int .i64 i) := by simpa using HS.out.cell 1
  go_wp2_with fail
  go_quiet (fail)
  rw [HB0.out]
  have HK2 := Lib.hid (HK.out.drewN nq); have HS2 : Hid (Sc (W.drewN nq) sb s i) := Lib.hid (HS.out.drewN nq)
  have HB2 := Lib.hid (below_drewN HW.out nq); have HG2 := Lib.hid (HG.out.below (below_drewN (Below.refl _ _) nq))
  clear c0 c1 HK HS HW HG HB0
  generalize W.drewN nq = V at HK2 HS2 HB2 HG2 ⊢
  obtain ⟨c, hc⟩ : ∃ c, B s i = c := ⟨_, rfl⟩
  have HC := Lib.hid hc
  rw [hc]
  clear hc
  have fin : ∀ (r : Tk × Int) (w3 w5 : World), Below V.heap.size V w3 → r = on s i → KB w5 w.heap.size r.1 → Only w3 w5 w.heap.size → TP (on s i) w (.returned (.tuple #[r.1.val, .int .i64 r.2])) w5 := fun r w3 w5 hb hr h5 ho5 => by
    rw [← hr]
    exact ⟨rfl, (HB2.out.trans (hb.mono HB2.out.size)).trans (ho5.below (Nat.le_refl _))⟩
  have FIN := Lib.hid fin
  clear fin
  go_wp2_with fail
  refine (a26 c V).mono ?_
  rintro e V' ⟨rfl, rfl⟩
  rcases Bool.eq_false_or_eq_true (isL c) with hL | hL
  · rw [hL]
    have HL : Hid (isL (B s i) = true) := Lib.hid (by rw [HC.out]; exact hL)
    clear hL
    go_wp2_with fail
    refine (c1s sb s i V' HS2.out hi hm HL.out).mono ?_
    rintro e w3 ⟨rfl, hb3⟩
    have HB3 := Lib.hid hb3
    have HK3 := Lib.hid (HK2.out.below hb3)
    clear hb3
    obtain ⟨r, hr⟩ : ∃ r, on s i = r := ⟨_, rfl⟩
    have HR := Lib.hid hr
    rw [hr]
    clear hr
    obtain ⟨x, z⟩ := r
    go_wp2_with (refine j4 rfl _ _ rfl rfl HK3.out x rfl ?_)
    intro w5 hv5 ho5
    have HO5 := Lib.hid ho5
    clear ho5
    go_wp2
    try simp only [Exit.inBlock, Exit.then]
    refine bodyPost_ret (i8 rfl _ _ w.heap.size _ _ _ rfl hv5 Tryz.underlying70 rfl (by kernel_rfl)) rfl ?_
    exact FIN.out (x, z) w3 w5 HB3.out HR.out.symm hv5 HO5.out
  · rw [hL]
    have HL : Hid (isL (B s i) = false) := Lib.hid (by rw [HC.out]; exact hL)
    clear hL
    go_wp2_with fail
    refine (a4c c V').mono ?_
    rintro e V2 ⟨rfl, rfl⟩
    rcases Bool.eq_false_or_eq_true (isD c) with hD | hD
    · rw [hD]
      have HD : Hid (isD (B s i) = true) := Lib.hid (by rw [HC.out]; exact hD)
      clear hD
      go_wp2_with fail
      refine (b4x sb s i V2 HG2.out HS2.out hi hm HL.out HD.out).mono ?_
      rintro e w3 ⟨rfl, hb3⟩
      have HB3 := Lib.hid hb3
      have HK3 := Lib.hid (HK2.out.below hb3)
      clear hb3
      obtain ⟨r, hr⟩ : ∃ r, on s i = r := ⟨_, rfl⟩
      have HR := Lib.hid hr
      rw [hr]
      clear hr
      obtain ⟨x, z⟩ := r
      go_wp2_with (refine j4 rfl _ _ rfl rfl HK3.out x rfl ?_)
      intro w5 hv5 ho5
      have HO5 := Lib.hid ho5
      clear ho5
      go_wp2
      try simp only [Exit.inBlock, Exit.then]
      refine bodyPost_ret (i8 rfl _ _ w.heap.size _ _ _ rfl hv5 Tryz.underlying70 rfl (by kernel_rfl)) rfl ?_
      exact FIN.out (x, z) w3 w5 HB3.out HR.out.symm hv5 HO5.out
    · rw [hD]
      have HD : Hid (isD (B s i) = false) := Lib.hid (by rw [HC.out]; exact hD)
      clear hD
      go_wp2_with fail
      refine (c2k sb s i V2 HS2.out hi hm).mono ?_
      rintro e w3 ⟨rfl, d, rfl⟩
      have HB3 : Hid (Below V2.heap.size V2 (V2.drewN d)) := Lib.hid (below_drewN (Below.refl _ _) d)
      have HK3 := Lib.hid (HK2.out.drewN d); have HS3 : Hid (Sc (V2.drewN d) sb s i) := Lib.hid (HS2.out.drewN d)
      clear HK2 HS2 HG2
      have hle := sg_le hi
      obtain ⟨g, hg⟩ : ∃ g, sgN s i = g := ⟨_, rfl⟩
      have HGs := Lib.hid hg
      rw [hg] at hle ⊢
      clear hg
      obtain ⟨V3, hV3⟩ : ∃ V3, V2.drewN d = V3 := ⟨_, rfl⟩
      rw [hV3] at HB3 HK3 HS3 ⊢
      clear hV3
      by_cases h0 : g = 0
      · subst h0
        have HE : Hid (on s i = (tk0, 4)) := Lib.hid (b9q HL.out HD.out HGs.out)
        go_wp2_with (refine j4 rfl _ _ rfl rfl HK3.out tk0 rfl ?_)
        intro w5 hv5 ho5
        have HO5 := Lib.hid ho5
        clear ho5
        go_wp2
        try simp only [Exit.inBlock, Exit.then]
        refine bodyPost_ret (i8 rfl _ _ w.heap.size _ _ _ rfl hv5 Tryz.underlying70 rfl (by kernel_rfl)) rfl ?_
        exact FIN.out (tk0, 4) V3 w5 HB3.out HE.out.symm hv5 HO5.out
      · have hg0 : 0 < g := by omega
        have HE : Hid (on s i = (⟨4, 0, s.extract i (i + g), i, (i + g : Nat)⟩, 0)) := Lib.hid (by
          have e := b9r HL.out HD.out (by rw [HGs.out]; exact h0)
          rw [HGs.out] at e
          exact e)
        have d0 : decide ((0 : Int) < g) = true := decide_eq_true (by omega)
        have c0 : V3.cell? ⟨sb, 0, none⟩ = some (.string s) := by simpa using HS3.out.cell 0
        have c1 : V3.cell? ⟨sb, 1, none⟩ = some (.int .i64 i) := by simpa using HS3.out.cell 1
        have hw : IntKind.i64.wrap ((i : Int) + g) = ((i + g : Nat) : Int) := by rw [IntWalk.i64_in _ (by omega)]; omega
        have hsl := b5g s i g hle hm
        clear h0
        go_wp2_with fail
        go_still_tail 26, (by kernel_rfl)
        change wpList _ _ _ _ _ (V3.drewN 1)
        have HK4 := Lib.hid (HK3.out.drewN 1)
        have HB4 := Lib.hid (below_drewN HB3.out 1)
        clear c0 c1 HK3 HS3 HB3
        generalize V3.drewN 1 = V4 at HK4 HB4 ⊢
        have hcast : ((i + g : Nat) : Int) = (i : Int) + g := by omega
        rw [hcast] at HE
        go_wp2_with (refine j4 rfl _ _ rfl rfl HK4.out ⟨4, 0, s.extract i (i + g), i, (i : Int) + g⟩ rfl ?_)
        intro w5 hv5 ho5
        have HO5 := Lib.hid ho5
        clear ho5
        go_wp2
        try simp only [Exit.inBlock, Exit.then]
        refine bodyPost_ret (i8 rfl _ _ w.heap.size _ _ _ rfl hv5 Tryz.underlying70 rfl (by kernel_rfl)) rfl ?_
        exact FIN.out (⟨4, 0, s.extract i (i + g), i, (i : Int) + g⟩, 0) V4 w5 HB4.out HE.out.symm hv5 HO5.out
end Go.Proofs.YtbbkmijkllgfaaaGreatDoor.lx
namespace Go.Proofs.YtbbkmijkllgfaaaGreatDoor.lx
open Go.ChangeShapes Go.WideShapes Go.ChangeAt Go.RowKit
open bs
set_option linter.unusedVariables false
structure TI (w wr : World) (sb : Nat) (s : ByteArray) (i : Nat) (a : Option Addr) (n c : Nat) (L : List Tk) : Prop where
  sc : Sc wr sb s i
  own : OwnK wr (sb + 1) a n c L
  below : Below sb w wr
  eq : app L (toks s i) = toks s 0
  le : i ≤ s.size
  few : n ≤ i
theorem TI.turned {w wr w' : World} {sb : Nat} {s : ByteArray} {i j : Nat} {a : Option Addr} {n c : Nat} {L : List Tk} (h : TI w wr sb s i a n c L) (hS : Sc w' sb s j) (ht : Turned wr w' sb none) (he : app L (toks s j) = toks s 0) (hj : j ≤ s.size) (hij : i ≤ j) : TI w w' sb s j a n c L :=
  ⟨hS, OwnS.of h.own (fun i hi => ht.block i (OwnS.blockLt h.own hi).2 (fun e => by have := (OwnS.blockLt h.own hi).1; omega) (by simp)), h.below.trans (ht.below (Nat.le_of_lt h.sc.lt) (Nat.le_refl _) (fun i h => by cases h)), he, hj, by have := h.few; omega⟩
theorem TI.far {w wr w' : World} {sb : Nat} {s : ByteArray} {i : Nat} {a : Option Addr} {n c : Nat} {L : List Tk} (h : TI w wr sb s i a n c L) (hb : Below wr.heap.size wr w') : TI w w' sb s i a n c L :=
  ⟨h.sc.below hb, h.own.below hb, h.below.trans (hb.mono (Nat.le_of_lt h.sc.lt)), h.eq, h.le, h.few⟩
theorem tokens_own (s : ByteArray) (w : World) (hG : Gl w) (hmax : s.size ≤ 9223372036854775807) : Calls Tryz.prog 41 #[.string s] w (TsO (tokens s) w) := by
  by_cases hbig : 8192 < s.size
  · have d0 : decide ((8192 : Int) < s.size) = true := decide_eq_true (by omega)
    have HE : Hid (tokens s = ([], 0, 3)) := Lib.hid (by unfold tokens; rw [if_pos hbig])
    clear hbig
    go_enter Tryz.func41, Tryz.ntmps41
    go_wp2
    go_ret3
    rw [HE.out]
    exact ⟨none, 0, 0, rfl, ⟨⟨rfl, Nat.le_refl _, by omega, fun _ => rfl, .inl rfl⟩, .inl rfl⟩, Below.refl _ _⟩
  · have d0 : decide ((8192 : Int) < s.size) = false := decide_eq_false (by omega)
    have hm : s.size ≤ 100000 := by omega
    have HE : Hid (tokens s = toks s 0) := Lib.hid (by unfold tokens; rw [if_neg hbig])
    have HG := Lib.hid hG
    have hW := i7 w (.cells #[.string s, .int .i64 0] 96)
    have hS : Sc (w.alloc (.cells #[.string s, .int .i64 0] 96)) w.heap.size s 0 := Blk.new w _ _
    have hT : TI w (w.alloc (.cells #[.string s, .int .i64 0] 96)) w.heap.size s 0 none 0 0 [] := ⟨hS, OwnS.nil _ _ _, hW, app_nil _, by omega, Nat.le_refl _⟩
    have HT := Lib.hid hT
    have HW := Lib.hid hW
    clear hT hS hG hbig hW
    go_enter Tryz.func41, Tryz.ntmps41
    go_wp2_with fail
    generalize hWW : w.alloc (.cells #[.string s, .int .i64 0] 96) = W at HT HW ⊢
    clear hWW
    go_loopw [6] (fun o wr => ∃ (i : Nat) (a : Option Addr) (n c : Nat) (L : List Tk), o = .slice a n c ∧ Hid (TI w wr w.heap.size s i a n c L)) (fun _ wr => s.size - (intOf ((wr.cell? ⟨w.heap.size, 1, none⟩).getD undef)).toNat)
    case atStart => exact ⟨0, none, 0, 0, [], rfl, HT⟩
    case round =>
      clear HT
      obtain ⟨i, a, n, c, L, rfl, HI⟩ := hrel
      have hile := HI.out.le
      have c1 : wr.cell? ⟨w.heap.size, 1, none⟩ = some (.int .i64 i) := by simpa using HI.out.sc.cell 1
      have M0 := Lib.hid c1
      clear c1
      go_wp2_with fail
      refine (b4g w.heap.size s i wr HI.out.sc hile hm).mono ?_
      rintro e w1 ⟨rfl, hs1, ht1⟩
      have hnx := c1u hile
      have HI1 := Lib.hid (HI.out.turned hs1 ht1 (by rw [c6o hile]; exact HI.out.eq) hnx.2 hnx.1)
      have HNX := Lib.hid (a1u hile)
      have HG1 : Hid (Gl w1) := Lib.hid (HG.out.below HI1.out.below)
      obtain ⟨j, hj⟩ : ∃ j, nx s i = j := ⟨_, rfl⟩
      rw [hj] at HI1 hnx HNX
      clear hs1 ht1 hj
      have c1 : w1.cell? ⟨w.heap.size, 1, none⟩ = some (.int .i64 j) := by simpa using HI1.out.sc.cell 1
      by_cases hlt : j < s.size
      · have d1 : ((j : Int) == s.size) = false := by rw [beq_eq_false_iff_ne]; omega
        go_wp2_with fail
        refine (b9t w.heap.size s j w1 HG1.out HI1.out.sc hlt hm).mono ?_
        rintro e w2 ⟨rfl, hb2⟩
        have HI2 := Lib.hid (HI1.out.far hb2); have hs2 := hb2.size
        clear hb2 HI1 HG1 c1
        obtain ⟨r, hr⟩ : ∃ r, on s j = r := ⟨_, rfl⟩
        have HR := Lib.hid hr
        rw [hr]
        clear hr
        obtain ⟨x, z⟩ := r
        have hrow : ∀ i, g9 a = some i → i < w2.heap.size := fun i hi => (OwnS.blockLt HI2.out.own hi).2
        have HZ : Hid (KB (w2.alloc (.cells #[.int .i64 0, .int .i64 0, .string ⟨#[]⟩, .int .i64 0, .int .i64 0] 70)) w2.heap.size tk0) := b22 w2 tk0
        have hbz := i7 w2 (.cells #[.int .i64 0, .int .i64 0, .string ⟨#[]⟩, .int .i64 0, .int .i64 0] 70)
        have HBZ := Lib.hid hbz
        clear hbz
        go_wp2_with (refine j4 rfl _ _ rfl rfl HZ.out x rfl ?_)
        intro w5 hv5 ho5
        have HV5 := Lib.hid hv5
        have HI5 := Lib.hid (HI2.out.far (HBZ.out.trans (ho5.below (Nat.le_refl _))))
        have hs5 : w5.heap.size = w2.heap.size + 1 := by rw [ho5.size, w9]
        have HS5 := Lib.hid hs5
        clear hv5 ho5 HZ HBZ HI2 hs5
        have HRW := Lib.hid hrow
        clear hrow
        generalize hgt : w2.heap.size = gt at HV5 HS5 HRW ⊢
        clear hgt
        by_cases hz : z = 0
        · subst hz
          have hon : (on s j).2 = 0 := by rw [HR.out]
          have hto := on_to hlt hon
          rw [HR.out] at hto
          obtain ⟨hxf, j2, hxt, hj2, hj3⟩ := hto
          have HST : Hid (app (L ++ [x]) (toks s j2) = toks s 0) := Lib.hid (by
            have h := app_step (s := s) (i := j) (L := L) (by rw [HNX.out]; exact hlt) (by omega) (by rw [HNX.out]; exact hon)
            rw [HNX.out, HR.out] at h
            have e : ((x, (0 : Int)) : Tk × Int).1.t.toNat = j2 := by show x.t.toNat = j2; rw [hxt]; rfl
            rw [e] at h
            exact h.symm.trans HI5.out.eq)
          have hfew := HI5.out.few
          have HXT := Lib.hid hxt
          have hn1 : n + 1 ≤ 1000000 := by omega
          have HSRC := Lib.hid (a7u w5 x.cells 70)
          have HO6 := Lib.hid (HI5.out.own.below (i7 w5 (.cells x.row 70)))
          have hb6 : w.heap.size + 1 ≤ (w5.alloc (.cells x.row 70)).heap.size := by rw [w9]; have := HI5.out.sc.lt; omega
          have HV6 : Hid (KB (w5.alloc (.cells x.row 70)) gt x) := Lib.hid (HV5.out.below (i7 _ _))
          have HI6 := Lib.hid (HI5.out.far (i7 w5 (.cells x.row 70)))
          clear hxf hxt hon hfew
          go_wp2_with (first | (refine a74 rfl _ rfl rfl HV5.out ?_) | (at_builtin; refine a5b rfl _ _ rfl (w.heap.size + 1) rfl HO6.out rfl x HSRC.out hn1 hb6 ?_))
          intro a7 c7 w7 ho7 hb7 hg7
          have hv7 : KB w7 gt x := HV6.out.of (hg7.block gt HV6.out.lt (fun e => by have := HRW.out gt e.symm; omega))
          have hs7 : Sc w7 w.heap.size s j := HI6.out.sc.of (hb7.block _ (Nat.lt_succ_self _))
          have HB7 : Hid (Below w.heap.size w w7) := Lib.hid (HI6.out.below.trans (hb7.mono (Nat.le_succ _)))
          have HO7 := Lib.hid ho7; have HS7 := Lib.hid hs7
          have v4 : w7.cell? ⟨gt, 4, none⟩ = some (.int .i64 x.t) := by simpa using hv7.cell 4
          have f1 : w7.frozen? ⟨w.heap.size, 1, none⟩ = false := hs7.free 1
          have c1 : w7.cell? ⟨w.heap.size, 1, none⟩ = some (.int .i64 j) := by simpa using hs7.cell 1
          rw [HXT.out] at v4
          have hfew := HI5.out.few
          have HFEW : Hid (n + 1 ≤ j2) := Lib.hid (by omega)
          have hij : i ≤ j := hnx.1
          clear ho7 hb7 hg7 hv7 hs7 HO6 HV6 HI6 HV5 HI5 HSRC hfew
          go_wp2
          have oc := a4u w7 w.heap.size 1 (.int .i64 j2)
          have h4 : Sc (w7.setCell ⟨w.heap.size, 1, none⟩ (.int .i64 j2)) w.heap.size s j2 := by
            have := HS7.out.set 1 (.int .i64 j2)
            simpa using this
          have hTI : TI w (w7.setCell ⟨w.heap.size, 1, none⟩ (.int .i64 j2)) w.heap.size s j2 a7 (n + 1) c7 (L ++ [x]) :=
            ⟨h4, OwnS.of HO7.out (fun i hi => oc.block i (by have := (OwnS.blockLt HO7.out hi).1; omega)), HB7.out.trans (oc.below (Nat.le_refl _)), HST.out, hj3, HFEW.out⟩
          refine ⟨⟨j2, a7, n + 1, c7, L ++ [x], rfl, hTI⟩, ?_⟩
          have h5 : (w7.setCell ⟨w.heap.size, 1, none⟩ (.int .i64 j2)).cell? ⟨w.heap.size, 1, none⟩ = some (.int .i64 j2) := by simpa using h4.cell 1
          rw [h5, M0.out]
          simp [intOf]
          omega
        · have d2 : (z != 0) = true := by rw [bne_iff_ne]; exact hz
          have HEE : Hid (tokens s = ([], j, z)) := Lib.hid (by
            have h := b0s (s := s) (i := j) (L := L) (by rw [HNX.out]; exact hlt) (by omega) (by rw [HNX.out, HR.out]; exact hz)
            rw [HNX.out, HR.out, HI5.out.eq] at h
            rw [HE.out, h])
          have c1 : w5.cell? ⟨w.heap.size, 1, none⟩ = some (.int .i64 j) := by simpa using HI5.out.sc.cell 1
          clear hz
          go_wp2_with fail
          go_quiet (fail)
          go_wp2
          go_ret3
          rw [HEE.out]
          exact ⟨none, 0, 0, rfl, ⟨⟨rfl, Nat.le_refl _, by omega, fun _ => rfl, .inl rfl⟩, .inl rfl⟩, below_drewN HI5.out.below _⟩
      · obtain rfl : j = s.size := by omega
        have HEE : Hid (tokens s = (L ++ [tkEnd s], 0, 0)) := Lib.hid (by
          have h := app_end (s := s) (i := s.size) (L := L) (by rw [HNX.out]; exact Nat.le_refl _)
          rw [HI1.out.eq] at h
          rw [HE.out, h])
        have hfew := HI1.out.few
        have hn1 : n + 1 ≤ maxLen := by unfold maxLen; omega
        have hn2 : (n + 1) * 48 ≤ 140737488355328 := by omega
        have x1 : w1.drew.cell? ⟨w.heap.size, 1, none⟩ = some (.int .i64 s.size) := c1
        have x2 : (w1.drew.alloc (.cells #[.int .i64 5, .int .i64 0, .string ⟨#[]⟩, .int .i64 s.size, .int .i64 s.size] 70)).cell? ⟨w.heap.size, 1, none⟩ = some (.int .i64 s.size) := by
          rw [(i7 w1.drew _).cell (p := ⟨w.heap.size, 1, none⟩) HI1.out.sc.lt]; exact c1
        have O2 : Hid (OwnK (w1.drew.alloc (.cells #[.int .i64 5, .int .i64 0, .string ⟨#[]⟩, .int .i64 s.size, .int .i64 s.size] 70)) (w.heap.size + 1) a n c L) := Lib.hid ((HI1.out.own.below (Below.drew (Below.refl _ _))).below (i7 _ _))
        have hb2 : w.heap.size + 1 ≤ (w1.drew.alloc (.cells #[.int .i64 5, .int .i64 0, .string ⟨#[]⟩, .int .i64 s.size, .int .i64 s.size] 70)).heap.size := by rw [w9]; show w.heap.size + 1 ≤ w1.heap.size + 1; have := HI1.out.sc.lt; omega
        have HSB : Hid (Sc (w1.drew.alloc (.cells #[.int .i64 5, .int .i64 0, .string ⟨#[]⟩, .int .i64 s.size, .int .i64 s.size] 70)) w.heap.size s s.size) := Lib.hid ((HI1.out.sc.below (Below.drew (Below.refl _ _))).below (i7 _ _))
        have HBB : Hid (Below w.heap.size w (w1.drew.alloc (.cells #[.int .i64 5, .int .i64 0, .string ⟨#[]⟩, .int .i64 s.size, .int .i64 s.size] 70))) := Lib.hid ((HI1.out.below.trans ((Below.drew (Below.refl _ _)).mono (Nat.le_of_lt HI1.out.sc.lt))).trans ((i7 w1.drew _).mono (Nat.le_of_lt HI1.out.sc.lt)))
        clear hfew hlt
        go_wp2_with fail
        go_region_held_law (fun V => V.cell? ⟨w.heap.size, 1, none⟩ = some (.int .i64 s.size))
          (first | exact c1 | exact x1 | exact x2 | exact x3)
          (first
            | (refine a7v tkT (by decide) (by rfl) (.tmp 24) (.tmp 34) (by rfl) (w.heap.size + 1) (by rfl) O2.out (by rfl) (tkEnd s) rfl (a8q _) (a7u w1.drew (tkEnd s).cells 70) hn2 hn1 hb2 ?_; intro a7 c7 w7 ho7 hb7 hg7; have x3 : w7.cell? ⟨w.heap.size, 1, none⟩ = some (.int .i64 s.size) := (HSB.out.of (hb7.block _ (Nat.lt_succ_self _))).cell 1; have HO7 := Lib.hid ho7; have HB7 : Hid (Below w.heap.size w w7) := Lib.hid (HBB.out.trans (hb7.mono (Nat.le_succ _))); clear ho7 hb7 hg7))
        go_wp2
        go_ret3
        rw [HEE.out]
        refine ⟨a7, n + 1, c7, ?_, ⟨OwnS.toks HO7.out, OwnS.anew HO7.out (Nat.le_succ _)⟩, HB7.out⟩
        simp
end Go.Proofs.YtbbkmijkllgfaaaGreatDoor.lx
end
section
namespace Go.Proofs.YtbbkmijkllgfaaaGreatDoor.am
open Go.ChangeShapes Go.WideShapes Go.ChangeAt Go.RowKit
open vt
set_option linter.unusedVariables false
structure LibL (L : List (Nat × Array Value)) : Prop where
  syn : ∃ tp p, (0, #[Value.iface tp p]) ∈ L
  rng : ∃ tp p, (1, #[Value.iface tp p]) ∈ L
  tab : (2, (Lib.pow10Tab.map fun z => Value.int .u64 z).toArray) ∈ L
theorem n_syn : Tryz.prog.globalNamed "strconv.ErrSyntax" = some 0 := by kernel_rfl
theorem n_rng : Tryz.prog.globalNamed "strconv.ErrRange" = some 1 := by kernel_rfl
theorem n_tab : Tryz.prog.globalNamed "internal/strconv.uint64pow10" = some 2 := by kernel_rfl
theorem b70 {L : List (Nat × Array Value)} (hL : LibL L) {γ : Nat → G} {S : CS} {w : World} {x : Nat} (h : a1o γ S w x (.lib L)) : lx.Gl w := by
  obtain ⟨⟨t1, p1, h1⟩, ⟨t2, p2, h2⟩, h3⟩ := hL
  exact ⟨⟨t1, p1, b1b h n_syn h1 (show 0 < 1 by decide)⟩, ⟨t2, p2, b1b h n_rng h2 (show 0 < 1 by decide)⟩, b1b h n_tab h3 (by decide)⟩
theorem lib_of_gl {w : World} (h : lx.Gl w) : ∃ L, LibL L ∧ ∀ p ∈ L, ∀ o, p.1 < w.heap.size ∧ w.cell? ⟨p.1, o, none⟩ = p.2[o]? := by
  obtain ⟨⟨t1, p1, h1⟩, ⟨t2, p2, h2⟩, h3⟩ := h
  refine ⟨[(0, #[Value.iface t1 p1]), (1, #[Value.iface t2 p2]), (2, (Lib.pow10Tab.map fun z => Value.int .u64 z).toArray)], ⟨⟨t1, p1, .head _⟩, ⟨t2, p2, .tail _ (.head _)⟩, .tail _ (.tail _ (.head _))⟩, ?_⟩
  intro p hp o
  rcases List.mem_cons.1 hp with rfl | hp
  · exact b1y n_syn h1 o
  rcases List.mem_cons.1 hp with rfl | hp
  · exact b1y n_rng h2 o
  rcases List.mem_cons.1 hp with rfl | hp
  · exact b1y n_tab h3 o
  · cases hp
theorem b5j (L : List (Nat × Array Value)) (hL : LibL L) (s : ByteArray) (hs : s.size ≤ 9223372036854775807) : Row Tryz.prog 41 [vS s] [.lib L] (vTk (tokG s)) [some (.lib L)] := by
  refine ⟨⟨_, Tryz.func41, rfl, rfl⟩, a2h fun γ S w vs hm hv => ?_⟩
  match vs, hv with
  | [v0], ⟨h0, _⟩ =>
    obtain ⟨rfl, _⟩ := j6 h0
    exact (lx.tokens_own s w (b70 hL (hm.obj 0 _ rfl)) hs).mono fun e w' h => b45 h
end Go.Proofs.YtbbkmijkllgfaaaGreatDoor.am
end
