/-
  Layer 5: the scanner's sign, and its token.
-/
import Derived.Test.YtlfhdjlgjekcpaaDoorLexNumP
namespace Go.Proofs.YtlfhdjlgjekcpaaDoor.lx
open Go.ChangeShapes Go.WideShapes Go.ChangeAt Go.RowKit
open bs
set_option linter.unusedVariables false

def oneI : List Int := [123, 125, 40, 41, 91, 93, 44, 59, 58, 46, 61, 60, 62, 43, 45, 42, 47, 37, 33, 64]
theorem one_any (c : Int) : oneL.any (fun b => c == (b.toNat : Int)) = oneI.any (fun z => c == z) := by
  have e : oneI = oneL.map (fun b => (b.toNat : Int)) := by decide
  rw [e, List.any_map]
  rfl
theorem sg_two {s : ByteArray} {i : Nat} {l : List UInt8} (hl : l ∈ twoL) (h : at' s i (mkB l) = true) : sgN s i = 2 := by
  unfold sgN
  rw [if_pos (List.any_eq_true.2 ⟨l, hl, h⟩)]
theorem sg_one {s : ByteArray} {i : Nat} (h : ∀ l ∈ twoL, at' s i (mkB l) = false) : sgN s i = if oneI.any (fun z => B s i == z) = true then 1 else 0 := by
  unfold sgN
  rw [if_neg (fun hc => by
    rw [List.any_eq_true] at hc
    obtain ⟨l, hl, hc⟩ := hc
    rw [h l hl] at hc
    cases hc), one_any]

set_option maxRecDepth 100000 in
set_option maxHeartbeats 8000000 in
theorem sign_any (sb : Nat) (s : ByteArray) (i : Nat) (w : World) (hS : Sc w sb s i) (hi : i < s.size) (hm : s.size ≤ 100000) :
    Calls Tryd.prog 35 #[.pointer (some ⟨sb, 0, none⟩)] w fun e w' => e = .returned (.int .i64 (sgN s i : Nat)) ∧ ∃ d, w' = w.drewN d := by
  have HS := Lib.hid hS
  clear hS
  go_enter Tryd.func35, Tryd.ntmps35
  go_wp2
  go_loopw [4, 6] (fun _ j wr => ∃ (k d : Nat), k ≤ 6 ∧ j = .int .i64 k ∧ wr = w.drewN d ∧ Hid (∀ l, l ∈ twoL.take k → at' s i (mkB l) = false)) (fun _ j _ => 6 - (intOf j).toNat)
  case atStart => exact ⟨0, 0, by omega, rfl, rfl, Lib.hid (fun l hl => by simp at hl)⟩
  case round =>
    obtain ⟨k, d, hk, rfl, rfl, HN⟩ := hrel
    have hk6 : k = 0 ∨ k = 1 ∨ k = 2 ∨ k = 3 ∨ k = 4 ∨ k = 5 ∨ k = 6 := by omega
    rcases hk6 with rfl | rfl | rfl | rfl | rfl | rfl | rfl
    · have hidx : ∀ W : World, (Instr.index 56 (.agg #[.string ⟨#[61, 61]⟩, .string ⟨#[33, 61]⟩, .string ⟨#[60, 61]⟩, .string ⟨#[62, 61]⟩, .string ⟨#[38, 38]⟩, .string ⟨#[124, 124]⟩]) (.int .i64 0)).run Tryd.prog W = .ok (.string ⟨#[61, 61]⟩) W := fun W => by
        simp [Instr.index, asIntOf, Tryd.underlying56, go_sem]
      go_wp2_with fail
      refine (starts_any sb s i ⟨#[61, 61]⟩ _ (HS.out.drewN d) (by omega) hm (by decide)).mono ?_
      rintro e w1 ⟨rfl, d1, rfl⟩
      rcases Bool.eq_false_or_eq_true (at' s i ⟨#[61, 61]⟩) with hc | hc
      · have HC : Hid (sgN s i = 2) := Lib.hid (sg_two (l := [61, 61]) (by decide) hc)
        rw [hc]
        clear hc
        go_wp2
        go_ret
        exact ⟨by rw [HC.out]; rfl, _, rfl⟩
      · have HC : Hid (∀ l, l ∈ twoL.take (0 + 1) → at' s i (mkB l) = false) := Lib.hid (fun l hl => by
          rw [List.take_add_one, List.mem_append] at hl
          rcases hl with hl | hl
          · exact HN.out l hl
          · have e : l = [61, 61] := by simpa [twoL] using hl
            rw [e]; exact hc)
        rw [hc]
        clear hc
        go_wp2
        go_roundw
        case rel => exact ⟨0 + 1, _, by omega, by go_num, rfl, HC⟩
        case measure => simp [intOf]
    · have hidx : ∀ W : World, (Instr.index 56 (.agg #[.string ⟨#[61, 61]⟩, .string ⟨#[33, 61]⟩, .string ⟨#[60, 61]⟩, .string ⟨#[62, 61]⟩, .string ⟨#[38, 38]⟩, .string ⟨#[124, 124]⟩]) (.int .i64 1)).run Tryd.prog W = .ok (.string ⟨#[33, 61]⟩) W := fun W => by
        simp [Instr.index, asIntOf, Tryd.underlying56, go_sem]
      go_wp2_with fail
      refine (starts_any sb s i ⟨#[33, 61]⟩ _ (HS.out.drewN d) (by omega) hm (by decide)).mono ?_
      rintro e w1 ⟨rfl, d1, rfl⟩
      rcases Bool.eq_false_or_eq_true (at' s i ⟨#[33, 61]⟩) with hc | hc
      · have HC : Hid (sgN s i = 2) := Lib.hid (sg_two (l := [33, 61]) (by decide) hc)
        rw [hc]
        clear hc
        go_wp2
        go_ret
        exact ⟨by rw [HC.out]; rfl, _, rfl⟩
      · have HC : Hid (∀ l, l ∈ twoL.take (1 + 1) → at' s i (mkB l) = false) := Lib.hid (fun l hl => by
          rw [List.take_add_one, List.mem_append] at hl
          rcases hl with hl | hl
          · exact HN.out l hl
          · have e : l = [33, 61] := by simpa [twoL] using hl
            rw [e]; exact hc)
        rw [hc]
        clear hc
        go_wp2
        go_roundw
        case rel => exact ⟨1 + 1, _, by omega, by go_num, rfl, HC⟩
        case measure => simp [intOf]
    · have hidx : ∀ W : World, (Instr.index 56 (.agg #[.string ⟨#[61, 61]⟩, .string ⟨#[33, 61]⟩, .string ⟨#[60, 61]⟩, .string ⟨#[62, 61]⟩, .string ⟨#[38, 38]⟩, .string ⟨#[124, 124]⟩]) (.int .i64 2)).run Tryd.prog W = .ok (.string ⟨#[60, 61]⟩) W := fun W => by
        simp [Instr.index, asIntOf, Tryd.underlying56, go_sem]
      go_wp2_with fail
      refine (starts_any sb s i ⟨#[60, 61]⟩ _ (HS.out.drewN d) (by omega) hm (by decide)).mono ?_
      rintro e w1 ⟨rfl, d1, rfl⟩
      rcases Bool.eq_false_or_eq_true (at' s i ⟨#[60, 61]⟩) with hc | hc
      · have HC : Hid (sgN s i = 2) := Lib.hid (sg_two (l := [60, 61]) (by decide) hc)
        rw [hc]
        clear hc
        go_wp2
        go_ret
        exact ⟨by rw [HC.out]; rfl, _, rfl⟩
      · have HC : Hid (∀ l, l ∈ twoL.take (2 + 1) → at' s i (mkB l) = false) := Lib.hid (fun l hl => by
          rw [List.take_add_one, List.mem_append] at hl
          rcases hl with hl | hl
          · exact HN.out l hl
          · have e : l = [60, 61] := by simpa [twoL] using hl
            rw [e]; exact hc)
        rw [hc]
        clear hc
        go_wp2
        go_roundw
        case rel => exact ⟨2 + 1, _, by omega, by go_num, rfl, HC⟩
        case measure => simp [intOf]
    · have hidx : ∀ W : World, (Instr.index 56 (.agg #[.string ⟨#[61, 61]⟩, .string ⟨#[33, 61]⟩, .string ⟨#[60, 61]⟩, .string ⟨#[62, 61]⟩, .string ⟨#[38, 38]⟩, .string ⟨#[124, 124]⟩]) (.int .i64 3)).run Tryd.prog W = .ok (.string ⟨#[62, 61]⟩) W := fun W => by
        simp [Instr.index, asIntOf, Tryd.underlying56, go_sem]
      go_wp2_with fail
      refine (starts_any sb s i ⟨#[62, 61]⟩ _ (HS.out.drewN d) (by omega) hm (by decide)).mono ?_
      rintro e w1 ⟨rfl, d1, rfl⟩
      rcases Bool.eq_false_or_eq_true (at' s i ⟨#[62, 61]⟩) with hc | hc
      · have HC : Hid (sgN s i = 2) := Lib.hid (sg_two (l := [62, 61]) (by decide) hc)
        rw [hc]
        clear hc
        go_wp2
        go_ret
        exact ⟨by rw [HC.out]; rfl, _, rfl⟩
      · have HC : Hid (∀ l, l ∈ twoL.take (3 + 1) → at' s i (mkB l) = false) := Lib.hid (fun l hl => by
          rw [List.take_add_one, List.mem_append] at hl
          rcases hl with hl | hl
          · exact HN.out l hl
          · have e : l = [62, 61] := by simpa [twoL] using hl
            rw [e]; exact hc)
        rw [hc]
        clear hc
        go_wp2
        go_roundw
        case rel => exact ⟨3 + 1, _, by omega, by go_num, rfl, HC⟩
        case measure => simp [intOf]
    · have hidx : ∀ W : World, (Instr.index 56 (.agg #[.string ⟨#[61, 61]⟩, .string ⟨#[33, 61]⟩, .string ⟨#[60, 61]⟩, .string ⟨#[62, 61]⟩, .string ⟨#[38, 38]⟩, .string ⟨#[124, 124]⟩]) (.int .i64 4)).run Tryd.prog W = .ok (.string ⟨#[38, 38]⟩) W := fun W => by
        simp [Instr.index, asIntOf, Tryd.underlying56, go_sem]
      go_wp2_with fail
      refine (starts_any sb s i ⟨#[38, 38]⟩ _ (HS.out.drewN d) (by omega) hm (by decide)).mono ?_
      rintro e w1 ⟨rfl, d1, rfl⟩
      rcases Bool.eq_false_or_eq_true (at' s i ⟨#[38, 38]⟩) with hc | hc
      · have HC : Hid (sgN s i = 2) := Lib.hid (sg_two (l := [38, 38]) (by decide) hc)
        rw [hc]
        clear hc
        go_wp2
        go_ret
        exact ⟨by rw [HC.out]; rfl, _, rfl⟩
      · have HC : Hid (∀ l, l ∈ twoL.take (4 + 1) → at' s i (mkB l) = false) := Lib.hid (fun l hl => by
          rw [List.take_add_one, List.mem_append] at hl
          rcases hl with hl | hl
          · exact HN.out l hl
          · have e : l = [38, 38] := by simpa [twoL] using hl
            rw [e]; exact hc)
        rw [hc]
        clear hc
        go_wp2
        go_roundw
        case rel => exact ⟨4 + 1, _, by omega, by go_num, rfl, HC⟩
        case measure => simp [intOf]
    · have hidx : ∀ W : World, (Instr.index 56 (.agg #[.string ⟨#[61, 61]⟩, .string ⟨#[33, 61]⟩, .string ⟨#[60, 61]⟩, .string ⟨#[62, 61]⟩, .string ⟨#[38, 38]⟩, .string ⟨#[124, 124]⟩]) (.int .i64 5)).run Tryd.prog W = .ok (.string ⟨#[124, 124]⟩) W := fun W => by
        simp [Instr.index, asIntOf, Tryd.underlying56, go_sem]
      go_wp2_with fail
      refine (starts_any sb s i ⟨#[124, 124]⟩ _ (HS.out.drewN d) (by omega) hm (by decide)).mono ?_
      rintro e w1 ⟨rfl, d1, rfl⟩
      rcases Bool.eq_false_or_eq_true (at' s i ⟨#[124, 124]⟩) with hc | hc
      · have HC : Hid (sgN s i = 2) := Lib.hid (sg_two (l := [124, 124]) (by decide) hc)
        rw [hc]
        clear hc
        go_wp2
        go_ret
        exact ⟨by rw [HC.out]; rfl, _, rfl⟩
      · have HC : Hid (∀ l, l ∈ twoL.take (5 + 1) → at' s i (mkB l) = false) := Lib.hid (fun l hl => by
          rw [List.take_add_one, List.mem_append] at hl
          rcases hl with hl | hl
          · exact HN.out l hl
          · have e : l = [124, 124] := by simpa [twoL] using hl
            rw [e]; exact hc)
        rw [hc]
        clear hc
        go_wp2
        go_roundw
        case rel => exact ⟨5 + 1, _, by omega, by go_num, rfl, HC⟩
        case measure => simp [intOf]
    · have c0 : w.cell? ⟨sb, 0, none⟩ = some (.string s) := by simpa using HS.out.cell 0
      have c1 : w.cell? ⟨sb, 1, none⟩ = some (.int .i64 i) := by simpa using HS.out.cell 1
      have HE := Lib.hid (sg_one (s := s) (i := i) (fun l hl => HN.out l (by rw [List.take_of_length_le (by decide)]; exact hl)))
      have hbi := b_at s i hi
      have HBI := Lib.hid hbi
      have HS2 : Hid (Sc (w.drewN d) sb s i) := Lib.hid (HS.out.drewN d)
      obtain ⟨Wd, hWd⟩ : ∃ Wd, w.drewN d = Wd := ⟨_, rfl⟩
      have HWD := Lib.hid hWd
      rw [hWd] at HS2 ⊢
      clear c0 c1 hbi hWd
      have c0 : Wd.cell? ⟨sb, 0, none⟩ = some (.string s) := by simpa using HS2.out.cell 0
      have c1 : Wd.cell? ⟨sb, 1, none⟩ = some (.int .i64 i) := by simpa using HS2.out.cell 1
      go_wp2_with fail
      go_quiet (fail)
      rw [HBI.out]
      obtain ⟨c, hc⟩ : ∃ c, B s i = c := ⟨_, rfl⟩
      rw [hc] at HE ⊢
      have HD : Hid (∃ n, Wd.drewN nq = w.drewN n) := Lib.hid ⟨d + nq, by rw [← HWD.out, World.drewN_drewN]⟩
      clear c0 c1 hc HS HN HBI HS2
      generalize Wd.drewN nq = V at HD ⊢
      go_wp2_with fail
      all_goals first
        | (exfalso; simp_all; done)
        | (go_ret
           obtain ⟨n, hn⟩ := HD.out
           refine ⟨?_, n, hn⟩
           have he := HE.out
           rw [he]
           show Ending.returned (.int .i64 _) = _
           simp_all [oneI])
end Go.Proofs.YtlfhdjlgjekcpaaDoor.lx
