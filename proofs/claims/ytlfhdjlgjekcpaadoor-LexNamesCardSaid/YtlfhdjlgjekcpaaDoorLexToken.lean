/-
  Layer 5: the scanner's token.
-/
import Derived.Test.YtlfhdjlgjekcpaaDoorLexSign
import Derived.StillTailTactics
namespace Go.Proofs.YtlfhdjlgjekcpaaDoor.lx
open Go.ChangeShapes Go.WideShapes Go.ChangeAt Go.RowKit
open bs
set_option linter.unusedVariables false

theorem slice_text (s : ByteArray) (i g : Nat) (h : i + g ≤ s.size) (hm : s.size ≤ 100000) (W : World) : (Instr.sliceAt 9 (.string s) (some (.int .i64 i)) (some (.int .i64 ((i : Int) + g))) none).run Tryd.prog W = .ok (.string (s.extract i (i + g))) W := by
  have e1 : ¬ (i : Int) < 0 := by omega
  have e2 : ¬ (i : Int) + g < 0 := by omega
  have e3 : ((i : Int) + g).toNat = i + g := by omega
  have e4 : i + g ≤ s.size := h
  have e5 : i ≤ i + g := by omega
  have e6 : ¬ (s.size : Int) < (i : Int) + g := by omega
  simp [Instr.sliceAt, Instr.slice, Instr.sliceBounds, Instr.sliceBound, asIntOf, Tryd.underlying9, go_sem, e1, e2, e3, e4, e5, e6]

set_option maxRecDepth 100000 in
set_option maxHeartbeats 4000000 in
theorem token_any (sb : Nat) (s : ByteArray) (i : Nat) (w : World) (hG : Gl w) (hS : Sc w sb s i) (hi : i < s.size) (hm : s.size ≤ 100000) :
    Calls Tryd.prog 17 #[.pointer (some ⟨sb, 0, none⟩)] w (TP (on s i) w) := by
  have HW := Lib.hid (below_alloc w (.cells #[.int .i64 0, .int .i64 0, .string ⟨#[]⟩, .int .i64 0, .int .i64 0] 31))
  have HK : Hid (KB (w.alloc (.cells #[.int .i64 0, .int .i64 0, .string ⟨#[]⟩, .int .i64 0, .int .i64 0] 31)) w.heap.size tk0) := kb_new w tk0
  have HS := Lib.hid (hS.below (below_alloc w (.cells #[.int .i64 0, .int .i64 0, .string ⟨#[]⟩, .int .i64 0, .int .i64 0] 31)))
  have HG := Lib.hid (hG.below (below_alloc w (.cells #[.int .i64 0, .int .i64 0, .string ⟨#[]⟩, .int .i64 0, .int .i64 0] 31)))
  have hb0 := b_at s i hi
  have HB0 := Lib.hid hb0
  clear hS hG hb0
  go_enter Tryd.func17, Tryd.ntmps17
  go_upto_region 1 with fail
  generalize hWW : w.alloc (.cells #[.int .i64 0, .int .i64 0, .string ⟨#[]⟩, .int .i64 0, .int .i64 0] 31) = W at HW HK HS HG ⊢
  clear hWW
  have c0 : W.cell? ⟨sb, 0, none⟩ = some (.string s) := by simpa using HS.out.cell 0
  have c1 : W.cell? ⟨sb, 1, none⟩ = some (.int .i64 i) := by simpa using HS.out.cell 1
  go_wp2_with fail
  go_quiet (fail)
  rw [HB0.out]
  have HK2 := Lib.hid (HK.out.drewN nq); have HS2 : Hid (Sc (W.drewN nq) sb s i) := Lib.hid (HS.out.drewN nq)
  have HB2 := Lib.hid (below_drewN HW.out nq); have HG2 := Lib.hid (HG.out.below (below_drewN (Below.refl _ _) nq))
  clear c0 c1 HK HS HW HG HB0
  generalize W.drewN nq = V at HK2 HS2 HB2 HG2 ⊢
  obtain ⟨c, hc⟩ : ∃ c, B s i = c := ⟨_, rfl⟩
  have HC := Lib.hid hc
  rw [hc]
  clear hc
  have fin : ∀ (r : Tk × Int) (w3 w5 : World), Below V.heap.size V w3 → r = on s i → KB w5 w.heap.size r.1 → Only w3 w5 w.heap.size → TP (on s i) w (.returned (.tuple #[r.1.val, .int .i64 r.2])) w5 := fun r w3 w5 hb hr h5 ho5 => by
    rw [← hr]
    exact ⟨rfl, (HB2.out.trans (hb.mono HB2.out.size)).trans (ho5.below (Nat.le_refl _))⟩
  have FIN := Lib.hid fin
  clear fin
  go_wp2_with fail
  refine (letter_any c V).mono ?_
  rintro e V' ⟨rfl, rfl⟩
  rcases Bool.eq_false_or_eq_true (isL c) with hL | hL
  · rw [hL]
    have HL : Hid (isL (B s i) = true) := Lib.hid (by rw [HC.out]; exact hL)
    clear hL
    go_wp2_with fail
    refine (name_any sb s i V' HS2.out hi hm HL.out).mono ?_
    rintro e w3 ⟨rfl, hb3⟩
    have HB3 := Lib.hid hb3
    have HK3 := Lib.hid (HK2.out.below hb3)
    clear hb3
    obtain ⟨r, hr⟩ : ∃ r, on s i = r := ⟨_, rfl⟩
    have HR := Lib.hid hr
    rw [hr]
    clear hr
    obtain ⟨x, z⟩ := r
    go_wp2_with (refine wpList_store_K rfl _ _ rfl rfl HK3.out x rfl ?_)
    intro w5 hv5 ho5
    have HO5 := Lib.hid ho5
    clear ho5
    go_wp2
    try simp only [Exit.inBlock, Exit.then]
    refine bodyPost_ret (results_cell_tmp rfl _ _ w.heap.size _ _ _ rfl hv5 Tryd.underlying31 rfl (by kernel_rfl)) rfl ?_
    exact FIN.out (x, z) w3 w5 HB3.out HR.out.symm hv5 HO5.out
  · rw [hL]
    have HL : Hid (isL (B s i) = false) := Lib.hid (by rw [HC.out]; exact hL)
    clear hL
    go_wp2_with fail
    refine (digit_any c V').mono ?_
    rintro e V2 ⟨rfl, rfl⟩
    rcases Bool.eq_false_or_eq_true (isD c) with hD | hD
    · rw [hD]
      have HD : Hid (isD (B s i) = true) := Lib.hid (by rw [HC.out]; exact hD)
      clear hD
      go_wp2_with fail
      refine (number_any sb s i V2 HG2.out HS2.out hi hm HL.out HD.out).mono ?_
      rintro e w3 ⟨rfl, hb3⟩
      have HB3 := Lib.hid hb3
      have HK3 := Lib.hid (HK2.out.below hb3)
      clear hb3
      obtain ⟨r, hr⟩ : ∃ r, on s i = r := ⟨_, rfl⟩
      have HR := Lib.hid hr
      rw [hr]
      clear hr
      obtain ⟨x, z⟩ := r
      go_wp2_with (refine wpList_store_K rfl _ _ rfl rfl HK3.out x rfl ?_)
      intro w5 hv5 ho5
      have HO5 := Lib.hid ho5
      clear ho5
      go_wp2
      try simp only [Exit.inBlock, Exit.then]
      refine bodyPost_ret (results_cell_tmp rfl _ _ w.heap.size _ _ _ rfl hv5 Tryd.underlying31 rfl (by kernel_rfl)) rfl ?_
      exact FIN.out (x, z) w3 w5 HB3.out HR.out.symm hv5 HO5.out
    · rw [hD]
      have HD : Hid (isD (B s i) = false) := Lib.hid (by rw [HC.out]; exact hD)
      clear hD
      go_wp2_with fail
      refine (sign_any sb s i V2 HS2.out hi hm).mono ?_
      rintro e w3 ⟨rfl, d, rfl⟩
      have HB3 : Hid (Below V2.heap.size V2 (V2.drewN d)) := Lib.hid (below_drewN (Below.refl _ _) d)
      have HK3 := Lib.hid (HK2.out.drewN d); have HS3 : Hid (Sc (V2.drewN d) sb s i) := Lib.hid (HS2.out.drewN d)
      clear HK2 HS2 HG2
      have hle := sg_le hi
      obtain ⟨g, hg⟩ : ∃ g, sgN s i = g := ⟨_, rfl⟩
      have HGs := Lib.hid hg
      rw [hg] at hle ⊢
      clear hg
      obtain ⟨V3, hV3⟩ : ∃ V3, V2.drewN d = V3 := ⟨_, rfl⟩
      rw [hV3] at HB3 HK3 HS3 ⊢
      clear hV3
      by_cases h0 : g = 0
      · subst h0
        have HE : Hid (on s i = (tk0, 4)) := Lib.hid (tk_none HL.out HD.out HGs.out)
        go_wp2_with (refine wpList_store_K rfl _ _ rfl rfl HK3.out tk0 rfl ?_)
        intro w5 hv5 ho5
        have HO5 := Lib.hid ho5
        clear ho5
        go_wp2
        try simp only [Exit.inBlock, Exit.then]
        refine bodyPost_ret (results_cell_tmp rfl _ _ w.heap.size _ _ _ rfl hv5 Tryd.underlying31 rfl (by kernel_rfl)) rfl ?_
        exact FIN.out (tk0, 4) V3 w5 HB3.out HE.out.symm hv5 HO5.out
      · have hg0 : 0 < g := by omega
        have HE : Hid (on s i = (⟨4, 0, s.extract i (i + g), i, (i + g : Nat)⟩, 0)) := Lib.hid (by
          have e := tk_sign HL.out HD.out (by rw [HGs.out]; exact h0)
          rw [HGs.out] at e
          exact e)
        have d0 : decide ((0 : Int) < g) = true := decide_eq_true (by omega)
        have c0 : V3.cell? ⟨sb, 0, none⟩ = some (.string s) := by simpa using HS3.out.cell 0
        have c1 : V3.cell? ⟨sb, 1, none⟩ = some (.int .i64 i) := by simpa using HS3.out.cell 1
        have hw : IntKind.i64.wrap ((i : Int) + g) = ((i + g : Nat) : Int) := by rw [IntWalk.i64_in _ (by omega)]; omega
        have hsl := slice_text s i g hle hm
        clear h0
        go_wp2_with fail
        go_still_tail 26, (by kernel_rfl)
        change wpList _ _ _ _ _ (V3.drewN 1)
        have HK4 := Lib.hid (HK3.out.drewN 1)
        have HB4 := Lib.hid (below_drewN HB3.out 1)
        clear c0 c1 HK3 HS3 HB3
        generalize V3.drewN 1 = V4 at HK4 HB4 ⊢
        have hcast : ((i + g : Nat) : Int) = (i : Int) + g := by omega
        rw [hcast] at HE
        go_wp2_with (refine wpList_store_K rfl _ _ rfl rfl HK4.out ⟨4, 0, s.extract i (i + g), i, (i : Int) + g⟩ rfl ?_)
        intro w5 hv5 ho5
        have HO5 := Lib.hid ho5
        clear ho5
        go_wp2
        try simp only [Exit.inBlock, Exit.then]
        refine bodyPost_ret (results_cell_tmp rfl _ _ w.heap.size _ _ _ rfl hv5 Tryd.underlying31 rfl (by kernel_rfl)) rfl ?_
        exact FIN.out (⟨4, 0, s.extract i (i + g), i, (i : Int) + g⟩, 0) V4 w5 HB4.out HE.out.symm hv5 HO5.out
end Go.Proofs.YtlfhdjlgjekcpaaDoor.lx
