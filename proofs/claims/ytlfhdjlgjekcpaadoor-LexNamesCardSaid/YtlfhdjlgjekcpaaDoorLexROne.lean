/-
  Layer 5: the document's One.
-/
import Derived.Test.YtlfhdjlgjekcpaaDoorLexRNum
import Derived.StillTailTactics
import Derived.Deep.CutRange
namespace Go.Proofs.YtlfhdjlgjekcpaaDoor.lx
open Go.ChangeShapes Go.WideShapes Go.ChangeAt Go.RowKit
open bs
set_option linter.unusedVariables false

theorem slice_txt2 (s : ByteArray) (i j : Nat) (h1 : i ≤ j) (h : j ≤ s.size) (hm : s.size ≤ 100000) (W : World) : (Instr.sliceAt 9 (.string s) (some (.int .i64 i)) (some (.int .i64 j)) none).run Tryd.prog W = .ok (.string (s.extract i j)) W := by
  have e1 : ¬ (i : Int) < 0 := by omega
  have e2 : ¬ (j : Int) < 0 := by omega
  have e6 : ¬ (s.size : Int) < (j : Int) := by omega
  simp [Instr.sliceAt, Instr.slice, Instr.sliceBounds, Instr.sliceBound, asIntOf, Tryd.underlying9, go_sem, h1, h, e1, e2, e6]

theorem find_first {α : Type} {p : α → Bool} {L : List α} {k : Nat} {x : α} (h : ∀ y ∈ L.take k, p y = false) (hx : L[k]? = some x) (hp : p x = true) : L.find? p = some x := by
  obtain ⟨hk, he⟩ := List.getElem?_eq_some_iff.1 hx
  have e : L = L.take k ++ x :: L.drop (k + 1) := by
    rw [← he, ← List.drop_eq_getElem_cons hk, List.take_append_drop]
  rw [e, List.find?_append, List.find?_eq_none.2 (fun y hy => by rw [h y hy]; decide), Option.none_or, List.find?_cons_of_pos hp]
/-- The sign that was found. -/
theorem sg_found {s : ByteArray} {i : Nat} (hi : i < s.size) {k : Nat} {l : List UInt8} (h : ∀ y ∈ signL.take k, at' s i (mkB y) = false) (hx : signL[k]? = some l) (hp : at' s i (mkB l) = true) : ¬ sgN s i = 0 ∧ mkB l = s.extract i (i + sgN s i) ∧ (mkB l).size = sgN s i := by
  have h1 := find_first (p := fun l => at' s i (mkB l)) h hx hp
  rw [sg_find hi] at h1
  by_cases h0 : sgN s i = 0
  · rw [if_pos h0] at h1; cases h1
  · rw [if_neg h0] at h1
    have h2 := Option.some.inj h1
    have h3 : mkB l = s.extract i (i + sgN s i) := by rw [← h2]; rfl
    refine ⟨h0, h3, ?_⟩
    rw [h3, size_cut s i _ (by omega) (sg_le hi)]
    omega
theorem sg_not {s : ByteArray} {i : Nat} (hi : i < s.size) (h : ∀ y ∈ signL, at' s i (mkB y) = false) : sgN s i = 0 := by
  have h1 : signL.find? (fun l => at' s i (mkB l)) = none := List.find?_eq_none.2 (fun y hy => by rw [h y hy]; decide)
  rw [sg_find hi] at h1
  by_cases h0 : sgN s i = 0
  · exact h0
  · rw [if_neg h0] at h1; cases h1

set_option maxRecDepth 100000 in
set_option maxHeartbeats 8000000 in
theorem rone_any (s : ByteArray) (i : Nat) (w : World) (hi : i < s.size) (hm : s.size ≤ 100000) :
    Calls Tryd.prog 19 #[.string s, .int .i64 i] w (TP (on s i) w) := by
  have HW := Lib.hid (below_alloc w (.cells #[.int .i64 0, .int .i64 0, .string ⟨#[]⟩, .int .i64 0, .int .i64 0] 31))
  have HK : Hid (KB (w.alloc (.cells #[.int .i64 0, .int .i64 0, .string ⟨#[]⟩, .int .i64 0, .int .i64 0] 31)) w.heap.size tk0) := kb_new w tk0
  have hb0 := b_at s i hi
  have HB0 := Lib.hid hb0
  clear hb0
  go_enter Tryd.func19, Tryd.ntmps19
  go_upto_region 1 with fail
  generalize hWW : w.alloc (.cells #[.int .i64 0, .int .i64 0, .string ⟨#[]⟩, .int .i64 0, .int .i64 0] 31) = W at HW HK ⊢
  clear hWW
  go_wp2_with fail
  rw [HB0.out]
  obtain ⟨c, hc⟩ : ∃ c, B s i = c := ⟨_, rfl⟩
  have HC := Lib.hid hc
  rw [hc]
  clear hc HB0
  have fin : ∀ (r : Tk × Int) (w3 w5 : World), Below W.heap.size W w3 → r = on s i → KB w5 w.heap.size r.1 → Only w3 w5 w.heap.size → TP (on s i) w (.returned (.tuple #[r.1.val, .int .i64 r.2])) w5 := fun r w3 w5 hb hr h5 ho5 => by
    rw [← hr]
    exact ⟨rfl, (HW.out.trans (hb.mono HW.out.size)).trans (ho5.below (Nat.le_refl _))⟩
  have FIN := Lib.hid fin
  clear fin
  refine (rletter_any c W).mono ?_
  rintro e W' ⟨rfl, rfl⟩
  rcases Bool.eq_false_or_eq_true (isL c) with hL | hL
  · rw [hL]
    have HL : Hid (isL (B s i) = true) := Lib.hid (by rw [HC.out]; exact hL)
    clear hL
        -- GEN (written by gen_rone.py)
    go_wp2
    go_loopw [7] (fun j wr => ∃ k : Nat, i ≤ k ∧ k ≤ s.size ∧ j = .int .i64 k ∧ wr = W' ∧ Hid (run isN s k = run isN s i)) (fun j _ => s.size - (intOf j).toNat)
    case atStart => exact ⟨i, by omega, by omega, rfl, rfl, Lib.hid rfl⟩
    case round =>
      obtain ⟨k, hik, hk, rfl, rfl, HR⟩ := hrel
      by_cases hlt : k < s.size
      · have HBk := Lib.hid (b_at s k hlt)
        go_wp2_with fail
        refine (rletter_any _ _).mono ?_
        rintro e w1 ⟨rfl, rfl⟩
        rw [b_at s k hlt]
        rcases Bool.eq_false_or_eq_true (isL (B s k)) with hp | hp
        · have HP : Hid (isN (B s k) = true) := Lib.hid (by unfold isN; rw [hp]; rfl)
          rw [hp]
          clear hp
          go_wp2
          go_roundw
          case rel => exact ⟨k + 1, by omega, by omega, by go_num, by trivial, Lib.hid ((run_yes hlt HP.out).symm.trans HR.out)⟩
          case measure => simp [intOf]; omega
        · have HPL := Lib.hid hp
          rw [hp]
          clear hp
          go_wp2_with fail
          refine (rdigit_any _ _).mono ?_
          rintro e w2 ⟨rfl, rfl⟩
          rw [b_at s k hlt]
          rcases Bool.eq_false_or_eq_true (isD (B s k)) with hq | hq
          · have HP : Hid (isN (B s k) = true) := Lib.hid (by unfold isN; rw [hq, Bool.or_true])
            rw [hq]
            clear hq
            go_wp2
            go_roundw
            case rel => exact ⟨k + 1, by omega, by omega, by go_num, by trivial, Lib.hid ((run_yes hlt HP.out).symm.trans HR.out)⟩
            case measure => simp [intOf]; omega
          · have HP : Hid (isN (B s k) = false) := Lib.hid (by unfold isN; rw [HPL.out, hq]; rfl)
            have HRUN : Hid (run isN s i = k) := Lib.hid (by rw [← HR.out, run_no HP.out])
            rw [hq]
            clear hq HP HPL HR
            obtain ⟨wr, hwr⟩ : ∃ wr, wr = w2 := ⟨_, rfl⟩
            subst hwr
            by_cases hlong : 16 < k - i
            · have d1 : decide ((16 : Int) < (k : Int) - i) = true := decide_eq_true (by omega)
              have HE : Hid (on s i = (tk0, 3)) := Lib.hid (tk_long HL.out (by rw [HRUN.out]; exact hlong))
              clear hlong
              go_wp2_with (refine wpList_store_K rfl _ _ rfl rfl HK.out tk0 rfl ?_)
              intro w5 hv5 ho5
              have HO5 := Lib.hid ho5
              clear ho5
              go_wp2
              try simp only [Exit.inBlock, Exit.then]
              refine bodyPost_ret (results_cell_tmp rfl _ _ w.heap.size _ _ _ rfl hv5 Tryd.underlying31 rfl (by kernel_rfl)) rfl ?_
              exact FIN.out (tk0, 3) wr w5 (Below.refl _ _) HE.out.symm hv5 HO5.out
            · have d1 : decide ((16 : Int) < (k : Int) - i) = false := decide_eq_false (by omega)
              have hsl := slice_txt2 s i k hik hk hm
              have hv0 : on s i = (⟨if isW (s.extract i k) = true then 3 else 1, 0, s.extract i k, i, k⟩, 0) := by
                have e := tk_name HL.out (by rw [HRUN.out]; exact hlong)
                rw [HRUN.out] at e
                exact e
              have HV0 := Lib.hid hv0
              clear hlong hv0
              obtain ⟨v, hv⟩ : ∃ v, s.extract i k = v := ⟨_, rfl⟩
              rw [hv] at hsl HV0
              clear hv
              go_wp2_with fail
              refine (words_any wr).mono ?_
              rintro e w3 ⟨rfl, hss, hb3⟩
              have HSS := Lib.hid hss; have HB3 := Lib.hid hb3; have HK3 := Lib.hid (HK.out.below hb3)
              clear hss hb3
              go_wp2_with fail
              refine (among_any v _ 20 20 wordB w3 HSS.out).mono ?_
              rintro e w4 ⟨rfl, rfl⟩
              rw [← isw_eq]
              rcases Bool.eq_false_or_eq_true (isW v) with hw | hw
              · have HE : Hid (on s i = (⟨3, 0, v, i, k⟩, 0)) := Lib.hid (by rw [HV0.out, hw]; rfl)
                rw [hw]
                clear hw
                go_wp2_with (refine wpList_store_K rfl _ _ rfl rfl HK3.out ⟨3, 0, v, i, k⟩ rfl ?_)
                intro w5 hv5 ho5
                have HO5 := Lib.hid ho5
                clear ho5
                go_wp2
                try simp only [Exit.inBlock, Exit.then]
                refine bodyPost_ret (results_cell_tmp rfl _ _ w.heap.size _ _ _ rfl hv5 Tryd.underlying31 rfl (by kernel_rfl)) rfl ?_
                exact FIN.out (⟨3, 0, v, i, k⟩, 0) w4 w5 HB3.out HE.out.symm hv5 HO5.out
              · have HE : Hid (on s i = (⟨1, 0, v, i, k⟩, 0)) := Lib.hid (by rw [HV0.out, hw]; rfl)
                rw [hw]
                clear hw
                go_wp2_with (refine wpList_store_K rfl _ _ rfl rfl HK3.out ⟨1, 0, v, i, k⟩ rfl ?_)
                intro w5 hv5 ho5
                have HO5 := Lib.hid ho5
                clear ho5
                go_wp2
                try simp only [Exit.inBlock, Exit.then]
                refine bodyPost_ret (results_cell_tmp rfl _ _ w.heap.size _ _ _ rfl hv5 Tryd.underlying31 rfl (by kernel_rfl)) rfl ?_
                exact FIN.out (⟨1, 0, v, i, k⟩, 0) w4 w5 HB3.out HE.out.symm hv5 HO5.out
      · have d9 : decide ((k : Int) < s.size) = false := decide_eq_false (by omega)
        have HRUN : Hid (run isN s i = k) := Lib.hid (by rw [← HR.out, run_end (by omega)])
        clear HR
        by_cases hlong : 16 < k - i
        · have d1 : decide ((16 : Int) < (k : Int) - i) = true := decide_eq_true (by omega)
          have HE : Hid (on s i = (tk0, 3)) := Lib.hid (tk_long HL.out (by rw [HRUN.out]; exact hlong))
          clear hlong
          go_wp2_with (refine wpList_store_K rfl _ _ rfl rfl HK.out tk0 rfl ?_)
          intro w5 hv5 ho5
          have HO5 := Lib.hid ho5
          clear ho5
          go_wp2
          try simp only [Exit.inBlock, Exit.then]
          refine bodyPost_ret (results_cell_tmp rfl _ _ w.heap.size _ _ _ rfl hv5 Tryd.underlying31 rfl (by kernel_rfl)) rfl ?_
          exact FIN.out (tk0, 3) wr w5 (Below.refl _ _) HE.out.symm hv5 HO5.out
        · have d1 : decide ((16 : Int) < (k : Int) - i) = false := decide_eq_false (by omega)
          have hsl := slice_txt2 s i k hik hk hm
          have hv0 : on s i = (⟨if isW (s.extract i k) = true then 3 else 1, 0, s.extract i k, i, k⟩, 0) := by
            have e := tk_name HL.out (by rw [HRUN.out]; exact hlong)
            rw [HRUN.out] at e
            exact e
          have HV0 := Lib.hid hv0
          clear hlong hv0
          obtain ⟨v, hv⟩ : ∃ v, s.extract i k = v := ⟨_, rfl⟩
          rw [hv] at hsl HV0
          clear hv
          go_wp2_with fail
          refine (words_any wr).mono ?_
          rintro e w3 ⟨rfl, hss, hb3⟩
          have HSS := Lib.hid hss; have HB3 := Lib.hid hb3; have HK3 := Lib.hid (HK.out.below hb3)
          clear hss hb3
          go_wp2_with fail
          refine (among_any v _ 20 20 wordB w3 HSS.out).mono ?_
          rintro e w4 ⟨rfl, rfl⟩
          rw [← isw_eq]
          rcases Bool.eq_false_or_eq_true (isW v) with hw | hw
          · have HE : Hid (on s i = (⟨3, 0, v, i, k⟩, 0)) := Lib.hid (by rw [HV0.out, hw]; rfl)
            rw [hw]
            clear hw
            go_wp2_with (refine wpList_store_K rfl _ _ rfl rfl HK3.out ⟨3, 0, v, i, k⟩ rfl ?_)
            intro w5 hv5 ho5
            have HO5 := Lib.hid ho5
            clear ho5
            go_wp2
            try simp only [Exit.inBlock, Exit.then]
            refine bodyPost_ret (results_cell_tmp rfl _ _ w.heap.size _ _ _ rfl hv5 Tryd.underlying31 rfl (by kernel_rfl)) rfl ?_
            exact FIN.out (⟨3, 0, v, i, k⟩, 0) w4 w5 HB3.out HE.out.symm hv5 HO5.out
          · have HE : Hid (on s i = (⟨1, 0, v, i, k⟩, 0)) := Lib.hid (by rw [HV0.out, hw]; rfl)
            rw [hw]
            clear hw
            go_wp2_with (refine wpList_store_K rfl _ _ rfl rfl HK3.out ⟨1, 0, v, i, k⟩ rfl ?_)
            intro w5 hv5 ho5
            have HO5 := Lib.hid ho5
            clear ho5
            go_wp2
            try simp only [Exit.inBlock, Exit.then]
            refine bodyPost_ret (results_cell_tmp rfl _ _ w.heap.size _ _ _ rfl hv5 Tryd.underlying31 rfl (by kernel_rfl)) rfl ?_
            exact FIN.out (⟨1, 0, v, i, k⟩, 0) w4 w5 HB3.out HE.out.symm hv5 HO5.out
  · rw [hL]
    have HL : Hid (isL (B s i) = false) := Lib.hid (by rw [HC.out]; exact hL)
    clear hL
    go_wp2_with fail
    refine (rdigit_any c W').mono ?_
    rintro e W2 ⟨rfl, rfl⟩
    rcases Bool.eq_false_or_eq_true (isD c) with hD | hD
    · rw [hD]
      have HD : Hid (isD (B s i) = true) := Lib.hid (by rw [HC.out]; exact hD)
      clear hD
      obtain ⟨W', hW'⟩ : ∃ W', W' = W2 := ⟨_, rfl⟩
      subst hW'
      go_wp2
      go_loopw [7] (fun j wr => ∃ k : Nat, i ≤ k ∧ k ≤ s.size ∧ j = .int .i64 k ∧ wr = W' ∧ Hid (run isD s k = run isD s i)) (fun j _ => s.size - (intOf j).toNat)
      case atStart => exact ⟨i, by omega, by omega, rfl, rfl, Lib.hid rfl⟩
      case round =>
        obtain ⟨k, hik, hk, rfl, rfl, HR⟩ := hrel
        by_cases hlt : k < s.size
        · have HBk := Lib.hid (b_at s k hlt)
          go_wp2_with fail
          refine (rdigit_any _ _).mono ?_
          rintro e w2 ⟨rfl, rfl⟩
          rw [b_at s k hlt]
          rcases Bool.eq_false_or_eq_true (isD (B s k)) with hq | hq
          · have HP := Lib.hid hq
            rw [hq]
            clear hq
            go_wp2
            go_roundw
            case rel => exact ⟨k + 1, by omega, by omega, by go_num, by trivial, Lib.hid ((run_yes hlt HP.out).symm.trans HR.out)⟩
            case measure => simp [intOf]; omega
          · have HP := Lib.hid hq
            have HRUN : Hid (run isD s i = k) := Lib.hid (by rw [← HR.out, run_no HP.out])
            rw [hq]
            clear hq HP HR
            obtain ⟨wr, hwr⟩ : ∃ wr, wr = w2 := ⟨_, rfl⟩
            subst hwr
            have hsl := slice_txt2 s i k hik hk hm
            have hlt2 : i < k := by
              rw [← HRUN.out, run_yes hi HD.out]
              have := run_bd isD s (i + 1) (by omega)
              omega
            have hcut : (s.extract i k).size = k - i := size_cut s i k hik hk
            have hdig := dig_cut (s := s) (i := i) (by omega)
            rw [HRUN.out] at hdig
            have HDG := Lib.hid hdig
            have HN0 : Hid (∀ o, num (s.extract i k) = o → on s i = (match o with | none => (tk0, 5) | some n => (⟨2, n, ⟨#[]⟩, i, k⟩, 0))) := Lib.hid (fun o ho => by
              cases o with
              | none => exact tk_nonum HL.out HD.out (by rw [HRUN.out]; exact ho)
              | some n =>
                have e := tk_number HL.out HD.out (by rw [HRUN.out]; exact ho)
                rw [HRUN.out] at e
                exact e)
            obtain ⟨v, hv⟩ : ∃ v, s.extract i k = v := ⟨_, rfl⟩
            rw [hv] at hsl hcut HDG HN0
            have HCUT := Lib.hid hcut
            clear hv hcut hdig
            go_wp2_with fail
            refine (rnumber_any v wr HDG.out (by have := HCUT.out; omega) (by have := HCUT.out; omega)).mono ?_
            rintro e w3 ⟨rfl, rfl⟩
            rcases hn : num v with _ | z
            · have HE : Hid (on s i = (tk0, 5)) := Lib.hid (HN0.out none hn)
              clear hn
              go_wp2_with (refine wpList_store_K rfl _ _ rfl rfl HK.out tk0 rfl ?_)
              intro w5 hv5 ho5
              have HO5 := Lib.hid ho5
              clear ho5
              go_wp2
              try simp only [Exit.inBlock, Exit.then]
              refine bodyPost_ret (results_cell_tmp rfl _ _ w.heap.size _ _ _ rfl hv5 Tryd.underlying31 rfl (by kernel_rfl)) rfl ?_
              exact FIN.out (tk0, 5) w3 w5 (Below.refl _ _) HE.out.symm hv5 HO5.out
            · have HE : Hid (on s i = (⟨2, z, ⟨#[]⟩, i, k⟩, 0)) := Lib.hid (HN0.out (some z) hn)
              clear hn
              simp only [optI, Option.getD_some, Option.isSome_some]
              go_wp2_with (refine wpList_store_K rfl _ _ rfl rfl HK.out ⟨2, z, ⟨#[]⟩, i, k⟩ rfl ?_)
              intro w5 hv5 ho5
              have HO5 := Lib.hid ho5
              clear ho5
              go_wp2
              try simp only [Exit.inBlock, Exit.then]
              refine bodyPost_ret (results_cell_tmp rfl _ _ w.heap.size _ _ _ rfl hv5 Tryd.underlying31 rfl (by kernel_rfl)) rfl ?_
              exact FIN.out (⟨2, z, ⟨#[]⟩, i, k⟩, 0) w3 w5 (Below.refl _ _) HE.out.symm hv5 HO5.out
        · have d9 : decide ((k : Int) < s.size) = false := decide_eq_false (by omega)
          have HRUN : Hid (run isD s i = k) := Lib.hid (by rw [← HR.out, run_end (by omega)])
          clear HR
          have hsl := slice_txt2 s i k hik hk hm
          have hlt2 : i < k := by
            rw [← HRUN.out, run_yes hi HD.out]
            have := run_bd isD s (i + 1) (by omega)
            omega
          have hcut : (s.extract i k).size = k - i := size_cut s i k hik hk
          have hdig := dig_cut (s := s) (i := i) (by omega)
          rw [HRUN.out] at hdig
          have HDG := Lib.hid hdig
          have HN0 : Hid (∀ o, num (s.extract i k) = o → on s i = (match o with | none => (tk0, 5) | some n => (⟨2, n, ⟨#[]⟩, i, k⟩, 0))) := Lib.hid (fun o ho => by
            cases o with
            | none => exact tk_nonum HL.out HD.out (by rw [HRUN.out]; exact ho)
            | some n =>
              have e := tk_number HL.out HD.out (by rw [HRUN.out]; exact ho)
              rw [HRUN.out] at e
              exact e)
          obtain ⟨v, hv⟩ : ∃ v, s.extract i k = v := ⟨_, rfl⟩
          rw [hv] at hsl hcut HDG HN0
          have HCUT := Lib.hid hcut
          clear hv hcut hdig
          go_wp2_with fail
          refine (rnumber_any v wr HDG.out (by have := HCUT.out; omega) (by have := HCUT.out; omega)).mono ?_
          rintro e w3 ⟨rfl, rfl⟩
          rcases hn : num v with _ | z
          · have HE : Hid (on s i = (tk0, 5)) := Lib.hid (HN0.out none hn)
            clear hn
            go_wp2_with (refine wpList_store_K rfl _ _ rfl rfl HK.out tk0 rfl ?_)
            intro w5 hv5 ho5
            have HO5 := Lib.hid ho5
            clear ho5
            go_wp2
            try simp only [Exit.inBlock, Exit.then]
            refine bodyPost_ret (results_cell_tmp rfl _ _ w.heap.size _ _ _ rfl hv5 Tryd.underlying31 rfl (by kernel_rfl)) rfl ?_
            exact FIN.out (tk0, 5) w3 w5 (Below.refl _ _) HE.out.symm hv5 HO5.out
          · have HE : Hid (on s i = (⟨2, z, ⟨#[]⟩, i, k⟩, 0)) := Lib.hid (HN0.out (some z) hn)
            clear hn
            simp only [optI, Option.getD_some, Option.isSome_some]
            go_wp2_with (refine wpList_store_K rfl _ _ rfl rfl HK.out ⟨2, z, ⟨#[]⟩, i, k⟩ rfl ?_)
            intro w5 hv5 ho5
            have HO5 := Lib.hid ho5
            clear ho5
            go_wp2
            try simp only [Exit.inBlock, Exit.then]
            refine bodyPost_ret (results_cell_tmp rfl _ _ w.heap.size _ _ _ rfl hv5 Tryd.underlying31 rfl (by kernel_rfl)) rfl ?_
            exact FIN.out (⟨2, z, ⟨#[]⟩, i, k⟩, 0) w3 w5 (Below.refl _ _) HE.out.symm hv5 HO5.out
    · rw [hD]
      have HD : Hid (isD (B s i) = false) := Lib.hid (by rw [HC.out]; exact hD)
      clear hD
      go_wp2_with fail
      refine (signs_any W2).mono ?_
      rintro e V ⟨rfl, hss, hbv⟩
      have HSS := Lib.hid hss; have HBV := Lib.hid hbv; have HKV := Lib.hid (HK.out.below hbv)
      clear hss hbv
      generalize W2.heap.size = sg at HSS ⊢
      go_wp2
      go_loopw [12] (fun j wr => ∃ k : Nat, k ≤ 26 ∧ j = .int .i64 k ∧ wr = V ∧ Hid (∀ y ∈ signL.take k, at' s i (mkB y) = false)) (fun j _ => 26 - (intOf j).toNat)
      case atStart => exact ⟨0, by omega, rfl, rfl, Lib.hid (fun y hy => by simp at hy)⟩
      case round =>
        obtain ⟨k, hk, rfl, rfl, HN⟩ := hrel
        by_cases hlt : k < 26
        · obtain ⟨b, off, x, hab, hb, hx, hc⟩ := ss_at HSS.out hlt
          simp only [Option.some.injEq, Addr.mk.injEq] at hab
          obtain ⟨rfl, rfl, _⟩ := hab
          have hxl : ∃ l, signL[k]? = some l ∧ x = mkB l := by
            unfold signB at hx
            rw [List.getElem?_map] at hx
            obtain ⟨l, h1, h2⟩ := Option.map_eq_some_iff.1 hx
            exact ⟨l, h1, h2.symm⟩
          obtain ⟨l, hl, hxe⟩ := hxl
          have hsz : x.size ≤ 2 := by
            have : ∀ y ∈ signL, y.length ≤ 2 := by decide
            rw [hxe, mk_size]
            exact this l (List.mem_of_getElem? hl)
          have HL1 := Lib.hid hl; have HXE := Lib.hid hxe
          rw [Nat.zero_add] at hc
          clear hl hxe hx
          go_wp2_with fail
          refine (begins_any s i x _ (by omega) hm (by omega)).mono ?_
          rintro e V2 ⟨rfl, rfl⟩
          rcases Bool.eq_false_or_eq_true (at' s i x) with hp | hp
          · have hf := sg_found hi HN.out HL1.out (by rw [← HXE.out]; exact hp)
            rw [← HXE.out] at hf
            have hle := sg_le hi
            have HE : Hid (on s i = (⟨4, 0, x, i, (i : Int) + x.size⟩, 0)) := Lib.hid (by
              rw [tk_sign HL.out HD.out hf.1, ← hf.2.1, ← hf.2.2]
              rw [show ((i + x.size : Nat) : Int) = (i : Int) + x.size by omega])
            rw [hp]
            clear hp hf
            have hw : IntKind.i64.wrap ((i : Int) + x.size) = (i : Int) + x.size := IntWalk.i64_in _ (by omega)
            go_wp2_with fail
            go_still_tail 13, (by kernel_rfl)
            change wpList _ _ _ _ _ (V2.drewN 1)
            have HK4 := Lib.hid (HKV.out.drewN 1)
            have HB4 := Lib.hid (below_drewN HBV.out 1)
            clear hc HKV HBV HSS
            generalize V2.drewN 1 = V4 at HK4 HB4 ⊢
            go_wp2_with (refine wpList_store_K rfl _ _ rfl rfl HK4.out ⟨4, 0, x, i, (i : Int) + x.size⟩ rfl ?_)
            intro w5 hv5 ho5
            have HO5 := Lib.hid ho5
            clear ho5
            go_wp2
            try simp only [Exit.inBlock, Exit.then]
            refine bodyPost_ret (results_cell_tmp rfl _ _ w.heap.size _ _ _ rfl hv5 Tryd.underlying31 rfl (by kernel_rfl)) rfl ?_
            exact FIN.out (⟨4, 0, x, i, (i : Int) + x.size⟩, 0) V4 w5 HB4.out HE.out.symm hv5 HO5.out
          · have HE : Hid (∀ y ∈ signL.take (k + 1), at' s i (mkB y) = false) := Lib.hid (fun y hy => by
              rw [List.take_add_one, List.mem_append] at hy
              rcases hy with hy | hy
              · exact HN.out y hy
              · rw [HL1.out] at hy
                have e : y = l := by simpa using hy
                rw [e, ← HXE.out]; exact hp)
            rw [hp]
            clear hp
            go_wp2
            go_roundw
            case rel => exact ⟨k + 1, by omega, by go_num, by trivial, HE⟩
            case measure => simp [intOf]; omega
        · have hn := sg_not hi (fun y hy => HN.out y (by rw [List.take_of_length_le (by have : signL.length = 26 := rfl; omega)]; exact hy))
          have HE : Hid (on s i = (tk0, 4)) := Lib.hid (tk_none HL.out HD.out hn)
          clear hn
          obtain rfl : k = 26 := by omega
          go_wp2_with (refine wpList_store_K rfl _ _ rfl rfl HKV.out tk0 rfl ?_)
          intro w5 hv5 ho5
          have HO5 := Lib.hid ho5
          clear ho5
          go_wp2
          try simp only [Exit.inBlock, Exit.then]
          refine bodyPost_ret (results_cell_tmp rfl _ _ w.heap.size _ _ _ rfl hv5 Tryd.underlying31 rfl (by kernel_rfl)) rfl ?_
          exact FIN.out (tk0, 4) wr w5 HBV.out HE.out.symm hv5 HO5.out
end Go.Proofs.YtlfhdjlgjekcpaaDoor.lx
