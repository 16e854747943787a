/-
  Layer 4: the walks of the statements on tags.
-/
import Derived.Test.YtlpiacofnciodaaShaTag
import Derived.Test.YtlpiacofnciodaaSame
namespace Go.Proofs.Ytlpiacofnciodaa.sh
open Go.ChangeShapes Go.WideShapes Go.ChangeAt Go.RowKit
open bs
set_option linter.unusedVariables false
open Go.Proofs.Ytlpiacofnciodaa.ss (be be_len be_bytes tail zer APost byteT)

theorem nilB (w : World) : Bytes w none 0 0 [] := ⟨rfl, Nat.le_refl _, by omega, by simp [AllB], fun _ => rfl, .inl rfl⟩

set_option maxHeartbeats 1000000 in
theorem tags (a : Option Addr) (n c : Nat) (l : List Int) (a' : Option Addr) (n' c' : Nat) (m : List Int) (w : World) (h : Bytes w a n c l) (h' : Bytes w a' n' c' m) :
    Calls Try.prog 6 #[.slice a n c, .slice a' n' c'] w fun e w' => e = .returned (.bool true) ∧ Below w.heap.size w w' := by
  have hc := h.cap; have hm := h.most
  have hc' := h'.cap; have hm' := h'.most
  have H1 := Lib.hid h; have H2 := Lib.hid h'
  clear h h'
  by_cases hn : 200 < n
  · have d1 : (200 : Int) < (n : Int) := by omega
    go_enter Try.func6, Try.ntmps6
    go_wp2_with fail
    refine (ptag_any none 0 0 [] none 0 0 [] _ (nilB _) (nilB _) (by omega) (by omega)).mono ?_
    rintro e w1 ⟨a1, c1, rfl, ho, hb⟩
    have HB := Lib.hid hb
    clear ho hb
    go_wp2
    go_ret
    exact ⟨rfl, HB.out⟩
  · have d1 : decide ((200 : Int) < (n : Int)) = false := decide_eq_false (by omega)
    by_cases hn' : 200 < n'
    · have d2 : (200 : Int) < (n' : Int) := by omega
      go_enter Try.func6, Try.ntmps6
      go_wp2_with fail
      refine (ptag_any none 0 0 [] none 0 0 [] _ (nilB _) (nilB _) (by omega) (by omega)).mono ?_
      rintro e w1 ⟨a1, c1, rfl, ho, hb⟩
      have HB := Lib.hid hb
      clear ho hb
      go_wp2
      go_ret
      exact ⟨rfl, HB.out⟩
    · have d2 : decide ((200 : Int) < (n' : Int)) = false := decide_eq_false (by omega)
      go_enter Try.func6, Try.ntmps6
      go_wp2_with fail
      refine (ptag_any a n c l a' n' c' m _ H1.out H2.out (by omega) (by omega)).mono ?_
      rintro e w1 ⟨a1, c1, rfl, ho, hb⟩
      have HO := Lib.hid ho.bytes; have HB := Lib.hid hb; have H11 := Lib.hid (H1.out.below hb); have H21 := Lib.hid (H2.out.below hb)
      have s1 := hb.size
      clear ho hb
      go_wp2_with fail
      refine (rtag_any a n c l a' n' c' m _ H11.out H21.out (by omega) (by omega)).mono ?_
      rintro e w2 ⟨a2, c2, rfl, ho, hb⟩
      have HO2 := Lib.hid ho.bytes; have HB2 := Lib.hid (HB.out.trans (hb.mono s1)); have HO1 := Lib.hid (HO.out.below hb)
      clear ho hb
      go_wp2_with fail
      refine (rsame_any _ _ _ _ _ _ _ _ _ HO1.out HO2.out).mono ?_
      rintro e w3 ⟨rfl, k, rfl⟩
      have HB3 := Lib.hid (below_drewN HB2.out k)
      go_wp2
      go_ret
      exact ⟨by simp, HB3.out⟩

theorem kk_sum (l : List Int) (h : 64 < l.length) : kb (shaSum l) = kb l := by
  have e1 : kk l = shaSum l := if_pos h
  have e2 : kk (shaSum l) = shaSum l := if_neg (by rw [shaSum_len]; omega)
  unfold kb
  rw [e1, e2]
theorem kb_zero (l : List Int) (h : l.length < 64) : kb (l ++ [0]) = kb l := by
  have e1 : kk l = l := if_neg (by omega)
  have e2 : kk (l ++ [0]) = l ++ [0] := if_neg (by rw [List.length_append]; simp; omega)
  unfold kb
  rw [e1, e2, List.append_assoc]
  congr 1
  rw [List.length_append, show 64 - l.length = (64 - (l.length + [0].length)) + 1 by simp; omega, List.replicate_succ]
  rfl
theorem tag_eq {l l' : List Int} (h : kb l' = kb l) (m : List Int) : tagB l' m = tagB l m := by
  unfold tagB padB
  rw [h]

set_option maxRecDepth 100000 in
set_option maxHeartbeats 2000000 in
theorem keys (a : Option Addr) (n c : Nat) (l : List Int) (a' : Option Addr) (n' c' : Nat) (m : List Int) (w : World) (h : Bytes w a n c l) (h' : Bytes w a' n' c' m) :
    Calls Try.prog 7 #[.slice a n c, .slice a' n' c'] w fun e w' => e = .returned (.bool true) ∧ Below w.heap.size w w' := by
  have hlen := h.len
  subst hlen
  have hc := h.cap; have hm := h.most
  have hc' := h'.cap; have hm' := h'.most
  have H1 := Lib.hid h; have H2 := Lib.hid h'
  clear h h'
  by_cases hn : 200 < l.length
  · have d1 : (200 : Int) < (l.length : Int) := by omega
    go_enter Try.func7, Try.ntmps7
    go_wp2_with fail
    refine (ptag_any none 0 0 [] none 0 0 [] _ (nilB _) (nilB _) (by omega) (by omega)).mono ?_
    rintro e w1 ⟨a1, c1, rfl, ho, hb⟩
    have HB := Lib.hid hb
    clear ho hb
    go_wp2
    go_ret
    exact ⟨rfl, HB.out⟩
  · have d1 : decide ((200 : Int) < (l.length : Int)) = false := decide_eq_false (by omega)
    by_cases hn' : 200 < n'
    · have d2 : (200 : Int) < (n' : Int) := by omega
      go_enter Try.func7, Try.ntmps7
      go_wp2_with fail
      refine (ptag_any none 0 0 [] none 0 0 [] _ (nilB _) (nilB _) (by omega) (by omega)).mono ?_
      rintro e w1 ⟨a1, c1, rfl, ho, hb⟩
      have HB := Lib.hid hb
      clear ho hb
      go_wp2
      go_ret
      exact ⟨rfl, HB.out⟩
    · have d2 : decide ((200 : Int) < (n' : Int)) = false := decide_eq_false (by omega)
      by_cases h64 : 64 < l.length
      · have d3 : (64 : Int) < (l.length : Int) := by omega
        have HEQ := Lib.hid (tag_eq (kk_sum l h64) m)
        go_enter Try.func7, Try.ntmps7
        go_wp2_with (at_builtin; refine wpList_append_b byteT rfl _ _ rfl w.heap.size rfl (l := []) ?o1 rfl (l' := l) ?b1 ?_ ?_ ?_)
        case o1 => exact OwnB.made w _ _ [] _ rfl (Nat.le_refl _) (by simp [maxLen]) (by simp [AllB])
        case b1 => exact H1.out.below ((Below.refl _ _).alloc (Nat.le_refl _) _)
        all_goals try (first | omega | (simp; done))
        intro a1 c1 w1 ho1 hb1 _
        have HO1 := Lib.hid ho1; have HB1 := Lib.hid (((Below.refl w.heap.size w).alloc (Nat.le_refl _) _).trans hb1)
        have s1 := HB1.out.size
        clear ho1 hb1
        go_wp2_with fail
        refine (rsum_any a _ c l _ (H1.out.below HB1.out) (by omega)).mono ?_
        rintro e w2 ⟨a2, c2, rfl, ho2, hb2⟩
        have HOT := Lib.hid ho2.bytes; have HBX := Lib.hid (HB1.out.trans (hb2.mono s1))
        have hsz : 32 ≤ 100000 := by omega
        clear ho2 hb2

        go_wp2_with fail
        refine (ptag_any a l.length c l a' n' c' m _ (H1.out.below HBX.out) (H2.out.below HBX.out) (by omega) (by omega)).mono ?_
        rintro e w8 ⟨a8, c8, rfl, ho8, hb8⟩
        have HO8 := Lib.hid ho8.bytes; have HB8 := Lib.hid (HBX.out.trans (hb8.mono HBX.out.size)); have HOT8 := Lib.hid (HOT.out.below hb8)
        have s8 := HB8.out.size
        clear ho8 hb8
        go_wp2_with fail
        refine (ptag_any _ _ _ (shaSum l) a' n' c' m _ HOT8.out (H2.out.below HB8.out) (by omega) (by omega)).mono ?_
        rintro e w9 ⟨a9, c9, rfl, ho9, hb9⟩
        rw [HEQ.out] at ho9
        have HO9 := Lib.hid ho9.bytes; have HB9 := Lib.hid (HB8.out.trans (hb9.mono s8)); have HO89 := Lib.hid (HO8.out.below hb9)
        clear ho9 hb9
        go_wp2_with fail
        refine (rsame_any _ _ _ _ _ _ _ _ _ HO89.out HO9.out).mono ?_
        rintro e w10 ⟨rfl, k, rfl⟩
        have HB10 := Lib.hid (below_drewN HB9.out k)
        go_wp2
        go_ret
        exact ⟨by simp, HB10.out⟩
      · have d3 : ¬ (64 : Int) < (l.length : Int) := by omega
        by_cases h63 : l.length < 64
        · have d4 : (l.length : Int) < 64 := by omega
          have HEQ := Lib.hid (tag_eq (kb_zero l h63) m)
          go_enter Try.func7, Try.ntmps7
          go_wp2_with (at_builtin; refine wpList_append_b byteT rfl _ _ rfl w.heap.size rfl (l := []) ?o1 rfl (l' := l) ?b1 ?_ ?_ ?_)
          case o1 => exact OwnB.made w _ _ [] _ rfl (Nat.le_refl _) (by simp [maxLen]) (by simp [AllB])
          case b1 => exact H1.out.below ((Below.refl _ _).alloc (Nat.le_refl _) _)
          all_goals try (first | omega | (simp; done))
          intro a1 c1 w1 ho1 hb1 _
          have HO1 := Lib.hid ho1; have HB1 := Lib.hid (((Below.refl w.heap.size w).alloc (Nat.le_refl _) _).trans hb1)
          have s1 := HB1.out.size
          clear ho1 hb1
          go_wp2_with (at_builtin; refine wpList_append_b byteT rfl _ _ rfl w.heap.size rfl (l := l) ?o2 rfl (l' := [0]) ?b2 ?_ ?_ ?_)
          case o2 => exact HO1.out.alloc _
          case b2 => exact Bytes.one _ _ _ (by omega)
          · omega
          · (try simp); omega
          intro a2 c2 w2 ho2 hb2 _
          have HOT := Lib.hid ho2.bytes; have HBX := Lib.hid ((HB1.out.alloc s1 _).trans hb2)
          clear ho2 hb2

          go_wp2_with fail
          refine (ptag_any a l.length c l a' n' c' m _ (H1.out.below HBX.out) (H2.out.below HBX.out) (by omega) (by omega)).mono ?_
          rintro e w8 ⟨a8, c8, rfl, ho8, hb8⟩
          have HO8 := Lib.hid ho8.bytes; have HB8 := Lib.hid (HBX.out.trans (hb8.mono HBX.out.size)); have HOT8 := Lib.hid (HOT.out.below hb8)
          have s8 := HB8.out.size
          clear ho8 hb8
          go_wp2_with fail
          refine (ptag_any _ _ _ (l ++ [0]) a' n' c' m _ HOT8.out (H2.out.below HB8.out) (by omega) (by omega)).mono ?_
          rintro e w9 ⟨a9, c9, rfl, ho9, hb9⟩
          rw [HEQ.out] at ho9
          have HO9 := Lib.hid ho9.bytes; have HB9 := Lib.hid (HB8.out.trans (hb9.mono s8)); have HO89 := Lib.hid (HO8.out.below hb9)
          clear ho9 hb9
          go_wp2_with fail
          refine (rsame_any _ _ _ _ _ _ _ _ _ HO89.out HO9.out).mono ?_
          rintro e w10 ⟨rfl, k, rfl⟩
          have HB10 := Lib.hid (below_drewN HB9.out k)
          go_wp2
          go_ret
          exact ⟨by simp, HB10.out⟩
        · have d4 : ¬ (l.length : Int) < 64 := by omega
          go_enter Try.func7, Try.ntmps7
          go_wp2_with (at_builtin; refine wpList_append_b byteT rfl _ _ rfl w.heap.size rfl (l := []) ?o1 rfl (l' := l) ?b1 ?_ ?_ ?_)
          case o1 => exact OwnB.made w _ _ [] _ rfl (Nat.le_refl _) (by simp [maxLen]) (by simp [AllB])
          case b1 => exact H1.out.below ((Below.refl _ _).alloc (Nat.le_refl _) _)
          all_goals try (first | omega | (simp; done))
          intro a1 c1 w1 ho1 hb1 _
          have HO1 := Lib.hid ho1; have HB1 := Lib.hid (((Below.refl w.heap.size w).alloc (Nat.le_refl _) _).trans hb1)
          have s1 := HB1.out.size
          clear ho1 hb1
          have HOT := Lib.hid (show Bytes w1 a1 l.length c1 l from by first | exact HO1.out.bytes | simpa using HO1.out.bytes)
          have HBX := Lib.hid HB1.out

          go_wp2_with fail
          refine (ptag_any a l.length c l a' n' c' m _ (H1.out.below HBX.out) (H2.out.below HBX.out) (by omega) (by omega)).mono ?_
          rintro e w8 ⟨a8, c8, rfl, ho8, hb8⟩
          have HO8 := Lib.hid ho8.bytes; have HB8 := Lib.hid (HBX.out.trans (hb8.mono HBX.out.size)); have HOT8 := Lib.hid (HOT.out.below hb8)
          have s8 := HB8.out.size
          clear ho8 hb8
          go_wp2_with fail
          refine (ptag_any _ _ _ l a' n' c' m _ HOT8.out (H2.out.below HB8.out) (by omega) (by omega)).mono ?_
          rintro e w9 ⟨a9, c9, rfl, ho9, hb9⟩
          have HO9 := Lib.hid ho9.bytes; have HB9 := Lib.hid (HB8.out.trans (hb9.mono s8)); have HO89 := Lib.hid (HO8.out.below hb9)
          clear ho9 hb9
          go_wp2_with fail
          refine (rsame_any _ _ _ _ _ _ _ _ _ HO89.out HO9.out).mono ?_
          rintro e w10 ⟨rfl, k, rfl⟩
          have HB10 := Lib.hid (below_drewN HB9.out k)
          go_wp2
          go_ret
          exact ⟨by simp, HB10.out⟩

end Go.Proofs.Ytlpiacofnciodaa.sh
