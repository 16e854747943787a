/-
  Layer 3: the contracts of the first state and of the round numbers, as the document makes them.
-/
import Derived.Test.YtlpiacofnciodaaShaFirst
import Derived.Test.YtlpiacofnciodaaRootRef
import Derived.Test.YtlpiacofnciodaaU32s
namespace Go.Proofs.Ytlpiacofnciodaa.sh
open Go.ChangeShapes Go.WideShapes Go.ChangeAt Go.RowKit
open bs
open Go.Proofs.Ytlpiacofnciodaa.rs
set_option linter.unusedVariables false

theorem u32T : U32T Try.prog 26 33 := ⟨Try.underlying26, by kernel_rfl⟩
def WPost (w : World) (base n : Nat) (l : List Int) (e : Ending) (w' : World) : Prop :=
  ∃ (a : Option Addr) (c : Nat), e = .returned (.slice a n c) ∧ OwnW w' base 33 a n c l ∧ Below base w w'
theorem own_apart {w : World} {base base' n c n' c' : Nat} {a : Option Addr} {l l' : List Int} {g : Nat} (h : OwnW w base 33 a n c l) (h' : OwnI w base' 3 (some ⟨g, 0, none⟩) n' c' l') : Value.ownBlock (.slice a n c) ≠ some g := by
  intro he
  rcases h.cases with ⟨rfl, rfl, rfl⟩ | ⟨g2, rfl, _⟩
  · simp [Value.ownBlock] at he
  · simp only [Value.ownBlock, Option.some.injEq] at he
    subst he
    obtain ⟨c1, h1⟩ := h.block
    obtain ⟨c2, h2⟩ := h'.block
    rw [h1] at h2
    simp at h2
theorem I_allW (D : List (BitVec 32)) : AllW (D.map I) := by
  intro x hx
  obtain ⟨b, _, rfl⟩ := List.mem_map.1 hx
  exact ⟨I_lo b, I_hi b⟩

set_option maxRecDepth 100000 in
set_option maxHeartbeats 1000000 in
theorem rstart_any (w : World) : Calls Try.prog 14 #[] w (WPost w w.heap.size 8 (Hl.map I)) := by
  go_enter Try.func14, Try.ntmps14
  go_wp2_with fail
  have hB : Below w.heap.size w (w.alloc (.cells #[] 33)) := (Below.refl _ _).alloc (Nat.le_refl _) _
  have hO : OwnW (w.alloc (.cells #[] 33)) w.heap.size 33 (some ⟨w.heap.size, 0, none⟩) 0 0 [] := OwnW.made w _ _ [] _ rfl (Nat.le_refl _) (by simp [maxLen]) (by simp [AllW])
  refine (rprimes_any 8 _ (by omega) (by omega)).mono ?_
  rintro e w1 ⟨a, c, p, rfl, ho, hb, hl⟩
  have hpl : pl p = pl 20 := pl_eq (by rw [hl]; decide +kernel)
  rw [show cnt 8 = 8 from rfl, hpl] at ho
  rw [show cnt 8 = 8 from rfl]
  have hca := ho.cases
  simp only [show ¬ (8 = 0) by omega, false_and, and_false, false_or] at hca
  obtain ⟨g, rfl, hg1, hg2, hg3, hg4⟩ := hca
  have HL := Lib.hid (show (pl 20).length = 8 from pl_20)
  have HO := Lib.hid (hO.below hb)
  have HB := Lib.hid (hB.trans (hb.mono (by simp)))
  have HP := Lib.hid (ho.mono (show w.heap.size ≤ _ by simp))
  have hsz := HB.out.size
  clear hpl ho hb hl hO hB
  simp only [maxLen] at hg4
  go_wp2_with fail
  go_loopw [1, 3] (fun out i wr => ∃ (t c2 : Nat) (a : Option Addr), t ≤ 8 ∧ i = .int .i64 t ∧ out = .slice a t c2 ∧ OwnW wr w.heap.size 33 a t c2 ((Hl.map I).take t) ∧ OwnI wr w.heap.size 3 (some ⟨g, 0, none⟩) 8 c (pl 20) ∧ Below w.heap.size w wr) (fun _ i _ => 8 - (intOf i).toNat)
  case atStart => exact ⟨0, 0, _, by omega, rfl, rfl, HO.out, HP.out, HB.out⟩
  case round =>
    clear HO HP HB
    obtain ⟨t, c2, a2, ht, rfl, rfl, ho, hp, hb⟩ := hrel
    by_cases h : t < 8
    · have ct := hp.cellAt t h
      have hbd := pl_bd 20 ((pl 20).getD t 0) (by rw [List.getD_eq_getElem?_getD, List.getElem?_eq_getElem (by rw [HL.out]; exact h)]; exact List.getElem_mem _)
      have hv : Hl.getD t 0 = BitVec.ofNat 32 (sq ((pl 20).getD t 0)) := by
        unfold Hl
        rw [List.getD_eq_getElem?_getD, List.getElem?_map, List.getD_eq_getElem?_getD, List.getElem?_eq_getElem (by rw [HL.out]; exact h)]
        rfl
      generalize (pl 20).getD t 0 = q at ct hbd hv
      have hv2 : (Hl.map I).take t ++ [((sq q : Nat) : Int) % 4294967296] = (Hl.map I).take (t + 1) := by
        rw [ofNatm, ← hv, List.take_add_one, List.getElem?_map, List.getElem?_eq_getElem (by rw [Hl_len]; exact h), List.getD_eq_getElem?_getD, List.getElem?_eq_getElem (by rw [Hl_len]; exact h)]
        rfl
      have HV := Lib.hid hv2
      have HO := Lib.hid ho; have HP := Lib.hid hp; have HBl := Lib.hid hb
      clear hv hv2 ho hp hb
      go_wp2_with fail
      refine (root2_any q _ (by omega) (by omega)).mono ?_
      rintro e w2 ⟨rfl, hb2⟩
      have NO := Lib.hid (HO.out.below hb2); have NP := Lib.hid (HP.out.below hb2); have NB := Lib.hid (HBl.out.trans (hb2.mono HBl.out.size))
      have s2 := NB.out.size
      clear hb2 ct
      go_wp2_with (at_builtin; refine wpList_append_W2 u32T rfl _ _ rfl w.heap.size rfl (NO.out.alloc _) rfl (U32s.one _ _ _ ?_) ?_ ?_ ?_)
      · omega
      · omega
      · (try simp); omega
      intro a3 c3 w3 ho3 hb3 hg3
      rw [HV.out] at ho3
      have hne : Value.ownBlock (.slice a2 t c2) ≠ some g := own_apart NO.out NP.out
      have hlt : g < w2.heap.size := by
        obtain ⟨cur, hcur⟩ := NP.out.block
        exact (Array.getElem?_eq_some_iff.1 hcur).1
      have HP3 := Lib.hid (NP.out.keep (w' := w3) (by rw [hg3.block g (by simp; omega) (Ne.symm hne), heap_alloc_old _ _ hlt]))
      have HO3 := Lib.hid ho3; have HB3 := Lib.hid ((NB.out.alloc s2 _).trans hb3)
      clear ho3 hb3 hg3 hne hlt
      go_wp2
      go_roundw
      case rel => exact ⟨t + 1, c3, a3, by omega, by go_num, rfl, HO3.out, HP3.out, HB3.out⟩
      case measure => simp [intOf]; omega
    · obtain rfl : t = 8 := by omega
      rw [List.take_of_length_le (by rw [List.length_map, Hl_len]; omega)] at ho
      have HO := Lib.hid ho; have HBl := Lib.hid hb
      clear ho hp hb
      go_wp2
      go_ret
      exact ⟨a2, c2, rfl, HO.out, HBl.out⟩

set_option maxRecDepth 100000 in
set_option maxHeartbeats 1000000 in
theorem rrounds_any (w : World) : Calls Try.prog 16 #[] w (WPost w w.heap.size 64 (Kc.map I)) := by
  go_enter Try.func16, Try.ntmps16
  go_wp2_with fail
  have hB : Below w.heap.size w (w.alloc (.cells #[] 33)) := (Below.refl _ _).alloc (Nat.le_refl _) _
  have hO : OwnW (w.alloc (.cells #[] 33)) w.heap.size 33 (some ⟨w.heap.size, 0, none⟩) 0 0 [] := OwnW.made w _ _ [] _ rfl (Nat.le_refl _) (by simp [maxLen]) (by simp [AllW])
  refine (rprimes_any 64 _ (by omega) (by omega)).mono ?_
  rintro e w1 ⟨a, c, p, rfl, ho, hb, hl⟩
  have hpl : pl p = pl 312 := pl_eq (by rw [hl]; decide +kernel)
  rw [show cnt 64 = 64 from rfl, hpl] at ho
  rw [show cnt 64 = 64 from rfl]
  have hca := ho.cases
  simp only [show ¬ (64 = 0) by omega, false_and, and_false, false_or] at hca
  obtain ⟨g, rfl, hg1, hg2, hg3, hg4⟩ := hca
  have HL := Lib.hid (show (pl 312).length = 64 from pl_312)
  have HO := Lib.hid (hO.below hb)
  have HB := Lib.hid (hB.trans (hb.mono (by simp)))
  have HP := Lib.hid (ho.mono (show w.heap.size ≤ _ by simp))
  have hsz := HB.out.size
  clear hpl ho hb hl hO hB
  simp only [maxLen] at hg4
  go_wp2_with fail
  go_loopw [1, 3] (fun out i wr => ∃ (t c2 : Nat) (a : Option Addr), t ≤ 64 ∧ i = .int .i64 t ∧ out = .slice a t c2 ∧ OwnW wr w.heap.size 33 a t c2 ((Kc.map I).take t) ∧ OwnI wr w.heap.size 3 (some ⟨g, 0, none⟩) 64 c (pl 312) ∧ Below w.heap.size w wr) (fun _ i _ => 64 - (intOf i).toNat)
  case atStart => exact ⟨0, 0, _, by omega, rfl, rfl, HO.out, HP.out, HB.out⟩
  case round =>
    clear HO HP HB
    obtain ⟨t, c2, a2, ht, rfl, rfl, ho, hp, hb⟩ := hrel
    by_cases h : t < 64
    · have ct := hp.cellAt t h
      have hbd := pl_bd 312 ((pl 312).getD t 0) (by rw [List.getD_eq_getElem?_getD, List.getElem?_eq_getElem (by rw [HL.out]; exact h)]; exact List.getElem_mem _)
      have hv : Kc.getD t 0 = BitVec.ofNat 32 (cu ((pl 312).getD t 0)) := by
        unfold Kc
        rw [List.getD_eq_getElem?_getD, List.getElem?_map, List.getD_eq_getElem?_getD, List.getElem?_eq_getElem (by rw [HL.out]; exact h)]
        rfl
      generalize (pl 312).getD t 0 = q at ct hbd hv
      have hv2 : (Kc.map I).take t ++ [((cu q : Nat) : Int) % 4294967296] = (Kc.map I).take (t + 1) := by
        rw [ofNatm, ← hv, List.take_add_one, List.getElem?_map, List.getElem?_eq_getElem (by rw [Kc_len]; exact h), List.getD_eq_getElem?_getD, List.getElem?_eq_getElem (by rw [Kc_len]; exact h)]
        rfl
      have HV := Lib.hid hv2
      have HO := Lib.hid ho; have HP := Lib.hid hp; have HBl := Lib.hid hb
      clear hv hv2 ho hp hb
      go_wp2_with fail
      refine (root_any q _ (by omega) (by omega)).mono ?_
      rintro e w2 ⟨rfl, hb2⟩
      have NO := Lib.hid (HO.out.below hb2); have NP := Lib.hid (HP.out.below hb2); have NB := Lib.hid (HBl.out.trans (hb2.mono HBl.out.size))
      have s2 := NB.out.size
      clear hb2 ct
      go_wp2_with (at_builtin; refine wpList_append_W2 u32T rfl _ _ rfl w.heap.size rfl (NO.out.alloc _) rfl (U32s.one _ _ _ ?_) ?_ ?_ ?_)
      · omega
      · omega
      · (try simp); omega
      intro a3 c3 w3 ho3 hb3 hg3
      rw [HV.out] at ho3
      have hne : Value.ownBlock (.slice a2 t c2) ≠ some g := own_apart NO.out NP.out
      have hlt : g < w2.heap.size := by
        obtain ⟨cur, hcur⟩ := NP.out.block
        exact (Array.getElem?_eq_some_iff.1 hcur).1
      have HP3 := Lib.hid (NP.out.keep (w' := w3) (by rw [hg3.block g (by simp; omega) (Ne.symm hne), heap_alloc_old _ _ hlt]))
      have HO3 := Lib.hid ho3; have HB3 := Lib.hid ((NB.out.alloc s2 _).trans hb3)
      clear ho3 hb3 hg3 hne hlt
      go_wp2
      go_roundw
      case rel => exact ⟨t + 1, c3, a3, by omega, by go_num, rfl, HO3.out, HP3.out, HB3.out⟩
      case measure => simp [intOf]; omega
    · obtain rfl : t = 64 := by omega
      rw [List.take_of_length_le (by rw [List.length_map, Kc_len]; omega)] at ho
      have HO := Lib.hid ho; have HBl := Lib.hid hb
      clear ho hp hb
      go_wp2
      go_ret
      exact ⟨a2, c2, rfl, HO.out, HBl.out⟩

end Go.Proofs.Ytlpiacofnciodaa.sh
