/-
  Layer 47: the message of a frame, and the clash of two logs: the program's and the document's.
-/
import Derived.Test.YtejhncdempfmjaaChainAl
namespace Go.Proofs.Ytejhncdempfmjaa.ch
open Go.ChangeShapes Go.WideShapes Go.ChangeAt Go.RowKit
open bs en
open Go.Proofs.Ytejhncdempfmjaa.sh (tagB)
set_option linter.unusedVariables false

def MAPost (w : World) (r : List Int) (e : Ending) (w' : World) : Prop :=
  Below w.heap.size w w' ∧ ∃ (a : Option Addr) (m c : Nat), e = .returned (.slice a m c) ∧ OwnB w' w.heap.size 5 a m c r

set_option maxRecDepth 100000 in
set_option maxHeartbeats 2000000 in
theorem at_any (a : Option Addr) (n c : Nat) (L : List Fw) (f : Nat → Fm) (i : Nat) (w : World) (h : Recs 3 FraF w a n c L) (hf : Told L f) (hi : i < n) (hn : n ≤ 100000) :
    Calls Try.prog 62 #[.slice a n c, .int .i64 i] w (MAPost w (mgF f i)) := by
  have hcap := h.cap; have hmost := h.most; have hlen := h.len
  obtain ⟨x, hx⟩ : ∃ x, L[i]? = some x := ⟨L[i]'(by omega), List.getElem?_eq_getElem _⟩
  obtain ⟨b, off, rfl, hbl, hcell⟩ := h.at'.resolve_left (by omega)
  have hc := hcell i x hx
  have hT := hf i x hx
  obtain ⟨⟨xk, xa, xn, xc, xl⟩, ya, yn, yc, yl⟩ := x
  have HRD := Lib.hid hc.rd
  have HTL := Lib.hid hT
  have hK : ∀ V : World, Below w.heap.size w V → V.cell? ⟨b, off + i * 3, none⟩ = some (.int .i64 xk) ∧ V.cell? ⟨b, off + i * 3 + 1, none⟩ = some (.slice xa xn xc) := fun V hV => by
    refine ⟨?_, ?_⟩
    · rw [hV.cell (p := ⟨b, off + i * 3, none⟩) hbl]; exact hc.c0
    · rw [hV.cell (p := ⟨b, off + i * 3 + 1, none⟩) hbl]; exact hc.c1
  have Keep := Lib.hid hK
  have z2 : (0 : Int) ≤ (i : Int) := by omega
  have z3 : (i : Int) < (n : Int) := by omega
  have n1 : ((i : Int) + 1) = ((i + 1 : Nat) : Int) := by omega
  have hm : ∀ t, t = ahd f i → mg t ((i : Int) + 1) xk xl = mgF f i := fun t ht => by rw [ht, mgF, ← hT.k, ← hT.b, n1]
  have HM := Lib.hid hm
  by_cases h0 : i = 0
  · have hi0 : decide ((i : Int) > 0) = false := by rw [decide_eq_false_iff_not]; omega
    have hah : ahd f i = zt := by unfold ahd; rw [if_pos h0]
    have HAH := Lib.hid hah
    have hi00 : ¬ 0 < i := by omega
    clear hc hT hK hx hcell n1 hm hah h hf h0
    go_enter Try.func62, Try.ntmps62
    go_wp2_with fail
    refine (first_any _).mono ?_
    rintro e w1 ⟨a1, c1, rfl, ho1, hb1⟩
    have HO1 := Lib.hid ho1.bytes; have HB1 := Lib.hid hb1
    obtain ⟨e0, e1⟩ := Keep.out _ hb1
    clear ho1 hb1
    go_wp2_with fail
    refine (message_any _ _ _ zt _ xk xa xn xc xl _ HO1.out (HRD.out.below HB1.out).body HRD.out.k0 HRD.out.k1 (by omega) (by omega)).mono ?_
    rintro e w2 ⟨hb2, a2, m2, c2, r2, rfl, ho2, hr2⟩
    have hr : r2 = mgF f i := by rw [hr2]; exact HM.out zt HAH.out.symm
    have HR := Lib.hid hr; have HO2 := Lib.hid (ho2.mono HB1.out.size); have HB2 := Lib.hid (HB1.out.trans (hb2.mono HB1.out.size))
    clear hr hr2 ho2 hb2 e0 e1
    go_wp2
    go_ret
    exact ⟨HB2.out, _, _, _, rfl, by rw [← HR.out]; exact HO2.out⟩
  · have hi1 : 0 < i := by omega
    obtain ⟨x', hx'⟩ : ∃ x', L[i - 1]? = some x' := ⟨L[i - 1]'(by omega), List.getElem?_eq_getElem _⟩
    have hc' := hcell (i - 1) x' hx'
    have hT' := hf (i - 1) x' hx'
    obtain ⟨⟨xk', xa', xn', xc', xl'⟩, ya', yn', yc', yl'⟩ := x'
    have hah : ahd f i = yl' := by unfold ahd; rw [if_neg h0]; exact hT'.t.symm
    have HAH := Lib.hid hah
    have HRD' := Lib.hid hc'.rd
    have hK' : ∀ V : World, Below w.heap.size w V → V.cell? ⟨b, off + (i - 1) * 3 + 2, none⟩ = some (.slice ya' yn' yc') := fun V hV => by
      rw [hV.cell (p := ⟨b, off + (i - 1) * 3 + 2, none⟩) hbl]; exact hc'.c2
    have Keep' := Lib.hid hK'
    have y1 : ((i : Int) - 1).toNat = i - 1 := by omega
    have y2 : 1 ≤ (i : Int) := by omega
    have y3 : (0 : Int) ≤ (i : Int) - 1 := by omega
    have y4 : (i : Int) - 1 < (n : Int) := by omega
    clear hc hT hK hx hcell n1 hm hah h hf h0 hc' hT' hx' hK'
    go_enter Try.func62, Try.ntmps62
    go_wp2_with fail
    refine (first_any _).mono ?_
    rintro e w1 ⟨a1, c1, rfl, ho1, hb1⟩
    have HB1 := Lib.hid hb1
    obtain ⟨e0, e1⟩ := Keep.out _ hb1
    have e2 := Keep'.out _ hb1
    clear ho1 hb1
    go_wp2_with fail
    refine (message_any _ _ _ yl' _ xk xa xn xc xl _ (HRD'.out.below HB1.out).tag (HRD.out.below HB1.out).body HRD.out.k0 HRD.out.k1 (by omega) (by omega)).mono ?_
    rintro e w2 ⟨hb2, a2, m2, c2, r2, rfl, ho2, hr2⟩
    have hr : r2 = mgF f i := by rw [hr2]; exact HM.out yl' HAH.out.symm
    have HR := Lib.hid hr; have HO2 := Lib.hid (ho2.mono HB1.out.size); have HB2 := Lib.hid (HB1.out.trans (hb2.mono HB1.out.size))
    clear hr hr2 ho2 hb2 e0 e1 e2
    go_wp2
    go_ret
    exact ⟨HB2.out, _, _, _, rfl, by rw [← HR.out]; exact HO2.out⟩

set_option maxRecDepth 100000 in
set_option maxHeartbeats 2000000 in
theorem of_any (a : Option Addr) (n c : Nat) (a9 : Option Addr) (c9 : Nat) (L : List Fw) (f : Nat → Fm) (i : Nat) (w : World) (h : Recs 2 EntF w a n c L) (h9 : Recs 1 TagF w a9 n c9 L) (hf : Told L f) (hi : i < n) (hn : n ≤ 100000) :
    Calls Try.prog 64 #[.slice a n c, .slice a9 n c9, .int .i64 i] w (MAPost w (mgF f i)) := by
  have hcap := h.cap; have hmost := h.most; have hlen := h.len; have hcap9 := h9.cap; have hmost9 := h9.most
  obtain ⟨x, hx⟩ : ∃ x, L[i]? = some x := ⟨L[i]'(by omega), List.getElem?_eq_getElem _⟩
  obtain ⟨b, off, rfl, hbl, hcell⟩ := h.at'.resolve_left (by omega)
  obtain ⟨b9, off9, rfl, hbl9, hcell9⟩ := h9.at'.resolve_left (by omega)
  have hc := hcell i x hx
  have hT := hf i x hx
  obtain ⟨⟨xk, xa, xn, xc, xl⟩, ya, yn, yc, yl⟩ := x
  have HRD := Lib.hid hc.rd
  have HTL := Lib.hid hT
  have hK : ∀ V : World, Below w.heap.size w V → V.cell? ⟨b, off + i * 2, none⟩ = some (.int .i64 xk) ∧ V.cell? ⟨b, off + i * 2 + 1, none⟩ = some (.slice xa xn xc) := fun V hV => by
    refine ⟨?_, ?_⟩
    · rw [hV.cell (p := ⟨b, off + i * 2, none⟩) hbl]; exact hc.c0
    · rw [hV.cell (p := ⟨b, off + i * 2 + 1, none⟩) hbl]; exact hc.c1
  have Keep := Lib.hid hK
  have z2 : (0 : Int) ≤ (i : Int) := by omega
  have z3 : (i : Int) < (n : Int) := by omega
  have n1 : ((i : Int) + 1) = ((i + 1 : Nat) : Int) := by omega
  have hm : ∀ t, t = ahd f i → mg t ((i : Int) + 1) xk xl = mgF f i := fun t ht => by rw [ht, mgF, ← hT.k, ← hT.b, n1]
  have HM := Lib.hid hm
  by_cases h0 : i = 0
  · have hah : ahd f i = zt := by unfold ahd; rw [if_pos h0]
    have HAH := Lib.hid hah
    have hi00 : ¬ 0 < i := by omega
    clear hc hT hK hx hcell n1 hm hah h hf h0 h9 hcell9
    go_enter Try.func64, Try.ntmps64
    go_wp2_with fail
    refine (rfirst_any _).mono ?_
    rintro e w1 ⟨a1, c1, rfl, ho1, hb1⟩
    have HO1 := Lib.hid ho1.bytes; have HB1 := Lib.hid hb1
    obtain ⟨e0, e1⟩ := Keep.out _ hb1
    clear ho1 hb1
    go_wp2_with fail
    refine (rmessage_any _ _ _ zt _ xk xa xn xc xl _ HO1.out (HRD.out.below HB1.out).body HRD.out.k0 HRD.out.k1 (by omega) (by omega)).mono ?_
    rintro e w2 ⟨hb2, a2, m2, c2, r2, rfl, ho2, hr2⟩
    have hr : r2 = mgF f i := by rw [hr2]; exact HM.out zt HAH.out.symm
    have HR := Lib.hid hr; have HO2 := Lib.hid (ho2.mono HB1.out.size); have HB2 := Lib.hid (HB1.out.trans (hb2.mono HB1.out.size))
    clear hr hr2 ho2 hb2 e0 e1
    go_wp2
    go_ret
    exact ⟨HB2.out, _, _, _, rfl, by rw [← HR.out]; exact HO2.out⟩
  · have hi1 : 0 < i := by omega
    obtain ⟨x', hx'⟩ : ∃ x', L[i - 1]? = some x' := ⟨L[i - 1]'(by omega), List.getElem?_eq_getElem _⟩
    have hc' := hcell9 (i - 1) x' hx'
    rw [Nat.mul_one] at hc'
    have hT' := hf (i - 1) x' hx'
    obtain ⟨⟨xk', xa', xn', xc', xl'⟩, ya', yn', yc', yl'⟩ := x'
    have hah : ahd f i = yl' := by unfold ahd; rw [if_neg h0]; exact hT'.t.symm
    have HAH := Lib.hid hah
    have HRD' := Lib.hid hc'.rd
    have hK' : ∀ V : World, Below w.heap.size w V → V.cell? ⟨b9, off9 + (i - 1), none⟩ = some (.slice ya' yn' yc') := fun V hV => by
      rw [hV.cell (p := ⟨b9, off9 + (i - 1), none⟩) hbl9]; exact hc'.c0
    have Keep' := Lib.hid hK'
    have y1 : ((i : Int) - 1).toNat = i - 1 := by omega
    have y2 : 1 ≤ (i : Int) := by omega
    have y3 : (0 : Int) ≤ (i : Int) - 1 := by omega
    have y4 : (i : Int) - 1 < (n : Int) := by omega
    clear hc hT hK hx hcell n1 hm hah h hf h0 hc' hT' hx' hK' h9 hcell9
    go_enter Try.func64, Try.ntmps64
    go_wp2_with fail
    refine (rfirst_any _).mono ?_
    rintro e w1 ⟨a1, c1, rfl, ho1, hb1⟩
    have HB1 := Lib.hid hb1
    obtain ⟨e0, e1⟩ := Keep.out _ hb1
    have e2 := Keep'.out _ hb1
    clear ho1 hb1
    go_wp2_with fail
    refine (rmessage_any _ _ _ yl' _ xk xa xn xc xl _ (HRD'.out.below HB1.out).tag (HRD.out.below HB1.out).body HRD.out.k0 HRD.out.k1 (by omega) (by omega)).mono ?_
    rintro e w2 ⟨hb2, a2, m2, c2, r2, rfl, ho2, hr2⟩
    have hr : r2 = mgF f i := by rw [hr2]; exact HM.out yl' HAH.out.symm
    have HR := Lib.hid hr; have HO2 := Lib.hid (ho2.mono HB1.out.size); have HB2 := Lib.hid (HB1.out.trans (hb2.mono HB1.out.size))
    clear hr hr2 ho2 hb2 e0 e1 e2
    go_wp2
    go_ret
    exact ⟨HB2.out, _, _, _, rfl, by rw [← HR.out]; exact HO2.out⟩

end Go.Proofs.Ytejhncdempfmjaa.ch
