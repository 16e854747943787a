/-
  Layer 47: the document's Frames: all frames of a log, and what is wrong behind them.
-/
import Derived.Test.YtejhncdempfmjaaChainFr
import Derived.OwnWalk
namespace Go.Proofs.Ytejhncdempfmjaa.ch
open Go.ChangeShapes Go.WideShapes Go.ChangeAt Go.RowKit
open bs en
set_option linter.unusedVariables false

theorem made0 {α : Type} {size : Nat} {cells : α → List Value} (w : World) (base : Nat) (e : TypeId) (hb : base ≤ w.heap.size) : OwnS size cells (w.alloc (.cells #[] e)) base e (some ⟨w.heap.size, 0, none⟩) 0 0 ([] : List α) :=
  ⟨⟨by simp, .inr ⟨w.heap.size, 0, _, rfl, hb, heap_alloc_new w _, Nat.le_refl _, by simp [maxLen], by simp, by simp⟩⟩, rfl⟩
theorem OwnS.alloc {α : Type} {size : Nat} {cells : α → List Value} {w : World} {base e a n c} {l : List α} (h : OwnS size cells w base e a n c l) (o : Obj) : OwnS size cells (w.alloc o) base e a n c l := h.below ((Below.refl _ _).alloc (Nat.le_refl _) o)
theorem cells_e (W : World) (x : Fw) : ∀ j u, (eCells x)[j]? = some u → (W.alloc (.cells #[.int .i64 x.e.k, .slice x.e.a x.e.n x.e.c] 35)).cell? ((⟨W.heap.size, 0, none⟩ : Addr).add j) = some u := src_new W (eCells x) 35
theorem cells_t (W : World) (x : Fw) : ∀ j u, (tCells x)[j]? = some u → (W.alloc (.cells #[.slice x.a x.n x.c] 22)).cell? ((⟨W.heap.size, 0, none⟩ : Addr).add j) = some u := src_new W (tCells x) 22
theorem cells_f (W : World) (x : Fw) : ∀ j u, (fCells x)[j]? = some u → (W.alloc (.cells #[.int .i64 x.e.k, .slice x.e.a x.e.n x.e.c, .slice x.a x.n x.c] 85)).cell? ((⟨W.heap.size, 0, none⟩ : Addr).add j) = some u := src_new W (fCells x) 85

def RFPost (l : List Int) (w : World) (e : Ending) (w' : World) : Prop :=
  Below w.heap.size w w' ∧ ∃ (j : Nat) (L : List Fw) (al : Option Addr) (cl : Nat) (at' : Option Addr) (ct : Nat) (E : Int), e = .returned (.tuple #[.slice al j cl, .slice at' j ct, .int .i64 E]) ∧ Ends l j E ∧
    OwnS 2 eCells w' w.heap.size 35 al j cl L ∧ OwnS 1 tCells w' w.heap.size 22 at' j ct L ∧ (∀ x ∈ L, FwOwn w' w.heap.size x) ∧ Told L (fm l)

set_option maxRecDepth 100000 in
set_option maxHeartbeats 2000000 in
theorem rframes_any (a : Option Addr) (n c : Nat) (l : List Int) (w : World) (h : Bytes w a n c l) (hn : n ≤ 100000) :
    Calls Try.prog 59 #[.slice a n c] w (RFPost l w) := by
  have hcap := h.cap; have hmost := h.most; have hlen := h.len
  subst hlen
  have HA := Lib.hid h.all
  have H := Lib.hid h
  clear h
  have HL0 : Hid (OwnS 2 eCells ((w.alloc (.cells #[] 35)).alloc (.cells #[] 22)) w.heap.size 35 (some ⟨w.heap.size, 0, none⟩) 0 0 ([] : List Fw)) := Lib.hid (OwnS.alloc (made0 w w.heap.size _ (Nat.le_refl _)) _)
  have hT0 := made0 (α := Fw) (size := 1) (cells := tCells) (w.alloc (.cells #[] 35)) w.heap.size 22 (by simp)
  rw [World.size_alloc] at hT0
  have HT0 := Lib.hid hT0
  have HB0 : Hid (Below w.heap.size w ((w.alloc (.cells #[] 35)).alloc (.cells #[] 22))) := Lib.hid (((Below.refl _ _).alloc (Nat.le_refl _) _).alloc (by simp) _)
  clear hT0
  go_enter Try.func59, Try.ntmps59
  go_wp2
  go_loopw [5, 6, 7] (fun lo ta i wr => ∃ (j : Nat) (L : List Fw) (al : Option Addr) (cl : Nat) (ax : Option Addr) (ct : Nat), j ≤ l.length ∧ i = .int .i64 (atF l j : Nat) ∧ lo = .slice al j cl ∧ ta = .slice ax j ct ∧ Hid (Up l j) ∧ Hid (OwnS 2 eCells wr w.heap.size 35 al j cl L) ∧ Hid (OwnS 1 tCells wr w.heap.size 22 ax j ct L) ∧ Hid (∀ x ∈ L, FwOwn wr w.heap.size x) ∧ Hid (Told L (fm l)) ∧ Hid (Below w.heap.size w wr)) (fun _ _ i _ => l.length - (intOf i).toNat)
  case atStart => exact ⟨0, [], _, 0, _, 0, by omega, rfl, rfl, rfl, Lib.hid (Up.zero l), HL0, HT0, Lib.hid (by simp), Lib.hid (fun i x h => by simp at h), HB0⟩
  case round =>
    clear HL0 HT0 HB0
    obtain ⟨j, L, al, cl, ax, ct, hj, rfl, rfl, rfl, HU, HL, HT, HO, HD, HB⟩ := hrel
    have hle := at_le HA.out j HU.out
    have hge := at_ge (l := l) j
    obtain ⟨p, hp⟩ : ∃ p, atF l j = p := ⟨_, rfl⟩
    rw [hp] at hle hge ⊢
    have HP := Lib.hid hp
    clear hp
    by_cases hlt : p < l.length
    · go_wp2_with fail
      refine (ref_any a l.length c l p _ (H.out.below HB.out) (by omega) (by omega) (by omega)).mono ?_
      rintro e w1 ⟨hb1, k, to, a1, a2, n1, c1, n2, c2, body, tag, rfl, ho1, ho2, hne, heq⟩
      by_cases hE : rdE l p = 0
      · obtain ⟨q1, q2, q3, q4⟩ := heq hE
        have hok := fr_ok HA.out hE
        have hrd := rd_ok HA.out hE
        rw [Int.toNat_natCast] at q1 q2 q3 q4
        have ht2 : n2 = 32 := by rw [← ho2.len, q3]; exact hok.1
        subst ht2
        have hpos : rdE l p = 0 := hE
        rw [hE]
        have hto : to = ((atF l (j + 1) : Nat) : Int) := by
          rw [q4, atF, HP.out]; omega
        have hfm : fm l j = ⟨k, body, tag⟩ := by rw [fm, HP.out, frK, ← q1, ← q2, ← q3]
        have hat1 : atF l (j + 1) ≤ l.length := at_le HA.out _ (HU.out.succ (by rw [HP.out]; exact hlt) (by rw [HP.out]; exact hE))
        have hat2 : p + 36 ≤ atF l (j + 1) := by rw [atF, HP.out]; omega
        have hU1 := Lib.hid (HU.out.succ (by rw [HP.out]; exact hlt) (by rw [HP.out]; exact hE))
        have hk : 1 ≤ k ∧ k ≤ 3 := by
          have h1 := hok.2.2.2.2.1
          have h2 := hok.2.2.2.2.2.1
          rw [q1]; exact ⟨h1, h2⟩
        subst hto
        have hs := HB.out.size
        have hs1 := hb1.size
        have HB1 := Lib.hid (HB.out.trans (hb1.mono hs))
        have HL1 := Lib.hid (HL.out.below hb1); have HT1 := Lib.hid (HT.out.below hb1)
        have HO1 : Hid (∀ x ∈ L, FwOwn w1 w.heap.size x) := Lib.hid (fun x hx => (HO.out x hx).below hb1)
        obtain ⟨x, hx⟩ : ∃ x : Fw, x = ⟨⟨k, a1, n1, c1, body⟩, a2, 32, c2, tag⟩ := ⟨_, rfl⟩
        have hX : FwOwn w1 w.heap.size x := by rw [hx]; exact ⟨ho1.mono hs, ho2.mono hs, by show _ ≤ k; omega, by show k ≤ _; omega⟩
        have hTl : Tells x (fm l j) := by rw [hx, hfm]; exact ⟨rfl, rfl, rfl⟩
        have HX := Lib.hid hX; have HTl := Lib.hid hTl; have HXE := Lib.hid hx
        have HRD := Lib.hid hE
        obtain ⟨p', hp'⟩ : ∃ p', atF l (j + 1) = p' := ⟨_, rfl⟩
        rw [hp'] at hat1 hat2 ⊢
        have HP' := Lib.hid hp'
        clear hne heq ho1 ho2 hb1 q1 q2 q3 q4 hok hrd hE hpos hfm hX hTl hx hp'
        have HW2 : Hid (Below w1.heap.size w1 ((w1.alloc (.cells #[.int .i64 k, .slice a1 n1 c1] 35)).alloc (.cells #[.int .i64 k, .slice a1 n1 c1] 35))) := Lib.hid (((Below.refl _ _).alloc (Nat.le_refl _) _).alloc (by simp) _)
        have hn1 : (j + 1) * 32 ≤ 140737488355328 := by omega
        have hn2 : (j + 1) * 24 ≤ 140737488355328 := by omega
        have hm1 : j + 1 ≤ maxLen := by simp only [maxLen]; omega
        have hce : ∀ j u, (eCells x)[j]? = some u → ((w1.alloc (.cells #[.int .i64 k, .slice a1 n1 c1] 35)).alloc (.cells #[.int .i64 k, .slice a1 n1 c1] 35)).cell? ((⟨w1.heap.size + 1, 0, none⟩ : Addr).add j) = some u := by
          have h := cells_e (w1.alloc (.cells #[.int .i64 k, .slice a1 n1 c1] 35)) x
          rw [World.size_alloc, HXE.out] at h
          rw [HXE.out]
          exact h
        have hlx : (eCells x).length = 2 := rfl
        have hox : ∀ u ∈ eCells x, u.oneCell' = true := by intro u hu; simp [eCells] at hu; rcases hu with rfl | rfl <;> rfl
        have HCE := Lib.hid hce; have HOX := Lib.hid hox; have HLX := Lib.hid hlx
        clear hce hox hlx
        go_wp2_with (at_builtin; refine wpList_append_s2 entT (by decide) rfl (.tmp 31) (.tmp 33) rfl w.heap.size rfl (HL1.out.below HW2.out) rfl x HLX.out HOX.out HCE.out hn1 hm1 (HB1.out.trans (HW2.out.mono HB1.out.size)).size ?_)
        intro a3 c3 w3 ho3 hb3 hg3
        have HT2 := Lib.hid (HT1.out.below HW2.out)
        have HO2 : Hid (∀ y ∈ L ++ [x], FwOwn ((w1.alloc (.cells #[.int .i64 k, .slice a1 n1 c1] 35)).alloc (.cells #[.int .i64 k, .slice a1 n1 c1] 35)) w.heap.size y) := Lib.hid (fun y hy => by
          rcases List.mem_append.1 hy with hy | hy
          · exact (HO1.out y hy).below HW2.out
          · simp only [List.mem_singleton] at hy
            subst hy
            exact HX.out.below HW2.out)
        have hty := typed_s (HL1.out.below HW2.out)
        have HT3 := Lib.hid (grown_s HT2.out hty (by decide) hg3)
        have HO3 : Hid (∀ y ∈ L ++ [x], FwOwn w3 w.heap.size y) := Lib.hid (fun y hy => grown_f (HO2.out y hy) hty (by decide) hg3)
        have HL3 := Lib.hid ho3
        have HB3 := Lib.hid ((HB1.out.trans (HW2.out.mono HB1.out.size)).trans hb3)
        clear ho3 hb3 hg3 hty HCE HOX HLX
        have HW4 : Hid (Below w3.heap.size w3 (w3.alloc (.cells #[.slice a2 32 c2] 22))) := Lib.hid ((Below.refl _ _).alloc (Nat.le_refl _) _)
        have hce : ∀ j u, (tCells x)[j]? = some u → (w3.alloc (.cells #[.slice a2 32 c2] 22)).cell? ((⟨w3.heap.size, 0, none⟩ : Addr).add j) = some u := by
          have h := cells_t w3 x
          rw [HXE.out] at h
          rw [HXE.out]
          exact h
        have hlx : (tCells x).length = 1 := rfl
        have hox : ∀ u ∈ tCells x, u.oneCell' = true := by intro u hu; simp [tCells] at hu; subst hu; rfl
        have HCE := Lib.hid hce; have HOX := Lib.hid hox; have HLX := Lib.hid hlx
        clear hce hox hlx
        go_wp2_with (at_builtin; refine wpList_append_s2 tagT (by decide) rfl (.tmp 35) (.tmp 37) rfl w.heap.size rfl (HT3.out.below HW4.out) rfl x HLX.out HOX.out HCE.out hn2 hm1 (HB3.out.trans (HW4.out.mono HB3.out.size)).size ?_)
        intro a5 c5 w5 ho5 hb5 hg5
        have hty := typed_s (HT3.out.below HW4.out)
        have HL5 := Lib.hid (grown_s (HL3.out.below HW4.out) hty (by decide) hg5)
        have HO5 : Hid (∀ y ∈ L ++ [x], FwOwn w5 w.heap.size y) := Lib.hid (fun y hy => grown_f ((HO3.out y hy).below HW4.out) hty (by decide) hg5)
        have HT5 := Lib.hid ho5
        have HB5 := Lib.hid ((HB3.out.trans (HW4.out.mono HB3.out.size)).trans hb5)
        clear ho5 hb5 hg5 hty HCE HOX HLX
        go_wp2
        go_roundw
        case rel =>
          refine ⟨j + 1, L ++ [x], a3, c3, a5, c5, by omega, by rw [HP'.out], rfl, rfl, hU1, HL5, HT5, HO5, ?_, HB5⟩
          refine Lib.hid (HD.out.snoc ?_)
          rw [HL.out.num]
          exact HTl.out
        case measure => simp [intOf]; omega
      · have d : (rdE l p != 0) = true := by rw [bne_iff_ne]; exact hE
        have hEnd : Ends l j (rdE l p) := ⟨HU.out, .inr ⟨by rw [HP.out]; exact hlt, by rw [HP.out], hE⟩⟩
        have HEnd := Lib.hid hEnd
        have hs := HB.out.size
        have hs1 := hb1.size
        have HB1 := Lib.hid (HB.out.trans (hb1.mono hs))
        have HL1 := Lib.hid (HL.out.below hb1); have HT1 := Lib.hid (HT.out.below hb1)
        have HO1 : Hid (∀ x ∈ L, FwOwn w1 w.heap.size x) := Lib.hid (fun x hx => (HO.out x hx).below hb1)
        generalize rdE l p = E at d HEnd hne heq hE ⊢
        clear hne heq ho1 ho2 hb1 hEnd hE
        go_wp2
        go_ret3
        refine ⟨HB1.out.alloc HB1.out.size _, j, L, al, cl, ax, ct, E, rfl, HEnd.out, OwnS.alloc HL1.out _, OwnS.alloc HT1.out _, fun x hx => (HO1.out x hx).below ((Below.refl _ _).alloc (Nat.le_refl _) _), HD.out⟩
    · have hEnd : Ends l j 0 := ⟨HU.out, .inl ⟨by rw [HP.out]; omega, rfl⟩⟩
      have HEnd := Lib.hid hEnd
      clear hEnd
      go_wp2
      go_ret3
      exact ⟨HB.out, j, L, al, cl, ax, ct, 0, rfl, HEnd.out, HL.out, HT.out, HO.out, HD.out⟩

end Go.Proofs.Ytejhncdempfmjaa.ch
