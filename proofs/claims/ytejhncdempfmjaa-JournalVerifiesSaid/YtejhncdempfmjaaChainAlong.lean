/-
  Layer 47: the program's walk along a log, whatever is done with each frame.
-/
import Derived.Test.YtejhncdempfmjaaChainRFr
namespace Go.Proofs.Ytejhncdempfmjaa.ch
open Go.ChangeShapes Go.WideShapes Go.ChangeAt Go.RowKit
open bs en
set_option linter.unusedVariables false

/-- What one is done with each frame keeps to. -/
structure DoneBy (F : Nat) (caps : Array Value) (l : List Int) (B : Nat) (W0 : World) (I : Nat → World → Prop) (R : Nat → Int → World → Prop) : Prop where
  enters : ∀ args W, Sem.run Try.prog (callFunc F args) W = .ok (.enter F args) W
  below : ∀ j w, I j w → Below B W0 w
  stays : ∀ j w w', I j w → Below w.heap.size w w' → I j w'
  does : ∀ j w x, I j w → Up l j → atF l j < l.length → rdE l (atF l j) = 0 → FwOwn w B x → Tells x (fm l j) → x.n = 32 →
    Calls Try.prog F (#[x.val] ++ caps) w (fun e w' => ∃ E : Int, e = .returned (.int .i64 E) ∧ (E = 0 → I (j + 1) w') ∧ (E ≠ 0 → R j E w'))

def ALPost (l : List Int) (I : Nat → World → Prop) (R : Nat → Int → World → Prop) (e : Ending) (w' : World) : Prop :=
  ∃ (j : Nat) (E : Int), e = .returned (.int .i64 E) ∧ Up l j ∧ ((l.length ≤ atF l j ∧ E = 0 ∧ I j w') ∨ (atF l j < l.length ∧ rdE l (atF l j) = E ∧ E ≠ 0 ∧ I j w') ∨ (atF l j < l.length ∧ rdE l (atF l j) = 0 ∧ E ≠ 0 ∧ R j E w'))

set_option maxRecDepth 100000 in
set_option maxHeartbeats 2000000 in
theorem along_any (F : Nat) (caps : Array Value) (a : Option Addr) (n c : Nat) (l : List Int) (B : Nat) (W0 : World) (I : Nat → World → Prop) (R : Nat → Int → World → Prop) (hB : W0.heap.size = B) (h : Bytes W0 a n c l) (hn : n ≤ 100000) (hD : DoneBy F caps l B W0 I R) (w : World) (hw : I 0 w) :
    Calls Try.prog 55 #[.slice a n c, .func (.func F) #[] caps] w (ALPost l I R) := by
  have hcap := h.cap; have hmost := h.most; have hlen := h.len
  subst hlen
  have HA := Lib.hid h.all
  have H := Lib.hid h
  have HBE := Lib.hid hB
  have HDB := Lib.hid hD
  clear h hB hD
  go_enter Try.func55, Try.ntmps55
  go_wp2
  go_loopw [5] (fun i wr => ∃ (j : Nat), j ≤ l.length ∧ i = .int .i64 (atF l j : Nat) ∧ Hid (Up l j) ∧ Hid (I j wr)) (fun i _ => l.length - (intOf i).toNat)
  case atStart => exact ⟨0, by omega, rfl, Lib.hid (Up.zero l), Lib.hid hw⟩
  case round =>
    obtain ⟨j, hj, rfl, HU, HI⟩ := hrel
    have hle := at_le HA.out j HU.out
    have hge := at_ge (l := l) j
    obtain ⟨p, hp⟩ : ∃ p, atF l j = p := ⟨_, rfl⟩
    rw [hp] at hle hge ⊢
    have HP := Lib.hid hp
    clear hp
    have HB := Lib.hid (HDB.out.below j wr HI.out)
    by_cases hlt : p < l.length
    · go_wp2_with fail
      refine (read_any a l.length c l p _ (H.out.below (by rw [HBE.out]; exact HB.out)) (by omega) (by omega) (by omega)).mono ?_
      rintro e w1 ⟨hb1, k, to, a1, a2, n1, c1, n2, c2, body, tag, rfl, ho1, ho2, hne, heq⟩
      have HI1 := Lib.hid (HDB.out.stays j wr w1 HI.out hb1)
      by_cases hE : rdE l p = 0
      · obtain ⟨q1, q2, q3, q4⟩ := heq hE
        have hok := fr_ok HA.out hE
        have hrd := rd_ok HA.out hE
        rw [Int.toNat_natCast] at q1 q2 q3 q4
        have ht2 : n2 = 32 := by rw [← ho2.len, q3]; exact hok.1
        subst ht2
        rw [hE]
        have hto : to = ((atF l (j + 1) : Nat) : Int) := by
          rw [q4, atF, HP.out]; omega
        have hfm : fm l j = ⟨k, body, tag⟩ := by rw [fm, HP.out, frK, ← q1, ← q2, ← q3]
        have hat1 : atF l (j + 1) ≤ l.length := at_le HA.out _ (HU.out.succ (by rw [HP.out]; exact hlt) (by rw [HP.out]; exact hE))
        have hat2 : p + 36 ≤ atF l (j + 1) := by rw [atF, HP.out]; omega
        have hU1 := Lib.hid (HU.out.succ (by rw [HP.out]; exact hlt) (by rw [HP.out]; exact hE))
        have hk : 1 ≤ k ∧ k ≤ 3 := by
          have h1 := hok.2.2.2.2.1
          have h2 := hok.2.2.2.2.2.1
          rw [q1]; exact ⟨h1, h2⟩
        subst hto
        have hs := HB.out.size
        have hsB : B ≤ wr.heap.size := by rw [← HBE.out]; have := HB.out.size; omega
        obtain ⟨x, hx⟩ : ∃ x : Fw, x = ⟨⟨k, a1, n1, c1, body⟩, a2, 32, c2, tag⟩ := ⟨_, rfl⟩
        have hX : FwOwn w1 B x := by rw [hx]; exact ⟨ho1.mono hsB, ho2.mono hsB, by show _ ≤ k; omega, by show k ≤ _; omega⟩
        have hTl : Tells x (fm l j) := by rw [hx, hfm]; exact ⟨rfl, rfl, rfl⟩
        have hxn : x.n = 32 := by rw [hx]
        have HX := Lib.hid hX; have HTl := Lib.hid hTl; have HXE := Lib.hid hx; have HXN := Lib.hid hxn
        have HRD := Lib.hid hE
        have hxv : (#[Value.agg #[.int .i64 k, .slice a1 n1 c1, .slice a2 32 c2]] ++ caps) = #[x.val] ++ caps := by rw [hx]; rfl
        have HXV := Lib.hid hxv
        obtain ⟨p', hp'⟩ : ∃ p', atF l (j + 1) = p' := ⟨_, rfl⟩
        rw [hp'] at hat1 hat2 ⊢
        have HP' := Lib.hid hp'
        clear hne heq ho1 ho2 hb1 q1 q2 q3 q4 hok hrd hE hfm hX hTl hx hp' hxn hxv
        go_wp2_with fail
        have hW2 : Below w1.heap.size w1 (w1.alloc (.cells #[.int .i64 k, .slice a1 n1 c1] 35)) := (Below.refl _ _).alloc (Nat.le_refl _) _
        rw [HXV.out, HDB.out.enters, Oper.upon_enter]
        refine (HDB.out.does j _ x (HDB.out.stays j _ _ HI1.out hW2) HU.out (by rw [HP.out]; exact hlt) (by rw [HP.out]; exact HRD.out) (HX.out.below hW2) HTl.out HXN.out).mono ?_
        rintro e w2 ⟨E, rfl, hz, hnz⟩
        have HZ := Lib.hid hz; have HNZ := Lib.hid hnz
        clear hz hnz hW2
        by_cases hE : E = 0
        · subst hE
          have HI2 := Lib.hid (HZ.out rfl)
          go_wp2
          go_roundw
          case rel =>
            refine ⟨j + 1, by omega, by rw [HP'.out], hU1, HI2⟩
          case measure => simp [intOf]; omega
        · have d : (E != 0) = true := by rw [bne_iff_ne]; exact hE
          have HR := Lib.hid (HNZ.out hE)
          have hEnd : atF l j < l.length ∧ rdE l (atF l j) = 0 ∧ E ≠ 0 := ⟨by rw [HP.out]; exact hlt, by rw [HP.out]; exact HRD.out, hE⟩
          have HEnd := Lib.hid hEnd
          clear hE hEnd
          go_wp2
          go_ret
          exact ⟨j, E, rfl, HU.out, .inr (.inr ⟨HEnd.out.1, HEnd.out.2.1, HEnd.out.2.2, HR.out⟩)⟩
      · have d : (rdE l p == 0) = false := by rw [beq_eq_false_iff_ne]; exact hE
        have d' : (rdE l p != 0) = true := by rw [bne_iff_ne]; exact hE
        have hEnd : atF l j < l.length ∧ rdE l (atF l j) = rdE l p ∧ rdE l p ≠ 0 := ⟨by rw [HP.out]; exact hlt, by rw [HP.out], hE⟩
        have HEnd := Lib.hid hEnd
        have HI2 := Lib.hid (HDB.out.stays j w1 _ HI1.out ((Below.refl _ _).alloc (Nat.le_refl _) (.cells #[.int .i64 k, .slice a1 n1 c1] 35)))
        generalize rdE l p = E at d d' HEnd hne heq hE ⊢
        clear hne heq ho1 ho2 hb1 hEnd hE
        go_wp2
        go_ret
        exact ⟨j, E, rfl, HU.out, .inr (.inl ⟨HEnd.out.1, HEnd.out.2.1, HEnd.out.2.2, HI2.out⟩)⟩
    · have hEnd : l.length ≤ atF l j := by rw [HP.out]; omega
      have HEnd := Lib.hid hEnd
      clear hEnd
      go_wp2
      go_ret
      exact ⟨j, 0, rfl, HU.out, .inl ⟨HEnd.out, rfl, HI.out⟩⟩

end Go.Proofs.Ytejhncdempfmjaa.ch
