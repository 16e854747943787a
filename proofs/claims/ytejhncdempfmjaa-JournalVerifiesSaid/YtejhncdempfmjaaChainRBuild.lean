/-
  Layer 47: the document's Build.
-/
import Derived.Test.YtejhncdempfmjaaChainBuild
import Derived.OwnWalk
namespace Go.Proofs.Ytejhncdempfmjaa.ch
open Go.ChangeShapes Go.WideShapes Go.ChangeAt Go.RowKit
open bs en
open Go.Proofs.Ytejhncdempfmjaa.sh (tagB ptag_any rtag_any)
set_option linter.unusedVariables false

set_option maxRecDepth 100000 in
set_option maxHeartbeats 2000000 in
theorem rbuild_any (a0 : Option Addr) (n0 c0 : Nat) (key : List Int) (a : Option Addr) (n c : Nat) (L : List Ent) (w : World) (h0 : Bytes w a0 n0 c0 key) (h : Recs 2 EntAt w a n c L) (hk : n0 ≤ 100000) (hn : n ≤ 100000) :
    Calls Try.prog 15 #[.slice a0 n0 c0, .slice a n c] w (BPost key L w) := by
  have hcap := h.cap; have hmost := h.most; have hlen := h.len
  have H0 := Lib.hid h0; have HX := Lib.hid h
  have HLN := Lib.hid hlen
  clear h0 h hlen
  have HN : Hid (OwnB (w.alloc (.cells #[] 5)) w.heap.size 5 (some ⟨w.heap.size, 0, none⟩) 0 0 []) := OwnB.made w w.heap.size 5 [] #[] rfl (Nat.le_refl _) (by simp [maxLen]) (by simp [AllB])
  have HBN : Hid (Below w.heap.size w (w.alloc (.cells #[] 5))) := Lib.hid ((Below.refl _ _).alloc (Nat.le_refl _) _)
  go_enter Try.func15, Try.ntmps15
  go_wp2_with fail
  refine (rfirst_any _).mono ?_
  rintro e w1 ⟨a1, c1, rfl, ho1, hb1⟩
  have HO1 := Lib.hid (ho1.mono HBN.out.size); have HB1 := Lib.hid (HBN.out.trans (hb1.mono HBN.out.size))
  have HN1 := Lib.hid (HN.out.below hb1)
  clear ho1 hb1 HN
  go_wp2
  go_loopw [7, 8, 9] (fun lo ta i wr => ∃ (k : Nat) (al : Option Addr) (ml cl : Nat) (ax : Option Addr) (ct : Nat), k ≤ n ∧ i = .int .i64 k ∧ lo = .slice al ml cl ∧ ta = .slice ax 32 ct ∧ Hid (OwnB wr w.heap.size 5 al ml cl (lg key L k)) ∧ Hid (OwnB wr w.heap.size 5 ax 32 ct (tg key L k)) ∧ Hid (Below w.heap.size w wr) ∧ Hid (bE L k = 0) ∧ Hid (ml ≤ 2000 * k)) (fun _ _ i _ => n - (intOf i).toNat)
  case atStart => exact ⟨0, _, 0, 0, a1, c1, by omega, rfl, rfl, rfl, HN1, HO1, HB1, Lib.hid rfl, Lib.hid (by omega)⟩
  case round =>
    obtain ⟨k, al, ml, cl, ax, ct, hk2, rfl, rfl, rfl, HL, HT, HB, HE, HM⟩ := hrel
    by_cases hlt : k < n
    · have HR := HX.out.below entStays HB.out
      obtain ⟨x, hx⟩ : ∃ x, L[k]? = some x := ⟨L[k]'(by have := HR.len; omega), List.getElem?_eq_getElem _⟩
      have hen : en L k = x := by unfold en; rw [List.getD_eq_getElem?_getD, hx]; rfl
      rcases HR.at' with h0 | ⟨b, off, rfl, hbl, hcell⟩
      · omega
      have HC := Lib.hid (hcell k x hx)
      obtain ⟨e0, e1, hrd⟩ := hcell k x hx
      have HRD := Lib.hid hrd; have HEN := Lib.hid hen
      have hs := HB.out.size
      clear HR hcell hx hrd hen
      obtain ⟨xk, xa, xn, xc, xl⟩ := x
      dsimp only at e0 e1
      have hxb := HRD.out.2
      have hxk := HRD.out.1
      dsimp only at hxb hxk
      have hxc := hxb.cap; have hxm := hxb.most
      have HXB := Lib.hid hxb
      clear hxb
      have HTL : Hid ((tg key L k).length = 32) := Lib.hid HT.out.len
      have HXL : Hid (xl.length = xn) := Lib.hid HXB.out.len
      go_wp2_with fail
      refine (rpayload_any xk xa xn xc xl _ HXB.out hxk.1 hxk.2).mono ?_
      rintro e w2 ⟨hb2, a2, m2, c2, r2, rfl, ho2, hr2⟩
      have HC2 := Lib.hid (entStays _ _ _ _ _ HC.out hbl hb2)
      have hbl2 : b < w2.heap.size := Nat.lt_of_lt_of_le hbl hb2.size
      have f0 := HC2.out.c0; have f1 := HC2.out.c1
      dsimp only at f0 f1
      have hs2 := hb2.size
      have HBW2 := Lib.hid (HB.out.trans (hb2.mono hs))
      have HL2 := Lib.hid (HL.out.below hb2); have HT2 := Lib.hid (HT.out.below hb2); have HXB2 := Lib.hid (HXB.out.below hb2)
      clear hb2 ho2 hr2
      rw [← HXL.out]
      by_cases hp : payE xk xl.length = 0
      · have HP := Lib.hid hp
        rw [hp]
        clear hp
        go_wp2_with fail
        have e3 : ((k : Int) + 1) = ((k + 1 : Nat) : Int) := by omega
        rw [e3, HXL.out]
        refine (next_any a0 n0 c0 key ax 32 ct (tg key L k) ((k + 1 : Nat) : Int) xk xa xn xc xl _ (H0.out.below HBW2.out) HT2.out.bytes HXB2.out hxk.1 hxk.2 (by omega) (by omega) hk).mono ?_
        rintro e w3 ⟨a3, c3, rfl, ho3, hb3⟩
        have ht3 : tagB key (mg (tg key L k) ((k + 1 : Nat) : Int) xk xl) = tg key L (k + 1) := by rw [tg, HEN.out]
        rw [ht3] at ho3
        have HO3 := Lib.hid ho3
        have hs3 := hb3.size
        have HC3 := Lib.hid (entStays _ _ _ _ _ HC2.out hbl2 hb3)
        have g0 := HC3.out.c0; have g1 := HC3.out.c1
        dsimp only at g0 g1
        have HBW3 := Lib.hid (HBW2.out.trans (hb3.mono HBW2.out.size))
        have HXB3 := Lib.hid (HXB2.out.below hb3)
        have HL3 := Lib.hid (HL2.out.below hb3)
        clear ho3 hb3 ht3 f0 f1 e3
        go_wp2_with fail
        refine (rframe_any xk xa xn xc xl a3 32 c3 (tg key L (k + 1)) _ HXB3.out HO3.out.bytes hxk.1 hxk.2).mono ?_
        rintro e w4 ⟨hb4, a4, m4, c4, r4, rfl, ho4, hr4⟩
        have hT3 : (tg key L (k + 1)).length = 32 := HO3.out.len
        have hfe : frE xk xl.length (tg key L (k + 1)).length = 0 := by unfold frE; rw [if_pos HP.out, if_pos hT3]
        rw [hfe, if_pos rfl] at hr4
        rw [hfe]
        have hx1 : xl.length ≤ 1024 := by
          rcases payE_cases xk xl.length with ⟨_, h, _⟩ | h | h
          · exact h
          · have := HP.out; omega
          · have := HP.out; omega
        have hm4 : m4 ≤ 1061 := by rw [← ho4.len, hr4, frB_len, hT3]; omega
        have HR4 := Lib.hid hr4
        have HO4 := Lib.hid ho4
        have HL4 := Lib.hid (HL3.out.below hb4)
        have HT4 := Lib.hid (HO3.out.below hb4)
        have hs4 := hb4.size
        have HBW4 := Lib.hid (HBW3.out.trans (hb4.mono HBW3.out.size))
        have hle : ml + m4 ≤ 140737488355328 := by have := HM.out; omega
        clear hb4 ho4 hr4 hfe hT3 hx1 g0 g1 e0 e1
        go_wp2_with (at_builtin; refine wpList_append_b2 byteT rfl _ _ rfl w.heap.size rfl HL4.out rfl HO4.out.bytes hle HBW4.out.size ?_)
        intro a5 c5 w5 ho5 hb5 hg5
        have HO5 := Lib.hid ho5
        have HT5 := Lib.hid ((HT4.out.of (fun i hi => hg5.block i (HT4.out.blockLt hi).2 (fun e => by
          rw [ownBlock_eq] at e
          have q1 := (HL.out.blockLt e.symm).2
          have q2 := (HO3.out.blockLt hi).1
          omega))).mono HBW2.out.size)
        have HB5 := Lib.hid (HBW4.out.trans hb5)
        clear ho5 hb5 hg5
        go_wp2
        go_roundw
        case rel =>
          refine ⟨k + 1, a5, ml + m4, c5, a3, c3, by omega, by go_num, rfl, rfl, ?_, HT5, HB5, ?_, ?_⟩
          · refine Lib.hid ?_
            rw [lg, HEN.out, ← HR4.out]
            exact HO5.out
          · refine Lib.hid ?_
            rw [bE, if_pos HE.out, HEN.out]
            exact HP.out
          · refine Lib.hid ?_
            have := HM.out
            omega
        case measure => simp [intOf]; omega
      · have d : (payE xk xl.length != 0) = true := by rw [bne_iff_ne]; exact hp
        have hbe : bE L L.length = payE xk xl.length := by
          have h1 : bE L (k + 1) = payE xk xl.length := by rw [bE, if_pos HE.out, HEN.out]
          rw [← h1]
          refine bE_stay L (k + 1) _ (by have := HLN.out; omega) ?_
          rw [h1]; exact hp
        have HBE := Lib.hid hbe; have HP := Lib.hid hp
        clear hbe hp
        go_wp2
        go_ret3
        refine ⟨(HBW2.out.alloc HBW2.out.size _).alloc (Nat.le_trans HBW2.out.size (by simp)) _, _, 0, 0, [], _, 0, 0, [], by rw [HBE.out]; rfl, ?_, ?_, by rw [HBE.out, if_neg HP.out], by rw [HBE.out, if_neg HP.out]⟩
        · exact ((OwnB.made w2 w2.heap.size 5 [] #[] rfl (Nat.le_refl _) (by simp [maxLen]) (by simp [AllB])).alloc _).mono HBW2.out.size
        · have hm := OwnB.made (w2.alloc (.cells #[] 5)) w.heap.size 5 [] #[] rfl (Nat.le_trans HBW2.out.size (by simp)) (by simp [maxLen]) (by simp [AllB])
          rw [World.size_alloc] at hm
          exact hm
    · obtain rfl : k = n := by omega
      go_wp2
      go_ret3
      exact ⟨HB.out, _, _, _, _, _, _, _, _, by rw [HLN.out, HE.out]; rfl, HL.out, HT.out, by rw [HLN.out, HE.out, if_pos rfl], by rw [HLN.out, HE.out, if_pos rfl]⟩

end Go.Proofs.Ytejhncdempfmjaa.ch
