/-
  Layer 47: the message of an entry behind a tag: the document's.
-/
import Derived.Test.YtejhncdempfmjaaChainMsg
namespace Go.Proofs.Ytejhncdempfmjaa.ch
open Go.ChangeShapes Go.WideShapes Go.ChangeAt Go.RowKit
open bs en
set_option linter.unusedVariables false

/-- The unit of a round. -/
def Un (j : Nat) (U : Int) : Prop := (j = 0 ∧ U = 72057594037927936) ∨ (j = 1 ∧ U = 281474976710656) ∨ (j = 2 ∧ U = 1099511627776) ∨ (j = 3 ∧ U = 4294967296) ∨ (j = 4 ∧ U = 16777216) ∨ (j = 5 ∧ U = 65536) ∨ (j = 6 ∧ U = 256) ∨ (j = 7 ∧ U = 1) ∨ (j = 8 ∧ U = 0)
theorem be8_len (N : Int) : (be8 N).length = 8 := rfl

set_option maxRecDepth 100000 in
set_option maxHeartbeats 2000000 in
theorem rmessage_any (a' : Option Addr) (n' c' : Nat) (ah : List Int) (N : Int) (k : Int) (a : Option Addr) (n c : Nat) (l : List Int) (w : World) (h' : Bytes w a' n' c' ah) (h : Bytes w a n c l) (k0 : -9223372036854775808 ≤ k) (k1 : k ≤ 9223372036854775807) (N0 : 0 ≤ N) (N1 : N ≤ 18446744073709551615) :
    Calls Try.prog 20 #[.slice a' n' c', .int .u64 N, .agg #[.int .i64 k, .slice a n c]] w (MPost w ah N k l) := by
  have hcap := h.cap; have hmost := h.most
  have hcap' := h'.cap; have hmost' := h'.most
  have hl := h.len; have hl' := h'.len
  subst hl hl'
  have HH := Lib.hid h; have HH' := Lib.hid h'
  clear h h'
  by_cases ht : ah.length = 32
  · by_cases hz : payE k l.length = 0
    · have hE : msE ah.length k l.length = 0 := by unfold msE; rw [if_pos ht, hz]
      have dt : ((ah.length : Int) != 32) = false := by simp [ht]
      have hc1 : l.length ≤ 1024 := by
        rcases payE_cases k l.length with ⟨_, h, _⟩ | h | h
        · exact h
        · omega
        · omega
      have HE := Lib.hid hE; have HZ := Lib.hid hz; have HT := Lib.hid ht
      clear hE hz ht
      go_enter Try.func20, Try.ntmps20
      go_wp2_with fail
      refine (rpayload_any k a _ c l _ (HH.out.below ((Below.refl _ _).alloc (Nat.le_refl _) _)) k0 k1).mono ?_
      rintro e w1 ⟨hb1, a1, m1, c1, r1, rfl, ho1, hr1⟩
      rw [if_pos HZ.out] at hr1
      have hm1 : m1 = l.length + 1 := by rw [← ho1.len, hr1]; rfl
      subst hr1 hm1
      rw [HZ.out]
      have HO1 := Lib.hid ho1; have HB1 := Lib.hid (((Below.refl w.heap.size w).alloc (Nat.le_refl _) _).trans (hb1.mono (by simp)))
      have hs1 := hb1.size
      rw [World.size_alloc] at hs1
      clear ho1 hb1
      have HN : Hid (OwnB (w1.alloc (.cells #[] 5)) w1.heap.size 5 (some ⟨w1.heap.size, 0, none⟩) 0 0 []) := OwnB.made w1 w1.heap.size 5 [] #[] rfl (Nat.le_refl _) (by simp [maxLen]) (by simp [AllB])
      have HBN : Hid (Below w1.heap.size w1 (w1.alloc (.cells #[] 5))) := Lib.hid ((Below.refl _ _).alloc (Nat.le_refl _) _)
      have HAN : Hid (Bytes (w1.alloc (.cells #[] 5)) a' ah.length c' ah) := Lib.hid ((HH'.out.below HB1.out).below HBN.out)
      have HPN : Hid (Bytes w1 a1 (l.length + 1) c1 (k :: l)) := Lib.hid HO1.out.bytes
      have hle : 0 + ah.length ≤ 140737488355328 := by rw [HT.out]; omega
      clear HO1
      go_wp2_with (at_builtin; refine wpList_append_b byteT rfl _ _ rfl w1.heap.size rfl HN.out rfl HAN.out hle HBN.out.size ?_)
      intro a2 c2 w2 ho2 hb2 _
      have HB2 := Lib.hid (HBN.out.trans hb2)
      have HO2 := Lib.hid ho2
      clear ho2 hb2 HN HBN HAN
      go_wp2
      go_loopw [10, 11] (fun o u wr => ∃ (j : Nat) (U : Int) (a3 : Option Addr) (c3 : Nat), Un j U ∧ o = .slice a3 (ah.length + j) c3 ∧ u = .int .u64 U ∧ Hid (OwnB wr w1.heap.size 5 a3 (ah.length + j) c3 (ah ++ (be8 N).take j)) ∧ Hid (Below w1.heap.size w1 wr)) (fun _ u _ => (intOf u).toNat)
      case atStart => exact ⟨0, 72057594037927936, a2, c2, by simp [Un], rfl, rfl, Lib.hid (by simpa using HO2.out), HB2⟩
      case round =>
        obtain ⟨j, U, a3, c3, hu, rfl, rfl, ho3, hb3⟩ := hrel
        have hsz := hb3.out.size
        unfold Un at hu
        rcases hu with ⟨rfl, rfl⟩ | ⟨rfl, rfl⟩ | ⟨rfl, rfl⟩ | ⟨rfl, rfl⟩ | ⟨rfl, rfl⟩ | ⟨rfl, rfl⟩ | ⟨rfl, rfl⟩ | ⟨rfl, rfl⟩ | ⟨rfl, rfl⟩
        rotate_left 8
        · have hle8 : ah.length + 8 + (l.length + 1) ≤ 140737488355328 := by rw [HT.out]; omega
          go_wp2_with (at_builtin; refine wpList_append_b byteT rfl _ _ rfl w1.heap.size rfl ho3.out rfl (HPN.out.below hb3.out) hle8 hsz ?_)
          intro a4 c4 w4 ho4 hb4 _
          have HO4 := Lib.hid (ho4.mono (Nat.le_of_lt (Nat.lt_of_succ_le hs1))); have HB4 := Lib.hid (HB1.out.trans ((hb3.out.trans hb4).mono (Nat.le_of_lt (Nat.lt_of_succ_le hs1))))
          clear ho4 hb4
          go_wp2
          go_ret2
          exact ⟨HB4.out, a4, _, c4, _, by rw [HE.out]; rfl, HO4.out, by rw [HE.out, if_pos rfl]; simp [msB, be8]⟩
        · go_wp2_with (at_builtin; refine wpList_append_b byteT rfl _ _ rfl w1.heap.size rfl (ho3.out.alloc _) rfl (Bytes.one _ _ _ ?_) ?_ ?_ ?_)
          · omega
          · have := HT.out; omega
          · simp; omega
          intro a4 c4 w4 ho4 hb4 _
          have HO4 := Lib.hid ho4; have HB4 := Lib.hid ((hb3.out.alloc hsz _).trans hb4)
          clear ho4 hb4
          go_wp2
          go_roundw
          case rel =>
            refine ⟨1, _, a4, c4, ?_, rfl, rfl, ?_, HB4⟩
            rotate_left
            · refine Lib.hid ?_
              have h4 := HO4.out
              simpa [be8] using h4
            · simp [Un]
          case measure => simp [intOf]
        · go_wp2_with (at_builtin; refine wpList_append_b byteT rfl _ _ rfl w1.heap.size rfl (ho3.out.alloc _) rfl (Bytes.one _ _ _ ?_) ?_ ?_ ?_)
          · omega
          · have := HT.out; omega
          · simp; omega
          intro a4 c4 w4 ho4 hb4 _
          have HO4 := Lib.hid ho4; have HB4 := Lib.hid ((hb3.out.alloc hsz _).trans hb4)
          clear ho4 hb4
          go_wp2
          go_roundw
          case rel =>
            refine ⟨2, _, a4, c4, ?_, rfl, rfl, ?_, HB4⟩
            rotate_left
            · refine Lib.hid ?_
              have h4 := HO4.out
              simpa [be8] using h4
            · simp [Un]
          case measure => simp [intOf]
        · go_wp2_with (at_builtin; refine wpList_append_b byteT rfl _ _ rfl w1.heap.size rfl (ho3.out.alloc _) rfl (Bytes.one _ _ _ ?_) ?_ ?_ ?_)
          · omega
          · have := HT.out; omega
          · simp; omega
          intro a4 c4 w4 ho4 hb4 _
          have HO4 := Lib.hid ho4; have HB4 := Lib.hid ((hb3.out.alloc hsz _).trans hb4)
          clear ho4 hb4
          go_wp2
          go_roundw
          case rel =>
            refine ⟨3, _, a4, c4, ?_, rfl, rfl, ?_, HB4⟩
            rotate_left
            · refine Lib.hid ?_
              have h4 := HO4.out
              simpa [be8] using h4
            · simp [Un]
          case measure => simp [intOf]
        · go_wp2_with (at_builtin; refine wpList_append_b byteT rfl _ _ rfl w1.heap.size rfl (ho3.out.alloc _) rfl (Bytes.one _ _ _ ?_) ?_ ?_ ?_)
          · omega
          · have := HT.out; omega
          · simp; omega
          intro a4 c4 w4 ho4 hb4 _
          have HO4 := Lib.hid ho4; have HB4 := Lib.hid ((hb3.out.alloc hsz _).trans hb4)
          clear ho4 hb4
          go_wp2
          go_roundw
          case rel =>
            refine ⟨4, _, a4, c4, ?_, rfl, rfl, ?_, HB4⟩
            rotate_left
            · refine Lib.hid ?_
              have h4 := HO4.out
              simpa [be8] using h4
            · simp [Un]
          case measure => simp [intOf]
        · go_wp2_with (at_builtin; refine wpList_append_b byteT rfl _ _ rfl w1.heap.size rfl (ho3.out.alloc _) rfl (Bytes.one _ _ _ ?_) ?_ ?_ ?_)
          · omega
          · have := HT.out; omega
          · simp; omega
          intro a4 c4 w4 ho4 hb4 _
          have HO4 := Lib.hid ho4; have HB4 := Lib.hid ((hb3.out.alloc hsz _).trans hb4)
          clear ho4 hb4
          go_wp2
          go_roundw
          case rel =>
            refine ⟨5, _, a4, c4, ?_, rfl, rfl, ?_, HB4⟩
            rotate_left
            · refine Lib.hid ?_
              have h4 := HO4.out
              simpa [be8] using h4
            · simp [Un]
          case measure => simp [intOf]
        · go_wp2_with (at_builtin; refine wpList_append_b byteT rfl _ _ rfl w1.heap.size rfl (ho3.out.alloc _) rfl (Bytes.one _ _ _ ?_) ?_ ?_ ?_)
          · omega
          · have := HT.out; omega
          · simp; omega
          intro a4 c4 w4 ho4 hb4 _
          have HO4 := Lib.hid ho4; have HB4 := Lib.hid ((hb3.out.alloc hsz _).trans hb4)
          clear ho4 hb4
          go_wp2
          go_roundw
          case rel =>
            refine ⟨6, _, a4, c4, ?_, rfl, rfl, ?_, HB4⟩
            rotate_left
            · refine Lib.hid ?_
              have h4 := HO4.out
              simpa [be8] using h4
            · simp [Un]
          case measure => simp [intOf]
        · go_wp2_with (at_builtin; refine wpList_append_b byteT rfl _ _ rfl w1.heap.size rfl (ho3.out.alloc _) rfl (Bytes.one _ _ _ ?_) ?_ ?_ ?_)
          · omega
          · have := HT.out; omega
          · simp; omega
          intro a4 c4 w4 ho4 hb4 _
          have HO4 := Lib.hid ho4; have HB4 := Lib.hid ((hb3.out.alloc hsz _).trans hb4)
          clear ho4 hb4
          go_wp2
          go_roundw
          case rel =>
            refine ⟨7, _, a4, c4, ?_, rfl, rfl, ?_, HB4⟩
            rotate_left
            · refine Lib.hid ?_
              have h4 := HO4.out
              simpa [be8] using h4
            · simp [Un]
          case measure => simp [intOf]
        · go_wp2_with (at_builtin; refine wpList_append_b byteT rfl _ _ rfl w1.heap.size rfl (ho3.out.alloc _) rfl (Bytes.one _ _ _ ?_) ?_ ?_ ?_)
          · omega
          · have := HT.out; omega
          · simp; omega
          intro a4 c4 w4 ho4 hb4 _
          have HO4 := Lib.hid ho4; have HB4 := Lib.hid ((hb3.out.alloc hsz _).trans hb4)
          clear ho4 hb4
          go_wp2
          go_roundw
          case rel =>
            refine ⟨8, _, a4, c4, ?_, rfl, rfl, ?_, HB4⟩
            rotate_left
            · refine Lib.hid ?_
              have h4 := HO4.out
              simpa [be8] using h4
            · simp [Un]
          case measure => simp [intOf]
    · have hE : msE ah.length k l.length = payE k l.length := by unfold msE; rw [if_pos ht]
      have d : (payE k l.length != 0) = true := by rw [bne_iff_ne]; exact hz
      have dt : ((ah.length : Int) != 32) = false := by simp [ht]
      have HE := Lib.hid hE; have HZ := Lib.hid hz
      clear hE hz ht
      go_enter Try.func20, Try.ntmps20
      go_wp2_with fail
      refine (rpayload_any k a _ c l _ (HH.out.below ((Below.refl _ _).alloc (Nat.le_refl _) _)) k0 k1).mono ?_
      rintro e w1 ⟨hb1, a1, m1, c1, r1, rfl, ho1, hr1⟩
      have HB1 := Lib.hid (((Below.refl w.heap.size w).alloc (Nat.le_refl _) _).trans (hb1.mono (by simp)))
      clear ho1 hb1 hr1
      go_wp2
      go_ret2
      refine ⟨HB1.out.alloc HB1.out.size _, _, 0, 0, [], by rw [HE.out]; rfl, ?_, by rw [HE.out, if_neg HZ.out]⟩
      exact (OwnB.made _ _ _ [] #[] rfl (Nat.le_refl _) (by simp [maxLen]) (by simp [AllB])).mono HB1.out.size
  · have hE : msE ah.length k l.length = 2 := by unfold msE; rw [if_neg ht]
    have d : ((ah.length : Int) != 32) = true := by rw [bne_iff_ne]; omega
    have HE := Lib.hid hE
    clear hE ht
    go_enter Try.func20, Try.ntmps20
    go_wp2
    go_ret2
    refine ⟨((Below.refl _ _).alloc (Nat.le_refl _) _).alloc (by simp) _, _, 0, 0, [], by rw [HE.out]; rfl, ?_, by rw [HE.out]; rfl⟩
    simpa using OwnB.made (w.alloc (.cells #[.int .i64 k, .slice a l.length c] 35)) w.heap.size 5 [] #[] rfl (by simp) (by simp [maxLen]) (by simp [AllB])

end Go.Proofs.Ytejhncdempfmjaa.ch
