/-
  Layer 46: the statement on what comes back.
-/
import Derived.Test.YtcncfljpbbpaoaaEntryTorn
namespace Go.Proofs.Ytcncfljpbbpaoaa.en
open Go.ChangeShapes Go.WideShapes Go.ChangeAt Go.RowKit
open bs
set_option linter.unusedVariables false

set_option maxRecDepth 100000 in
set_option maxHeartbeats 2000000 in
theorem rframe_any (k : Int) (a : Option Addr) (n c : Nat) (l : List Int) (a' : Option Addr) (n' c' : Nat) (tag : List Int) (w : World) (h : Bytes w a n c l) (h' : Bytes w a' n' c' tag) (k0 : -9223372036854775808 ≤ k) (k1 : k ≤ 9223372036854775807) :
    Calls Try.prog 31 #[.agg #[.int .i64 k, .slice a n c], .slice a' n' c'] w (FPost w k l tag) := by
  have hcap := h.cap; have hmost := h.most
  have hcap' := h'.cap; have hmost' := h'.most
  have hl := h.len; have hl' := h'.len
  subst hl hl'
  have HH := Lib.hid h; have HH' := Lib.hid h'
  clear h h'
  have hc := payE_cases k l.length
  by_cases hz : payE k l.length = 0
  · have hc1 : l.length ≤ 1024 ∧ 1 ≤ k ∧ k ≤ 3 := by
      rcases hc with ⟨_, h⟩ | h | h
      · exact h
      · omega
      · omega
    obtain ⟨hn, hk1, hk3⟩ := hc1
    have HZ := Lib.hid hz
    by_cases ht : tag.length = 32
    · have hE : frE k l.length tag.length = 0 := by unfold frE; rw [if_pos hz, if_pos ht]
      have HE := Lib.hid hE
      have HT := Lib.hid ht
      clear hE hc hz
      go_enter Try.func31, Try.ntmps31
      go_wp2_with fail
      refine (rpayload_any k a _ c l _ (HH.out.below ((Below.refl _ _).alloc (Nat.le_refl _) _)) k0 k1).mono ?_
      rintro e w1 ⟨hb1, a1, m1, c1, r1, rfl, ho1, hr1⟩
      rw [if_pos HZ.out] at hr1
      have hm1 : m1 = l.length + 1 := by rw [← ho1.len, hr1]; rfl
      subst hr1 hm1
      rw [HZ.out]
      rw [HT.out]
      have HO1 := Lib.hid ho1; have HB1 := Lib.hid (((Below.refl w.heap.size w).alloc (Nat.le_refl _) _).trans (hb1.mono (by simp)))
      have HT' : Hid (Bytes w1 a' 32 c' tag) := by have := HH'.out.below HB1.out; rw [HT.out] at this; exact this
      clear ho1 hb1 ht
      have e1 : (((l.length + 1) / 256 : Nat) : Int) = ((l.length : Int) + 1) / 256 := by omega
      have e2 : (((l.length + 1) % 256 : Nat) : Int) = ((l.length : Int) + 1) % 256 := by omega
      have q1 : 0 ≤ ((l.length : Int) + 1) / 256 ∧ ((l.length : Int) + 1) / 256 ≤ 255 := by omega
      have q2 : 0 ≤ ((l.length : Int) + 1) % 256 ∧ ((l.length : Int) + 1) % 256 ≤ 255 := by omega
      have hfr : frB k l tag = [0, 0, ((l.length : Int) + 1) / 256, ((l.length : Int) + 1) % 256] ++ (k :: l) ++ tag := by unfold frB; rw [e1, e2, List.append_assoc]
      have HFR := Lib.hid hfr
      clear e1 e2 hfr
      have HM : Hid (OwnB (w1.alloc (.cells #[.int .u8 0, .int .u8 0, .int .u8 (((l.length : Int) + 1) / 256), .int .u8 (((l.length : Int) + 1) % 256)] 5)) w1.heap.size 5 (some ⟨w1.heap.size, 0, none⟩) 4 4 [0, 0, ((l.length : Int) + 1) / 256, ((l.length : Int) + 1) % 256]) :=
        OwnB.made w1 _ _ [0, 0, ((l.length : Int) + 1) / 256, ((l.length : Int) + 1) % 256] _ (by simp [cellsOf]) (Nat.le_refl _) (by simp [maxLen]) (by
          intro z hz
          simp only [List.mem_cons, List.not_mem_nil, or_false] at hz
          rcases hz with rfl | rfl | rfl | rfl <;> omega)
      have HW1 : Hid (Below w1.heap.size w1 (w1.alloc (.cells #[.int .u8 0, .int .u8 0, .int .u8 (((l.length : Int) + 1) / 256), .int .u8 (((l.length : Int) + 1) % 256)] 5))) := (Below.refl _ _).alloc (Nat.le_refl _) _
      have n1 : 4 + (l.length + 1) ≤ 140737488355328 := by omega
      go_wp2_with (at_builtin; with_reducible refine wpList_append_b byteT rfl (.tmp 32) (.tmp 33) rfl w1.heap.size rfl HM.out rfl (HO1.out.bytes.below HW1.out) n1 HW1.out.size ?_)
      intro a2 c2 w2 ho2 hb2 _
      have HO2 := Lib.hid ho2
      have HB2 := Lib.hid (HW1.out.trans hb2)
      clear ho2 hb2
      have n2 : 4 + (l.length + 1) + 32 ≤ 140737488355328 := by omega
      go_wp2_with (at_builtin; with_reducible refine wpList_append_b byteT rfl (.tmp 34) (.tmp 35) rfl w1.heap.size rfl HO2.out rfl (HT'.out.below HB2.out) n2 HB2.out.size ?_)
      intro a3 c3 w3 ho3 hb3 _
      have ho3' : OwnB w3 w1.heap.size 5 a3 (4 + (l.length + 1) + 32) c3 (frB k l tag) := by rw [HFR.out]; exact ho3
      have HO3 := Lib.hid (ho3'.mono HB1.out.size)
      have HB3 := Lib.hid (HB1.out.trans ((HB2.out.trans hb3).mono HB1.out.size))
      clear ho3 ho3' hb3
      go_wp2
      go_ret2
      exact ⟨HB3.out, a3, _, c3, _, by rw [HE.out]; rfl, HO3.out, by rw [HE.out, if_pos rfl]⟩
    · have hE : frE k l.length tag.length = 2 := by unfold frE; rw [if_pos hz, if_neg ht]
      have HE := Lib.hid hE
      have d : ((tag.length : Int) != 32) = true := by rw [bne_iff_ne]; omega
      clear hE hc hz ht
      go_enter Try.func31, Try.ntmps31
      go_wp2_with fail
      refine (rpayload_any k a _ c l _ (HH.out.below ((Below.refl _ _).alloc (Nat.le_refl _) _)) k0 k1).mono ?_
      rintro e w1 ⟨hb1, a1, m1, c1, r1, rfl, ho1, hr1⟩
      rw [HZ.out]
      have HB1 := Lib.hid (((Below.refl w.heap.size w).alloc (Nat.le_refl _) _).trans (hb1.mono (by simp)))
      clear ho1 hb1 hr1
      go_wp2
      go_ret2
      exact ⟨HB1.out.alloc HB1.out.size _, _, 0, 0, [], by rw [HE.out]; rfl, (OwnB.made w1 _ _ [] #[] rfl (Nat.le_refl _) (by simp [maxLen]) (by simp [AllB])).mono HB1.out.size, by rw [HE.out]; rfl⟩
  · have hE : frE k l.length tag.length = payE k l.length := by unfold frE; rw [if_neg hz]
    have d : (payE k l.length != 0) = true := by rw [bne_iff_ne]; exact hz
    have HE := Lib.hid hE
    have HZ := Lib.hid hz
    clear hE hz hc
    go_enter Try.func31, Try.ntmps31
    go_wp2_with fail
    refine (rpayload_any k a _ c l _ (HH.out.below ((Below.refl _ _).alloc (Nat.le_refl _) _)) k0 k1).mono ?_
    rintro e w1 ⟨hb1, a1, m1, c1, r1, rfl, ho1, hr1⟩
    have HB1 := Lib.hid (((Below.refl w.heap.size w).alloc (Nat.le_refl _) _).trans (hb1.mono (by simp)))
    clear ho1 hb1 hr1
    go_wp2
    go_ret2
    exact ⟨HB1.out.alloc HB1.out.size _, _, 0, 0, [], by rw [HE.out]; rfl, (OwnB.made w1 _ _ [] #[] rfl (Nat.le_refl _) (by simp [maxLen]) (by simp [AllB])).mono HB1.out.size, by rw [HE.out, if_neg HZ.out]⟩

/-- What was framed is read, whatever stands ahead and behind. -/
theorem reads_back (k : Int) (l tag ah : List Int) (hl : l.length ≤ 1024) (ht : tag.length = 32) (hk1 : 1 ≤ k) (hk3 : k ≤ 3) :
    rdE (ah ++ frB k l tag ++ ah) ah.length = 0 ∧ ((ah ++ frB k l tag ++ ah).drop ah.length).getD 4 0 = k ∧ sz ((ah ++ frB k l tag ++ ah).drop ah.length) = ((l.length + 1 : Nat) : Int) ∧
    ((ah ++ frB k l tag ++ ah).drop ah.length).drop 5 = l ++ (tag ++ ah) := by
  have hd : (ah ++ frB k l tag ++ ah).drop ah.length = frB k l tag ++ ah := by rw [List.append_assoc, List.drop_left]
  have h1 : (frB k l tag ++ ah).getD 4 0 = k := rfl
  have h2 : sz (frB k l tag ++ ah) = ((l.length + 1 : Nat) : Int) := by
    unfold frB sz four
    simp only [List.cons_append, List.nil_append, List.getD_cons_zero, List.getD_cons_succ]
    omega
  have h3 : (frB k l tag ++ ah).drop 5 = l ++ (tag ++ ah) := by unfold frB; simp
  rw [hd]
  refine ⟨?_, h1, h2, h3⟩
  have hlen : (ah ++ frB k l tag ++ ah).length = ah.length + (l.length + 37) + ah.length := by
    rw [List.length_append, List.length_append, frB_len]; omega
  unfold rdE
  rw [Int.toNat_natCast, hd, h1, h2, hlen, if_neg (by omega), if_neg (by omega), if_neg (by omega), if_neg (by omega), if_neg (by omega), if_pos (by unfold isK; exact decide_eq_true ⟨hk1, hk3⟩)]

theorem frE_zero' {k : Int} {n t : Nat} (h : frE k n t = 0) : n ≤ 1024 ∧ t = 32 ∧ 1 ≤ k ∧ k ≤ 3 := by
  obtain ⟨h1, h2⟩ := frE_zero h
  unfold frE at h
  rcases payE_cases k n with ⟨h3, _, h4⟩ | h3 | h3
  · exact ⟨h1, h2, h4⟩
  · rw [if_neg (by omega)] at h; omega
  · rw [if_neg (by omega)] at h; omega

set_option maxRecDepth 100000 in
set_option maxHeartbeats 3000000 in
theorem law_back (a0 : Option Addr) (n0 c0 : Nat) (ah : List Int) (k : Int) (a : Option Addr) (n c : Nat) (l : List Int) (a' : Option Addr) (n' c' : Nat) (tag : List Int) (w : World) (h0 : Bytes w a0 n0 c0 ah) (hb0 : c0 ≤ 1048576) (h : Bytes w a n c l) (h' : Bytes w a' n' c' tag) (k0 : -9223372036854775808 ≤ k) (k1 : k ≤ 9223372036854775807) :
    Calls Try.prog 7 #[.slice a0 n0 c0, .agg #[.int .i64 k, .slice a n c], .slice a' n' c'] w fun e w' => e = .returned (.bool true) ∧ Below w.heap.size w w' := by
  have hcap := h.cap; have hmost := h.most
  have hcap' := h'.cap; have hmost' := h'.most
  have hcap0 := h0.cap
  have hl := h.len; have hl' := h'.len; have hl0 := h0.len
  subst hl hl' hl0
  have HH := Lib.hid h; have HH' := Lib.hid h'; have HH0 := Lib.hid h0
  clear h h' h0
  have HW : Hid (Below w.heap.size w (w.alloc (.cells #[.int .i64 k, .slice a l.length c] 48))) := (Below.refl _ _).alloc (Nat.le_refl _) _
  by_cases hn : 2000 < l.length
  · go_enter Try.func7, Try.ntmps7
    go_wp2_with fail
    refine (awake_any _).mono ?_
    rintro e w5 ⟨rfl, hb5⟩
    go_wp2
    go_ret
    exact ⟨rfl, HW.out.trans (hb5.mono (by simp))⟩
  · have e0 : (w.alloc (.cells #[.int .i64 k, .slice a l.length c] 48)).cell? ⟨w.heap.size, 0, none⟩ = some (.int .i64 k) := by simp
    have e1 : (w.alloc (.cells #[.int .i64 k, .slice a l.length c] 48)).cell? ⟨w.heap.size, 1, none⟩ = some (.slice a l.length c) := by simp
    have hlt : w.heap.size < (w.alloc (.cells #[.int .i64 k, .slice a l.length c] 48)).heap.size := by simp
    have HE0 := Lib.hid e0; have HE1 := Lib.hid e1; have HLT := Lib.hid hlt
    clear e0 e1 hlt
    go_enter Try.func7, Try.ntmps7
    go_wp2_with fail
    obtain ⟨W, hWdef⟩ : ∃ W, w.alloc (.cells #[.int .i64 k, .slice a l.length c] 48) = W := ⟨_, rfl⟩
    rw [hWdef] at HW HE0 HE1 HLT ⊢
    clear hWdef
    have KE : Hid (∀ V : World, Below W.heap.size W V → V.cell? ⟨w.heap.size, 0, none⟩ = some (.int .i64 k) ∧ V.cell? ⟨w.heap.size, 1, none⟩ = some (.slice a l.length c)) := fun V hV =>
      ⟨by rw [hV.cell (p := ⟨w.heap.size, 0, none⟩) HLT.out]; exact HE0.out, by rw [hV.cell (p := ⟨w.heap.size, 1, none⟩) HLT.out]; exact HE1.out⟩
    have hsW := HW.out.size
    refine (payload_any k a _ c l _ (HH.out.below HW.out) k0 k1).mono ?_
    rintro e w1 ⟨hb1, a1, m1, c1, r1, rfl, ho1, hr1⟩
    have HR1 := Lib.hid hr1; have HO1 := Lib.hid ho1; have HB1 := Lib.hid hb1
    obtain ⟨f0, f1⟩ := KE.out _ hb1
    have hs1 := hb1.size
    clear ho1 hb1 hr1
    go_wp2_with fail
    refine (rpayload_any k a _ c l _ ((HH.out.below HW.out).below HB1.out) k0 k1).mono ?_
    rintro e w2 ⟨hb2, a2, m2, c2, r2, rfl, ho2, hr2⟩
    have HB2 := Lib.hid (HB1.out.trans (hb2.mono hs1))
    have HO1' := Lib.hid (HO1.out.below hb2)
    rw [← HR1.out] at hr2
    subst hr2
    have HO2 := Lib.hid ho2
    clear f0 f1 HO1 HB1
    obtain ⟨f0, f1⟩ := KE.out _ HB2.out
    have hs2 := HB2.out.size
    clear ho2 hb2 hs1
    go_wp2_with fail
    refine (frame_any k a _ c l a' _ c' tag _ ((HH.out.below HW.out).below HB2.out) ((HH'.out.below HW.out).below HB2.out) k0 k1).mono ?_
    rintro e w3 ⟨hb3, a3, m3, c3, r3, rfl, ho3, hr3⟩
    have HB3 := Lib.hid (HB2.out.trans (hb3.mono hs2))
    have HO1 := Lib.hid (HO1'.out.below hb3)
    have HO2' := Lib.hid (HO2.out.below hb3)
    have HO3 := Lib.hid ho3
    have HR3 := Lib.hid hr3
    clear f0 f1 HB2 HO1' HO2
    obtain ⟨f0, f1⟩ := KE.out _ HB3.out
    have hs3 := HB3.out.size
    clear ho3 hb3 hs2 hr3
    go_wp2_with fail
    refine (rframe_any k a _ c l a' _ c' tag _ ((HH.out.below HW.out).below HB3.out) ((HH'.out.below HW.out).below HB3.out) k0 k1).mono ?_
    rintro e w4 ⟨hb4, a4, m4, c4, r4, rfl, ho4, hr4⟩
    have HB4 := Lib.hid (HB3.out.trans (hb4.mono hs3))
    have HO1' := Lib.hid (HO1.out.below hb4)
    have HO2 := Lib.hid (HO2'.out.below hb4)
    have HO3' := Lib.hid (HO3.out.below hb4)
    rw [← HR3.out] at hr4
    subst hr4
    have HO4 := Lib.hid ho4
    clear f0 f1 HB3 HO1 HO2' HO3
    have hs4 := HB4.out.size
    clear ho4 hb4 hs3
    obtain ⟨EP, hEP⟩ : ∃ E, payE k l.length = E := ⟨_, rfl⟩
    rw [hEP]
    have HEP := Lib.hid hEP; clear hEP
    obtain ⟨E, hE⟩ : ∃ E, frE k l.length tag.length = E := ⟨_, rfl⟩
    rw [hE] at HR3 ⊢
    have HE := Lib.hid hE; clear hE
    go_wp2_with fail
    refine (rsame_any _ _ _ r2 _ _ _ r2 _ HO1'.out.bytes HO2.out.bytes).mono ?_
    rintro e w5 ⟨rfl, m5, rfl⟩
    rw [beq_self_eq_true]
    go_wp2_with fail
    refine (rsame_any _ _ _ r4 _ _ _ r4 _ (HO3'.out.bytes.drewN m5) (HO4.out.bytes.drewN m5)).mono ?_
    rintro e w5 ⟨rfl, m6, rfl⟩
    rw [beq_self_eq_true]
    have HB6 := Lib.hid (below_drewN (below_drewN HB4.out m5) m6)
    have HO3 := Lib.hid ((HO3'.out.drewN m5).drewN m6)
    generalize (w4.drewN m5).drewN m6 = w6 at HB6 HO3 ⊢
    clear HB4 HO3' HO4 HO1' HO2
    by_cases hz : E = 0
    · subst hz
      obtain ⟨x1, x2, x3, x4⟩ := frE_zero' HE.out
      have hr := HR3.out
      rw [if_pos rfl] at hr
      subst hr
      have hm3 : m3 = l.length + 37 := by have := HO3.out.len; rw [frB_len] at this; omega
      subst hm3
      obtain ⟨g1, g2, g3, g4⟩ := reads_back k l tag ah x1 x2 x3 x4
      have G1 := Lib.hid g1; have G2 := Lib.hid g2; have G3 := Lib.hid g3; have G4 := Lib.hid g4; have X2 := Lib.hid x2
      clear g1 g2 g3 g4 x2
      have HA0 := Lib.hid ((HH0.out.below HW.out).below HB6.out)
      have HM : Hid (OwnB (w6.alloc (.cells #[] 5)) w6.heap.size 5 (some ⟨w6.heap.size, 0, none⟩) 0 0 []) :=
        OwnB.made w6 _ _ [] #[] rfl (Nat.le_refl _) (by simp [maxLen]) (by simp [AllB])
      have HWm : Hid (Below w6.heap.size w6 (w6.alloc (.cells #[] 5))) := (Below.refl _ _).alloc (Nat.le_refl _) _
      have n1 : 0 + ah.length ≤ 140737488355328 := by omega
      have n2 : ah.length + (l.length + 37) ≤ 140737488355328 := by omega
      have n3 : ah.length + (l.length + 37) + ah.length ≤ 140737488355328 := by omega
      go_wp2_with (at_builtin; with_reducible refine wpList_append_b byteT rfl (.tmp 70) (.tmp 71) rfl w6.heap.size rfl HM.out rfl (HA0.out.below HWm.out) n1 HWm.out.size ?_)
      intro a7 c7 w7 ho7 hb7 _
      have HO7 : Hid (OwnB w7 w6.heap.size 5 a7 ah.length c7 ah) := ho7
      have HB7 := Lib.hid (HWm.out.trans hb7)
      clear ho7 hb7
      go_wp2_with (at_builtin; with_reducible refine wpList_append_b byteT rfl (.tmp 72) (.tmp 73) rfl w6.heap.size rfl HO7.out rfl (HO3.out.bytes.below HB7.out) n2 HB7.out.size ?_)
      intro a8 c8 w8 ho8 hb8 _
      have HO8 := Lib.hid ho8; have HB8 := Lib.hid (HB7.out.trans hb8)
      clear ho8 hb8
      go_wp2_with (at_builtin; with_reducible refine wpList_append_b byteT rfl (.tmp 74) (.tmp 75) rfl w6.heap.size rfl HO8.out rfl (HA0.out.below HB8.out) n3 HB8.out.size ?_)
      intro a9 c9 w9 ho9 hb9 _
      have HO9 : Hid (OwnB w9 w6.heap.size 5 a9 (ah.length + (l.length + 37) + ah.length) c9 (ah ++ frB k l tag ++ ah)) := by rw [← List.append_assoc] at ho9; exact ho9
      have HB9' := Lib.hid (HB8.out.trans hb9)
      have HB9 := Lib.hid (HB6.out.trans ((HB8.out.trans hb9).mono HB6.out.size))
      clear ho9 hb9
      have hs9 := HB9.out.size
      have hm9 := HO9.out.bytes.cap; have hm9' := HO9.out.bytes.most
      go_wp2_with fail
      refine (read_any a9 _ c9 (ah ++ frB k l tag ++ ah) _ _ HO9.out.bytes (by omega) (by omega) (by omega)).mono ?_
      rintro e w10 ⟨hb10, k', to', a10, a11, n10, c10, n11, c11, body', tag', rfl, ho10, ho11, hne', heq'⟩
      obtain ⟨y1, y2, y3, y4⟩ := heq' G1.out
      rw [Int.toNat_natCast] at y1 y2 y3 y4
      rw [G3.out] at y2 y3 y4
      rw [Int.toNat_natCast] at y2 y3
      rw [G2.out] at y1
      rw [show l.length + 1 - 1 = l.length by omega, G4.out, List.take_left] at y2
      rw [show 4 + (l.length + 1) = 5 + l.length by omega, ← List.drop_drop, G4.out, List.drop_left, ← X2.out, List.take_left] at y3
      obtain rfl : k = k' := y1.symm
      obtain rfl : l = body' := y2.symm
      obtain rfl : tag = tag' := y3.symm
      rw [G1.out]
      have HB10 := Lib.hid (HB9.out.trans (hb10.mono hs9))
      have hs10 := HB10.out.size
      have HO10 := Lib.hid ho10; have HO11 := Lib.hid ho11
      have hty : to' = (ah.length : Int) + ((l.length : Int) + 37) := by omega
      have HTO := Lib.hid hty
      clear hne' heq' hb10 ho10 ho11 y4 hty y1 y2 y3
      obtain ⟨f0, f1⟩ := KE.out _ HB10.out
      have HWu : Hid (Below w10.heap.size w10 (w10.alloc (.cells #[.int .i64 k, .slice a10 n10 c10] 48))) := (Below.refl _ _).alloc (Nat.le_refl _) _
      have hlt10 : w.heap.size < w10.heap.size := World.block_lt_of_cell? w10 _ f0
      have u0 : (w10.alloc (.cells #[.int .i64 k, .slice a10 n10 c10] 48)).cell? ⟨w.heap.size, 0, none⟩ = some (.int .i64 k) := by rw [HWu.out.cell (p := ⟨w.heap.size, 0, none⟩) hlt10]; exact f0
      have u1 : (w10.alloc (.cells #[.int .i64 k, .slice a10 n10 c10] 48)).cell? ⟨w.heap.size, 1, none⟩ = some (.slice a l.length c) := by rw [HWu.out.cell (p := ⟨w.heap.size, 1, none⟩) hlt10]; exact f1
      go_wp2_with fail
      refine (same_eq k _ n10 c10 _ _ c l _ (HO10.out.bytes.below HWu.out) (((HH.out.below HW.out).below HB10.out).below HWu.out)).mono ?_
      rintro e w11 ⟨rfl, hb11⟩
      have HB11 := Lib.hid (HWu.out.trans (hb11.mono (by simp)))
      clear hb11 u0 u1
      go_wp2_with fail
      refine (rsame_any _ _ _ tag _ _ _ tag _ (HO11.out.bytes.below HB11.out) (((HH'.out.below HW.out).below HB10.out).below HB11.out)).mono ?_
      rintro e w12 ⟨rfl, m12, rfl⟩
      rw [beq_self_eq_true]
      have HB12 := Lib.hid (below_drewN (HW.out.trans ((HB10.out.trans (HB11.out.mono hs10)).mono hsW)) m12)
      rw [HTO.out]
      go_wp2_with fail
      refine (awake_any _).mono ?_
      rintro e w13 ⟨rfl, hb13⟩
      go_wp2
      go_ret
      exact ⟨rfl, HB12.out.trans (hb13.mono HB12.out.size)⟩
    · have d : (E != 0) = true := by rw [bne_iff_ne]; exact hz
      clear hz
      go_wp2_with fail
      refine (awake_any _).mono ?_
      rintro e w7 ⟨rfl, hb7⟩
      go_wp2
      go_ret
      exact ⟨rfl, HW.out.trans ((HB6.out.trans (hb7.mono HB6.out.size)).mono hsW)⟩
set_option maxRecDepth 100000 in
theorem open_ent2 {H : Type} {enc : TypeId × Value → H} {w : World} {r : Reach} {b0 : Nat} {v : Value} {d : DataW H} {p : List MemPlace}
    (hv : Value.okWide Try.prog w r b0 48 v) (h : DataW.Trod enc Try.prog w 0 (fun _ => true) true 48 v d p) : ∃ x : Ent, v = x.val ∧ x.Rd w ∧ True := by
  obtain ⟨x, h1, h2⟩ := open_ent hv h
  exact ⟨x, h1, h2, trivial⟩
end Go.Proofs.Ytcncfljpbbpaoaa.en
