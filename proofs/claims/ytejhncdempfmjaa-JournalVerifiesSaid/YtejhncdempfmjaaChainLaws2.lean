/-
  Layer 47: the walks of the statements on what is built, and on logs with one tag.
-/
import Derived.Test.YtejhncdempfmjaaChainLaws
import Derived.Test.YtejhncdempfmjaaChainRBuild
namespace Go.Proofs.Ytejhncdempfmjaa.ch
open Go.ChangeShapes Go.WideShapes Go.ChangeAt Go.RowKit
open bs en
open Go.Proofs.Ytejhncdempfmjaa.sh (tagB ptag_any rtag_any shaSum_len)
set_option linter.unusedVariables false

theorem u64_bd {z : Int} (h : (Lit.int .u64 z).wf = true) : 0 ≤ z ∧ z ≤ 18446744073709551615 := by
  simpa [Lit.wf, IntKind.min, IntKind.max, IntKind.signed, IntKind.bits] using h
/-- What the log of entries is made of. -/
def fB (key : List Int) (L : List Ent) (i : Nat) : Fm := ⟨(en L i).k, (en L i).l, tg key L (i + 1)⟩
theorem lg_eq (key : List Int) (L : List Ent) (n : Nat) : lg key L n = lgF (fB key L) n := by
  induction n with
  | zero => rfl
  | succ n ih => rw [lg, lgF, ih]; rfl
theorem tg_len (key : List Int) (L : List Ent) (n : Nat) : (tg key L n).length = 32 := by
  cases n with
  | zero => exact zt_len
  | succ n => rw [tg]; unfold tagB; exact shaSum_len _
theorem bE_zero {L : List Ent} {n i : Nat} (h : bE L n = 0) (hi : i < n) : payE (en L i).k (en L i).l.length = 0 := by
  have h1 : bE L (i + 1) = 0 := by
    by_cases h2 : bE L (i + 1) = 0
    · exact h2
    · have := bE_stay L (i + 1) n hi h2
      omega
  have h0 : bE L i = 0 := by
    by_cases h2 : bE L i = 0
    · exact h2
    · have := bE_stay L i n (by omega) h2
      omega
  rw [bE, if_pos h0] at h1
  exact h1
theorem pay_fit {k : Int} {l t : List Int} (h : payE k l.length = 0) (ht : t.length = 32) : Fit ⟨k, l, t⟩ := by
  rcases payE_cases k l.length with ⟨_, h1, h2⟩ | h1 | h1
  · exact ⟨h1, ht, h2.1, h2.2⟩
  · omega
  · omega
theorem fB_fit {key : List Int} {L : List Ent} {n : Nat} (h : bE L n = 0) : ∀ i, i < n → Fit (fB key L i) := fun i hi => pay_fit (bE_zero h hi) (tg_len key L _)
theorem ahd_fB (key : List Int) (L : List Ent) (i : Nat) : ahd (fB key L) i = tg key L i := by
  cases i with
  | zero => rfl
  | succ i => rfl
theorem ahd_congr {f g : Nat → Fm} {n i : Nat} (h : ∀ i, i < n → f i = g i) (hi : i ≤ n) : ahd f i = ahd g i := by
  unfold ahd
  by_cases h0 : i = 0
  · rw [if_pos h0, if_pos h0]
  · rw [if_neg h0, if_neg h0, h (i - 1) (by omega)]
theorem mgF_congr {f g : Nat → Fm} {n i : Nat} (h : ∀ i, i < n → f i = g i) (hi : i < n) : mgF f i = mgF g i := by
  unfold mgF
  rw [ahd_congr h (Nat.le_of_lt hi), h i hi]
/-- What is built is right. -/
theorem built_right {key : List Int} {L : List Ent} {n : Nat} (h : bE L n = 0) : EntE key (lg key L n) n 0 := by
  have hf := fB_fit (key := key) h
  rw [lg_eq]
  have he := lgF_ends (fB key L) n hf
  have hc : ∀ i, i < n → fm (lgF (fB key L) n) i = fB key L i := fun i hi => (lgF_frame _ n hf i hi).2.1
  refine ⟨he.1, fun i hi => ?_, .inl ?_⟩
  · unfold Good
    rw [mgF_congr hc hi, hc i hi]
    show tg key L (i + 1) = _
    rw [tg, mgF, ahd_fB]
    rfl
  · rcases he.2 with h1 | ⟨_, _, h3⟩
    · exact h1
    · exact absurd rfl h3
theorem lg_len {key : List Int} {L : List Ent} {n : Nat} (h : bE L n = 0) : (lg key L n).length ≤ 1061 * n := by
  induction n with
  | zero => exact Nat.zero_le _
  | succ n ih =>
    have h0 : bE L n = 0 := by
      by_cases h2 : bE L n = 0
      · exact h2
      · have := bE_stay L n (n + 1) (by omega) h2
        omega
    have h1 := bE_zero h (Nat.lt_succ_self n)
    have h2 : (en L n).l.length ≤ 1024 := (pay_fit (t := zt) h1 zt_len).1
    have := ih h0
    rw [lg, List.length_append, frB_len, tg_len]
    omega

set_option maxRecDepth 100000 in
set_option maxHeartbeats 4000000 in
theorem law_builds (a0 : Option Addr) (n0 c0 : Nat) (key : List Int) (a : Option Addr) (n c : Nat) (L : List Ent) (N : Int) (w : World) (h0 : Bytes w a0 n0 c0 key) (h : Recs 2 EntAt w a n c L) (N0 : 0 ≤ N) (N1 : N ≤ 18446744073709551615) :
    Calls Try.prog 3 #[.slice a0 n0 c0, .slice a n c, .int .u64 N] w fun e w' => e = .returned (.bool true) ∧ Below w.heap.size w w' := by
  have hcap := h.cap; have hmost := h.most; have hcap0 := h0.cap; have hmost0 := h0.most
  have H0 := Lib.hid h0; have H := Lib.hid h; have HLN := Lib.hid h.len
  have HN0 := Lib.hid N0; have HN1 := Lib.hid N1
  clear h0 h N0 N1
  go_enter Try.func3, Try.ntmps3
  go_wp2_with fail
  refine (large_any a n c L _ H.out).mono ?_
  rintro e w1 ⟨bb, rfl, rfl, hbb⟩
  cases bb with
  | true =>
    clear hbb
    go_wp2_with fail
    refine (awake_any _).mono ?_
    rintro e w1 ⟨rfl, hb1⟩
    go_wp2
    go_ret
    exact ⟨rfl, hb1⟩
  | false =>
    have hn : n ≤ 20 := hbb rfl
    clear hbb
    by_cases hk : 200 < n0
    · go_wp2_with fail
      refine (awake_any _).mono ?_
      rintro e w1 ⟨rfl, hb1⟩
      go_wp2
      go_ret
      exact ⟨rfl, hb1⟩
    · go_wp2_with fail
      refine (build_any a0 n0 c0 key a n c L _ H0.out H.out (by omega) (by omega)).mono ?_
      rintro e w1 ⟨hb1, a1, m1, c1, r1, a2, m2, c2, t2, rfl, ho1, ho2, hr1, ht2⟩
      have HB1 := Lib.hid hb1; have HO1 := Lib.hid ho1.bytes; have HO2 := Lib.hid ho2.bytes; have HR1 := Lib.hid hr1; have HT2 := Lib.hid ht2
      clear hb1 ho1 ho2 hr1 ht2
      go_wp2_with fail
      refine (rbuild_any a0 n0 c0 key a n c L _ (H0.out.below HB1.out) (H.out.below entStays HB1.out) (by omega) (by omega)).mono ?_
      rintro e w2 ⟨hb2, a3, m3, c3, r3, a4, m4, c4, t4, rfl, ho3, ho4, hr3, ht4⟩
      obtain rfl : r1 = r3 := by rw [HR1.out, hr3]
      obtain rfl : t2 = t4 := by rw [HT2.out, ht4]
      have HB2 := Lib.hid (HB1.out.trans (hb2.mono HB1.out.size)); have HO12 := Lib.hid (HO1.out.below hb2); have HO22 := Lib.hid (HO2.out.below hb2); have HO3 := Lib.hid ho3.bytes; have HO4 := Lib.hid ho4.bytes
      clear hb2 ho3 ho4 hr3 ht4
      obtain ⟨E, hE⟩ : ∃ E, bE L L.length = E := ⟨_, rfl⟩
      rw [hE]
      have HE := Lib.hid hE
      clear hE
      have dn : (E != E) = false := by simp
      go_wp2_with fail
      refine (rsame_any _ _ _ r1 _ _ _ r1 _ HO12.out HO3.out).mono ?_
      rintro e w3 ⟨rfl, m5, rfl⟩
      rw [beq_self_eq_true]
      go_wp2_with fail
      refine (rsame_any _ _ _ t2 _ _ _ t2 _ (HO22.out.drewN m5) (HO4.out.drewN m5)).mono ?_
      rintro e w4 ⟨rfl, m6, rfl⟩
      rw [beq_self_eq_true]
      have HB4 := Lib.hid (below_drewN (below_drewN HB2.out m5) m6)
      have HO14 := Lib.hid ((HO12.out.drewN m5).drewN m6); have HO24 := Lib.hid ((HO22.out.drewN m5).drewN m6)
      generalize (w2.drewN m5).drewN m6 = w4 at *
      clear dn
      go_wp2_with fail
      refine (first_any _).mono ?_
      rintro e w5 ⟨a5, c5, rfl, ho5, hb5⟩
      have HB5 := Lib.hid (HB4.out.trans (hb5.mono HB4.out.size)); have HO5 := Lib.hid ho5.bytes; have HO15 := Lib.hid (HO14.out.below hb5); have HO25 := Lib.hid (HO24.out.below hb5)
      clear ho5 hb5
      go_wp2_with fail
      refine (rfirst_any _).mono ?_
      rintro e w6 ⟨a6, c6, rfl, ho6, hb6⟩
      have HB6 := Lib.hid (HB5.out.trans (hb6.mono HB5.out.size)); have HO6 := Lib.hid ho6.bytes; have HO56 := Lib.hid (HO5.out.below hb6); have HO16 := Lib.hid (HO15.out.below hb6); have HO26 := Lib.hid (HO25.out.below hb6)
      clear ho6 hb6
      go_wp2_with fail
      refine (rsame_any _ _ _ zt _ _ _ zt _ HO56.out HO6.out).mono ?_
      rintro e w7 ⟨rfl, m7, rfl⟩
      rw [beq_self_eq_true]
      have HB7 := Lib.hid (below_drewN HB6.out m7); have HO17 := Lib.hid (HO16.out.drewN m7); have HO27 := Lib.hid (HO26.out.drewN m7)
      generalize w6.drewN m7 = w7 at *
      have hrest : ∀ W : World, Below w7.heap.size w7 W → Hid (Below w.heap.size w W) ∧ Hid (Bytes W a1 m1 c1 r1) ∧ Hid (Bytes W a2 m2 c2 t2) := fun W hW => ⟨Lib.hid (HB7.out.trans (hW.mono HB7.out.size)), Lib.hid (HO17.out.below hW), Lib.hid (HO27.out.below hW)⟩
      have HREST := Lib.hid hrest
      clear hrest
      have hw11 : ∃ w11, w11 = w7 := ⟨_, rfl⟩
      by_cases hpos : 0 < n
      case' pos =>
        clear hw11
        obtain ⟨x, hx⟩ : ∃ x, L[0]? = some x := ⟨L[0]'(by have := HLN.out; omega), List.getElem?_eq_getElem _⟩
        obtain ⟨b, off, hab, hbl, hcell⟩ := (H.out.below entStays HB7.out).at'.resolve_left (by omega)
        have hc := hcell 0 x hx
        rw [Nat.zero_mul, Nat.add_zero] at hc
        obtain ⟨xk, xa, xn, xc, xl⟩ := x
        have HRD := Lib.hid hc.rd
        have hKeep : ∀ V : World, Below w7.heap.size w7 V → V.cell? ⟨b, off, none⟩ = some (.int .i64 xk) ∧ V.cell? ⟨b, off + 1, none⟩ = some (.slice xa xn xc) := fun V hV => by
          refine ⟨?_, ?_⟩
          · rw [hV.cell (p := ⟨b, off, none⟩) hbl]; exact hc.c0
          · rw [hV.cell (p := ⟨b, off + 1, none⟩) hbl]; exact hc.c1
        have Keep := Lib.hid hKeep
        clear hc hcell hx hKeep
        subst hab
        have z3 : (0 : Int) < (n : Int) := by omega
        go_wp2_with fail
        go_region_held3 (fun V => V.cell? ⟨b, off, none⟩ = some (.int .i64 xk) ∧ V.cell? ⟨b, off + 1, none⟩ = some (.slice xa xn xc))
          (first | exact Keep.out _ (Below.refl _ _) | exact Keep.out _ (Below.drew (Below.refl _ _)) | exact Keep.out _ hS9 | exact Keep.out _ hS8)
          (first
            | (go_at_call 18; refine (rfirst_any _).mono ?_; rintro e w8 ⟨a8, c8, rfl, ho8, hb8⟩; have hS8 : Below w7.heap.size w7 w8 := (Below.drew (Below.refl _ _)).trans hb8; have HO8 := Lib.hid ho8.bytes; clear ho8 hb8)
            | (go_at_call 19; refine (message_any a8 32 c8 zt N xk xa xn xc xl _ (Hid.out HO8) (HRD.out.2.below hS8) HRD.out.1.1 HRD.out.1.2 HN0.out HN1.out).mono ?_; rintro e w9 ⟨hb9, a9, m9, c9, r9, rfl, ho9, hr9⟩; have hS9 : Below w7.heap.size w7 w9 := hS8.trans (hb9.mono hS8.size); have HO9 := Lib.hid ho9.bytes; have HR9 := Lib.hid hr9; clear ho9 hr9 hb9))
        have HB9 := Lib.hid hS9
        clear hS9 hS8 HO8
        have hKeep : ∀ V : World, Below w9.heap.size w9 V → V.cell? ⟨b, off, none⟩ = some (.int .i64 xk) ∧ V.cell? ⟨b, off + 1, none⟩ = some (.slice xa xn xc) := fun V hV => Keep.out _ (HB9.out.trans (hV.mono HB9.out.size))
        have Keep9 := Lib.hid hKeep
        clear hKeep
        obtain ⟨E9, hE9⟩ : ∃ E9, msE zt.length xk xl.length = E9 := ⟨_, rfl⟩
        rw [hE9]
        have HE9 := Lib.hid hE9
        clear hE9
        have HRD9 := Lib.hid (HRD.out.2.below HB9.out)
        go_wp2_with fail
        go_region_held3 (fun V => V.cell? ⟨b, off, none⟩ = some (.int .i64 xk) ∧ V.cell? ⟨b, off + 1, none⟩ = some (.slice xa xn xc))
          (first | exact Keep9.out _ (Below.refl _ _) | exact Keep9.out _ (Below.drew (Below.refl _ _)) | exact Keep9.out _ hS9 | exact Keep9.out _ hS8)
          (first
            | (go_at_call 18; refine (rfirst_any _).mono ?_; rintro e w8 ⟨a8, c8, rfl, ho8, hb8⟩; have hS8 : Below w9.heap.size w9 w8 := (Below.drew (Below.refl _ _)).trans hb8; have HO8 := Lib.hid ho8.bytes; clear ho8 hb8)
            | (go_at_call 20; refine (rmessage_any a8 32 c8 zt N xk xa xn xc xl _ (Hid.out HO8) (HRD9.out.below hS8) HRD.out.1.1 HRD.out.1.2 HN0.out HN1.out).mono ?_; rintro e w10 ⟨hb10, a10, m10, c10, r10, rfl, ho10, hr10⟩; have hS9 : Below w9.heap.size w9 w10 := hS8.trans (hb10.mono hS8.size); have HO10 := Lib.hid ho10.bytes; have HR10 := Lib.hid hr10; clear ho10 hr10 hb10))
        obtain rfl : r9 = r10 := by rw [HR9.out, HR10.out]
        have HO9' := Lib.hid (HO9.out.below hS9)
        have HB10 := Lib.hid (HB9.out.trans (hS9.mono HB9.out.size))
        clear hS9 hS8 HO8
        rw [HE9.out]
        have dn : (E9 != E9) = false := by simp
        go_wp2_with fail
        refine (rsame_any _ _ _ r9 _ _ _ r9 _ HO9'.out HO10.out).mono ?_
        rintro e w12 ⟨rfl, m12, rfl⟩
        rw [beq_self_eq_true]
        have hB12 : Below w7.heap.size w7 (w10.drewN m12) := below_drewN HB10.out m12
        generalize w10.drewN m12 = w11 at *
        obtain ⟨HB11, HO111, HO211⟩ := HREST.out _ hB12
        clear hB12 dn z3
      case' neg =>
        obtain ⟨w11, hw11⟩ := hw11
        rw [← hw11]
        obtain ⟨HB11, HO111, HO211⟩ := HREST.out w11 (by rw [hw11]; exact Below.refl _ _)
        clear hw11
      all_goals
        by_cases hE : E = 0
        · subst hE
          have hr1 : r1 = lg key L n := by rw [HR1.out, HE.out, if_pos rfl, HLN.out]
          have ht2 : t2 = tg key L n := by rw [HT2.out, HE.out, if_pos rfl, HLN.out]
          have hbn : bE L n = 0 := by rw [← HLN.out]; exact HE.out
          have hee := built_right (key := key) hbn
          rw [← hr1] at hee
          have HEE := Lib.hid hee
          have hfm : ∀ i, i < n → fm r1 i = fB key L i := fun i hi => by rw [hr1, lg_eq]; exact (lgF_frame _ n (fB_fit hbn) i hi).2.1
          have hah : ahd (fm r1) n = t2 := by rw [ahd_congr hfm (Nat.le_refl _), ahd_fB, ht2]
          have hmn : m1 ≤ 100000 := by
            have h1 := HO111.out.len
            have h2 := lg_len (key := key) hbn
            rw [hr1] at h1
            omega
          have HFM := Lib.hid hfm; have HAH := Lib.hid hah
          clear hr1 ht2 hbn hee hfm hah
          go_wp2_with fail
          refine (entries_any a0 n0 c0 key a1 m1 c1 r1 _ (H0.out.below HB11.out) HO111.out (by omega) hmn).mono ?_
          rintro e w13 ⟨hb13, m, E, L2, al, cl, ax, nx, cx, t, hE, rfl, hL, hO, hD, hT, hz, hnz⟩
          obtain ⟨rfl, rfl⟩ := HEE.out.uniq hE
          obtain ⟨hl2, rfl⟩ := hz rfl
          rw [hl2] at hL ⊢
          have hal : Alk (L2.map Fw.e) L := fun i x y hx hy => by
            rw [List.getElem?_map] at hx
            obtain ⟨u, hu, rfl⟩ := Option.map_eq_some_iff.1 hx
            have h1 := hD i u hu
            have hi : i < n := by rw [← HLN.out]; exact (List.getElem?_eq_some_iff.1 hy).1
            have hen : en L i = y := by unfold en; rw [List.getD_eq_getElem?_getD, hy]; rfl
            have h2 := HFM.out i hi
            exact ⟨by rw [h1.k, h2, ← hen]; rfl, by rw [h1.b, h2, ← hen]; rfl⟩
          have HAL := Lib.hid hal
          have HRL := Lib.hid (recs_map (own_ent hL hO))
          have HB13 := Lib.hid (HB11.out.trans (hb13.mono HB11.out.size)); have HO113 := Lib.hid (HO111.out.below hb13); have HO213 := Lib.hid (HO211.out.below hb13)
          have HT13 : Hid (Bytes w13 ax nx cx t2) := Lib.hid (by rw [← HAH.out]; exact hT.bytes)
          clear hb13 hE hL hO hD hT hz hnz hal hl2
          go_wp2_with fail
          refine (alike_eq _ _ _ _ _ _ _ _ HRL.out (H.out.below entStays HB13.out) HAL.out).mono ?_
          rintro e w14 ⟨rfl, hb14⟩
          have HB14 := Lib.hid (HB13.out.trans (hb14.mono HB13.out.size)); have HO114 := Lib.hid (HO113.out.below hb14); have HO214 := Lib.hid (HO213.out.below hb14); have HT14 := Lib.hid (HT13.out.below hb14)
          clear hb14
          go_wp2_with fail
          refine (rsame_any _ _ _ t2 _ _ _ t2 _ HT14.out HO214.out).mono ?_
          rintro e w15 ⟨rfl, m15, rfl⟩
          rw [beq_self_eq_true]
          have HB15 := Lib.hid (below_drewN HB14.out m15); have HO115 := Lib.hid (HO114.out.drewN m15); have HO215 := Lib.hid (HO214.out.drewN m15)
          generalize w14.drewN m15 = w15 at *
          go_wp2_with fail
          refine (verify_any a0 n0 c0 key a1 m1 c1 r1 (n : Int) a2 m2 c2 t2 _ (H0.out.below HB15.out) HO115.out HO215.out (by omega) hmn).mono ?_
          rintro e w16 ⟨hb16, m16, E16, hE16, rfl⟩
          obtain ⟨rfl, rfl⟩ := HEE.out.uniq hE16
          have hv : vf key r1 n 0 (n : Int) t2 = true := by unfold vf; rw [decide_eq_true_iff]; exact ⟨rfl, rfl, HAH.out⟩
          rw [hv]
          have HB16 := Lib.hid (HB15.out.trans (hb16.mono HB15.out.size))
          clear hb16 hE16 hv
          go_wp2_with fail
          refine (awake_any _).mono ?_
          rintro e w17 ⟨rfl, hb17⟩
          go_wp2
          go_ret
          exact ⟨rfl, HB16.out.trans (hb17.mono HB16.out.size)⟩
        · have d : (E != 0) = true := by rw [bne_iff_ne]; exact hE
          clear hE
          go_wp2_with fail
          refine (awake_any _).mono ?_
          rintro e w13 ⟨rfl, hb13⟩
          go_wp2
          go_ret
          exact ⟨rfl, HB11.out.trans (hb13.mono HB11.out.size)⟩

end Go.Proofs.Ytejhncdempfmjaa.ch
