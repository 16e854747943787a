/-
  Layer 47: the walks of the statements on what is read, and on clashes.
-/
import Derived.Test.YtejhncdempfmjaaChainCl2
namespace Go.Proofs.Ytejhncdempfmjaa.ch
open Go.ChangeShapes Go.WideShapes Go.ChangeAt Go.RowKit
open bs en
open Go.Proofs.Ytejhncdempfmjaa.sh (tagB ptag_any rtag_any)
set_option linter.unusedVariables false

set_option maxRecDepth 100000 in
set_option maxHeartbeats 2000000 in
theorem awake_any (w : World) : Calls Try.prog 13 #[] w fun e w' => e = .returned (.bool true) ∧ Below w.heap.size w w' := by
  go_enter Try.func13, Try.ntmps13
  go_wp2_with fail
  refine (rfirst_any _).mono ?_
  rintro e w1 ⟨a1, c1, rfl, ho1, hb1⟩
  have HO1 := Lib.hid ho1.bytes; have HB1 := Lib.hid hb1
  clear ho1 hb1
  go_wp2_with fail
  refine (vnil_any _ a1 c1 HO1.out).mono ?_
  rintro e w2 ⟨rfl, hb2⟩
  have HB2 := Lib.hid (HB1.out.trans (hb2.mono HB1.out.size))
  clear hb2
  go_wp2_with fail
  refine (first_any _).mono ?_
  rintro e w3 ⟨a3, c3, rfl, ho3, hb3⟩
  have HB3 := Lib.hid (HB2.out.trans (hb3.mono HB2.out.size))
  clear hb3 ho3
  go_wp2
  go_ret
  exact ⟨rfl, HB3.out⟩

theorem told_alk {f : Nat → Fm} {L L' : List Fw} (h : Told L f) (h' : Told L' f) : Alk (L.map Fw.e) (L'.map Fw.e) := fun i x y hx hy => by
  rw [List.getElem?_map] at hx hy
  obtain ⟨u, hu, rfl⟩ := Option.map_eq_some_iff.1 hx
  obtain ⟨v, hv, rfl⟩ := Option.map_eq_some_iff.1 hy
  have h1 := h i u hu; have h2 := h' i v hv
  exact ⟨by rw [h1.k, h2.k], by rw [h1.b, h2.b]⟩

set_option maxRecDepth 100000 in
set_option maxHeartbeats 2000000 in
theorem law_reads (a0 : Option Addr) (n0 c0 : Nat) (key : List Int) (a : Option Addr) (n c : Nat) (l : List Int) (a' : Option Addr) (n' c' : Nat) (tag : List Int) (w : World) (h0 : Bytes w a0 n0 c0 key) (h : Bytes w a n c l) (h' : Bytes w a' n' c' tag) :
    Calls Try.prog 4 #[.slice a0 n0 c0, .slice a n c, .slice a' n' c'] w fun e w' => e = .returned (.bool true) ∧ Below w.heap.size w w' := by
  have hcap := h.cap; have hmost := h.most; have hcap0 := h0.cap; have hmost0 := h0.most
  have H0 := Lib.hid h0; have H := Lib.hid h; have H' := Lib.hid h'
  clear h0 h h'
  by_cases hk : 200 < n0
  · go_enter Try.func4, Try.ntmps4
    go_wp2_with fail
    refine (awake_any _).mono ?_
    rintro e w1 ⟨rfl, hb1⟩
    go_wp2
    go_ret
    exact ⟨rfl, hb1⟩
  · by_cases hn : 3000 < n
    · go_enter Try.func4, Try.ntmps4
      go_wp2_with fail
      refine (awake_any _).mono ?_
      rintro e w1 ⟨rfl, hb1⟩
      go_wp2
      go_ret
      exact ⟨rfl, hb1⟩
    · go_enter Try.func4, Try.ntmps4
      go_wp2_with fail
      refine (entries_any a0 n0 c0 key a n c l _ H0.out H.out (by omega) (by omega)).mono ?_
      rintro e w1 ⟨hb1, m, E, L, al, cl, ax, nx, cx, t, hE, rfl, hL, hO, hD, hT, hz, hnz⟩
      have HB1 := Lib.hid hb1; have HE := Lib.hid hE; have HT := Lib.hid hT; have HZ := Lib.hid hz; have HNZ := Lib.hid hnz; have HL := Lib.hid hL; have HO := Lib.hid hO; have HD := Lib.hid hD
      clear hb1 hE hL hO hD hT hz hnz
      go_wp2_with fail
      refine (rentries_any a0 n0 c0 key a n c l _ (H0.out.below HB1.out) (H.out.below HB1.out) (by omega) (by omega)).mono ?_
      rintro e w2 ⟨hb2, m', E', L', al', cl', ax', nx', cx', t', hE', rfl, hL', hO', hD', hT', hz', hnz'⟩
      obtain ⟨rfl, rfl⟩ := HE.out.uniq hE'
      have hlen : L.length = L'.length ∧ t = t' := by
        by_cases h0 : E = 0
        · exact ⟨by rw [(HZ.out h0).1, (hz' h0).1], by rw [(HZ.out h0).2, (hz' h0).2]⟩
        · exact ⟨by rw [(HNZ.out h0).1, (hnz' h0).1], by rw [(HNZ.out h0).2, (hnz' h0).2]⟩
      obtain ⟨hlen, rfl⟩ := hlen
      rw [← hlen] at hL' ⊢
      have HL2 := Lib.hid (recs_map (own_ent (HL.out.below hb2) (fun x hx => (HO.out x hx).below hb2)))
      have HL2' := Lib.hid (recs_map (own_ent hL' hO'))
      have HAK := Lib.hid (told_alk HD.out hD')
      have HT2 := Lib.hid (HT.out.bytes.below hb2); have HT2' := Lib.hid hT'.bytes
      have HB2 := Lib.hid (HB1.out.trans (hb2.mono HB1.out.size))
      clear hb2 hE' hL' hO' hD' hT' hz' hnz' hlen
      have dn : (E != E) = false := by simp
      go_wp2_with fail
      refine (alike_eq _ _ _ _ _ _ _ _ HL2.out HL2'.out HAK.out).mono ?_
      rintro e w3 ⟨rfl, hb3⟩
      have HT3 := Lib.hid (HT2.out.below hb3); have HT3' := Lib.hid (HT2'.out.below hb3)
      have HB3 := Lib.hid (HB2.out.trans (hb3.mono HB2.out.size))
      clear hb3
      go_wp2_with fail
      refine (rsame_any _ _ _ t _ _ _ t _ HT3.out HT3'.out).mono ?_
      rintro e w4 ⟨rfl, m4, rfl⟩
      rw [beq_self_eq_true]
      have HB4 := Lib.hid (below_drewN HB3.out m4); have HT4 := Lib.hid (HT3.out.drewN m4)
      generalize w3.drewN m4 = w4 at *
      clear dn
      go_wp2
      go_loopw [13] (fun i wr => ∃ (k : Nat), k ≤ 3 ∧ i = .int .i64 k ∧ Hid (Below w4.heap.size w4 wr)) (fun i _ => 3 - (intOf i).toNat)
      case atStart => exact ⟨0, by omega, rfl, Lib.hid (Below.refl _ _)⟩
      case round =>
        obtain ⟨k, hk2, rfl, HB⟩ := hrel
        have HBW := Lib.hid (HB4.out.trans (HB.out.mono HB4.out.size))
        by_cases hlt : k < 3
        · go_wp2_with fail
          refine (verify_any a0 n0 c0 key a n c l (k : Int) a' n' c' tag _ (H0.out.below HBW.out) (H.out.below HBW.out) (H'.out.below HBW.out) (by omega) (by omega)).mono ?_
          rintro e w5 ⟨hb5, m5, E5, hE5, rfl⟩
          obtain ⟨rfl, rfl⟩ := HE.out.uniq hE5
          obtain ⟨B5, hB5⟩ : ∃ B5, vf key l m E (k : Int) tag = B5 := ⟨_, rfl⟩
          rw [hB5]
          have HV5 := Lib.hid hB5
          have HB5 := Lib.hid (HBW.out.trans (hb5.mono HBW.out.size)); have HBB5 := Lib.hid (HB.out.trans (hb5.mono HB.out.size))
          clear hb5 hE5 hB5
          go_wp2_with fail
          refine (rverify_any a0 n0 c0 key a n c l (k : Int) a' n' c' tag _ (H0.out.below HB5.out) (H.out.below HB5.out) (H'.out.below HB5.out) (by omega) (by omega)).mono ?_
          rintro e w6 ⟨hb6, m6, E6, hE6, rfl⟩
          obtain ⟨rfl, rfl⟩ := HE.out.uniq hE6
          rw [HV5.out]
          have HB6 := Lib.hid (HB5.out.trans (hb6.mono HB5.out.size)); have HBB6 := Lib.hid (HBB5.out.trans (hb6.mono HBB5.out.size))
          have HT6 := Lib.hid (HT4.out.below HBB6.out)
          clear hb6 hE6
          have db : (B5 != B5) = false := by simp
          go_wp2_with fail
          refine (verify_any a0 n0 c0 key a n c l (k : Int) ax nx cx t _ (H0.out.below HB6.out) (H.out.below HB6.out) HT6.out (by omega) (by omega)).mono ?_
          rintro e w7 ⟨hb7, m7, E7, hE7, rfl⟩
          obtain ⟨rfl, rfl⟩ := HE.out.uniq hE7
          obtain ⟨B7, hB7⟩ : ∃ B7, vf key l m E (k : Int) t = B7 := ⟨_, rfl⟩
          rw [hB7]
          have HV7 := Lib.hid hB7
          have HB7 := Lib.hid (HB6.out.trans (hb7.mono HB6.out.size)); have HBB7 := Lib.hid (HBB6.out.trans (hb7.mono HBB6.out.size))
          have HT7 := Lib.hid (HT6.out.below hb7)
          clear hb7 hE7 hB7
          go_wp2_with fail
          refine (rverify_any a0 n0 c0 key a n c l (k : Int) ax nx cx t _ (H0.out.below HB7.out) (H.out.below HB7.out) HT7.out (by omega) (by omega)).mono ?_
          rintro e w8 ⟨hb8, m8, E8, hE8, rfl⟩
          obtain ⟨rfl, rfl⟩ := HE.out.uniq hE8
          rw [HV7.out]
          have HBB8 := Lib.hid (HBB7.out.trans (hb8.mono HBB7.out.size))
          clear hb8 hE8
          have db7 : (B7 != B7) = false := by simp
          go_wp2
          go_roundw
          case rel => exact ⟨k + 1, by omega, by go_num, HBB8⟩
          case measure => simp [intOf]; omega
        · obtain rfl : k = 3 := by omega
          go_wp2_with fail
          refine (awake_any _).mono ?_
          rintro e w5 ⟨rfl, hb5⟩
          have HB5 := Lib.hid (HBW.out.trans (hb5.mono HBW.out.size))
          clear hb5
          go_wp2
          go_ret
          exact ⟨rfl, HB5.out⟩

set_option maxRecDepth 100000 in
set_option maxHeartbeats 4000000 in
theorem law_clashes (a0 : Option Addr) (n0 c0 : Nat) (key : List Int) (a : Option Addr) (n c : Nat) (x : List Int) (a' : Option Addr) (n' c' : Nat) (y : List Int) (w : World) (h0 : Bytes w a0 n0 c0 key) (h : Bytes w a n c x) (h' : Bytes w a' n' c' y) :
    Calls Try.prog 5 #[.slice a0 n0 c0, .slice a n c, .slice a' n' c'] w fun e w' => e = .returned (.bool true) ∧ Below w.heap.size w w' := by
  have hcap := h.cap; have hmost := h.most; have hcap0 := h0.cap; have hmost0 := h0.most; have hcap' := h'.cap; have hmost' := h'.most
  have H0 := Lib.hid h0; have H := Lib.hid h; have H' := Lib.hid h'
  have HA := Lib.hid h.all; have HA' := Lib.hid h'.all
  clear h0 h h'
  by_cases hk : 200 < n0
  · go_enter Try.func5, Try.ntmps5
    go_wp2_with fail
    refine (awake_any _).mono ?_
    rintro e w1 ⟨rfl, hb1⟩
    go_wp2
    go_ret
    exact ⟨rfl, hb1⟩
  · by_cases hn : 3000 < n
    · go_enter Try.func5, Try.ntmps5
      go_wp2_with fail
      refine (awake_any _).mono ?_
      rintro e w1 ⟨rfl, hb1⟩
      go_wp2
      go_ret
      exact ⟨rfl, hb1⟩
    · by_cases hn' : 3000 < n'
      · go_enter Try.func5, Try.ntmps5
        go_wp2_with fail
        refine (awake_any _).mono ?_
        rintro e w1 ⟨rfl, hb1⟩
        go_wp2
        go_ret
        exact ⟨rfl, hb1⟩
      · go_enter Try.func5, Try.ntmps5
        go_wp2_with fail
        refine (clash_any a n c x a' n' c' y _ H.out H'.out (by omega) (by omega)).mono ?_
        rintro e w1 ⟨hb1, r, a1, n1, c1, a2, n2, c2, hr, rfl, ho1, ho2⟩
        have HB1 := Lib.hid hb1; have HR := Lib.hid hr; have HO1 := Lib.hid ho1.bytes; have HO2 := Lib.hid ho2.bytes
        clear hb1 hr ho1 ho2
        go_wp2_with fail
        refine (rclash_any a n c x a' n' c' y _ (H.out.below HB1.out) (H'.out.below HB1.out) (by omega) (by omega)).mono ?_
        rintro e w2 ⟨hb2, r', a3, n3, c3, a4, n4, c4, hr', rfl, ho3, ho4⟩
        obtain rfl := HR.out.uniq hr'
        have HB2 := Lib.hid (HB1.out.trans (hb2.mono HB1.out.size)); have HO12 := Lib.hid (HO1.out.below hb2); have HO22 := Lib.hid (HO2.out.below hb2); have HO3 := Lib.hid ho3.bytes; have HO4 := Lib.hid ho4.bytes
        clear hb2 hr' ho3 ho4
        obtain ⟨ok, hok⟩ : ∃ ok, r.isSome = ok := ⟨_, rfl⟩
        rw [hok]
        have HOK := Lib.hid hok
        clear hok
        have db : (ok != ok) = false := by simp
        go_wp2_with fail
        refine (rsame_any _ _ _ _ _ _ _ _ _ HO12.out HO3.out).mono ?_
        rintro e w3 ⟨rfl, m3, rfl⟩
        rw [beq_self_eq_true]
        go_wp2_with fail
        refine (rsame_any _ _ _ _ _ _ _ _ _ (HO22.out.drewN m3) (HO4.out.drewN m3)).mono ?_
        rintro e w4 ⟨rfl, m4, rfl⟩
        rw [beq_self_eq_true]
        have HB4 := Lib.hid (below_drewN (below_drewN HB2.out m3) m4)
        have HO14 := Lib.hid ((HO12.out.drewN m3).drewN m4); have HO24 := Lib.hid ((HO22.out.drewN m3).drewN m4)
        generalize (w2.drewN m3).drewN m4 = w4 at *
        clear db
        go_wp2_with fail
        refine (entries_any a0 n0 c0 key a n c x _ (H0.out.below HB4.out) (H.out.below HB4.out) (by omega) (by omega)).mono ?_
        rintro e w5 ⟨hb5, m, E, L, al, cl, ax, nx, cx, t, hE, rfl, hL, hO, hD, hT, hz, hnz⟩
        have HB5 := Lib.hid (HB4.out.trans (hb5.mono HB4.out.size)); have HE := Lib.hid hE; have HT := Lib.hid hT; have HZ := Lib.hid hz
        have HO15 := Lib.hid (HO14.out.below hb5); have HO25 := Lib.hid (HO24.out.below hb5)
        clear hb5 hE hL hO hD hT hz hnz
        by_cases hE0 : E = 0
        · subst hE0
          obtain ⟨hm, ht⟩ := HZ.out rfl
          subst hm ht
          by_cases hxy : x = y
          · have d : (x == y) = true := by rw [beq_iff_eq]; exact hxy
            go_wp2_with fail
            refine (rsame_any _ _ _ x _ _ _ y _ (H.out.below HB5.out) (H'.out.below HB5.out)).mono ?_
            rintro e w6 ⟨rfl, m6, rfl⟩
            rw [d]
            clear d hxy
            go_wp2_with fail
            refine (awake_any _).mono ?_
            rintro e w7 ⟨rfl, hb7⟩
            go_wp2
            go_ret
            exact ⟨rfl, (below_drewN HB5.out m6).trans (hb7.mono HB5.out.size)⟩
          · have d : (x == y) = false := by rw [beq_eq_false_iff_ne]; exact hxy
            have HXY := Lib.hid hxy
            go_wp2_with fail
            refine (rsame_any _ _ _ x _ _ _ y _ (H.out.below HB5.out) (H'.out.below HB5.out)).mono ?_
            rintro e w6 ⟨rfl, m6, rfl⟩
            rw [d]
            have HB6 := Lib.hid (below_drewN HB5.out m6); have HT6 := Lib.hid (HT.out.bytes.drewN m6); have HO16 := Lib.hid (HO15.out.drewN m6); have HO26 := Lib.hid (HO25.out.drewN m6)
            generalize w5.drewN m6 = w6 at *
            clear d hxy
            go_wp2_with fail
            refine (verify_any a0 n0 c0 key a' n' c' y (L.length : Int) ax nx cx (ahd (fm x) L.length) _ (H0.out.below HB6.out) (H'.out.below HB6.out) HT6.out (by omega) (by omega)).mono ?_
            rintro e w7 ⟨hb7, m7, E7, hE7, rfl⟩
            have HB7 := Lib.hid (HB6.out.trans (hb7.mono HB6.out.size)); have HO17 := Lib.hid (HO16.out.below hb7); have HO27 := Lib.hid (HO26.out.below hb7)
            have HE7 := Lib.hid hE7
            clear hb7 hE7
            by_cases hv : vf key y m7 E7 (L.length : Int) (ahd (fm x) L.length) = true
            · rw [hv]
              have hv2 : E7 = 0 ∧ (m7 : Int) = (L.length : Int) ∧ ahd (fm y) m7 = ahd (fm x) L.length := by unfold vf at hv; exact of_decide_eq_true hv
              obtain ⟨q1, q2, q3⟩ := hv2
              obtain rfl : m7 = L.length := by omega
              subst q1
              have hx1 : Ends x L.length 0 := ⟨HE.out.1, by
                rcases HE.out.2.2 with h1 | ⟨_, h2, h3⟩ | ⟨_, _, _, h4⟩
                · exact .inl h1
                · exact absurd rfl h3
                · exact absurd h4 (by decide)⟩
              have hy1 : Ends y L.length 0 := ⟨HE7.out.1, by
                rcases HE7.out.2.2 with h1 | ⟨_, h2, h3⟩ | ⟨_, _, _, h4⟩
                · exact .inl h1
                · exact absurd rfl h3
                · exact absurd h4 (by decide)⟩
              obtain ⟨j, E9, j', E9', k1, k2, k3⟩ := HR.out
              obtain ⟨rfl, rfl⟩ := k1.uniq hx1
              obtain ⟨rfl, rfl⟩ := k2.uniq hy1
              have k4 : ClR (fm x) (fm y) L.length r := by
                rcases k3 with ⟨k5, _⟩ | ⟨_, _, _, k4⟩
                · rcases k5 with k5 | k5 | k5 <;> exact absurd rfl k5
                · exact k4
              obtain ⟨i, rfl, hi⟩ := right_clash HA.out HA'.out hx1 hy1 q3.symm HXY.out k4
              obtain ⟨_, k6, k7, _⟩ := k4
              have hok : ok = true := by rw [← HOK.out]; rfl
              subst hok
              have g1 := HE.out.2.1 i hi
              have g2 := HE7.out.2.1 i hi
              have htg : tagB key (mgF (fm x) i) = tagB key (mgF (fm y) i) := by
                unfold Good at g1 g2
                rw [← g1, ← g2, k6]
              have HTG := Lib.hid htg
              have HNE := Lib.hid k7
              have hl1 : n1 ≤ 100000 := by
                have h1 := HO17.out.len
                have h2 := mg_len (ahd (fm x) i) ((i + 1 : Nat) : Int) (fm x i).k (fm x i).b
                have h3 : (mgF (fm x) i).length = n1 := h1
                unfold mgF at h3; omega
              have hl2 : n2 ≤ 100000 := by
                have h1 := HO27.out.len
                have h2 := mg_len (ahd (fm y) i) ((i + 1 : Nat) : Int) (fm y i).k (fm y i).b
                have h3 : (mgF (fm y) i).length = n2 := h1
                unfold mgF at h3; omega
              have HM1 : Hid (Bytes w7 a1 n1 c1 (mgF (fm x) i)) := Lib.hid HO17.out
              have HM2 : Hid (Bytes w7 a2 n2 c2 (mgF (fm y) i)) := Lib.hid HO27.out
              have d : (mgF (fm x) i == mgF (fm y) i) = false := by rw [beq_eq_false_iff_ne]; exact k7
              have D := Lib.hid d
              clear hv q2 q3 hx1 hy1 k1 k2 k3 k6 k7 g1 g2 htg d HOK
              go_wp2_with fail
              refine (rsame_any _ _ _ _ _ _ _ _ _ HM1.out HM2.out).mono ?_
              rintro e w8 ⟨rfl, m8, rfl⟩
              rw [D.out]
              have HB8 := Lib.hid (below_drewN HB7.out m8); have HM18 := Lib.hid (HM1.out.drewN m8); have HM28 := Lib.hid (HM2.out.drewN m8)
              generalize w7.drewN m8 = w8 at *
              go_wp2_with fail
              refine (ptag_any a0 n0 c0 key _ _ _ _ _ (H0.out.below HB8.out) HM18.out (by omega) hl1).mono ?_
              rintro e w9 ⟨a9, c9, rfl, ho9, hb9⟩
              have HB9 := Lib.hid (HB8.out.trans (hb9.mono HB8.out.size)); have HO9 := Lib.hid ho9.bytes; have HM29 := Lib.hid (HM28.out.below hb9)
              clear ho9 hb9
              go_wp2_with fail
              refine (ptag_any a0 n0 c0 key _ _ _ _ _ (H0.out.below HB9.out) HM29.out (by omega) hl2).mono ?_
              rintro e w10 ⟨a10, c10, rfl, ho10, hb10⟩
              have HB10 := Lib.hid (HB9.out.trans (hb10.mono HB9.out.size)); have HO10 := Lib.hid ho10.bytes; have HO910 := Lib.hid (HO9.out.below hb10)
              clear ho10 hb10
              go_wp2_with fail
              refine (rsame_any _ _ _ _ _ _ _ _ _ HO910.out HO10.out).mono ?_
              rintro e w11 ⟨rfl, m11, rfl⟩
              rw [HTG.out, beq_self_eq_true]
              have HB11 := Lib.hid (below_drewN HB10.out m11)
              go_wp2_with fail
              refine (awake_any _).mono ?_
              rintro e w12 ⟨rfl, hb12⟩
              go_wp2
              go_ret
              exact ⟨rfl, HB11.out.trans (hb12.mono HB11.out.size)⟩
            · have hv2 : vf key y m7 E7 (L.length : Int) (ahd (fm x) L.length) = false := by simpa using hv
              rw [hv2]
              clear hv hv2
              go_wp2_with fail
              refine (awake_any _).mono ?_
              rintro e w8 ⟨rfl, hb8⟩
              go_wp2
              go_ret
              exact ⟨rfl, HB7.out.trans (hb8.mono HB7.out.size)⟩
        · have d : (E != 0) = true := by rw [bne_iff_ne]; exact hE0
          clear hE0
          go_wp2_with fail
          refine (awake_any _).mono ?_
          rintro e w6 ⟨rfl, hb6⟩
          go_wp2
          go_ret
          exact ⟨rfl, HB5.out.trans (hb6.mono HB5.out.size)⟩

end Go.Proofs.Ytejhncdempfmjaa.ch
