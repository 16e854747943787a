/-
  Layer 49: the walk of the statement on what is opened.
-/
import Derived.Test.YtejhncdempfmjaaJouLike
namespace Go.Proofs.Ytejhncdempfmjaa.jo
open Go.ChangeShapes Go.WideShapes Go.ChangeAt Go.RowKit
open bs en ch
open Go.Proofs.Ytejhncdempfmjaa.sh (tagB ptag_any rtag_any)
open Go.Proofs.Ytejhncdempfmjaa.dv (Dev clampN kept apE apL APd DPost rv Lies RvPost RaPost first_bytes)
set_option linter.unusedVariables false

theorem begins_any (a : Option Addr) (n c : Nat) (l : List Int) (a' : Option Addr) (k c' : Nat) (w : World) (h : Bytes w a n c l) (h' : Bytes w a' k c' (l.take k)) (hk : k ≤ n) :
    Calls Try.prog 44 #[.slice a n c, .slice a' k c'] w fun e w' => e = .returned (.bool true) ∧ ∃ m, w' = w.drewN m := by
  have hcap := h.cap; have hmost := h.most
  have HF := Lib.hid (first_bytes h k hk)
  have HH' := Lib.hid h'
  clear h h'
  have d1 : decide (k ≤ n) = true := decide_eq_true hk
  have hkc : k ≤ c := by omega
  go_enter Try.func44, Try.ntmps44
  go_wp2_with fail
  refine (rsame_any _ _ _ (l.take k) _ _ _ (l.take k) _ HF.out HH'.out).mono ?_
  rintro e w1 ⟨rfl, m1, rfl⟩
  rw [beq_self_eq_true]
  go_wp2
  go_ret
  exact ⟨rfl, m1, rfl⟩

set_option maxRecDepth 100000 in
set_option maxHeartbeats 4000000 in
theorem law_verifies (a0 : Option Addr) (n0 c0 : Nat) (key : List Int) (a : Option Addr) (n c : Nat) (b : List Int) (w : World) (h0 : Bytes w a0 n0 c0 key) (h : Bytes w a n c b) :
    Calls Try.prog 8 #[.slice a0 n0 c0, .slice a n c] w fun e w' => e = .returned (.bool true) ∧ Below w.heap.size w w' := by
  have hcap := h.cap; have hmost := h.most; have hcap0 := h0.cap; have hmost0 := h0.most
  have H0 := Lib.hid h0; have H := Lib.hid h; have HBL := Lib.hid h.len; have HA := Lib.hid h.all
  clear h0 h
  by_cases hk : 100 < n0
  · go_enter Try.func8, Try.ntmps8
    go_wp2_with fail
    refine (awake_any _).mono ?_
    rintro e w1 ⟨rfl, hb1⟩
    go_wp2
    go_ret
    exact ⟨rfl, hb1⟩
  · by_cases hn : 3000 < n
    · go_enter Try.func8, Try.ntmps8
      go_wp2_with fail
      refine (awake_any _).mono ?_
      rintro e w1 ⟨rfl, hb1⟩
      go_wp2
      go_ret
      exact ⟨rfl, hb1⟩
    · have hc6 : clampN 65536 65536 = 65536 := by decide
      have hap : apE 65536 0 n = 0 := by unfold apE; split <;> (try rfl); rw [if_neg (by omega)]
      have hapL : apL 65536 0 n [] b = b := by unfold apL; rw [if_pos hap]; rfl
      have HC6 := Lib.hid hc6; have HAP := Lib.hid hap; have HAPL := Lib.hid hapL
      clear hc6 hap hapL
      go_enter Try.func8, Try.ntmps8
      go_wp2_with fail
      refine (dv.new_any 65536 _ (by omega) (by omega)).mono ?_
      rintro e w1 ⟨rfl, hd, hb1⟩
      rw [HC6.out] at hd
      have HD := Lib.hid hd; have HB1 := Lib.hid hb1
      clear hd hb1
      go_wp2_with fail
      refine (dv.append_any HD.out a n c b (H.out.below HB1.out) (by omega) HB1.out.size).mono ?_
      rintro e w2 ⟨rfl, ht2, a2, n2, c2, hd2, _⟩
      have hB2 : Below w.heap.size w w2 := HB1.out.trans ((Tn.of_turned ht2).below HB1.out.size (fun i hi => by
        rcases hi with hi | hi
        · rw [hi]; exact Nat.le_refl _
        · cases hi))
      rw [if_pos HAP.out, List.nil_append] at hd2
      have HD2 := Lib.hid hd2; have HB2 := Lib.hid hB2
      clear ht2 hd2 hB2 HD HB1
      go_wp2_with fail
      refine (open_any HD2.out HB2.out.size a0 n0 c0 key (H0.out.below HB2.out) (by omega)).mono ?_
      rintro e w3 ⟨jb, cnt, E, he, rfl, hge, ht, hj⟩
      have hB3 : Below w.heap.size w w3 := HB2.out.trans (ht.below HB2.out.size (fun i hi => by rw [hi]; exact Nat.le_refl _))
      have HJ := Lib.hid hj; have HB3 := Lib.hid hB3; have HE := Lib.hid he
      clear he hge ht hj hB3 HD2 HB2
      go_wp2_with fail
      refine (dv.rnew_any 65536 _ (by omega) (by omega)).mono ?_
      rintro e w4 ⟨hb4, a4, c4, rfl, hby4, hl4⟩
      rw [HC6.out]
      have HB4 := Lib.hid (HB3.out.trans (hb4.mono HB3.out.size)); have HJ4 := Lib.hid (HJ.out.below hb4); have HY4 := Lib.hid hby4
      clear hb4 hby4 hl4
      go_wp2_with fail
      refine (dv.rappend_any 65536 0 a4 0 c4 [] a n c b _ HY4.out (H.out.below HB4.out) (by omega) (by omega) (by omega)).mono ?_
      rintro e w5 ⟨hb5, a5, n5, c5, rfl, hby5, hl5⟩
      rw [HAPL.out] at hby5
      have hn5 : n5 = n := by rw [← hby5.len, HBL.out]
      subst hn5
      rw [HAP.out]
      have HB5 := Lib.hid (HB4.out.trans (hb5.mono HB4.out.size)); have HJ5 := Lib.hid (HJ4.out.below hb5); have HY5 := Lib.hid hby5
      clear hb5 hby5 hl5
      have hW6 : Below w5.heap.size w5 (w5.alloc (.cells #[.int .i64 65536, .int .i64 0, .slice a5 n5 c5] 54)) := (Below.refl _ _).alloc (Nat.le_refl _) _
      have HB6 := Lib.hid (HB5.out.trans (hW6.mono HB5.out.size)); have HJ6 := Lib.hid (HJ5.out.below hW6); have HY6 := Lib.hid (HY5.out.below hW6)
      clear hW6
      go_wp2_with fail
      refine (ropen_any a0 n0 c0 key 65536 0 a5 n5 c5 b _ (H0.out.below HB6.out) HY6.out (by omega) (by omega) (by omega) (by omega)).mono ?_
      rintro e w7 ⟨hb7, cnt', E', L, al, cl, ta, tc, a7, c7, he', rfl, hL, hO, hTo, hTg, hBy, hLi⟩
      obtain ⟨rfl, rfl⟩ := HE.out.uniq he'
      obtain ⟨q1, q2, q3⟩ := cut_right HA.out HE.out
      have hlen : (b.take (atF b cnt)).length = atF b cnt := by rw [List.length_take]; have := at_le HA.out cnt HE.out.1; omega
      have hmod : Mod w7 (b.take (atF b cnt)) cnt al cl ta tc a7 c7 (L.map Fw.e) := by
        refine ⟨recs_map (own_ent hL hO), fun i x hx => ?_, by rw [q3]; exact hTg.bytes, by rw [hlen]; exact hBy⟩
        rw [List.getElem?_map] at hx
        obtain ⟨u, hu, rfl⟩ := Option.map_eq_some_iff.1 hx
        have h1 := hTo i u hu
        have hi : i < cnt := by rw [← hL.num]; exact (List.getElem?_eq_some_iff.1 hu).1
        rw [q2 i hi]
        exact ⟨h1.k, h1.b⟩
      have hle : atF b cnt ≤ n5 := by have := at_le HA.out cnt HE.out.1; rw [HBL.out] at this; exact this
      have HMOD := Lib.hid hmod; have HB7 := Lib.hid (HB6.out.trans (hb7.mono HB6.out.size)); have HJ7 := Lib.hid (HJ6.out.below hb7)
      clear hb7 he' hL hO hTo hTg hBy hLi q1 q2 q3 hmod
      have HTK : Hid (b.take (atF b cnt) = b.take (b.take (atF b cnt)).length) := Lib.hid (by rw [hlen])
      have hle2 : (b.take (atF b cnt)).length ≤ n5 := by rw [hlen]; exact hle
      rw [← hlen]
      generalize b.take (atF b cnt) = l at HTK HMOD HJ7 hle2 ⊢
      clear hlen hle
      go_wp2_with fail
      refine (like_any HJ7.out 65536 (min 0 l.length) al cl ta tc a7 c7 (L.map Fw.e) HMOD.out).mono ?_
      rintro e w8 ⟨rfl, hb8⟩
      have HB8 := Lib.hid (HB7.out.trans (hb8.mono HB7.out.size)); have HJ8 := Lib.hid (HJ7.out.below hb8)
      clear hb8
      go_wp2_with fail
      refine (log_any HJ8.out).mono ?_
      rintro e w9 ⟨a9, c9, rfl, ho9, hb9⟩
      have HB9 := Lib.hid (HB8.out.trans (hb9.mono HB8.out.size)); have HJ9 := Lib.hid (HJ8.out.below hb9); have HO9 := Lib.hid ho9.bytes
      clear ho9 hb9
      go_wp2_with fail
      refine (count_any HJ9.out).mono ?_
      rintro e w10 ⟨rfl, rfl⟩
      go_wp2_with fail
      refine (jtag_any HJ9.out).mono ?_
      rintro e w11 ⟨a11, c11, rfl, ho11, hb11⟩
      have HB11 := Lib.hid (HB9.out.trans (hb11.mono HB9.out.size)); have HJ11 := Lib.hid (HJ9.out.below hb11); have HO11 := Lib.hid ho11.bytes; have HO911 := Lib.hid (HO9.out.below hb11)
      clear ho11 hb11
      have hfit := HJ11.out.fit
      go_wp2_with fail
      refine (rverify_any a0 n0 c0 key a9 l.length c9 l (cnt : Int) a11 32 c11 _ _ (H0.out.below HB11.out) HO911.out HO11.out (by omega) (by omega)).mono ?_
      rintro e w12 ⟨hb12, m12, E12, he12, rfl⟩
      obtain ⟨rfl, rfl⟩ := HJ11.out.right.uniq he12
      have hv : vf key l cnt 0 (cnt : Int) (ahd (fm l) cnt) = true := by unfold vf; rw [decide_eq_true_iff]; exact ⟨rfl, rfl, rfl⟩
      rw [hv]
      have HB12 := Lib.hid (HB11.out.trans (hb12.mono HB11.out.size)); have HJ12 := Lib.hid (HJ11.out.below hb12)
      clear hb12 he12 hv
      go_wp2_with fail
      refine (log_any HJ12.out).mono ?_
      rintro e w13 ⟨a13, c13, rfl, ho13, hb13⟩
      have HB13 := Lib.hid (HB12.out.trans (hb13.mono HB12.out.size))
      have hO13 : Bytes w13 a13 l.length c13 (b.take l.length) := by rw [← HTK.out]; exact ho13.bytes
      have HO13 := Lib.hid hO13
      clear ho13 hb13 hO13
      go_wp2_with fail
      refine (begins_any a n5 c b a13 l.length c13 _ (H.out.below HB13.out) HO13.out hle2).mono ?_
      rintro e w14 ⟨rfl, m14, rfl⟩
      have HB14 := Lib.hid (below_drewN HB13.out m14)
      go_wp2_with fail
      refine (awake_any _).mono ?_
      rintro e w15 ⟨rfl, hb15⟩
      go_wp2
      go_ret
      exact ⟨rfl, HB14.out.trans (hb15.mono HB14.out.size)⟩

end Go.Proofs.Ytejhncdempfmjaa.jo
