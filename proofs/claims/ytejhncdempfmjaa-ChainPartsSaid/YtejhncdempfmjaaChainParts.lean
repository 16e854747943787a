/-
  Layer 47: the walk of the statement on logs whose frames have one tag.
-/
import Derived.Test.YtejhncdempfmjaaChainLaws2
namespace Go.Proofs.Ytejhncdempfmjaa.ch
open Go.ChangeShapes Go.WideShapes Go.ChangeAt Go.RowKit
open bs en
open Go.Proofs.Ytejhncdempfmjaa.sh (tagB ptag_any rtag_any shaSum_len)
set_option linter.unusedVariables false

/-- Frames with one tag. -/
def fF (tag : List Int) (L : List Ent) (i : Nat) : Fm := ⟨(en L i).k, (en L i).l, tag⟩
theorem fF_fit {tag : List Int} {L : List Ent} {n : Nat} (h : bE L n = 0) (ht : tag.length = 32) : ∀ i, i < n → Fit (fF tag L i) := fun i hi => pay_fit (bE_zero h hi) ht
def FoPost (tag : List Int) (L : List Ent) (w : World) (e : Ending) (w' : World) : Prop :=
  Below w.heap.size w w' ∧ ∃ (a : Option Addr) (m c : Nat) (r : List Int), e = .returned (.slice a m c) ∧ OwnB w' w.heap.size 5 a m c r ∧ r = (if bE L L.length = 0 then lgF (fF tag L) L.length else [])

set_option maxRecDepth 100000 in
set_option maxHeartbeats 2000000 in
theorem forged_any (a : Option Addr) (n c : Nat) (L : List Ent) (a0 : Option Addr) (c0 : Nat) (tag : List Int) (w : World) (h : Recs 2 EntAt w a n c L) (h0 : Bytes w a0 32 c0 tag) (hn : n ≤ 100000) :
    Calls Try.prog 29 #[.slice a n c, .slice a0 32 c0] w (FoPost tag L w) := by
  have hcap := h.cap; have hmost := h.most; have hlen := h.len
  have H0 := Lib.hid h0; have HX := Lib.hid h; have HLN := Lib.hid hlen; have HTL := Lib.hid h0.len
  clear h0 h hlen
  have HN : Hid (OwnB (w.alloc (.cells #[] 5)) w.heap.size 5 (some ⟨w.heap.size, 0, none⟩) 0 0 []) := OwnB.made w w.heap.size 5 [] #[] rfl (Nat.le_refl _) (by simp [maxLen]) (by simp [AllB])
  have HBN : Hid (Below w.heap.size w (w.alloc (.cells #[] 5))) := Lib.hid ((Below.refl _ _).alloc (Nat.le_refl _) _)
  go_enter Try.func29, Try.ntmps29
  go_wp2
  go_loopw [5, 6] (fun lo i wr => ∃ (k : Nat) (al : Option Addr) (ml cl : Nat), k ≤ n ∧ i = .int .i64 k ∧ lo = .slice al ml cl ∧ Hid (OwnB wr w.heap.size 5 al ml cl (lgF (fF tag L) k)) ∧ Hid (Below w.heap.size w wr) ∧ Hid (bE L k = 0) ∧ Hid (ml ≤ 2000 * k)) (fun _ i _ => n - (intOf i).toNat)
  case atStart => exact ⟨0, _, 0, 0, by omega, rfl, rfl, HN, HBN, Lib.hid rfl, Lib.hid (by omega)⟩
  case round =>
    clear HN HBN
    obtain ⟨k, al, ml, cl, hk2, rfl, rfl, HL, HB, HE, HM⟩ := hrel
    by_cases hlt : k < n
    · have HR := HX.out.below entStays HB.out
      obtain ⟨x, hx⟩ : ∃ x, L[k]? = some x := ⟨L[k]'(by have := HR.len; omega), List.getElem?_eq_getElem _⟩
      have hen : en L k = x := by unfold en; rw [List.getD_eq_getElem?_getD, hx]; rfl
      obtain ⟨b, off, rfl, hbl, hcell⟩ := HR.at'.resolve_left (by omega)
      obtain ⟨e0, e1, hrd⟩ := hcell k x hx
      have HRD := Lib.hid hrd; have HEN := Lib.hid hen
      clear HR hcell hx hrd hen
      obtain ⟨xk, xa, xn, xc, xl⟩ := x
      dsimp only at e0 e1
      have hs := HB.out.size
      go_wp2_with fail
      refine (rframe_any xk xa xn xc xl a0 32 c0 tag _ HRD.out.2 (H0.out.below HB.out) HRD.out.1.1 HRD.out.1.2).mono ?_
      rintro e w4 ⟨hb4, a4, m4, c4, r4, rfl, ho4, hr4⟩
      have HB4 := Lib.hid (HB.out.trans (hb4.mono hs)); have HL4 := Lib.hid (HL.out.below hb4); have HO4 := Lib.hid ho4
      by_cases hp : payE xk xl.length = 0
      · have hfe : frE xk xl.length tag.length = 0 := by unfold frE; rw [if_pos hp, if_pos HTL.out]
        rw [hfe, if_pos rfl] at hr4
        rw [hfe]
        have hx1 : xl.length ≤ 1024 := (pay_fit (t := tag) hp HTL.out).1
        have hm4 : m4 ≤ 1061 := by rw [← ho4.len, hr4, frB_len, HTL.out]; omega
        have HR4 := Lib.hid hr4; have HP := Lib.hid hp
        have hle : ml + m4 ≤ 140737488355328 := by have := HM.out; omega
        clear hb4 ho4 hr4 hfe hx1 hp e0 e1
        go_wp2_with (at_builtin; refine wpList_append_b byteT rfl _ _ rfl w.heap.size rfl HL4.out rfl HO4.out.bytes hle HB4.out.size ?_)
        intro a5 c5 w5 ho5 hb5 _
        have HO5 := Lib.hid ho5; have HB5 := Lib.hid (HB4.out.trans hb5)
        clear ho5 hb5
        go_wp2
        go_roundw
        case rel =>
          refine ⟨k + 1, a5, ml + m4, c5, by omega, by go_num, rfl, ?_, HB5, ?_, ?_⟩
          · refine Lib.hid ?_
            have hh := HO5.out
            rw [HR4.out] at hh
            rw [lgF, fF, HEN.out]
            exact hh
          · refine Lib.hid ?_
            rw [bE, if_pos HE.out, HEN.out]
            exact HP.out
          · refine Lib.hid ?_
            have := HM.out
            omega
        case measure => simp [intOf]; omega
      · have hfe : frE xk xl.length tag.length = payE xk xl.length := by unfold frE; rw [if_neg hp]
        rw [hfe]
        have d : (payE xk xl.length != 0) = true := by rw [bne_iff_ne]; exact hp
        have hbe : bE L L.length ≠ 0 := by
          have h1 : bE L (k + 1) = payE xk xl.length := by rw [bE, if_pos HE.out, HEN.out]
          rw [bE_stay L (k + 1) _ (by have := HLN.out; omega) (by rw [h1]; exact hp), h1]
          exact hp
        have HBE := Lib.hid hbe
        clear hb4 ho4 hr4 hfe hp hbe e0 e1
        go_wp2
        go_ret
        exact ⟨HB4.out.alloc HB4.out.size _, _, 0, 0, [], rfl, OwnB.made w4 w.heap.size 5 [] #[] rfl HB4.out.size (by simp [maxLen]) (by simp [AllB]), by rw [if_neg HBE.out]⟩
    · obtain rfl : k = n := by omega
      go_wp2
      go_ret
      exact ⟨HB.out, _, _, _, _, rfl, HL.out, by rw [HLN.out, if_pos HE.out]⟩

theorem lgF_pos {f : Nat → Fm} {n : Nat} (hn : 0 < n) : 0 < (lgF f n).length := by
  obtain ⟨m, rfl⟩ : ∃ m, n = m + 1 := ⟨n - 1, by omega⟩
  rw [lgF, List.length_append, frB_len]
  omega
theorem lgF_len {f : Nat → Fm} {n : Nat} (hf : ∀ i, i < n → Fit (f i)) : (lgF f n).length ≤ 1061 * n := by
  induction n with
  | zero => exact Nat.zero_le _
  | succ n ih =>
    have h1 := hf n (Nat.lt_succ_self n)
    have := ih (fun i hi => hf i (by omega))
    have h2 := h1.1
    have h3 := h1.2.1
    rw [lgF, List.length_append, frB_len]
    omega

set_option maxRecDepth 100000 in
set_option maxHeartbeats 4000000 in
theorem law_parts (a : Option Addr) (n c : Nat) (L : List Ent) (a' : Option Addr) (n' c' : Nat) (K : List Ent) (a0 : Option Addr) (n0 c0 : Nat) (tag : List Int) (w : World) (h : Recs 2 EntAt w a n c L) (h' : Recs 2 EntAt w a' n' c' K) (h0 : Bytes w a0 n0 c0 tag) :
    Calls Try.prog 6 #[.slice a n c, .slice a' n' c', .slice a0 n0 c0] w fun e w' => e = .returned (.bool true) ∧ Below w.heap.size w w' := by
  have hcap := h.cap; have hmost := h.most; have hcap0 := h0.cap; have hmost0 := h0.most; have hcap' := h'.cap; have hmost' := h'.most
  have H0 := Lib.hid h0; have H := Lib.hid h; have H' := Lib.hid h'; have HLN := Lib.hid h.len; have HLN' := Lib.hid h'.len
  clear h0 h h'
  go_enter Try.func6, Try.ntmps6
  go_wp2_with fail
  refine (large_any a n c L _ H.out).mono ?_
  rintro e w1 ⟨bb, rfl, rfl, hbb⟩
  cases bb with
  | true =>
    clear hbb
    go_wp2_with fail
    refine (awake_any _).mono ?_
    rintro e w1 ⟨rfl, hb1⟩
    go_wp2
    go_ret
    exact ⟨rfl, hb1⟩
  | false =>
    have hn := hbb rfl
    clear hbb
    go_wp2_with fail
    refine (large_any a' n' c' K _ H'.out).mono ?_
    rintro e w1 ⟨bb, rfl, rfl, hbb⟩
    cases bb with
    | true =>
      clear hbb
      go_wp2_with fail
      refine (awake_any _).mono ?_
      rintro e w1 ⟨rfl, hb1⟩
      go_wp2
      go_ret
      exact ⟨rfl, hb1⟩
    | false =>
      have hn' := hbb rfl
      clear hbb
      by_cases hz : n = 0
      · subst hz
        go_wp2_with fail
        refine (awake_any _).mono ?_
        rintro e w1 ⟨rfl, hb1⟩
        go_wp2
        go_ret
        exact ⟨rfl, hb1⟩
      · have dz : ((n : Int) == 0) = false := by rw [beq_eq_false_iff_ne]; omega
        by_cases hnn : n = n'
        · subst hnn
          have dn : ((n : Int) != (n : Int)) = false := by simp
          by_cases h32 : n0 = 32
          · subst h32
            have HTL := Lib.hid H0.out.len
            go_wp2_with fail
            refine (forged_any a n c L a0 c0 tag _ H.out H0.out (by omega)).mono ?_
            rintro e w1 ⟨hb1, a1, m1, c1, r1, rfl, ho1, hr1⟩
            have HB1 := Lib.hid hb1; have HO1 := Lib.hid ho1.bytes; have HR1 := Lib.hid hr1
            clear hb1 ho1 hr1
            go_wp2_with fail
            refine (forged_any a' n c' K a0 c0 tag _ (H'.out.below entStays HB1.out) (H0.out.below HB1.out) (by omega)).mono ?_
            rintro e w2 ⟨hb2, a2, m2, c2, r2, rfl, ho2, hr2⟩
            have HB2 := Lib.hid (HB1.out.trans (hb2.mono HB1.out.size)); have HO12 := Lib.hid (HO1.out.below hb2); have HO2 := Lib.hid ho2.bytes; have HR2 := Lib.hid hr2
            clear hb2 ho2 hr2 dn
            by_cases hE : bE L n = 0
            · by_cases hE' : bE K n = 0
              · have e1 : r1 = lgF (fF tag L) n := by rw [HR1.out, HLN.out, if_pos hE]
                have e2 : r2 = lgF (fF tag K) n := by rw [HR2.out, HLN'.out, if_pos hE']
                have f1 := fF_fit (tag := tag) hE HTL.out
                have f2 := fF_fit (tag := tag) hE' HTL.out
                have l1 := lgF_len f1; have l2 := lgF_len f2
                have p1 := lgF_pos (f := fF tag L) (show 0 < n by omega); have p2 := lgF_pos (f := fF tag K) (show 0 < n by omega)
                have q1 := HO12.out.len; have q2 := HO2.out.len
                rw [e1] at q1
                rw [e2] at q2
                rw [q1] at l1 p1
                rw [q2] at l2 p2
                have d1 : ((m1 : Int) == 0) = false := by rw [beq_eq_false_iff_ne]; omega
                have d2 : ((m2 : Int) == 0) = false := by rw [beq_eq_false_iff_ne]; omega
                have E1 := Lib.hid e1; have E2 := Lib.hid e2; have F1 := Lib.hid f1; have F2 := Lib.hid f2
                clear e1 e2 f1 f2 hE hE' q1 q2
                have c1m := HO12.out.cap; have c2m := HO2.out.cap; have c1x := HO12.out.most; have c2x := HO2.out.most
                go_wp2_with fail
                refine (clash_any a1 m1 c1 r1 a2 m2 c2 r2 _ HO12.out HO2.out (by omega) (by omega)).mono ?_
                rintro e w3 ⟨hb3, r, a3, n3, c3, a4, n4, c4, hr, rfl, ho3, ho4⟩
                have HB3 := Lib.hid (HB2.out.trans (hb3.mono HB2.out.size)); have HO3 := Lib.hid ho3.bytes; have HO4 := Lib.hid ho4.bytes
                have hcl : ClR (fm r1) (fm r2) n r := by
                  obtain ⟨j, E9, j', E9', k1, k2, k3⟩ := hr
                  have x1 : Ends r1 n 0 := by rw [E1.out]; exact lgF_ends _ n F1.out
                  have x2 : Ends r2 n 0 := by rw [E2.out]; exact lgF_ends _ n F2.out
                  obtain ⟨rfl, rfl⟩ := k1.uniq x1
                  obtain ⟨rfl, rfl⟩ := k2.uniq x2
                  rcases k3 with ⟨k5, _⟩ | ⟨_, _, _, k4⟩
                  · rcases k5 with k5 | k5 | k5 <;> exact absurd rfl k5
                  · exact k4
                have g1 : ∀ i, i < n → fm r1 i = fF tag L i := fun i hi => by rw [E1.out]; exact (lgF_frame _ n F1.out i hi).2.1
                have g2 : ∀ i, i < n → fm r2 i = fF tag K i := fun i hi => by rw [E2.out]; exact (lgF_frame _ n F2.out i hi).2.1
                have HCL := Lib.hid hcl; have G1 := Lib.hid g1; have G2 := Lib.hid g2
                obtain ⟨ok, hok⟩ : ∃ ok, r.isSome = ok := ⟨_, rfl⟩
                rw [hok]
                have HOK := Lib.hid hok
                clear hb3 ho3 ho4 hr hcl g1 g2 hok d1 d2
                go_wp2
                go_loopw [12] (fun i wr => ∃ (k : Nat), k ≤ n ∧ i = .int .i64 ((k : Int) - 1) ∧ Hid (Below w3.heap.size w3 wr) ∧ Hid (∀ i, k ≤ i → i < n → mgF (fm r1) i = mgF (fm r2) i)) (fun i _ => (intOf i + 1).toNat)
                case atStart => exact ⟨n, Nat.le_refl _, rfl, Lib.hid (Below.refl _ _), Lib.hid (fun i h1 h2 => by omega)⟩
                case round =>
                  obtain ⟨k, hk2, rfl, HB, HS⟩ := hrel
                  have HBW := Lib.hid (HB3.out.trans (HB.out.mono HB3.out.size))
                  have hsz := HBW.out.size
                  by_cases hlt : 0 < k
                  · obtain ⟨i, rfl⟩ : ∃ i, k = i + 1 := ⟨k - 1, by omega⟩
                    have ei : (((i + 1 : Nat) : Int) - 1) = (i : Int) := by omega
                    rw [ei]
                    clear ei hlt
                    obtain ⟨u, hu⟩ : ∃ u, L[i]? = some u := ⟨L[i]'(by have := HLN.out; omega), List.getElem?_eq_getElem _⟩
                    obtain ⟨v, hv⟩ : ∃ v, K[i]? = some v := ⟨K[i]'(by have := HLN'.out; omega), List.getElem?_eq_getElem _⟩
                    have hen : en L i = u := by unfold en; rw [List.getD_eq_getElem?_getD, hu]; rfl
                    have hen' : en K i = v := by unfold en; rw [List.getD_eq_getElem?_getD, hv]; rfl
                    obtain ⟨b, off, hab, hbl, hcell⟩ := (H.out.below entStays HBW.out).at'.resolve_left (by omega)
                    obtain ⟨b', off', hab', hbl', hcell'⟩ := (H'.out.below entStays HBW.out).at'.resolve_left (by omega)
                    have hc := hcell i u hu
                    have hc' := hcell' i v hv
                    obtain ⟨xk, xa, xn, xc, xl⟩ := u
                    obtain ⟨yk, ya, yn, yc, yl⟩ := v
                    have HRD := Lib.hid hc.rd; have HRD' := Lib.hid hc'.rd
                    have hi : i < n := by omega
                    have hmx : ∀ t, t = ahd (fF tag L) i → mg t ((i : Int) + 1) xk xl = mgF (fm r1) i := fun t ht => by
                      rw [ht, mgF_congr G1.out hi, mgF]
                      show _ = mg (ahd (fF tag L) i) ((i + 1 : Nat) : Int) (en L i).k (en L i).l
                      rw [hen, show ((i + 1 : Nat) : Int) = (i : Int) + 1 by omega]
                    have hmy : ∀ t, t = ahd (fF tag K) i → mg t ((i : Int) + 1) yk yl = mgF (fm r2) i := fun t ht => by
                      rw [ht, mgF_congr G2.out hi, mgF]
                      show _ = mg (ahd (fF tag K) i) ((i + 1 : Nat) : Int) (en K i).k (en K i).l
                      rw [hen', show ((i + 1 : Nat) : Int) = (i : Int) + 1 by omega]
                    have HMX := Lib.hid hmx; have HMY := Lib.hid hmy
                    have hKeep : ∀ V : World, Below wr.heap.size wr V → V.cell? ⟨b, off + i * 2, none⟩ = some (.int .i64 xk) ∧ V.cell? ⟨b, off + i * 2 + 1, none⟩ = some (.slice xa xn xc) ∧ V.cell? ⟨b', off' + i * 2, none⟩ = some (.int .i64 yk) ∧ V.cell? ⟨b', off' + i * 2 + 1, none⟩ = some (.slice ya yn yc) := fun V hV => by
                      refine ⟨?_, ?_, ?_, ?_⟩
                      · rw [hV.cell (p := ⟨b, off + i * 2, none⟩) hbl]; exact hc.c0
                      · rw [hV.cell (p := ⟨b, off + i * 2 + 1, none⟩) hbl]; exact hc.c1
                      · rw [hV.cell (p := ⟨b', off' + i * 2, none⟩) hbl']; exact hc'.c0
                      · rw [hV.cell (p := ⟨b', off' + i * 2 + 1, none⟩) hbl']; exact hc'.c1
                    have Keep := Lib.hid hKeep
                    clear hc hc' hcell hcell' hu hv hen hen' hmx hmy hKeep
                    subst hab hab'
                    have z2 : (0 : Int) ≤ (i : Int) := by omega
                    have z3 : (i : Int) < (n : Int) := by omega
                    have hah : ∃ (a5 : Option Addr) (c5 : Nat) (t5 : List Int), t5 = ahd (fF tag L) i ∧ t5 = ahd (fF tag K) i ∧ True := ⟨none, 0, ahd (fF tag L) i, rfl, by unfold ahd; rfl, trivial⟩
                    clear hah
                    have hw5 : ∃ (w5 : World) (a5 : Option Addr) (c5 : Nat) (t5 : List Int), w5 = wr ∧ a5 = a0 ∧ c5 = c0 ∧ t5 = tag := ⟨_, _, _, _, rfl, rfl, rfl, rfl⟩
                    by_cases hi0 : i = 0
                    case' pos =>
                      have di : ((i : Int) == 0) = true := by rw [beq_iff_eq]; omega
                      have HI0 := Lib.hid hi0
                      clear hw5 hi0
                      go_wp2_with fail
                      refine (rfirst_any _).mono ?_
                      rintro e w5 ⟨a5, c5, rfl, ho5, hb5⟩
                      have HO5 := Lib.hid ho5.bytes; have HBB := Lib.hid hb5
                      obtain ⟨t5, ht5⟩ : ∃ t5, t5 = zt := ⟨_, rfl⟩
                      rw [← ht5] at HO5
                      have HA1 : Hid (t5 = ahd (fF tag L) i) := Lib.hid (by rw [ht5]; unfold ahd; rw [if_pos HI0.out])
                      have HA2 : Hid (t5 = ahd (fF tag K) i) := Lib.hid (by rw [ht5]; unfold ahd; rw [if_pos HI0.out])
                      clear ho5 hb5 ht5 HI0
                    case' neg =>
                      have di : ((i : Int) == 0) = false := by rw [beq_eq_false_iff_ne]; omega
                      obtain ⟨w5, a5, c5, t5, hw5, rfl, rfl, rfl⟩ := hw5
                      have HO5 : Hid (Bytes w5 a5 32 c5 t5) := by rw [hw5]; exact Lib.hid (H0.out.below HBW.out)
                      have HBB : Hid (Below wr.heap.size wr w5) := by rw [hw5]; exact Lib.hid (Below.refl _ _)
                      rw [← hw5]
                      have HA1 : Hid (t5 = ahd (fF t5 L) i) := Lib.hid (by unfold ahd; rw [if_neg hi0]; rfl)
                      have HA2 : Hid (t5 = ahd (fF t5 K) i) := Lib.hid (by unfold ahd; rw [if_neg hi0]; rfl)
                      clear hi0 hw5
                    all_goals
                      obtain ⟨e0, e1, e2, e3⟩ := Keep.out _ HBB.out
                      go_wp2_with fail
                      refine (rmessage_any _ _ _ t5 _ xk xa xn xc xl _ HO5.out (HRD.out.2.below HBB.out) HRD.out.1.1 HRD.out.1.2 (by omega) (by omega)).mono ?_
                      rintro e w6 ⟨hb6, a6, m6, c6, r6, rfl, ho6, hr6⟩
                      have hx6 : r6 = mgF (fm r1) i := by rw [hr6]; exact HMX.out t5 HA1.out
                      have HX6 := Lib.hid hx6; have HO6 := Lib.hid ho6.bytes
                      have HB6 := Lib.hid (HBB.out.trans (hb6.mono HBB.out.size)); have HO56 := Lib.hid (HO5.out.below hb6)
                      clear hb6 hr6 ho6 hx6 e0 e1 e2 e3
                      obtain ⟨e0, e1, e2, e3⟩ := Keep.out _ HB6.out
                      go_wp2_with fail
                      refine (rmessage_any _ _ _ t5 _ yk ya yn yc yl _ HO56.out (HRD'.out.2.below HB6.out) HRD'.out.1.1 HRD'.out.1.2 (by omega) (by omega)).mono ?_
                      rintro e w7 ⟨hb7, a7, m7, c7, r7, rfl, ho7, hr7⟩
                      have hx7 : r7 = mgF (fm r2) i := by rw [hr7]; exact HMY.out t5 HA2.out
                      have HX7 := Lib.hid hx7; have HO7 := Lib.hid ho7.bytes
                      have HB7 := Lib.hid (HB6.out.trans (hb7.mono HB6.out.size)); have HO67 := Lib.hid (HO6.out.below hb7)
                      clear hb7 hr7 ho7 hx7 e0 e1 e2 e3
                      go_wp2_with fail
                      refine (rsame_any _ _ _ r6 _ _ _ r7 _ HO67.out HO7.out).mono ?_
                      rintro e w8 ⟨rfl, m8, rfl⟩
                      have HB8 := Lib.hid (below_drewN HB7.out m8); have HO68 := Lib.hid (HO67.out.drewN m8); have HO78 := Lib.hid (HO7.out.drewN m8)
                      generalize w7.drewN m8 = w8 at *
                      by_cases hmm : r6 = r7
                      · have d : (r6 == r7) = true := by rw [beq_iff_eq]; exact hmm
                        rw [d]
                        have hS2 : ∀ q, i ≤ q → q < n → mgF (fm r1) q = mgF (fm r2) q := fun q h1 h2 => by
                          rcases Nat.lt_or_ge i q with h3 | h3
                          · exact HS.out q h3 h2
                          · obtain rfl : i = q := by omega
                            rw [← HX6.out, ← HX7.out, hmm]
                        have HS2 := Lib.hid hS2
                        clear hmm d hS2
                        go_wp2
                        go_roundw
                        case rel => exact ⟨i, by omega, rfl, Lib.hid (HB.out.trans (HB8.out.mono HB.out.size)), HS2⟩
                        case measure => simp [intOf]
                      · have d : (r6 == r7) = false := by rw [beq_eq_false_iff_ne]; exact hmm
                        rw [d]
                        have hcl2 : ClR (fm r1) (fm r2) n (some i) := ⟨by omega, by rw [G1.out i (by omega), G2.out i (by omega)]; rfl, by rw [← HX6.out, ← HX7.out]; exact hmm, fun q h1 h2 => ⟨by rw [G1.out q h2, G2.out q h2]; rfl, HS.out q h1 h2⟩⟩
                        obtain rfl := HCL.out.uniq hcl2
                        obtain rfl : true = ok := HOK.out
                        have HM3 : Hid (Bytes w8 a3 n3 c3 r6) := by rw [HX6.out]; exact Lib.hid ((HO3.out.below HB.out).below HB8.out)
                        have HM4 : Hid (Bytes w8 a4 n4 c4 r7) := by rw [HX7.out]; exact Lib.hid ((HO4.out.below HB.out).below HB8.out)
                        clear hcl2 hmm d HOK
                        go_wp2_with fail
                        refine (rsame_any _ _ _ r6 _ _ _ r6 _ HM3.out HO68.out).mono ?_
                        rintro e w9 ⟨rfl, m9, rfl⟩
                        rw [beq_self_eq_true]
                        go_wp2_with fail
                        refine (rsame_any _ _ _ r7 _ _ _ r7 _ (HM4.out.drewN m9) (HO78.out.drewN m9)).mono ?_
                        rintro e w10 ⟨rfl, m10, rfl⟩
                        rw [beq_self_eq_true]
                        have HB10 := Lib.hid (HBW.out.trans ((below_drewN (below_drewN HB8.out m9) m10).mono hsz))
                        generalize (w8.drewN m9).drewN m10 = w10 at *
                        go_wp2_with fail
                        refine (awake_any _).mono ?_
                        rintro e w11 ⟨rfl, hb11⟩
                        go_wp2
                        go_ret
                        exact ⟨rfl, HB10.out.trans (hb11.mono HB10.out.size)⟩
                  · obtain rfl : k = 0 := by omega
                    have hcl2 : ClR (fm r1) (fm r2) n none := .inl (fun q hq => ⟨by rw [G1.out q hq, G2.out q hq]; rfl, HS.out q (Nat.zero_le _) hq⟩)
                    obtain rfl := HCL.out.uniq hcl2
                    obtain rfl : false = ok := HOK.out
                    clear hcl2 hlt HOK
                    go_wp2_with fail
                    refine (awake_any _).mono ?_
                    rintro e w5 ⟨rfl, hb5⟩
                    go_wp2
                    go_ret
                    exact ⟨rfl, HBW.out.trans (hb5.mono HBW.out.size)⟩
              · have e2 : r2 = [] := by rw [HR2.out, HLN'.out, if_neg hE']
                have q2 := HO2.out.len
                rw [e2] at q2
                obtain rfl : m2 = 0 := by simpa using q2.symm
                have d2 : (((0 : Nat) : Int) == 0) = true := by simp
                have c1m := HO12.out.cap; have c1x := HO12.out.most
                clear hE hE' e2 q2
                by_cases hm1 : m1 = 0
                · subst hm1
                  go_wp2_with fail
                  refine (awake_any _).mono ?_
                  rintro e w5 ⟨rfl, hb5⟩
                  go_wp2
                  go_ret
                  exact ⟨rfl, HB2.out.trans (hb5.mono HB2.out.size)⟩
                · have d1 : ((m1 : Int) == 0) = false := by rw [beq_eq_false_iff_ne]; omega
                  go_wp2_with fail
                  refine (awake_any _).mono ?_
                  rintro e w5 ⟨rfl, hb5⟩
                  go_wp2
                  go_ret
                  exact ⟨rfl, HB2.out.trans (hb5.mono HB2.out.size)⟩
            · have e1 : r1 = [] := by rw [HR1.out, HLN.out, if_neg hE]
              have q1 := HO12.out.len
              rw [e1] at q1
              obtain rfl : m1 = 0 := by simpa using q1.symm
              clear hE e1 q1
              go_wp2_with fail
              refine (awake_any _).mono ?_
              rintro e w5 ⟨rfl, hb5⟩
              go_wp2
              go_ret
              exact ⟨rfl, HB2.out.trans (hb5.mono HB2.out.size)⟩
          · have d : ((n0 : Int) != 32) = true := by rw [bne_iff_ne]; omega
            go_wp2_with fail
            refine (awake_any _).mono ?_
            rintro e w1 ⟨rfl, hb1⟩
            go_wp2
            go_ret
            exact ⟨rfl, hb1⟩
        · have d : ((n : Int) != (n' : Int)) = true := by rw [bne_iff_ne]; omega
          go_wp2_with fail
          refine (awake_any _).mono ?_
          rintro e w1 ⟨rfl, hb1⟩
          go_wp2
          go_ret
          exact ⟨rfl, hb1⟩

end Go.Proofs.Ytejhncdempfmjaa.ch
