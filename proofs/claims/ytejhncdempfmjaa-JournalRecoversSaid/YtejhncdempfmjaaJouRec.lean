/-
  Layer 49: the walk of the statement on what is there behind a crash.
-/
import Derived.Test.YtejhncdempfmjaaJouNil
import Derived.Test.YtejhncdempfmjaaJouPre
namespace Go.Proofs.Ytejhncdempfmjaa.jo
open Go.ChangeShapes Go.WideShapes Go.ChangeAt Go.RowKit
open bs en ch
open Go.Proofs.Ytejhncdempfmjaa.sh (tagB ptag_any rtag_any)
open Go.Proofs.Ytejhncdempfmjaa.dv (Dev clampN kept apE APd DPost)
set_option linter.unusedVariables false

/-- Two numbers, an array by value. -/
structure TwoV where
  p : Int
  q : Int
def TwoV.val (x : TwoV) : Value := .agg #[.int .i64 x.p, .int .i64 x.q]
def TwoV.Rd (x : TwoV) (w : World) : Prop := (-9223372036854775808 ≤ x.p ∧ x.p ≤ 9223372036854775807) ∧ (-9223372036854775808 ≤ x.q ∧ x.q ≤ 9223372036854775807)
set_option maxRecDepth 100000 in
theorem open_two {H : Type} {enc : TypeId × Value → H} {w : World} {r : Reach} {b0 : Nat} {v : Value} {d : DataW H} {p : List MemPlace}
    (hv : Value.okWide Try.prog w r b0 71 v) (h : DataW.Trod enc Try.prog w 0 (fun _ => true) true 71 v d p) : ∃ x : TwoV, v = x.val ∧ x.Rd w := by
  have hc : Try.prog.cellsOf 71 = 2 := by kernel_rfl
  have h1 : Try.prog.cellsOf 3 = 1 := by kernel_rfl
  simp only [Value.okWide, Try.underlying71] at hv
  obtain ⟨cs, rfl, hsz, _⟩ := hv
  rw [hc] at hsz
  obtain ⟨fuel, hf⟩ := h
  obtain ⟨xs, m, _, _, _, hl, hel⟩ := DataW.trod_array Try.underlying71 hf
  obtain ⟨l⟩ := cs
  match l, hsz with
  | [v0, v1], _ =>
    match xs, hl with
    | [y0, y1], _ =>
      have g0 := hel 0 (by decide)
      have g1 := hel 1 (by decide)
      simp [h1, Value.cells] at g0 g1
      obtain ⟨z0, e0, _, w0⟩ := DataW.trod_int Try.underlying3 g0
      obtain ⟨z1, e1, _, w1⟩ := DataW.trod_int Try.underlying3 g1
      simp only [List.cons.injEq, and_true] at e0 e1
      subst e0 e1
      exact ⟨⟨z0, z1⟩, rfl, in64 w0, in64 w1⟩

/-- The first frames lie where they did. -/
theorem add_at {key l : List Int} (ha : AllB l) {n : Nat} (h : EntE key l n 0) (x : List Int) (hx : AllB x) {j : Nat} (hj : j ≤ n) : atF (l ++ x) j = atF l j := by
  have ht : (l ++ x).take l.length = l := List.take_left
  have hall : AllB (l ++ x) := fun z hz => (List.mem_append.1 hz).elim (ha z) (hx z)
  have := (up_take hall (q := l.length) (by rw [List.length_append]; omega) n (by rw [ht]; exact h.1)).2.1 j hj
  rw [ht] at this
  exact this.symm
theorem recs_first {w : World} {a : Option Addr} {n c : Nat} {L : List Ent} (h : Recs 2 EntAt w a n c L) (k : Nat) (hk : k ≤ n) : Recs 2 EntAt w a k c (L.take k) := by
  have hl := h.len; have hc := h.cap
  refine ⟨by rw [List.length_take]; omega, by omega, h.most, h.nil, ?_⟩
  rcases h.at' with h0 | ⟨b, off, ha, hb, hcell⟩
  · left; omega
  · refine .inr ⟨b, off, ha, hb, fun i x hi => ?_⟩
    rw [List.getElem?_take] at hi
    split at hi
    · exact hcell i x hi
    · cases hi
/-- The log's frames tell the entries. -/
def Tl (l : List Int) (L : List Ent) (k : Nat) : Prop := ∀ i, i < k → (fm l i).k = (en L i).k ∧ (fm l i).b = (en L i).l
theorem tl_alk {l : List Int} {L : List Ent} {n j : Nat} (h : Tl l L j) (hj : j ≤ n) {K : List Fw} (hK : ch.Told K (fm l)) (hn : K.length = j) : Alk (K.map Fw.e) (L.take j) := fun i x y hx hy => by
  rw [List.getElem?_map] at hx
  obtain ⟨u, hu, rfl⟩ := Option.map_eq_some_iff.1 hx
  have h1 := hK i u hu
  have hi : i < j := by rw [← hn]; exact (List.getElem?_eq_some_iff.1 hu).1
  have hen : en L i = y := by
    rw [List.getElem?_take, if_pos hi] at hy
    unfold en; rw [List.getD_eq_getElem?_getD, hy]; rfl
  have h2 := h i hi
  rw [hen] at h2
  exact ⟨by rw [h1.k, h2.1], by rw [h1.b, h2.2]⟩
theorem frB_all {k : Int} {b t : List Int} (hk : 0 ≤ k ∧ k ≤ 255) (hb : AllB b) (ht : AllB t) (hl : b.length ≤ 1024) : AllB (frB k b t) := by
  intro z hz
  unfold frB at hz
  simp only [List.mem_append, List.mem_cons, List.not_mem_nil, or_false] at hz
  rcases hz with (rfl | rfl | rfl | rfl) | (rfl | hz) | hz
  · omega
  · omega
  · omega
  · omega
  · exact hk
  · exact hb z hz
  · exact ht z hz

set_option maxRecDepth 100000 in
set_option maxHeartbeats 4000000 in
theorem law_recovers (a0 : Option Addr) (n0 c0 : Nat) (key : List Int) (a : Option Addr) (n c : Nat) (L : List Ent) (p q : Int) (w : World) (h0 : Bytes w a0 n0 c0 key) (h : Recs 2 EntAt w a n c L) (p0 : -9223372036854775808 ≤ p) (p1 : p ≤ 9223372036854775807) (q0 : -9223372036854775808 ≤ q) (q1 : q ≤ 9223372036854775807) :
    Calls Try.prog 9 #[.slice a0 n0 c0, .slice a n c, .agg #[.int .i64 p, .int .i64 q]] w fun e w' => e = .returned (.bool true) ∧ Below w.heap.size w w' := by
  have hcap := h.cap; have hmost := h.most; have hcap0 := h0.cap; have hmost0 := h0.most
  have hW0 : Below w.heap.size w (w.alloc (.cells #[.int .i64 p, .int .i64 q] 71)) := (Below.refl _ _).alloc (Nat.le_refl _) _
  have H0 := Lib.hid (h0.below hW0); have H := Lib.hid (h.below entStays hW0); have HLN := Lib.hid h.len
  have Q0 := Lib.hid q0; have Q1 := Lib.hid q1
  have hX : Blk (w.alloc (.cells #[.int .i64 p, .int .i64 q] 71)) w.heap.size #[.int .i64 p, .int .i64 q] 71 := Blk.new w _ _
  have HW0 := Lib.hid hW0; have HX := Lib.hid hX
  clear h0 h q0 q1 hW0 hX
  go_enter Try.func9, Try.ntmps9
  go_wp2_with fail
  generalize w.alloc (.cells #[.int .i64 p, .int .i64 q] 71) = W at H0 H HW0 HX ⊢
  refine (large_any a n c L _ H.out).mono ?_
  rintro e w1 ⟨bb, rfl, rfl, hbb⟩
  have hws := HW0.out.size
  cases bb with
  | true =>
    clear hbb
    go_wp2_with fail
    refine (awake_any _).mono ?_
    rintro e w1 ⟨rfl, hb1⟩
    go_wp2
    go_ret
    exact ⟨rfl, HW0.out.trans (hb1.mono HW0.out.size)⟩
  | false =>
    have hn := hbb rfl
    clear hbb
    by_cases hk : 100 < n0
    · go_wp2_with fail
      refine (awake_any _).mono ?_
      rintro e w1 ⟨rfl, hb1⟩
      go_wp2
      go_ret
      exact ⟨rfl, HW0.out.trans (hb1.mono HW0.out.size)⟩
    · go_wp2_with fail
      refine (dv.new_any 65536 _ (by omega) (by omega)).mono ?_
      rintro e w1 ⟨rfl, hd, hb1⟩
      have hc6 : clampN 65536 65536 = 65536 := by decide
      rw [hc6] at hd
      have HD := Lib.hid hd; have HB1 := Lib.hid hb1
      clear hd hb1 hc6
      go_wp2_with fail
      refine (open_any HD.out HB1.out.size a0 n0 c0 key (H0.out.below HB1.out) (by omega)).mono ?_
      rintro e w2 ⟨jb, cnt, E, he, rfl, hge, ht, hj⟩
      obtain ⟨rfl, rfl⟩ := he.uniq (ente_nil key)
      have hB2 : Below W.heap.size W w2 := HB1.out.trans (ht.below HB1.out.size (fun i hi => by rw [hi]; exact Nat.le_refl _))
      have hj' : Jou w2 W.heap.size jb W.heap.size 65536 (atF [] 0) none key [] 0 := hj
      have HJ := Lib.hid hj'; have HB2 := Lib.hid hB2
      clear he hge ht hj hj' hB2 HD HB1
      go_wp2
      go_loopw [9, 10] (fun su i wr => ∃ (k sr : Nat) (ra : Option Nat) (l : List Int), k ≤ n ∧ sr ≤ k ∧ i = .int .i64 k ∧ su = .int .i64 sr ∧ Hid (Jou wr W.heap.size jb W.heap.size 65536 (atF l sr) ra key l k) ∧ Hid (Below W.heap.size W wr) ∧ Hid (Tl l L k) ∧ Hid (l.length ≤ 1061 * k)) (fun _ i _ => n - (intOf i).toNat)
      case atStart => exact ⟨0, 0, none, [], by omega, by omega, rfl, rfl, HJ, HB2, Lib.hid (fun i hi => absurd hi (Nat.not_lt_zero i)), Lib.hid (by simp)⟩
      case round =>
        clear HJ HB2
        obtain ⟨k, sr, ra, l, hk2, hsr, rfl, rfl, HJ, HB, HT, HLE⟩ := hrel
        by_cases hlt : k < n
        · obtain ⟨x, hx⟩ : ∃ x, L[k]? = some x := ⟨L[k]'(by have := HLN.out; omega), List.getElem?_eq_getElem _⟩
          have hen : en L k = x := by unfold en; rw [List.getD_eq_getElem?_getD, hx]; rfl
          obtain ⟨b, off, hab, hbl, hcell⟩ := (H.out.below entStays HB.out).at'.resolve_left (by omega)
          obtain ⟨e0, e1, hrd⟩ := hcell k x hx
          obtain ⟨xk, xa, xn, xc, xl⟩ := x
          dsimp only at e0 e1
          have HRD := Lib.hid hrd; have HEN := Lib.hid hen
          clear hcell hx hrd hen
          subst hab
          go_wp2_with fail
          refine (append_any HJ.out HB.out.size xk xa xn xc xl HRD.out.2 HRD.out.1.1 HRD.out.1.2).mono ?_
          rintro e w3 ⟨rfl, ht3, hok, hno⟩
          have HB3 := Lib.hid (HB.out.trans (ht3.below HB.out.size (fun i hi => (HJ.out.footGe hi).1)))
          have HOK := Lib.hid hok
          obtain ⟨E3, hE3⟩ : ∃ E3, jE 65536 l xk xl = E3 := ⟨_, rfl⟩
          rw [hE3]
          have HE3 := Lib.hid hE3
          have hHB3 := HB3.out.size
          clear ht3 hok hno hE3 e0 e1
          by_cases hz : E3 = 0
          · subst hz
            obtain ⟨ra', hj3, _⟩ := HOK.out HE3.out
            have hpay : payE xk xl.length = 0 := by
              by_cases hp : payE xk xl.length = 0
              · exact hp
              · have := HE3.out
                unfold jE at this
                rw [if_neg hp] at this
                exact absurd this hp
            obtain ⟨g1, g2, g3⟩ := add_right HJ.out.all HJ.out.right hpay
            have hfit := pay_fit (t := zt) hpay zt_len
            have hfall : AllB (frB xk xl (nxT key l k xk xl)) := fun z hz => hj3.all z (List.mem_append_right _ hz)
            have hat : ∀ j, j ≤ k → atF (l ++ frB xk xl (nxT key l k xk xl)) j = atF l j := fun j hj => add_at HJ.out.all HJ.out.right _ hfall hj
            have htl : Tl (l ++ frB xk xl (nxT key l k xk xl)) L (k + 1) := fun i hi => by
              rcases Nat.lt_or_ge i k with h5 | h5
              · rw [g2 i h5]; exact HT.out i h5
              · obtain rfl : i = k := by omega
                rw [g3, HEN.out]; exact ⟨rfl, rfl⟩
            have hll : (l ++ frB xk xl (nxT key l k xk xl)).length ≤ 1061 * (k + 1) := by
              have h5 := HLE.out
              have h6 := hfit.1
              have h7 : xl.length ≤ 1024 := h6
              rw [List.length_append, frB_len, nxT_len]
              omega
            have hatE := ente_at hj3.all hj3.right
            rw [← hat sr hsr] at hj3
            have HJ3 := Lib.hid hj3; have HTL := Lib.hid htl; have HLL := Lib.hid hll; have HAT := Lib.hid hatE
            have x0 : w3.cell? ⟨w.heap.size, 0, none⟩ = some (.int .i64 p) := (HX.out.below HB3.out).cell 0
            clear hj3 hpay g1 g2 g3 hfit hfall hat htl hll hatE
            generalize l ++ frB xk xl (nxT key l k xk xl) = l' at HJ3 HTL HLL HAT HOK
            by_cases hkp : (k : Int) = p
            · have d : ((k : Int) == p) = true := by rw [beq_iff_eq]; exact hkp
              go_wp2_with fail
              refine (jsync_any HJ3.out).mono ?_
              rintro e w4 ⟨rfl, ht4, hj4⟩
              have HB4 := Lib.hid (HB3.out.trans (ht4.below HB3.out.size (fun i hi => (HJ3.out.footGe hi).1)))
              rw [← HAT.out] at hj4
              have HJ4 := Lib.hid hj4
              clear ht4 hj4 x0
              go_wp2
              go_roundw
              case rel => exact ⟨k + 1, k + 1, ra', l', by omega, by omega, by go_num, by go_num, HJ4, HB4, HTL, HLL⟩
              case measure => simp [intOf]; omega
            · have d : ((k : Int) == p) = false := by rw [beq_eq_false_iff_ne]; exact hkp
              go_wp2
              go_roundw
              case rel => exact ⟨k + 1, sr, ra', l', by omega, by omega, by go_num, rfl, HJ3, HB3, HTL, HLL⟩
              case measure => simp [intOf]; omega
          · have d : (E3 != 0) = true := by rw [bne_iff_ne]; exact hz
            clear hz
            go_wp2_with fail
            refine (awake_any _).mono ?_
            rintro e w4 ⟨rfl, hb4⟩
            go_wp2
            go_ret
            exact ⟨rfl, HW0.out.trans ((HB3.out.trans (hb4.mono HB3.out.size)).mono hws)⟩
        · obtain rfl : k = n := by omega
          have x1 : wr.cell? ⟨w.heap.size, 1, none⟩ = some (.int .i64 q) := (HX.out.below HB.out).cell 1
          have hall := HJ.out.all
          have hright := HJ.out.right
          obtain ⟨⟨da, dc, ta, tc, ka, kn, kc, h1, h2, h3, h4, h5, h6, h7, h8⟩, hr, hg⟩ := HJ.out
          have HD := Lib.hid h3; have HALL := Lib.hid hall; have HR := Lib.hid hright
          have hsz := HB.out.size
          clear h1 h2 h3 h4 h5 h6 h7 h8 hr hg hall hright HJ
          go_wp2_with fail
          refine (dv.crash_any HD.out q Q0.out Q1.out).mono ?_
          rintro e w3 ⟨rfl, ht3, hd3⟩
          have hB3 : Below W.heap.size W w3 := HB.out.trans ((Tn.of_turned ht3).below hsz (fun i hi => by
            rcases hi with hi | hi
            · rw [hi]; exact Nat.le_refl _
            · cases hi))
          have HD3 := Lib.hid hd3; have HB3 := Lib.hid hB3
          clear ht3 hd3 hB3 x1
          obtain ⟨kp, hkp⟩ : ∃ kp, kept q (atF l sr) l.length = kp := ⟨_, rfl⟩
          rw [hkp] at HD3
          have hkp1 : atF l sr ≤ kp := by rw [← hkp]; unfold kept; omega
          have hkp2 : kp ≤ l.length := by
            have h9 := dv.clampN_le q (l.length - atF l sr)
            have h10 := HD.out.le
            rw [← hkp]; unfold kept; omega
          clear hkp HD
          go_wp2_with fail
          refine (open_any HD3.out HB3.out.size a0 n0 c0 key (H0.out.below HB3.out) (by omega)).mono ?_
          rintro e w4 ⟨jb2, cnt2, E2, he, rfl, hge, ht, hj⟩
          have hB4 : Below W.heap.size W w4 := HB3.out.trans (ht.below HB3.out.size (fun i hi => by rw [hi]; exact Nat.le_refl _))
          obtain ⟨m1, m2, m3⟩ := cut_any_right HALL.out HR.out hkp2 hsr hkp1 he
          have hall' : AllB (l.take kp) := fun z hz => HALL.out z (List.mem_of_mem_take hz)
          obtain ⟨_, m5, _⟩ := cut_right hall' he
          have hlen2 : ((l.take kp).take (atF (l.take kp) cnt2)).length ≤ 1061 * k := by
            have h9 := HLE.out
            rw [List.length_take, List.length_take]
            omega
          have htl : Tl ((l.take kp).take (atF (l.take kp) cnt2)) L cnt2 := fun i hi => by
            rw [m5 i hi, m3 i hi]; exact HT.out i (by omega)
          have HJ4 := Lib.hid hj; have HB4 := Lib.hid hB4; have HTL := Lib.hid htl; have HLL := Lib.hid hlen2
          clear he hge ht hj hB4 m3 hall' m5 hlen2 htl HD3
          generalize (l.take kp).take (atF (l.take kp) cnt2) = l2 at HJ4 HTL HLL
          generalize min kp (atF (l.take kp) cnt2) = s2 at HJ4
          generalize blockOf da = ra2 at HJ4
          have d1 : decide (cnt2 < sr) = false := decide_eq_false (by omega)
          have d2 : decide (k < cnt2) = false := decide_eq_false (by omega)
          go_wp2_with fail
          refine (count_any HJ4.out).mono ?_
          rintro e w5 ⟨rfl, rfl⟩
          go_wp2_with fail
          refine (count_any HJ4.out).mono ?_
          rintro e w5 ⟨rfl, rfl⟩
          go_wp2_with fail
          refine (jentries_any HJ4.out).mono ?_
          rintro e w5 ⟨hb5, K, al, cl, rfl, hK, hO, hTo⟩
          have HB5 := Lib.hid (HB4.out.trans (hb5.mono HB4.out.size)); have HJ5 := Lib.hid (HJ4.out.below hb5)
          have HK := Lib.hid (recs_map (own_ent hK hO)); have HAL := Lib.hid (tl_alk HTL.out m2 hTo hK.num)
          clear hb5 hK hO hTo
          go_wp2_with fail
          refine (count_any HJ5.out).mono ?_
          rintro e w6 ⟨rfl, rfl⟩
          have hcn : cnt2 ≤ c := by omega
          go_wp2_with fail
          refine (alike_eq _ _ _ _ _ _ _ _ HK.out (recs_first (H.out.below entStays HB5.out) cnt2 m2) HAL.out).mono ?_
          rintro e w7 ⟨rfl, hb7⟩
          have HB7 := Lib.hid (HB5.out.trans (hb7.mono HB5.out.size)); have HJ7 := Lib.hid (HJ5.out.below hb7)
          clear hb7
          go_wp2_with fail
          refine (log_any HJ7.out).mono ?_
          rintro e w8 ⟨a8, c8, rfl, ho8, hb8⟩
          have HB8 := Lib.hid (HB7.out.trans (hb8.mono HB7.out.size)); have HJ8 := Lib.hid (HJ7.out.below hb8); have HO8 := Lib.hid ho8.bytes
          clear ho8 hb8
          go_wp2_with fail
          refine (count_any HJ8.out).mono ?_
          rintro e w9 ⟨rfl, rfl⟩
          go_wp2_with fail
          refine (jtag_any HJ8.out).mono ?_
          rintro e w10 ⟨a10, c10, rfl, ho10, hb10⟩
          have HB10 := Lib.hid (HB8.out.trans (hb10.mono HB8.out.size)); have HJ10 := Lib.hid (HJ8.out.below hb10); have HO10 := Lib.hid ho10.bytes; have HO810 := Lib.hid (HO8.out.below hb10)
          clear ho10 hb10
          have hfit2 := HJ10.out.fit
          go_wp2_with fail
          refine (rverify_any a0 n0 c0 key a8 l2.length c8 l2 (cnt2 : Int) a10 32 c10 _ _ (H0.out.below HB10.out) HO810.out HO10.out (by omega) (by omega)).mono ?_
          rintro e w11 ⟨hb11, m11, E11, he11, rfl⟩
          obtain ⟨rfl, rfl⟩ := HJ10.out.right.uniq he11
          have hv : vf key l2 cnt2 0 (cnt2 : Int) (ahd (fm l2) cnt2) = true := by unfold vf; rw [decide_eq_true_iff]; exact ⟨rfl, rfl, rfl⟩
          rw [hv]
          have HB11 := Lib.hid (HB10.out.trans (hb11.mono HB10.out.size)); have HJ11 := Lib.hid (HJ10.out.below hb11)
          clear hb11 he11 hv d1 d2
          go_wp2_with fail
          refine (count_any HJ11.out).mono ?_
          rintro e w12 ⟨rfl, rfl⟩
          have hbn : Below w11.heap.size w11 (w11.alloc (.cells #[.int .u8 5] 5)) := (Below.refl _ _).alloc (Nat.le_refl _) _
          have HJ12 := Lib.hid (HJ11.out.below hbn); have HB12 := Lib.hid (HB11.out.trans (hbn.mono HB11.out.size))
          have HO12 := Lib.hid (Bytes.one w11 5 5 (by omega))
          have hje : jE 65536 l2 1 [5] = 0 := by
            unfold jE
            rw [if_pos (by decide)]
            unfold apE
            rw [if_neg (by simp), if_neg (by have := HLL.out; simp; omega)]
          have HJE := Lib.hid hje
          clear hbn hje
          go_wp2_with fail
          refine (append_any HJ12.out HB12.out.size 1 _ 1 1 [5] HO12.out (by omega) (by omega)).mono ?_
          rintro e w13 ⟨rfl, ht13, hok, _⟩
          rw [HJE.out]
          obtain ⟨ra3, hj13, _⟩ := hok HJE.out
          have HB13 := Lib.hid (HB12.out.trans (ht13.below HB12.out.size (fun i hi => (HJ12.out.footGe hi).1)))
          have hll3 : (l2 ++ frB 1 [5] (nxT key l2 cnt2 1 [5])).length ≤ 100000 := by
            have := HLL.out
            rw [List.length_append, frB_len, nxT_len]
            simp
            omega
          have HJ13 := Lib.hid hj13; have HL3 := Lib.hid hll3
          clear ht13 hok hj13 hll3
          generalize l2 ++ frB 1 [5] (nxT key l2 cnt2 1 [5]) = l3 at HJ13 HL3
          have hl3 := HL3.out
          go_wp2_with fail
          refine (count_any HJ13.out).mono ?_
          rintro e w14 ⟨rfl, rfl⟩
          have dd2 : (((cnt2 + 1 : Nat) : Int) == (cnt2 : Int) + 1) = true := by rw [beq_iff_eq]; omega
          go_wp2_with fail
          refine (log_any HJ13.out).mono ?_
          rintro e w15 ⟨a15, c15, rfl, ho15, hb15⟩
          have HB15 := Lib.hid (HB13.out.trans (hb15.mono HB13.out.size)); have HJ15 := Lib.hid (HJ13.out.below hb15); have HO15 := Lib.hid ho15.bytes
          clear ho15 hb15
          go_wp2_with fail
          refine (jtag_any HJ15.out).mono ?_
          rintro e w16 ⟨a16, c16, rfl, ho16, hb16⟩
          have HB16 := Lib.hid (HB15.out.trans (hb16.mono HB15.out.size)); have HJ16 := Lib.hid (HJ15.out.below hb16); have HO16 := Lib.hid ho16.bytes; have HO1516 := Lib.hid (HO15.out.below hb16)
          clear ho16 hb16
          have e17 : ((cnt2 : Int) + 1) = ((cnt2 + 1 : Nat) : Int) := by omega
          have E17 := Lib.hid e17
          clear e17 dd2
          go_wp2_with fail
          rw [E17.out]
          refine (rverify_any a0 n0 c0 key a15 l3.length c15 l3 ((cnt2 + 1 : Nat) : Int) a16 32 c16 _ _ (H0.out.below HB16.out) HO1516.out HO16.out (by omega) hl3).mono ?_
          rintro e w17 ⟨hb17, m17, E17', he17, rfl⟩
          obtain ⟨rfl, rfl⟩ := HJ16.out.right.uniq he17
          have hv : vf key l3 (cnt2 + 1) 0 ((cnt2 + 1 : Nat) : Int) (ahd (fm l3) (cnt2 + 1)) = true := by unfold vf; rw [decide_eq_true_iff]; exact ⟨rfl, rfl, rfl⟩
          rw [hv]
          have HB17 := Lib.hid (HB16.out.trans (hb17.mono HB16.out.size))
          clear hb17 he17 hv
          go_wp2_with fail
          refine (awake_any _).mono ?_
          rintro e w18 ⟨rfl, hb18⟩
          go_wp2
          go_ret
          exact ⟨rfl, HW0.out.trans ((HB17.out.trans (hb18.mono HB17.out.size)).mono hws)⟩

end Go.Proofs.Ytejhncdempfmjaa.jo
