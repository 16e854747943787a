/-
  Layer 49: the walk of the statement on what a device has no room for.
-/
import Derived.Test.YtejhncdempfmjaaJouNil
namespace Go.Proofs.Ytejhncdempfmjaa.jo
open Go.ChangeShapes Go.WideShapes Go.ChangeAt Go.RowKit
open bs en ch
open Go.Proofs.Ytejhncdempfmjaa.sh (tagB ptag_any rtag_any)
open Go.Proofs.Ytejhncdempfmjaa.dv (Dev clampN kept apE APd DPost)
set_option linter.unusedVariables false

set_option maxRecDepth 100000 in
set_option maxHeartbeats 4000000 in
theorem law_full (a0 : Option Addr) (n0 c0 : Nat) (key : List Int) (rm : Int) (a : Option Addr) (n c : Nat) (L : List Ent) (w : World) (h0 : Bytes w a0 n0 c0 key) (r0 : -9223372036854775808 ≤ rm) (r1 : rm ≤ 9223372036854775807) (h : Recs 2 EntAt w a n c L) :
    Calls Try.prog 10 #[.slice a0 n0 c0, .int .i64 rm, .slice a n c] w fun e w' => e = .returned (.bool true) ∧ Below w.heap.size w w' := by
  have hcap := h.cap; have hmost := h.most; have hcap0 := h0.cap; have hmost0 := h0.most
  have H0 := Lib.hid h0; have H := Lib.hid h; have HLN := Lib.hid h.len
  have R0 := Lib.hid r0; have R1 := Lib.hid r1
  clear h0 h r0 r1
  go_enter Try.func10, Try.ntmps10
  go_wp2_with fail
  refine (large_any a n c L _ H.out).mono ?_
  rintro e w1 ⟨bb, rfl, rfl, hbb⟩
  cases bb with
  | true =>
    clear hbb
    go_wp2_with fail
    refine (awake_any _).mono ?_
    rintro e w1 ⟨rfl, hb1⟩
    go_wp2
    go_ret
    exact ⟨rfl, hb1⟩
  | false =>
    have hn := hbb rfl
    clear hbb
    by_cases hk : 100 < n0
    · go_wp2_with fail
      refine (awake_any _).mono ?_
      rintro e w1 ⟨rfl, hb1⟩
      go_wp2
      go_ret
      exact ⟨rfl, hb1⟩
    · go_wp2_with fail
      refine (dv.new_any rm _ R0.out R1.out).mono ?_
      rintro e w1 ⟨rfl, hd, hb1⟩
      have HD := Lib.hid hd; have HB1 := Lib.hid hb1
      clear hd hb1
      go_wp2_with fail
      refine (open_any HD.out HB1.out.size a0 n0 c0 key (H0.out.below HB1.out) (by omega)).mono ?_
      rintro e w2 ⟨jb, cnt, E, he, rfl, hge, ht, hj⟩
      have hB2 : Below w.heap.size w w2 := HB1.out.trans (ht.below HB1.out.size (fun i hi => by rw [hi]; exact Nat.le_refl _))
      have HJ := Lib.hid hj; have HB2 := Lib.hid hB2
      clear he hge ht hj hB2
      generalize clampN rm 65536 = room at HJ HD
      generalize min 0 (atF [] cnt) = s0 at HJ
      generalize ([] : List Int).take (atF [] cnt) = l0 at HJ
      go_wp2
      go_loopw [8] (fun i wr => ∃ (k : Nat) (s : Nat) (ra : Option Nat) (l : List Int) (cnt : Nat), k ≤ n ∧ i = .int .i64 k ∧ Hid (Jou wr w.heap.size jb w.heap.size room s ra key l cnt) ∧ Hid (Below w.heap.size w wr)) (fun i _ => n - (intOf i).toNat)
      case atStart => exact ⟨0, s0, _, l0, cnt, by omega, rfl, HJ, HB2⟩
      case round =>
        clear HJ HB2 HD HB1
        obtain ⟨k, s, ra, l, cnt, hk2, rfl, HJ, HB⟩ := hrel
        by_cases hlt : k < n
        · have hfit := HJ.out.fit
          go_wp2_with fail
          refine (log_any HJ.out).mono ?_
          rintro e w3 ⟨a3, c3, rfl, ho3, hb3⟩
          have HO3 := Lib.hid ho3; have HJ3 := Lib.hid (HJ.out.below hb3); have HB3 := Lib.hid (HB.out.trans (hb3.mono HB.out.size)); have HBr3 := Lib.hid hb3
          clear ho3 hb3
          go_wp2_with fail
          refine (jtag_any HJ3.out).mono ?_
          rintro e w4 ⟨a4, c4, rfl, ho4, hb4⟩
          have HO34 := Lib.hid (HO3.out.below hb4); have HO4 := Lib.hid (ho4.mono HBr3.out.size); have HJ4 := Lib.hid (HJ3.out.below hb4); have HB4 := Lib.hid (HB3.out.trans (hb4.mono HB3.out.size)); have HBr4 := Lib.hid (HBr3.out.trans (hb4.mono HBr3.out.size))
          clear ho4 hb4
          go_wp2_with fail
          refine (count_any HJ4.out).mono ?_
          rintro e w5 ⟨rfl, rfl⟩
          obtain ⟨x, hx⟩ : ∃ x, L[k]? = some x := ⟨L[k]'(by have := HLN.out; omega), List.getElem?_eq_getElem _⟩
          obtain ⟨b, off, hab, hbl, hcell⟩ := (H.out.below entStays HB4.out).at'.resolve_left (by omega)
          obtain ⟨e0, e1, hrd⟩ := hcell k x hx
          obtain ⟨xk, xa, xn, xc, xl⟩ := x
          dsimp only at e0 e1
          have HRD := Lib.hid hrd
          clear hcell hx hrd
          subst hab
          go_wp2_with fail
          refine (append_any HJ4.out HB4.out.size xk xa xn xc xl HRD.out.2 HRD.out.1.1 HRD.out.1.2).mono ?_
          rintro e w6 ⟨rfl, ht6, hok, hno⟩
          have hfoot : ∀ i, foot jb w.heap.size ra i → i < wr.heap.size := fun i hi => (HJ.out.footGe hi).2
          have HO36 := Lib.hid ((ht6.own HO34.out (fun i hi hp => by have := (HO34.out.blockLt hi).1; have := hfoot i hp; omega)).bytes)
          have HO46 := Lib.hid ((ht6.own HO4.out (fun i hi hp => by have := (HO4.out.blockLt hi).1; have := hfoot i hp; omega)).bytes)
          have HB6 := Lib.hid (HB4.out.trans (ht6.below HB4.out.size (fun i hi => (HJ.out.footGe hi).1)))
          have HOK := Lib.hid hok; have HNO := Lib.hid hno
          obtain ⟨E6, hE6⟩ : ∃ E6, jE room l xk xl = E6 := ⟨_, rfl⟩
          rw [hE6]
          have HE6 := Lib.hid hE6
          clear ht6 hok hno hE6 e0 e1 hfoot
          by_cases hz : E6 = 0
          · subst hz
            obtain ⟨ra', hj', _⟩ := HOK.out HE6.out
            have HJ6 := Lib.hid hj'
            clear hj'
            go_wp2_with fail
            refine (count_any HJ6.out).mono ?_
            rintro e w7 ⟨rfl, rfl⟩
            have dn : (((cnt + 1 : Nat) : Int) != (cnt : Int) + 1) = false := by simp
            have hc9 : cnt ≤ 100000 := by omega
            go_wp2
            go_roundw
            case rel => exact ⟨k + 1, s, ra', _, cnt + 1, by omega, by go_num, HJ6, HB6⟩
            case measure => simp [intOf]; omega
          · have d : (E6 != 0) = true := by rw [bne_iff_ne]; exact hz
            have d' : (E6 == 0) = false := by rw [beq_eq_false_iff_ne]; exact hz
            obtain ⟨ra', hj', _⟩ := HNO.out (by rw [HE6.out]; exact hz)
            have HJ6 := Lib.hid hj'
            clear hj' hz
            go_wp2_with fail
            refine (log_any HJ6.out).mono ?_
            rintro e w7 ⟨a7, c7, rfl, ho7, hb7⟩
            have HO7 := Lib.hid ho7.bytes; have HO37 := Lib.hid (HO36.out.below hb7); have HO47 := Lib.hid (HO46.out.below hb7); have HJ7 := Lib.hid (HJ6.out.below hb7); have HB7 := Lib.hid (HB6.out.trans (hb7.mono HB6.out.size))
            clear ho7 hb7
            go_wp2_with fail
            refine (rsame_any _ _ _ l _ _ _ l _ HO7.out HO37.out).mono ?_
            rintro e w8 ⟨rfl, m8, rfl⟩
            rw [beq_self_eq_true]
            have HO48 := Lib.hid (HO47.out.drewN m8); have HJ8 := Lib.hid (HJ7.out.drewN m8); have HB8 := Lib.hid (below_drewN HB7.out m8)
            generalize w7.drewN m8 = w8 at *
            go_wp2_with fail
            refine (jtag_any HJ8.out).mono ?_
            rintro e w9 ⟨a9, c9, rfl, ho9, hb9⟩
            have HO9 := Lib.hid ho9.bytes; have HO49 := Lib.hid (HO48.out.below hb9); have HJ9 := Lib.hid (HJ8.out.below hb9); have HB9 := Lib.hid (HB8.out.trans (hb9.mono HB8.out.size))
            clear ho9 hb9
            go_wp2_with fail
            refine (rsame_any _ _ _ (ahd (fm l) cnt) _ _ _ (ahd (fm l) cnt) _ HO9.out HO49.out).mono ?_
            rintro e w10 ⟨rfl, m10, rfl⟩
            rw [beq_self_eq_true]
            have HJ10 := Lib.hid (HJ9.out.drewN m10); have HB10 := Lib.hid (below_drewN HB9.out m10)
            generalize w9.drewN m10 = w10 at *
            go_wp2_with fail
            refine (count_any HJ10.out).mono ?_
            rintro e w11 ⟨rfl, rfl⟩
            have dn : ((cnt : Int) != (cnt : Int)) = false := by simp
            go_wp2
            go_roundw
            case rel => exact ⟨k + 1, s, ra', l, cnt, by omega, by go_num, HJ10, HB10⟩
            case measure => simp [intOf]; omega
        · obtain rfl : k = n := by omega
          go_wp2_with fail
          refine (awake_any _).mono ?_
          rintro e w3 ⟨rfl, hb3⟩
          go_wp2
          go_ret
          exact ⟨rfl, HB.out.trans (hb3.mono HB.out.size)⟩

end Go.Proofs.Ytejhncdempfmjaa.jo
