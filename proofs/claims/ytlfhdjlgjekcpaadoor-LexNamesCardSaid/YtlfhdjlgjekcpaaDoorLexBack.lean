/-
  Layer 5: LexBack.
-/
import Derived.Test.YtlfhdjlgjekcpaaDoorLexJoin
namespace Go.Proofs.YtlfhdjlgjekcpaaDoor.lx
open Go.ChangeShapes Go.WideShapes Go.ChangeAt Go.RowKit
open bs
set_option linter.unusedVariables false

theorem bl_eq : (⟨#[32]⟩ : ByteArray) = bl := rfl
theorem app_right_nil (a : ByteArray) : a ++ (⟨#[]⟩ : ByteArray) = a := by
  apply txt_inj
  rw [txt_app]
  simp [txt]
theorem spell_end (s : ByteArray) : spell (tkEnd s) = ⟨#[]⟩ := spell_3 (by show ¬ ((5 : Int) = 1 ∨ (5 : Int) = 3 ∨ (5 : Int) = 4); decide) (by show ¬ ((5 : Int) = 2); decide)
theorem was_num {x : Tk} (h : Was x) : -9223372036854775808 ≤ x.n ∧ x.n ≤ 9223372036854775807 := by
  obtain ⟨s, i, _, hi, ho⟩ := h
  exact on_num hi ho

set_option maxRecDepth 100000 in
set_option maxHeartbeats 8000000 in
theorem law_back (s : ByteArray) (w : World) (hG : Gl w) (hmax : s.size ≤ 9223372036854775807) : Calls Tryd.prog 4 #[.string s] w (Good w) := by
  have HG := Lib.hid hG
  clear hG
  go_enter Tryd.func4, Tryd.ntmps4
  go_wp2_with fail
  refine (tokens_any s w HG.out hmax).mono ?_
  obtain ⟨r, hr⟩ : ∃ r, tokens s = r := ⟨_, rfl⟩
  have HR := Lib.hid hr
  rw [hr]
  clear hr
  obtain ⟨L, m, z⟩ := r
  rintro e w1 ⟨a, n, c, rfl, hk, hb⟩
  dsimp only at hk ⊢
  have HK := Lib.hid hk; have HB := Lib.hid hb
  have hcap := hk.cap; have hmost := hk.most
  clear hk hb
  by_cases hz : z = 0
  · subst hz
    have hch := tokens_ch HR.out
    obtain ⟨hs8, hch⟩ := hch
    have hlen := HK.out.len
    have hll := ch_len hch (by omega)
    obtain ⟨M, hM, hwas⟩ := ch_was hs8 hch
    subst hM
    rw [List.length_append] at hlen hll
    have hn1 : n = M.length + 1 := hlen.symm
    have hn3 : n ≤ 100000 := by simp at hll; omega
    subst hn1
    have HWAS := Lib.hid hwas
    have hm8 : M.length ≤ 8192 := by simp at hll; omega
    clear hch hlen hll hwas HR
    go_wp2_with fail
    go_loopw [6, 7] (fun o j wr => ∃ (k : Nat), k ≤ M.length + 1 ∧ j = .int .i64 k ∧ o = .string (jn M (min k M.length)) ∧ Hid (Below w1.heap.size w1 wr)) (fun _ j _ => M.length + 1 - (intOf j).toNat)
    case atStart => exact ⟨0, by omega, rfl, by rw [Nat.zero_min]; rfl, Lib.hid (Below.refl _ _)⟩
    case round =>
      obtain ⟨k, hk, rfl, rfl, HBr⟩ := hrel
      by_cases hlt : k < M.length + 1
      · obtain ⟨b, off, x, rfl, hbl, hx, x0, x1, x2, x3, x4⟩ := ks_at (HK.out.below ks_stays HBr.out) hlt
        have HGr := Lib.hid ((HG.out.below HB.out).below HBr.out)
        obtain ⟨xk, xn, xs, xf, xt⟩ := x
        dsimp only at x0 x1 x2 x3 x4
        have hc1 : ((M.length + 1 : Nat) : Int) - 1 = ((M.length : Nat) : Int) := by omega
        by_cases hkm : k < M.length
        · have hmin : min k M.length = k := by omega
          have hmin2 : min (k + 1) M.length = k + 1 := by omega
          rw [hmin]
          have hxm : M[k]? = some ⟨xk, xn, xs, xf, xt⟩ := by rw [← hx, List.getElem?_append_left hkm]
          have hnn := was_num (HWAS.out _ (List.mem_of_getElem? hxm))
          have hj := jn_at hxm
          have hvs := was_size (HWAS.out _ (List.mem_of_getElem? hxm))
          have hus := jn_size M HWAS.out k
          rw [← hmin2] at hj
          have HSP := Lib.hid (spell_any ⟨xk, xn, xs, xf, xt⟩ wr HGr.out hnn.1 hnn.2)
          obtain ⟨v, hv⟩ : ∃ v, spell ⟨xk, xn, xs, xf, xt⟩ = v := ⟨_, rfl⟩
          rw [hv] at hj HSP hvs
          obtain ⟨u, hu⟩ : ∃ u, jn M k = u := ⟨_, rfl⟩
          rw [hu] at hj hus ⊢
          have a1 : ¬ 9223372036854775807 < u.size + v.size := by omega
          have a2 : ¬ 9223372036854775807 < u.size + 1 := by omega
          have a3 : ¬ 9223372036854775807 < u.size + 1 + v.size := by omega
          clear hxm hx hv hu hnn hmin hmin2
          by_cases h0 : k = 0
          · rw [if_pos h0] at hj
            have HJ := Lib.hid hj
            have d0 : decide ((0 : Int) < k) = false := decide_eq_false (by omega)
            have e0 : decide (0 < k) = false := decide_eq_false (by omega)
            clear hj h0
            go_wp2_with fail
            refine (HSP.out).mono ?_
            rintro e w2 ⟨rfl, hb2⟩
            have HB2 := Lib.hid (HBr.out.trans (hb2.mono HBr.out.size))
            clear hb2
            go_wp2
            go_roundw
            case rel => exact ⟨k + 1, by omega, by go_num, by rw [HJ.out], HB2⟩
            case measure => simp [intOf]; omega
          · rw [if_neg h0] at hj
            have HJ := Lib.hid hj
            have d0 : decide ((0 : Int) < k) = true := decide_eq_true (by omega)
            have e0 : decide (0 < k) = true := decide_eq_true (by omega)
            have d1 : decide ((k : Int) < ((M.length + 1 : Nat) : Int) - 1) = true := decide_eq_true (by omega)
            have d2 : decide (k < M.length) = true := decide_eq_true hkm
            have d3 : decide ((k : Int) < (M.length : Int)) = true := decide_eq_true (by omega)
            clear hj h0
            go_wp2_with fail
            refine (HSP.out).mono ?_
            rintro e w2 ⟨rfl, hb2⟩
            have HB2 := Lib.hid (HBr.out.trans (hb2.mono HBr.out.size))
            clear hb2
            go_wp2
            go_roundw
            case rel => exact ⟨k + 1, by omega, by go_num, by rw [HJ.out]; rfl, HB2⟩
            case measure => simp [intOf]; omega
        · have hkm2 : k = M.length := by omega
          subst hkm2
          rw [Nat.min_self]
          have hxe : (⟨xk, xn, xs, xf, xt⟩ : Tk) = tkEnd s := by
            rw [List.getElem?_append_right (Nat.le_refl _), Nat.sub_self] at hx
            exact (Option.some.inj hx).symm
          have HSP := Lib.hid (show Calls Tryd.prog 11 #[.agg #[.int .i64 xk, .int .i64 xn, .string xs, .int .i64 xf, .int .i64 xt]] wr (StP ⟨#[]⟩ wr) from by
            have h := spell_any ⟨xk, xn, xs, xf, xt⟩ wr HGr.out (by rw [hxe]; show (-9223372036854775808 : Int) ≤ 0; omega) (by rw [hxe]; show (0 : Int) ≤ 9223372036854775807; omega)
            rw [show spell ⟨xk, xn, xs, xf, xt⟩ = ⟨#[]⟩ from by rw [hxe]; exact spell_end s] at h
            exact h)
          have hmin2 : min (M.length + 1) M.length = M.length := by omega
          have HMIN := Lib.hid hmin2
          obtain ⟨u, hu⟩ : ∃ u, jn M M.length = u := ⟨_, rfl⟩
          have HU := Lib.hid hu
          have hus := jn_size M HWAS.out M.length
          rw [hu] at hus ⊢
          have a1 : ¬ 9223372036854775807 < u.size := by omega
          clear hx hxe hmin2 hu
          have d1 : decide (((M.length : Nat) : Int) < ((M.length + 1 : Nat) : Int) - 1) = false := decide_eq_false (by omega)
          have d2 : decide (M.length < M.length) = false := decide_eq_false (by omega)
          have d3 : decide ((M.length : Int) < (M.length : Int)) = false := decide_eq_false (by omega)
          by_cases h0 : M.length = 0
          · have d0 : decide ((0 : Int) < (M.length : Nat)) = false := decide_eq_false (by omega)
            have e0 : decide (0 < M.length) = false := decide_eq_false (by omega)
            have H0 := Lib.hid h0
            clear h0
            go_wp2_with fail
            refine (HSP.out).mono ?_
            rintro e w2 ⟨rfl, hb2⟩
            have HB2 := Lib.hid (HBr.out.trans (hb2.mono HBr.out.size))
            clear hb2
            go_wp2
            go_roundw
            case rel => exact ⟨M.length + 1, by omega, by go_num, by rw [HMIN.out, HU.out, app_right_nil], HB2⟩
            case measure => simp [intOf]
          · have d0 : decide ((0 : Int) < (M.length : Nat)) = true := decide_eq_true (by omega)
            have e0 : decide (0 < M.length) = true := decide_eq_true (by omega)
            have H0 := Lib.hid h0
            clear h0
            go_wp2_with fail
            refine (HSP.out).mono ?_
            rintro e w2 ⟨rfl, hb2⟩
            have HB2 := Lib.hid (HBr.out.trans (hb2.mono HBr.out.size))
            clear hb2
            go_wp2
            go_roundw
            case rel => exact ⟨M.length + 1, by omega, by go_num, by rw [HMIN.out, HU.out, app_right_nil], HB2⟩
            case measure => simp [intOf]
      · obtain rfl : k = M.length + 1 := by omega
        have hmin : min (M.length + 1) M.length = M.length := by omega
        rw [hmin]
        have HBR := Lib.hid (HB.out.trans (HBr.out.mono HB.out.size))
        have HKr := Lib.hid (HK.out.below ks_stays HBr.out)
        have hJT := jn_tokens M HWAS.out
        obtain ⟨o, ho⟩ : ∃ o, jn M M.length = o := ⟨_, rfl⟩
        rw [ho] at hJT ⊢
        have HJT := Lib.hid hJT
        clear hmin ho hJT
        by_cases h8 : 8192 < o.size
        · have d8 : decide ((8192 : Int) < o.size) = true := decide_eq_true (by omega)
          clear h8
          go_wp2_with fail
          refine (awake_any _ (HG.out.below HBR.out)).mono ?_
          rintro e w4 ⟨rfl, hb4⟩
          have HB4 := Lib.hid (HBR.out.trans (hb4.mono HBR.out.size))
          clear hb4
          go_wp2
          go_ret
          exact ⟨rfl, HB4.out⟩
        · have d8 : decide ((8192 : Int) < o.size) = false := decide_eq_false (by omega)
          obtain ⟨L', hl, hal, hto⟩ := HJT.out (by omega)
          have HL := Lib.hid hl; have HAL := Lib.hid hal; have HTO := Lib.hid hto
          have ho9 : o.size ≤ 9223372036854775807 := by omega
          clear h8 hl hal hto
          go_wp2_with fail
          refine (tokens_any o wr (HG.out.below HBR.out) ho9).mono ?_
          rw [HTO.out]
          rintro e w2 ⟨a', n', c', rfl, hk', hb2⟩
          dsimp only at hk' ⊢
          have hn' : n' = M.length + 1 := by rw [← hk'.len, List.length_append, HL.out]; rfl
          subst hn'
          have HK' := Lib.hid hk'; have HK2 := Lib.hid (HKr.out.below ks_stays hb2); have HB2 := Lib.hid (HBR.out.trans (hb2.mono HBR.out.size))
          have hcap' := hk'.cap; have hmost' := hk'.most
          have dn : (((M.length + 1 : Nat) : Int) != ((M.length + 1 : Nat) : Int)) = false := bne_self_eq_false _
          clear hk' hb2 HKr HBr HK
          go_wp2_with fail
          go_loopw [10] (fun j V => ∃ (k d : Nat), k ≤ M.length + 1 ∧ j = .int .i64 k ∧ V = w2.drewN d) (fun j _ => M.length + 1 - (intOf j).toNat)
          case atStart => exact ⟨0, 0, by omega, rfl, rfl⟩
          case round =>
            obtain ⟨k, d, hk, rfl, rfl⟩ := hrel
            by_cases hlt : k < M.length + 1
            · obtain ⟨b, off, x, hab, hbl, hx, x0, x1, x2, x3, x4⟩ := ks_at HK2.out hlt
              obtain ⟨b', off', y, hab', hbl', hy, y0, y1, y2, y3, y4⟩ := ks_at HK'.out hlt
              subst hab
              subst hab'
              have halk : Alk y x := by
                rcases Nat.lt_or_ge k M.length with h | h
                · rw [List.getElem?_append_left h] at hx
                  rw [List.getElem?_append_left (by rw [HL.out]; exact h)] at hy
                  exact HAL.out k y x hy hx
                · have hkm : k = M.length := by omega
                  rw [hkm, List.getElem?_append_right (Nat.le_refl _), Nat.sub_self] at hx
                  rw [hkm, List.getElem?_append_right (by rw [HL.out]; exact Nat.le_refl _), HL.out, Nat.sub_self] at hy
                  rw [← Option.some.inj hx, ← Option.some.inj hy]
                  exact ⟨rfl, rfl, rfl⟩
              obtain ⟨xk, xn, xs, xf, xt⟩ := x
              obtain ⟨yk, yn, ys, yf, yt⟩ := y
              obtain ⟨e1, e2, e3⟩ := halk
              dsimp only at x0 x1 x2 x3 x4 y0 y1 y2 y3 y4 e1 e2 e3
              subst e1
              subst e2
              subst e3
              have dk : (yk != yk) = false := bne_self_eq_false _
              have dn2 : (yn != yn) = false := bne_self_eq_false _
              have ds : (ys.toList == ys.toList) = true := by simp
              have ds2 : (ys.toList != ys.toList) = false := by simp
              clear hx hy x3 x4 y3 y4
              go_wp2_with fail
              go_quiet (fail)
              go_wp2
              go_roundw
              case rel => exact ⟨k + 1, _, by omega, by go_num, rfl⟩
              case measure => simp [intOf]; omega
            · have HBd := Lib.hid (below_drewN HB2.out d)
              go_wp2_with fail
              refine (awake_any _ (HG.out.below HBd.out)).mono ?_
              rintro e w4 ⟨rfl, hb4⟩
              have HB4 := Lib.hid (HBd.out.trans (hb4.mono HBd.out.size))
              clear hb4
              go_wp2
              go_ret
              exact ⟨rfl, HB4.out⟩
  · have d2 : (z != 0) = true := by rw [bne_iff_ne]; exact hz
    clear hz
    go_wp2_with fail
    refine (awake_any _ (HG.out.below HB.out)).mono ?_
    rintro e w4 ⟨rfl, hb4⟩
    have HB4 := Lib.hid (HB.out.trans (hb4.mono HB.out.size))
    clear hb4
    go_wp2
    go_ret
    exact ⟨rfl, HB4.out⟩
end Go.Proofs.YtlfhdjlgjekcpaaDoor.lx
