/-
  Layer 5: LexSpells.
-/
import Derived.Test.YtlfhdjlgjekcpaaDoorLexSpell
namespace Go.Proofs.YtlfhdjlgjekcpaaDoor.lx
open Go.ChangeShapes Go.WideShapes Go.ChangeAt Go.RowKit
open bs
set_option linter.unusedVariables false

theorem cells5 {w : World} {b o : Nat} {x : Tk} : (w.cell? ⟨b, o, none⟩ = some (.int .i64 x.k) ∧ w.cell? ⟨b, o + 1, none⟩ = some (.int .i64 x.n) ∧ w.cell? ⟨b, o + 2, none⟩ = some (.string x.s) ∧ w.cell? ⟨b, o + 3, none⟩ = some (.int .i64 x.f) ∧ w.cell? ⟨b, o + 4, none⟩ = some (.int .i64 x.t)) → ∀ V, b < w.heap.size → Below w.heap.size w V →
    V.cell? ⟨b, o, none⟩ = some (.int .i64 x.k) ∧ V.cell? ⟨b, o + 1, none⟩ = some (.int .i64 x.n) ∧ V.cell? ⟨b, o + 2, none⟩ = some (.string x.s) ∧ V.cell? ⟨b, o + 3, none⟩ = some (.int .i64 x.f) ∧ V.cell? ⟨b, o + 4, none⟩ = some (.int .i64 x.t) := fun ⟨h0, h1, h2, h3, h4⟩ V hb hV =>
  ⟨by rw [hV.cell (p := ⟨b, o, none⟩) hb]; exact h0, by rw [hV.cell (p := ⟨b, o + 1, none⟩) hb]; exact h1, by rw [hV.cell (p := ⟨b, o + 2, none⟩) hb]; exact h2, by rw [hV.cell (p := ⟨b, o + 3, none⟩) hb]; exact h3, by rw [hV.cell (p := ⟨b, o + 4, none⟩) hb]; exact h4⟩

theorem tokens_ch {s : ByteArray} {L : List Tk} {m : Nat} (h : tokens s = (L, m, 0)) : s.size ≤ 8192 ∧ Ch s 0 L := by
  unfold tokens at h
  split at h
  · exact absurd (Prod.mk.inj (Prod.mk.inj h).2).2 (by decide)
  · exact ⟨by omega, ch_of s _ 0 m L (Nat.le_refl _) (by omega) h⟩
theorem ch_len {s : ByteArray} {i : Nat} {L : List Tk} (h : Ch s i L) (hi : i ≤ s.size) : L.length ≤ s.size - i + 1 := by
  induction h with
  | fin i h => simp
  | step i j x L h ho ht h' ih =>
    obtain ⟨j', hf, ht', hij, hj, _⟩ := on_spell h ho
    have hnx := nx_le hi
    have : j' = j := by rw [ht] at ht'; omega
    subst this
    have := ih hj
    rw [List.length_cons]
    omega

set_option maxRecDepth 100000 in
set_option maxHeartbeats 8000000 in
theorem law_spells (s : ByteArray) (w : World) (hG : Gl w) (hmax : s.size ≤ 9223372036854775807) : Calls Tryd.prog 5 #[.string s] w (Good w) := by
  have HG := Lib.hid hG
  clear hG
  go_enter Tryd.func5, Tryd.ntmps5
  go_wp2_with fail
  refine (tokens_any s w HG.out hmax).mono ?_
  obtain ⟨r, hr⟩ : ∃ r, tokens s = r := ⟨_, rfl⟩
  have HR := Lib.hid hr
  rw [hr]
  clear hr
  obtain ⟨L, m, z⟩ := r
  rintro e w1 ⟨a, n, c, rfl, hk, hb⟩
  dsimp only at hk ⊢
  have HK := Lib.hid hk; have HB := Lib.hid hb
  have hcap := hk.cap; have hmost := hk.most
  clear hk hb
  by_cases hz : z = 0
  · subst hz
    have hch := tokens_ch HR.out
    obtain ⟨hs8, hch⟩ := hch
    have hm : s.size ≤ 100000 := by omega
    have hlen := HK.out.len
    have hll := ch_len hch (by omega)
    obtain ⟨M, hM⟩ := ch_last hch
    have hn1 : n = M.length + 1 := by rw [← hlen, hM, List.length_append]; rfl
    have HMM := Lib.hid hM
    have HCH := Lib.hid hch; have HLEN := Lib.hid hlen; have HN1 := Lib.hid hn1
    have hn3 : n ≤ 100000 := by omega
    have hpos : 0 < n := by omega
    clear hch hM hlen hll hn1
    go_wp2_with fail
    go_loopw [6, 7] (fun at' j wr => ∃ (k p : Nat), k ≤ n ∧ j = .int .i64 k ∧ at' = .int .i64 p ∧ p ≤ s.size ∧ Hid (Below w1.heap.size w1 wr) ∧ Hid (k = n ∨ Ch s p (L.drop k))) (fun _ j _ => n - (intOf j).toNat)
    case atStart => exact ⟨0, 0, by omega, rfl, rfl, by omega, Lib.hid (Below.refl _ _), Lib.hid (.inr (by rw [List.drop_zero]; exact HCH.out))⟩
    case round =>
      obtain ⟨k, p, hk, rfl, rfl, hp, HBr, HC⟩ := hrel
      by_cases hlt : k < n
      · have hch := HC.out.resolve_left (by omega)
        obtain ⟨b, off, x, rfl, hbl, hx, x0, x1, x2, x3, x4⟩ := ks_at (HK.out.below ks_stays HBr.out) hlt
        obtain ⟨hkl, hxe⟩ := List.getElem?_eq_some_iff.1 hx
        rw [List.drop_eq_getElem_cons hkl, hxe] at hch
        obtain ⟨i, j, hf, ht, hpi, hij, hj, hsp, hn0, hnm, hnext⟩ := ch_at hch hp
        obtain ⟨xk, xn, xs, xf, xt⟩ := x
        dsimp only at x0 x1 x2 x3 x4 hf ht hn0 hnm
        subst hf
        subst ht
        have hsl := slice_txt2 s i j hij hj hm
        have KQ := Lib.hid (fun V hV => cells5 (x := ⟨xk, xn, xs, i, j⟩) ⟨x0, x1, x2, x3, x4⟩ V hbl hV)
        have K0 : Hid (Below wr.heap.size wr wr.drew) := Below.drew (Below.refl _ _)
        have KR : Hid (Below wr.heap.size wr wr) := Below.refl _ _
        have HGW : Hid (∀ V, Below wr.heap.size wr V → Gl V) := Lib.hid (fun V hV => ((HG.out.below HB.out).below HBr.out).below hV)
        have HSPA := Lib.hid (show ∀ V, Below wr.heap.size wr V → Calls Tryd.prog 11 #[.agg #[.int .i64 xk, .int .i64 xn, .string xs, .int .i64 i, .int .i64 j]] V (StP (s.extract i j) V) from fun V hV => by
          have h := spell_any ⟨xk, xn, xs, i, j⟩ V (HGW.out V hV) hn0 hnm
          rw [← hsp] at h
          exact h)
        obtain ⟨v, hv⟩ : ∃ v, s.extract i j = v := ⟨_, rfl⟩
        rw [hv] at hsl HSPA
        have d1 : decide ((i : Int) < p) = false := decide_eq_false (by omega)
        have d2 : decide ((j : Int) < i) = false := decide_eq_false (by omega)
        have d3 : decide ((s.size : Int) < j) = false := decide_eq_false (by omega)
        have n1 : decide (i < p) = false := decide_eq_false (by omega)
        have n2 : decide (j < i) = false := decide_eq_false (by omega)
        have n3 : decide (s.size < j) = false := decide_eq_false (by omega)
        have de : (v.toList == v.toList) = true := by simp
        have dne : (v.toList != v.toList) = false := by simp
        have HNX : Hid (k + 1 = n ∨ Ch s j (L.drop (k + 1))) := Lib.hid (hnext.imp (fun h => by
          have := congrArg List.length h
          rw [List.length_drop, HLEN.out] at this
          simp at this
          omega) id)
        clear hch hx hkl hxe hsp hn0 hnm hnext hv x0 x1 x2 x3 x4
        have q := KQ.out wr KR.out
        obtain ⟨q0, q1, q2, q3, q4⟩ := q
        go_wp2_with fail
        go_region_held3 (fun V => V.cell? ⟨b, off + k * 5, none⟩ = some (.int .i64 xk) ∧ V.cell? ⟨b, off + k * 5 + 1, none⟩ = some (.int .i64 xn) ∧ V.cell? ⟨b, off + k * 5 + 2, none⟩ = some (.string xs) ∧ V.cell? ⟨b, off + k * 5 + 3, none⟩ = some (.int .i64 i) ∧ V.cell? ⟨b, off + k * 5 + 4, none⟩ = some (.int .i64 j))
          (with_reducible first | exact KQ.out _ KR.out | exact KQ.out _ K0.out | exact KQ.out _ KA.out)
          (first
            | (go_at_call 11; (with_reducible refine (HSPA.out _ K0.out).mono ?_); rintro e wa ⟨rfl, hba⟩; have KA : Hid (Below wr.heap.size wr wa) := K0.out.trans (hba.mono K0.out.size); clear hba))
        have HBA := Lib.hid (HBr.out.trans (KA.out.mono HBr.out.size))
        have q := KQ.out wa KA.out
        obtain ⟨r0, r1, r2, r3, r4⟩ := q
        clear KQ K0 KR KA HGW HSPA q0 q1 q2 q3 q4
        go_wp2
        go_roundw
        case rel => exact ⟨k + 1, j, by omega, by go_num, rfl, hj, HBA, HNX⟩
        case measure => simp [intOf]; omega
      · have hkn : k = n := by omega
        have hn := HN1.out
        have hmn : M.length < n := by omega
        obtain ⟨b, off, x, rfl, hbl, hx, x0, x1, x2, x3, x4⟩ := ks_at (HK.out.below ks_stays HBr.out) hmn
        have hxe : x = tkEnd s := by
          rw [HMM.out, List.getElem?_append_right (Nat.le_refl _), Nat.sub_self] at hx
          exact (Option.some.inj hx).symm
        subst hxe
        have hk5 : (tkEnd s).k = 5 := rfl
        rw [hk5] at x0
        have hc1 : (n : Int) - 1 = ((M.length : Nat) : Int) := by omega
        have hc2 : decide ((0 : Int) < n) = true := decide_eq_true (by omega)
        have hc3 : decide (0 < n) = true := decide_eq_true (by omega)
        subst hkn
        have HC1 := Lib.hid hc1
        clear x1 x2 x3 x4 hx HC HMM HN1 hn
        go_wp2_with fail
        refine (awake_any _ ((HG.out.below HB.out).below HBr.out)).mono ?_
        rintro e w4 ⟨rfl, hb4⟩
        have HB4 := Lib.hid (HB.out.trans ((HBr.out.trans (hb4.mono HBr.out.size)).mono HB.out.size))
        clear hb4
        go_wp2
        go_ret
        exact ⟨rfl, HB4.out⟩
  · have d2 : (z != 0) = true := by rw [bne_iff_ne]; exact hz
    clear hz
    go_wp2_with fail
    refine (awake_any _ (HG.out.below HB.out)).mono ?_
    rintro e w4 ⟨rfl, hb4⟩
    have HB4 := Lib.hid (HB.out.trans (hb4.mono HB.out.size))
    clear hb4
    go_wp2
    go_ret
    exact ⟨rfl, HB4.out⟩
end Go.Proofs.YtlfhdjlgjekcpaaDoor.lx
