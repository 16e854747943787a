/-
  Layer 5: LexNames.
-/
import Derived.Test.YtlfhdjlgjekcpaaDoorLexBack
import Derived.Test.YtlfhdjlgjekcpaaDoorLexRDig
import Derived.Test.YtlfhdjlgjekcpaaDoorLexIsName
namespace Go.Proofs.YtlfhdjlgjekcpaaDoor.lx
open Go.ChangeShapes Go.WideShapes Go.ChangeAt Go.RowKit
open bs
set_option linter.unusedVariables false

theorem wf64 {z : Int} (h : (Lit.int .i64 z).wf = true) : -9223372036854775808 ≤ z ∧ z ≤ 9223372036854775807 := by simpa [Lit.wf, IntKind.min, IntKind.max, IntKind.signed, IntKind.bits] using h
theorem numT_size {n : Int} (h0 : -9223372036854775808 ≤ n) (h1 : n ≤ 9223372036854775807) : (numT n).size ≤ 21 := by
  unfold numT
  rw [mk_size]
  exact Lib.itoa_length_le n (by omega) (by omega)
theorem tokens_num (u : Nat) (h : u < 9223372036854775808) : tokens (numT (u : Int)) = ([⟨2, u, ⟨#[]⟩, 0, ((numT (u : Int)).size : Nat)⟩, tkEnd (numT (u : Int))], 0, 0) := by
  have hsz := numT_size (n := (u : Int)) (by omega) (by omega)
  have hnum := num_dec u h
  have hdg := dec_dig u
  have hne := dec_ne u
  have he := numT_nat u
  have hlen : (numT (u : Int)).size = (Lib.decDigits u).length := by rw [he, mk_size]
  have hpos : 0 < (Lib.decDigits u).length := List.length_pos_iff.2 hne
  have hB : ∀ k, k < (numT (u : Int)).size → 48 ≤ B (numT (u : Int)) k ∧ B (numT (u : Int)) k ≤ 57 := by
    intro k hk
    rw [hlen] at hk
    rw [he, b_mk _ k hk]
    have := hdg _ (List.getElem_mem hk)
    omega
  rw [← he] at hnum
  obtain ⟨s, hs⟩ : ∃ s, numT (u : Int) = s := ⟨_, rfl⟩
  rw [hs] at hsz hnum hB hlen ⊢
  clear hs he hdg hne
  have h0 := hB 0 (by omega)
  have hD : ∀ k, k < s.size → isD (B s k) = true := fun k hk => decide_eq_true (hB k hk)
  have hL0 : isL (B s 0) = false := decide_eq_false (by omega)
  have hb0 : isB (B s 0) = false := decide_eq_false (by omega)
  have hc0 : at' s 0 cc = false := by
    cases hc : at' s 0 cc with
    | false => rfl
    | true => exact absurd (cc_at hc).2 (by omega)
  have hnx : nx s 0 = 0 := nx_stop hb0 hc0
  have hrun : run isD s 0 = s.size := run_eq (Nat.zero_le _) (Nat.le_refl _) (fun j _ hj => hD j hj) (Or.inl rfl)
  have hex : s.extract 0 s.size = s := ByteArray.extract_zero_size
  have hon := tk_number (s := s) (i := 0) (n := (u : Int)) hL0 (hD 0 (by omega)) (by rw [hrun, hex]; exact hnum)
  rw [hrun] at hon
  unfold tokens
  rw [if_neg (by omega), ← app_nil (toks s 0), app_step (by rw [hnx]; omega) (Nat.zero_le _) (by rw [hnx, hon])]
  rw [hnx, hon]
  show app [_] (toks s s.size) = _
  rw [app_end (by rw [nx_end (Nat.le_refl _)]; exact Nat.le_refl _)]
  rfl

set_option maxRecDepth 100000 in
set_option maxHeartbeats 8000000 in
theorem law_names (s : ByteArray) (n : Int) (w : World) (hG : Gl w) (hmax : s.size ≤ 9223372036854775807) (h0 : -9223372036854775808 ≤ n) (h1 : n ≤ 9223372036854775807) : Calls Tryd.prog 6 #[.string s, .int .i64 n] w (Good w) := by
  have HG := Lib.hid hG
  have HI := Lib.hid (fun V => isname_any s V hmax)
  have HRI := Lib.hid (fun V => risname_any s V hmax)
  have HD := Lib.hid (fun V (hV : Below w.heap.size w V) => digits_any n V (hG.below hV) h0 h1)
  have HRD := Lib.hid (fun V => rdigits_any n.natAbs n V (Nat.le_refl _) h0 h1)
  have HT := Lib.hid (fun (h : ¬ n < 0) => show tokens (numT n) = ([⟨2, n, ⟨#[]⟩, 0, ((numT n).size : Nat)⟩, tkEnd (numT n)], 0, 0) by
    have := tokens_num n.toNat (by omega)
    rw [show ((n.toNat : Nat) : Int) = n by omega] at this
    exact this)
  have hsz := numT_size h0 h1
  obtain ⟨b, hb⟩ : ∃ b, nm s = b := ⟨_, rfl⟩
  obtain ⟨v, hv⟩ : ∃ v, numT n = v := ⟨_, rfl⟩
  rw [hb] at HI HRI
  rw [hv] at HD HRD HT hsz
  have de : (v.toList == v.toList) = true := by simp
  have dne : (v.toList != v.toList) = false := by simp
  have be : (b != b) = false := bne_self_eq_false _
  have HW0 : Hid (Below w.heap.size w w) := Below.refl _ _
  clear hG hb hv h0 h1
  go_enter Tryd.func6, Tryd.ntmps6
  go_wp2_with fail
  refine (HI.out w).mono ?_
  rintro e w1 ⟨rfl, hb1⟩
  have HB1 := Lib.hid hb1
  clear hb1
  go_wp2_with fail
  refine (HRI.out w1).mono ?_
  rintro e w2 ⟨rfl, hb2⟩
  have HB2 := Lib.hid (HB1.out.trans (hb2.mono HB1.out.size))
  clear hb2 HB1
  go_wp2_with fail
  refine (HD.out w2 HB2.out).mono ?_
  rintro e w3 ⟨rfl, hb3⟩
  have HB3 := Lib.hid (HB2.out.trans (hb3.mono HB2.out.size))
  clear hb3 HB2
  go_wp2_with fail
  refine (HRD.out w3).mono ?_
  rintro e w4 ⟨rfl, hb4⟩
  have HB4 := Lib.hid (HB3.out.trans (hb4.mono HB3.out.size))
  clear hb4 HB3
  by_cases hneg : n < 0
  · have d0 : decide (n < 0) = true := decide_eq_true hneg
    clear hneg
    go_wp2_with fail
    refine (awake_any _ (HG.out.below HB4.out)).mono ?_
    rintro e w5 ⟨rfl, hb5⟩
    have HB5 := Lib.hid (HB4.out.trans (hb5.mono HB4.out.size))
    clear hb5
    go_wp2
    go_ret
    exact ⟨rfl, HB5.out⟩
  · have d0 : decide (n < 0) = false := decide_eq_false hneg
    have HTO := Lib.hid (HT.out (by omega))
    clear hneg HT
    go_wp2_with fail
    refine (HD.out w4 HB4.out).mono ?_
    rintro e w5 ⟨rfl, hb5⟩
    have HB5 := Lib.hid (HB4.out.trans (hb5.mono HB4.out.size))
    clear hb5 HB4
    go_wp2_with fail
    refine (tokens_any v w5 (HG.out.below HB5.out) (by omega)).mono ?_
    rw [HTO.out]
    rintro e w6 ⟨a, m, c, rfl, hk, hb6⟩
    dsimp only at hk ⊢
    have HB6 := Lib.hid (HB5.out.trans (hb6.mono HB5.out.size))
    have hcap := hk.cap; have hmost := hk.most
    have hm : m = 2 := hk.len.symm
    subst hm
    obtain ⟨b0, off, x, rfl, hbl, hx, x0, x1, x2, x3, x4⟩ := ks_at hk (show 0 < 2 by omega)
    obtain rfl : _ = x := Option.some.inj hx
    simp only [Nat.zero_mul, Nat.add_zero] at x0 x1 x2 x3 x4
    have nn : (n == n) = true := beq_self_eq_true n
    clear hx hk hb6 HB5
    go_wp2
    go_ret
    exact ⟨rfl, HB6.out⟩
end Go.Proofs.YtlfhdjlgjekcpaaDoor.lx
