/-
  Layer 46: the statement on torn frames.
-/
import Derived.Test.YtcncfljpbbpaoaaEntryLaw
import Derived.Test.YtcncfljpbbpaoaaOpens
namespace Go.Proofs.Ytcncfljpbbpaoaa.en
open Go.ChangeShapes Go.WideShapes Go.ChangeAt Go.RowKit
open bs
set_option linter.unusedVariables false

/-- An entry that comes in. -/
structure Ent where
  k : Int
  a : Option Addr
  n : Nat
  c : Nat
  l : List Int
def Ent.val (x : Ent) : Value := .agg #[.int .i64 x.k, .slice x.a x.n x.c]
def Ent.Rd (x : Ent) (w : World) : Prop := (-9223372036854775808 ≤ x.k ∧ x.k ≤ 9223372036854775807) ∧ Bytes w x.a x.n x.c x.l

set_option maxRecDepth 100000 in
theorem open_ent {H : Type} {enc : TypeId × Value → H} {w : World} {r : Reach} {b0 : Nat} {v : Value} {d : DataW H} {p : List MemPlace}
    (hv : Value.okWide Try.prog w r b0 48 v) (h : DataW.Trod enc Try.prog w 0 (fun _ => true) true 48 v d p) : ∃ x : Ent, v = x.val ∧ x.Rd w := by
  obtain ⟨v0, v1, y0, y1, m, rfl, rfl, rfl, h0, h1⟩ := Go.Joins.open_agg2 Try.underlying48 (by kernel_rfl) (by kernel_rfl) hv h
  obtain ⟨z, e0, _, wz⟩ := DataW.trod_int Try.underlying3 h0
  simp only [List.cons.injEq, and_true] at e0
  subst e0
  obtain ⟨a, n, c, l, rfl, hb, _⟩ := open_bytes_cell Try.underlying46 Try.underlying5 (by kernel_rfl) h1
  exact ⟨⟨z, a, n, c, l⟩, rfl, in64 wz, hb⟩

theorem frB_len (k : Int) (l tag : List Int) : (frB k l tag).length = 4 + (l.length + 1 + tag.length) := by simp [frB]; omega
theorem torn (k : Int) (l tag : List Int) (n : Nat) (hl : l.length ≤ 1024) (ht : tag.length = 32) (hn : n < (frB k l tag).length) : rdE ((frB k l tag).take n) 0 = 1 := by
  rw [frB_len] at hn
  have hlen : ((frB k l tag).take n).length = n := by rw [List.length_take, frB_len]; omega
  unfold rdE
  rw [hlen, if_neg (by omega)]
  by_cases h4 : (n : Int) - 0 < 4
  · rw [if_pos h4]
  rw [if_neg h4, Int.toNat_zero, List.drop_zero]
  have hs : sz ((frB k l tag).take n) = ((l.length + 1 : Nat) : Int) := by
    obtain ⟨j, rfl⟩ : ∃ j, n = j + 1 + 1 + 1 + 1 := ⟨n - 4, by omega⟩
    unfold frB sz four
    simp only [List.cons_append, List.nil_append, List.take_succ_cons, List.getD_cons_zero, List.getD_cons_succ]
    omega
  rw [hs, if_neg (by omega), if_neg (by omega), if_pos (by omega)]
theorem frE_zero {k : Int} {n t : Nat} (h : frE k n t = 0) : n ≤ 1024 ∧ t = 32 := by
  unfold frE at h
  rcases payE_cases k n with ⟨h1, h2, _⟩ | h1 | h1
  · rw [if_pos h1] at h
    by_cases ht : t = 32
    · exact ⟨h2, ht⟩
    · rw [if_neg ht] at h; omega
  · rw [if_neg (by omega)] at h; omega
  · rw [if_neg (by omega)] at h; omega

set_option maxRecDepth 100000 in
set_option maxHeartbeats 2000000 in
theorem law_torn (k : Int) (a : Option Addr) (n c : Nat) (l : List Int) (a' : Option Addr) (n' c' : Nat) (tag : List Int) (q : Int) (w : World) (h : Bytes w a n c l) (h' : Bytes w a' n' c' tag) (k0 : -9223372036854775808 ≤ k) (k1 : k ≤ 9223372036854775807) (q0 : -9223372036854775808 ≤ q) (q1 : q ≤ 9223372036854775807) :
    Calls Try.prog 9 #[.agg #[.int .i64 k, .slice a n c], .slice a' n' c', .int .i64 q] w fun e w' => e = .returned (.bool true) ∧ Below w.heap.size w w' := by
  have hcap := h.cap; have hmost := h.most
  have hcap' := h'.cap; have hmost' := h'.most
  have hl := h.len; have hl' := h'.len
  subst hl hl'
  have HH := Lib.hid h; have HH' := Lib.hid h'
  clear h h'
  have HW : Hid (Below w.heap.size w (w.alloc (.cells #[.int .i64 k, .slice a l.length c] 48))) := (Below.refl _ _).alloc (Nat.le_refl _) _
  by_cases hn : 2000 < l.length
  · go_enter Try.func9, Try.ntmps9
    go_wp2_with fail
    refine (awake_any _).mono ?_
    rintro e w5 ⟨rfl, hb5⟩
    go_wp2
    go_ret
    exact ⟨rfl, HW.out.trans (hb5.mono (by simp))⟩
  · go_enter Try.func9, Try.ntmps9
    go_wp2_with fail
    refine (frame_any k a _ c l a' _ c' tag _ (HH.out.below HW.out) (HH'.out.below HW.out) k0 k1).mono ?_
    rintro e w1 ⟨hb1, a1, m1, c1, r1, rfl, ho1, hr1⟩
    have HB1 := Lib.hid (HW.out.trans (hb1.mono (by simp)))
    have hm1 := ho1.len
    have hc1 := ho1.bytes.cap; have hc1' := ho1.bytes.most
    have HO1 := Lib.hid ho1
    have HR1 := Lib.hid hr1
    clear ho1 hb1 hr1
    obtain ⟨E, hE⟩ : ∃ E, frE k l.length tag.length = E := ⟨_, rfl⟩
    rw [hE] at HR1 ⊢
    have HE := Lib.hid hE; clear hE
    by_cases hz : E = 0 ∧ 0 ≤ q ∧ q < m1
    · obtain ⟨rfl, hq0, hq1⟩ := hz
      obtain ⟨j, rfl⟩ := Int.eq_ofNat_of_zero_le hq0
      obtain ⟨x1, x2⟩ := frE_zero HE.out
      have hr1 := HR1.out
      rw [if_pos rfl] at hr1
      subst hr1
      have ht : rdE ((frB k l tag).take j) 0 = 1 := torn k l tag j x1 x2 (by omega)
      have hjm : j ≤ 2000 := by rw [frB_len] at hm1; omega
      have HT := Lib.hid ht
      have HM := Lib.hid hm1
      have d1 : decide ((j : Int) < 0) = false := decide_eq_false (by omega)
      have d2 : decide (m1 ≤ j) = false := decide_eq_false (by omega)
      have d3 : decide ((m1 : Int) ≤ (j : Int)) = false := decide_eq_false (by omega)
      have y1 : (j : Int) ≤ (c1 : Int) := by omega
      have HF : Hid (Bytes w1 a1 j c1 ((frB k l tag).take j)) := by
        have hb := HO1.out.bytes
        refine ⟨by rw [List.length_take]; omega, by omega, hb.most, fun x hx => hb.all x (List.mem_of_mem_take hx), hb.nil, ?_⟩
        rcases hb.at' with h0 | ⟨b, off, ha, hc⟩
        · left; omega
        · refine .inr ⟨b, off, ha, fun i hi => ?_⟩
          rw [hc i (by omega), List.getD_eq_getElem?_getD, List.getD_eq_getElem?_getD, List.getElem?_take, if_pos hi]
      clear ht hm1 x1 x2 hq0 hq1
      go_wp2_with fail
      refine (read_any a1 j c1 _ 0 _ HF.out (by omega) (by omega) (by omega)).mono ?_
      rintro e w3 ⟨hb3, k', to', a3, a4, n3, c3, n4, c4, body', tag', rfl, ho3, ho4, hne', heq'⟩
      rw [HT.out]
      have HB3 := Lib.hid (HB1.out.trans (hb3.mono HB1.out.size))
      clear hb3 ho3 ho4 hne' heq'
      go_wp2_with fail
      refine (awake_any _).mono ?_
      rintro e w5 ⟨rfl, hb5⟩
      go_wp2
      go_ret
      exact ⟨rfl, (HB3.out.alloc HB3.out.size _).trans (hb5.mono (Nat.le_trans HB3.out.size (by simp)))⟩
    · have h3 : ((E != 0) = true) ∨ ((E != 0) = false ∧ decide (q < 0) = true) ∨ ((E != 0) = false ∧ decide (q < 0) = false ∧ decide ((m1 : Int) ≤ q) = true) := by
        by_cases g1 : E = 0
        · subst g1
          rcases Int.lt_or_le q 0 with g2 | g2
          · exact .inr (.inl ⟨rfl, decide_eq_true g2⟩)
          · exact .inr (.inr ⟨rfl, decide_eq_false (by omega), decide_eq_true (by omega)⟩)
        · exact .inl (by rw [bne_iff_ne]; exact g1)
      clear hz
      rcases h3 with d1 | ⟨d1, d2⟩ | ⟨d1, d2, d3⟩
      all_goals
        go_wp2_with fail
        refine (awake_any _).mono ?_
        rintro e w5 ⟨rfl, hb5⟩
        go_wp2
        go_ret
        exact ⟨rfl, HB1.out.trans (hb5.mono HB1.out.size)⟩
end Go.Proofs.Ytcncfljpbbpaoaa.en
