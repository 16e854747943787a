/-
  Layer 3: the walk of the statement on blocks.
-/
import Derived.Test.YtlpiacofnciodaaShaPBlock2
namespace Go.Proofs.Ytlpiacofnciodaa.sh
open Go.ChangeShapes Go.WideShapes Go.ChangeAt Go.RowKit
open bs
open Go.Proofs.Ytlpiacofnciodaa.rs
set_option linter.unusedVariables false

/-- From the shell's reading of an argument. -/
theorem u32s_of_row {w : World} {a : Option Addr} {len cap : Nat} {zs : List Int}
    (h : (a = none ∧ len = 0 ∧ cap = 0 ∧ zs = []) ∨ ∃ x, a = some x ∧ len ≤ cap ∧ cap ≤ maxLen ∧ zs.length = cap ∧ (∀ i, i < zs.length → w.cell? (x.add i) = some (.int .u32 (zs.getD i 0))) ∧ ∀ n ∈ zs, (Lit.int .u32 n).wf = true) :
    U32s w a len cap (zs.take len) := by
  rcases h with ⟨rfl, rfl, rfl, rfl⟩ | ⟨x, rfl, hl, hm, hz, hc, hw⟩
  · exact ⟨rfl, Nat.le_refl _, by omega, by simp [AllW], fun _ => rfl, .inl rfl⟩
  · refine ⟨by rw [List.length_take]; omega, hl, by unfold maxLen at hm; omega, ?_, by simp, ?_⟩
    · intro n hn
      have := hw n (List.mem_of_mem_take hn)
      simpa [Lit.wf, IntKind.min, IntKind.max, IntKind.signed, IntKind.bits] using this
    · rcases Nat.eq_zero_or_pos len with h0 | h0
      · exact .inl h0
      · right
        obtain ⟨b, off, spot⟩ := x
        have hc0 := hc 0 (by omega)
        have hspot : spot = none := by simpa [Addr.add] using World.cell?_spot hc0
        subst hspot
        refine ⟨b, off, rfl, fun i hi => ?_⟩
        have h1 := hc i (by omega)
        have e : (⟨b, off, none⟩ : Addr).add i = ⟨b, off + i, none⟩ := by unfold Addr.add; split <;> simp_all
        rw [e] at h1
        rw [h1, List.getD_eq_getElem?_getD, List.getD_eq_getElem?_getD, List.getElem?_take]
        simp [hi]

/-- Eight numbers are a state. -/
theorem st_of (l : List Int) (hl : l.length = 8) (h : AllW l) : ∃ s : St, l = s.list.map I := by
  have hI : ∀ x : Int, 0 ≤ x ∧ x ≤ 4294967295 → I (BitVec.ofInt 32 x) = x := fun x hx => by
    unfold I
    rw [BitVec.toNat_ofInt]
    omega
  refine ⟨⟨.ofInt 32 (l.getD 0 0), .ofInt 32 (l.getD 1 0), .ofInt 32 (l.getD 2 0), .ofInt 32 (l.getD 3 0), .ofInt 32 (l.getD 4 0), .ofInt 32 (l.getD 5 0), .ofInt 32 (l.getD 6 0), .ofInt 32 (l.getD 7 0)⟩, ?_⟩
  simp only [St.list, List.map_cons, List.map_nil]
  rw [hI _ (h.getD 0), hI _ (h.getD 1), hI _ (h.getD 2), hI _ (h.getD 3), hI _ (h.getD 4), hI _ (h.getD 5), hI _ (h.getD 6), hI _ (h.getD 7)]
  exact list8 0 l hl

set_option maxRecDepth 100000 in
set_option maxHeartbeats 1000000 in
theorem blocks (a : Option Addr) (n c : Nat) (l : List Int) (a' : Option Addr) (n' c' : Nat) (m : List Int) (w : World) (h : U32s w a n c l) (h' : Bytes w a' n' c' m) (hc2 : n ≤ 4611686018427387904) (hc3 : n' ≤ 4611686018427387904) :
    Calls Try.prog 4 #[.slice a n c, .slice a' n' c'] w fun e w' => e = .returned (.bool true) ∧ Below w.heap.size w w' := by
  have hc := h.cap; have hm := h.most
  have hc' := h'.cap; have hm' := h'.most
  by_cases h8 : n = 8
  · subst h8
    by_cases h64 : n' = 64
    · subst h64
      obtain ⟨s, rfl⟩ := st_of l h.len h.all
      have H1 := Lib.hid h; have H2 := Lib.hid h'
      clear h h'
      go_enter Try.func4, Try.ntmps4
      go_wp2_with fail
      refine (pblock_any s a c a' c' m _ H1.out H2.out).mono ?_
      rintro e w1 ⟨a1, c1, rfl, ho1, hb1⟩
      have HO1 := Lib.hid ho1; have HB1 := Lib.hid hb1; have H21 := Lib.hid (H2.out.below hb1); have H11 := Lib.hid (H1.out.below hb1)
      have s1 := hb1.size
      clear ho1 hb1
      go_wp2_with fail
      refine (rrounds_any _).mono ?_
      rintro e w2 ⟨a2, c2, rfl, ho2, hb2⟩
      have HK := Lib.hid ho2.reads; have HB2 := Lib.hid (HB1.out.trans (hb2.mono s1)); have HO12 := Lib.hid (HO1.out.below hb2)
      have s2 := HB2.out.size
      clear ho2 hb2
      go_wp2_with fail
      refine (rblock_any s a c Kc Kc_len a2 c2 a' c' m _ (H1.out.below HB2.out) (H2.out.below HB2.out) HK.out).mono ?_
      rintro e w3 ⟨a3, c3, rfl, ho3, hb3⟩
      have HO3 := Lib.hid ho3.reads; have HB3 := Lib.hid (HB2.out.trans (hb3.mono s2)); have HO13 := Lib.hid (HO12.out.below hb3)
      clear ho3 hb3
      go_wp2_with fail
      refine (alike_any _ _ _ _ _ _ _ _ _ HO13.out HO3.out).mono ?_
      rintro e w4 ⟨rfl, k, rfl⟩
      have HB4 := Lib.hid (below_drewN HB3.out k)
      go_wp2
      go_ret
      exact ⟨by simp, HB4.out⟩
    · have d1 : ((n' : Int) != 64) = true := by rw [bne_iff_ne]; omega
      clear h h'
      go_enter Try.func4, Try.ntmps4
      go_wp2_with fail
      refine (pblock_no a 8 c a' n' c' _ hc2 hc3 (.inr h64)).mono ?_
      rintro e w1 ⟨rfl, rfl⟩
      go_wp2_with fail
      refine (pstart_any _).mono ?_
      rintro e w1 ⟨a1, c1, rfl, ho1, hb1⟩
      have HO1 := Lib.hid ho1; have HB1 := Lib.hid hb1
      have s1 := hb1.size
      clear ho1 hb1
      go_wp2_with fail
      refine (rstart_any _).mono ?_
      rintro e w2 ⟨a2, c2, rfl, ho2, hb2⟩
      have HO2 := Lib.hid ho2.reads; have HB2 := Lib.hid (HB1.out.trans (hb2.mono s1)); have HO12 := Lib.hid (HO1.out.below hb2)
      clear ho2 hb2
      go_wp2_with fail
      refine (alike_any _ _ _ _ _ _ _ _ _ HO12.out HO2.out).mono ?_
      rintro e w4 ⟨rfl, k, rfl⟩
      have HB4 := Lib.hid (below_drewN HB2.out k)
      go_wp2
      go_ret
      exact ⟨by rw [H0_list]; simp, HB4.out⟩
  · have d1 : ((n : Int) != 8) = true := by rw [bne_iff_ne]; omega
    clear h h'
    go_enter Try.func4, Try.ntmps4
    go_wp2_with fail
    refine (pblock_no a n c a' n' c' _ hc2 hc3 (.inl h8)).mono ?_
    rintro e w1 ⟨rfl, rfl⟩
    go_wp2_with fail
    refine (pstart_any _).mono ?_
    rintro e w1 ⟨a1, c1, rfl, ho1, hb1⟩
    have HO1 := Lib.hid ho1; have HB1 := Lib.hid hb1
    have s1 := hb1.size
    clear ho1 hb1
    go_wp2_with fail
    refine (rstart_any _).mono ?_
    rintro e w2 ⟨a2, c2, rfl, ho2, hb2⟩
    have HO2 := Lib.hid ho2.reads; have HB2 := Lib.hid (HB1.out.trans (hb2.mono s1)); have HO12 := Lib.hid (HO1.out.below hb2)
    clear ho2 hb2
    go_wp2_with fail
    refine (alike_any _ _ _ _ _ _ _ _ _ HO12.out HO2.out).mono ?_
    rintro e w4 ⟨rfl, k, rfl⟩
    have HB4 := Lib.hid (below_drewN HB2.out k)
    go_wp2
    go_ret
    exact ⟨by rw [H0_list]; simp, HB4.out⟩

end Go.Proofs.Ytlpiacofnciodaa.sh
