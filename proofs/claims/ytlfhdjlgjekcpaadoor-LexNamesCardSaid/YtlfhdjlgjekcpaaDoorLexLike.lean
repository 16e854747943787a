/-
  Layer 5, pure: a token's spelling, and what stands like it. No program is named here.
-/
import Derived.Test.YtlfhdjlgjekcpaaDoorLexDig
import Derived.Test.YtlfhdjlgjekcpaaDoorLexToks
namespace Go.Proofs.YtlfhdjlgjekcpaaDoor.lx
open Go.ChangeShapes Go.WideShapes Go.ChangeAt Go.RowKit
open bs
set_option linter.unusedVariables false

noncomputable def spell (x : Tk) : ByteArray := if x.k = 1 ∨ x.k = 3 ∨ x.k = 4 then x.s else if x.k = 2 then numT x.n else ⟨#[]⟩

theorem cut_eq {a b : ByteArray} {i j p : Nat} (hp : p + (j - i) ≤ b.size) (hi : i ≤ j) (hj : j ≤ a.size) (h : ∀ q, q < j - i → B b (p + q) = B a (i + q)) : b.extract p (p + (j - i)) = a.extract i j := by
  apply txt_inj
  apply List.ext_getElem?
  intro q
  rw [txt_cut, txt_cut, show p + (j - i) - p = j - i by omega, List.getElem?_take, List.getElem?_take, List.getElem?_drop, List.getElem?_drop]
  by_cases hq : q < j - i
  · rw [if_pos hq, if_pos hq]
    have h1 : p + q < (txt b).length := by rw [txt_len]; omega
    have h2 : i + q < (txt a).length := by rw [txt_len]; omega
    have := h q hq
    unfold B at this
    rw [List.getD_eq_getElem?_getD, List.getD_eq_getElem?_getD, List.getElem?_eq_getElem h1, List.getElem?_eq_getElem h2] at this
    rw [List.getElem?_eq_getElem h1, List.getElem?_eq_getElem h2]
    exact congrArg some this
  · rw [if_neg hq, if_neg hq]
theorem cut_b {a b : ByteArray} {i j p : Nat} (h : b.extract p (p + (j - i)) = a.extract i j) (hi : i ≤ j) {q : Nat} (hq : q < j - i) : B b (p + q) = B a (i + q) := by
  rw [← b_cut (s := b) (i := p) (j := p + (j - i)) (by omega), h, b_cut (by omega)]

theorem run_eq {p : Int → Bool} {s : ByteArray} {i k : Nat} (hik : i ≤ k) (hk : k ≤ s.size) (hall : ∀ j, i ≤ j → j < k → p (B s j) = true) (hstop : k = s.size ∨ p (B s k) = false) : run p s i = k := by
  induction hn : k - i generalizing i with
  | zero =>
    have : i = k := by omega
    subst this
    rcases hstop with h | h
    · rw [run_end (by omega)]
    · exact run_no h
  | succ n ih =>
    rw [run_yes (by omega) (hall i (Nat.le_refl _) (by omega))]
    exact ih (by omega) (fun j h1 h2 => hall j (by omega) h2) (by omega)

/-- How a token stands, and what kind it is. -/
theorem on_spell {s : ByteArray} {i : Nat} {x : Tk} (hi : i < s.size) (h : on s i = (x, 0)) : ∃ j : Nat, x.f = (i : Int) ∧ x.t = (j : Int) ∧ i < j ∧ j ≤ s.size ∧ s.extract i j = spell x := by
  have h0 := on_to hi (by rw [h])
  rw [h] at h0
  obtain ⟨hf, j, ht, hij, hj⟩ := h0
  refine ⟨j, hf, ht, hij, hj, ?_⟩
  rcases Bool.eq_false_or_eq_true (isL (B s i)) with hL | hL
  · by_cases h2 : 16 < run isN s i - i
    · rw [tk_long hL h2] at h; cases h
    · rw [tk_name hL h2] at h
      have hx := (Prod.mk.inj h).1
      subst hx
      have : run isN s i = j := by have : ((run isN s i : Nat) : Int) = (j : Int) := ht; omega
      subst this
      unfold spell
      rw [if_pos]
      show (if isW (s.extract i (run isN s i)) = true then (3 : Int) else 1) = 1 ∨ (if isW (s.extract i (run isN s i)) = true then (3 : Int) else 1) = 3 ∨ _
      split
      · exact .inr (.inl rfl)
      · exact .inl rfl
  · rcases Bool.eq_false_or_eq_true (isD (B s i)) with hD | hD
    · rcases hn : num (s.extract i (run isD s i)) with _ | n
      · rw [tk_nonum hL hD hn] at h; cases h
      · rw [tk_number hL hD hn] at h
        have hx := (Prod.mk.inj h).1
        subst hx
        have : run isD s i = j := by have : ((run isD s i : Nat) : Int) = (j : Int) := ht; omega
        subst this
        unfold spell
        rw [if_neg (by show ¬ ((2 : Int) = 1 ∨ (2 : Int) = 3 ∨ (2 : Int) = 4); decide), if_pos rfl]
        exact (num_spell (dig_cut (by omega)) hn).1.symm
    · by_cases h0 : sgN s i = 0
      · rw [tk_none hL hD h0] at h; cases h
      · rw [tk_sign hL hD h0] at h
        have hx := (Prod.mk.inj h).1
        subst hx
        have : i + sgN s i = j := by have : ((i + sgN s i : Nat) : Int) = (j : Int) := ht; omega
        subst this
        unfold spell
        rw [if_pos (.inr (.inr rfl))]

theorem two_bytes : ∀ l ∈ twoL, ∃ a b : UInt8, l = [a, b] ∧ (b.toNat = 61 ∨ b.toNat = 38 ∨ b.toNat = 124) ∧ a.toNat ≠ 47 ∧ a.toNat ≠ 32 ∧ a.toNat ≠ 9 ∧ a.toNat ≠ 10 ∧ a.toNat ≠ 13 := by
  intro l hl
  simp only [twoL, List.mem_cons, List.not_mem_nil, or_false] at hl
  rcases hl with rfl | rfl | rfl | rfl | rfl | rfl <;> exact ⟨_, _, rfl, by decide, by decide, by decide, by decide, by decide, by decide⟩
theorem one_bytes : ∀ b ∈ oneL, b.toNat ≠ 32 ∧ b.toNat ≠ 9 ∧ b.toNat ≠ 10 ∧ b.toNat ≠ 13 := by decide

/-- What is spelt like a token, with an end or a blank behind, is read like it. -/
theorem on_like {s : ByteArray} {i : Nat} {x : Tk} (hi : i < s.size) (h : on s i = (x, 0)) {out : ByteArray} {p : Nat} (hp : p + (spell x).size ≤ out.size) (hsub : out.extract p (p + (spell x).size) = spell x) (hstop : p + (spell x).size = out.size ∨ B out (p + (spell x).size) = 32) :
    on out p = (⟨x.k, x.n, x.s, p, (p + (spell x).size : Nat)⟩, 0) ∧ isB (B out p) = false ∧ at' out p cc = false ∧ 0 < (spell x).size := by
  obtain ⟨j, hf, ht, hij, hj, hsp⟩ := on_spell hi h
  have hsz : (spell x).size = j - i := by rw [← hsp, size_cut s i j (by omega) hj]
  rw [hsz] at hp hsub hstop ⊢
  have hsub2 : out.extract p (p + (j - i)) = s.extract i j := by rw [hsub, hsp]
  have hbq : ∀ q, q < j - i → B out (p + q) = B s (i + q) := fun q hq => cut_b hsub2 (by omega) hq
  have hb0 : B out p = B s i := by have := hbq 0 (by omega); simpa using this
  have hps : p < out.size := by omega
  have hcc : (∀ q, q < j - i → q = 0 ∨ True) → B s i ≠ 47 → at' out p cc = false := fun _ h47 => by
    rcases Bool.eq_false_or_eq_true (at' out p cc) with hc | hc
    · exact absurd ((cc_at hc).2.symm.trans hb0).symm h47
    · exact hc
  rcases Bool.eq_false_or_eq_true (isL (B s i)) with hL | hL
  · have hLc := of_decide_eq_true hL
    by_cases h2 : 16 < run isN s i - i
    · rw [tk_long hL h2] at h; cases h
    · rw [tk_name hL h2] at h
      have hx := (Prod.mk.inj h).1
      subst hx
      have hrj : run isN s i = j := by have : ((run isN s i : Nat) : Int) = (j : Int) := ht; omega
      have hr : run isN out p = p + (j - i) := run_eq (by omega) hp (fun q h1 h3 => by
        have := hbq (q - p) (by omega)
        rw [show p + (q - p) = q by omega] at this
        rw [this]
        exact run_all (p := isN) (s := s) (i := i) (by omega) (by omega)) (hstop.imp id (fun e => by rw [e]; decide))
      refine ⟨?_, ?_, hcc (fun _ _ => .inr trivial) (by omega), by omega⟩
      · rw [tk_name (by rw [hb0]; exact hL) (by rw [hr]; omega), hr, hsub2, hrj]
      · rw [hb0]
        exact decide_eq_false (by omega)
  · rcases Bool.eq_false_or_eq_true (isD (B s i)) with hD | hD
    · have hDc := of_decide_eq_true hD
      rcases hn : num (s.extract i (run isD s i)) with _ | n
      · rw [tk_nonum hL hD hn] at h; cases h
      · rw [tk_number hL hD hn] at h
        have hx := (Prod.mk.inj h).1
        subst hx
        have hrj : run isD s i = j := by have : ((run isD s i : Nat) : Int) = (j : Int) := ht; omega
        have hr : run isD out p = p + (j - i) := run_eq (by omega) hp (fun q h1 h3 => by
          have := hbq (q - p) (by omega)
          rw [show p + (q - p) = q by omega] at this
          rw [this]
          exact run_all (p := isD) (s := s) (i := i) (by omega) (by omega)) (hstop.imp id (fun e => by rw [e]; decide))
        refine ⟨?_, ?_, hcc (fun _ _ => .inr trivial) (by omega), by omega⟩
        · rw [tk_number (n := n) (by rw [hb0]; exact hL) (by rw [hb0]; exact hD) (by rw [hr, hsub2, ← hrj]; exact hn), hr]
        · rw [hb0]
          exact decide_eq_false (by omega)
    · by_cases h0 : sgN s i = 0
      · rw [tk_none hL hD h0] at h; cases h
      · rw [tk_sign hL hD h0] at h
        have hx := (Prod.mk.inj h).1
        subst hx
        have hgj : i + sgN s i = j := by have : ((i + sgN s i : Nat) : Int) = (j : Int) := ht; omega
        have key : sgN out p = j - i ∧ isB (B out p) = false ∧ at' out p cc = false := by
          by_cases h2 : twoL.any (fun l => at' s i (mkB l)) = true
          · have hg2 : sgN s i = 2 := by unfold sgN; rw [if_pos h2]
            rw [List.any_eq_true] at h2
            obtain ⟨l, hl, hat⟩ := h2
            obtain ⟨a, b, rfl, hb, ha⟩ := two_bytes l hl
            have hba : B s i = (a.toNat : Int) := by
              have := at_byte hat (j := 0) (by rw [mk_size]; simp)
              rw [Nat.add_zero] at this
              rw [← this, b_mk _ 0 (by simp)]
              rfl
            have hcut : s.extract i (i + 2) = mkB [a, b] := by
              have := (of_decide_eq_true hat).2
              rw [mk_size] at this
              exact this
            have hout : at' out p (mkB [a, b]) = true := by
              refine decide_eq_true ?_
              rw [mk_size]
              refine ⟨by simp; omega, ?_⟩
              have e : j - i = 2 := by omega
              rw [e] at hsub2
              show out.extract p (p + 2) = _
              rw [hsub2, ← hgj, hg2, hcut]
            refine ⟨by unfold sgN; rw [if_pos (List.any_eq_true.2 ⟨_, hl, hout⟩)]; omega, ?_, hcc (fun _ _ => .inr trivial) (by omega)⟩
            rw [hb0, hba]
            exact decide_eq_false (by omega)
          · have hone : ∀ l ∈ twoL, at' s i (mkB l) = false := fun l hl => by
              rcases Bool.eq_false_or_eq_true (at' s i (mkB l)) with hc | hc
              · exact absurd (List.any_eq_true.2 ⟨l, hl, hc⟩) h2
              · exact hc
            have hg1 : sgN s i = 1 ∧ oneL.any (fun b => B s i == (b.toNat : Int)) = true := by
              unfold sgN at h0 ⊢
              rw [if_neg h2] at h0 ⊢
              by_cases h3 : oneL.any (fun b => B s i == (b.toNat : Int)) = true
              · rw [if_pos h3]; exact ⟨rfl, h3⟩
              · rw [if_neg h3] at h0; exact absurd rfl h0
            have hone2 : ∀ l ∈ twoL, at' out p (mkB l) = false := fun l hl => by
              rcases Bool.eq_false_or_eq_true (at' out p (mkB l)) with hc | hc
              · obtain ⟨a, b, rfl, hb, _⟩ := two_bytes l hl
                have h4 := (of_decide_eq_true hc).1
                rw [mk_size] at h4
                have h5 := at_byte hc (j := 1) (by rw [mk_size]; simp)
                rw [b_mk _ 1 (by simp)] at h5
                simp only [List.getElem_cons_succ, List.getElem_cons_zero] at h5
                simp only [List.length_cons, List.length_nil] at h4
                rcases hstop with he | he
                · omega
                · rw [show p + (j - i) = p + 1 by omega] at he
                  omega
              · exact hc
            have hsg : sgN out p = 1 := by
              unfold sgN
              rw [if_neg (fun hc => by
                rw [List.any_eq_true] at hc
                obtain ⟨l, hl, hc⟩ := hc
                rw [hone2 l hl] at hc
                cases hc), hb0, if_pos hg1.2]
            obtain ⟨b, hb, hbe⟩ := List.any_eq_true.1 hg1.2
            have hbe' : B s i = (b.toNat : Int) := by simpa using hbe
            have h1b := one_bytes b hb
            refine ⟨by omega, ?_, ?_⟩
            · rw [hb0, hbe']
              exact decide_eq_false (by omega)
            · rcases Bool.eq_false_or_eq_true (at' out p cc) with hc | hc
              · have h4 := (of_decide_eq_true hc).1
                have h5 := at_byte hc (j := 1) (by decide)
                have h6 : cc.size = 2 := rfl
                have h7 : B cc 1 = 47 := by decide
                rcases hstop with he | he
                · omega
                · rw [show p + (j - i) = p + 1 by omega] at he
                  omega
              · exact hc
        refine ⟨?_, key.2.1, key.2.2, by omega⟩
        rw [tk_sign (by rw [hb0]; exact hL) (by rw [hb0]; exact hD) (by rw [key.1]; omega), key.1, hsub2, hgj]
end Go.Proofs.YtlfhdjlgjekcpaaDoor.lx
