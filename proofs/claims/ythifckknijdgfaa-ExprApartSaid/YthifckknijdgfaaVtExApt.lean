/-
  Expressions out of tokens: what stands ahead, and behind a semicolon, does not matter: plain. No program is named here.
-/
import Derived.Test.YthifckknijdgfaaVtExpr
namespace Go.Proofs.Ythifckknijdgfaa.vt
open Go.Proofs.Ythifckknijdgfaa.am
set_option linter.unusedVariables false
abbrev sSem : ByteArray := ⟨#[59]⟩
structure Like (ts ts' : List Tok) (k : Nat) : Prop where
  on : ∀ j, j < ts.length → nxt ts' (k + j) = nxt ts j
  semi : (nxt ts' (k + ts.length)).k = 4 ∧ (nxt ts' (k + ts.length)).s = sSem
  len : k + ts.length ≤ ts'.length
def sh (k : Nat) (x : Got) : Got := (x.1, k + x.2.1, x.2.2)
section
variable {ts ts' : List Tok} {k : Nat} (h : Like ts ts' k)
include h
theorem like_isK {s : ByteArray} (hs : sSem ≠ s) {j : Nat} (hj : j ≤ ts.length) : isK s (nxt ts' (k + j)) = isK s (nxt ts j) := by
  rcases Nat.lt_or_ge j ts.length with h1 | h1
  · rw [h.on j h1]
  · have : j = ts.length := by omega
    subst this
    rw [nxt_none (Nat.le_refl _), isK_end]
    unfold isK
    rw [h.semi.2]
    simp [hs]
theorem like_op {j : Nat} (hj : j ≤ ts.length) : opK (nxt ts' (k + j)) = opK (nxt ts j) := by
  rcases Nat.lt_or_ge j ts.length with h1 | h1
  · rw [h.on j h1]
  · have : j = ts.length := by omega
    subst this
    rw [nxt_none (Nat.le_refl _), show opK endK = (0, 6) from rfl]
    unfold opK
    rw [if_pos h.semi.1, h.semi.2]
    rfl
theorem like_k {c : Int} (hc : c = 1 ∨ c = 2) {j : Nat} (hj : j ≤ ts.length) : ((nxt ts' (k + j)).k = c) = ((nxt ts j).k = c) := by
  rcases Nat.lt_or_ge j ts.length with h1 | h1
  · rw [h.on j h1]
  · have : j = ts.length := by omega
    subst this
    rw [nxt_none (Nat.le_refl _), h.semi.1]
    rcases hc with rfl | rfl <;> simp [endK]
theorem mk7_sh {a b : Nat} {kk n : Int} {s : ByteArray} {l : List VT} (ha : a < b) (hb : b ≤ ts.length) : mk7 ts' (k + a) (k + b) kk n s l = sh k (mk7 ts a b kk n s l) := by
  unfold mk7 sh frT toT
  rw [h.on a (by omega), show k + b - 1 = k + (b - 1) by omega, h.on (b - 1) (by omega)]
theorem lpL_sh {P P' : Nat → Got} {l a : Nat} (hl5 : l ≤ 5) (hP : ∀ j, j ≤ ts.length → OkG ts j (P j)) (hE : ∀ j, a < j → j ≤ ts.length → (P j).2.2 = 0 → P' (k + j) = sh k (P j)) : ∀ (m m' : Nat) (t : Bool) (x : Got), OkG ts a x → ts.length < m + x.2.1 → ts'.length < m' + (k + x.2.1) → (lpL ts P l a m t x).2.2 = 0 → lpL ts' P' l (k + a) m' t (sh k x) = sh k (lpL ts P l a m t x) := by
  intro m
  induction m with
  | zero =>
    intro m' t x hx h1 h2 h3
    have h3 : x.2.2 = 0 := h3
    have := (hx.yes h3).2
    omega
  | succ m ih =>
    intro m' t x hx h1 h2 h3
    by_cases h0 : x.2.2 = 0; rotate_left
    · rw [lpL, if_pos h0] at h3; exact absurd h3 h0
    have hy := hx.yes h0
    have hlen := h.len
    obtain ⟨m', rfl⟩ : ∃ n, m' = n + 1 := ⟨m' - 1, by omega⟩
    have n0 : ¬ x.2.2 ≠ 0 := fun hh => hh h0
    have n0' : ¬ (sh k x).2.2 ≠ 0 := n0
    have ho : opK (nxt ts' (sh k x).2.1) = opK (nxt ts x.2.1) := like_op h hy.2
    rw [lpL, if_neg n0] at h3
    rw [lpL, if_neg n0', ho, lpL, if_neg n0]
    by_cases h4 : (opK (nxt ts x.2.1)).2 ≠ l ∨ (l = 3 ∧ t = true)
    · rw [if_pos h4, if_pos h4]
    rw [if_neg h4] at h3 ⊢
    rw [if_neg h4]
    have h5 : (opK (nxt ts x.2.1)).2 = l := by simpa using (not_or.1 h4).1
    have hlt := op_lt h5 hl5
    have hp := hP (x.2.1 + 1) (by omega)
    by_cases h6 : (P (x.2.1 + 1)).2.2 ≠ 0
    · rw [if_pos h6] at h3; exact absurd h3 h6
    rw [if_neg h6] at h3 ⊢
    have h6' : (P (x.2.1 + 1)).2.2 = 0 := by simpa using h6
    have hq : P' ((sh k x).2.1 + 1) = sh k (P (x.2.1 + 1)) := hE (x.2.1 + 1) (by omega) (by omega) h6'
    have hpy := hp.yes h6'
    rw [hq, if_neg (show ¬ (sh k (P (x.2.1 + 1))).2.2 ≠ 0 from h6)]
    rw [← ih m' true _ (ok_mk (by omega) hpy.2) (by simp only [mk7]; omega) (by simp only [mk7]; omega) h3, ← mk7_sh h (by omega) hpy.2]
    rfl
theorem lpP_sh {E E' : Nat → Got} {a : Nat} (hP : ∀ j, j ≤ ts.length → OkG ts j (E j)) (hE : ∀ j, a < j → j ≤ ts.length → (E j).2.2 = 0 → E' (k + j) = sh k (E j)) : ∀ (m m' : Nat) (x : Got), OkG ts a x → ts.length < m + x.2.1 → ts'.length < m' + (k + x.2.1) → (lpP ts E a m x).2.2 = 0 → lpP ts' E' (k + a) m' (sh k x) = sh k (lpP ts E a m x) := by
  intro m
  induction m with
  | zero =>
    intro m' x hx h1 h2 h3
    have h3 : x.2.2 = 0 := h3
    have := (hx.yes h3).2
    omega
  | succ m ih =>
    intro m' x hx h1 h2 h3
    by_cases h0 : x.2.2 = 0; rotate_left
    · rw [lpP, if_pos h0] at h3; exact absurd h3 h0
    have hy := hx.yes h0
    have hlen := h.len
    obtain ⟨m', rfl⟩ : ∃ n, m' = n + 1 := ⟨m' - 1, by omega⟩
    have n0 : ¬ x.2.2 ≠ 0 := fun hh => hh h0
    have n0' : ¬ (sh k x).2.2 ≠ 0 := n0
    have i1 : isK sOpen (nxt ts' (sh k x).2.1) = isK sOpen (nxt ts x.2.1) := like_isK h (by decide) hy.2
    have i2 : isK sDot (nxt ts' (sh k x).2.1) = isK sDot (nxt ts x.2.1) := like_isK h (by decide) hy.2
    rw [lpP, if_neg n0] at h3
    rw [lpP, if_neg n0', i1, i2, lpP, if_neg n0]
    by_cases h4 : isK sOpen (nxt ts x.2.1) = true
    · rw [if_pos h4] at h3 ⊢
      rw [if_pos h4]
      have hlt := isK_lt h4
      have hp := hP (x.2.1 + 1) (by omega)
      by_cases h6 : (E (x.2.1 + 1)).2.2 ≠ 0
      · rw [if_pos h6] at h3; exact absurd h3 h6
      rw [if_neg h6] at h3 ⊢
      have h6' : (E (x.2.1 + 1)).2.2 = 0 := by simpa using h6
      have hq : E' ((sh k x).2.1 + 1) = sh k (E (x.2.1 + 1)) := hE (x.2.1 + 1) (by omega) (by omega) h6'
      have hpy := hp.yes h6'
      have i3 : isK sShut (nxt ts' (sh k (E (x.2.1 + 1))).2.1) = isK sShut (nxt ts (E (x.2.1 + 1)).2.1) := like_isK h (by decide) hpy.2
      rw [hq, if_neg (show ¬ (sh k (E (x.2.1 + 1))).2.2 ≠ 0 from h6), i3]
      by_cases h7 : isK sShut (nxt ts (E (x.2.1 + 1)).2.1) = false
      · rw [if_pos h7] at h3; simp [bad7] at h3
      rw [if_neg h7] at h3 ⊢
      rw [if_neg h7]
      have hlt2 := isK_lt (s := sShut) (ts := ts) (by simpa using h7)
      rw [← ih m' _ (ok_mk (by omega) (by omega)) (by simp only [mk7]; omega) (by simp only [mk7]; omega) h3, ← mk7_sh h (by omega) (by omega)]
      rfl
    rw [if_neg h4] at h3 ⊢
    rw [if_neg h4]
    by_cases h5 : isK sDot (nxt ts x.2.1) = true
    · rw [if_pos h5] at h3 ⊢
      rw [if_pos h5]
      have hlt := isK_lt h5
      by_cases h7 : (nxt ts (x.2.1 + 1)).k = 1
      · have n7 : ¬ (nxt ts (x.2.1 + 1)).k ≠ 1 := fun hh => hh h7
        have hlt2 := k_lt h7 (by decide)
        have hn : nxt ts' ((sh k x).2.1 + 1) = nxt ts (x.2.1 + 1) := h.on (x.2.1 + 1) hlt2
        rw [if_neg n7] at h3 ⊢
        rw [hn, if_neg n7]
        rw [← ih m' _ (ok_mk (by omega) (by omega)) (by simp only [mk7]; omega) (by simp only [mk7]; omega) h3, ← mk7_sh h (by omega) (by omega)]
        rfl
      · rw [if_pos h7] at h3; simp [bad7] at h3
    · rw [if_neg h5] at h3 ⊢
      rw [if_neg h5]
def shC (k : Nat) (x : List VT × Nat × Int) : List VT × Nat × Int := (x.1, k + x.2.1, x.2.2)
theorem lpC_sh {E E' : Nat → Got} {a : Nat} (hP : ∀ j, j ≤ ts.length → OkG ts j (E j)) (hE : ∀ j, a < j → j ≤ ts.length → (E j).2.2 = 0 → E' (k + j) = sh k (E j)) : ∀ (m m' i : Nat) (acc : List VT), a < i → i ≤ ts.length → ts'.length < m' + (k + i) → (lpC ts E m i acc).2.2 = 0 → lpC ts' E' m' (k + i) acc = shC k (lpC ts E m i acc) := by
  intro m
  induction m with
  | zero => intro m' i acc ha hi h2 h3; simp [lpC] at h3
  | succ m ih =>
    intro m' i acc ha hi h2 h3
    have hlen := h.len
    obtain ⟨m', rfl⟩ : ∃ n, m' = n + 1 := ⟨m' - 1, by omega⟩
    have hp := hP i hi
    rw [lpC] at h3
    rw [lpC, lpC]
    by_cases h0 : (E i).2.2 ≠ 0
    · rw [if_pos h0] at h3; exact absurd h3 h0
    rw [if_neg h0] at h3 ⊢
    have h0' : (E i).2.2 = 0 := by simpa using h0
    have hy := hp.yes h0'
    have hq := hE i ha hi h0'
    have i1 : isK sCom (nxt ts' (sh k (E i)).2.1) = isK sCom (nxt ts (E i).2.1) := like_isK h (by decide) hy.2
    rw [hq, if_neg (show ¬ (sh k (E i)).2.2 ≠ 0 from h0), i1]
    by_cases h4 : isK sCom (nxt ts (E i).2.1) = false
    · rw [if_pos h4, if_pos h4]; rfl
    rw [if_neg h4] at h3 ⊢
    rw [if_neg h4]
    have hlt := isK_lt (s := sCom) (ts := ts) (by simpa using h4)
    exact ih m' ((E i).2.1 + 1) (acc ++ [(E i).1]) (by omega) (by omega) (by omega) h3
theorem cloG_sh {E E' : Nat → Got} {a : Nat} (hP : ∀ j, j ≤ ts.length → OkG ts j (E j)) (hE : ∀ j, a < j → j ≤ ts.length → (E j).2.2 = 0 → E' (k + j) = sh k (E j)) {o : Nat} (ho : a ≤ o) (hol : o ≤ ts.length) (few : Bool) (fs ls : ByteArray) (hf : sSem ≠ fs) (hs : sSem ≠ ls) (h3 : (cloG ts E o few fs ls).2.2 = 0) : cloG ts' E' (k + o) few fs ls = shC k (cloG ts E o few fs ls) := by
  unfold cloG at h3 ⊢
  have hlen := h.len
  rw [like_isK h hf hol]
  by_cases h1 : isK fs (nxt ts o) = false
  · rw [if_pos h1] at h3; simp at h3
  rw [if_neg h1] at h3 ⊢
  rw [if_neg h1]
  have hlt := isK_lt (s := fs) (ts := ts) (by simpa using h1)
  rw [Nat.add_assoc k o 1, like_isK h hs (show o + 1 ≤ ts.length by omega)]
  by_cases h2 : few = true ∧ isK ls (nxt ts (o + 1)) = true
  · rw [if_pos h2, if_pos h2]; rfl
  rw [if_neg h2] at h3 ⊢
  rw [if_neg h2]
  have hc := lpC_ok hP (ts.length + 1) (o + 1) [] (by omega)
  by_cases h4 : (lpC ts E (ts.length + 1) (o + 1) []).2.2 ≠ 0
  · rw [if_pos h4] at h3; exact absurd h3 h4
  have h4' : (lpC ts E (ts.length + 1) (o + 1) []).2.2 = 0 := by simpa using h4
  have hq := lpC_sh h hP hE (ts.length + 1) (ts'.length + 1) (o + 1) [] (by omega) (by omega) (by omega) h4'
  rw [hq]
  obtain ⟨c, hcc⟩ : ∃ c, lpC ts E (ts.length + 1) (o + 1) [] = c := ⟨_, rfl⟩
  rw [hcc] at h3 h4 h4' hc ⊢
  rw [if_neg h4] at h3 ⊢
  rw [if_neg (show ¬ (shC k c).2.2 ≠ 0 from h4), show isK ls (nxt ts' (shC k c).2.1) = isK ls (nxt ts c.2.1) from like_isK h hs hc.le.2]
  by_cases h5 : isK ls (nxt ts c.2.1) = false
  · rw [if_pos h5] at h3; simp at h3
  rw [if_neg h5, if_neg h5]
  rfl
theorem fin_sh {i o : Nat} {kk : Int} {s : ByteArray} {c : List VT × Nat × Int} (hc : OkC ts o c) (hi : i ≤ o) (h3 : (finC ts i kk s c).2.2 = 0) : finC ts' (k + i) kk s (shC k c) = sh k (finC ts i kk s c) := by
  unfold finC at h3 ⊢
  by_cases h0 : c.2.2 ≠ 0
  · rw [if_pos h0] at h3; exact absurd h3 h0
  rw [if_neg h0, if_neg (show ¬ (shC k c).2.2 ≠ 0 from h0)]
  have := hc.yes (by simpa using h0)
  exact mk7_sh h (by omega) hc.le.2
omit h in
theorem fin_er {i : Nat} {kk : Int} {s : ByteArray} {c : List VT × Nat × Int} (h3 : (finC ts i kk s c).2.2 = 0) : c.2.2 = 0 := by
  unfold finC at h3
  by_cases h0 : c.2.2 = 0
  · exact h0
  · rw [if_pos h0] at h3; exact absurd h3 h0
theorem calG_sh {E E' : Nat → Got} {i : Nat} (hi : i ≤ ts.length) (hP : ∀ j, j ≤ ts.length → OkG ts j (E j)) (hE : ∀ j, i < j → j ≤ ts.length → (E j).2.2 = 0 → E' (k + j) = sh k (E j)) (h3 : (calG ts E i).2.2 = 0) : calG ts' E' (k + i) = sh k (calG ts E i) := by
  unfold calG at h3 ⊢
  have hk1 := like_k h (c := 1) (.inl rfl) hi
  rw [like_isK h (s := sOpen) (by decide) hi, like_isK h (s := sAt) (by decide) hi, like_isK h (s := wNew) (by decide) hi, Nat.add_assoc k i 1, Nat.add_assoc k i 2]
  by_cases h1 : (nxt ts i).k = 1
  · rw [if_pos h1] at h3 ⊢
    rw [if_pos (hk1.mpr h1)]
    have hlt := k_lt h1 (by decide)
    rw [h.on i hlt, cloG_sh h hP hE (show i ≤ i + 1 by omega) (by omega) true sParO sParS (by decide) (by decide) (fin_er h3)]
    exact fin_sh h (cloG_ok hP true sParO sParS (by omega)) (by omega) h3
  rw [if_neg h1] at h3 ⊢
  rw [if_neg (fun hh => h1 (hk1.mp hh))]
  by_cases h2 : isK sOpen (nxt ts i) = true
  · rw [if_pos h2] at h3 ⊢
    rw [if_pos h2]
    rw [cloG_sh h hP hE (Nat.le_refl i) hi false sOpen sShut (by decide) (by decide) (fin_er h3)]
    exact fin_sh h (cloG_ok hP false sOpen sShut (by omega)) (by omega) h3
  rw [if_neg h2] at h3 ⊢
  rw [if_neg h2]
  by_cases h4 : isK sAt (nxt ts i) = true
  · rw [if_pos h4] at h3 ⊢
    rw [if_pos h4]
    have hlt := isK_lt h4
    by_cases h5 : (nxt ts (i + 1)).k = 1
    · have hlt2 := k_lt h5 (by decide)
      have n5 : ¬ (nxt ts (i + 1)).k ≠ 1 := fun hh => hh h5
      rw [if_neg n5] at h3 ⊢
      rw [h.on (i + 1) hlt2, if_neg n5, cloG_sh h hP hE (show i ≤ i + 2 by omega) (by omega) true sParO sParS (by decide) (by decide) (fin_er h3)]
      exact fin_sh h (cloG_ok hP true sParO sParS (by omega)) (by omega) h3
    · rw [if_pos h5] at h3; simp [bad7] at h3
  rw [if_neg h4] at h3 ⊢
  rw [if_neg h4]
  by_cases h6 : isK wNew (nxt ts i) = true
  · rw [if_pos h6] at h3 ⊢
    rw [if_pos h6]
    have hlt := isK_lt h6
    by_cases h5 : (nxt ts (i + 1)).k = 1
    · have hlt2 := k_lt h5 (by decide)
      have n5 : ¬ (nxt ts (i + 1)).k ≠ 1 := fun hh => hh h5
      rw [if_neg n5] at h3 ⊢
      rw [h.on (i + 1) hlt2, if_neg n5, cloG_sh h hP hE (show i ≤ i + 2 by omega) (by omega) false sParO sParS (by decide) (by decide) (fin_er h3)]
      exact fin_sh h (cloG_ok hP false sParO sParS (by omega)) (by omega) h3
    · rw [if_pos h5] at h3; simp [bad7] at h3
  rw [if_neg h6] at h3
  simp [bad7] at h3
theorem atoG_sh {E E' : Nat → Got} {i : Nat} (hi : i ≤ ts.length) (hP : ∀ j, j ≤ ts.length → OkG ts j (E j)) (hE : ∀ j, i < j → j ≤ ts.length → (E j).2.2 = 0 → E' (k + j) = sh k (E j)) (h3 : (atoG ts E i).2.2 = 0) : atoG ts' E' (k + i) = sh k (atoG ts E i) := by
  unfold atoG at h3 ⊢
  have hk1 := like_k h (c := 1) (.inl rfl) hi
  have hk2 := like_k h (c := 2) (.inr rfl) hi
  rw [like_isK h (s := wTrue) (by decide) hi, like_isK h (s := wFals) (by decide) hi, like_isK h (s := wRead) (by decide) hi, like_isK h (s := sParO) (by decide) hi, Nat.add_assoc k i 1]
  by_cases h1 : (nxt ts i).k = 2
  · have hlt := k_lt h1 (by decide)
    rw [if_pos (hk2.mpr h1), if_pos h1, h.on i hlt]
    exact mk7_sh h (by omega) (by omega)
  rw [if_neg h1] at h3 ⊢
  rw [if_neg (fun hh => h1 (hk2.mp hh))]
  by_cases h2 : isK wTrue (nxt ts i) = true
  · have hlt := isK_lt h2
    rw [if_pos h2, if_pos h2]
    exact mk7_sh h (by omega) (by omega)
  rw [if_neg h2] at h3 ⊢
  rw [if_neg h2]
  by_cases h4 : isK wFals (nxt ts i) = true
  · have hlt := isK_lt h4
    rw [if_pos h4, if_pos h4]
    exact mk7_sh h (by omega) (by omega)
  rw [if_neg h4] at h3 ⊢
  rw [if_neg h4]
  by_cases h5 : isK wRead (nxt ts i) = true
  · have hlt := isK_lt h5
    rw [if_pos h5, if_pos h5]
    exact mk7_sh h (by omega) (by omega)
  rw [if_neg h5] at h3 ⊢
  rw [if_neg h5]
  by_cases h6 : (nxt ts i).k = 1
  · have hlt := k_lt h6 (by decide)
    rw [like_isK h (s := sParO) (by decide) (show i + 1 ≤ ts.length by omega)]
    by_cases h7 : isK sParO (nxt ts (i + 1)) = false
    · rw [if_pos ⟨hk1.mpr h6, h7⟩, if_pos ⟨h6, h7⟩, h.on i hlt]
      exact mk7_sh h (by omega) (by omega)
    · have n7 : ¬ ((nxt ts i).k = 1 ∧ isK sParO (nxt ts (i + 1)) = false) := fun hh => h7 hh.2
      have n8 : ¬ isK sParO (nxt ts i) = true := by
        intro hh
        unfold isK at hh
        rw [h6, show quo sParO = 4 by decide] at hh
        simp at hh
      rw [if_neg n7, if_neg n8] at h3
      rw [if_neg (fun hh => h7 hh.2), if_neg n8, if_neg n7, if_neg n8]
      exact calG_sh h hi hP hE h3
  have n7 : ∀ b : Bool, ¬ ((nxt ts i).k = 1 ∧ b = false) := fun b hh => h6 hh.1
  rw [if_neg (n7 _)] at h3 ⊢
  rw [if_neg (fun hh => h6 (hk1.mp hh.1))]
  by_cases h8 : isK sParO (nxt ts i) = true
  · rw [if_pos h8] at h3 ⊢
    rw [if_pos h8]
    have hlt := isK_lt h8
    have hp := hP (i + 1) (by omega)
    by_cases h9 : (E (i + 1)).2.2 ≠ 0
    · rw [if_pos h9] at h3; exact absurd h3 h9
    rw [if_neg h9] at h3 ⊢
    have h9' : (E (i + 1)).2.2 = 0 := by simpa using h9
    have hpy := hp.yes h9'
    rw [hE (i + 1) (by omega) (by omega) h9', if_neg (show ¬ (sh k (E (i + 1))).2.2 ≠ 0 from h9), show isK sParS (nxt ts' (sh k (E (i + 1))).2.1) = isK sParS (nxt ts (E (i + 1)).2.1) from like_isK h (by decide) hpy.2]
    by_cases h10 : isK sParS (nxt ts (E (i + 1)).2.1) = false
    · rw [if_pos h10] at h3; simp [bad7] at h3
    rw [if_neg h10, if_neg h10]
    rfl
  rw [if_neg h8] at h3 ⊢
  rw [if_neg h8]
  exact calG_sh h hi hP hE h3
theorem bG_sh {R R' : Nat → Nat → Got} {w i : Nat} (hi : i ≤ ts.length) (hw1 : 1 ≤ w) (hw : w ≤ 8) (hP : ∀ w j, j ≤ ts.length → OkG ts j (R w j)) (hR : ∀ w' j, 1 ≤ w' → w' ≤ 8 → j ≤ ts.length → me ts w' j < me ts w i → (R w' j).2.2 = 0 → R' w' (k + j) = sh k (R w' j)) (h3 : (bG ts R w i).2.2 = 0) : bG ts' R' w (k + i) = sh k (bG ts R w i) := by
  have far : ∀ w' j, 1 ≤ w' → w' ≤ 8 → i < j → j ≤ ts.length → (R w' j).2.2 = 0 → R' w' (k + j) = sh k (R w' j) := fun w' j h1 h2 h4 h5 => hR w' j h1 h2 h5 (by unfold me; omega)
  have hlen := h.len
  unfold bG at h3 ⊢
  by_cases c1 : w ≤ 5
  · rw [if_pos c1] at h3 ⊢
    rw [if_pos c1]
    have h0 : (R (w + 1) i).2.2 = 0 := by
      by_cases h0 : (R (w + 1) i).2.2 = 0
      · exact h0
      · rw [lpL, if_pos h0] at h3; exact h3
    rw [hR (w + 1) i (by omega) (by omega) hi (by unfold me; omega) h0]
    exact lpL_sh h c1 (hP _) (fun j h1 h2 h4 => far (w + 1) j (by omega) (by omega) h1 h2 h4) _ _ _ _ (hP _ i hi) (by have := ((hP (w + 1) i hi).yes h0).1; omega) (by have := ((hP (w + 1) i hi).yes h0).1; omega) h3
  rw [if_neg c1] at h3 ⊢
  rw [if_neg c1]
  by_cases c2 : w = 6
  · subst c2
    rw [if_pos rfl] at h3 ⊢
    rw [if_pos rfl]
    have hu : unN ts' (k + i) = unN ts i := by
      unfold unN
      rw [like_isK h (s := sNot) (by decide) hi, like_isK h (s := sMin) (by decide) hi]
    rw [hu, Nat.add_assoc k i 1]
    by_cases u0 : unN ts i = 0
    · rw [if_pos u0] at h3 ⊢
      rw [if_pos u0]
      exact hR 7 i (by omega) (by omega) hi (by unfold me; omega) h3
    rw [if_neg u0] at h3 ⊢
    rw [if_neg u0]
    have hlt : i < ts.length := by
      unfold unN at u0
      by_cases h1 : isK sNot (nxt ts i) = true
      · exact isK_lt h1
      · by_cases h2 : isK sMin (nxt ts i) = true
        · exact isK_lt h2
        · simp [h1, h2] at u0
    by_cases h4 : (R 6 (i + 1)).2.2 ≠ 0
    · rw [if_pos h4] at h3; exact absurd h3 h4
    have h4' : (R 6 (i + 1)).2.2 = 0 := by simpa using h4
    have hpy := (hP 6 (i + 1) (by omega)).yes h4'
    rw [far 6 (i + 1) (by omega) (by omega) (by omega) (by omega) h4', if_neg h4, if_neg (show ¬ (sh k (R 6 (i + 1))).2.2 ≠ 0 from h4)]
    exact mk7_sh h (by omega) hpy.2
  rw [if_neg c2] at h3 ⊢
  rw [if_neg c2]
  by_cases c3 : w = 7
  · subst c3
    rw [if_pos rfl] at h3 ⊢
    rw [if_pos rfl]
    have h0 : (R 8 i).2.2 = 0 := by
      by_cases h0 : (R 8 i).2.2 = 0
      · exact h0
      · rw [lpP, if_pos h0] at h3; exact h3
    rw [hR 8 i (by omega) (by omega) hi (by unfold me; omega) h0]
    exact lpP_sh h (hP _) (fun j h1 h2 h4 => far 1 j (by omega) (by omega) h1 h2 h4) _ _ _ (hP _ i hi) (by have := ((hP 8 i hi).yes h0).1; omega) (by have := ((hP 8 i hi).yes h0).1; omega) h3
  rw [if_neg c3] at h3 ⊢
  rw [if_neg c3]
  exact atoG_sh h hi (hP _) (fun j h1 h2 h4 => far 1 j (by omega) (by omega) h1 h2 h4) h3
theorem Q_sh : ∀ (n w i : Nat), 1 ≤ w → w ≤ 8 → i ≤ ts.length → me ts w i < n → (Qx ts w i).2.2 = 0 → Qx ts' w (k + i) = sh k (Qx ts w i) := by
  intro n
  induction n with
  | zero => intro w i _ _ _ hn; omega
  | succ n ih =>
    intro w i h1 h2 hi hn h3
    have hlen := h.len
    rw [Q_eq w i h1 h2 hi] at h3 ⊢
    rw [Q_eq w (k + i) h1 h2 (by omega)]
    exact bG_sh h hi h1 h2 Q_ok (fun w' j h4 h5 h6 h7 => ih w' j h4 h5 h6 (by omega)) h3
end
theorem apart {ts : List Tok} (a b : List Tok) (x : Tok) (hx : x.k = 4 ∧ x.s = sSem) (h : (Qx ts 1 0).2.2 = 0) : Qx (a ++ ts ++ [x] ++ b) 1 a.length = (( Qx ts 1 0).1, a.length + (Qx ts 1 0).2.1, 0) := by
  have hl : Like ts (a ++ ts ++ [x] ++ b) a.length := by
    refine ⟨fun j hj => ?_, ?_, by simp⟩
    · unfold nxt
      rw [show (a ++ ts ++ [x] ++ b)[a.length + j]? = ts[j]? by
        rw [List.append_assoc, List.append_assoc, List.getElem?_append_right (by omega), Nat.add_sub_cancel_left, List.getElem?_append_left hj]]
    · have e : nxt (a ++ ts ++ [x] ++ b) (a.length + ts.length) = x := by
        refine nxt_some ?_
        rw [List.append_assoc, List.getElem?_append_right (by simp), List.length_append, Nat.sub_self]
        rfl
      rw [e]; exact hx
  have := Q_sh hl _ 1 0 (by decide) (by decide) (Nat.zero_le _) (Nat.lt_succ_self _) h
  rw [Nat.add_zero] at this
  rw [this]
  unfold sh
  rw [h]
end Go.Proofs.Ythifckknijdgfaa.vt
