import Derived.Test.YthcnligihpnfiaaGreatDoorPkV11
import Derived.Test.YthcnligihpnfiaaGreatDoorPkV16
section
namespace Go.Proofs.YthcnligihpnfiaaGreatDoor.vt
open Go.Proofs.YthcnligihpnfiaaGreatDoor.am
set_option linter.unusedVariables false
def mvK (d : Int) (x : Tok) : Tok := ⟨x.k, x.n, x.s, x.f + d, x.t + d⟩
noncomputable def mvT (d : Int) (t : VT) : VT := Tr.fold (fun x _ b => .mk ⟨x.k, x.n, x.s, x.f + d, x.t + d⟩ b) t
theorem mvT_mk (d : Int) (x : Lab) (l : List VT) : mvT d (.mk x l) = .mk ⟨x.k, x.n, x.s, x.f + d, x.t + d⟩ (l.map (mvT d)) := Tr.fold_mk _ x l
theorem mvT_zero (t : VT) : mvT 0 t = t := by
  induction t using Tr.ind with
  | h x l ih =>
    rw [mvT_mk]
    have : l.map (mvT 0) = l := by
      conv => rhs; rw [← List.map_id l]
      exact List.map_congr_left (fun y hy => ih y hy)
    rw [this]
    simp
structure LikeM (ts ts' : List Tok) (k : Nat) (d : Int) (M : Nat) : Prop where
  on : ∀ j, j < M → nxt ts' (k + j) = mvK d (nxt ts j)
  le : M ≤ ts.length
  len : k + M ≤ ts'.length
noncomputable def shd (k : Nat) (d : Int) (x : Got) : Got := (mvT d x.1, k + x.2.1, x.2.2)
noncomputable def shL (k : Nat) (d : Int) (x : List VT × Nat × Int) : List VT × Nat × Int := (x.1.map (mvT d), k + x.2.1, x.2.2)
section
variable {ts ts' : List Tok} {k : Nat} {d : Int} {M : Nat} (h : LikeM ts ts' k d M)
include h
theorem m_isK {s : ByteArray} {j : Nat} (hj : j < M) : isK s (nxt ts' (k + j)) = isK s (nxt ts j) := by rw [h.on j hj]; rfl
theorem m_op {j : Nat} (hj : j < M) : opK (nxt ts' (k + j)) = opK (nxt ts j) := by rw [h.on j hj]; rfl
theorem m_k {j : Nat} (hj : j < M) : (nxt ts' (k + j)).k = (nxt ts j).k := by rw [h.on j hj]; rfl
theorem m_n {j : Nat} (hj : j < M) : (nxt ts' (k + j)).n = (nxt ts j).n := by rw [h.on j hj]; rfl
theorem m_s {j : Nat} (hj : j < M) : (nxt ts' (k + j)).s = (nxt ts j).s := by rw [h.on j hj]; rfl
theorem mk7_m {a b : Nat} {kk n : Int} {s : ByteArray} {l : List VT} (ha : a < b) (hb : b ≤ M) : mk7 ts' (k + a) (k + b) kk n s (l.map (mvT d)) = shd k d (mk7 ts a b kk n s l) := by
  unfold mk7 shd frT toT
  dsimp only
  rw [h.on a (by omega), show k + b - 1 = k + (b - 1) by omega, h.on (b - 1) (by omega), mvT_mk]
  rfl
omit h in
theorem lpL_ge {P : Nat → Got} {l a : Nat} (hl5 : l ≤ 5) (hP : ∀ j, j ≤ ts.length → OkG ts j (P j)) : ∀ (m : Nat) (t : Bool) (x : Got), OkG ts a x → (lpL ts P l a m t x).2.2 = 0 → x.2.1 ≤ (lpL ts P l a m t x).2.1 := by
  intro m
  induction m with
  | zero => intro t x hx h; exact Nat.le_refl _
  | succ m ih =>
    intro t x hx h
    unfold lpL at h ⊢
    by_cases h0 : x.2.2 = 0; rotate_left
    · rw [if_pos h0] at h; exact absurd h h0
    rw [if_neg (by simp [h0])] at h ⊢
    by_cases h4 : (opK (nxt ts x.2.1)).2 ≠ l ∨ (l = 3 ∧ t = true)
    · rw [if_pos h4]; exact Nat.le_refl _
    rw [if_neg h4] at h ⊢
    have h5 : (opK (nxt ts x.2.1)).2 = l := by simpa using (not_or.1 h4).1
    have hlt := op_lt h5 hl5
    by_cases h6 : (P (x.2.1 + 1)).2.2 ≠ 0
    · rw [if_pos h6] at h; exact absurd h h6
    rw [if_neg h6] at h ⊢
    have hy := (hP (x.2.1 + 1) (by omega)).yes (by simpa using h6)
    have hx0 := hx.yes h0
    have := ih true _ (ok_mk (by omega) hy.2) h
    simp only [mk7] at this ⊢
    omega
theorem lpL_m {P P' : Nat → Got} {l a : Nat} (hl5 : l ≤ 5) (hP : ∀ j, j ≤ ts.length → OkG ts j (P j)) (hE : ∀ j, a < j → j ≤ ts.length → (P j).2.2 = 0 → (P j).2.1 < M → P' (k + j) = shd k d (P j)) : ∀ (m m' : Nat) (t : Bool) (x : Got), OkG ts a x → ts.length < m + x.2.1 → ts'.length < m' + (k + x.2.1) → (lpL ts P l a m t x).2.2 = 0 → (lpL ts P l a m t x).2.1 < M → lpL ts' P' l (k + a) m' t (shd k d x) = shd k d (lpL ts P l a m t x) := by
  intro m
  induction m with
  | zero =>
    intro m' t x hx h1 h2 h3 hM
    have h3 : x.2.2 = 0 := h3
    have := (hx.yes h3).2
    omega
  | succ m ih =>
    intro m' t x hx h1 h2 h3 hM
    have hge := lpL_ge hl5 hP (m + 1) t x hx h3
    by_cases h0 : x.2.2 = 0; rotate_left
    · rw [lpL, if_pos h0] at h3; exact absurd h3 h0
    have hy := hx.yes h0
    have hlen := h.len
    have hle := h.le
    obtain ⟨m', rfl⟩ : ∃ n, m' = n + 1 := ⟨m' - 1, by omega⟩
    have n0 : ¬ x.2.2 ≠ 0 := fun hh => hh h0
    have n0' : ¬ (shd k d x).2.2 ≠ 0 := n0
    have ho : opK (nxt ts' (shd k d x).2.1) = opK (nxt ts x.2.1) := m_op h (by omega)
    rw [lpL, if_neg n0] at h3 hM
    rw [lpL, if_neg n0', ho, lpL, if_neg n0]
    by_cases h4 : (opK (nxt ts x.2.1)).2 ≠ l ∨ (l = 3 ∧ t = true)
    · rw [if_pos h4, if_pos h4]
    rw [if_neg h4] at h3 hM ⊢
    rw [if_neg h4]
    have h5 : (opK (nxt ts x.2.1)).2 = l := by simpa using (not_or.1 h4).1
    have hlt := op_lt h5 hl5
    have hp := hP (x.2.1 + 1) (by omega)
    by_cases h6 : (P (x.2.1 + 1)).2.2 ≠ 0
    · rw [if_pos h6] at h3; exact absurd h3 h6
    rw [if_neg h6] at h3 hM ⊢
    have h6' : (P (x.2.1 + 1)).2.2 = 0 := by simpa using h6
    have hpy := hp.yes h6'
    have hge2 := lpL_ge (a := a) hl5 hP m true _ (ok_mk (by omega) hpy.2) h3
    have hpm : (P (x.2.1 + 1)).2.1 < M := by simp only [mk7] at hge2 hM; omega
    have hq : P' ((shd k d x).2.1 + 1) = shd k d (P (x.2.1 + 1)) := hE (x.2.1 + 1) (by omega) (by omega) h6' hpm
    rw [hq, if_neg (show ¬ (shd k d (P (x.2.1 + 1))).2.2 ≠ 0 from h6)]
    rw [← ih m' true _ (ok_mk (by omega) hpy.2) (by simp only [mk7]; omega) (by simp only [mk7]; omega) h3 hM, ← mk7_m h (by omega) (Nat.le_of_lt hpm)]
    rfl
omit h in
theorem lpP_ge {E : Nat → Got} {a : Nat} (hP : ∀ j, j ≤ ts.length → OkG ts j (E j)) : ∀ (m : Nat) (x : Got), OkG ts a x → (lpP ts E a m x).2.2 = 0 → x.2.1 ≤ (lpP ts E a m x).2.1 := by
  intro m
  induction m with
  | zero => intro x hx h; exact Nat.le_refl _
  | succ m ih =>
    intro x hx h
    unfold lpP at h ⊢
    by_cases h0 : x.2.2 = 0; rotate_left
    · rw [if_pos h0] at h; exact absurd h h0
    rw [if_neg (by simp [h0])] at h ⊢
    have hy := hx.yes h0
    by_cases h4 : isK sOpen (nxt ts x.2.1) = true
    · rw [if_pos h4] at h ⊢
      have hlt := isK_lt h4
      by_cases h6 : (E (x.2.1 + 1)).2.2 ≠ 0
      · rw [if_pos h6] at h; exact absurd h h6
      rw [if_neg h6] at h ⊢
      have hyy := (hP (x.2.1 + 1) (by omega)).yes (by simpa using h6)
      by_cases h7 : isK sShut (nxt ts (E (x.2.1 + 1)).2.1) = false
      · rw [if_pos h7] at h; simp [bad7] at h
      rw [if_neg h7] at h ⊢
      have hlt2 := isK_lt (s := sShut) (ts := ts) (by simpa using h7)
      have := ih _ (ok_mk (by omega) (by omega)) h
      simp only [mk7] at this ⊢
      omega
    rw [if_neg h4] at h ⊢
    by_cases h5 : isK sDot (nxt ts x.2.1) = true
    · rw [if_pos h5] at h ⊢
      have hlt := isK_lt h5
      by_cases h7 : (nxt ts (x.2.1 + 1)).k ≠ 1
      · rw [if_pos h7] at h; simp [bad7] at h
      rw [if_neg h7] at h ⊢
      have hlt2 := k_lt (ts := ts) (k := 1) (by simpa using h7) (by decide)
      have := ih _ (ok_mk (by omega) (by omega)) h
      simp only [mk7] at this ⊢
      omega
    · rw [if_neg h5]; exact Nat.le_refl _
theorem lpP_m {E E' : Nat → Got} {a : Nat} (hP : ∀ j, j ≤ ts.length → OkG ts j (E j)) (hE : ∀ j, a < j → j ≤ ts.length → (E j).2.2 = 0 → (E j).2.1 < M → E' (k + j) = shd k d (E j)) : ∀ (m m' : Nat) (x : Got), OkG ts a x → ts.length < m + x.2.1 → ts'.length < m' + (k + x.2.1) → (lpP ts E a m x).2.2 = 0 → (lpP ts E a m x).2.1 < M → lpP ts' E' (k + a) m' (shd k d x) = shd k d (lpP ts E a m x) := by
  intro m
  induction m with
  | zero =>
    intro m' x hx h1 h2 h3 hM
    have h3 : x.2.2 = 0 := h3
    have := (hx.yes h3).2
    omega
  | succ m ih =>
    intro m' x hx h1 h2 h3 hM
    have hge := lpP_ge hP (m + 1) x hx h3
    by_cases h0 : x.2.2 = 0; rotate_left
    · rw [lpP, if_pos h0] at h3; exact absurd h3 h0
    have hy := hx.yes h0
    have hlen := h.len
    have hle := h.le
    obtain ⟨m', rfl⟩ : ∃ n, m' = n + 1 := ⟨m' - 1, by omega⟩
    have n0 : ¬ x.2.2 ≠ 0 := fun hh => hh h0
    have n0' : ¬ (shd k d x).2.2 ≠ 0 := n0
    have i1 : isK sOpen (nxt ts' (shd k d x).2.1) = isK sOpen (nxt ts x.2.1) := m_isK h (by omega)
    have i2 : isK sDot (nxt ts' (shd k d x).2.1) = isK sDot (nxt ts x.2.1) := m_isK h (by omega)
    rw [lpP, if_neg n0] at h3 hM
    rw [lpP, if_neg n0', i1, i2, lpP, if_neg n0]
    by_cases h4 : isK sOpen (nxt ts x.2.1) = true
    · rw [if_pos h4] at h3 hM ⊢
      rw [if_pos h4]
      have hlt := isK_lt h4
      have hp := hP (x.2.1 + 1) (by omega)
      by_cases h6 : (E (x.2.1 + 1)).2.2 ≠ 0
      · rw [if_pos h6] at h3; exact absurd h3 h6
      rw [if_neg h6] at h3 hM ⊢
      have h6' : (E (x.2.1 + 1)).2.2 = 0 := by simpa using h6
      have hpy := hp.yes h6'
      by_cases h7 : isK sShut (nxt ts (E (x.2.1 + 1)).2.1) = false
      · rw [if_pos h7] at h3; simp [bad7] at h3
      rw [if_neg h7] at h3 hM ⊢
      have hlt2 := isK_lt (s := sShut) (ts := ts) (by simpa using h7)
      have hge2 := lpP_ge (a := a) hP m _ (ok_mk (by omega) (by omega)) h3
      have hpm : (E (x.2.1 + 1)).2.1 + 1 < M := by simp only [mk7] at hge2 hM; omega
      have hq : E' ((shd k d x).2.1 + 1) = shd k d (E (x.2.1 + 1)) := hE (x.2.1 + 1) (by omega) (by omega) h6' (by omega)
      have i3 : isK sShut (nxt ts' (shd k d (E (x.2.1 + 1))).2.1) = isK sShut (nxt ts (E (x.2.1 + 1)).2.1) := m_isK h (by omega)
      rw [hq, if_neg (show ¬ (shd k d (E (x.2.1 + 1))).2.2 ≠ 0 from h6), i3, if_neg h7]
      rw [← ih m' _ (ok_mk (by omega) (by omega)) (by simp only [mk7]; omega) (by simp only [mk7]; omega) h3 hM, ← mk7_m h (by omega) (by omega)]
      rfl
    rw [if_neg h4] at h3 hM ⊢
    rw [if_neg h4]
    by_cases h5 : isK sDot (nxt ts x.2.1) = true
    · rw [if_pos h5] at h3 hM ⊢
      rw [if_pos h5]
      have hlt := isK_lt h5
      by_cases h7 : (nxt ts (x.2.1 + 1)).k = 1
      · have n7 : ¬ (nxt ts (x.2.1 + 1)).k ≠ 1 := fun hh => hh h7
        have hlt2 := k_lt h7 (by decide)
        rw [if_neg n7] at h3 hM ⊢
        have hge2 := lpP_ge (a := a) hP m _ (ok_mk (by omega) (by omega)) h3
        have hpm : x.2.1 + 2 < M := by simp only [mk7] at hge2 hM; omega
        have hk : (nxt ts' ((shd k d x).2.1 + 1)).k = (nxt ts (x.2.1 + 1)).k := m_k h (j := x.2.1 + 1) (by omega)
        have hs : (nxt ts' ((shd k d x).2.1 + 1)).s = (nxt ts (x.2.1 + 1)).s := m_s h (j := x.2.1 + 1) (by omega)
        rw [hk, hs, if_neg n7]
        rw [← ih m' _ (ok_mk (by omega) (by omega)) (by simp only [mk7]; omega) (by simp only [mk7]; omega) h3 hM, ← mk7_m h (by omega) (by omega)]
        rfl
      · rw [if_pos h7] at h3; simp [bad7] at h3
    · rw [if_neg h5] at h3 hM ⊢
      rw [if_neg h5]
omit h in
theorem lpC_ge {E : Nat → Got} (hP : ∀ j, j ≤ ts.length → OkG ts j (E j)) : ∀ (m i : Nat) (acc : List VT), i ≤ ts.length → (lpC ts E m i acc).2.2 = 0 → (E i).2.2 = 0 ∧ (E i).2.1 ≤ (lpC ts E m i acc).2.1 := by
  intro m
  induction m with
  | zero => intro i acc hi h; simp [lpC] at h
  | succ m ih =>
    intro i acc hi h
    unfold lpC at h ⊢
    by_cases h0 : (E i).2.2 = 0; rotate_left
    · rw [if_pos h0] at h; exact absurd h h0
    rw [if_neg (by simp [h0])] at h ⊢
    have hy := (hP i hi).yes h0
    refine ⟨h0, ?_⟩
    by_cases h4 : isK sCom (nxt ts (E i).2.1) = false
    · rw [if_pos h4]; exact Nat.le_refl _
    rw [if_neg h4] at h ⊢
    have hlt := isK_lt (s := sCom) (ts := ts) (by simpa using h4)
    have := ih ((E i).2.1 + 1) _ (by omega) h
    have := (hP ((E i).2.1 + 1) (by omega)).yes this.1
    omega
theorem lpC_m {E E' : Nat → Got} {a : Nat} (hP : ∀ j, j ≤ ts.length → OkG ts j (E j)) (hE : ∀ j, a < j → j ≤ ts.length → (E j).2.2 = 0 → (E j).2.1 < M → E' (k + j) = shd k d (E j)) : ∀ (m m' i : Nat) (acc : List VT), a < i → i ≤ ts.length → ts'.length < m' + (k + i) → (lpC ts E m i acc).2.2 = 0 → (lpC ts E m i acc).2.1 < M → lpC ts' E' m' (k + i) (acc.map (mvT d)) = shL k d (lpC ts E m i acc) := by
  intro m
  induction m with
  | zero => intro m' i acc ha hi h2 h3; simp [lpC] at h3
  | succ m ih =>
    intro m' i acc ha hi h2 h3 hM
    have hge := lpC_ge hP (m + 1) i acc hi h3
    have hEm : (E i).2.1 < M := by omega
    have hlen := h.len
    have hle := h.le
    have hp := hP i hi
    have hy := hp.yes hge.1
    obtain ⟨m', rfl⟩ : ∃ n, m' = n + 1 := ⟨m' - 1, by omega⟩
    rw [lpC] at h3 hM
    rw [lpC, lpC]
    have h0 : ¬ (E i).2.2 ≠ 0 := fun hh => hh hge.1
    rw [if_neg h0] at h3 hM ⊢
    have hq := hE i ha hi hge.1 hEm
    have i1 : isK sCom (nxt ts' (shd k d (E i)).2.1) = isK sCom (nxt ts (E i).2.1) := m_isK h hEm
    rw [hq, if_neg (show ¬ (shd k d (E i)).2.2 ≠ 0 from h0), i1]
    have hmap : acc.map (mvT d) ++ [(shd k d (E i)).1] = (acc ++ [(E i).1]).map (mvT d) := by rw [List.map_append]; rfl
    rw [hmap]
    by_cases h4 : isK sCom (nxt ts (E i).2.1) = false
    · rw [if_pos h4, if_pos h4]; rfl
    rw [if_neg h4] at h3 hM ⊢
    rw [if_neg h4]
    have hlt := isK_lt (s := sCom) (ts := ts) (by simpa using h4)
    exact ih m' ((E i).2.1 + 1) (acc ++ [(E i).1]) (by omega) (by omega) (by omega) h3 hM
theorem cloG_m {E E' : Nat → Got} {a : Nat} (hP : ∀ j, j ≤ ts.length → OkG ts j (E j)) (hE : ∀ j, a < j → j ≤ ts.length → (E j).2.2 = 0 → (E j).2.1 < M → E' (k + j) = shd k d (E j)) {o : Nat} (ho : a ≤ o) (hol : o < M) (few : Bool) (fs ls : ByteArray) (h3 : (cloG ts E o few fs ls).2.2 = 0) (hM : (cloG ts E o few fs ls).2.1 ≤ M) : cloG ts' E' (k + o) few fs ls = shL k d (cloG ts E o few fs ls) := by
  have hle := h.le
  have hlen := h.len
  unfold cloG at h3 hM ⊢
  rw [m_isK h hol]
  by_cases h1 : isK fs (nxt ts o) = false
  · rw [if_pos h1] at h3; simp at h3
  rw [if_neg h1] at h3 hM ⊢
  rw [if_neg h1]
  have hlt := isK_lt (s := fs) (ts := ts) (by simpa using h1)
  have hc := lpC_ok hP (ts.length + 1) (o + 1) [] (by omega)
  have ho1 : o + 1 < M := by
    by_cases h2 : few = true ∧ isK ls (nxt ts (o + 1)) = true
    · rw [if_pos h2] at hM; dsimp only at hM; omega
    · rw [if_neg h2] at h3 hM
      by_cases h4 : (lpC ts E (ts.length + 1) (o + 1) []).2.2 ≠ 0
      · rw [if_pos h4] at h3; exact absurd h3 h4
      rw [if_neg h4] at h3 hM
      have := hc.yes (by simpa using h4)
      by_cases h5 : isK ls (nxt ts (lpC ts E (ts.length + 1) (o + 1) []).2.1) = false
      · rw [if_pos h5] at h3; simp at h3
      · rw [if_neg h5] at hM; dsimp only at hM; omega
  rw [Nat.add_assoc k o 1, m_isK h ho1]
  by_cases h2 : few = true ∧ isK ls (nxt ts (o + 1)) = true
  · rw [if_pos h2, if_pos h2]; rfl
  rw [if_neg h2] at h3 hM ⊢
  rw [if_neg h2]
  by_cases h4 : (lpC ts E (ts.length + 1) (o + 1) []).2.2 ≠ 0
  · rw [if_pos h4] at h3; exact absurd h3 h4
  have h4' : (lpC ts E (ts.length + 1) (o + 1) []).2.2 = 0 := by simpa using h4
  rw [if_neg h4] at h3 hM ⊢
  by_cases h5 : isK ls (nxt ts (lpC ts E (ts.length + 1) (o + 1) []).2.1) = false
  · rw [if_pos h5] at h3; simp at h3
  rw [if_neg h5] at h3 hM ⊢
  have hcm : (lpC ts E (ts.length + 1) (o + 1) []).2.1 < M := by dsimp only at hM; omega
  have hq := lpC_m h hP hE (ts.length + 1) (ts'.length + 1) (o + 1) [] (by omega) (by omega) (by omega) h4' hcm
  rw [List.map_nil] at hq
  rw [hq]
  rw [if_neg (show ¬ (shL k d (lpC ts E (ts.length + 1) (o + 1) [])).2.2 ≠ 0 from h4), show isK ls (nxt ts' (shL k d (lpC ts E (ts.length + 1) (o + 1) [])).2.1) = isK ls (nxt ts (lpC ts E (ts.length + 1) (o + 1) []).2.1) from m_isK h hcm, if_neg h5]
  rfl
theorem fin_m {i o : Nat} {kk : Int} {s : ByteArray} {c : List VT × Nat × Int} (hc : OkC ts o c) (hi : i ≤ o) (h3 : c.2.2 = 0) (hM : c.2.1 ≤ M) : finC ts' (k + i) kk s (shL k d c) = shd k d (finC ts i kk s c) := by
  unfold finC
  rw [if_neg (show ¬ (shL k d c).2.2 ≠ 0 by show ¬ c.2.2 ≠ 0; simp [h3]), if_neg (show ¬ c.2.2 ≠ 0 by simp [h3])]
  have := hc.yes h3
  exact mk7_m h (by omega) hM
omit h in
theorem fin_to {i : Nat} {kk : Int} {s : ByteArray} {c : List VT × Nat × Int} : (finC ts i kk s c).2.1 = c.2.1 ∧ (finC ts i kk s c).2.2 = c.2.2 := by
  unfold finC
  by_cases h0 : c.2.2 = 0
  · rw [if_neg (by simp [h0])]; exact ⟨rfl, h0.symm⟩
  · rw [if_pos h0]; exact ⟨rfl, rfl⟩
theorem cfin_m {E E' : Nat → Got} {i o : Nat} (hP : ∀ j, j ≤ ts.length → OkG ts j (E j)) (hE : ∀ j, i < j → j ≤ ts.length → (E j).2.2 = 0 → (E j).2.1 < M → E' (k + j) = shd k d (E j)) (hio : i ≤ o) (hol : o < M) (few : Bool) (fs ls : ByteArray) {kk : Int} {s : ByteArray} (h3 : (finC ts i kk s (cloG ts E o few fs ls)).2.2 = 0) (hM : (finC ts i kk s (cloG ts E o few fs ls)).2.1 ≤ M) : finC ts' (k + i) kk s (cloG ts' E' (k + o) few fs ls) = shd k d (finC ts i kk s (cloG ts E o few fs ls)) := by
  have hle := h.le
  have ht := fin_to (ts := ts) (i := i) (kk := kk) (s := s) (c := cloG ts E o few fs ls)
  rw [ht.2] at h3
  rw [ht.1] at hM
  rw [cloG_m h hP hE hio hol few fs ls h3 hM]
  exact fin_m h (cloG_ok hP few fs ls (by omega)) hio h3 hM
theorem calG_m {E E' : Nat → Got} {i : Nat} (hi : i < M) (hP : ∀ j, j ≤ ts.length → OkG ts j (E j)) (hE : ∀ j, i < j → j ≤ ts.length → (E j).2.2 = 0 → (E j).2.1 < M → E' (k + j) = shd k d (E j)) (h3 : (calG ts E i).2.2 = 0) (hM : (calG ts E i).2.1 ≤ M) : calG ts' E' (k + i) = shd k d (calG ts E i) := by
  have hle := h.le
  have hok := calG_ok hP i (by omega)
  have hy := hok.yes h3
  unfold calG at h3 hM hy ⊢
  rw [m_k h hi, m_s h hi, m_isK h (s := sOpen) hi, m_isK h (s := sAt) hi, m_isK h (s := wNew) hi, Nat.add_assoc k i 1, Nat.add_assoc k i 2]
  by_cases h1 : (nxt ts i).k = 1
  · rw [if_pos h1] at h3 hM hy ⊢
    rw [if_pos h1]
    have hlt := k_lt h1 (by decide)
    have hc := cloG_ok hP true sParO sParS (show i + 1 ≤ ts.length by omega)
    have ht := fin_to (ts := ts) (i := i) (kk := 16) (s := (nxt ts i).s) (c := cloG ts E (i + 1) true sParO sParS)
    have := hc.yes (by rw [← ht.2]; exact h3)
    exact cfin_m h hP hE (Nat.le_succ i) (by omega) true sParO sParS h3 hM
  rw [if_neg h1] at h3 hM hy ⊢
  rw [if_neg h1]
  by_cases h2 : isK sOpen (nxt ts i) = true
  · rw [if_pos h2] at h3 hM ⊢
    rw [if_pos h2]
    exact cfin_m h hP hE (Nat.le_refl i) hi false sOpen sShut h3 hM
  rw [if_neg h2] at h3 hM hy ⊢
  rw [if_neg h2]
  by_cases h4 : isK sAt (nxt ts i) = true
  · rw [if_pos h4] at h3 hM hy ⊢
    rw [if_pos h4]
    have hlt := isK_lt h4
    by_cases h5 : (nxt ts (i + 1)).k = 1
    · have hlt2 := k_lt h5 (by decide)
      have n5 : ¬ (nxt ts (i + 1)).k ≠ 1 := fun hh => hh h5
      rw [if_neg n5] at h3 hM hy ⊢
      have hc := cloG_ok hP true sParO sParS (show i + 2 ≤ ts.length by omega)
      have ht := fin_to (ts := ts) (i := i) (kk := 17) (s := (nxt ts (i + 1)).s) (c := cloG ts E (i + 2) true sParO sParS)
      have := hc.yes (by rw [← ht.2]; exact h3)
      rw [m_k h (j := i + 1) (by omega), m_s h (j := i + 1) (by omega), if_neg n5]
      exact cfin_m h hP hE (by omega) (by omega) true sParO sParS h3 hM
    · rw [if_pos h5] at h3; simp [bad7] at h3
  rw [if_neg h4] at h3 hM hy ⊢
  rw [if_neg h4]
  by_cases h6 : isK wNew (nxt ts i) = true
  · rw [if_pos h6] at h3 hM hy ⊢
    rw [if_pos h6]
    have hlt := isK_lt h6
    by_cases h5 : (nxt ts (i + 1)).k = 1
    · have hlt2 := k_lt h5 (by decide)
      have n5 : ¬ (nxt ts (i + 1)).k ≠ 1 := fun hh => hh h5
      rw [if_neg n5] at h3 hM hy ⊢
      have hc := cloG_ok hP false sParO sParS (show i + 2 ≤ ts.length by omega)
      have ht := fin_to (ts := ts) (i := i) (kk := 15) (s := (nxt ts (i + 1)).s) (c := cloG ts E (i + 2) false sParO sParS)
      have := hc.yes (by rw [← ht.2]; exact h3)
      rw [m_k h (j := i + 1) (by omega), m_s h (j := i + 1) (by omega), if_neg n5]
      exact cfin_m h hP hE (by omega) (by omega) false sParO sParS h3 hM
    · rw [if_pos h5] at h3; simp [bad7] at h3
  rw [if_neg h6] at h3
  simp [bad7] at h3
theorem atoG_m {E E' : Nat → Got} {i : Nat} (hi : i < M) (hP : ∀ j, j ≤ ts.length → OkG ts j (E j)) (hE : ∀ j, i < j → j ≤ ts.length → (E j).2.2 = 0 → (E j).2.1 < M → E' (k + j) = shd k d (E j)) (h3 : (atoG ts E i).2.2 = 0) (hM : (atoG ts E i).2.1 < M) : atoG ts' E' (k + i) = shd k d (atoG ts E i) := by
  have hle := h.le
  have hok := atoG_ok hP i (by omega)
  have hy := hok.yes h3
  have one : ∀ kk n s, mk7 ts' (k + i) (k + (i + 1)) kk n s [] = shd k d (mk7 ts i (i + 1) kk n s []) := fun kk n s => mk7_m h (l := []) (by omega) (by omega)
  unfold atoG at h3 hM hy ⊢
  rw [m_k h hi, m_n h hi, m_s h hi, m_isK h (s := wTrue) hi, m_isK h (s := wFals) hi, m_isK h (s := wRead) hi, m_isK h (s := sParO) hi, Nat.add_assoc k i 1]
  by_cases h1 : (nxt ts i).k = 2
  · rw [if_pos h1, if_pos h1]; exact one _ _ _
  rw [if_neg h1] at h3 hM hy ⊢
  rw [if_neg h1]
  by_cases h2 : isK wTrue (nxt ts i) = true
  · rw [if_pos h2, if_pos h2]; exact one _ _ _
  rw [if_neg h2] at h3 hM hy ⊢
  rw [if_neg h2]
  by_cases h4 : isK wFals (nxt ts i) = true
  · rw [if_pos h4, if_pos h4]; exact one _ _ _
  rw [if_neg h4] at h3 hM hy ⊢
  rw [if_neg h4]
  by_cases h5 : isK wRead (nxt ts i) = true
  · rw [if_pos h5, if_pos h5]; exact one _ _ _
  rw [if_neg h5] at h3 hM hy ⊢
  rw [if_neg h5]
  rw [m_isK h (s := sParO) (show i + 1 < M by omega)]
  by_cases h6 : (nxt ts i).k = 1 ∧ isK sParO (nxt ts (i + 1)) = false
  · rw [if_pos h6, if_pos h6]; exact one _ _ _
  rw [if_neg h6] at h3 hM hy ⊢
  rw [if_neg h6]
  by_cases h8 : isK sParO (nxt ts i) = true
  · rw [if_pos h8] at h3 hM ⊢
    rw [if_pos h8]
    have hlt := isK_lt h8
    have hp := hP (i + 1) (by omega)
    by_cases h9 : (E (i + 1)).2.2 ≠ 0
    · rw [if_pos h9] at h3; exact absurd h3 h9
    rw [if_neg h9] at h3 hM ⊢
    have h9' : (E (i + 1)).2.2 = 0 := by simpa using h9
    have hpy := hp.yes h9'
    by_cases h10 : isK sParS (nxt ts (E (i + 1)).2.1) = false
    · rw [if_pos h10] at h3; simp [bad7] at h3
    rw [if_neg h10] at h3 hM ⊢
    have hpm : (E (i + 1)).2.1 < M := by dsimp only at hM; omega
    rw [hE (i + 1) (by omega) (by omega) h9' hpm, if_neg (show ¬ (shd k d (E (i + 1))).2.2 ≠ 0 from h9), show isK sParS (nxt ts' (shd k d (E (i + 1))).2.1) = isK sParS (nxt ts (E (i + 1)).2.1) from m_isK h hpm, if_neg h10]
    rfl
  rw [if_neg h8] at h3 hM ⊢
  rw [if_neg h8]
  exact calG_m h hi hP hE h3 (Nat.le_of_lt hM)
theorem bG_m {R R' : Nat → Nat → Got} {w i : Nat} (hi : i < M) (hw1 : 1 ≤ w) (hw : w ≤ 8) (hP : ∀ w j, j ≤ ts.length → OkG ts j (R w j)) (hR : ∀ w' j, 1 ≤ w' → w' ≤ 8 → j ≤ ts.length → me ts w' j < me ts w i → (R w' j).2.2 = 0 → (R w' j).2.1 < M → R' w' (k + j) = shd k d (R w' j)) (h3 : (bG ts R w i).2.2 = 0) (hM : (bG ts R w i).2.1 < M) : bG ts' R' w (k + i) = shd k d (bG ts R w i) := by
  have hle := h.le
  have far : ∀ w' j, 1 ≤ w' → w' ≤ 8 → i < j → j ≤ ts.length → (R w' j).2.2 = 0 → (R w' j).2.1 < M → R' w' (k + j) = shd k d (R w' j) := fun w' j h1 h2 h4 h5 => hR w' j h1 h2 h5 (by unfold me; omega)
  have hlen := h.len
  unfold bG at h3 hM ⊢
  by_cases c1 : w ≤ 5
  · rw [if_pos c1] at h3 hM ⊢
    rw [if_pos c1]
    have h0 : (R (w + 1) i).2.2 = 0 := by
      by_cases h0 : (R (w + 1) i).2.2 = 0
      · exact h0
      · rw [lpL, if_pos h0] at h3; exact h3
    have hge := lpL_ge (a := i) c1 (hP (w + 1)) (ts.length + 1) false (R (w + 1) i) (hP _ i (by omega)) h3
    rw [hR (w + 1) i (by omega) (by omega) (by omega) (by unfold me; omega) h0 (by omega)]
    exact lpL_m h c1 (hP _) (fun j h1 h2 h4 h5 => far (w + 1) j (by omega) (by omega) h1 h2 h4 h5) _ _ _ _ (hP _ i (by omega)) (by have := ((hP (w + 1) i (by omega)).yes h0).1; omega) (by have := ((hP (w + 1) i (by omega)).yes h0).1; omega) h3 hM
  rw [if_neg c1] at h3 hM ⊢
  rw [if_neg c1]
  by_cases c2 : w = 6
  · subst c2
    rw [if_pos rfl] at h3 hM ⊢
    rw [if_pos rfl]
    have hu : unN ts' (k + i) = unN ts i := by
      unfold unN
      rw [m_isK h (s := sNot) hi, m_isK h (s := sMin) hi]
    rw [hu, Nat.add_assoc k i 1]
    by_cases u0 : unN ts i = 0
    · rw [if_pos u0] at h3 hM ⊢
      rw [if_pos u0]
      exact hR 7 i (by omega) (by omega) (by omega) (by unfold me; omega) h3 hM
    rw [if_neg u0] at h3 hM ⊢
    rw [if_neg u0]
    by_cases h4 : (R 6 (i + 1)).2.2 ≠ 0
    · rw [if_pos h4] at h3; exact absurd h3 h4
    rw [if_neg h4] at hM ⊢
    have h4' : (R 6 (i + 1)).2.2 = 0 := by simpa using h4
    have hpy := (hP 6 (i + 1) (by omega)).yes h4'
    have hpm : (R 6 (i + 1)).2.1 < M := by simp only [mk7] at hM; exact hM
    rw [far 6 (i + 1) (by omega) (by omega) (by omega) (by omega) h4' hpm, if_neg (show ¬ (shd k d (R 6 (i + 1))).2.2 ≠ 0 from h4)]
    exact mk7_m h (l := [(R 6 (i + 1)).1]) (by omega) (Nat.le_of_lt hpm)
  rw [if_neg c2] at h3 hM ⊢
  rw [if_neg c2]
  by_cases c3 : w = 7
  · subst c3
    rw [if_pos rfl] at h3 hM ⊢
    rw [if_pos rfl]
    have h0 : (R 8 i).2.2 = 0 := by
      by_cases h0 : (R 8 i).2.2 = 0
      · exact h0
      · rw [lpP, if_pos h0] at h3; exact h3
    have hge := lpP_ge (a := i) (hP 1) (ts.length + 1) (R 8 i) (hP _ i (by omega)) h3
    rw [hR 8 i (by omega) (by omega) (by omega) (by unfold me; omega) h0 (by omega)]
    exact lpP_m h (hP _) (fun j h1 h2 h4 h5 => far 1 j (by omega) (by omega) h1 h2 h4 h5) _ _ _ (hP _ i (by omega)) (by have := ((hP 8 i (by omega)).yes h0).1; omega) (by have := ((hP 8 i (by omega)).yes h0).1; omega) h3 hM
  rw [if_neg c3] at h3 hM ⊢
  rw [if_neg c3]
  exact atoG_m h hi (hP _) (fun j h1 h2 h4 h5 => far 1 j (by omega) (by omega) h1 h2 h4 h5) h3 hM
theorem Q_m : ∀ (n w i : Nat), 1 ≤ w → w ≤ 8 → i < M → me ts w i < n → (Qx ts w i).2.2 = 0 → (Qx ts w i).2.1 < M → Qx ts' w (k + i) = shd k d (Qx ts w i) := by
  intro n
  induction n with
  | zero => intro w i _ _ _ hn; omega
  | succ n ih =>
    intro w i h1 h2 hi hn h3 hM
    have hle := h.le
    have hlen := h.len
    rw [Q_eq w i h1 h2 (by omega)] at h3 hM ⊢
    rw [Q_eq w (k + i) h1 h2 (by omega)]
    refine bG_m h hi h1 h2 Q_ok (fun w' j h4 h5 h6 h7 h8 h9 => ?_) h3 hM
    have := (Q_ok (ts := ts) w' j h6).yes h8
    exact ih w' j h4 h5 (by omega) (by omega) h8 h9
theorem Qe_m (i : Nat) (h3 : (Qx ts 1 i).2.2 = 0) (hM : (Qx ts 1 i).2.1 < M) (hi : i ≤ ts.length) : Qx ts' 1 (k + i) = shd k d (Qx ts 1 i) := by
  have := (Q_ok (ts := ts) 1 i hi).yes h3
  exact Q_m h _ 1 i (by decide) (by decide) (by omega) (Nat.lt_succ_self _) h3 hM
end
section
variable {ts ts' : List Tok} {k : Nat} {d : Int} {M : Nat} (h : LikeM ts ts' k d M)
include h
theorem ty_m : ∀ (n n' i : Nat), ts'.length < n' + (k + i) → (tyG ts n i).2.2 = 0 → (tyG ts n i).2.1 ≤ M → tyG ts' n' (k + i) = shd k d (tyG ts n i) := by
  have hle := h.le
  have hlen := h.len
  have one : ∀ (i : Nat) (kk : Int) (s : ByteArray), i + 1 ≤ M → mk7 ts' (k + i) (k + (i + 1)) kk 0 s [] = shd k d (mk7 ts i (i + 1) kk 0 s []) := fun i kk s hi => mk7_m h (l := []) (by omega) hi
  intro n
  induction n with
  | zero => intro n' i _ h3; simp [tyG] at h3
  | succ n ih =>
    intro n' i hn' h3 hM
    have hy := (tyG_ok ts (n + 1) i).1 h3
    obtain ⟨n', rfl⟩ : ∃ m, n' = m + 1 := ⟨n' - 1, by omega⟩
    have hi : i < M := by omega
    unfold tyG at h3 hM hy ⊢
    rw [m_isK h (s := wInt) hi, m_isK h (s := wBool) hi, m_isK h (s := sOpen) hi, m_k h hi, m_s h hi]
    by_cases h1 : isK wInt (nxt ts i) = true
    · rw [if_pos h1] at hM ⊢; rw [if_pos h1]; exact one i 1 _ hM
    rw [if_neg h1] at h3 hM hy ⊢
    rw [if_neg h1]
    by_cases h2 : isK wBool (nxt ts i) = true
    · rw [if_pos h2] at hM ⊢; rw [if_pos h2]; exact one i 2 _ hM
    rw [if_neg h2] at h3 hM hy ⊢
    rw [if_neg h2]
    by_cases h4 : isK sOpen (nxt ts i) = true
    · rw [if_pos h4] at h3 hM hy ⊢
      rw [if_pos h4]
      by_cases h5 : (nxt ts (i + 1)).k = 2; rotate_left
      · rw [if_neg h5] at h3; simp at h3
      rw [if_pos h5] at h3 hM hy ⊢
      by_cases h6 : isK sShut (nxt ts (i + 2)) = true; rotate_left
      · rw [if_neg h6] at h3; simp at h3
      rw [if_pos h6] at h3 hM hy ⊢
      by_cases h7 : (tyG ts n (i + 3)).2.2 = 0; rotate_left
      · rw [if_neg h7] at h3; exact absurd h3 h7
      rw [if_pos h7] at h3 hM hy ⊢
      dsimp only at hM hy
      have hyy := (tyG_ok ts n (i + 3)).1 h7
      have e1 : nxt ts' (k + i + 1) = mvK d (nxt ts (i + 1)) := h.on (i + 1) (by omega)
      have e2 : nxt ts' (k + i + 2) = mvK d (nxt ts (i + 2)) := h.on (i + 2) (by omega)
      have e3 := ih n' (i + 3) (by omega) h7 hM
      rw [show k + i + 3 = k + (i + 3) by omega, e1, e2, e3, if_pos (show (mvK d (nxt ts (i + 1))).k = 2 from h5), if_pos (show isK sShut (mvK d (nxt ts (i + 2))) = true from h6), if_pos (show (shd k d (tyG ts n (i + 3))).2.2 = 0 from h7)]
      exact mk7_m h (a := i) (kk := 3) (n := (nxt ts (i + 1)).n) (s := ⟨#[]⟩) (l := [(tyG ts n (i + 3)).1]) (by omega) hM
    rw [if_neg h4] at h3 hM hy ⊢
    rw [if_neg h4]
    by_cases h5 : (nxt ts i).k = 1
    · rw [if_pos h5] at hM ⊢; rw [if_pos h5]; exact one i 4 _ hM
    · rw [if_neg h5] at h3; simp at h3
def Gd : List It → Prop
  | [] => True
  | .sub w :: l => (w ≠ 0 ∨ 1 ≤ ct l) ∧ Gd l
  | .els :: l => ct l = 0 ∧ Gd l
  | .sgn _ :: l => Gd l
  | .nam :: l => Gd l
theorem it_m {R R' : Nat → Nat → Got} (hR : ∀ w j, j ≤ ts.length → OkS ts (if w = 2 then 1 else 0) j (R w j)) (i : Nat) (hE : ∀ w j, i ≤ j → j ≤ ts.length → (R w j).2.2 = 0 → (R w j).2.1 ≤ M → (w = 0 → (R w j).2.1 < M) → R' w (k + j) = shd k d (R w j)) (a : Nat) (kk n : Int)
    (hels : ∀ tq, tq ≤ M → isK wElse (nxt ts' (k + tq)) = isK wElse (nxt ts tq)) : ∀ (l : List It) (tq : Nat) (s : ByteArray) (ps : List VT) (c : Nat), c + sm ps + a ≤ tq → i ≤ tq → tq ≤ ts.length → Cr c l → Gd l → (itH ts R a kk n l tq s ps).2.2 = 0 → (itH ts R a kk n l tq s ps).2.1 ≤ M → itH ts' R' (k + a) kk n l (k + tq) s (ps.map (mvT d)) = shd k d (itH ts R a kk n l tq s ps)
  | [], tq, s, ps, c, h1, h2, h3, h4, h5, h6, h7 => by
    unfold Cr at h4
    rw [itH] at h7 ⊢
    rw [itH]
    exact mk7_m h (by omega) h7
  | .sgn x :: l, tq, s, ps, c, h1, h2, h3, h4, h5, h6, h7 => by
    have hct := itG_ct hR a kk (n := n) (.sgn x :: l) tq s ps h3 h6
    unfold ct at hct
    rw [itG_sgn] at h6 h7 ⊢
    rw [itG_sgn, m_isK h (show tq < M by rw [itG_sgn] at hct; omega)]
    by_cases hx : isK x (nxt ts tq) = true
    · rw [if_pos hx] at h6 h7 ⊢
      rw [if_pos hx]
      have := isK_lt hx
      exact it_m hR i hE a kk n hels l (tq + 1) s ps (c + 1) (by omega) (by omega) (by omega) h4 h5 h6 h7
    · rw [if_neg hx] at h6; simp [bad7] at h6
  | .nam :: l, tq, s, ps, c, h1, h2, h3, h4, h5, h6, h7 => by
    have hct := itG_ct hR a kk (n := n) (.nam :: l) tq s ps h3 h6
    unfold ct at hct
    rw [itG_nam] at h6 h7 ⊢
    have hto : tq < M := by rw [itG_nam] at hct; omega
    rw [itG_nam, m_k h hto, m_s h hto]
    by_cases hx : (nxt ts tq).k = 1
    · rw [if_pos hx] at h6 h7 ⊢
      rw [if_pos hx]
      have := k_lt hx (by decide)
      exact it_m hR i hE a kk n hels l (tq + 1) _ ps (c + 1) (by omega) (by omega) (by omega) h4 h5 h6 h7
    · rw [if_neg hx] at h6; simp [bad7] at h6
  | .sub w :: l, tq, s, ps, c, h1, h2, h3, h4, h5, h6, h7 => by
    have hr := hR w tq h3
    rw [itG_sub] at h6 h7 ⊢
    rw [itG_sub]
    by_cases hx : (R w tq).2.2 = 0
    · rw [if_pos hx] at h6 h7 ⊢
      have hy := hr.ok.yes hx
      have hs := hr.sz hx
      have hct := itG_ct hR a kk (n := n) l _ s (ps ++ [(R w tq).1]) hy.2 h6
      have hq := hE w tq h2 h3 hx (by omega) (fun hw => by have := h5.1; omega)
      rw [hq, if_pos (show (shd k d (R w tq)).2.2 = 0 from hx)]
      have hm : ps.map (mvT d) ++ [(shd k d (R w tq)).1] = (ps ++ [(R w tq).1]).map (mvT d) := by rw [List.map_append]; rfl
      rw [hm]
      refine it_m hR i hE a kk n hels l _ s _ _ ?_ (by omega) hy.2 h4 h5.2 h6 h7
      rw [sm_app]
      split at hs <;> split <;> omega
    · rw [if_neg hx] at h6; exact absurd h6 hx
  | .els :: l, tq, s, ps, c, h1, h2, h3, h4, h5, h6, h7 => by
    have hct := itG_ct hR a kk (n := n) (.els :: l) tq s ps h3 h6
    unfold ct at hct
    have c1 := h4.1
    rw [itG_els] at h6 h7 hct ⊢
    rw [itG_els, hels tq (by omega)]
    by_cases hx : isK wElse (nxt ts tq) = true
    · rw [if_pos hx] at h6 h7 hct ⊢
      rw [if_pos hx]
      have hlt := isK_lt hx
      have hr := hR 2 (tq + 1) (by omega)
      by_cases hy : (R 2 (tq + 1)).2.2 = 0
      · rw [if_pos hy] at h6 h7 ⊢
        have hyy := hr.ok.yes hy
        have hs := hr.sz hy
        have hct2 := itG_ct hR a kk (n := n) l _ s (ps ++ [(R 2 (tq + 1)).1]) hyy.2 h6
        have hq : R' 2 (k + tq + 1) = shd k d (R 2 (tq + 1)) := hE 2 (tq + 1) (by omega) (by omega) hy (by omega) (fun hw => absurd hw (by decide))
        rw [hq, if_pos (show (shd k d (R 2 (tq + 1))).2.2 = 0 from hy)]
        have hm : ps.map (mvT d) ++ [(shd k d (R 2 (tq + 1))).1] = (ps ++ [(R 2 (tq + 1)).1]).map (mvT d) := by rw [List.map_append]; rfl
        rw [hm]
        refine it_m hR i hE a kk n hels l _ s _ _ ?_ (by omega) hyy.2 h4.2 h5.2 h6 h7
        rw [sm_app]
        rw [if_pos rfl] at hs
        omega
      · rw [if_neg hy] at h6; exact absurd h6 hy
    · rw [if_neg hx] at h6 h7 hct ⊢
      rw [if_neg hx]
      have he : ps.map (mvT d) ++ [emB ts' (k + tq)] = (ps ++ [emB ts tq]).map (mvT d) := by
        rw [List.map_append]
        congr 1
        show [emB ts' (k + tq)] = [mvT d (emB ts tq)]
        unfold emB toT
        rw [mvT_mk, show k + tq - 1 = k + (tq - 1) by omega, h.on (tq - 1) (by omega)]
        rfl
      rw [he]
      refine it_m hR i hE a kk n hels l tq s _ _ ?_ h2 h3 h4.2 h5.2 h6 h7
      rw [sm_app]
      show c - 1 + (sm ps + Tr.size (Tr.mk _ [])) + a ≤ tq
      rw [Tr.size_mk]
      simp
      omega
omit h in
theorem lpB_ge {S : Nat → Got} (hS : ∀ j, j ≤ ts.length → OkS ts 0 j (S j)) (a : Nat) : ∀ (m tq : Nat) (acc : List VT), tq ≤ ts.length → (lpB ts S a m tq acc).2.2 = 0 → tq < (lpB ts S a m tq acc).2.1 ∧ (isK sKet (nxt ts tq) = false → (S tq).2.2 = 0 ∧ (S tq).2.1 < (lpB ts S a m tq acc).2.1) := by
  intro m
  induction m with
  | zero => intro tq acc h1 h; simp [lpB, bad7] at h
  | succ m ih =>
    intro tq acc h1 h2
    rw [lpB] at h2 ⊢
    by_cases h3 : isK sKet (nxt ts tq) = true
    · rw [if_pos h3]; exact ⟨Nat.lt_succ_self _, fun h => by rw [h3] at h; cases h⟩
    · rw [if_neg h3] at h2 ⊢
      by_cases h4 : (S tq).2.2 = 0
      · rw [if_pos h4] at h2 ⊢
        have hy := (hS tq h1).ok.yes h4
        have := (ih _ _ hy.2 h2).1
        exact ⟨by omega, fun _ => ⟨h4, this⟩⟩
      · rw [if_neg h4] at h2; exact absurd h2 h4
theorem lpB_m {S S' : Nat → Got} (hS : ∀ j, j ≤ ts.length → OkS ts 0 j (S j)) (a : Nat) (hE : ∀ j, a < j → j ≤ ts.length → (S j).2.2 = 0 → (S j).2.1 < M → S' (k + j) = shd k d (S j)) : ∀ (m m' tq : Nat) (acc : List VT), a < tq → tq ≤ ts.length → ts'.length < m' + (k + tq) → (lpB ts S a m tq acc).2.2 = 0 → (lpB ts S a m tq acc).2.1 ≤ M → lpB ts' S' (k + a) m' (k + tq) (acc.map (mvT d)) = shd k d (lpB ts S a m tq acc) := by
  intro m
  induction m with
  | zero => intro m' tq acc _ _ _ h3; simp [lpB, bad7] at h3
  | succ m ih =>
    intro m' tq acc h1 h2 hm h3 hM
    have hge := lpB_ge hS a (m + 1) tq acc h2 h3
    have hle := h.le
    have hlen := h.len
    obtain ⟨m', rfl⟩ : ∃ q, m' = q + 1 := ⟨m' - 1, by omega⟩
    have hto : tq < M := by omega
    have hM0 := hM
    rw [lpB] at h3 hM ⊢
    rw [lpB, m_isK h hto]
    by_cases h4 : isK sKet (nxt ts tq) = true
    · rw [if_pos h4] at hM ⊢; rw [if_pos h4]; exact mk7_m h (a := a) (b := tq + 1) (by omega) hM
    · rw [if_neg h4] at h3 hM ⊢
      rw [if_neg h4]
      have hs := hge.2 (by simpa using h4)
      have hy := (hS tq h2).ok.yes hs.1
      rw [if_pos hs.1] at h3 hM ⊢
      rw [hE tq h1 h2 hs.1 (by omega), if_pos (show (shd k d (S tq)).2.2 = 0 from hs.1)]
      have hm2 : acc.map (mvT d) ++ [(shd k d (S tq)).1] = (acc ++ [(S tq).1]).map (mvT d) := by rw [List.map_append]; rfl
      rw [hm2]
      exact ih m' _ _ (by omega) hy.2 (by show ts'.length < m' + (k + (S tq).2.1); omega) h3 hM
theorem bl_m {S S' : Nat → Got} (hS : ∀ j, j ≤ ts.length → OkS ts 0 j (S j)) (a : Nat) (ha : a ≤ ts.length) (hE : ∀ j, a < j → j ≤ ts.length → (S j).2.2 = 0 → (S j).2.1 < M → S' (k + j) = shd k d (S j)) (h3 : (blG ts S a).2.2 = 0) (hM : (blG ts S a).2.1 ≤ M) : blG ts' S' (k + a) = shd k d (blG ts S a) := by
  have hy := (blG_ok hS a ha).ok.yes h3
  unfold blG at h3 hM hy ⊢
  rw [m_isK h (show a < M by omega)]
  by_cases h1 : isK sBra (nxt ts a) = true
  · rw [if_pos h1] at h3 hM ⊢
    rw [if_pos h1]
    have := isK_lt h1
    exact lpB_m h hS a hE _ _ (a + 1) [] (by omega) (by omega) (by omega) h3 hM
  · rw [if_neg h1] at h3; simp [bad7] at h3
omit h in
theorem frm_gd (i : Nat) : Gd (frmG ts i).2 := by
  unfold frmG
  repeat' split
  all_goals simp [Gd, ct]
end
section
variable {ts ts' : List Tok} {k : Nat} {d : Int}
theorem like_less {M N : Nat} (h : LikeM ts ts' k d M) (hN : N ≤ M) : LikeM ts ts' k d N := ⟨fun j hj => h.on j (by omega), Nat.le_trans hN h.le, by have := h.len; omega⟩
theorem sG_m : ∀ (n n' i : Nat) (M : Nat), LikeM ts ts' k d M → isK wElse (nxt ts' (k + M)) = isK wElse (nxt ts M) → i < M → ts'.length < n' + (k + i) → ts.length < n + i → (sG ts n i).2.2 = 0 → (sG ts n i).2.1 ≤ M → sG ts' n' (k + i) = shd k d (sG ts n i) := by
  intro n
  induction n with
  | zero => intro n' i M h _ _ _ _ h3; simp [sG, bad7] at h3
  | succ n ih =>
    intro n' i M h hel hi hn' hn h3 hM
    have hle := h.le
    have hlen := h.len
    obtain ⟨n', rfl⟩ : ∃ q, n' = q + 1 := ⟨n' - 1, by omega⟩
    have hE : ∀ j, i < j → j ≤ ts.length → (sG ts n j).2.2 = 0 → (sG ts n j).2.1 < M → sG ts' n' (k + j) = shd k d (sG ts n j) := fun j h1 h2 h4 h5 => by
      have hy := (sG_ok (ts := ts) n j h2).ok.yes h4
      have e : isK wElse (nxt ts' (k + (sG ts n j).2.1)) = isK wElse (nxt ts (sG ts n j).2.1) := m_isK h h5
      exact ih n' j _ (like_less h (Nat.le_of_lt h5)) e hy.1 (by omega) (by omega) h4 (Nat.le_refl _)
    have hels : ∀ tq, tq ≤ M → isK wElse (nxt ts' (k + tq)) = isK wElse (nxt ts tq) := fun tq hto => by
      rcases Nat.lt_or_ge tq M with h1 | h1
      · exact m_isK h h1
      · have : tq = M := by omega
        subst this; exact hel
    rw [sG] at h3 hM ⊢
    rw [sG, m_isK h hi]
    by_cases hb : isK sBra (nxt ts i) = true
    · rw [if_pos hb] at h3 hM ⊢
      rw [if_pos hb]
      exact bl_m h (sG_ok n) i (by omega) hE h3 hM
    · rw [if_neg hb] at h3 hM ⊢
      rw [if_neg hb]
      have hcr := frm_cr (ts := ts) i
      have hgd := frm_gd (ts := ts) i
      have hct := itG_ct (RR_ok (sG_ok n)) i (frmG ts i).1 (n := 0) (frmG ts i).2 i ⟨#[]⟩ [] (by omega) h3
      have hf : frmG ts' (k + i) = frmG ts i := by
        have hc2 := frm_ct (ts := ts) i
        have e1 : k + i + 1 = k + (i + 1) := by omega
        have e2 : k + i + 2 = k + (i + 2) := by omega
        unfold frmG
        rw [m_isK h hi, m_isK h hi, m_isK h hi, m_isK h hi, m_isK h hi, m_isK h hi, m_isK h hi]
        by_cases hl : isK wLet (nxt ts i) = true
        · have hcl : 3 ≤ ct (frmG ts i).2 := by
            unfold frmG
            rw [if_pos hl]
            split <;> simp [ct]
          rw [if_pos hl, if_pos hl, e1, e2, m_k h (j := i + 1) (by omega), m_isK h (j := i + 2) (by omega)]
        · rw [if_neg hl, if_neg hl]
      rw [hf]
      refine it_m h (RR_ok (sG_ok n)) i (fun w j h1 h2 h4 h5 h6 => ?_) i _ 0 hels _ i _ [] 0 (by simp [sm]) (Nat.le_refl i) (by omega) hcr hgd h3 hM
      unfold RR at h4 h5 h6 ⊢
      by_cases w0 : w = 0
      · rw [if_pos w0] at h4 h5 h6 ⊢
        rw [if_pos w0]
        exact Qe_m h j h4 (h6 w0) h2
      rw [if_neg w0] at h4 h5 ⊢
      rw [if_neg w0]
      by_cases w1 : w = 1
      · rw [if_pos w1] at h4 h5 ⊢
        rw [if_pos w1]
        exact ty_m h _ _ j (by omega) h4 h5
      rw [if_neg w1] at h4 h5 ⊢
      rw [if_neg w1]
      exact bl_m h (sG_ok n) j h2 (fun q hq => hE q (by omega)) h4 h5
end
end Go.Proofs.YthcnligihpnfiaaGreatDoor.vt
end
section
namespace Go.Proofs.YthcnligihpnfiaaGreatDoor.vt
open Go.Proofs.YthcnligihpnfiaaGreatDoor.am
set_option linter.unusedVariables false
section
variable {ts ts' : List Tok} {k : Nat} {d : Int} {M : Nat} (h : LikeM ts ts' k d M) (hel : isK wElse (nxt ts' (k + M)) = isK wElse (nxt ts M))
include h
theorem one_m {i : Nat} {kk n : Int} {s : ByteArray} (hM : i + 1 ≤ M) : mk7 ts' (k + i) (k + i + 1) kk n s [] = shd k d (mk7 ts i (i + 1) kk n s []) :=
  mk7_m h (a := i) (b := i + 1) (l := []) (Nat.lt_succ_self i) hM
theorem lit_m (i : Nat) (h3 : (litG ts i).2.2 = 0) (hM : (litG ts i).2.1 ≤ M) : litG ts' (k + i) = shd k d (litG ts i) := by
  have hi : i < M := by
    have h3' := h3
    unfold litG at h3' hM
    split at h3'
    · rename_i c; rw [if_pos c] at hM; exact hM
    rename_i c1
    split at h3'
    · rename_i c; rw [if_neg c1, if_pos c] at hM; exact hM
    rename_i c2
    split at h3'
    · rename_i c; rw [if_neg c1, if_neg c2, if_pos c] at hM; exact hM
    · exact absurd h3' (by simp [bad7])
  unfold litG at h3 ⊢
  rw [m_k h hi, m_n h hi, m_isK h hi, m_isK h hi]
  split
  · exact one_m h hi
  rename_i c1
  split
  · exact one_m h hi
  rename_i c2
  split
  · exact one_m h hi
  · rename_i c3
    rw [if_neg c1, if_neg c2, if_neg c3] at h3
    exact absurd h3 (by simp [bad7])
include hel
theorem els_m : ∀ q, q ≤ M → isK wElse (nxt ts' (k + q)) = isK wElse (nxt ts q) := fun q hq => by
  rcases Nat.lt_or_ge q M with h1 | h1
  · exact m_isK h h1
  · have : q = M := by omega
    subst this; exact hel
omit hel in
theorem ty9_m (j : Nat) (hj : j ≤ ts.length) (h3 : (tyG ts (ts.length + 1) j).2.2 = 0) (hM : (tyG ts (ts.length + 1) j).2.1 ≤ M) : tyG ts' (ts'.length + 1) (k + j) = shd k d (tyG ts (ts.length + 1) j) := ty_m h _ _ j (by omega) h3 hM
omit hel in
theorem blk_m (j : Nat) (hj : j ≤ ts.length) (h3 : (Blk9 ts j).2.2 = 0) (hM : (Blk9 ts j).2.1 ≤ M) : Blk9 ts' (k + j) = shd k d (Blk9 ts j) := by
  have hlen := h.len
  refine bl_m h (sG_ok _) j hj (fun q h1 h2 h4 h5 => ?_) h3 hM
  have hy := (sG_ok (ts := ts) (ts.length + 1) q h2).ok.yes h4
  exact sG_m _ _ q _ (like_less h (Nat.le_of_lt h5)) (m_isK h h5) hy.1 (by omega) (by omega) h4 (Nat.le_refl _)
omit hel in
theorem R0_m (w j : Nat) (hj : j ≤ ts.length) (hw : w = 1 ∨ w = 2 ∨ w = 3) (h3 : (R9 ts w j).2.2 = 0) (hM : (R9 ts w j).2.1 ≤ M) : R9 ts' w (k + j) = shd k d (R9 ts w j) := by
  rcases hw with rfl | rfl | rfl
  · exact ty9_m h j hj h3 hM
  · exact blk_m h j hj h3 hM
  · exact lit_m h j h3 hM
omit hel in
theorem part_m (i : Nat) (hi : i ≤ ts.length) (h3 : (partG ts i).2.2 = 0) (hM : (partG ts i).2.1 ≤ M) : partG ts' (k + i) = shd k d (partG ts i) := by
  unfold partG at h3 hM ⊢
  rw [itG_nam, itG_sgn, itG_sub] at h3 hM ⊢
  rw [itG_nam, itG_sgn, itG_sub]
  by_cases c1 : (nxt ts i).k = 1; rotate_left
  · rw [if_neg c1] at h3; exact absurd h3 (by simp [bad7])
  rw [if_pos c1] at h3 hM ⊢
  by_cases c2 : isK sCol (nxt ts (i + 1)) = true; rotate_left
  · rw [if_neg c2] at h3; exact absurd h3 (by simp [bad7])
  rw [if_pos c2] at h3 hM ⊢
  have hlt := isK_lt c2
  by_cases c3 : (Ty9 ts 1 (i + 1 + 1)).2.2 = 0; rotate_left
  · rw [if_neg c3] at h3; exact absurd h3 c3
  rw [if_pos c3] at h3 hM ⊢
  have hy := (ty9_ok (ts := ts) 1 (i + 1 + 1) (by omega)).ok.yes c3
  rw [itH] at hM
  have hM : (Ty9 ts 1 (i + 1 + 1)).2.1 ≤ M := hM
  have e := ty9_m h (i + 1 + 1) (by omega) c3 hM
  rw [m_k h (by omega), if_pos c1, show k + i + 1 = k + (i + 1) by omega, m_isK h (by omega), if_pos c2, m_s h (by omega), show k + (i + 1) + 1 = k + (i + 1 + 1) by omega, show Ty9 ts' 1 (k + (i + 1 + 1)) = shd k d (Ty9 ts 1 (i + 1 + 1)) from e, if_pos (show (shd k d (Ty9 ts 1 (i + 1 + 1))).2.2 = 0 from c3), itH, itH]
  exact mk7_m h (a := i) (b := (Ty9 ts 1 (i + 1 + 1)).2.1) (l := [(Ty9 ts 1 (i + 1 + 1)).1]) (by omega) hM
omit hel in
theorem par_m (i : Nat) (hi : i < M) (h3 : (parG ts i).2.2 = 0) (hM : (parG ts i).2.1 ≤ M) : parG ts' (k + i) = shd k d (parG ts i) :=
  cfin_m h part_ok (fun j h1 h2 h4 h5 => part_m h j h2 h4 (Nat.le_of_lt h5)) (Nat.le_refl i) hi true sParO sParS h3 hM
omit hel in
theorem lpF_m : ∀ (m m' i : Nat) (acc : List VT), i ≤ ts.length → ts'.length < m' + (k + i) → (lpF ts m i acc).2.2 = 0 → (lpF ts m i acc).2.1 ≤ M → lpF ts' m' (k + i) (acc.map (mvT d)) = shL k d (lpF ts m i acc) := by
  intro m
  induction m with
  | zero => intro m' i acc hi h2 h3; simp [lpF] at h3
  | succ m ih =>
    intro m' i acc hi h2 h3 hM
    have hlen := h.len
    have hle := h.le
    have hok := lpF_ok (ts := ts) (m + 1) i acc hi
    have hy := hok.yes h3
    have hi' : i < M := by omega
    obtain ⟨m', rfl⟩ : ∃ n, m' = n + 1 := ⟨m' - 1, by omega⟩
    rw [lpF] at h3 hM
    rw [lpF, lpF, m_isK h hi']
    have hne : (acc.map (mvT d) ≠ []) ↔ (acc ≠ []) := by simp
    by_cases c1 : acc ≠ [] ∧ isK sKet (nxt ts i) = true
    · rw [if_pos c1, if_pos ⟨hne.mpr c1.1, c1.2⟩]; rfl
    rw [if_neg c1] at h3 hM ⊢
    rw [if_neg (fun hh => c1 ⟨hne.mp hh.1, hh.2⟩)]
    by_cases c2 : (partG ts i).2.2 ≠ 0
    · rw [if_pos c2] at h3; exact absurd h3 c2
    rw [if_neg c2] at h3 hM ⊢
    have c2' : (partG ts i).2.2 = 0 := by simpa using c2
    by_cases c3 : isK sEnd (nxt ts (partG ts i).2.1) = true; rotate_left
    · rw [if_neg c3] at h3; exact absurd h3 (by simp)
    rw [if_pos c3] at h3 hM ⊢
    have hlt := isK_lt c3
    have hok2 := lpF_ok (ts := ts) m ((partG ts i).2.1 + 1) (acc ++ [(partG ts i).1]) (by omega)
    have hl2 := hok2.le.1
    have e := part_m h i hi c2' (by omega)
    have i1 : isK sEnd (nxt ts' (shd k d (partG ts i)).2.1) = isK sEnd (nxt ts (partG ts i).2.1) := m_isK h (by omega)
    have hpy := (part_ok (ts := ts) i hi).yes c2'
    have hmap : acc.map (mvT d) ++ [(shd k d (partG ts i)).1] = (acc ++ [(partG ts i).1]).map (mvT d) := by rw [List.map_append]; rfl
    rw [e, if_neg (show ¬ (shd k d (partG ts i)).2.2 ≠ 0 from c2), i1, if_pos c3, hmap]
    exact ih m' ((partG ts i).2.1 + 1) (acc ++ [(partG ts i).1]) (by omega) (by omega) h3 hM
omit hel in
theorem rec_m (i : Nat) (hi : i < ts.length) (h3 : (recG ts i).2.2 = 0) (hM : (recG ts i).2.1 ≤ M) : recG ts' (k + i) = shd k d (recG ts i) := by
  have hlen := h.len
  have hle := h.le
  unfold recG at h3 hM ⊢
  by_cases c1 : (nxt ts (i + 1)).k = 1; rotate_left
  · rw [if_neg c1] at h3; exact absurd h3 (by simp [bad7])
  rw [if_pos c1] at h3 hM ⊢
  by_cases c2 : isK sBra (nxt ts (i + 2)) = true; rotate_left
  · rw [if_neg c2] at h3; exact absurd h3 (by simp [bad7])
  rw [if_pos c2] at h3 hM ⊢
  have hlt := isK_lt c2
  have ht := fin_to (ts := ts) (i := i) (kk := 30) (s := (nxt ts (i + 1)).s) (c := lpF ts (ts.length + 1) (i + 3) [])
  rw [ht.2] at h3
  rw [ht.1] at hM
  have hok := lpF_ok (ts := ts) (ts.length + 1) (i + 3) [] (by omega)
  have hl := hok.le.1
  have e := lpF_m h (ts.length + 1) (ts'.length + 1) (i + 3) [] (by omega) (by omega) h3 hM
  rw [show k + i + 1 = k + (i + 1) by omega, show k + i + 2 = k + (i + 2) by omega, show k + i + 3 = k + (i + 3) by omega, m_k h (by omega), if_pos c1, m_isK h (by omega), if_pos c2, m_s h (by omega), show lpF ts' (ts'.length + 1) (k + (i + 3)) [] = _ from e]
  exact fin_m h hok (by omega) h3 hM
theorem decl_m (i : Nat) (hi : i ≤ ts.length) (h3 : (declG ts i).2.2 = 0) (hM : (declG ts i).2.1 ≤ M) : declG ts' (k + i) = shd k d (declG ts i) := by
  have hy := (decl_oks (ts := ts) i hi).ok.yes h3
  have hi' : i < M := by omega
  have it : ∀ (kk n : Int) (l : List It), Cr 0 l → Gd l → (itH ts (R9 ts) i kk n l i ⟨#[]⟩ []).2.2 = 0 → (itH ts (R9 ts) i kk n l i ⟨#[]⟩ []).2.1 ≤ M → itH ts' (R9 ts') (k + i) kk n l (k + i) ⟨#[]⟩ [] = shd k d (itH ts (R9 ts) i kk n l i ⟨#[]⟩ []) := fun kk n l hc hg h4 h5 =>
    it_m h R9_ok i (fun w j h6 h7 h8 h9 h10 => by
      by_cases hw : w = 1 ∨ w = 2 ∨ w = 3
      · exact R0_m h w j h7 hw h8 h9
      · have e1 : ∀ (us : List Tok) (q : Nat), R9 us w q = parG us q := fun us q => by unfold R9; rw [if_neg (by omega), if_neg (by omega), if_neg (by omega)]
        rw [e1] at h8 h9
        rw [e1, e1]
        have := (par_oks (ts := ts) j h7).ok.yes h8
        exact par_m h j (by omega) h8 h9) i kk n (els_m h hel) l i _ [] 0 (by simp [sm]) (Nat.le_refl i) hi hc hg h4 h5
  unfold declG at h3 hM ⊢
  rw [m_isK h hi', m_isK h hi', m_isK h hi', m_isK h hi', m_isK h hi']
  by_cases c1 : isK wConst (nxt ts i) = true
  · rw [if_pos c1] at h3 hM ⊢; rw [if_pos c1]; exact it _ _ _ (by simp [Cr]) (by simp [Gd]) h3 hM
  rw [if_neg c1] at h3 hM ⊢; rw [if_neg c1]
  by_cases c2 : isK wVar (nxt ts i) = true
  · rw [if_pos c2] at h3 hM ⊢; rw [if_pos c2]; exact it _ _ _ (by simp [Cr]) (by simp [Gd]) h3 hM
  rw [if_neg c2] at h3 hM ⊢; rw [if_neg c2]
  by_cases c3 : isK wPub (nxt ts i) = true
  · rw [if_pos c3] at h3 hM ⊢; rw [if_pos c3]; exact it _ _ _ (by simp [Cr]) (by simp [Gd]) h3 hM
  rw [if_neg c3] at h3 hM ⊢; rw [if_neg c3]
  by_cases c4 : isK wFn (nxt ts i) = true
  · rw [if_pos c4] at h3 hM ⊢; rw [if_pos c4]; exact it _ _ _ (by simp [Cr]) (by simp [Gd]) h3 hM
  rw [if_neg c4] at h3 hM ⊢; rw [if_neg c4]
  by_cases c5 : isK wRec (nxt ts i) = true
  · rw [if_pos c5] at h3 hM ⊢; rw [if_pos c5]; exact rec_m h i (by omega) h3 hM
  · rw [if_neg c5] at h3; exact absurd h3 (by simp [bad7])
end
end Go.Proofs.YthcnligihpnfiaaGreatDoor.vt
end
