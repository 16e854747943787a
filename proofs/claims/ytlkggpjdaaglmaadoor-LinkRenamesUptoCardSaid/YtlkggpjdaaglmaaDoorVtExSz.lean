/-
  How large an expression out of tokens is: plain. No program is named here.
-/
import Derived.Test.YtlkggpjdaaglmaaDoorVtExpr
namespace Go.Proofs.YtlkggpjdaaglmaaDoor.vt
open Go.Proofs.YtlkggpjdaaglmaaDoor.am
set_option linter.unusedVariables false
section
variable {ts : List Tok}
noncomputable def sm (l : List VT) : Nat := (l.map Tr.size).sum
/-- No term has more parts than tokens were read. -/
def Sz (i : Nat) (x : Got) : Prop := x.2.2 = 0 → x.1.size + i ≤ x.2.1
theorem sz_mk {i b : Nat} {k n : Int} {s : ByteArray} {l : List VT} (h : sm l + i < b) : Sz i (mk7 ts i b k n s l) := fun _ => by
  show Tr.size (Tr.mk _ l) + i ≤ b
  rw [Tr.size_mk]
  unfold sm at h
  omega
theorem sm1 (a : VT) : sm [a] = a.size := by simp [sm]
theorem sm2 (a b : VT) : sm [a, b] = a.size + b.size := by simp [sm]
theorem sm_app (l : List VT) (a : VT) : sm (l ++ [a]) = sm l + a.size := by simp [sm]
theorem lpL_sz {P : Nat → Got} {l a : Nat} (hl : l ≤ 5) (hP : ∀ j, j ≤ ts.length → OkG ts j (P j)) (hS : ∀ j, j ≤ ts.length → Sz j (P j)) : ∀ (m : Nat) (t : Bool) (x : Got), OkG ts a x → Sz a x → Sz a (lpL ts P l a m t x)
  | 0, t, x, hx, hs => hs
  | m + 1, t, x, hx, hs => by
    unfold lpL
    split
    · exact hs
    · rename_i h0
      have h0 : x.2.2 = 0 := by simpa using h0
      split
      · exact hs
      · rename_i h1
        have h1 : (opK (nxt ts x.2.1)).2 = l := by simpa using (not_or.1 h1).1
        have hlt := op_lt h1 hl
        have hp := hP (x.2.1 + 1) (by omega)
        have hy := hx.yes h0
        split
        · rename_i h2; exact fun h => absurd h h2
        · rename_i h2
          have h2 : (P (x.2.1 + 1)).2.2 = 0 := by simpa using h2
          have := hp.yes h2
          have q1 := hS (x.2.1 + 1) (by omega) h2
          have q2 := hs h0
          exact lpL_sz hl hP hS m true _ (ok_mk (by omega) this.2) (sz_mk (by rw [sm2]; omega))
theorem lpP_sz {E : Nat → Got} {a : Nat} (hE : ∀ j, j ≤ ts.length → OkG ts j (E j)) (hS : ∀ j, j ≤ ts.length → Sz j (E j)) : ∀ (m : Nat) (x : Got), OkG ts a x → Sz a x → Sz a (lpP ts E a m x)
  | 0, x, hx, hs => hs
  | m + 1, x, hx, hs => by
    unfold lpP
    split
    · exact hs
    · rename_i h0
      have h0 : x.2.2 = 0 := by simpa using h0
      have hy := hx.yes h0
      have q2 := hs h0
      split
      · rename_i h1
        have hlt := isK_lt h1
        have hp := hE (x.2.1 + 1) (by omega)
        split
        · rename_i h2; exact fun h => absurd h h2
        · rename_i h2
          have h2 : (E (x.2.1 + 1)).2.2 = 0 := by simpa using h2
          have hyy := hp.yes h2
          have q1 := hS (x.2.1 + 1) (by omega) h2
          split
          · exact fun h => by simp [bad7] at h
          · rename_i h3
            have := isK_lt (s := sShut) (ts := ts) (by simpa using h3)
            exact lpP_sz hE hS m _ (ok_mk (by omega) (by omega)) (sz_mk (by rw [sm2]; omega))
      · split
        · rename_i h1
          have hlt := isK_lt h1
          split
          · exact fun h => by simp [bad7] at h
          · rename_i h3
            have := k_lt (ts := ts) (k := 1) (by simpa using h3) (by decide)
            exact lpP_sz hE hS m _ (ok_mk (by omega) (by omega)) (sz_mk (by rw [sm1]; omega))
        · exact hs
def Sc (i : Nat) (x : List VT × Nat × Int) : Prop := x.2.2 = 0 → sm x.1 + i ≤ x.2.1
theorem lpC_sz {E : Nat → Got} (hE : ∀ j, j ≤ ts.length → OkG ts j (E j)) (hS : ∀ j, j ≤ ts.length → Sz j (E j)) (i0 : Nat) : ∀ (m i : Nat) (acc : List VT), i ≤ ts.length → sm acc + i0 ≤ i → Sc i0 (lpC ts E m i acc)
  | 0, i, acc, hi, _ => fun h => by simp [lpC] at h
  | m + 1, i, acc, hi, ha => by
    unfold lpC
    have hp := hE i hi
    split
    · rename_i h; exact fun h' => absurd h' h
    · rename_i h
      have h : (E i).2.2 = 0 := by simpa using h
      have hy := hp.yes h
      have q := hS i hi h
      split
      · exact fun _ => by show sm (acc ++ [(E i).1]) + i0 ≤ (E i).2.1; rw [sm_app]; omega
      · rename_i h3
        have hlt := isK_lt (s := sCom) (ts := ts) (by simpa using h3)
        exact lpC_sz hE hS i0 m ((E i).2.1 + 1) (acc ++ [(E i).1]) (by omega) (by rw [sm_app]; omega)
theorem cloG_sz {E : Nat → Got} (hE : ∀ j, j ≤ ts.length → OkG ts j (E j)) (hS : ∀ j, j ≤ ts.length → Sz j (E j)) {o : Nat} (few : Bool) (fs ls : ByteArray) (ho : o ≤ ts.length) : (cloG ts E o few fs ls).2.2 = 0 → sm (cloG ts E o few fs ls).1 + o < (cloG ts E o few fs ls).2.1 := by
  unfold cloG
  split
  · exact fun h => by simp at h
  · rename_i h0
    have h0 := isK_lt (s := fs) (ts := ts) (by simpa using h0)
    split
    · exact fun _ => by show 0 + o < o + 2; omega
    · have hc := lpC_sz hE hS (o + 1) (ts.length + 1) (o + 1) [] (by omega) (by show 0 + (o + 1) ≤ o + 1; omega)
      split
      · rename_i h; exact fun h' => absurd h' h
      · rename_i h2
        have h2 : (lpC ts E (ts.length + 1) (o + 1) []).2.2 = 0 := by simpa using h2
        have := hc h2
        split
        · exact fun h => by simp at h
        · exact fun _ => by dsimp only; omega
theorem fin_sz {i o : Nat} {k : Int} {s : ByteArray} {c : List VT × Nat × Int} (h : c.2.2 = 0 → sm c.1 + o < c.2.1) (ho : i ≤ o) : Sz i (finC ts i k s c) := by
  unfold finC
  split
  · rename_i h0; exact fun h' => absurd h' h0
  · rename_i h0
    have := h (by simpa using h0)
    exact sz_mk (by omega)
theorem sz_bad {i j : Nat} : Sz i (bad7 j) := fun h => by simp [bad7] at h
theorem calG_sz {E : Nat → Got} (hE : ∀ j, j ≤ ts.length → OkG ts j (E j)) (hS : ∀ j, j ≤ ts.length → Sz j (E j)) (i : Nat) (hi : i ≤ ts.length) : Sz i (calG ts E i) := by
  unfold calG
  split
  · rename_i h; have := k_lt h (by decide); exact fin_sz (cloG_sz hE hS true sParO sParS (by omega)) (by omega)
  split
  · rename_i h; have := isK_lt h; exact fin_sz (cloG_sz hE hS false sOpen sShut (by omega)) (by omega)
  split
  · rename_i h; have := isK_lt h
    split
    · exact sz_bad
    · rename_i h2; have := k_lt (ts := ts) (k := 1) (by simpa using h2) (by decide)
      exact fin_sz (cloG_sz hE hS true sParO sParS (by omega)) (by omega)
  split
  · rename_i h; have := isK_lt h
    split
    · exact sz_bad
    · rename_i h2; have := k_lt (ts := ts) (k := 1) (by simpa using h2) (by decide)
      exact fin_sz (cloG_sz hE hS false sParO sParS (by omega)) (by omega)
  · exact sz_bad
theorem atoG_sz {E : Nat → Got} (hE : ∀ j, j ≤ ts.length → OkG ts j (E j)) (hS : ∀ j, j ≤ ts.length → Sz j (E j)) (i : Nat) (hi : i ≤ ts.length) : Sz i (atoG ts E i) := by
  have s0 : sm ([] : List VT) = 0 := rfl
  unfold atoG
  split
  · exact sz_mk (by omega)
  split
  · exact sz_mk (by omega)
  split
  · exact sz_mk (by omega)
  split
  · exact sz_mk (by omega)
  split
  · exact sz_mk (by omega)
  split
  · rename_i h
    have := isK_lt h
    split
    · rename_i h2; exact fun h => absurd h h2
    · rename_i h2
      have q := hS (i + 1) (by omega) (by simpa using h2)
      split
      · exact sz_bad
      · exact fun _ => by dsimp only; omega
  · exact calG_sz hE hS i hi
theorem bG_sz {R : Nat → Nat → Got} (hR : ∀ w j, j ≤ ts.length → OkG ts j (R w j)) (hS : ∀ w j, j ≤ ts.length → Sz j (R w j)) (w i : Nat) (hi : i ≤ ts.length) : Sz i (bG ts R w i) := by
  unfold bG
  split
  · rename_i h; exact lpL_sz h (hR _) (hS _) _ _ _ (hR _ i hi) (hS _ i hi)
  split
  · split
    · exact hS 7 i hi
    · rename_i h
      have hlt : i < ts.length := by
        unfold unN at h
        by_cases h1 : isK sNot (nxt ts i) = true
        · exact isK_lt h1
        · by_cases h2 : isK sMin (nxt ts i) = true
          · exact isK_lt h2
          · simp [h1, h2] at h
      split
      · rename_i h2; exact fun h => absurd h h2
      · rename_i h2
        have q := hS 6 (i + 1) (by omega) (by simpa using h2)
        exact sz_mk (by rw [sm1]; omega)
  split
  · exact lpP_sz (hR 1) (hS 1) _ _ (hR 8 i hi) (hS 8 i hi)
  · exact atoG_sz (hR 1) (hS 1) i hi
theorem pG_sz : ∀ (n w i : Nat), i ≤ ts.length → Sz i (pG ts n w i)
  | 0, w, i, hi => sz_bad
  | n + 1, w, i, hi => bG_sz (pG_ok n) (pG_sz n) w i hi
theorem Q_sz (w i : Nat) (hi : i ≤ ts.length) : (Qx ts w i).1.size ≤ ts.length + 1 := by
  have h1 := pG_sz (ts := ts) (9 * ts.length + 10) w i hi
  have h2 := Q_ok (ts := ts) w i hi
  by_cases h0 : (Qx ts w i).2.2 = 0
  · have := h1 h0
    have := (h2.yes h0).2
    have e : (Qx ts w i).1.size + i ≤ (Qx ts w i).2.1 := h1 h0
    omega
  · rw [(h2.no h0).2]
    show Tr.size (Tr.mk _ []) ≤ _
    rw [Tr.size_mk]; simp
end
end Go.Proofs.YtlkggpjdaaglmaaDoor.vt
