import Derived.Test.YthcnligihpnfiaaGreatDoorPkV5
section
namespace Go.Proofs.YthcnligihpnfiaaGreatDoor.vt
open Go.Proofs.YthcnligihpnfiaaGreatDoor.am
set_option linter.unusedVariables false
section
variable {ts : List Tok}
noncomputable def sm (l : List VT) : Nat := (l.map Tr.size).sum
def Sz (i : Nat) (x : Got) : Prop := x.2.2 = 0 → x.1.size + i ≤ x.2.1
theorem sz_mk {i b : Nat} {k n : Int} {s : ByteArray} {l : List VT} (h : sm l + i < b) : Sz i (mk7 ts i b k n s l) := fun _ => by
  show Tr.size (Tr.mk _ l) + i ≤ b
  rw [Tr.size_mk]
  unfold sm at h
  omega
theorem sm1 (a : VT) : sm [a] = a.size := by simp [sm]
theorem sm2 (a b : VT) : sm [a, b] = a.size + b.size := by simp [sm]
theorem sm_app (l : List VT) (a : VT) : sm (l ++ [a]) = sm l + a.size := by simp [sm]
theorem lpL_sz {P : Nat → Got} {l a : Nat} (hl : l ≤ 5) (hP : ∀ j, j ≤ ts.length → OkG ts j (P j)) (hS : ∀ j, j ≤ ts.length → Sz j (P j)) : ∀ (m : Nat) (t : Bool) (x : Got), OkG ts a x → Sz a x → Sz a (lpL ts P l a m t x)
  | 0, t, x, hx, hs => hs
  | m + 1, t, x, hx, hs => by
    unfold lpL
    split
    · exact hs
    · rename_i h0
      have h0 : x.2.2 = 0 := by simpa using h0
      split
      · exact hs
      · rename_i h1
        have h1 : (opK (nxt ts x.2.1)).2 = l := by simpa using (not_or.1 h1).1
        have hlt := op_lt h1 hl
        have hp := hP (x.2.1 + 1) (by omega)
        have hy := hx.yes h0
        split
        · rename_i h2; exact fun h => absurd h h2
        · rename_i h2
          have h2 : (P (x.2.1 + 1)).2.2 = 0 := by simpa using h2
          have := hp.yes h2
          have q1 := hS (x.2.1 + 1) (by omega) h2
          have q2 := hs h0
          exact lpL_sz hl hP hS m true _ (ok_mk (by omega) this.2) (sz_mk (by rw [sm2]; omega))
theorem lpP_sz {E : Nat → Got} {a : Nat} (hE : ∀ j, j ≤ ts.length → OkG ts j (E j)) (hS : ∀ j, j ≤ ts.length → Sz j (E j)) : ∀ (m : Nat) (x : Got), OkG ts a x → Sz a x → Sz a (lpP ts E a m x)
  | 0, x, hx, hs => hs
  | m + 1, x, hx, hs => by
    unfold lpP
    split
    · exact hs
    · rename_i h0
      have h0 : x.2.2 = 0 := by simpa using h0
      have hy := hx.yes h0
      have q2 := hs h0
      split
      · rename_i h1
        have hlt := isK_lt h1
        have hp := hE (x.2.1 + 1) (by omega)
        split
        · rename_i h2; exact fun h => absurd h h2
        · rename_i h2
          have h2 : (E (x.2.1 + 1)).2.2 = 0 := by simpa using h2
          have hyy := hp.yes h2
          have q1 := hS (x.2.1 + 1) (by omega) h2
          split
          · exact fun h => by simp [bad7] at h
          · rename_i h3
            have := isK_lt (s := sShut) (ts := ts) (by simpa using h3)
            exact lpP_sz hE hS m _ (ok_mk (by omega) (by omega)) (sz_mk (by rw [sm2]; omega))
      · split
        · rename_i h1
          have hlt := isK_lt h1
          split
          · exact fun h => by simp [bad7] at h
          · rename_i h3
            have := k_lt (ts := ts) (k := 1) (by simpa using h3) (by decide)
            exact lpP_sz hE hS m _ (ok_mk (by omega) (by omega)) (sz_mk (by rw [sm1]; omega))
        · exact hs
def Sc (i : Nat) (x : List VT × Nat × Int) : Prop := x.2.2 = 0 → sm x.1 + i ≤ x.2.1
theorem lpC_sz {E : Nat → Got} (hE : ∀ j, j ≤ ts.length → OkG ts j (E j)) (hS : ∀ j, j ≤ ts.length → Sz j (E j)) (i0 : Nat) : ∀ (m i : Nat) (acc : List VT), i ≤ ts.length → sm acc + i0 ≤ i → Sc i0 (lpC ts E m i acc)
  | 0, i, acc, hi, _ => fun h => by simp [lpC] at h
  | m + 1, i, acc, hi, ha => by
    unfold lpC
    have hp := hE i hi
    split
    · rename_i h; exact fun h' => absurd h' h
    · rename_i h
      have h : (E i).2.2 = 0 := by simpa using h
      have hy := hp.yes h
      have q := hS i hi h
      split
      · exact fun _ => by show sm (acc ++ [(E i).1]) + i0 ≤ (E i).2.1; rw [sm_app]; omega
      · rename_i h3
        have hlt := isK_lt (s := sCom) (ts := ts) (by simpa using h3)
        exact lpC_sz hE hS i0 m ((E i).2.1 + 1) (acc ++ [(E i).1]) (by omega) (by rw [sm_app]; omega)
theorem cloG_sz {E : Nat → Got} (hE : ∀ j, j ≤ ts.length → OkG ts j (E j)) (hS : ∀ j, j ≤ ts.length → Sz j (E j)) {o : Nat} (few : Bool) (fs ls : ByteArray) (ho : o ≤ ts.length) : (cloG ts E o few fs ls).2.2 = 0 → sm (cloG ts E o few fs ls).1 + o < (cloG ts E o few fs ls).2.1 := by
  unfold cloG
  split
  · exact fun h => by simp at h
  · rename_i h0
    have h0 := isK_lt (s := fs) (ts := ts) (by simpa using h0)
    split
    · exact fun _ => by show 0 + o < o + 2; omega
    · have hc := lpC_sz hE hS (o + 1) (ts.length + 1) (o + 1) [] (by omega) (by show 0 + (o + 1) ≤ o + 1; omega)
      split
      · rename_i h; exact fun h' => absurd h' h
      · rename_i h2
        have h2 : (lpC ts E (ts.length + 1) (o + 1) []).2.2 = 0 := by simpa using h2
        have := hc h2
        split
        · exact fun h => by simp at h
        · exact fun _ => by dsimp only; omega
theorem fin_sz {i o : Nat} {k : Int} {s : ByteArray} {c : List VT × Nat × Int} (h : c.2.2 = 0 → sm c.1 + o < c.2.1) (ho : i ≤ o) : Sz i (finC ts i k s c) := by
  unfold finC
  split
  · rename_i h0; exact fun h' => absurd h' h0
  · rename_i h0
    have := h (by simpa using h0)
    exact sz_mk (by omega)
theorem sz_bad {i j : Nat} : Sz i (bad7 j) := fun h => by simp [bad7] at h
theorem calG_sz {E : Nat → Got} (hE : ∀ j, j ≤ ts.length → OkG ts j (E j)) (hS : ∀ j, j ≤ ts.length → Sz j (E j)) (i : Nat) (hi : i ≤ ts.length) : Sz i (calG ts E i) := by
  unfold calG
  split
  · rename_i h; have := k_lt h (by decide); exact fin_sz (cloG_sz hE hS true sParO sParS (by omega)) (by omega)
  split
  · rename_i h; have := isK_lt h; exact fin_sz (cloG_sz hE hS false sOpen sShut (by omega)) (by omega)
  split
  · rename_i h; have := isK_lt h
    split
    · exact sz_bad
    · rename_i h2; have := k_lt (ts := ts) (k := 1) (by simpa using h2) (by decide)
      exact fin_sz (cloG_sz hE hS true sParO sParS (by omega)) (by omega)
  split
  · rename_i h; have := isK_lt h
    split
    · exact sz_bad
    · rename_i h2; have := k_lt (ts := ts) (k := 1) (by simpa using h2) (by decide)
      exact fin_sz (cloG_sz hE hS false sParO sParS (by omega)) (by omega)
  · exact sz_bad
theorem atoG_sz {E : Nat → Got} (hE : ∀ j, j ≤ ts.length → OkG ts j (E j)) (hS : ∀ j, j ≤ ts.length → Sz j (E j)) (i : Nat) (hi : i ≤ ts.length) : Sz i (atoG ts E i) := by
  have s0 : sm ([] : List VT) = 0 := rfl
  unfold atoG
  split
  · exact sz_mk (by omega)
  split
  · exact sz_mk (by omega)
  split
  · exact sz_mk (by omega)
  split
  · exact sz_mk (by omega)
  split
  · exact sz_mk (by omega)
  split
  · rename_i h
    have := isK_lt h
    split
    · rename_i h2; exact fun h => absurd h h2
    · rename_i h2
      have q := hS (i + 1) (by omega) (by simpa using h2)
      split
      · exact sz_bad
      · exact fun _ => by dsimp only; omega
  · exact calG_sz hE hS i hi
theorem bG_sz {R : Nat → Nat → Got} (hR : ∀ w j, j ≤ ts.length → OkG ts j (R w j)) (hS : ∀ w j, j ≤ ts.length → Sz j (R w j)) (w i : Nat) (hi : i ≤ ts.length) : Sz i (bG ts R w i) := by
  unfold bG
  split
  · rename_i h; exact lpL_sz h (hR _) (hS _) _ _ _ (hR _ i hi) (hS _ i hi)
  split
  · split
    · exact hS 7 i hi
    · rename_i h
      have hlt : i < ts.length := by
        unfold unN at h
        by_cases h1 : isK sNot (nxt ts i) = true
        · exact isK_lt h1
        · by_cases h2 : isK sMin (nxt ts i) = true
          · exact isK_lt h2
          · simp [h1, h2] at h
      split
      · rename_i h2; exact fun h => absurd h h2
      · rename_i h2
        have q := hS 6 (i + 1) (by omega) (by simpa using h2)
        exact sz_mk (by rw [sm1]; omega)
  split
  · exact lpP_sz (hR 1) (hS 1) _ _ (hR 8 i hi) (hS 8 i hi)
  · exact atoG_sz (hR 1) (hS 1) i hi
theorem pG_sz : ∀ (n w i : Nat), i ≤ ts.length → Sz i (pG ts n w i)
  | 0, w, i, hi => sz_bad
  | n + 1, w, i, hi => bG_sz (pG_ok n) (pG_sz n) w i hi
end
end Go.Proofs.YthcnligihpnfiaaGreatDoor.vt
end
section
namespace Go.Proofs.YthcnligihpnfiaaGreatDoor.vt
open Go.Proofs.YthcnligihpnfiaaGreatDoor.am
set_option linter.unusedVariables false
abbrev wLet : ByteArray := ⟨#[108, 101, 116]⟩
abbrev wIf : ByteArray := ⟨#[105, 102]⟩
abbrev wElse : ByteArray := ⟨#[101, 108, 115, 101]⟩
abbrev wWhil : ByteArray := ⟨#[119, 104, 105, 108, 101]⟩
abbrev wFor : ByteArray := ⟨#[102, 111, 114]⟩
abbrev wTo : ByteArray := ⟨#[116, 111]⟩
abbrev wPrin : ByteArray := ⟨#[112, 114, 105, 110, 116]⟩
abbrev wRet : ByteArray := ⟨#[114, 101, 116, 117, 114, 110]⟩
abbrev wDo : ByteArray := ⟨#[100, 111]⟩
abbrev sBra : ByteArray := ⟨#[123]⟩
abbrev sKet : ByteArray := ⟨#[125]⟩
abbrev sCol : ByteArray := ⟨#[58]⟩
abbrev sIs : ByteArray := ⟨#[61]⟩
abbrev sEnd : ByteArray := ⟨#[59]⟩
inductive It where
  | sgn (s : ByteArray)
  | nam
  | sub (w : Nat)
  | els
section
variable (ts : List Tok)
def frmG (i : Nat) : Int × List It :=
  if isK wLet (nxt ts i) = true then
    if (nxt ts (i + 1)).k = 1 ∧ isK sCol (nxt ts (i + 2)) = true then (21, [.sgn wLet, .nam, .sgn sCol, .sub 1, .sgn sEnd])
    else (20, [.sgn wLet, .nam, .sgn sIs, .sub 0, .sgn sEnd])
  else if isK wIf (nxt ts i) = true then (23, [.sgn wIf, .sub 0, .sub 2, .els])
  else if isK wWhil (nxt ts i) = true then (24, [.sgn wWhil, .sub 0, .sub 2])
  else if isK wFor (nxt ts i) = true then (25, [.sgn wFor, .nam, .sgn sIs, .sub 0, .sgn wTo, .sub 0, .sub 2])
  else if isK wPrin (nxt ts i) = true then (26, [.sgn wPrin, .sub 0, .sgn sEnd])
  else if isK wRet (nxt ts i) = true then (27, [.sgn wRet, .sub 0, .sgn sEnd])
  else if isK wDo (nxt ts i) = true then (28, [.sgn wDo, .sub 0, .sgn sEnd])
  else (22, [.sub 0, .sgn sIs, .sub 0, .sgn sEnd])
def emB (to : Nat) : VT := .mk ⟨29, 0, ⟨#[]⟩, toT ts (to - 1), toT ts (to - 1)⟩ []
def itH (R : Nat → Nat → Got) (a : Nat) (k n : Int) : List It → Nat → ByteArray → List VT → Got
  | [], to, s, ps => mk7 ts a to k n s ps
  | .sgn x :: l, to, s, ps => if isK x (nxt ts to) = true then itH R a k n l (to + 1) s ps else bad7 to
  | .nam :: l, to, s, ps => if (nxt ts to).k = 1 then itH R a k n l (to + 1) (nxt ts to).s ps else bad7 to
  | .sub w :: l, to, s, ps => if (R w to).2.2 = 0 then itH R a k n l (R w to).2.1 s (ps ++ [(R w to).1]) else R w to
  | .els :: l, to, s, ps => if isK wElse (nxt ts to) = true then if (R 2 (to + 1)).2.2 = 0 then itH R a k n l (R 2 (to + 1)).2.1 s (ps ++ [(R 2 (to + 1)).1]) else R 2 (to + 1) else itH R a k n l to s (ps ++ [emB ts to])
def lpB (S : Nat → Got) (a : Nat) : Nat → Nat → List VT → Got
  | 0, to, acc => bad7 to
  | m + 1, to, acc => if isK sKet (nxt ts to) = true then mk7 ts a (to + 1) 29 0 ⟨#[]⟩ acc else if (S to).2.2 = 0 then lpB S a m (S to).2.1 (acc ++ [(S to).1]) else S to
def blG (S : Nat → Got) (i : Nat) : Got := if isK sBra (nxt ts i) = true then lpB ts S i (ts.length + 1) (i + 1) [] else bad7 i
def RR (S : Nat → Got) (w i : Nat) : Got := if w = 0 then Qx ts 1 i else if w = 1 then tyG ts (ts.length + 1) i else blG ts S i
def sG : Nat → Nat → Got
  | 0, i => bad7 i
  | n + 1, i => if isK sBra (nxt ts i) = true then blG ts (sG n) i else itH ts (RR ts (sG n)) i (frmG ts i).1 0 (frmG ts i).2 i ⟨#[]⟩ []
end
section
variable {ts : List Tok}
def Cr : Nat → List It → Prop
  | c, [] => 1 ≤ c
  | c, .sgn _ :: l => Cr (c + 1) l
  | c, .nam :: l => Cr (c + 1) l
  | c, .sub w :: l => Cr (if w = 2 then c + 1 else c) l
  | c, .els :: l => 1 < c ∧ Cr (c - 1) l
structure OkS (ts : List Tok) (c i : Nat) (x : Got) : Prop where
  ok : OkG ts i x
  sz : x.2.2 = 0 → x.1.size + c + i ≤ x.2.1
theorem oks_bad {c i j : Nat} (h : i ≤ ts.length → i ≤ j ∧ j ≤ ts.length) : OkS ts c i (bad7 j) := ⟨ok_bad h, fun h => by simp [bad7] at h⟩
theorem oks_mono {c i j : Nat} {x : Got} (h : OkS ts c j x) (hij : i ≤ j) (hj : j ≤ ts.length) : OkS ts c i x :=
  ⟨⟨fun h0 => ⟨by have := h.ok.yes h0; omega, (h.ok.yes h0).2⟩, h.ok.no, fun _ => by have := h.ok.le hj; omega⟩, fun h0 => by have := h.sz h0; omega⟩
theorem oks_zero {c i : Nat} {x : Got} (h : OkS ts c i x) : OkS ts 0 i x := ⟨h.ok, fun h0 => by have := h.sz h0; omega⟩
theorem oks_err {c i : Nat} {x : Got} (h : OkS ts 0 i x) (h0 : x.2.2 ≠ 0) : OkS ts c i x := ⟨h.ok, fun h1 => absurd h1 h0⟩
theorem itG_ok {R : Nat → Nat → Got} (hR : ∀ w j, j ≤ ts.length → OkS ts (if w = 2 then 1 else 0) j (R w j)) (a : Nat) (k : Int) {n : Int} : ∀ (l : List It) (to : Nat) (s : ByteArray) (ps : List VT) (c : Nat), c + sm ps + a ≤ to → to ≤ ts.length → Cr c l → OkS ts 0 a (itH ts R a k n l to s ps)
  | [], to, s, ps, c, h1, h2, h3 => by
    unfold Cr at h3
    exact ⟨ok_mk (by omega) h2, fun h0 => by have := sz_mk (ts := ts) (i := a) (b := to) (k := k) (n := n) (s := s) (l := ps) (by omega) h0; exact this⟩
  | .sgn x :: l, to, s, ps, c, h1, h2, h3 => by
    unfold itH
    split
    · rename_i h; have := isK_lt h; exact itG_ok hR a k l (to + 1) s ps (c + 1) (by omega) (by omega) h3
    · exact oks_bad (fun _ => by omega)
  | .nam :: l, to, s, ps, c, h1, h2, h3 => by
    unfold itH
    split
    · rename_i h; have := k_lt h (by decide); exact itG_ok hR a k l (to + 1) _ ps (c + 1) (by omega) (by omega) h3
    · exact oks_bad (fun _ => by omega)
  | .sub w :: l, to, s, ps, c, h1, h2, h3 => by
    unfold itH
    have hr := hR w to h2
    split
    · rename_i h
      have hy := hr.ok.yes h
      have hs := hr.sz h
      refine itG_ok hR a k l _ s _ _ ?_ hy.2 h3
      rw [sm_app]
      split at hs <;> split <;> omega
    · rename_i h; exact oks_err (oks_mono (oks_zero hr) (by omega) h2) h
  | .els :: l, to, s, ps, c, h1, h2, h3 => by
    unfold itH
    split
    · rename_i h
      have hlt := isK_lt h
      have hr := hR 2 (to + 1) (by omega)
      split
      · rename_i h
        have hy := hr.ok.yes h
        have hs := hr.sz h
        refine itG_ok hR a k l _ s _ _ ?_ hy.2 h3.2
        rw [sm_app]
        rw [if_pos rfl] at hs
        omega
      · rename_i h; exact oks_err (oks_mono (oks_zero hr) (by omega) (by omega)) h
    · refine itG_ok hR a k l to s _ _ ?_ h2 h3.2
      rw [sm_app]
      have h4 := h3.1
      show c - 1 + (sm ps + Tr.size (Tr.mk _ [])) + a ≤ to
      rw [Tr.size_mk]
      simp
      omega
theorem lpB_ok {S : Nat → Got} (hS : ∀ j, j ≤ ts.length → OkS ts 0 j (S j)) (a : Nat) : ∀ (m to : Nat) (acc : List VT), a + 1 + sm acc ≤ to → to ≤ ts.length → OkS ts 1 a (lpB ts S a m to acc)
  | 0, to, acc, h1, h2 => oks_bad (fun _ => by omega)
  | m + 1, to, acc, h1, h2 => by
    unfold lpB
    split
    · rename_i h
      have hlt := isK_lt h
      refine ⟨ok_mk (by omega) (by omega), fun h0 => ?_⟩
      show Tr.size (Tr.mk _ acc) + 1 + a ≤ to + 1
      rw [Tr.size_mk]
      unfold sm at h1
      omega
    · have hr := hS to h2
      split
      · rename_i h
        have hy := hr.ok.yes h
        have hs := hr.sz h
        exact lpB_ok hS a m _ _ (by rw [sm_app]; omega) hy.2
      · rename_i h; exact oks_err (oks_mono hr (by omega) h2) h
theorem blG_ok {S : Nat → Got} (hS : ∀ j, j ≤ ts.length → OkS ts 0 j (S j)) (i : Nat) (hi : i ≤ ts.length) : OkS ts 1 i (blG ts S i) := by
  unfold blG
  split
  · rename_i h; have := isK_lt h; exact lpB_ok hS i _ _ _ (by simp [sm]) (by omega)
  · exact oks_bad (fun _ => by omega)
theorem tyG_sz : ∀ n i, (tyG ts n i).2.2 = 0 → (tyG ts n i).1.size + i ≤ (tyG ts n i).2.1
  | 0, i => by simp [tyG]
  | n + 1, i => by
    have ih := tyG_sz n (i + 3)
    unfold tyG
    split
    · simp [Tr.size_mk]; omega
    split
    · simp [Tr.size_mk]; omega
    split
    · split
      · split
        · split
          · rename_i h
            have := ih h
            simp [Tr.size_mk]; omega
          · exact fun h => by rename_i h1; exact absurd h h1
        · simp
      · simp
    · split
      · simp [Tr.size_mk]; omega
      · simp
theorem tyG_oks (i : Nat) (hi : i ≤ ts.length) : OkS ts 0 i (tyG ts (ts.length + 1) i) := by
  obtain ⟨h1, h2, h3, h4⟩ := tyG_ok ts (ts.length + 1) i
  have hle : ∀ n i, i ≤ ts.length → i ≤ (tyG ts n i).2.1 := by
    intro n
    induction n with
    | zero => intro i _; exact Nat.le_refl _
    | succ n ih =>
      intro i hi
      unfold tyG
      split
      · simp
      split
      · simp
      split
      · rename_i h
        have h := isK_lt h
        split
        · rename_i h1
          have h1 := k_lt h1 (by decide)
          split
          · rename_i h2
            have h2 := isK_lt h2
            have := ih (i + 3) (by omega)
            split
            · dsimp only; omega
            · omega
          · simp
        · simp
      · split <;> simp
  exact ⟨⟨h1, h2, fun _ => ⟨hle _ i hi, h3 hi⟩⟩, fun h => by have := tyG_sz _ _ h; omega⟩
theorem RR_ok {S : Nat → Got} (hS : ∀ j, j ≤ ts.length → OkS ts 0 j (S j)) (w j : Nat) (hj : j ≤ ts.length) : OkS ts (if w = 2 then 1 else 0) j (RR ts S w j) := by
  unfold RR
  by_cases h0 : w = 0
  · rw [if_pos h0, if_neg (by omega)]
    exact ⟨Q_ok 1 j hj, fun h => by have := pG_sz (ts := ts) _ 1 j hj h; exact this⟩
  · rw [if_neg h0]
    by_cases h1 : w = 1
    · rw [if_pos h1, if_neg (by omega)]; exact tyG_oks j hj
    · rw [if_neg h1]
      have := blG_ok hS j hj
      split
      · exact this
      · exact oks_zero this
theorem frm_cr (i : Nat) : Cr 0 (frmG ts i).2 := by
  unfold frmG
  repeat' split
  all_goals simp [Cr]
theorem sG_ok : ∀ (n i : Nat), i ≤ ts.length → OkS ts 0 i (sG ts n i)
  | 0, i, hi => oks_bad (fun _ => ⟨Nat.le_refl _, hi⟩)
  | n + 1, i, hi => by
    unfold sG
    split
    · exact oks_zero (blG_ok (sG_ok n) i hi)
    · exact itG_ok (RR_ok (sG_ok n)) i _ _ i _ [] 0 (by simp [sm]) hi (frm_cr i)
def ct : List It → Nat
  | [] => 0
  | .els :: l => ct l
  | .sgn _ :: l => ct l + 1
  | .nam :: l => ct l + 1
  | .sub _ :: l => ct l + 1
theorem itG_ct {R : Nat → Nat → Got} (hR : ∀ w j, j ≤ ts.length → OkS ts (if w = 2 then 1 else 0) j (R w j)) (a : Nat) (k : Int) {n : Int} : ∀ (l : List It) (to : Nat) (s : ByteArray) (ps : List VT), to ≤ ts.length → (itH ts R a k n l to s ps).2.2 = 0 → to + ct l ≤ (itH ts R a k n l to s ps).2.1
  | [], to, s, ps, h1, h => Nat.le_refl _
  | .sgn x :: l, to, s, ps, h1, h => by
    rw [itH] at h ⊢
    unfold ct
    by_cases h2 : isK x (nxt ts to) = true
    · rw [if_pos h2] at h ⊢
      have := isK_lt h2
      have := itG_ct hR a k l (to + 1) s ps (by omega) h
      omega
    · rw [if_neg h2] at h; simp [bad7] at h
  | .nam :: l, to, s, ps, h1, h => by
    rw [itH] at h ⊢
    unfold ct
    by_cases h2 : (nxt ts to).k = 1
    · rw [if_pos h2] at h ⊢
      have := k_lt h2 (by decide)
      have := itG_ct hR a k l (to + 1) _ ps (by omega) h
      omega
    · rw [if_neg h2] at h; simp [bad7] at h
  | .sub w :: l, to, s, ps, h1, h => by
    rw [itH] at h ⊢
    unfold ct
    by_cases h2 : (R w to).2.2 = 0
    · rw [if_pos h2] at h ⊢
      have := (hR w to h1).ok.yes h2
      have := itG_ct hR a k l _ s _ this.2 h
      omega
    · rw [if_neg h2] at h; exact absurd h h2
  | .els :: l, to, s, ps, h1, h => by
    rw [itH] at h ⊢
    unfold ct
    by_cases h2 : isK wElse (nxt ts to) = true
    · rw [if_pos h2] at h ⊢
      have h3 := isK_lt h2
      by_cases h4 : (R 2 (to + 1)).2.2 = 0
      · rw [if_pos h4] at h ⊢
        have := (hR 2 (to + 1) h3).ok.yes h4
        have := itG_ct hR a k l _ s _ this.2 h
        omega
      · rw [if_neg h4] at h; exact absurd h h4
    · rw [if_neg h2] at h ⊢
      exact itG_ct hR a k l to s _ h1 h
theorem frm_ct (i : Nat) : 2 ≤ ct (frmG ts i).2 := by
  unfold frmG
  repeat' split
  all_goals simp [ct]
theorem lpB_two {S : Nat → Got} (hS : ∀ j, j ≤ ts.length → OkS ts 0 j (S j)) (a : Nat) : ∀ (m to : Nat) (acc : List VT), to ≤ ts.length → (lpB ts S a m to acc).2.2 = 0 → to + 1 ≤ (lpB ts S a m to acc).2.1
  | 0, to, acc, h1, h => by simp [lpB, bad7] at h
  | m + 1, to, acc, h1, h => by
    rw [lpB] at h ⊢
    by_cases h2 : isK sKet (nxt ts to) = true
    · rw [if_pos h2]; exact Nat.le_refl _
    · rw [if_neg h2] at h ⊢
      by_cases h3 : (S to).2.2 = 0
      · rw [if_pos h3] at h ⊢
        have := (hS to h1).ok.yes h3
        have := lpB_two hS a m _ _ this.2 h
        omega
      · rw [if_neg h3] at h; exact absurd h h3
theorem sG_two : ∀ (n i : Nat), i ≤ ts.length → (sG ts n i).2.2 = 0 → i + 2 ≤ (sG ts n i).2.1
  | 0, i, hi, h => by simp [sG, bad7] at h
  | n + 1, i, hi, h => by
    rw [sG] at h ⊢
    by_cases h1 : isK sBra (nxt ts i) = true
    · rw [if_pos h1] at h ⊢
      have h2 := isK_lt h1
      rw [blG, if_pos h1] at h ⊢
      exact lpB_two (sG_ok n) i _ _ _ h2 h
    · rw [if_neg h1] at h ⊢
      have := itG_ct (RR_ok (sG_ok n)) i _ _ i _ [] hi h
      have := frm_ct (ts := ts) i
      omega
def WT (ts : List Tok) (s : ByteArray) (p : Nat × Int) : Nat × Int := if p.2 = 0 then if isK s (nxt ts p.1) = true then (p.1 + 1, 0) else (p.1, 6) else p
def TT (ts : List Tok) (s : ByteArray) (p : Nat × Int) : Bool := decide (p.2 = 0) && isK s (nxt ts p.1)
def KT (ts : List Tok) (k : Int) (p : Nat × Int) : Tok × Nat × Int := if p.2 = 0 then if (nxt ts p.1).k = k then (nxt ts p.1, p.1 + 1, 0) else (zK, p.1, 6) else (zK, p.1, p.2)
def OT (G : Nat → Got) (p : Nat × Int) : Got := if p.2 = 0 then G p.1 else (z0, p.1, p.2)
def NT (ts : List Tok) (a : Nat) (k n : Int) (s : ByteArray) (l : List VT) (p : Nat × Int) : Got := if p.2 = 0 then mk7 ts a p.1 k n s l else (z0, p.1, p.2)
def FT (ts : List Tok) (R : Nat → Nat → Got) (a : Nat) (k n : Int) (l : List It) (p : Nat × Int) (s : ByteArray) (ps : List VT) : Got := if p.2 = 0 then itH ts R a k n l p.1 s ps else (z0, p.1, p.2)
theorem itG_sgn {R : Nat → Nat → Got} {a : Nat} {k n : Int} {x : ByteArray} {l : List It} {to : Nat} {s : ByteArray} {ps : List VT} : itH ts R a k n (.sgn x :: l) to s ps = if isK x (nxt ts to) = true then itH ts R a k n l (to + 1) s ps else bad7 to := by rw [itH]
theorem itG_nam {R : Nat → Nat → Got} {a : Nat} {k n : Int} {l : List It} {to : Nat} {s : ByteArray} {ps : List VT} : itH ts R a k n (.nam :: l) to s ps = if (nxt ts to).k = 1 then itH ts R a k n l (to + 1) (nxt ts to).s ps else bad7 to := by rw [itH]
theorem itG_sub {R : Nat → Nat → Got} {a : Nat} {k n : Int} {w : Nat} {l : List It} {to : Nat} {s : ByteArray} {ps : List VT} : itH ts R a k n (.sub w :: l) to s ps = if (R w to).2.2 = 0 then itH ts R a k n l (R w to).2.1 s (ps ++ [(R w to).1]) else R w to := by rw [itH]
theorem itG_els {R : Nat → Nat → Got} {a : Nat} {k n : Int} {l : List It} {to : Nat} {s : ByteArray} {ps : List VT} : itH ts R a k n (.els :: l) to s ps = if isK wElse (nxt ts to) = true then if (R 2 (to + 1)).2.2 = 0 then itH ts R a k n l (R 2 (to + 1)).2.1 s (ps ++ [(R 2 (to + 1)).1]) else R 2 (to + 1) else itH ts R a k n l to s (ps ++ [emB ts to]) := by rw [itH]
theorem ft_start {R : Nat → Nat → Got} {a : Nat} {k n : Int} {l : List It} {i : Nat} {s : ByteArray} {ps : List VT} : itH ts R a k n l i s ps = FT ts R a k n l (i, 0) s ps := (if_pos rfl).symm
theorem ft_sgn {R : Nat → Nat → Got} {a : Nat} {k n : Int} {x : ByteArray} {l : List It} {p : Nat × Int} {s : ByteArray} {ps : List VT} : FT ts R a k n (.sgn x :: l) p s ps = FT ts R a k n l (WT ts x p) s ps := by
  obtain ⟨i, e⟩ := p
  unfold FT WT
  rw [itG_sgn]
  unfold bad7
  by_cases he : e = 0
  · subst he
    by_cases h : isK x (nxt ts i) = true <;> simp [h]
  · simp [he]
theorem ft_nam {R : Nat → Nat → Got} {a : Nat} {k n : Int} {l : List It} {p : Nat × Int} {s : ByteArray} {ps : List VT} : FT ts R a k n (.nam :: l) p s ps = FT ts R a k n l (KT ts 1 p).2 (KT ts 1 p).1.s ps := by
  obtain ⟨i, e⟩ := p
  unfold FT KT
  rw [itG_nam]
  unfold bad7
  by_cases he : e = 0
  · subst he
    by_cases h : (nxt ts i).k = 1 <;> simp [h]
  · simp [he]
theorem ft_sub {R : Nat → Nat → Got} {a : Nat} {k n : Int} {w : Nat} {l : List It} {p : Nat × Int} {s : ByteArray} {ps : List VT} (hz : ∀ j, j ≤ ts.length → (R w j).2.2 ≠ 0 → (R w j).1 = z0) (hp : p.2 = 0 → p.1 ≤ ts.length) : FT ts R a k n (.sub w :: l) p s ps = FT ts R a k n l (OT (R w) p).2 s (ps ++ [(OT (R w) p).1]) := by
  obtain ⟨i, e⟩ := p
  unfold FT OT
  rw [itG_sub]
  by_cases he : e = 0
  · subst he
    have := hz i (hp rfl)
    dsimp only
    obtain ⟨⟨r1, r2, r3⟩, hr⟩ : ∃ r, R w i = r := ⟨_, rfl⟩
    rw [hr] at this ⊢
    by_cases h : r3 = 0
    · simp [h]
    · have := this h
      dsimp only at this
      simp [h, this]
  · simp [he]
theorem ft_end {R : Nat → Nat → Got} {a : Nat} {k n : Int} {p : Nat × Int} {s : ByteArray} {ps : List VT} : FT ts R a k n [] p s ps = NT ts a k n s ps p := rfl
theorem ft_els_no {R : Nat → Nat → Got} {a : Nat} {k n : Int} {l : List It} {p : Nat × Int} {s : ByteArray} {ps : List VT} (h : TT ts wElse p = false) : FT ts R a k n (.els :: l) p s ps = FT ts R a k n l p s (ps ++ [emB ts p.1]) := by
  obtain ⟨i, e⟩ := p
  unfold FT
  rw [itG_els]
  unfold TT at h
  by_cases he : e = 0
  · subst he
    simp at h
    simp [h]
  · simp [he]
theorem ft_els_yes {R : Nat → Nat → Got} {a : Nat} {k n : Int} {l : List It} {p : Nat × Int} {s : ByteArray} {ps : List VT} (hz : ∀ j, j ≤ ts.length → (R 2 j).2.2 ≠ 0 → (R 2 j).1 = z0) (h : TT ts wElse p = true) : FT ts R a k n (.els :: l) p s ps = FT ts R a k n l (R 2 (p.1 + 1)).2 s (ps ++ [(R 2 (p.1 + 1)).1]) := by
  obtain ⟨i, e⟩ := p
  unfold TT at h
  simp at h
  obtain ⟨h0, h1⟩ := h
  try dsimp only at h0 h1
  subst h0
  have := hz (i + 1) (isK_lt h1)
  unfold FT
  rw [itG_els]
  dsimp only
  obtain ⟨⟨r1, r2, r3⟩, hr⟩ : ∃ r, R 2 (i + 1) = r := ⟨_, rfl⟩
  rw [hr] at this ⊢
  by_cases h : r3 = 0
  · simp [h, h1]
  · have := this h
    dsimp only at this
    simp [h, h1, this]
theorem lpB_to {S : Nat → Got} (hS : ∀ j, (S j).2.2 = 0 → True) (a : Nat) : ∀ (m to : Nat) (acc : List VT), (∀ j, (S j).2.2 ≠ 0 → (S j).2.2 ≠ 0) → (lpB ts S a m to acc).2.2 = 0 → (lpB ts S a m to acc).1.lab.t = toT ts ((lpB ts S a m to acc).2.1 - 1)
  | 0, to, acc, _, h => by simp [lpB, bad7] at h
  | m + 1, to, acc, hn, h => by
    unfold lpB at h ⊢
    split
    · rfl
    · rename_i h1
      rw [if_neg h1] at h
      split
      · rename_i h2
        rw [if_pos h2] at h
        exact lpB_to hS a m _ _ hn h
      · rename_i h2
        rw [if_neg h2] at h
        exact absurd h h2
theorem blG_to {S : Nat → Got} (i : Nat) (h : (blG ts S i).2.2 = 0) : (blG ts S i).1.lab.t = toT ts ((blG ts S i).2.1 - 1) := by
  unfold blG at h ⊢
  split
  · rename_i h1
    rw [if_pos h1] at h
    exact lpB_to (fun _ _ => trivial) i _ _ _ (fun _ h => h) h
  · rename_i h1
    rw [if_neg h1] at h
    simp [bad7] at h
theorem wt_c {a : Nat} {s : ByteArray} {p : Nat × Int} (c : p.2 = 0 → a ≤ p.1 ∧ p.1 ≤ ts.length) : (WT ts s p).2 = 0 → a ≤ (WT ts s p).1 ∧ (WT ts s p).1 ≤ ts.length := by
  obtain ⟨i, e⟩ := p
  unfold WT
  dsimp only at c ⊢
  by_cases he : e = 0
  · subst he
    rw [if_pos rfl]
    by_cases h : isK s (nxt ts i) = true
    · rw [if_pos h]; have := isK_lt h; have := c rfl; intro _; dsimp only; omega
    · rw [if_neg h]; intro h; exact absurd (show (6 : Int) = 0 from h) (by decide)
  · rw [if_neg he]; exact fun h => absurd h he
theorem wt_lt {s : ByteArray} {i : Nat} : (WT ts s (i, 0)).2 = 0 → i < (WT ts s (i, 0)).1 := by
  unfold WT
  dsimp only
  rw [if_pos rfl]
  by_cases h : isK s (nxt ts i) = true
  · rw [if_pos h]; intro _; exact Nat.lt_succ_self _
  · rw [if_neg h]; intro h; exact absurd (show (6 : Int) = 0 from h) (by decide)
theorem kt_c {a : Nat} {k : Int} {p : Nat × Int} (hk : k ≠ 5) (c : p.2 = 0 → a ≤ p.1 ∧ p.1 ≤ ts.length) : (KT ts k p).2.2 = 0 → a ≤ (KT ts k p).2.1 ∧ (KT ts k p).2.1 ≤ ts.length := by
  obtain ⟨i, e⟩ := p
  unfold KT
  dsimp only at c ⊢
  by_cases he : e = 0
  · subst he
    rw [if_pos rfl]
    by_cases h : (nxt ts i).k = k
    · rw [if_pos h]; have := k_lt h hk; have := c rfl; intro _; dsimp only; omega
    · rw [if_neg h]; intro h; exact absurd (show (6 : Int) = 0 from h) (by decide)
  · rw [if_neg he]; exact fun h => absurd h he
theorem ot_c {a : Nat} {G : Nat → Got} {p : Nat × Int} (hG : ∀ j, j ≤ ts.length → OkG ts j (G j)) (c : p.2 = 0 → a ≤ p.1 ∧ p.1 ≤ ts.length) : (OT G p).2.2 = 0 → a ≤ (OT G p).2.1 ∧ (OT G p).2.1 ≤ ts.length := by
  obtain ⟨i, e⟩ := p
  unfold OT
  dsimp only at c ⊢
  by_cases he : e = 0
  · subst he
    rw [if_pos rfl]
    have c := c rfl
    intro h
    have := (hG i c.2).yes h
    omega
  · rw [if_neg he]; exact fun h => absurd h he
theorem nt_at {a : Nat} {k n : Int} {s : ByteArray} {l : List VT} {p : Nat × Int} (h : OkG ts a (NT ts a k n s l p)) : p.2 = 0 → a < p.1 ∧ p.1 ≤ ts.length := by
  obtain ⟨i, e⟩ := p
  intro he
  dsimp only at he
  subst he
  exact h.yes rfl
theorem nt_err {a : Nat} {k n : Int} {s : ByteArray} {l m : List VT} {p : Nat × Int} (h : p.2 = 0 → l = m) : NT ts a k n s l p = NT ts a k n s m p := by
  unfold NT
  by_cases he : p.2 = 0
  · rw [h he]
  · rw [if_neg he, if_neg he]
theorem rr_no {S : Nat → Got} (hS : ∀ j, j ≤ ts.length → OkS ts 0 j (S j)) (w : Nat) : ∀ j, j ≤ ts.length → (RR ts S w j).2.2 ≠ 0 → (RR ts S w j).1 = z0 := fun j hj h => ((RR_ok hS w j hj).ok.no h).2
theorem wt_of_tt {s : ByteArray} {p : Nat × Int} (h : TT ts s p = true) : WT ts s p = (p.1 + 1, 0) := by
  obtain ⟨i, e⟩ := p
  unfold TT at h
  simp at h
  obtain ⟨h0, h1⟩ := h
  try dsimp only at h0 h1
  subst h0
  unfold WT
  dsimp only
  rw [if_pos rfl, if_pos h1]
theorem bl_to {S : Nat → Got} {p : Nat × Int} : (OT (blG ts S) p).2.2 = 0 → (OT (blG ts S) p).1.lab.t = toT ts ((OT (blG ts S) p).2.1 - 1) := by
  obtain ⟨i, e⟩ := p
  unfold OT
  dsimp only
  by_cases he : e = 0
  · rw [if_pos he]; exact blG_to i
  · rw [if_neg he]; exact fun h => absurd h he
end
end Go.Proofs.YthcnligihpnfiaaGreatDoor.vt
end
section
namespace Go.Proofs.YthcnligihpnfiaaGreatDoor.am
open Go.ChangeShapes Go.WideShapes Go.ChangeAt Go.RowKit
open vt
set_option linter.unusedVariables false
set_option linter.unusedSimpArgs false
section
variable (ts : List Tok) (hl : ts.length ≤ 9223372036854775807)
include hl
set_option maxRecDepth 100000 in
set_option maxHeartbeats 4000000 in
theorem want_tot (p : Nat × Int) (s : ByteArray) (hs : s.size ≤ 1000) : Row Tryz.prog 42 [vR, vS s] [rd ts p.1 p.2] (.tup []) [some (rd ts (WT ts s p).1 (WT ts s p).2)] := by
  obtain ⟨i, e⟩ := p
  unfold WT
  dsimp only
  by_cases he : e = 0
  · subst he
    rw [if_pos rfl]
    by_cases h : isK s (nxt ts i) = true
    · rw [if_pos h]; exact want_yes ts i s hs hl h
    · rw [if_neg h]; exact want_no ts i 0 s hs (.inr (by simpa using h))
  · rw [if_neg he]
    have := want_no ts i e s hs (.inl he)
    rwa [show er e = e from if_neg he] at this
set_option maxRecDepth 100000 in
set_option maxHeartbeats 4000000 in
theorem take_yes' (p : Nat × Int) (s : ByteArray) (hs : s.size ≤ 1000) (h : TT ts s p = true) : Row Tryz.prog 38 [vR, vS s] [rd ts p.1 p.2] (vB true) [some (rd ts (p.1 + 1) 0)] := by
  obtain ⟨i, e⟩ := p
  unfold TT at h
  simp at h
  obtain ⟨h0, h1⟩ := h
  try dsimp only at h0 h1
  subst h0
  exact take_yes ts i s hs hl h1
omit hl in
set_option maxRecDepth 100000 in
set_option maxHeartbeats 4000000 in
theorem take_no' (p : Nat × Int) (s : ByteArray) (hs : s.size ≤ 1000) (h : TT ts s p = false) : Row Tryz.prog 38 [vR, vS s] [rd ts p.1 p.2] (vB false) [some (rd ts p.1 p.2)] := by
  obtain ⟨i, e⟩ := p
  refine take_no ts i e s hs ?_
  unfold TT at h
  by_cases he : e = 0
  · right; simpa [he] using h
  · exact .inl he
set_option maxRecDepth 100000 in
set_option maxHeartbeats 4000000 in
theorem kind_tot (p : Nat × Int) (k : Int) (hk : k ≠ 5) : Row Tryz.prog 81 [vR, vI k] [rd ts p.1 p.2] (vK (KT ts k p).1) [some (rd ts (KT ts k p).2.1 (KT ts k p).2.2)] := by
  obtain ⟨i, e⟩ := p
  unfold KT
  dsimp only
  by_cases he : e = 0
  · subst he
    rw [if_pos rfl]
    by_cases h : (nxt ts i).k = k
    · rw [if_pos h]
      obtain ⟨x, hx, hxn, hxk⟩ := kind_at h hk
      rw [hxn]
      exact kind_yes ts i k x hl hx hxk
    · rw [if_neg h]; exact kind_no ts i 0 k (.inr h)
  · rw [if_neg he]
    have := kind_no ts i e k (.inl he)
    rwa [show er e = e from if_neg he] at this
set_option maxRecDepth 100000 in
set_option maxHeartbeats 4000000 in
theorem node_tot (p : Nat × Int) (a : Nat) (x : Lab) (l : List VT) (h : p.2 = 0 → a < p.1 ∧ p.1 ≤ ts.length) : Row Tryz.prog 43 [vR, vI a, vT (.mk x l)] [rd ts p.1 p.2] (vT (NT ts a x.k x.n x.s l p).1) [some (rd ts (NT ts a x.k x.n x.s l p).2.1 (NT ts a x.k x.n x.s l p).2.2)] := by
  obtain ⟨i, e⟩ := p
  unfold NT
  dsimp only at h ⊢
  by_cases he : e = 0
  · subst he
    rw [if_pos rfl]
    obtain ⟨h1, h2⟩ := h rfl
    exact node_yes ts i a x l (by omega) (by omega) h2 hl
  · rw [if_neg he]
    exact node_no ts i e he a (.mk x l)
end
abbrev vFg (g : Nat) : AV := .v (.c (.fn (.func g) [] []))
set_option maxRecDepth 100000 in
set_option maxHeartbeats 4000000 in
theorem below_tot (ts : List Tok) (p : Nat × Int) (g : Nat) (G : Nat → Got) (h : p.2 = 0 → Row Tryz.prog g [vKs ts, vI p.1] [] (vT3 (G p.1)) []) : Row Tryz.prog 86 [vR, vFg g] [rd ts p.1 p.2] (vT (OT G p).1) [some (rd ts (OT G p).2.1 (OT G p).2.2)] := by
  obtain ⟨i, e⟩ := p
  have h2 := goes_row ts i e
  unfold OT
  dsimp only at h ⊢
  by_cases he : e = 0
  · subst he
    rw [if_pos rfl]
    have h1 := h rfl
    clear h
    obtain ⟨⟨⟨px, pl⟩, j, e⟩, hr⟩ : ∃ r, G i = r := ⟨_, rfl⟩
    rw [hr] at h1 ⊢
    clear hr
    refine row_of Tryz.func86 rfl rfl (Nat.le_of_ble_eq_true rfl) ?_
    repeat' (first | refine aw_seq ?_ | refine aw_skip ?_ | refine aw_block ?_ | refine aw_exit ?_ | refine aw_cond rfl (fun _ => ?_) (fun hb => absurd hb (by decide)) | refine aw_cond rfl (fun hb => absurd hb (by decide)) (fun _ => ?_) | (refine aw_reg (fun K hK => ?_); simp -implicitDefEqProofs) | (refine aw_drw mixd (fun K hK => ?_); simp -implicitDefEqProofs) | refine hK _ ?_ | refine hK _ _ (by rfl) ?_ | (refine ar_call (cb h2 0 ?_); simp -implicitDefEqProofs) | (refine ard_call (db h2 0 ?_); simp -implicitDefEqProofs) | (refine ar_call (cp h1 ?_); simp -implicitDefEqProofs) | (refine ard_call (dp h1 ?_); simp -implicitDefEqProofs) | fail)
    refine aw_ret (fin_box ?_); simp -implicitDefEqProofs [FinB, resV, resT] <;> try rfl
  · rw [if_neg he]
    refine row_of Tryz.func86 rfl rfl (Nat.le_of_ble_eq_true rfl) ?_
    repeat' (first | refine aw_seq ?_ | refine aw_skip ?_ | refine aw_block ?_ | refine aw_exit ?_ | refine aw_cond rfl (fun _ => ?_) (fun hb => absurd hb (by decide)) | refine aw_cond rfl (fun hb => absurd hb (by decide)) (fun _ => ?_) | (refine aw_reg (fun K hK => ?_); simp -implicitDefEqProofs [he]) | (refine aw_drw mixd (fun K hK => ?_); simp -implicitDefEqProofs [he]) | refine hK _ ?_ | refine hK _ _ (by rfl) ?_ | (refine ar_call (cb h2 0 ?_); simp -implicitDefEqProofs [he]) | (refine ard_call (db h2 0 ?_); simp -implicitDefEqProofs [he]) | fail)
    refine aw_ret (fin_box ?_); simp -implicitDefEqProofs [FinB, resV, resT, z0] <;> try rfl
end Go.Proofs.YthcnligihpnfiaaGreatDoor.am
end
section
namespace Go.Proofs.YthcnligihpnfiaaGreatDoor.am
open Go.ChangeShapes Go.WideShapes Go.ChangeAt Go.RowKit
open vt
set_option linter.unusedVariables false
set_option linter.unusedSimpArgs false
theorem td_strs : td Tryz.prog 94 = some ⟨false, 1, 24, [.nilS], [], (.slice 9)⟩ := Eq.trans (by kernel_rfl) (Eq.refl _)
theorem td_intv : td Tryz.prog 134 = some ⟨false, 1, 24, [.nilS], [], (.slice 2)⟩ := Eq.trans (by kernel_rfl) (Eq.refl _)
attribute [simp] td_strs td_intv
abbrev Sg := ByteArray × Int
def pS (x : Sg) : List PV := [Sx x.1]
def pI (x : Sg) : List PV := [I x.2]
attribute [simp] pS pI
end Go.Proofs.YthcnligihpnfiaaGreatDoor.am
end
section
namespace Go.Proofs.YthcnligihpnfiaaGreatDoor.am
open Go.ChangeShapes Go.WideShapes Go.ChangeAt Go.RowKit
open vt
set_option linter.unusedVariables false
set_option linter.unusedSimpArgs false
section
variable (ts : List Tok) (hl : ts.length ≤ 1000000000)
include hl
structure InvL (l i : Nat) (x : Nat × Nat × Got) : Prop where
  eq : lpL ts (Qx ts (l + 1)) l i x.1 (decide (0 < x.2.1)) x.2.2 = Qx ts l i
  ok : OkG ts i x.2.2
  fuel : x.2.2.2.2 = 0 → ts.length < x.1 + x.2.2.2.1
  few : x.1 + x.2.1 ≤ ts.length + 1
  three : l = 3 → x.2.1 ≤ 1
end
end Go.Proofs.YthcnligihpnfiaaGreatDoor.am
end
section
namespace Go.Proofs.YthcnligihpnfiaaGreatDoor.am
open Go.ChangeShapes Go.WideShapes Go.ChangeAt Go.RowKit
open vt
set_option linter.unusedVariables false
set_option linter.unusedSimpArgs false
section
variable (ts : List Tok) (hl : ts.length ≤ 1000000000)
structure InvP (i : Nat) (x : Nat × Got) : Prop where
  eq : lpP ts (Qx ts 1) i x.1 x.2 = Qx ts 7 i
  ok : OkG ts i x.2
  fuel : x.2.2.2 = 0 → ts.length < x.1 + x.2.2.1
include hl
structure InvC (E : Nat → Got) (i : Nat) (x : Nat × Nat × List VT) : Prop where
  eq : lpC ts E x.1 x.2.1 x.2.2 = lpC ts E (ts.length + 1) i []
  le : i ≤ x.2.1 ∧ x.2.1 ≤ ts.length
  fuel : ts.length < x.1 + x.2.1
  few : x.2.2.length + x.1 ≤ ts.length + 1
end
end Go.Proofs.YthcnligihpnfiaaGreatDoor.am
end
section
namespace Go.Proofs.YthcnligihpnfiaaGreatDoor.am
open Go.ChangeShapes Go.WideShapes Go.ChangeAt Go.RowKit
open vt
set_option linter.unusedVariables false
set_option linter.unusedSimpArgs false
section
variable (ts : List Tok) (hl : ts.length ≤ 1000000000)
include hl
structure FinR (i o : Nat) (k : Int) (s : ByteArray) (c : List VT × Nat × Int) : Prop where
  no : c.2.2 ≠ 0 → finC ts i k s c = (z0, c.2.1, c.2.2)
  yes : c.2.2 = 0 → Row Tryz.prog 56 [vKs ts, vI i, vI c.2.1, vI k, vI 0, vS s, vLs c.1] [] (vG (finC ts i k s c)) []
end
end Go.Proofs.YthcnligihpnfiaaGreatDoor.am
end
section
namespace Go.Proofs.YthcnligihpnfiaaGreatDoor.am
open Go.ChangeShapes Go.WideShapes Go.ChangeAt Go.RowKit
open vt
set_option linter.unusedVariables false
set_option linter.unusedSimpArgs false
abbrev zT : AO := .box [.pv (I 0), .pv (I 0), .pv (Sx ⟨#[]⟩), .pv .nilS, .pv (I 0), .pv (I 0)]
abbrev zU : AO := .box [.pv (I 0), .pv (I 0), .pv (Sx ⟨#[]⟩), .pv (.sl 6 []), .pv (I 0), .pv (I 0)]
abbrev vFn : AV := .v (.c (.fn (.func 185) [.ptr 0 0] []))
section
variable (ts : List Tok) (i : Nat) (e : Int) (h : e ≠ 0)
include h
set_option maxRecDepth 100000 in
set_option maxHeartbeats 4000000 in
theorem atom_err : Row Tryz.prog 190 [vR] [rd ts i e] (vT z0) [some (rd ts i e)] := by
  have g := goes_row ts i e
  refine row_of Tryz.func190 rfl rfl (Nat.le_of_ble_eq_true rfl) ?_
  repeat' (first | refine aw_seq ?_ | refine aw_skip ?_ | refine aw_block ?_ | refine aw_exit ?_ | refine aw_cond rfl (fun _ => ?_) (fun hb => absurd hb (by decide)) | refine aw_cond rfl (fun hb => absurd hb (by decide)) (fun _ => ?_) | (refine aw_reg (fun K hK => ?_); simp -implicitDefEqProofs [h]) | (refine aw_drw mixd (fun K hK => ?_); simp -implicitDefEqProofs [h]) | refine hK _ ?_ | refine hK _ _ (by rfl) ?_ | (refine ar_call (cb g 0 ?_); simp -implicitDefEqProofs [h]) | (refine ard_call (db g 0 ?_); simp -implicitDefEqProofs [h]) | fail)
  refine aw_ret (fin_box ?_); simp -implicitDefEqProofs [FinB, resV, resT, z0] <;> try rfl
set_option maxRecDepth 100000 in
set_option maxHeartbeats 4000000 in
theorem post_err : Row Tryz.prog 189 [vR] [rd ts i e] (vT z0) [some (rd ts i e)] := by
  have g := goes_row ts i e
  have p := place_row ts i e
  have a := atom_err ts i e h
  unfold z0 at a
  refine row_of Tryz.func189 rfl rfl (Nat.le_of_ble_eq_true rfl) ?_
  repeat' (first | refine aw_seq ?_ | refine aw_skip ?_ | refine aw_block ?_ | refine aw_exit ?_ | refine aw_cond rfl (fun _ => ?_) (fun hb => absurd hb (by decide)) | refine aw_cond rfl (fun hb => absurd hb (by decide)) (fun _ => ?_) | (refine aw_reg (fun K hK => ?_); simp -implicitDefEqProofs) | (refine aw_drw mixd (fun K hK => ?_); simp -implicitDefEqProofs) | refine hK _ ?_ | refine hK _ _ (by rfl) ?_ | (refine ar_call (cb p 0 ?_); simp -implicitDefEqProofs) | (refine ard_call (db p 0 ?_); simp -implicitDefEqProofs) | (refine ar_call (cb a 0 ?_); simp -implicitDefEqProofs) | (refine ard_call (db a 0 ?_); simp -implicitDefEqProofs) | fail)
  refine aw_lp (ι := Unit) (fun _ => mkSt [(0, vR), (2, .v (.c (.ptr 1 0))), (4, .v (.c (.ptr 2 0)))] [some (rd ts i e), some zT, some zU]) (fun _ => True) (fun _ => 0) () trivial (cov_intro [0, 1, 23] (by simp -implicitDefEqProofs) (by simp -implicitDefEqProofs) (by decide) rfl (by simp)) (fun Z hI _ _ => ?_)
  repeat' (first | refine aw_seq ?_ | refine aw_skip ?_ | refine aw_block ?_ | refine aw_exit ?_ | refine aw_cond rfl (fun _ => ?_) (fun hb => absurd hb (by decide)) | refine aw_cond rfl (fun hb => absurd hb (by decide)) (fun _ => ?_) | (refine aw_reg (fun K hK => ?_); simp -implicitDefEqProofs [h]) | (refine aw_drw mixd (fun K hK => ?_); simp -implicitDefEqProofs [h]) | refine hK _ ?_ | refine hK _ _ (by rfl) ?_ | (refine ar_call (cb g 0 ?_); simp -implicitDefEqProofs [h]) | (refine ard_call (db g 0 ?_); simp -implicitDefEqProofs [h]) | fail)
  refine aw_ret (fin_box ?_); simp -implicitDefEqProofs [FinB, resV, resT, z0] <;> try rfl
set_option maxRecDepth 100000 in
set_option maxHeartbeats 4000000 in
theorem un_err : Row Tryz.prog 187 [vR] [rd ts i e] (vT z0) [some (rd ts i e)] := by
  have p := place_row ts i e
  have t1 := take_no ts i e sMin (by decide) (.inl h)
  have t2 := take_no ts i e sNot (by decide) (.inl h)
  have a := post_err ts i e h
  unfold z0 at a
  refine row_of Tryz.func187 rfl rfl (Nat.le_of_ble_eq_true rfl) ?_
  repeat' (first | refine aw_seq ?_ | refine aw_skip ?_ | refine aw_block ?_ | refine aw_exit ?_ | refine aw_cond rfl (fun _ => ?_) (fun hb => absurd hb (by decide)) | refine aw_cond rfl (fun hb => absurd hb (by decide)) (fun _ => ?_) | (refine aw_reg (fun K hK => ?_); simp -implicitDefEqProofs) | (refine aw_drw mixd (fun K hK => ?_); simp -implicitDefEqProofs) | refine hK _ ?_ | refine hK _ _ (by rfl) ?_ | (refine ar_call (cb p 0 ?_); simp -implicitDefEqProofs) | (refine ard_call (db p 0 ?_); simp -implicitDefEqProofs) | (refine ar_call (cb t1 0 ?_); simp -implicitDefEqProofs) | (refine ard_call (db t1 0 ?_); simp -implicitDefEqProofs) | (refine ar_call (cb t2 0 ?_); simp -implicitDefEqProofs) | (refine ard_call (db t2 0 ?_); simp -implicitDefEqProofs) | (refine ar_call (cb a 0 ?_); simp -implicitDefEqProofs) | (refine ard_call (db a 0 ?_); simp -implicitDefEqProofs) | fail)
  refine aw_ret (fin_box ?_); simp -implicitDefEqProofs [FinB, resV, resT, z0] <;> try rfl
set_option maxRecDepth 100000 in
set_option maxHeartbeats 4000000 in
theorem line_err (l : Int) : Row Tryz.prog 186 [vR, vI l] [rd ts i e] (vT z0) [some (rd ts i e)] := by
  have p := place_row ts i e
  have g := goes_row ts i e
  have a := un_err ts i e h
  unfold z0 at a
  refine row_of Tryz.func186 rfl rfl (Nat.le_of_ble_eq_true rfl) ?_
  repeat' (first | refine aw_seq ?_ | refine aw_skip ?_ | refine aw_block ?_ | refine aw_exit ?_ | refine aw_cond rfl (fun _ => ?_) (fun hb => absurd hb (by decide)) | refine aw_cond rfl (fun hb => absurd hb (by decide)) (fun _ => ?_) | (refine aw_reg (fun K hK => ?_); simp -implicitDefEqProofs) | (refine aw_drw mixd (fun K hK => ?_); simp -implicitDefEqProofs) | refine hK _ ?_ | refine hK _ _ (by rfl) ?_ | (refine ar_call (cb p 0 ?_); simp -implicitDefEqProofs) | (refine ard_call (db p 0 ?_); simp -implicitDefEqProofs) | (refine ar_call (cb a 0 ?_); simp -implicitDefEqProofs) | (refine ard_call (db a 0 ?_); simp -implicitDefEqProofs) | fail)
  refine aw_lp (ι := Unit) (fun _ => mkSt [(0, vR), (4, .v (.c (.ptr 1 0))), (6, .v (.c (.ptr 2 0)))] [some (rd ts i e), some zT, some zU]) (fun _ => True) (fun _ => 0) () trivial (cov_intro [0, 1, 23] (by simp -implicitDefEqProofs) (by simp -implicitDefEqProofs) (by decide) rfl (by simp)) (fun Z hI _ _ => ?_)
  repeat' (first | refine aw_seq ?_ | refine aw_skip ?_ | refine aw_block ?_ | refine aw_exit ?_ | refine aw_cond rfl (fun _ => ?_) (fun hb => absurd hb (by decide)) | refine aw_cond rfl (fun hb => absurd hb (by decide)) (fun _ => ?_) | (refine aw_reg (fun K hK => ?_); simp -implicitDefEqProofs [h]) | (refine aw_drw mixd (fun K hK => ?_); simp -implicitDefEqProofs [h]) | refine hK _ ?_ | refine hK _ _ (by rfl) ?_ | (refine ar_call (cb g 0 ?_); simp -implicitDefEqProofs [h]) | (refine ard_call (db g 0 ?_); simp -implicitDefEqProofs [h]) | fail)
  refine aw_ret (fin_box ?_); simp -implicitDefEqProofs [FinB, resV, resT, z0] <;> try rfl
set_option maxRecDepth 100000 in
set_option maxHeartbeats 4000000 in
theorem expr_err : Row Tryz.prog 185 [vR] [rd ts i e] (vT z0) [some (rd ts i e)] := by
  have a := line_err ts i e h 1
  unfold z0 at a
  refine row_of Tryz.func185 rfl rfl (Nat.le_of_ble_eq_true rfl) ?_
  repeat' (first | refine aw_seq ?_ | refine aw_skip ?_ | refine aw_block ?_ | refine aw_exit ?_ | refine aw_cond rfl (fun _ => ?_) (fun hb => absurd hb (by decide)) | refine aw_cond rfl (fun hb => absurd hb (by decide)) (fun _ => ?_) | (refine aw_reg (fun K hK => ?_); simp -implicitDefEqProofs) | (refine aw_drw mixd (fun K hK => ?_); simp -implicitDefEqProofs) | refine hK _ ?_ | refine hK _ _ (by rfl) ?_ | (refine ar_call (cb a 0 ?_); simp -implicitDefEqProofs) | (refine ard_call (db a 0 ?_); simp -implicitDefEqProofs) | fail)
  refine aw_ret (fin_box ?_); simp -implicitDefEqProofs [FinB, resV, resT, z0] <;> try rfl
set_option maxRecDepth 100000 in
set_option maxHeartbeats 4000000 in
theorem list_err : Row Tryz.prog 199 [vR, vFn] [rd ts i e] (vLs [z0]) [some (rd ts i e)] := by
  have a := expr_err ts i e h
  have t1 := take_no ts i e sCom (by decide) (.inl h)
  unfold z0 at a
  refine row_of Tryz.func199 rfl rfl (Nat.le_of_ble_eq_true rfl) ?_
  repeat' (first | refine aw_seq ?_ | refine aw_skip ?_ | refine aw_block ?_ | refine aw_exit ?_ | refine aw_cond rfl (fun _ => ?_) (fun hb => absurd hb (by decide)) | refine aw_cond rfl (fun hb => absurd hb (by decide)) (fun _ => ?_) | (refine aw_reg (fun K hK => ?_); simp -implicitDefEqProofs) | (refine aw_drw mixd (fun K hK => ?_); simp -implicitDefEqProofs) | refine hK _ ?_ | refine hK _ _ (by rfl) ?_ | (refine ar_call (cb a 0 ?_); simp -implicitDefEqProofs) | (refine ard_call (db a 0 ?_); simp -implicitDefEqProofs) | fail)
  refine aw_lp (ι := Unit) (fun _ => mkSt [(0, vR), (5, .v (.c (.row 1 6 [tc z0])))] [some (rd ts i e), some (.row 25 6)]) (fun _ => True) (fun _ => 0) () trivial (cov_intro [0, 11] (by simp -implicitDefEqProofs [z0]) (by simp -implicitDefEqProofs [z0]) (by decide) rfl (by simp)) (fun Z hI _ _ => ?_)
  repeat' (first | refine aw_seq ?_ | refine aw_skip ?_ | refine aw_block ?_ | refine aw_exit ?_ | refine aw_cond rfl (fun _ => ?_) (fun hb => absurd hb (by decide)) | refine aw_cond rfl (fun hb => absurd hb (by decide)) (fun _ => ?_) | (refine aw_reg (fun K hK => ?_); simp -implicitDefEqProofs [h]) | (refine aw_drw mixd (fun K hK => ?_); simp -implicitDefEqProofs [h]) | refine hK _ ?_ | refine hK _ _ (by rfl) ?_ | (refine ar_call (cb t1 0 ?_); simp -implicitDefEqProofs [h]) | (refine ard_call (db t1 0 ?_); simp -implicitDefEqProofs [h]) | fail)
  refine aw_ret (fin_box ?_); simp -implicitDefEqProofs [FinB, resV, resT, z0] <;> try rfl
set_option maxRecDepth 100000 in
set_option maxHeartbeats 4000000 in
theorem called_err : Row Tryz.prog 198 [vR] [rd ts i e] (vLs [z0]) [some (rd ts i e)] := by
  have a := list_err ts i e h
  have her : er e = e := if_neg h
  have w1 := want_no ts i e sParO (by decide) (.inl h)
  have t1 := take_no ts i e sParS (by decide) (.inl h)
  have w2 := want_no ts i e sParS (by decide) (.inl h)
  rw [her] at w1 w2
  refine row_of Tryz.func198 rfl rfl (Nat.le_of_ble_eq_true rfl) ?_
  repeat' (first | refine aw_seq ?_ | refine aw_skip ?_ | refine aw_block ?_ | refine aw_exit ?_ | refine aw_cond rfl (fun _ => ?_) (fun hb => absurd hb (by decide)) | refine aw_cond rfl (fun hb => absurd hb (by decide)) (fun _ => ?_) | (refine aw_reg (fun K hK => ?_); simp -implicitDefEqProofs) | (refine aw_drw mixd (fun K hK => ?_); simp -implicitDefEqProofs) | refine hK _ ?_ | refine hK _ _ (by rfl) ?_ | (refine ar_call (cb w1 0 ?_); simp -implicitDefEqProofs) | (refine ard_call (db w1 0 ?_); simp -implicitDefEqProofs) | (refine ar_call (cb t1 0 ?_); simp -implicitDefEqProofs) | (refine ard_call (db t1 0 ?_); simp -implicitDefEqProofs) | (refine ar_call (cb a 0 ?_); simp -implicitDefEqProofs) | (refine ard_call (db a 0 ?_); simp -implicitDefEqProofs) | (refine ar_call (cb w2 0 ?_); simp -implicitDefEqProofs) | (refine ard_call (db w2 0 ?_); simp -implicitDefEqProofs) | fail)
  refine aw_ret (fin_box ?_); simp -implicitDefEqProofs [FinB, resV, resT] <;> try rfl
end
set_option maxRecDepth 100000 in
set_option maxHeartbeats 4000000 in
theorem oper_row (x : Tok) : Row Tryz.prog 188 [vK x] [] (.tup [.c (.pv (I (opK x).1)), .c (.pv (I ((opK x).2 : Nat)))]) [] := by
  obtain ⟨k, n, s, f, t⟩ := x
  by_cases hk : k = 4; rotate_left
  · rw [show opK ⟨k, n, s, f, t⟩ = (0, 6) from if_neg hk]
    refine row_of Tryz.func188 rfl rfl (Nat.le_of_ble_eq_true rfl) ?_
    repeat (first | refine aw_seq ?_ | refine aw_skip ?_ | refine aw_block ?_ | refine aw_exit ?_ | refine aw_cond rfl (fun _ => ?_) (fun hb => absurd hb (by decide)) | refine aw_cond rfl (fun hb => absurd hb (by decide)) (fun _ => ?_) | (refine aw_reg (fun K hK => ?_); simp -implicitDefEqProofs [hk]; refine hK _ ?_) | (refine aw_drw mixd (fun K hK => ?_); simp -implicitDefEqProofs [hk]; refine hK _ _ (by rfl) ?_) | fail)
    refine aw_ret (fin_ret ?_); simp -implicitDefEqProofs [FinP, resV, resT] <;> try rfl
  subst hk
  rw [show opK ⟨4, n, s, f, t⟩ = opS s from if_pos rfl]
  by_cases e0 : s = (⟨#[124, 124]⟩ : ByteArray)
  · subst e0
    rw [show opS (⟨#[124, 124]⟩ : ByteArray) = (1, 1) from rfl]
    refine row_of Tryz.func188 rfl rfl (Nat.le_of_ble_eq_true rfl) ?_
    repeat (first | refine aw_seq ?_ | refine aw_skip ?_ | refine aw_block ?_ | refine aw_exit ?_ | refine aw_cond rfl (fun _ => ?_) (fun hb => absurd hb (by decide)) | refine aw_cond rfl (fun hb => absurd hb (by decide)) (fun _ => ?_) | (refine aw_reg (fun K hK => ?_); simp -implicitDefEqProofs; refine hK _ ?_) | (refine aw_drw mixd (fun K hK => ?_); simp -implicitDefEqProofs; refine hK _ _ (by rfl) ?_) | fail)
    refine aw_ret (fin_ret ?_); simp -implicitDefEqProofs [FinP, resV, resT] <;> try rfl
  by_cases e1 : s = (⟨#[38, 38]⟩ : ByteArray)
  · subst e1
    rw [show opS (⟨#[38, 38]⟩ : ByteArray) = (2, 2) from rfl]
    refine row_of Tryz.func188 rfl rfl (Nat.le_of_ble_eq_true rfl) ?_
    repeat (first | refine aw_seq ?_ | refine aw_skip ?_ | refine aw_block ?_ | refine aw_exit ?_ | refine aw_cond rfl (fun _ => ?_) (fun hb => absurd hb (by decide)) | refine aw_cond rfl (fun hb => absurd hb (by decide)) (fun _ => ?_) | (refine aw_reg (fun K hK => ?_); simp -implicitDefEqProofs; refine hK _ ?_) | (refine aw_drw mixd (fun K hK => ?_); simp -implicitDefEqProofs; refine hK _ _ (by rfl) ?_) | fail)
    refine aw_ret (fin_ret ?_); simp -implicitDefEqProofs [FinP, resV, resT] <;> try rfl
  by_cases e2 : s = (⟨#[61, 61]⟩ : ByteArray)
  · subst e2
    rw [show opS (⟨#[61, 61]⟩ : ByteArray) = (3, 3) from rfl]
    refine row_of Tryz.func188 rfl rfl (Nat.le_of_ble_eq_true rfl) ?_
    repeat (first | refine aw_seq ?_ | refine aw_skip ?_ | refine aw_block ?_ | refine aw_exit ?_ | refine aw_cond rfl (fun _ => ?_) (fun hb => absurd hb (by decide)) | refine aw_cond rfl (fun hb => absurd hb (by decide)) (fun _ => ?_) | (refine aw_reg (fun K hK => ?_); simp -implicitDefEqProofs; refine hK _ ?_) | (refine aw_drw mixd (fun K hK => ?_); simp -implicitDefEqProofs; refine hK _ _ (by rfl) ?_) | fail)
    refine aw_ret (fin_ret ?_); simp -implicitDefEqProofs [FinP, resV, resT] <;> try rfl
  by_cases e3 : s = (⟨#[33, 61]⟩ : ByteArray)
  · subst e3
    rw [show opS (⟨#[33, 61]⟩ : ByteArray) = (4, 3) from rfl]
    refine row_of Tryz.func188 rfl rfl (Nat.le_of_ble_eq_true rfl) ?_
    repeat (first | refine aw_seq ?_ | refine aw_skip ?_ | refine aw_block ?_ | refine aw_exit ?_ | refine aw_cond rfl (fun _ => ?_) (fun hb => absurd hb (by decide)) | refine aw_cond rfl (fun hb => absurd hb (by decide)) (fun _ => ?_) | (refine aw_reg (fun K hK => ?_); simp -implicitDefEqProofs; refine hK _ ?_) | (refine aw_drw mixd (fun K hK => ?_); simp -implicitDefEqProofs; refine hK _ _ (by rfl) ?_) | fail)
    refine aw_ret (fin_ret ?_); simp -implicitDefEqProofs [FinP, resV, resT] <;> try rfl
  by_cases e4 : s = (⟨#[60]⟩ : ByteArray)
  · subst e4
    rw [show opS (⟨#[60]⟩ : ByteArray) = (5, 3) from rfl]
    refine row_of Tryz.func188 rfl rfl (Nat.le_of_ble_eq_true rfl) ?_
    repeat (first | refine aw_seq ?_ | refine aw_skip ?_ | refine aw_block ?_ | refine aw_exit ?_ | refine aw_cond rfl (fun _ => ?_) (fun hb => absurd hb (by decide)) | refine aw_cond rfl (fun hb => absurd hb (by decide)) (fun _ => ?_) | (refine aw_reg (fun K hK => ?_); simp -implicitDefEqProofs; refine hK _ ?_) | (refine aw_drw mixd (fun K hK => ?_); simp -implicitDefEqProofs; refine hK _ _ (by rfl) ?_) | fail)
    refine aw_ret (fin_ret ?_); simp -implicitDefEqProofs [FinP, resV, resT] <;> try rfl
  by_cases e5 : s = (⟨#[60, 61]⟩ : ByteArray)
  · subst e5
    rw [show opS (⟨#[60, 61]⟩ : ByteArray) = (6, 3) from rfl]
    refine row_of Tryz.func188 rfl rfl (Nat.le_of_ble_eq_true rfl) ?_
    repeat (first | refine aw_seq ?_ | refine aw_skip ?_ | refine aw_block ?_ | refine aw_exit ?_ | refine aw_cond rfl (fun _ => ?_) (fun hb => absurd hb (by decide)) | refine aw_cond rfl (fun hb => absurd hb (by decide)) (fun _ => ?_) | (refine aw_reg (fun K hK => ?_); simp -implicitDefEqProofs; refine hK _ ?_) | (refine aw_drw mixd (fun K hK => ?_); simp -implicitDefEqProofs; refine hK _ _ (by rfl) ?_) | fail)
    refine aw_ret (fin_ret ?_); simp -implicitDefEqProofs [FinP, resV, resT] <;> try rfl
  by_cases e6 : s = (⟨#[62]⟩ : ByteArray)
  · subst e6
    rw [show opS (⟨#[62]⟩ : ByteArray) = (7, 3) from rfl]
    refine row_of Tryz.func188 rfl rfl (Nat.le_of_ble_eq_true rfl) ?_
    repeat (first | refine aw_seq ?_ | refine aw_skip ?_ | refine aw_block ?_ | refine aw_exit ?_ | refine aw_cond rfl (fun _ => ?_) (fun hb => absurd hb (by decide)) | refine aw_cond rfl (fun hb => absurd hb (by decide)) (fun _ => ?_) | (refine aw_reg (fun K hK => ?_); simp -implicitDefEqProofs; refine hK _ ?_) | (refine aw_drw mixd (fun K hK => ?_); simp -implicitDefEqProofs; refine hK _ _ (by rfl) ?_) | fail)
    refine aw_ret (fin_ret ?_); simp -implicitDefEqProofs [FinP, resV, resT] <;> try rfl
  by_cases e7 : s = (⟨#[62, 61]⟩ : ByteArray)
  · subst e7
    rw [show opS (⟨#[62, 61]⟩ : ByteArray) = (8, 3) from rfl]
    refine row_of Tryz.func188 rfl rfl (Nat.le_of_ble_eq_true rfl) ?_
    repeat (first | refine aw_seq ?_ | refine aw_skip ?_ | refine aw_block ?_ | refine aw_exit ?_ | refine aw_cond rfl (fun _ => ?_) (fun hb => absurd hb (by decide)) | refine aw_cond rfl (fun hb => absurd hb (by decide)) (fun _ => ?_) | (refine aw_reg (fun K hK => ?_); simp -implicitDefEqProofs; refine hK _ ?_) | (refine aw_drw mixd (fun K hK => ?_); simp -implicitDefEqProofs; refine hK _ _ (by rfl) ?_) | fail)
    refine aw_ret (fin_ret ?_); simp -implicitDefEqProofs [FinP, resV, resT] <;> try rfl
  by_cases e8 : s = (⟨#[43]⟩ : ByteArray)
  · subst e8
    rw [show opS (⟨#[43]⟩ : ByteArray) = (9, 4) from rfl]
    refine row_of Tryz.func188 rfl rfl (Nat.le_of_ble_eq_true rfl) ?_
    repeat (first | refine aw_seq ?_ | refine aw_skip ?_ | refine aw_block ?_ | refine aw_exit ?_ | refine aw_cond rfl (fun _ => ?_) (fun hb => absurd hb (by decide)) | refine aw_cond rfl (fun hb => absurd hb (by decide)) (fun _ => ?_) | (refine aw_reg (fun K hK => ?_); simp -implicitDefEqProofs; refine hK _ ?_) | (refine aw_drw mixd (fun K hK => ?_); simp -implicitDefEqProofs; refine hK _ _ (by rfl) ?_) | fail)
    refine aw_ret (fin_ret ?_); simp -implicitDefEqProofs [FinP, resV, resT] <;> try rfl
  by_cases e9 : s = (⟨#[45]⟩ : ByteArray)
  · subst e9
    rw [show opS (⟨#[45]⟩ : ByteArray) = (10, 4) from rfl]
    refine row_of Tryz.func188 rfl rfl (Nat.le_of_ble_eq_true rfl) ?_
    repeat (first | refine aw_seq ?_ | refine aw_skip ?_ | refine aw_block ?_ | refine aw_exit ?_ | refine aw_cond rfl (fun _ => ?_) (fun hb => absurd hb (by decide)) | refine aw_cond rfl (fun hb => absurd hb (by decide)) (fun _ => ?_) | (refine aw_reg (fun K hK => ?_); simp -implicitDefEqProofs; refine hK _ ?_) | (refine aw_drw mixd (fun K hK => ?_); simp -implicitDefEqProofs; refine hK _ _ (by rfl) ?_) | fail)
    refine aw_ret (fin_ret ?_); simp -implicitDefEqProofs [FinP, resV, resT] <;> try rfl
  by_cases e10 : s = (⟨#[42]⟩ : ByteArray)
  · subst e10
    rw [show opS (⟨#[42]⟩ : ByteArray) = (11, 5) from rfl]
    refine row_of Tryz.func188 rfl rfl (Nat.le_of_ble_eq_true rfl) ?_
    repeat (first | refine aw_seq ?_ | refine aw_skip ?_ | refine aw_block ?_ | refine aw_exit ?_ | refine aw_cond rfl (fun _ => ?_) (fun hb => absurd hb (by decide)) | refine aw_cond rfl (fun hb => absurd hb (by decide)) (fun _ => ?_) | (refine aw_reg (fun K hK => ?_); simp -implicitDefEqProofs; refine hK _ ?_) | (refine aw_drw mixd (fun K hK => ?_); simp -implicitDefEqProofs; refine hK _ _ (by rfl) ?_) | fail)
    refine aw_ret (fin_ret ?_); simp -implicitDefEqProofs [FinP, resV, resT] <;> try rfl
  by_cases e11 : s = (⟨#[47]⟩ : ByteArray)
  · subst e11
    rw [show opS (⟨#[47]⟩ : ByteArray) = (12, 5) from rfl]
    refine row_of Tryz.func188 rfl rfl (Nat.le_of_ble_eq_true rfl) ?_
    repeat (first | refine aw_seq ?_ | refine aw_skip ?_ | refine aw_block ?_ | refine aw_exit ?_ | refine aw_cond rfl (fun _ => ?_) (fun hb => absurd hb (by decide)) | refine aw_cond rfl (fun hb => absurd hb (by decide)) (fun _ => ?_) | (refine aw_reg (fun K hK => ?_); simp -implicitDefEqProofs; refine hK _ ?_) | (refine aw_drw mixd (fun K hK => ?_); simp -implicitDefEqProofs; refine hK _ _ (by rfl) ?_) | fail)
    refine aw_ret (fin_ret ?_); simp -implicitDefEqProofs [FinP, resV, resT] <;> try rfl
  by_cases e12 : s = (⟨#[37]⟩ : ByteArray)
  · subst e12
    rw [show opS (⟨#[37]⟩ : ByteArray) = (13, 5) from rfl]
    refine row_of Tryz.func188 rfl rfl (Nat.le_of_ble_eq_true rfl) ?_
    repeat (first | refine aw_seq ?_ | refine aw_skip ?_ | refine aw_block ?_ | refine aw_exit ?_ | refine aw_cond rfl (fun _ => ?_) (fun hb => absurd hb (by decide)) | refine aw_cond rfl (fun hb => absurd hb (by decide)) (fun _ => ?_) | (refine aw_reg (fun K hK => ?_); simp -implicitDefEqProofs; refine hK _ ?_) | (refine aw_drw mixd (fun K hK => ?_); simp -implicitDefEqProofs; refine hK _ _ (by rfl) ?_) | fail)
    refine aw_ret (fin_ret ?_); simp -implicitDefEqProofs [FinP, resV, resT] <;> try rfl
  rw [show opS s = (0, 6) by unfold opS; simp [e0, e1, e2, e3, e4, e5, e6, e7, e8, e9, e10, e11, e12]]
  refine row_of Tryz.func188 rfl rfl (Nat.le_of_ble_eq_true rfl) ?_
  repeat (first | refine aw_seq ?_ | refine aw_skip ?_ | refine aw_block ?_ | refine aw_exit ?_ | refine aw_cond rfl (fun _ => ?_) (fun hb => absurd hb (by decide)) | refine aw_cond rfl (fun hb => absurd hb (by decide)) (fun _ => ?_) | (refine aw_reg (fun K hK => ?_); simp -implicitDefEqProofs [e0, e1, e2, e3, e4, e5, e6, e7, e8, e9, e10, e11, e12]; refine hK _ ?_) | (refine aw_drw mixd (fun K hK => ?_); simp -implicitDefEqProofs [e0, e1, e2, e3, e4, e5, e6, e7, e8, e9, e10, e11, e12]; refine hK _ _ (by rfl) ?_) | fail)
  refine aw_ret (fin_ret ?_); simp -implicitDefEqProofs [FinP, resV, resT] <;> try rfl
end Go.Proofs.YthcnligihpnfiaaGreatDoor.am
end
