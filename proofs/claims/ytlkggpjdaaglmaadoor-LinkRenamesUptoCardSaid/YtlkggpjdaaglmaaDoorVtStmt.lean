/-
  Statements out of tokens: plain; what a reader does at each step, whether it has failed or not. No program is named here.
-/
import Derived.Test.YtlkggpjdaaglmaaDoorVtExSz
namespace Go.Proofs.YtlkggpjdaaglmaaDoor.vt
open Go.Proofs.YtlkggpjdaaglmaaDoor.am
set_option linter.unusedVariables false

abbrev wLet : ByteArray := ⟨#[108, 101, 116]⟩
abbrev wIf : ByteArray := ⟨#[105, 102]⟩
abbrev wElse : ByteArray := ⟨#[101, 108, 115, 101]⟩
abbrev wWhil : ByteArray := ⟨#[119, 104, 105, 108, 101]⟩
abbrev wFor : ByteArray := ⟨#[102, 111, 114]⟩
abbrev wTo : ByteArray := ⟨#[116, 111]⟩
abbrev wPrin : ByteArray := ⟨#[112, 114, 105, 110, 116]⟩
abbrev wRet : ByteArray := ⟨#[114, 101, 116, 117, 114, 110]⟩
abbrev wDo : ByteArray := ⟨#[100, 111]⟩
abbrev sBra : ByteArray := ⟨#[123]⟩
abbrev sKet : ByteArray := ⟨#[125]⟩
abbrev sCol : ByteArray := ⟨#[58]⟩
abbrev sIs : ByteArray := ⟨#[61]⟩
abbrev sEnd : ByteArray := ⟨#[59]⟩
/-- What a form asks for: a word or sign, a name, a term (0: an expression, 1: a type, 2: a block), what may stand behind 'else'. -/
inductive It where
  | sgn (s : ByteArray)
  | nam
  | sub (w : Nat)
  | els
section
variable (ts : List Tok)
def frmG (i : Nat) : Int × List It :=
  if isK wLet (nxt ts i) = true then
    if (nxt ts (i + 1)).k = 1 ∧ isK sCol (nxt ts (i + 2)) = true then (21, [.sgn wLet, .nam, .sgn sCol, .sub 1, .sgn sEnd])
    else (20, [.sgn wLet, .nam, .sgn sIs, .sub 0, .sgn sEnd])
  else if isK wIf (nxt ts i) = true then (23, [.sgn wIf, .sub 0, .sub 2, .els])
  else if isK wWhil (nxt ts i) = true then (24, [.sgn wWhil, .sub 0, .sub 2])
  else if isK wFor (nxt ts i) = true then (25, [.sgn wFor, .nam, .sgn sIs, .sub 0, .sgn wTo, .sub 0, .sub 2])
  else if isK wPrin (nxt ts i) = true then (26, [.sgn wPrin, .sub 0, .sgn sEnd])
  else if isK wRet (nxt ts i) = true then (27, [.sgn wRet, .sub 0, .sgn sEnd])
  else if isK wDo (nxt ts i) = true then (28, [.sgn wDo, .sub 0, .sgn sEnd])
  else (22, [.sub 0, .sgn sIs, .sub 0, .sgn sEnd])
def emB (to : Nat) : VT := .mk ⟨29, 0, ⟨#[]⟩, toT ts (to - 1), toT ts (to - 1)⟩ []
def itH (R : Nat → Nat → Got) (a : Nat) (k n : Int) : List It → Nat → ByteArray → List VT → Got
  | [], to, s, ps => mk7 ts a to k n s ps
  | .sgn x :: l, to, s, ps => if isK x (nxt ts to) = true then itH R a k n l (to + 1) s ps else bad7 to
  | .nam :: l, to, s, ps => if (nxt ts to).k = 1 then itH R a k n l (to + 1) (nxt ts to).s ps else bad7 to
  | .sub w :: l, to, s, ps => if (R w to).2.2 = 0 then itH R a k n l (R w to).2.1 s (ps ++ [(R w to).1]) else R w to
  | .els :: l, to, s, ps => if isK wElse (nxt ts to) = true then if (R 2 (to + 1)).2.2 = 0 then itH R a k n l (R 2 (to + 1)).2.1 s (ps ++ [(R 2 (to + 1)).1]) else R 2 (to + 1) else itH R a k n l to s (ps ++ [emB ts to])
def lpB (S : Nat → Got) (a : Nat) : Nat → Nat → List VT → Got
  | 0, to, acc => bad7 to
  | m + 1, to, acc => if isK sKet (nxt ts to) = true then mk7 ts a (to + 1) 29 0 ⟨#[]⟩ acc else if (S to).2.2 = 0 then lpB S a m (S to).2.1 (acc ++ [(S to).1]) else S to
def blG (S : Nat → Got) (i : Nat) : Got := if isK sBra (nxt ts i) = true then lpB ts S i (ts.length + 1) (i + 1) [] else bad7 i
def RR (S : Nat → Got) (w i : Nat) : Got := if w = 0 then Qx ts 1 i else if w = 1 then tyG ts (ts.length + 1) i else blG ts S i
def sG : Nat → Nat → Got
  | 0, i => bad7 i
  | n + 1, i => if isK sBra (nxt ts i) = true then blG ts (sG n) i else itH ts (RR ts (sG n)) i (frmG ts i).1 0 (frmG ts i).2 i ⟨#[]⟩ []
end
section
variable {ts : List Tok}
/-- Tokens that are no term's: at least one is left over for the term itself. -/
def Cr : Nat → List It → Prop
  | c, [] => 1 ≤ c
  | c, .sgn _ :: l => Cr (c + 1) l
  | c, .nam :: l => Cr (c + 1) l
  | c, .sub w :: l => Cr (if w = 2 then c + 1 else c) l
  | c, .els :: l => 1 < c ∧ Cr (c - 1) l
theorem cr_mono : ∀ (l : List It) {c d : Nat}, c ≤ d → Cr c l → Cr d l
  | [], c, d, h, hc => Nat.le_trans hc h
  | .sgn _ :: l, c, d, h, hc => cr_mono l (Nat.succ_le_succ h) hc
  | .nam :: l, c, d, h, hc => cr_mono l (Nat.succ_le_succ h) hc
  | .sub w :: l, c, d, h, hc => by
    unfold Cr at hc ⊢
    refine cr_mono l ?_ hc
    split <;> omega
  | .els :: l, c, d, h, hc => ⟨Nat.lt_of_lt_of_le hc.1 h, cr_mono l (by omega) hc.2⟩
/-- What was read stands where it should, and has no more parts than tokens ('c' less). -/
structure OkS (ts : List Tok) (c i : Nat) (x : Got) : Prop where
  ok : OkG ts i x
  sz : x.2.2 = 0 → x.1.size + c + i ≤ x.2.1
theorem oks_bad {c i j : Nat} (h : i ≤ ts.length → i ≤ j ∧ j ≤ ts.length) : OkS ts c i (bad7 j) := ⟨ok_bad h, fun h => by simp [bad7] at h⟩
theorem oks_mono {c i j : Nat} {x : Got} (h : OkS ts c j x) (hij : i ≤ j) (hj : j ≤ ts.length) : OkS ts c i x :=
  ⟨⟨fun h0 => ⟨by have := h.ok.yes h0; omega, (h.ok.yes h0).2⟩, h.ok.no, fun _ => by have := h.ok.le hj; omega⟩, fun h0 => by have := h.sz h0; omega⟩
theorem oks_zero {c i : Nat} {x : Got} (h : OkS ts c i x) : OkS ts 0 i x := ⟨h.ok, fun h0 => by have := h.sz h0; omega⟩
theorem oks_err {c i : Nat} {x : Got} (h : OkS ts 0 i x) (h0 : x.2.2 ≠ 0) : OkS ts c i x := ⟨h.ok, fun h1 => absurd h1 h0⟩
theorem itG_ok {R : Nat → Nat → Got} (hR : ∀ w j, j ≤ ts.length → OkS ts (if w = 2 then 1 else 0) j (R w j)) (a : Nat) (k : Int) {n : Int} : ∀ (l : List It) (to : Nat) (s : ByteArray) (ps : List VT) (c : Nat), c + sm ps + a ≤ to → to ≤ ts.length → Cr c l → OkS ts 0 a (itH ts R a k n l to s ps)
  | [], to, s, ps, c, h1, h2, h3 => by
    unfold Cr at h3
    exact ⟨ok_mk (by omega) h2, fun h0 => by have := sz_mk (ts := ts) (i := a) (b := to) (k := k) (n := n) (s := s) (l := ps) (by omega) h0; exact this⟩
  | .sgn x :: l, to, s, ps, c, h1, h2, h3 => by
    unfold itH
    split
    · rename_i h; have := isK_lt h; exact itG_ok hR a k l (to + 1) s ps (c + 1) (by omega) (by omega) h3
    · exact oks_bad (fun _ => by omega)
  | .nam :: l, to, s, ps, c, h1, h2, h3 => by
    unfold itH
    split
    · rename_i h; have := k_lt h (by decide); exact itG_ok hR a k l (to + 1) _ ps (c + 1) (by omega) (by omega) h3
    · exact oks_bad (fun _ => by omega)
  | .sub w :: l, to, s, ps, c, h1, h2, h3 => by
    unfold itH
    have hr := hR w to h2
    split
    · rename_i h
      have hy := hr.ok.yes h
      have hs := hr.sz h
      refine itG_ok hR a k l _ s _ _ ?_ hy.2 h3
      rw [sm_app]
      split at hs <;> split <;> omega
    · rename_i h; exact oks_err (oks_mono (oks_zero hr) (by omega) h2) h
  | .els :: l, to, s, ps, c, h1, h2, h3 => by
    unfold itH
    split
    · rename_i h
      have hlt := isK_lt h
      have hr := hR 2 (to + 1) (by omega)
      split
      · rename_i h
        have hy := hr.ok.yes h
        have hs := hr.sz h
        refine itG_ok hR a k l _ s _ _ ?_ hy.2 h3.2
        rw [sm_app]
        rw [if_pos rfl] at hs
        omega
      · rename_i h; exact oks_err (oks_mono (oks_zero hr) (by omega) (by omega)) h
    · refine itG_ok hR a k l to s _ _ ?_ h2 h3.2
      rw [sm_app]
      have h4 := h3.1
      show c - 1 + (sm ps + Tr.size (Tr.mk _ [])) + a ≤ to
      rw [Tr.size_mk]
      simp
      omega
theorem lpB_ok {S : Nat → Got} (hS : ∀ j, j ≤ ts.length → OkS ts 0 j (S j)) (a : Nat) : ∀ (m to : Nat) (acc : List VT), a + 1 + sm acc ≤ to → to ≤ ts.length → OkS ts 1 a (lpB ts S a m to acc)
  | 0, to, acc, h1, h2 => oks_bad (fun _ => by omega)
  | m + 1, to, acc, h1, h2 => by
    unfold lpB
    split
    · rename_i h
      have hlt := isK_lt h
      refine ⟨ok_mk (by omega) (by omega), fun h0 => ?_⟩
      show Tr.size (Tr.mk _ acc) + 1 + a ≤ to + 1
      rw [Tr.size_mk]
      unfold sm at h1
      omega
    · have hr := hS to h2
      split
      · rename_i h
        have hy := hr.ok.yes h
        have hs := hr.sz h
        exact lpB_ok hS a m _ _ (by rw [sm_app]; omega) hy.2
      · rename_i h; exact oks_err (oks_mono hr (by omega) h2) h
theorem blG_ok {S : Nat → Got} (hS : ∀ j, j ≤ ts.length → OkS ts 0 j (S j)) (i : Nat) (hi : i ≤ ts.length) : OkS ts 1 i (blG ts S i) := by
  unfold blG
  split
  · rename_i h; have := isK_lt h; exact lpB_ok hS i _ _ _ (by simp [sm]) (by omega)
  · exact oks_bad (fun _ => by omega)
theorem tyG_sz : ∀ n i, (tyG ts n i).2.2 = 0 → (tyG ts n i).1.size + i ≤ (tyG ts n i).2.1
  | 0, i => by simp [tyG]
  | n + 1, i => by
    have ih := tyG_sz n (i + 3)
    unfold tyG
    split
    · simp [Tr.size_mk]; omega
    split
    · simp [Tr.size_mk]; omega
    split
    · split
      · split
        · split
          · rename_i h
            have := ih h
            simp [Tr.size_mk]; omega
          · exact fun h => by rename_i h1; exact absurd h h1
        · simp
      · simp
    · split
      · simp [Tr.size_mk]; omega
      · simp
theorem tyG_oks (i : Nat) (hi : i ≤ ts.length) : OkS ts 0 i (tyG ts (ts.length + 1) i) := by
  obtain ⟨h1, h2, h3, h4⟩ := tyG_ok ts (ts.length + 1) i
  have hle : ∀ n i, i ≤ ts.length → i ≤ (tyG ts n i).2.1 := by
    intro n
    induction n with
    | zero => intro i _; exact Nat.le_refl _
    | succ n ih =>
      intro i hi
      unfold tyG
      split
      · simp
      split
      · simp
      split
      · rename_i h
        have h := isK_lt h
        split
        · rename_i h1
          have h1 := k_lt h1 (by decide)
          split
          · rename_i h2
            have h2 := isK_lt h2
            have := ih (i + 3) (by omega)
            split
            · dsimp only; omega
            · omega
          · simp
        · simp
      · split <;> simp
  exact ⟨⟨h1, h2, fun _ => ⟨hle _ i hi, h3 hi⟩⟩, fun h => by have := tyG_sz _ _ h; omega⟩
theorem RR_ok {S : Nat → Got} (hS : ∀ j, j ≤ ts.length → OkS ts 0 j (S j)) (w j : Nat) (hj : j ≤ ts.length) : OkS ts (if w = 2 then 1 else 0) j (RR ts S w j) := by
  unfold RR
  by_cases h0 : w = 0
  · rw [if_pos h0, if_neg (by omega)]
    exact ⟨Q_ok 1 j hj, fun h => by have := pG_sz (ts := ts) _ 1 j hj h; exact this⟩
  · rw [if_neg h0]
    by_cases h1 : w = 1
    · rw [if_pos h1, if_neg (by omega)]; exact tyG_oks j hj
    · rw [if_neg h1]
      have := blG_ok hS j hj
      split
      · exact this
      · exact oks_zero this
theorem frm_cr (i : Nat) : Cr 0 (frmG ts i).2 := by
  unfold frmG
  repeat' split
  all_goals simp [Cr]
theorem sG_ok : ∀ (n i : Nat), i ≤ ts.length → OkS ts 0 i (sG ts n i)
  | 0, i, hi => oks_bad (fun _ => ⟨Nat.le_refl _, hi⟩)
  | n + 1, i, hi => by
    unfold sG
    split
    · exact oks_zero (blG_ok (sG_ok n) i hi)
    · exact itG_ok (RR_ok (sG_ok n)) i _ _ i _ [] 0 (by simp [sm]) hi (frm_cr i)
/-- A statement has two tokens and more. -/
def ct : List It → Nat
  | [] => 0
  | .els :: l => ct l
  | .sgn _ :: l => ct l + 1
  | .nam :: l => ct l + 1
  | .sub _ :: l => ct l + 1
theorem itG_ct {R : Nat → Nat → Got} (hR : ∀ w j, j ≤ ts.length → OkS ts (if w = 2 then 1 else 0) j (R w j)) (a : Nat) (k : Int) {n : Int} : ∀ (l : List It) (to : Nat) (s : ByteArray) (ps : List VT), to ≤ ts.length → (itH ts R a k n l to s ps).2.2 = 0 → to + ct l ≤ (itH ts R a k n l to s ps).2.1
  | [], to, s, ps, h1, h => Nat.le_refl _
  | .sgn x :: l, to, s, ps, h1, h => by
    rw [itH] at h ⊢
    unfold ct
    by_cases h2 : isK x (nxt ts to) = true
    · rw [if_pos h2] at h ⊢
      have := isK_lt h2
      have := itG_ct hR a k l (to + 1) s ps (by omega) h
      omega
    · rw [if_neg h2] at h; simp [bad7] at h
  | .nam :: l, to, s, ps, h1, h => by
    rw [itH] at h ⊢
    unfold ct
    by_cases h2 : (nxt ts to).k = 1
    · rw [if_pos h2] at h ⊢
      have := k_lt h2 (by decide)
      have := itG_ct hR a k l (to + 1) _ ps (by omega) h
      omega
    · rw [if_neg h2] at h; simp [bad7] at h
  | .sub w :: l, to, s, ps, h1, h => by
    rw [itH] at h ⊢
    unfold ct
    by_cases h2 : (R w to).2.2 = 0
    · rw [if_pos h2] at h ⊢
      have := (hR w to h1).ok.yes h2
      have := itG_ct hR a k l _ s _ this.2 h
      omega
    · rw [if_neg h2] at h; exact absurd h h2
  | .els :: l, to, s, ps, h1, h => by
    rw [itH] at h ⊢
    unfold ct
    by_cases h2 : isK wElse (nxt ts to) = true
    · rw [if_pos h2] at h ⊢
      have h3 := isK_lt h2
      by_cases h4 : (R 2 (to + 1)).2.2 = 0
      · rw [if_pos h4] at h ⊢
        have := (hR 2 (to + 1) h3).ok.yes h4
        have := itG_ct hR a k l _ s _ this.2 h
        omega
      · rw [if_neg h4] at h; exact absurd h h4
    · rw [if_neg h2] at h ⊢
      exact itG_ct hR a k l to s _ h1 h
theorem frm_ct (i : Nat) : 2 ≤ ct (frmG ts i).2 := by
  unfold frmG
  repeat' split
  all_goals simp [ct]
theorem lpB_two {S : Nat → Got} (hS : ∀ j, j ≤ ts.length → OkS ts 0 j (S j)) (a : Nat) : ∀ (m to : Nat) (acc : List VT), to ≤ ts.length → (lpB ts S a m to acc).2.2 = 0 → to + 1 ≤ (lpB ts S a m to acc).2.1
  | 0, to, acc, h1, h => by simp [lpB, bad7] at h
  | m + 1, to, acc, h1, h => by
    rw [lpB] at h ⊢
    by_cases h2 : isK sKet (nxt ts to) = true
    · rw [if_pos h2]; exact Nat.le_refl _
    · rw [if_neg h2] at h ⊢
      by_cases h3 : (S to).2.2 = 0
      · rw [if_pos h3] at h ⊢
        have := (hS to h1).ok.yes h3
        have := lpB_two hS a m _ _ this.2 h
        omega
      · rw [if_neg h3] at h; exact absurd h h3
theorem sG_two : ∀ (n i : Nat), i ≤ ts.length → (sG ts n i).2.2 = 0 → i + 2 ≤ (sG ts n i).2.1
  | 0, i, hi, h => by simp [sG, bad7] at h
  | n + 1, i, hi, h => by
    rw [sG] at h ⊢
    by_cases h1 : isK sBra (nxt ts i) = true
    · rw [if_pos h1] at h ⊢
      have h2 := isK_lt h1
      rw [blG, if_pos h1] at h ⊢
      exact lpB_two (sG_ok n) i _ _ _ h2 h
    · rw [if_neg h1] at h ⊢
      have := itG_ct (RR_ok (sG_ok n)) i _ _ i _ [] hi h
      have := frm_ct (ts := ts) i
      omega
theorem oks_size {i : Nat} {x : Got} (h : OkS ts 0 i x) : x.1.size ≤ ts.length + 1 := by
  by_cases h0 : x.2.2 = 0
  · have := h.sz h0
    have := (h.ok.yes h0).2
    omega
  · rw [(h.ok.no h0).2]
    show Tr.size (Tr.mk _ []) ≤ _
    rw [Tr.size_mk]; simp

/-! What a reader does at each step -/
/-- What must come. -/
def WT (ts : List Tok) (s : ByteArray) (p : Nat × Int) : Nat × Int := if p.2 = 0 then if isK s (nxt ts p.1) = true then (p.1 + 1, 0) else (p.1, 6) else p
/-- What may come. -/
def TT (ts : List Tok) (s : ByteArray) (p : Nat × Int) : Bool := decide (p.2 = 0) && isK s (nxt ts p.1)
/-- A token of a kind. -/
def KT (ts : List Tok) (k : Int) (p : Nat × Int) : Tok × Nat × Int := if p.2 = 0 then if (nxt ts p.1).k = k then (nxt ts p.1, p.1 + 1, 0) else (zK, p.1, 6) else (zK, p.1, p.2)
/-- What a function of the reader reads, if it goes. -/
def OT (G : Nat → Got) (p : Nat × Int) : Got := if p.2 = 0 then G p.1 else (z0, p.1, p.2)
/-- A new term, if the reader goes. -/
def NT (ts : List Tok) (a : Nat) (k n : Int) (s : ByteArray) (l : List VT) (p : Nat × Int) : Got := if p.2 = 0 then mk7 ts a p.1 k n s l else (z0, p.1, p.2)
/-- A form from here on. -/
def FT (ts : List Tok) (R : Nat → Nat → Got) (a : Nat) (k n : Int) (l : List It) (p : Nat × Int) (s : ByteArray) (ps : List VT) : Got := if p.2 = 0 then itH ts R a k n l p.1 s ps else (z0, p.1, p.2)
theorem itG_sgn {R : Nat → Nat → Got} {a : Nat} {k n : Int} {x : ByteArray} {l : List It} {to : Nat} {s : ByteArray} {ps : List VT} : itH ts R a k n (.sgn x :: l) to s ps = if isK x (nxt ts to) = true then itH ts R a k n l (to + 1) s ps else bad7 to := by rw [itH]
theorem itG_nam {R : Nat → Nat → Got} {a : Nat} {k n : Int} {l : List It} {to : Nat} {s : ByteArray} {ps : List VT} : itH ts R a k n (.nam :: l) to s ps = if (nxt ts to).k = 1 then itH ts R a k n l (to + 1) (nxt ts to).s ps else bad7 to := by rw [itH]
theorem itG_sub {R : Nat → Nat → Got} {a : Nat} {k n : Int} {w : Nat} {l : List It} {to : Nat} {s : ByteArray} {ps : List VT} : itH ts R a k n (.sub w :: l) to s ps = if (R w to).2.2 = 0 then itH ts R a k n l (R w to).2.1 s (ps ++ [(R w to).1]) else R w to := by rw [itH]
theorem itG_els {R : Nat → Nat → Got} {a : Nat} {k n : Int} {l : List It} {to : Nat} {s : ByteArray} {ps : List VT} : itH ts R a k n (.els :: l) to s ps = if isK wElse (nxt ts to) = true then if (R 2 (to + 1)).2.2 = 0 then itH ts R a k n l (R 2 (to + 1)).2.1 s (ps ++ [(R 2 (to + 1)).1]) else R 2 (to + 1) else itH ts R a k n l to s (ps ++ [emB ts to]) := by rw [itH]
theorem ft_start {R : Nat → Nat → Got} {a : Nat} {k n : Int} {l : List It} {i : Nat} {s : ByteArray} {ps : List VT} : itH ts R a k n l i s ps = FT ts R a k n l (i, 0) s ps := (if_pos rfl).symm
theorem ft_sgn {R : Nat → Nat → Got} {a : Nat} {k n : Int} {x : ByteArray} {l : List It} {p : Nat × Int} {s : ByteArray} {ps : List VT} : FT ts R a k n (.sgn x :: l) p s ps = FT ts R a k n l (WT ts x p) s ps := by
  obtain ⟨i, e⟩ := p
  unfold FT WT
  rw [itG_sgn]
  unfold bad7
  by_cases he : e = 0
  · subst he
    by_cases h : isK x (nxt ts i) = true <;> simp [h]
  · simp [he]
theorem ft_nam {R : Nat → Nat → Got} {a : Nat} {k n : Int} {l : List It} {p : Nat × Int} {s : ByteArray} {ps : List VT} : FT ts R a k n (.nam :: l) p s ps = FT ts R a k n l (KT ts 1 p).2 (KT ts 1 p).1.s ps := by
  obtain ⟨i, e⟩ := p
  unfold FT KT
  rw [itG_nam]
  unfold bad7
  by_cases he : e = 0
  · subst he
    by_cases h : (nxt ts i).k = 1 <;> simp [h]
  · simp [he]
theorem ft_sub {R : Nat → Nat → Got} {a : Nat} {k n : Int} {w : Nat} {l : List It} {p : Nat × Int} {s : ByteArray} {ps : List VT} (hz : ∀ j, j ≤ ts.length → (R w j).2.2 ≠ 0 → (R w j).1 = z0) (hp : p.2 = 0 → p.1 ≤ ts.length) : FT ts R a k n (.sub w :: l) p s ps = FT ts R a k n l (OT (R w) p).2 s (ps ++ [(OT (R w) p).1]) := by
  obtain ⟨i, e⟩ := p
  unfold FT OT
  rw [itG_sub]
  by_cases he : e = 0
  · subst he
    have := hz i (hp rfl)
    dsimp only
    obtain ⟨⟨r1, r2, r3⟩, hr⟩ : ∃ r, R w i = r := ⟨_, rfl⟩
    rw [hr] at this ⊢
    by_cases h : r3 = 0
    · simp [h]
    · have := this h
      dsimp only at this
      simp [h, this]
  · simp [he]
theorem ft_end {R : Nat → Nat → Got} {a : Nat} {k n : Int} {p : Nat × Int} {s : ByteArray} {ps : List VT} : FT ts R a k n [] p s ps = NT ts a k n s ps p := rfl
theorem ft_els_no {R : Nat → Nat → Got} {a : Nat} {k n : Int} {l : List It} {p : Nat × Int} {s : ByteArray} {ps : List VT} (h : TT ts wElse p = false) : FT ts R a k n (.els :: l) p s ps = FT ts R a k n l p s (ps ++ [emB ts p.1]) := by
  obtain ⟨i, e⟩ := p
  unfold FT
  rw [itG_els]
  unfold TT at h
  by_cases he : e = 0
  · subst he
    simp at h
    simp [h]
  · simp [he]
theorem ft_els_yes {R : Nat → Nat → Got} {a : Nat} {k n : Int} {l : List It} {p : Nat × Int} {s : ByteArray} {ps : List VT} (hz : ∀ j, j ≤ ts.length → (R 2 j).2.2 ≠ 0 → (R 2 j).1 = z0) (h : TT ts wElse p = true) : FT ts R a k n (.els :: l) p s ps = FT ts R a k n l (R 2 (p.1 + 1)).2 s (ps ++ [(R 2 (p.1 + 1)).1]) := by
  obtain ⟨i, e⟩ := p
  unfold TT at h
  simp at h
  obtain ⟨h0, h1⟩ := h
  try dsimp only at h0 h1
  subst h0
  have := hz (i + 1) (isK_lt h1)
  unfold FT
  rw [itG_els]
  dsimp only
  obtain ⟨⟨r1, r2, r3⟩, hr⟩ : ∃ r, R 2 (i + 1) = r := ⟨_, rfl⟩
  rw [hr] at this ⊢
  by_cases h : r3 = 0
  · simp [h, h1]
  · have := this h
    dsimp only at this
    simp [h, h1, this]
/-- Where the end of a block that was read is told. -/
theorem lpB_to {S : Nat → Got} (hS : ∀ j, (S j).2.2 = 0 → True) (a : Nat) : ∀ (m to : Nat) (acc : List VT), (∀ j, (S j).2.2 ≠ 0 → (S j).2.2 ≠ 0) → (lpB ts S a m to acc).2.2 = 0 → (lpB ts S a m to acc).1.lab.t = toT ts ((lpB ts S a m to acc).2.1 - 1)
  | 0, to, acc, _, h => by simp [lpB, bad7] at h
  | m + 1, to, acc, hn, h => by
    unfold lpB at h ⊢
    split
    · rfl
    · rename_i h1
      rw [if_neg h1] at h
      split
      · rename_i h2
        rw [if_pos h2] at h
        exact lpB_to hS a m _ _ hn h
      · rename_i h2
        rw [if_neg h2] at h
        exact absurd h h2
theorem blG_to {S : Nat → Got} (i : Nat) (h : (blG ts S i).2.2 = 0) : (blG ts S i).1.lab.t = toT ts ((blG ts S i).2.1 - 1) := by
  unfold blG at h ⊢
  split
  · rename_i h1
    rw [if_pos h1] at h
    exact lpB_to (fun _ _ => trivial) i _ _ _ (fun _ h => h) h
  · rename_i h1
    rw [if_neg h1] at h
    simp [bad7] at h
/-! Where a reader stands -/
theorem wt_c {a : Nat} {s : ByteArray} {p : Nat × Int} (c : p.2 = 0 → a ≤ p.1 ∧ p.1 ≤ ts.length) : (WT ts s p).2 = 0 → a ≤ (WT ts s p).1 ∧ (WT ts s p).1 ≤ ts.length := by
  obtain ⟨i, e⟩ := p
  unfold WT
  dsimp only at c ⊢
  by_cases he : e = 0
  · subst he
    rw [if_pos rfl]
    by_cases h : isK s (nxt ts i) = true
    · rw [if_pos h]; have := isK_lt h; have := c rfl; intro _; dsimp only; omega
    · rw [if_neg h]; intro h; exact absurd (show (6 : Int) = 0 from h) (by decide)
  · rw [if_neg he]; exact fun h => absurd h he
theorem wt_lt {s : ByteArray} {i : Nat} : (WT ts s (i, 0)).2 = 0 → i < (WT ts s (i, 0)).1 := by
  unfold WT
  dsimp only
  rw [if_pos rfl]
  by_cases h : isK s (nxt ts i) = true
  · rw [if_pos h]; intro _; exact Nat.lt_succ_self _
  · rw [if_neg h]; intro h; exact absurd (show (6 : Int) = 0 from h) (by decide)
theorem kt_c {a : Nat} {k : Int} {p : Nat × Int} (hk : k ≠ 5) (c : p.2 = 0 → a ≤ p.1 ∧ p.1 ≤ ts.length) : (KT ts k p).2.2 = 0 → a ≤ (KT ts k p).2.1 ∧ (KT ts k p).2.1 ≤ ts.length := by
  obtain ⟨i, e⟩ := p
  unfold KT
  dsimp only at c ⊢
  by_cases he : e = 0
  · subst he
    rw [if_pos rfl]
    by_cases h : (nxt ts i).k = k
    · rw [if_pos h]; have := k_lt h hk; have := c rfl; intro _; dsimp only; omega
    · rw [if_neg h]; intro h; exact absurd (show (6 : Int) = 0 from h) (by decide)
  · rw [if_neg he]; exact fun h => absurd h he
theorem ot_c {a : Nat} {G : Nat → Got} {p : Nat × Int} (hG : ∀ j, j ≤ ts.length → OkG ts j (G j)) (c : p.2 = 0 → a ≤ p.1 ∧ p.1 ≤ ts.length) : (OT G p).2.2 = 0 → a ≤ (OT G p).2.1 ∧ (OT G p).2.1 ≤ ts.length := by
  obtain ⟨i, e⟩ := p
  unfold OT
  dsimp only at c ⊢
  by_cases he : e = 0
  · subst he
    rw [if_pos rfl]
    have c := c rfl
    intro h
    have := (hG i c.2).yes h
    omega
  · rw [if_neg he]; exact fun h => absurd h he
theorem nt_at {a : Nat} {k n : Int} {s : ByteArray} {l : List VT} {p : Nat × Int} (h : OkG ts a (NT ts a k n s l p)) : p.2 = 0 → a < p.1 ∧ p.1 ≤ ts.length := by
  obtain ⟨i, e⟩ := p
  intro he
  dsimp only at he
  subst he
  exact h.yes rfl
theorem nt_err {a : Nat} {k n : Int} {s : ByteArray} {l m : List VT} {p : Nat × Int} (h : p.2 = 0 → l = m) : NT ts a k n s l p = NT ts a k n s m p := by
  unfold NT
  by_cases he : p.2 = 0
  · rw [h he]
  · rw [if_neg he, if_neg he]
theorem rr_no {S : Nat → Got} (hS : ∀ j, j ≤ ts.length → OkS ts 0 j (S j)) (w : Nat) : ∀ j, j ≤ ts.length → (RR ts S w j).2.2 ≠ 0 → (RR ts S w j).1 = z0 := fun j hj h => ((RR_ok hS w j hj).ok.no h).2
theorem wt_of_tt {s : ByteArray} {p : Nat × Int} (h : TT ts s p = true) : WT ts s p = (p.1 + 1, 0) := by
  obtain ⟨i, e⟩ := p
  unfold TT at h
  simp at h
  obtain ⟨h0, h1⟩ := h
  try dsimp only at h0 h1
  subst h0
  unfold WT
  dsimp only
  rw [if_pos rfl, if_pos h1]
theorem bl_to {S : Nat → Got} {p : Nat × Int} : (OT (blG ts S) p).2.2 = 0 → (OT (blG ts S) p).1.lab.t = toT ts ((OT (blG ts S) p).2.1 - 1) := by
  obtain ⟨i, e⟩ := p
  unfold OT
  dsimp only
  by_cases he : e = 0
  · rw [if_pos he]; exact blG_to i
  · rw [if_neg he]; exact fun h => absurd h he
end
end Go.Proofs.YtlkggpjdaaglmaaDoor.vt
