import Derived.Test.YtlkggpjdaaglmaaGreatDoorPkB4
section
namespace Go.Proofs.YtlkggpjdaaglmaaGreatDoor.vt
open Go.Proofs.YtlkggpjdaaglmaaGreatDoor.am
set_option linter.unusedVariables false
abbrev wLet : ByteArray := ⟨#[108, 101, 116]⟩
abbrev wIf : ByteArray := ⟨#[105, 102]⟩
abbrev wElse : ByteArray := ⟨#[101, 108, 115, 101]⟩
abbrev wWhil : ByteArray := ⟨#[119, 104, 105, 108, 101]⟩
abbrev wFor : ByteArray := ⟨#[102, 111, 114]⟩
abbrev wTo : ByteArray := ⟨#[116, 111]⟩
abbrev wPrin : ByteArray := ⟨#[112, 114, 105, 110, 116]⟩
abbrev wRet : ByteArray := ⟨#[114, 101, 116, 117, 114, 110]⟩
abbrev wDo : ByteArray := ⟨#[100, 111]⟩
abbrev sBra : ByteArray := ⟨#[123]⟩
abbrev sKet : ByteArray := ⟨#[125]⟩
abbrev sCol : ByteArray := ⟨#[58]⟩
abbrev sIs : ByteArray := ⟨#[61]⟩
abbrev sEnd : ByteArray := ⟨#[59]⟩
inductive It where
  | sgn (s : ByteArray)
  | nam
  | sub (w : Nat)
  | els
section
variable (ts : List Tok)
def frmG (i : Nat) : Int × List It :=
  if isK wLet (nxt ts i) = true then
    if (nxt ts (i + 1)).k = 1 ∧ isK sCol (nxt ts (i + 2)) = true then (21, [.sgn wLet, .nam, .sgn sCol, .sub 1, .sgn sEnd])
    else (20, [.sgn wLet, .nam, .sgn sIs, .sub 0, .sgn sEnd])
  else if isK wIf (nxt ts i) = true then (23, [.sgn wIf, .sub 0, .sub 2, .els])
  else if isK wWhil (nxt ts i) = true then (24, [.sgn wWhil, .sub 0, .sub 2])
  else if isK wFor (nxt ts i) = true then (25, [.sgn wFor, .nam, .sgn sIs, .sub 0, .sgn wTo, .sub 0, .sub 2])
  else if isK wPrin (nxt ts i) = true then (26, [.sgn wPrin, .sub 0, .sgn sEnd])
  else if isK wRet (nxt ts i) = true then (27, [.sgn wRet, .sub 0, .sgn sEnd])
  else if isK wDo (nxt ts i) = true then (28, [.sgn wDo, .sub 0, .sgn sEnd])
  else (22, [.sub 0, .sgn sIs, .sub 0, .sgn sEnd])
def emB (zto : Nat) : VT := .mk ⟨29, 0, ⟨#[]⟩, toT ts (zto - 1), toT ts (zto - 1)⟩ []
def itH (R : Nat → Nat → Got) (a : Nat) (k n : Int) : List It → Nat → ByteArray → List VT → Got
  | [], zto, s, ps => mk7 ts a zto k n s ps
  | .sgn x :: l, zto, s, ps => if isK x (nxt ts zto) = true then itH R a k n l (zto + 1) s ps else bad7 zto
  | .nam :: l, zto, s, ps => if (nxt ts zto).k = 1 then itH R a k n l (zto + 1) (nxt ts zto).s ps else bad7 zto
  | .sub w :: l, zto, s, ps => if (R w zto).2.2 = 0 then itH R a k n l (R w zto).2.1 s (ps ++ [(R w zto).1]) else R w zto
  | .els :: l, zto, s, ps => if isK wElse (nxt ts zto) = true then if (R 2 (zto + 1)).2.2 = 0 then itH R a k n l (R 2 (zto + 1)).2.1 s (ps ++ [(R 2 (zto + 1)).1]) else R 2 (zto + 1) else itH R a k n l zto s (ps ++ [emB ts zto])
def lpB (S : Nat → Got) (a : Nat) : Nat → Nat → List VT → Got
  | 0, zto, acc => bad7 zto
  | m + 1, zto, acc => if isK sKet (nxt ts zto) = true then mk7 ts a (zto + 1) 29 0 ⟨#[]⟩ acc else if (S zto).2.2 = 0 then lpB S a m (S zto).2.1 (acc ++ [(S zto).1]) else S zto
def blG (S : Nat → Got) (i : Nat) : Got := if isK sBra (nxt ts i) = true then lpB ts S i (ts.length + 1) (i + 1) [] else bad7 i
def RR (S : Nat → Got) (w i : Nat) : Got := if w = 0 then Qx ts 1 i else if w = 1 then tyG ts (ts.length + 1) i else blG ts S i
def sG : Nat → Nat → Got
  | 0, i => bad7 i
  | n + 1, i => if isK sBra (nxt ts i) = true then blG ts (sG n) i else itH ts (RR ts (sG n)) i (frmG ts i).1 0 (frmG ts i).2 i ⟨#[]⟩ []
end
section
variable {ts : List Tok}
def Cr : Nat → List It → Prop
  | c, [] => 1 ≤ c
  | c, .sgn _ :: l => Cr (c + 1) l
  | c, .nam :: l => Cr (c + 1) l
  | c, .sub w :: l => Cr (if w = 2 then c + 1 else c) l
  | c, .els :: l => 1 < c ∧ Cr (c - 1) l
structure OkS (ts : List Tok) (c i : Nat) (x : Got) : Prop where
  ok : OkG ts i x
  sz : x.2.2 = 0 → x.1.size + c + i ≤ x.2.1
theorem oks_bad {c i j : Nat} (h : i ≤ ts.length → i ≤ j ∧ j ≤ ts.length) : OkS ts c i (bad7 j) := ⟨ok_bad h, fun h => by simp [bad7] at h⟩
theorem oks_mono {c i j : Nat} {x : Got} (h : OkS ts c j x) (hij : i ≤ j) (hj : j ≤ ts.length) : OkS ts c i x :=
  ⟨⟨fun h0 => ⟨by have := h.ok.yes h0; omega, (h.ok.yes h0).2⟩, h.ok.no, fun _ => by have := h.ok.le hj; omega⟩, fun h0 => by have := h.sz h0; omega⟩
theorem oks_zero {c i : Nat} {x : Got} (h : OkS ts c i x) : OkS ts 0 i x := ⟨h.ok, fun h0 => by have := h.sz h0; omega⟩
theorem oks_err {c i : Nat} {x : Got} (h : OkS ts 0 i x) (h0 : x.2.2 ≠ 0) : OkS ts c i x := ⟨h.ok, fun h1 => absurd h1 h0⟩
theorem itG_ok {R : Nat → Nat → Got} (hR : ∀ w j, j ≤ ts.length → OkS ts (if w = 2 then 1 else 0) j (R w j)) (a : Nat) (k : Int) {n : Int} : ∀ (l : List It) (zto : Nat) (s : ByteArray) (ps : List VT) (c : Nat), c + sm ps + a ≤ zto → zto ≤ ts.length → Cr c l → OkS ts 0 a (itH ts R a k n l zto s ps)
  | [], zto, s, ps, c, h1, h2, h3 => by
    unfold Cr at h3
    exact ⟨ok_mk (by omega) h2, fun h0 => by have := sz_mk (ts := ts) (i := a) (b := zto) (k := k) (n := n) (s := s) (l := ps) (by omega) h0; exact this⟩
  | .sgn x :: l, zto, s, ps, c, h1, h2, h3 => by
    unfold itH
    split
    · rename_i h; have := isK_lt h; exact itG_ok hR a k l (zto + 1) s ps (c + 1) (by omega) (by omega) h3
    · exact oks_bad (fun _ => by omega)
  | .nam :: l, zto, s, ps, c, h1, h2, h3 => by
    unfold itH
    split
    · rename_i h; have := k_lt h (by decide); exact itG_ok hR a k l (zto + 1) _ ps (c + 1) (by omega) (by omega) h3
    · exact oks_bad (fun _ => by omega)
  | .sub w :: l, zto, s, ps, c, h1, h2, h3 => by
    unfold itH
    have hr := hR w zto h2
    split
    · rename_i h
      have hy := hr.ok.yes h
      have hs := hr.sz h
      refine itG_ok hR a k l _ s _ _ ?_ hy.2 h3
      rw [sm_app]
      split at hs <;> split <;> omega
    · rename_i h; exact oks_err (oks_mono (oks_zero hr) (by omega) h2) h
  | .els :: l, zto, s, ps, c, h1, h2, h3 => by
    unfold itH
    split
    · rename_i h
      have hlt := isK_lt h
      have hr := hR 2 (zto + 1) (by omega)
      split
      · rename_i h
        have hy := hr.ok.yes h
        have hs := hr.sz h
        refine itG_ok hR a k l _ s _ _ ?_ hy.2 h3.2
        rw [sm_app]
        rw [if_pos rfl] at hs
        omega
      · rename_i h; exact oks_err (oks_mono (oks_zero hr) (by omega) (by omega)) h
    · refine itG_ok hR a k l zto s _ _ ?_ h2 h3.2
      rw [sm_app]
      have h4 := h3.1
      show c - 1 + (sm ps + Tr.size (Tr.mk _ [])) + a ≤ zto
      rw [Tr.size_mk]
      simp
      omega
theorem lpB_ok {S : Nat → Got} (hS : ∀ j, j ≤ ts.length → OkS ts 0 j (S j)) (a : Nat) : ∀ (m zto : Nat) (acc : List VT), a + 1 + sm acc ≤ zto → zto ≤ ts.length → OkS ts 1 a (lpB ts S a m zto acc)
  | 0, zto, acc, h1, h2 => oks_bad (fun _ => by omega)
  | m + 1, zto, acc, h1, h2 => by
    unfold lpB
    split
    · rename_i h
      have hlt := isK_lt h
      refine ⟨ok_mk (by omega) (by omega), fun h0 => ?_⟩
      show Tr.size (Tr.mk _ acc) + 1 + a ≤ zto + 1
      rw [Tr.size_mk]
      unfold sm at h1
      omega
    · have hr := hS zto h2
      split
      · rename_i h
        have hy := hr.ok.yes h
        have hs := hr.sz h
        exact lpB_ok hS a m _ _ (by rw [sm_app]; omega) hy.2
      · rename_i h; exact oks_err (oks_mono hr (by omega) h2) h
theorem blG_ok {S : Nat → Got} (hS : ∀ j, j ≤ ts.length → OkS ts 0 j (S j)) (i : Nat) (hi : i ≤ ts.length) : OkS ts 1 i (blG ts S i) := by
  unfold blG
  split
  · rename_i h; have := isK_lt h; exact lpB_ok hS i _ _ _ (by simp [sm]) (by omega)
  · exact oks_bad (fun _ => by omega)
theorem tyG_sz : ∀ n i, (tyG ts n i).2.2 = 0 → (tyG ts n i).1.size + i ≤ (tyG ts n i).2.1
  | 0, i => by simp [tyG]
  | n + 1, i => by
    have ih := tyG_sz n (i + 3)
    unfold tyG
    split
    · simp [Tr.size_mk]; omega
    split
    · simp [Tr.size_mk]; omega
    split
    · split
      · split
        · split
          · rename_i h
            have := ih h
            simp [Tr.size_mk]; omega
          · exact fun h => by rename_i h1; exact absurd h h1
        · simp
      · simp
    · split
      · simp [Tr.size_mk]; omega
      · simp
theorem tyG_oks (i : Nat) (hi : i ≤ ts.length) : OkS ts 0 i (tyG ts (ts.length + 1) i) := by
  obtain ⟨h1, h2, h3, h4⟩ := tyG_ok ts (ts.length + 1) i
  have hle : ∀ n i, i ≤ ts.length → i ≤ (tyG ts n i).2.1 := by
    intro n
    induction n with
    | zero => intro i _; exact Nat.le_refl _
    | succ n ih =>
      intro i hi
      unfold tyG
      split
      · simp
      split
      · simp
      split
      · rename_i h
        have h := isK_lt h
        split
        · rename_i h1
          have h1 := k_lt h1 (by decide)
          split
          · rename_i h2
            have h2 := isK_lt h2
            have := ih (i + 3) (by omega)
            split
            · dsimp only; omega
            · omega
          · simp
        · simp
      · split <;> simp
  exact ⟨⟨h1, h2, fun _ => ⟨hle _ i hi, h3 hi⟩⟩, fun h => by have := tyG_sz _ _ h; omega⟩
theorem RR_ok {S : Nat → Got} (hS : ∀ j, j ≤ ts.length → OkS ts 0 j (S j)) (w j : Nat) (hj : j ≤ ts.length) : OkS ts (if w = 2 then 1 else 0) j (RR ts S w j) := by
  unfold RR
  by_cases h0 : w = 0
  · rw [if_pos h0, if_neg (by omega)]
    exact ⟨Q_ok 1 j hj, fun h => by have := pG_sz (ts := ts) _ 1 j hj h; exact this⟩
  · rw [if_neg h0]
    by_cases h1 : w = 1
    · rw [if_pos h1, if_neg (by omega)]; exact tyG_oks j hj
    · rw [if_neg h1]
      have := blG_ok hS j hj
      split
      · exact this
      · exact oks_zero this
theorem frm_cr (i : Nat) : Cr 0 (frmG ts i).2 := by
  unfold frmG
  repeat' split
  all_goals simp [Cr]
theorem sG_ok : ∀ (n i : Nat), i ≤ ts.length → OkS ts 0 i (sG ts n i)
  | 0, i, hi => oks_bad (fun _ => ⟨Nat.le_refl _, hi⟩)
  | n + 1, i, hi => by
    unfold sG
    split
    · exact oks_zero (blG_ok (sG_ok n) i hi)
    · exact itG_ok (RR_ok (sG_ok n)) i _ _ i _ [] 0 (by simp [sm]) hi (frm_cr i)
def ct : List It → Nat
  | [] => 0
  | .els :: l => ct l
  | .sgn _ :: l => ct l + 1
  | .nam :: l => ct l + 1
  | .sub _ :: l => ct l + 1
theorem itG_ct {R : Nat → Nat → Got} (hR : ∀ w j, j ≤ ts.length → OkS ts (if w = 2 then 1 else 0) j (R w j)) (a : Nat) (k : Int) {n : Int} : ∀ (l : List It) (zto : Nat) (s : ByteArray) (ps : List VT), zto ≤ ts.length → (itH ts R a k n l zto s ps).2.2 = 0 → zto + ct l ≤ (itH ts R a k n l zto s ps).2.1
  | [], zto, s, ps, h1, h => Nat.le_refl _
  | .sgn x :: l, zto, s, ps, h1, h => by
    rw [itH] at h ⊢
    unfold ct
    by_cases h2 : isK x (nxt ts zto) = true
    · rw [if_pos h2] at h ⊢
      have := isK_lt h2
      have := itG_ct hR a k l (zto + 1) s ps (by omega) h
      omega
    · rw [if_neg h2] at h; simp [bad7] at h
  | .nam :: l, zto, s, ps, h1, h => by
    rw [itH] at h ⊢
    unfold ct
    by_cases h2 : (nxt ts zto).k = 1
    · rw [if_pos h2] at h ⊢
      have := k_lt h2 (by decide)
      have := itG_ct hR a k l (zto + 1) _ ps (by omega) h
      omega
    · rw [if_neg h2] at h; simp [bad7] at h
  | .sub w :: l, zto, s, ps, h1, h => by
    rw [itH] at h ⊢
    unfold ct
    by_cases h2 : (R w zto).2.2 = 0
    · rw [if_pos h2] at h ⊢
      have := (hR w zto h1).ok.yes h2
      have := itG_ct hR a k l _ s _ this.2 h
      omega
    · rw [if_neg h2] at h; exact absurd h h2
  | .els :: l, zto, s, ps, h1, h => by
    rw [itH] at h ⊢
    unfold ct
    by_cases h2 : isK wElse (nxt ts zto) = true
    · rw [if_pos h2] at h ⊢
      have h3 := isK_lt h2
      by_cases h4 : (R 2 (zto + 1)).2.2 = 0
      · rw [if_pos h4] at h ⊢
        have := (hR 2 (zto + 1) h3).ok.yes h4
        have := itG_ct hR a k l _ s _ this.2 h
        omega
      · rw [if_neg h4] at h; exact absurd h h4
    · rw [if_neg h2] at h ⊢
      exact itG_ct hR a k l zto s _ h1 h
theorem frm_ct (i : Nat) : 2 ≤ ct (frmG ts i).2 := by
  unfold frmG
  repeat' split
  all_goals simp [ct]
theorem lpB_two {S : Nat → Got} (hS : ∀ j, j ≤ ts.length → OkS ts 0 j (S j)) (a : Nat) : ∀ (m zto : Nat) (acc : List VT), zto ≤ ts.length → (lpB ts S a m zto acc).2.2 = 0 → zto + 1 ≤ (lpB ts S a m zto acc).2.1
  | 0, zto, acc, h1, h => by simp [lpB, bad7] at h
  | m + 1, zto, acc, h1, h => by
    rw [lpB] at h ⊢
    by_cases h2 : isK sKet (nxt ts zto) = true
    · rw [if_pos h2]; exact Nat.le_refl _
    · rw [if_neg h2] at h ⊢
      by_cases h3 : (S zto).2.2 = 0
      · rw [if_pos h3] at h ⊢
        have := (hS zto h1).ok.yes h3
        have := lpB_two hS a m _ _ this.2 h
        omega
      · rw [if_neg h3] at h; exact absurd h h3
theorem sG_two : ∀ (n i : Nat), i ≤ ts.length → (sG ts n i).2.2 = 0 → i + 2 ≤ (sG ts n i).2.1
  | 0, i, hi, h => by simp [sG, bad7] at h
  | n + 1, i, hi, h => by
    rw [sG] at h ⊢
    by_cases h1 : isK sBra (nxt ts i) = true
    · rw [if_pos h1] at h ⊢
      have h2 := isK_lt h1
      rw [blG, if_pos h1] at h ⊢
      exact lpB_two (sG_ok n) i _ _ _ h2 h
    · rw [if_neg h1] at h ⊢
      have := itG_ct (RR_ok (sG_ok n)) i _ _ i _ [] hi h
      have := frm_ct (ts := ts) i
      omega
def WT (ts : List Tok) (s : ByteArray) (p : Nat × Int) : Nat × Int := if p.2 = 0 then if isK s (nxt ts p.1) = true then (p.1 + 1, 0) else (p.1, 6) else p
def TT (ts : List Tok) (s : ByteArray) (p : Nat × Int) : Bool := decide (p.2 = 0) && isK s (nxt ts p.1)
def KT (ts : List Tok) (k : Int) (p : Nat × Int) : Tok × Nat × Int := if p.2 = 0 then if (nxt ts p.1).k = k then (nxt ts p.1, p.1 + 1, 0) else (zK, p.1, 6) else (zK, p.1, p.2)
def OT (G : Nat → Got) (p : Nat × Int) : Got := if p.2 = 0 then G p.1 else (z0, p.1, p.2)
def NT (ts : List Tok) (a : Nat) (k n : Int) (s : ByteArray) (l : List VT) (p : Nat × Int) : Got := if p.2 = 0 then mk7 ts a p.1 k n s l else (z0, p.1, p.2)
def FT (ts : List Tok) (R : Nat → Nat → Got) (a : Nat) (k n : Int) (l : List It) (p : Nat × Int) (s : ByteArray) (ps : List VT) : Got := if p.2 = 0 then itH ts R a k n l p.1 s ps else (z0, p.1, p.2)
theorem itG_sgn {R : Nat → Nat → Got} {a : Nat} {k n : Int} {x : ByteArray} {l : List It} {zto : Nat} {s : ByteArray} {ps : List VT} : itH ts R a k n (.sgn x :: l) zto s ps = if isK x (nxt ts zto) = true then itH ts R a k n l (zto + 1) s ps else bad7 zto := by rw [itH]
theorem itG_nam {R : Nat → Nat → Got} {a : Nat} {k n : Int} {l : List It} {zto : Nat} {s : ByteArray} {ps : List VT} : itH ts R a k n (.nam :: l) zto s ps = if (nxt ts zto).k = 1 then itH ts R a k n l (zto + 1) (nxt ts zto).s ps else bad7 zto := by rw [itH]
theorem itG_sub {R : Nat → Nat → Got} {a : Nat} {k n : Int} {w : Nat} {l : List It} {zto : Nat} {s : ByteArray} {ps : List VT} : itH ts R a k n (.sub w :: l) zto s ps = if (R w zto).2.2 = 0 then itH ts R a k n l (R w zto).2.1 s (ps ++ [(R w zto).1]) else R w zto := by rw [itH]
theorem itG_els {R : Nat → Nat → Got} {a : Nat} {k n : Int} {l : List It} {zto : Nat} {s : ByteArray} {ps : List VT} : itH ts R a k n (.els :: l) zto s ps = if isK wElse (nxt ts zto) = true then if (R 2 (zto + 1)).2.2 = 0 then itH ts R a k n l (R 2 (zto + 1)).2.1 s (ps ++ [(R 2 (zto + 1)).1]) else R 2 (zto + 1) else itH ts R a k n l zto s (ps ++ [emB ts zto]) := by rw [itH]
theorem ft_start {R : Nat → Nat → Got} {a : Nat} {k n : Int} {l : List It} {i : Nat} {s : ByteArray} {ps : List VT} : itH ts R a k n l i s ps = FT ts R a k n l (i, 0) s ps := (if_pos rfl).symm
theorem ft_sgn {R : Nat → Nat → Got} {a : Nat} {k n : Int} {x : ByteArray} {l : List It} {p : Nat × Int} {s : ByteArray} {ps : List VT} : FT ts R a k n (.sgn x :: l) p s ps = FT ts R a k n l (WT ts x p) s ps := by
  obtain ⟨i, e⟩ := p
  unfold FT WT
  rw [itG_sgn]
  unfold bad7
  by_cases he : e = 0
  · subst he
    by_cases h : isK x (nxt ts i) = true <;> simp [h]
  · simp [he]
theorem ft_nam {R : Nat → Nat → Got} {a : Nat} {k n : Int} {l : List It} {p : Nat × Int} {s : ByteArray} {ps : List VT} : FT ts R a k n (.nam :: l) p s ps = FT ts R a k n l (KT ts 1 p).2 (KT ts 1 p).1.s ps := by
  obtain ⟨i, e⟩ := p
  unfold FT KT
  rw [itG_nam]
  unfold bad7
  by_cases he : e = 0
  · subst he
    by_cases h : (nxt ts i).k = 1 <;> simp [h]
  · simp [he]
theorem ft_sub {R : Nat → Nat → Got} {a : Nat} {k n : Int} {w : Nat} {l : List It} {p : Nat × Int} {s : ByteArray} {ps : List VT} (hz : ∀ j, j ≤ ts.length → (R w j).2.2 ≠ 0 → (R w j).1 = z0) (hp : p.2 = 0 → p.1 ≤ ts.length) : FT ts R a k n (.sub w :: l) p s ps = FT ts R a k n l (OT (R w) p).2 s (ps ++ [(OT (R w) p).1]) := by
  obtain ⟨i, e⟩ := p
  unfold FT OT
  rw [itG_sub]
  by_cases he : e = 0
  · subst he
    have := hz i (hp rfl)
    dsimp only
    obtain ⟨⟨r1, r2, r3⟩, hr⟩ : ∃ r, R w i = r := ⟨_, rfl⟩
    rw [hr] at this ⊢
    by_cases h : r3 = 0
    · simp [h]
    · have := this h
      dsimp only at this
      simp [h, this]
  · simp [he]
theorem ft_end {R : Nat → Nat → Got} {a : Nat} {k n : Int} {p : Nat × Int} {s : ByteArray} {ps : List VT} : FT ts R a k n [] p s ps = NT ts a k n s ps p := rfl
theorem ft_els_no {R : Nat → Nat → Got} {a : Nat} {k n : Int} {l : List It} {p : Nat × Int} {s : ByteArray} {ps : List VT} (h : TT ts wElse p = false) : FT ts R a k n (.els :: l) p s ps = FT ts R a k n l p s (ps ++ [emB ts p.1]) := by
  obtain ⟨i, e⟩ := p
  unfold FT
  rw [itG_els]
  unfold TT at h
  by_cases he : e = 0
  · subst he
    simp at h
    simp [h]
  · simp [he]
theorem ft_els_yes {R : Nat → Nat → Got} {a : Nat} {k n : Int} {l : List It} {p : Nat × Int} {s : ByteArray} {ps : List VT} (hz : ∀ j, j ≤ ts.length → (R 2 j).2.2 ≠ 0 → (R 2 j).1 = z0) (h : TT ts wElse p = true) : FT ts R a k n (.els :: l) p s ps = FT ts R a k n l (R 2 (p.1 + 1)).2 s (ps ++ [(R 2 (p.1 + 1)).1]) := by
  obtain ⟨i, e⟩ := p
  unfold TT at h
  simp at h
  obtain ⟨h0, h1⟩ := h
  try dsimp only at h0 h1
  subst h0
  have := hz (i + 1) (isK_lt h1)
  unfold FT
  rw [itG_els]
  dsimp only
  obtain ⟨⟨r1, r2, r3⟩, hr⟩ : ∃ r, R 2 (i + 1) = r := ⟨_, rfl⟩
  rw [hr] at this ⊢
  by_cases h : r3 = 0
  · simp [h, h1]
  · have := this h
    dsimp only at this
    simp [h, h1, this]
theorem lpB_to {S : Nat → Got} (hS : ∀ j, (S j).2.2 = 0 → True) (a : Nat) : ∀ (m zto : Nat) (acc : List VT), (∀ j, (S j).2.2 ≠ 0 → (S j).2.2 ≠ 0) → (lpB ts S a m zto acc).2.2 = 0 → (lpB ts S a m zto acc).1.lab.t = toT ts ((lpB ts S a m zto acc).2.1 - 1)
  | 0, zto, acc, _, h => by simp [lpB, bad7] at h
  | m + 1, zto, acc, hn, h => by
    unfold lpB at h ⊢
    split
    · rfl
    · rename_i h1
      rw [if_neg h1] at h
      split
      · rename_i h2
        rw [if_pos h2] at h
        exact lpB_to hS a m _ _ hn h
      · rename_i h2
        rw [if_neg h2] at h
        exact absurd h h2
theorem blG_to {S : Nat → Got} (i : Nat) (h : (blG ts S i).2.2 = 0) : (blG ts S i).1.lab.t = toT ts ((blG ts S i).2.1 - 1) := by
  unfold blG at h ⊢
  split
  · rename_i h1
    rw [if_pos h1] at h
    exact lpB_to (fun _ _ => trivial) i _ _ _ (fun _ h => h) h
  · rename_i h1
    rw [if_neg h1] at h
    simp [bad7] at h
theorem wt_c {a : Nat} {s : ByteArray} {p : Nat × Int} (c : p.2 = 0 → a ≤ p.1 ∧ p.1 ≤ ts.length) : (WT ts s p).2 = 0 → a ≤ (WT ts s p).1 ∧ (WT ts s p).1 ≤ ts.length := by
  obtain ⟨i, e⟩ := p
  unfold WT
  dsimp only at c ⊢
  by_cases he : e = 0
  · subst he
    rw [if_pos rfl]
    by_cases h : isK s (nxt ts i) = true
    · rw [if_pos h]; have := isK_lt h; have := c rfl; intro _; dsimp only; omega
    · rw [if_neg h]; intro h; exact absurd (show (6 : Int) = 0 from h) (by decide)
  · rw [if_neg he]; exact fun h => absurd h he
theorem wt_lt {s : ByteArray} {i : Nat} : (WT ts s (i, 0)).2 = 0 → i < (WT ts s (i, 0)).1 := by
  unfold WT
  dsimp only
  rw [if_pos rfl]
  by_cases h : isK s (nxt ts i) = true
  · rw [if_pos h]; intro _; exact Nat.lt_succ_self _
  · rw [if_neg h]; intro h; exact absurd (show (6 : Int) = 0 from h) (by decide)
theorem kt_c {a : Nat} {k : Int} {p : Nat × Int} (hk : k ≠ 5) (c : p.2 = 0 → a ≤ p.1 ∧ p.1 ≤ ts.length) : (KT ts k p).2.2 = 0 → a ≤ (KT ts k p).2.1 ∧ (KT ts k p).2.1 ≤ ts.length := by
  obtain ⟨i, e⟩ := p
  unfold KT
  dsimp only at c ⊢
  by_cases he : e = 0
  · subst he
    rw [if_pos rfl]
    by_cases h : (nxt ts i).k = k
    · rw [if_pos h]; have := k_lt h hk; have := c rfl; intro _; dsimp only; omega
    · rw [if_neg h]; intro h; exact absurd (show (6 : Int) = 0 from h) (by decide)
  · rw [if_neg he]; exact fun h => absurd h he
theorem ot_c {a : Nat} {G : Nat → Got} {p : Nat × Int} (hG : ∀ j, j ≤ ts.length → OkG ts j (G j)) (c : p.2 = 0 → a ≤ p.1 ∧ p.1 ≤ ts.length) : (OT G p).2.2 = 0 → a ≤ (OT G p).2.1 ∧ (OT G p).2.1 ≤ ts.length := by
  obtain ⟨i, e⟩ := p
  unfold OT
  dsimp only at c ⊢
  by_cases he : e = 0
  · subst he
    rw [if_pos rfl]
    have c := c rfl
    intro h
    have := (hG i c.2).yes h
    omega
  · rw [if_neg he]; exact fun h => absurd h he
theorem nt_at {a : Nat} {k n : Int} {s : ByteArray} {l : List VT} {p : Nat × Int} (h : OkG ts a (NT ts a k n s l p)) : p.2 = 0 → a < p.1 ∧ p.1 ≤ ts.length := by
  obtain ⟨i, e⟩ := p
  intro he
  dsimp only at he
  subst he
  exact h.yes rfl
theorem nt_err {a : Nat} {k n : Int} {s : ByteArray} {l m : List VT} {p : Nat × Int} (h : p.2 = 0 → l = m) : NT ts a k n s l p = NT ts a k n s m p := by
  unfold NT
  by_cases he : p.2 = 0
  · rw [h he]
  · rw [if_neg he, if_neg he]
theorem rr_no {S : Nat → Got} (hS : ∀ j, j ≤ ts.length → OkS ts 0 j (S j)) (w : Nat) : ∀ j, j ≤ ts.length → (RR ts S w j).2.2 ≠ 0 → (RR ts S w j).1 = z0 := fun j hj h => ((RR_ok hS w j hj).ok.no h).2
theorem wt_of_tt {s : ByteArray} {p : Nat × Int} (h : TT ts s p = true) : WT ts s p = (p.1 + 1, 0) := by
  obtain ⟨i, e⟩ := p
  unfold TT at h
  simp at h
  obtain ⟨h0, h1⟩ := h
  try dsimp only at h0 h1
  subst h0
  unfold WT
  dsimp only
  rw [if_pos rfl, if_pos h1]
theorem bl_to {S : Nat → Got} {p : Nat × Int} : (OT (blG ts S) p).2.2 = 0 → (OT (blG ts S) p).1.lab.t = toT ts ((OT (blG ts S) p).2.1 - 1) := by
  obtain ⟨i, e⟩ := p
  unfold OT
  dsimp only
  by_cases he : e = 0
  · rw [if_pos he]; exact blG_to i
  · rw [if_neg he]; exact fun h => absurd h he
end
end Go.Proofs.YtlkggpjdaaglmaaGreatDoor.vt
end
section
namespace Go.Proofs.YtlkggpjdaaglmaaGreatDoor.vt
open Go.Proofs.YtlkggpjdaaglmaaGreatDoor.am
set_option linter.unusedVariables false
def ChL (lo hi : Int) : List VT → Prop
  | [] => lo ≤ hi
  | y :: l => lo ≤ y.lab.f ∧ y.lab.f ≤ y.lab.t ∧ ChL y.lab.t hi l
inductive Wi : VT → Prop where
  | mk (x : Lab) (l : List VT) (hc : ChL x.f x.t l) (hl : ∀ y ∈ l, Wi y) : Wi (.mk x l)
theorem chl_mono : ∀ {l : List VT} {lo hi hi' : Int}, ChL lo hi l → hi ≤ hi' → ChL lo hi' l
  | [], lo, hi, hi', h, h' => Int.le_trans h h'
  | y :: l, lo, hi, hi', ⟨h1, h2, h3⟩, h' => ⟨h1, h2, chl_mono h3 h'⟩
theorem chl_snoc : ∀ {l : List VT} {lo hi hi' : Int} {y : VT}, ChL lo hi l → hi ≤ y.lab.f → y.lab.f ≤ y.lab.t → y.lab.t ≤ hi' → ChL lo hi' (l ++ [y])
  | [], lo, hi, hi', y, h, h1, h2, h3 => ⟨Int.le_trans h h1, h2, h3⟩
  | z :: l, lo, hi, hi', y, ⟨a1, a2, a3⟩, h1, h2, h3 => ⟨a1, a2, chl_snoc a3 h1 h2 h3⟩
def I6 (z : Int) : Prop := -9223372036854775808 ≤ z ∧ z ≤ 9223372036854775807
instance (z : Int) : Decidable (I6 z) := by unfold I6; infer_instance
def A6 (x : Lab) : Prop := I6 x.k ∧ I6 x.n ∧ I6 x.f ∧ I6 x.t
structure TO (ts : List Tok) : Prop where
  b : ∀ i, i < ts.length → I6 (nxt ts i).n ∧ I6 (nxt ts i).f ∧ I6 (nxt ts i).t
  w : ∀ i, i < ts.length → frT ts i ≤ toT ts i
  o : ∀ i, i + 1 < ts.length → toT ts i ≤ frT ts (i + 1)
section
variable {ts : List Tok} (ht : TO ts)
include ht
theorem to_fr {i j : Nat} (h : i < j) (hj : j < ts.length) : toT ts i ≤ frT ts j := by
  obtain ⟨d, rfl⟩ : ∃ d, j = i + 1 + d := ⟨j - i - 1, by omega⟩
  clear h
  induction d with
  | zero => exact ht.o i hj
  | succ d ih =>
    have h1 := ih (by omega)
    have h2 := ht.w (i + 1 + d) (by omega)
    have h3 := ht.o (i + 1 + d) (by omega)
    show toT ts i ≤ frT ts (i + 1 + d + 1)
    omega
theorem fr_fr {i j : Nat} (h : i ≤ j) (hj : j < ts.length) : frT ts i ≤ frT ts j := by
  rcases Nat.lt_or_ge i j with h1 | h1
  · have := ht.w i (by omega); have := to_fr ht h1 hj; omega
  · have : i = j := by omega
    subst this; exact Int.le_refl _
theorem to_to {i j : Nat} (h : i ≤ j) (hj : j < ts.length) : toT ts i ≤ toT ts j := by
  rcases Nat.lt_or_ge i j with h1 | h1
  · have := to_fr ht h1 hj; have := ht.w j hj; omega
  · have : i = j := by omega
    subst this; exact Int.le_refl _
omit ht
structure PlG (ts : List Tok) (i : Nat) (x : Got) : Prop where
  fr : frT ts i ≤ x.1.lab.f
  ft : x.1.lab.f ≤ x.1.lab.t
  zto : x.1.lab.t ≤ toT ts (x.2.1 - 1)
  wi : Wi x.1
  ne : (nxt ts (x.2.1 - 1)).k ≠ 5
  al : Tr.all A6 x.1
def Pl (ts : List Tok) (i : Nat) (x : Got) : Prop := x.2.2 = 0 → PlG ts i x
def pe (ts : List Tok) (a zto : Nat) : Int := if a < zto then toT ts (zto - 1) else frT ts a
structure PS (ts : List Tok) (a zto : Nat) (l : List VT) : Prop where
  ch : ChL (frT ts a) (pe ts a zto) l
  wi : ∀ y ∈ l, Wi y
  al : ∀ y ∈ l, Tr.all A6 y
include ht
theorem pe_mono {a b c : Nat} (hab : a ≤ b) (hbc : b ≤ c) (hc : c ≤ ts.length) : pe ts a b ≤ pe ts a c := by
  unfold pe
  by_cases h1 : a < b
  · rw [if_pos h1, if_pos (by omega)]; exact to_to ht (by omega) (by omega)
  · rw [if_neg h1]
    by_cases h2 : a < c
    · rw [if_pos h2]
      have := ht.w a (by omega)
      have := to_to ht (show a ≤ c - 1 by omega) (by omega)
      omega
    · rw [if_neg h2]; exact Int.le_refl _
theorem pe_lo {a b : Nat} (hab : a ≤ b) (hb : b ≤ ts.length) : frT ts a ≤ pe ts a b := by
  have := pe_mono ht (Nat.le_refl a) hab hb
  rwa [show pe ts a a = frT ts a from if_neg (Nat.lt_irrefl a)] at this
theorem pe_fr {a b j : Nat} (hab : a ≤ b) (hbj : b ≤ j) (hj : j < ts.length) : pe ts a b ≤ frT ts j := by
  unfold pe
  by_cases h1 : a < b
  · rw [if_pos h1]; exact to_fr ht (by omega) hj
  · rw [if_neg h1]; exact fr_fr ht (by omega) hj
theorem ps_nil {a b : Nat} (hab : a ≤ b) (hb : b ≤ ts.length) : PS ts a b [] := ⟨pe_lo ht hab hb, (fun y h => by cases h), (fun y h => by cases h)⟩
theorem ps_mono {a b c : Nat} {l : List VT} (h : PS ts a b l) (hab : a ≤ b) (hbc : b ≤ c) (hc : c ≤ ts.length) : PS ts a c l := ⟨chl_mono h.ch (pe_mono ht hab hbc hc), h.wi, h.al⟩
theorem ps_snoc {a b j : Nat} {l : List VT} {x : Got} (h : PS ts a b l) (hab : a ≤ b) (hbj : b ≤ j) (hk : OkG ts j x) (h0 : x.2.2 = 0) (hx : Pl ts j x) : PS ts a x.2.1 (l ++ [x.1]) := by
  have hy := hk.yes h0
  have hp := hx h0
  refine ⟨chl_snoc h.ch ?_ hp.ft ?_, fun y hyl => ?_, fun y hyl => ?_⟩
  · have := pe_fr ht hab hbj (show j < ts.length by omega)
    have := hp.fr
    omega
  · rw [show pe ts a x.2.1 = toT ts (x.2.1 - 1) from if_pos (by omega)]; exact hp.zto
  · rcases List.mem_append.1 hyl with h1 | h1
    · exact h.wi y h1
    · rw [List.mem_singleton.1 h1]; exact hp.wi
  · rcases List.mem_append.1 hyl with h1 | h1
    · exact h.al y h1
    · rw [List.mem_singleton.1 h1]; exact hp.al
theorem pl_mk {a b i : Nat} {k n : Int} {s : ByteArray} {l : List VT} (h : PS ts a b l) (hab : a < b) (hb : b ≤ ts.length) (hia : i ≤ a) (hne : (nxt ts (b - 1)).k ≠ 5) (hk6 : I6 k) (hn6 : I6 n) : Pl ts i (mk7 ts a b k n s l) := fun _ => by
  have h1 := ht.w a (by omega)
  have h2 := to_to ht (show a ≤ b - 1 by omega) (by omega)
  have hc := h.ch
  rw [show pe ts a b = toT ts (b - 1) from if_pos hab] at hc
  exact ⟨fr_fr ht hia (by omega), by show frT ts a ≤ toT ts (b - 1); omega, Int.le_refl _, .mk _ _ hc h.wi, hne, (Tr.all_mk _ _ _).2 ⟨⟨hk6, hn6, (ht.b a (by omega)).2.1, (ht.b (b - 1) (by omega)).2.2⟩, h.al⟩⟩
theorem ps_one {a : Nat} {x : Got} (hk : OkG ts a x) (h0 : x.2.2 = 0) (hx : Pl ts a x) : PS ts a x.2.1 [x.1] := by
  have := hk.yes h0
  have := ps_snoc ht (ps_nil ht (Nat.le_refl a) (by omega)) (Nat.le_refl a) (Nat.le_refl a) hk h0 hx
  simpa using this
theorem ps_two {a j : Nat} {x y : Got} (hk : OkG ts a x) (h0 : x.2.2 = 0) (hx : Pl ts a x) (hj : x.2.1 ≤ j) (hk' : OkG ts j y) (h0' : y.2.2 = 0) (hy : Pl ts j y) : PS ts a y.2.1 [x.1, y.1] := by
  have := hk.yes h0
  have := ps_snoc ht (ps_one ht hk h0 hx) (by omega) hj hk' h0' hy
  simpa using this
theorem pl_up {i j : Nat} {x : Got} (h : Pl ts j x) (hij : i ≤ j) (hj : j < ts.length) : Pl ts i x := fun h0 => by
  have := fr_fr ht hij hj
  have hp := h h0
  exact ⟨by have := hp.fr; omega, hp.ft, hp.zto, hp.wi, hp.ne, hp.al⟩
omit ht in
theorem ne_isK {s : ByteArray} {j : Nat} (h : isK s (nxt ts j) = true) : (nxt ts j).k ≠ 5 := by
  have : (nxt ts j).k = quo s := by unfold isK at h; simp at h; exact h.1
  rcases quo_34 s with h1 | h1 <;> omega
omit ht in
theorem ne_k {k : Int} {j : Nat} (h : (nxt ts j).k = k) (hk : k ≠ 5) : (nxt ts j).k ≠ 5 := by omega
omit ht in
theorem i6_ite {c : Prop} [Decidable c] {a b : Int} (ha : I6 a) (hb : I6 b) : I6 (if c then a else b) := by
  by_cases h : c
  · rw [if_pos h]; exact ha
  · rw [if_neg h]; exact hb
omit ht in
theorem op_i6 (x : Tok) : I6 (opK x).1 := by
  unfold opK opS
  simp only [apply_ite Prod.fst]
  repeat' (refine i6_ite ?_ ?_)
  all_goals decide
omit ht in
theorem un_i6 (i : Nat) : I6 (unN ts i) := by
  unfold unN
  repeat' (refine i6_ite ?_ ?_)
  all_goals decide
omit ht in
theorem frm_i6 (i : Nat) : I6 (frmG ts i).1 := by
  unfold frmG
  simp only [apply_ite Prod.fst]
  repeat' (refine i6_ite ?_ ?_)
  all_goals decide
omit ht in
theorem pl_err {i : Nat} {x : Got} (h : x.2.2 ≠ 0) : Pl ts i x := fun h0 => absurd h0 h
omit ht in
theorem pl_bad {i j : Nat} : Pl ts i (bad7 j) := fun h => by simp [bad7] at h
theorem lpL_pl {P : Nat → Got} {l a : Nat} (hl : l ≤ 5) (hP : ∀ j, j ≤ ts.length → OkG ts j (P j)) (hS : ∀ j, j ≤ ts.length → Pl ts j (P j)) : ∀ (m : Nat) (t : Bool) (x : Got), OkG ts a x → Pl ts a x → Pl ts a (lpL ts P l a m t x) := by
  intro m
  induction m with
  | zero => intro t x hx hs; exact hs
  | succ m ih =>
    intro t x hx hs
    unfold lpL
    split
    · exact hs
    · rename_i h0
      have h0 : x.2.2 = 0 := by simpa using h0
      split
      · exact hs
      · rename_i h1
        have h1 : (opK (nxt ts x.2.1)).2 = l := by simpa using (not_or.1 h1).1
        have hlt := op_lt h1 hl
        have hp := hP (x.2.1 + 1) (by omega)
        have hy := hx.yes h0
        split
        · rename_i h2; exact pl_err h2
        · rename_i h2
          have h2 : (P (x.2.1 + 1)).2.2 = 0 := by simpa using h2
          have := hp.yes h2
          exact ih true _ (ok_mk (by omega) this.2) (pl_mk ht (ps_two ht hx h0 hs (Nat.le_succ _) hp h2 (hS _ (by omega))) (by omega) this.2 (Nat.le_refl a) (hS _ (by omega) h2).ne (by decide) (op_i6 _))
theorem lpP_pl {E : Nat → Got} {a : Nat} (hE : ∀ j, j ≤ ts.length → OkG ts j (E j)) (hS : ∀ j, j ≤ ts.length → Pl ts j (E j)) : ∀ (m : Nat) (x : Got), OkG ts a x → Pl ts a x → Pl ts a (lpP ts E a m x) := by
  intro m
  induction m with
  | zero => intro x hx hs; exact hs
  | succ m ih =>
    intro x hx hs
    unfold lpP
    split
    · exact hs
    · rename_i h0
      have h0 : x.2.2 = 0 := by simpa using h0
      have hy := hx.yes h0
      split
      · rename_i h1
        have hlt := isK_lt h1
        have hp := hE (x.2.1 + 1) (by omega)
        split
        · rename_i h2; exact pl_err h2
        · rename_i h2
          have h2 : (E (x.2.1 + 1)).2.2 = 0 := by simpa using h2
          have hyy := hp.yes h2
          split
          · exact pl_bad
          · rename_i h3
            have := isK_lt (s := sShut) (ts := ts) (by simpa using h3)
            exact ih _ (ok_mk (by omega) (by omega)) (pl_mk ht (ps_mono ht (ps_two ht hx h0 hs (Nat.le_succ _) hp h2 (hS _ (by omega))) (by omega) (Nat.le_succ _) (by omega)) (by omega) (by omega) (Nat.le_refl a) (ne_isK (s := sShut) (by simpa using h3)) (by decide) (by decide))
      · split
        · rename_i h1
          have hlt := isK_lt h1
          split
          · exact pl_bad
          · rename_i h3
            have := k_lt (ts := ts) (k := 1) (by simpa using h3) (by decide)
            exact ih _ (ok_mk (by omega) (by omega)) (pl_mk ht (ps_mono ht (ps_one ht hx h0 hs) (by omega) (by omega) (by omega)) (by omega) (by omega) (Nat.le_refl a) (ne_k (k := 1) (by simpa using h3) (by decide)) (by decide) (by decide))
        · exact hs
theorem lpC_pl {E : Nat → Got} (hE : ∀ j, j ≤ ts.length → OkG ts j (E j)) (hS : ∀ j, j ≤ ts.length → Pl ts j (E j)) (a : Nat) : ∀ (m i : Nat) (acc : List VT), a ≤ i → i ≤ ts.length → PS ts a i acc → (lpC ts E m i acc).2.2 = 0 → PS ts a (lpC ts E m i acc).2.1 (lpC ts E m i acc).1 := by
  intro m
  induction m with
  | zero => intro i acc _ _ _ h; simp [lpC] at h
  | succ m ih =>
    intro i acc hai hi hs h
    unfold lpC at h ⊢
    have hp := hE i hi
    by_cases h1 : (E i).2.2 = 0; rotate_left
    · rw [if_pos h1] at h; exact absurd h h1
    rw [if_neg (by simp [h1])] at h ⊢
    have hy := hp.yes h1
    have hn := ps_snoc ht hs hai (Nat.le_refl i) hp h1 (hS i hi)
    by_cases h2 : isK sCom (nxt ts (E i).2.1) = false
    · rw [if_pos h2]; exact hn
    · rw [if_neg h2] at h ⊢
      have hlt := isK_lt (s := sCom) (ts := ts) (by simpa using h2)
      exact ih _ _ (by omega) (by omega) (ps_mono ht hn (by omega) (Nat.le_succ _) (by omega)) h
theorem cloG_pl {E : Nat → Got} (hE : ∀ j, j ≤ ts.length → OkG ts j (E j)) (hS : ∀ j, j ≤ ts.length → Pl ts j (E j)) (a : Nat) {o : Nat} (hao : a ≤ o) (few : Bool) (fs ls : ByteArray) (ho : o ≤ ts.length) (h : (cloG ts E o few fs ls).2.2 = 0) : PS ts a (cloG ts E o few fs ls).2.1 (cloG ts E o few fs ls).1 := by
  unfold cloG at h ⊢
  by_cases h0 : isK fs (nxt ts o) = false
  · rw [if_pos h0] at h; simp at h
  rw [if_neg h0] at h ⊢
  have hlt := isK_lt (s := fs) (ts := ts) (by simpa using h0)
  by_cases h1 : few = true ∧ isK ls (nxt ts (o + 1)) = true
  · rw [if_pos h1]
    have := isK_lt h1.2
    exact ps_nil ht (by dsimp only; omega) (by dsimp only; omega)
  rw [if_neg h1] at h ⊢
  have hk := lpC_ok hE (ts.length + 1) (o + 1) [] (by omega)
  by_cases h2 : (lpC ts E (ts.length + 1) (o + 1) []).2.2 = 0; rotate_left
  · rw [if_pos h2] at h; exact absurd h h2
  rw [if_neg (by simp [h2])] at h ⊢
  have hc := lpC_pl ht hE hS a (ts.length + 1) (o + 1) [] (by omega) (by omega) (ps_nil ht (by omega) (by omega)) h2
  have hle := hk.le
  by_cases h3 : isK ls (nxt ts (lpC ts E (ts.length + 1) (o + 1) []).2.1) = false
  · rw [if_pos h3] at h; simp at h
  · rw [if_neg h3]
    have := isK_lt (s := ls) (ts := ts) (by simpa using h3)
    exact ps_mono ht hc (by omega) (Nat.le_succ _) (by dsimp only; omega)
omit ht in
theorem cloG_ne {E : Nat → Got} {o : Nat} {few : Bool} {fs ls : ByteArray} (h : (cloG ts E o few fs ls).2.2 = 0) : (nxt ts ((cloG ts E o few fs ls).2.1 - 1)).k ≠ 5 := by
  unfold cloG at h ⊢
  by_cases h0 : isK fs (nxt ts o) = false
  · rw [if_pos h0] at h; simp at h
  rw [if_neg h0] at h ⊢
  by_cases h1 : few = true ∧ isK ls (nxt ts (o + 1)) = true
  · rw [if_pos h1]; exact ne_isK h1.2
  rw [if_neg h1] at h ⊢
  by_cases h2 : (lpC ts E (ts.length + 1) (o + 1) []).2.2 = 0; rotate_left
  · rw [if_pos h2] at h; exact absurd h h2
  rw [if_neg (by simp [h2])] at h ⊢
  by_cases h3 : isK ls (nxt ts (lpC ts E (ts.length + 1) (o + 1) []).2.1) = false
  · rw [if_pos h3] at h; simp at h
  · rw [if_neg h3]; exact ne_isK (s := ls) (by simpa using h3)
theorem fin_pl {i o : Nat} {k : Int} {s : ByteArray} {c : List VT × Nat × Int} (hk : OkC ts o c) (h : c.2.2 = 0 → PS ts i c.2.1 c.1) (hn : c.2.2 = 0 → (nxt ts (c.2.1 - 1)).k ≠ 5) (hi : i ≤ o) (hk6 : I6 k) : Pl ts i (finC ts i k s c) := by
  unfold finC
  split
  · rename_i h0; exact fun h => absurd h h0
  · rename_i h0
    have h0 : c.2.2 = 0 := by simpa using h0
    exact pl_mk ht (h h0) (by have := hk.yes h0; omega) hk.le.2 (Nat.le_refl i) (hn h0) hk6 (by decide)
theorem calG_pl {E : Nat → Got} (hE : ∀ j, j ≤ ts.length → OkG ts j (E j)) (hS : ∀ j, j ≤ ts.length → Pl ts j (E j)) (i : Nat) (hi : i ≤ ts.length) : Pl ts i (calG ts E i) := by
  unfold calG
  split
  · rename_i h; have := k_lt h (by decide)
    exact fin_pl ht (cloG_ok hE true sParO sParS (by omega)) (cloG_pl ht hE hS i (by omega) true sParO sParS (by omega)) cloG_ne (by omega) (by decide)
  split
  · rename_i h; have := isK_lt h
    exact fin_pl ht (cloG_ok hE false sOpen sShut (by omega)) (cloG_pl ht hE hS i (by omega) false sOpen sShut (by omega)) cloG_ne (by omega) (by decide)
  split
  · rename_i h; have := isK_lt h
    split
    · exact pl_bad
    · rename_i h2; have := k_lt (ts := ts) (k := 1) (by simpa using h2) (by decide)
      exact fin_pl ht (cloG_ok hE true sParO sParS (by omega)) (cloG_pl ht hE hS i (by omega) true sParO sParS (by omega)) cloG_ne (by omega) (by decide)
  split
  · rename_i h; have := isK_lt h
    split
    · exact pl_bad
    · rename_i h2; have := k_lt (ts := ts) (k := 1) (by simpa using h2) (by decide)
      exact fin_pl ht (cloG_ok hE false sParO sParS (by omega)) (cloG_pl ht hE hS i (by omega) false sParO sParS (by omega)) cloG_ne (by omega) (by decide)
  · exact pl_bad
theorem atoG_pl {E : Nat → Got} (hE : ∀ j, j ≤ ts.length → OkG ts j (E j)) (hS : ∀ j, j ≤ ts.length → Pl ts j (E j)) (i : Nat) (hi : i ≤ ts.length) : Pl ts i (atoG ts E i) := by
  have one : ∀ (k n : Int) (s : ByteArray), i < ts.length → (nxt ts i).k ≠ 5 → I6 k → I6 n → Pl ts i (mk7 ts i (i + 1) k n s []) := fun k n s h hn h6 h7 => pl_mk ht (ps_nil ht (by omega) (by omega)) (by omega) (by omega) (Nat.le_refl i) hn h6 h7
  unfold atoG
  split
  · rename_i h; exact one _ _ _ (k_lt h (by decide)) (ne_k h (by decide)) (by decide) (ht.b i (k_lt h (by decide))).1
  split
  · rename_i h; exact one _ _ _ (isK_lt h) (ne_isK h) (by decide) (by decide)
  split
  · rename_i h; exact one _ _ _ (isK_lt h) (ne_isK h) (by decide) (by decide)
  split
  · rename_i h; exact one _ _ _ (isK_lt h) (ne_isK h) (by decide) (by decide)
  split
  · rename_i h; exact one _ _ _ (k_lt h.1 (by decide)) (ne_k h.1 (by decide)) (by decide) (by decide)
  split
  · rename_i h
    have := isK_lt h
    have hp := hE (i + 1) (by omega)
    split
    · rename_i h2; exact pl_err h2
    · rename_i h2
      have h2 : (E (i + 1)).2.2 = 0 := by simpa using h2
      have hy := hp.yes h2
      have q := pl_up ht (hS (i + 1) (by omega)) (Nat.le_succ i) (by omega) h2
      split
      · exact pl_bad
      · rename_i h3
        have := isK_lt (s := sParS) (ts := ts) (by simpa using h3)
        refine fun _ => ⟨q.fr, q.ft, ?_, q.wi, ne_isK (s := sParS) (by simpa using h3), q.al⟩
        have := q.zto
        have := to_to ht (show (E (i + 1)).2.1 - 1 ≤ (E (i + 1)).2.1 + 1 - 1 by omega) (by omega)
        dsimp only
        omega
  · exact calG_pl ht hE hS i hi
theorem bG_pl {R : Nat → Nat → Got} (hR : ∀ w j, j ≤ ts.length → OkG ts j (R w j)) (hS : ∀ w j, j ≤ ts.length → Pl ts j (R w j)) (w i : Nat) (hi : i ≤ ts.length) : Pl ts i (bG ts R w i) := by
  unfold bG
  split
  · rename_i h; exact lpL_pl ht h (hR _) (hS _) _ _ _ (hR _ i hi) (hS _ i hi)
  split
  · split
    · exact hS 7 i hi
    · rename_i h
      have hlt : i < ts.length := by
        unfold unN at h
        by_cases h1 : isK sNot (nxt ts i) = true
        · exact isK_lt h1
        · by_cases h2 : isK sMin (nxt ts i) = true
          · exact isK_lt h2
          · simp [h1, h2] at h
      split
      · rename_i h2; exact pl_err h2
      · rename_i h2
        have h2 : (R 6 (i + 1)).2.2 = 0 := by simpa using h2
        have hy := (hR 6 (i + 1) (by omega)).yes h2
        have := ps_snoc ht (ps_nil ht (Nat.le_succ i) (by omega)) (Nat.le_succ i) (Nat.le_refl (i + 1)) (hR 6 (i + 1) (by omega)) h2 (hS 6 (i + 1) (by omega))
        exact pl_mk ht (by simpa using this) (by omega) hy.2 (Nat.le_refl i) (hS 6 (i + 1) (by omega) h2).ne (by decide) (un_i6 i)
  split
  · exact lpP_pl ht (hR 1) (hS 1) _ _ (hR 8 i hi) (hS 8 i hi)
  · exact atoG_pl ht (hR 1) (hS 1) i hi
theorem pG_pl : ∀ (n w i : Nat), i ≤ ts.length → Pl ts i (pG ts n w i) := by
  intro n
  induction n with
  | zero => intro w i _; exact pl_bad
  | succ n ih => intro w i hi; exact bG_pl ht (pG_ok n) ih w i hi
theorem Q_pl (w i : Nat) (hi : i ≤ ts.length) : Pl ts i (Qx ts w i) := pG_pl ht _ w i hi
theorem tyG_pl : ∀ (n i : Nat), i ≤ ts.length → Pl ts i (tyG ts n i) := by
  have one : ∀ (i : Nat) (k : Int) (s : ByteArray), i < ts.length → (nxt ts i).k ≠ 5 → I6 k → Pl ts i (mk7 ts i (i + 1) k 0 s []) := fun i k s h hn h6 => pl_mk ht (ps_nil ht (by omega) (by omega)) (by omega) (by omega) (Nat.le_refl i) hn h6 (by decide)
  intro n
  induction n with
  | zero => intro i _; exact pl_bad
  | succ n ih =>
    intro i hi
    unfold tyG
    split
    · rename_i h; exact one i 1 _ (isK_lt h) (ne_isK h) (by decide)
    split
    · rename_i h; exact one i 2 _ (isK_lt h) (ne_isK h) (by decide)
    split
    · rename_i h
      have h0 := isK_lt h
      split
      · rename_i h1
        have h1 := k_lt h1 (by decide)
        split
        · rename_i h2
          have h2 := isK_lt h2
          obtain ⟨a1, a2, a3, a4⟩ := tyG_ok ts n (i + 3)
          split
          · rename_i h3
            have hy := a1 h3
            have := ps_snoc ht (ps_nil ht (show i ≤ i + 3 by omega) (by omega)) (by omega) (Nat.le_refl (i + 3)) (⟨a1, a2, fun _ => by omega⟩ : OkG ts (i + 3) (tyG ts n (i + 3))) h3 (ih (i + 3) (by omega))
            exact pl_mk ht (by simpa using this) (by omega) hy.2 (Nat.le_refl i) (ih (i + 3) (by omega) h3).ne (by decide) (ht.b (i + 1) (by omega)).1
          · rename_i h3; exact pl_err h3
        · exact pl_bad
      · exact pl_bad
    · split
      · rename_i h; exact one i 4 _ (k_lt h (by decide)) (ne_k h (by decide)) (by decide)
      · exact pl_bad
theorem itG_pl {R : Nat → Nat → Got} (hR : ∀ w j, j ≤ ts.length → OkS ts (if w = 2 then 1 else 0) j (R w j)) (hS : ∀ w j, j ≤ ts.length → Pl ts j (R w j)) (a : Nat) (k : Int) {n : Int} (hk6 : I6 k) (hn6 : I6 n) : ∀ (l : List It) (zto : Nat) (s : ByteArray) (ps : List VT) (c : Nat), c + sm ps + a ≤ zto → zto ≤ ts.length → Cr c l → PS ts a zto ps → (a < zto → (nxt ts (zto - 1)).k ≠ 5) → Pl ts a (itH ts R a k n l zto s ps)
  | [], zto, s, ps, c, h1, h2, h3, h4, h6 => by
    unfold Cr at h3
    rw [itH]
    exact pl_mk ht h4 (by omega) h2 (Nat.le_refl a) (h6 (by omega)) hk6 hn6
  | .sgn x :: l, zto, s, ps, c, h1, h2, h3, h4, h6 => by
    unfold itH
    split
    · rename_i h; have := isK_lt h; exact itG_pl hR hS a k hk6 hn6 l (zto + 1) s ps (c + 1) (by omega) (by omega) h3 (ps_mono ht h4 (by omega) (Nat.le_succ _) (by omega)) (fun _ => ne_isK h)
    · exact pl_bad
  | .nam :: l, zto, s, ps, c, h1, h2, h3, h4, h6 => by
    unfold itH
    split
    · rename_i h; have := k_lt h (by decide); exact itG_pl hR hS a k hk6 hn6 l (zto + 1) _ ps (c + 1) (by omega) (by omega) h3 (ps_mono ht h4 (by omega) (Nat.le_succ _) (by omega)) (fun _ => ne_k h (by decide))
    · exact pl_bad
  | .sub w :: l, zto, s, ps, c, h1, h2, h3, h4, h6 => by
    unfold itH
    have hr := hR w zto h2
    split
    · rename_i h
      have hy := hr.ok.yes h
      have hs := hr.sz h
      refine itG_pl hR hS a k hk6 hn6 l _ s _ _ ?_ hy.2 h3 (ps_snoc ht h4 (by omega) (Nat.le_refl zto) hr.ok h (hS w zto h2)) (fun _ => (hS w zto h2 h).ne)
      rw [sm_app]
      split at hs <;> split <;> omega
    · rename_i h; exact pl_err h
  | .els :: l, zto, s, ps, c, h1, h2, h3, h4, h6 => by
    unfold itH
    split
    · rename_i h
      have hlt := isK_lt h
      have hr := hR 2 (zto + 1) (by omega)
      split
      · rename_i h
        have hy := hr.ok.yes h
        have hs := hr.sz h
        refine itG_pl hR hS a k hk6 hn6 l _ s _ _ ?_ hy.2 h3.2 (ps_snoc ht h4 (by omega) (Nat.le_succ zto) hr.ok h (hS 2 _ (by omega))) (fun _ => (hS 2 _ (by omega) h).ne)
        rw [sm_app]
        rw [if_pos rfl] at hs
        omega
      · rename_i h; exact pl_err h
    · have h5 := h3.1
      refine itG_pl hR hS a k hk6 hn6 l zto s _ _ ?_ h2 h3.2 ⟨chl_snoc h4.ch ?_ (Int.le_refl _) ?_, fun y hy => ?_, fun y hy => ?_⟩ h6
      · rw [sm_app]
        show c - 1 + (sm ps + Tr.size (Tr.mk _ [])) + a ≤ zto
        rw [Tr.size_mk]
        simp
        omega
      · rw [show pe ts a zto = toT ts (zto - 1) from if_pos (by omega)]; exact Int.le_refl _
      · rw [show pe ts a zto = toT ts (zto - 1) from if_pos (by omega)]; exact Int.le_refl _
      · rcases List.mem_append.1 hy with h | h
        · exact h4.wi y h
        · rw [List.mem_singleton.1 h]; exact .mk _ _ (Int.le_refl _) (fun y h => by cases h)
      · rcases List.mem_append.1 hy with h | h
        · exact h4.al y h
        · rw [List.mem_singleton.1 h]
          have := (ht.b (zto - 1) (by omega)).2.2
          exact (Tr.all_mk _ _ _).2 ⟨⟨by show I6 29; decide, by show I6 0; decide, this, this⟩, fun y h => by cases h⟩
theorem lpB_pl {S : Nat → Got} (hS : ∀ j, j ≤ ts.length → OkS ts 0 j (S j)) (hP : ∀ j, j ≤ ts.length → Pl ts j (S j)) (a : Nat) : ∀ (m zto : Nat) (acc : List VT), a < zto → zto ≤ ts.length → PS ts a zto acc → Pl ts a (lpB ts S a m zto acc) := by
  intro m
  induction m with
  | zero => intro zto acc _ _ _; exact pl_bad
  | succ m ih =>
    intro zto acc h1 h2 h3
    unfold lpB
    split
    · rename_i h
      have hlt := isK_lt h
      exact pl_mk ht (ps_mono ht h3 (by omega) (Nat.le_succ _) (by omega)) (by omega) (by omega) (Nat.le_refl a) (ne_isK h) (by decide) (by decide)
    · have hr := hS zto h2
      split
      · rename_i h
        have hy := hr.ok.yes h
        exact ih _ _ (by omega) hy.2 (ps_snoc ht h3 (by omega) (Nat.le_refl zto) hr.ok h (hP zto h2))
      · rename_i h; exact pl_err h
theorem blG_pl {S : Nat → Got} (hS : ∀ j, j ≤ ts.length → OkS ts 0 j (S j)) (hP : ∀ j, j ≤ ts.length → Pl ts j (S j)) (i : Nat) (hi : i ≤ ts.length) : Pl ts i (blG ts S i) := by
  unfold blG
  split
  · rename_i h; have := isK_lt h; exact lpB_pl ht hS hP i _ _ _ (Nat.lt_succ_self i) (by omega) (ps_nil ht (by omega) (by omega))
  · exact pl_bad
theorem RR_pl {S : Nat → Got} (hS : ∀ j, j ≤ ts.length → OkS ts 0 j (S j)) (hP : ∀ j, j ≤ ts.length → Pl ts j (S j)) (w j : Nat) (hj : j ≤ ts.length) : Pl ts j (RR ts S w j) := by
  unfold RR
  split
  · exact Q_pl ht 1 j hj
  split
  · exact tyG_pl ht _ j hj
  · exact blG_pl ht hS hP j hj
theorem sG_pl : ∀ (n i : Nat), i ≤ ts.length → Pl ts i (sG ts n i) := by
  intro n
  induction n with
  | zero => intro i _; exact pl_bad
  | succ n ih =>
    intro i hi
    unfold sG
    split
    · exact blG_pl ht (sG_ok n) ih i hi
    · exact itG_pl ht (RR_ok (sG_ok n)) (RR_pl ht (sG_ok n) ih) i _ (frm_i6 i) (by decide) _ i _ [] 0 (by simp [sm]) hi (frm_cr i) (ps_nil ht (Nat.le_refl i) hi) (fun h => absurd h (Nat.lt_irrefl i))
end
end Go.Proofs.YtlkggpjdaaglmaaGreatDoor.vt
end
