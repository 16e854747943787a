import Derived.Test.YthkfdheoakbfnaaPkS6
import Derived.ChangeOld
import Derived.OpenShut
import Derived.Below
import Derived.Test.YthkfdheoakbfnaaPkS3
import Derived.Test.YthkfdheoakbfnaaPkS2
section
namespace Go.Proofs.Ythkfdheoakbfnaa.vt
open Go.Proofs.Ythkfdheoakbfnaa.am
set_option linter.unusedVariables false
abbrev wLet : ByteArray := ⟨#[108, 101, 116]⟩
abbrev wIf : ByteArray := ⟨#[105, 102]⟩
abbrev wElse : ByteArray := ⟨#[101, 108, 115, 101]⟩
abbrev wWhil : ByteArray := ⟨#[119, 104, 105, 108, 101]⟩
abbrev wFor : ByteArray := ⟨#[102, 111, 114]⟩
abbrev wTo : ByteArray := ⟨#[116, 111]⟩
abbrev wPrin : ByteArray := ⟨#[112, 114, 105, 110, 116]⟩
abbrev wRet : ByteArray := ⟨#[114, 101, 116, 117, 114, 110]⟩
abbrev wDo : ByteArray := ⟨#[100, 111]⟩
abbrev sBra : ByteArray := ⟨#[123]⟩
abbrev sKet : ByteArray := ⟨#[125]⟩
abbrev sCol : ByteArray := ⟨#[58]⟩
abbrev sIs : ByteArray := ⟨#[61]⟩
abbrev sEnd : ByteArray := ⟨#[59]⟩
inductive It where
  | sgn (s : ByteArray)
  | nam
  | sub (w : Nat)
  | els
section
variable (ts : List Tok)
def frmG (i : Nat) : Int × List It :=
  if isK wLet (nxt ts i) = true then
    if (nxt ts (i + 1)).k = 1 ∧ isK sCol (nxt ts (i + 2)) = true then (21, [.sgn wLet, .nam, .sgn sCol, .sub 1, .sgn sEnd])
    else (20, [.sgn wLet, .nam, .sgn sIs, .sub 0, .sgn sEnd])
  else if isK wIf (nxt ts i) = true then (23, [.sgn wIf, .sub 0, .sub 2, .els])
  else if isK wWhil (nxt ts i) = true then (24, [.sgn wWhil, .sub 0, .sub 2])
  else if isK wFor (nxt ts i) = true then (25, [.sgn wFor, .nam, .sgn sIs, .sub 0, .sgn wTo, .sub 0, .sub 2])
  else if isK wPrin (nxt ts i) = true then (26, [.sgn wPrin, .sub 0, .sgn sEnd])
  else if isK wRet (nxt ts i) = true then (27, [.sgn wRet, .sub 0, .sgn sEnd])
  else if isK wDo (nxt ts i) = true then (28, [.sgn wDo, .sub 0, .sgn sEnd])
  else (22, [.sub 0, .sgn sIs, .sub 0, .sgn sEnd])
def emB (zto : Nat) : VT := .mk ⟨29, 0, ⟨#[]⟩, toT ts (zto - 1), toT ts (zto - 1)⟩ []
def itH (R : Nat → Nat → Got) (a : Nat) (k n : Int) : List It → Nat → ByteArray → List VT → Got
  | [], zto, s, ps => mk7 ts a zto k n s ps
  | .sgn x :: l, zto, s, ps => if isK x (nxt ts zto) = true then itH R a k n l (zto + 1) s ps else bad7 zto
  | .nam :: l, zto, s, ps => if (nxt ts zto).k = 1 then itH R a k n l (zto + 1) (nxt ts zto).s ps else bad7 zto
  | .sub w :: l, zto, s, ps => if (R w zto).2.2 = 0 then itH R a k n l (R w zto).2.1 s (ps ++ [(R w zto).1]) else R w zto
  | .els :: l, zto, s, ps => if isK wElse (nxt ts zto) = true then if (R 2 (zto + 1)).2.2 = 0 then itH R a k n l (R 2 (zto + 1)).2.1 s (ps ++ [(R 2 (zto + 1)).1]) else R 2 (zto + 1) else itH R a k n l zto s (ps ++ [emB ts zto])
def lpB (S : Nat → Got) (a : Nat) : Nat → Nat → List VT → Got
  | 0, zto, acc => bad7 zto
  | m + 1, zto, acc => if isK sKet (nxt ts zto) = true then mk7 ts a (zto + 1) 29 0 ⟨#[]⟩ acc else if (S zto).2.2 = 0 then lpB S a m (S zto).2.1 (acc ++ [(S zto).1]) else S zto
def blG (S : Nat → Got) (i : Nat) : Got := if isK sBra (nxt ts i) = true then lpB ts S i (ts.length + 1) (i + 1) [] else bad7 i
def RR (S : Nat → Got) (w i : Nat) : Got := if w = 0 then Qx ts 1 i else if w = 1 then tyG ts (ts.length + 1) i else blG ts S i
def sG : Nat → Nat → Got
  | 0, i => bad7 i
  | n + 1, i => if isK sBra (nxt ts i) = true then blG ts (sG n) i else itH ts (RR ts (sG n)) i (frmG ts i).1 0 (frmG ts i).2 i ⟨#[]⟩ []
end
section
variable {ts : List Tok}
def Cr : Nat → List It → Prop
  | c, [] => 1 ≤ c
  | c, .sgn _ :: l => Cr (c + 1) l
  | c, .nam :: l => Cr (c + 1) l
  | c, .sub w :: l => Cr (if w = 2 then c + 1 else c) l
  | c, .els :: l => 1 < c ∧ Cr (c - 1) l
structure OkS (ts : List Tok) (c i : Nat) (x : Got) : Prop where
  ok : OkG ts i x
  sz : x.2.2 = 0 → x.1.size + c + i ≤ x.2.1
theorem oks_bad {c i j : Nat} (h : i ≤ ts.length → i ≤ j ∧ j ≤ ts.length) : OkS ts c i (bad7 j) := ⟨ok_bad h, fun h => by simp [bad7] at h⟩
theorem oks_mono {c i j : Nat} {x : Got} (h : OkS ts c j x) (hij : i ≤ j) (hj : j ≤ ts.length) : OkS ts c i x :=
  ⟨⟨fun h0 => ⟨by have := h.ok.yes h0; omega, (h.ok.yes h0).2⟩, h.ok.no, fun _ => by have := h.ok.le hj; omega⟩, fun h0 => by have := h.sz h0; omega⟩
theorem oks_zero {c i : Nat} {x : Got} (h : OkS ts c i x) : OkS ts 0 i x := ⟨h.ok, fun h0 => by have := h.sz h0; omega⟩
theorem oks_err {c i : Nat} {x : Got} (h : OkS ts 0 i x) (h0 : x.2.2 ≠ 0) : OkS ts c i x := ⟨h.ok, fun h1 => absurd h1 h0⟩
theorem itG_ok {R : Nat → Nat → Got} (hR : ∀ w j, j ≤ ts.length → OkS ts (if w = 2 then 1 else 0) j (R w j)) (a : Nat) (k : Int) {n : Int} : ∀ (l : List It) (zto : Nat) (s : ByteArray) (ps : List VT) (c : Nat), c + sm ps + a ≤ zto → zto ≤ ts.length → Cr c l → OkS ts 0 a (itH ts R a k n l zto s ps)
  | [], zto, s, ps, c, h1, h2, h3 => by
    unfold Cr at h3
    exact ⟨ok_mk (by omega) h2, fun h0 => by have := sz_mk (ts := ts) (i := a) (b := zto) (k := k) (n := n) (s := s) (l := ps) (by omega) h0; exact this⟩
  | .sgn x :: l, zto, s, ps, c, h1, h2, h3 => by
    unfold itH
    split
    · rename_i h; have := isK_lt h; exact itG_ok hR a k l (zto + 1) s ps (c + 1) (by omega) (by omega) h3
    · exact oks_bad (fun _ => by omega)
  | .nam :: l, zto, s, ps, c, h1, h2, h3 => by
    unfold itH
    split
    · rename_i h; have := k_lt h (by decide); exact itG_ok hR a k l (zto + 1) _ ps (c + 1) (by omega) (by omega) h3
    · exact oks_bad (fun _ => by omega)
  | .sub w :: l, zto, s, ps, c, h1, h2, h3 => by
    unfold itH
    have hr := hR w zto h2
    split
    · rename_i h
      have hy := hr.ok.yes h
      have hs := hr.sz h
      refine itG_ok hR a k l _ s _ _ ?_ hy.2 h3
      rw [sm_app]
      split at hs <;> split <;> omega
    · rename_i h; exact oks_err (oks_mono (oks_zero hr) (by omega) h2) h
  | .els :: l, zto, s, ps, c, h1, h2, h3 => by
    unfold itH
    split
    · rename_i h
      have hlt := isK_lt h
      have hr := hR 2 (zto + 1) (by omega)
      split
      · rename_i h
        have hy := hr.ok.yes h
        have hs := hr.sz h
        refine itG_ok hR a k l _ s _ _ ?_ hy.2 h3.2
        rw [sm_app]
        rw [if_pos rfl] at hs
        omega
      · rename_i h; exact oks_err (oks_mono (oks_zero hr) (by omega) (by omega)) h
    · refine itG_ok hR a k l zto s _ _ ?_ h2 h3.2
      rw [sm_app]
      have h4 := h3.1
      show c - 1 + (sm ps + Tr.size (Tr.mk _ [])) + a ≤ zto
      rw [Tr.size_mk]
      simp
      omega
theorem lpB_ok {S : Nat → Got} (hS : ∀ j, j ≤ ts.length → OkS ts 0 j (S j)) (a : Nat) : ∀ (m zto : Nat) (acc : List VT), a + 1 + sm acc ≤ zto → zto ≤ ts.length → OkS ts 1 a (lpB ts S a m zto acc)
  | 0, zto, acc, h1, h2 => oks_bad (fun _ => by omega)
  | m + 1, zto, acc, h1, h2 => by
    unfold lpB
    split
    · rename_i h
      have hlt := isK_lt h
      refine ⟨ok_mk (by omega) (by omega), fun h0 => ?_⟩
      show Tr.size (Tr.mk _ acc) + 1 + a ≤ zto + 1
      rw [Tr.size_mk]
      unfold sm at h1
      omega
    · have hr := hS zto h2
      split
      · rename_i h
        have hy := hr.ok.yes h
        have hs := hr.sz h
        exact lpB_ok hS a m _ _ (by rw [sm_app]; omega) hy.2
      · rename_i h; exact oks_err (oks_mono hr (by omega) h2) h
theorem blG_ok {S : Nat → Got} (hS : ∀ j, j ≤ ts.length → OkS ts 0 j (S j)) (i : Nat) (hi : i ≤ ts.length) : OkS ts 1 i (blG ts S i) := by
  unfold blG
  split
  · rename_i h; have := isK_lt h; exact lpB_ok hS i _ _ _ (by simp [sm]) (by omega)
  · exact oks_bad (fun _ => by omega)
theorem tyG_sz : ∀ n i, (tyG ts n i).2.2 = 0 → (tyG ts n i).1.size + i ≤ (tyG ts n i).2.1
  | 0, i => by simp [tyG]
  | n + 1, i => by
    have ih := tyG_sz n (i + 3)
    unfold tyG
    split
    · simp [Tr.size_mk]; omega
    split
    · simp [Tr.size_mk]; omega
    split
    · split
      · split
        · split
          · rename_i h
            have := ih h
            simp [Tr.size_mk]; omega
          · exact fun h => by rename_i h1; exact absurd h h1
        · simp
      · simp
    · split
      · simp [Tr.size_mk]; omega
      · simp
theorem tyG_oks (i : Nat) (hi : i ≤ ts.length) : OkS ts 0 i (tyG ts (ts.length + 1) i) := by
  obtain ⟨h1, h2, h3, h4⟩ := tyG_ok ts (ts.length + 1) i
  have hle : ∀ n i, i ≤ ts.length → i ≤ (tyG ts n i).2.1 := by
    intro n
    induction n with
    | zero => intro i _; exact Nat.le_refl _
    | succ n ih =>
      intro i hi
      unfold tyG
      split
      · simp
      split
      · simp
      split
      · rename_i h
        have h := isK_lt h
        split
        · rename_i h1
          have h1 := k_lt h1 (by decide)
          split
          · rename_i h2
            have h2 := isK_lt h2
            have := ih (i + 3) (by omega)
            split
            · dsimp only; omega
            · omega
          · simp
        · simp
      · split <;> simp
  exact ⟨⟨h1, h2, fun _ => ⟨hle _ i hi, h3 hi⟩⟩, fun h => by have := tyG_sz _ _ h; omega⟩
theorem RR_ok {S : Nat → Got} (hS : ∀ j, j ≤ ts.length → OkS ts 0 j (S j)) (w j : Nat) (hj : j ≤ ts.length) : OkS ts (if w = 2 then 1 else 0) j (RR ts S w j) := by
  unfold RR
  by_cases h0 : w = 0
  · rw [if_pos h0, if_neg (by omega)]
    exact ⟨Q_ok 1 j hj, fun h => by have := pG_sz (ts := ts) _ 1 j hj h; exact this⟩
  · rw [if_neg h0]
    by_cases h1 : w = 1
    · rw [if_pos h1, if_neg (by omega)]; exact tyG_oks j hj
    · rw [if_neg h1]
      have := blG_ok hS j hj
      split
      · exact this
      · exact oks_zero this
theorem frm_cr (i : Nat) : Cr 0 (frmG ts i).2 := by
  unfold frmG
  repeat' split
  all_goals simp [Cr]
theorem sG_ok : ∀ (n i : Nat), i ≤ ts.length → OkS ts 0 i (sG ts n i)
  | 0, i, hi => oks_bad (fun _ => ⟨Nat.le_refl _, hi⟩)
  | n + 1, i, hi => by
    unfold sG
    split
    · exact oks_zero (blG_ok (sG_ok n) i hi)
    · exact itG_ok (RR_ok (sG_ok n)) i _ _ i _ [] 0 (by simp [sm]) hi (frm_cr i)
def WT (ts : List Tok) (s : ByteArray) (p : Nat × Int) : Nat × Int := if p.2 = 0 then if isK s (nxt ts p.1) = true then (p.1 + 1, 0) else (p.1, 6) else p
def OT (G : Nat → Got) (p : Nat × Int) : Got := if p.2 = 0 then G p.1 else (z0, p.1, p.2)
theorem itG_sgn {R : Nat → Nat → Got} {a : Nat} {k n : Int} {x : ByteArray} {l : List It} {zto : Nat} {s : ByteArray} {ps : List VT} : itH ts R a k n (.sgn x :: l) zto s ps = if isK x (nxt ts zto) = true then itH ts R a k n l (zto + 1) s ps else bad7 zto := by rw [itH]
theorem itG_nam {R : Nat → Nat → Got} {a : Nat} {k n : Int} {l : List It} {zto : Nat} {s : ByteArray} {ps : List VT} : itH ts R a k n (.nam :: l) zto s ps = if (nxt ts zto).k = 1 then itH ts R a k n l (zto + 1) (nxt ts zto).s ps else bad7 zto := by rw [itH]
theorem itG_sub {R : Nat → Nat → Got} {a : Nat} {k n : Int} {w : Nat} {l : List It} {zto : Nat} {s : ByteArray} {ps : List VT} : itH ts R a k n (.sub w :: l) zto s ps = if (R w zto).2.2 = 0 then itH ts R a k n l (R w zto).2.1 s (ps ++ [(R w zto).1]) else R w zto := by rw [itH]
theorem itG_els {R : Nat → Nat → Got} {a : Nat} {k n : Int} {l : List It} {zto : Nat} {s : ByteArray} {ps : List VT} : itH ts R a k n (.els :: l) zto s ps = if isK wElse (nxt ts zto) = true then if (R 2 (zto + 1)).2.2 = 0 then itH ts R a k n l (R 2 (zto + 1)).2.1 s (ps ++ [(R 2 (zto + 1)).1]) else R 2 (zto + 1) else itH ts R a k n l zto s (ps ++ [emB ts zto]) := by rw [itH]
end
end Go.Proofs.Ythkfdheoakbfnaa.vt
end
section
namespace Go.Proofs.Ythkfdheoakbfnaa.vt
open Go.Proofs.Ythkfdheoakbfnaa.am
set_option linter.unusedVariables false
def ChL (lo hi : Int) : List VT → Prop
  | [] => lo ≤ hi
  | y :: l => lo ≤ y.lab.f ∧ y.lab.f ≤ y.lab.t ∧ ChL y.lab.t hi l
inductive Wi : VT → Prop where
  | mk (x : Lab) (l : List VT) (hc : ChL x.f x.t l) (hl : ∀ y ∈ l, Wi y) : Wi (.mk x l)
def I6 (z : Int) : Prop := -9223372036854775808 ≤ z ∧ z ≤ 9223372036854775807
instance (z : Int) : Decidable (I6 z) := by unfold I6; infer_instance
def A6 (x : Lab) : Prop := I6 x.k ∧ I6 x.n ∧ I6 x.f ∧ I6 x.t
structure TO (ts : List Tok) : Prop where
  b : ∀ i, i < ts.length → I6 (nxt ts i).n ∧ I6 (nxt ts i).f ∧ I6 (nxt ts i).t
  w : ∀ i, i < ts.length → frT ts i ≤ toT ts i
  o : ∀ i, i + 1 < ts.length → toT ts i ≤ frT ts (i + 1)
section
variable {ts : List Tok} (ht : TO ts)
include ht
omit ht
structure PlG (ts : List Tok) (i : Nat) (x : Got) : Prop where
  fr : frT ts i ≤ x.1.lab.f
  ft : x.1.lab.f ≤ x.1.lab.t
  zto : x.1.lab.t ≤ toT ts (x.2.1 - 1)
  wi : Wi x.1
  ne : (nxt ts (x.2.1 - 1)).k ≠ 5
  al : Tr.all A6 x.1
def pe (ts : List Tok) (a zto : Nat) : Int := if a < zto then toT ts (zto - 1) else frT ts a
structure PS (ts : List Tok) (a zto : Nat) (l : List VT) : Prop where
  ch : ChL (frT ts a) (pe ts a zto) l
  wi : ∀ y ∈ l, Wi y
  al : ∀ y ∈ l, Tr.all A6 y
include ht
omit ht in
theorem ne_isK {s : ByteArray} {j : Nat} (h : isK s (nxt ts j) = true) : (nxt ts j).k ≠ 5 := by
  have : (nxt ts j).k = quo s := by unfold isK at h; simp at h; exact h.1
  rcases quo_34 s with h1 | h1 <;> omega
omit ht in
theorem ne_k {k : Int} {j : Nat} (h : (nxt ts j).k = k) (hk : k ≠ 5) : (nxt ts j).k ≠ 5 := by omega
end
end Go.Proofs.Ythkfdheoakbfnaa.vt
end
section
namespace Go.Proofs.Ythkfdheoakbfnaa.vt
open Go.Proofs.Ythkfdheoakbfnaa.am
set_option linter.unusedVariables false
def Ne5 (ts : List Tok) (i j : Nat) : Prop := i < j → (nxt ts (j - 1)).k ≠ 5
section
variable {ts : List Tok}
theorem ne_self {i : Nat} : Ne5 ts i i := fun h => absurd h (Nat.lt_irrefl i)
theorem ne_next {i j : Nat} (h : (nxt ts j).k ≠ 5) : Ne5 ts i (j + 1) := fun _ => h
theorem ne_up {i j m : Nat} (h : Ne5 ts j m) (hm : j ≤ m) (hp : Ne5 ts i j) (hij : i ≤ j) : Ne5 ts i m := fun hi => by
  rcases Nat.lt_or_ge j m with h1 | h1
  · exact h h1
  · have : m = j := by omega
    subst this; exact hp hi
theorem lpL_ne {P : Nat → Got} {l a : Nat} (hl : l ≤ 5) (hP : ∀ j, j ≤ ts.length → OkG ts j (P j)) (hS : ∀ j, j ≤ ts.length → Ne5 ts j (P j).2.1) : ∀ (m : Nat) (t : Bool) (x : Got), OkG ts a x → Ne5 ts a x.2.1 → Ne5 ts a (lpL ts P l a m t x).2.1 := by
  intro m
  induction m with
  | zero => intro t x hx hs; exact hs
  | succ m ih =>
    intro t x hx hs
    unfold lpL
    split
    · exact hs
    · rename_i h0
      have h0 : x.2.2 = 0 := by simpa using h0
      split
      · exact hs
      · rename_i h1
        have h1 : (opK (nxt ts x.2.1)).2 = l := by simpa using (not_or.1 h1).1
        have hlt := op_lt h1 hl
        have hk : (nxt ts x.2.1).k ≠ 5 := by
          intro h5
          unfold opK at h1
          rw [if_neg (by omega)] at h1
          dsimp only at h1
          omega
        have hp := hP (x.2.1 + 1) (by omega)
        have hq := hS (x.2.1 + 1) (by omega)
        have hy := hx.yes h0
        have hn : Ne5 ts a (P (x.2.1 + 1)).2.1 := ne_up hq (hp.le (by omega)).1 (ne_next hk) (by omega)
        split
        · exact hn
        · rename_i h2
          have h2 : (P (x.2.1 + 1)).2.2 = 0 := by simpa using h2
          have := hp.yes h2
          exact ih true _ (ok_mk (by omega) this.2) hn
theorem lpP_ne {E : Nat → Got} {a : Nat} (hE : ∀ j, j ≤ ts.length → OkG ts j (E j)) (hS : ∀ j, j ≤ ts.length → Ne5 ts j (E j).2.1) : ∀ (m : Nat) (x : Got), OkG ts a x → Ne5 ts a x.2.1 → Ne5 ts a (lpP ts E a m x).2.1 := by
  intro m
  induction m with
  | zero => intro x hx hs; exact hs
  | succ m ih =>
    intro x hx hs
    unfold lpP
    split
    · exact hs
    · rename_i h0
      have h0 : x.2.2 = 0 := by simpa using h0
      have hy := hx.yes h0
      split
      · rename_i h1
        have hlt := isK_lt h1
        have hp := hE (x.2.1 + 1) (by omega)
        have hn : Ne5 ts a (E (x.2.1 + 1)).2.1 := ne_up (hS (x.2.1 + 1) (by omega)) (hp.le (by omega)).1 (ne_next (ne_isK h1)) (by omega)
        split
        · exact hn
        · rename_i h2
          have h2 : (E (x.2.1 + 1)).2.2 = 0 := by simpa using h2
          have hyy := hp.yes h2
          split
          · exact hn
          · rename_i h3
            have h3 : isK sShut (nxt ts (E (x.2.1 + 1)).2.1) = true := by simpa using h3
            have := isK_lt h3
            exact ih _ (ok_mk (by omega) (by omega)) (ne_next (ne_isK h3))
      · split
        · rename_i h1
          have hlt := isK_lt h1
          split
          · exact ne_next (ne_isK h1)
          · rename_i h3
            have h3 : (nxt ts (x.2.1 + 1)).k = 1 := by simpa using h3
            have := k_lt h3 (by decide)
            exact ih _ (ok_mk (by omega) (by omega)) (ne_next (ne_k h3 (by decide)))
        · exact hs
theorem lpC_ne {E : Nat → Got} (hE : ∀ j, j ≤ ts.length → OkG ts j (E j)) (hS : ∀ j, j ≤ ts.length → Ne5 ts j (E j).2.1) (a : Nat) : ∀ (m i : Nat) (acc : List VT), a ≤ i → i ≤ ts.length → Ne5 ts a i → Ne5 ts a (lpC ts E m i acc).2.1 := by
  intro m
  induction m with
  | zero => intro i acc _ _ hs; exact hs
  | succ m ih =>
    intro i acc hai hi hs
    unfold lpC
    have hp := hE i hi
    have hn : Ne5 ts a (E i).2.1 := ne_up (hS i hi) (hp.le hi).1 hs hai
    have hle := hp.le hi
    split
    · exact hn
    · split
      · exact hn
      · rename_i h2
        have h2 : isK sCom (nxt ts (E i).2.1) = true := by simpa using h2
        have hlt := isK_lt h2
        exact ih _ _ (by omega) (by omega) (ne_next (ne_isK h2))
theorem cloG_ne5 {E : Nat → Got} (hE : ∀ j, j ≤ ts.length → OkG ts j (E j)) (hS : ∀ j, j ≤ ts.length → Ne5 ts j (E j).2.1) (a : Nat) {o : Nat} (hao : a ≤ o) (few : Bool) (fs ls : ByteArray) (ho : o ≤ ts.length) (hp : Ne5 ts a o) : Ne5 ts a (cloG ts E o few fs ls).2.1 := by
  unfold cloG
  split
  · exact hp
  · rename_i h0
    have h0 : isK fs (nxt ts o) = true := by simpa using h0
    have hlt := isK_lt h0
    split
    · rename_i h1; exact ne_next (ne_isK h1.2)
    · have hc := lpC_ne hE hS a (ts.length + 1) (o + 1) [] (by omega) (by omega) (ne_next (ne_isK h0))
      split
      · exact hc
      · split
        · exact hc
        · rename_i h3; exact ne_next (ne_isK (s := ls) (by simpa using h3))
theorem fin_ne5 {a i : Nat} {k : Int} {s : ByteArray} {c : List VT × Nat × Int} (h : Ne5 ts a c.2.1) : Ne5 ts a (finC ts i k s c).2.1 := by
  unfold finC
  split <;> exact h
theorem calG_ne5 {E : Nat → Got} (hE : ∀ j, j ≤ ts.length → OkG ts j (E j)) (hS : ∀ j, j ≤ ts.length → Ne5 ts j (E j).2.1) (i : Nat) (hi : i ≤ ts.length) : Ne5 ts i (calG ts E i).2.1 := by
  unfold calG
  split
  · rename_i h; have := k_lt h (by decide); exact fin_ne5 (cloG_ne5 hE hS i (by omega) true sParO sParS (by omega) (ne_next (ne_k h (by decide))))
  split
  · rename_i h; have := isK_lt h; exact fin_ne5 (cloG_ne5 hE hS i (by omega) false sOpen sShut (by omega) ne_self)
  split
  · rename_i h; have := isK_lt h
    split
    · exact ne_next (ne_isK h)
    · rename_i h2
      have h2 : (nxt ts (i + 1)).k = 1 := by simpa using h2
      have := k_lt h2 (by decide)
      exact fin_ne5 (cloG_ne5 hE hS i (by omega) true sParO sParS (by omega) (ne_next (ne_k h2 (by decide))))
  split
  · rename_i h; have := isK_lt h
    split
    · exact ne_next (ne_isK h)
    · rename_i h2
      have h2 : (nxt ts (i + 1)).k = 1 := by simpa using h2
      have := k_lt h2 (by decide)
      exact fin_ne5 (cloG_ne5 hE hS i (by omega) false sParO sParS (by omega) (ne_next (ne_k h2 (by decide))))
  · exact ne_self
theorem atoG_ne5 {E : Nat → Got} (hE : ∀ j, j ≤ ts.length → OkG ts j (E j)) (hS : ∀ j, j ≤ ts.length → Ne5 ts j (E j).2.1) (i : Nat) (hi : i ≤ ts.length) : Ne5 ts i (atoG ts E i).2.1 := by
  unfold atoG
  split
  · rename_i h; exact ne_next (ne_k h (by decide))
  split
  · rename_i h; exact ne_next (ne_isK h)
  split
  · rename_i h; exact ne_next (ne_isK h)
  split
  · rename_i h; exact ne_next (ne_isK h)
  split
  · rename_i h; exact ne_next (ne_k h.1 (by decide))
  split
  · rename_i h
    have := isK_lt h
    have hp := hE (i + 1) (by omega)
    have hn : Ne5 ts i (E (i + 1)).2.1 := ne_up (hS (i + 1) (by omega)) (hp.le (by omega)).1 (ne_next (ne_isK h)) (by omega)
    split
    · exact hn
    · split
      · exact hn
      · rename_i h3; exact ne_next (ne_isK (s := sParS) (by simpa using h3))
  · exact calG_ne5 hE hS i hi
theorem bG_ne5 {R : Nat → Nat → Got} (hR : ∀ w j, j ≤ ts.length → OkG ts j (R w j)) (hS : ∀ w j, j ≤ ts.length → Ne5 ts j (R w j).2.1) (w i : Nat) (hi : i ≤ ts.length) : Ne5 ts i (bG ts R w i).2.1 := by
  unfold bG
  split
  · rename_i h; exact lpL_ne h (hR _) (hS _) _ _ _ (hR _ i hi) (hS _ i hi)
  split
  · split
    · exact hS 7 i hi
    · rename_i h
      have hne : i < ts.length ∧ (nxt ts i).k ≠ 5 := by
        unfold unN at h
        by_cases h1 : isK sNot (nxt ts i) = true
        · exact ⟨isK_lt h1, ne_isK h1⟩
        · by_cases h2 : isK sMin (nxt ts i) = true
          · exact ⟨isK_lt h2, ne_isK h2⟩
          · simp [h1, h2] at h
      have hn : Ne5 ts i (R 6 (i + 1)).2.1 := ne_up (hS 6 (i + 1) (by omega)) ((hR 6 (i + 1) (by omega)).le (by omega)).1 (ne_next hne.2) (by omega)
      split
      · exact hn
      · exact hn
  split
  · exact lpP_ne (hR 1) (hS 1) _ _ (hR 8 i hi) (hS 8 i hi)
  · exact atoG_ne5 (hR 1) (hS 1) i hi
theorem pG_ne5 : ∀ (n w i : Nat), i ≤ ts.length → Ne5 ts i (pG ts n w i).2.1 := by
  intro n
  induction n with
  | zero => intro w i _; exact ne_self
  | succ n ih => intro w i hi; exact bG_ne5 (pG_ok n) ih w i hi
theorem Q_ne5 (w i : Nat) (hi : i ≤ ts.length) : Ne5 ts i (Qx ts w i).2.1 := pG_ne5 _ w i hi
theorem tyG_ne5 : ∀ (n i : Nat), i ≤ ts.length → Ne5 ts i (tyG ts n i).2.1 := by
  intro n
  induction n with
  | zero => intro i _; exact ne_self
  | succ n ih =>
    intro i hi
    unfold tyG
    split
    · rename_i h; exact ne_next (ne_isK h)
    split
    · rename_i h; exact ne_next (ne_isK h)
    split
    · rename_i h
      split
      · rename_i h1
        split
        · rename_i h2
          have hl := isK_lt h2
          have hn : Ne5 ts i (tyG ts n (i + 3)).2.1 := by
            by_cases h4 : i + 3 < (tyG ts n (i + 3)).2.1
            · exact fun _ => ih (i + 3) (by omega) h4
            · intro h5
              have h6 : ∀ n i, i ≤ ts.length → i ≤ (tyG ts n i).2.1 := by
                intro n
                induction n with
                | zero => intro i _; exact Nat.le_refl _
                | succ n ih =>
                  intro i hi
                  unfold tyG
                  split
                  · simp
                  split
                  · simp
                  split
                  · split
                    · split
                      · rename_i h9
                        have h9 := isK_lt h9
                        have := ih (i + 3) (by omega)
                        split
                        · dsimp only; omega
                        · omega
                      · simp
                    · simp
                  · split <;> simp
              have := h6 n (i + 3) (by omega)
              have e : (tyG ts n (i + 3)).2.1 = i + 3 := by omega
              rw [e]
              exact ne_isK h2
          split
          · exact hn
          · exact hn
        · exact ne_next (ne_k h1 (by decide))
      · exact ne_next (ne_isK h)
    · split
      · rename_i h; exact ne_next (ne_k h (by decide))
      · exact ne_self
theorem itH_ne5 {R : Nat → Nat → Got} (hR : ∀ w j, j ≤ ts.length → OkG ts j (R w j)) (hS : ∀ w j, j ≤ ts.length → Ne5 ts j (R w j).2.1) (i a : Nat) (k n : Int) : ∀ (l : List It) (zto : Nat) (s : ByteArray) (ps : List VT), i ≤ zto → zto ≤ ts.length → Ne5 ts i zto → Ne5 ts i (itH ts R a k n l zto s ps).2.1
  | [], zto, s, ps, h1, h2, h3 => by rw [itH]; exact h3
  | .sgn x :: l, zto, s, ps, h1, h2, h3 => by
    unfold itH
    split
    · rename_i h; have := isK_lt h; exact itH_ne5 hR hS i a k n l (zto + 1) s ps (by omega) (by omega) (ne_next (ne_isK h))
    · exact h3
  | .nam :: l, zto, s, ps, h1, h2, h3 => by
    unfold itH
    split
    · rename_i h; have := k_lt h (by decide); exact itH_ne5 hR hS i a k n l (zto + 1) _ ps (by omega) (by omega) (ne_next (ne_k h (by decide)))
    · exact h3
  | .sub w :: l, zto, s, ps, h1, h2, h3 => by
    have hr := hR w zto h2
    have hn : Ne5 ts i (R w zto).2.1 := ne_up (hS w zto h2) (hr.le h2).1 h3 h1
    unfold itH
    split
    · have := hr.le h2; exact itH_ne5 hR hS i a k n l _ s _ (by omega) this.2 hn
    · exact hn
  | .els :: l, zto, s, ps, h1, h2, h3 => by
    unfold itH
    split
    · rename_i h
      have hlt := isK_lt h
      have hr := hR 2 (zto + 1) (by omega)
      have hn : Ne5 ts i (R 2 (zto + 1)).2.1 := ne_up (hS 2 (zto + 1) (by omega)) (hr.le (by omega)).1 (ne_next (ne_isK h)) (by omega)
      have := hr.le (by omega)
      split
      · exact itH_ne5 hR hS i a k n l _ s _ (by omega) this.2 hn
      · exact hn
    · exact itH_ne5 hR hS i a k n l zto s _ h1 h2 h3
theorem lpB_ne5 {S : Nat → Got} (hS : ∀ j, j ≤ ts.length → OkS ts 0 j (S j)) (hN : ∀ j, j ≤ ts.length → Ne5 ts j (S j).2.1) (a : Nat) : ∀ (m zto : Nat) (acc : List VT), a ≤ zto → zto ≤ ts.length → Ne5 ts a zto → Ne5 ts a (lpB ts S a m zto acc).2.1 := by
  intro m
  induction m with
  | zero => intro zto acc _ _ h; exact h
  | succ m ih =>
    intro zto acc h1 h2 h3
    unfold lpB
    split
    · rename_i h; exact ne_next (ne_isK h)
    · have hr := (hS zto h2).ok.le h2
      have hn : Ne5 ts a (S zto).2.1 := ne_up (hN zto h2) hr.1 h3 h1
      split
      · exact ih _ _ (by omega) hr.2 hn
      · exact hn
theorem blG_ne5 {S : Nat → Got} (hS : ∀ j, j ≤ ts.length → OkS ts 0 j (S j)) (hN : ∀ j, j ≤ ts.length → Ne5 ts j (S j).2.1) (i : Nat) (hi : i ≤ ts.length) : Ne5 ts i (blG ts S i).2.1 := by
  unfold blG
  split
  · rename_i h; have := isK_lt h; exact lpB_ne5 hS hN i _ _ _ (Nat.le_succ i) (by omega) (ne_next (ne_isK h))
  · exact ne_self
theorem RR_ne5 {S : Nat → Got} (hS : ∀ j, j ≤ ts.length → OkS ts 0 j (S j)) (hN : ∀ j, j ≤ ts.length → Ne5 ts j (S j).2.1) (w j : Nat) (hj : j ≤ ts.length) : Ne5 ts j (RR ts S w j).2.1 := by
  unfold RR
  split
  · exact Q_ne5 1 j hj
  split
  · exact tyG_ne5 _ j hj
  · exact blG_ne5 hS hN j hj
theorem sG_ne5 : ∀ (n i : Nat), i ≤ ts.length → Ne5 ts i (sG ts n i).2.1 := by
  intro n
  induction n with
  | zero => intro i _; exact ne_self
  | succ n ih =>
    intro i hi
    unfold sG
    split
    · exact blG_ne5 (sG_ok n) ih i hi
    · exact itH_ne5 (fun w j hj => (RR_ok (sG_ok n) w j hj).ok) (RR_ne5 (sG_ok n) ih) i i _ _ _ i _ [] (Nat.le_refl i) hi ne_self
end
end Go.Proofs.Ythkfdheoakbfnaa.vt
end
section
namespace Go.Proofs.Ythkfdheoakbfnaa.vt
open Go.Proofs.Ythkfdheoakbfnaa.am
set_option linter.unusedVariables false
abbrev wRec : ByteArray := ⟨#[114, 101, 99]⟩
abbrev wConst : ByteArray := ⟨#[99, 111, 110, 115, 116]⟩
abbrev wVar : ByteArray := ⟨#[118, 97, 114]⟩
abbrev wPub : ByteArray := ⟨#[112, 117, 98]⟩
abbrev wFn : ByteArray := ⟨#[102, 110]⟩
section
variable (ts : List Tok)
def litG (i : Nat) : Got :=
  if (nxt ts i).k = 2 then mk7 ts i (i + 1) 5 (nxt ts i).n ⟨#[]⟩ []
  else if isK wTrue (nxt ts i) = true then mk7 ts i (i + 1) 6 1 ⟨#[]⟩ []
  else if isK wFals (nxt ts i) = true then mk7 ts i (i + 1) 6 0 ⟨#[]⟩ []
  else bad7 i
def Ty9 (_ : Nat) (j : Nat) : Got := tyG ts (ts.length + 1) j
def partG (i : Nat) : Got := itH ts (Ty9 ts) i 34 0 [.nam, .sgn sCol, .sub 1] i ⟨#[]⟩ []
def lpF : Nat → Nat → List VT → List VT × Nat × Int
  | 0, i, acc => (acc, i, 6)
  | m + 1, i, acc => if acc ≠ [] ∧ isK sKet (nxt ts i) = true then (acc, i + 1, 0)
    else if (partG ts i).2.2 ≠ 0 then (acc, (partG ts i).2.1, (partG ts i).2.2)
    else if isK sEnd (nxt ts (partG ts i).2.1) = true then lpF m ((partG ts i).2.1 + 1) (acc ++ [(partG ts i).1])
    else (acc, (partG ts i).2.1, 6)
def parG (i : Nat) : Got := finC ts i 35 ⟨#[]⟩ (cloG ts (partG ts) i true sParO sParS)
noncomputable def Blk9 (i : Nat) : Got := blG ts (sG ts (ts.length + 1)) i
noncomputable def R9 (w i : Nat) : Got := if w = 2 then Blk9 ts i else if w = 1 then tyG ts (ts.length + 1) i else if w = 3 then litG ts i else parG ts i
def recG (i : Nat) : Got :=
  if (nxt ts (i + 1)).k = 1 then if isK sBra (nxt ts (i + 2)) = true then finC ts i 30 (nxt ts (i + 1)).s (lpF ts (ts.length + 1) (i + 3) []) else bad7 (i + 2) else bad7 (i + 1)
noncomputable def declG (i : Nat) : Got :=
  if isK wConst (nxt ts i) = true then itH ts (R9 ts) i 31 0 [.sgn wConst, .nam, .sgn sIs, .sub 3, .sgn sEnd] i ⟨#[]⟩ []
  else if isK wVar (nxt ts i) = true then itH ts (R9 ts) i 32 0 [.sgn wVar, .nam, .sgn sCol, .sub 1, .sgn sEnd] i ⟨#[]⟩ []
  else if isK wPub (nxt ts i) = true then itH ts (R9 ts) i 33 1 [.sgn wPub, .sgn wFn, .nam, .sub 4, .sgn sCol, .sub 1, .sub 2] i ⟨#[]⟩ []
  else if isK wFn (nxt ts i) = true then itH ts (R9 ts) i 33 0 [.sgn wFn, .nam, .sub 4, .sgn sCol, .sub 1, .sub 2] i ⟨#[]⟩ []
  else if isK wRec (nxt ts i) = true then recG ts i
  else bad7 i
noncomputable def lpU : Nat → Nat → List VT → List VT × Nat × Int
  | 0, i, acc => (acc, i, 6)
  | m + 1, i, acc => if ts.length ≤ i + 1 then (acc, i, 0) else if (declG ts i).2.2 ≠ 0 then (acc, (declG ts i).2.1, (declG ts i).2.2) else lpU m (declG ts i).2.1 (acc ++ [(declG ts i).1])
end
section
variable {ts : List Tok}
theorem lit_oks (i : Nat) (hi : i ≤ ts.length) : OkS ts 0 i (litG ts i) := by
  have one : ∀ k n s, i < ts.length → OkS ts 0 i (mk7 ts i (i + 1) k n s []) := fun k n s h => ⟨ok_mk (by omega) (by omega), fun h0 => by have := sz_mk (ts := ts) (i := i) (b := i + 1) (k := k) (n := n) (s := s) (l := []) (by simp [sm]) h0; exact this⟩
  unfold litG
  split
  · rename_i h; exact one _ _ _ (k_lt h (by decide))
  split
  · rename_i h; exact one _ _ _ (isK_lt h)
  split
  · rename_i h; exact one _ _ _ (isK_lt h)
  · exact oks_bad (fun h => ⟨Nat.le_refl _, h⟩)
theorem ty9_ok (w j : Nat) (hj : j ≤ ts.length) : OkS ts 0 j (Ty9 ts w j) := tyG_oks j hj
theorem part_cr : Cr 0 [.nam, .sgn sCol, .sub 1] := by simp [Cr]
theorem itG_ok0 {R : Nat → Nat → Got} (hR : ∀ w j, j ≤ ts.length → OkS ts 0 j (R w j)) (a : Nat) (k n : Int) : ∀ (l : List It) (hl : ∀ w, It.sub w ∈ l → w ≠ 2) (hn : It.els ∉ l) (zto : Nat) (s : ByteArray) (ps : List VT) (c : Nat), c + sm ps + a ≤ zto → zto ≤ ts.length → Cr c l → OkS ts 0 a (itH ts R a k n l zto s ps)
  | [], hl, hn, zto, s, ps, c, h1, h2, h3 => by
    unfold Cr at h3
    exact ⟨ok_mk (by omega) h2, fun h0 => by have := sz_mk (ts := ts) (i := a) (b := zto) (k := k) (n := n) (s := s) (l := ps) (by omega) h0; exact this⟩
  | .sgn x :: l, hl, hn, zto, s, ps, c, h1, h2, h3 => by
    unfold itH
    split
    · rename_i h; have := isK_lt h; exact itG_ok0 hR a k n l (fun w hw => hl w (.tail _ hw)) (fun h => hn (.tail _ h)) (zto + 1) s ps (c + 1) (by omega) (by omega) h3
    · exact oks_bad (fun _ => by omega)
  | .nam :: l, hl, hn, zto, s, ps, c, h1, h2, h3 => by
    unfold itH
    split
    · rename_i h; have := k_lt h (by decide); exact itG_ok0 hR a k n l (fun w hw => hl w (.tail _ hw)) (fun h => hn (.tail _ h)) (zto + 1) _ ps (c + 1) (by omega) (by omega) h3
    · exact oks_bad (fun _ => by omega)
  | .sub w :: l, hl, hn, zto, s, ps, c, h1, h2, h3 => by
    unfold itH
    have hr := hR w zto h2
    have hw := hl w (.head _)
    split
    · rename_i h
      have hy := hr.ok.yes h
      have hs := hr.sz h
      refine itG_ok0 hR a k n l (fun w hw => hl w (.tail _ hw)) (fun h => hn (.tail _ h)) _ s _ c ?_ hy.2 (by unfold Cr at h3; rwa [if_neg hw] at h3)
      rw [sm_app]
      omega
    · rename_i h; exact oks_err (oks_mono hr (by omega) h2) h
  | .els :: l, hl, hn, zto, s, ps, c, h1, h2, h3 => absurd (.head _) hn
theorem part_oks (i : Nat) (hi : i ≤ ts.length) : OkS ts 0 i (partG ts i) := itG_ok0 ty9_ok i 34 0 _ (by simp) (by simp) i _ [] 0 (by simp [sm]) hi part_cr
theorem part_ok (i : Nat) (hi : i ≤ ts.length) : OkG ts i (partG ts i) := (part_oks i hi).ok
theorem part_sz (i : Nat) (hi : i ≤ ts.length) : Sz i (partG ts i) := fun h => by have := (part_oks i hi).sz h; exact this
theorem par_oks (i : Nat) (hi : i ≤ ts.length) : OkS ts 0 i (parG ts i) :=
  ⟨fin_ok (cloG_ok part_ok true sParO sParS hi) (Nat.le_refl i), fun h => by have := fin_sz (ts := ts) (k := 35) (s := ⟨#[]⟩) (cloG_sz part_ok part_sz true sParO sParS hi) (Nat.le_refl i) h; exact this⟩
theorem lpF_ok : ∀ (m i : Nat) (acc : List VT), i ≤ ts.length → OkC ts i (lpF ts m i acc)
  | 0, i, acc, hi => ⟨⟨Nat.le_refl _, hi⟩, fun h => by simp [lpF] at h, fun _ => rfl⟩
  | m + 1, i, acc, hi => by
    unfold lpF
    have hp := part_ok (ts := ts) i hi
    split
    · rename_i h
      have := isK_lt h.2
      exact ⟨⟨by dsimp only; omega, by dsimp only; omega⟩, fun _ => Nat.lt_succ_self _, fun h => absurd rfl h⟩
    split
    · rename_i h; exact ⟨hp.le hi, fun h' => absurd h' h, fun _ => (hp.no h).1⟩
    · rename_i h
      have h : (partG ts i).2.2 = 0 := by simpa using h
      have hy := hp.yes h
      split
      · rename_i h3
        have hlt := isK_lt h3
        have := lpF_ok m ((partG ts i).2.1 + 1) (acc ++ [(partG ts i).1]) (by omega)
        exact ⟨⟨by have := this.le; omega, this.le.2⟩, fun h => by have := this.yes h; omega, this.no⟩
      · exact ⟨⟨by dsimp only; omega, hy.2⟩, fun h => by simp at h, fun _ => rfl⟩
theorem lpF_sz (i0 : Nat) : ∀ (m i : Nat) (acc : List VT), i ≤ ts.length → sm acc + i0 ≤ i → (lpF ts m i acc).2.2 = 0 → sm (lpF ts m i acc).1 + i0 < (lpF ts m i acc).2.1
  | 0, i, acc, hi, _ => fun h => by simp [lpF] at h
  | m + 1, i, acc, hi, ha => by
    unfold lpF
    have hp := part_ok (ts := ts) i hi
    split
    · exact fun _ => by dsimp only; omega
    split
    · rename_i h; exact fun h' => absurd h' h
    · rename_i h
      have h : (partG ts i).2.2 = 0 := by simpa using h
      have hy := hp.yes h
      have hs := part_sz i hi h
      split
      · rename_i h3
        have hlt := isK_lt h3
        exact lpF_sz i0 m ((partG ts i).2.1 + 1) (acc ++ [(partG ts i).1]) (by omega) (by rw [sm_app]; omega)
      · exact fun h => by simp at h
theorem R9_ok (w j : Nat) (hj : j ≤ ts.length) : OkS ts (if w = 2 then 1 else 0) j (R9 ts w j) := by
  unfold R9
  by_cases h2 : w = 2
  · rw [if_pos h2, if_pos h2]; exact blG_ok (sG_ok _) j hj
  · rw [if_neg h2, if_neg h2]
    split
    · exact tyG_oks j hj
    split
    · exact lit_oks j hj
    · exact par_oks j hj
theorem rec_oks (i : Nat) (hi : i < ts.length) : OkS ts 0 i (recG ts i) := by
  unfold recG
  split
  · rename_i h
    have := k_lt h (by decide)
    split
    · rename_i h2
      have := isK_lt h2
      exact ⟨fin_ok (lpF_ok _ (i + 3) [] (by omega)) (by omega), fun h => by have := fin_sz (ts := ts) (i := i) (o := i + 3) (k := 30) (s := (nxt ts (i + 1)).s) (lpF_sz (i + 3) (ts.length + 1) (i + 3) [] (by omega) (by simp [sm])) (by omega) h; exact this⟩
    · exact oks_bad (fun _ => by omega)
  · exact oks_bad (fun _ => by omega)
theorem decl_oks (i : Nat) (hi : i ≤ ts.length) : OkS ts 0 i (declG ts i) := by
  unfold declG
  split
  · exact itG_ok R9_ok i _ _ i _ [] 0 (by simp [sm]) hi (by simp [Cr])
  split
  · exact itG_ok R9_ok i _ _ i _ [] 0 (by simp [sm]) hi (by simp [Cr])
  split
  · exact itG_ok R9_ok i _ _ i _ [] 0 (by simp [sm]) hi (by simp [Cr])
  split
  · exact itG_ok R9_ok i _ _ i _ [] 0 (by simp [sm]) hi (by simp [Cr])
  split
  · rename_i h; exact rec_oks i (isK_lt h)
  · exact oks_bad (fun h => ⟨Nat.le_refl _, h⟩)
theorem lit_ne5 (i : Nat) : Ne5 ts i (litG ts i).2.1 := by
  unfold litG
  split
  · rename_i h; exact ne_next (ne_k h (by decide))
  split
  · rename_i h; exact ne_next (ne_isK h)
  split
  · rename_i h; exact ne_next (ne_isK h)
  · exact ne_self
theorem part_ne5 (i : Nat) (hi : i ≤ ts.length) : Ne5 ts i (partG ts i).2.1 := itH_ne5 (fun w j hj => (ty9_ok w j hj).ok) (fun w j hj => tyG_ne5 _ j hj) i i _ _ _ i _ [] (Nat.le_refl i) hi ne_self
theorem par_ne5 (i : Nat) (hi : i ≤ ts.length) : Ne5 ts i (parG ts i).2.1 := fin_ne5 (cloG_ne5 part_ok part_ne5 i (Nat.le_refl i) true sParO sParS hi ne_self)
theorem lpF_ne5 (a : Nat) : ∀ (m i : Nat) (acc : List VT), a ≤ i → i ≤ ts.length → Ne5 ts a i → Ne5 ts a (lpF ts m i acc).2.1
  | 0, i, acc, _, _, h => h
  | m + 1, i, acc, hai, hi, h => by
    have hp := (part_ok (ts := ts) i hi).le hi
    have hn : Ne5 ts a (partG ts i).2.1 := ne_up (part_ne5 i hi) hp.1 h hai
    unfold lpF
    split
    · rename_i h; exact ne_next (ne_isK h.2)
    split
    · exact hn
    · split
      · rename_i h3
        have hlt := isK_lt h3
        exact lpF_ne5 a m _ _ (by omega) (by omega) (ne_next (ne_isK h3))
      · exact hn
theorem R9_ne5 (w j : Nat) (hj : j ≤ ts.length) : Ne5 ts j (R9 ts w j).2.1 := by
  unfold R9
  split
  · exact blG_ne5 (sG_ok _) (sG_ne5 _) j hj
  split
  · exact tyG_ne5 _ j hj
  split
  · exact lit_ne5 j
  · exact par_ne5 j hj
theorem decl_ne5 (i : Nat) (hi : i ≤ ts.length) : Ne5 ts i (declG ts i).2.1 := by
  have it := fun (k n : Int) (l : List It) => itH_ne5 (ts := ts) (fun w j hj => (R9_ok w j hj).ok) R9_ne5 i i k n l i ⟨#[]⟩ [] (Nat.le_refl i) hi ne_self
  unfold declG
  split
  · exact it _ _ _
  split
  · exact it _ _ _
  split
  · exact it _ _ _
  split
  · exact it _ _ _
  split
  · rename_i h
    have := isK_lt h
    unfold recG
    split
    · rename_i h1
      have := k_lt h1 (by decide)
      split
      · rename_i h2
        have := isK_lt h2
        exact fin_ne5 (lpF_ne5 i _ (i + 3) [] (by omega) (by omega) (ne_next (ne_isK h2)))
      · exact ne_next (ne_k h1 (by decide))
    · exact ne_next (ne_isK h)
  · exact ne_self
section
variable (ht : TO ts)
include ht
end
def lpF0 (ts : List Tok) : Nat → Nat → List VT → List VT × Nat × Int
  | 0, i, acc => (acc, i, 6)
  | m + 1, i, acc => if acc ≠ [] ∧ isK sKet (nxt ts i) = true then (acc, i, 0)
    else if (partG ts i).2.2 ≠ 0 then (acc, (partG ts i).2.1, (partG ts i).2.2)
    else if isK sEnd (nxt ts (partG ts i).2.1) = true then lpF0 ts m ((partG ts i).2.1 + 1) (acc ++ [(partG ts i).1])
    else (acc, (partG ts i).2.1, 6)
def FlT (ts : List Tok) (p : Nat × Int) : Nat × Int := WT ts sEnd (OT (partG ts) p).2
def lsF (ts : List Tok) : Nat → Nat → List VT → List VT
  | 0, i, acc => acc
  | m + 1, i, acc => if (FlT ts (i, 0)).2 = 0 ∧ isK sKet (nxt ts (FlT ts (i, 0)).1) = false then lsF ts m (FlT ts (i, 0)).1 (acc ++ [(partG ts i).1]) else acc ++ [(partG ts i).1]
structure InvFl (ts : List Tok) (i : Nat) (C : List VT × Nat × Int) (L : List VT) (x : Nat × Nat × Int × List VT) : Prop where
  no : x.2.2.1 ≠ 0 → x.2.2.2 = L ∧ C.2 = (x.2.1, x.2.2.1)
  end' : x.2.2.1 = 0 → isK sKet (nxt ts x.2.1) = true → x.2.2.2 = L ∧ C.2 = (x.2.1, 0)
  go : x.2.2.1 = 0 → isK sKet (nxt ts x.2.1) = false → lsF ts x.1 x.2.1 x.2.2.2 = L ∧ lpF0 ts x.1 x.2.1 x.2.2.2 = C ∧ x.2.1 ≤ ts.length ∧ ts.length < x.1 + x.2.1
  few : 2 * x.2.2.2.length + i ≤ ts.length + 2
  fit : x.2.2.1 = 0 → 2 * x.2.2.2.length + i ≤ x.2.1
end
end Go.Proofs.Ythkfdheoakbfnaa.vt
end
section
namespace Go.Proofs.Ythkfdheoakbfnaa.am
open Go.ChangeShapes Go.WideShapes Go.ChangeAt Go.RowKit
set_option linter.unusedVariables false
set_option linter.unusedSimpArgs false
def oldS (w : World) : CS := fun b _ => b < w.heap.size
section
variable {P : Program} {S : CS} {w : World}
theorem RepPs.take {vs : List Value} {l : List PV} (h : RepPs S w vs l) (n : Nat) : RepPs S w (vs.take n) (l.take n) := by
  have := (RepPs.cs (γ := fun _ => .un)).1 h
  refine (RepPs.cs (γ := fun _ => .un)).2 ?_
  rw [List.map_take]; exact RepCs.take this n
theorem calls_of_row {f : FuncId} {args : List AV} {vs : List Value} (h : Row P f args [] (.v (.c (.pv (.lit (.bool true))))) []) (hv : RepVs (fun _ => .un) (oldS w) w vs args) : Calls P f vs.toArray w fun e w' => e = .returned (.bool true) ∧ Below w.heap.size w w' := by
  have hm : Mem ⟨w, oldS w, fun _ => .un, []⟩ (fun x => ([] : List AO)[x]?) (fun x => ([] : List AO).length ≤ x) (fun _ => .un) (oldS w) w :=
    ⟨rfl, rfl, rfl, Nat.le_refl _, fun _ _ _ => rfl, fun _ _ h => ⟨h, rfl⟩, fun _ _ h => .inl h, fun _ _ h => h, GOn.refl _, fun _ _ => rfl, fun _ _ => .inl rfl, fun x o h => by simp at h, fun x y _ b h _ => by simp [G.bk] at h, fun x b h => by simp [G.bk] at h⟩
  refine (h.spec _ _ w vs hm hv).mono ?_
  rintro e w' ⟨v, γ', S', rfl, m, hr⟩
  obtain ⟨rfl, _⟩ := lit_inv hr
  exact ⟨rfl, m.os, m.tape, m.output, m.size, fun b hb => m.frame b hb (fun x h => by simp [G.bk] at h)⟩
end
end Go.Proofs.Ythkfdheoakbfnaa.am
end
section
namespace Go.Proofs.Ythkfdheoakbfnaa.am
open Go.ChangeShapes Go.WideShapes Go.ChangeAt Go.RowKit
set_option linter.unusedVariables false
abbrev newS (S : CS) (w w' : World) : CS := fun b o => S b o ∨ (w.heap.size ≤ b ∧ b < w'.heap.size)
theorem Mem.below {γ : Nat → G} {S : CS} {w w' : World} {ch : List AO} (hm : Mem ⟨w, S, γ, []⟩ (fun x => ch[x]?) (fun x => ch.length ≤ x) γ S w) (hb : Below w.heap.size w w') :
    Mem ⟨w, S, γ, []⟩ (fun x => ((ch.map some)[x]?).join) (fun x => (ch.map some).length ≤ x) γ (newS S w w') w' := by
  have hj : ∀ x, ((ch.map some)[x]?).join = ch[x]? := fun x => by
    rw [List.getElem?_map]
    cases ch[x]? <;> rfl
  refine ⟨hb.os, hb.tape, hb.output, hb.size, fun b h _ => hb.block b h, fun b o h => ⟨.inl h, hb.cell (p := ⟨b, o, none⟩) (hm.inb b o h)⟩, fun b o h => h.elim .inl (fun h => .inr (.inl h.1)), fun b o h => h.elim (fun h => Nat.lt_of_lt_of_le (hm.inb b o h) hb.size) (fun h => h.2), GOn.refl _,
    fun x hx => hm.un x (by rw [List.length_map] at hx; exact hx), fun x hx => hm.off x (by rw [← hj]; exact hx), fun x o hx => ?_, hm.dist, fun x b h => ⟨Nat.lt_of_lt_of_le (hm.live x b h).1 hb.size, (hm.live x b h).2⟩⟩
  refine Obj'.on (hm.obj x o (by rw [← hj]; exact hx)) rfl (GOn.refl _) (fun _ _ h => .inl h) (fun b o h => hb.cell (p := ⟨b, o, none⟩) (hm.inb b o h)) (fun b hbk => ⟨hb.block b (hm.live x b hbk).1, fun o h => h.elim (fun h => h) (fun h => ?_)⟩)
  have := (hm.live x b hbk).1
  exact absurd h.1 (Nat.not_le.2 this)
theorem spec_of_below {P : Program} {f : FuncId} {args : List AV} {ch : List AO} {res : AV}
    (h : ∀ (γ : Nat → G) (S : CS) (w : World) (vs : List Value), Mem ⟨w, S, γ, []⟩ (fun x => ch[x]?) (fun x => ch.length ≤ x) γ S w → RepVs γ S w vs args →
      Calls P f vs.toArray w fun e w' => ∃ v, e = .returned v ∧ Below w.heap.size w w' ∧ RepV γ (newS S w w') w' v res) : Spec P f args ch res (ch.map some) := fun γ S w vs hm hv => by
  refine (h γ S w vs hm hv).mono ?_
  rintro e w' ⟨v, h1, h2, h3⟩
  exact ⟨v, γ, newS S w w', h1, hm.below h2, h3⟩
end Go.Proofs.Ythkfdheoakbfnaa.am
end
