import Derived.Test.YtlkggpjdaaglmaaGreatDoorPkR4
import Derived.ChangeOld
import Derived.OpenShut
import Derived.Below
import Derived.Test.YtlkggpjdaaglmaaGreatDoorPkR3
import Derived.Test.YtlkggpjdaaglmaaGreatDoorPkR2
import Derived.Lib.ParseIntBTie
import Derived.Lib.ItoaMem
import Derived.Test.YtlkggpjdaaglmaaGreatDoorPkR0
section
namespace Go.Proofs.YtlkggpjdaaglmaaGreatDoor.vt
open Go.Proofs.YtlkggpjdaaglmaaGreatDoor.am
set_option linter.unusedVariables false
def Ne5 (ts : List Tok) (i j : Nat) : Prop := i < j → (nxt ts (j - 1)).k ≠ 5
section
variable {ts : List Tok}
theorem ne_self {i : Nat} : Ne5 ts i i := fun h => absurd h (Nat.lt_irrefl i)
theorem ne_next {i j : Nat} (h : (nxt ts j).k ≠ 5) : Ne5 ts i (j + 1) := fun _ => h
theorem ne_up {i j m : Nat} (h : Ne5 ts j m) (hm : j ≤ m) (hp : Ne5 ts i j) (hij : i ≤ j) : Ne5 ts i m := fun hi => by
  rcases Nat.lt_or_ge j m with h1 | h1
  · exact h h1
  · have : m = j := by omega
    subst this; exact hp hi
theorem lpL_ne {P : Nat → Got} {l a : Nat} (hl : l ≤ 5) (hP : ∀ j, j ≤ ts.length → OkG ts j (P j)) (hS : ∀ j, j ≤ ts.length → Ne5 ts j (P j).2.1) : ∀ (m : Nat) (t : Bool) (x : Got), OkG ts a x → Ne5 ts a x.2.1 → Ne5 ts a (lpL ts P l a m t x).2.1 := by
  intro m
  induction m with
  | zero => intro t x hx hs; exact hs
  | succ m ih =>
    intro t x hx hs
    unfold lpL
    split
    · exact hs
    · rename_i h0
      have h0 : x.2.2 = 0 := by simpa using h0
      split
      · exact hs
      · rename_i h1
        have h1 : (opK (nxt ts x.2.1)).2 = l := by simpa using (not_or.1 h1).1
        have hlt := op_lt h1 hl
        have hk : (nxt ts x.2.1).k ≠ 5 := by
          intro h5
          unfold opK at h1
          rw [if_neg (by omega)] at h1
          dsimp only at h1
          omega
        have hp := hP (x.2.1 + 1) (by omega)
        have hq := hS (x.2.1 + 1) (by omega)
        have hy := hx.yes h0
        have hn : Ne5 ts a (P (x.2.1 + 1)).2.1 := ne_up hq (hp.le (by omega)).1 (ne_next hk) (by omega)
        split
        · exact hn
        · rename_i h2
          have h2 : (P (x.2.1 + 1)).2.2 = 0 := by simpa using h2
          have := hp.yes h2
          exact ih true _ (ok_mk (by omega) this.2) hn
theorem lpP_ne {E : Nat → Got} {a : Nat} (hE : ∀ j, j ≤ ts.length → OkG ts j (E j)) (hS : ∀ j, j ≤ ts.length → Ne5 ts j (E j).2.1) : ∀ (m : Nat) (x : Got), OkG ts a x → Ne5 ts a x.2.1 → Ne5 ts a (lpP ts E a m x).2.1 := by
  intro m
  induction m with
  | zero => intro x hx hs; exact hs
  | succ m ih =>
    intro x hx hs
    unfold lpP
    split
    · exact hs
    · rename_i h0
      have h0 : x.2.2 = 0 := by simpa using h0
      have hy := hx.yes h0
      split
      · rename_i h1
        have hlt := isK_lt h1
        have hp := hE (x.2.1 + 1) (by omega)
        have hn : Ne5 ts a (E (x.2.1 + 1)).2.1 := ne_up (hS (x.2.1 + 1) (by omega)) (hp.le (by omega)).1 (ne_next (ne_isK h1)) (by omega)
        split
        · exact hn
        · rename_i h2
          have h2 : (E (x.2.1 + 1)).2.2 = 0 := by simpa using h2
          have hyy := hp.yes h2
          split
          · exact hn
          · rename_i h3
            have h3 : isK sShut (nxt ts (E (x.2.1 + 1)).2.1) = true := by simpa using h3
            have := isK_lt h3
            exact ih _ (ok_mk (by omega) (by omega)) (ne_next (ne_isK h3))
      · split
        · rename_i h1
          have hlt := isK_lt h1
          split
          · exact ne_next (ne_isK h1)
          · rename_i h3
            have h3 : (nxt ts (x.2.1 + 1)).k = 1 := by simpa using h3
            have := k_lt h3 (by decide)
            exact ih _ (ok_mk (by omega) (by omega)) (ne_next (ne_k h3 (by decide)))
        · exact hs
theorem lpC_ne {E : Nat → Got} (hE : ∀ j, j ≤ ts.length → OkG ts j (E j)) (hS : ∀ j, j ≤ ts.length → Ne5 ts j (E j).2.1) (a : Nat) : ∀ (m i : Nat) (acc : List VT), a ≤ i → i ≤ ts.length → Ne5 ts a i → Ne5 ts a (lpC ts E m i acc).2.1 := by
  intro m
  induction m with
  | zero => intro i acc _ _ hs; exact hs
  | succ m ih =>
    intro i acc hai hi hs
    unfold lpC
    have hp := hE i hi
    have hn : Ne5 ts a (E i).2.1 := ne_up (hS i hi) (hp.le hi).1 hs hai
    have hle := hp.le hi
    split
    · exact hn
    · split
      · exact hn
      · rename_i h2
        have h2 : isK sCom (nxt ts (E i).2.1) = true := by simpa using h2
        have hlt := isK_lt h2
        exact ih _ _ (by omega) (by omega) (ne_next (ne_isK h2))
theorem cloG_ne5 {E : Nat → Got} (hE : ∀ j, j ≤ ts.length → OkG ts j (E j)) (hS : ∀ j, j ≤ ts.length → Ne5 ts j (E j).2.1) (a : Nat) {o : Nat} (hao : a ≤ o) (few : Bool) (fs ls : ByteArray) (ho : o ≤ ts.length) (hp : Ne5 ts a o) : Ne5 ts a (cloG ts E o few fs ls).2.1 := by
  unfold cloG
  split
  · exact hp
  · rename_i h0
    have h0 : isK fs (nxt ts o) = true := by simpa using h0
    have hlt := isK_lt h0
    split
    · rename_i h1; exact ne_next (ne_isK h1.2)
    · have hc := lpC_ne hE hS a (ts.length + 1) (o + 1) [] (by omega) (by omega) (ne_next (ne_isK h0))
      split
      · exact hc
      · split
        · exact hc
        · rename_i h3; exact ne_next (ne_isK (s := ls) (by simpa using h3))
theorem fin_ne5 {a i : Nat} {k : Int} {s : ByteArray} {c : List VT × Nat × Int} (h : Ne5 ts a c.2.1) : Ne5 ts a (finC ts i k s c).2.1 := by
  unfold finC
  split <;> exact h
theorem calG_ne5 {E : Nat → Got} (hE : ∀ j, j ≤ ts.length → OkG ts j (E j)) (hS : ∀ j, j ≤ ts.length → Ne5 ts j (E j).2.1) (i : Nat) (hi : i ≤ ts.length) : Ne5 ts i (calG ts E i).2.1 := by
  unfold calG
  split
  · rename_i h; have := k_lt h (by decide); exact fin_ne5 (cloG_ne5 hE hS i (by omega) true sParO sParS (by omega) (ne_next (ne_k h (by decide))))
  split
  · rename_i h; have := isK_lt h; exact fin_ne5 (cloG_ne5 hE hS i (by omega) false sOpen sShut (by omega) ne_self)
  split
  · rename_i h; have := isK_lt h
    split
    · exact ne_next (ne_isK h)
    · rename_i h2
      have h2 : (nxt ts (i + 1)).k = 1 := by simpa using h2
      have := k_lt h2 (by decide)
      exact fin_ne5 (cloG_ne5 hE hS i (by omega) true sParO sParS (by omega) (ne_next (ne_k h2 (by decide))))
  split
  · rename_i h; have := isK_lt h
    split
    · exact ne_next (ne_isK h)
    · rename_i h2
      have h2 : (nxt ts (i + 1)).k = 1 := by simpa using h2
      have := k_lt h2 (by decide)
      exact fin_ne5 (cloG_ne5 hE hS i (by omega) false sParO sParS (by omega) (ne_next (ne_k h2 (by decide))))
  · exact ne_self
theorem atoG_ne5 {E : Nat → Got} (hE : ∀ j, j ≤ ts.length → OkG ts j (E j)) (hS : ∀ j, j ≤ ts.length → Ne5 ts j (E j).2.1) (i : Nat) (hi : i ≤ ts.length) : Ne5 ts i (atoG ts E i).2.1 := by
  unfold atoG
  split
  · rename_i h; exact ne_next (ne_k h (by decide))
  split
  · rename_i h; exact ne_next (ne_isK h)
  split
  · rename_i h; exact ne_next (ne_isK h)
  split
  · rename_i h; exact ne_next (ne_isK h)
  split
  · rename_i h; exact ne_next (ne_k h.1 (by decide))
  split
  · rename_i h
    have := isK_lt h
    have hp := hE (i + 1) (by omega)
    have hn : Ne5 ts i (E (i + 1)).2.1 := ne_up (hS (i + 1) (by omega)) (hp.le (by omega)).1 (ne_next (ne_isK h)) (by omega)
    split
    · exact hn
    · split
      · exact hn
      · rename_i h3; exact ne_next (ne_isK (s := sParS) (by simpa using h3))
  · exact calG_ne5 hE hS i hi
theorem bG_ne5 {R : Nat → Nat → Got} (hR : ∀ w j, j ≤ ts.length → OkG ts j (R w j)) (hS : ∀ w j, j ≤ ts.length → Ne5 ts j (R w j).2.1) (w i : Nat) (hi : i ≤ ts.length) : Ne5 ts i (bG ts R w i).2.1 := by
  unfold bG
  split
  · rename_i h; exact lpL_ne h (hR _) (hS _) _ _ _ (hR _ i hi) (hS _ i hi)
  split
  · split
    · exact hS 7 i hi
    · rename_i h
      have hne : i < ts.length ∧ (nxt ts i).k ≠ 5 := by
        unfold unN at h
        by_cases h1 : isK sNot (nxt ts i) = true
        · exact ⟨isK_lt h1, ne_isK h1⟩
        · by_cases h2 : isK sMin (nxt ts i) = true
          · exact ⟨isK_lt h2, ne_isK h2⟩
          · simp [h1, h2] at h
      have hn : Ne5 ts i (R 6 (i + 1)).2.1 := ne_up (hS 6 (i + 1) (by omega)) ((hR 6 (i + 1) (by omega)).le (by omega)).1 (ne_next hne.2) (by omega)
      split
      · exact hn
      · exact hn
  split
  · exact lpP_ne (hR 1) (hS 1) _ _ (hR 8 i hi) (hS 8 i hi)
  · exact atoG_ne5 (hR 1) (hS 1) i hi
theorem pG_ne5 : ∀ (n w i : Nat), i ≤ ts.length → Ne5 ts i (pG ts n w i).2.1 := by
  intro n
  induction n with
  | zero => intro w i _; exact ne_self
  | succ n ih => intro w i hi; exact bG_ne5 (pG_ok n) ih w i hi
theorem Q_ne5 (w i : Nat) (hi : i ≤ ts.length) : Ne5 ts i (Qx ts w i).2.1 := pG_ne5 _ w i hi
theorem tyG_ne5 : ∀ (n i : Nat), i ≤ ts.length → Ne5 ts i (tyG ts n i).2.1 := by
  intro n
  induction n with
  | zero => intro i _; exact ne_self
  | succ n ih =>
    intro i hi
    unfold tyG
    split
    · rename_i h; exact ne_next (ne_isK h)
    split
    · rename_i h; exact ne_next (ne_isK h)
    split
    · rename_i h
      split
      · rename_i h1
        split
        · rename_i h2
          have hl := isK_lt h2
          have hn : Ne5 ts i (tyG ts n (i + 3)).2.1 := by
            by_cases h4 : i + 3 < (tyG ts n (i + 3)).2.1
            · exact fun _ => ih (i + 3) (by omega) h4
            · intro h5
              have h6 : ∀ n i, i ≤ ts.length → i ≤ (tyG ts n i).2.1 := by
                intro n
                induction n with
                | zero => intro i _; exact Nat.le_refl _
                | succ n ih =>
                  intro i hi
                  unfold tyG
                  split
                  · simp
                  split
                  · simp
                  split
                  · split
                    · split
                      · rename_i h9
                        have h9 := isK_lt h9
                        have := ih (i + 3) (by omega)
                        split
                        · dsimp only; omega
                        · omega
                      · simp
                    · simp
                  · split <;> simp
              have := h6 n (i + 3) (by omega)
              have e : (tyG ts n (i + 3)).2.1 = i + 3 := by omega
              rw [e]
              exact ne_isK h2
          split
          · exact hn
          · exact hn
        · exact ne_next (ne_k h1 (by decide))
      · exact ne_next (ne_isK h)
    · split
      · rename_i h; exact ne_next (ne_k h (by decide))
      · exact ne_self
theorem itH_ne5 {R : Nat → Nat → Got} (hR : ∀ w j, j ≤ ts.length → OkG ts j (R w j)) (hS : ∀ w j, j ≤ ts.length → Ne5 ts j (R w j).2.1) (i a : Nat) (k n : Int) : ∀ (l : List It) (zto : Nat) (s : ByteArray) (ps : List VT), i ≤ zto → zto ≤ ts.length → Ne5 ts i zto → Ne5 ts i (itH ts R a k n l zto s ps).2.1
  | [], zto, s, ps, h1, h2, h3 => by rw [itH]; exact h3
  | .sgn x :: l, zto, s, ps, h1, h2, h3 => by
    unfold itH
    split
    · rename_i h; have := isK_lt h; exact itH_ne5 hR hS i a k n l (zto + 1) s ps (by omega) (by omega) (ne_next (ne_isK h))
    · exact h3
  | .nam :: l, zto, s, ps, h1, h2, h3 => by
    unfold itH
    split
    · rename_i h; have := k_lt h (by decide); exact itH_ne5 hR hS i a k n l (zto + 1) _ ps (by omega) (by omega) (ne_next (ne_k h (by decide)))
    · exact h3
  | .sub w :: l, zto, s, ps, h1, h2, h3 => by
    have hr := hR w zto h2
    have hn : Ne5 ts i (R w zto).2.1 := ne_up (hS w zto h2) (hr.le h2).1 h3 h1
    unfold itH
    split
    · have := hr.le h2; exact itH_ne5 hR hS i a k n l _ s _ (by omega) this.2 hn
    · exact hn
  | .els :: l, zto, s, ps, h1, h2, h3 => by
    unfold itH
    split
    · rename_i h
      have hlt := isK_lt h
      have hr := hR 2 (zto + 1) (by omega)
      have hn : Ne5 ts i (R 2 (zto + 1)).2.1 := ne_up (hS 2 (zto + 1) (by omega)) (hr.le (by omega)).1 (ne_next (ne_isK h)) (by omega)
      have := hr.le (by omega)
      split
      · exact itH_ne5 hR hS i a k n l _ s _ (by omega) this.2 hn
      · exact hn
    · exact itH_ne5 hR hS i a k n l zto s _ h1 h2 h3
theorem lpB_ne5 {S : Nat → Got} (hS : ∀ j, j ≤ ts.length → OkS ts 0 j (S j)) (hN : ∀ j, j ≤ ts.length → Ne5 ts j (S j).2.1) (a : Nat) : ∀ (m zto : Nat) (acc : List VT), a ≤ zto → zto ≤ ts.length → Ne5 ts a zto → Ne5 ts a (lpB ts S a m zto acc).2.1 := by
  intro m
  induction m with
  | zero => intro zto acc _ _ h; exact h
  | succ m ih =>
    intro zto acc h1 h2 h3
    unfold lpB
    split
    · rename_i h; exact ne_next (ne_isK h)
    · have hr := (hS zto h2).ok.le h2
      have hn : Ne5 ts a (S zto).2.1 := ne_up (hN zto h2) hr.1 h3 h1
      split
      · exact ih _ _ (by omega) hr.2 hn
      · exact hn
theorem blG_ne5 {S : Nat → Got} (hS : ∀ j, j ≤ ts.length → OkS ts 0 j (S j)) (hN : ∀ j, j ≤ ts.length → Ne5 ts j (S j).2.1) (i : Nat) (hi : i ≤ ts.length) : Ne5 ts i (blG ts S i).2.1 := by
  unfold blG
  split
  · rename_i h; have := isK_lt h; exact lpB_ne5 hS hN i _ _ _ (Nat.le_succ i) (by omega) (ne_next (ne_isK h))
  · exact ne_self
theorem RR_ne5 {S : Nat → Got} (hS : ∀ j, j ≤ ts.length → OkS ts 0 j (S j)) (hN : ∀ j, j ≤ ts.length → Ne5 ts j (S j).2.1) (w j : Nat) (hj : j ≤ ts.length) : Ne5 ts j (RR ts S w j).2.1 := by
  unfold RR
  split
  · exact Q_ne5 1 j hj
  split
  · exact tyG_ne5 _ j hj
  · exact blG_ne5 hS hN j hj
theorem sG_ne5 : ∀ (n i : Nat), i ≤ ts.length → Ne5 ts i (sG ts n i).2.1 := by
  intro n
  induction n with
  | zero => intro i _; exact ne_self
  | succ n ih =>
    intro i hi
    unfold sG
    split
    · exact blG_ne5 (sG_ok n) ih i hi
    · exact itH_ne5 (fun w j hj => (RR_ok (sG_ok n) w j hj).ok) (RR_ne5 (sG_ok n) ih) i i _ _ _ i _ [] (Nat.le_refl i) hi ne_self
end
end Go.Proofs.YtlkggpjdaaglmaaGreatDoor.vt
end
section
namespace Go.Proofs.YtlkggpjdaaglmaaGreatDoor.vt
open Go.Proofs.YtlkggpjdaaglmaaGreatDoor.am
set_option linter.unusedVariables false
abbrev wRec : ByteArray := ⟨#[114, 101, 99]⟩
abbrev wConst : ByteArray := ⟨#[99, 111, 110, 115, 116]⟩
abbrev wVar : ByteArray := ⟨#[118, 97, 114]⟩
abbrev wPub : ByteArray := ⟨#[112, 117, 98]⟩
abbrev wFn : ByteArray := ⟨#[102, 110]⟩
section
variable (ts : List Tok)
def litG (i : Nat) : Got :=
  if (nxt ts i).k = 2 then mk7 ts i (i + 1) 5 (nxt ts i).n ⟨#[]⟩ []
  else if isK wTrue (nxt ts i) = true then mk7 ts i (i + 1) 6 1 ⟨#[]⟩ []
  else if isK wFals (nxt ts i) = true then mk7 ts i (i + 1) 6 0 ⟨#[]⟩ []
  else bad7 i
def Ty9 (_ : Nat) (j : Nat) : Got := tyG ts (ts.length + 1) j
def partG (i : Nat) : Got := itH ts (Ty9 ts) i 34 0 [.nam, .sgn sCol, .sub 1] i ⟨#[]⟩ []
def lpF : Nat → Nat → List VT → List VT × Nat × Int
  | 0, i, acc => (acc, i, 6)
  | m + 1, i, acc => if acc ≠ [] ∧ isK sKet (nxt ts i) = true then (acc, i + 1, 0)
    else if (partG ts i).2.2 ≠ 0 then (acc, (partG ts i).2.1, (partG ts i).2.2)
    else if isK sEnd (nxt ts (partG ts i).2.1) = true then lpF m ((partG ts i).2.1 + 1) (acc ++ [(partG ts i).1])
    else (acc, (partG ts i).2.1, 6)
def parG (i : Nat) : Got := finC ts i 35 ⟨#[]⟩ (cloG ts (partG ts) i true sParO sParS)
noncomputable def Blk9 (i : Nat) : Got := blG ts (sG ts (ts.length + 1)) i
noncomputable def R9 (w i : Nat) : Got := if w = 2 then Blk9 ts i else if w = 1 then tyG ts (ts.length + 1) i else if w = 3 then litG ts i else parG ts i
def recG (i : Nat) : Got :=
  if (nxt ts (i + 1)).k = 1 then if isK sBra (nxt ts (i + 2)) = true then finC ts i 30 (nxt ts (i + 1)).s (lpF ts (ts.length + 1) (i + 3) []) else bad7 (i + 2) else bad7 (i + 1)
noncomputable def declG (i : Nat) : Got :=
  if isK wConst (nxt ts i) = true then itH ts (R9 ts) i 31 0 [.sgn wConst, .nam, .sgn sIs, .sub 3, .sgn sEnd] i ⟨#[]⟩ []
  else if isK wVar (nxt ts i) = true then itH ts (R9 ts) i 32 0 [.sgn wVar, .nam, .sgn sCol, .sub 1, .sgn sEnd] i ⟨#[]⟩ []
  else if isK wPub (nxt ts i) = true then itH ts (R9 ts) i 33 1 [.sgn wPub, .sgn wFn, .nam, .sub 4, .sgn sCol, .sub 1, .sub 2] i ⟨#[]⟩ []
  else if isK wFn (nxt ts i) = true then itH ts (R9 ts) i 33 0 [.sgn wFn, .nam, .sub 4, .sgn sCol, .sub 1, .sub 2] i ⟨#[]⟩ []
  else if isK wRec (nxt ts i) = true then recG ts i
  else bad7 i
noncomputable def lpU : Nat → Nat → List VT → List VT × Nat × Int
  | 0, i, acc => (acc, i, 6)
  | m + 1, i, acc => if ts.length ≤ i + 1 then (acc, i, 0) else if (declG ts i).2.2 ≠ 0 then (acc, (declG ts i).2.1, (declG ts i).2.2) else lpU m (declG ts i).2.1 (acc ++ [(declG ts i).1])
end
section
variable {ts : List Tok}
theorem lit_oks (i : Nat) (hi : i ≤ ts.length) : OkS ts 0 i (litG ts i) := by
  have one : ∀ k n s, i < ts.length → OkS ts 0 i (mk7 ts i (i + 1) k n s []) := fun k n s h => ⟨ok_mk (by omega) (by omega), fun h0 => by have := sz_mk (ts := ts) (i := i) (b := i + 1) (k := k) (n := n) (s := s) (l := []) (by simp [sm]) h0; exact this⟩
  unfold litG
  split
  · rename_i h; exact one _ _ _ (k_lt h (by decide))
  split
  · rename_i h; exact one _ _ _ (isK_lt h)
  split
  · rename_i h; exact one _ _ _ (isK_lt h)
  · exact oks_bad (fun h => ⟨Nat.le_refl _, h⟩)
theorem ty9_ok (w j : Nat) (hj : j ≤ ts.length) : OkS ts 0 j (Ty9 ts w j) := tyG_oks j hj
theorem part_cr : Cr 0 [.nam, .sgn sCol, .sub 1] := by simp [Cr]
theorem itG_ok0 {R : Nat → Nat → Got} (hR : ∀ w j, j ≤ ts.length → OkS ts 0 j (R w j)) (a : Nat) (k n : Int) : ∀ (l : List It) (hl : ∀ w, It.sub w ∈ l → w ≠ 2) (hn : It.els ∉ l) (zto : Nat) (s : ByteArray) (ps : List VT) (c : Nat), c + sm ps + a ≤ zto → zto ≤ ts.length → Cr c l → OkS ts 0 a (itH ts R a k n l zto s ps)
  | [], hl, hn, zto, s, ps, c, h1, h2, h3 => by
    unfold Cr at h3
    exact ⟨ok_mk (by omega) h2, fun h0 => by have := sz_mk (ts := ts) (i := a) (b := zto) (k := k) (n := n) (s := s) (l := ps) (by omega) h0; exact this⟩
  | .sgn x :: l, hl, hn, zto, s, ps, c, h1, h2, h3 => by
    unfold itH
    split
    · rename_i h; have := isK_lt h; exact itG_ok0 hR a k n l (fun w hw => hl w (.tail _ hw)) (fun h => hn (.tail _ h)) (zto + 1) s ps (c + 1) (by omega) (by omega) h3
    · exact oks_bad (fun _ => by omega)
  | .nam :: l, hl, hn, zto, s, ps, c, h1, h2, h3 => by
    unfold itH
    split
    · rename_i h; have := k_lt h (by decide); exact itG_ok0 hR a k n l (fun w hw => hl w (.tail _ hw)) (fun h => hn (.tail _ h)) (zto + 1) _ ps (c + 1) (by omega) (by omega) h3
    · exact oks_bad (fun _ => by omega)
  | .sub w :: l, hl, hn, zto, s, ps, c, h1, h2, h3 => by
    unfold itH
    have hr := hR w zto h2
    have hw := hl w (.head _)
    split
    · rename_i h
      have hy := hr.ok.yes h
      have hs := hr.sz h
      refine itG_ok0 hR a k n l (fun w hw => hl w (.tail _ hw)) (fun h => hn (.tail _ h)) _ s _ c ?_ hy.2 (by unfold Cr at h3; rwa [if_neg hw] at h3)
      rw [sm_app]
      omega
    · rename_i h; exact oks_err (oks_mono hr (by omega) h2) h
  | .els :: l, hl, hn, zto, s, ps, c, h1, h2, h3 => absurd (.head _) hn
theorem part_oks (i : Nat) (hi : i ≤ ts.length) : OkS ts 0 i (partG ts i) := itG_ok0 ty9_ok i 34 0 _ (by simp) (by simp) i _ [] 0 (by simp [sm]) hi part_cr
theorem part_ok (i : Nat) (hi : i ≤ ts.length) : OkG ts i (partG ts i) := (part_oks i hi).ok
theorem part_sz (i : Nat) (hi : i ≤ ts.length) : Sz i (partG ts i) := fun h => by have := (part_oks i hi).sz h; exact this
theorem par_oks (i : Nat) (hi : i ≤ ts.length) : OkS ts 0 i (parG ts i) :=
  ⟨fin_ok (cloG_ok part_ok true sParO sParS hi) (Nat.le_refl i), fun h => by have := fin_sz (ts := ts) (k := 35) (s := ⟨#[]⟩) (cloG_sz part_ok part_sz true sParO sParS hi) (Nat.le_refl i) h; exact this⟩
theorem lpF_ok : ∀ (m i : Nat) (acc : List VT), i ≤ ts.length → OkC ts i (lpF ts m i acc)
  | 0, i, acc, hi => ⟨⟨Nat.le_refl _, hi⟩, fun h => by simp [lpF] at h, fun _ => rfl⟩
  | m + 1, i, acc, hi => by
    unfold lpF
    have hp := part_ok (ts := ts) i hi
    split
    · rename_i h
      have := isK_lt h.2
      exact ⟨⟨by dsimp only; omega, by dsimp only; omega⟩, fun _ => Nat.lt_succ_self _, fun h => absurd rfl h⟩
    split
    · rename_i h; exact ⟨hp.le hi, fun h' => absurd h' h, fun _ => (hp.no h).1⟩
    · rename_i h
      have h : (partG ts i).2.2 = 0 := by simpa using h
      have hy := hp.yes h
      split
      · rename_i h3
        have hlt := isK_lt h3
        have := lpF_ok m ((partG ts i).2.1 + 1) (acc ++ [(partG ts i).1]) (by omega)
        exact ⟨⟨by have := this.le; omega, this.le.2⟩, fun h => by have := this.yes h; omega, this.no⟩
      · exact ⟨⟨by dsimp only; omega, hy.2⟩, fun h => by simp at h, fun _ => rfl⟩
theorem lpF_sz (i0 : Nat) : ∀ (m i : Nat) (acc : List VT), i ≤ ts.length → sm acc + i0 ≤ i → (lpF ts m i acc).2.2 = 0 → sm (lpF ts m i acc).1 + i0 < (lpF ts m i acc).2.1
  | 0, i, acc, hi, _ => fun h => by simp [lpF] at h
  | m + 1, i, acc, hi, ha => by
    unfold lpF
    have hp := part_ok (ts := ts) i hi
    split
    · exact fun _ => by dsimp only; omega
    split
    · rename_i h; exact fun h' => absurd h' h
    · rename_i h
      have h : (partG ts i).2.2 = 0 := by simpa using h
      have hy := hp.yes h
      have hs := part_sz i hi h
      split
      · rename_i h3
        have hlt := isK_lt h3
        exact lpF_sz i0 m ((partG ts i).2.1 + 1) (acc ++ [(partG ts i).1]) (by omega) (by rw [sm_app]; omega)
      · exact fun h => by simp at h
theorem R9_ok (w j : Nat) (hj : j ≤ ts.length) : OkS ts (if w = 2 then 1 else 0) j (R9 ts w j) := by
  unfold R9
  by_cases h2 : w = 2
  · rw [if_pos h2, if_pos h2]; exact blG_ok (sG_ok _) j hj
  · rw [if_neg h2, if_neg h2]
    split
    · exact tyG_oks j hj
    split
    · exact lit_oks j hj
    · exact par_oks j hj
theorem rec_oks (i : Nat) (hi : i < ts.length) : OkS ts 0 i (recG ts i) := by
  unfold recG
  split
  · rename_i h
    have := k_lt h (by decide)
    split
    · rename_i h2
      have := isK_lt h2
      exact ⟨fin_ok (lpF_ok _ (i + 3) [] (by omega)) (by omega), fun h => by have := fin_sz (ts := ts) (i := i) (o := i + 3) (k := 30) (s := (nxt ts (i + 1)).s) (lpF_sz (i + 3) (ts.length + 1) (i + 3) [] (by omega) (by simp [sm])) (by omega) h; exact this⟩
    · exact oks_bad (fun _ => by omega)
  · exact oks_bad (fun _ => by omega)
theorem decl_oks (i : Nat) (hi : i ≤ ts.length) : OkS ts 0 i (declG ts i) := by
  unfold declG
  split
  · exact itG_ok R9_ok i _ _ i _ [] 0 (by simp [sm]) hi (by simp [Cr])
  split
  · exact itG_ok R9_ok i _ _ i _ [] 0 (by simp [sm]) hi (by simp [Cr])
  split
  · exact itG_ok R9_ok i _ _ i _ [] 0 (by simp [sm]) hi (by simp [Cr])
  split
  · exact itG_ok R9_ok i _ _ i _ [] 0 (by simp [sm]) hi (by simp [Cr])
  split
  · rename_i h; exact rec_oks i (isK_lt h)
  · exact oks_bad (fun h => ⟨Nat.le_refl _, h⟩)
theorem lit_ne5 (i : Nat) : Ne5 ts i (litG ts i).2.1 := by
  unfold litG
  split
  · rename_i h; exact ne_next (ne_k h (by decide))
  split
  · rename_i h; exact ne_next (ne_isK h)
  split
  · rename_i h; exact ne_next (ne_isK h)
  · exact ne_self
theorem part_ne5 (i : Nat) (hi : i ≤ ts.length) : Ne5 ts i (partG ts i).2.1 := itH_ne5 (fun w j hj => (ty9_ok w j hj).ok) (fun w j hj => tyG_ne5 _ j hj) i i _ _ _ i _ [] (Nat.le_refl i) hi ne_self
theorem par_ne5 (i : Nat) (hi : i ≤ ts.length) : Ne5 ts i (parG ts i).2.1 := fin_ne5 (cloG_ne5 part_ok part_ne5 i (Nat.le_refl i) true sParO sParS hi ne_self)
theorem lpF_ne5 (a : Nat) : ∀ (m i : Nat) (acc : List VT), a ≤ i → i ≤ ts.length → Ne5 ts a i → Ne5 ts a (lpF ts m i acc).2.1
  | 0, i, acc, _, _, h => h
  | m + 1, i, acc, hai, hi, h => by
    have hp := (part_ok (ts := ts) i hi).le hi
    have hn : Ne5 ts a (partG ts i).2.1 := ne_up (part_ne5 i hi) hp.1 h hai
    unfold lpF
    split
    · rename_i h; exact ne_next (ne_isK h.2)
    split
    · exact hn
    · split
      · rename_i h3
        have hlt := isK_lt h3
        exact lpF_ne5 a m _ _ (by omega) (by omega) (ne_next (ne_isK h3))
      · exact hn
theorem R9_ne5 (w j : Nat) (hj : j ≤ ts.length) : Ne5 ts j (R9 ts w j).2.1 := by
  unfold R9
  split
  · exact blG_ne5 (sG_ok _) (sG_ne5 _) j hj
  split
  · exact tyG_ne5 _ j hj
  split
  · exact lit_ne5 j
  · exact par_ne5 j hj
theorem decl_ne5 (i : Nat) (hi : i ≤ ts.length) : Ne5 ts i (declG ts i).2.1 := by
  have it := fun (k n : Int) (l : List It) => itH_ne5 (ts := ts) (fun w j hj => (R9_ok w j hj).ok) R9_ne5 i i k n l i ⟨#[]⟩ [] (Nat.le_refl i) hi ne_self
  unfold declG
  split
  · exact it _ _ _
  split
  · exact it _ _ _
  split
  · exact it _ _ _
  split
  · exact it _ _ _
  split
  · rename_i h
    have := isK_lt h
    unfold recG
    split
    · rename_i h1
      have := k_lt h1 (by decide)
      split
      · rename_i h2
        have := isK_lt h2
        exact fin_ne5 (lpF_ne5 i _ (i + 3) [] (by omega) (by omega) (ne_next (ne_isK h2)))
      · exact ne_next (ne_k h1 (by decide))
    · exact ne_next (ne_isK h)
  · exact ne_self
section
variable (ht : TO ts)
include ht
end
def lpF0 (ts : List Tok) : Nat → Nat → List VT → List VT × Nat × Int
  | 0, i, acc => (acc, i, 6)
  | m + 1, i, acc => if acc ≠ [] ∧ isK sKet (nxt ts i) = true then (acc, i, 0)
    else if (partG ts i).2.2 ≠ 0 then (acc, (partG ts i).2.1, (partG ts i).2.2)
    else if isK sEnd (nxt ts (partG ts i).2.1) = true then lpF0 ts m ((partG ts i).2.1 + 1) (acc ++ [(partG ts i).1])
    else (acc, (partG ts i).2.1, 6)
def FlT (ts : List Tok) (p : Nat × Int) : Nat × Int := WT ts sEnd (OT (partG ts) p).2
def lsF (ts : List Tok) : Nat → Nat → List VT → List VT
  | 0, i, acc => acc
  | m + 1, i, acc => if (FlT ts (i, 0)).2 = 0 ∧ isK sKet (nxt ts (FlT ts (i, 0)).1) = false then lsF ts m (FlT ts (i, 0)).1 (acc ++ [(partG ts i).1]) else acc ++ [(partG ts i).1]
structure InvFl (ts : List Tok) (i : Nat) (C : List VT × Nat × Int) (L : List VT) (x : Nat × Nat × Int × List VT) : Prop where
  no : x.2.2.1 ≠ 0 → x.2.2.2 = L ∧ C.2 = (x.2.1, x.2.2.1)
  end' : x.2.2.1 = 0 → isK sKet (nxt ts x.2.1) = true → x.2.2.2 = L ∧ C.2 = (x.2.1, 0)
  go : x.2.2.1 = 0 → isK sKet (nxt ts x.2.1) = false → lsF ts x.1 x.2.1 x.2.2.2 = L ∧ lpF0 ts x.1 x.2.1 x.2.2.2 = C ∧ x.2.1 ≤ ts.length ∧ ts.length < x.1 + x.2.1
  few : 2 * x.2.2.2.length + i ≤ ts.length + 2
  fit : x.2.2.1 = 0 → 2 * x.2.2.2.length + i ≤ x.2.1
end
end Go.Proofs.YtlkggpjdaaglmaaGreatDoor.vt
end
section
namespace Go.Proofs.YtlkggpjdaaglmaaGreatDoor.am
open Go.ChangeShapes Go.WideShapes Go.ChangeAt Go.RowKit
set_option linter.unusedVariables false
set_option linter.unusedSimpArgs false
def oldS (w : World) : CS := fun b _ => b < w.heap.size
section
variable {P : Program} {S : CS} {w : World}
theorem RepPs.take {vs : List Value} {l : List PV} (h : RepPs S w vs l) (n : Nat) : RepPs S w (vs.take n) (l.take n) := by
  have := (RepPs.cs (γ := fun _ => .un)).1 h
  refine (RepPs.cs (γ := fun _ => .un)).2 ?_
  rw [List.map_take]; exact RepCs.take this n
end
end Go.Proofs.YtlkggpjdaaglmaaGreatDoor.am
end
section
namespace Go.Proofs.YtlkggpjdaaglmaaGreatDoor.am
open Go.ChangeShapes Go.WideShapes Go.ChangeAt Go.RowKit
set_option linter.unusedVariables false
abbrev newS (S : CS) (w w' : World) : CS := fun b o => S b o ∨ (w.heap.size ≤ b ∧ b < w'.heap.size)
theorem Mem.below {γ : Nat → G} {S : CS} {w w' : World} {ch : List AO} (hm : Mem ⟨w, S, γ, []⟩ (fun x => ch[x]?) (fun x => ch.length ≤ x) γ S w) (hb : Below w.heap.size w w') :
    Mem ⟨w, S, γ, []⟩ (fun x => ((ch.map some)[x]?).join) (fun x => (ch.map some).length ≤ x) γ (newS S w w') w' := by
  have hj : ∀ x, ((ch.map some)[x]?).join = ch[x]? := fun x => by
    rw [List.getElem?_map]
    cases ch[x]? <;> rfl
  refine ⟨hb.os, hb.tape, hb.output, hb.size, fun b h _ => hb.block b h, fun b o h => ⟨.inl h, hb.cell (p := ⟨b, o, none⟩) (hm.inb b o h)⟩, fun b o h => h.elim .inl (fun h => .inr (.inl h.1)), fun b o h => h.elim (fun h => Nat.lt_of_lt_of_le (hm.inb b o h) hb.size) (fun h => h.2), GOn.refl _,
    fun x hx => hm.un x (by rw [List.length_map] at hx; exact hx), fun x hx => hm.off x (by rw [← hj]; exact hx), fun x o hx => ?_, hm.dist, fun x b h => ⟨Nat.lt_of_lt_of_le (hm.live x b h).1 hb.size, (hm.live x b h).2⟩⟩
  refine Obj'.on (hm.obj x o (by rw [← hj]; exact hx)) rfl (GOn.refl _) (fun _ _ h => .inl h) (fun b o h => hb.cell (p := ⟨b, o, none⟩) (hm.inb b o h)) (fun b hbk => ⟨hb.block b (hm.live x b hbk).1, fun o h => h.elim (fun h => h) (fun h => ?_)⟩)
  have := (hm.live x b hbk).1
  exact absurd h.1 (Nat.not_le.2 this)
theorem spec_of_below {P : Program} {f : FuncId} {args : List AV} {ch : List AO} {res : AV}
    (h : ∀ (γ : Nat → G) (S : CS) (w : World) (vs : List Value), Mem ⟨w, S, γ, []⟩ (fun x => ch[x]?) (fun x => ch.length ≤ x) γ S w → RepVs γ S w vs args →
      Calls P f vs.toArray w fun e w' => ∃ v, e = .returned v ∧ Below w.heap.size w w' ∧ RepV γ (newS S w w') w' v res) : Spec P f args ch res (ch.map some) := fun γ S w vs hm hv => by
  refine (h γ S w vs hm hv).mono ?_
  rintro e w' ⟨v, h1, h2, h3⟩
  exact ⟨v, γ, newS S w w', h1, hm.below h2, h3⟩
theorem lib_block {γ : Nat → G} {S : CS} {w : World} {x : Nat} {L : List (Nat × Array Value)} (h : Obj' γ S w x (.lib L)) {g : Nat} {cs : Array Value} (hg : (g, cs) ∈ L) (hne : 0 < cs.size) : ∃ t z, w.heap[g]? = some (.cells cs t z) := by
  have hc := fun o => (h.2 _ hg o).2
  dsimp only at hc
  have h0 := hc 0
  unfold World.cell? at hc h0
  cases hh : w.heap[g]? with
  | none => rw [hh] at h0; rw [Array.getElem?_eq_getElem hne] at h0; cases h0
  | some ob =>
    cases ob with
    | cells c t z =>
      refine ⟨t, z, ?_⟩
      have : c = cs := by
        apply Array.ext_getElem?
        intro i
        have := hc i
        rw [hh] at this
        simpa using this
      rw [this]
    | _ => rw [hh] at h0; rw [Array.getElem?_eq_getElem hne] at h0; cases h0
theorem lib_var {P : Program} {γ : Nat → G} {S : CS} {w : World} {x : Nat} {L : List (Nat × Array Value)} (h : Obj' γ S w x (.lib L)) {n : String} {g : Nat} (hn : P.globalNamed n = some g) {cs : Array Value} (hg : (g, cs) ∈ L) (hne : 0 < cs.size) : w.var? P n = some cs := by
  obtain ⟨t, z, hb⟩ := lib_block h hg hne
  unfold World.var?
  rw [hn]
  show (match w.heap[g]? with | some (.cells cs _ _) => some cs | _ => none) = _
  rw [hb]
theorem var_lib {P : Program} {w : World} {n : String} {g : Nat} (hn : P.globalNamed n = some g) {cs : Array Value} (h : w.var? P n = some cs) : ∀ o, g < w.heap.size ∧ w.cell? ⟨g, o, none⟩ = cs[o]? := by
  unfold World.var? at h
  rw [hn] at h
  have h : (match w.heap[g]? with | some (.cells cs _ _) => some cs | _ => none) = some cs := h
  intro o
  cases hh : w.heap[g]? with
  | none => rw [hh] at h; cases h
  | some ob =>
    refine ⟨(Array.getElem?_eq_some_iff.1 hh).1, ?_⟩
    cases ob with
    | cells c t z =>
      rw [hh] at h
      obtain rfl := Option.some.inj h
      unfold World.cell?
      rw [hh]
      rfl
    | _ => rw [hh] at h; cases h
theorem calls_of_lib {P : Program} {w : World} {f : FuncId} {args : List AV} {vs : List Value} {L : List (Nat × Array Value)} (h : Row P f args [.lib L] (.v (.c (.pv (.lit (.bool true))))) [some (.lib L)]) (hL : ∀ p ∈ L, ∀ o, p.1 < w.heap.size ∧ w.cell? ⟨p.1, o, none⟩ = p.2[o]?)
    (hv : RepVs (fun _ => .un) (oldS w) w vs args) : Calls P f vs.toArray w fun e w' => e = .returned (.bool true) ∧ Below w.heap.size w w' := by
  have hbk : ∀ x b, (((fun x : Nat => if x = 0 then G.lib else G.un) x).bk = some b) → False := fun x b h => by
    dsimp only at h
    by_cases hx : x = 0
    · rw [if_pos hx] at h; cases h
    · rw [if_neg hx] at h; cases h
  have hm : Mem ⟨w, oldS w, fun x => if x = 0 then .lib else .un, []⟩ (fun x => [AO.lib L][x]?) (fun x => [AO.lib L].length ≤ x) (fun x => if x = 0 then .lib else .un) (oldS w) w := by
    refine ⟨rfl, rfl, rfl, Nat.le_refl _, fun _ _ _ => rfl, fun _ _ h => ⟨h, rfl⟩, fun _ _ h => .inl h, fun _ _ h => h, GOn.refl _, fun x hx => ?_, fun x hx => ?_, fun x o hx => ?_, fun x y _ b h _ => hbk x b h, fun x b h => (hbk x b h).elim⟩
    · have hx : 1 ≤ x := hx
      exact if_neg (by omega)
    · left
      cases x with
      | zero => cases hx
      | succ x => rfl
    · cases x with
      | zero =>
        obtain rfl := Option.some.inj hx
        exact ⟨rfl, fun p hp o => hL p hp o⟩
      | succ x => simp at hx
  have hmono : ∀ (vs : List Value) (args : List AV), RepVs (fun _ => .un) (oldS w) w vs args → RepVs (fun x => if x = 0 then .lib else .un) (oldS w) w vs args := by
    intro vs
    induction vs with
    | nil => intro args h; cases args with
      | nil => trivial
      | cons _ _ => exact h.elim
    | cons v vs ih => intro args h; cases args with
      | nil => exact h.elim
      | cons a args => exact ⟨RepV.mono (fun _ => .inl rfl) (fun _ _ h => h) (fun _ _ _ => rfl) h.1, ih args h.2⟩
  refine (h.spec _ _ w vs hm (hmono vs args hv)).mono ?_
  rintro e w' ⟨v, γ', S', rfl, m, hr⟩
  obtain ⟨rfl, _⟩ := lit_inv hr
  exact ⟨rfl, m.os, m.tape, m.output, m.size, fun b hb => m.frame b hb (fun x h => hbk x b h)⟩
end Go.Proofs.YtlkggpjdaaglmaaGreatDoor.am
end
section
namespace Go.Proofs.YtlkggpjdaaglmaaGreatDoor.lx
open Go.ChangeShapes Go.WideShapes Go.ChangeAt Go.RowKit
open bs
set_option linter.unusedVariables false
def isL (c : Int) : Bool := decide ((65 ≤ c ∧ c ≤ 90) ∨ (97 ≤ c ∧ c ≤ 122) ∨ c = 95)
def isD (c : Int) : Bool := decide (48 ≤ c ∧ c ≤ 57)
def isB (c : Int) : Bool := decide (c = 32 ∨ c = 9 ∨ c = 10 ∨ c = 13)
def isN (c : Int) : Bool := isL c || isD c
def isC (c : Int) : Bool := decide (c ≠ 10)
def B (s : ByteArray) (i : Nat) : Int := (txt s).getD i 0
theorem b_at (s : ByteArray) (i : Nat) (h : i < s.size) : ((s[i]).toNat : Int) = B s i := txt_at s i h
def run (p : Int → Bool) (s : ByteArray) (i : Nat) : Nat := lead (fun j => p (B s j)) (s.size - i) i
theorem run_bd (p : Int → Bool) (s : ByteArray) (i : Nat) (h : i ≤ s.size) : i ≤ run p s i ∧ run p s i ≤ s.size := by
  have := lead_bd (fun j => p (B s j)) (s.size - i) i
  unfold run
  omega
theorem run_yes {p : Int → Bool} {s : ByteArray} {i : Nat} (h : i < s.size) (hp : p (B s i) = true) : run p s i = run p s (i + 1) := by
  unfold run
  rw [show s.size - i = (s.size - (i + 1)) + 1 by omega]
  exact lead_yes (fun j => p (B s j)) _ _ hp
theorem run_no {p : Int → Bool} {s : ByteArray} {i : Nat} (hp : p (B s i) = false) : run p s i = i := lead_no (fun j => p (B s j)) _ _ hp
theorem run_end {p : Int → Bool} {s : ByteArray} {i : Nat} (h : s.size ≤ i) : run p s i = i := by
  unfold run
  rw [show s.size - i = 0 by omega]
  rfl
theorem run_all {p : Int → Bool} {s : ByteArray} {i j : Nat} (h1 : i ≤ j) (h2 : j < run p s i) : p (B s j) = true := lead_all (fun j => p (B s j)) _ _ _ h1 h2
def at' (s : ByteArray) (i : Nat) (w : ByteArray) : Bool := decide (i + w.size ≤ s.size ∧ s.extract i (i + w.size) = w)
end Go.Proofs.YtlkggpjdaaglmaaGreatDoor.lx
namespace Go.Proofs.YtlkggpjdaaglmaaGreatDoor.lx
open Go.ChangeShapes Go.WideShapes Go.ChangeAt Go.RowKit
open bs
set_option linter.unusedVariables false
theorem txt_cut (s : ByteArray) (i j : Nat) : txt (s.extract i j) = ((txt s).drop i).take (j - i) := by
  have e : (s.extract i j).data = s.data.extract i j := ByteArray.data_extract
  unfold txt
  rw [e, Array.toList_extract, List.extract_eq_take_drop, List.map_take, List.map_drop]
theorem b_cut {s : ByteArray} {i j k : Nat} (h : i + k < j) : B (s.extract i j) k = B s (i + k) := by
  unfold B
  rw [txt_cut, List.getD_eq_getElem?_getD, List.getD_eq_getElem?_getD, List.getElem?_take, if_pos (by omega), List.getElem?_drop]
theorem at_byte {s : ByteArray} {i : Nat} {v : ByteArray} (h : at' s i v = true) {j : Nat} (hj : j < v.size) : B v j = B s (i + j) := by
  have := (of_decide_eq_true h).2
  rw [← b_cut (s := s) (i := i) (j := i + v.size) (k := j) (by omega), this]
def cc : ByteArray := ⟨#[47, 47]⟩
theorem cc_at {s : ByteArray} {i : Nat} (h : at' s i cc = true) : i + 2 ≤ s.size ∧ B s i = 47 := by
  refine ⟨(of_decide_eq_true h).1, ?_⟩
  have := at_byte h (j := 0) (by decide)
  rw [Nat.add_zero] at this
  rw [← this]
  decide
theorem cc_run {s : ByteArray} {i : Nat} (h : at' s i cc = true) : i < run isC s i := by
  have h1 := cc_at h
  have h2 : isC (B s i) = true := by rw [h1.2]; decide
  rw [run_yes (by omega) h2]
  have := run_bd isC s (i + 1) (by omega)
  omega
def nx (s : ByteArray) (i : Nat) : Nat :=
  if h : i < s.size then
    if isB (B s i) = true then nx s (i + 1)
    else if h2 : at' s i cc = true then nx s (run isC s i)
    else i
  else i
termination_by s.size - i
decreasing_by
  · omega
  · have := cc_run h2; omega
theorem nx_blank {s : ByteArray} {i : Nat} (h : i < s.size) (hb : isB (B s i) = true) : nx s i = nx s (i + 1) := by
  rw [nx, dif_pos h, if_pos hb]
theorem nx_comment {s : ByteArray} {i : Nat} (h : i < s.size) (hb : isB (B s i) = false) (hc : at' s i cc = true) : nx s i = nx s (run isC s i) := by
  rw [nx, dif_pos h, if_neg (by rw [hb]; decide), dif_pos hc]
theorem nx_stop {s : ByteArray} {i : Nat} (hb : isB (B s i) = false) (hc : at' s i cc = false) : nx s i = i := by
  rw [nx]
  split
  · rw [if_neg (by rw [hb]; decide), dif_neg (by rw [hc]; decide)]
  · rfl
theorem nx_end {s : ByteArray} {i : Nat} (h : s.size ≤ i) : nx s i = i := by
  rw [nx, dif_neg (by omega)]
theorem nx_bd (s : ByteArray) : ∀ (n i : Nat), s.size - i ≤ n → i ≤ s.size → i ≤ nx s i ∧ nx s i ≤ s.size := by
  intro n
  induction n with
  | zero =>
    intro i h h2
    rw [nx_end (by omega)]
    omega
  | succ n ih =>
    intro i h h2
    by_cases hi : i < s.size
    · rcases Bool.eq_false_or_eq_true (isB (B s i)) with hb | hb
      · rw [nx_blank hi hb]
        have := ih (i + 1) (by omega) (by omega)
        omega
      · rcases Bool.eq_false_or_eq_true (at' s i cc) with hc | hc
        · rw [nx_comment hi hb hc]
          have h3 := cc_run hc
          have h4 := run_bd isC s i (by omega)
          have := ih (run isC s i) (by omega) (by omega)
          omega
        · rw [nx_stop hb hc]
          omega
    · rw [nx_end (by omega)]
      omega
theorem nx_le {s : ByteArray} {i : Nat} (h : i ≤ s.size) : i ≤ nx s i ∧ nx s i ≤ s.size := nx_bd s _ i (Nat.le_refl _) h
theorem nx_at (s : ByteArray) : ∀ (n i : Nat), s.size - i ≤ n → nx s i < s.size → isB (B s (nx s i)) = false ∧ at' s (nx s i) cc = false := by
  intro n
  induction n with
  | zero =>
    intro i h h2
    rw [nx_end (by omega)] at h2
    omega
  | succ n ih =>
    intro i h h2
    by_cases hi : i < s.size
    · rcases Bool.eq_false_or_eq_true (isB (B s i)) with hb | hb
      · rw [nx_blank hi hb] at h2 ⊢
        exact ih (i + 1) (by omega) h2
      · rcases Bool.eq_false_or_eq_true (at' s i cc) with hc | hc
        · rw [nx_comment hi hb hc] at h2 ⊢
          have h3 := cc_run hc
          exact ih (run isC s i) (by omega) h2
        · rw [nx_stop hb hc]
          exact ⟨hb, hc⟩
    · rw [nx_end (by omega)] at h2
      omega
theorem nx_idem {s : ByteArray} {i : Nat} (h : i ≤ s.size) : nx s (nx s i) = nx s i := by
  have h1 := nx_le h
  rcases Nat.lt_or_ge (nx s i) s.size with h2 | h2
  · have h3 := nx_at s _ i (Nat.le_refl _) h2
    exact nx_stop h3.1 h3.2
  · exact nx_end h2
end Go.Proofs.YtlkggpjdaaglmaaGreatDoor.lx
namespace Go.Proofs.YtlkggpjdaaglmaaGreatDoor.lx
open Go.ChangeShapes Go.WideShapes Go.ChangeAt Go.RowKit
open bs
set_option linter.unusedVariables false
def wordL : List (List UInt8) := [[114, 101, 99], [99, 111, 110, 115, 116], [118, 97, 114], [112, 117, 98], [102, 110], [105, 110, 116], [98, 111, 111, 108], [108, 101, 116], [105, 102], [101, 108, 115, 101], [119, 104, 105, 108, 101], [102, 111, 114], [116, 111], [112, 114, 105, 110, 116], [114, 101, 116, 117, 114, 110], [100, 111], [116, 114, 117, 101], [102, 97, 108, 115, 101], [114, 101, 97, 100], [110, 101, 119]]
def isW (v : ByteArray) : Bool := wordL.any (fun l => v.toList == l)
def mkB (l : List UInt8) : ByteArray := ⟨l.toArray⟩
def twoL : List (List UInt8) := [[61, 61], [33, 61], [60, 61], [62, 61], [38, 38], [124, 124]]
def oneL : List UInt8 := [123, 125, 40, 41, 91, 93, 44, 59, 58, 46, 61, 60, 62, 43, 45, 42, 47, 37, 33, 64]
def sgN (s : ByteArray) (i : Nat) : Nat :=
  if twoL.any (fun l => at' s i (mkB l)) then 2 else if oneL.any (fun b => B s i == (b.toNat : Int)) then 1 else 0
def numV (acc : Int) : List Int → Option Int
  | [] => some acc
  | c :: r => if (9223372036854775807 - (c - 48)) / 10 < acc then none else numV (acc * 10 + (c - 48)) r
def num (v : ByteArray) : Option Int := if v.size = 0 ∨ (1 < v.size ∧ B v 0 = 48) then none else numV 0 (txt v)
structure Tk where
  k : Int
  n : Int
  s : ByteArray
  f : Int
  t : Int
def tk0 : Tk := ⟨0, 0, ⟨#[]⟩, 0, 0⟩
def Tk.cells (x : Tk) : List Value := [.int .i64 x.k, .int .i64 x.n, .string x.s, .int .i64 x.f, .int .i64 x.t]
abbrev Tk.row (x : Tk) : Array Value := #[.int .i64 x.k, .int .i64 x.n, .string x.s, .int .i64 x.f, .int .i64 x.t]
abbrev Tk.val (x : Tk) : Value := .agg x.row
def on (s : ByteArray) (i : Nat) : Tk × Int :=
  if isL (B s i) = true then
    if 16 < run isN s i - i then (tk0, 3) else (⟨if isW (s.extract i (run isN s i)) = true then 3 else 1, 0, s.extract i (run isN s i), i, (run isN s i : Nat)⟩, 0)
  else if isD (B s i) = true then
    match num (s.extract i (run isD s i)) with
    | none => (tk0, 5)
    | some n => (⟨2, n, ⟨#[]⟩, i, (run isD s i : Nat)⟩, 0)
  else if sgN s i = 0 then (tk0, 4) else (⟨4, 0, s.extract i (i + sgN s i), i, (i + sgN s i : Nat)⟩, 0)
theorem tk_name {s : ByteArray} {i : Nat} (h : isL (B s i) = true) (h2 : ¬ 16 < run isN s i - i) : on s i = (⟨if isW (s.extract i (run isN s i)) = true then 3 else 1, 0, s.extract i (run isN s i), i, (run isN s i : Nat)⟩, 0) := by
  unfold on; rw [if_pos h, if_neg h2]
theorem tk_long {s : ByteArray} {i : Nat} (h : isL (B s i) = true) (h2 : 16 < run isN s i - i) : on s i = (tk0, 3) := by
  unfold on; rw [if_pos h, if_pos h2]
theorem tk_number {s : ByteArray} {i : Nat} {n : Int} (h : isL (B s i) = false) (h1 : isD (B s i) = true) (h2 : num (s.extract i (run isD s i)) = some n) : on s i = (⟨2, n, ⟨#[]⟩, i, (run isD s i : Nat)⟩, 0) := by
  unfold on; rw [if_neg (by rw [h]; decide), if_pos h1, h2]
theorem tk_nonum {s : ByteArray} {i : Nat} (h : isL (B s i) = false) (h1 : isD (B s i) = true) (h2 : num (s.extract i (run isD s i)) = none) : on s i = (tk0, 5) := by
  unfold on; rw [if_neg (by rw [h]; decide), if_pos h1, h2]
theorem tk_sign {s : ByteArray} {i : Nat} (h : isL (B s i) = false) (h1 : isD (B s i) = false) (h2 : ¬ sgN s i = 0) : on s i = (⟨4, 0, s.extract i (i + sgN s i), i, (i + sgN s i : Nat)⟩, 0) := by
  unfold on; rw [if_neg (by rw [h]; decide), if_neg (by rw [h1]; decide), if_neg h2]
theorem tk_none {s : ByteArray} {i : Nat} (h : isL (B s i) = false) (h1 : isD (B s i) = false) (h2 : sgN s i = 0) : on s i = (tk0, 4) := by
  unfold on; rw [if_neg (by rw [h]; decide), if_neg (by rw [h1]; decide), if_pos h2]
theorem size_cut (s : ByteArray) (i j : Nat) (h : i ≤ j) (h2 : j ≤ s.size) : (s.extract i j).size = j - i := by
  rw [ByteArray.size_extract]
  omega
theorem txt_mk (l : List UInt8) : txt (mkB l) = l.map (fun b => (b.toNat : Int)) := by
  unfold txt mkB
  rw [List.toList_toArray]
theorem mk_size (l : List UInt8) : (mkB l).size = l.length := by
  unfold mkB
  simp [ByteArray.size]
theorem at_one {s : ByteArray} {i : Nat} {b : UInt8} : at' s i (mkB [b]) = true ↔ i < s.size ∧ B s i = (b.toNat : Int) := by
  have hz : (mkB [b]).size = 1 := mk_size _
  constructor
  · intro h
    have h1 := (of_decide_eq_true h).1
    have h2 := at_byte h (j := 0) (by omega)
    refine ⟨by omega, ?_⟩
    rw [Nat.add_zero] at h2
    rw [← h2, B, txt_mk]
    rfl
  · rintro ⟨h1, h2⟩
    refine decide_eq_true ⟨by omega, ?_⟩
    apply txt_inj
    rw [txt_cut, hz, show i + 1 - i = 1 by omega, txt_mk]
    have h3 : i < (txt s).length := by rw [txt_len]; exact h1
    rw [List.drop_eq_getElem_cons h3, List.take_succ_cons, List.take_zero]
    have h4 : (txt s)[i] = B s i := by unfold B; rw [List.getD_eq_getElem?_getD, List.getElem?_eq_getElem h3]; rfl
    rw [h4, h2]
    rfl
theorem sg_le {s : ByteArray} {i : Nat} (hi : i < s.size) : i + sgN s i ≤ s.size := by
  unfold sgN
  split
  · rename_i h
    rw [List.any_eq_true] at h
    obtain ⟨l, hl, h⟩ := h
    have h1 := (of_decide_eq_true h).1
    rw [mk_size] at h1
    have one : ∀ l ∈ twoL, l.length = 2 := by decide
    have := one l hl
    omega
  · split <;> omega
def signL : List (List UInt8) := twoL ++ oneL.map (fun b => [b])
theorem sg_find {s : ByteArray} {i : Nat} (hi : i < s.size) : signL.find? (fun l => at' s i (mkB l)) = if sgN s i = 0 then none else some (s.extract i (i + sgN s i)).data.toList := by
  have one : ∀ l ∈ twoL, l.length = 2 := by decide
  have hcut : ∀ l, at' s i (mkB l) = true → (s.extract i (i + l.length)).data.toList = l := fun l h => by
    have := (of_decide_eq_true h).2
    rw [mk_size] at this
    rw [this]
    show l.toArray.toList = l
    rfl
  unfold signL
  rw [List.find?_append]
  by_cases h : twoL.any (fun l => at' s i (mkB l)) = true
  · have h0 := h
    rw [List.any_eq_true] at h0
    have h1 : (twoL.find? (fun l => at' s i (mkB l))).isSome = true := by rw [List.find?_isSome]; exact h0
    obtain ⟨l, hl⟩ := Option.isSome_iff_exists.1 h1
    have h2 := List.find?_some hl
    have h3 := one l (List.mem_of_find?_eq_some hl)
    have h4 : sgN s i = 2 := by unfold sgN; rw [if_pos h]
    rw [hl, h4, ← h3, hcut l h2, if_neg (by omega)]
    rfl
  · have h1 : twoL.find? (fun l => at' s i (mkB l)) = none := by
      rw [List.find?_eq_none]
      intro l hl hc
      exact h (List.any_eq_true.2 ⟨l, hl, hc⟩)
    rw [h1, Option.none_or]
    by_cases h2 : oneL.any (fun b => B s i == (b.toNat : Int)) = true
    · have h3 : sgN s i = 1 := by unfold sgN; rw [if_neg h, if_pos h2]
      have h4 : ((oneL.map (fun b => [b])).find? (fun l => at' s i (mkB l))).isSome = true := by
        rw [List.find?_isSome]
        rw [List.any_eq_true] at h2
        obtain ⟨b, hb, he⟩ := h2
        exact ⟨[b], List.mem_map_of_mem hb, at_one.2 ⟨hi, by simpa using he⟩⟩
      obtain ⟨l, hl⟩ := Option.isSome_iff_exists.1 h4
      have h5 := List.find?_some hl
      have h6 := List.mem_of_find?_eq_some hl
      rw [List.mem_map] at h6
      obtain ⟨b, _, rfl⟩ := h6
      have h7 := hcut [b] h5
      rw [hl, h3, if_neg (by omega)]
      rw [show i + [b].length = i + 1 from rfl] at h7
      rw [h7]
    · have h3 : sgN s i = 0 := by unfold sgN; rw [if_neg h, if_neg h2]
      rw [h3, if_pos rfl, List.find?_eq_none]
      intro l hl hc
      rw [List.mem_map] at hl
      obtain ⟨b, hb, rfl⟩ := hl
      have := at_one.1 hc
      exact h2 (List.any_eq_true.2 ⟨b, hb, by simpa using this.2⟩)
end Go.Proofs.YtlkggpjdaaglmaaGreatDoor.lx
namespace Go.Proofs.YtlkggpjdaaglmaaGreatDoor.lx
open Go.ChangeShapes Go.WideShapes Go.ChangeAt Go.RowKit
open bs
set_option linter.unusedVariables false
def valF (acc : Nat) : List UInt8 → Nat
  | [] => acc
  | c :: r => valF (acc * 10 + (c.toNat - 48)) r
def Dig (l : List UInt8) : Prop := ∀ c ∈ l, 48 ≤ c.toNat ∧ c.toNat ≤ 57
theorem val_ge : ∀ (l : List UInt8) (acc : Nat), acc ≤ valF acc l
  | [], acc => Nat.le_refl _
  | c :: r, acc => by
    have := val_ge r (acc * 10 + (c.toNat - 48))
    show acc ≤ valF (acc * 10 + (c.toNat - 48)) r
    omega
theorem numV_dig : ∀ (l : List UInt8) (acc : Nat), Dig l → acc < 9223372036854775808 → numV acc (l.map fun b => (b.toNat : Int)) = if valF acc l < 9223372036854775808 then some ((valF acc l : Nat) : Int) else none
  | [], acc, _, h => by
    have e : numV acc (([] : List UInt8).map fun b => (b.toNat : Int)) = some (acc : Int) := rfl
    rw [e]
    exact (if_pos h).symm
  | c :: r, acc, hd, h => by
    have hc := hd c (List.mem_cons_self ..)
    have hr : Dig r := fun x hx => hd x (List.mem_cons_of_mem _ hx)
    have hge := val_ge r (acc * 10 + (c.toNat - 48))
    rw [List.map_cons, numV]
    show _ = if valF (acc * 10 + (c.toNat - 48)) r < _ then some ((valF (acc * 10 + (c.toNat - 48)) r : Nat) : Int) else _
    split
    · rw [if_neg (by omega)]
    · rw [show (acc : Int) * 10 + ((c.toNat : Int) - 48) = ((acc * 10 + (c.toNat - 48) : Nat) : Int) by omega]
      exact numV_dig r _ hr (by omega)
theorem dig_cut {s : ByteArray} {i : Nat} (hi : i ≤ s.size) : Dig (s.extract i (run isD s i)).data.toList := by
  intro c hc
  have hr := run_bd isD s i hi
  obtain ⟨j, hj, he⟩ := List.getElem_of_mem hc
  have hsz := size_cut s i (run isD s i) hr.1 hr.2
  have hj' : j < run isD s i - i := by
    rw [Array.length_toList] at hj
    have : (s.extract i (run isD s i)).data.size = (s.extract i (run isD s i)).size := rfl
    omega
  have h1 := run_all (p := isD) (s := s) (i := i) (j := i + j) (by omega) (by omega)
  have h2 : B (s.extract i (run isD s i)) j = B s (i + j) := b_cut (by omega)
  rw [← h2] at h1
  have h3 : B (s.extract i (run isD s i)) j = (c.toNat : Int) := by
    unfold B txt
    rw [List.getD_eq_getElem?_getD, List.getElem?_map, List.getElem?_eq_getElem hj, he]
    rfl
  rw [h3] at h1
  have := of_decide_eq_true h1
  omega
end Go.Proofs.YtlkggpjdaaglmaaGreatDoor.lx
namespace Go.Proofs.YtlkggpjdaaglmaaGreatDoor.lx
open Go.ChangeShapes Go.WideShapes Go.ChangeAt Go.RowKit
open bs
set_option linter.unusedVariables false
theorem on_to {s : ByteArray} {i : Nat} (hi : i < s.size) (h : (on s i).2 = 0) : (on s i).1.f = (i : Int) ∧ ∃ j : Nat, (on s i).1.t = (j : Int) ∧ i < j ∧ j ≤ s.size := by
  rcases Bool.eq_false_or_eq_true (isL (B s i)) with hL | hL
  · by_cases h2 : 16 < run isN s i - i
    · rw [tk_long hL h2] at h; cases h
    · rw [tk_name hL h2]
      have h3 := run_bd isN s i (by omega)
      have h4 : i < run isN s i := by
        rw [run_yes hi (by unfold isN; rw [hL]; rfl)]
        have := run_bd isN s (i + 1) (by omega)
        omega
      exact ⟨rfl, _, rfl, h4, h3.2⟩
  · rcases Bool.eq_false_or_eq_true (isD (B s i)) with hD | hD
    · rcases hn : num (s.extract i (run isD s i)) with _ | n
      · rw [tk_nonum hL hD hn] at h; cases h
      · rw [tk_number hL hD hn]
        have h3 := run_bd isD s i (by omega)
        have h4 : i < run isD s i := by
          rw [run_yes hi hD]
          have := run_bd isD s (i + 1) (by omega)
          omega
        exact ⟨rfl, _, rfl, h4, h3.2⟩
    · by_cases h0 : sgN s i = 0
      · rw [tk_none hL hD h0] at h; cases h
      · rw [tk_sign hL hD h0]
        have := sg_le hi
        exact ⟨rfl, _, rfl, by omega, by omega⟩
def tkEnd (s : ByteArray) : Tk := ⟨5, 0, ⟨#[]⟩, s.size, s.size⟩
def toks (s : ByteArray) (i : Nat) : List Tk × Nat × Int :=
  if h : nx s i < s.size ∧ i ≤ s.size then
    if h2 : (on s (nx s i)).2 = 0 then
      let r := toks s (on s (nx s i)).1.t.toNat
      if r.2.2 = 0 then ((on s (nx s i)).1 :: r.1, r.2) else r
    else ([], nx s i, (on s (nx s i)).2)
  else ([tkEnd s], 0, 0)
termination_by s.size - i
decreasing_by
  have h3 := nx_le h.2
  obtain ⟨_, j, h4, h5, h6⟩ := on_to h.1 h2
  rw [h4]
  omega
def app (L : List Tk) (r : List Tk × Nat × Int) : List Tk × Nat × Int := if r.2.2 = 0 then (L ++ r.1, r.2) else r
theorem app_nil (r : List Tk × Nat × Int) : app [] r = r := by unfold app; split <;> rfl
theorem app_end {s : ByteArray} {i : Nat} {L : List Tk} (h : s.size ≤ nx s i) : app L (toks s i) = (L ++ [tkEnd s], 0, 0) := by
  rw [toks, dif_neg (by omega)]
  rfl
theorem app_err {s : ByteArray} {i : Nat} {L : List Tk} (h : nx s i < s.size) (hi : i ≤ s.size) (h2 : ¬ (on s (nx s i)).2 = 0) : app L (toks s i) = ([], nx s i, (on s (nx s i)).2) := by
  rw [toks, dif_pos ⟨h, hi⟩, dif_neg h2]
  unfold app
  rw [if_neg h2]
theorem app_step {s : ByteArray} {i : Nat} {L : List Tk} (h : nx s i < s.size) (hi : i ≤ s.size) (h2 : (on s (nx s i)).2 = 0) : app L (toks s i) = app (L ++ [(on s (nx s i)).1]) (toks s (on s (nx s i)).1.t.toNat) := by
  rw [toks, dif_pos ⟨h, hi⟩, dif_pos h2]
  simp only
  unfold app
  by_cases h3 : (toks s (on s (nx s i)).1.t.toNat).2.2 = 0
  · rw [if_pos h3, if_pos h3, if_pos h3]
    simp
  · rw [if_neg h3, if_neg h3, if_neg h3]
theorem toks_nx {s : ByteArray} {i : Nat} (hi : i ≤ s.size) : toks s (nx s i) = toks s i := by
  have h1 := nx_le hi
  have e1 : app [] (toks s (nx s i)) = app [] (toks s i) := by
    by_cases h : nx s i < s.size
    · have h' : nx s (nx s i) < s.size := by rw [nx_idem hi]; exact h
      by_cases h2 : (on s (nx s i)).2 = 0
      · have h2' : (on s (nx s (nx s i))).2 = 0 := by rw [nx_idem hi]; exact h2
        rw [app_step h' h1.2 h2', app_step h hi h2, nx_idem hi]
      · have h2' : ¬ (on s (nx s (nx s i))).2 = 0 := by rw [nx_idem hi]; exact h2
        rw [app_err h' h1.2 h2', app_err h hi h2, nx_idem hi]
    · rw [app_end (by rw [nx_idem hi]; omega), app_end (by omega)]
  rwa [app_nil, app_nil] at e1
def tokens (s : ByteArray) : List Tk × Nat × Int := if 8192 < s.size then ([], 0, 3) else toks s 0
end Go.Proofs.YtlkggpjdaaglmaaGreatDoor.lx
namespace Go.Proofs.YtlkggpjdaaglmaaGreatDoor.lx
open Go.ChangeShapes Go.WideShapes Go.ChangeAt Go.RowKit
open bs
set_option linter.unusedVariables false
theorem dec_small {u : Nat} (h : u < 10) : Lib.decDigits u = [UInt8.ofNat (48 + u)] := by rw [Lib.decDigits, dif_pos h]
theorem dec_big {u : Nat} (h : ¬ u < 10) : Lib.decDigits u = Lib.decDigits (u / 10) ++ [UInt8.ofNat (48 + u % 10)] := by rw [Lib.decDigits, dif_neg h]
theorem val_snoc : ∀ (l : List UInt8) (acc : Nat) (c : UInt8), valF acc (l ++ [c]) = valF acc l * 10 + (c.toNat - 48)
  | [], acc, c => rfl
  | x :: l, acc, c => by
    show valF (acc * 10 + (x.toNat - 48)) (l ++ [c]) = _
    rw [val_snoc]
    rfl
theorem dec_of (l : List UInt8) (hd : Dig l) (hne : l ≠ []) (h : l.length = 1 ∨ ∀ c r, l = c :: r → c.toNat ≠ 48) : Lib.decDigits (valF 0 l) = l := by
  induction hn : l.length using Nat.strongRecOn generalizing l with
  | _ n ih =>
    subst hn
    rcases List.eq_nil_or_concat l with rfl | ⟨m, c, rfl⟩
    · exact absurd rfl hne
    · rw [List.concat_eq_append] at *
      have hc := hd c (List.mem_append.2 (.inr (List.mem_singleton.2 rfl)))
      have hc8 : UInt8.ofNat (48 + (c.toNat - 48)) = c := by
        rw [show 48 + (c.toNat - 48) = c.toNat by omega]
        exact UInt8.ofNat_toNat
      rw [val_snoc]
      by_cases hm : m = []
      · subst hm
        show Lib.decDigits (0 * 10 + (c.toNat - 48)) = [c]
        rw [Nat.zero_mul, Nat.zero_add, dec_small (by omega), hc8]
      · obtain ⟨x, r, rfl⟩ := List.exists_cons_of_ne_nil hm
        have hx : x.toNat ≠ 48 := by
          rcases h with h | h
          · simp at h
          · exact h x (r ++ [c]) rfl
        have hdm : Dig (x :: r) := fun y hy => hd y (List.mem_append.2 (.inl hy))
        have hv := ih (x :: r).length (by simp) (x :: r) hdm (by simp) (.inr (fun c' r' e => by rw [← (List.cons.inj e).1]; exact hx)) rfl
        have hpos : ¬ valF 0 (x :: r) * 10 + (c.toNat - 48) < 10 := by
          have hx1 := hdm x (List.mem_cons_self ..)
          have := val_ge r (0 * 10 + (x.toNat - 48))
          have e : valF 0 (x :: r) = valF (0 * 10 + (x.toNat - 48)) r := rfl
          omega
        rw [dec_big hpos, show (valF 0 (x :: r) * 10 + (c.toNat - 48)) / 10 = valF 0 (x :: r) by omega, show (valF 0 (x :: r) * 10 + (c.toNat - 48)) % 10 = c.toNat - 48 by omega, hv, hc8]
def numT (n : Int) : ByteArray := mkB (Lib.itoa n)
theorem numT_nat (u : Nat) : numT (u : Int) = mkB (Lib.decDigits u) := by unfold numT; rw [Lib.itoa_nonneg]
theorem mk_of (v : ByteArray) : mkB v.data.toList = v := rfl
theorem b_mk (l : List UInt8) (k : Nat) (h : k < l.length) : B (mkB l) k = ((l[k]).toNat : Int) := by
  unfold B
  rw [txt_mk, List.getD_eq_getElem?_getD, List.getElem?_map, List.getElem?_eq_getElem h]
  rfl
theorem num_spell {v : ByteArray} {n : Int} (hd : Dig v.data.toList) (h : num v = some n) : numT n = v ∧ 0 ≤ n ∧ n ≤ 9223372036854775807 := by
  unfold num at h
  split at h
  · cases h
  · rename_i hc
    have hsz : v.data.toList.length = v.size := by rw [Array.length_toList]; rfl
    have h2 := numV_dig v.data.toList 0 hd (by omega)
    have e : txt v = v.data.toList.map (fun b => (b.toNat : Int)) := rfl
    rw [e] at h
    rw [show ((0 : Nat) : Int) = 0 from rfl, h] at h2
    by_cases hb : valF 0 v.data.toList < 9223372036854775808
    · rw [if_pos hb] at h2
      have hn := Option.some.inj h2
      subst hn
      refine ⟨?_, by omega, by omega⟩
      rw [numT_nat, dec_of _ hd (fun e => hc (.inl (by rw [← hsz, e]; rfl)))]
      · exact mk_of v
      · by_cases h1 : v.size = 1
        · exact .inl (by rw [hsz]; exact h1)
        · refine .inr (fun c r e he => hc (.inr ⟨?_, ?_⟩))
          · have : v.size ≠ 0 := fun h0 => hc (.inl h0)
            omega
          · have hl : 0 < v.data.toList.length := by rw [e]; simp
            have hb0 := b_mk v.data.toList 0 hl
            rw [mk_of] at hb0
            rw [hb0]
            simp only [e, List.getElem_cons_zero]
            omega
    · rw [if_neg hb] at h2
      cases h2
end Go.Proofs.YtlkggpjdaaglmaaGreatDoor.lx
namespace Go.Proofs.YtlkggpjdaaglmaaGreatDoor.lx
open Go.ChangeShapes Go.WideShapes Go.ChangeAt Go.RowKit
open bs
set_option linter.unusedVariables false
end Go.Proofs.YtlkggpjdaaglmaaGreatDoor.lx
end
