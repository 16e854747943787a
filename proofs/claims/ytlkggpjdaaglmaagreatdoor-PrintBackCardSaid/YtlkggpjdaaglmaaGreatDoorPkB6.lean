import Derived.Test.YtlkggpjdaaglmaaGreatDoorPkB5
import Derived.ChangeOld
import Derived.OpenShut
import Derived.Below
import Derived.Test.YtlkggpjdaaglmaaGreatDoorPkB3
import Derived.Test.YtlkggpjdaaglmaaGreatDoorPkB2
section
namespace Go.Proofs.YtlkggpjdaaglmaaGreatDoor.vt
open Go.Proofs.YtlkggpjdaaglmaaGreatDoor.am
set_option linter.unusedVariables false
def Ne5 (ts : List Tok) (i j : Nat) : Prop := i < j → (nxt ts (j - 1)).k ≠ 5
section
variable {ts : List Tok}
theorem ne_self {i : Nat} : Ne5 ts i i := fun h => absurd h (Nat.lt_irrefl i)
theorem ne_next {i j : Nat} (h : (nxt ts j).k ≠ 5) : Ne5 ts i (j + 1) := fun _ => h
theorem ne_up {i j m : Nat} (h : Ne5 ts j m) (hm : j ≤ m) (hp : Ne5 ts i j) (hij : i ≤ j) : Ne5 ts i m := fun hi => by
  rcases Nat.lt_or_ge j m with h1 | h1
  · exact h h1
  · have : m = j := by omega
    subst this; exact hp hi
theorem lpL_ne {P : Nat → Got} {l a : Nat} (hl : l ≤ 5) (hP : ∀ j, j ≤ ts.length → OkG ts j (P j)) (hS : ∀ j, j ≤ ts.length → Ne5 ts j (P j).2.1) : ∀ (m : Nat) (t : Bool) (x : Got), OkG ts a x → Ne5 ts a x.2.1 → Ne5 ts a (lpL ts P l a m t x).2.1 := by
  intro m
  induction m with
  | zero => intro t x hx hs; exact hs
  | succ m ih =>
    intro t x hx hs
    unfold lpL
    split
    · exact hs
    · rename_i h0
      have h0 : x.2.2 = 0 := by simpa using h0
      split
      · exact hs
      · rename_i h1
        have h1 : (opK (nxt ts x.2.1)).2 = l := by simpa using (not_or.1 h1).1
        have hlt := op_lt h1 hl
        have hk : (nxt ts x.2.1).k ≠ 5 := by
          intro h5
          unfold opK at h1
          rw [if_neg (by omega)] at h1
          dsimp only at h1
          omega
        have hp := hP (x.2.1 + 1) (by omega)
        have hq := hS (x.2.1 + 1) (by omega)
        have hy := hx.yes h0
        have hn : Ne5 ts a (P (x.2.1 + 1)).2.1 := ne_up hq (hp.le (by omega)).1 (ne_next hk) (by omega)
        split
        · exact hn
        · rename_i h2
          have h2 : (P (x.2.1 + 1)).2.2 = 0 := by simpa using h2
          have := hp.yes h2
          exact ih true _ (ok_mk (by omega) this.2) hn
theorem lpP_ne {E : Nat → Got} {a : Nat} (hE : ∀ j, j ≤ ts.length → OkG ts j (E j)) (hS : ∀ j, j ≤ ts.length → Ne5 ts j (E j).2.1) : ∀ (m : Nat) (x : Got), OkG ts a x → Ne5 ts a x.2.1 → Ne5 ts a (lpP ts E a m x).2.1 := by
  intro m
  induction m with
  | zero => intro x hx hs; exact hs
  | succ m ih =>
    intro x hx hs
    unfold lpP
    split
    · exact hs
    · rename_i h0
      have h0 : x.2.2 = 0 := by simpa using h0
      have hy := hx.yes h0
      split
      · rename_i h1
        have hlt := isK_lt h1
        have hp := hE (x.2.1 + 1) (by omega)
        have hn : Ne5 ts a (E (x.2.1 + 1)).2.1 := ne_up (hS (x.2.1 + 1) (by omega)) (hp.le (by omega)).1 (ne_next (ne_isK h1)) (by omega)
        split
        · exact hn
        · rename_i h2
          have h2 : (E (x.2.1 + 1)).2.2 = 0 := by simpa using h2
          have hyy := hp.yes h2
          split
          · exact hn
          · rename_i h3
            have h3 : isK sShut (nxt ts (E (x.2.1 + 1)).2.1) = true := by simpa using h3
            have := isK_lt h3
            exact ih _ (ok_mk (by omega) (by omega)) (ne_next (ne_isK h3))
      · split
        · rename_i h1
          have hlt := isK_lt h1
          split
          · exact ne_next (ne_isK h1)
          · rename_i h3
            have h3 : (nxt ts (x.2.1 + 1)).k = 1 := by simpa using h3
            have := k_lt h3 (by decide)
            exact ih _ (ok_mk (by omega) (by omega)) (ne_next (ne_k h3 (by decide)))
        · exact hs
theorem lpC_ne {E : Nat → Got} (hE : ∀ j, j ≤ ts.length → OkG ts j (E j)) (hS : ∀ j, j ≤ ts.length → Ne5 ts j (E j).2.1) (a : Nat) : ∀ (m i : Nat) (acc : List VT), a ≤ i → i ≤ ts.length → Ne5 ts a i → Ne5 ts a (lpC ts E m i acc).2.1 := by
  intro m
  induction m with
  | zero => intro i acc _ _ hs; exact hs
  | succ m ih =>
    intro i acc hai hi hs
    unfold lpC
    have hp := hE i hi
    have hn : Ne5 ts a (E i).2.1 := ne_up (hS i hi) (hp.le hi).1 hs hai
    have hle := hp.le hi
    split
    · exact hn
    · split
      · exact hn
      · rename_i h2
        have h2 : isK sCom (nxt ts (E i).2.1) = true := by simpa using h2
        have hlt := isK_lt h2
        exact ih _ _ (by omega) (by omega) (ne_next (ne_isK h2))
theorem cloG_ne5 {E : Nat → Got} (hE : ∀ j, j ≤ ts.length → OkG ts j (E j)) (hS : ∀ j, j ≤ ts.length → Ne5 ts j (E j).2.1) (a : Nat) {o : Nat} (hao : a ≤ o) (few : Bool) (fs ls : ByteArray) (ho : o ≤ ts.length) (hp : Ne5 ts a o) : Ne5 ts a (cloG ts E o few fs ls).2.1 := by
  unfold cloG
  split
  · exact hp
  · rename_i h0
    have h0 : isK fs (nxt ts o) = true := by simpa using h0
    have hlt := isK_lt h0
    split
    · rename_i h1; exact ne_next (ne_isK h1.2)
    · have hc := lpC_ne hE hS a (ts.length + 1) (o + 1) [] (by omega) (by omega) (ne_next (ne_isK h0))
      split
      · exact hc
      · split
        · exact hc
        · rename_i h3; exact ne_next (ne_isK (s := ls) (by simpa using h3))
theorem fin_ne5 {a i : Nat} {k : Int} {s : ByteArray} {c : List VT × Nat × Int} (h : Ne5 ts a c.2.1) : Ne5 ts a (finC ts i k s c).2.1 := by
  unfold finC
  split <;> exact h
theorem calG_ne5 {E : Nat → Got} (hE : ∀ j, j ≤ ts.length → OkG ts j (E j)) (hS : ∀ j, j ≤ ts.length → Ne5 ts j (E j).2.1) (i : Nat) (hi : i ≤ ts.length) : Ne5 ts i (calG ts E i).2.1 := by
  unfold calG
  split
  · rename_i h; have := k_lt h (by decide); exact fin_ne5 (cloG_ne5 hE hS i (by omega) true sParO sParS (by omega) (ne_next (ne_k h (by decide))))
  split
  · rename_i h; have := isK_lt h; exact fin_ne5 (cloG_ne5 hE hS i (by omega) false sOpen sShut (by omega) ne_self)
  split
  · rename_i h; have := isK_lt h
    split
    · exact ne_next (ne_isK h)
    · rename_i h2
      have h2 : (nxt ts (i + 1)).k = 1 := by simpa using h2
      have := k_lt h2 (by decide)
      exact fin_ne5 (cloG_ne5 hE hS i (by omega) true sParO sParS (by omega) (ne_next (ne_k h2 (by decide))))
  split
  · rename_i h; have := isK_lt h
    split
    · exact ne_next (ne_isK h)
    · rename_i h2
      have h2 : (nxt ts (i + 1)).k = 1 := by simpa using h2
      have := k_lt h2 (by decide)
      exact fin_ne5 (cloG_ne5 hE hS i (by omega) false sParO sParS (by omega) (ne_next (ne_k h2 (by decide))))
  · exact ne_self
theorem atoG_ne5 {E : Nat → Got} (hE : ∀ j, j ≤ ts.length → OkG ts j (E j)) (hS : ∀ j, j ≤ ts.length → Ne5 ts j (E j).2.1) (i : Nat) (hi : i ≤ ts.length) : Ne5 ts i (atoG ts E i).2.1 := by
  unfold atoG
  split
  · rename_i h; exact ne_next (ne_k h (by decide))
  split
  · rename_i h; exact ne_next (ne_isK h)
  split
  · rename_i h; exact ne_next (ne_isK h)
  split
  · rename_i h; exact ne_next (ne_isK h)
  split
  · rename_i h; exact ne_next (ne_k h.1 (by decide))
  split
  · rename_i h
    have := isK_lt h
    have hp := hE (i + 1) (by omega)
    have hn : Ne5 ts i (E (i + 1)).2.1 := ne_up (hS (i + 1) (by omega)) (hp.le (by omega)).1 (ne_next (ne_isK h)) (by omega)
    split
    · exact hn
    · split
      · exact hn
      · rename_i h3; exact ne_next (ne_isK (s := sParS) (by simpa using h3))
  · exact calG_ne5 hE hS i hi
theorem bG_ne5 {R : Nat → Nat → Got} (hR : ∀ w j, j ≤ ts.length → OkG ts j (R w j)) (hS : ∀ w j, j ≤ ts.length → Ne5 ts j (R w j).2.1) (w i : Nat) (hi : i ≤ ts.length) : Ne5 ts i (bG ts R w i).2.1 := by
  unfold bG
  split
  · rename_i h; exact lpL_ne h (hR _) (hS _) _ _ _ (hR _ i hi) (hS _ i hi)
  split
  · split
    · exact hS 7 i hi
    · rename_i h
      have hne : i < ts.length ∧ (nxt ts i).k ≠ 5 := by
        unfold unN at h
        by_cases h1 : isK sNot (nxt ts i) = true
        · exact ⟨isK_lt h1, ne_isK h1⟩
        · by_cases h2 : isK sMin (nxt ts i) = true
          · exact ⟨isK_lt h2, ne_isK h2⟩
          · simp [h1, h2] at h
      have hn : Ne5 ts i (R 6 (i + 1)).2.1 := ne_up (hS 6 (i + 1) (by omega)) ((hR 6 (i + 1) (by omega)).le (by omega)).1 (ne_next hne.2) (by omega)
      split
      · exact hn
      · exact hn
  split
  · exact lpP_ne (hR 1) (hS 1) _ _ (hR 8 i hi) (hS 8 i hi)
  · exact atoG_ne5 (hR 1) (hS 1) i hi
theorem pG_ne5 : ∀ (n w i : Nat), i ≤ ts.length → Ne5 ts i (pG ts n w i).2.1 := by
  intro n
  induction n with
  | zero => intro w i _; exact ne_self
  | succ n ih => intro w i hi; exact bG_ne5 (pG_ok n) ih w i hi
theorem Q_ne5 (w i : Nat) (hi : i ≤ ts.length) : Ne5 ts i (Qx ts w i).2.1 := pG_ne5 _ w i hi
theorem tyG_ne5 : ∀ (n i : Nat), i ≤ ts.length → Ne5 ts i (tyG ts n i).2.1 := by
  intro n
  induction n with
  | zero => intro i _; exact ne_self
  | succ n ih =>
    intro i hi
    unfold tyG
    split
    · rename_i h; exact ne_next (ne_isK h)
    split
    · rename_i h; exact ne_next (ne_isK h)
    split
    · rename_i h
      split
      · rename_i h1
        split
        · rename_i h2
          have hl := isK_lt h2
          have hn : Ne5 ts i (tyG ts n (i + 3)).2.1 := by
            by_cases h4 : i + 3 < (tyG ts n (i + 3)).2.1
            · exact fun _ => ih (i + 3) (by omega) h4
            · intro h5
              have h6 : ∀ n i, i ≤ ts.length → i ≤ (tyG ts n i).2.1 := by
                intro n
                induction n with
                | zero => intro i _; exact Nat.le_refl _
                | succ n ih =>
                  intro i hi
                  unfold tyG
                  split
                  · simp
                  split
                  · simp
                  split
                  · split
                    · split
                      · rename_i h9
                        have h9 := isK_lt h9
                        have := ih (i + 3) (by omega)
                        split
                        · dsimp only; omega
                        · omega
                      · simp
                    · simp
                  · split <;> simp
              have := h6 n (i + 3) (by omega)
              have e : (tyG ts n (i + 3)).2.1 = i + 3 := by omega
              rw [e]
              exact ne_isK h2
          split
          · exact hn
          · exact hn
        · exact ne_next (ne_k h1 (by decide))
      · exact ne_next (ne_isK h)
    · split
      · rename_i h; exact ne_next (ne_k h (by decide))
      · exact ne_self
theorem itH_ne5 {R : Nat → Nat → Got} (hR : ∀ w j, j ≤ ts.length → OkG ts j (R w j)) (hS : ∀ w j, j ≤ ts.length → Ne5 ts j (R w j).2.1) (i a : Nat) (k n : Int) : ∀ (l : List It) (zto : Nat) (s : ByteArray) (ps : List VT), i ≤ zto → zto ≤ ts.length → Ne5 ts i zto → Ne5 ts i (itH ts R a k n l zto s ps).2.1
  | [], zto, s, ps, h1, h2, h3 => by rw [itH]; exact h3
  | .sgn x :: l, zto, s, ps, h1, h2, h3 => by
    unfold itH
    split
    · rename_i h; have := isK_lt h; exact itH_ne5 hR hS i a k n l (zto + 1) s ps (by omega) (by omega) (ne_next (ne_isK h))
    · exact h3
  | .nam :: l, zto, s, ps, h1, h2, h3 => by
    unfold itH
    split
    · rename_i h; have := k_lt h (by decide); exact itH_ne5 hR hS i a k n l (zto + 1) _ ps (by omega) (by omega) (ne_next (ne_k h (by decide)))
    · exact h3
  | .sub w :: l, zto, s, ps, h1, h2, h3 => by
    have hr := hR w zto h2
    have hn : Ne5 ts i (R w zto).2.1 := ne_up (hS w zto h2) (hr.le h2).1 h3 h1
    unfold itH
    split
    · have := hr.le h2; exact itH_ne5 hR hS i a k n l _ s _ (by omega) this.2 hn
    · exact hn
  | .els :: l, zto, s, ps, h1, h2, h3 => by
    unfold itH
    split
    · rename_i h
      have hlt := isK_lt h
      have hr := hR 2 (zto + 1) (by omega)
      have hn : Ne5 ts i (R 2 (zto + 1)).2.1 := ne_up (hS 2 (zto + 1) (by omega)) (hr.le (by omega)).1 (ne_next (ne_isK h)) (by omega)
      have := hr.le (by omega)
      split
      · exact itH_ne5 hR hS i a k n l _ s _ (by omega) this.2 hn
      · exact hn
    · exact itH_ne5 hR hS i a k n l zto s _ h1 h2 h3
theorem lpB_ne5 {S : Nat → Got} (hS : ∀ j, j ≤ ts.length → OkS ts 0 j (S j)) (hN : ∀ j, j ≤ ts.length → Ne5 ts j (S j).2.1) (a : Nat) : ∀ (m zto : Nat) (acc : List VT), a ≤ zto → zto ≤ ts.length → Ne5 ts a zto → Ne5 ts a (lpB ts S a m zto acc).2.1 := by
  intro m
  induction m with
  | zero => intro zto acc _ _ h; exact h
  | succ m ih =>
    intro zto acc h1 h2 h3
    unfold lpB
    split
    · rename_i h; exact ne_next (ne_isK h)
    · have hr := (hS zto h2).ok.le h2
      have hn : Ne5 ts a (S zto).2.1 := ne_up (hN zto h2) hr.1 h3 h1
      split
      · exact ih _ _ (by omega) hr.2 hn
      · exact hn
theorem blG_ne5 {S : Nat → Got} (hS : ∀ j, j ≤ ts.length → OkS ts 0 j (S j)) (hN : ∀ j, j ≤ ts.length → Ne5 ts j (S j).2.1) (i : Nat) (hi : i ≤ ts.length) : Ne5 ts i (blG ts S i).2.1 := by
  unfold blG
  split
  · rename_i h; have := isK_lt h; exact lpB_ne5 hS hN i _ _ _ (Nat.le_succ i) (by omega) (ne_next (ne_isK h))
  · exact ne_self
theorem RR_ne5 {S : Nat → Got} (hS : ∀ j, j ≤ ts.length → OkS ts 0 j (S j)) (hN : ∀ j, j ≤ ts.length → Ne5 ts j (S j).2.1) (w j : Nat) (hj : j ≤ ts.length) : Ne5 ts j (RR ts S w j).2.1 := by
  unfold RR
  split
  · exact Q_ne5 1 j hj
  split
  · exact tyG_ne5 _ j hj
  · exact blG_ne5 hS hN j hj
theorem sG_ne5 : ∀ (n i : Nat), i ≤ ts.length → Ne5 ts i (sG ts n i).2.1 := by
  intro n
  induction n with
  | zero => intro i _; exact ne_self
  | succ n ih =>
    intro i hi
    unfold sG
    split
    · exact blG_ne5 (sG_ok n) ih i hi
    · exact itH_ne5 (fun w j hj => (RR_ok (sG_ok n) w j hj).ok) (RR_ne5 (sG_ok n) ih) i i _ _ _ i _ [] (Nat.le_refl i) hi ne_self
end
end Go.Proofs.YtlkggpjdaaglmaaGreatDoor.vt
end
section
namespace Go.Proofs.YtlkggpjdaaglmaaGreatDoor.vt
open Go.Proofs.YtlkggpjdaaglmaaGreatDoor.am
set_option linter.unusedVariables false
abbrev wRec : ByteArray := ⟨#[114, 101, 99]⟩
abbrev wConst : ByteArray := ⟨#[99, 111, 110, 115, 116]⟩
abbrev wVar : ByteArray := ⟨#[118, 97, 114]⟩
abbrev wPub : ByteArray := ⟨#[112, 117, 98]⟩
abbrev wFn : ByteArray := ⟨#[102, 110]⟩
section
variable (ts : List Tok)
def litG (i : Nat) : Got :=
  if (nxt ts i).k = 2 then mk7 ts i (i + 1) 5 (nxt ts i).n ⟨#[]⟩ []
  else if isK wTrue (nxt ts i) = true then mk7 ts i (i + 1) 6 1 ⟨#[]⟩ []
  else if isK wFals (nxt ts i) = true then mk7 ts i (i + 1) 6 0 ⟨#[]⟩ []
  else bad7 i
def Ty9 (_ : Nat) (j : Nat) : Got := tyG ts (ts.length + 1) j
def partG (i : Nat) : Got := itH ts (Ty9 ts) i 34 0 [.nam, .sgn sCol, .sub 1] i ⟨#[]⟩ []
def lpF : Nat → Nat → List VT → List VT × Nat × Int
  | 0, i, acc => (acc, i, 6)
  | m + 1, i, acc => if acc ≠ [] ∧ isK sKet (nxt ts i) = true then (acc, i + 1, 0)
    else if (partG ts i).2.2 ≠ 0 then (acc, (partG ts i).2.1, (partG ts i).2.2)
    else if isK sEnd (nxt ts (partG ts i).2.1) = true then lpF m ((partG ts i).2.1 + 1) (acc ++ [(partG ts i).1])
    else (acc, (partG ts i).2.1, 6)
def parG (i : Nat) : Got := finC ts i 35 ⟨#[]⟩ (cloG ts (partG ts) i true sParO sParS)
noncomputable def Blk9 (i : Nat) : Got := blG ts (sG ts (ts.length + 1)) i
noncomputable def R9 (w i : Nat) : Got := if w = 2 then Blk9 ts i else if w = 1 then tyG ts (ts.length + 1) i else if w = 3 then litG ts i else parG ts i
def recG (i : Nat) : Got :=
  if (nxt ts (i + 1)).k = 1 then if isK sBra (nxt ts (i + 2)) = true then finC ts i 30 (nxt ts (i + 1)).s (lpF ts (ts.length + 1) (i + 3) []) else bad7 (i + 2) else bad7 (i + 1)
noncomputable def declG (i : Nat) : Got :=
  if isK wConst (nxt ts i) = true then itH ts (R9 ts) i 31 0 [.sgn wConst, .nam, .sgn sIs, .sub 3, .sgn sEnd] i ⟨#[]⟩ []
  else if isK wVar (nxt ts i) = true then itH ts (R9 ts) i 32 0 [.sgn wVar, .nam, .sgn sCol, .sub 1, .sgn sEnd] i ⟨#[]⟩ []
  else if isK wPub (nxt ts i) = true then itH ts (R9 ts) i 33 1 [.sgn wPub, .sgn wFn, .nam, .sub 4, .sgn sCol, .sub 1, .sub 2] i ⟨#[]⟩ []
  else if isK wFn (nxt ts i) = true then itH ts (R9 ts) i 33 0 [.sgn wFn, .nam, .sub 4, .sgn sCol, .sub 1, .sub 2] i ⟨#[]⟩ []
  else if isK wRec (nxt ts i) = true then recG ts i
  else bad7 i
noncomputable def lpU : Nat → Nat → List VT → List VT × Nat × Int
  | 0, i, acc => (acc, i, 6)
  | m + 1, i, acc => if ts.length ≤ i + 1 then (acc, i, 0) else if (declG ts i).2.2 ≠ 0 then (acc, (declG ts i).2.1, (declG ts i).2.2) else lpU m (declG ts i).2.1 (acc ++ [(declG ts i).1])
end
section
variable {ts : List Tok}
theorem lit_oks (i : Nat) (hi : i ≤ ts.length) : OkS ts 0 i (litG ts i) := by
  have one : ∀ k n s, i < ts.length → OkS ts 0 i (mk7 ts i (i + 1) k n s []) := fun k n s h => ⟨ok_mk (by omega) (by omega), fun h0 => by have := sz_mk (ts := ts) (i := i) (b := i + 1) (k := k) (n := n) (s := s) (l := []) (by simp [sm]) h0; exact this⟩
  unfold litG
  split
  · rename_i h; exact one _ _ _ (k_lt h (by decide))
  split
  · rename_i h; exact one _ _ _ (isK_lt h)
  split
  · rename_i h; exact one _ _ _ (isK_lt h)
  · exact oks_bad (fun h => ⟨Nat.le_refl _, h⟩)
theorem ty9_ok (w j : Nat) (hj : j ≤ ts.length) : OkS ts 0 j (Ty9 ts w j) := tyG_oks j hj
theorem part_cr : Cr 0 [.nam, .sgn sCol, .sub 1] := by simp [Cr]
theorem itG_ok0 {R : Nat → Nat → Got} (hR : ∀ w j, j ≤ ts.length → OkS ts 0 j (R w j)) (a : Nat) (k n : Int) : ∀ (l : List It) (hl : ∀ w, It.sub w ∈ l → w ≠ 2) (hn : It.els ∉ l) (zto : Nat) (s : ByteArray) (ps : List VT) (c : Nat), c + sm ps + a ≤ zto → zto ≤ ts.length → Cr c l → OkS ts 0 a (itH ts R a k n l zto s ps)
  | [], hl, hn, zto, s, ps, c, h1, h2, h3 => by
    unfold Cr at h3
    exact ⟨ok_mk (by omega) h2, fun h0 => by have := sz_mk (ts := ts) (i := a) (b := zto) (k := k) (n := n) (s := s) (l := ps) (by omega) h0; exact this⟩
  | .sgn x :: l, hl, hn, zto, s, ps, c, h1, h2, h3 => by
    unfold itH
    split
    · rename_i h; have := isK_lt h; exact itG_ok0 hR a k n l (fun w hw => hl w (.tail _ hw)) (fun h => hn (.tail _ h)) (zto + 1) s ps (c + 1) (by omega) (by omega) h3
    · exact oks_bad (fun _ => by omega)
  | .nam :: l, hl, hn, zto, s, ps, c, h1, h2, h3 => by
    unfold itH
    split
    · rename_i h; have := k_lt h (by decide); exact itG_ok0 hR a k n l (fun w hw => hl w (.tail _ hw)) (fun h => hn (.tail _ h)) (zto + 1) _ ps (c + 1) (by omega) (by omega) h3
    · exact oks_bad (fun _ => by omega)
  | .sub w :: l, hl, hn, zto, s, ps, c, h1, h2, h3 => by
    unfold itH
    have hr := hR w zto h2
    have hw := hl w (.head _)
    split
    · rename_i h
      have hy := hr.ok.yes h
      have hs := hr.sz h
      refine itG_ok0 hR a k n l (fun w hw => hl w (.tail _ hw)) (fun h => hn (.tail _ h)) _ s _ c ?_ hy.2 (by unfold Cr at h3; rwa [if_neg hw] at h3)
      rw [sm_app]
      omega
    · rename_i h; exact oks_err (oks_mono hr (by omega) h2) h
  | .els :: l, hl, hn, zto, s, ps, c, h1, h2, h3 => absurd (.head _) hn
theorem part_oks (i : Nat) (hi : i ≤ ts.length) : OkS ts 0 i (partG ts i) := itG_ok0 ty9_ok i 34 0 _ (by simp) (by simp) i _ [] 0 (by simp [sm]) hi part_cr
theorem part_ok (i : Nat) (hi : i ≤ ts.length) : OkG ts i (partG ts i) := (part_oks i hi).ok
theorem part_sz (i : Nat) (hi : i ≤ ts.length) : Sz i (partG ts i) := fun h => by have := (part_oks i hi).sz h; exact this
theorem par_oks (i : Nat) (hi : i ≤ ts.length) : OkS ts 0 i (parG ts i) :=
  ⟨fin_ok (cloG_ok part_ok true sParO sParS hi) (Nat.le_refl i), fun h => by have := fin_sz (ts := ts) (k := 35) (s := ⟨#[]⟩) (cloG_sz part_ok part_sz true sParO sParS hi) (Nat.le_refl i) h; exact this⟩
theorem lpF_ok : ∀ (m i : Nat) (acc : List VT), i ≤ ts.length → OkC ts i (lpF ts m i acc)
  | 0, i, acc, hi => ⟨⟨Nat.le_refl _, hi⟩, fun h => by simp [lpF] at h, fun _ => rfl⟩
  | m + 1, i, acc, hi => by
    unfold lpF
    have hp := part_ok (ts := ts) i hi
    split
    · rename_i h
      have := isK_lt h.2
      exact ⟨⟨by dsimp only; omega, by dsimp only; omega⟩, fun _ => Nat.lt_succ_self _, fun h => absurd rfl h⟩
    split
    · rename_i h; exact ⟨hp.le hi, fun h' => absurd h' h, fun _ => (hp.no h).1⟩
    · rename_i h
      have h : (partG ts i).2.2 = 0 := by simpa using h
      have hy := hp.yes h
      split
      · rename_i h3
        have hlt := isK_lt h3
        have := lpF_ok m ((partG ts i).2.1 + 1) (acc ++ [(partG ts i).1]) (by omega)
        exact ⟨⟨by have := this.le; omega, this.le.2⟩, fun h => by have := this.yes h; omega, this.no⟩
      · exact ⟨⟨by dsimp only; omega, hy.2⟩, fun h => by simp at h, fun _ => rfl⟩
theorem lpF_sz (i0 : Nat) : ∀ (m i : Nat) (acc : List VT), i ≤ ts.length → sm acc + i0 ≤ i → (lpF ts m i acc).2.2 = 0 → sm (lpF ts m i acc).1 + i0 < (lpF ts m i acc).2.1
  | 0, i, acc, hi, _ => fun h => by simp [lpF] at h
  | m + 1, i, acc, hi, ha => by
    unfold lpF
    have hp := part_ok (ts := ts) i hi
    split
    · exact fun _ => by dsimp only; omega
    split
    · rename_i h; exact fun h' => absurd h' h
    · rename_i h
      have h : (partG ts i).2.2 = 0 := by simpa using h
      have hy := hp.yes h
      have hs := part_sz i hi h
      split
      · rename_i h3
        have hlt := isK_lt h3
        exact lpF_sz i0 m ((partG ts i).2.1 + 1) (acc ++ [(partG ts i).1]) (by omega) (by rw [sm_app]; omega)
      · exact fun h => by simp at h
theorem R9_ok (w j : Nat) (hj : j ≤ ts.length) : OkS ts (if w = 2 then 1 else 0) j (R9 ts w j) := by
  unfold R9
  by_cases h2 : w = 2
  · rw [if_pos h2, if_pos h2]; exact blG_ok (sG_ok _) j hj
  · rw [if_neg h2, if_neg h2]
    split
    · exact tyG_oks j hj
    split
    · exact lit_oks j hj
    · exact par_oks j hj
theorem R9_no (w : Nat) : ∀ j, j ≤ ts.length → (R9 ts w j).2.2 ≠ 0 → (R9 ts w j).1 = z0 := fun j hj h => ((R9_ok w j hj).ok.no h).2
theorem rec_oks (i : Nat) (hi : i < ts.length) : OkS ts 0 i (recG ts i) := by
  unfold recG
  split
  · rename_i h
    have := k_lt h (by decide)
    split
    · rename_i h2
      have := isK_lt h2
      exact ⟨fin_ok (lpF_ok _ (i + 3) [] (by omega)) (by omega), fun h => by have := fin_sz (ts := ts) (i := i) (o := i + 3) (k := 30) (s := (nxt ts (i + 1)).s) (lpF_sz (i + 3) (ts.length + 1) (i + 3) [] (by omega) (by simp [sm])) (by omega) h; exact this⟩
    · exact oks_bad (fun _ => by omega)
  · exact oks_bad (fun _ => by omega)
theorem decl_oks (i : Nat) (hi : i ≤ ts.length) : OkS ts 0 i (declG ts i) := by
  unfold declG
  split
  · exact itG_ok R9_ok i _ _ i _ [] 0 (by simp [sm]) hi (by simp [Cr])
  split
  · exact itG_ok R9_ok i _ _ i _ [] 0 (by simp [sm]) hi (by simp [Cr])
  split
  · exact itG_ok R9_ok i _ _ i _ [] 0 (by simp [sm]) hi (by simp [Cr])
  split
  · exact itG_ok R9_ok i _ _ i _ [] 0 (by simp [sm]) hi (by simp [Cr])
  split
  · rename_i h; exact rec_oks i (isK_lt h)
  · exact oks_bad (fun h => ⟨Nat.le_refl _, h⟩)
theorem lit_ne5 (i : Nat) : Ne5 ts i (litG ts i).2.1 := by
  unfold litG
  split
  · rename_i h; exact ne_next (ne_k h (by decide))
  split
  · rename_i h; exact ne_next (ne_isK h)
  split
  · rename_i h; exact ne_next (ne_isK h)
  · exact ne_self
theorem part_ne5 (i : Nat) (hi : i ≤ ts.length) : Ne5 ts i (partG ts i).2.1 := itH_ne5 (fun w j hj => (ty9_ok w j hj).ok) (fun w j hj => tyG_ne5 _ j hj) i i _ _ _ i _ [] (Nat.le_refl i) hi ne_self
theorem par_ne5 (i : Nat) (hi : i ≤ ts.length) : Ne5 ts i (parG ts i).2.1 := fin_ne5 (cloG_ne5 part_ok part_ne5 i (Nat.le_refl i) true sParO sParS hi ne_self)
theorem lpF_ne5 (a : Nat) : ∀ (m i : Nat) (acc : List VT), a ≤ i → i ≤ ts.length → Ne5 ts a i → Ne5 ts a (lpF ts m i acc).2.1
  | 0, i, acc, _, _, h => h
  | m + 1, i, acc, hai, hi, h => by
    have hp := (part_ok (ts := ts) i hi).le hi
    have hn : Ne5 ts a (partG ts i).2.1 := ne_up (part_ne5 i hi) hp.1 h hai
    unfold lpF
    split
    · rename_i h; exact ne_next (ne_isK h.2)
    split
    · exact hn
    · split
      · rename_i h3
        have hlt := isK_lt h3
        exact lpF_ne5 a m _ _ (by omega) (by omega) (ne_next (ne_isK h3))
      · exact hn
theorem R9_ne5 (w j : Nat) (hj : j ≤ ts.length) : Ne5 ts j (R9 ts w j).2.1 := by
  unfold R9
  split
  · exact blG_ne5 (sG_ok _) (sG_ne5 _) j hj
  split
  · exact tyG_ne5 _ j hj
  split
  · exact lit_ne5 j
  · exact par_ne5 j hj
theorem decl_ne5 (i : Nat) (hi : i ≤ ts.length) : Ne5 ts i (declG ts i).2.1 := by
  have it := fun (k n : Int) (l : List It) => itH_ne5 (ts := ts) (fun w j hj => (R9_ok w j hj).ok) R9_ne5 i i k n l i ⟨#[]⟩ [] (Nat.le_refl i) hi ne_self
  unfold declG
  split
  · exact it _ _ _
  split
  · exact it _ _ _
  split
  · exact it _ _ _
  split
  · exact it _ _ _
  split
  · rename_i h
    have := isK_lt h
    unfold recG
    split
    · rename_i h1
      have := k_lt h1 (by decide)
      split
      · rename_i h2
        have := isK_lt h2
        exact fin_ne5 (lpF_ne5 i _ (i + 3) [] (by omega) (by omega) (ne_next (ne_isK h2)))
      · exact ne_next (ne_k h1 (by decide))
    · exact ne_next (ne_isK h)
  · exact ne_self
section
variable (ht : TO ts)
include ht
theorem lit_pl (i : Nat) (hi : i ≤ ts.length) : Pl ts i (litG ts i) := by
  have one : ∀ (k n : Int) (s : ByteArray), i < ts.length → (nxt ts i).k ≠ 5 → I6 k → I6 n → Pl ts i (mk7 ts i (i + 1) k n s []) := fun k n s h hn h6 h7 => pl_mk ht (ps_nil ht (by omega) (by omega)) (by omega) (by omega) (Nat.le_refl i) hn h6 h7
  unfold litG
  split
  · rename_i h; exact one _ _ _ (k_lt h (by decide)) (ne_k h (by decide)) (by decide) (ht.b i (k_lt h (by decide))).1
  split
  · rename_i h; exact one _ _ _ (isK_lt h) (ne_isK h) (by decide) (by decide)
  split
  · rename_i h; exact one _ _ _ (isK_lt h) (ne_isK h) (by decide) (by decide)
  · exact pl_bad
theorem itG_pl0 {R : Nat → Nat → Got} (hR : ∀ w j, j ≤ ts.length → OkS ts 0 j (R w j)) (hS : ∀ w j, j ≤ ts.length → Pl ts j (R w j)) (a : Nat) (k n : Int) (hk6 : I6 k) (hn6 : I6 n) : ∀ (l : List It) (hn : It.els ∉ l) (zto : Nat) (s : ByteArray) (ps : List VT), a + (if l = [] then 1 else 0) ≤ zto → zto ≤ ts.length → PS ts a zto ps → (a < zto → (nxt ts (zto - 1)).k ≠ 5) → Pl ts a (itH ts R a k n l zto s ps)
  | [], hn, zto, s, ps, h1, h2, h4, h6 => by
    rw [itH]
    rw [if_pos rfl] at h1
    exact pl_mk ht h4 (by omega) h2 (Nat.le_refl a) (h6 (by omega)) hk6 hn6
  | .sgn x :: l, hn, zto, s, ps, h1, h2, h4, h6 => by
    unfold itH
    split
    · rename_i h; have := isK_lt h; exact itG_pl0 hR hS a k n hk6 hn6 l (fun h => hn (.tail _ h)) (zto + 1) s ps (by split <;> simp at h1 <;> omega) (by omega) (ps_mono ht h4 (by simp at h1; omega) (Nat.le_succ _) (by omega)) (fun _ => ne_isK h)
    · exact pl_bad
  | .nam :: l, hn, zto, s, ps, h1, h2, h4, h6 => by
    unfold itH
    split
    · rename_i h; have := k_lt h (by decide); exact itG_pl0 hR hS a k n hk6 hn6 l (fun h => hn (.tail _ h)) (zto + 1) _ ps (by split <;> simp at h1 <;> omega) (by omega) (ps_mono ht h4 (by simp at h1; omega) (Nat.le_succ _) (by omega)) (fun _ => ne_k h (by decide))
    · exact pl_bad
  | .sub w :: l, hn, zto, s, ps, h1, h2, h4, h6 => by
    unfold itH
    have hr := hR w zto h2
    split
    · rename_i h
      have hy := hr.ok.yes h
      exact itG_pl0 hR hS a k n hk6 hn6 l (fun h => hn (.tail _ h)) _ s _ (by split <;> simp at h1 <;> omega) hy.2 (ps_snoc ht h4 (by simp at h1; omega) (Nat.le_refl zto) hr.ok h (hS w zto h2)) (fun _ => (hS w zto h2 h).ne)
    · rename_i h; exact pl_err h
  | .els :: l, hn, zto, s, ps, h1, h2, h4, h6 => absurd (.head _) hn
theorem part_pl (i : Nat) (hi : i ≤ ts.length) : Pl ts i (partG ts i) := itG_pl0 ht ty9_ok (fun w j hj => tyG_pl ht _ j hj) i 34 0 (by decide) (by decide) _ (by simp) i _ [] (by simp) hi (ps_nil ht (Nat.le_refl i) hi) (fun h => absurd h (Nat.lt_irrefl i))
theorem par_pl (i : Nat) (hi : i ≤ ts.length) : Pl ts i (parG ts i) := fin_pl ht (cloG_ok part_ok true sParO sParS hi) (cloG_pl ht part_ok (part_pl ht) i (Nat.le_refl i) true sParO sParS hi) cloG_ne (Nat.le_refl i) (by decide)
theorem lpF_pl (a : Nat) : ∀ (m i : Nat) (acc : List VT), a ≤ i → i ≤ ts.length → PS ts a i acc → (lpF ts m i acc).2.2 = 0 → PS ts a (lpF ts m i acc).2.1 (lpF ts m i acc).1 ∧ (nxt ts ((lpF ts m i acc).2.1 - 1)).k ≠ 5
  | 0, i, acc, _, _, _ => fun h => by simp [lpF] at h
  | m + 1, i, acc, hai, hi, hs => by
    have hp := part_ok (ts := ts) i hi
    unfold lpF
    split
    · rename_i h
      have := isK_lt h.2
      exact fun _ => ⟨ps_mono ht hs hai (Nat.le_succ _) (by dsimp only; omega), ne_isK h.2⟩
    split
    · rename_i h; exact fun h' => absurd h' h
    · rename_i h
      have h : (partG ts i).2.2 = 0 := by simpa using h
      have hy := hp.yes h
      have hn := ps_snoc ht hs hai (Nat.le_refl i) hp h (part_pl ht i hi)
      split
      · rename_i h3
        have hlt := isK_lt h3
        exact lpF_pl a m _ _ (by omega) (by omega) (ps_mono ht hn (by omega) (Nat.le_succ _) (by omega))
      · exact fun h => by simp at h
theorem R9_pl (w j : Nat) (hj : j ≤ ts.length) : Pl ts j (R9 ts w j) := by
  unfold R9
  split
  · exact blG_pl ht (sG_ok _) (sG_pl ht _) j hj
  split
  · exact tyG_pl ht _ j hj
  split
  · exact lit_pl ht j hj
  · exact par_pl ht j hj
theorem decl_pl (i : Nat) (hi : i ≤ ts.length) : Pl ts i (declG ts i) := by
  have it : ∀ (k n : Int) (l : List It), I6 k → I6 n → Cr 0 l → Pl ts i (itH ts (R9 ts) i k n l i ⟨#[]⟩ []) := fun k n l h6 h7 hc => itG_pl ht R9_ok (R9_pl ht) i k h6 h7 l i _ [] 0 (by simp [sm]) hi hc (ps_nil ht (Nat.le_refl i) hi) (fun h => absurd h (Nat.lt_irrefl i))
  unfold declG
  split
  · exact it _ _ _ (by decide) (by decide) (by simp [Cr])
  split
  · exact it _ _ _ (by decide) (by decide) (by simp [Cr])
  split
  · exact it _ _ _ (by decide) (by decide) (by simp [Cr])
  split
  · exact it _ _ _ (by decide) (by decide) (by simp [Cr])
  split
  · rename_i h
    have := isK_lt h
    unfold recG
    split
    · rename_i h1
      have := k_lt h1 (by decide)
      split
      · rename_i h2
        have := isK_lt h2
        have hk := lpF_ok (ts := ts) (ts.length + 1) (i + 3) [] (by omega)
        have hp := lpF_pl ht i (ts.length + 1) (i + 3) [] (by omega) (by omega) (ps_nil ht (by omega) (by omega))
        exact fin_pl ht hk (fun h => (hp h).1) (fun h => (hp h).2) (by omega) (by decide)
      · exact pl_bad
    · exact pl_bad
  · exact pl_bad
end
theorem kt_s {k : Int} {p : Nat × Int} (hk : k ≠ 5) (c : p.2 = 0 → p.1 ≤ ts.length) : (KT ts k p).2.2 = 0 → p.1 + 1 ≤ (KT ts k p).2.1 ∧ (KT ts k p).2.1 ≤ ts.length := by
  obtain ⟨i, e⟩ := p
  unfold KT
  dsimp only at c ⊢
  by_cases he : e = 0
  · subst he
    rw [if_pos rfl]
    by_cases h : (nxt ts i).k = k
    · rw [if_pos h]; have := k_lt h hk; have := c rfl; intro _; dsimp only; omega
    · rw [if_neg h]; intro h; exact absurd (show (6 : Int) = 0 from h) (by decide)
  · rw [if_neg he]; exact fun h => absurd h he
def lpF0 (ts : List Tok) : Nat → Nat → List VT → List VT × Nat × Int
  | 0, i, acc => (acc, i, 6)
  | m + 1, i, acc => if acc ≠ [] ∧ isK sKet (nxt ts i) = true then (acc, i, 0)
    else if (partG ts i).2.2 ≠ 0 then (acc, (partG ts i).2.1, (partG ts i).2.2)
    else if isK sEnd (nxt ts (partG ts i).2.1) = true then lpF0 ts m ((partG ts i).2.1 + 1) (acc ++ [(partG ts i).1])
    else (acc, (partG ts i).2.1, 6)
theorem lpF_of : ∀ (m i : Nat) (acc : List VT), ((lpF0 ts m i acc).2.2 = 0 → lpF ts m i acc = ((lpF0 ts m i acc).1, (lpF0 ts m i acc).2.1 + 1, 0) ∧ isK sKet (nxt ts (lpF0 ts m i acc).2.1) = true) ∧ ((lpF0 ts m i acc).2.2 ≠ 0 → (lpF ts m i acc).2 = (lpF0 ts m i acc).2)
  | 0, i, acc => ⟨fun h => by simp [lpF0] at h, fun _ => rfl⟩
  | m + 1, i, acc => by
    unfold lpF lpF0
    by_cases h1 : acc ≠ [] ∧ isK sKet (nxt ts i) = true
    · rw [if_pos h1, if_pos h1]; exact ⟨fun _ => ⟨rfl, h1.2⟩, fun h => absurd rfl h⟩
    rw [if_neg h1, if_neg h1]
    by_cases h2 : (partG ts i).2.2 ≠ 0
    · rw [if_pos h2, if_pos h2]; exact ⟨fun h => absurd h h2, fun _ => rfl⟩
    rw [if_neg h2, if_neg h2]
    by_cases h3 : isK sEnd (nxt ts (partG ts i).2.1) = true
    · rw [if_pos h3, if_pos h3]; exact lpF_of m _ _
    · rw [if_neg h3, if_neg h3]; exact ⟨fun h => by simp at h, fun _ => rfl⟩
def FlT (ts : List Tok) (p : Nat × Int) : Nat × Int := WT ts sEnd (OT (partG ts) p).2
theorem FlT_at (i : Nat) : FlT ts (i, 0) = if (partG ts i).2.2 ≠ 0 then ((partG ts i).2.1, (partG ts i).2.2) else if isK sEnd (nxt ts (partG ts i).2.1) = true then ((partG ts i).2.1 + 1, 0) else ((partG ts i).2.1, 6) := by
  unfold FlT
  rw [show OT (partG ts) (i, 0) = partG ts i from if_pos rfl]
  unfold WT
  by_cases h : (partG ts i).2.2 = 0
  · rw [if_pos h, if_neg (show ¬ (partG ts i).2.2 ≠ 0 by simp [h])]
  · rw [if_neg h, if_pos h]
theorem lpF0_step (m i : Nat) (acc : List VT) (h : ¬ (acc ≠ [] ∧ isK sKet (nxt ts i) = true)) : ((FlT ts (i, 0)).2 = 0 → lpF0 ts (m + 1) i acc = lpF0 ts m (FlT ts (i, 0)).1 (acc ++ [(partG ts i).1])) ∧ ((FlT ts (i, 0)).2 ≠ 0 → (lpF0 ts (m + 1) i acc).2 = FlT ts (i, 0)) := by
  rw [FlT_at, lpF0, if_neg h]
  by_cases h2 : (partG ts i).2.2 ≠ 0
  · rw [if_pos h2, if_pos h2]; exact ⟨fun h => absurd h h2, fun _ => rfl⟩
  rw [if_neg h2, if_neg h2]
  by_cases h3 : isK sEnd (nxt ts (partG ts i).2.1) = true
  · rw [if_pos h3, if_pos h3]; exact ⟨fun _ => rfl, fun h => absurd rfl h⟩
  · rw [if_neg h3, if_neg h3]; exact ⟨fun h => by simp at h, fun _ => rfl⟩
theorem FlT_ok (i : Nat) (hi : i ≤ ts.length) (h : (FlT ts (i, 0)).2 = 0) : i + 2 ≤ (FlT ts (i, 0)).1 ∧ (FlT ts (i, 0)).1 ≤ ts.length := by
  rw [FlT_at] at h ⊢
  by_cases h2 : (partG ts i).2.2 ≠ 0
  · rw [if_pos h2] at h; exact absurd h h2
  rw [if_neg h2] at h ⊢
  by_cases h3 : isK sEnd (nxt ts (partG ts i).2.1) = true
  · rw [if_pos h3]
    have := isK_lt h3
    have := (part_ok i hi).yes (by simpa using h2)
    exact ⟨by dsimp only; omega, by dsimp only; omega⟩
  · rw [if_neg h3] at h; exact absurd (show (6 : Int) = 0 from h) (by decide)
theorem part_at (i : Nat) (h : (partG ts i).2.2 = 0) : (partG ts i).1.lab.s = (nxt ts i).s ∧ (partG ts i).1.kids = [(tyG ts (ts.length + 1) (i + 2)).1] ∧ (partG ts i).2.1 = (tyG ts (ts.length + 1) (i + 2)).2.1 := by
  unfold partG at h ⊢
  rw [itG_nam] at h ⊢
  by_cases h1 : (nxt ts i).k = 1; rotate_left
  · rw [if_neg h1] at h; simp [bad7] at h
  rw [if_pos h1] at h ⊢
  rw [itG_sgn] at h ⊢
  by_cases h2 : isK sCol (nxt ts (i + 1)) = true; rotate_left
  · rw [if_neg h2] at h; simp [bad7] at h
  rw [if_pos h2] at h ⊢
  rw [itG_sub] at h ⊢
  by_cases h3 : (Ty9 ts 1 (i + 1 + 1)).2.2 = 0; rotate_left
  · rw [if_neg h3] at h; exact absurd h h3
  rw [if_pos h3, itH]
  exact ⟨rfl, rfl, rfl⟩
theorem var_eq (i : Nat) (hi : i < ts.length) (hv : isK wVar (nxt ts i) = true) : itH ts (R9 ts) i 32 0 [.sgn wVar, .nam, .sgn sCol, .sub 1, .sgn sEnd] i ⟨#[]⟩ [] = NT ts i 32 0 (OT (partG ts) (i + 1, 0)).1.lab.s (OT (partG ts) (i + 1, 0)).1.kids (WT ts sEnd (OT (partG ts) (i + 1, 0)).2) := by
  rw [show OT (partG ts) (i + 1, 0) = partG ts (i + 1) from if_pos rfl]
  have e : itH ts (R9 ts) i 32 0 [.sgn wVar, .nam, .sgn sCol, .sub 1, .sgn sEnd] i ⟨#[]⟩ [] = if (partG ts (i + 1)).2.2 = 0 then (if isK sEnd (nxt ts (partG ts (i + 1)).2.1) = true then mk7 ts i ((partG ts (i + 1)).2.1 + 1) 32 0 (partG ts (i + 1)).1.lab.s (partG ts (i + 1)).1.kids else bad7 (partG ts (i + 1)).2.1) else partG ts (i + 1) := by
    by_cases hp : (partG ts (i + 1)).2.2 = 0
    · obtain ⟨p1, p2, p3⟩ := part_at (i + 1) hp
      rw [if_pos hp, p1, p2, p3]
      unfold partG at hp
      rw [itG_nam] at hp
      by_cases h1 : (nxt ts (i + 1)).k = 1; rotate_left
      · rw [if_neg h1] at hp; simp [bad7] at hp
      rw [if_pos h1, itG_sgn] at hp
      by_cases h2 : isK sCol (nxt ts (i + 1 + 1)) = true; rotate_left
      · rw [if_neg h2] at hp; simp [bad7] at hp
      rw [if_pos h2, itG_sub] at hp
      by_cases h3 : (Ty9 ts 1 (i + 1 + 1 + 1)).2.2 = 0; rotate_left
      · rw [if_neg h3] at hp; exact absurd hp h3
      rw [itG_sgn, if_pos hv, itG_nam, if_pos h1, itG_sgn, if_pos h2, itG_sub]
      rw [show R9 ts 1 (i + 1 + 1 + 1) = Ty9 ts 1 (i + 1 + 1 + 1) from rfl, if_pos h3, itG_sgn]
      rfl
    · rw [if_neg hp]
      unfold partG at hp ⊢
      rw [itG_sgn, if_pos hv]
      rw [itG_nam] at hp ⊢
      rw [itG_nam]
      by_cases h1 : (nxt ts (i + 1)).k = 1; rotate_left
      · rw [if_neg h1, if_neg h1]
      rw [if_pos h1] at hp ⊢
      rw [if_pos h1]
      rw [itG_sgn] at hp ⊢
      rw [itG_sgn]
      by_cases h2 : isK sCol (nxt ts (i + 1 + 1)) = true; rotate_left
      · rw [if_neg h2, if_neg h2]
      rw [if_pos h2] at hp ⊢
      rw [if_pos h2]
      rw [itG_sub] at hp ⊢
      rw [itG_sub]
      rw [show R9 ts 1 (i + 1 + 1 + 1) = Ty9 ts 1 (i + 1 + 1 + 1) from rfl]
      by_cases h3 : (Ty9 ts 1 (i + 1 + 1 + 1)).2.2 = 0
      · rw [if_pos h3, itH] at hp; exact absurd rfl hp
      · rw [if_neg h3, if_neg h3]
  rw [e]
  unfold NT WT
  by_cases hp : (partG ts (i + 1)).2.2 = 0
  · rw [if_pos hp, if_pos hp]
    by_cases h4 : isK sEnd (nxt ts (partG ts (i + 1)).2.1) = true
    · rw [if_pos h4, if_pos h4, if_pos rfl]
    · rw [if_neg h4, if_neg h4, if_neg (show ¬ ((partG ts (i + 1)).2.1, (6 : Int)).2 = 0 from fun h => absurd (show (6 : Int) = 0 from h) (by decide))]; rfl
  · rw [if_neg hp, if_neg hp, if_neg hp]
    have := ((part_ok (ts := ts) (i + 1) hi).no hp).2
    rw [← this]
def lsF (ts : List Tok) : Nat → Nat → List VT → List VT
  | 0, i, acc => acc
  | m + 1, i, acc => if (FlT ts (i, 0)).2 = 0 ∧ isK sKet (nxt ts (FlT ts (i, 0)).1) = false then lsF ts m (FlT ts (i, 0)).1 (acc ++ [(partG ts i).1]) else acc ++ [(partG ts i).1]
theorem lsF_eq : ∀ (m i : Nat) (acc : List VT), i ≤ ts.length → ts.length < m + i → ¬ (acc ≠ [] ∧ isK sKet (nxt ts i) = true) → (lpF0 ts m i acc).2.2 = 0 → lsF ts m i acc = (lpF0 ts m i acc).1
  | 0, i, acc, hi, hm, hn, h => by simp [lpF0] at h
  | m + 1, i, acc, hi, hm, hn, h => by
    obtain ⟨s1, s2⟩ := lpF0_step m i acc hn
    by_cases h0 : (FlT ts (i, 0)).2 = 0; rotate_left
    · have := s2 h0; rw [this] at h; exact absurd h h0
    have hok := FlT_ok i hi h0
    rw [s1 h0] at h ⊢
    unfold lsF
    by_cases h1 : isK sKet (nxt ts (FlT ts (i, 0)).1) = false
    · rw [if_pos ⟨h0, h1⟩]
      exact lsF_eq m _ _ hok.2 (by omega) (fun hh => by rw [h1] at hh; exact absurd hh.2 (by simp)) h
    · rw [if_neg (fun hh => h1 hh.2)]
      obtain ⟨m, rfl⟩ : ∃ q, m = q + 1 := ⟨m - 1, by omega⟩
      rw [lpF0, if_pos ⟨by simp, by simpa using h1⟩]
structure InvFl (ts : List Tok) (i : Nat) (C : List VT × Nat × Int) (L : List VT) (x : Nat × Nat × Int × List VT) : Prop where
  no : x.2.2.1 ≠ 0 → x.2.2.2 = L ∧ C.2 = (x.2.1, x.2.2.1)
  end' : x.2.2.1 = 0 → isK sKet (nxt ts x.2.1) = true → x.2.2.2 = L ∧ C.2 = (x.2.1, 0)
  go : x.2.2.1 = 0 → isK sKet (nxt ts x.2.1) = false → lsF ts x.1 x.2.1 x.2.2.2 = L ∧ lpF0 ts x.1 x.2.1 x.2.2.2 = C ∧ x.2.1 ≤ ts.length ∧ ts.length < x.1 + x.2.1
  few : 2 * x.2.2.2.length + i ≤ ts.length + 2
  fit : x.2.2.1 = 0 → 2 * x.2.2.2.length + i ≤ x.2.1
theorem invFl_next {i m q : Nat} {C : List VT × Nat × Int} {L acc : List VT} (hq : q ≤ ts.length) (hm : ts.length < m + 1 + q) (hn : ¬ (acc ≠ [] ∧ isK sKet (nxt ts q) = true)) (h1 : lsF ts (m + 1) q acc = L) (h2 : lpF0 ts (m + 1) q acc = C) (hf : 2 * acc.length + i ≤ q) : InvFl ts i C L (m, (FlT ts (q, 0)).1, (FlT ts (q, 0)).2, acc ++ [(partG ts q).1]) := by
  obtain ⟨s1, s2⟩ := lpF0_step m q acc hn
  rw [h2] at s1 s2
  unfold lsF at h1
  refine ⟨fun h0 => ?_, fun h0 hk => ?_, fun h0 hk => ?_, ?_, fun h0 => ?_⟩
  · rw [if_neg (fun hh => h0 hh.1)] at h1
    exact ⟨h1, s2 h0⟩
  · dsimp only at h0 hk ⊢
    rw [if_neg (fun hh => by rw [hk] at hh; exact absurd hh.2 (by simp))] at h1
    have hok := FlT_ok q hq h0
    refine ⟨h1, ?_⟩
    rw [s1 h0]
    obtain ⟨m, rfl⟩ : ∃ q, m = q + 1 := ⟨m - 1, by omega⟩
    rw [lpF0, if_pos ⟨by simp, hk⟩]
  · dsimp only at h0 hk ⊢
    rw [if_pos ⟨h0, hk⟩] at h1
    have hok := FlT_ok q hq h0
    exact ⟨h1, (s1 h0).symm, hok.2, by omega⟩
  · dsimp only
    rw [List.length_append, List.length_singleton]
    omega
  · have hok := FlT_ok q hq h0
    dsimp only
    rw [List.length_append, List.length_singleton]
    omega
end
end Go.Proofs.YtlkggpjdaaglmaaGreatDoor.vt
end
section
namespace Go.Proofs.YtlkggpjdaaglmaaGreatDoor.am
open Go.ChangeShapes Go.WideShapes Go.ChangeAt Go.RowKit
set_option linter.unusedVariables false
set_option linter.unusedSimpArgs false
def oldS (w : World) : CS := fun b _ => b < w.heap.size
section
variable {P : Program} {S : CS} {w : World}
theorem RepPs.take {vs : List Value} {l : List PV} (h : RepPs S w vs l) (n : Nat) : RepPs S w (vs.take n) (l.take n) := by
  have := (RepPs.cs (γ := fun _ => .un)).1 h
  refine (RepPs.cs (γ := fun _ => .un)).2 ?_
  rw [List.map_take]; exact RepCs.take this n
end
end Go.Proofs.YtlkggpjdaaglmaaGreatDoor.am
end
section
namespace Go.Proofs.YtlkggpjdaaglmaaGreatDoor.am
open Go.ChangeShapes Go.WideShapes Go.ChangeAt Go.RowKit
set_option linter.unusedVariables false
abbrev newS (S : CS) (w w' : World) : CS := fun b o => S b o ∨ (w.heap.size ≤ b ∧ b < w'.heap.size)
theorem Mem.below {γ : Nat → G} {S : CS} {w w' : World} {ch : List AO} (hm : Mem ⟨w, S, γ, []⟩ (fun x => ch[x]?) (fun x => ch.length ≤ x) γ S w) (hb : Below w.heap.size w w') :
    Mem ⟨w, S, γ, []⟩ (fun x => ((ch.map some)[x]?).join) (fun x => (ch.map some).length ≤ x) γ (newS S w w') w' := by
  have hj : ∀ x, ((ch.map some)[x]?).join = ch[x]? := fun x => by
    rw [List.getElem?_map]
    cases ch[x]? <;> rfl
  refine ⟨hb.os, hb.tape, hb.output, hb.size, fun b h _ => hb.block b h, fun b o h => ⟨.inl h, hb.cell (p := ⟨b, o, none⟩) (hm.inb b o h)⟩, fun b o h => h.elim .inl (fun h => .inr (.inl h.1)), fun b o h => h.elim (fun h => Nat.lt_of_lt_of_le (hm.inb b o h) hb.size) (fun h => h.2), GOn.refl _,
    fun x hx => hm.un x (by rw [List.length_map] at hx; exact hx), fun x hx => hm.off x (by rw [← hj]; exact hx), fun x o hx => ?_, hm.dist, fun x b h => ⟨Nat.lt_of_lt_of_le (hm.live x b h).1 hb.size, (hm.live x b h).2⟩⟩
  refine Obj'.on (hm.obj x o (by rw [← hj]; exact hx)) rfl (GOn.refl _) (fun _ _ h => .inl h) (fun b o h => hb.cell (p := ⟨b, o, none⟩) (hm.inb b o h)) (fun b hbk => ⟨hb.block b (hm.live x b hbk).1, fun o h => h.elim (fun h => h) (fun h => ?_)⟩)
  have := (hm.live x b hbk).1
  exact absurd h.1 (Nat.not_le.2 this)
theorem spec_of_below {P : Program} {f : FuncId} {args : List AV} {ch : List AO} {res : AV}
    (h : ∀ (γ : Nat → G) (S : CS) (w : World) (vs : List Value), Mem ⟨w, S, γ, []⟩ (fun x => ch[x]?) (fun x => ch.length ≤ x) γ S w → RepVs γ S w vs args →
      Calls P f vs.toArray w fun e w' => ∃ v, e = .returned v ∧ Below w.heap.size w w' ∧ RepV γ (newS S w w') w' v res) : Spec P f args ch res (ch.map some) := fun γ S w vs hm hv => by
  refine (h γ S w vs hm hv).mono ?_
  rintro e w' ⟨v, h1, h2, h3⟩
  exact ⟨v, γ, newS S w w', h1, hm.below h2, h3⟩
theorem lib_block {γ : Nat → G} {S : CS} {w : World} {x : Nat} {L : List (Nat × Array Value)} (h : Obj' γ S w x (.lib L)) {g : Nat} {cs : Array Value} (hg : (g, cs) ∈ L) (hne : 0 < cs.size) : ∃ t z, w.heap[g]? = some (.cells cs t z) := by
  have hc := fun o => (h.2 _ hg o).2
  dsimp only at hc
  have h0 := hc 0
  unfold World.cell? at hc h0
  cases hh : w.heap[g]? with
  | none => rw [hh] at h0; rw [Array.getElem?_eq_getElem hne] at h0; cases h0
  | some ob =>
    cases ob with
    | cells c t z =>
      refine ⟨t, z, ?_⟩
      have : c = cs := by
        apply Array.ext_getElem?
        intro i
        have := hc i
        rw [hh] at this
        simpa using this
      rw [this]
    | _ => rw [hh] at h0; rw [Array.getElem?_eq_getElem hne] at h0; cases h0
theorem lib_var {P : Program} {γ : Nat → G} {S : CS} {w : World} {x : Nat} {L : List (Nat × Array Value)} (h : Obj' γ S w x (.lib L)) {n : String} {g : Nat} (hn : P.globalNamed n = some g) {cs : Array Value} (hg : (g, cs) ∈ L) (hne : 0 < cs.size) : w.var? P n = some cs := by
  obtain ⟨t, z, hb⟩ := lib_block h hg hne
  unfold World.var?
  rw [hn]
  show (match w.heap[g]? with | some (.cells cs _ _) => some cs | _ => none) = _
  rw [hb]
theorem var_lib {P : Program} {w : World} {n : String} {g : Nat} (hn : P.globalNamed n = some g) {cs : Array Value} (h : w.var? P n = some cs) : ∀ o, g < w.heap.size ∧ w.cell? ⟨g, o, none⟩ = cs[o]? := by
  unfold World.var? at h
  rw [hn] at h
  have h : (match w.heap[g]? with | some (.cells cs _ _) => some cs | _ => none) = some cs := h
  intro o
  cases hh : w.heap[g]? with
  | none => rw [hh] at h; cases h
  | some ob =>
    refine ⟨(Array.getElem?_eq_some_iff.1 hh).1, ?_⟩
    cases ob with
    | cells c t z =>
      rw [hh] at h
      obtain rfl := Option.some.inj h
      unfold World.cell?
      rw [hh]
      rfl
    | _ => rw [hh] at h; cases h
theorem calls_of_lib {P : Program} {w : World} {f : FuncId} {args : List AV} {vs : List Value} {L : List (Nat × Array Value)} (h : Row P f args [.lib L] (.v (.c (.pv (.lit (.bool true))))) [some (.lib L)]) (hL : ∀ p ∈ L, ∀ o, p.1 < w.heap.size ∧ w.cell? ⟨p.1, o, none⟩ = p.2[o]?)
    (hv : RepVs (fun _ => .un) (oldS w) w vs args) : Calls P f vs.toArray w fun e w' => e = .returned (.bool true) ∧ Below w.heap.size w w' := by
  have hbk : ∀ x b, (((fun x : Nat => if x = 0 then G.lib else G.un) x).bk = some b) → False := fun x b h => by
    dsimp only at h
    by_cases hx : x = 0
    · rw [if_pos hx] at h; cases h
    · rw [if_neg hx] at h; cases h
  have hm : Mem ⟨w, oldS w, fun x => if x = 0 then .lib else .un, []⟩ (fun x => [AO.lib L][x]?) (fun x => [AO.lib L].length ≤ x) (fun x => if x = 0 then .lib else .un) (oldS w) w := by
    refine ⟨rfl, rfl, rfl, Nat.le_refl _, fun _ _ _ => rfl, fun _ _ h => ⟨h, rfl⟩, fun _ _ h => .inl h, fun _ _ h => h, GOn.refl _, fun x hx => ?_, fun x hx => ?_, fun x o hx => ?_, fun x y _ b h _ => hbk x b h, fun x b h => (hbk x b h).elim⟩
    · have hx : 1 ≤ x := hx
      exact if_neg (by omega)
    · left
      cases x with
      | zero => cases hx
      | succ x => rfl
    · cases x with
      | zero =>
        obtain rfl := Option.some.inj hx
        exact ⟨rfl, fun p hp o => hL p hp o⟩
      | succ x => simp at hx
  have hmono : ∀ (vs : List Value) (args : List AV), RepVs (fun _ => .un) (oldS w) w vs args → RepVs (fun x => if x = 0 then .lib else .un) (oldS w) w vs args := by
    intro vs
    induction vs with
    | nil => intro args h; cases args with
      | nil => trivial
      | cons _ _ => exact h.elim
    | cons v vs ih => intro args h; cases args with
      | nil => exact h.elim
      | cons a args => exact ⟨RepV.mono (fun _ => .inl rfl) (fun _ _ h => h) (fun _ _ _ => rfl) h.1, ih args h.2⟩
  refine (h.spec _ _ w vs hm (hmono vs args hv)).mono ?_
  rintro e w' ⟨v, γ', S', rfl, m, hr⟩
  obtain ⟨rfl, _⟩ := lit_inv hr
  exact ⟨rfl, m.os, m.tape, m.output, m.size, fun b hb => m.frame b hb (fun x h => hbk x b h)⟩
end Go.Proofs.YtlkggpjdaaglmaaGreatDoor.am
end
