import Derived.Test.YthcnligihpnfiaaGreatDoorPkU4
import Derived.Test.YthcnligihpnfiaaGreatDoorPkU5
section
namespace Go.Proofs.YthcnligihpnfiaaGreatDoor.vt
open Go.Proofs.YthcnligihpnfiaaGreatDoor.am
set_option linter.unusedVariables false
abbrev Got := VT × Nat × Int
def opS (s : ByteArray) : Int × Nat :=
  if s = ⟨#[124, 124]⟩ then (1, 1) else if s = ⟨#[38, 38]⟩ then (2, 2) else if s = ⟨#[61, 61]⟩ then (3, 3) else if s = ⟨#[33, 61]⟩ then (4, 3) else if s = ⟨#[60]⟩ then (5, 3) else if s = ⟨#[60, 61]⟩ then (6, 3)
  else if s = ⟨#[62]⟩ then (7, 3) else if s = ⟨#[62, 61]⟩ then (8, 3) else if s = ⟨#[43]⟩ then (9, 4) else if s = ⟨#[45]⟩ then (10, 4) else if s = ⟨#[42]⟩ then (11, 5) else if s = ⟨#[47]⟩ then (12, 5) else if s = ⟨#[37]⟩ then (13, 5) else (0, 6)
def opK (x : Tok) : Int × Nat := if x.k = 4 then opS x.s else (0, 6)
def mk7 (ts : List Tok) (a b : Nat) (k n : Int) (s : ByteArray) (l : List VT) : Got := (.mk ⟨k, n, s, frT ts a, toT ts (b - 1)⟩ l, b, 0)
def bad7 (i : Nat) : Got := (z0, i, 6)
abbrev sParO : ByteArray := ⟨#[40]⟩
abbrev sParS : ByteArray := ⟨#[41]⟩
abbrev sDot : ByteArray := ⟨#[46]⟩
abbrev sCom : ByteArray := ⟨#[44]⟩
abbrev sAt : ByteArray := ⟨#[64]⟩
abbrev sMin : ByteArray := ⟨#[45]⟩
abbrev sNot : ByteArray := ⟨#[33]⟩
abbrev wTrue : ByteArray := ⟨#[116, 114, 117, 101]⟩
abbrev wFals : ByteArray := ⟨#[102, 97, 108, 115, 101]⟩
abbrev wRead : ByteArray := ⟨#[114, 101, 97, 100]⟩
abbrev wNew : ByteArray := ⟨#[110, 101, 119]⟩
section
variable (ts : List Tok)
def lpL (P : Nat → Got) (l a : Nat) : Nat → Bool → Got → Got
  | 0, _, x => x
  | m + 1, t, x => if x.2.2 ≠ 0 then x else if (opK (nxt ts x.2.1)).2 ≠ l ∨ (l = 3 ∧ t = true) then x
      else if (P (x.2.1 + 1)).2.2 ≠ 0 then P (x.2.1 + 1)
      else lpL P l a m true (mk7 ts a (P (x.2.1 + 1)).2.1 10 (opK (nxt ts x.2.1)).1 ⟨#[]⟩ [x.1, (P (x.2.1 + 1)).1])
def lpP (E : Nat → Got) (a : Nat) : Nat → Got → Got
  | 0, x => x
  | m + 1, x => if x.2.2 ≠ 0 then x else if isK sOpen (nxt ts x.2.1) = true then
        if (E (x.2.1 + 1)).2.2 ≠ 0 then E (x.2.1 + 1)
        else if isK sShut (nxt ts (E (x.2.1 + 1)).2.1) = false then bad7 (E (x.2.1 + 1)).2.1
        else lpP E a m (mk7 ts a ((E (x.2.1 + 1)).2.1 + 1) 12 0 ⟨#[]⟩ [x.1, (E (x.2.1 + 1)).1])
      else if isK sDot (nxt ts x.2.1) = true then
        if (nxt ts (x.2.1 + 1)).k ≠ 1 then bad7 (x.2.1 + 1) else lpP E a m (mk7 ts a (x.2.1 + 2) 13 0 (nxt ts (x.2.1 + 1)).s [x.1])
      else x
def lpC (E : Nat → Got) : Nat → Nat → List VT → List VT × Nat × Int
  | 0, i, acc => (acc, i, 6)
  | m + 1, i, acc => if (E i).2.2 ≠ 0 then (acc, (E i).2.1, (E i).2.2) else if isK sCom (nxt ts (E i).2.1) = false then (acc ++ [(E i).1], (E i).2.1, 0) else lpC E m ((E i).2.1 + 1) (acc ++ [(E i).1])
def cloG (E : Nat → Got) (o : Nat) (few : Bool) (fs ls : ByteArray) : List VT × Nat × Int :=
  if isK fs (nxt ts o) = false then ([], o, 6) else if few = true ∧ isK ls (nxt ts (o + 1)) = true then ([], o + 2, 0)
  else if (lpC ts E (ts.length + 1) (o + 1) []).2.2 ≠ 0 then lpC ts E (ts.length + 1) (o + 1) []
  else if isK ls (nxt ts (lpC ts E (ts.length + 1) (o + 1) []).2.1) = false then ((lpC ts E (ts.length + 1) (o + 1) []).1, (lpC ts E (ts.length + 1) (o + 1) []).2.1, 6)
  else ((lpC ts E (ts.length + 1) (o + 1) []).1, (lpC ts E (ts.length + 1) (o + 1) []).2.1 + 1, 0)
def finC (i : Nat) (k : Int) (s : ByteArray) (c : List VT × Nat × Int) : Got := if c.2.2 ≠ 0 then (z0, c.2.1, c.2.2) else mk7 ts i c.2.1 k 0 s c.1
def calG (E : Nat → Got) (i : Nat) : Got :=
  if (nxt ts i).k = 1 then finC ts i 16 (nxt ts i).s (cloG ts E (i + 1) true sParO sParS)
  else if isK sOpen (nxt ts i) = true then finC ts i 14 ⟨#[]⟩ (cloG ts E i false sOpen sShut)
  else if isK sAt (nxt ts i) = true then if (nxt ts (i + 1)).k ≠ 1 then bad7 (i + 1) else finC ts i 17 (nxt ts (i + 1)).s (cloG ts E (i + 2) true sParO sParS)
  else if isK wNew (nxt ts i) = true then if (nxt ts (i + 1)).k ≠ 1 then bad7 (i + 1) else finC ts i 15 (nxt ts (i + 1)).s (cloG ts E (i + 2) false sParO sParS)
  else bad7 i
def atoG (E : Nat → Got) (i : Nat) : Got :=
  if (nxt ts i).k = 2 then mk7 ts i (i + 1) 5 (nxt ts i).n ⟨#[]⟩ []
  else if isK wTrue (nxt ts i) = true then mk7 ts i (i + 1) 6 1 ⟨#[]⟩ []
  else if isK wFals (nxt ts i) = true then mk7 ts i (i + 1) 6 0 ⟨#[]⟩ []
  else if isK wRead (nxt ts i) = true then mk7 ts i (i + 1) 18 0 ⟨#[]⟩ []
  else if (nxt ts i).k = 1 ∧ isK sParO (nxt ts (i + 1)) = false then mk7 ts i (i + 1) 19 0 (nxt ts i).s []
  else if isK sParO (nxt ts i) = true then
    if (E (i + 1)).2.2 ≠ 0 then E (i + 1) else if isK sParS (nxt ts (E (i + 1)).2.1) = false then bad7 (E (i + 1)).2.1 else ((E (i + 1)).1, (E (i + 1)).2.1 + 1, 0)
  else calG ts E i
def unN (i : Nat) : Int := if isK sNot (nxt ts i) = true then 2 else if isK sMin (nxt ts i) = true then 1 else 0
def bG (R : Nat → Nat → Got) (w i : Nat) : Got :=
  if w ≤ 5 then lpL ts (R (w + 1)) w i (ts.length + 1) false (R (w + 1) i)
  else if w = 6 then
    if unN ts i = 0 then R 7 i else if (R 6 (i + 1)).2.2 ≠ 0 then R 6 (i + 1) else mk7 ts i (R 6 (i + 1)).2.1 11 (unN ts i) ⟨#[]⟩ [(R 6 (i + 1)).1]
  else if w = 7 then lpP ts (R 1) i (ts.length + 1) (R 8 i)
  else atoG ts (R 1) i
def pG : Nat → Nat → Nat → Got
  | 0, _, i => bad7 i
  | n + 1, w, i => bG ts (pG n) w i
end
section
variable {ts : List Tok}
structure OkG (ts : List Tok) (i : Nat) (x : Got) : Prop where
  yes : x.2.2 = 0 → i < x.2.1 ∧ x.2.1 ≤ ts.length
  no : x.2.2 ≠ 0 → x.2.2 = 6 ∧ x.1 = z0
  le : i ≤ ts.length → i ≤ x.2.1 ∧ x.2.1 ≤ ts.length
theorem isK_lt {s : ByteArray} {i : Nat} (h : isK s (nxt ts i) = true) : i < ts.length := by
  obtain ⟨x, h1, _⟩ := isK_at h
  exact (List.getElem?_eq_some_iff.1 h1).1
theorem k_lt {k : Int} {i : Nat} (h : (nxt ts i).k = k) (hk : k ≠ 5) : i < ts.length := by
  rcases Nat.lt_or_ge i ts.length with h1 | h1
  · exact h1
  · rw [nxt_none h1] at h; exact absurd h.symm hk
theorem op_lt {l i : Nat} (h : (opK (nxt ts i)).2 = l) (hl : l ≤ 5) : i < ts.length := by
  rcases Nat.lt_or_ge i ts.length with h1 | h1
  · exact h1
  · rw [nxt_none h1] at h
    have : (opK endK).2 = 6 := rfl
    omega
theorem ok_bad {i j : Nat} (h : i ≤ ts.length → i ≤ j ∧ j ≤ ts.length) : OkG ts i (bad7 j) := ⟨fun h => by simp [bad7] at h, fun _ => ⟨rfl, rfl⟩, h⟩
theorem ok_mk {i b : Nat} {k n : Int} {s : ByteArray} {l : List VT} (h : i < b) (hb : b ≤ ts.length) : OkG ts i (mk7 ts i b k n s l) := ⟨fun _ => ⟨h, hb⟩, fun h => absurd rfl h, fun _ => ⟨Nat.le_of_lt h, hb⟩⟩
theorem lpL_ok {P : Nat → Got} {l a : Nat} (hl : l ≤ 5) (hP : ∀ j, j ≤ ts.length → OkG ts j (P j)) : ∀ (m : Nat) (t : Bool) (x : Got), OkG ts a x → OkG ts a (lpL ts P l a m t x)
  | 0, t, x, hx => hx
  | m + 1, t, x, hx => by
    unfold lpL
    split
    · exact hx
    · rename_i h0
      have h0 : x.2.2 = 0 := by simpa using h0
      split
      · exact hx
      · rename_i h1
        have h1 : (opK (nxt ts x.2.1)).2 = l := by simpa using (not_or.1 h1).1
        have hlt := op_lt h1 hl
        have hp := hP (x.2.1 + 1) (by omega)
        have hy := hx.yes h0
        split
        · rename_i h2
          exact ⟨fun h => absurd h h2, hp.no, fun _ => by have := hp.le (by omega); omega⟩
        · rename_i h2
          have h2 : (P (x.2.1 + 1)).2.2 = 0 := by simpa using h2
          have := hp.yes h2
          exact lpL_ok hl hP m true _ (ok_mk (by omega) this.2)
theorem lpL_congr {P P' : Nat → Got} {l a : Nat} (hl : l ≤ 5) (hP : ∀ j, j ≤ ts.length → OkG ts j (P j)) (he : ∀ j, a < j → j ≤ ts.length → P j = P' j) : ∀ (m : Nat) (t : Bool) (x : Got), OkG ts a x → lpL ts P l a m t x = lpL ts P' l a m t x
  | 0, t, x, hx => rfl
  | m + 1, t, x, hx => by
    unfold lpL
    split
    · rfl
    · rename_i h0
      have h0 : x.2.2 = 0 := by simpa using h0
      split
      · rfl
      · rename_i h1
        have h1 : (opK (nxt ts x.2.1)).2 = l := by simpa using (not_or.1 h1).1
        have hlt := op_lt h1 hl
        have hy := hx.yes h0
        have hp := hP (x.2.1 + 1) (by omega)
        rw [← he (x.2.1 + 1) (by omega) (by omega)]
        split
        · rfl
        · rename_i h2
          have h2 : (P (x.2.1 + 1)).2.2 = 0 := by simpa using h2
          have := hp.yes h2
          exact lpL_congr hl hP he m true _ (ok_mk (by omega) this.2)
theorem lpP_ok {E : Nat → Got} {a : Nat} (hE : ∀ j, j ≤ ts.length → OkG ts j (E j)) : ∀ (m : Nat) (x : Got), OkG ts a x → OkG ts a (lpP ts E a m x)
  | 0, x, hx => hx
  | m + 1, x, hx => by
    unfold lpP
    split
    · exact hx
    · rename_i h0
      have h0 : x.2.2 = 0 := by simpa using h0
      have hy := hx.yes h0
      split
      · rename_i h1
        have hlt := isK_lt h1
        have hp := hE (x.2.1 + 1) (by omega)
        split
        · rename_i h2
          exact ⟨fun h => absurd h h2, hp.no, fun _ => by have := hp.le (by omega); omega⟩
        · rename_i h2
          have h2 : (E (x.2.1 + 1)).2.2 = 0 := by simpa using h2
          have hyy := hp.yes h2
          split
          · exact ok_bad (fun _ => by omega)
          · rename_i h3
            have := isK_lt (s := sShut) (ts := ts) (by simpa using h3)
            exact lpP_ok hE m _ (ok_mk (by omega) (by omega))
      · split
        · rename_i h1
          have hlt := isK_lt h1
          split
          · exact ok_bad (fun _ => by omega)
          · rename_i h3
            have := k_lt (ts := ts) (k := 1) (by simpa using h3) (by decide)
            exact lpP_ok hE m _ (ok_mk (by omega) (by omega))
        · exact hx
theorem lpP_congr {E E' : Nat → Got} {a : Nat} (hE : ∀ j, j ≤ ts.length → OkG ts j (E j)) (he : ∀ j, a < j → j ≤ ts.length → E j = E' j) : ∀ (m : Nat) (x : Got), OkG ts a x → lpP ts E a m x = lpP ts E' a m x
  | 0, x, hx => rfl
  | m + 1, x, hx => by
    unfold lpP
    split
    · rfl
    · rename_i h0
      have h0 : x.2.2 = 0 := by simpa using h0
      have hy := hx.yes h0
      split
      · rename_i h1
        have hlt := isK_lt h1
        have hp := hE (x.2.1 + 1) (by omega)
        rw [← he (x.2.1 + 1) (by omega) (by omega)]
        split
        · rfl
        · rename_i h2
          have h2 : (E (x.2.1 + 1)).2.2 = 0 := by simpa using h2
          have hyy := hp.yes h2
          split
          · rfl
          · rename_i h3
            have := isK_lt (s := sShut) (ts := ts) (by simpa using h3)
            exact lpP_congr hE he m _ (ok_mk (by omega) (by omega))
      · split
        · rename_i h1
          have hlt := isK_lt h1
          split
          · rfl
          · rename_i h3
            have := k_lt (ts := ts) (k := 1) (by simpa using h3) (by decide)
            exact lpP_congr hE he m _ (ok_mk (by omega) (by omega))
        · rfl
structure OkC (ts : List Tok) (i : Nat) (x : List VT × Nat × Int) : Prop where
  le : i ≤ x.2.1 ∧ x.2.1 ≤ ts.length
  yes : x.2.2 = 0 → i < x.2.1
  no : x.2.2 ≠ 0 → x.2.2 = 6
theorem lpC_ok {E : Nat → Got} (hE : ∀ j, j ≤ ts.length → OkG ts j (E j)) : ∀ (m i : Nat) (acc : List VT), i ≤ ts.length → OkC ts i (lpC ts E m i acc)
  | 0, i, acc, hi => ⟨⟨Nat.le_refl _, hi⟩, fun h => by simp [lpC] at h, fun _ => rfl⟩
  | m + 1, i, acc, hi => by
    unfold lpC
    have hp := hE i hi
    split
    · rename_i h; exact ⟨hp.le hi, fun h' => absurd h' h, fun _ => (hp.no h).1⟩
    · rename_i h
      have h : (E i).2.2 = 0 := by simpa using h
      have hy := hp.yes h
      split
      · exact ⟨⟨by dsimp only; omega, hy.2⟩, fun _ => hy.1, fun h => absurd rfl h⟩
      · rename_i h3
        have hlt := isK_lt (s := sCom) (ts := ts) (by simpa using h3)
        have := lpC_ok hE m ((E i).2.1 + 1) (acc ++ [(E i).1]) (by omega)
        exact ⟨⟨by have := this.le; omega, this.le.2⟩, fun h => by have := this.yes h; omega, this.no⟩
theorem lpC_congr {E E' : Nat → Got} {a : Nat} (hE : ∀ j, j ≤ ts.length → OkG ts j (E j)) (he : ∀ j, a < j → j ≤ ts.length → E j = E' j) : ∀ (m i : Nat) (acc : List VT), a < i → i ≤ ts.length → lpC ts E m i acc = lpC ts E' m i acc
  | 0, i, acc, _, _ => rfl
  | m + 1, i, acc, ha, hi => by
    unfold lpC
    rw [← he i ha hi]
    split
    · rfl
    · rename_i h
      have h : (E i).2.2 = 0 := by simpa using h
      have hy := (hE i hi).yes h
      split
      · rfl
      · rename_i h3
        have hlt := isK_lt (s := sCom) (ts := ts) (by simpa using h3)
        exact lpC_congr hE he m _ _ (by omega) (by omega)
theorem cloG_ok {E : Nat → Got} (hE : ∀ j, j ≤ ts.length → OkG ts j (E j)) {o : Nat} (few : Bool) (fs ls : ByteArray) (ho : o ≤ ts.length) : OkC ts o (cloG ts E o few fs ls) := by
  unfold cloG
  split
  · exact ⟨⟨Nat.le_refl _, ho⟩, fun h => by simp at h, fun _ => rfl⟩
  · rename_i h0
    have h0 := isK_lt (s := fs) (ts := ts) (by simpa using h0)
    split
    · rename_i h1
      have h1 := isK_lt h1.2
      exact ⟨⟨by dsimp only; omega, by dsimp only; omega⟩, fun _ => by dsimp only; omega, fun h => absurd rfl h⟩
    · have hc := lpC_ok hE (ts.length + 1) (o + 1) [] (by omega)
      split
      · exact ⟨⟨by have := hc.le; omega, hc.le.2⟩, fun h => by have := hc.yes h; omega, hc.no⟩
      · rename_i h2
        split
        · exact ⟨⟨by have := hc.le; dsimp only; omega, hc.le.2⟩, fun h => by simp at h, fun _ => rfl⟩
        · rename_i h3
          have := isK_lt (s := ls) (ts := ts) (by simpa using h3)
          exact ⟨⟨by have := hc.le; dsimp only; omega, by dsimp only; omega⟩, fun _ => by have := hc.le; dsimp only; omega, fun h => absurd rfl h⟩
theorem cloG_congr {E E' : Nat → Got} {a : Nat} (hE : ∀ j, j ≤ ts.length → OkG ts j (E j)) (he : ∀ j, a < j → j ≤ ts.length → E j = E' j) {o : Nat} (few : Bool) (fs ls : ByteArray) (ho : a ≤ o) : cloG ts E o few fs ls = cloG ts E' o few fs ls := by
  unfold cloG
  split
  · rfl
  · rename_i h0
    have h0 := isK_lt (s := fs) (ts := ts) (by simpa using h0)
    rw [lpC_congr hE he (ts.length + 1) (o + 1) [] (by omega) (by omega)]
theorem fin_ok {i o : Nat} {k : Int} {s : ByteArray} {c : List VT × Nat × Int} (h : OkC ts o c) (ho : i ≤ o) : OkG ts i (finC ts i k s c) := by
  unfold finC
  split
  · rename_i h0; exact ⟨fun h' => absurd h' h0, fun _ => ⟨h.no h0, rfl⟩, fun _ => by have := h.le; dsimp only; omega⟩
  · rename_i h0
    exact ok_mk (by have := h.yes (by simpa using h0); omega) h.le.2
theorem calG_ok {E : Nat → Got} (hE : ∀ j, j ≤ ts.length → OkG ts j (E j)) (i : Nat) (hi : i ≤ ts.length) : OkG ts i (calG ts E i) := by
  unfold calG
  split
  · rename_i h; have := k_lt h (by decide); exact fin_ok (cloG_ok hE true sParO sParS (by omega)) (by omega)
  · split
    · rename_i h; have := isK_lt h; exact fin_ok (cloG_ok hE false sOpen sShut (by omega)) (by omega)
    · split
      · rename_i h; have := isK_lt h
        split
        · exact ok_bad (fun _ => by omega)
        · rename_i h2; have := k_lt (ts := ts) (k := 1) (by simpa using h2) (by decide)
          exact fin_ok (cloG_ok hE true sParO sParS (by omega)) (by omega)
      · split
        · rename_i h; have := isK_lt h
          split
          · exact ok_bad (fun _ => by omega)
          · rename_i h2; have := k_lt (ts := ts) (k := 1) (by simpa using h2) (by decide)
            exact fin_ok (cloG_ok hE false sParO sParS (by omega)) (by omega)
        · exact ok_bad (fun _ => by omega)
theorem calG_congr {E E' : Nat → Got} {i : Nat} (hE : ∀ j, j ≤ ts.length → OkG ts j (E j)) (he : ∀ j, i < j → j ≤ ts.length → E j = E' j) : calG ts E i = calG ts E' i := by
  unfold calG
  rw [cloG_congr hE he true sParO sParS (show i ≤ i + 1 by omega), cloG_congr hE he false sOpen sShut (Nat.le_refl i), cloG_congr hE he true sParO sParS (show i ≤ i + 2 by omega), cloG_congr hE he false sParO sParS (show i ≤ i + 2 by omega)]
theorem atoG_ok {E : Nat → Got} (hE : ∀ j, j ≤ ts.length → OkG ts j (E j)) (i : Nat) (hi : i ≤ ts.length) : OkG ts i (atoG ts E i) := by
  unfold atoG
  split
  · rename_i h; have := k_lt h (by decide); exact ok_mk (by omega) (by omega)
  split
  · rename_i h; have := isK_lt h; exact ok_mk (by omega) (by omega)
  split
  · rename_i h; have := isK_lt h; exact ok_mk (by omega) (by omega)
  split
  · rename_i h; have := isK_lt h; exact ok_mk (by omega) (by omega)
  split
  · rename_i h; have := k_lt h.1 (by decide); exact ok_mk (by omega) (by omega)
  split
  · rename_i h
    have := isK_lt h
    have hp := hE (i + 1) (by omega)
    split
    · rename_i h2; exact ⟨fun h => absurd h h2, hp.no, fun _ => by have := hp.le (by omega); omega⟩
    · rename_i h2
      have hy := hp.yes (by simpa using h2)
      split
      · exact ok_bad (fun _ => by omega)
      · rename_i h3
        have := isK_lt (s := sParS) (ts := ts) (by simpa using h3)
        exact ⟨fun _ => by dsimp only; omega, fun h => absurd rfl h, fun _ => by dsimp only; omega⟩
  · exact calG_ok hE i hi
theorem atoG_congr {E E' : Nat → Got} {i : Nat} (hE : ∀ j, j ≤ ts.length → OkG ts j (E j)) (he : ∀ j, i < j → j ≤ ts.length → E j = E' j) : atoG ts E i = atoG ts E' i := by
  unfold atoG
  rw [calG_congr hE he]
  by_cases h : isK sParO (nxt ts i) = true
  · have := isK_lt h
    rw [he (i + 1) (by omega) (by omega)]
  · simp only [h, if_false, Bool.false_eq_true]
theorem bG_ok {R : Nat → Nat → Got} (hR : ∀ w j, j ≤ ts.length → OkG ts j (R w j)) (w i : Nat) (hi : i ≤ ts.length) : OkG ts i (bG ts R w i) := by
  unfold bG
  split
  · rename_i h; exact lpL_ok h (hR _) _ _ _ (hR _ i hi)
  split
  · split
    · exact hR 7 i hi
    · rename_i h
      have hlt : i < ts.length := by
        unfold unN at h
        by_cases h1 : isK sNot (nxt ts i) = true
        · exact isK_lt h1
        · by_cases h2 : isK sMin (nxt ts i) = true
          · exact isK_lt h2
          · simp [h1, h2] at h
      have hp := hR 6 (i + 1) (by omega)
      split
      · rename_i h2; exact ⟨fun h => absurd h h2, hp.no, fun _ => by have := hp.le (by omega); omega⟩
      · rename_i h2
        have hy := hp.yes (by simpa using h2)
        exact ok_mk (by omega) hy.2
  split
  · exact lpP_ok (hR 1) _ _ (hR 8 i hi)
  · exact atoG_ok (hR 1) i hi
theorem pG_ok : ∀ (n w i : Nat), i ≤ ts.length → OkG ts i (pG ts n w i)
  | 0, w, i, hi => ok_bad (fun _ => ⟨Nat.le_refl _, hi⟩)
  | n + 1, w, i, hi => bG_ok (pG_ok n) w i hi
def me (ts : List Tok) (w i : Nat) : Nat := 9 * (ts.length - i) + (9 - w)
theorem bG_congr {R R' : Nat → Nat → Got} (hR : ∀ w j, j ≤ ts.length → OkG ts j (R w j)) {w i : Nat} (hi : i ≤ ts.length) (hw : w ≤ 8) (he : ∀ w' j, w' ≤ 8 → 1 ≤ w' → j ≤ ts.length → me ts w' j < me ts w i → R w' j = R' w' j) : bG ts R w i = bG ts R' w i := by
  have far : ∀ w' j, w' ≤ 8 → 1 ≤ w' → i < j → j ≤ ts.length → R w' j = R' w' j := fun w' j h0 h1 h2 h3 => he w' j h0 h1 h3 (by unfold me; omega)
  unfold bG
  split
  · rename_i h
    rw [lpL_congr h (hR _) (fun j h1 h2 => far (w + 1) j (by omega) (by omega) h1 h2) _ _ _ (hR _ i hi), he (w + 1) i (by omega) (by omega) hi (by unfold me; omega)]
  split
  · rename_i h
    subst h
    rw [he 7 i (by omega) (by omega) hi (by unfold me; omega)]
    split
    · rfl
    · rename_i h
      have hlt : i < ts.length := by
        unfold unN at h
        by_cases h1 : isK sNot (nxt ts i) = true
        · exact isK_lt h1
        · by_cases h2 : isK sMin (nxt ts i) = true
          · exact isK_lt h2
          · simp [h1, h2] at h
      rw [far 6 (i + 1) (by omega) (by omega) (by omega) (by omega)]
  split
  · rename_i h
    subst h
    rw [lpP_congr (hR 1) (fun j h1 h2 => far 1 j (by omega) (by omega) h1 h2) _ _ (hR 8 i hi), he 8 i (by omega) (by omega) hi (by unfold me; omega)]
  · exact atoG_congr (hR 1) (fun j h1 h2 => far 1 j (by omega) (by omega) h1 h2)
theorem pG_irr : ∀ (n n' w i : Nat), i ≤ ts.length → 1 ≤ w → w ≤ 8 → me ts w i < n → me ts w i < n' → pG ts n w i = pG ts n' w i
  | 0, _, _, _, _, _, _, h, _ => by omega
  | _ + 1, 0, _, _, _, _, _, _, h => by omega
  | n + 1, n' + 1, w, i, hi, h1, hw, hn, hn' => by
    show bG ts (pG ts n) w i = bG ts (pG ts n') w i
    exact bG_congr (pG_ok n) hi hw (fun w' j h1 h2 h3 h4 => pG_irr n n' w' j h3 h2 h1 (by omega) (by omega))
def Qx (ts : List Tok) (w i : Nat) : Got := pG ts (9 * ts.length + 10) w i
theorem Q_ok (w i : Nat) (hi : i ≤ ts.length) : OkG ts i (Qx ts w i) := pG_ok _ w i hi
theorem Q_eq (w i : Nat) (h1 : 1 ≤ w) (hw : w ≤ 8) (hi : i ≤ ts.length) : Qx ts w i = bG ts (Qx ts) w i := by
  show bG ts (pG ts (9 * ts.length + 9)) w i = _
  exact bG_congr (pG_ok _) hi hw (fun w' j h1 h2 h3 h4 => pG_irr _ _ w' j h3 h2 h1 (by unfold me; omega) (by unfold me; omega))
end
end Go.Proofs.YthcnligihpnfiaaGreatDoor.vt
end
section
namespace Go.Proofs.YthcnligihpnfiaaGreatDoor.vt
open Go.Proofs.YthcnligihpnfiaaGreatDoor.am
set_option linter.unusedVariables false
section
variable {ts : List Tok}
noncomputable def sm (l : List VT) : Nat := (l.map Tr.size).sum
def Sz (i : Nat) (x : Got) : Prop := x.2.2 = 0 → x.1.size + i ≤ x.2.1
theorem sz_mk {i b : Nat} {k n : Int} {s : ByteArray} {l : List VT} (h : sm l + i < b) : Sz i (mk7 ts i b k n s l) := fun _ => by
  show Tr.size (Tr.mk _ l) + i ≤ b
  rw [Tr.size_mk]
  unfold sm at h
  omega
theorem sm1 (a : VT) : sm [a] = a.size := by simp [sm]
theorem sm2 (a b : VT) : sm [a, b] = a.size + b.size := by simp [sm]
theorem sm_app (l : List VT) (a : VT) : sm (l ++ [a]) = sm l + a.size := by simp [sm]
theorem lpL_sz {P : Nat → Got} {l a : Nat} (hl : l ≤ 5) (hP : ∀ j, j ≤ ts.length → OkG ts j (P j)) (hS : ∀ j, j ≤ ts.length → Sz j (P j)) : ∀ (m : Nat) (t : Bool) (x : Got), OkG ts a x → Sz a x → Sz a (lpL ts P l a m t x)
  | 0, t, x, hx, hs => hs
  | m + 1, t, x, hx, hs => by
    unfold lpL
    split
    · exact hs
    · rename_i h0
      have h0 : x.2.2 = 0 := by simpa using h0
      split
      · exact hs
      · rename_i h1
        have h1 : (opK (nxt ts x.2.1)).2 = l := by simpa using (not_or.1 h1).1
        have hlt := op_lt h1 hl
        have hp := hP (x.2.1 + 1) (by omega)
        have hy := hx.yes h0
        split
        · rename_i h2; exact fun h => absurd h h2
        · rename_i h2
          have h2 : (P (x.2.1 + 1)).2.2 = 0 := by simpa using h2
          have := hp.yes h2
          have q1 := hS (x.2.1 + 1) (by omega) h2
          have q2 := hs h0
          exact lpL_sz hl hP hS m true _ (ok_mk (by omega) this.2) (sz_mk (by rw [sm2]; omega))
theorem lpP_sz {E : Nat → Got} {a : Nat} (hE : ∀ j, j ≤ ts.length → OkG ts j (E j)) (hS : ∀ j, j ≤ ts.length → Sz j (E j)) : ∀ (m : Nat) (x : Got), OkG ts a x → Sz a x → Sz a (lpP ts E a m x)
  | 0, x, hx, hs => hs
  | m + 1, x, hx, hs => by
    unfold lpP
    split
    · exact hs
    · rename_i h0
      have h0 : x.2.2 = 0 := by simpa using h0
      have hy := hx.yes h0
      have q2 := hs h0
      split
      · rename_i h1
        have hlt := isK_lt h1
        have hp := hE (x.2.1 + 1) (by omega)
        split
        · rename_i h2; exact fun h => absurd h h2
        · rename_i h2
          have h2 : (E (x.2.1 + 1)).2.2 = 0 := by simpa using h2
          have hyy := hp.yes h2
          have q1 := hS (x.2.1 + 1) (by omega) h2
          split
          · exact fun h => by simp [bad7] at h
          · rename_i h3
            have := isK_lt (s := sShut) (ts := ts) (by simpa using h3)
            exact lpP_sz hE hS m _ (ok_mk (by omega) (by omega)) (sz_mk (by rw [sm2]; omega))
      · split
        · rename_i h1
          have hlt := isK_lt h1
          split
          · exact fun h => by simp [bad7] at h
          · rename_i h3
            have := k_lt (ts := ts) (k := 1) (by simpa using h3) (by decide)
            exact lpP_sz hE hS m _ (ok_mk (by omega) (by omega)) (sz_mk (by rw [sm1]; omega))
        · exact hs
def Sc (i : Nat) (x : List VT × Nat × Int) : Prop := x.2.2 = 0 → sm x.1 + i ≤ x.2.1
theorem lpC_sz {E : Nat → Got} (hE : ∀ j, j ≤ ts.length → OkG ts j (E j)) (hS : ∀ j, j ≤ ts.length → Sz j (E j)) (i0 : Nat) : ∀ (m i : Nat) (acc : List VT), i ≤ ts.length → sm acc + i0 ≤ i → Sc i0 (lpC ts E m i acc)
  | 0, i, acc, hi, _ => fun h => by simp [lpC] at h
  | m + 1, i, acc, hi, ha => by
    unfold lpC
    have hp := hE i hi
    split
    · rename_i h; exact fun h' => absurd h' h
    · rename_i h
      have h : (E i).2.2 = 0 := by simpa using h
      have hy := hp.yes h
      have q := hS i hi h
      split
      · exact fun _ => by show sm (acc ++ [(E i).1]) + i0 ≤ (E i).2.1; rw [sm_app]; omega
      · rename_i h3
        have hlt := isK_lt (s := sCom) (ts := ts) (by simpa using h3)
        exact lpC_sz hE hS i0 m ((E i).2.1 + 1) (acc ++ [(E i).1]) (by omega) (by rw [sm_app]; omega)
theorem cloG_sz {E : Nat → Got} (hE : ∀ j, j ≤ ts.length → OkG ts j (E j)) (hS : ∀ j, j ≤ ts.length → Sz j (E j)) {o : Nat} (few : Bool) (fs ls : ByteArray) (ho : o ≤ ts.length) : (cloG ts E o few fs ls).2.2 = 0 → sm (cloG ts E o few fs ls).1 + o < (cloG ts E o few fs ls).2.1 := by
  unfold cloG
  split
  · exact fun h => by simp at h
  · rename_i h0
    have h0 := isK_lt (s := fs) (ts := ts) (by simpa using h0)
    split
    · exact fun _ => by show 0 + o < o + 2; omega
    · have hc := lpC_sz hE hS (o + 1) (ts.length + 1) (o + 1) [] (by omega) (by show 0 + (o + 1) ≤ o + 1; omega)
      split
      · rename_i h; exact fun h' => absurd h' h
      · rename_i h2
        have h2 : (lpC ts E (ts.length + 1) (o + 1) []).2.2 = 0 := by simpa using h2
        have := hc h2
        split
        · exact fun h => by simp at h
        · exact fun _ => by dsimp only; omega
theorem fin_sz {i o : Nat} {k : Int} {s : ByteArray} {c : List VT × Nat × Int} (h : c.2.2 = 0 → sm c.1 + o < c.2.1) (ho : i ≤ o) : Sz i (finC ts i k s c) := by
  unfold finC
  split
  · rename_i h0; exact fun h' => absurd h' h0
  · rename_i h0
    have := h (by simpa using h0)
    exact sz_mk (by omega)
theorem sz_bad {i j : Nat} : Sz i (bad7 j) := fun h => by simp [bad7] at h
theorem calG_sz {E : Nat → Got} (hE : ∀ j, j ≤ ts.length → OkG ts j (E j)) (hS : ∀ j, j ≤ ts.length → Sz j (E j)) (i : Nat) (hi : i ≤ ts.length) : Sz i (calG ts E i) := by
  unfold calG
  split
  · rename_i h; have := k_lt h (by decide); exact fin_sz (cloG_sz hE hS true sParO sParS (by omega)) (by omega)
  split
  · rename_i h; have := isK_lt h; exact fin_sz (cloG_sz hE hS false sOpen sShut (by omega)) (by omega)
  split
  · rename_i h; have := isK_lt h
    split
    · exact sz_bad
    · rename_i h2; have := k_lt (ts := ts) (k := 1) (by simpa using h2) (by decide)
      exact fin_sz (cloG_sz hE hS true sParO sParS (by omega)) (by omega)
  split
  · rename_i h; have := isK_lt h
    split
    · exact sz_bad
    · rename_i h2; have := k_lt (ts := ts) (k := 1) (by simpa using h2) (by decide)
      exact fin_sz (cloG_sz hE hS false sParO sParS (by omega)) (by omega)
  · exact sz_bad
theorem atoG_sz {E : Nat → Got} (hE : ∀ j, j ≤ ts.length → OkG ts j (E j)) (hS : ∀ j, j ≤ ts.length → Sz j (E j)) (i : Nat) (hi : i ≤ ts.length) : Sz i (atoG ts E i) := by
  have s0 : sm ([] : List VT) = 0 := rfl
  unfold atoG
  split
  · exact sz_mk (by omega)
  split
  · exact sz_mk (by omega)
  split
  · exact sz_mk (by omega)
  split
  · exact sz_mk (by omega)
  split
  · exact sz_mk (by omega)
  split
  · rename_i h
    have := isK_lt h
    split
    · rename_i h2; exact fun h => absurd h h2
    · rename_i h2
      have q := hS (i + 1) (by omega) (by simpa using h2)
      split
      · exact sz_bad
      · exact fun _ => by dsimp only; omega
  · exact calG_sz hE hS i hi
theorem bG_sz {R : Nat → Nat → Got} (hR : ∀ w j, j ≤ ts.length → OkG ts j (R w j)) (hS : ∀ w j, j ≤ ts.length → Sz j (R w j)) (w i : Nat) (hi : i ≤ ts.length) : Sz i (bG ts R w i) := by
  unfold bG
  split
  · rename_i h; exact lpL_sz h (hR _) (hS _) _ _ _ (hR _ i hi) (hS _ i hi)
  split
  · split
    · exact hS 7 i hi
    · rename_i h
      have hlt : i < ts.length := by
        unfold unN at h
        by_cases h1 : isK sNot (nxt ts i) = true
        · exact isK_lt h1
        · by_cases h2 : isK sMin (nxt ts i) = true
          · exact isK_lt h2
          · simp [h1, h2] at h
      split
      · rename_i h2; exact fun h => absurd h h2
      · rename_i h2
        have q := hS 6 (i + 1) (by omega) (by simpa using h2)
        exact sz_mk (by rw [sm1]; omega)
  split
  · exact lpP_sz (hR 1) (hS 1) _ _ (hR 8 i hi) (hS 8 i hi)
  · exact atoG_sz (hR 1) (hS 1) i hi
theorem pG_sz : ∀ (n w i : Nat), i ≤ ts.length → Sz i (pG ts n w i)
  | 0, w, i, hi => sz_bad
  | n + 1, w, i, hi => bG_sz (pG_ok n) (pG_sz n) w i hi
end
end Go.Proofs.YthcnligihpnfiaaGreatDoor.vt
end
section
namespace Go.Proofs.YthcnligihpnfiaaGreatDoor.vt
open Go.Proofs.YthcnligihpnfiaaGreatDoor.am
set_option linter.unusedVariables false
abbrev wLet : ByteArray := ⟨#[108, 101, 116]⟩
abbrev wIf : ByteArray := ⟨#[105, 102]⟩
abbrev wElse : ByteArray := ⟨#[101, 108, 115, 101]⟩
abbrev wWhil : ByteArray := ⟨#[119, 104, 105, 108, 101]⟩
abbrev wFor : ByteArray := ⟨#[102, 111, 114]⟩
abbrev wTo : ByteArray := ⟨#[116, 111]⟩
abbrev wPrin : ByteArray := ⟨#[112, 114, 105, 110, 116]⟩
abbrev wRet : ByteArray := ⟨#[114, 101, 116, 117, 114, 110]⟩
abbrev wDo : ByteArray := ⟨#[100, 111]⟩
abbrev sBra : ByteArray := ⟨#[123]⟩
abbrev sKet : ByteArray := ⟨#[125]⟩
abbrev sCol : ByteArray := ⟨#[58]⟩
abbrev sIs : ByteArray := ⟨#[61]⟩
abbrev sEnd : ByteArray := ⟨#[59]⟩
inductive It where
  | sgn (s : ByteArray)
  | nam
  | sub (w : Nat)
  | els
section
variable (ts : List Tok)
def frmG (i : Nat) : Int × List It :=
  if isK wLet (nxt ts i) = true then
    if (nxt ts (i + 1)).k = 1 ∧ isK sCol (nxt ts (i + 2)) = true then (21, [.sgn wLet, .nam, .sgn sCol, .sub 1, .sgn sEnd])
    else (20, [.sgn wLet, .nam, .sgn sIs, .sub 0, .sgn sEnd])
  else if isK wIf (nxt ts i) = true then (23, [.sgn wIf, .sub 0, .sub 2, .els])
  else if isK wWhil (nxt ts i) = true then (24, [.sgn wWhil, .sub 0, .sub 2])
  else if isK wFor (nxt ts i) = true then (25, [.sgn wFor, .nam, .sgn sIs, .sub 0, .sgn wTo, .sub 0, .sub 2])
  else if isK wPrin (nxt ts i) = true then (26, [.sgn wPrin, .sub 0, .sgn sEnd])
  else if isK wRet (nxt ts i) = true then (27, [.sgn wRet, .sub 0, .sgn sEnd])
  else if isK wDo (nxt ts i) = true then (28, [.sgn wDo, .sub 0, .sgn sEnd])
  else (22, [.sub 0, .sgn sIs, .sub 0, .sgn sEnd])
def emB (to : Nat) : VT := .mk ⟨29, 0, ⟨#[]⟩, toT ts (to - 1), toT ts (to - 1)⟩ []
def itH (R : Nat → Nat → Got) (a : Nat) (k n : Int) : List It → Nat → ByteArray → List VT → Got
  | [], to, s, ps => mk7 ts a to k n s ps
  | .sgn x :: l, to, s, ps => if isK x (nxt ts to) = true then itH R a k n l (to + 1) s ps else bad7 to
  | .nam :: l, to, s, ps => if (nxt ts to).k = 1 then itH R a k n l (to + 1) (nxt ts to).s ps else bad7 to
  | .sub w :: l, to, s, ps => if (R w to).2.2 = 0 then itH R a k n l (R w to).2.1 s (ps ++ [(R w to).1]) else R w to
  | .els :: l, to, s, ps => if isK wElse (nxt ts to) = true then if (R 2 (to + 1)).2.2 = 0 then itH R a k n l (R 2 (to + 1)).2.1 s (ps ++ [(R 2 (to + 1)).1]) else R 2 (to + 1) else itH R a k n l to s (ps ++ [emB ts to])
def lpB (S : Nat → Got) (a : Nat) : Nat → Nat → List VT → Got
  | 0, to, acc => bad7 to
  | m + 1, to, acc => if isK sKet (nxt ts to) = true then mk7 ts a (to + 1) 29 0 ⟨#[]⟩ acc else if (S to).2.2 = 0 then lpB S a m (S to).2.1 (acc ++ [(S to).1]) else S to
def blG (S : Nat → Got) (i : Nat) : Got := if isK sBra (nxt ts i) = true then lpB ts S i (ts.length + 1) (i + 1) [] else bad7 i
def RR (S : Nat → Got) (w i : Nat) : Got := if w = 0 then Qx ts 1 i else if w = 1 then tyG ts (ts.length + 1) i else blG ts S i
def sG : Nat → Nat → Got
  | 0, i => bad7 i
  | n + 1, i => if isK sBra (nxt ts i) = true then blG ts (sG n) i else itH ts (RR ts (sG n)) i (frmG ts i).1 0 (frmG ts i).2 i ⟨#[]⟩ []
end
section
variable {ts : List Tok}
def Cr : Nat → List It → Prop
  | c, [] => 1 ≤ c
  | c, .sgn _ :: l => Cr (c + 1) l
  | c, .nam :: l => Cr (c + 1) l
  | c, .sub w :: l => Cr (if w = 2 then c + 1 else c) l
  | c, .els :: l => 1 < c ∧ Cr (c - 1) l
structure OkS (ts : List Tok) (c i : Nat) (x : Got) : Prop where
  ok : OkG ts i x
  sz : x.2.2 = 0 → x.1.size + c + i ≤ x.2.1
theorem oks_bad {c i j : Nat} (h : i ≤ ts.length → i ≤ j ∧ j ≤ ts.length) : OkS ts c i (bad7 j) := ⟨ok_bad h, fun h => by simp [bad7] at h⟩
theorem oks_mono {c i j : Nat} {x : Got} (h : OkS ts c j x) (hij : i ≤ j) (hj : j ≤ ts.length) : OkS ts c i x :=
  ⟨⟨fun h0 => ⟨by have := h.ok.yes h0; omega, (h.ok.yes h0).2⟩, h.ok.no, fun _ => by have := h.ok.le hj; omega⟩, fun h0 => by have := h.sz h0; omega⟩
theorem oks_zero {c i : Nat} {x : Got} (h : OkS ts c i x) : OkS ts 0 i x := ⟨h.ok, fun h0 => by have := h.sz h0; omega⟩
theorem oks_err {c i : Nat} {x : Got} (h : OkS ts 0 i x) (h0 : x.2.2 ≠ 0) : OkS ts c i x := ⟨h.ok, fun h1 => absurd h1 h0⟩
theorem itG_ok {R : Nat → Nat → Got} (hR : ∀ w j, j ≤ ts.length → OkS ts (if w = 2 then 1 else 0) j (R w j)) (a : Nat) (k : Int) {n : Int} : ∀ (l : List It) (to : Nat) (s : ByteArray) (ps : List VT) (c : Nat), c + sm ps + a ≤ to → to ≤ ts.length → Cr c l → OkS ts 0 a (itH ts R a k n l to s ps)
  | [], to, s, ps, c, h1, h2, h3 => by
    unfold Cr at h3
    exact ⟨ok_mk (by omega) h2, fun h0 => by have := sz_mk (ts := ts) (i := a) (b := to) (k := k) (n := n) (s := s) (l := ps) (by omega) h0; exact this⟩
  | .sgn x :: l, to, s, ps, c, h1, h2, h3 => by
    unfold itH
    split
    · rename_i h; have := isK_lt h; exact itG_ok hR a k l (to + 1) s ps (c + 1) (by omega) (by omega) h3
    · exact oks_bad (fun _ => by omega)
  | .nam :: l, to, s, ps, c, h1, h2, h3 => by
    unfold itH
    split
    · rename_i h; have := k_lt h (by decide); exact itG_ok hR a k l (to + 1) _ ps (c + 1) (by omega) (by omega) h3
    · exact oks_bad (fun _ => by omega)
  | .sub w :: l, to, s, ps, c, h1, h2, h3 => by
    unfold itH
    have hr := hR w to h2
    split
    · rename_i h
      have hy := hr.ok.yes h
      have hs := hr.sz h
      refine itG_ok hR a k l _ s _ _ ?_ hy.2 h3
      rw [sm_app]
      split at hs <;> split <;> omega
    · rename_i h; exact oks_err (oks_mono (oks_zero hr) (by omega) h2) h
  | .els :: l, to, s, ps, c, h1, h2, h3 => by
    unfold itH
    split
    · rename_i h
      have hlt := isK_lt h
      have hr := hR 2 (to + 1) (by omega)
      split
      · rename_i h
        have hy := hr.ok.yes h
        have hs := hr.sz h
        refine itG_ok hR a k l _ s _ _ ?_ hy.2 h3.2
        rw [sm_app]
        rw [if_pos rfl] at hs
        omega
      · rename_i h; exact oks_err (oks_mono (oks_zero hr) (by omega) (by omega)) h
    · refine itG_ok hR a k l to s _ _ ?_ h2 h3.2
      rw [sm_app]
      have h4 := h3.1
      show c - 1 + (sm ps + Tr.size (Tr.mk _ [])) + a ≤ to
      rw [Tr.size_mk]
      simp
      omega
theorem lpB_ok {S : Nat → Got} (hS : ∀ j, j ≤ ts.length → OkS ts 0 j (S j)) (a : Nat) : ∀ (m to : Nat) (acc : List VT), a + 1 + sm acc ≤ to → to ≤ ts.length → OkS ts 1 a (lpB ts S a m to acc)
  | 0, to, acc, h1, h2 => oks_bad (fun _ => by omega)
  | m + 1, to, acc, h1, h2 => by
    unfold lpB
    split
    · rename_i h
      have hlt := isK_lt h
      refine ⟨ok_mk (by omega) (by omega), fun h0 => ?_⟩
      show Tr.size (Tr.mk _ acc) + 1 + a ≤ to + 1
      rw [Tr.size_mk]
      unfold sm at h1
      omega
    · have hr := hS to h2
      split
      · rename_i h
        have hy := hr.ok.yes h
        have hs := hr.sz h
        exact lpB_ok hS a m _ _ (by rw [sm_app]; omega) hy.2
      · rename_i h; exact oks_err (oks_mono hr (by omega) h2) h
theorem blG_ok {S : Nat → Got} (hS : ∀ j, j ≤ ts.length → OkS ts 0 j (S j)) (i : Nat) (hi : i ≤ ts.length) : OkS ts 1 i (blG ts S i) := by
  unfold blG
  split
  · rename_i h; have := isK_lt h; exact lpB_ok hS i _ _ _ (by simp [sm]) (by omega)
  · exact oks_bad (fun _ => by omega)
theorem tyG_sz : ∀ n i, (tyG ts n i).2.2 = 0 → (tyG ts n i).1.size + i ≤ (tyG ts n i).2.1
  | 0, i => by simp [tyG]
  | n + 1, i => by
    have ih := tyG_sz n (i + 3)
    unfold tyG
    split
    · simp [Tr.size_mk]; omega
    split
    · simp [Tr.size_mk]; omega
    split
    · split
      · split
        · split
          · rename_i h
            have := ih h
            simp [Tr.size_mk]; omega
          · exact fun h => by rename_i h1; exact absurd h h1
        · simp
      · simp
    · split
      · simp [Tr.size_mk]; omega
      · simp
theorem tyG_oks (i : Nat) (hi : i ≤ ts.length) : OkS ts 0 i (tyG ts (ts.length + 1) i) := by
  obtain ⟨h1, h2, h3, h4⟩ := tyG_ok ts (ts.length + 1) i
  have hle : ∀ n i, i ≤ ts.length → i ≤ (tyG ts n i).2.1 := by
    intro n
    induction n with
    | zero => intro i _; exact Nat.le_refl _
    | succ n ih =>
      intro i hi
      unfold tyG
      split
      · simp
      split
      · simp
      split
      · rename_i h
        have h := isK_lt h
        split
        · rename_i h1
          have h1 := k_lt h1 (by decide)
          split
          · rename_i h2
            have h2 := isK_lt h2
            have := ih (i + 3) (by omega)
            split
            · dsimp only; omega
            · omega
          · simp
        · simp
      · split <;> simp
  exact ⟨⟨h1, h2, fun _ => ⟨hle _ i hi, h3 hi⟩⟩, fun h => by have := tyG_sz _ _ h; omega⟩
theorem RR_ok {S : Nat → Got} (hS : ∀ j, j ≤ ts.length → OkS ts 0 j (S j)) (w j : Nat) (hj : j ≤ ts.length) : OkS ts (if w = 2 then 1 else 0) j (RR ts S w j) := by
  unfold RR
  by_cases h0 : w = 0
  · rw [if_pos h0, if_neg (by omega)]
    exact ⟨Q_ok 1 j hj, fun h => by have := pG_sz (ts := ts) _ 1 j hj h; exact this⟩
  · rw [if_neg h0]
    by_cases h1 : w = 1
    · rw [if_pos h1, if_neg (by omega)]; exact tyG_oks j hj
    · rw [if_neg h1]
      have := blG_ok hS j hj
      split
      · exact this
      · exact oks_zero this
theorem frm_cr (i : Nat) : Cr 0 (frmG ts i).2 := by
  unfold frmG
  repeat' split
  all_goals simp [Cr]
theorem sG_ok : ∀ (n i : Nat), i ≤ ts.length → OkS ts 0 i (sG ts n i)
  | 0, i, hi => oks_bad (fun _ => ⟨Nat.le_refl _, hi⟩)
  | n + 1, i, hi => by
    unfold sG
    split
    · exact oks_zero (blG_ok (sG_ok n) i hi)
    · exact itG_ok (RR_ok (sG_ok n)) i _ _ i _ [] 0 (by simp [sm]) hi (frm_cr i)
def ct : List It → Nat
  | [] => 0
  | .els :: l => ct l
  | .sgn _ :: l => ct l + 1
  | .nam :: l => ct l + 1
  | .sub _ :: l => ct l + 1
theorem itG_ct {R : Nat → Nat → Got} (hR : ∀ w j, j ≤ ts.length → OkS ts (if w = 2 then 1 else 0) j (R w j)) (a : Nat) (k : Int) {n : Int} : ∀ (l : List It) (to : Nat) (s : ByteArray) (ps : List VT), to ≤ ts.length → (itH ts R a k n l to s ps).2.2 = 0 → to + ct l ≤ (itH ts R a k n l to s ps).2.1
  | [], to, s, ps, h1, h => Nat.le_refl _
  | .sgn x :: l, to, s, ps, h1, h => by
    rw [itH] at h ⊢
    unfold ct
    by_cases h2 : isK x (nxt ts to) = true
    · rw [if_pos h2] at h ⊢
      have := isK_lt h2
      have := itG_ct hR a k l (to + 1) s ps (by omega) h
      omega
    · rw [if_neg h2] at h; simp [bad7] at h
  | .nam :: l, to, s, ps, h1, h => by
    rw [itH] at h ⊢
    unfold ct
    by_cases h2 : (nxt ts to).k = 1
    · rw [if_pos h2] at h ⊢
      have := k_lt h2 (by decide)
      have := itG_ct hR a k l (to + 1) _ ps (by omega) h
      omega
    · rw [if_neg h2] at h; simp [bad7] at h
  | .sub w :: l, to, s, ps, h1, h => by
    rw [itH] at h ⊢
    unfold ct
    by_cases h2 : (R w to).2.2 = 0
    · rw [if_pos h2] at h ⊢
      have := (hR w to h1).ok.yes h2
      have := itG_ct hR a k l _ s _ this.2 h
      omega
    · rw [if_neg h2] at h; exact absurd h h2
  | .els :: l, to, s, ps, h1, h => by
    rw [itH] at h ⊢
    unfold ct
    by_cases h2 : isK wElse (nxt ts to) = true
    · rw [if_pos h2] at h ⊢
      have h3 := isK_lt h2
      by_cases h4 : (R 2 (to + 1)).2.2 = 0
      · rw [if_pos h4] at h ⊢
        have := (hR 2 (to + 1) h3).ok.yes h4
        have := itG_ct hR a k l _ s _ this.2 h
        omega
      · rw [if_neg h4] at h; exact absurd h h4
    · rw [if_neg h2] at h ⊢
      exact itG_ct hR a k l to s _ h1 h
theorem frm_ct (i : Nat) : 2 ≤ ct (frmG ts i).2 := by
  unfold frmG
  repeat' split
  all_goals simp [ct]
theorem lpB_two {S : Nat → Got} (hS : ∀ j, j ≤ ts.length → OkS ts 0 j (S j)) (a : Nat) : ∀ (m to : Nat) (acc : List VT), to ≤ ts.length → (lpB ts S a m to acc).2.2 = 0 → to + 1 ≤ (lpB ts S a m to acc).2.1
  | 0, to, acc, h1, h => by simp [lpB, bad7] at h
  | m + 1, to, acc, h1, h => by
    rw [lpB] at h ⊢
    by_cases h2 : isK sKet (nxt ts to) = true
    · rw [if_pos h2]; exact Nat.le_refl _
    · rw [if_neg h2] at h ⊢
      by_cases h3 : (S to).2.2 = 0
      · rw [if_pos h3] at h ⊢
        have := (hS to h1).ok.yes h3
        have := lpB_two hS a m _ _ this.2 h
        omega
      · rw [if_neg h3] at h; exact absurd h h3
theorem sG_two : ∀ (n i : Nat), i ≤ ts.length → (sG ts n i).2.2 = 0 → i + 2 ≤ (sG ts n i).2.1
  | 0, i, hi, h => by simp [sG, bad7] at h
  | n + 1, i, hi, h => by
    rw [sG] at h ⊢
    by_cases h1 : isK sBra (nxt ts i) = true
    · rw [if_pos h1] at h ⊢
      have h2 := isK_lt h1
      rw [blG, if_pos h1] at h ⊢
      exact lpB_two (sG_ok n) i _ _ _ h2 h
    · rw [if_neg h1] at h ⊢
      have := itG_ct (RR_ok (sG_ok n)) i _ _ i _ [] hi h
      have := frm_ct (ts := ts) i
      omega
def WT (ts : List Tok) (s : ByteArray) (p : Nat × Int) : Nat × Int := if p.2 = 0 then if isK s (nxt ts p.1) = true then (p.1 + 1, 0) else (p.1, 6) else p
def TT (ts : List Tok) (s : ByteArray) (p : Nat × Int) : Bool := decide (p.2 = 0) && isK s (nxt ts p.1)
def KT (ts : List Tok) (k : Int) (p : Nat × Int) : Tok × Nat × Int := if p.2 = 0 then if (nxt ts p.1).k = k then (nxt ts p.1, p.1 + 1, 0) else (zK, p.1, 6) else (zK, p.1, p.2)
def OT (G : Nat → Got) (p : Nat × Int) : Got := if p.2 = 0 then G p.1 else (z0, p.1, p.2)
def NT (ts : List Tok) (a : Nat) (k n : Int) (s : ByteArray) (l : List VT) (p : Nat × Int) : Got := if p.2 = 0 then mk7 ts a p.1 k n s l else (z0, p.1, p.2)
def FT (ts : List Tok) (R : Nat → Nat → Got) (a : Nat) (k n : Int) (l : List It) (p : Nat × Int) (s : ByteArray) (ps : List VT) : Got := if p.2 = 0 then itH ts R a k n l p.1 s ps else (z0, p.1, p.2)
theorem itG_sgn {R : Nat → Nat → Got} {a : Nat} {k n : Int} {x : ByteArray} {l : List It} {to : Nat} {s : ByteArray} {ps : List VT} : itH ts R a k n (.sgn x :: l) to s ps = if isK x (nxt ts to) = true then itH ts R a k n l (to + 1) s ps else bad7 to := by rw [itH]
theorem itG_nam {R : Nat → Nat → Got} {a : Nat} {k n : Int} {l : List It} {to : Nat} {s : ByteArray} {ps : List VT} : itH ts R a k n (.nam :: l) to s ps = if (nxt ts to).k = 1 then itH ts R a k n l (to + 1) (nxt ts to).s ps else bad7 to := by rw [itH]
theorem itG_sub {R : Nat → Nat → Got} {a : Nat} {k n : Int} {w : Nat} {l : List It} {to : Nat} {s : ByteArray} {ps : List VT} : itH ts R a k n (.sub w :: l) to s ps = if (R w to).2.2 = 0 then itH ts R a k n l (R w to).2.1 s (ps ++ [(R w to).1]) else R w to := by rw [itH]
theorem itG_els {R : Nat → Nat → Got} {a : Nat} {k n : Int} {l : List It} {to : Nat} {s : ByteArray} {ps : List VT} : itH ts R a k n (.els :: l) to s ps = if isK wElse (nxt ts to) = true then if (R 2 (to + 1)).2.2 = 0 then itH ts R a k n l (R 2 (to + 1)).2.1 s (ps ++ [(R 2 (to + 1)).1]) else R 2 (to + 1) else itH ts R a k n l to s (ps ++ [emB ts to]) := by rw [itH]
theorem ft_start {R : Nat → Nat → Got} {a : Nat} {k n : Int} {l : List It} {i : Nat} {s : ByteArray} {ps : List VT} : itH ts R a k n l i s ps = FT ts R a k n l (i, 0) s ps := (if_pos rfl).symm
theorem ft_sgn {R : Nat → Nat → Got} {a : Nat} {k n : Int} {x : ByteArray} {l : List It} {p : Nat × Int} {s : ByteArray} {ps : List VT} : FT ts R a k n (.sgn x :: l) p s ps = FT ts R a k n l (WT ts x p) s ps := by
  obtain ⟨i, e⟩ := p
  unfold FT WT
  rw [itG_sgn]
  unfold bad7
  by_cases he : e = 0
  · subst he
    by_cases h : isK x (nxt ts i) = true <;> simp [h]
  · simp [he]
theorem ft_nam {R : Nat → Nat → Got} {a : Nat} {k n : Int} {l : List It} {p : Nat × Int} {s : ByteArray} {ps : List VT} : FT ts R a k n (.nam :: l) p s ps = FT ts R a k n l (KT ts 1 p).2 (KT ts 1 p).1.s ps := by
  obtain ⟨i, e⟩ := p
  unfold FT KT
  rw [itG_nam]
  unfold bad7
  by_cases he : e = 0
  · subst he
    by_cases h : (nxt ts i).k = 1 <;> simp [h]
  · simp [he]
theorem ft_sub {R : Nat → Nat → Got} {a : Nat} {k n : Int} {w : Nat} {l : List It} {p : Nat × Int} {s : ByteArray} {ps : List VT} (hz : ∀ j, j ≤ ts.length → (R w j).2.2 ≠ 0 → (R w j).1 = z0) (hp : p.2 = 0 → p.1 ≤ ts.length) : FT ts R a k n (.sub w :: l) p s ps = FT ts R a k n l (OT (R w) p).2 s (ps ++ [(OT (R w) p).1]) := by
  obtain ⟨i, e⟩ := p
  unfold FT OT
  rw [itG_sub]
  by_cases he : e = 0
  · subst he
    have := hz i (hp rfl)
    dsimp only
    obtain ⟨⟨r1, r2, r3⟩, hr⟩ : ∃ r, R w i = r := ⟨_, rfl⟩
    rw [hr] at this ⊢
    by_cases h : r3 = 0
    · simp [h]
    · have := this h
      dsimp only at this
      simp [h, this]
  · simp [he]
theorem ft_end {R : Nat → Nat → Got} {a : Nat} {k n : Int} {p : Nat × Int} {s : ByteArray} {ps : List VT} : FT ts R a k n [] p s ps = NT ts a k n s ps p := rfl
theorem ft_els_no {R : Nat → Nat → Got} {a : Nat} {k n : Int} {l : List It} {p : Nat × Int} {s : ByteArray} {ps : List VT} (h : TT ts wElse p = false) : FT ts R a k n (.els :: l) p s ps = FT ts R a k n l p s (ps ++ [emB ts p.1]) := by
  obtain ⟨i, e⟩ := p
  unfold FT
  rw [itG_els]
  unfold TT at h
  by_cases he : e = 0
  · subst he
    simp at h
    simp [h]
  · simp [he]
theorem ft_els_yes {R : Nat → Nat → Got} {a : Nat} {k n : Int} {l : List It} {p : Nat × Int} {s : ByteArray} {ps : List VT} (hz : ∀ j, j ≤ ts.length → (R 2 j).2.2 ≠ 0 → (R 2 j).1 = z0) (h : TT ts wElse p = true) : FT ts R a k n (.els :: l) p s ps = FT ts R a k n l (R 2 (p.1 + 1)).2 s (ps ++ [(R 2 (p.1 + 1)).1]) := by
  obtain ⟨i, e⟩ := p
  unfold TT at h
  simp at h
  obtain ⟨h0, h1⟩ := h
  try dsimp only at h0 h1
  subst h0
  have := hz (i + 1) (isK_lt h1)
  unfold FT
  rw [itG_els]
  dsimp only
  obtain ⟨⟨r1, r2, r3⟩, hr⟩ : ∃ r, R 2 (i + 1) = r := ⟨_, rfl⟩
  rw [hr] at this ⊢
  by_cases h : r3 = 0
  · simp [h, h1]
  · have := this h
    dsimp only at this
    simp [h, h1, this]
theorem lpB_to {S : Nat → Got} (hS : ∀ j, (S j).2.2 = 0 → True) (a : Nat) : ∀ (m to : Nat) (acc : List VT), (∀ j, (S j).2.2 ≠ 0 → (S j).2.2 ≠ 0) → (lpB ts S a m to acc).2.2 = 0 → (lpB ts S a m to acc).1.lab.t = toT ts ((lpB ts S a m to acc).2.1 - 1)
  | 0, to, acc, _, h => by simp [lpB, bad7] at h
  | m + 1, to, acc, hn, h => by
    unfold lpB at h ⊢
    split
    · rfl
    · rename_i h1
      rw [if_neg h1] at h
      split
      · rename_i h2
        rw [if_pos h2] at h
        exact lpB_to hS a m _ _ hn h
      · rename_i h2
        rw [if_neg h2] at h
        exact absurd h h2
theorem blG_to {S : Nat → Got} (i : Nat) (h : (blG ts S i).2.2 = 0) : (blG ts S i).1.lab.t = toT ts ((blG ts S i).2.1 - 1) := by
  unfold blG at h ⊢
  split
  · rename_i h1
    rw [if_pos h1] at h
    exact lpB_to (fun _ _ => trivial) i _ _ _ (fun _ h => h) h
  · rename_i h1
    rw [if_neg h1] at h
    simp [bad7] at h
theorem wt_c {a : Nat} {s : ByteArray} {p : Nat × Int} (c : p.2 = 0 → a ≤ p.1 ∧ p.1 ≤ ts.length) : (WT ts s p).2 = 0 → a ≤ (WT ts s p).1 ∧ (WT ts s p).1 ≤ ts.length := by
  obtain ⟨i, e⟩ := p
  unfold WT
  dsimp only at c ⊢
  by_cases he : e = 0
  · subst he
    rw [if_pos rfl]
    by_cases h : isK s (nxt ts i) = true
    · rw [if_pos h]; have := isK_lt h; have := c rfl; intro _; dsimp only; omega
    · rw [if_neg h]; intro h; exact absurd (show (6 : Int) = 0 from h) (by decide)
  · rw [if_neg he]; exact fun h => absurd h he
theorem wt_lt {s : ByteArray} {i : Nat} : (WT ts s (i, 0)).2 = 0 → i < (WT ts s (i, 0)).1 := by
  unfold WT
  dsimp only
  rw [if_pos rfl]
  by_cases h : isK s (nxt ts i) = true
  · rw [if_pos h]; intro _; exact Nat.lt_succ_self _
  · rw [if_neg h]; intro h; exact absurd (show (6 : Int) = 0 from h) (by decide)
theorem kt_c {a : Nat} {k : Int} {p : Nat × Int} (hk : k ≠ 5) (c : p.2 = 0 → a ≤ p.1 ∧ p.1 ≤ ts.length) : (KT ts k p).2.2 = 0 → a ≤ (KT ts k p).2.1 ∧ (KT ts k p).2.1 ≤ ts.length := by
  obtain ⟨i, e⟩ := p
  unfold KT
  dsimp only at c ⊢
  by_cases he : e = 0
  · subst he
    rw [if_pos rfl]
    by_cases h : (nxt ts i).k = k
    · rw [if_pos h]; have := k_lt h hk; have := c rfl; intro _; dsimp only; omega
    · rw [if_neg h]; intro h; exact absurd (show (6 : Int) = 0 from h) (by decide)
  · rw [if_neg he]; exact fun h => absurd h he
theorem ot_c {a : Nat} {G : Nat → Got} {p : Nat × Int} (hG : ∀ j, j ≤ ts.length → OkG ts j (G j)) (c : p.2 = 0 → a ≤ p.1 ∧ p.1 ≤ ts.length) : (OT G p).2.2 = 0 → a ≤ (OT G p).2.1 ∧ (OT G p).2.1 ≤ ts.length := by
  obtain ⟨i, e⟩ := p
  unfold OT
  dsimp only at c ⊢
  by_cases he : e = 0
  · subst he
    rw [if_pos rfl]
    have c := c rfl
    intro h
    have := (hG i c.2).yes h
    omega
  · rw [if_neg he]; exact fun h => absurd h he
theorem nt_at {a : Nat} {k n : Int} {s : ByteArray} {l : List VT} {p : Nat × Int} (h : OkG ts a (NT ts a k n s l p)) : p.2 = 0 → a < p.1 ∧ p.1 ≤ ts.length := by
  obtain ⟨i, e⟩ := p
  intro he
  dsimp only at he
  subst he
  exact h.yes rfl
theorem nt_err {a : Nat} {k n : Int} {s : ByteArray} {l m : List VT} {p : Nat × Int} (h : p.2 = 0 → l = m) : NT ts a k n s l p = NT ts a k n s m p := by
  unfold NT
  by_cases he : p.2 = 0
  · rw [h he]
  · rw [if_neg he, if_neg he]
theorem rr_no {S : Nat → Got} (hS : ∀ j, j ≤ ts.length → OkS ts 0 j (S j)) (w : Nat) : ∀ j, j ≤ ts.length → (RR ts S w j).2.2 ≠ 0 → (RR ts S w j).1 = z0 := fun j hj h => ((RR_ok hS w j hj).ok.no h).2
theorem wt_of_tt {s : ByteArray} {p : Nat × Int} (h : TT ts s p = true) : WT ts s p = (p.1 + 1, 0) := by
  obtain ⟨i, e⟩ := p
  unfold TT at h
  simp at h
  obtain ⟨h0, h1⟩ := h
  try dsimp only at h0 h1
  subst h0
  unfold WT
  dsimp only
  rw [if_pos rfl, if_pos h1]
theorem bl_to {S : Nat → Got} {p : Nat × Int} : (OT (blG ts S) p).2.2 = 0 → (OT (blG ts S) p).1.lab.t = toT ts ((OT (blG ts S) p).2.1 - 1) := by
  obtain ⟨i, e⟩ := p
  unfold OT
  dsimp only
  by_cases he : e = 0
  · rw [if_pos he]; exact blG_to i
  · rw [if_neg he]; exact fun h => absurd h he
end
end Go.Proofs.YthcnligihpnfiaaGreatDoor.vt
end
section
namespace Go.Proofs.YthcnligihpnfiaaGreatDoor.am
open Go.ChangeShapes Go.WideShapes Go.ChangeAt Go.RowKit
open vt
set_option linter.unusedVariables false
set_option linter.unusedSimpArgs false
section
variable (ts : List Tok) (hl : ts.length ≤ 9223372036854775807)
include hl
set_option maxRecDepth 100000 in
set_option maxHeartbeats 4000000 in
theorem want_tot (p : Nat × Int) (s : ByteArray) (hs : s.size ≤ 1000) : Row Tryz.prog 42 [vR, vS s] [rd ts p.1 p.2] (.tup []) [some (rd ts (WT ts s p).1 (WT ts s p).2)] := by
  obtain ⟨i, e⟩ := p
  unfold WT
  dsimp only
  by_cases he : e = 0
  · subst he
    rw [if_pos rfl]
    by_cases h : isK s (nxt ts i) = true
    · rw [if_pos h]; exact want_yes ts i s hs hl h
    · rw [if_neg h]; exact want_no ts i 0 s hs (.inr (by simpa using h))
  · rw [if_neg he]
    have := want_no ts i e s hs (.inl he)
    rwa [show er e = e from if_neg he] at this
set_option maxRecDepth 100000 in
set_option maxHeartbeats 4000000 in
theorem take_yes' (p : Nat × Int) (s : ByteArray) (hs : s.size ≤ 1000) (h : TT ts s p = true) : Row Tryz.prog 38 [vR, vS s] [rd ts p.1 p.2] (vB true) [some (rd ts (p.1 + 1) 0)] := by
  obtain ⟨i, e⟩ := p
  unfold TT at h
  simp at h
  obtain ⟨h0, h1⟩ := h
  try dsimp only at h0 h1
  subst h0
  exact take_yes ts i s hs hl h1
omit hl in
set_option maxRecDepth 100000 in
set_option maxHeartbeats 4000000 in
theorem take_no' (p : Nat × Int) (s : ByteArray) (hs : s.size ≤ 1000) (h : TT ts s p = false) : Row Tryz.prog 38 [vR, vS s] [rd ts p.1 p.2] (vB false) [some (rd ts p.1 p.2)] := by
  obtain ⟨i, e⟩ := p
  refine take_no ts i e s hs ?_
  unfold TT at h
  by_cases he : e = 0
  · right; simpa [he] using h
  · exact .inl he
set_option maxRecDepth 100000 in
set_option maxHeartbeats 4000000 in
theorem kind_tot (p : Nat × Int) (k : Int) (hk : k ≠ 5) : Row Tryz.prog 81 [vR, vI k] [rd ts p.1 p.2] (vK (KT ts k p).1) [some (rd ts (KT ts k p).2.1 (KT ts k p).2.2)] := by
  obtain ⟨i, e⟩ := p
  unfold KT
  dsimp only
  by_cases he : e = 0
  · subst he
    rw [if_pos rfl]
    by_cases h : (nxt ts i).k = k
    · rw [if_pos h]
      obtain ⟨x, hx, hxn, hxk⟩ := kind_at h hk
      rw [hxn]
      exact kind_yes ts i k x hl hx hxk
    · rw [if_neg h]; exact kind_no ts i 0 k (.inr h)
  · rw [if_neg he]
    have := kind_no ts i e k (.inl he)
    rwa [show er e = e from if_neg he] at this
set_option maxRecDepth 100000 in
set_option maxHeartbeats 4000000 in
theorem node_tot (p : Nat × Int) (a : Nat) (x : Lab) (l : List VT) (h : p.2 = 0 → a < p.1 ∧ p.1 ≤ ts.length) : Row Tryz.prog 43 [vR, vI a, vT (.mk x l)] [rd ts p.1 p.2] (vT (NT ts a x.k x.n x.s l p).1) [some (rd ts (NT ts a x.k x.n x.s l p).2.1 (NT ts a x.k x.n x.s l p).2.2)] := by
  obtain ⟨i, e⟩ := p
  unfold NT
  dsimp only at h ⊢
  by_cases he : e = 0
  · subst he
    rw [if_pos rfl]
    obtain ⟨h1, h2⟩ := h rfl
    exact node_yes ts i a x l (by omega) (by omega) h2 hl
  · rw [if_neg he]
    exact node_no ts i e he a (.mk x l)
end
abbrev vFg (g : Nat) : AV := .v (.c (.fn (.func g) [] []))
set_option maxRecDepth 100000 in
set_option maxHeartbeats 4000000 in
theorem below_tot (ts : List Tok) (p : Nat × Int) (g : Nat) (G : Nat → Got) (h : p.2 = 0 → Row Tryz.prog g [vKs ts, vI p.1] [] (vT3 (G p.1)) []) : Row Tryz.prog 86 [vR, vFg g] [rd ts p.1 p.2] (vT (OT G p).1) [some (rd ts (OT G p).2.1 (OT G p).2.2)] := by
  obtain ⟨i, e⟩ := p
  have h2 := goes_row ts i e
  unfold OT
  dsimp only at h ⊢
  by_cases he : e = 0
  · subst he
    rw [if_pos rfl]
    have h1 := h rfl
    clear h
    obtain ⟨⟨⟨px, pl⟩, j, e⟩, hr⟩ : ∃ r, G i = r := ⟨_, rfl⟩
    rw [hr] at h1 ⊢
    clear hr
    refine row_of Tryz.func86 rfl rfl (Nat.le_of_ble_eq_true rfl) ?_
    repeat' (first | refine aw_seq ?_ | refine aw_skip ?_ | refine aw_block ?_ | refine aw_exit ?_ | refine aw_cond rfl (fun _ => ?_) (fun hb => absurd hb (by decide)) | refine aw_cond rfl (fun hb => absurd hb (by decide)) (fun _ => ?_) | (refine aw_reg (fun K hK => ?_); simp -implicitDefEqProofs) | (refine aw_drw mixd (fun K hK => ?_); simp -implicitDefEqProofs) | refine hK _ ?_ | refine hK _ _ (by rfl) ?_ | (refine ar_call (cb h2 0 ?_); simp -implicitDefEqProofs) | (refine ard_call (db h2 0 ?_); simp -implicitDefEqProofs) | (refine ar_call (cp h1 ?_); simp -implicitDefEqProofs) | (refine ard_call (dp h1 ?_); simp -implicitDefEqProofs) | fail)
    refine aw_ret (fin_box ?_); simp -implicitDefEqProofs [FinB, resV, resT] <;> try rfl
  · rw [if_neg he]
    refine row_of Tryz.func86 rfl rfl (Nat.le_of_ble_eq_true rfl) ?_
    repeat' (first | refine aw_seq ?_ | refine aw_skip ?_ | refine aw_block ?_ | refine aw_exit ?_ | refine aw_cond rfl (fun _ => ?_) (fun hb => absurd hb (by decide)) | refine aw_cond rfl (fun hb => absurd hb (by decide)) (fun _ => ?_) | (refine aw_reg (fun K hK => ?_); simp -implicitDefEqProofs [he]) | (refine aw_drw mixd (fun K hK => ?_); simp -implicitDefEqProofs [he]) | refine hK _ ?_ | refine hK _ _ (by rfl) ?_ | (refine ar_call (cb h2 0 ?_); simp -implicitDefEqProofs [he]) | (refine ard_call (db h2 0 ?_); simp -implicitDefEqProofs [he]) | fail)
    refine aw_ret (fin_box ?_); simp -implicitDefEqProofs [FinB, resV, resT, z0] <;> try rfl
end Go.Proofs.YthcnligihpnfiaaGreatDoor.am
end
