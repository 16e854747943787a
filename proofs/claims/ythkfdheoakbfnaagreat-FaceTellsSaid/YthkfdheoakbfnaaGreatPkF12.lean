import Derived.Test.YthkfdheoakbfnaaGreatPkF11
import Derived.ChangeOld
import Derived.OpenShut
import Derived.Below
import Derived.Test.YthkfdheoakbfnaaGreatPkF3
import Derived.Test.YthkfdheoakbfnaaGreatPkF2
set_option maxRecDepth 100000
set_option maxHeartbeats 4000000
section
namespace Go.Proofs.YthkfdheoakbfnaaGreat.vt
open Go.Proofs.YthkfdheoakbfnaaGreat.am
set_option linter.unusedVariables false
def ChL (lo hi : Int) : List VT → Prop
  | [] => lo ≤ hi
  | y :: l => lo ≤ y.lab.f ∧ y.lab.f ≤ y.lab.t ∧ ChL y.lab.t hi l
inductive Wi : VT → Prop where
  | mk (x : Lab) (l : List VT) (hc : ChL x.f x.t l) (hl : ∀ y ∈ l, Wi y) : Wi (.mk x l)
theorem b2n : ∀ {l : List VT} {lo hi hi' : Int}, ChL lo hi l → hi ≤ hi' → ChL lo hi' l
  | [], lo, hi, hi', h, h' => Int.le_trans h h'
  | y :: l, lo, hi, hi', ⟨h1, h2, h3⟩, h' => ⟨h1, h2, b2n h3 h'⟩
theorem a63 : ∀ {l : List VT} {lo hi hi' : Int} {y : VT}, ChL lo hi l → hi ≤ y.lab.f → y.lab.f ≤ y.lab.t → y.lab.t ≤ hi' → ChL lo hi' (l ++ [y])
  | [], lo, hi, hi', y, h, h1, h2, h3 => ⟨Int.le_trans h h1, h2, h3⟩
  | z :: l, lo, hi, hi', y, ⟨a1, a2, a3⟩, h1, h2, h3 => ⟨a1, a2, a63 a3 h1 h2 h3⟩
def I6 (z : Int) : Prop := -9223372036854775808 ≤ z ∧ z ≤ 9223372036854775807
instance (z : Int) : Decidable (I6 z) := by unfold I6; infer_instance
def A6 (x : Lab) : Prop := I6 x.k ∧ I6 x.n ∧ I6 x.f ∧ I6 x.t
structure TO (ts : List Tok) : Prop where
  b : ∀ i, i < ts.length → I6 (nxt ts i).n ∧ I6 (nxt ts i).f ∧ I6 (nxt ts i).t
  w : ∀ i, i < ts.length → frT ts i ≤ toT ts i
  o : ∀ i, i + 1 < ts.length → toT ts i ≤ frT ts (i + 1)
section
variable {ts : List Tok} (ht : TO ts)
include ht
theorem c62 {i j : Nat} (h : i < j) (hj : j < ts.length) : toT ts i ≤ frT ts j := by
  obtain ⟨d, rfl⟩ : ∃ d, j = i + 1 + d := ⟨j - i - 1, by omega⟩
  clear h
  induction d with
  | zero => exact ht.o i hj
  | succ d ih =>
    have h1 := ih (by omega)
    have h2 := ht.w (i + 1 + d) (by omega)
    have h3 := ht.o (i + 1 + d) (by omega)
    show toT ts i ≤ frT ts (i + 1 + d + 1)
    omega
theorem c51 {i j : Nat} (h : i ≤ j) (hj : j < ts.length) : frT ts i ≤ frT ts j := by
  rcases Nat.lt_or_ge i j with h1 | h1
  · have := ht.w i (by omega); have := c62 ht h1 hj; omega
  · have : i = j := by omega
    subst this; exact Int.le_refl _
theorem c2o {i j : Nat} (h : i ≤ j) (hj : j < ts.length) : toT ts i ≤ toT ts j := by
  rcases Nat.lt_or_ge i j with h1 | h1
  · have := c62 ht h1 hj; have := ht.w j hj; omega
  · have : i = j := by omega
    subst this; exact Int.le_refl _
omit ht
structure PlG (ts : List Tok) (i : Nat) (x : Got) : Prop where
  fr : frT ts i ≤ x.1.lab.f
  ft : x.1.lab.f ≤ x.1.lab.t
  zto : x.1.lab.t ≤ toT ts (x.2.1 - 1)
  wi : Wi x.1
  ne : (nxt ts (x.2.1 - 1)).k ≠ 5
  al : Tr.all A6 x.1
def Pl (ts : List Tok) (i : Nat) (x : Got) : Prop := x.2.2 = 0 → PlG ts i x
def pe (ts : List Tok) (a zto : Nat) : Int := if a < zto then toT ts (zto - 1) else frT ts a
structure PS (ts : List Tok) (a zto : Nat) (l : List VT) : Prop where
  ch : ChL (frT ts a) (pe ts a zto) l
  wi : ∀ y ∈ l, Wi y
  al : ∀ y ∈ l, Tr.all A6 y
include ht
theorem b8h {a b c : Nat} (hab : a ≤ b) (hbc : b ≤ c) (hc : c ≤ ts.length) : pe ts a b ≤ pe ts a c := by
  unfold pe
  by_cases h1 : a < b
  · rw [if_pos h1, if_pos (by omega)]; exact c2o ht (by omega) (by omega)
  · rw [if_neg h1]
    by_cases h2 : a < c
    · rw [if_pos h2]
      have := ht.w a (by omega)
      have := c2o ht (show a ≤ c - 1 by omega) (by omega)
      omega
    · rw [if_neg h2]; exact Int.le_refl _
theorem pe_lo {a b : Nat} (hab : a ≤ b) (hb : b ≤ ts.length) : frT ts a ≤ pe ts a b := by
  have := b8h ht (Nat.le_refl a) hab hb
  rwa [show pe ts a a = frT ts a from if_neg (Nat.lt_irrefl a)] at this
theorem pe_fr {a b j : Nat} (hab : a ≤ b) (hbj : b ≤ j) (hj : j < ts.length) : pe ts a b ≤ frT ts j := by
  unfold pe
  by_cases h1 : a < b
  · rw [if_pos h1]; exact c62 ht (by omega) hj
  · rw [if_neg h1]; exact c51 ht (by omega) hj
theorem y8 {a b : Nat} (hab : a ≤ b) (hb : b ≤ ts.length) : PS ts a b [] := ⟨pe_lo ht hab hb, (fun y h => by cases h), (fun y h => by cases h)⟩
theorem y3 {a b c : Nat} {l : List VT} (h : PS ts a b l) (hab : a ≤ b) (hbc : b ≤ c) (hc : c ≤ ts.length) : PS ts a c l := ⟨b2n h.ch (b8h ht hab hbc hc), h.wi, h.al⟩
theorem y4 {a b j : Nat} {l : List VT} {x : Got} (h : PS ts a b l) (hab : a ≤ b) (hbj : b ≤ j) (hk : OkG ts j x) (h0 : x.2.2 = 0) (hx : Pl ts j x) : PS ts a x.2.1 (l ++ [x.1]) := by
  have hy := hk.yes h0
  have hp := hx h0
  refine ⟨a63 h.ch ?_ hp.ft ?_, fun y hyl => ?_, fun y hyl => ?_⟩
  · have := pe_fr ht hab hbj (show j < ts.length by omega)
    have := hp.fr
    omega
  · rw [show pe ts a x.2.1 = toT ts (x.2.1 - 1) from if_pos (by omega)]; exact hp.zto
  · rcases List.mem_append.1 hyl with h1 | h1
    · exact h.wi y h1
    · rw [List.mem_singleton.1 h1]; exact hp.wi
  · rcases List.mem_append.1 hyl with h1 | h1
    · exact h.al y h1
    · rw [List.mem_singleton.1 h1]; exact hp.al
theorem a3l {a b i : Nat} {k n : Int} {s : ByteArray} {l : List VT} (h : PS ts a b l) (hab : a < b) (hb : b ≤ ts.length) (hia : i ≤ a) (hne : (nxt ts (b - 1)).k ≠ 5) (hk6 : I6 k) (hn6 : I6 n) : Pl ts i (mk7 ts a b k n s l) := fun _ => by
  have h1 := ht.w a (by omega)
  have h2 := c2o ht (show a ≤ b - 1 by omega) (by omega)
  have hc := h.ch
  rw [show pe ts a b = toT ts (b - 1) from if_pos hab] at hc
  exact ⟨c51 ht hia (by omega), by show frT ts a ≤ toT ts (b - 1); omega, Int.le_refl _, .mk _ _ hc h.wi, hne, (Tr.all_mk _ _ _).2 ⟨⟨hk6, hn6, (ht.b a (by omega)).2.1, (ht.b (b - 1) (by omega)).2.2⟩, h.al⟩⟩
theorem c4c {a : Nat} {x : Got} (hk : OkG ts a x) (h0 : x.2.2 = 0) (hx : Pl ts a x) : PS ts a x.2.1 [x.1] := by
  have := hk.yes h0
  have := y4 ht (y8 ht (Nat.le_refl a) (by omega)) (Nat.le_refl a) (Nat.le_refl a) hk h0 hx
  simpa using this
theorem c4d {a j : Nat} {x y : Got} (hk : OkG ts a x) (h0 : x.2.2 = 0) (hx : Pl ts a x) (hj : x.2.1 ≤ j) (hk' : OkG ts j y) (h0' : y.2.2 = 0) (hy : Pl ts j y) : PS ts a y.2.1 [x.1, y.1] := by
  have := hk.yes h0
  have := y4 ht (c4c ht hk h0 hx) (by omega) hj hk' h0' hy
  simpa using this
theorem pl_up {i j : Nat} {x : Got} (h : Pl ts j x) (hij : i ≤ j) (hj : j < ts.length) : Pl ts i x := fun h0 => by
  have := c51 ht hij hj
  have hp := h h0
  exact ⟨by have := hp.fr; omega, hp.ft, hp.zto, hp.wi, hp.ne, hp.al⟩
omit ht in
theorem j6 {s : ByteArray} {j : Nat} (h : isK s (nxt ts j) = true) : (nxt ts j).k ≠ 5 := by
  have : (nxt ts j).k = quo s := by unfold isK at h; simp at h; exact h.1
  rcases b3m s with h1 | h1 <;> omega
omit ht in
theorem a8f {k : Int} {j : Nat} (h : (nxt ts j).k = k) (hk : k ≠ 5) : (nxt ts j).k ≠ 5 := by omega
omit ht in
theorem b7p {c : Prop} [Decidable c] {a b : Int} (ha : I6 a) (hb : I6 b) : I6 (if c then a else b) := by
  by_cases h : c
  · rw [if_pos h]; exact ha
  · rw [if_neg h]; exact hb
omit ht in
theorem op_i6 (x : Tok) : I6 (opK x).1 := by
  unfold opK opS
  simp only [apply_ite Prod.fst]
  repeat' (refine b7p ?_ ?_)
  all_goals decide
omit ht in
theorem un_i6 (i : Nat) : I6 (unN ts i) := by
  unfold unN
  repeat' (refine b7p ?_ ?_)
  all_goals decide
omit ht in
theorem frm_i6 (i : Nat) : I6 (b1g ts i).1 := by
  unfold b1g
  simp only [apply_ite Prod.fst]
  repeat' (refine b7p ?_ ?_)
  all_goals decide
omit ht in
theorem a2h {i : Nat} {x : Got} (h : x.2.2 ≠ 0) : Pl ts i x := fun h0 => absurd h0 h
omit ht in
theorem p9 {i j : Nat} : Pl ts i (n6 j) := fun h => by simp [n6] at h
theorem lpL_pl {P : Nat → Got} {l a : Nat} (hl : l ≤ 5) (hP : ∀ j, j ≤ ts.length → OkG ts j (P j)) (hS : ∀ j, j ≤ ts.length → Pl ts j (P j)) : ∀ (m : Nat) (t : Bool) (x : Got), OkG ts a x → Pl ts a x → Pl ts a (lpL ts P l a m t x) := by
  intro m
  induction m with
  | zero => intro t x hx hs; exact hs
  | succ m ih =>
    intro t x hx hs
    unfold lpL
    split
    · exact hs
    · rename_i h0
      have h0 : x.2.2 = 0 := by simpa using h0
      split
      · exact hs
      · rename_i h1
        have h1 : (opK (nxt ts x.2.1)).2 = l := by simpa using (not_or.1 h1).1
        have hlt := b4v h1 hl
        have hp := hP (x.2.1 + 1) (by omega)
        have hy := hx.yes h0
        split
        · rename_i h2; exact a2h h2
        · rename_i h2
          have h2 : (P (x.2.1 + 1)).2.2 = 0 := by simpa using h2
          have := hp.yes h2
          exact ih true _ (t5 (by omega) this.2) (a3l ht (c4d ht hx h0 hs (Nat.le_succ _) hp h2 (hS _ (by omega))) (by omega) this.2 (Nat.le_refl a) (hS _ (by omega) h2).ne (by decide) (op_i6 _))
theorem lpP_pl {E : Nat → Got} {a : Nat} (hE : ∀ j, j ≤ ts.length → OkG ts j (E j)) (hS : ∀ j, j ≤ ts.length → Pl ts j (E j)) : ∀ (m : Nat) (x : Got), OkG ts a x → Pl ts a x → Pl ts a (lpP ts E a m x) := by
  intro m
  induction m with
  | zero => intro x hx hs; exact hs
  | succ m ih =>
    intro x hx hs
    unfold lpP
    split
    · exact hs
    · rename_i h0
      have h0 : x.2.2 = 0 := by simpa using h0
      have hy := hx.yes h0
      split
      · rename_i h1
        have hlt := g9 h1
        have hp := hE (x.2.1 + 1) (by omega)
        split
        · rename_i h2; exact a2h h2
        · rename_i h2
          have h2 : (E (x.2.1 + 1)).2.2 = 0 := by simpa using h2
          have hyy := hp.yes h2
          split
          · exact p9
          · rename_i h3
            have := g9 (s := t9) (ts := ts) (by simpa using h3)
            exact ih _ (t5 (by omega) (by omega)) (a3l ht (y3 ht (c4d ht hx h0 hs (Nat.le_succ _) hp h2 (hS _ (by omega))) (by omega) (Nat.le_succ _) (by omega)) (by omega) (by omega) (Nat.le_refl a) (j6 (s := t9) (by simpa using h3)) (by decide) (by decide))
      · split
        · rename_i h1
          have hlt := g9 h1
          split
          · exact p9
          · rename_i h3
            have := z4 (ts := ts) (k := 1) (by simpa using h3) (by decide)
            exact ih _ (t5 (by omega) (by omega)) (a3l ht (y3 ht (c4c ht hx h0 hs) (by omega) (by omega) (by omega)) (by omega) (by omega) (Nat.le_refl a) (a8f (k := 1) (by simpa using h3) (by decide)) (by decide) (by decide))
        · exact hs
theorem lpC_pl {E : Nat → Got} (hE : ∀ j, j ≤ ts.length → OkG ts j (E j)) (hS : ∀ j, j ≤ ts.length → Pl ts j (E j)) (a : Nat) : ∀ (m i : Nat) (acc : List VT), a ≤ i → i ≤ ts.length → PS ts a i acc → (lpC ts E m i acc).2.2 = 0 → PS ts a (lpC ts E m i acc).2.1 (lpC ts E m i acc).1 := by
  intro m
  induction m with
  | zero => intro i acc _ _ _ h; simp [lpC] at h
  | succ m ih =>
    intro i acc hai hi hs h
    unfold lpC at h ⊢
    have hp := hE i hi
    by_cases h1 : (E i).2.2 = 0; rotate_left
    · rw [if_pos h1] at h; exact absurd h h1
    rw [if_neg (by simp [h1])] at h ⊢
    have hy := hp.yes h1
    have hn := y4 ht hs hai (Nat.le_refl i) hp h1 (hS i hi)
    by_cases h2 : isK a6k (nxt ts (E i).2.1) = false
    · rw [if_pos h2]; exact hn
    · rw [if_neg h2] at h ⊢
      have hlt := g9 (s := a6k) (ts := ts) (by simpa using h2)
      exact ih _ _ (by omega) (by omega) (y3 ht hn (by omega) (Nat.le_succ _) (by omega)) h
theorem a4a {E : Nat → Got} (hE : ∀ j, j ≤ ts.length → OkG ts j (E j)) (hS : ∀ j, j ≤ ts.length → Pl ts j (E j)) (a : Nat) {o : Nat} (hao : a ≤ o) (few : Bool) (fs ls : ByteArray) (ho : o ≤ ts.length) (h : (a0x ts E o few fs ls).2.2 = 0) : PS ts a (a0x ts E o few fs ls).2.1 (a0x ts E o few fs ls).1 := by
  unfold a0x at h ⊢
  by_cases h0 : isK fs (nxt ts o) = false
  · rw [if_pos h0] at h; simp at h
  rw [if_neg h0] at h ⊢
  have hlt := g9 (s := fs) (ts := ts) (by simpa using h0)
  by_cases h1 : few = true ∧ isK ls (nxt ts (o + 1)) = true
  · rw [if_pos h1]
    have := g9 h1.2
    exact y8 ht (by dsimp only; omega) (by dsimp only; omega)
  rw [if_neg h1] at h ⊢
  have hk := a9i hE (ts.length + 1) (o + 1) [] (by omega)
  by_cases h2 : (lpC ts E (ts.length + 1) (o + 1) []).2.2 = 0; rotate_left
  · rw [if_pos h2] at h; exact absurd h h2
  rw [if_neg (by simp [h2])] at h ⊢
  have hc := lpC_pl ht hE hS a (ts.length + 1) (o + 1) [] (by omega) (by omega) (y8 ht (by omega) (by omega)) h2
  have hle := hk.le
  by_cases h3 : isK ls (nxt ts (lpC ts E (ts.length + 1) (o + 1) []).2.1) = false
  · rw [if_pos h3] at h; simp at h
  · rw [if_neg h3]
    have := g9 (s := ls) (ts := ts) (by simpa using h3)
    exact y3 ht hc (by omega) (Nat.le_succ _) (by dsimp only; omega)
omit ht in
theorem a39 {E : Nat → Got} {o : Nat} {few : Bool} {fs ls : ByteArray} (h : (a0x ts E o few fs ls).2.2 = 0) : (nxt ts ((a0x ts E o few fs ls).2.1 - 1)).k ≠ 5 := by
  unfold a0x at h ⊢
  by_cases h0 : isK fs (nxt ts o) = false
  · rw [if_pos h0] at h; simp at h
  rw [if_neg h0] at h ⊢
  by_cases h1 : few = true ∧ isK ls (nxt ts (o + 1)) = true
  · rw [if_pos h1]; exact j6 h1.2
  rw [if_neg h1] at h ⊢
  by_cases h2 : (lpC ts E (ts.length + 1) (o + 1) []).2.2 = 0; rotate_left
  · rw [if_pos h2] at h; exact absurd h h2
  rw [if_neg (by simp [h2])] at h ⊢
  by_cases h3 : isK ls (nxt ts (lpC ts E (ts.length + 1) (o + 1) []).2.1) = false
  · rw [if_pos h3] at h; simp at h
  · rw [if_neg h3]; exact j6 (s := ls) (by simpa using h3)
theorem a53 {i o : Nat} {k : Int} {s : ByteArray} {c : List VT × Nat × Int} (hk : OkC ts o c) (h : c.2.2 = 0 → PS ts i c.2.1 c.1) (hn : c.2.2 = 0 → (nxt ts (c.2.1 - 1)).k ≠ 5) (hi : i ≤ o) (hk6 : I6 k) : Pl ts i (a0w ts i k s c) := by
  unfold a0w
  split
  · rename_i h0; exact fun h => absurd h h0
  · rename_i h0
    have h0 : c.2.2 = 0 := by simpa using h0
    exact a3l ht (h h0) (by have := hk.yes h0; omega) hk.le.2 (Nat.le_refl i) (hn h0) hk6 (by decide)
theorem c5n {E : Nat → Got} (hE : ∀ j, j ≤ ts.length → OkG ts j (E j)) (hS : ∀ j, j ≤ ts.length → Pl ts j (E j)) (i : Nat) (hi : i ≤ ts.length) : Pl ts i (a61 ts E i) := by
  unfold a61
  split
  · rename_i h; have := z4 h (by decide)
    exact a53 ht (t1 hE true l4 l5 (by omega)) (a4a ht hE hS i (by omega) true l4 l5 (by omega)) a39 (by omega) (by decide)
  split
  · rename_i h; have := g9 h
    exact a53 ht (t1 hE false t8 t9 (by omega)) (a4a ht hE hS i (by omega) false t8 t9 (by omega)) a39 (by omega) (by decide)
  split
  · rename_i h; have := g9 h
    split
    · exact p9
    · rename_i h2; have := z4 (ts := ts) (k := 1) (by simpa using h2) (by decide)
      exact a53 ht (t1 hE true l4 l5 (by omega)) (a4a ht hE hS i (by omega) true l4 l5 (by omega)) a39 (by omega) (by decide)
  split
  · rename_i h; have := g9 h
    split
    · exact p9
    · rename_i h2; have := z4 (ts := ts) (k := 1) (by simpa using h2) (by decide)
      exact a53 ht (t1 hE false l4 l5 (by omega)) (a4a ht hE hS i (by omega) false l4 l5 (by omega)) a39 (by omega) (by decide)
  · exact p9
theorem c5c {E : Nat → Got} (hE : ∀ j, j ≤ ts.length → OkG ts j (E j)) (hS : ∀ j, j ≤ ts.length → Pl ts j (E j)) (i : Nat) (hi : i ≤ ts.length) : Pl ts i (a8y ts E i) := by
  have one : ∀ (k n : Int) (s : ByteArray), i < ts.length → (nxt ts i).k ≠ 5 → I6 k → I6 n → Pl ts i (mk7 ts i (i + 1) k n s []) := fun k n s h hn h6 h7 => a3l ht (y8 ht (by omega) (by omega)) (by omega) (by omega) (Nat.le_refl i) hn h6 h7
  unfold a8y
  split
  · rename_i h; exact one _ _ _ (z4 h (by decide)) (a8f h (by decide)) (by decide) (ht.b i (z4 h (by decide))).1
  split
  · rename_i h; exact one _ _ _ (g9 h) (j6 h) (by decide) (by decide)
  split
  · rename_i h; exact one _ _ _ (g9 h) (j6 h) (by decide) (by decide)
  split
  · rename_i h; exact one _ _ _ (g9 h) (j6 h) (by decide) (by decide)
  split
  · rename_i h; exact one _ _ _ (z4 h.1 (by decide)) (a8f h.1 (by decide)) (by decide) (by decide)
  split
  · rename_i h
    have := g9 h
    have hp := hE (i + 1) (by omega)
    split
    · rename_i h2; exact a2h h2
    · rename_i h2
      have h2 : (E (i + 1)).2.2 = 0 := by simpa using h2
      have hy := hp.yes h2
      have q := pl_up ht (hS (i + 1) (by omega)) (Nat.le_succ i) (by omega) h2
      split
      · exact p9
      · rename_i h3
        have := g9 (s := l5) (ts := ts) (by simpa using h3)
        refine fun _ => ⟨q.fr, q.ft, ?_, q.wi, j6 (s := l5) (by simpa using h3), q.al⟩
        have := q.zto
        have := c2o ht (show (E (i + 1)).2.1 - 1 ≤ (E (i + 1)).2.1 + 1 - 1 by omega) (by omega)
        dsimp only
        omega
  · exact c5n ht hE hS i hi
theorem bG_pl {R : Nat → Nat → Got} (hR : ∀ w j, j ≤ ts.length → OkG ts j (R w j)) (hS : ∀ w j, j ≤ ts.length → Pl ts j (R w j)) (w i : Nat) (hi : i ≤ ts.length) : Pl ts i (bG ts R w i) := by
  unfold bG
  split
  · rename_i h; exact lpL_pl ht h (hR _) (hS _) _ _ _ (hR _ i hi) (hS _ i hi)
  split
  · split
    · exact hS 7 i hi
    · rename_i h
      have hlt : i < ts.length := by
        unfold unN at h
        by_cases h1 : isK c0g (nxt ts i) = true
        · exact g9 h1
        · by_cases h2 : isK b87 (nxt ts i) = true
          · exact g9 h2
          · simp [h1, h2] at h
      split
      · rename_i h2; exact a2h h2
      · rename_i h2
        have h2 : (R 6 (i + 1)).2.2 = 0 := by simpa using h2
        have hy := (hR 6 (i + 1) (by omega)).yes h2
        have := y4 ht (y8 ht (Nat.le_succ i) (by omega)) (Nat.le_succ i) (Nat.le_refl (i + 1)) (hR 6 (i + 1) (by omega)) h2 (hS 6 (i + 1) (by omega))
        exact a3l ht (by simpa using this) (by omega) hy.2 (Nat.le_refl i) (hS 6 (i + 1) (by omega) h2).ne (by decide) (un_i6 i)
  split
  · exact lpP_pl ht (hR 1) (hS 1) _ _ (hR 8 i hi) (hS 8 i hi)
  · exact c5c ht (hR 1) (hS 1) i hi
theorem pG_pl : ∀ (n w i : Nat), i ≤ ts.length → Pl ts i (pG ts n w i) := by
  intro n
  induction n with
  | zero => intro w i _; exact p9
  | succ n ih => intro w i hi; exact bG_pl ht (b1p n) ih w i hi
theorem Q_pl (w i : Nat) (hi : i ≤ ts.length) : Pl ts i (Qx ts w i) := pG_pl ht _ w i hi
theorem b9x : ∀ (n i : Nat), i ≤ ts.length → Pl ts i (tyG ts n i) := by
  have one : ∀ (i : Nat) (k : Int) (s : ByteArray), i < ts.length → (nxt ts i).k ≠ 5 → I6 k → Pl ts i (mk7 ts i (i + 1) k 0 s []) := fun i k s h hn h6 => a3l ht (y8 ht (by omega) (by omega)) (by omega) (by omega) (Nat.le_refl i) hn h6 (by decide)
  intro n
  induction n with
  | zero => intro i _; exact p9
  | succ n ih =>
    intro i hi
    unfold tyG
    split
    · rename_i h; exact one i 1 _ (g9 h) (j6 h) (by decide)
    split
    · rename_i h; exact one i 2 _ (g9 h) (j6 h) (by decide)
    split
    · rename_i h
      have h0 := g9 h
      split
      · rename_i h1
        have h1 := z4 h1 (by decide)
        split
        · rename_i h2
          have h2 := g9 h2
          obtain ⟨a1, a2, a3, a4⟩ := b3y ts n (i + 3)
          split
          · rename_i h3
            have hy := a1 h3
            have := y4 ht (y8 ht (show i ≤ i + 3 by omega) (by omega)) (by omega) (Nat.le_refl (i + 3)) (⟨a1, a2, fun _ => by omega⟩ : OkG ts (i + 3) (tyG ts n (i + 3))) h3 (ih (i + 3) (by omega))
            exact a3l ht (by simpa using this) (by omega) hy.2 (Nat.le_refl i) (ih (i + 3) (by omega) h3).ne (by decide) (ht.b (i + 1) (by omega)).1
          · rename_i h3; exact a2h h3
        · exact p9
      · exact p9
    · split
      · rename_i h; exact one i 4 _ (z4 h (by decide)) (a8f h (by decide)) (by decide)
      · exact p9
theorem a4m {R : Nat → Nat → Got} (hR : ∀ w j, j ≤ ts.length → OkS ts (if w = 2 then 1 else 0) j (R w j)) (hS : ∀ w j, j ≤ ts.length → Pl ts j (R w j)) (a : Nat) (k : Int) {n : Int} (hk6 : I6 k) (hn6 : I6 n) : ∀ (l : List It) (zto : Nat) (s : ByteArray) (ps : List VT) (c : Nat), c + sm ps + a ≤ zto → zto ≤ ts.length → Cr c l → PS ts a zto ps → (a < zto → (nxt ts (zto - 1)).k ≠ 5) → Pl ts a (itH ts R a k n l zto s ps)
  | [], zto, s, ps, c, h1, h2, h3, h4, h6 => by
    unfold Cr at h3
    rw [itH]
    exact a3l ht h4 (by omega) h2 (Nat.le_refl a) (h6 (by omega)) hk6 hn6
  | .sgn x :: l, zto, s, ps, c, h1, h2, h3, h4, h6 => by
    unfold itH
    split
    · rename_i h; have := g9 h; exact a4m hR hS a k hk6 hn6 l (zto + 1) s ps (c + 1) (by omega) (by omega) h3 (y3 ht h4 (by omega) (Nat.le_succ _) (by omega)) (fun _ => j6 h)
    · exact p9
  | .nam :: l, zto, s, ps, c, h1, h2, h3, h4, h6 => by
    unfold itH
    split
    · rename_i h; have := z4 h (by decide); exact a4m hR hS a k hk6 hn6 l (zto + 1) _ ps (c + 1) (by omega) (by omega) h3 (y3 ht h4 (by omega) (Nat.le_succ _) (by omega)) (fun _ => a8f h (by decide))
    · exact p9
  | .sub w :: l, zto, s, ps, c, h1, h2, h3, h4, h6 => by
    unfold itH
    have hr := hR w zto h2
    split
    · rename_i h
      have hy := hr.ok.yes h
      have hs := hr.sz h
      refine a4m hR hS a k hk6 hn6 l _ s _ _ ?_ hy.2 h3 (y4 ht h4 (by omega) (Nat.le_refl zto) hr.ok h (hS w zto h2)) (fun _ => (hS w zto h2 h).ne)
      rw [w9]
      split at hs <;> split <;> omega
    · rename_i h; exact a2h h
  | .els :: l, zto, s, ps, c, h1, h2, h3, h4, h6 => by
    unfold itH
    split
    · rename_i h
      have hlt := g9 h
      have hr := hR 2 (zto + 1) (by omega)
      split
      · rename_i h
        have hy := hr.ok.yes h
        have hs := hr.sz h
        refine a4m hR hS a k hk6 hn6 l _ s _ _ ?_ hy.2 h3.2 (y4 ht h4 (by omega) (Nat.le_succ zto) hr.ok h (hS 2 _ (by omega))) (fun _ => (hS 2 _ (by omega) h).ne)
        rw [w9]
        rw [if_pos rfl] at hs
        omega
      · rename_i h; exact a2h h
    · have h5 := h3.1
      refine a4m hR hS a k hk6 hn6 l zto s _ _ ?_ h2 h3.2 ⟨a63 h4.ch ?_ (Int.le_refl _) ?_, fun y hy => ?_, fun y hy => ?_⟩ h6
      · rw [w9]
        show c - 1 + (sm ps + Tr.size (Tr.mk _ [])) + a ≤ zto
        rw [Tr.size_mk]
        simp
        omega
      · rw [show pe ts a zto = toT ts (zto - 1) from if_pos (by omega)]; exact Int.le_refl _
      · rw [show pe ts a zto = toT ts (zto - 1) from if_pos (by omega)]; exact Int.le_refl _
      · rcases List.mem_append.1 hy with h | h
        · exact h4.wi y h
        · rw [List.mem_singleton.1 h]; exact .mk _ _ (Int.le_refl _) (fun y h => by cases h)
      · rcases List.mem_append.1 hy with h | h
        · exact h4.al y h
        · rw [List.mem_singleton.1 h]
          have := (ht.b (zto - 1) (by omega)).2.2
          exact (Tr.all_mk _ _ _).2 ⟨⟨by show I6 29; decide, by show I6 0; decide, this, this⟩, fun y h => by cases h⟩
theorem lpB_pl {S : Nat → Got} (hS : ∀ j, j ≤ ts.length → OkS ts 0 j (S j)) (hP : ∀ j, j ≤ ts.length → Pl ts j (S j)) (a : Nat) : ∀ (m zto : Nat) (acc : List VT), a < zto → zto ≤ ts.length → PS ts a zto acc → Pl ts a (lpB ts S a m zto acc) := by
  intro m
  induction m with
  | zero => intro zto acc _ _ _; exact p9
  | succ m ih =>
    intro zto acc h1 h2 h3
    unfold lpB
    split
    · rename_i h
      have hlt := g9 h
      exact a3l ht (y3 ht h3 (by omega) (Nat.le_succ _) (by omega)) (by omega) (by omega) (Nat.le_refl a) (j6 h) (by decide) (by decide)
    · have hr := hS zto h2
      split
      · rename_i h
        have hy := hr.ok.yes h
        exact ih _ _ (by omega) hy.2 (y4 ht h3 (by omega) (Nat.le_refl zto) hr.ok h (hP zto h2))
      · rename_i h; exact a2h h
theorem b6x {S : Nat → Got} (hS : ∀ j, j ≤ ts.length → OkS ts 0 j (S j)) (hP : ∀ j, j ≤ ts.length → Pl ts j (S j)) (i : Nat) (hi : i ≤ ts.length) : Pl ts i (blG ts S i) := by
  unfold blG
  split
  · rename_i h; have := g9 h; exact lpB_pl ht hS hP i _ _ _ (Nat.lt_succ_self i) (by omega) (y8 ht (by omega) (by omega))
  · exact p9
theorem RR_pl {S : Nat → Got} (hS : ∀ j, j ≤ ts.length → OkS ts 0 j (S j)) (hP : ∀ j, j ≤ ts.length → Pl ts j (S j)) (w j : Nat) (hj : j ≤ ts.length) : Pl ts j (RR ts S w j) := by
  unfold RR
  split
  · exact Q_pl ht 1 j hj
  split
  · exact b9x ht _ j hj
  · exact b6x ht hS hP j hj
theorem sG_pl : ∀ (n i : Nat), i ≤ ts.length → Pl ts i (sG ts n i) := by
  intro n
  induction n with
  | zero => intro i _; exact p9
  | succ n ih =>
    intro i hi
    unfold sG
    split
    · exact b6x ht (a2k n) ih i hi
    · exact a4m ht (b6h (a2k n)) (RR_pl ht (a2k n) ih) i _ (frm_i6 i) (by decide) _ i _ [] 0 (by simp [sm]) hi (b7j i) (y8 ht (Nat.le_refl i) hi) (fun h => absurd h (Nat.lt_irrefl i))
end
end Go.Proofs.YthkfdheoakbfnaaGreat.vt
end
section
namespace Go.Proofs.YthkfdheoakbfnaaGreat.vt
open Go.Proofs.YthkfdheoakbfnaaGreat.am
set_option linter.unusedVariables false
def Ne5 (ts : List Tok) (i j : Nat) : Prop := i < j → (nxt ts (j - 1)).k ≠ 5
section
variable {ts : List Tok}
theorem u6 {i : Nat} : Ne5 ts i i := fun h => absurd h (Nat.lt_irrefl i)
theorem i7 {i j : Nat} (h : (nxt ts j).k ≠ 5) : Ne5 ts i (j + 1) := fun _ => h
theorem a7m {i j m : Nat} (h : Ne5 ts j m) (hm : j ≤ m) (hp : Ne5 ts i j) (hij : i ≤ j) : Ne5 ts i m := fun hi => by
  rcases Nat.lt_or_ge j m with h1 | h1
  · exact h h1
  · have : m = j := by omega
    subst this; exact hp hi
theorem lpL_ne {P : Nat → Got} {l a : Nat} (hl : l ≤ 5) (hP : ∀ j, j ≤ ts.length → OkG ts j (P j)) (hS : ∀ j, j ≤ ts.length → Ne5 ts j (P j).2.1) : ∀ (m : Nat) (t : Bool) (x : Got), OkG ts a x → Ne5 ts a x.2.1 → Ne5 ts a (lpL ts P l a m t x).2.1 := by
  intro m
  induction m with
  | zero => intro t x hx hs; exact hs
  | succ m ih =>
    intro t x hx hs
    unfold lpL
    split
    · exact hs
    · rename_i h0
      have h0 : x.2.2 = 0 := by simpa using h0
      split
      · exact hs
      · rename_i h1
        have h1 : (opK (nxt ts x.2.1)).2 = l := by simpa using (not_or.1 h1).1
        have hlt := b4v h1 hl
        have hk : (nxt ts x.2.1).k ≠ 5 := by
          intro h5
          unfold opK at h1
          rw [if_neg (by omega)] at h1
          dsimp only at h1
          omega
        have hp := hP (x.2.1 + 1) (by omega)
        have hq := hS (x.2.1 + 1) (by omega)
        have hy := hx.yes h0
        have hn : Ne5 ts a (P (x.2.1 + 1)).2.1 := a7m hq (hp.le (by omega)).1 (i7 hk) (by omega)
        split
        · exact hn
        · rename_i h2
          have h2 : (P (x.2.1 + 1)).2.2 = 0 := by simpa using h2
          have := hp.yes h2
          exact ih true _ (t5 (by omega) this.2) hn
theorem lpP_ne {E : Nat → Got} {a : Nat} (hE : ∀ j, j ≤ ts.length → OkG ts j (E j)) (hS : ∀ j, j ≤ ts.length → Ne5 ts j (E j).2.1) : ∀ (m : Nat) (x : Got), OkG ts a x → Ne5 ts a x.2.1 → Ne5 ts a (lpP ts E a m x).2.1 := by
  intro m
  induction m with
  | zero => intro x hx hs; exact hs
  | succ m ih =>
    intro x hx hs
    unfold lpP
    split
    · exact hs
    · rename_i h0
      have h0 : x.2.2 = 0 := by simpa using h0
      have hy := hx.yes h0
      split
      · rename_i h1
        have hlt := g9 h1
        have hp := hE (x.2.1 + 1) (by omega)
        have hn : Ne5 ts a (E (x.2.1 + 1)).2.1 := a7m (hS (x.2.1 + 1) (by omega)) (hp.le (by omega)).1 (i7 (j6 h1)) (by omega)
        split
        · exact hn
        · rename_i h2
          have h2 : (E (x.2.1 + 1)).2.2 = 0 := by simpa using h2
          have hyy := hp.yes h2
          split
          · exact hn
          · rename_i h3
            have h3 : isK t9 (nxt ts (E (x.2.1 + 1)).2.1) = true := by simpa using h3
            have := g9 h3
            exact ih _ (t5 (by omega) (by omega)) (i7 (j6 h3))
      · split
        · rename_i h1
          have hlt := g9 h1
          split
          · exact i7 (j6 h1)
          · rename_i h3
            have h3 : (nxt ts (x.2.1 + 1)).k = 1 := by simpa using h3
            have := z4 h3 (by decide)
            exact ih _ (t5 (by omega) (by omega)) (i7 (a8f h3 (by decide)))
        · exact hs
theorem lpC_ne {E : Nat → Got} (hE : ∀ j, j ≤ ts.length → OkG ts j (E j)) (hS : ∀ j, j ≤ ts.length → Ne5 ts j (E j).2.1) (a : Nat) : ∀ (m i : Nat) (acc : List VT), a ≤ i → i ≤ ts.length → Ne5 ts a i → Ne5 ts a (lpC ts E m i acc).2.1 := by
  intro m
  induction m with
  | zero => intro i acc _ _ hs; exact hs
  | succ m ih =>
    intro i acc hai hi hs
    unfold lpC
    have hp := hE i hi
    have hn : Ne5 ts a (E i).2.1 := a7m (hS i hi) (hp.le hi).1 hs hai
    have hle := hp.le hi
    split
    · exact hn
    · split
      · exact hn
      · rename_i h2
        have h2 : isK a6k (nxt ts (E i).2.1) = true := by simpa using h2
        have hlt := g9 h2
        exact ih _ _ (by omega) (by omega) (i7 (j6 h2))
theorem a2b {E : Nat → Got} (hE : ∀ j, j ≤ ts.length → OkG ts j (E j)) (hS : ∀ j, j ≤ ts.length → Ne5 ts j (E j).2.1) (a : Nat) {o : Nat} (hao : a ≤ o) (few : Bool) (fs ls : ByteArray) (ho : o ≤ ts.length) (hp : Ne5 ts a o) : Ne5 ts a (a0x ts E o few fs ls).2.1 := by
  unfold a0x
  split
  · exact hp
  · rename_i h0
    have h0 : isK fs (nxt ts o) = true := by simpa using h0
    have hlt := g9 h0
    split
    · rename_i h1; exact i7 (j6 h1.2)
    · have hc := lpC_ne hE hS a (ts.length + 1) (o + 1) [] (by omega) (by omega) (i7 (j6 h0))
      split
      · exact hc
      · split
        · exact hc
        · rename_i h3; exact i7 (j6 (s := ls) (by simpa using h3))
theorem a2z {a i : Nat} {k : Int} {s : ByteArray} {c : List VT × Nat × Int} (h : Ne5 ts a c.2.1) : Ne5 ts a (a0w ts i k s c).2.1 := by
  unfold a0w
  split <;> exact h
theorem c1a {E : Nat → Got} (hE : ∀ j, j ≤ ts.length → OkG ts j (E j)) (hS : ∀ j, j ≤ ts.length → Ne5 ts j (E j).2.1) (i : Nat) (hi : i ≤ ts.length) : Ne5 ts i (a61 ts E i).2.1 := by
  unfold a61
  split
  · rename_i h; have := z4 h (by decide); exact a2z (a2b hE hS i (by omega) true l4 l5 (by omega) (i7 (a8f h (by decide))))
  split
  · rename_i h; have := g9 h; exact a2z (a2b hE hS i (by omega) false t8 t9 (by omega) u6)
  split
  · rename_i h; have := g9 h
    split
    · exact i7 (j6 h)
    · rename_i h2
      have h2 : (nxt ts (i + 1)).k = 1 := by simpa using h2
      have := z4 h2 (by decide)
      exact a2z (a2b hE hS i (by omega) true l4 l5 (by omega) (i7 (a8f h2 (by decide))))
  split
  · rename_i h; have := g9 h
    split
    · exact i7 (j6 h)
    · rename_i h2
      have h2 : (nxt ts (i + 1)).k = 1 := by simpa using h2
      have := z4 h2 (by decide)
      exact a2z (a2b hE hS i (by omega) false l4 l5 (by omega) (i7 (a8f h2 (by decide))))
  · exact u6
theorem c06 {E : Nat → Got} (hE : ∀ j, j ≤ ts.length → OkG ts j (E j)) (hS : ∀ j, j ≤ ts.length → Ne5 ts j (E j).2.1) (i : Nat) (hi : i ≤ ts.length) : Ne5 ts i (a8y ts E i).2.1 := by
  unfold a8y
  split
  · rename_i h; exact i7 (a8f h (by decide))
  split
  · rename_i h; exact i7 (j6 h)
  split
  · rename_i h; exact i7 (j6 h)
  split
  · rename_i h; exact i7 (j6 h)
  split
  · rename_i h; exact i7 (a8f h.1 (by decide))
  split
  · rename_i h
    have := g9 h
    have hp := hE (i + 1) (by omega)
    have hn : Ne5 ts i (E (i + 1)).2.1 := a7m (hS (i + 1) (by omega)) (hp.le (by omega)).1 (i7 (j6 h)) (by omega)
    split
    · exact hn
    · split
      · exact hn
      · rename_i h3; exact i7 (j6 (s := l5) (by simpa using h3))
  · exact c1a hE hS i hi
theorem bG_ne5 {R : Nat → Nat → Got} (hR : ∀ w j, j ≤ ts.length → OkG ts j (R w j)) (hS : ∀ w j, j ≤ ts.length → Ne5 ts j (R w j).2.1) (w i : Nat) (hi : i ≤ ts.length) : Ne5 ts i (bG ts R w i).2.1 := by
  unfold bG
  split
  · rename_i h; exact lpL_ne h (hR _) (hS _) _ _ _ (hR _ i hi) (hS _ i hi)
  split
  · split
    · exact hS 7 i hi
    · rename_i h
      have hne : i < ts.length ∧ (nxt ts i).k ≠ 5 := by
        unfold unN at h
        by_cases h1 : isK c0g (nxt ts i) = true
        · exact ⟨g9 h1, j6 h1⟩
        · by_cases h2 : isK b87 (nxt ts i) = true
          · exact ⟨g9 h2, j6 h2⟩
          · simp [h1, h2] at h
      have hn : Ne5 ts i (R 6 (i + 1)).2.1 := a7m (hS 6 (i + 1) (by omega)) ((hR 6 (i + 1) (by omega)).le (by omega)).1 (i7 hne.2) (by omega)
      split
      · exact hn
      · exact hn
  split
  · exact lpP_ne (hR 1) (hS 1) _ _ (hR 8 i hi) (hS 8 i hi)
  · exact c06 (hR 1) (hS 1) i hi
theorem pG_ne5 : ∀ (n w i : Nat), i ≤ ts.length → Ne5 ts i (pG ts n w i).2.1 := by
  intro n
  induction n with
  | zero => intro w i _; exact u6
  | succ n ih => intro w i hi; exact bG_ne5 (b1p n) ih w i hi
theorem Q_ne5 (w i : Nat) (hi : i ≤ ts.length) : Ne5 ts i (Qx ts w i).2.1 := pG_ne5 _ w i hi
theorem b16 : ∀ (n i : Nat), i ≤ ts.length → Ne5 ts i (tyG ts n i).2.1 := by
  intro n
  induction n with
  | zero => intro i _; exact u6
  | succ n ih =>
    intro i hi
    unfold tyG
    split
    · rename_i h; exact i7 (j6 h)
    split
    · rename_i h; exact i7 (j6 h)
    split
    · rename_i h
      split
      · rename_i h1
        split
        · rename_i h2
          have hl := g9 h2
          have hn : Ne5 ts i (tyG ts n (i + 3)).2.1 := by
            by_cases h4 : i + 3 < (tyG ts n (i + 3)).2.1
            · exact fun _ => ih (i + 3) (by omega) h4
            · intro h5
              have h6 : ∀ n i, i ≤ ts.length → i ≤ (tyG ts n i).2.1 := by
                intro n
                induction n with
                | zero => intro i _; exact Nat.le_refl _
                | succ n ih =>
                  intro i hi
                  unfold tyG
                  split
                  · simp
                  split
                  · simp
                  split
                  · split
                    · split
                      · rename_i h9
                        have h9 := g9 h9
                        have := ih (i + 3) (by omega)
                        split
                        · dsimp only; omega
                        · omega
                      · simp
                    · simp
                  · split <;> simp
              have := h6 n (i + 3) (by omega)
              have e : (tyG ts n (i + 3)).2.1 = i + 3 := by omega
              rw [e]
              exact j6 h2
          split
          · exact hn
          · exact hn
        · exact i7 (a8f h1 (by decide))
      · exact i7 (j6 h)
    · split
      · rename_i h; exact i7 (a8f h (by decide))
      · exact u6
theorem a00 {R : Nat → Nat → Got} (hR : ∀ w j, j ≤ ts.length → OkG ts j (R w j)) (hS : ∀ w j, j ≤ ts.length → Ne5 ts j (R w j).2.1) (i a : Nat) (k n : Int) : ∀ (l : List It) (zto : Nat) (s : ByteArray) (ps : List VT), i ≤ zto → zto ≤ ts.length → Ne5 ts i zto → Ne5 ts i (itH ts R a k n l zto s ps).2.1
  | [], zto, s, ps, h1, h2, h3 => by rw [itH]; exact h3
  | .sgn x :: l, zto, s, ps, h1, h2, h3 => by
    unfold itH
    split
    · rename_i h; have := g9 h; exact a00 hR hS i a k n l (zto + 1) s ps (by omega) (by omega) (i7 (j6 h))
    · exact h3
  | .nam :: l, zto, s, ps, h1, h2, h3 => by
    unfold itH
    split
    · rename_i h; have := z4 h (by decide); exact a00 hR hS i a k n l (zto + 1) _ ps (by omega) (by omega) (i7 (a8f h (by decide)))
    · exact h3
  | .sub w :: l, zto, s, ps, h1, h2, h3 => by
    have hr := hR w zto h2
    have hn : Ne5 ts i (R w zto).2.1 := a7m (hS w zto h2) (hr.le h2).1 h3 h1
    unfold itH
    split
    · have := hr.le h2; exact a00 hR hS i a k n l _ s _ (by omega) this.2 hn
    · exact hn
  | .els :: l, zto, s, ps, h1, h2, h3 => by
    unfold itH
    split
    · rename_i h
      have hlt := g9 h
      have hr := hR 2 (zto + 1) (by omega)
      have hn : Ne5 ts i (R 2 (zto + 1)).2.1 := a7m (hS 2 (zto + 1) (by omega)) (hr.le (by omega)).1 (i7 (j6 h)) (by omega)
      have := hr.le (by omega)
      split
      · exact a00 hR hS i a k n l _ s _ (by omega) this.2 hn
      · exact hn
    · exact a00 hR hS i a k n l zto s _ h1 h2 h3
theorem c6e {S : Nat → Got} (hS : ∀ j, j ≤ ts.length → OkS ts 0 j (S j)) (hN : ∀ j, j ≤ ts.length → Ne5 ts j (S j).2.1) (a : Nat) : ∀ (m zto : Nat) (acc : List VT), a ≤ zto → zto ≤ ts.length → Ne5 ts a zto → Ne5 ts a (lpB ts S a m zto acc).2.1 := by
  intro m
  induction m with
  | zero => intro zto acc _ _ h; exact h
  | succ m ih =>
    intro zto acc h1 h2 h3
    unfold lpB
    split
    · rename_i h; exact i7 (j6 h)
    · have hr := (hS zto h2).ok.le h2
      have hn : Ne5 ts a (S zto).2.1 := a7m (hN zto h2) hr.1 h3 h1
      split
      · exact ih _ _ (by omega) hr.2 hn
      · exact hn
theorem b05 {S : Nat → Got} (hS : ∀ j, j ≤ ts.length → OkS ts 0 j (S j)) (hN : ∀ j, j ≤ ts.length → Ne5 ts j (S j).2.1) (i : Nat) (hi : i ≤ ts.length) : Ne5 ts i (blG ts S i).2.1 := by
  unfold blG
  split
  · rename_i h; have := g9 h; exact c6e hS hN i _ _ _ (Nat.le_succ i) (by omega) (i7 (j6 h))
  · exact u6
theorem RR_ne5 {S : Nat → Got} (hS : ∀ j, j ≤ ts.length → OkS ts 0 j (S j)) (hN : ∀ j, j ≤ ts.length → Ne5 ts j (S j).2.1) (w j : Nat) (hj : j ≤ ts.length) : Ne5 ts j (RR ts S w j).2.1 := by
  unfold RR
  split
  · exact Q_ne5 1 j hj
  split
  · exact b16 _ j hj
  · exact b05 hS hN j hj
theorem sG_ne5 : ∀ (n i : Nat), i ≤ ts.length → Ne5 ts i (sG ts n i).2.1 := by
  intro n
  induction n with
  | zero => intro i _; exact u6
  | succ n ih =>
    intro i hi
    unfold sG
    split
    · exact b05 (a2k n) ih i hi
    · exact a00 (fun w j hj => (b6h (a2k n) w j hj).ok) (RR_ne5 (a2k n) ih) i i _ _ _ i _ [] (Nat.le_refl i) hi u6
end
end Go.Proofs.YthkfdheoakbfnaaGreat.vt
end
section
namespace Go.Proofs.YthkfdheoakbfnaaGreat.vt
open Go.Proofs.YthkfdheoakbfnaaGreat.am
set_option linter.unusedVariables false
abbrev wRec : ByteArray := ⟨#[114, 101, 99]⟩
abbrev a0s : ByteArray := ⟨#[99, 111, 110, 115, 116]⟩
abbrev b97 : ByteArray := ⟨#[118, 97, 114]⟩
abbrev c7f : ByteArray := ⟨#[112, 117, 98]⟩
abbrev wFn : ByteArray := ⟨#[102, 110]⟩
section
variable (ts : List Tok)
def a6b (i : Nat) : Got :=
  if (nxt ts i).k = 2 then mk7 ts i (i + 1) 5 (nxt ts i).n ⟨#[]⟩ []
  else if isK a3f (nxt ts i) = true then mk7 ts i (i + 1) 6 1 ⟨#[]⟩ []
  else if isK a3e (nxt ts i) = true then mk7 ts i (i + 1) 6 0 ⟨#[]⟩ []
  else n6 i
def Ty9 (_ : Nat) (j : Nat) : Got := tyG ts (ts.length + 1) j
def l9 (i : Nat) : Got := itH ts (Ty9 ts) i 34 0 [.nam, .sgn a1p, .sub 1] i ⟨#[]⟩ []
def lpF : Nat → Nat → List VT → List VT × Nat × Int
  | 0, i, acc => (acc, i, 6)
  | m + 1, i, acc => if acc ≠ [] ∧ isK a90 (nxt ts i) = true then (acc, i + 1, 0)
    else if (l9 ts i).2.2 ≠ 0 then (acc, (l9 ts i).2.1, (l9 ts i).2.2)
    else if isK a04 (nxt ts (l9 ts i).2.1) = true then lpF m ((l9 ts i).2.1 + 1) (acc ++ [(l9 ts i).1])
    else (acc, (l9 ts i).2.1, 6)
def a2g (i : Nat) : Got := a0w ts i 35 ⟨#[]⟩ (a0x ts (l9 ts) i true l4 l5)
noncomputable def c2z (i : Nat) : Got := blG ts (sG ts (ts.length + 1)) i
noncomputable def R9 (w i : Nat) : Got := if w = 2 then c2z ts i else if w = 1 then tyG ts (ts.length + 1) i else if w = 3 then a6b ts i else a2g ts i
def c0f (i : Nat) : Got :=
  if (nxt ts (i + 1)).k = 1 then if isK a8g (nxt ts (i + 2)) = true then a0w ts i 30 (nxt ts (i + 1)).s (lpF ts (ts.length + 1) (i + 3) []) else n6 (i + 2) else n6 (i + 1)
noncomputable def p8 (i : Nat) : Got :=
  if isK a0s (nxt ts i) = true then itH ts (R9 ts) i 31 0 [.sgn a0s, .nam, .sgn sIs, .sub 3, .sgn a04] i ⟨#[]⟩ []
  else if isK b97 (nxt ts i) = true then itH ts (R9 ts) i 32 0 [.sgn b97, .nam, .sgn a1p, .sub 1, .sgn a04] i ⟨#[]⟩ []
  else if isK c7f (nxt ts i) = true then itH ts (R9 ts) i 33 1 [.sgn c7f, .sgn wFn, .nam, .sub 4, .sgn a1p, .sub 1, .sub 2] i ⟨#[]⟩ []
  else if isK wFn (nxt ts i) = true then itH ts (R9 ts) i 33 0 [.sgn wFn, .nam, .sub 4, .sgn a1p, .sub 1, .sub 2] i ⟨#[]⟩ []
  else if isK wRec (nxt ts i) = true then c0f ts i
  else n6 i
noncomputable def lpU : Nat → Nat → List VT → List VT × Nat × Int
  | 0, i, acc => (acc, i, 6)
  | m + 1, i, acc => if ts.length ≤ i + 1 then (acc, i, 0) else if (p8 ts i).2.2 ≠ 0 then (acc, (p8 ts i).2.1, (p8 ts i).2.2) else lpU m (p8 ts i).2.1 (acc ++ [(p8 ts i).1])
end
section
variable {ts : List Tok}
theorem c6c (i : Nat) (hi : i ≤ ts.length) : OkS ts 0 i (a6b ts i) := by
  have one : ∀ k n s, i < ts.length → OkS ts 0 i (mk7 ts i (i + 1) k n s []) := fun k n s h => ⟨t5 (by omega) (by omega), fun h0 => by have := a3c (ts := ts) (i := i) (b := i + 1) (k := k) (n := n) (s := s) (l := []) (by simp [sm]) h0; exact this⟩
  unfold a6b
  split
  · rename_i h; exact one _ _ _ (z4 h (by decide))
  split
  · rename_i h; exact one _ _ _ (g9 h)
  split
  · rename_i h; exact one _ _ _ (g9 h)
  · exact y0 (fun h => ⟨Nat.le_refl _, h⟩)
theorem b9w (w j : Nat) (hj : j ≤ ts.length) : OkS ts 0 j (Ty9 ts w j) := a73 j hj
theorem c6o : Cr 0 [.nam, .sgn a1p, .sub 1] := by simp [Cr]
theorem a7i {R : Nat → Nat → Got} (hR : ∀ w j, j ≤ ts.length → OkS ts 0 j (R w j)) (a : Nat) (k n : Int) : ∀ (l : List It) (hl : ∀ w, It.sub w ∈ l → w ≠ 2) (hn : It.els ∉ l) (zto : Nat) (s : ByteArray) (ps : List VT) (c : Nat), c + sm ps + a ≤ zto → zto ≤ ts.length → Cr c l → OkS ts 0 a (itH ts R a k n l zto s ps)
  | [], hl, hn, zto, s, ps, c, h1, h2, h3 => by
    unfold Cr at h3
    exact ⟨t5 (by omega) h2, fun h0 => by have := a3c (ts := ts) (i := a) (b := zto) (k := k) (n := n) (s := s) (l := ps) (by omega) h0; exact this⟩
  | .sgn x :: l, hl, hn, zto, s, ps, c, h1, h2, h3 => by
    unfold itH
    split
    · rename_i h; have := g9 h; exact a7i hR a k n l (fun w hw => hl w (.tail _ hw)) (fun h => hn (.tail _ h)) (zto + 1) s ps (c + 1) (by omega) (by omega) h3
    · exact y0 (fun _ => by omega)
  | .nam :: l, hl, hn, zto, s, ps, c, h1, h2, h3 => by
    unfold itH
    split
    · rename_i h; have := z4 h (by decide); exact a7i hR a k n l (fun w hw => hl w (.tail _ hw)) (fun h => hn (.tail _ h)) (zto + 1) _ ps (c + 1) (by omega) (by omega) h3
    · exact y0 (fun _ => by omega)
  | .sub w :: l, hl, hn, zto, s, ps, c, h1, h2, h3 => by
    unfold itH
    have hr := hR w zto h2
    have hw := hl w (.head _)
    split
    · rename_i h
      have hy := hr.ok.yes h
      have hs := hr.sz h
      refine a7i hR a k n l (fun w hw => hl w (.tail _ hw)) (fun h => hn (.tail _ h)) _ s _ c ?_ hy.2 (by unfold Cr at h3; rwa [if_neg hw] at h3)
      rw [w9]
      omega
    · rename_i h; exact a7q (a3w hr (by omega) h2) h
  | .els :: l, hl, hn, zto, s, ps, c, h1, h2, h3 => absurd (.head _) hn
theorem b3i (i : Nat) (hi : i ≤ ts.length) : OkS ts 0 i (l9 ts i) := a7i b9w i 34 0 _ (by simp) (by simp) i _ [] 0 (by simp [sm]) hi c6o
theorem v7 (i : Nat) (hi : i ≤ ts.length) : OkG ts i (l9 ts i) := (b3i i hi).ok
theorem b8g (i : Nat) (hi : i ≤ ts.length) : Sz i (l9 ts i) := fun h => by have := (b3i i hi).sz h; exact this
theorem b8d (i : Nat) (hi : i ≤ ts.length) : OkS ts 0 i (a2g ts i) :=
  ⟨a52 (t1 v7 true l4 l5 hi) (Nat.le_refl i), fun h => by have := a54 (ts := ts) (k := 35) (s := ⟨#[]⟩) (a4b v7 b8g true l4 l5 hi) (Nat.le_refl i) h; exact this⟩
theorem b3b : ∀ (m i : Nat) (acc : List VT), i ≤ ts.length → OkC ts i (lpF ts m i acc)
  | 0, i, acc, hi => ⟨⟨Nat.le_refl _, hi⟩, fun h => by simp [lpF] at h, fun _ => rfl⟩
  | m + 1, i, acc, hi => by
    unfold lpF
    have hp := v7 (ts := ts) i hi
    split
    · rename_i h
      have := g9 h.2
      exact ⟨⟨by dsimp only; omega, by dsimp only; omega⟩, fun _ => Nat.lt_succ_self _, fun h => absurd rfl h⟩
    split
    · rename_i h; exact ⟨hp.le hi, fun h' => absurd h' h, fun _ => (hp.no h).1⟩
    · rename_i h
      have h : (l9 ts i).2.2 = 0 := by simpa using h
      have hy := hp.yes h
      split
      · rename_i h3
        have hlt := g9 h3
        have := b3b m ((l9 ts i).2.1 + 1) (acc ++ [(l9 ts i).1]) (by omega)
        exact ⟨⟨by have := this.le; omega, this.le.2⟩, fun h => by have := this.yes h; omega, this.no⟩
      · exact ⟨⟨by dsimp only; omega, hy.2⟩, fun h => by simp at h, fun _ => rfl⟩
theorem c3t (i0 : Nat) : ∀ (m i : Nat) (acc : List VT), i ≤ ts.length → sm acc + i0 ≤ i → (lpF ts m i acc).2.2 = 0 → sm (lpF ts m i acc).1 + i0 < (lpF ts m i acc).2.1
  | 0, i, acc, hi, _ => fun h => by simp [lpF] at h
  | m + 1, i, acc, hi, ha => by
    unfold lpF
    have hp := v7 (ts := ts) i hi
    split
    · exact fun _ => by dsimp only; omega
    split
    · rename_i h; exact fun h' => absurd h' h
    · rename_i h
      have h : (l9 ts i).2.2 = 0 := by simpa using h
      have hy := hp.yes h
      have hs := b8g i hi h
      split
      · rename_i h3
        have hlt := g9 h3
        exact c3t i0 m ((l9 ts i).2.1 + 1) (acc ++ [(l9 ts i).1]) (by omega) (by rw [w9]; omega)
      · exact fun h => by simp at h
theorem a8r (w j : Nat) (hj : j ≤ ts.length) : OkS ts (if w = 2 then 1 else 0) j (R9 ts w j) := by
  unfold R9
  by_cases h2 : w = 2
  · rw [if_pos h2, if_pos h2]; exact b6w (a2k _) j hj
  · rw [if_neg h2, if_neg h2]
    split
    · exact a73 j hj
    split
    · exact c6c j hj
    · exact b8d j hj
theorem c6s (i : Nat) (hi : i < ts.length) : OkS ts 0 i (c0f ts i) := by
  unfold c0f
  split
  · rename_i h
    have := z4 h (by decide)
    split
    · rename_i h2
      have := g9 h2
      exact ⟨a52 (b3b _ (i + 3) [] (by omega)) (by omega), fun h => by have := a54 (ts := ts) (i := i) (o := i + 3) (k := 30) (s := (nxt ts (i + 1)).s) (c3t (i + 3) (ts.length + 1) (i + 3) [] (by omega) (by simp [sm])) (by omega) h; exact this⟩
    · exact y0 (fun _ => by omega)
  · exact y0 (fun _ => by omega)
theorem a3r (i : Nat) (hi : i ≤ ts.length) : OkS ts 0 i (p8 ts i) := by
  unfold p8
  split
  · exact a1n a8r i _ _ i _ [] 0 (by simp [sm]) hi (by simp [Cr])
  split
  · exact a1n a8r i _ _ i _ [] 0 (by simp [sm]) hi (by simp [Cr])
  split
  · exact a1n a8r i _ _ i _ [] 0 (by simp [sm]) hi (by simp [Cr])
  split
  · exact a1n a8r i _ _ i _ [] 0 (by simp [sm]) hi (by simp [Cr])
  split
  · rename_i h; exact c6s i (g9 h)
  · exact y0 (fun h => ⟨Nat.le_refl _, h⟩)
theorem c6b (i : Nat) : Ne5 ts i (a6b ts i).2.1 := by
  unfold a6b
  split
  · rename_i h; exact i7 (a8f h (by decide))
  split
  · rename_i h; exact i7 (j6 h)
  split
  · rename_i h; exact i7 (j6 h)
  · exact u6
theorem b3h (i : Nat) (hi : i ≤ ts.length) : Ne5 ts i (l9 ts i).2.1 := a00 (fun w j hj => (b9w w j hj).ok) (fun w j hj => b16 _ j hj) i i _ _ _ i _ [] (Nat.le_refl i) hi u6
theorem c6n (i : Nat) (hi : i ≤ ts.length) : Ne5 ts i (a2g ts i).2.1 := a2z (a2b v7 b3h i (Nat.le_refl i) true l4 l5 hi u6)
theorem b7w (a : Nat) : ∀ (m i : Nat) (acc : List VT), a ≤ i → i ≤ ts.length → Ne5 ts a i → Ne5 ts a (lpF ts m i acc).2.1
  | 0, i, acc, _, _, h => h
  | m + 1, i, acc, hai, hi, h => by
    have hp := (v7 (ts := ts) i hi).le hi
    have hn : Ne5 ts a (l9 ts i).2.1 := a7m (b3h i hi) hp.1 h hai
    unfold lpF
    split
    · rename_i h; exact i7 (j6 h.2)
    split
    · exact hn
    · split
      · rename_i h3
        have hlt := g9 h3
        exact b7w a m _ _ (by omega) (by omega) (i7 (j6 h3))
      · exact hn
theorem R9_ne5 (w j : Nat) (hj : j ≤ ts.length) : Ne5 ts j (R9 ts w j).2.1 := by
  unfold R9
  split
  · exact b05 (a2k _) (sG_ne5 _) j hj
  split
  · exact b16 _ j hj
  split
  · exact c6b j
  · exact c6n j hj
theorem c1d (i : Nat) (hi : i ≤ ts.length) : Ne5 ts i (p8 ts i).2.1 := by
  have it := fun (k n : Int) (l : List It) => a00 (ts := ts) (fun w j hj => (a8r w j hj).ok) R9_ne5 i i k n l i ⟨#[]⟩ [] (Nat.le_refl i) hi u6
  unfold p8
  split
  · exact it _ _ _
  split
  · exact it _ _ _
  split
  · exact it _ _ _
  split
  · exact it _ _ _
  split
  · rename_i h
    have := g9 h
    unfold c0f
    split
    · rename_i h1
      have := z4 h1 (by decide)
      split
      · rename_i h2
        have := g9 h2
        exact a2z (b7w i _ (i + 3) [] (by omega) (by omega) (i7 (j6 h2)))
      · exact i7 (a8f h1 (by decide))
    · exact i7 (j6 h)
  · exact u6
section
variable (ht : TO ts)
include ht
theorem lit_pl (i : Nat) (hi : i ≤ ts.length) : Pl ts i (a6b ts i) := by
  have one : ∀ (k n : Int) (s : ByteArray), i < ts.length → (nxt ts i).k ≠ 5 → I6 k → I6 n → Pl ts i (mk7 ts i (i + 1) k n s []) := fun k n s h hn h6 h7 => a3l ht (y8 ht (by omega) (by omega)) (by omega) (by omega) (Nat.le_refl i) hn h6 h7
  unfold a6b
  split
  · rename_i h; exact one _ _ _ (z4 h (by decide)) (a8f h (by decide)) (by decide) (ht.b i (z4 h (by decide))).1
  split
  · rename_i h; exact one _ _ _ (g9 h) (j6 h) (by decide) (by decide)
  split
  · rename_i h; exact one _ _ _ (g9 h) (j6 h) (by decide) (by decide)
  · exact p9
theorem a7j {R : Nat → Nat → Got} (hR : ∀ w j, j ≤ ts.length → OkS ts 0 j (R w j)) (hS : ∀ w j, j ≤ ts.length → Pl ts j (R w j)) (a : Nat) (k n : Int) (hk6 : I6 k) (hn6 : I6 n) : ∀ (l : List It) (hn : It.els ∉ l) (zto : Nat) (s : ByteArray) (ps : List VT), a + (if l = [] then 1 else 0) ≤ zto → zto ≤ ts.length → PS ts a zto ps → (a < zto → (nxt ts (zto - 1)).k ≠ 5) → Pl ts a (itH ts R a k n l zto s ps)
  | [], hn, zto, s, ps, h1, h2, h4, h6 => by
    rw [itH]
    rw [if_pos rfl] at h1
    exact a3l ht h4 (by omega) h2 (Nat.le_refl a) (h6 (by omega)) hk6 hn6
  | .sgn x :: l, hn, zto, s, ps, h1, h2, h4, h6 => by
    unfold itH
    split
    · rename_i h; have := g9 h; exact a7j hR hS a k n hk6 hn6 l (fun h => hn (.tail _ h)) (zto + 1) s ps (by split <;> simp at h1 <;> omega) (by omega) (y3 ht h4 (by simp at h1; omega) (Nat.le_succ _) (by omega)) (fun _ => j6 h)
    · exact p9
  | .nam :: l, hn, zto, s, ps, h1, h2, h4, h6 => by
    unfold itH
    split
    · rename_i h; have := z4 h (by decide); exact a7j hR hS a k n hk6 hn6 l (fun h => hn (.tail _ h)) (zto + 1) _ ps (by split <;> simp at h1 <;> omega) (by omega) (y3 ht h4 (by simp at h1; omega) (Nat.le_succ _) (by omega)) (fun _ => a8f h (by decide))
    · exact p9
  | .sub w :: l, hn, zto, s, ps, h1, h2, h4, h6 => by
    unfold itH
    have hr := hR w zto h2
    split
    · rename_i h
      have hy := hr.ok.yes h
      exact a7j hR hS a k n hk6 hn6 l (fun h => hn (.tail _ h)) _ s _ (by split <;> simp at h1 <;> omega) hy.2 (y4 ht h4 (by simp at h1; omega) (Nat.le_refl zto) hr.ok h (hS w zto h2)) (fun _ => (hS w zto h2 h).ne)
    · rename_i h; exact a2h h
  | .els :: l, hn, zto, s, ps, h1, h2, h4, h6 => absurd (.head _) hn
theorem b8f (i : Nat) (hi : i ≤ ts.length) : Pl ts i (l9 ts i) := a7j ht b9w (fun w j hj => b9x ht _ j hj) i 34 0 (by decide) (by decide) _ (by simp) i _ [] (by simp) hi (y8 ht (Nat.le_refl i) hi) (fun h => absurd h (Nat.lt_irrefl i))
theorem par_pl (i : Nat) (hi : i ≤ ts.length) : Pl ts i (a2g ts i) := a53 ht (t1 v7 true l4 l5 hi) (a4a ht v7 (b8f ht) i (Nat.le_refl i) true l4 l5 hi) a39 (Nat.le_refl i) (by decide)
theorem c3s (a : Nat) : ∀ (m i : Nat) (acc : List VT), a ≤ i → i ≤ ts.length → PS ts a i acc → (lpF ts m i acc).2.2 = 0 → PS ts a (lpF ts m i acc).2.1 (lpF ts m i acc).1 ∧ (nxt ts ((lpF ts m i acc).2.1 - 1)).k ≠ 5
  | 0, i, acc, _, _, _ => fun h => by simp [lpF] at h
  | m + 1, i, acc, hai, hi, hs => by
    have hp := v7 (ts := ts) i hi
    unfold lpF
    split
    · rename_i h
      have := g9 h.2
      exact fun _ => ⟨y3 ht hs hai (Nat.le_succ _) (by dsimp only; omega), j6 h.2⟩
    split
    · rename_i h; exact fun h' => absurd h' h
    · rename_i h
      have h : (l9 ts i).2.2 = 0 := by simpa using h
      have hy := hp.yes h
      have hn := y4 ht hs hai (Nat.le_refl i) hp h (b8f ht i hi)
      split
      · rename_i h3
        have hlt := g9 h3
        exact c3s a m _ _ (by omega) (by omega) (y3 ht hn (by omega) (Nat.le_succ _) (by omega))
      · exact fun h => by simp at h
theorem R9_pl (w j : Nat) (hj : j ≤ ts.length) : Pl ts j (R9 ts w j) := by
  unfold R9
  split
  · exact b6x ht (a2k _) (sG_pl ht _) j hj
  split
  · exact b9x ht _ j hj
  split
  · exact lit_pl ht j hj
  · exact par_pl ht j hj
theorem c5t (i : Nat) (hi : i ≤ ts.length) : Pl ts i (p8 ts i) := by
  have it : ∀ (k n : Int) (l : List It), I6 k → I6 n → Cr 0 l → Pl ts i (itH ts (R9 ts) i k n l i ⟨#[]⟩ []) := fun k n l h6 h7 hc => a4m ht a8r (R9_pl ht) i k h6 h7 l i _ [] 0 (by simp [sm]) hi hc (y8 ht (Nat.le_refl i) hi) (fun h => absurd h (Nat.lt_irrefl i))
  unfold p8
  split
  · exact it _ _ _ (by decide) (by decide) (by simp [Cr])
  split
  · exact it _ _ _ (by decide) (by decide) (by simp [Cr])
  split
  · exact it _ _ _ (by decide) (by decide) (by simp [Cr])
  split
  · exact it _ _ _ (by decide) (by decide) (by simp [Cr])
  split
  · rename_i h
    have := g9 h
    unfold c0f
    split
    · rename_i h1
      have := z4 h1 (by decide)
      split
      · rename_i h2
        have := g9 h2
        have hk := b3b (ts := ts) (ts.length + 1) (i + 3) [] (by omega)
        have hp := c3s ht i (ts.length + 1) (i + 3) [] (by omega) (by omega) (y8 ht (by omega) (by omega))
        exact a53 ht hk (fun h => (hp h).1) (fun h => (hp h).2) (by omega) (by decide)
      · exact p9
    · exact p9
  · exact p9
end
def lpF0 (ts : List Tok) : Nat → Nat → List VT → List VT × Nat × Int
  | 0, i, acc => (acc, i, 6)
  | m + 1, i, acc => if acc ≠ [] ∧ isK a90 (nxt ts i) = true then (acc, i, 0)
    else if (l9 ts i).2.2 ≠ 0 then (acc, (l9 ts i).2.1, (l9 ts i).2.2)
    else if isK a04 (nxt ts (l9 ts i).2.1) = true then lpF0 ts m ((l9 ts i).2.1 + 1) (acc ++ [(l9 ts i).1])
    else (acc, (l9 ts i).2.1, 6)
def FlT (ts : List Tok) (p : Nat × Int) : Nat × Int := WT ts a04 (OT (l9 ts) p).2
def lsF (ts : List Tok) : Nat → Nat → List VT → List VT
  | 0, i, acc => acc
  | m + 1, i, acc => if (FlT ts (i, 0)).2 = 0 ∧ isK a90 (nxt ts (FlT ts (i, 0)).1) = false then lsF ts m (FlT ts (i, 0)).1 (acc ++ [(l9 ts i).1]) else acc ++ [(l9 ts i).1]
structure InvFl (ts : List Tok) (i : Nat) (C : List VT × Nat × Int) (L : List VT) (x : Nat × Nat × Int × List VT) : Prop where
  no : x.2.2.1 ≠ 0 → x.2.2.2 = L ∧ C.2 = (x.2.1, x.2.2.1)
  end' : x.2.2.1 = 0 → isK a90 (nxt ts x.2.1) = true → x.2.2.2 = L ∧ C.2 = (x.2.1, 0)
  go : x.2.2.1 = 0 → isK a90 (nxt ts x.2.1) = false → lsF ts x.1 x.2.1 x.2.2.2 = L ∧ lpF0 ts x.1 x.2.1 x.2.2.2 = C ∧ x.2.1 ≤ ts.length ∧ ts.length < x.1 + x.2.1
  few : 2 * x.2.2.2.length + i ≤ ts.length + 2
  fit : x.2.2.1 = 0 → 2 * x.2.2.2.length + i ≤ x.2.1
end
end Go.Proofs.YthkfdheoakbfnaaGreat.vt
end
section
namespace Go.Proofs.YthkfdheoakbfnaaGreat.am
open Go.ChangeShapes Go.WideShapes Go.ChangeAt Go.RowKit
set_option linter.unusedVariables false
set_option linter.unusedSimpArgs false
def oldS (w : World) : CS := fun b _ => b < w.heap.size
def Ty (P : Program) : Nat → TypeId → List PV → Prop
  | 0, _, _ => False
  | n + 1, t, ps =>
    match P.underlying t with
    | some .bool => ∃ b, ps = [.lit (.bool b)]
    | some (.int k) => ∃ z, ps = [.lit (.int k z)] ∧ (Lit.int k z).wf = true
    | some .string => ∃ s : ByteArray, ps = [.lit (.string s)] ∧ s.size ≤ maxLen
    | some (.slice e) => ∃ l : List (List PV), ps = [.sl (P.cellsOf e) l] ∧ l.length ≤ maxLen ∧ ∀ x ∈ l, Ty P n e x
    | some (.struct fs) => ps.length = P.cellsOf t ∧ ∀ f ∈ fs.toList, Ty P n f.type ((ps.drop f.offset).take (P.cellsOf f.type))
    | _ => False
section
variable {P : Program} {S : CS} {w : World}
theorem n5.take {vs : List Value} {l : List PV} (h : n5 S w vs l) (n : Nat) : n5 S w (vs.take n) (l.take n) := by
  have := (n5.cs (γ := fun _ => .un)).1 h
  refine (n5.cs (γ := fun _ => .un)).2 ?_
  rw [List.map_take]; exact n4.take this n
theorem calls_of_row {f : FuncId} {args : List AV} {vs : List Value} (h : Row P f args [] (.v (.c (.pv (.lit (.bool true))))) []) (hv : u3 (fun _ => .un) (oldS w) w vs args) : Calls P f vs.toArray w fun e w' => e = .returned (.bool true) ∧ Below w.heap.size w w' := by
  have hm : Mem ⟨w, oldS w, fun _ => .un, []⟩ (fun x => ([] : List AO)[x]?) (fun x => ([] : List AO).length ≤ x) (fun _ => .un) (oldS w) w :=
    ⟨rfl, rfl, rfl, Nat.le_refl _, fun _ _ _ => rfl, fun _ _ h => ⟨h, rfl⟩, fun _ _ h => .inl h, fun _ _ h => h, GOn.refl _, fun _ _ => rfl, fun _ _ => .inl rfl, fun x o h => by simp at h, fun x y _ b h _ => by simp [G.bk] at h, fun x b h => by simp [G.bk] at h⟩
  refine (h.spec _ _ w vs hm hv).mono ?_
  rintro e w' ⟨v, γ', S', rfl, m, hr⟩
  obtain ⟨rfl, _⟩ := k8 hr
  exact ⟨rfl, m.os, m.tape, m.output, m.size, fun b hb => m.frame b hb (fun x h => by simp [G.bk] at h)⟩
end
end Go.Proofs.YthkfdheoakbfnaaGreat.am
end
section
namespace Go.Proofs.YthkfdheoakbfnaaGreat.am
open Go.ChangeShapes Go.WideShapes Go.ChangeAt Go.RowKit
set_option linter.unusedVariables false
abbrev newS (S : CS) (w w' : World) : CS := fun b o => S b o ∨ (w.heap.size ≤ b ∧ b < w'.heap.size)
theorem Mem.below {γ : Nat → G} {S : CS} {w w' : World} {ch : List AO} (hm : Mem ⟨w, S, γ, []⟩ (fun x => ch[x]?) (fun x => ch.length ≤ x) γ S w) (hb : Below w.heap.size w w') :
    Mem ⟨w, S, γ, []⟩ (fun x => ((ch.map some)[x]?).join) (fun x => (ch.map some).length ≤ x) γ (newS S w w') w' := by
  have hj : ∀ x, ((ch.map some)[x]?).join = ch[x]? := fun x => by
    rw [List.getElem?_map]
    cases ch[x]? <;> rfl
  refine ⟨hb.os, hb.tape, hb.output, hb.size, fun b h _ => hb.block b h, fun b o h => ⟨.inl h, hb.cell (p := ⟨b, o, none⟩) (hm.inb b o h)⟩, fun b o h => h.elim .inl (fun h => .inr (.inl h.1)), fun b o h => h.elim (fun h => Nat.lt_of_lt_of_le (hm.inb b o h) hb.size) (fun h => h.2), GOn.refl _,
    fun x hx => hm.un x (by rw [List.length_map] at hx; exact hx), fun x hx => hm.off x (by rw [← hj]; exact hx), fun x o hx => ?_, hm.dist, fun x b h => ⟨Nat.lt_of_lt_of_le (hm.live x b h).1 hb.size, (hm.live x b h).2⟩⟩
  refine a2r.on (hm.obj x o (by rw [← hj]; exact hx)) rfl (GOn.refl _) (fun _ _ h => .inl h) (fun b o h => hb.cell (p := ⟨b, o, none⟩) (hm.inb b o h)) (fun b hbk => ⟨hb.block b (hm.live x b hbk).1, fun o h => h.elim (fun h => h) (fun h => ?_)⟩)
  have := (hm.live x b hbk).1
  exact absurd h.1 (Nat.not_le.2 this)
theorem a7z {P : Program} {f : FuncId} {args : List AV} {ch : List AO} {res : AV}
    (h : ∀ (γ : Nat → G) (S : CS) (w : World) (vs : List Value), Mem ⟨w, S, γ, []⟩ (fun x => ch[x]?) (fun x => ch.length ≤ x) γ S w → u3 γ S w vs args →
      Calls P f vs.toArray w fun e w' => ∃ v, e = .returned v ∧ Below w.heap.size w w' ∧ j7 γ (newS S w w') w' v res) : Spec P f args ch res (ch.map some) := fun γ S w vs hm hv => by
  refine (h γ S w vs hm hv).mono ?_
  rintro e w' ⟨v, h1, h2, h3⟩
  exact ⟨v, γ, newS S w w', h1, hm.below h2, h3⟩
end Go.Proofs.YthkfdheoakbfnaaGreat.am
end
