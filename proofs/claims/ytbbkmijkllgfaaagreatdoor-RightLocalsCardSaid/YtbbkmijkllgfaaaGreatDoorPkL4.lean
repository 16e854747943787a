import Derived.Test.YtbbkmijkllgfaaaGreatDoorPkL3
import Derived.Test.YtbbkmijkllgfaaaGreatDoorProg
import Derived.IntWalk
import Derived.Scope
set_option maxRecDepth 100000
set_option maxHeartbeats 4000000
section
namespace Go.Proofs.YtbbkmijkllgfaaaGreatDoor.vt
open Go.Proofs.YtbbkmijkllgfaaaGreatDoor.am
set_option linter.unusedVariables false
inductive Tr (α : Type) where
  | mk (x : α) (l : List (Tr α))
namespace Tr
variable {α : Type}
def lab : Tr α → α
  | .mk x _ => x
def kids : Tr α → List (Tr α)
  | .mk _ l => l
theorem ind {P : Tr α → Prop} (h : ∀ x l, (∀ y ∈ l, P y) → P (.mk x l)) (t : Tr α) : P t :=
  Tr.rec (motive_1 := P) (motive_2 := fun l => ∀ y ∈ l, P y) h (fun y hy => by simp at hy) (fun x l hx hl y hy => by
    rcases List.mem_cons.1 hy with rfl | hy
    · exact hx
    · exact hl y hy) t
theorem eta (t : Tr α) : Tr.mk t.lab t.kids = t := by cases t; rfl
noncomputable def fold {β : Type} (g : α → List (Tr α) → List β → β) (t : Tr α) : β :=
  Tr.rec (motive_1 := fun _ => β) (motive_2 := fun _ => List β) (fun x l ih => g x l ih) [] (fun _ _ a b => a :: b) t
theorem fold_mk {β : Type} (g : α → List (Tr α) → List β → β) (x : α) (l : List (Tr α)) : fold g (.mk x l) = g x l (l.map (fold g)) := by
  show g x l _ = _
  congr 1
  induction l with
  | nil => rfl
  | cons y l ih => show fold g y :: _ = _; rw [ih]; rfl
noncomputable def size (t : Tr α) : Nat := fold (fun _ _ b => 1 + b.sum) t
theorem size_mk (x : α) (l : List (Tr α)) : size (.mk x l) = 1 + (l.map size).sum := fold_mk _ x l
theorem size_pos (t : Tr α) : 0 < size t := by cases t; rw [size_mk]; omega
theorem size_at {x : α} {l : List (Tr α)} {i : Nat} {y : Tr α} (h : l[i]? = some y) : size y < size (.mk x l) := by
  rw [size_mk]
  have : size y ≤ (l.map size).sum := by
    induction l generalizing i with
    | nil => simp at h
    | cons z l ih =>
      cases i with
      | zero => simp at h; subst h; simp
      | succ i => have := ih (by simpa using h); simp; omega
  omega
theorem len_size {x : α} {l : List (Tr α)} : l.length < size (.mk x l) := by
  rw [size_mk]
  have : l.length ≤ (l.map size).sum := by
    induction l with
    | nil => simp
    | cons z l ih => have := size_pos z; simp; omega
  omega
noncomputable def all (p : α → Prop) (t : Tr α) : Prop := fold (fun x _ b => p x ∧ ∀ q ∈ b, q) t
theorem all_mk (p : α → Prop) (x : α) (l : List (Tr α)) : all p (.mk x l) ↔ p x ∧ ∀ y ∈ l, all p y := by
  unfold all
  rw [fold_mk]
  constructor
  · rintro ⟨h1, h2⟩; exact ⟨h1, fun y hy => h2 _ (List.mem_map_of_mem hy)⟩
  · rintro ⟨h1, h2⟩; refine ⟨h1, fun q hq => ?_⟩
    obtain ⟨y, hy, rfl⟩ := List.mem_map.1 hq
    exact h2 y hy
end Tr
structure Lab where
  k : Int
  n : Int
  s : ByteArray
  f : Int
  t : Int
def Lab.ok (x : Lab) : Prop := (-9223372036854775808 ≤ x.k ∧ x.k ≤ 9223372036854775807) ∧ (-9223372036854775808 ≤ x.n ∧ x.n ≤ 9223372036854775807) ∧ (-9223372036854775808 ≤ x.f ∧ x.f ≤ 9223372036854775807) ∧ (-9223372036854775808 ≤ x.t ∧ x.t ≤ 9223372036854775807)
abbrev VT := Tr Lab
noncomputable abbrev m7 (t : VT) : Prop := Tr.all Lab.ok t
abbrev I (z : Int) : PV := .lit (.int .i64 z)
abbrev Sx (s : ByteArray) : PV := .lit (.string s)
abbrev Bo (b : Bool) : PV := .lit (.bool b)
abbrev vI (z : Int) : AV := .v (.c (.pv (I z)))
abbrev vS (s : ByteArray) : AV := .v (.c (.pv (Sx s)))
abbrev vB (b : Bool) : AV := .v (.c (.pv (Bo b)))
noncomputable def tc (t : VT) : List PV := Tr.fold (fun x _ b => [I x.k, I x.n, Sx x.s, .sl 6 b, I x.f, I x.t]) t
theorem b5i (x : Lab) (l : List VT) : tc (.mk x l) = [I x.k, I x.n, Sx x.s, .sl 6 (l.map tc), I x.f, I x.t] := Tr.fold_mk _ x l
theorem b9n (t : VT) : (tc t).length = 6 := by cases t; rw [b5i]; rfl
noncomputable def ta (t : VT) : List AC := (tc t).map .pv
theorem ta_mk (x : Lab) (l : List VT) : ta (.mk x l) = [.pv (I x.k), .pv (I x.n), .pv (Sx x.s), .pv (.sl 6 (l.map tc)), .pv (I x.f), .pv (I x.t)] := by unfold ta; rw [b5i]; rfl
noncomputable abbrev vT (t : VT) : AV := .v (.agg (ta t))
noncomputable abbrev vLs (l : List VT) : AV := .v (.c (.pv (.sl 6 (l.map tc))))
theorem c3z (t : VT) : (ta t).length = 6 := by unfold ta; rw [List.length_map]; exact b9n t
theorem b79 (l : List PV) : (l.map AC.pv).mapM a9i = some l := by
  induction l with
  | nil => rfl
  | cons p l ih => rw [List.map_cons, List.mapM_cons, ih]; rfl
theorem c6l (t : VT) : (ta t).mapM a9i = some (tc t) := b79 _
theorem b2s {n : Nat} {ρ : Nat → Nat} (l : List PV) : b04 n ρ (l.map AC.pv) (l.map AC.pv) := by
  induction l with
  | nil => trivial
  | cons p l ih => exact ⟨a8y p, ih⟩
theorem fit_ta {n : Nat} {ρ : Nat → Nat} (t : VT) : b04 n ρ (ta t) (ta t) := b2s _
theorem c6m (t : VT) : (ta t).take 6 = ta t := List.take_of_length_le (by rw [c3z]; exact Nat.le_refl _)
attribute [simp] ta_mk b5i c3z b9n c6l fit_ta b2s c6m
theorem b3h (ρ : Nat → Nat) (l : List PV) : (l.map AC.pv).map (AC.ren ρ) = l.map AC.pv := by
  rw [List.map_map]; rfl
theorem b3y (t : VT) (ρ : Nat → Nat) : (vT t).ren ρ = vT t := by
  show AV.v (.agg (((tc t).map AC.pv).map (AC.ren ρ))) = _
  rw [b3h]; rfl
end Go.Proofs.YtbbkmijkllgfaaaGreatDoor.vt
end
section
namespace Go.Proofs.YtbbkmijkllgfaaaGreatDoor.vt
open Go.Proofs.YtbbkmijkllgfaaaGreatDoor.am
set_option linter.unusedVariables false
noncomputable def eqv (p : Lab → Lab → Bool) (t : VT) : VT → Bool := Tr.fold (fun x l bs u => p x u.lab && decide (l.length = u.kids.length) && (bs.zip u.kids).all (fun q => q.1 q.2)) t
def a1j (f : VT → VT → Bool) (l m : List VT) (k : Nat) : Bool := ((l.zip m).take k).all (fun q => f q.1 q.2)
theorem a5d (f : VT → VT → Bool) (l m : List VT) : a1j f l m 0 = true := by simp [a1j]
theorem y8 {f : VT → VT → Bool} {l m : List VT} {k : Nat} {a b : VT} (ha : l[k]? = some a) (hb : m[k]? = some b) : a1j f l m (k + 1) = (a1j f l m k && f a b) := by
  unfold a1j
  rw [List.take_add_one, show (l.zip m)[k]? = some (a, b) from List.getElem?_zip_eq_some.2 ⟨ha, hb⟩]
  simp [List.all_append]
theorem a5c {f : VT → VT → Bool} {l m : List VT} {k : Nat} (j : Nat) (h : a1j f l m k = false) : a1j f l m (k + j) = false := by
  unfold a1j at h ⊢
  rw [List.all_eq_false] at h ⊢
  obtain ⟨q, h1, h2⟩ := h
  refine ⟨q, ?_, h2⟩
  have : (l.zip m).take k <+: (l.zip m).take (k + j) := List.take_prefix_take_left (by omega)
  exact this.subset h1
theorem a5e {α β : Type} (F : α → β → Bool) : ∀ (l : List α) (m : List β), ((l.map F).zip m).all (fun q => q.1 q.2) = (l.zip m).all (fun q => F q.1 q.2)
  | [], m => rfl
  | a :: l, [] => rfl
  | a :: l, b :: m => by simp only [List.map_cons, List.zip_cons_cons, List.all_cons, a5e F l m]
theorem a1m (p : Lab → Lab → Bool) (x y : Lab) (l m : List VT) : eqv p (.mk x l) (.mk y m) = (p x y && decide (l.length = m.length) && a1j (eqv p) l m l.length) := by
  have e : a1j (eqv p) l m l.length = (l.zip m).all (fun q => eqv p q.1 q.2) := by
    unfold a1j
    rw [List.take_of_length_le (l := l.zip m) (by rw [List.length_zip]; exact Nat.min_le_left _ _)]
  rw [e]
  conv => lhs; unfold eqv
  rw [Tr.fold_mk, a5e]
  rfl
def pS (x y : Lab) : Bool := decide (x.k = y.k) && decide (x.n = y.n) && decide (x.s = y.s)
def pP (x y : Lab) : Bool := decide (x.k = y.k) && decide (x.n = y.n) && decide (x.s = y.s) && decide (x.f = y.f) && decide (x.t = y.t)
noncomputable abbrev same (t u : VT) : Bool := eqv pS t u
noncomputable abbrev b55 (t u : VT) : Bool := eqv pP t u
theorem c0b {f : VT → VT → Bool} {l : List VT} (h : ∀ y ∈ l, f y y = true) : ∀ k, a1j f l l k = true := fun k => by
  unfold a1j
  rw [List.all_eq_true]
  intro q hq
  have hq := List.mem_of_mem_take hq
  obtain ⟨i, hi⟩ := List.mem_iff_getElem?.1 hq
  obtain ⟨h1, h2⟩ := List.getElem?_zip_eq_some.1 hi
  rw [h1] at h2
  have : q.1 = q.2 := by simpa using h2
  rw [← this]
  exact h _ (List.mem_of_getElem? h1)
theorem c1i {p : Lab → Lab → Bool} (hp : ∀ x, p x x = true) (t : VT) : eqv p t t = true := by
  induction t using Tr.ind with
  | h x l ih => rw [a1m, hp, c0b ih]; simp
theorem a9q (t : VT) : same t t = true := c1i (fun x => by simp [pS]) t
noncomputable def b5w (t : VT) : Int → Int → Int := Tr.fold (fun x l bs left lv => if lv ≤ 0 then -1 else bs.foldl (fun n f => if 0 ≤ n then f n (lv - 1) else n) (left - 1)) t
noncomputable def a2v (l : List VT) (lv n : Int) (k : Nat) : Int := (l.take k).foldl (fun n y => if 0 ≤ n then b5w y n (lv - 1) else n) n
theorem c3h (x : Lab) (l : List VT) (left lv : Int) : b5w (.mk x l) left lv = if lv ≤ 0 then -1 else a2v l lv (left - 1) l.length := by
  unfold b5w
  rw [Tr.fold_mk]
  split
  · rfl
  · rw [List.foldl_map]; unfold a2v; rw [List.take_length]; rfl
theorem a0e (l : List VT) (lv n : Int) : a2v l lv n 0 = n := by simp [a2v]
theorem a17 {l : List VT} {lv n : Int} {k : Nat} {y : VT} (h : l[k]? = some y) : a2v l lv n (k + 1) = if 0 ≤ a2v l lv n k then b5w y (a2v l lv n k) (lv - 1) else a2v l lv n k := by
  unfold a2v
  rw [List.take_add_one, h, Option.toList_some, List.foldl_append]
  rfl
theorem c1e {l : List VT} {lv n : Int} {k : Nat} (h : a2v l lv n k < 0) : ∀ j, k ≤ j → j ≤ l.length → a2v l lv n j = a2v l lv n k := fun j hj => by
  induction j with
  | zero => intro _; rw [show k = 0 by omega]
  | succ j ih =>
    intro hl
    by_cases hjk : k = j + 1
    · rw [hjk]
    · have hy : l[j]? = some (l[j]'(by omega)) := List.getElem?_eq_getElem _
      rw [a17 hy, ih (by omega) (by omega), if_neg (by omega)]
theorem b2d (t : VT) : ∀ left lv : Int, -1 ≤ left → b5w t left lv ≤ left ∧ -2 ≤ b5w t left lv ∧ (0 ≤ b5w t left lv → b5w t left lv + (t.size : Int) = left) := by
  induction t using Tr.ind with
  | h x l ih =>
    intro left lv h0
    rw [c3h]
    split
    · exact ⟨by omega, by omega, fun h => by omega⟩
    · have key : ∀ k, k ≤ l.length → a2v l lv (left - 1) k ≤ left - 1 ∧ -2 ≤ a2v l lv (left - 1) k ∧ (0 ≤ a2v l lv (left - 1) k → a2v l lv (left - 1) k + (((l.take k).map Tr.size).sum : Nat) = left - 1) := fun k => by
        induction k with
        | zero => intro _; rw [a0e]; simp; omega
        | succ k ihk =>
          intro hk
          obtain ⟨a1, a2, a3⟩ := ihk (by omega)
          have hy : l[k]? = some (l[k]'(by omega)) := List.getElem?_eq_getElem _
          rw [a17 hy]
          split
          · rename_i hge
            obtain ⟨b1, b2, b3⟩ := ih _ (List.mem_of_getElem? hy) (a2v l lv (left - 1) k) (lv - 1) (by omega)
            refine ⟨by omega, b2, fun h => ?_⟩
            have c1 := b3 h; have c2 := a3 hge
            rw [List.take_add_one, hy]
            simp only [Option.toList_some, List.map_append, List.map_cons, List.map_nil, List.sum_append, List.sum_cons, List.sum_nil]
            omega
          · exact ⟨a1, a2, fun h => by omega⟩
      obtain ⟨b1, b2, b3⟩ := key l.length (Nat.le_refl _)
      refine ⟨by omega, b2, fun h => ?_⟩
      have := b3 h
      rw [List.take_length] at this
      rw [Tr.size_mk]
      omega
noncomputable def nmd (t : VT) : Bool := Tr.fold (fun x l bs => decide (40 < x.s.size) || bs.any id) t
def c3c (f : VT → Bool) (l : List VT) (k : Nat) : Bool := (l.take k).any f
theorem b6s (f : VT → Bool) (l : List VT) : c3c f l 0 = false := by simp [c3c]
theorem b6r {f : VT → Bool} {l : List VT} {k : Nat} {y : VT} (h : l[k]? = some y) : c3c f l (k + 1) = (c3c f l k || f y) := by
  unfold c3c
  rw [List.take_add_one, h]; simp
theorem c05 (f : VT → Bool) (l : List VT) : c3c f l l.length = l.any f := by unfold c3c; rw [List.take_length]
theorem any_of {f : VT → Bool} {l : List VT} {k : Nat} {y : VT} (h : l[k]? = some y) (hf : f y = true) : l.any f = true := List.any_eq_true.2 ⟨y, List.mem_of_getElem? h, hf⟩
theorem nmd_mk (x : Lab) (l : List VT) : nmd (.mk x l) = (decide (40 < x.s.size) || l.any nmd) := by
  unfold nmd
  rw [Tr.fold_mk, List.any_map]
  rfl
noncomputable def b4t (t : VT) : Bool := decide (b5w t 400 70 < 0) || nmd t
theorem b4u {t : VT} (h : b4t t = false) : t.size ≤ 400 := by
  unfold b4t at h
  rw [Bool.or_eq_false_iff] at h
  have h1 : ¬ b5w t 400 70 < 0 := by simpa using h.1
  have := (b2d t 400 70 (by omega)).2.2 (by omega)
  omega
theorem pig : ∀ (n : Nat) (l : List Int), l.Nodup → (∀ x ∈ l, 0 ≤ x ∧ x < n) → l.length ≤ n
  | 0, l, _, h => by
    cases l with
    | nil => simp
    | cons a l => have := h a (by simp); omega
  | n + 1, l, hn, h => by
    by_cases hm : (n : Int) ∈ l
    · have := pig n (l.erase n) (hn.erase _) (fun x hx => by
        have h1 := (hn.mem_erase_iff).1 hx
        have h2 := h x h1.2
        omega)
      rw [List.length_erase_of_mem hm] at this
      omega
    · have := pig n l hn (fun x hx => by
        have h2 := h x hx
        have : x ≠ n := fun e => hm (e ▸ hx)
        omega)
      omega
abbrev z0T : VT := .mk ⟨0, 0, ⟨#[]⟩, 0, 0⟩ []
def j1 (q : VT) : Bool := decide (q.lab.k = 34) && decide (q.kids.length = 1)
def a44 (d : VT) : Bool := decide (d.lab.k = 30) && !d.kids.isEmpty && d.kids.all j1
def b5h : List Int → Int → Int
  | [], s => s
  | n :: r, s => if n = 0 ∨ 64 < s + n then 0 else b5h r (s + n)
theorem b9i : ∀ {l : List Int} {s : Int}, (∀ n ∈ l, 0 ≤ n ∧ n ≤ 64) → 0 ≤ s → s ≤ 64 → 0 ≤ b5h l s ∧ b5h l s ≤ 64
  | [], s, _, h1, h2 => ⟨h1, h2⟩
  | n :: r, s, h, h1, h2 => by
    unfold b5h
    split
    · exact ⟨by omega, by omega⟩
    · rename_i hn
      have := h n (by simp)
      exact b9i (fun y hy => h y (by simp [hy])) (by omega) (by omega)
def wth (ml : List VT) : Nat → VT → List Int → Int
  | 0, _, _ => 0
  | f + 1, t, ins =>
    if (t.lab.k = 1 ∨ t.lab.k = 2) ∧ t.kids.length = 0 then 1
    else if t.lab.k = 3 ∧ t.kids.length = 1 ∧ 1 ≤ t.lab.n ∧ t.lab.n ≤ 16 then (if 64 < wth ml f (t.kids.getD 0 z0T) ins * t.lab.n then 0 else wth ml f (t.kids.getD 0 z0T) ins * t.lab.n)
    else if ¬ t.lab.k = 4 ∨ ¬ t.kids.length = 0 ∨ t.lab.n < 0 ∨ (ml.length : Int) ≤ t.lab.n then 0
    else if t.lab.n ∈ ins then 0
    else if a44 (ml.getD t.lab.n.toNat z0T) = true then b5h ((ml.getD t.lab.n.toNat z0T).kids.map fun q => wth ml f (q.kids.getD 0 z0T) (ins ++ [t.lab.n])) 0
    else 0
theorem b0b (ml : List VT) : ∀ (f : Nat) (t : VT) (ins : List Int), 0 ≤ wth ml f t ins ∧ wth ml f t ins ≤ 64
  | 0, _, _ => ⟨by unfold wth; omega, by unfold wth; omega⟩
  | f + 1, t, ins => by
    unfold wth
    split
    · exact ⟨by omega, by omega⟩
    · split
      · rename_i h
        have := b0b ml f (t.kids.getD 0 z0T) ins
        split
        · exact ⟨by omega, by omega⟩
        · exact ⟨Int.mul_nonneg this.1 (by omega), by omega⟩
      · split
        · exact ⟨by omega, by omega⟩
        · split
          · exact ⟨by omega, by omega⟩
          · split
            · refine b9i (fun n hn => ?_) (by omega) (by omega)
              obtain ⟨q, _, rfl⟩ := List.mem_map.1 hn
              exact b0b ml f _ _
            · exact ⟨by omega, by omega⟩
structure InsOk (ml : List VT) (ins : List Int) : Prop where
  nd : ins.Nodup
  rg : ∀ z ∈ ins, 0 ≤ z ∧ z < ml.length
theorem InsOk.nil (ml : List VT) : InsOk ml [] := ⟨by simp, fun z h => by simp at h⟩
theorem InsOk.add {ml : List VT} {ins : List Int} (h : InsOk ml ins) {z : Int} (h0 : 0 ≤ z) (h1 : z < ml.length) (hz : z ∉ ins) : InsOk ml (ins ++ [z]) ∧ ins.length + 1 ≤ ml.length := by
  have hk : InsOk ml (ins ++ [z]) := ⟨List.nodup_append.2 ⟨h.nd, by simp, fun a ha b hb => by simp at hb; subst hb; exact fun e => hz (e ▸ ha)⟩, fun y hy => by
    rcases List.mem_append.1 hy with hy | hy
    · exact h.rg y hy
    · simp at hy; subst hy; exact ⟨h0, h1⟩⟩
  refine ⟨hk, ?_⟩
  have := pig ml.length (ins ++ [z]) hk.nd hk.rg
  simpa using this
theorem a86 {n k S f a b : Nat} (h : (n - k) * S + a ≤ f + 1) (hk : k + 1 ≤ n) (hb : b < S) (ha : 0 < a) : (n - (k + 1)) * S + b ≤ f := by
  have e : n - k = (n - (k + 1)) + 1 := by omega
  rw [e, Nat.succ_mul] at h
  omega
end Go.Proofs.YtbbkmijkllgfaaaGreatDoor.vt
end
section
namespace Go.Proofs.YtbbkmijkllgfaaaGreatDoor.vt
open Go.Proofs.YtbbkmijkllgfaaaGreatDoor.am
set_option linter.unusedVariables false
noncomputable def z7 (m t : VT) : Int := wth m.kids (m.kids.length * m.size + t.size) t []
noncomputable def a3u (t : VT) : Bool := Tr.fold (fun x _ bs => !decide (x.k = 4) && bs.all id) t
theorem c5f (x : Lab) (l : List VT) : a3u (.mk x l) = (!decide (x.k = 4) && l.all a3u) := by
  unfold a3u; rw [Tr.fold_mk, List.all_map]; rfl
noncomputable def l3 (t : VT) : VT := Tr.fold (fun x _ bs => .mk ⟨x.k, x.n, ⟨#[]⟩, 0, 0⟩ bs) t
theorem o8 (x : Lab) (l : List VT) : l3 (.mk x l) = .mk ⟨x.k, x.n, ⟨#[]⟩, 0, 0⟩ (l.map l3) := Tr.fold_mk _ x l
theorem a2d (t : VT) : (l3 t).size = t.size := by
  induction t using Tr.ind with
  | h x l ih =>
  rw [o8, Tr.size_mk, Tr.size_mk, List.map_map]
  congr 2
  exact List.map_congr_left (fun y hy => ih y hy)
theorem c5v (t : VT) : m7 t → m7 (l3 t) := by
  induction t using Tr.ind with
  | h x l ih =>
  intro h
  obtain ⟨h1, h2⟩ := (Tr.all_mk _ x l).1 h
  rw [o8]
  refine (Tr.all_mk _ _ _).2 ⟨⟨h1.1, h1.2.1, by constructor <;> (dsimp only; omega), by constructor <;> (dsimp only; omega)⟩, fun y hy => ?_⟩
  obtain ⟨z, hz, rfl⟩ := List.mem_map.1 hy
  exact ih z hz (h2 z hz)
noncomputable def a3o (t : VT) : VT := Tr.fold (fun x l bs => if (x.k = 12 ∨ x.k = 13) ∧ 0 < l.length then bs.getD 0 (.mk x l) else .mk x l) t
theorem c2d (x : Lab) (l : List VT) : a3o (.mk x l) = if (x.k = 12 ∨ x.k = 13) ∧ 0 < l.length then (l.map a3o).getD 0 (.mk x l) else .mk x l := Tr.fold_mk _ x l
end Go.Proofs.YtbbkmijkllgfaaaGreatDoor.vt
namespace Go.Proofs.YtbbkmijkllgfaaaGreatDoor.vt
open Go.Proofs.YtbbkmijkllgfaaaGreatDoor.am
def isT (t : VT) (k : Int) : Bool := decide (t.lab.k = k) && decide (t.kids.length = 0)
def tyT (k : Int) : VT := .mk ⟨k, 0, ⟨#[]⟩, 0, 0⟩ []
def a0u (t : VT) : VT := if t.lab.k = 5 then tyT 1 else if t.lab.k = 6 then tyT 2 else z0T
def j7 (x : Lab) (n : Nat) : Bool :=
  if x.k = 5 ∨ x.k = 7 ∨ x.k = 8 ∨ x.k = 9 ∨ x.k = 18 then decide (n = 0)
  else if x.k = 6 then decide (n = 0) && (decide (x.n = 0) || decide (x.n = 1))
  else if x.k = 11 then decide (n = 1) && (decide (x.n = 1) || decide (x.n = 2))
  else if x.k = 10 then decide (n = 2) && decide (1 ≤ x.n) && decide (x.n ≤ 13)
  else if x.k = 13 then decide (n = 1)
  else if x.k = 12 then decide (n = 2)
  else if x.k = 14 ∨ x.k = 15 then decide (1 ≤ n)
  else decide (x.k = 16) || decide (x.k = 17)
end Go.Proofs.YtbbkmijkllgfaaaGreatDoor.vt
namespace Go.Proofs.YtbbkmijkllgfaaaGreatDoor.vt
open Go.Proofs.YtbbkmijkllgfaaaGreatDoor.am
def fldA (m : VT) (n : Int) : Option VT :=
  if n < 0 then none else
  match m.kids[n.toNat / 64]? with
  | none => none
  | some d => if d.lab.k = 30 then (match d.kids[n.toNat % 64]? with | none => none | some q => if j1 q = true then q.kids[0]? else none) else none
def a9y (op : Int) (a b : VT) : VT :=
  if ((op = 1 ∨ op = 2) ∧ (isT a 2 && isT b 2) = true) ∨ ((op = 3 ∨ op = 4) ∧ ((isT a 1 && isT b 1) = true ∨ (isT a 2 && isT b 2) = true)) then tyT 2
  else if (op = 5 ∨ op = 6 ∨ op = 7 ∨ op = 8) ∧ (isT a 1 && isT b 1) = true then tyT 2
  else if 9 ≤ op ∧ (isT a 1 && isT b 1) = true then tyT 1
  else z0T
end Go.Proofs.YtbbkmijkllgfaaaGreatDoor.vt
namespace Go.Proofs.YtbbkmijkllgfaaaGreatDoor.vt
open Go.Proofs.YtbbkmijkllgfaaaGreatDoor.am
def b2y (d : VT) (kind : Int) : Bool :=
  if kind = 31 then decide (d.kids.length = 1) && !decide ((a0u (d.kids.getD 0 z0T)).lab.k = 0)
  else if kind = 32 then decide (d.kids.length = 1)
  else if kind = 33 then decide (d.kids.length = 3)
  else a44 d
def a23 (m : VT) (n kind : Int) : Bool :=
  if n < 0 then false else
  match m.kids[n.toNat]? with
  | none => false
  | some d => decide (d.lab.k = kind) && b2y d kind
theorem c3k (t : VT) : (a0u t).lab.k = if t.lab.k = 5 then 1 else if t.lab.k = 6 then 2 else 0 := by
  unfold a0u tyT
  split
  · rfl
  · split
    · rfl
    · rfl
end Go.Proofs.YtbbkmijkllgfaaaGreatDoor.vt
end
section
namespace Go.Proofs.YtbbkmijkllgfaaaGreatDoor.vt
open Go.Proofs.YtbbkmijkllgfaaaGreatDoor.am
def b53 (m : VT) (n : Nat) (x : Lab) : Bool :=
  if x.k = 7 then decide (0 ≤ x.n) && decide (x.n < n)
  else if x.k = 8 then a23 m x.n 31
  else if x.k = 9 then a23 m x.n 32
  else if x.k = 15 then a23 m x.n 30
  else if x.k = 16 then a23 m x.n 33
  else !decide (x.k = 17)
end Go.Proofs.YtbbkmijkllgfaaaGreatDoor.vt
namespace Go.Proofs.YtbbkmijkllgfaaaGreatDoor.vt
open Go.Proofs.YtbbkmijkllgfaaaGreatDoor.am
noncomputable def u9 (t : VT) : VT := Tr.fold (fun x _ bs => .mk ⟨x.k, x.n, x.s, 0, 0⟩ bs) t
theorem a1p (x : Lab) (l : List VT) : u9 (.mk x l) = .mk ⟨x.k, x.n, x.s, 0, 0⟩ (l.map u9) := Tr.fold_mk _ x l
theorem a13 (t : VT) : (u9 t).size = t.size := by
  induction t using Tr.ind with
  | h x l ih =>
  rw [a1p, Tr.size_mk, Tr.size_mk, List.map_map]
  congr 2
  exact List.map_congr_left (fun y hy => ih y hy)
theorem b6z (t : VT) : m7 t → m7 (u9 t) := by
  induction t using Tr.ind with
  | h x l ih =>
  intro h
  obtain ⟨h1, h2⟩ := (Tr.all_mk _ x l).1 h
  rw [a1p]
  refine (Tr.all_mk _ _ _).2 ⟨⟨h1.1, h1.2.1, by constructor <;> (dsimp only; omega), by constructor <;> (dsimp only; omega)⟩, fun y hy => ?_⟩
  obtain ⟨z, hz, rfl⟩ := List.mem_map.1 hy
  exact ih z hz (h2 z hz)
end Go.Proofs.YtbbkmijkllgfaaaGreatDoor.vt
end
section
namespace Go.Proofs.YtbbkmijkllgfaaaGreatDoor.am
open Go.ChangeShapes Go.WideShapes Go.ChangeAt Go.RowKit
set_option linter.unusedVariables false
set_option linter.unusedSimpArgs false
theorem cg {P : Program} {N f : Nat} {dst : Option Nat} {first caps : List Cap} {args cargs : List AV} {ch : List AO} {ch' : List (Option AO)} {res : AV} {st : St} {K : St → Prop} (hrow : Row P f cargs ch res ch') (σ : List Nat) (hk : K ((st.wr (wrs (a0b σ ch.length st.nx) 0 ch') 8).put dst (res.ren (a0b σ ch.length st.nx)))) (hfit : y9 ch.length (fun i => σ.getD i 0) cargs (first.map a1l ++ args ++ caps.map a1l) := by first | (simp [*]; done) | fail) (ho : a3e (hlk st.hp) ch.length (fun i => σ.getD i 0) (ch.map some) σ := by first | (simp [*]; done) | fail) (hnd : σ.Nodup := by first | decide | (simp; done) | fail) (hl : ch'.length ≤ ch.length + 8 := by first | decide | (simp; done) | fail) (hl' : ch.length ≤ ch'.length := by first | decide | (simp; done) | fail) (hd : dok N dst = true := by rfl) :
    a32 P N dst (.v (.c (.fn (.func f) first caps))) args st K := ⟨f, first, caps, cargs, ch, res, ch', σ, rfl, hrow, hfit, ho, hnd, hl, hl', hd, hk⟩
theorem dg {P : Program} {N f : Nat} {dst : Option Nat} {first caps : List Cap} {args cargs : List AV} {ch : List AO} {ch' : List (Option AO)} {res : AV} {st : St} {K : List Nat → List Nat → St → Prop} (hrow : Row P f cargs ch res ch') (σ : List Nat) (hk : K σ ((wrs (a0b σ ch.length st.nx) 0 ch').map (·.1)) ((st.wr (wrs (a0b σ ch.length st.nx) 0 ch') 8).put dst (res.ren (a0b σ ch.length st.nx)))) (hfit : y9 ch.length (fun i => σ.getD i 0) cargs (first.map a1l ++ args ++ caps.map a1l) := by first | (simp [*]; done) | fail) (ho : a3e (hlk st.hp) ch.length (fun i => σ.getD i 0) (ch.map some) σ := by first | (simp [*]; done) | fail) (hnd : σ.Nodup := by first | decide | (simp; done) | fail) (hl : ch'.length ≤ ch.length + 8 := by first | decide | (simp; done) | fail) (hl' : ch.length ≤ ch'.length := by first | decide | (simp; done) | fail) (hd : dok N dst = true := by rfl) :
    a31 P N dst (.v (.c (.fn (.func f) first caps))) args st K := ⟨f, first, caps, cargs, ch, res, ch', σ, rfl, hrow, hfit, ho, hnd, hl, hl', hd, hk⟩
attribute [simp] wrs a0b AC.ren AT.ren AV.ren AO.ren Cap.ren
def m9 (P : Program) (rs : List ResultVar) (res : AV) (ch' : List (Option AO)) (r : List Nat) (st : St) : Prop :=
  match f6 P st rs with
  | some x => c0d ch'.length (fun i => r.getD i 0) res x ∧ a3e (hlk st.hp) ch'.length (fun i => r.getD i 0) ch' r
  | none => False
theorem j0 {P : Program} {nb : Nat} {rs : List ResultVar} {res : AV} {ch' : List (Option AO)} {st : St} (r : List Nat) (h : m9 P rs res ch' r st) (hnd : r.Nodup := by first | decide | (simp; done)) (ht : r.take nb = List.range nb := by rfl) (hl : nb ≤ ch'.length := by first | decide | (simp; done)) : Fin P nb rs res ch' .ret st := by
  unfold m9 at h
  split at h
  · rename_i x hx; exact ⟨x, r, hx, h.1, h.2, hnd, ht, hl⟩
  · exact h.elim
section
variable {X : Ctx} {H : Nat → Option AO} {U : Nat → Prop} {γ : Nat → G} {S : CS} {w : World}
theorem Mem.nilarr (h : Mem X H U γ S w) {nm : Nat} (hn : U nm) (e : TypeId) (es : Nat) : Mem X (upd H nm (some (.arr e es []))) (fun x => U x ∧ x ≠ nm) (upd γ nm (.val (.slice none 0 0))) S w := by
  have m := h.nilrow hn e es
  refine { m with off := fun x hx => ?_, obj := fun x o hx => ?_ }
  · by_cases h1 : x = nm
    · subst h1; rw [f8] at hx; cases hx
    · rw [i6 _ _ h1] at hx; exact m.off x (by rw [i6 _ _ h1]; exact hx)
  · by_cases h1 : x = nm
    · subst h1; rw [f8] at hx; cases hx
      exact ⟨_, [], f8 _ _ _, World.ownsRow_nil w 0 e es, fun i e j p h => by simp at h, fun e h => by simp at h, fun b hb => by cases hb⟩
    · rw [i6 _ _ h1] at hx; exact m.obj x o (by rw [i6 _ _ h1]; exact hx)
theorem b1f {γ' : Nat → G} {v : Value} {nm es : Nat} (h : j5 γ S w v (.v (.c (.pv .nilS)))) (hg : γ' nm = .val (.slice none 0 0)) : a2m γ' S w v (.arr nm es 0) := by
  obtain rfl := u7 h
  exact ⟨⟨none, 0, rfl⟩, .inr hg⟩
def AC.frz (id : Nat) (p : PV) : AC → AC
  | .arr i es n => if i = id then .pv p else .arr i es n
  | .vw i es lo n => if i = id then (match p with | .sl es' l => if es' = es ∧ lo + n ≤ l.length ∧ (lo = 0 ∨ 0 < n) then .pv (.sl es ((l.drop lo).take n)) else .top | _ => .top) else .vw i es lo n
  | c => c
def AT.frz (id : Nat) (p : PV) : AT → AT
  | .c x => .c (x.frz id p)
  | .agg l => .agg (l.map (AC.frz id p))
def AV.frz (id : Nat) (p : PV) : AV → AV
  | .v x => .v (x.frz id p)
  | .ep i es k o => if i = id then .top else .ep i es k o
  | .tup l => .tup (l.map (AT.frz id p))
  | x => x
def AO.frz (id : Nat) (p : PV) : AO → AO
  | .box l => .box (l.map (AC.frz id p))
  | o => o
theorem a2m.frz {γ' : Nat → G} {id : Nat} {p : PV} {v0 : Value} (hg : γ id = .val v0) (hp : RepP S w v0 p) (hγ : γ' = upd γ id .dead) (hG : GOn γ γ') {v : Value} {c : AC} (h : a2m γ S w v c) : a2m γ' S w v (c.frz id p) := by
  have hm : ∀ {c}, a2m γ S w v c → a2m γ' S w v c := fun h => h.mono hG (fun _ _ h => h) (fun _ _ _ => rfl)
  cases c with
  | arr i es n =>
    show a2m γ' S w v (if i = id then .pv p else .arr i es n)
    by_cases hi : i = id
    · rw [if_pos hi]
      subst hi
      rcases h.2 with k | k
      · rw [hg] at k; cases k
      · rw [hg] at k; cases k; exact hp
    · rw [if_neg hi]; exact hm h
  | vw i es lo n =>
    have h1 := h.one
    by_cases hi : i = id
    · subst hi
      unfold AC.frz
      dsimp only
      rw [if_pos rfl]
      split
      · rename_i es' l
        split
        · rename_i hc
          obtain ⟨rfl, hc, hd⟩ := hc
          obtain ⟨a, m, c, hx, a1, hl1, hl2, ha1, rfl⟩ := h
          rcases hx with k | k
          · rw [hg] at k; cases k
          rw [hg] at k; cases k
          obtain ⟨a2, c2, e2, hs⟩ := a1n hp
          injection e2 with q1 q2 q3
          subst q1 q2 q3
          have hln : ((l.drop lo).take n).length = n := by rw [List.length_take, List.length_drop]; omega
          have key := hs.part lo (lo + n) c (by omega) (by omega) (Nat.le_refl _) (by omega)
          have e3 : (l.take (lo + n)).drop lo = (l.drop lo).take n := by rw [List.drop_take]; congr 1; omega
          rw [e3] at key
          have key := a3y key
          rw [hln] at key
          rcases hd with hd | hd
          · subst hd
            have hz0 : ∀ z : Addr, z.add 0 = z := fun z => by unfold Addr.add; split <;> simp_all
            have e4 : a1 = a := by rw [ha1 (.inl rfl)]; cases a <;> simp [hz0]
            rw [e4]
            have e5 : (if c = 0 then a else a.map (·.add (0 * es'))) = a := by
              split
              · rfl
              · cases a <;> simp [hz0]
            rw [e5] at key
            exact key
          · rw [ha1 (.inr hd)]
            rw [if_neg (by omega)] at key
            exact key
        · exact h1
      · exact h1
    · unfold AC.frz
      dsimp only
      rw [if_neg hi]; exact hm h
  | _ => exact hm h
theorem l9.frz {γ' : Nat → G} {id : Nat} {p : PV} {v0 : Value} (hg : γ id = .val v0) (hp : RepP S w v0 p) (hγ : γ' = upd γ id .dead) (hG : GOn γ γ') {vs : List Value} {l : List AC} (h : l9 γ S w vs l) : l9 γ' S w vs (l.map (AC.frz id p)) := by
  refine ⟨by rw [List.length_map]; exact h.1, fun i c hi => ?_⟩
  obtain ⟨x, hx, rfl⟩ := a9a hi
  obtain ⟨v, h1, h2⟩ := h.2 i x hx
  exact ⟨v, h1, h2.frz hg hp hγ hG⟩
theorem a1k.frz {γ' : Nat → G} {id : Nat} {p : PV} {v0 : Value} (hg : γ id = .val v0) (hp : RepP S w v0 p) (hγ : γ' = upd γ id .dead) (hG : GOn γ γ') {v : Value} {c : AT} (h : a1k γ S w v c) : a1k γ' S w v (c.frz id p) := by
  cases c with
  | c x => exact a2m.frz hg hp hγ hG h
  | agg l => obtain ⟨cs, h1, h2⟩ := h; exact ⟨cs, h1, h2.frz hg hp hγ hG⟩
theorem j5.frz {γ' : Nat → G} {id : Nat} {p : PV} {v0 : Value} (hg : γ id = .val v0) (hp : RepP S w v0 p) (hγ : γ' = upd γ id .dead) (hG : GOn γ γ') {v : Value} {c : AV} (h : j5 γ S w v c) : j5 γ' S w v (c.frz id p) := by
  cases c with
  | v x => exact a1k.frz hg hp hγ hG h
  | tup l =>
    obtain ⟨cs, h1, h2⟩ := h
    refine ⟨cs, h1, by rw [List.length_map]; exact h2.1, fun i c hi => ?_⟩
    obtain ⟨x, hx, rfl⟩ := a9a hi
    obtain ⟨v, h3, h4⟩ := h2.2 i x hx
    exact ⟨v, h3, h4.frz hg hp hγ hG⟩
  | ep i es k o =>
    show j5 γ' S w v (if i = id then .top else .ep i es k o)
    by_cases hi : i = id
    · rw [if_pos hi]; trivial
    · rw [if_neg hi]; exact j5.mono hG (fun _ _ h => h) (fun _ _ _ => rfl) h
  | rp c o => exact h
  | top => trivial
theorem Mem.freeze (h : Mem X H U γ S w) {id : Nat} {e : TypeId} {es : Nat} {l : List (List PV)} (hH : H id = some (.arr e es l)) :
    ∃ (S' : CS) (v0 : Value), (∀ b o, S b o → S' b o) ∧ γ id = .val v0 ∧ RepP S' w v0 (.sl es l) ∧ Mem X (fun x => if x = id then none else (H x).map (AO.frz id (.sl es l))) U (upd γ id .dead) S' w := by
  obtain ⟨v0, xs, g1, g2, g3, g5, g4⟩ := h.obj _ _ hH
  have hG := GOn.kill g1
  have hown : ∀ b, v0.ownBlock = some b → (γ id).bk = some b := fun b hb => by rw [g1]; exact hb
  refine ⟨fun b o => S b o ∨ (v0.ownBlock = some b ∧ o < l.length * es), v0, fun _ _ h => .inl h, g1, ?_, ?_⟩
  · rcases g2.2 with ⟨k1, k2⟩ | ⟨g, cap, cur, k1, _, k3, k4, k5, k6, k7⟩
    · subst k1
      have : l = [] := List.length_eq_zero_iff.1 k2
      subst this
      exact .emp none 0 es (by decide) (fun _ => rfl)
    · subst k1
      refine y7 (xs := xs) g5 ((b6v g2 g3 g5).mono (fun _ _ h => .inl h) (fun _ _ _ => rfl)) k4 (by unfold maxLen at k5; omega) (fun k u hk => ?_)
      have hk1 : k < l.length * es := by have := (List.getElem?_eq_some_iff.1 hk).1; rw [g2.1] at this; exact this
      refine ⟨.inr ⟨rfl, hk1⟩, ?_⟩
      rw [r9 k3, ← hk, ← k7, List.getElem?_take, if_pos hk1]
  · have hmk := h.kill g1
    have hobk : ∀ b o, (S b o ∨ (v0.ownBlock = some b ∧ o < l.length * es)) → ∀ x, x ≠ id → (γ x).bk = some b → S b o := fun b o hs x hx hb => hs.elim (fun h => h) (fun hs => (h.dist x id hx b hb (hown b hs.1)).elim)
    have hvS : RepP (fun b o => S b o ∨ (v0.ownBlock = some b ∧ o < l.length * es)) w v0 (.sl es l) := by
      rcases g2.2 with ⟨k1, k2⟩ | ⟨g, cap, cur, k1, _, k3, k4, k5, k6, k7⟩
      · subst k1
        have : l = [] := List.length_eq_zero_iff.1 k2
        subst this
        exact .emp none 0 es (by decide) (fun _ => rfl)
      · subst k1
        refine y7 (xs := xs) g5 ((b6v g2 g3 g5).mono (fun _ _ h => .inl h) (fun _ _ _ => rfl)) k4 (by unfold maxLen at k5; omega) (fun k u hk => ?_)
        have hk1 : k < l.length * es := by have := (List.getElem?_eq_some_iff.1 hk).1; rw [g2.1] at this; exact this
        refine ⟨.inr ⟨rfl, hk1⟩, ?_⟩
        rw [r9 k3, ← hk, ← k7, List.getElem?_take, if_pos hk1]
    refine ⟨hmk.os, hmk.tape, hmk.output, hmk.size, hmk.frame, fun b o hs => ⟨.inl (h.keep b o hs).1, (h.keep b o hs).2⟩, fun b o hs => ?_, fun b o hs => ?_, hmk.mono, hmk.un, fun x hx => ?_, fun x o hx => ?_, hmk.dist, hmk.live⟩
    · rcases hs with hs | ⟨hs, _⟩
      · exact h.fresh b o hs
      · exact .inr (h.live id b (hown b hs)).2
    · rcases hs with hs | ⟨hs, _⟩
      · exact h.inb b o hs
      · exact (h.live id b (hown b hs)).1
    · by_cases hxi : x = id
      · subst hxi; exact .inr (f8 _ _ _)
      · rw [if_neg hxi] at hx
        rw [i6 _ _ hxi]
        exact h.off x (Option.map_eq_none_iff.1 hx)
    · by_cases hxi : x = id
      · rw [if_pos hxi] at hx; cases hx
      · rw [if_neg hxi] at hx
        obtain ⟨o0, ho0, rfl⟩ := Option.map_eq_some_iff.1 hx
        have hO : a1o (upd γ id .dead) (fun b o => S b o ∨ (v0.ownBlock = some b ∧ o < l.length * es)) w x o0 := a1o.on (h.obj x o0 ho0) (i6 _ _ hxi) hG (fun _ _ h => .inl h) (fun _ _ _ => rfl) (fun b hb => ⟨rfl, fun o hs => hobk b o hs x hxi hb⟩)
        cases o0 with
        | box cells =>
          obtain ⟨b, cs, t, k1, k2, k3, k4⟩ := h.obj x _ ho0
          refine ⟨b, cs, t, by rw [i6 _ _ hxi]; exact k1, k2, ?_, fun o hs => k4 o (hobk b o hs x hxi (by rw [k1]; rfl))⟩
          exact (k3.mono (GOn.refl _) (fun _ _ h => .inl h) (fun _ _ _ => rfl)).frz g1 hvS rfl hG
        | _ => exact hO
end
section
variable {P : Program} {N nb : Nat} {st : St} {Q : Exit → St → Prop}
def St.nilca (st : St) (id j : Nat) (cells : List AC) (e : TypeId) (es : Nat) : St := ⟨st.tm, (id, some (.box (cells.set j (.arr st.nx es 0)))) :: (st.nx, some (.arr e es [])) :: st.hp, st.nx + 1⟩
theorem a08 {c : Code} (id j : Nat) (cells : List AC) (e : TypeId) (es : Nat) (hid : hlk st.hp id = some (.box cells)) (hj : cells[j]? = some (.pv .nilS)) (hlt : id < st.nx) (h : AW P N nb c (st.nilca id j cells e es) Q) : AW P N nb c st Q := by
  refine a5v (fun X hX a w hr => ?_) h
  obtain ⟨h1, h2, γ, S, hm, ha⟩ := hr
  have hG := GOn.upd_un (hm.un st.nx (Nat.le_refl _)) (.val (.slice none 0 0))
  refine ⟨h1, h2, upd γ st.nx (.val (.slice none 0 0)), S, ?_, fun s => (ha s).mono hG (fun _ _ h => h) (fun _ _ _ => rfl)⟩
  have m := hm.nilarr (nm := st.nx) (Nat.le_refl _) e es
  show Mem X (hlk ((id, some (.box (cells.set j (.arr st.nx es 0)))) :: (st.nx, some (.arr e es [])) :: st.hp)) _ _ _ _
  rw [y2, y2]
  have hne : id ≠ st.nx := by omega
  have hid' : upd (hlk st.hp) st.nx (some (.arr e es [])) id = some (.box cells) := by rw [i6 _ _ hne]; exact hid
  refine { m with un := fun x hx => m.un x ⟨by have : st.nx + 1 ≤ x := hx
                                               omega, by have : st.nx + 1 ≤ x := hx
                                                         omega⟩, off := fun x hx => ?_, obj := fun x o hx => ?_ }
  · by_cases hxi : x = id
    · subst hxi; rw [f8] at hx; cases hx
    · rw [i6 _ _ hxi] at hx; exact m.off x hx
  · by_cases hxi : x = id
    · subst hxi
      rw [f8] at hx; cases hx
      obtain ⟨b, cs, t, k1, k2, k3, k4⟩ := m.obj x _ hid'
      refine ⟨b, cs, t, k1, k2, ⟨by rw [List.length_set]; exact k3.1, fun i ac hi => ?_⟩, k4⟩
      rw [List.getElem?_set] at hi
      split at hi
      · rename_i hij
        split at hi
        · cases hi
          subst hij
          obtain ⟨v, g1, g2⟩ := k3.2 j _ hj
          exact ⟨v, g1, b1f (γ := upd γ st.nx (.val (.slice none 0 0))) g2 (f8 _ _ _)⟩
        · cases hi
      · exact k3.2 i ac hi
    · rw [i6 _ _ hxi] at hx; exact m.obj x o hx
def St.frz (st : St) (id es : Nat) (l : List (List PV)) : St := ⟨st.tm.map fun p => (p.1, p.2.frz id (.sl es l)), st.hp.map fun p => (p.1, if p.1 = id then none else p.2.map (AO.frz id (.sl es l))), st.nx⟩
theorem c3l (f : AV → AV) (hf : f .top = .top) : ∀ (l : List (Nat × AV)) (t : Nat), lk (l.map fun p => (p.1, f p.2)) t = f (lk l t)
  | [], t => hf.symm
  | p :: l, t => by
    unfold lk
    rw [List.map_cons]
    dsimp only
    split
    · rfl
    · exact c3l f hf l t
theorem b72 (f : Nat → Option AO → Option AO) (hf : ∀ x, f x none = none) : ∀ (l : List (Nat × Option AO)) (t : Nat), hlk (l.map fun p => (p.1, f p.1 p.2)) t = f t (hlk l t)
  | [], t => (hf t).symm
  | p :: l, t => by
    unfold hlk
    rw [List.map_cons]
    dsimp only
    split
    · rename_i h; rw [h]
    · exact b72 f hf l t
theorem b16 {c : Code} (id : Nat) (e : TypeId) (es : Nat) (l : List (List PV)) (hid : hlk st.hp id = some (.arr e es l)) (h : AW P N nb c (st.frz id es l) Q) : AW P N nb c st Q := by
  refine a5v (fun X hX a w hr => ?_) h
  obtain ⟨h1, h2, γ, S, hm, ha⟩ := hr
  obtain ⟨S', v0, hS, hg, hp, m⟩ := hm.freeze hid
  refine ⟨h1, h2, upd γ id .dead, S', ?_, fun s => ?_⟩
  · show Mem X (hlk (st.hp.map fun p => (p.1, if p.1 = id then none else p.2.map (AO.frz id (.sl es l))))) _ _ _ _
    have e1 : hlk (st.hp.map fun p => (p.1, if p.1 = id then none else p.2.map (AO.frz id (.sl es l)))) = fun x => if x = id then none else (hlk st.hp x).map (AO.frz id (.sl es l)) := by
      funext x
      exact b72 (fun x o => if x = id then none else o.map (AO.frz id (.sl es l))) (fun x => by split <;> rfl) st.hp x
    rw [e1]; exact m
  · show j5 _ S' w _ (lk (st.tm.map fun p => (p.1, p.2.frz id (.sl es l))) s)
    rw [c3l (AV.frz id (.sl es l)) rfl]
    exact ((ha s).mono (GOn.refl _) hS (fun _ _ _ => rfl)).frz hg hp rfl (GOn.kill hg)
end
end Go.Proofs.YtbbkmijkllgfaaaGreatDoor.am
end
section
namespace Go.Proofs.YtbbkmijkllgfaaaGreatDoor.am
open vt
theorem td_term : td Tryz.prog 24 = some ⟨true, 6, 72, [.lit (.int .i64 0), .lit (.int .i64 0), .lit (.string ⟨#[]⟩), .nilS, .lit (.int .i64 0), .lit (.int .i64 0)], [(0, 1, false), (1, 1, false), (2, 1, false), (3, 1, false), (4, 1, false), (5, 1, false)], .struct⟩ := Eq.trans (by kernel_rfl) (Eq.refl _)
theorem td_terms : td Tryz.prog 22 = some ⟨false, 1, 24, [.nilS], [], (.slice 24)⟩ := Eq.trans (by kernel_rfl) (Eq.refl _)
theorem td_int : td Tryz.prog 3 = some ⟨false, 1, 8, [.lit (.int .i64 0)], [], (.int .i64)⟩ := Eq.trans (by kernel_rfl) (Eq.refl _)
theorem td_int64 : td Tryz.prog 2 = some ⟨false, 1, 8, [.lit (.int .i64 0)], [], (.int .i64)⟩ := Eq.trans (by kernel_rfl) (Eq.refl _)
theorem td_bool : td Tryz.prog 4 = some ⟨false, 1, 1, [.lit (.bool false)], [], .bool⟩ := Eq.trans (by kernel_rfl) (Eq.refl _)
theorem td_string : td Tryz.prog 9 = some ⟨false, 1, 16, [.lit (.string ⟨#[]⟩)], [], .string⟩ := Eq.trans (by kernel_rfl) (Eq.refl _)
attribute [simp] td_term td_terms td_int td_int64 td_bool td_string
theorem e9 : Tryz.prog.follows .mixedOrders = true := by kernel_rfl
end Go.Proofs.YtbbkmijkllgfaaaGreatDoor.am
end
section
namespace Go.Proofs.YtbbkmijkllgfaaaGreatDoor.am
open Go.ChangeShapes Go.WideShapes Go.ChangeAt Go.RowKit
open vt
set_option linter.unusedVariables false
set_option linter.unusedSimpArgs false
theorem td_ints : td Tryz.prog 25 = some ⟨false, 1, 24, [.nilS], [], (.slice 3)⟩ := Eq.trans (by kernel_rfl) (Eq.refl _)
attribute [simp] td_ints
abbrev Is (l : List Int) : PV := .sl 1 (l.map fun z => [I z])
abbrev vIs (l : List Int) : AV := .v (.c (.pv (Is l)))
def ok64 (l : List Int) : Prop := ∀ z ∈ l, -9223372036854775808 ≤ z ∧ z ≤ 9223372036854775807
theorem lab_ok {x : Lab} {l : List VT} (h : m7 (.mk x l)) : x.ok := ((Tr.all_mk _ x l).1 h).1
theorem b25 {x : Lab} {l : List VT} (h : m7 (.mk x l)) {y : VT} (hy : y ∈ l) : m7 y := ((Tr.all_mk _ x l).1 h).2 y hy
end Go.Proofs.YtbbkmijkllgfaaaGreatDoor.am
end
section
namespace Go.Proofs.YtbbkmijkllgfaaaGreatDoor.am
open Go.ChangeShapes Go.WideShapes Go.ChangeAt Go.RowKit
set_option linter.unusedVariables false
end Go.Proofs.YtbbkmijkllgfaaaGreatDoor.am
end
section
namespace Go.Proofs.YtbbkmijkllgfaaaGreatDoor.am
open Go.ChangeShapes Go.WideShapes Go.ChangeAt Go.RowKit
open vt
set_option linter.unusedVariables false
set_option linter.unusedSimpArgs false
theorem a88 (t : VT) : t.size ≤ 1000000 → Row Tryz.prog 33 [vT t] [] (vT (l3 t)) [] := by
  induction t using Tr.ind with
  | h x l ih =>
  intro hsz
  have hlen := Tr.len_size (x := x) (l := l)
  rw [o8]
  refine d7 Tryz.func33 rfl rfl (Nat.le_of_ble_eq_true rfl) ?_
  repeat (first | refine b9 ?_ | refine b6 ?_ | refine a6 ?_ | refine b5 ?_ | refine d8 rfl (fun _ => ?_) (fun hb => absurd hb (by decide)) | refine d8 rfl (fun hb => absurd hb (by decide)) (fun _ => ?_) | (refine b8 (fun K hK => ?_); simp -implicitDefEqProofs; refine hK _ ?_) | (refine d3 e9 (fun K hK => ?_); simp -implicitDefEqProofs; refine hK _ _ (by rfl) ?_) | fail)
  refine a2r 7 3 [.pv (I x.k), .pv (I x.n), .pv (Sx ⟨#[]⟩), .pv .nilS, .pv (I 0), .pv (I 0)] 24 6 (by simp) (by simp) (by simp) ?_
  simp [St.nilc]
  refine m6 (ι := Nat) (fun k => x5 [(1, .v (.c (.ptr 0 0))), (2, .v (.c (.ptr 1 0))), (3, .v (.c (.ptr 2 0))), (12, vLs l), (13, vI (l.length : Nat)), (14, vI (k : Nat))] [some (.box (ta (.mk x l))), some (.box (ta (.mk ⟨0, 0, ⟨#[]⟩, 0, 0⟩ []))), some (.box [.pv (I x.k), .pv (I x.n), .pv (Sx ⟨#[]⟩), .row 3 6 (((l.take k).map l3).map tc), .pv (I 0), .pv (I 0)]), some (.row 24 6)]) (fun k => k ≤ l.length) (fun k => l.length - k) 0 (Nat.zero_le _) (e8 [0, 1, 7, 13] (by simp -implicitDefEqProofs) (by simp -implicitDefEqProofs) (by decide) rfl (by simp)) (fun Z hI k hk => ?_)
  by_cases hkl : k < l.length; rotate_left
  · have : k = l.length := by omega
    subst this
    rw [List.take_length]
    repeat (first | refine b9 ?_ | refine b6 ?_ | refine a6 ?_ | refine b5 ?_ | refine d8 rfl (fun _ => ?_) (fun hb => absurd hb (by decide)) | refine d8 rfl (fun hb => absurd hb (by decide)) (fun _ => ?_) | (refine b8 (fun K hK => ?_); simp -implicitDefEqProofs; refine hK _ ?_) | (refine d3 e9 (fun K hK => ?_); simp -implicitDefEqProofs; refine hK _ _ (by rfl) ?_) | fail)
    refine d6 (d4 ?_); simp -implicitDefEqProofs [f9, f6, f7] <;> try rfl
  obtain ⟨⟨ax, al⟩, ha⟩ : ∃ a, l[k]? = some a := ⟨_, List.getElem?_eq_getElem hkl⟩
  have ha' := (List.getElem?_eq_some_iff.1 ha).2
  have hsz1 := Tr.size_at (x := x) ha
  have hc := ih _ (List.mem_of_getElem? ha) (by omega)
  have w2 : IntKind.i64.wrap ((k : Nat) + 1 : Int) = (k : Nat) + 1 := l4 _ (by omega) (by omega)
  have hs : (l.take (k + 1)).map l3 = (l.take k).map l3 ++ [l3 (.mk ax al)] := by rw [List.take_add_one, ha]; simp
  obtain ⟨L, hL⟩ : ∃ L, (l.take k).map l3 = L := ⟨_, rfl⟩
  have hLl : L.length = k := by rw [← hL, List.length_map, List.length_take]; omega
  rw [hL] at hs ⊢
  obtain ⟨⟨bx, bl⟩, hb⟩ : ∃ b, l3 (.mk ax al) = b := ⟨_, rfl⟩
  rw [hb] at hc hs
  have b1 : (k + 1) * 72 ≤ 140737488355328 := by omega
  have b2 : k + 1 ≤ 140737488355328 := by omega
  repeat' (first | refine b9 ?_ | refine b6 ?_ | refine a6 ?_ | refine b5 ?_ | refine d8 rfl (fun _ => ?_) (fun hb => absurd hb (by decide)) | refine d8 rfl (fun hb => absurd hb (by decide)) (fun _ => ?_) | (refine b8 (fun K hK => ?_); simp -implicitDefEqProofs [hkl, ha, ha', hLl, b1, b2, w2]) | (refine d3 e9 (fun K hK => ?_); simp -implicitDefEqProofs [hkl, ha, ha', hLl, b1, b2, w2]) | refine hK _ ?_ | refine hK _ _ (by rfl) ?_ | (refine b7 (cp hc ?_); simp -implicitDefEqProofs [hkl, ha, ha', hLl, b1, b2, w2]) | (refine a8 (dp hc ?_); simp -implicitDefEqProofs [hkl, ha, ha', hLl, b1, b2, w2]) | fail)
  refine ⟨k + 1, by omega, (by dsimp only; omega), ?_⟩
  rw [hI, hs]; exact e8 [0, 1, 2, 49] (by simp -implicitDefEqProofs) (by simp -implicitDefEqProofs) (by decide) rfl (by simp)
noncomputable def b5l (t : VT) : Bool := Tr.fold (fun x _ bs => (decide (x.f = 0) && decide (x.t = 0)) && bs.all id) t
theorem b9z (x : Lab) (l : List VT) : b5l (.mk x l) = ((decide (x.f = 0) && decide (x.t = 0)) && l.all b5l) := by
  unfold b5l; rw [Tr.fold_mk, List.all_map]; rfl
theorem c1m (t : VT) : t.size ≤ 1000000 → Row Tryz.prog 29 [vT t] [] (vB (b5l t)) [] := by
  induction t using Tr.ind with
  | h x l ih =>
  intro hsz
  have hlen := Tr.len_size (x := x) (l := l)
  rw [b9z]
  by_cases hf : x.f = 0; rotate_left
  · rw [show ((decide (x.f = 0) && decide (x.t = 0)) && l.all b5l) = false by simp [hf]]
    clear ih
    refine d7 Tryz.func29 rfl rfl (Nat.le_of_ble_eq_true rfl) ?_
    repeat (first | refine b9 ?_ | refine b6 ?_ | refine a6 ?_ | refine b5 ?_ | refine d8 rfl (fun _ => ?_) (fun hb => absurd hb (by decide)) | refine d8 rfl (fun hb => absurd hb (by decide)) (fun _ => ?_) | (refine b8 (fun K hK => ?_); simp -implicitDefEqProofs [hf]; refine hK _ ?_) | (refine d3 e9 (fun K hK => ?_); simp -implicitDefEqProofs [hf]; refine hK _ _ (by rfl) ?_) | fail)
    refine d6 (d4 ?_); simp -implicitDefEqProofs [f9, f6, f7] <;> try rfl
  by_cases ht : x.t = 0; rotate_left
  · rw [show ((decide (x.f = 0) && decide (x.t = 0)) && l.all b5l) = false by simp [ht]]
    clear ih
    refine d7 Tryz.func29 rfl rfl (Nat.le_of_ble_eq_true rfl) ?_
    repeat (first | refine b9 ?_ | refine b6 ?_ | refine a6 ?_ | refine b5 ?_ | refine d8 rfl (fun _ => ?_) (fun hb => absurd hb (by decide)) | refine d8 rfl (fun hb => absurd hb (by decide)) (fun _ => ?_) | (refine b8 (fun K hK => ?_); simp -implicitDefEqProofs [hf, ht]; refine hK _ ?_) | (refine d3 e9 (fun K hK => ?_); simp -implicitDefEqProofs [hf, ht]; refine hK _ _ (by rfl) ?_) | fail)
    refine d6 (d4 ?_); simp -implicitDefEqProofs [f9, f6, f7] <;> try rfl
  rw [show ((decide (x.f = 0) && decide (x.t = 0)) && l.all b5l) = l.all b5l by simp [hf, ht]]
  refine d7 Tryz.func29 rfl rfl (Nat.le_of_ble_eq_true rfl) ?_
  repeat (first | refine b9 ?_ | refine b6 ?_ | refine a6 ?_ | refine b5 ?_ | refine d8 rfl (fun _ => ?_) (fun hb => absurd hb (by decide)) | refine d8 rfl (fun hb => absurd hb (by decide)) (fun _ => ?_) | (refine b8 (fun K hK => ?_); simp -implicitDefEqProofs [hf, ht]; refine hK _ ?_) | (refine d3 e9 (fun K hK => ?_); simp -implicitDefEqProofs [hf, ht]; refine hK _ _ (by rfl) ?_) | fail)
  refine m6 (ι := Nat) (fun k => x5 [(1, .v (.c (.ptr 0 0))), (14, vLs l), (15, vI (l.length : Nat)), (16, vI (k : Nat))] [some (.box (ta (.mk x l)))]) (fun k => k ≤ l.length ∧ (l.take k).all b5l = true) (fun k => l.length - k) 0 ⟨Nat.zero_le _, by simp⟩ (e8 [0] (by simp -implicitDefEqProofs [hf, ht]) (by simp -implicitDefEqProofs [hf, ht]) (by decide) rfl (by simp)) (fun Z hI k hk => ?_)
  obtain ⟨hk, hz⟩ := hk
  by_cases hkl : k < l.length; rotate_left
  · have : k = l.length := by omega
    subst this
    rw [List.take_length] at hz
    repeat (first | refine b9 ?_ | refine b6 ?_ | refine a6 ?_ | refine b5 ?_ | refine d8 rfl (fun _ => ?_) (fun hb => absurd hb (by decide)) | refine d8 rfl (fun hb => absurd hb (by decide)) (fun _ => ?_) | (refine b8 (fun K hK => ?_); simp -implicitDefEqProofs; refine hK _ ?_) | (refine d3 e9 (fun K hK => ?_); simp -implicitDefEqProofs; refine hK _ _ (by rfl) ?_) | fail)
    refine d6 (d4 ?_); simp -implicitDefEqProofs [f9, f6, f7, hz] <;> try rfl
  obtain ⟨⟨ax, al⟩, ha⟩ : ∃ a, l[k]? = some a := ⟨_, List.getElem?_eq_getElem hkl⟩
  have ha' := (List.getElem?_eq_some_iff.1 ha).2
  have hsz1 := Tr.size_at (x := x) ha
  have hc := ih _ (List.mem_of_getElem? ha) (by omega)
  have w2 : IntKind.i64.wrap ((k : Nat) + 1 : Int) = (k : Nat) + 1 := l4 _ (by omega) (by omega)
  by_cases hp : b5l (.mk ax al) = true
  · rw [hp] at hc
    repeat' (first | refine b9 ?_ | refine b6 ?_ | refine a6 ?_ | refine b5 ?_ | refine d8 rfl (fun _ => ?_) (fun hb => absurd hb (by decide)) | refine d8 rfl (fun hb => absurd hb (by decide)) (fun _ => ?_) | (refine b8 (fun K hK => ?_); simp -implicitDefEqProofs [hkl, ha, ha', w2]) | (refine d3 e9 (fun K hK => ?_); simp -implicitDefEqProofs [hkl, ha, ha', w2]) | refine hK _ ?_ | refine hK _ _ (by rfl) ?_ | (refine b7 (cp hc ?_); simp -implicitDefEqProofs [hkl, ha, ha', w2]) | (refine a8 (dp hc ?_); simp -implicitDefEqProofs [hkl, ha, ha', w2]) | fail)
    refine ⟨k + 1, ⟨by omega, by rw [List.take_add_one, ha, Option.toList_some, List.all_append, hz]; simp [hp]⟩, (by dsimp only; omega), ?_⟩
    rw [hI]; exact e8 [0] (by simp -implicitDefEqProofs) (by simp -implicitDefEqProofs) (by decide) rfl (by simp)
  · have hp : b5l (.mk ax al) = false := by simpa using hp
    rw [hp] at hc
    have e : l.all b5l = false := by
      rw [List.all_eq_false]; exact ⟨_, List.mem_of_getElem? ha, by rw [hp]; simp⟩
    repeat' (first | refine b9 ?_ | refine b6 ?_ | refine a6 ?_ | refine b5 ?_ | refine d8 rfl (fun _ => ?_) (fun hb => absurd hb (by decide)) | refine d8 rfl (fun hb => absurd hb (by decide)) (fun _ => ?_) | (refine b8 (fun K hK => ?_); simp -implicitDefEqProofs [hkl, ha, ha', w2]) | (refine d3 e9 (fun K hK => ?_); simp -implicitDefEqProofs [hkl, ha, ha', w2]) | refine hK _ ?_ | refine hK _ _ (by rfl) ?_ | (refine b7 (cp hc ?_); simp -implicitDefEqProofs [hkl, ha, ha', w2]) | (refine a8 (dp hc ?_); simp -implicitDefEqProofs [hkl, ha, ha', w2]) | fail)
    refine d6 (d4 ?_); simp -implicitDefEqProofs [f9, f6, f7, e] <;> try rfl
theorem a1w (d : VT) (hl : d.size ≤ 1000000) : Row Tryz.prog 36 [vT d] [] (vB (a44 d)) [] := by
  obtain ⟨x, l⟩ := d
  have hlen := Tr.len_size (x := x) (l := l)
  by_cases h30 : x.k = 30; rotate_left
  · rw [show a44 (.mk x l) = false by simp [a44, Tr.lab, h30]]
    refine d7 Tryz.func36 rfl rfl (Nat.le_of_ble_eq_true rfl) ?_
    repeat (first | refine b9 ?_ | refine b6 ?_ | refine a6 ?_ | refine b5 ?_ | refine e7 rfl ?_ | refine d9 rfl ?_ | ((first | refine b8 (fun K hK => ?_) | refine d3 e9 (fun K hK => ?_) | fail); simp -implicitDefEqProofs [h30]; first | refine hK _ ?_ | refine hK _ _ (by rfl) ?_ | fail) | fail)
    refine d6 (d4 ?_); simp -implicitDefEqProofs [f9, f6, f7] <;> try rfl
  by_cases h0 : l = []
  · subst h0
    rw [show a44 (.mk x []) = false by simp [a44, Tr.kids]]
    refine d7 Tryz.func36 rfl rfl (Nat.le_of_ble_eq_true rfl) ?_
    repeat (first | refine b9 ?_ | refine b6 ?_ | refine a6 ?_ | refine b5 ?_ | refine e7 rfl ?_ | refine d9 rfl ?_ | ((first | refine b8 (fun K hK => ?_) | refine d3 e9 (fun K hK => ?_) | fail); simp -implicitDefEqProofs [h30]; first | refine hK _ ?_ | refine hK _ _ (by rfl) ?_ | fail) | fail)
    refine d6 (d4 ?_); simp -implicitDefEqProofs [f9, f6, f7] <;> try rfl
  have hs : a44 (.mk x l) = l.all j1 := by
    have : l.isEmpty = false := by cases l <;> simp at h0 ⊢
    simp [a44, Tr.lab, Tr.kids, h30, this]
  have h0' : ¬ l.length = 0 := fun h => h0 (List.eq_nil_of_length_eq_zero h)
  have h0'' : ¬ (l.length : Int) = 0 := by omega
  rw [hs]
  clear hs
  refine d7 Tryz.func36 rfl rfl (Nat.le_of_ble_eq_true rfl) ?_
  repeat (first | refine b9 ?_ | refine b6 ?_ | refine a6 ?_ | refine b5 ?_ | refine e7 rfl ?_ | refine d9 rfl ?_ | ((first | refine b8 (fun K hK => ?_) | refine d3 e9 (fun K hK => ?_) | fail); simp -implicitDefEqProofs [h30, h0, h0', h0'']; first | refine hK _ ?_ | refine hK _ _ (by rfl) ?_ | fail) | fail)
  refine m6 (ι := Nat) (fun k => x5 [(1, .v (.c (.ptr 0 0))), (3, vI (k : Nat))] [some (.box (ta (.mk x l)))]) (fun k => k ≤ l.length ∧ (l.take k).all j1 = true) (fun k => l.length - k) 0 ⟨Nat.zero_le _, by simp⟩ (e8 [0] (by simp -implicitDefEqProofs [h30]) (by simp -implicitDefEqProofs [h30]) (by decide) rfl (by simp)) (fun Z hI k hk => ?_)
  obtain ⟨hk, hz⟩ := hk
  by_cases hkl : k < l.length; rotate_left
  · have : k = l.length := by omega
    subst this
    rw [List.take_length] at hz
    repeat (first | refine b9 ?_ | refine b6 ?_ | refine a6 ?_ | refine b5 ?_ | refine e7 rfl ?_ | refine d9 rfl ?_ | ((first | refine b8 (fun K hK => ?_) | refine d3 e9 (fun K hK => ?_) | fail); simp -implicitDefEqProofs; first | refine hK _ ?_ | refine hK _ _ (by rfl) ?_ | fail) | fail)
    refine d6 (d4 ?_); simp -implicitDefEqProofs [f9, f6, f7, hz] <;> try rfl
  obtain ⟨⟨ax, al⟩, ha⟩ : ∃ a, l[k]? = some a := ⟨_, List.getElem?_eq_getElem hkl⟩
  have ha' := (List.getElem?_eq_some_iff.1 ha).2
  have hsz1 := Tr.size_at (x := x) ha
  have w2 : IntKind.i64.wrap ((k : Nat) + 1 : Int) = (k : Nat) + 1 := l4 _ (by omega) (by omega)
  by_cases h34 : ax.k = 34
  · by_cases h1 : al.length = 1
    · have h1' : (al.length : Int) = 1 := by omega
      have hp : j1 (.mk ax al) = true := by simp [j1, Tr.lab, Tr.kids, h34, h1]
      repeat (first | refine b9 ?_ | refine b6 ?_ | refine a6 ?_ | refine b5 ?_ | refine e7 rfl ?_ | refine d9 rfl ?_ | ((first | refine b8 (fun K hK => ?_) | refine d3 e9 (fun K hK => ?_) | fail); simp -implicitDefEqProofs [hkl, ha, ha', h34, h1, h1', w2]; first | refine hK _ ?_ | refine hK _ _ (by rfl) ?_ | fail) | fail)
      refine ⟨k + 1, ⟨by omega, by rw [List.take_add_one, ha, Option.toList_some, List.all_append, hz]; simp [hp]⟩, (by dsimp only; omega), ?_⟩
      rw [hI]; exact e8 [0] (by simp -implicitDefEqProofs) (by simp -implicitDefEqProofs) (by decide) rfl (by simp)
    · have h1' : ¬ (al.length : Int) = 1 := by omega
      have hp : j1 (.mk ax al) = false := by simp [j1, Tr.lab, Tr.kids, h34, h1]
      have e : l.all j1 = false := by rw [List.all_eq_false]; exact ⟨_, List.mem_of_getElem? ha, by rw [hp]; simp⟩
      repeat (first | refine b9 ?_ | refine b6 ?_ | refine a6 ?_ | refine b5 ?_ | refine e7 rfl ?_ | refine d9 rfl ?_ | ((first | refine b8 (fun K hK => ?_) | refine d3 e9 (fun K hK => ?_) | fail); simp -implicitDefEqProofs [hkl, ha, ha', h34, h1, h1']; first | refine hK _ ?_ | refine hK _ _ (by rfl) ?_ | fail) | fail)
      refine d6 (d4 ?_); simp -implicitDefEqProofs [f9, f6, f7, e] <;> try rfl
  · have hp : j1 (.mk ax al) = false := by simp [j1, Tr.lab, Tr.kids, h34]
    have e : l.all j1 = false := by rw [List.all_eq_false]; exact ⟨_, List.mem_of_getElem? ha, by rw [hp]; simp⟩
    repeat (first | refine b9 ?_ | refine b6 ?_ | refine a6 ?_ | refine b5 ?_ | refine e7 rfl ?_ | refine d9 rfl ?_ | ((first | refine b8 (fun K hK => ?_) | refine d3 e9 (fun K hK => ?_) | fail); simp -implicitDefEqProofs [hkl, ha, ha', h34]; first | refine hK _ ?_ | refine hK _ _ (by rfl) ?_ | fail) | fail)
    refine d6 (d4 ?_); simp -implicitDefEqProofs [f9, f6, f7, e] <;> try rfl
end Go.Proofs.YtbbkmijkllgfaaaGreatDoor.am
end
