import Derived.Test.YthkfdheoakbfnaaGreatPkF3
import Derived.Test.YthkfdheoakbfnaaGreatProg
import Derived.IntWalk
set_option maxRecDepth 100000
set_option maxHeartbeats 4000000
section
namespace Go.Proofs.YthkfdheoakbfnaaGreat.vt
open Go.Proofs.YthkfdheoakbfnaaGreat.am
set_option linter.unusedVariables false
inductive Tr (α : Type) where
  | mk (x : α) (l : List (Tr α))
namespace Tr
variable {α : Type}
def lab : Tr α → α
  | .mk x _ => x
def kids : Tr α → List (Tr α)
  | .mk _ l => l
theorem ind {P : Tr α → Prop} (h : ∀ x l, (∀ y ∈ l, P y) → P (.mk x l)) (t : Tr α) : P t :=
  Tr.rec (motive_1 := P) (motive_2 := fun l => ∀ y ∈ l, P y) h (fun y hy => by simp at hy) (fun x l hx hl y hy => by
    rcases List.mem_cons.1 hy with rfl | hy
    · exact hx
    · exact hl y hy) t
noncomputable def fold {β : Type} (g : α → List (Tr α) → List β → β) (t : Tr α) : β :=
  Tr.rec (motive_1 := fun _ => β) (motive_2 := fun _ => List β) (fun x l ih => g x l ih) [] (fun _ _ a b => a :: b) t
theorem fold_mk {β : Type} (g : α → List (Tr α) → List β → β) (x : α) (l : List (Tr α)) : fold g (.mk x l) = g x l (l.map (fold g)) := by
  show g x l _ = _
  congr 1
  induction l with
  | nil => rfl
  | cons y l ih => show fold g y :: _ = _; rw [ih]; rfl
noncomputable def size (t : Tr α) : Nat := fold (fun _ _ b => 1 + b.sum) t
theorem size_mk (x : α) (l : List (Tr α)) : size (.mk x l) = 1 + (l.map size).sum := fold_mk _ x l
theorem size_pos (t : Tr α) : 0 < size t := by cases t; rw [size_mk]; omega
theorem size_at {x : α} {l : List (Tr α)} {i : Nat} {y : Tr α} (h : l[i]? = some y) : size y < size (.mk x l) := by
  rw [size_mk]
  have : size y ≤ (l.map size).sum := by
    induction l generalizing i with
    | nil => simp at h
    | cons z l ih =>
      cases i with
      | zero => simp at h; subst h; simp
      | succ i => have := ih (by simpa using h); simp; omega
  omega
theorem len_size {x : α} {l : List (Tr α)} : l.length < size (.mk x l) := by
  rw [size_mk]
  have : l.length ≤ (l.map size).sum := by
    induction l with
    | nil => simp
    | cons z l ih => have := size_pos z; simp; omega
  omega
noncomputable def all (p : α → Prop) (t : Tr α) : Prop := fold (fun x _ b => p x ∧ ∀ q ∈ b, q) t
theorem all_mk (p : α → Prop) (x : α) (l : List (Tr α)) : all p (.mk x l) ↔ p x ∧ ∀ y ∈ l, all p y := by
  unfold all
  rw [fold_mk]
  constructor
  · rintro ⟨h1, h2⟩; exact ⟨h1, fun y hy => h2 _ (List.mem_map_of_mem hy)⟩
  · rintro ⟨h1, h2⟩; refine ⟨h1, fun q hq => ?_⟩
    obtain ⟨y, hy, rfl⟩ := List.mem_map.1 hq
    exact h2 y hy
end Tr
structure Lab where
  k : Int
  n : Int
  s : ByteArray
  f : Int
  t : Int
def Lab.ok (x : Lab) : Prop := (-9223372036854775808 ≤ x.k ∧ x.k ≤ 9223372036854775807) ∧ (-9223372036854775808 ≤ x.n ∧ x.n ≤ 9223372036854775807) ∧ (-9223372036854775808 ≤ x.f ∧ x.f ≤ 9223372036854775807) ∧ (-9223372036854775808 ≤ x.t ∧ x.t ≤ 9223372036854775807)
abbrev VT := Tr Lab
noncomputable abbrev t7 (t : VT) : Prop := Tr.all Lab.ok t
abbrev I (z : Int) : PV := .lit (.int .i64 z)
abbrev Sx (s : ByteArray) : PV := .lit (.string s)
abbrev Bo (b : Bool) : PV := .lit (.bool b)
abbrev vI (z : Int) : AV := .v (.c (.pv (I z)))
abbrev vS (s : ByteArray) : AV := .v (.c (.pv (Sx s)))
abbrev vB (b : Bool) : AV := .v (.c (.pv (Bo b)))
noncomputable def tc (t : VT) : List PV := Tr.fold (fun x _ b => [I x.k, I x.n, Sx x.s, .sl 6 b, I x.f, I x.t]) t
theorem c2n (x : Lab) (l : List VT) : tc (.mk x l) = [I x.k, I x.n, Sx x.s, .sl 6 (l.map tc), I x.f, I x.t] := Tr.fold_mk _ x l
theorem c4n (t : VT) : (tc t).length = 6 := by cases t; rw [c2n]; rfl
noncomputable def ta (t : VT) : List AC := (tc t).map .pv
theorem ta_mk (x : Lab) (l : List VT) : ta (.mk x l) = [.pv (I x.k), .pv (I x.n), .pv (Sx x.s), .pv (.sl 6 (l.map tc)), .pv (I x.f), .pv (I x.t)] := by unfold ta; rw [c2n]; rfl
noncomputable abbrev vT (t : VT) : AV := .v (.agg (ta t))
noncomputable abbrev vLs (l : List VT) : AV := .v (.c (.pv (.sl 6 (l.map tc))))
theorem c4l (t : VT) : (ta t).length = 6 := by unfold ta; rw [List.length_map]; exact c4n t
theorem b70 (l : List PV) : (l.map AC.pv).mapM a9p = some l := by
  induction l with
  | nil => rfl
  | cons p l ih => rw [List.map_cons, List.mapM_cons, ih]; rfl
theorem c60 (t : VT) : (ta t).mapM a9p = some (tc t) := b70 _
theorem b23 {n : Nat} {ρ : Nat → Nat} (l : List PV) : b1c n ρ (l.map AC.pv) (l.map AC.pv) := by
  induction l with
  | nil => trivial
  | cons p l ih => exact ⟨a9a p, ih⟩
theorem fit_ta {n : Nat} {ρ : Nat → Nat} (t : VT) : b1c n ρ (ta t) (ta t) := b23 _
theorem c61 (t : VT) : (ta t).take 6 = ta t := List.take_of_length_le (by rw [c4l]; exact Nat.le_refl _)
attribute [simp] ta_mk c2n c4l c4n c60 fit_ta b23 c61
theorem a7u (ρ : Nat → Nat) (l : List PV) : (l.map AC.pv).map (AC.ren ρ) = l.map AC.pv := by
  rw [List.map_map]; rfl
theorem c4r (t : VT) (ρ : Nat → Nat) : (vT t).ren ρ = vT t := by
  show AV.v (.agg (((tc t).map AC.pv).map (AC.ren ρ))) = _
  rw [a7u]; rfl
end Go.Proofs.YthkfdheoakbfnaaGreat.vt
end
section
namespace Go.Proofs.YthkfdheoakbfnaaGreat.vt
open Go.Proofs.YthkfdheoakbfnaaGreat.am
set_option linter.unusedVariables false
noncomputable def eqv (p : Lab → Lab → Bool) (t : VT) : VT → Bool := Tr.fold (fun x l bs u => p x u.lab && decide (l.length = u.kids.length) && (bs.zip u.kids).all (fun q => q.1 q.2)) t
def a0v (f : VT → VT → Bool) (l m : List VT) (k : Nat) : Bool := ((l.zip m).take k).all (fun q => f q.1 q.2)
theorem a07 (f : VT → VT → Bool) (l m : List VT) : a0v f l m 0 = true := by simp [a0v]
theorem t6 {f : VT → VT → Bool} {l m : List VT} {k : Nat} {a b : VT} (ha : l[k]? = some a) (hb : m[k]? = some b) : a0v f l m (k + 1) = (a0v f l m k && f a b) := by
  unfold a0v
  rw [List.take_add_one, show (l.zip m)[k]? = some (a, b) from List.getElem?_zip_eq_some.2 ⟨ha, hb⟩]
  simp [List.all_append]
theorem a2q {f : VT → VT → Bool} {l m : List VT} {k : Nat} (j : Nat) (h : a0v f l m k = false) : a0v f l m (k + j) = false := by
  unfold a0v at h ⊢
  rw [List.all_eq_false] at h ⊢
  obtain ⟨q, h1, h2⟩ := h
  refine ⟨q, ?_, h2⟩
  have : (l.zip m).take k <+: (l.zip m).take (k + j) := List.take_prefix_take_left (by omega)
  exact this.subset h1
theorem a5a {α β : Type} (F : α → β → Bool) : ∀ (l : List α) (m : List β), ((l.map F).zip m).all (fun q => q.1 q.2) = (l.zip m).all (fun q => F q.1 q.2)
  | [], m => rfl
  | a :: l, [] => rfl
  | a :: l, b :: m => by simp only [List.map_cons, List.zip_cons_cons, List.all_cons, a5a F l m]
theorem a87 (p : Lab → Lab → Bool) (x y : Lab) (l m : List VT) : eqv p (.mk x l) (.mk y m) = (p x y && decide (l.length = m.length) && a0v (eqv p) l m l.length) := by
  have e : a0v (eqv p) l m l.length = (l.zip m).all (fun q => eqv p q.1 q.2) := by
    unfold a0v
    rw [List.take_of_length_le (l := l.zip m) (by rw [List.length_zip]; exact Nat.min_le_left _ _)]
  rw [e]
  conv => lhs; unfold eqv
  rw [Tr.fold_mk, a5a]
  rfl
def pS (x y : Lab) : Bool := decide (x.k = y.k) && decide (x.n = y.n) && decide (x.s = y.s)
noncomputable abbrev same (t u : VT) : Bool := eqv pS t u
theorem c0b {f : VT → VT → Bool} {l : List VT} (h : ∀ y ∈ l, f y y = true) : ∀ k, a0v f l l k = true := fun k => by
  unfold a0v
  rw [List.all_eq_true]
  intro q hq
  have hq := List.mem_of_mem_take hq
  obtain ⟨i, hi⟩ := List.mem_iff_getElem?.1 hq
  obtain ⟨h1, h2⟩ := List.getElem?_zip_eq_some.1 hi
  rw [h1] at h2
  have : q.1 = q.2 := by simpa using h2
  rw [← this]
  exact h _ (List.mem_of_getElem? h1)
theorem c1g {p : Lab → Lab → Bool} (hp : ∀ x, p x x = true) (t : VT) : eqv p t t = true := by
  induction t using Tr.ind with
  | h x l ih => rw [a87, hp, c0b ih]; simp
theorem a45 (t : VT) : same t t = true := c1g (fun x => by simp [pS]) t
end Go.Proofs.YthkfdheoakbfnaaGreat.vt
end
section
namespace Go.Proofs.YthkfdheoakbfnaaGreat.vt
open Go.Proofs.YthkfdheoakbfnaaGreat.am
set_option linter.unusedVariables false
section
variable {α : Type} {f : α → Bool} {l : List α} {k : Nat} {y : α}
theorem a18 (f : α → Bool) (l : List α) : (l.take 0).all f = true := by simp
theorem a3p (h : l[k]? = some y) : (l.take (k + 1)).all f = ((l.take k).all f && f y) := by
  rw [List.take_add_one, h]; simp
theorem c3a (h : l[k]? = some y) (hf : f y = false) : l.all f = false := List.all_eq_false.2 ⟨y, List.mem_of_getElem? h, by simp [hf]⟩
theorem b2u (hk : (l.take k).all (fun y => !f y) = true) (h : l[k]? = some y) (hf : f y = true) : l.find? f = some y := by
  have e : l = l.take k ++ (y :: l.drop (k + 1)) := by
    have hj := (List.getElem?_eq_some_iff.1 h)
    conv => lhs; rw [← List.take_append_drop k l, List.drop_eq_getElem_cons hj.1, hj.2]
  rw [e, List.find?_append]
  have : (l.take k).find? f = none := by
    rw [List.find?_eq_none]
    intro x hx
    have := List.all_eq_true.1 hk x hx
    simpa using this
  rw [this]; simp [hf]
theorem b2t (hk : (l.take l.length).all (fun y => !f y) = true) : l.find? f = none := by
  rw [List.take_length] at hk
  rw [List.find?_eq_none]
  intro x hx
  have := List.all_eq_true.1 hk x hx
  simpa using this
end
structure Fc where
  name : ByteArray
  ps : List VT
  ret : VT
  decl : Int
noncomputable def fcc (x : Fc) : List PV := [Sx x.name, .sl 6 (x.ps.map tc)] ++ (tc x.ret ++ [I x.decl])
theorem fcc_mk (n : ByteArray) (ps : List VT) (rx : Lab) (rl : List VT) (d : Int) : fcc ⟨n, ps, .mk rx rl, d⟩ = [Sx n, .sl 6 (ps.map tc), I rx.k, I rx.n, Sx rx.s, .sl 6 (rl.map tc), I rx.f, I rx.t, I d] := by
  unfold fcc; rw [c2n]; rfl
abbrev Pr := Int × Int
def pcc (p : Pr) : List PV := [I p.1, I p.2]
abbrev Nn := ByteArray × ByteArray
def ncc (p : Nn) : List PV := [Sx p.1, Sx p.2]
theorem pcc_mk (a b : Int) : pcc (a, b) = [I a, I b] := rfl
theorem ncc_mk (a b : ByteArray) : ncc (a, b) = [Sx a, Sx b] := rfl
attribute [simp] fcc_mk pcc_mk ncc_mk
noncomputable abbrev vF (x : Fc) : AV := .v (.agg ((fcc x).map .pv))
noncomputable abbrev vFs (l : List Fc) : AV := .v (.c (.pv (.sl 9 (l.map fcc))))
abbrev vPs (l : List Pr) : AV := .v (.c (.pv (.sl 2 (l.map pcc))))
def atA (a : Int) (p : Pr) : Bool := decide (p.1 = a)
def onP (l : List Pr) (a : Int) : Option Pr := l.find? (atA a)
def s5 (l : List Pr) : List Pr := l.map fun p => (p.2, p.1)
theorem b9q (l : List Pr) : s5 (s5 l) = l := by
  unfold s5; rw [List.map_map]; exact List.map_id' l
def atD (d : Int) (f : Fc) : Bool := decide (f.decl = d)
def a1k (l : List Fc) (d : Int) : Option Fc := l.find? (atD d)
noncomputable def r7 (f g : Fc) : Bool := decide (f.ps.length = g.ps.length) && same f.ret g.ret && a0v same f.ps g.ps f.ps.length
noncomputable def a0u (q : List Fc) (prs : List Pr) (f : Fc) : Bool :=
  match onP prs f.decl with
  | none => false
  | some x => match a1k q x.2 with
    | none => false
    | some g => (match onP (s5 prs) x.2 with | some z => decide (z.2 = f.decl) | none => false) && r7 f g
noncomputable def a25 (q : List Fc) (prs : List Pr) (f : Fc) : Nn :=
  match onP prs f.decl with
  | none => (⟨#[]⟩, ⟨#[]⟩)
  | some x => match a1k q x.2 with
    | none => (⟨#[]⟩, ⟨#[]⟩)
    | some g => (f.name, g.name)
noncomputable def a2e (p q : List Fc) (prs : List Pr) : List Nn × Bool :=
  if (p.all (a0u q prs) && q.all (a0u p (s5 prs))) = true then (p.map (a25 q prs), true) else ([], false)
theorem b6u {l : List Pr} {a : Int} {x : Pr} (h : onP l a = some x) : ∃ z, onP (s5 l) x.2 = some z := by
  cases hz : onP (s5 l) x.2 with
  | some z => exact ⟨z, rfl⟩
  | none =>
    have hm := List.mem_of_find?_eq_some h
    have := List.find?_eq_none.1 hz (x.2, x.1) (List.mem_map.2 ⟨x, hm, rfl⟩)
    simp [atA] at this
theorem c1h {p : Lab → Lab → Bool} (hp : ∀ x y, p x y = p y x) (t : VT) : ∀ u, eqv p t u = eqv p u t := by
  induction t using Tr.ind with
  | h x l ih =>
  intro u
  obtain ⟨y, m⟩ := u
  rw [a87, a87, hp x y]
  by_cases h : l.length = m.length
  · rw [h]
    congr 1
    have key : ∀ k, k ≤ m.length → a0v (eqv p) l m k = a0v (eqv p) m l k := fun k => by
      induction k with
      | zero => intro _; simp [a0v]
      | succ k ihk =>
        intro hk
        have h1 : l[k]? = some (l[k]'(by omega)) := List.getElem?_eq_getElem _
        have h2 : m[k]? = some (m[k]'(by omega)) := List.getElem?_eq_getElem _
        rw [t6 h1 h2, t6 h2 h1, ihk (by omega), ih _ (List.mem_of_getElem? h1)]
    exact key _ (Nat.le_refl _)
  · have h' : ¬ m.length = l.length := fun e => h e.symm
    simp [h, h']
theorem a91 (t u : VT) : same t u = same u t := c1h (fun x y => by simp only [pS, eq_comm]) t u
end Go.Proofs.YthkfdheoakbfnaaGreat.vt
end
section
namespace Go.Proofs.YthkfdheoakbfnaaGreat.am
open vt
theorem td_term : td Tryz.prog 25 = some ⟨true, 6, 72, [.lit (.int .i64 0), .lit (.int .i64 0), .lit (.string ⟨#[]⟩), .nilS, .lit (.int .i64 0), .lit (.int .i64 0)], [(0, 1, false), (1, 1, false), (2, 1, false), (3, 1, false), (4, 1, false), (5, 1, false)], .struct⟩ := Eq.trans (by kernel_rfl) (Eq.refl _)
theorem td_terms : td Tryz.prog 23 = some ⟨false, 1, 24, [.nilS], [], (.slice 25)⟩ := Eq.trans (by kernel_rfl) (Eq.refl _)
theorem td_int : td Tryz.prog 3 = some ⟨false, 1, 8, [.lit (.int .i64 0)], [], (.int .i64)⟩ := Eq.trans (by kernel_rfl) (Eq.refl _)
theorem td_int64 : td Tryz.prog 2 = some ⟨false, 1, 8, [.lit (.int .i64 0)], [], (.int .i64)⟩ := Eq.trans (by kernel_rfl) (Eq.refl _)
theorem td_bool : td Tryz.prog 4 = some ⟨false, 1, 1, [.lit (.bool false)], [], .bool⟩ := Eq.trans (by kernel_rfl) (Eq.refl _)
theorem td_string : td Tryz.prog 9 = some ⟨false, 1, 16, [.lit (.string ⟨#[]⟩)], [], .string⟩ := Eq.trans (by kernel_rfl) (Eq.refl _)
attribute [simp] td_term td_terms td_int td_int64 td_bool td_string
theorem f8 : Tryz.prog.follows .mixedOrders = true := by kernel_rfl
end Go.Proofs.YthkfdheoakbfnaaGreat.am
end
section
namespace Go.Proofs.YthkfdheoakbfnaaGreat.am
open Go.ChangeShapes Go.WideShapes Go.ChangeAt Go.RowKit
open vt
set_option linter.unusedVariables false
set_option linter.unusedSimpArgs false
theorem a96 (t : VT) : t.size ≤ 1000000 → ∀ u : VT, u.size ≤ 1000000 → Row Tryz.prog 30 [vT t, vT u] [] (vB (same t u)) [] := by
  induction t using Tr.ind with
  | h x l ih =>
  intro hsz u hsu
  obtain ⟨y, m⟩ := u
  have hlen := Tr.len_size (x := x) (l := l)
  rw [show same (.mk x l) (.mk y m) = _ from a87 pS x y l m]
  refine f6 Tryz.func30 rfl rfl (Nat.le_of_ble_eq_true rfl) ?_
  by_cases hk : x.k = y.k; rotate_left
  · repeat (first | refine d4 ?_ | refine b8 ?_ | refine b7 ?_ | refine b9 ?_ | refine f5 rfl ?_ | refine d8 rfl ?_ | ((first | refine c5 (fun K hK => ?_) | refine d5 f8 (fun K hK => ?_) | fail); simp -implicitDefEqProofs [hk]; first | refine hK _ ?_ | refine hK _ _ (by rfl) ?_ | fail) | fail)
    refine d7 (d6 ?_); simp -implicitDefEqProofs [g8, f9, g7, hk, pS] <;> try rfl
  by_cases hn : x.n = y.n; rotate_left
  · repeat (first | refine d4 ?_ | refine b8 ?_ | refine b7 ?_ | refine b9 ?_ | refine f5 rfl ?_ | refine d8 rfl ?_ | ((first | refine c5 (fun K hK => ?_) | refine d5 f8 (fun K hK => ?_) | fail); simp -implicitDefEqProofs [hk, hn]; first | refine hK _ ?_ | refine hK _ _ (by rfl) ?_ | fail) | fail)
    refine d7 (d6 ?_); simp -implicitDefEqProofs [g8, f9, g7, hk, hn, pS] <;> try rfl
  by_cases hs : x.s = y.s; rotate_left
  · repeat (first | refine d4 ?_ | refine b8 ?_ | refine b7 ?_ | refine b9 ?_ | refine f5 rfl ?_ | refine d8 rfl ?_ | ((first | refine c5 (fun K hK => ?_) | refine d5 f8 (fun K hK => ?_) | fail); simp -implicitDefEqProofs [hk, hn, hs]; first | refine hK _ ?_ | refine hK _ _ (by rfl) ?_ | fail) | fail)
    refine d7 (d6 ?_); simp -implicitDefEqProofs [g8, f9, g7, hk, hn, hs, pS] <;> try rfl
  by_cases hm : l.length = m.length; rotate_left
  · have hm' : ¬ (l.length : Int) = (m.length : Int) := by omega
    repeat (first | refine d4 ?_ | refine b8 ?_ | refine b7 ?_ | refine b9 ?_ | refine f5 rfl ?_ | refine d8 rfl ?_ | ((first | refine c5 (fun K hK => ?_) | refine d5 f8 (fun K hK => ?_) | fail); simp -implicitDefEqProofs [hk, hn, hs, hm, hm']; first | refine hK _ ?_ | refine hK _ _ (by rfl) ?_ | fail) | fail)
    refine d7 (d6 ?_); simp -implicitDefEqProofs [g8, f9, g7, hk, hn, hs, hm, pS] <;> try rfl
  repeat (first | refine d4 ?_ | refine b8 ?_ | refine b7 ?_ | refine b9 ?_ | refine f5 rfl ?_ | refine d8 rfl ?_ | ((first | refine c5 (fun K hK => ?_) | refine d5 f8 (fun K hK => ?_) | fail); simp -implicitDefEqProofs [hk, hn, hs, hm]; first | refine hK _ ?_ | refine hK _ _ (by rfl) ?_ | fail) | fail)
  refine l7 (ι := Nat) (fun k => s7 [(2, .v (.c (.ptr 0 0))), (3, .v (.c (.ptr 1 0))), (36, vI (l.length : Nat)), (37, vI (k : Nat))] [some (.box (ta (.mk x l))), some (.box (ta (.mk y m)))]) (fun k => k ≤ l.length ∧ a0v (eqv pS) l m k = true) (fun k => l.length - k) 0 ⟨Nat.zero_le _, a07 _ _ _⟩ (f7 [0, 1] (by simp -implicitDefEqProofs [hk, hn, hs, hm]) (by simp -implicitDefEqProofs [hk, hn, hs, hm]) (by decide) rfl (by simp)) (fun Z hI k hkz => ?_)
  obtain ⟨hkl', hz⟩ := hkz
  by_cases hkl : k < l.length; rotate_left
  · have : k = l.length := by omega
    subst this
    rw [show (pS x y && decide (l.length = m.length) && a0v (eqv pS) l m l.length) = true by rw [hz]; simp [pS, hk, hn, hs, hm]]
    repeat (first | refine d4 ?_ | refine b8 ?_ | refine b7 ?_ | refine b9 ?_ | refine f5 rfl ?_ | refine d8 rfl ?_ | ((first | refine c5 (fun K hK => ?_) | refine d5 f8 (fun K hK => ?_) | fail); simp -implicitDefEqProofs; first | refine hK _ ?_ | refine hK _ _ (by rfl) ?_ | fail) | fail)
    refine d7 (d6 ?_); simp -implicitDefEqProofs [g8, f9, g7] <;> try rfl
  have hkm : k < m.length := by omega
  obtain ⟨⟨ax, al⟩, ha⟩ : ∃ a, l[k]? = some a := ⟨_, List.getElem?_eq_getElem hkl⟩
  obtain ⟨⟨bx, bl⟩, hb⟩ : ∃ a, m[k]? = some a := ⟨_, List.getElem?_eq_getElem hkm⟩
  have ha' := (List.getElem?_eq_some_iff.1 ha).2
  have hb' := (List.getElem?_eq_some_iff.1 hb).2
  have hsz1 := Tr.size_at (x := x) ha
  have hsz2 := Tr.size_at (x := y) hb
  have w2 : IntKind.i64.wrap ((k : Nat) + 1 : Int) = (k : Nat) + 1 := k9 _ (by omega) (by omega)
  have hzs := t6 (f := eqv pS) ha hb
  repeat (first | refine d4 ?_ | refine b8 ?_ | refine b7 ?_ | refine b9 ?_ | refine f5 rfl ?_ | refine d8 rfl ?_ | ((first | refine c5 (fun K hK => ?_) | refine d5 f8 (fun K hK => ?_) | fail); simp -implicitDefEqProofs [hkl]; first | refine hK _ ?_ | refine hK _ _ (by rfl) ?_ | fail) | fail)
  refine d5 f8 (fun K hK => ?_); simp -implicitDefEqProofs [hkl, hkm, ha, ha', hb, hb']
  refine a8 (a2x (ih _ (List.mem_of_getElem? ha) (by omega) (.mk bx bl) (by omega)) (by simp) (fun _ => rfl) rfl ?_)
  simp -implicitDefEqProofs
  refine hK _ _ (by rfl) ?_
  refine u5 rfl (fun hb => ?_) (fun hb => ?_)
  · have hf : same (.mk ax al) (.mk bx bl) = false := by simpa using hb
    repeat (first | refine d4 ?_ | refine b8 ?_ | refine b7 ?_ | refine b9 ?_ | refine f5 rfl ?_ | refine d8 rfl ?_ | ((first | refine c5 (fun K hK => ?_) | refine d5 f8 (fun K hK => ?_) | fail); simp -implicitDefEqProofs; first | refine hK _ ?_ | refine hK _ _ (by rfl) ?_ | fail) | fail)
    have e : a0v (eqv pS) l m l.length = false := by
      have := a2q (l.length - (k + 1)) (show a0v (eqv pS) l m (k + 1) = false by rw [hzs, hz]; simpa using hf)
      rwa [show k + 1 + (l.length - (k + 1)) = l.length by omega] at this
    refine d7 (d6 ?_); simp -implicitDefEqProofs [g8, f9, g7, e] <;> try rfl
  · have hf : same (.mk ax al) (.mk bx bl) = true := by simpa using hb
    repeat (first | refine d4 ?_ | refine b8 ?_ | refine b7 ?_ | refine b9 ?_ | refine f5 rfl ?_ | refine d8 rfl ?_ | ((first | refine c5 (fun K hK => ?_) | refine d5 f8 (fun K hK => ?_) | fail); simp -implicitDefEqProofs [w2]; first | refine hK _ ?_ | refine hK _ _ (by rfl) ?_ | fail) | fail)
    refine ⟨k + 1, ⟨by omega, by rw [hzs, hz]; simpa using hf⟩, (by dsimp only; omega), ?_⟩
    rw [hI]; exact f7 [0, 1] (by simp -implicitDefEqProofs) (by simp -implicitDefEqProofs) (by decide) rfl (by simp)
theorem td_face : td Tryz.prog 33 = some ⟨true, 9, 120, [.lit (.string ⟨#[]⟩), .nilS, .lit (.int .i64 0), .lit (.int .i64 0), .lit (.string ⟨#[]⟩), .nilS, .lit (.int .i64 0), .lit (.int .i64 0), .lit (.int .i64 0)], [(0, 1, false), (1, 1, false), (2, 6, true), (8, 1, false)], .struct⟩ := Eq.trans (by kernel_rfl) (Eq.refl _)
theorem td_faces : td Tryz.prog 29 = some ⟨false, 1, 24, [.nilS], [], (.slice 33)⟩ := Eq.trans (by kernel_rfl) (Eq.refl _)
theorem td_pair : td Tryz.prog 39 = some ⟨true, 2, 16, [.lit (.int .i64 0), .lit (.int .i64 0)], [(0, 1, false), (1, 1, false)], .struct⟩ := Eq.trans (by kernel_rfl) (Eq.refl _)
theorem td_pairs : td Tryz.prog 40 = some ⟨false, 1, 24, [.nilS], [], (.slice 39)⟩ := Eq.trans (by kernel_rfl) (Eq.refl _)
theorem td_nam : td Tryz.prog 42 = some ⟨true, 2, 32, [.lit (.string ⟨#[]⟩), .lit (.string ⟨#[]⟩)], [(0, 1, false), (1, 1, false)], .struct⟩ := Eq.trans (by kernel_rfl) (Eq.refl _)
theorem td_nams : td Tryz.prog 35 = some ⟨false, 1, 24, [.nilS], [], (.slice 42)⟩ := Eq.trans (by kernel_rfl) (Eq.refl _)
attribute [simp] td_face td_faces td_pair td_pairs td_nam td_nams
abbrev vP (x : Pr) : AV := .v (.agg ((pcc x).map .pv))
abbrev vPB (r : Pr × Bool) : AV := .tup [.agg ((pcc r.1).map .pv), .c (.pv (Bo r.2))]
noncomputable abbrev vFB (r : Fc × Bool) : AV := .tup [.agg ((fcc r.1).map .pv), .c (.pv (Bo r.2))]
noncomputable def zF : Fc := ⟨⟨#[]⟩, [], .mk ⟨0, 0, ⟨#[]⟩, 0, 0⟩ [], 0⟩
theorem a74 (r : Pr × Bool) (ρ : Nat → Nat) : (vPB r).ren ρ = vPB r := rfl
theorem c7a (r : Fc × Bool) (ρ : Nat → Nat) : (vFB r).ren ρ = vFB r := by
  show AV.tup [.agg (((fcc r.1).map AC.pv).map (AC.ren ρ)), _] = _
  rw [a7u]; rfl
def bx1 (z : Int) : AO := .box [.pv (I z)]
def bx2 (x : Pr) : AO := .box [.pv (I x.1), .pv (I x.2)]
theorem a37 (z : Int) (ρ : Nat → Nat) : (bx1 z).ren ρ = bx1 z := rfl
theorem b60 (x : Pr) (ρ : Nat → Nat) : (bx2 x).ren ρ = bx2 x := rfl
theorem b8b (a : Int) (x : Pr) : Row Tryz.prog 27 [vP x, .v (.c (.ptr 0 0))] [bx1 a] (vB (atA a x)) [some (bx1 a)] := by
  refine f6 Tryz.func27 rfl rfl (Nat.le_of_ble_eq_true rfl) ?_
  obtain ⟨x1, x2⟩ := x
  repeat (first | refine d4 ?_ | refine b8 ?_ | refine b7 ?_ | refine b9 ?_ | refine f5 rfl ?_ | refine d8 rfl ?_ | ((first | refine c5 (fun K hK => ?_) | refine d5 f8 (fun K hK => ?_) | fail); simp -implicitDefEqProofs [bx1]; first | refine hK _ ?_ | refine hK _ _ (by rfl) ?_ | fail) | fail)
  refine d7 (a1r ?_); simp -implicitDefEqProofs [c01, f9, g7, bx1, atA] <;> try rfl
theorem a9s (a : Int) (x : Pr) : Row Tryz.prog 31 [vP x, .v (.c (.ptr 0 0))] [bx1 a] (vB (atA a x)) [some (bx1 a)] := by
  refine f6 Tryz.func31 rfl rfl (Nat.le_of_ble_eq_true rfl) ?_
  obtain ⟨x1, x2⟩ := x
  repeat (first | refine d4 ?_ | refine b8 ?_ | refine b7 ?_ | refine b9 ?_ | refine f5 rfl ?_ | refine d8 rfl ?_ | ((first | refine c5 (fun K hK => ?_) | refine d5 f8 (fun K hK => ?_) | fail); simp -implicitDefEqProofs [bx1]; first | refine hK _ ?_ | refine hK _ _ (by rfl) ?_ | fail) | fail)
  refine d7 (a1r ?_); simp -implicitDefEqProofs [c01, f9, g7, bx1, atA] <;> try rfl
theorem b8c (y : Pr) (f : Fc) : Row Tryz.prog 29 [vF f, .v (.c (.ptr 0 0))] [bx2 y] (vB (atD y.2 f)) [some (bx2 y)] := by
  refine f6 Tryz.func29 rfl rfl (Nat.le_of_ble_eq_true rfl) ?_
  obtain ⟨fn, fp, ⟨frx, frl⟩, fd⟩ := f
  repeat (first | refine d4 ?_ | refine b8 ?_ | refine b7 ?_ | refine b9 ?_ | refine f5 rfl ?_ | refine d8 rfl ?_ | ((first | refine c5 (fun K hK => ?_) | refine d5 f8 (fun K hK => ?_) | fail); simp -implicitDefEqProofs [bx2]; first | refine hK _ ?_ | refine hK _ _ (by rfl) ?_ | fail) | fail)
  refine d7 (a1r ?_); simp -implicitDefEqProofs [c01, f9, g7, bx2, atD] <;> try rfl
def c53 (o : Option Pr) : Pr × Bool := match o with | some x => (x, true) | none => ((0, 0), false)
noncomputable def c3h (o : Option Fc) : Fc × Bool := match o with | some x => (x, true) | none => (zF, false)
theorem a55 (g : Nat) (a : Int) (hg : ∀ x, Row Tryz.prog g [vP x, .v (.c (.ptr 0 0))] [bx1 a] (vB (atA a x)) [some (bx1 a)]) (l : List Pr) (hl : l.length ≤ 1000000) : Row Tryz.prog 26 [vPs l, .v (.c (.fn (.func g) [] [.ptr 0 0]))] [bx1 a] (vPB (c53 (onP l a))) [some (bx1 a)] := by
  refine f6 Tryz.func26 rfl rfl (Nat.le_of_ble_eq_true rfl) ?_
  repeat (first | refine d4 ?_ | refine b8 ?_ | refine b7 ?_ | refine b9 ?_ | refine f5 rfl ?_ | refine d8 rfl ?_ | ((first | refine c5 (fun K hK => ?_) | refine d5 f8 (fun K hK => ?_) | fail); simp -implicitDefEqProofs; first | refine hK _ ?_ | refine hK _ _ (by rfl) ?_ | fail) | fail)
  refine l7 (ι := Nat) (fun k => s7 [(1, .v (.c (.fn (.func g) [] [.ptr 0 0]))), (4, .v (.c (.ptr 1 0))), (9, vPs l), (10, vI (l.length : Nat)), (11, vI (k : Nat))] [some (bx1 a), some (.box [.pv (I 0), .pv (I 0)])]) (fun k => k ≤ l.length ∧ (l.take k).all (fun y => !atA a y) = true) (fun k => l.length - k) 0 ⟨Nat.zero_le _, a18 _ _⟩ (f7 [0, 1] (by simp -implicitDefEqProofs [bx1]) (by simp -implicitDefEqProofs [bx1]) (by decide) rfl (by simp)) (fun Z hI k hk => ?_)
  obtain ⟨hk, hz⟩ := hk
  by_cases hkl : k < l.length; rotate_left
  · have : k = l.length := by omega
    subst this
    rw [show onP l a = none from b2t hz]
    repeat (first | refine d4 ?_ | refine b8 ?_ | refine b7 ?_ | refine b9 ?_ | refine f5 rfl ?_ | refine d8 rfl ?_ | ((first | refine c5 (fun K hK => ?_) | refine d5 f8 (fun K hK => ?_) | fail); simp -implicitDefEqProofs; first | refine hK _ ?_ | refine hK _ _ (by rfl) ?_ | fail) | fail)
    refine d7 (a1r ?_); simp -implicitDefEqProofs [c01, f9, g7, c53, bx1] <;> try rfl
  obtain ⟨⟨y1, y2⟩, hy⟩ : ∃ y, l[k]? = some y := ⟨_, List.getElem?_eq_getElem hkl⟩
  have hy' := (List.getElem?_eq_some_iff.1 hy).2
  have hs := a3p (f := fun y => !atA a y) hy
  have w2 : IntKind.i64.wrap ((k : Nat) + 1 : Int) = (k : Nat) + 1 := k9 _ (by omega) (by omega)
  repeat (first | refine d4 ?_ | refine b8 ?_ | refine b7 ?_ | refine b9 ?_ | refine f5 rfl ?_ | refine d8 rfl ?_ | ((first | refine c5 (fun K hK => ?_) | refine d5 f8 (fun K hK => ?_) | fail); simp -implicitDefEqProofs [hkl, hy, hy']; first | refine hK _ ?_ | refine hK _ _ (by rfl) ?_ | fail) | fail)
  refine c5 (fun K hK => ?_); simp -implicitDefEqProofs
  refine a9 (a0g (hg (y1, y2)) 0 (by simp) (by simp [bx1]) (fun _ => rfl) (a37 a) rfl ?_)
  simp -implicitDefEqProofs; refine hK _ ?_
  refine u5 rfl (fun hb => ?_) (fun hb => ?_)
  · rw [show onP l a = some (y1, y2) from b2u hz hy hb]
    repeat (first | refine d4 ?_ | refine b8 ?_ | refine b7 ?_ | refine b9 ?_ | refine f5 rfl ?_ | refine d8 rfl ?_ | ((first | refine c5 (fun K hK => ?_) | refine d5 f8 (fun K hK => ?_) | fail); simp -implicitDefEqProofs; first | refine hK _ ?_ | refine hK _ _ (by rfl) ?_ | fail) | fail)
    refine d7 (a1r ?_); simp -implicitDefEqProofs [c01, f9, g7, c53, bx1] <;> try rfl
  · repeat (first | refine d4 ?_ | refine b8 ?_ | refine b7 ?_ | refine b9 ?_ | refine f5 rfl ?_ | refine d8 rfl ?_ | ((first | refine c5 (fun K hK => ?_) | refine d5 f8 (fun K hK => ?_) | fail); simp -implicitDefEqProofs [w2]; first | refine hK _ ?_ | refine hK _ _ (by rfl) ?_ | fail) | fail)
    refine ⟨k + 1, ⟨by omega, by rw [hs, hz, hb]; rfl⟩, (by dsimp only; omega), ?_⟩
    rw [hI]; exact f7 [0, 1] (by simp -implicitDefEqProofs [bx1]) (by simp -implicitDefEqProofs [bx1]) (by decide) rfl (by simp)
theorem b4k (y : Pr) (l : List Fc) (hl : l.length ≤ 1000000) : Row Tryz.prog 28 [vFs l, .v (.c (.fn (.func 29) [] [.ptr 0 0]))] [bx2 y] (vFB (c3h (a1k l y.2))) [some (bx2 y)] := by
  refine f6 Tryz.func28 rfl rfl (Nat.le_of_ble_eq_true rfl) ?_
  repeat (first | refine d4 ?_ | refine b8 ?_ | refine b7 ?_ | refine b9 ?_ | refine f5 rfl ?_ | refine d8 rfl ?_ | ((first | refine c5 (fun K hK => ?_) | refine d5 f8 (fun K hK => ?_) | fail); simp -implicitDefEqProofs; first | refine hK _ ?_ | refine hK _ _ (by rfl) ?_ | fail) | fail)
  refine l7 (ι := Nat) (fun k => s7 [(1, .v (.c (.fn (.func 29) [] [.ptr 0 0]))), (4, .v (.c (.ptr 1 0))), (9, vFs l), (10, vI (l.length : Nat)), (11, vI (k : Nat))] [some (bx2 y), some (.box [.pv (Sx ⟨#[]⟩), .pv .nilS, .pv (I 0), .pv (I 0), .pv (Sx ⟨#[]⟩), .pv .nilS, .pv (I 0), .pv (I 0), .pv (I 0)])]) (fun k => k ≤ l.length ∧ (l.take k).all (fun f => !atD y.2 f) = true) (fun k => l.length - k) 0 ⟨Nat.zero_le _, a18 _ _⟩ (f7 [0, 1] (by simp -implicitDefEqProofs [bx2]) (by simp -implicitDefEqProofs [bx2]) (by decide) rfl (by simp)) (fun Z hI k hk => ?_)
  obtain ⟨hk, hz⟩ := hk
  by_cases hkl : k < l.length; rotate_left
  · have : k = l.length := by omega
    subst this
    rw [show a1k l y.2 = none from b2t hz]
    repeat (first | refine d4 ?_ | refine b8 ?_ | refine b7 ?_ | refine b9 ?_ | refine f5 rfl ?_ | refine d8 rfl ?_ | ((first | refine c5 (fun K hK => ?_) | refine d5 f8 (fun K hK => ?_) | fail); simp -implicitDefEqProofs; first | refine hK _ ?_ | refine hK _ _ (by rfl) ?_ | fail) | fail)
    refine d7 (a1r ?_); simp -implicitDefEqProofs [c01, f9, g7, c3h, zF, bx2] <;> try rfl
  obtain ⟨⟨fn, fp, ⟨frx, frl⟩, fd⟩, hy⟩ : ∃ y, l[k]? = some y := ⟨_, List.getElem?_eq_getElem hkl⟩
  have hy' := (List.getElem?_eq_some_iff.1 hy).2
  have hs := a3p (f := fun f => !atD y.2 f) hy
  have w2 : IntKind.i64.wrap ((k : Nat) + 1 : Int) = (k : Nat) + 1 := k9 _ (by omega) (by omega)
  repeat (first | refine d4 ?_ | refine b8 ?_ | refine b7 ?_ | refine b9 ?_ | refine f5 rfl ?_ | refine d8 rfl ?_ | ((first | refine c5 (fun K hK => ?_) | refine d5 f8 (fun K hK => ?_) | fail); simp -implicitDefEqProofs [hkl, hy, hy']; first | refine hK _ ?_ | refine hK _ _ (by rfl) ?_ | fail) | fail)
  refine c5 (fun K hK => ?_); simp -implicitDefEqProofs
  refine a9 (a0g (b8c y ⟨fn, fp, .mk frx frl, fd⟩) 0 (by simp) (by simp [bx2]) (fun _ => rfl) (b60 y) rfl ?_)
  simp -implicitDefEqProofs; refine hK _ ?_
  refine u5 rfl (fun hb => ?_) (fun hb => ?_)
  · rw [show a1k l y.2 = some ⟨fn, fp, .mk frx frl, fd⟩ from b2u hz hy hb]
    repeat (first | refine d4 ?_ | refine b8 ?_ | refine b7 ?_ | refine b9 ?_ | refine f5 rfl ?_ | refine d8 rfl ?_ | ((first | refine c5 (fun K hK => ?_) | refine d5 f8 (fun K hK => ?_) | fail); simp -implicitDefEqProofs; first | refine hK _ ?_ | refine hK _ _ (by rfl) ?_ | fail) | fail)
    refine d7 (a1r ?_); simp -implicitDefEqProofs [c01, f9, g7, c3h, bx2] <;> try rfl
  · repeat (first | refine d4 ?_ | refine b8 ?_ | refine b7 ?_ | refine b9 ?_ | refine f5 rfl ?_ | refine d8 rfl ?_ | ((first | refine c5 (fun K hK => ?_) | refine d5 f8 (fun K hK => ?_) | fail); simp -implicitDefEqProofs [w2]; first | refine hK _ ?_ | refine hK _ _ (by rfl) ?_ | fail) | fail)
    refine ⟨k + 1, ⟨by omega, by rw [hs, hz, hb]; rfl⟩, (by dsimp only; omega), ?_⟩
    rw [hI]; exact f7 [0, 1] (by simp -implicitDefEqProofs [bx2]) (by simp -implicitDefEqProofs [bx2]) (by decide) rfl (by simp)
noncomputable def a1y (q : List Fc) (prs : List Pr) (a : Int) : Fc × Bool := match onP prs a with | none => (zF, false) | some x => c3h (a1k q x.2)
theorem b3f (a : Int) (q : List Fc) (prs : List Pr) (hq : q.length ≤ 1000000) (hp : prs.length ≤ 1000000) : Row Tryz.prog 15 [vI a, vFs q, vPs prs] [] (vFB (a1y q prs a)) [] := by
  have h1 := a55 27 a (b8b a) prs hp
  cases h : onP prs a with
  | none =>
    rw [show a1y q prs a = (zF, false) by unfold a1y; rw [h]]
    rw [h] at h1
    refine f6 Tryz.func15 rfl rfl (Nat.le_of_ble_eq_true rfl) ?_
    repeat (first | refine d4 ?_ | refine b8 ?_ | refine b7 ?_ | refine b9 ?_ | refine f5 rfl ?_ | refine d8 rfl ?_ | ((first | refine c5 (fun K hK => ?_) | refine d5 f8 (fun K hK => ?_) | fail); simp -implicitDefEqProofs; first | refine hK _ ?_ | refine hK _ _ (by rfl) ?_ | fail) | fail)
    refine c5 (fun K hK => ?_); simp -implicitDefEqProofs
    refine a9 (a0g h1 0 (by simp) (by simp [bx1]) (a74 _) (a37 a) rfl ?_)
    simp -implicitDefEqProofs [c53]; refine hK _ ?_
    repeat (first | refine d4 ?_ | refine b8 ?_ | refine b7 ?_ | refine b9 ?_ | refine f5 rfl ?_ | refine d8 rfl ?_ | ((first | refine c5 (fun K hK => ?_) | refine d5 f8 (fun K hK => ?_) | fail); simp -implicitDefEqProofs; first | refine hK _ ?_ | refine hK _ _ (by rfl) ?_ | fail) | fail)
    refine d7 (d6 ?_); simp -implicitDefEqProofs [g8, f9, g7, zF] <;> try rfl
  | some x =>
    obtain ⟨x1, x2⟩ := x
    have h2 := b4k (x1, x2) q hq
    rw [show a1y q prs a = c3h (a1k q x2) by unfold a1y; rw [h]]
    rw [h] at h1
    obtain ⟨⟨⟨fn, fp, ⟨frx, frl⟩, fd⟩, b⟩, hr⟩ : ∃ r, c3h (a1k q x2) = r := ⟨_, rfl⟩
    rw [show c3h (a1k q (x1, x2).2) = _ from hr] at h2
    rw [hr]
    refine f6 Tryz.func15 rfl rfl (Nat.le_of_ble_eq_true rfl) ?_
    repeat (first | refine d4 ?_ | refine b8 ?_ | refine b7 ?_ | refine b9 ?_ | refine f5 rfl ?_ | refine d8 rfl ?_ | ((first | refine c5 (fun K hK => ?_) | refine d5 f8 (fun K hK => ?_) | fail); simp -implicitDefEqProofs; first | refine hK _ ?_ | refine hK _ _ (by rfl) ?_ | fail) | fail)
    refine c5 (fun K hK => ?_); simp -implicitDefEqProofs
    refine a9 (a0g h1 0 (by simp) (by simp [bx1]) (a74 _) (a37 a) rfl ?_)
    simp -implicitDefEqProofs [c53]; refine hK _ ?_
    repeat (first | refine d4 ?_ | refine b8 ?_ | refine b7 ?_ | refine b9 ?_ | refine f5 rfl ?_ | refine d8 rfl ?_ | ((first | refine c5 (fun K hK => ?_) | refine d5 f8 (fun K hK => ?_) | fail); simp -implicitDefEqProofs; first | refine hK _ ?_ | refine hK _ _ (by rfl) ?_ | fail) | fail)
    refine c5 (fun K hK => ?_); simp -implicitDefEqProofs
    refine a9 (a0g h2 16 (by simp) (by simp [bx2]) (c7a _) (b60 _) rfl ?_)
    simp -implicitDefEqProofs; refine hK _ ?_
    repeat (first | refine d4 ?_ | refine b8 ?_ | refine b7 ?_ | refine b9 ?_ | refine f5 rfl ?_ | refine d8 rfl ?_ | ((first | refine c5 (fun K hK => ?_) | refine d5 f8 (fun K hK => ?_) | fail); simp -implicitDefEqProofs; first | refine hK _ ?_ | refine hK _ _ (by rfl) ?_ | fail) | fail)
    refine d7 (d6 ?_); simp -implicitDefEqProofs [g8, f9, g7] <;> try rfl
noncomputable def a6z (prs : List Pr) (a b : Int) : Bool := match onP prs b with | none => false | some z => decide (z.2 = a)
theorem a41 (a b : Int) (prs : List Pr) (hp : prs.length ≤ 1000000) : Row Tryz.prog 17 [vI a, vI b, vPs prs] [] (vB (a6z prs a b)) [] := by
  have h1 := a55 31 b (a9s b) prs hp
  cases h : onP prs b with
  | none =>
    rw [show a6z prs a b = false by unfold a6z; rw [h]]
    rw [h] at h1
    refine f6 Tryz.func17 rfl rfl (Nat.le_of_ble_eq_true rfl) ?_
    repeat (first | refine d4 ?_ | refine b8 ?_ | refine b7 ?_ | refine b9 ?_ | refine f5 rfl ?_ | refine d8 rfl ?_ | ((first | refine c5 (fun K hK => ?_) | refine d5 f8 (fun K hK => ?_) | fail); simp -implicitDefEqProofs; first | refine hK _ ?_ | refine hK _ _ (by rfl) ?_ | fail) | fail)
    refine c5 (fun K hK => ?_); simp -implicitDefEqProofs
    refine a9 (a0g h1 0 (by simp) (by simp [bx1]) (a74 _) (a37 b) rfl ?_)
    simp -implicitDefEqProofs [c53]; refine hK _ ?_
    repeat (first | refine d4 ?_ | refine b8 ?_ | refine b7 ?_ | refine b9 ?_ | refine f5 rfl ?_ | refine d8 rfl ?_ | ((first | refine c5 (fun K hK => ?_) | refine d5 f8 (fun K hK => ?_) | fail); simp -implicitDefEqProofs; first | refine hK _ ?_ | refine hK _ _ (by rfl) ?_ | fail) | fail)
    refine d7 (d6 ?_); simp -implicitDefEqProofs [g8, f9, g7] <;> try rfl
  | some x =>
    obtain ⟨x1, x2⟩ := x
    rw [show a6z prs a b = decide (x2 = a) by unfold a6z; rw [h]]
    rw [h] at h1
    refine f6 Tryz.func17 rfl rfl (Nat.le_of_ble_eq_true rfl) ?_
    repeat (first | refine d4 ?_ | refine b8 ?_ | refine b7 ?_ | refine b9 ?_ | refine f5 rfl ?_ | refine d8 rfl ?_ | ((first | refine c5 (fun K hK => ?_) | refine d5 f8 (fun K hK => ?_) | fail); simp -implicitDefEqProofs; first | refine hK _ ?_ | refine hK _ _ (by rfl) ?_ | fail) | fail)
    refine c5 (fun K hK => ?_); simp -implicitDefEqProofs
    refine a9 (a0g h1 0 (by simp) (by simp [bx1]) (a74 _) (a37 b) rfl ?_)
    simp -implicitDefEqProofs [c53]; refine hK _ ?_
    repeat (first | refine d4 ?_ | refine b8 ?_ | refine b7 ?_ | refine b9 ?_ | refine f5 rfl ?_ | refine d8 rfl ?_ | ((first | refine c5 (fun K hK => ?_) | refine d5 f8 (fun K hK => ?_) | fail); simp -implicitDefEqProofs; first | refine hK _ ?_ | refine hK _ _ (by rfl) ?_ | fail) | fail)
    refine d7 (d6 ?_); simp -implicitDefEqProofs [g8, f9, g7] <;> try rfl
theorem b5g (prs : List Pr) (hp : prs.length ≤ 1000000) : Row Tryz.prog 18 [vPs prs] [] (vPs (s5 prs)) [] := by
  refine f6 Tryz.func18 rfl rfl (Nat.le_of_ble_eq_true rfl) ?_
  repeat (first | refine d4 ?_ | refine b8 ?_ | refine b7 ?_ | refine b9 ?_ | refine f5 rfl ?_ | refine d8 rfl ?_ | ((first | refine c5 (fun K hK => ?_) | refine d5 f8 (fun K hK => ?_) | fail); simp -implicitDefEqProofs; first | refine hK _ ?_ | refine hK _ _ (by rfl) ?_ | fail) | fail)
  refine b6r 3 39 2 (by simp) ?_
  refine l7 (ι := Nat) (fun k => s7 [(3, .v (.c (.row 0 2 ((s5 (prs.take k)).map pcc)))), (6, vPs prs), (7, vI (prs.length : Nat)), (8, vI (k : Nat))] [some (.row 39 2)]) (fun k => k ≤ prs.length) (fun k => prs.length - k) 0 (Nat.zero_le _) (by unfold St.nil; exact f7 [5] (by simp -implicitDefEqProofs [s5]) (by simp -implicitDefEqProofs [s5]) (by decide) rfl (by simp)) (fun Z hI k hk => ?_)
  by_cases hkl : k < prs.length; rotate_left
  · have : k = prs.length := by omega
    subst this
    rw [List.take_length]
    repeat (first | refine d4 ?_ | refine b8 ?_ | refine b7 ?_ | refine b9 ?_ | refine f5 rfl ?_ | refine d8 rfl ?_ | ((first | refine c5 (fun K hK => ?_) | refine d5 f8 (fun K hK => ?_) | fail); simp -implicitDefEqProofs; first | refine hK _ ?_ | refine hK _ _ (by rfl) ?_ | fail) | fail)
    refine d7 (d6 ?_); simp -implicitDefEqProofs [g8, f9, g7] <;> try rfl
  obtain ⟨⟨y1, y2⟩, hy⟩ : ∃ y, prs[k]? = some y := ⟨_, List.getElem?_eq_getElem hkl⟩
  have hy' := (List.getElem?_eq_some_iff.1 hy).2
  have w2 : IntKind.i64.wrap ((k : Nat) + 1 : Int) = (k : Nat) + 1 := k9 _ (by omega) (by omega)
  have hs : s5 (prs.take (k + 1)) = s5 (prs.take k) ++ [(y2, y1)] := by unfold s5; rw [List.take_add_one, hy]; simp
  obtain ⟨L, hL⟩ : ∃ L, s5 (prs.take k) = L := ⟨_, rfl⟩
  have hLl : L.length = k := by rw [← hL]; unfold s5; rw [List.length_map, List.length_take]; omega
  rw [hL] at hs ⊢
  have b1 : (k + 1) * 16 ≤ 140737488355328 := by omega
  have b2 : k + 1 ≤ 140737488355328 := by omega
  repeat (first | refine d4 ?_ | refine b8 ?_ | refine b7 ?_ | refine b9 ?_ | refine f5 rfl ?_ | refine d8 rfl ?_ | ((first | refine c5 (fun K hK => ?_) | refine d5 f8 (fun K hK => ?_) | fail); simp -implicitDefEqProofs [hkl, hy, hy', hLl, b1, b2, w2]; first | refine hK _ ?_ | refine hK _ _ (by rfl) ?_ | fail) | fail)
  refine ⟨k + 1, by omega, (by dsimp only; omega), ?_⟩; rw [hI]; exact f7 [13] (by simp -implicitDefEqProofs [hs]) (by simp -implicitDefEqProofs [hs]) (by decide) rfl (by simp)
def okF (f : Fc) : Prop := f.ps.length ≤ 1000000 ∧ (∀ t ∈ f.ps, t.size ≤ 1000000) ∧ f.ret.size ≤ 1000000
theorem a8s (f g : Fc) (hf : okF f) (hg : okF g) : Row Tryz.prog 16 [vF f, vF g] [] (vB (r7 f g)) [] := by
  obtain ⟨fn, fp, ⟨frx, frl⟩, fd⟩ := f
  obtain ⟨gn, gp, ⟨grx, grl⟩, gd⟩ := g
  obtain ⟨f1, f2, f3⟩ := hf
  obtain ⟨g1, g2, g3⟩ := hg
  dsimp only at f1 f2 f3 g1 g2 g3
  have h := a96 (.mk frx frl) f3 (.mk grx grl) g3
  refine f6 Tryz.func16 rfl rfl (Nat.le_of_ble_eq_true rfl) ?_
  by_cases hl : fp.length = gp.length; rotate_left
  · have hl' : ¬ (fp.length : Int) = gp.length := by omega
    repeat (first | refine d4 ?_ | refine b8 ?_ | refine b7 ?_ | refine b9 ?_ | refine f5 rfl ?_ | refine d8 rfl ?_ | ((first | refine c5 (fun K hK => ?_) | refine d5 f8 (fun K hK => ?_) | fail); simp -implicitDefEqProofs [hl, hl']; first | refine hK _ ?_ | refine hK _ _ (by rfl) ?_ | fail) | fail)
    refine d7 (d6 ?_); simp -implicitDefEqProofs [g8, f9, g7, r7, hl] <;> try rfl
  by_cases hr : same (.mk frx frl) (.mk grx grl) = true; rotate_left
  · have hr : same (.mk frx frl) (.mk grx grl) = false := by simpa using hr
    rw [hr] at h
    repeat' (first | refine d4 ?_ | refine b8 ?_ | refine b7 ?_ | refine b9 ?_ | refine f5 rfl ?_ | refine d8 rfl ?_ | ((first | refine c5 (fun K hK => ?_) | refine d5 f8 (fun K hK => ?_) | refine a9 (cp h ?_) | refine a8 (dp h ?_) | fail); simp -implicitDefEqProofs [hl]) | refine hK _ ?_ | refine hK _ _ (by rfl) ?_ | fail)
    refine d7 (d6 ?_); simp -implicitDefEqProofs [g8, f9, g7, r7, hr] <;> try rfl
  rw [hr] at h
  repeat' (first | refine d4 ?_ | refine b8 ?_ | refine b7 ?_ | refine b9 ?_ | refine f5 rfl ?_ | refine d8 rfl ?_ | ((first | refine c5 (fun K hK => ?_) | refine d5 f8 (fun K hK => ?_) | refine a9 (cp h ?_) | refine a8 (dp h ?_) | fail); simp -implicitDefEqProofs [hl]) | refine hK _ ?_ | refine hK _ _ (by rfl) ?_ | fail)
  refine l7 (ι := Nat) (fun k => s7 [(2, .v (.c (.ptr 0 0))), (3, .v (.c (.ptr 1 0))), (23, vI (fp.length : Nat)), (24, vI (k : Nat))] [some (.box ((fcc ⟨fn, fp, .mk frx frl, fd⟩).map .pv)), some (.box ((fcc ⟨gn, gp, .mk grx grl, gd⟩).map .pv))]) (fun k => k ≤ fp.length ∧ a0v same fp gp k = true) (fun k => fp.length - k) 0 ⟨Nat.zero_le _, a07 _ _ _⟩ (f7 [0, 1] (by simp -implicitDefEqProofs [hl]) (by simp -implicitDefEqProofs [hl]) (by decide) rfl (by simp)) (fun Z hI k hkz => ?_)
  obtain ⟨hkl', hz⟩ := hkz
  by_cases hkl : k < fp.length; rotate_left
  · have : k = fp.length := by omega
    subst this
    have e : r7 ⟨fn, fp, .mk frx frl, fd⟩ ⟨gn, gp, .mk grx grl, gd⟩ = true := by unfold r7; rw [hz, hr]; simp [hl]
    rw [e]
    repeat (first | refine d4 ?_ | refine b8 ?_ | refine b7 ?_ | refine b9 ?_ | refine f5 rfl ?_ | refine d8 rfl ?_ | ((first | refine c5 (fun K hK => ?_) | refine d5 f8 (fun K hK => ?_) | fail); simp -implicitDefEqProofs; first | refine hK _ ?_ | refine hK _ _ (by rfl) ?_ | fail) | fail)
    refine d7 (d6 ?_); simp -implicitDefEqProofs [g8, f9, g7] <;> try rfl
  have hkm : k < gp.length := by omega
  obtain ⟨⟨ax, al⟩, ha⟩ : ∃ a, fp[k]? = some a := ⟨_, List.getElem?_eq_getElem hkl⟩
  obtain ⟨⟨bx, bl⟩, hb⟩ : ∃ a, gp[k]? = some a := ⟨_, List.getElem?_eq_getElem hkm⟩
  have ha' := (List.getElem?_eq_some_iff.1 ha).2
  have hb' := (List.getElem?_eq_some_iff.1 hb).2
  have w2 : IntKind.i64.wrap ((k : Nat) + 1 : Int) = (k : Nat) + 1 := k9 _ (by omega) (by omega)
  have hzs := t6 (f := same) ha hb
  have hc := a96 (.mk ax al) (f2 _ (List.mem_of_getElem? ha)) (.mk bx bl) (g2 _ (List.mem_of_getElem? hb))
  by_cases hs : same (.mk ax al) (.mk bx bl) = true
  · rw [hs] at hc
    clear h
    repeat' (first | refine d4 ?_ | refine b8 ?_ | refine b7 ?_ | refine b9 ?_ | refine f5 rfl ?_ | refine d8 rfl ?_ | ((first | refine c5 (fun K hK => ?_) | refine d5 f8 (fun K hK => ?_) | refine a9 (cp hc ?_) | refine a8 (dp hc ?_) | fail); simp -implicitDefEqProofs [hkl, hkm, ha, ha', hb, hb', w2]) | refine hK _ ?_ | refine hK _ _ (by rfl) ?_ | fail)
    refine ⟨k + 1, ⟨by omega, by rw [hzs, hz, hs]; rfl⟩, (by dsimp only; omega), ?_⟩
    rw [hI]; exact f7 [0, 1] (by simp -implicitDefEqProofs) (by simp -implicitDefEqProofs) (by decide) rfl (by simp)
  · have hs : same (.mk ax al) (.mk bx bl) = false := by simpa using hs
    rw [hs] at hc
    clear h
    repeat' (first | refine d4 ?_ | refine b8 ?_ | refine b7 ?_ | refine b9 ?_ | refine f5 rfl ?_ | refine d8 rfl ?_ | ((first | refine c5 (fun K hK => ?_) | refine d5 f8 (fun K hK => ?_) | refine a9 (cp hc ?_) | refine a8 (dp hc ?_) | fail); simp -implicitDefEqProofs [hkl, hkm, ha, ha', hb, hb', w2]) | refine hK _ ?_ | refine hK _ _ (by rfl) ?_ | fail)
    have e : a0v same fp gp fp.length = false := by
      have := a2q (fp.length - (k + 1)) (show a0v same fp gp (k + 1) = false by rw [hzs, hz, hs]; rfl)
      rwa [show k + 1 + (fp.length - (k + 1)) = fp.length by omega] at this
    refine d7 (d6 ?_); simp -implicitDefEqProofs [g8, f9, g7, r7, e] <;> try rfl
abbrev vNB (r : List Nn × Bool) : AV := .tup [.c (.pv (.sl 2 (r.1.map ncc))), .c (.pv (Bo r.2))]
theorem b17 (f g : Fc) : r7 f g = r7 g f := by
  unfold r7
  by_cases h : f.ps.length = g.ps.length
  · rw [a91 f.ret g.ret, h]
    congr 1
    have key : ∀ k, k ≤ g.ps.length → a0v same f.ps g.ps k = a0v same g.ps f.ps k := fun k => by
      induction k with
      | zero => intro _; simp [a0v]
      | succ k ihk =>
        intro hk
        have h1 : f.ps[k]? = some (f.ps[k]'(by omega)) := List.getElem?_eq_getElem _
        have h2 : g.ps[k]? = some (g.ps[k]'(by omega)) := List.getElem?_eq_getElem _
        rw [t6 h1 h2, t6 h2 h1, ihk (by omega), a91]
    exact key _ (Nat.le_refl _)
  · have h' : ¬ g.ps.length = f.ps.length := fun e => h e.symm
    simp [h, h']
theorem a9f {q : List Fc} {prs : List Pr} {f : Fc} : a0u q prs f = ((a1y q prs f.decl).2 && r7 f (a1y q prs f.decl).1 && a6z (s5 prs) f.decl (a1y q prs f.decl).1.decl) := by
  unfold a0u a1y
  cases h : onP prs f.decl with
  | none => rfl
  | some x =>
    dsimp only
    unfold c3h
    cases hg : a1k q x.2 with
    | none => rfl
    | some g =>
      have hd : g.decl = x.2 := by
        have := List.find?_some hg
        simpa [atD] using this
      dsimp only
      rw [hd]
      unfold a6z
      obtain ⟨z, hz⟩ := b6u h
      rw [hz, Bool.true_and, Bool.and_comm]
theorem b73 {q : List Fc} {prs : List Pr} {f : Fc} (h : a0u q prs f = true) : a25 q prs f = (f.name, (a1y q prs f.decl).1.name) := by
  unfold a0u at h
  unfold a25 a1y
  cases h1 : onP prs f.decl with
  | none => rw [h1] at h; cases h
  | some x =>
    rw [h1] at h
    dsimp only at h ⊢
    cases hg : a1k q x.2 with
    | none => rw [hg] at h; cases h
    | some g => rfl
theorem b3e {q : List Fc} {prs : List Pr} {a : Int} (hq : ∀ f ∈ q, okF f) : okF (a1y q prs a).1 := by
  have hz : okF zF := ⟨by simp [zF], by simp [zF], by simp [zF, Tr.size_mk]⟩
  unfold a1y
  cases h1 : onP prs a with
  | none => exact hz
  | some x =>
    dsimp only
    cases hg : a1k q x.2 with
    | none => exact hz
    | some g => exact hq g (List.mem_of_find?_eq_some hg)
theorem b74 (p q : List Fc) (prs : List Pr) (hp : p.length ≤ 1000000) (hq : q.length ≤ 1000000) (hr : prs.length ≤ 1000000) (kp : ∀ f ∈ p, okF f) (kq : ∀ f ∈ q, okF f) : Row Tryz.prog 9 [vFs p, vFs q, vPs prs] [] (vNB (a2e p q prs)) [] := by
  have ht := b5g prs hr
  refine f6 Tryz.func9 rfl rfl (Nat.le_of_ble_eq_true rfl) ?_
  repeat (first | refine d4 ?_ | refine b8 ?_ | refine b7 ?_ | refine b9 ?_ | refine f5 rfl ?_ | refine d8 rfl ?_ | ((first | refine c5 (fun K hK => ?_) | refine d5 f8 (fun K hK => ?_) | fail); simp -implicitDefEqProofs; first | refine hK _ ?_ | refine hK _ _ (by rfl) ?_ | fail) | fail)
  refine b6r 8 42 2 (by simp) ?_
  refine l7 (ι := Nat) (fun k => s7 [(0, vFs p), (1, vFs q), (2, vPs prs), (8, .v (.c (.row 0 2 (((p.take k).map (a25 q prs)).map ncc)))), (17, vFs p), (18, vI (p.length : Nat)), (19, vI (k : Nat))] [some (.row 42 2)]) (fun k => k ≤ p.length ∧ (p.take k).all (a0u q prs) = true) (fun k => p.length - k) 0 ⟨Nat.zero_le _, a18 _ _⟩ (by unfold St.nil; exact f7 [6] (by simp -implicitDefEqProofs) (by simp -implicitDefEqProofs) (by decide) rfl (by simp)) (fun Z hI k hk => ?_)
  obtain ⟨hk, hz⟩ := hk
  by_cases hkl : k < p.length
  · obtain ⟨f, hy⟩ : ∃ y, p[k]? = some y := ⟨_, List.getElem?_eq_getElem hkl⟩
    have hy' := (List.getElem?_eq_some_iff.1 hy).2
    have hs := a3p (f := a0u q prs) hy
    have hn : (p.take (k + 1)).map (a25 q prs) = (p.take k).map (a25 q prs) ++ [a25 q prs f] := by rw [List.take_add_one, hy]; simp
    have w2 : IntKind.i64.wrap ((k : Nat) + 1 : Int) = (k : Nat) + 1 := k9 _ (by omega) (by omega)
    have ho := b3f f.decl q prs hq hr
    have hgo := a9f (q := q) (prs := prs) (f := f)
    have hna := @b73 q prs f
    have hok := b3e (prs := prs) (a := f.decl) kq
    obtain ⟨L, hL⟩ : ∃ L, (p.take k).map (a25 q prs) = L := ⟨_, rfl⟩
    have hLl : L.length = k := by rw [← hL, List.length_map, List.length_take]; omega
    rw [hL] at hn ⊢
    have b1 : (k + 1) * 32 ≤ 140737488355328 := by omega
    have b2 : k + 1 ≤ 140737488355328 := by omega
    obtain ⟨⟨g, b⟩, hr'⟩ : ∃ r, a1y q prs f.decl = r := ⟨_, rfl⟩
    rw [hr'] at ho hgo hna hok
    dsimp only at hgo hna hok
    have ha := a8s f g (kp f (List.mem_of_getElem? hy)) hok
    have hb := a41 f.decl g.decl (s5 prs) (by unfold s5; rw [List.length_map]; exact hr)
    have no : a0u q prs f = false → a2e p q prs = ([], false) := fun h => by
      unfold a2e
      rw [if_neg]
      rw [c3a hy h]; simp
    obtain ⟨tb, htb⟩ : ∃ tb, r7 f g = tb := ⟨_, rfl⟩
    obtain ⟨bb, hbb⟩ : ∃ bb, a6z (s5 prs) f.decl g.decl = bb := ⟨_, rfl⟩
    rw [htb] at ha hgo
    rw [hbb] at hb hgo
    obtain ⟨fn, fp, ⟨frx, frl⟩, fd⟩ := f
    obtain ⟨gn, gp, ⟨grx, grl⟩, gd⟩ := g
    clear hok hr' htb hbb
    cases b
    · rw [no (by rw [hgo]; rfl)]
      repeat' (first | refine d4 ?_ | refine b8 ?_ | refine b7 ?_ | refine b9 ?_ | refine f5 rfl ?_ | refine d8 rfl ?_ | ((first | refine c5 (fun K hK => ?_) | refine d5 f8 (fun K hK => ?_) | refine a9 (cp ho ?_) | refine a8 (dp ho ?_) | fail); simp -implicitDefEqProofs [hkl, hy, hy', w2]) | refine hK _ ?_ | refine hK _ _ (by rfl) ?_ | fail)
      refine d7 (d6 ?_); simp -implicitDefEqProofs [g8, f9, g7] <;> try rfl
    cases tb
    · rw [no (by rw [hgo]; rfl)]
      repeat' (first | refine d4 ?_ | refine b8 ?_ | refine b7 ?_ | refine b9 ?_ | refine f5 rfl ?_ | refine d8 rfl ?_ | ((first | refine c5 (fun K hK => ?_) | refine d5 f8 (fun K hK => ?_) | refine a9 (cp ho ?_) | refine a8 (dp ho ?_) | refine a9 (cp ha ?_) | refine a8 (dp ha ?_) | fail); simp -implicitDefEqProofs [hkl, hy, hy', w2]) | refine hK _ ?_ | refine hK _ _ (by rfl) ?_ | fail)
      refine d7 (d6 ?_); simp -implicitDefEqProofs [g8, f9, g7] <;> try rfl
    cases bb
    · rw [no (by rw [hgo]; rfl)]
      repeat' (first | refine d4 ?_ | refine b8 ?_ | refine b7 ?_ | refine b9 ?_ | refine f5 rfl ?_ | refine d8 rfl ?_ | ((first | refine c5 (fun K hK => ?_) | refine d5 f8 (fun K hK => ?_) | refine a9 (cp ho ?_) | refine a8 (dp ho ?_) | refine a9 (cp ha ?_) | refine a8 (dp ha ?_) | refine a9 (cp hb ?_) | refine a8 (dp hb ?_) | refine a9 (cp ht ?_) | refine a8 (dp ht ?_) | fail); simp -implicitDefEqProofs [hkl, hy, hy', w2]) | refine hK _ ?_ | refine hK _ _ (by rfl) ?_ | fail)
      refine d7 (d6 ?_); simp -implicitDefEqProofs [g8, f9, g7] <;> try rfl
    have hgt : a0u q prs ⟨fn, fp, .mk frx frl, fd⟩ = true := by rw [hgo]; rfl
    rw [hna hgt] at hn
    clear no hna hgo
    repeat' (first | refine d4 ?_ | refine b8 ?_ | refine b7 ?_ | refine b9 ?_ | refine f5 rfl ?_ | refine d8 rfl ?_ | ((first | refine c5 (fun K hK => ?_) | refine d5 f8 (fun K hK => ?_) | refine a9 (cp ho ?_) | refine a8 (dp ho ?_) | refine a9 (cp ha ?_) | refine a8 (dp ha ?_) | refine a9 (cp hb ?_) | refine a8 (dp hb ?_) | refine a9 (cp ht ?_) | refine a8 (dp ht ?_) | fail); simp -implicitDefEqProofs [hkl, hy, hy', w2, hLl, b1, b2]) | refine hK _ ?_ | refine hK _ _ (by rfl) ?_ | fail)
    refine ⟨k + 1, ⟨by omega, by rw [hs, hz, hgt]; rfl⟩, (by dsimp only; omega), ?_⟩
    rw [hI]; exact f7 [175] (by simp -implicitDefEqProofs [hn]) (by simp -implicitDefEqProofs [hn]) (by decide) rfl (by simp)
  have hkl : k = p.length := by omega
  subst hkl
  rw [List.take_length] at hz ⊢
  repeat (first | refine d4 ?_ | refine b8 ?_ | refine b7 ?_ | refine b9 ?_ | refine f5 rfl ?_ | refine d8 rfl ?_ | ((first | refine c5 (fun K hK => ?_) | refine d5 f8 (fun K hK => ?_) | fail); simp -implicitDefEqProofs; first | refine hK _ ?_ | refine hK _ _ (by rfl) ?_ | fail) | fail)
  refine l7 (ι := Nat) (fun k => s7 [(0, vFs p), (2, vPs prs), (8, .v (.c (.row 0 2 ((p.map (a25 q prs)).map ncc)))), (58, vFs q), (59, vI (q.length : Nat)), (60, vI (k : Nat))] [some (.row 42 2)]) (fun k => k ≤ q.length ∧ (q.take k).all (a0u p (s5 prs)) = true) (fun k => q.length - k) 0 ⟨Nat.zero_le _, a18 _ _⟩ (f7 [0] (by simp -implicitDefEqProofs) (by simp -implicitDefEqProofs) (by decide) rfl (by simp)) (fun Z hI k hk => ?_)
  obtain ⟨hk, hz2⟩ := hk
  by_cases hkl : k < q.length
  · obtain ⟨f, hy⟩ : ∃ y, q[k]? = some y := ⟨_, List.getElem?_eq_getElem hkl⟩
    have hy' := (List.getElem?_eq_some_iff.1 hy).2
    have hs := a3p (f := a0u p (s5 prs)) hy
    have w2 : IntKind.i64.wrap ((k : Nat) + 1 : Int) = (k : Nat) + 1 := k9 _ (by omega) (by omega)
    have ho := b3f f.decl p (s5 prs) hp (by unfold s5; rw [List.length_map]; exact hr)
    have hgo := a9f (q := p) (prs := s5 prs) (f := f)
    rw [b9q] at hgo
    have hok := b3e (prs := s5 prs) (a := f.decl) kp
    obtain ⟨⟨g, b⟩, hr'⟩ : ∃ r, a1y p (s5 prs) f.decl = r := ⟨_, rfl⟩
    rw [hr'] at ho hgo hok
    dsimp only at hgo hok
    have ha := a8s g f hok (kq f (List.mem_of_getElem? hy))
    rw [b17] at ha
    have hb := a41 f.decl g.decl prs hr
    have no : a0u p (s5 prs) f = false → a2e p q prs = ([], false) := fun h => by
      unfold a2e
      rw [if_neg]
      rw [c3a hy h]; simp
    obtain ⟨tb, htb⟩ : ∃ tb, r7 f g = tb := ⟨_, rfl⟩
    obtain ⟨bb, hbb⟩ : ∃ bb, a6z prs f.decl g.decl = bb := ⟨_, rfl⟩
    rw [htb] at ha hgo
    rw [hbb] at hb hgo
    obtain ⟨fn, fp, ⟨frx, frl⟩, fd⟩ := f
    obtain ⟨gn, gp, ⟨grx, grl⟩, gd⟩ := g
    clear hok hr' htb hbb
    cases b
    · rw [no (by rw [hgo]; rfl)]
      repeat' (first | refine d4 ?_ | refine b8 ?_ | refine b7 ?_ | refine b9 ?_ | refine f5 rfl ?_ | refine d8 rfl ?_ | ((first | refine c5 (fun K hK => ?_) | refine d5 f8 (fun K hK => ?_) | refine a9 (cp ho ?_) | refine a8 (dp ho ?_) | refine a9 (cp ht ?_) | refine a8 (dp ht ?_) | fail); simp -implicitDefEqProofs [hkl, hy, hy', w2]) | refine hK _ ?_ | refine hK _ _ (by rfl) ?_ | fail)
      refine d7 (d6 ?_); simp -implicitDefEqProofs [g8, f9, g7] <;> try rfl
    cases tb
    · rw [no (by rw [hgo]; rfl)]
      repeat' (first | refine d4 ?_ | refine b8 ?_ | refine b7 ?_ | refine b9 ?_ | refine f5 rfl ?_ | refine d8 rfl ?_ | ((first | refine c5 (fun K hK => ?_) | refine d5 f8 (fun K hK => ?_) | refine a9 (cp ho ?_) | refine a8 (dp ho ?_) | refine a9 (cp ha ?_) | refine a8 (dp ha ?_) | refine a9 (cp ht ?_) | refine a8 (dp ht ?_) | fail); simp -implicitDefEqProofs [hkl, hy, hy', w2]) | refine hK _ ?_ | refine hK _ _ (by rfl) ?_ | fail)
      refine d7 (d6 ?_); simp -implicitDefEqProofs [g8, f9, g7] <;> try rfl
    cases bb
    · rw [no (by rw [hgo]; rfl)]
      repeat' (first | refine d4 ?_ | refine b8 ?_ | refine b7 ?_ | refine b9 ?_ | refine f5 rfl ?_ | refine d8 rfl ?_ | ((first | refine c5 (fun K hK => ?_) | refine d5 f8 (fun K hK => ?_) | refine a9 (cp ho ?_) | refine a8 (dp ho ?_) | refine a9 (cp ha ?_) | refine a8 (dp ha ?_) | refine a9 (cp hb ?_) | refine a8 (dp hb ?_) | refine a9 (cp ht ?_) | refine a8 (dp ht ?_) | fail); simp -implicitDefEqProofs [hkl, hy, hy', w2]) | refine hK _ ?_ | refine hK _ _ (by rfl) ?_ | fail)
      refine d7 (d6 ?_); simp -implicitDefEqProofs [g8, f9, g7] <;> try rfl
    have hgt : a0u p (s5 prs) ⟨fn, fp, .mk frx frl, fd⟩ = true := by rw [hgo]; rfl
    clear no hgo
    repeat' (first | refine d4 ?_ | refine b8 ?_ | refine b7 ?_ | refine b9 ?_ | refine f5 rfl ?_ | refine d8 rfl ?_ | ((first | refine c5 (fun K hK => ?_) | refine d5 f8 (fun K hK => ?_) | refine a9 (cp ho ?_) | refine a8 (dp ho ?_) | refine a9 (cp ha ?_) | refine a8 (dp ha ?_) | refine a9 (cp hb ?_) | refine a8 (dp hb ?_) | refine a9 (cp ht ?_) | refine a8 (dp ht ?_) | fail); simp -implicitDefEqProofs [hkl, hy, hy', w2]) | refine hK _ ?_ | refine hK _ _ (by rfl) ?_ | fail)
    refine ⟨k + 1, ⟨by omega, by rw [hs, hz2, hgt]; rfl⟩, (by dsimp only; omega), ?_⟩
    rw [hI]; exact f7 [0] (by simp -implicitDefEqProofs) (by simp -implicitDefEqProofs) (by decide) rfl (by simp)
  have hkl : k = q.length := by omega
  subst hkl
  rw [List.take_length] at hz2
  rw [show a2e p q prs = (p.map (a25 q prs), true) by unfold a2e; rw [if_pos]; rw [hz, hz2]; rfl]
  repeat (first | refine d4 ?_ | refine b8 ?_ | refine b7 ?_ | refine b9 ?_ | refine f5 rfl ?_ | refine d8 rfl ?_ | ((first | refine c5 (fun K hK => ?_) | refine d5 f8 (fun K hK => ?_) | fail); simp -implicitDefEqProofs; first | refine hK _ ?_ | refine hK _ _ (by rfl) ?_ | fail) | fail)
  refine d7 (d6 ?_); simp -implicitDefEqProofs [g8, f9, g7] <;> try rfl
theorem b4p {q : List Fc} {prs : List Pr} {f : Fc} (h : a0u q prs f = true) : ∃ x g, onP prs f.decl = some x ∧ a1k q x.2 = some g ∧ a25 q prs f = (f.name, g.name) := by
  unfold a0u at h
  unfold a25
  cases h1 : onP prs f.decl with
  | none => rw [h1] at h; cases h
  | some x =>
    rw [h1] at h
    dsimp only at h
    cases hg : a1k q x.2 with
    | none => rw [hg] at h; cases h
    | some g => exact ⟨x, g, rfl, hg, by dsimp only; rw [hg]⟩
noncomputable def f18 : Fc := ⟨⟨#[102]⟩, [], .mk ⟨0, 0, ⟨#[]⟩, 0, 0⟩ [], 3⟩
theorem c3i : a0u [f18] [(3, 3)] f18 = true := by
  have h : same f18.ret f18.ret = true := a45 _
  simp [a0u, onP, a1k, atA, atD, s5, r7, h, f18, a0v] 
  exact h
theorem c6g : a2e [f18] [f18] [(3, 3)] = ([(⟨#[102]⟩, ⟨#[102]⟩)], true) := by
  unfold a2e
  rw [show s5 [((3 : Int), (3 : Int))] = [(3, 3)] from rfl]
  rw [if_pos (by simp [c3i])]
  have := (b4p c3i)
  simp [a25, onP, a1k, atA, atD, f18]
theorem b02 : Row Tryz.prog 4 [] [] (vB true) [] := by
  have hk : ∀ f ∈ [f18], okF f := by simp [okF, f18, Tr.size_mk]
  have h := b74 [f18] [f18] [(3, 3)] (by simp) (by simp) (by simp) hk hk
  rw [c6g] at h
  unfold f18 at h
  refine f6 Tryz.func4 rfl rfl (Nat.le_of_ble_eq_true rfl) ?_
  repeat' (first | refine d4 ?_ | refine b8 ?_ | refine b7 ?_ | refine b9 ?_ | refine f5 rfl ?_ | refine d8 rfl ?_ | ((first | refine c5 (fun K hK => ?_) | refine d5 f8 (fun K hK => ?_) | refine a9 (cp h ?_) | refine a8 (dp h ?_) | fail); simp -implicitDefEqProofs [*]) | refine hK _ ?_ | refine hK _ _ (by rfl) ?_ | (refine u5 rfl (fun hb => ?_) (fun hb => ?_) <;> ((try simp only [decide_eq_true_eq, decide_eq_false_iff_not, Bool.not_eq_true', Bool.not_eq_false', Bool.not_eq_eq_eq_not, Bool.not_true, Bool.not_false, beq_iff_eq, beq_true, beq_false, bne_iff_ne, ne_eq, Decidable.not_not, Bool.and_eq_true, Bool.or_eq_true, Bool.and_eq_false_iff, Bool.or_eq_false_iff] at hb) <;> repeat' (refine Or.elim hb (fun hb => ?_) (fun hb => ?_)))) | ((first | refine a0h (fun hb => ?_) (fun hb => ?_) | refine x8 (fun hb => ?_) (fun hb => ?_) | fail) <;> ((try simp only [decide_eq_true_eq, decide_eq_false_iff_not, Bool.not_eq_true', Bool.not_eq_false', Bool.not_eq_eq_eq_not, Bool.not_true, Bool.not_false, beq_iff_eq, beq_true, beq_false, bne_iff_ne, ne_eq, Decidable.not_not, Bool.and_eq_true, Bool.or_eq_true, Bool.and_eq_false_iff, Bool.or_eq_false_iff] at hb) <;> repeat' (refine Or.elim hb (fun hb => ?_) (fun hb => ?_))) <;> simp -implicitDefEqProofs [*]) | fail)
  refine d7 (d6 ?_); simp -implicitDefEqProofs [g8, f9, g7] <;> try rfl
end Go.Proofs.YthkfdheoakbfnaaGreat.am
end
