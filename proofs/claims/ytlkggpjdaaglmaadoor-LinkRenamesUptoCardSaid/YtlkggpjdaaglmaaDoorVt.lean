/-
  Terms, as trees: plain. No program is named here.
-/
import Derived.Test.YtlkggpjdaaglmaaDoorAmB
namespace Go.Proofs.YtlkggpjdaaglmaaDoor.vt
open Go.Proofs.YtlkggpjdaaglmaaDoor.am
set_option linter.unusedVariables false

inductive Tr (α : Type) where
  | mk (x : α) (l : List (Tr α))
namespace Tr
variable {α : Type}
def lab : Tr α → α
  | .mk x _ => x
def kids : Tr α → List (Tr α)
  | .mk _ l => l
theorem ind {P : Tr α → Prop} (h : ∀ x l, (∀ y ∈ l, P y) → P (.mk x l)) (t : Tr α) : P t :=
  Tr.rec (motive_1 := P) (motive_2 := fun l => ∀ y ∈ l, P y) h (fun y hy => by simp at hy) (fun x l hx hl y hy => by
    rcases List.mem_cons.1 hy with rfl | hy
    · exact hx
    · exact hl y hy) t
theorem eta (t : Tr α) : Tr.mk t.lab t.kids = t := by cases t; rfl
/-- What is made of a tree out of what is made of its parts. -/
noncomputable def fold {β : Type} (g : α → List (Tr α) → List β → β) (t : Tr α) : β :=
  Tr.rec (motive_1 := fun _ => β) (motive_2 := fun _ => List β) (fun x l ih => g x l ih) [] (fun _ _ a b => a :: b) t
theorem fold_mk {β : Type} (g : α → List (Tr α) → List β → β) (x : α) (l : List (Tr α)) : fold g (.mk x l) = g x l (l.map (fold g)) := by
  show g x l _ = _
  congr 1
  induction l with
  | nil => rfl
  | cons y l ih => show fold g y :: _ = _; rw [ih]; rfl
noncomputable def size (t : Tr α) : Nat := fold (fun _ _ b => 1 + b.sum) t
theorem size_mk (x : α) (l : List (Tr α)) : size (.mk x l) = 1 + (l.map size).sum := fold_mk _ x l
theorem size_pos (t : Tr α) : 0 < size t := by cases t; rw [size_mk]; omega
theorem size_at {x : α} {l : List (Tr α)} {i : Nat} {y : Tr α} (h : l[i]? = some y) : size y < size (.mk x l) := by
  rw [size_mk]
  have : size y ≤ (l.map size).sum := by
    induction l generalizing i with
    | nil => simp at h
    | cons z l ih =>
      cases i with
      | zero => simp at h; subst h; simp
      | succ i => have := ih (by simpa using h); simp; omega
  omega
theorem len_size {x : α} {l : List (Tr α)} : l.length < size (.mk x l) := by
  rw [size_mk]
  have : l.length ≤ (l.map size).sum := by
    induction l with
    | nil => simp
    | cons z l ih => have := size_pos z; simp; omega
  omega
/-- Every label of a tree. -/
noncomputable def all (p : α → Prop) (t : Tr α) : Prop := fold (fun x _ b => p x ∧ ∀ q ∈ b, q) t
theorem all_mk (p : α → Prop) (x : α) (l : List (Tr α)) : all p (.mk x l) ↔ p x ∧ ∀ y ∈ l, all p y := by
  unfold all
  rw [fold_mk]
  constructor
  · rintro ⟨h1, h2⟩; exact ⟨h1, fun y hy => h2 _ (List.mem_map_of_mem hy)⟩
  · rintro ⟨h1, h2⟩; refine ⟨h1, fun q hq => ?_⟩
    obtain ⟨y, hy, rfl⟩ := List.mem_map.1 hq
    exact h2 y hy
end Tr

/-- What a term says beside its parts. -/
structure Lab where
  k : Int
  n : Int
  s : ByteArray
  f : Int
  t : Int
def Lab.ok (x : Lab) : Prop := (-9223372036854775808 ≤ x.k ∧ x.k ≤ 9223372036854775807) ∧ (-9223372036854775808 ≤ x.n ∧ x.n ≤ 9223372036854775807) ∧ (-9223372036854775808 ≤ x.f ∧ x.f ≤ 9223372036854775807) ∧ (-9223372036854775808 ≤ x.t ∧ x.t ≤ 9223372036854775807)
abbrev VT := Tr Lab
/-- Its numbers fit. -/
noncomputable abbrev in64 (t : VT) : Prop := Tr.all Lab.ok t
abbrev I (z : Int) : PV := .lit (.int .i64 z)
abbrev Sx (s : ByteArray) : PV := .lit (.string s)
abbrev Bo (b : Bool) : PV := .lit (.bool b)
abbrev vI (z : Int) : AV := .v (.c (.pv (I z)))
abbrev vS (s : ByteArray) : AV := .v (.c (.pv (Sx s)))
abbrev vB (b : Bool) : AV := .v (.c (.pv (Bo b)))
/-- A term's cells. -/
noncomputable def tc (t : VT) : List PV := Tr.fold (fun x _ b => [I x.k, I x.n, Sx x.s, .sl 6 b, I x.f, I x.t]) t
theorem tc_mk (x : Lab) (l : List VT) : tc (.mk x l) = [I x.k, I x.n, Sx x.s, .sl 6 (l.map tc), I x.f, I x.t] := Tr.fold_mk _ x l
theorem tc_len (t : VT) : (tc t).length = 6 := by cases t; rw [tc_mk]; rfl
noncomputable def ta (t : VT) : List AC := (tc t).map .pv
theorem ta_mk (x : Lab) (l : List VT) : ta (.mk x l) = [.pv (I x.k), .pv (I x.n), .pv (Sx x.s), .pv (.sl 6 (l.map tc)), .pv (I x.f), .pv (I x.t)] := by unfold ta; rw [tc_mk]; rfl
noncomputable abbrev vT (t : VT) : AV := .v (.agg (ta t))
/-- A slice of terms, by what it holds. -/
noncomputable abbrev vLs (l : List VT) : AV := .v (.c (.pv (.sl 6 (l.map tc))))
theorem ta_len (t : VT) : (ta t).length = 6 := by unfold ta; rw [List.length_map]; exact tc_len t
theorem mapM_pure (l : List PV) : (l.map AC.pv).mapM pureC = some l := by
  induction l with
  | nil => rfl
  | cons p l ih => rw [List.map_cons, List.mapM_cons, ih]; rfl
theorem ta_pure (t : VT) : (ta t).mapM pureC = some (tc t) := mapM_pure _
theorem fit_pure {n : Nat} {ρ : Nat → Nat} (l : List PV) : fitCs n ρ (l.map AC.pv) (l.map AC.pv) := by
  induction l with
  | nil => trivial
  | cons p l ih => exact ⟨fitP_refl p, ih⟩
theorem fit_ta {n : Nat} {ρ : Nat → Nat} (t : VT) : fitCs n ρ (ta t) (ta t) := fit_pure _
theorem ta_take (t : VT) : (ta t).take 6 = ta t := List.take_of_length_le (by rw [ta_len]; exact Nat.le_refl _)
attribute [simp] ta_mk tc_mk ta_len tc_len ta_pure fit_ta fit_pure ta_take
theorem ren_pure (ρ : Nat → Nat) (l : List PV) : (l.map AC.pv).map (AC.ren ρ) = l.map AC.pv := by
  rw [List.map_map]; rfl
theorem vT_ren (t : VT) (ρ : Nat → Nat) : (vT t).ren ρ = vT t := by
  show AV.v (.agg (((tc t).map AC.pv).map (AC.ren ρ))) = _
  rw [ren_pure]; rfl
end Go.Proofs.YtlkggpjdaaglmaaDoor.vt
