/-
  Layer 18: faces, pairs, namings: plain; lists gone along. No program is named here.
-/
import Derived.Test.YthifckknijdgfaaVtTerm
namespace Go.Proofs.Ythifckknijdgfaa.vt
open Go.Proofs.Ythifckknijdgfaa.am
set_option linter.unusedVariables false

section
variable {α : Type} {f : α → Bool} {l : List α} {k : Nat} {y : α}
theorem all_take0 (f : α → Bool) (l : List α) : (l.take 0).all f = true := by simp
theorem all_succ (h : l[k]? = some y) : (l.take (k + 1)).all f = ((l.take k).all f && f y) := by
  rw [List.take_add_one, h]; simp
theorem all_no (h : l[k]? = some y) (hf : f y = false) : l.all f = false := List.all_eq_false.2 ⟨y, List.mem_of_getElem? h, by simp [hf]⟩
theorem find_hit (hk : (l.take k).all (fun y => !f y) = true) (h : l[k]? = some y) (hf : f y = true) : l.find? f = some y := by
  have e : l = l.take k ++ (y :: l.drop (k + 1)) := by
    have hj := (List.getElem?_eq_some_iff.1 h)
    conv => lhs; rw [← List.take_append_drop k l, List.drop_eq_getElem_cons hj.1, hj.2]
  rw [e, List.find?_append]
  have : (l.take k).find? f = none := by
    rw [List.find?_eq_none]
    intro x hx
    have := List.all_eq_true.1 hk x hx
    simpa using this
  rw [this]; simp [hf]
theorem find_end (hk : (l.take l.length).all (fun y => !f y) = true) : l.find? f = none := by
  rw [List.take_length] at hk
  rw [List.find?_eq_none]
  intro x hx
  have := List.all_eq_true.1 hk x hx
  simpa using this
end

structure Fc where
  name : ByteArray
  ps : List VT
  ret : VT
  decl : Int
noncomputable def fcc (x : Fc) : List PV := [Sx x.name, .sl 6 (x.ps.map tc)] ++ (tc x.ret ++ [I x.decl])
theorem fcc_mk (n : ByteArray) (ps : List VT) (rx : Lab) (rl : List VT) (d : Int) : fcc ⟨n, ps, .mk rx rl, d⟩ = [Sx n, .sl 6 (ps.map tc), I rx.k, I rx.n, Sx rx.s, .sl 6 (rl.map tc), I rx.f, I rx.t, I d] := by
  unfold fcc; rw [tc_mk]; rfl
abbrev Pr := Int × Int
def pcc (p : Pr) : List PV := [I p.1, I p.2]
abbrev Nn := ByteArray × ByteArray
def ncc (p : Nn) : List PV := [Sx p.1, Sx p.2]
theorem pcc_mk (a b : Int) : pcc (a, b) = [I a, I b] := rfl
theorem ncc_mk (a b : ByteArray) : ncc (a, b) = [Sx a, Sx b] := rfl
attribute [simp] fcc_mk pcc_mk ncc_mk
noncomputable abbrev vF (x : Fc) : AV := .v (.agg ((fcc x).map .pv))
noncomputable abbrev vFs (l : List Fc) : AV := .v (.c (.pv (.sl 9 (l.map fcc))))
abbrev vPs (l : List Pr) : AV := .v (.c (.pv (.sl 2 (l.map pcc))))
abbrev vNs (l : List Nn) : AV := .v (.c (.pv (.sl 2 (l.map ncc))))

/-- Where a place goes. -/
def atA (a : Int) (p : Pr) : Bool := decide (p.1 = a)
def onP (l : List Pr) (a : Int) : Option Pr := l.find? (atA a)
def turnP (l : List Pr) : List Pr := l.map fun p => (p.2, p.1)
theorem turn_turn (l : List Pr) : turnP (turnP l) = l := by
  unfold turnP; rw [List.map_map]; exact List.map_id' l
def atD (d : Int) (f : Fc) : Bool := decide (f.decl = d)
def findF (l : List Fc) (d : Int) : Option Fc := l.find? (atD d)
noncomputable def typesF (f g : Fc) : Bool := decide (f.ps.length = g.ps.length) && same f.ret g.ret && zipA same f.ps g.ps f.ps.length
/-- A face goes over, and back. -/
noncomputable def goesF (q : List Fc) (prs : List Pr) (f : Fc) : Bool :=
  match onP prs f.decl with
  | none => false
  | some x => match findF q x.2 with
    | none => false
    | some g => (match onP (turnP prs) x.2 with | some z => decide (z.2 = f.decl) | none => false) && typesF f g
noncomputable def nameF (q : List Fc) (prs : List Pr) (f : Fc) : Nn :=
  match onP prs f.decl with
  | none => (⟨#[]⟩, ⟨#[]⟩)
  | some x => match findF q x.2 with
    | none => (⟨#[]⟩, ⟨#[]⟩)
    | some g => (f.name, g.name)
noncomputable def namesF (p q : List Fc) (prs : List Pr) : List Nn × Bool :=
  if (p.all (goesF q prs) && q.all (goesF p (turnP prs))) = true then (p.map (nameF q prs), true) else ([], false)
theorem back_some {l : List Pr} {a : Int} {x : Pr} (h : onP l a = some x) : ∃ z, onP (turnP l) x.2 = some z := by
  cases hz : onP (turnP l) x.2 with
  | some z => exact ⟨z, rfl⟩
  | none =>
    have hm := List.mem_of_find?_eq_some h
    have := List.find?_eq_none.1 hz (x.2, x.1) (List.mem_map.2 ⟨x, hm, rfl⟩)
    simp [atA] at this
theorem eqv_symm {p : Lab → Lab → Bool} (hp : ∀ x y, p x y = p y x) (t : VT) : ∀ u, eqv p t u = eqv p u t := by
  induction t using Tr.ind with
  | h x l ih =>
  intro u
  obtain ⟨y, m⟩ := u
  rw [eqv_mk, eqv_mk, hp x y]
  by_cases h : l.length = m.length
  · rw [h]
    congr 1
    have key : ∀ k, k ≤ m.length → zipA (eqv p) l m k = zipA (eqv p) m l k := fun k => by
      induction k with
      | zero => intro _; simp [zipA]
      | succ k ihk =>
        intro hk
        have h1 : l[k]? = some (l[k]'(by omega)) := List.getElem?_eq_getElem _
        have h2 : m[k]? = some (m[k]'(by omega)) := List.getElem?_eq_getElem _
        rw [zipA_succ h1 h2, zipA_succ h2 h1, ihk (by omega), ih _ (List.mem_of_getElem? h1)]
    exact key _ (Nat.le_refl _)
  · have h' : ¬ m.length = l.length := fun e => h e.symm
    simp [h, h']
theorem same_symm (t u : VT) : same t u = same u t := eqv_symm (fun x y => by simp only [pS, eq_comm]) t u
end Go.Proofs.Ythifckknijdgfaa.vt
