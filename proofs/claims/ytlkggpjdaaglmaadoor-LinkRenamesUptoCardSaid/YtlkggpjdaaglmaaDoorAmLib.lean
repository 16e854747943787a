/-
  A machine of values: functions that are known otherwise (their call turns nothing below); what the library's variables hold. No program is named here.
-/
import Derived.Test.YtlkggpjdaaglmaaDoorAmOpen
import Derived.Below
namespace Go.Proofs.YtlkggpjdaaglmaaDoor.am
open Go.ChangeShapes Go.WideShapes Go.ChangeAt Go.RowKit
set_option linter.unusedVariables false

/-- What is kept behind a call that turns nothing below: all that was, and what it made. -/
abbrev newS (S : CS) (w w' : World) : CS := fun b o => S b o ∨ (w.heap.size ≤ b ∧ b < w'.heap.size)
theorem Mem.below {γ : Nat → G} {S : CS} {w w' : World} {ch : List AO} (hm : Mem ⟨w, S, γ, []⟩ (fun x => ch[x]?) (fun x => ch.length ≤ x) γ S w) (hb : Below w.heap.size w w') :
    Mem ⟨w, S, γ, []⟩ (fun x => ((ch.map some)[x]?).join) (fun x => (ch.map some).length ≤ x) γ (newS S w w') w' := by
  have hj : ∀ x, ((ch.map some)[x]?).join = ch[x]? := fun x => by
    rw [List.getElem?_map]
    cases ch[x]? <;> rfl
  refine ⟨hb.os, hb.tape, hb.output, hb.size, fun b h _ => hb.block b h, fun b o h => ⟨.inl h, hb.cell (p := ⟨b, o, none⟩) (hm.inb b o h)⟩, fun b o h => h.elim .inl (fun h => .inr (.inl h.1)), fun b o h => h.elim (fun h => Nat.lt_of_lt_of_le (hm.inb b o h) hb.size) (fun h => h.2), GOn.refl _,
    fun x hx => hm.un x (by rw [List.length_map] at hx; exact hx), fun x hx => hm.off x (by rw [← hj]; exact hx), fun x o hx => ?_, hm.dist, fun x b h => ⟨Nat.lt_of_lt_of_le (hm.live x b h).1 hb.size, (hm.live x b h).2⟩⟩
  refine Obj'.on (hm.obj x o (by rw [← hj]; exact hx)) rfl (GOn.refl _) (fun _ _ h => .inl h) (fun b o h => hb.cell (p := ⟨b, o, none⟩) (hm.inb b o h)) (fun b hbk => ⟨hb.block b (hm.live x b hbk).1, fun o h => h.elim (fun h => h) (fun h => ?_)⟩)
  have := (hm.live x b hbk).1
  exact absurd h.1 (Nat.not_le.2 this)
/-- A function whose call is known by itself. -/
theorem spec_of_below {P : Program} {f : FuncId} {args : List AV} {ch : List AO} {res : AV}
    (h : ∀ (γ : Nat → G) (S : CS) (w : World) (vs : List Value), Mem ⟨w, S, γ, []⟩ (fun x => ch[x]?) (fun x => ch.length ≤ x) γ S w → RepVs γ S w vs args →
      Calls P f vs.toArray w fun e w' => ∃ v, e = .returned v ∧ Below w.heap.size w w' ∧ RepV γ (newS S w w') w' v res) : Spec P f args ch res (ch.map some) := fun γ S w vs hm hv => by
  refine (h γ S w vs hm hv).mono ?_
  rintro e w' ⟨v, h1, h2, h3⟩
  exact ⟨v, γ, newS S w w', h1, hm.below h2, h3⟩
/-- A variable of the library's, of which all cells are known. -/
theorem lib_block {γ : Nat → G} {S : CS} {w : World} {x : Nat} {L : List (Nat × Array Value)} (h : Obj' γ S w x (.lib L)) {g : Nat} {cs : Array Value} (hg : (g, cs) ∈ L) (hne : 0 < cs.size) : ∃ t z, w.heap[g]? = some (.cells cs t z) := by
  have hc := fun o => (h.2 _ hg o).2
  dsimp only at hc
  have h0 := hc 0
  unfold World.cell? at hc h0
  cases hh : w.heap[g]? with
  | none => rw [hh] at h0; rw [Array.getElem?_eq_getElem hne] at h0; cases h0
  | some ob =>
    cases ob with
    | cells c t z =>
      refine ⟨t, z, ?_⟩
      have : c = cs := by
        apply Array.ext_getElem?
        intro i
        have := hc i
        rw [hh] at this
        simpa using this
      rw [this]
    | _ => rw [hh] at h0; rw [Array.getElem?_eq_getElem hne] at h0; cases h0
theorem lib_var {P : Program} {γ : Nat → G} {S : CS} {w : World} {x : Nat} {L : List (Nat × Array Value)} (h : Obj' γ S w x (.lib L)) {n : String} {g : Nat} (hn : P.globalNamed n = some g) {cs : Array Value} (hg : (g, cs) ∈ L) (hne : 0 < cs.size) : w.var? P n = some cs := by
  obtain ⟨t, z, hb⟩ := lib_block h hg hne
  unfold World.var?
  rw [hn]
  show (match w.heap[g]? with | some (.cells cs _ _) => some cs | _ => none) = _
  rw [hb]
theorem var_lib {P : Program} {w : World} {n : String} {g : Nat} (hn : P.globalNamed n = some g) {cs : Array Value} (h : w.var? P n = some cs) : ∀ o, g < w.heap.size ∧ w.cell? ⟨g, o, none⟩ = cs[o]? := by
  unfold World.var? at h
  rw [hn] at h
  have h : (match w.heap[g]? with | some (.cells cs _ _) => some cs | _ => none) = some cs := h
  intro o
  cases hh : w.heap[g]? with
  | none => rw [hh] at h; cases h
  | some ob =>
    refine ⟨(Array.getElem?_eq_some_iff.1 hh).1, ?_⟩
    cases ob with
    | cells c t z =>
      rw [hh] at h
      obtain rfl := Option.some.inj h
      unfold World.cell?
      rw [hh]
      rfl
    | _ => rw [hh] at h; cases h
/-- A law's call that is handed the library's variables. -/
theorem calls_of_lib {P : Program} {w : World} {f : FuncId} {args : List AV} {vs : List Value} {L : List (Nat × Array Value)} (h : Row P f args [.lib L] (.v (.c (.pv (.lit (.bool true))))) [some (.lib L)]) (hL : ∀ p ∈ L, ∀ o, p.1 < w.heap.size ∧ w.cell? ⟨p.1, o, none⟩ = p.2[o]?)
    (hv : RepVs (fun _ => .un) (oldS w) w vs args) : Calls P f vs.toArray w fun e w' => e = .returned (.bool true) ∧ Below w.heap.size w w' := by
  have hbk : ∀ x b, (((fun x : Nat => if x = 0 then G.lib else G.un) x).bk = some b) → False := fun x b h => by
    dsimp only at h
    by_cases hx : x = 0
    · rw [if_pos hx] at h; cases h
    · rw [if_neg hx] at h; cases h
  have hm : Mem ⟨w, oldS w, fun x => if x = 0 then .lib else .un, []⟩ (fun x => [AO.lib L][x]?) (fun x => [AO.lib L].length ≤ x) (fun x => if x = 0 then .lib else .un) (oldS w) w := by
    refine ⟨rfl, rfl, rfl, Nat.le_refl _, fun _ _ _ => rfl, fun _ _ h => ⟨h, rfl⟩, fun _ _ h => .inl h, fun _ _ h => h, GOn.refl _, fun x hx => ?_, fun x hx => ?_, fun x o hx => ?_, fun x y _ b h _ => hbk x b h, fun x b h => (hbk x b h).elim⟩
    · have hx : 1 ≤ x := hx
      exact if_neg (by omega)
    · left
      cases x with
      | zero => cases hx
      | succ x => rfl
    · cases x with
      | zero =>
        obtain rfl := Option.some.inj hx
        exact ⟨rfl, fun p hp o => hL p hp o⟩
      | succ x => simp at hx
  have hmono : ∀ (vs : List Value) (args : List AV), RepVs (fun _ => .un) (oldS w) w vs args → RepVs (fun x => if x = 0 then .lib else .un) (oldS w) w vs args := by
    intro vs
    induction vs with
    | nil => intro args h; cases args with
      | nil => trivial
      | cons _ _ => exact h.elim
    | cons v vs ih => intro args h; cases args with
      | nil => exact h.elim
      | cons a args => exact ⟨RepV.mono (fun _ => .inl rfl) (fun _ _ h => h) (fun _ _ _ => rfl) h.1, ih args h.2⟩
  refine (h.spec _ _ w vs hm (hmono vs args hv)).mono ?_
  rintro e w' ⟨v, γ', S', rfl, m, hr⟩
  obtain ⟨rfl, _⟩ := lit_inv hr
  exact ⟨rfl, m.os, m.tape, m.output, m.size, fun b hb => m.frame b hb (fun x h => hbk x b h)⟩
end Go.Proofs.YtlkggpjdaaglmaaDoor.am
