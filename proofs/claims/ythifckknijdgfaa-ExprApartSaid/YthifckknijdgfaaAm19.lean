/-
  A machine of values: conditions that are not known; a slice that is nil as one of the call's own. No program is named here.
-/
import Derived.Test.YthifckknijdgfaaAm18
namespace Go.Proofs.Ythifckknijdgfaa.am
open Go.ChangeShapes Go.WideShapes Go.ChangeAt Go.RowKit
set_option linter.unusedVariables false
set_option linter.unusedSimpArgs false
section
variable {P : Program} {N : Nat} {ds : List (Option Nat)} {dst : Option Nat} {op : Op} {st : St} {os : List Oper} {K : St → Prop} {lg : List Lg} {KD : St → List Lg → Prop}
theorem gx_split {b : Bool} (h1 : b = true → GX P N ds (some true) dst op st os K) (h2 : b = false → GX P N ds (some false) dst op st os K) : GX P N ds (some b) dst op st os K := by
  cases b
  · exact h2 rfl
  · exact h1 rfl
theorem gxd_split {b : Bool} (h1 : b = true → GXD P N ds (some true) dst op st lg os KD) (h2 : b = false → GXD P N ds (some false) dst op st lg os KD) : GXD P N ds (some b) dst op st lg os KD := by
  cases b
  · exact h2 rfl
  · exact h1 rfl
end
section
variable {X : Ctx} {H : Nat → Option AO} {U : Nat → Prop} {γ : Nat → G} {S : CS} {w : World}
/-- nil, named. -/
theorem Mem.nilrow (h : Mem X H U γ S w) {nm : Nat} (hn : U nm) (e : TypeId) (es : Nat) : Mem X (upd H nm (some (.row e es))) (fun x => U x ∧ x ≠ nm) (upd γ nm (.val (.slice none 0 0))) S w := by
  have hG := GOn.upd_un (h.un nm hn) (.val (.slice none 0 0))
  refine ⟨h.os, h.tape, h.output, h.size, h.frame, h.keep, h.fresh, h.inb, h.mono.trans hG, fun x hx => ?_, fun x hx => ?_, fun x o' hx => ?_, fun x y hxy b hbx hby => ?_, fun x b hb => ?_⟩
  · rw [upd_ne γ _ hx.2]; exact h.un x hx.1
  · by_cases hxn : x = nm
    · subst hxn; rw [upd_same] at hx; cases hx
    · rw [upd_ne _ _ hxn] at hx ⊢; exact h.off x hx
  · by_cases hxn : x = nm
    · subst hxn; rw [upd_same] at hx; cases hx
      exact ⟨_, 0, [], upd_same _ _ _, ⟨by simp, .inl ⟨rfl, rfl⟩⟩, fun b hb => by cases hb⟩
    · rw [upd_ne _ _ hxn] at hx
      exact Obj'.on (h.obj x o' hx) (upd_ne γ _ hxn) hG (fun _ _ h => h) (fun _ _ _ => rfl) (fun b hb => ⟨rfl, fun _ h => h⟩)
  · by_cases hxn : x = nm
    · subst hxn; rw [upd_same] at hbx; cases hbx
    · by_cases hyn : y = nm
      · subst hyn; rw [upd_same] at hby; cases hby
      · rw [upd_ne _ _ hxn] at hbx; rw [upd_ne _ _ hyn] at hby; exact h.dist x y hxy b hbx hby
  · by_cases hxn : x = nm
    · subst hxn; rw [upd_same] at hb; cases hb
    · rw [upd_ne _ _ hxn] at hb
      refine (h.live x b hb).imp id (fun k => ?_)
      exact k
theorem nil_row_rep {γ' : Nat → G} {v : Value} {nm es : Nat} (h : RepV γ S w v (.v (.c (.pv .nilS)))) (hg : γ' nm = .val (.slice none 0 0)) : RepC γ' S w v (.row nm es []) := by
  obtain rfl := nilS_inv h
  exact ⟨.emp none 0 es (by omega) (fun _ => rfl), .inr hg⟩
end
section
variable {P : Program} {N nb : Nat} {st : St} {Q : Exit → St → Prop}
/-- The state in which a slot that holds nil holds a slice of the call's own. -/
def St.nil (st : St) (t : Nat) (e : TypeId) (es : Nat) : St := ⟨(t, .v (.c (.row st.nx es []))) :: st.tm, (st.nx, some (.row e es)) :: st.hp, st.nx + 1⟩
theorem aw_nil {c : Code} (t : Nat) (e : TypeId) (es : Nat) (ht : lk st.tm t = .v (.c (.pv .nilS))) (h : AW P N nb c (st.nil t e es) Q) : AW P N nb c st Q := by
  refine aw_cov (fun X hX a w hr => ?_) h
  obtain ⟨h1, h2, γ, S, hm, ha⟩ := hr
  have hG := GOn.upd_un (hm.un st.nx (Nat.le_refl _)) (.val (.slice none 0 0))
  refine ⟨h1, h2, upd γ st.nx (.val (.slice none 0 0)), S, ?_, fun s => ?_⟩
  · have := hm.nilrow (nm := st.nx) (Nat.le_refl _) e es
    show Mem X (hlk ((st.nx, some (.row e es)) :: st.hp)) _ _ _ _
    rw [hlk_cons]
    exact this.less (fun x hx => ⟨by have : st.nx + 1 ≤ x := hx
                                     omega, by have : st.nx + 1 ≤ x := hx
                                               omega⟩)
  · show RepV _ _ _ _ (if s = t then _ else lk st.tm s)
    by_cases hs : s = t
    · rw [if_pos hs]
      subst hs
      have := ha s
      rw [ht] at this
      exact nil_row_rep this (upd_same _ _ _)
    · rw [if_neg hs]
      exact (ha s).mono hG (fun _ _ h => h) (fun _ _ _ => rfl)
/-- .. a variable's cell. -/
def St.nilc (st : St) (id j : Nat) (cells : List AC) (e : TypeId) (es : Nat) : St := ⟨st.tm, (id, some (.box (cells.set j (.row st.nx es [])))) :: (st.nx, some (.row e es)) :: st.hp, st.nx + 1⟩
theorem aw_nilc {c : Code} (id j : Nat) (cells : List AC) (e : TypeId) (es : Nat) (hid : hlk st.hp id = some (.box cells)) (hj : cells[j]? = some (.pv .nilS)) (hlt : id < st.nx) (h : AW P N nb c (st.nilc id j cells e es) Q) : AW P N nb c st Q := by
  refine aw_cov (fun X hX a w hr => ?_) h
  obtain ⟨h1, h2, γ, S, hm, ha⟩ := hr
  have hG := GOn.upd_un (hm.un st.nx (Nat.le_refl _)) (.val (.slice none 0 0))
  refine ⟨h1, h2, upd γ st.nx (.val (.slice none 0 0)), S, ?_, fun s => (ha s).mono hG (fun _ _ h => h) (fun _ _ _ => rfl)⟩
  have m := hm.nilrow (nm := st.nx) (Nat.le_refl _) e es
  show Mem X (hlk ((id, some (.box (cells.set j (.row st.nx es [])))) :: (st.nx, some (.row e es)) :: st.hp)) _ _ _ _
  rw [hlk_cons, hlk_cons]
  have hne : id ≠ st.nx := by omega
  have hid' : upd (hlk st.hp) st.nx (some (.row e es)) id = some (.box cells) := by rw [upd_ne _ _ hne]; exact hid
  refine { m with un := fun x hx => m.un x ⟨by have : st.nx + 1 ≤ x := hx
                                               omega, by have : st.nx + 1 ≤ x := hx
                                                         omega⟩, off := fun x hx => ?_, obj := fun x o hx => ?_ }
  · by_cases hxi : x = id
    · subst hxi; rw [upd_same] at hx; cases hx
    · rw [upd_ne _ _ hxi] at hx; exact m.off x hx
  · by_cases hxi : x = id
    · subst hxi
      rw [upd_same] at hx; cases hx
      obtain ⟨b, cs, t, k1, k2, k3, k4⟩ := m.obj x _ hid'
      refine ⟨b, cs, t, k1, k2, ⟨by rw [List.length_set]; exact k3.1, fun i ac hi => ?_⟩, k4⟩
      rw [List.getElem?_set] at hi
      split at hi
      · rename_i hij
        split at hi
        · cases hi
          subst hij
          obtain ⟨v, g1, g2⟩ := k3.2 j _ hj
          exact ⟨v, g1, nil_row_rep (γ := upd γ st.nx (.val (.slice none 0 0))) g2 (upd_same _ _ _)⟩
        · cases hi
      · exact k3.2 i ac hi
    · rw [upd_ne _ _ hxi] at hx; exact m.obj x o hx
end
@[simp] theorem fitQ_refl : ∀ l : List PV, fitQ l l
  | [] => by rw [fitQ_nil]; trivial
  | a :: l => by rw [fitQ_cons]; exact ⟨fitP_refl a, fitQ_refl l⟩
@[simp] theorem fitQs_app (l a b : List (List PV)) : fitQs (l ++ a) (l ++ b) ↔ fitQs a b := by
  induction l with
  | nil => rfl
  | cons x l ih => rw [List.cons_append, List.cons_append, fitQs_cons, ih]; exact ⟨fun h => h.2, fun h => ⟨fitQ_refl x, h⟩⟩
@[simp] theorem take_len_map {α β : Type} (f : α → β) (l : List α) : List.take l.length (List.map f l) = List.map f l := List.take_of_length_le (by rw [List.length_map]; exact Nat.le_refl _)
theorem three_of {α : Type} {l : List α} (h : l.length = 3) : ∃ a b c, l = [a, b, c] := by
  match l, h with
  | [a, b, c], _ => exact ⟨a, b, c, rfl⟩
theorem two_of {α : Type} {l : List α} (h : l.length = 2) : ∃ a b, l = [a, b] := by
  match l, h with
  | [a, b], _ => exact ⟨a, b, rfl⟩
theorem one_of {α : Type} {l : List α} (h : l.length = 1) : ∃ a, l = [a] := by
  match l, h with
  | [a], _ => exact ⟨a, rfl⟩
end Go.Proofs.Ythifckknijdgfaa.am
