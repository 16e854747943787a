/-
  Slices whose elements are structs, read from memory: 'Recs size Elem w a n c l': the slice (a, n, c) has the elements l, each of 'size' cells, of which 'Elem' says what they hold. No program is named here.
-/
import Derived.Test.YtlkggpjdaaglmaaDoorOwn
import Derived.ChangeOld
import Derived.Deep.Slices
namespace Go.Proofs.YtlkggpjdaaglmaaDoor.bs
open Go.ChangeShapes Go.WideShapes Go.ChangeAt Go.RowKit
set_option linter.unusedVariables false

structure Recs {α : Type} (size : Nat) (Elem : World → Nat → Nat → α → Prop) (w : World) (a : Option Addr) (n c : Nat) (l : List α) : Prop where
  len : l.length = n
  cap : n ≤ c
  most : c ≤ 9223372036854775807
  nil : a = none → c = 0
  at' : n = 0 ∨ ∃ b off, a = some ⟨b, off, none⟩ ∧ b < w.heap.size ∧ ∀ i x, l[i]? = some x → Elem w b (off + i * size) x

/-- An element stays where nothing below is turned. -/
def Stays {α : Type} (Elem : World → Nat → Nat → α → Prop) : Prop := ∀ w w' b o x, Elem w b o x → b < w.heap.size → Below w.heap.size w w' → Elem w' b o x

theorem Recs.below {α : Type} {size : Nat} {Elem : World → Nat → Nat → α → Prop} (hs : Stays Elem) {w w' : World} {a n c l} (h : Recs size Elem w a n c l) (hb : Below w.heap.size w w') : Recs size Elem w' a n c l := by
  refine ⟨h.len, h.cap, h.most, h.nil, ?_⟩
  rcases h.at' with h0 | ⟨b, off, ha, hlt, hc⟩
  · exact .inl h0
  · exact .inr ⟨b, off, ha, Nat.lt_of_lt_of_le hlt hb.size, fun i x hi => hs w w' b _ x (hc i x hi) hlt hb⟩

theorem Recs.drewN {α : Type} {size : Nat} {Elem : World → Nat → Nat → α → Prop} (hs : Stays Elem) {w : World} {a n c l} (h : Recs size Elem w a n c l) (m : Nat) : Recs size Elem (w.drewN m) a n c l :=
  h.below hs (below_drewN (Below.refl _ _) m)

theorem cell_new (W : World) (cs : Array Value) (e : TypeId) (B k : Nat) (hB : B = W.heap.size) : (W.alloc (.cells cs e)).cell? ⟨B, k, none⟩ = cs[k]? := by
  subst hB
  exact cell_of_row _ _ k cs e (0, 0) (heap_alloc_new W _)

section
variable {H : Type} {enc : TypeId × Value → H} {P : Program} {w : World}

theorem choose_list {α : Type} (n : Nat) (Q : Nat → α → Prop) (h : ∀ i, i < n → ∃ x, Q i x) : ∃ l : List α, l.length = n ∧ ∀ i x, l[i]? = some x → Q i x := by
  induction n with
  | zero => exact ⟨[], rfl, by simp⟩
  | succ n ih =>
    obtain ⟨l, hl, hq⟩ := ih (fun i hi => h i (by omega))
    obtain ⟨x, hx⟩ := h n (by omega)
    refine ⟨l ++ [x], by simp [hl], fun i y hy => ?_⟩
    rcases Nat.lt_or_ge i l.length with hi | hi
    · rw [List.getElem?_append_left hi] at hy; exact hq i y hy
    · rw [List.getElem?_append_right hi] at hy
      have : i - l.length = 0 := by
        have := (List.getElem?_eq_some_iff.1 hy).1
        simp at this; omega
      rw [this] at hy
      simp at hy
      subst hy
      rw [show i = n by omega]
      exact hx

/-- A slice of structs, opened. -/
theorem open_recs {α : Type} {t e : TypeId} {fuel : Nat} {a : Option Addr} {n c : Nat} {d : DataW H} {p : List MemPlace} (size : Nat) (Elem : World → Nat → Nat → α → Prop)
    (ht : P.underlying t = some (.slice e)) (hsz : P.cellsOf e = size) (hpos : 0 < size)
    (hel : ∀ (m : Nat) (cs : List Value) (y : DataW H × List MemPlace) (b o : Nat), DataW.trod enc P w 0 (fun _ => true) true m e cs = some y → cs.length = size → (∀ j, j < size → w.cell? ⟨b, o + j, none⟩ = cs[j]?) → ∃ x, Elem w b o x)
    (h : DataW.trod enc P w 0 (fun _ => true) true fuel t [.slice a n c] = some (d, p)) :
    ∃ l, Recs size Elem w a n c l ∧ ((c = 0) ∨ ∃ x y, d = .slice x y ∧ x.length + y.length = c) := by
  rcases DataW.trod_slice ht h with ⟨hcs, _⟩ | ⟨x, len, cap, elems, rest, m, _, hcs, hd, _, hl, hm, hlen, hele, hsp, _⟩
  · simp only [List.cons.injEq, and_true, Value.slice.injEq] at hcs
    obtain ⟨rfl, rfl, rfl⟩ := hcs
    exact ⟨[], ⟨rfl, Nat.le_refl _, by omega, fun _ => rfl, .inl rfl⟩, .inl rfl⟩
  · simp only [List.cons.injEq, and_true, Value.slice.injEq] at hcs
    obtain ⟨rfl, rfl, rfl⟩ := hcs
    have hdl : d = .slice (elems.map (·.1)) (rest.map (·.1)) := (Prod.mk.inj hd).1
    have hrest := (hsp rfl).1
    have hbound : (elems.map (·.1)).length + (rest.map (·.1)).length = c := by simp; omega
    rcases Nat.eq_zero_or_pos n with h0 | hn
    · exact ⟨[], ⟨h0.symm, hl, by unfold maxLen at hm; omega, by simp, .inl h0⟩, .inr ⟨_, _, hdl, hbound⟩⟩
    · obtain ⟨b, off, spot⟩ := x
      have each : ∀ i, i < n → ∃ cs y, w.cells? 0 ((⟨b, off, spot⟩ : Addr).add (i * size)) size = some cs ∧ DataW.trod enc P w 0 (fun _ => true) true m e cs = some y := by
        intro i hi
        have := hele i hi
        rw [hsz] at this
        have hs : ∃ y, elems[i]? = some y := ⟨elems[i], List.getElem?_eq_getElem (by omega)⟩
        obtain ⟨y, hy⟩ := hs
        rw [hy] at this
        obtain ⟨cs, h1, h2⟩ := Option.bind_eq_some_iff.1 this
        exact ⟨cs, y, h1, h2⟩
      obtain ⟨cs0, y0, k0, _⟩ := each 0 hn
      have c0 := (World.cells?_some k0)
      have hspot : spot = none := by
        have h1 := c0.2.2 0 hpos
        have hlt : (0 : Nat) < cs0.length := by have := c0.2.1; omega
        rw [List.getElem?_eq_getElem hlt] at h1
        simpa [Addr.add] using World.cell?_spot h1
      subst hspot
      have hadd : ∀ j, (⟨b, off, none⟩ : Addr).add j = ⟨b, off + j, none⟩ := fun j => by unfold Addr.add; split <;> simp_all
      have hadd2 : ∀ o j, (⟨b, o, none⟩ : Addr).add j = ⟨b, o + j, none⟩ := fun o j => by unfold Addr.add; split <;> simp_all
      obtain ⟨l, hll, hq⟩ := choose_list n (fun i x => Elem w b (off + i * size) x) (fun i hi => by
        obtain ⟨cs, y, k1, k2⟩ := each i hi
        have k3 := World.cells?_some k1
        rw [hadd] at k3
        refine hel m cs y b (off + i * size) k2 k3.2.1 (fun j hj => ?_)
        have := k3.2.2 j hj
        rwa [hadd2] at this)
      have hblk : b < w.heap.size := by
        have := World.cells?_block k0 hpos
        simpa [hadd] using this
      exact ⟨l, ⟨hll, hl, by unfold maxLen at hm; omega, by simp, .inr ⟨b, off, rfl, hblk, hq⟩⟩, .inr ⟨_, _, hdl, hbound⟩⟩
end
end Go.Proofs.YtlkggpjdaaglmaaDoor.bs
