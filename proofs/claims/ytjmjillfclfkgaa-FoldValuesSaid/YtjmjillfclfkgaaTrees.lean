/-
  Trees that lie in memory: a label and parts, each part a tree. 'Ta size Hd w b o t': at cell o of block b stands the tree t; 'Hd' says what its cells hold. No program is named here.
-/
import Derived.Test.YtjmjillfclfkgaaStructs
namespace Go.Proofs.Ytjmjillfclfkgaa.tr
open Go.ChangeShapes Go.WideShapes Go.ChangeAt Go.RowKit
open bs
set_option linter.unusedVariables false

inductive Tr (α : Type) where
  | mk (x : α) (l : List (Tr α))

namespace Tr
variable {α : Type}
def lab : Tr α → α
  | .mk x _ => x
def kids : Tr α → List (Tr α)
  | .mk _ l => l
theorem ind {P : Tr α → Prop} (h : ∀ x l, (∀ y ∈ l, P y) → P (.mk x l)) (t : Tr α) : P t :=
  Tr.rec (motive_1 := P) (motive_2 := fun l => ∀ y ∈ l, P y) h (fun y hy => by simp at hy) (fun x l hx hl y hy => by
    rcases List.mem_cons.1 hy with rfl | hy
    · exact hx
    · exact hl y hy) t
theorem eta (t : Tr α) : t = .mk t.lab t.kids := by cases t; rfl

/-- What is made of a tree out of what is made of its parts. -/
noncomputable def fold {β : Type} (g : α → List (Tr α) → List β → β) (t : Tr α) : β :=
  Tr.rec (motive_1 := fun _ => β) (motive_2 := fun _ => List β) (fun x l ih => g x l ih) [] (fun _ _ a b => a :: b) t
theorem fold_mk {β : Type} (g : α → List (Tr α) → List β → β) (x : α) (l : List (Tr α)) : fold g (.mk x l) = g x l (l.map (fold g)) := by
  show g x l _ = _
  congr 1
  induction l with
  | nil => rfl
  | cons y l ih => show fold g y :: _ = _; rw [ih]; rfl

noncomputable def size (t : Tr α) : Nat := fold (fun _ _ b => 1 + b.sum) t
theorem size_mk (x : α) (l : List (Tr α)) : size (.mk x l) = 1 + (l.map size).sum := fold_mk _ x l
noncomputable def depth (t : Tr α) : Nat := fold (fun _ _ b => b.foldl max 0 + 1) t
theorem depth_mk (x : α) (l : List (Tr α)) : depth (.mk x l) = (l.map depth).foldl max 0 + 1 := fold_mk _ x l
theorem size_pos (t : Tr α) : 0 < size t := by cases t; rw [size_mk]; omega
theorem size_le {x : α} {l : List (Tr α)} {y : Tr α} (h : y ∈ l) : size y < size (.mk x l) := by
  rw [size_mk]
  have : size y ≤ (l.map size).sum := by
    induction l with
    | nil => simp at h
    | cons z l ih =>
      rcases List.mem_cons.1 h with rfl | h
      · simp
      · have := ih h; simp; omega
  omega

/-- Where a path of places leads. -/
def at' : Tr α → List Int → Option (Tr α)
  | t, [] => some t
  | t, i :: p => if 0 ≤ i ∧ i < t.kids.length then (t.kids[i.toNat]?).bind fun y => at' y p else none
/-- With x there. -/
def put : Tr α → List Int → Tr α → Tr α
  | _, [], x => x
  | t, i :: p, x => .mk t.lab (t.kids.modify i.toNat fun y => put y p x)
end Tr

/-- A tree's label and its slice of parts lie in one block. -/
def HStays {α : Type} (Hd : World → Nat → Nat → α → Option Addr → Nat → Nat → Prop) : Prop := ∀ w w' b o x a m c, Hd w b o x a m c → w'.heap[b]? = w.heap[b]? → Hd w' b o x a m c

/-- 'S' says which blocks the parts lie in. -/
inductive Ta {α : Type} (size : Nat) (Hd : World → Nat → Nat → α → Option Addr → Nat → Nat → Prop) (S : Nat → Prop) (w : World) : Nat → Nat → Tr α → Prop where
  | leaf (b o : Nat) (x : α) (a : Option Addr) (c : Nat) (h : Hd w b o x a 0 c) (hm : c ≤ 9223372036854775807) (hn : a = none → c = 0) : Ta size Hd S w b o (.mk x [])
  | node (b o : Nat) (x : α) (l : List (Tr α)) (b' off c : Nat) (h : Hd w b o x (some ⟨b', off, none⟩) l.length c) (hc : l.length ≤ c) (hm : c ≤ 9223372036854775807) (hb : b' < w.heap.size) (hS : S b')
      (hl : ∀ (i : Nat) (y : Tr α), l[i]? = some y → Ta size Hd S w b' (off + i * size) y) : Ta size Hd S w b o (.mk x l)

section
variable {α : Type} {size : Nat} {Hd : World → Nat → Nat → α → Option Addr → Nat → Nat → Prop} {S S' : Nat → Prop}
/-- A slice of trees. -/
abbrev Ts (size : Nat) (Hd : World → Nat → Nat → α → Option Addr → Nat → Nat → Prop) (S : Nat → Prop) (w : World) (a : Option Addr) (n c : Nat) (l : List (Tr α)) : Prop := Recs size (fun w b o t => Ta size Hd S w b o t) w a n c l
/-- The slice's own block is one of S. -/
def SB (S : Nat → Prop) (a : Option Addr) (n : Nat) : Prop := 0 < n → ∀ b off, a = some ⟨b, off, none⟩ → S b

theorem Ta.out {w : World} {b o : Nat} {x : α} {l : List (Tr α)} (h : Ta size Hd S w b o (.mk x l)) : ∃ a m c, Hd w b o x a m c ∧ Ts size Hd S w a m c l ∧ SB S a m := by
  cases h with
  | leaf _ _ _ a c h hm hn => exact ⟨a, 0, c, h, ⟨rfl, Nat.zero_le _, hm, hn, .inl rfl⟩, fun h => absurd h (Nat.lt_irrefl _)⟩
  | node _ _ _ _ b' off c h hc hm hb hS hl => exact ⟨_, _, c, h, ⟨rfl, hc, hm, by simp, .inr ⟨b', off, rfl, hb, hl⟩⟩, fun _ b o he => by cases he; exact hS⟩

theorem Ta.intro {w : World} {b o : Nat} {x : α} {l : List (Tr α)} {a m c} (h : Hd w b o x a m c) (hr : Ts size Hd S w a m c l) (hs : SB S a m) : Ta size Hd S w b o (.mk x l) := by
  have hl := hr.len
  rcases hr.at' with h0 | ⟨b', off, ha, hb, hk⟩
  · subst h0
    have : l = [] := List.length_eq_zero_iff.1 hl
    subst this
    exact .leaf b o x a c h hr.most hr.nil
  · subst ha hl
    rcases Nat.eq_zero_or_pos l.length with h0 | h0
    · have : l = [] := List.length_eq_zero_iff.1 h0
      subst this
      exact .leaf b o x _ c h hr.most hr.nil
    · exact .node b o x l b' off c h hr.cap hr.most hb (hs h0 _ _ rfl) hk

/-- The blocks of S are as they were. -/
structure Kp (S : Nat → Prop) (w w' : World) : Prop where
  size : w.heap.size ≤ w'.heap.size
  block : ∀ b, S b → b < w.heap.size → w'.heap[b]? = w.heap[b]?
theorem Kp.of_below {w w' : World} (h : Below w.heap.size w w') : Kp S w w' := ⟨h.size, fun b _ hb => h.block b hb⟩

theorem Ta.agree (hs : HStays Hd) {w w' : World} (hk : Kp S w w') {b o : Nat} {t : Tr α} (h : Ta size Hd S w b o t) (hb : w'.heap[b]? = w.heap[b]?) : Ta size Hd S w' b o t := by
  induction h with
  | leaf b o x a c h hm hn => exact .leaf b o x a c (hs _ _ _ _ _ _ _ _ h hb) hm hn
  | node b o x l b' off c h hc hm hb' hS hl ih => exact .node b o x l b' off c (hs _ _ _ _ _ _ _ _ h hb) hc hm (Nat.lt_of_lt_of_le hb' hk.size) hS (fun i y hi => ih i y hi (hk.block b' hS hb'))
theorem Ta.weak {w : World} {b o : Nat} {t : Tr α} (h : Ta size Hd S w b o t) (hS : ∀ b, b < w.heap.size → S b → S' b) : Ta size Hd S' w b o t := by
  induction h with
  | leaf b o x a c h hm hn => exact .leaf b o x a c h hm hn
  | node b o x l b' off c h hc hm hb' hSb hl ih => exact .node b o x l b' off c h hc hm hb' (hS b' hb' hSb) ih
theorem taStays (hs : HStays Hd) : Stays (fun w b o t => Ta size Hd S w b o t) := fun w w' b o t h hlt hb => Ta.agree hs (.of_below hb) h (hb.block b hlt)
theorem Ts.agree (hs : HStays Hd) {w w' : World} (hk : Kp S w w') {a n c} {l : List (Tr α)} (h : Ts size Hd S w a n c l) (hb : SB S a n) : Ts size Hd S w' a n c l := by
  refine ⟨h.len, h.cap, h.most, h.nil, ?_⟩
  rcases h.at' with h0 | ⟨b, off, ha, hlt, hc⟩
  · exact .inl h0
  · rcases Nat.eq_zero_or_pos n with h0 | h0
    · exact .inl h0
    · exact .inr ⟨b, off, ha, Nat.lt_of_lt_of_le hlt hk.size, fun i x hi => Ta.agree hs hk (hc i x hi) (hk.block b (hb h0 b off ha) hlt)⟩
theorem Ts.weak {w : World} {a n c} {l : List (Tr α)} (h : Ts size Hd S w a n c l) (hS : ∀ b, b < w.heap.size → S b → S' b) : Ts size Hd S' w a n c l := by
  refine ⟨h.len, h.cap, h.most, h.nil, ?_⟩
  rcases h.at' with h0 | ⟨b, off, ha, hlt, hc⟩
  · exact .inl h0
  · exact .inr ⟨b, off, ha, hlt, fun i x hi => Ta.weak (hc i x hi) hS⟩
theorem SB.weak {w : World} {a n c} {l : List (Tr α)} (hb : SB S a n) (h : Ts size Hd S w a n c l) (hS : ∀ b, b < w.heap.size → S b → S' b) : SB S' a n := by
  intro h0 b off ha
  rcases h.at' with h1 | ⟨b', off', ha', hlt, hc⟩
  · omega
  · have := ha.symm.trans ha'
    cases this
    exact hS b hlt (hb h0 b off ha)

theorem Recs.map {β γ : Type} {size : Nat} {E : World → Nat → Nat → β → Prop} {E' : World → Nat → Nat → γ → Prop} {w : World} {a n c} {l : List β} (f : β → γ) (h : Recs size E w a n c l) (hf : ∀ b o x, x ∈ l → b < w.heap.size → E w b o x → E' w b o (f x)) :
    Recs size E' w a n c (l.map f) := by
  refine ⟨by simpa using h.len, h.cap, h.most, h.nil, ?_⟩
  rcases h.at' with h0 | ⟨b, off, ha, hlt, hc⟩
  · exact .inl h0
  · refine .inr ⟨b, off, ha, hlt, fun i y hi => ?_⟩
    rw [List.getElem?_map] at hi
    obtain ⟨x, hx, rfl⟩ := Option.map_eq_some_iff.1 hi
    exact hf _ _ _ (List.mem_of_getElem? hx) hlt (hc i x hx)

/-- One of a slice. -/
theorem Recs.one {β : Type} {size : Nat} {E : World → Nat → Nat → β → Prop} {w : World} {a n c} {l : List β} (h : Recs size E w a n c l) (i : Nat) (x : β) (hi : l[i]? = some x) : ∃ b off, a = some ⟨b, off, none⟩ ∧ b < w.heap.size ∧ E w b (off + i * size) x := by
  rcases h.at' with h0 | ⟨b, off, ha, hlt, hc⟩
  · have := h.len; have := (List.getElem?_eq_some_iff.1 hi).1; omega
  · exact ⟨b, off, ha, hlt, hc i x hi⟩
theorem Recs.lt {β : Type} {size : Nat} {E : World → Nat → Nat → β → Prop} {w : World} {a n c} {l : List β} (h : Recs size E w a n c l) (i : Nat) (hi : i < n) : ∃ x, l[i]? = some x := ⟨l[i]'(by rw [h.len]; exact hi), List.getElem?_eq_getElem _⟩

section
variable {H : Type} {enc : TypeId × Value → H} {P : Program} {w : World}
/-- A slice of structs, opened; its parts are read with less fuel. -/
theorem open_recs_lt {β : Type} {t e : TypeId} {fuel : Nat} {a : Option Addr} {n c : Nat} {y : DataW H × List MemPlace} (size : Nat) (Elem : World → Nat → Nat → β → Prop)
    (ht : P.underlying t = some (.slice e)) (hsz : P.cellsOf e = size) (hpos : 0 < size)
    (hel : ∀ (m : Nat) (cs : List Value) (y : DataW H × List MemPlace) (b o : Nat), m < fuel → DataW.trod enc P w 0 (fun _ => true) true m e cs = some y → cs.length = size → (∀ j, j < size → w.cell? ⟨b, o + j, none⟩ = cs[j]?) → ∃ x, Elem w b o x)
    (h : DataW.trod enc P w 0 (fun _ => true) true fuel t [.slice a n c] = some y) :
    ∃ l, Recs size Elem w a n c l := by
  obtain ⟨d, p⟩ := y
  rcases DataW.trod_slice ht h with ⟨hcs, _⟩ | ⟨x, len, cap, elems, rest, m, hmf, hcs, hd, _, hl, hm, hlen, hele, hsp, _⟩
  · simp only [List.cons.injEq, and_true, Value.slice.injEq] at hcs
    obtain ⟨rfl, rfl, rfl⟩ := hcs
    exact ⟨[], rfl, Nat.le_refl _, by omega, fun _ => rfl, .inl rfl⟩
  · simp only [List.cons.injEq, and_true, Value.slice.injEq] at hcs
    obtain ⟨rfl, rfl, rfl⟩ := hcs
    rcases Nat.eq_zero_or_pos n with h0 | hn
    · exact ⟨[], h0.symm, hl, by unfold maxLen at hm; omega, by simp, .inl h0⟩
    · obtain ⟨b, off, spot⟩ := x
      have each : ∀ i, i < n → ∃ cs y, w.cells? 0 ((⟨b, off, spot⟩ : Addr).add (i * size)) size = some cs ∧ DataW.trod enc P w 0 (fun _ => true) true m e cs = some y := by
        intro i hi
        have := hele i hi
        rw [hsz] at this
        have hs : ∃ y, elems[i]? = some y := ⟨elems[i], List.getElem?_eq_getElem (by omega)⟩
        obtain ⟨y, hy⟩ := hs
        rw [hy] at this
        obtain ⟨cs, h1, h2⟩ := Option.bind_eq_some_iff.1 this
        exact ⟨cs, y, h1, h2⟩
      obtain ⟨cs0, y0, k0, _⟩ := each 0 hn
      have c0 := (World.cells?_some k0)
      have hspot : spot = none := by
        have h1 := c0.2.2 0 hpos
        have hlt : (0 : Nat) < cs0.length := by have := c0.2.1; omega
        rw [List.getElem?_eq_getElem hlt] at h1
        simpa [Addr.add] using World.cell?_spot h1
      subst hspot
      have hadd2 : ∀ o j, (⟨b, o, none⟩ : Addr).add j = ⟨b, o + j, none⟩ := fun o j => by unfold Addr.add; split <;> simp_all
      obtain ⟨l, hll, hq⟩ := choose_list n (fun i x => Elem w b (off + i * size) x) (fun i hi => by
        obtain ⟨cs, y, k1, k2⟩ := each i hi
        have k3 := World.cells?_some k1
        rw [hadd2] at k3
        refine hel m cs y b (off + i * size) (by omega) k2 k3.2.1 (fun j hj => ?_)
        have := k3.2.2 j hj
        rwa [hadd2] at this)
      have hblk : b < w.heap.size := by
        have := World.cells?_block k0 hpos
        simpa [hadd2] using this
      exact ⟨l, hll, hl, by unfold maxLen at hm; omega, by simp, .inr ⟨b, off, rfl, hblk, hq⟩⟩
end
end
end Go.Proofs.Ytjmjillfclfkgaa.tr
