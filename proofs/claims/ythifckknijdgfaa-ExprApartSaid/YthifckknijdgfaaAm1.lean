/-
  A machine of values: what a call's slots and memory hold, with no address in it. This text: the words, and that they last. No program is named here.
-/
import Derived.Test.YthifckknijdgfaaOwn
import Derived.Laws.Rows
import Derived.Laws.CopyRow
import Derived.Deep.AppendLies
import Derived.Orders
namespace Go.Proofs.Ythifckknijdgfaa.am
open Go.ChangeShapes Go.WideShapes Go.ChangeAt Go.RowKit
set_option linter.unusedVariables false

/-- A value of one cell that leads nowhere. -/
def plain : Value → Bool
  | .bool _ | .int _ _ | .string _ | .nilFunc | .nilIface | .pointer none => true
  | _ => false
theorem plain_one {v : Value} (h : plain v = true) : v.oneCell' = true := by cases v <;> simp_all [plain, Value.oneCell']

/-- What a cell holds, by content: a plain value; the slice nil; a slice of elements of so many cells. -/
inductive PV where
  | lit (v : Value)
  | nilS
  | sl (es : Nat) (l : List (List PV))

/-- A set of cells that nothing turns any more. -/
abbrev CS := Nat → Nat → Prop

inductive RepP (S : CS) (w : World) : Value → PV → Prop where
  | lit (v : Value) (h : plain v = true) : RepP S w v (.lit v)
  | nilS : RepP S w (.slice none 0 0) .nilS
  | emp (a : Option Addr) (c es : Nat) (hm : c ≤ 9223372036854775807) (ha : a = none → c = 0) : RepP S w (.slice a 0 c) (.sl es [])
  | sl (b off n c es : Nat) (l : List (List PV)) (hlen : l.length = n) (h0 : 0 < n) (hc : n ≤ c) (hm : c ≤ 9223372036854775807) (hes : ∀ e ∈ l, e.length = es)
      (V : Nat → Nat → Value) (hcell : ∀ i e j p, l[i]? = some e → e[j]? = some p → S b (off + i * es + j) ∧ w.cell? ⟨b, off + i * es + j, none⟩ = some (V i j))
      (hV : ∀ i e j p, l[i]? = some e → e[j]? = some p → RepP S w (V i j) p) : RepP S w (.slice (some ⟨b, off, none⟩) n c) (.sl es l)

theorem RepP.mono {S S' : CS} {w w' : World} (hS : ∀ b o, S b o → S' b o) (hw : ∀ b o, S b o → w'.cell? ⟨b, o, none⟩ = w.cell? ⟨b, o, none⟩) {v : Value} {p : PV} (h : RepP S w v p) : RepP S' w' v p := by
  induction h with
  | lit v h => exact .lit v h
  | nilS => exact .nilS
  | emp a c es hm ha => exact .emp a c es hm ha
  | sl b off n c es l hlen h0 hc hm hes V hcell hV ih =>
    exact .sl b off n c es l hlen h0 hc hm hes V (fun i e j p h1 h2 => ⟨hS _ _ (hcell i e j p h1 h2).1, by rw [hw _ _ (hcell i e j p h1 h2).1]; exact (hcell i e j p h1 h2).2⟩) ih
theorem RepP.one {S : CS} {w : World} {v : Value} {p : PV} (h : RepP S w v p) : v.oneCell' = true := by
  cases h with
  | lit v h => exact plain_one h
  | nilS => rfl
  | emp => rfl
  | sl => rfl

/-- A function's first argument, or what it captured: a variable's address, or a value. -/
inductive Cap where
  | ptr (id off : Nat)
  | pv (p : PV)
/-- What a cell of the call's own holds: 'row': a slice that the call may append to; 'arr': one whose elements it may turn; 'cut': one with no room behind its elements; 'ptr': the address of a variable that it may turn. -/
inductive AC where
  | pv (p : PV)
  | row (id es : Nat) (l : List (List PV))
  | arr (id es n : Nat)
  | cut (es : Nat) (l : List (List PV))
  | ptr (id off : Nat)
  | fn (f : Fn) (first caps : List Cap)
  | flag
  | top
inductive AT where
  | c (x : AC)
  | agg (l : List AC)
/-- What a slot holds: a value; an address among cells that nothing turns ('rp'); an element's address in an 'arr' ('ep'); values of a call. -/
inductive AV where
  | v (x : AT)
  | rp (cells : List PV) (off : Nat)
  | ep (id es i off : Nat)
  | tup (l : List AT)
  | top
/-- What the call's own memory holds. -/
inductive AO where
  | box (cells : List AC)
  | row (e es : Nat)
  | arr (e es : Nat) (l : List (List PV))
/-- Where a name leads: not yet anywhere; no longer; a block; a slice's value. -/
inductive G where
  | un | dead
  | blk (b : Nat)
  | val (v : Value)
def G.bk : G → Option Nat
  | .blk b => some b
  | .val v => v.ownBlock
  | _ => none

def RepCap (γ : Nat → G) (S : CS) (w : World) (v : Value) : Cap → Prop
  | .ptr id off => ∃ b, γ id = .blk b ∧ v = .pointer (some ⟨b, off, none⟩)
  | .pv p => RepP S w v p
def RepCaps (γ : Nat → G) (S : CS) (w : World) (vs : List Value) (l : List Cap) : Prop := vs.length = l.length ∧ ∀ (i : Nat) c, l[i]? = some c → ∃ v, vs[i]? = some v ∧ RepCap γ S w v c
def RepC (γ : Nat → G) (S : CS) (w : World) (v : Value) : AC → Prop
  | .pv p => RepP S w v p
  | .row id es l => RepP S w v (.sl es l) ∧ (γ id = .dead ∨ γ id = .val v)
  | .arr id _ n => (∃ a c, v = .slice a n c) ∧ (γ id = .dead ∨ γ id = .val v)
  | .cut es l => RepP S w v (.sl es l) ∧ ∃ a n, v = .slice a n n
  | .ptr id off => ∃ b, γ id = .blk b ∧ v = .pointer (some ⟨b, off, none⟩)
  | .fn f first caps => ∃ xs ys : Array Value, v = .func f xs ys ∧ RepCaps γ S w xs.toList first ∧ RepCaps γ S w ys.toList caps
  | .flag => ∃ b, v = .bool b
  | .top => v.oneCell' = true
def RepCs (γ : Nat → G) (S : CS) (w : World) (vs : List Value) (l : List AC) : Prop := vs.length = l.length ∧ ∀ (i : Nat) c, l[i]? = some c → ∃ v, vs[i]? = some v ∧ RepC γ S w v c
def RepT (γ : Nat → G) (S : CS) (w : World) (v : Value) : AT → Prop
  | .c x => RepC γ S w v x
  | .agg l => ∃ cs : Array Value, v = .agg cs ∧ RepCs γ S w cs.toList l
def RepTs (γ : Nat → G) (S : CS) (w : World) (vs : List Value) (l : List AT) : Prop := vs.length = l.length ∧ ∀ (i : Nat) c, l[i]? = some c → ∃ v, vs[i]? = some v ∧ RepT γ S w v c
def RepV (γ : Nat → G) (S : CS) (w : World) (v : Value) : AV → Prop
  | .v x => RepT γ S w v x
  | .rp cells off => ∃ b o, v = .pointer (some ⟨b, o + off, none⟩) ∧ ∀ j p, cells[j]? = some p → S b (o + j) ∧ ∃ u, w.cell? ⟨b, o + j, none⟩ = some u ∧ RepP S w u p
  | .ep id es i off => ∃ b, v = .pointer (some ⟨b, i * es + off, none⟩) ∧ (γ id = .dead ∨ ∃ n c, γ id = .val (.slice (some ⟨b, 0, none⟩) n c))
  | .tup l => ∃ cs : Array Value, v = .tuple cs ∧ RepTs γ S w cs.toList l
  | .top => True

/-- Names go on: what leads somewhere leads there still, or (a slice) has been used up. -/
def GOn (γ γ' : Nat → G) : Prop := ∀ x, γ x = .un ∨ γ' x = γ x ∨ (γ' x = .dead ∧ ∃ v, γ x = .val v)
theorem GOn.refl (γ : Nat → G) : GOn γ γ := fun _ => .inr (.inl rfl)
theorem GOn.trans {a b c : Nat → G} (h : GOn a b) (k : GOn b c) : GOn a c := fun x => by
  rcases h x with h | h | ⟨h, v, hv⟩
  · exact .inl h
  · rcases k x with k | k | ⟨k, v, hv⟩
    · exact .inl (by rw [← h]; exact k)
    · exact .inr (.inl (k.trans h))
    · exact .inr (.inr ⟨k, v, by rw [← h]; exact hv⟩)
  · rcases k x with k | k | ⟨k, v', hv'⟩
    · rw [h] at k; cases k
    · exact .inr (.inr ⟨k.trans h, v, hv⟩)
    · rw [h] at hv'; cases hv'
theorem GOn.blk {γ γ' : Nat → G} (h : GOn γ γ') {x b : Nat} (hx : γ x = .blk b) : γ' x = .blk b := by
  rcases h x with k | k | ⟨_, v, hv⟩
  · rw [hx] at k; cases k
  · rw [k, hx]
  · rw [hx] at hv; cases hv
theorem GOn.val {γ γ' : Nat → G} (h : GOn γ γ') {x : Nat} {v : Value} (hx : γ x = .dead ∨ γ x = .val v) : γ' x = .dead ∨ γ' x = .val v := by
  rcases h x with k | k | ⟨k, _⟩
  · rw [k] at hx; rcases hx with hx | hx <;> cases hx
  · rw [k]; exact hx
  · exact .inl k

section
variable {γ γ' : Nat → G} {S S' : CS} {w w' : World}
theorem RepCap.mono (hg : GOn γ γ') (hS : ∀ b o, S b o → S' b o) (hw : ∀ b o, S b o → w'.cell? ⟨b, o, none⟩ = w.cell? ⟨b, o, none⟩) {v : Value} {c : Cap} (h : RepCap γ S w v c) : RepCap γ' S' w' v c := by
  cases c with
  | ptr id off => obtain ⟨b, h1, h2⟩ := h; exact ⟨b, hg.blk h1, h2⟩
  | pv p => exact RepP.mono hS hw h
theorem RepCaps.mono (hg : GOn γ γ') (hS : ∀ b o, S b o → S' b o) (hw : ∀ b o, S b o → w'.cell? ⟨b, o, none⟩ = w.cell? ⟨b, o, none⟩) {vs : List Value} {l : List Cap} (h : RepCaps γ S w vs l) : RepCaps γ' S' w' vs l :=
  ⟨h.1, fun i c hi => let ⟨v, h1, h2⟩ := h.2 i c hi; ⟨v, h1, h2.mono hg hS hw⟩⟩
theorem RepC.mono (hg : GOn γ γ') (hS : ∀ b o, S b o → S' b o) (hw : ∀ b o, S b o → w'.cell? ⟨b, o, none⟩ = w.cell? ⟨b, o, none⟩) {v : Value} {c : AC} (h : RepC γ S w v c) : RepC γ' S' w' v c := by
  cases c with
  | pv p => exact RepP.mono hS hw h
  | row id es l => exact ⟨h.1.mono hS hw, hg.val h.2⟩
  | arr id es n => exact ⟨h.1, hg.val h.2⟩
  | cut es l => exact ⟨h.1.mono hS hw, h.2⟩
  | ptr id off => obtain ⟨b, h1, h2⟩ := h; exact ⟨b, hg.blk h1, h2⟩
  | fn f first caps => obtain ⟨xs, ys, h1, h2, h3⟩ := h; exact ⟨xs, ys, h1, h2.mono hg hS hw, h3.mono hg hS hw⟩
  | flag => exact h
  | top => exact h
theorem RepCs.mono (hg : GOn γ γ') (hS : ∀ b o, S b o → S' b o) (hw : ∀ b o, S b o → w'.cell? ⟨b, o, none⟩ = w.cell? ⟨b, o, none⟩) {vs : List Value} {l : List AC} (h : RepCs γ S w vs l) : RepCs γ' S' w' vs l :=
  ⟨h.1, fun i c hi => let ⟨v, h1, h2⟩ := h.2 i c hi; ⟨v, h1, h2.mono hg hS hw⟩⟩
theorem RepT.mono (hg : GOn γ γ') (hS : ∀ b o, S b o → S' b o) (hw : ∀ b o, S b o → w'.cell? ⟨b, o, none⟩ = w.cell? ⟨b, o, none⟩) {v : Value} {c : AT} (h : RepT γ S w v c) : RepT γ' S' w' v c := by
  cases c with
  | c x => exact RepC.mono hg hS hw h
  | agg l => obtain ⟨cs, h1, h2⟩ := h; exact ⟨cs, h1, h2.mono hg hS hw⟩
theorem RepTs.mono (hg : GOn γ γ') (hS : ∀ b o, S b o → S' b o) (hw : ∀ b o, S b o → w'.cell? ⟨b, o, none⟩ = w.cell? ⟨b, o, none⟩) {vs : List Value} {l : List AT} (h : RepTs γ S w vs l) : RepTs γ' S' w' vs l :=
  ⟨h.1, fun i c hi => let ⟨v, h1, h2⟩ := h.2 i c hi; ⟨v, h1, h2.mono hg hS hw⟩⟩
theorem RepV.mono (hg : GOn γ γ') (hS : ∀ b o, S b o → S' b o) (hw : ∀ b o, S b o → w'.cell? ⟨b, o, none⟩ = w.cell? ⟨b, o, none⟩) {v : Value} {c : AV} (h : RepV γ S w v c) : RepV γ' S' w' v c := by
  cases c with
  | v x => exact RepT.mono hg hS hw h
  | rp cells off =>
    obtain ⟨b, o, h1, h2⟩ := h
    exact ⟨b, o, h1, fun j p hj => let ⟨k1, u, k2, k3⟩ := h2 j p hj; ⟨hS _ _ k1, u, by rw [hw _ _ k1]; exact k2, k3.mono hS hw⟩⟩
  | ep id es i off =>
    obtain ⟨b, hv, h⟩ := h
    refine ⟨b, hv, ?_⟩
    rcases h with h | ⟨n, c, h1⟩
    · rcases hg id with k' | k' | ⟨k', _⟩
      · rw [h] at k'; cases k'
      · exact .inl (k'.trans h)
      · exact .inl k'
    · rcases hg.val (.inr h1) with k | k
      · exact .inl k
      · exact .inr ⟨n, c, k⟩
  | tup l => obtain ⟨cs, h1, h2⟩ := h; exact ⟨cs, h1, h2.mono hg hS hw⟩
  | top => trivial
theorem RepC.one {v : Value} {c : AC} (h : RepC γ S w v c) : v.oneCell' = true := by
  cases c with
  | pv p => exact RepP.one h
  | row id es l => exact h.1.one
  | arr id es n => obtain ⟨⟨a, c, rfl⟩, _⟩ := h; rfl
  | cut es l => exact h.1.one
  | ptr id off => obtain ⟨b, _, rfl⟩ := h; rfl
  | fn f first caps => obtain ⟨xs, ys, rfl, _⟩ := h; rfl
  | flag => obtain ⟨b, rfl⟩ := h; rfl
  | top => exact h
end

/-- Where a call began: its world, what nothing turns, where its names led. -/
structure Ctx where
  w0 : World
  S0 : CS
  γ0 : Nat → G

def Obj' (γ : Nat → G) (S : CS) (w : World) (x : Nat) : AO → Prop
  | .box cells => ∃ b cs t, γ x = .blk b ∧ w.heap[b]? = some (.cells cs t (0, 0)) ∧ RepCs γ S w cs.toList cells ∧ ∀ o, ¬ S b o
  | .row e es => ∃ v n xs, γ x = .val v ∧ w.ownsRow 0 e es v n xs ∧ ∀ b, v.ownBlock = some b → ∀ o, n * es ≤ o → ¬ S b o
  | .arr e es l => ∃ v xs, γ x = .val v ∧ w.ownsRow 0 e es v l.length xs ∧ (∀ i e j p, l[i]? = some e → e[j]? = some p → ∃ u, xs[i * es + j]? = some u ∧ RepP S w u p) ∧ (∀ e ∈ l, e.length = es) ∧ ∀ b, v.ownBlock = some b → ∀ o, ¬ S b o

/-- The memory of a call: 'H' is what its names hold, 'U' the names that are not in use yet. -/
structure Mem (X : Ctx) (H : Nat → Option AO) (U : Nat → Prop) (γ : Nat → G) (S : CS) (w : World) : Prop where
  os : w.os = X.w0.os
  tape : w.tape = X.w0.tape
  output : w.output = X.w0.output
  size : X.w0.heap.size ≤ w.heap.size
  frame : ∀ b, b < X.w0.heap.size → (∀ x, (X.γ0 x).bk ≠ some b) → w.heap[b]? = X.w0.heap[b]?
  keep : ∀ b o, X.S0 b o → S b o ∧ w.cell? ⟨b, o, none⟩ = X.w0.cell? ⟨b, o, none⟩
  fresh : ∀ b o, S b o → X.S0 b o ∨ X.w0.heap.size ≤ b ∨ ∃ x, (X.γ0 x).bk = some b
  inb : ∀ b o, S b o → b < w.heap.size
  mono : GOn X.γ0 γ
  un : ∀ x, U x → γ x = .un
  off : ∀ x, H x = none → γ x = .un ∨ γ x = .dead
  obj : ∀ x o, H x = some o → Obj' γ S w x o
  dist : ∀ x y, x ≠ y → ∀ b, (γ x).bk = some b → (γ y).bk = some b → False
  live : ∀ x b, (γ x).bk = some b → b < w.heap.size ∧ (X.w0.heap.size ≤ b ∨ ∃ y, (X.γ0 y).bk = some b)

/-- A block that no name leads to, and no cell of which is kept, may be drawn, made .. -/
theorem Mem.drew {X : Ctx} {H : Nat → Option AO} {U : Nat → Prop} {γ : Nat → G} {S : CS} {w : World} (h : Mem X H U γ S w) : Mem X H U γ S w.drew := by
  have hr : ∀ {v p}, RepP S w v p → RepP S w.drew v p := fun k => RepP.mono (w := w) (w' := w.drew) (fun _ _ h => h) (fun _ _ _ => rfl) k
  refine ⟨h.os, h.tape, h.output, h.size, h.frame, h.keep, h.fresh, h.inb, h.mono, h.un, h.off, fun x o hx => ?_, h.dist, h.live⟩
  have := h.obj x o hx
  cases o with
  | box cells => obtain ⟨b, cs, t, h1, h2, h3, h4⟩ := this; exact ⟨b, cs, t, h1, h2, RepCs.mono (w := w) (w' := w.drew) (GOn.refl _) (fun _ _ h => h) (fun _ _ _ => rfl) h3, h4⟩
  | row e es => exact this
  | arr e es l => obtain ⟨v, xs, h1, h2, h3, h4, h5⟩ := this; exact ⟨v, xs, h1, h2, fun i e j p k1 k2 => let ⟨u, k3, k4⟩ := h3 i e j p k1 k2; ⟨u, k3, hr k4⟩, h4, h5⟩

/-- What an object is stays while names go on, the kept cells stay, and its block does. -/
theorem Obj'.on {γ γ' : Nat → G} {S S' : CS} {w w' : World} {x : Nat} {o : AO} (h : Obj' γ S w x o) (hx : γ' x = γ x) (hg : GOn γ γ') (hS : ∀ b o, S b o → S' b o) (hw : ∀ b o, S b o → w'.cell? ⟨b, o, none⟩ = w.cell? ⟨b, o, none⟩)
    (hb : ∀ b, (γ x).bk = some b → w'.heap[b]? = w.heap[b]? ∧ ∀ o, S' b o → S b o) : Obj' γ' S' w' x o := by
  have hr : ∀ {v p}, RepP S w v p → RepP S' w' v p := fun k => k.mono hS hw
  have own : ∀ {e es v n xs}, γ x = .val v → w.ownsRow 0 e es v n xs → w'.ownsRow 0 e es v n xs := fun {e es v n xs} hv ho => by
    obtain ⟨h1, h2⟩ := ho
    refine ⟨h1, ?_⟩
    rcases h2 with h2 | ⟨g, cap, cur, h3, h4, h5, h6⟩
    · exact .inl h2
    · refine .inr ⟨g, cap, cur, h3, h4, ?_, h6⟩
      rw [(hb g (by rw [hv, h3]; rfl)).1]; exact h5
  cases o with
  | box cells =>
    obtain ⟨b, cs, t, h1, h2, h3, h4⟩ := h
    have hbb := hb b (by rw [h1]; rfl)
    exact ⟨b, cs, t, by rw [hx]; exact h1, by rw [hbb.1]; exact h2, h3.mono hg hS hw, fun o ho => h4 o (hbb.2 o ho)⟩
  | row e es =>
    obtain ⟨v, n, xs, h1, h2, h3⟩ := h
    exact ⟨v, n, xs, by rw [hx]; exact h1, own h1 h2, fun b hv o ho hs => h3 b hv o ho ((hb b (by rw [h1]; exact hv)).2 o hs)⟩
  | arr e es l =>
    obtain ⟨v, xs, h1, h2, h3, h5, h4⟩ := h
    exact ⟨v, xs, by rw [hx]; exact h1, own h1 h2, fun i e j p k1 k2 => let ⟨u, k3, k4⟩ := h3 i e j p k1 k2; ⟨u, k3, hr k4⟩, h5, fun b hv o ho => h4 b hv o ((hb b (by rw [h1]; exact hv)).2 o ho)⟩
end Go.Proofs.Ythifckknijdgfaa.am
