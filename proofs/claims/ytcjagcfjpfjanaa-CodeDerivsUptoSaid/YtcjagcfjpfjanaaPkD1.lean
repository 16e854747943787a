import Derived.Laws.Rows
import Derived.Laws.CopyRow
import Derived.Deep.AppendLies
import Derived.Orders
import Derived.Laws.StructEq
import Derived.Laws.IdiomStrings
import Derived.Laws.BytesString
import Derived.BigFrame
import Derived.Lib.AppendStr
import Derived.MapKept
import Derived.ChangeMaps5
import Derived.Test.YtcjagcfjpfjanaaPkD0
set_option maxRecDepth 100000
set_option maxHeartbeats 4000000
section
namespace Go.Proofs.Ytcjagcfjpfjanaa.am
open Go.ChangeShapes Go.WideShapes Go.ChangeAt Go.RowKit
set_option linter.unusedVariables false
def plain : Value → Bool
  | .bool _ | .int _ _ | .string _ | .nilFunc | .nilIface | .pointer none | .map none => true
  | _ => false
theorem plain_one {v : Value} (h : plain v = true) : v.oneCell' = true := by cases v <;> simp_all [plain, Value.oneCell']
inductive PV where
  | lit (v : Value)
  | nilS
  | sl (es : Nat) (l : List (List PV))
abbrev CS := Nat → Nat → Prop
inductive RepP (S : CS) (w : World) : Value → PV → Prop where
  | lit (v : Value) (h : plain v = true) : RepP S w v (.lit v)
  | nilS : RepP S w (.slice none 0 0) .nilS
  | emp (a : Option Addr) (c es : Nat) (hm : c ≤ 9223372036854775807) (ha : a = none → c = 0) : RepP S w (.slice a 0 c) (.sl es [])
  | sl (b off n c es : Nat) (l : List (List PV)) (hlen : l.length = n) (h0 : 0 < n) (hc : n ≤ c) (hm : c ≤ 9223372036854775807) (hes : ∀ e ∈ l, e.length = es)
      (V : Nat → Nat → Value) (hcell : ∀ i e j p, l[i]? = some e → e[j]? = some p → S b (off + i * es + j) ∧ w.cell? ⟨b, off + i * es + j, none⟩ = some (V i j))
      (hV : ∀ i e j p, l[i]? = some e → e[j]? = some p → RepP S w (V i j) p) : RepP S w (.slice (some ⟨b, off, none⟩) n c) (.sl es l)
theorem RepP.mono {S S' : CS} {w w' : World} (hS : ∀ b o, S b o → S' b o) (hw : ∀ b o, S b o → w'.cell? ⟨b, o, none⟩ = w.cell? ⟨b, o, none⟩) {v : Value} {p : PV} (h : RepP S w v p) : RepP S' w' v p := by
  induction h with
  | lit v h => exact .lit v h
  | nilS => exact .nilS
  | emp a c es hm ha => exact .emp a c es hm ha
  | sl b off n c es l hlen h0 hc hm hes V hcell hV ih =>
    exact .sl b off n c es l hlen h0 hc hm hes V (fun i e j p h1 h2 => ⟨hS _ _ (hcell i e j p h1 h2).1, by rw [hw _ _ (hcell i e j p h1 h2).1]; exact (hcell i e j p h1 h2).2⟩) ih
theorem RepP.one {S : CS} {w : World} {v : Value} {p : PV} (h : RepP S w v p) : v.oneCell' = true := by
  cases h with
  | lit v h => exact plain_one h
  | nilS => rfl
  | emp => rfl
  | sl => rfl
inductive Cap where
  | ptr (id off : Nat)
  | pv (p : PV)
inductive AC where
  | pv (p : PV)
  | row (id es : Nat) (l : List (List PV))
  | arr (id es n : Nat)
  | vw (id es lo n : Nat)
  | cut (es : Nat) (l : List (List PV))
  | ptr (id off : Nat)
  | fn (f : Fn) (first caps : List Cap)
  | map (id : Nat)
  | flag
  | top
inductive AT where
  | c (x : AC)
  | agg (l : List AC)
inductive AV where
  | v (x : AT)
  | rp (cells : List PV) (off : Nat)
  | ep (id es i off : Nat)
  | tup (l : List AT)
  | top
inductive PT where
  | c (p : PV)
  | agg (l : List PV)
def PT.at : PT → AT
  | .c p => .c (.pv p)
  | .agg l => .agg (l.map .pv)
def keyFit : Option IntKind → Value → Bool
  | none, .string _ => true
  | some q, .int k _ => decide (q = k)
  | _, _ => false
inductive AO where
  | box (cells : List AC)
  | row (e es : Nat)
  | arr (e es : Nat) (l : List (List PV))
  | lib (L : List (Nat × Array Value))
  | bld (t : TypeId) (c : AC)
  | mp (q : Option IntKind) (l : List (Value × PT))
inductive G where
  | un | dead
  | blk (b : Nat)
  | val (v : Value)
  | lib
def G.bk : G → Option Nat
  | .blk b => some b
  | .val v => v.ownBlock
  | _ => none
def RepCap (γ : Nat → G) (S : CS) (w : World) (v : Value) : Cap → Prop
  | .ptr id off => ∃ b, γ id = .blk b ∧ v = .pointer (some ⟨b, off, none⟩)
  | .pv p => RepP S w v p
def RepCaps (γ : Nat → G) (S : CS) (w : World) (vs : List Value) (l : List Cap) : Prop := vs.length = l.length ∧ ∀ (i : Nat) c, l[i]? = some c → ∃ v, vs[i]? = some v ∧ RepCap γ S w v c
def RepC (γ : Nat → G) (S : CS) (w : World) (v : Value) : AC → Prop
  | .pv p => RepP S w v p
  | .row id es l => RepP S w v (.sl es l) ∧ (γ id = .dead ∨ γ id = .val v)
  | .arr id _ n => (∃ a c, v = .slice a n c) ∧ (γ id = .dead ∨ γ id = .val v)
  | .vw id es lo n => ∃ a m c, (γ id = .dead ∨ γ id = .val (.slice a m c)) ∧ ∃ a', lo + n ≤ m ∧ m ≤ c ∧ ((lo = 0 ∨ 0 < n) → a' = a.map (·.add (lo * es))) ∧ v = .slice a' n (c - lo)
  | .cut es l => RepP S w v (.sl es l) ∧ ∃ a n, v = .slice a n n
  | .ptr id off => ∃ b, γ id = .blk b ∧ v = .pointer (some ⟨b, off, none⟩)
  | .fn f first caps => ∃ xs ys : Array Value, v = .func f xs ys ∧ RepCaps γ S w xs.toList first ∧ RepCaps γ S w ys.toList caps
  | .map id => ∃ b, γ id = .blk b ∧ v = .map (some b)
  | .flag => ∃ b, v = .bool b
  | .top => v.oneCell' = true
def RepCs (γ : Nat → G) (S : CS) (w : World) (vs : List Value) (l : List AC) : Prop := vs.length = l.length ∧ ∀ (i : Nat) c, l[i]? = some c → ∃ v, vs[i]? = some v ∧ RepC γ S w v c
def RepT (γ : Nat → G) (S : CS) (w : World) (v : Value) : AT → Prop
  | .c x => RepC γ S w v x
  | .agg l => ∃ cs : Array Value, v = .agg cs ∧ RepCs γ S w cs.toList l
def RepTs (γ : Nat → G) (S : CS) (w : World) (vs : List Value) (l : List AT) : Prop := vs.length = l.length ∧ ∀ (i : Nat) c, l[i]? = some c → ∃ v, vs[i]? = some v ∧ RepT γ S w v c
def RepV (γ : Nat → G) (S : CS) (w : World) (v : Value) : AV → Prop
  | .v x => RepT γ S w v x
  | .rp cells off => ∃ b o, v = .pointer (some ⟨b, o + off, none⟩) ∧ ∀ j p, cells[j]? = some p → S b (o + j) ∧ ∃ u, w.cell? ⟨b, o + j, none⟩ = some u ∧ RepP S w u p
  | .ep id es i off => ∃ b, v = .pointer (some ⟨b, i * es + off, none⟩) ∧ (γ id = .dead ∨ ∃ n c, γ id = .val (.slice (some ⟨b, 0, none⟩) n c))
  | .tup l => ∃ cs : Array Value, v = .tuple cs ∧ RepTs γ S w cs.toList l
  | .top => True
def GOn (γ γ' : Nat → G) : Prop := ∀ x, γ x = .un ∨ γ' x = γ x ∨ (γ' x = .dead ∧ ∃ v, γ x = .val v)
theorem GOn.refl (γ : Nat → G) : GOn γ γ := fun _ => .inr (.inl rfl)
theorem GOn.trans {a b c : Nat → G} (h : GOn a b) (k : GOn b c) : GOn a c := fun x => by
  rcases h x with h | h | ⟨h, v, hv⟩
  · exact .inl h
  · rcases k x with k | k | ⟨k, v, hv⟩
    · exact .inl (by rw [← h]; exact k)
    · exact .inr (.inl (k.trans h))
    · exact .inr (.inr ⟨k, v, by rw [← h]; exact hv⟩)
  · rcases k x with k | k | ⟨k, v', hv'⟩
    · rw [h] at k; cases k
    · exact .inr (.inr ⟨k.trans h, v, hv⟩)
    · rw [h] at hv'; cases hv'
theorem GOn.blk {γ γ' : Nat → G} (h : GOn γ γ') {x b : Nat} (hx : γ x = .blk b) : γ' x = .blk b := by
  rcases h x with k | k | ⟨_, v, hv⟩
  · rw [hx] at k; cases k
  · rw [k, hx]
  · rw [hx] at hv; cases hv
theorem GOn.val {γ γ' : Nat → G} (h : GOn γ γ') {x : Nat} {v : Value} (hx : γ x = .dead ∨ γ x = .val v) : γ' x = .dead ∨ γ' x = .val v := by
  rcases h x with k | k | ⟨k, _⟩
  · rw [k] at hx; rcases hx with hx | hx <;> cases hx
  · rw [k]; exact hx
  · exact .inl k
section
variable {γ γ' : Nat → G} {S S' : CS} {w w' : World}
theorem RepCap.mono (hg : GOn γ γ') (hS : ∀ b o, S b o → S' b o) (hw : ∀ b o, S b o → w'.cell? ⟨b, o, none⟩ = w.cell? ⟨b, o, none⟩) {v : Value} {c : Cap} (h : RepCap γ S w v c) : RepCap γ' S' w' v c := by
  cases c with
  | ptr id off => obtain ⟨b, h1, h2⟩ := h; exact ⟨b, hg.blk h1, h2⟩
  | pv p => exact RepP.mono hS hw h
theorem RepCaps.mono (hg : GOn γ γ') (hS : ∀ b o, S b o → S' b o) (hw : ∀ b o, S b o → w'.cell? ⟨b, o, none⟩ = w.cell? ⟨b, o, none⟩) {vs : List Value} {l : List Cap} (h : RepCaps γ S w vs l) : RepCaps γ' S' w' vs l :=
  ⟨h.1, fun i c hi => let ⟨v, h1, h2⟩ := h.2 i c hi; ⟨v, h1, h2.mono hg hS hw⟩⟩
theorem RepC.mono (hg : GOn γ γ') (hS : ∀ b o, S b o → S' b o) (hw : ∀ b o, S b o → w'.cell? ⟨b, o, none⟩ = w.cell? ⟨b, o, none⟩) {v : Value} {c : AC} (h : RepC γ S w v c) : RepC γ' S' w' v c := by
  cases c with
  | pv p => exact RepP.mono hS hw h
  | row id es l => exact ⟨h.1.mono hS hw, hg.val h.2⟩
  | arr id es n => exact ⟨h.1, hg.val h.2⟩
  | vw id es lo n => obtain ⟨a, m, c, h1, h2⟩ := h; exact ⟨a, m, c, hg.val h1, h2⟩
  | cut es l => exact ⟨h.1.mono hS hw, h.2⟩
  | ptr id off => obtain ⟨b, h1, h2⟩ := h; exact ⟨b, hg.blk h1, h2⟩
  | fn f first caps => obtain ⟨xs, ys, h1, h2, h3⟩ := h; exact ⟨xs, ys, h1, h2.mono hg hS hw, h3.mono hg hS hw⟩
  | map id => obtain ⟨b, h1, h2⟩ := h; exact ⟨b, hg.blk h1, h2⟩
  | flag => exact h
  | top => exact h
theorem RepCs.mono (hg : GOn γ γ') (hS : ∀ b o, S b o → S' b o) (hw : ∀ b o, S b o → w'.cell? ⟨b, o, none⟩ = w.cell? ⟨b, o, none⟩) {vs : List Value} {l : List AC} (h : RepCs γ S w vs l) : RepCs γ' S' w' vs l :=
  ⟨h.1, fun i c hi => let ⟨v, h1, h2⟩ := h.2 i c hi; ⟨v, h1, h2.mono hg hS hw⟩⟩
theorem RepT.mono (hg : GOn γ γ') (hS : ∀ b o, S b o → S' b o) (hw : ∀ b o, S b o → w'.cell? ⟨b, o, none⟩ = w.cell? ⟨b, o, none⟩) {v : Value} {c : AT} (h : RepT γ S w v c) : RepT γ' S' w' v c := by
  cases c with
  | c x => exact RepC.mono hg hS hw h
  | agg l => obtain ⟨cs, h1, h2⟩ := h; exact ⟨cs, h1, h2.mono hg hS hw⟩
theorem RepTs.mono (hg : GOn γ γ') (hS : ∀ b o, S b o → S' b o) (hw : ∀ b o, S b o → w'.cell? ⟨b, o, none⟩ = w.cell? ⟨b, o, none⟩) {vs : List Value} {l : List AT} (h : RepTs γ S w vs l) : RepTs γ' S' w' vs l :=
  ⟨h.1, fun i c hi => let ⟨v, h1, h2⟩ := h.2 i c hi; ⟨v, h1, h2.mono hg hS hw⟩⟩
theorem RepV.mono (hg : GOn γ γ') (hS : ∀ b o, S b o → S' b o) (hw : ∀ b o, S b o → w'.cell? ⟨b, o, none⟩ = w.cell? ⟨b, o, none⟩) {v : Value} {c : AV} (h : RepV γ S w v c) : RepV γ' S' w' v c := by
  cases c with
  | v x => exact RepT.mono hg hS hw h
  | rp cells off =>
    obtain ⟨b, o, h1, h2⟩ := h
    exact ⟨b, o, h1, fun j p hj => let ⟨k1, u, k2, k3⟩ := h2 j p hj; ⟨hS _ _ k1, u, by rw [hw _ _ k1]; exact k2, k3.mono hS hw⟩⟩
  | ep id es i off =>
    obtain ⟨b, hv, h⟩ := h
    refine ⟨b, hv, ?_⟩
    rcases h with h | ⟨n, c, h1⟩
    · rcases hg id with k' | k' | ⟨k', _⟩
      · rw [h] at k'; cases k'
      · exact .inl (k'.trans h)
      · exact .inl k'
    · rcases hg.val (.inr h1) with k | k
      · exact .inl k
      · exact .inr ⟨n, c, k⟩
  | tup l => obtain ⟨cs, h1, h2⟩ := h; exact ⟨cs, h1, h2.mono hg hS hw⟩
  | top => trivial
theorem RepC.one {v : Value} {c : AC} (h : RepC γ S w v c) : v.oneCell' = true := by
  cases c with
  | pv p => exact RepP.one h
  | row id es l => exact h.1.one
  | arr id es n => obtain ⟨⟨a, c, rfl⟩, _⟩ := h; rfl
  | vw id es lo n => obtain ⟨a, m, c, _, a', _, _, _, rfl⟩ := h; rfl
  | cut es l => exact h.1.one
  | ptr id off => obtain ⟨b, _, rfl⟩ := h; rfl
  | fn f first caps => obtain ⟨xs, ys, rfl, _⟩ := h; rfl
  | map id => obtain ⟨b, _, rfl⟩ := h; rfl
  | flag => obtain ⟨b, rfl⟩ := h; rfl
  | top => exact h
end
structure Ctx where
  w0 : World
  S0 : CS
  γ0 : Nat → G
  ds : List Deferred
def Obj' (γ : Nat → G) (S : CS) (w : World) (x : Nat) : AO → Prop
  | .box cells => ∃ b cs t, γ x = .blk b ∧ w.heap[b]? = some (.cells cs t (0, 0)) ∧ RepCs γ S w cs.toList cells ∧ ∀ o, ¬ S b o
  | .row e es => ∃ v n xs, γ x = .val v ∧ w.ownsRow 0 e es v n xs ∧ ∀ b, v.ownBlock = some b → ∀ o, n * es ≤ o → ¬ S b o
  | .arr e es l => ∃ v xs, γ x = .val v ∧ w.ownsRow 0 e es v l.length xs ∧ (∀ i e j p, l[i]? = some e → e[j]? = some p → ∃ u, xs[i * es + j]? = some u ∧ RepP S w u p) ∧ (∀ e ∈ l, e.length = es) ∧ ∀ b, v.ownBlock = some b → ∀ o, ¬ S b o
  | .bld t c => ∃ b p v, γ x = .blk b ∧ w.heap[b]? = some (.cells #[p, v] t (0, 0)) ∧ (p = .pointer none ∨ p = .pointer (some ⟨b, 0, none⟩)) ∧ RepC γ S w v c ∧ ∀ o, ¬ S b o
  | .mp q l => ∃ b es clock, γ x = .blk b ∧ w.heap[b]? = some (.map es clock) ∧ es.toList.map (·.key) = l.map (·.1) ∧ (∀ p ∈ l, keyFit q p.1 = true) ∧ RepTs (fun _ => .un) S w (es.toList.map (·.val)) (l.map (·.2.at)) ∧ ∀ o, ¬ S b o
  | .lib L => γ x = .lib ∧ ∀ p ∈ L, ∀ o, S p.1 o ∧ w.cell? ⟨p.1, o, none⟩ = p.2[o]?
structure Mem (X : Ctx) (H : Nat → Option AO) (U : Nat → Prop) (γ : Nat → G) (S : CS) (w : World) : Prop where
  os : w.os = X.w0.os
  tape : w.tape = X.w0.tape
  output : w.output = X.w0.output
  size : X.w0.heap.size ≤ w.heap.size
  frame : ∀ b, b < X.w0.heap.size → (∀ x, (X.γ0 x).bk ≠ some b) → w.heap[b]? = X.w0.heap[b]?
  keep : ∀ b o, X.S0 b o → S b o ∧ w.cell? ⟨b, o, none⟩ = X.w0.cell? ⟨b, o, none⟩
  fresh : ∀ b o, S b o → X.S0 b o ∨ X.w0.heap.size ≤ b ∨ ∃ x, (X.γ0 x).bk = some b
  inb : ∀ b o, S b o → b < w.heap.size
  mono : GOn X.γ0 γ
  un : ∀ x, U x → γ x = .un
  off : ∀ x, H x = none → γ x = .un ∨ γ x = .dead
  obj : ∀ x o, H x = some o → Obj' γ S w x o
  dist : ∀ x y, x ≠ y → ∀ b, (γ x).bk = some b → (γ y).bk = some b → False
  live : ∀ x b, (γ x).bk = some b → b < w.heap.size ∧ (X.w0.heap.size ≤ b ∨ ∃ y, (X.γ0 y).bk = some b)
theorem Mem.drew {X : Ctx} {H : Nat → Option AO} {U : Nat → Prop} {γ : Nat → G} {S : CS} {w : World} (h : Mem X H U γ S w) : Mem X H U γ S w.drew := by
  have hr : ∀ {v p}, RepP S w v p → RepP S w.drew v p := fun k => RepP.mono (w := w) (w' := w.drew) (fun _ _ h => h) (fun _ _ _ => rfl) k
  refine ⟨h.os, h.tape, h.output, h.size, h.frame, h.keep, h.fresh, h.inb, h.mono, h.un, h.off, fun x o hx => ?_, h.dist, h.live⟩
  have := h.obj x o hx
  cases o with
  | box cells => obtain ⟨b, cs, t, h1, h2, h3, h4⟩ := this; exact ⟨b, cs, t, h1, h2, RepCs.mono (w := w) (w' := w.drew) (GOn.refl _) (fun _ _ h => h) (fun _ _ _ => rfl) h3, h4⟩
  | row e es => exact this
  | arr e es l => obtain ⟨v, xs, h1, h2, h3, h4, h5⟩ := this; exact ⟨v, xs, h1, h2, fun i e j p k1 k2 => let ⟨u, k3, k4⟩ := h3 i e j p k1 k2; ⟨u, k3, hr k4⟩, h4, h5⟩
  | bld t c => obtain ⟨b, p, v, h1, h2, h3, h4, h5⟩ := this; exact ⟨b, p, v, h1, h2, h3, RepC.mono (w := w) (w' := w.drew) (GOn.refl _) (fun _ _ h => h) (fun _ _ _ => rfl) h4, h5⟩
  | mp q l => obtain ⟨b, es, c, h1, h2, h3, h4, h5, h6⟩ := this; exact ⟨b, es, c, h1, h2, h3, h4, RepTs.mono (w := w) (w' := w.drew) (GOn.refl _) (fun _ _ h => h) (fun _ _ _ => rfl) h5, h6⟩
  | lib L => exact this
theorem Obj'.on {γ γ' : Nat → G} {S S' : CS} {w w' : World} {x : Nat} {o : AO} (h : Obj' γ S w x o) (hx : γ' x = γ x) (hg : GOn γ γ') (hS : ∀ b o, S b o → S' b o) (hw : ∀ b o, S b o → w'.cell? ⟨b, o, none⟩ = w.cell? ⟨b, o, none⟩)
    (hb : ∀ b, (γ x).bk = some b → w'.heap[b]? = w.heap[b]? ∧ ∀ o, S' b o → S b o) : Obj' γ' S' w' x o := by
  have hr : ∀ {v p}, RepP S w v p → RepP S' w' v p := fun k => k.mono hS hw
  have own : ∀ {e es v n xs}, γ x = .val v → w.ownsRow 0 e es v n xs → w'.ownsRow 0 e es v n xs := fun {e es v n xs} hv ho => by
    obtain ⟨h1, h2⟩ := ho
    refine ⟨h1, ?_⟩
    rcases h2 with h2 | ⟨g, cap, cur, h3, h4, h5, h6⟩
    · exact .inl h2
    · refine .inr ⟨g, cap, cur, h3, h4, ?_, h6⟩
      rw [(hb g (by rw [hv, h3]; rfl)).1]; exact h5
  cases o with
  | box cells =>
    obtain ⟨b, cs, t, h1, h2, h3, h4⟩ := h
    have hbb := hb b (by rw [h1]; rfl)
    exact ⟨b, cs, t, by rw [hx]; exact h1, by rw [hbb.1]; exact h2, h3.mono hg hS hw, fun o ho => h4 o (hbb.2 o ho)⟩
  | row e es =>
    obtain ⟨v, n, xs, h1, h2, h3⟩ := h
    exact ⟨v, n, xs, by rw [hx]; exact h1, own h1 h2, fun b hv o ho hs => h3 b hv o ho ((hb b (by rw [h1]; exact hv)).2 o hs)⟩
  | arr e es l =>
    obtain ⟨v, xs, h1, h2, h3, h5, h4⟩ := h
    exact ⟨v, xs, by rw [hx]; exact h1, own h1 h2, fun i e j p k1 k2 => let ⟨u, k3, k4⟩ := h3 i e j p k1 k2; ⟨u, k3, hr k4⟩, h5, fun b hv o ho => h4 b hv o ((hb b (by rw [h1]; exact hv)).2 o ho)⟩
  | bld t c =>
    obtain ⟨b, p, v, h1, h2, h3, h4, h5⟩ := h
    have hbb := hb b (by rw [h1]; rfl)
    exact ⟨b, p, v, by rw [hx]; exact h1, by rw [hbb.1]; exact h2, h3, h4.mono hg hS hw, fun o ho => h5 o (hbb.2 o ho)⟩
  | mp q l =>
    obtain ⟨b, es, c, h1, h2, h3, h4, h5, h6⟩ := h
    have hbb := hb b (by rw [h1]; rfl)
    exact ⟨b, es, c, by rw [hx]; exact h1, by rw [hbb.1]; exact h2, h3, h4, h5.mono (GOn.refl _) hS hw, fun o ho => h6 o (hbb.2 o ho)⟩
  | lib L => exact ⟨by rw [hx]; exact h.1, fun p hp o => ⟨hS _ _ (h.2 p hp o).1, by rw [hw _ _ (h.2 p hp o).1]; exact (h.2 p hp o).2⟩⟩
end Go.Proofs.Ytcjagcfjpfjanaa.am
namespace Go.Proofs.Ytcjagcfjpfjanaa.am
open Go.ChangeShapes Go.WideShapes Go.ChangeAt Go.RowKit
set_option linter.unusedVariables false
set_option linter.unusedSimpArgs false
def isAggD : TypeDesc → Bool
  | .struct _ | .array _ _ => true
  | _ => false
def zPV : Value → Option PV
  | .slice none 0 0 => some .nilS
  | v => if plain v = true then some (.lit v) else none
inductive Tag where
  | bool | int (k : IntKind) | string | pointer (e : TypeId) | slice (e : TypeId) | struct | func | interface | arr (e : TypeId) (n : Nat) | map (k e : TypeId) | other
def tagOf : TypeDesc → Tag
  | .bool => .bool
  | .int k => .int k
  | .string => .string
  | .pointer e => .pointer e
  | .slice e => .slice e
  | .struct _ => .struct
  | .func .. => .func
  | .interface _ => .interface
  | .array n e => .arr e n
  | .map k e => .map k e
  | _ => .other
structure TD where
  agg : Bool
  sz : Nat
  bytes : Nat
  zero : List PV
  flds : List (Nat × Nat × Bool)
  tag : Tag
def fld (P : Program) (f : Field) : Option (Nat × Nat × Bool) :=
  match P.info? f.type, P.underlying f.type with
  | some i, some u => some (f.offset, i.size, isAggD u)
  | _, _ => none
def fldsOf (P : Program) : TypeDesc → Option (List (Nat × Nat × Bool))
  | .struct fs => fs.toList.mapM (fld P)
  | _ => some []
def aggV : Value → Bool
  | .agg _ => true
  | _ => false
def td (P : Program) (t : TypeId) : Option TD :=
  match P.info? t, P.underlying t with
  | some i, some u =>
    match i.zero with
    | some z =>
      match z.cells.toList.mapM zPV, fldsOf P u with
      | some zs, some fl => if zs.length = i.size ∧ aggV z = isAggD u then some ⟨isAggD u, i.size, i.bytes, zs, fl, tagOf u⟩ else none
      | _, _ => none
    | none => none
  | _, _ => none
structure TDok (P : Program) (t : TypeId) (d : TD) (i : TypeInfo) (u : TypeDesc) (z : Value) : Prop where
  info : P.info? t = some i
  und : P.underlying t = some u
  zer : i.zero = some z
  sz : i.size = d.sz
  bytes : i.bytes = d.bytes
  agg : isAggD u = d.agg
  zs : z.cells.toList.mapM zPV = some d.zero
  fl : fldsOf P u = some d.flds
  len : d.zero.length = d.sz
  tag : tagOf u = d.tag
  zk : aggV z = d.agg
theorem td_ok {P : Program} {t : TypeId} {d : TD} (h : td P t = some d) : ∃ i u z, TDok P t d i u z := by
  unfold td at h
  split at h
  · rename_i i u hi hu
    split at h
    · rename_i z hz
      split at h
      · rename_i zs fl hzs hfl
        split at h
        · rename_i hl
          cases h
          exact ⟨i, u, z, hi, hu, hz, rfl, rfl, rfl, hzs, hfl, hl.1, rfl, hl.2⟩
        · cases h
      · cases h
    · cases h
  · cases h
section
variable {P : Program} {t : TypeId} {d : TD} {i : TypeInfo} {u : TypeDesc} {z : Value}
theorem TDok.isAgg (h : TDok P t d i u z) (w : World) : (isAgg t).run P w = .ok d.agg w := by
  unfold Go.isAgg
  rw [Sem.run_bind, run_underlying h.und w, ← h.agg]
  cases u <;> rfl
theorem TDok.sizeOf (h : TDok P t d i u z) (w : World) : (sizeOf t).run P w = .ok d.sz w := by
  simp [Go.sizeOf, typeInfo, h.info, h.sz]
theorem TDok.zero (h : TDok P t d i u z) (w : World) : (zeroValue t).run P w = .ok z w := by
  simp [zeroValue, typeInfo, h.info, h.zer]
theorem TDok.uslice (h : TDok P t d i u z) {e : TypeId} (he : d.tag = .slice e) : P.underlying t = some (.slice e) := by
  have := h.tag; rw [he] at this; rw [h.und]; cases u <;> cases this <;> rfl
theorem TDok.uarr (h : TDok P t d i u z) {e : TypeId} {n : Nat} (he : d.tag = .arr e n) : P.underlying t = some (.array n e) := by
  have := h.tag; rw [he] at this; rw [h.und]; cases u <;> cases this <;> rfl
theorem TDok.zagg (h : TDok P t d i u z) (ha : d.agg = true) : ∃ cs, z = .agg cs := by
  have := h.zk; rw [ha] at this
  cases z <;> simp [aggV] at this
  exact ⟨_, rfl⟩
theorem TDok.umap (h : TDok P t d i u z) {k e : TypeId} (he : d.tag = .map k e) : P.underlying t = some (.map k e) := by
  have := h.tag; rw [he] at this; rw [h.und]; cases u <;> cases this <;> rfl
theorem TDok.uint (h : TDok P t d i u z) {k : IntKind} (he : d.tag = .int k) : P.underlying t = some (.int k) := by
  have := h.tag; rw [he] at this; rw [h.und]; cases u <;> cases this <;> rfl
theorem TDok.ubool (h : TDok P t d i u z) (he : d.tag = .bool) : P.underlying t = some .bool := by
  have := h.tag; rw [he] at this; rw [h.und]; cases u <;> cases this <;> rfl
theorem TDok.ustring (h : TDok P t d i u z) (he : d.tag = .string) : P.underlying t = some .string := by
  have := h.tag; rw [he] at this; rw [h.und]; cases u <;> cases this <;> rfl
theorem TDok.upointer (h : TDok P t d i u z) {e : TypeId} (he : d.tag = .pointer e) : P.underlying t = some (.pointer e) := by
  have := h.tag; rw [he] at this; rw [h.und]; cases u <;> cases this <;> rfl
theorem TDok.ufunc (h : TDok P t d i u z) (he : d.tag = .func) : ∃ a b c, P.underlying t = some (.func a b c) := by
  have := h.tag; rw [he] at this; rw [h.und]; cases u <;> cases this <;> exact ⟨_, _, _, rfl⟩
theorem TDok.ustruct (h : TDok P t d i u z) (he : d.tag = .struct) : ∃ fs, P.underlying t = some (.struct fs) ∧ fs.toList.mapM (fld P) = some d.flds := by
  have := h.tag; have h2 := h.fl; rw [he] at this; rw [h.und]; cases u <;> cases this <;> exact ⟨_, rfl, h2⟩
theorem zPV_rep {S : CS} {w : World} {v : Value} {p : PV} (h : zPV v = some p) : RepP S w v p := by
  unfold zPV at h
  split at h
  · cases h; exact .nilS
  · split at h
    · rename_i hp; cases h; exact .lit _ hp
    · cases h
theorem mapM_at {α β : Type} {f : α → Option β} : ∀ {l : List α} {r : List β}, l.mapM f = some r → l.length = r.length ∧ ∀ (i : Nat) y, r[i]? = some y → ∃ x, l[i]? = some x ∧ f x = some y
  | [], r, h => by simp at h; subst h; exact ⟨rfl, fun i y hy => by simp at hy⟩
  | x :: l, r, h => by
    simp only [List.mapM_cons, Option.bind_eq_bind, Option.pure_def] at h
    cases hx : f x with
    | none => simp [hx] at h
    | some y =>
      cases hl : l.mapM f with
      | none => simp [hx, hl] at h
      | some r' =>
        simp [hx, hl] at h
        subst h
        obtain ⟨h1, h2⟩ := mapM_at hl
        refine ⟨by simp [h1], fun i z hz => ?_⟩
        cases i with
        | zero => simp at hz; subst hz; exact ⟨x, rfl, hx⟩
        | succ i => simp at hz; simpa using h2 i z hz
theorem TDok.rep (h : TDok P t d i u z) (γ : Nat → G) (S : CS) (w : World) : RepCs γ S w z.cells.toList (d.zero.map .pv) := by
  obtain ⟨h1, h2⟩ := mapM_at h.zs
  refine ⟨by rw [h1, List.length_map], fun i c hc => ?_⟩
  rw [List.getElem?_map] at hc
  obtain ⟨p, hp, rfl⟩ := Option.map_eq_some_iff.1 hc
  obtain ⟨x, hx, hz⟩ := h2 i p hp
  exact ⟨x, hx, zPV_rep hz⟩
theorem TDok.zsize (h : TDok P t d i u z) : z.cells.size = d.sz := by
  rw [← Array.length_toList, (mapM_at h.zs).1, h.len]
end
def constAV (v : Value) : AV :=
  if plain v = true then .v (.c (.pv (.lit v))) else
  match v with
  | .slice none 0 0 => .v (.c (.pv .nilS))
  | .func f a b => if a.size = 0 ∧ b.size = 0 then .v (.c (.fn f [] [])) else .top
  | .agg cs => match cs.toList.mapM zPV with
    | some l => .v (.agg (l.map .pv))
    | none => .top
  | _ => .top
def evA (T : Nat → AV) : Operand → AV
  | .tmp t => T t
  | .const v => constAV v
  | .func f => .v (.c (.fn (.func f) [] []))
  | .global _ => .top
theorem constAV_rep (γ : Nat → G) (S : CS) (w : World) (v : Value) : RepV γ S w v (constAV v) := by
  unfold constAV
  by_cases h : plain v = true
  · rw [if_pos h]; exact RepP.lit v h
  · rw [if_neg h]
    cases v with
    | slice a n c =>
      try dsimp only
      split
      · rename_i heq; cases heq; exact RepP.nilS
      · rename_i heq; cases heq
      · rename_i heq; cases heq
      · trivial
    | func f xs ys =>
      try dsimp only
      split
      · rename_i hab
        exact ⟨xs, ys, rfl, ⟨by simpa using hab.1, fun i c h => by simp at h⟩, ⟨by simpa using hab.2, fun i c h => by simp at h⟩⟩
      · trivial
    | agg cs =>
      try dsimp only
      split
      · rename_i l hl
        obtain ⟨h1, h2⟩ := mapM_at hl
        refine ⟨cs, rfl, by rw [h1, List.length_map], fun i c hc => ?_⟩
        rw [List.getElem?_map] at hc
        obtain ⟨p, hp, rfl⟩ := Option.map_eq_some_iff.1 hc
        obtain ⟨x, hx, hz⟩ := h2 i p hp
        exact ⟨x, hx, zPV_rep hz⟩
      · trivial
    | _ => trivial
theorem evA_rep {γ : Nat → G} {S : CS} {w : World} {a : Act} {T : Nat → AV} (h : ∀ t, RepV γ S w (a.tmps.getD t undef) (T t)) (x : Operand) : RepV γ S w (a.eval x) (evA T x) := by
  cases x with
  | tmp t => exact h t
  | const v => exact constAV_rep γ S w v
  | func f => exact ⟨#[], #[], rfl, ⟨rfl, fun i c h => by simp at h⟩, ⟨rfl, fun i c h => by simp at h⟩⟩
  | global g => trivial
theorem getElem?_lift {α β : Type} {l : List α} {r : List β} (hlen : l.length = r.length) {i : Nat} {x : α} (h : l[i]? = some x) : ∃ y, r[i]? = some y := by
  have := (List.getElem?_eq_some_iff.1 h).1
  exact ⟨r[i]'(by omega), List.getElem?_eq_getElem _⟩
theorem RepCs.seg {γ : Nat → G} {S : CS} {w : World} {vs : List Value} {l : List AC} (h : RepCs γ S w vs l) (o n : Nat) : RepCs γ S w ((vs.drop o).take n) ((l.drop o).take n) := by
  refine ⟨by simp [h.1], fun i c hc => ?_⟩
  rw [List.getElem?_take] at hc ⊢
  by_cases hi : i < n
  · rw [if_pos hi, List.getElem?_drop] at hc
    obtain ⟨v, h1, h2⟩ := h.2 _ c hc
    exact ⟨v, by rw [if_pos hi, List.getElem?_drop]; exact h1, h2⟩
  · rw [if_neg hi] at hc; cases hc
def vload (d : TD) (a : AV) (H : Nat → Option AO) : Option (AV × List Nat) :=
  match a with
  | .v (.c (.ptr id off)) =>
    match H id with
    | some (.box cells) => if d.agg = true then (if off + d.sz ≤ cells.length then some (.v (.agg ((cells.drop off).take d.sz)), [id]) else none) else (cells[off]?).map fun c => (.v (.c c), [id])
    | some (.bld _ c) => if d.agg = false ∧ off = 1 then some (.v (.c c), [id]) else none
    | _ => none
  | .rp cells off => if d.agg = true then (if off + d.sz ≤ cells.length then some (.v (.agg (((cells.drop off).take d.sz).map .pv)), []) else none) else (cells[off]?).map fun p => (.v (.c (.pv p)), [])
  | .ep id es' i off =>
    match H id with
    | some (.arr _ es l) =>
      match (if es' = es then l[i]? else none) with
      | some el => if d.agg = true then (if off + d.sz ≤ el.length then some (.v (.agg (((el.drop off).take d.sz).map .pv)), [id]) else none) else (el[off]?).map fun p => (.v (.c (.pv p)), [id])
      | none => none
    | _ => none
  | _ => none
section
variable {P : Program} {γ : Nat → G} {S : CS} {w : World}
theorem addr_add (b o j : Nat) : (⟨b, o, none⟩ : Addr).add j = ⟨b, o + j, none⟩ := by unfold Addr.add; split <;> simp_all
theorem run_loadVar_cells {t : TypeId} {d : TD} {i : TypeInfo} {u : TypeDesc} {z : Value} (h : TDok P t d i u z) (hd : d.agg = true) (b o : Nat) (cs : List Value) (hn : cs.length = d.sz) (hc : ∀ (j : Nat) v, cs[j]? = some v → w.cell? ⟨b, o + j, none⟩ = some v) :
    (loadVar t ⟨b, o, none⟩).run P w = .ok (.agg cs.toArray) w := by
  have hl := run_loadCells_list (P := P) w ⟨b, o, none⟩ cs (fun j v hv => by rw [addr_add]; exact hc j v hv)
  unfold loadVar
  simp only [Sem.run_bind, h.isAgg, Result.andThen_ok, hd, if_true, h.sizeOf, ← hn, hl, Sem.run_pure]
theorem run_loadVar_cell {t : TypeId} {d : TD} {i : TypeInfo} {u : TypeDesc} {z : Value} (h : TDok P t d i u z) (hd : d.agg = false) (b o : Nat) (v : Value) (hc : w.cell? ⟨b, o, none⟩ = some v) :
    (loadVar t ⟨b, o, none⟩).run P w = .ok v w := by
  unfold loadVar
  simp only [Sem.run_bind, h.isAgg, Result.andThen_ok, hd, Bool.false_eq_true, if_false, run_load, hc]
theorem RepPs_list {S : CS} {w : World} (b o : Nat) (cells : List PV) (h : ∀ j p, cells[j]? = some p → ∃ u, w.cell? ⟨b, o + j, none⟩ = some u ∧ RepP S w u p) : ∃ cs : List Value, cs.length = cells.length ∧ (∀ (j : Nat) v, cs[j]? = some v → w.cell? ⟨b, o + j, none⟩ = some v) ∧ ∀ (j : Nat) p, cells[j]? = some p → ∃ v, cs[j]? = some v ∧ RepP S w v p := by
  induction cells generalizing o with
  | nil => exact ⟨[], rfl, fun j v h => by simp at h, fun j p h => by simp at h⟩
  | cons p cells ih =>
    obtain ⟨cs, h1, h2, h3⟩ := ih (o + 1) (fun j p hj => by have := h (j + 1) p (by simpa using hj); rwa [show o + (j + 1) = o + 1 + j by omega] at this)
    obtain ⟨u, hu, hp⟩ := h 0 p rfl
    refine ⟨u :: cs, by simp [h1], fun j v hv => ?_, fun j q hq => ?_⟩
    · cases j with
      | zero => simp at hv; subst hv; exact hu
      | succ j => simp at hv; have := h2 j v hv; rwa [show o + (j + 1) = o + 1 + j by omega]
    · cases j with
      | zero => simp at hq; subst hq; exact ⟨u, rfl, hp⟩
      | succ j => simp at hq; simpa using h3 j q hq
theorem RepPs_agg {cs : List Value} {cells : List PV} (hl : cs.length = cells.length) (h : ∀ (j : Nat) p, cells[j]? = some p → ∃ v, cs[j]? = some v ∧ RepP S w v p) : RepT γ S w (.agg cs.toArray) (.agg (cells.map .pv)) := by
  refine ⟨_, rfl, by simpa using hl, fun i c hc => ?_⟩
  rw [List.getElem?_map] at hc
  obtain ⟨p, hp, rfl⟩ := Option.map_eq_some_iff.1 hc
  obtain ⟨v, h1, h2⟩ := h i p hp
  exact ⟨v, by simpa using h1, h2⟩
theorem seg_at {α : Type} {l : List α} {o n j : Nat} {x : α} (h : ((l.drop o).take n)[j]? = some x) : l[o + j]? = some x := by
  rw [List.getElem?_take] at h
  split at h
  · rwa [List.getElem?_drop] at h
  · cases h
theorem cell_row {w : World} {b j : Nat} {cs : Array Value} {t : TypeId} {fr : Nat × Nat} (h : w.heap[b]? = some (.cells cs t fr)) : w.cell? ⟨b, j, none⟩ = cs.toList[j]? := by
  rw [cell_of_row w b j cs t fr h]; simp
theorem vload_sound {t : TypeId} {d : TD} (hd : td P t = some d) {a : AV} {H : Nat → Option AO} {v : AV} {F : List Nat} (h : vload d a H = some (v, F)) (hob : ∀ x o, H x = some o → Obj' γ S w x o) {x : Value} (hx : RepV γ S w x a) :
    ∃ u, (Instr.loadAt t x).run P w = .ok u w ∧ RepV γ S w u v := by
  obtain ⟨i, ud, z, T⟩ := td_ok hd
  have run1 : ∀ b o, (Instr.loadAt t (.pointer (some ⟨b, o, none⟩))).run P w = (loadVar t ⟨b, o, none⟩).run P w := fun b o => by simp [Instr.loadAt, Instr.sureAddr]
  -- a run of pure cells
  have pure : ∀ (b o off : Nat) (cells : List PV) (R : AV × List Nat), (∀ j p, cells[j]? = some p → ∃ u, w.cell? ⟨b, o + j, none⟩ = some u ∧ RepP S w u p) →
      (if d.agg = true then (if off + d.sz ≤ cells.length then some (AV.v (.agg (((cells.drop off).take d.sz).map .pv)), F) else none) else (cells[off]?).map fun p => (AV.v (.c (.pv p)), F)) = some (v, F) →
      ∃ u, (loadVar t ⟨b, o + off, none⟩).run P w = .ok u w ∧ RepV γ S w u v := fun b o off cells R hc hh => by
    split at hh
    · rename_i hag
      split at hh
      · rename_i hle
        simp only [Option.some.injEq, Prod.mk.injEq, and_true] at hh
        subst hh
        obtain ⟨cs, k1, k2, k3⟩ := RepPs_list b (o + off) ((cells.drop off).take d.sz) (fun j p hj => by have := hc (off + j) p (seg_at hj); rwa [← Nat.add_assoc] at this)
        refine ⟨_, run_loadVar_cells T hag b (o + off) cs ?_ k2, RepPs_agg k1 k3⟩
        rw [k1, List.length_take, List.length_drop]; omega
      · cases hh
    · rename_i hag
      obtain ⟨p, hp, hh⟩ := Option.map_eq_some_iff.1 hh
      simp only [Prod.mk.injEq, and_true] at hh
      subst hh
      obtain ⟨u, k1, k2⟩ := hc off p hp
      exact ⟨u, run_loadVar_cell T (by simpa using hag) b _ u k1, k2⟩
  unfold vload at h
  split at h
  · rename_i id off
    obtain ⟨b, hb, rfl⟩ := hx
    split at h
    · rename_i cells hH
      obtain ⟨b', cs, tt, g1, g2, g3, _⟩ := hob _ _ hH
      rw [g1] at hb; cases hb
      rw [run1]
      split at h
      · rename_i hag
        split at h
        · rename_i hle
          simp only [Option.some.injEq, Prod.mk.injEq] at h
          obtain ⟨rfl, rfl⟩ := h
          have k := g3.seg off d.sz
          refine ⟨_, run_loadVar_cells T hag b off ((cs.toList.drop off).take d.sz) ?_ (fun j v hv => ?_), ⟨_, rfl, by simpa using k⟩⟩
          · rw [List.length_take, List.length_drop, g3.1]; omega
          · rw [cell_row g2]; exact seg_at hv
        · cases h
      · rename_i hag
        obtain ⟨c, hc, hh⟩ := Option.map_eq_some_iff.1 h
        simp only [Prod.mk.injEq] at hh
        obtain ⟨rfl, rfl⟩ := hh
        obtain ⟨v, k1, k2⟩ := g3.2 off c hc
        exact ⟨v, run_loadVar_cell T (by simpa using hag) b off v (by rw [cell_row g2]; exact k1), k2⟩
    · rename_i t' c hH
      obtain ⟨b', p', v', g1, g2, _, g3, _⟩ := hob _ _ hH
      rw [g1] at hb; cases hb
      rw [run1]
      split at h
      · rename_i hc
        obtain ⟨hag, rfl⟩ := hc
        simp only [Option.some.injEq, Prod.mk.injEq] at h
        obtain ⟨rfl, rfl⟩ := h
        exact ⟨v', run_loadVar_cell T hag b 1 v' (by rw [cell_row g2]; rfl), g3⟩
      · cases h
    · cases h
  · rename_i cells off
    obtain ⟨b, o, rfl, hc⟩ := hx
    rw [run1]
    have hF : F = [] := by
      split at h
      · split at h
        · simp only [Option.some.injEq, Prod.mk.injEq] at h; exact h.2.symm
        · cases h
      · obtain ⟨c, hc, hh⟩ := Option.map_eq_some_iff.1 h
        simp only [Prod.mk.injEq] at hh; exact hh.2.symm
    subst hF
    exact pure b o off cells (v, []) (fun j p hj => (hc j p hj).2) h
  · rename_i id es' k off
    split at h
    · rename_i e es l hH
      obtain ⟨v0, xs, g1, g2, g3, g4, _⟩ := hob _ _ hH
      split at h
      · rename_i el hel
        split at hel
        · rename_i hes
          subst hes
          obtain ⟨b, rfl, hx⟩ := hx
          rcases hx with hx | ⟨n, c, hx⟩
          · rw [g1] at hx; cases hx
          · rw [g1] at hx; cases hx
            have hF : F = [id] := by
              split at h
              · split at h
                · simp only [Option.some.injEq, Prod.mk.injEq] at h; exact h.2.symm
                · cases h
              · obtain ⟨c, hc, hh⟩ := Option.map_eq_some_iff.1 h
                simp only [Prod.mk.injEq] at hh; exact hh.2.symm
            subst hF
            rw [run1]
            refine pure b (k * es') off el (v, []) (fun j p hj => ?_) h
            obtain ⟨u, k1, k2⟩ := g3 k el j p hel hj
            refine ⟨u, ?_, k2⟩
            have := g2.cells (g := b) rfl (k * es' + j) u k1
            rwa [addr_add, Nat.zero_add] at this
        · cases hel
      · cases h
    · cases h
  · cases h
end
end Go.Proofs.Ytcjagcfjpfjanaa.am
namespace Go.Proofs.Ytcjagcfjpfjanaa.am
open Go.ChangeShapes Go.WideShapes Go.ChangeAt Go.RowKit
set_option linter.unusedVariables false
set_option linter.unusedSimpArgs false
def pint (op : BinOp) (k : IntKind) (a b : Int) : Option Value :=
  match op with
  | .add => some (.int k (k.wrap (a + b)))
  | .sub => some (.int k (k.wrap (a - b)))
  | .mul => some (.int k (k.wrap (a * b)))
  | .quo => if b = 0 then none else some (.int k (k.wrap (a.tdiv b)))
  | .rem => if b = 0 then none else some (.int k (a.tmod b))
  | .and => some (.int k (k.wrap (BitVec.ofInt k.bits a &&& BitVec.ofInt k.bits b).toNat))
  | .or => some (.int k (k.wrap (BitVec.ofInt k.bits a ||| BitVec.ofInt k.bits b).toNat))
  | .xor => some (.int k (k.wrap (BitVec.ofInt k.bits a ^^^ BitVec.ofInt k.bits b).toNat))
  | .andNot => some (.int k (k.wrap (BitVec.ofInt k.bits a &&& ~~~BitVec.ofInt k.bits b).toNat))
  | .eql => some (.bool (decide (a = b)))
  | .neq => some (.bool (!decide (a = b)))
  | .lss => some (.bool (decide (a < b)))
  | .leq => some (.bool (decide (a ≤ b)))
  | .gtr => some (.bool (decide (b < a)))
  | .geq => some (.bool (decide (b ≤ a)))
  | _ => none
def pstr (op : BinOp) (a b : ByteArray) : Option Value :=
  match op with
  | .add => if a.size + b.size ≤ 9223372036854775807 then some (.string (a ++ b)) else none
  | .eql => some (.bool (decide (a = b)))
  | .neq => some (.bool (!decide (a = b)))
  | .lss => some (.bool (Op.bytesLess a.toList b.toList))
  | .leq => some (.bool (Op.bytesLess a.toList b.toList || decide (a = b)))
  | .gtr => some (.bool (!(Op.bytesLess a.toList b.toList || decide (a = b))))
  | .geq => some (.bool (!Op.bytesLess a.toList b.toList))
  | _ => none
def pbin (op : BinOp) (x y : Value) : Option Value :=
  match x, y with
  | .int k a, .int k' b =>
    match op with
    | .shl => if b < 0 then none else some (.int k (k.wrap (a * 2 ^ min b.toNat k.bits)))
    | .shr => if b < 0 then none else some (.int k (a.fdiv (2 ^ min b.toNat k.bits)))
    | _ => if k = k' then pint op k a b else none
  | .string a, .string b => pstr op a b
  | _, _ => none
theorem pbin_plain {op : BinOp} {x y v : Value} (h : pbin op x y = some v) : plain v = true := by
  unfold pbin at h
  split at h
  · split at h
    · split at h <;> cases h; rfl
    · split at h <;> cases h; rfl
    · split at h
      · unfold pint at h
        split at h <;> first | (cases h; rfl) | (split at h <;> cases h; rfl) | cases h
      · cases h
  · unfold pstr at h
    split at h <;> first | (cases h; rfl) | (split at h <;> cases h; rfl) | cases h
  · cases h
def isEqOp : BinOp → Option Bool
  | .eql => some true
  | .neq => some false
  | _ => none
def veq (tag : Tag) (x y : AV) : Option Bool :=
  match x, y with
  | .v (.c (.pv (.lit (.bool p)))), .v (.c (.pv (.lit (.bool q)))) => (match tag with | .bool => some (decide (p = q)) | _ => none)
  | .v (.c (.pv (.lit (.pointer none)))), .v (.c (.pv (.lit (.pointer none)))) => (match tag with | .pointer _ => some true | _ => none)
  | .v (.c (.ptr _ _)), .v (.c (.pv (.lit (.pointer none)))) => (match tag with | .pointer _ => some false | _ => none)
  | .v (.c (.pv (.lit .nilFunc))), .v (.c (.pv (.lit .nilFunc))) => (match tag with | .func => some true | _ => none)
  | .v (.c (.fn _ _ _)), .v (.c (.pv (.lit .nilFunc))) => (match tag with | .func => some false | _ => none)
  | .v (.c (.pv .nilS)), .v (.c (.pv .nilS)) => (match tag with | .slice _ => some true | _ => none)
  | .v (.c (.pv (.sl _ (_ :: _)))), .v (.c (.pv .nilS)) => (match tag with | .slice _ => some false | _ => none)
  | _, _ => none
def veqF (tag : Tag) (x y : AV) : Bool :=
  match x, y with
  | .v (.c (.pv (.sl _ []))), .v (.c (.pv .nilS)) => (match tag with | .slice _ => true | _ => false)
  | _, _ => false
def eqFld (P : Program) (f : Field) : Option (Nat × Tag) :=
  if f.name = "_" then none else
  match P.underlying f.type with
  | some .bool => some (f.offset, .bool)
  | some (.int k) => some (f.offset, .int k)
  | some .string => some (f.offset, .string)
  | _ => none
def eqTys (P : Program) (t : TypeId) : Option (List (Nat × Tag)) :=
  if P.stoodInHeld t = false ∧ P.eqGuardType P.depth t = false then
    match P.underlying t with
    | some (.struct fs) => fs.toList.mapM (eqFld P)
    | _ => none
  else none
def eqCell (x y : Option AC) (tg : Tag) : Option Bool :=
  match x, y, tg with
  | some (.pv (.lit (.int k a))), some (.pv (.lit (.int k' b))), .int _ => if k = k' then some (decide (a = b)) else none
  | some (.pv (.lit (.bool a))), some (.pv (.lit (.bool b))), .bool => some (decide (a = b))
  | some (.pv (.lit (.string a))), some (.pv (.lit (.string b))), .string => some (decide (a = b))
  | _, _, _ => none
def eqCells (l m : List AC) : List (Nat × Tag) → Option Bool
  | [] => some true
  | p :: r =>
    match eqCell l[p.1]? m[p.1]? p.2, eqCells l m r with
    | some a, some b => some (a && b)
    | _, _ => none
def vbin (P : Program) (op : BinOp) (t : TypeId) (x y : AV) : Option AV :=
  match x, y with
  | .v (.c (.pv (.lit (.int k a)))), .v (.c (.pv (.lit (.int k' b)))) => (pbin op (.int k a) (.int k' b)).map fun v => .v (.c (.pv (.lit v)))
  | .v (.c (.pv (.lit (.string a)))), .v (.c (.pv (.lit (.string b)))) => (pstr op a b).map fun v => .v (.c (.pv (.lit v)))
  | .v (.agg l), .v (.agg m) =>
    match isEqOp op, eqTys P t with
    | some s, some fs => (eqCells l m fs).map fun e => .v (.c (.pv (.lit (.bool (e == s)))))
    | _, _ => none
  | _, _ =>
    match isEqOp op, td P t with
    | some s, some d => if veqF d.tag x y = true then some (.v (.c .flag)) else (veq d.tag x y).map fun e => .v (.c (.pv (.lit (.bool (e == s)))))
    | _, _ => none
section
variable {P : Program} {γ : Nat → G} {S : CS} {w : World}
theorem lit_rep {v : Value} (h : plain v = true) : RepV γ S w v (.v (.c (.pv (.lit v)))) := RepP.lit v h
theorem lit_inv {x v : Value} (h : RepV γ S w x (.v (.c (.pv (.lit v))))) : x = v ∧ plain v = true := by cases h; exact ⟨rfl, by assumption⟩
theorem nilS_inv {x : Value} (h : RepV γ S w x (.v (.c (.pv .nilS)))) : x = .slice none 0 0 := by cases h; rfl
theorem run_pint {op : BinOp} {k : IntKind} {a b : Int} {v : Value} (t : TypeId) (h : pint op k a b = some v) : (binOp op t (.int k a) (.int k b)).run P w = .ok v w := by
  cases op <;> simp only [pint, Option.some.injEq] at h <;> first
    | (cases h; done)
    | (subst h; simp [binOp, Op.intArith, Op.intCmp, Op.intBits, bne, BEq.beq]; done)
    | (split at h
       · cases h
       · rename_i hb
         cases h
         simp [binOp, Op.intDiv, hb])
theorem run_pstr {op : BinOp} {a b : ByteArray} {v : Value} (t : TypeId) (h : pstr op a b = some v) : (binOp op t (.string a) (.string b)).run P w = .ok v w := by
  have e : (a.toList == b.toList) = decide (a = b) := bs.text_eq a b
  cases op <;> simp only [pstr, Option.some.injEq] at h <;> first
    | (cases h; done)
    | (subst h; simp [binOp, Op.stringOp, e]; done)
    | (split at h
       · rename_i hb
         cases h
         have : ¬ (9223372036854775807 : Int) < (a.size : Int) + (b.size : Int) := by omega
         simp [binOp, Op.stringOp, this]
       · cases h)
theorem run_pbin {op : BinOp} {x y v : Value} (t : TypeId) (h : pbin op x y = some v) : (binOp op t x y).run P w = .ok v w := by
  unfold pbin at h
  split at h
  · split at h
    · split at h
      · cases h
      · rename_i hb; cases h; simp [binOp, Op.shift, hb]
    · split at h
      · cases h
      · rename_i hb; cases h; simp [binOp, Op.shift, hb]
    · split at h
      · rename_i hk; subst hk; exact run_pint t h
      · cases h
  · exact run_pstr t h
  · cases h
def sole : Value → Bool
  | .bool _ | .pointer _ | .slice _ _ _ | .func _ _ _ | .nilFunc => true
  | _ => false
theorem run_eqop {op : BinOp} {s : Bool} (hs : isEqOp op = some s) {t : TypeId} {x y : Value} {e : Bool} (hx : sole x = true) (hy : sole y = true) (h : (Op.equal t x y).run P w = .ok e w) (ox oy : Operand) :
    (do eqGuard op t ox oy x y; binOp op t x y : Sem Value).run P w = .ok (.bool (e == s)) w := by
  have hg : eqGuard op t ox oy x y = pure () := by cases x <;> simp [sole] at hx <;> cases op <;> rfl
  rw [hg]
  cases op <;> simp only [isEqOp, Option.some.injEq, reduceCtorEq] at hs <;> subst hs
  · have : binOp .eql t x y = (do pure (.bool (← Op.equal t x y))) := by cases x <;> simp [sole] at hx <;> cases y <;> simp [sole] at hy <;> rfl
    simp [this, h]
  · have : binOp .neq t x y = (do pure (.bool (!(← Op.equal t x y)))) := by cases x <;> simp [sole] at hx <;> cases y <;> simp [sole] at hy <;> rfl
    simp [this, h]
theorem equal_eq (t : TypeId) (x y : Value) : Op.equal t x y = Op.equalIn (9999 + 1) t x y := rfl
theorem veq_sound {t : TypeId} {d : TD} (hd : td P t = some d) {x y : AV} {e : Bool} (h : veq d.tag x y = some e) {a b : Value} (hx : RepV γ S w a x) (hy : RepV γ S w b y) : (Op.equal t a b).run P w = .ok e w ∧ sole a = true ∧ sole b = true := by
  obtain ⟨i, ud, z, T⟩ := td_ok hd
  unfold veq at h
  rw [equal_eq]
  split at h
  · obtain ⟨rfl, _⟩ := lit_inv hx
    obtain ⟨rfl, _⟩ := lit_inv hy
    split at h
    · rename_i htag
      cases h
      exact ⟨by rw [Op.equalIn, Sem.run_bind, run_underlying (T.ubool htag)]; rfl, rfl, rfl⟩
    · cases h
  · obtain ⟨rfl, _⟩ := lit_inv hx
    obtain ⟨rfl, _⟩ := lit_inv hy
    split at h
    · rename_i htag
      cases h
      exact ⟨by rw [Op.equalIn, Sem.run_bind, run_underlying (T.upointer htag)]; rfl, rfl, rfl⟩
    · cases h
  · obtain ⟨b', hb', rfl⟩ := hx
    obtain ⟨rfl, _⟩ := lit_inv hy
    split at h
    · rename_i htag
      cases h
      exact ⟨by rw [Op.equalIn, Sem.run_bind, run_underlying (T.upointer htag)]; rfl, rfl, rfl⟩
    · cases h
  · obtain ⟨rfl, _⟩ := lit_inv hx
    obtain ⟨rfl, _⟩ := lit_inv hy
    split at h
    · rename_i htag
      cases h
      obtain ⟨_, _, _, hu⟩ := T.ufunc htag
      exact ⟨by rw [Op.equalIn, Sem.run_bind, run_underlying hu]; rfl, rfl, rfl⟩
    · cases h
  · obtain ⟨xs, ys, rfl, _⟩ := hx
    obtain ⟨rfl, _⟩ := lit_inv hy
    split at h
    · rename_i htag
      cases h
      obtain ⟨_, _, _, hu⟩ := T.ufunc htag
      exact ⟨by rw [Op.equalIn, Sem.run_bind, run_underlying hu]; rfl, rfl, rfl⟩
    · cases h
  · obtain rfl := nilS_inv hx
    obtain rfl := nilS_inv hy
    split at h
    · rename_i htag
      cases h
      exact ⟨by rw [Op.equalIn, Sem.run_bind, run_underlying (T.uslice htag)]; rfl, rfl, rfl⟩
    · cases h
  · obtain rfl := nilS_inv hy
    split at h
    · rename_i htag
      cases h
      cases hx
      exact ⟨by rw [Op.equalIn, Sem.run_bind, run_underlying (T.uslice htag)]; rfl, rfl, rfl⟩
    · cases h
  · cases h
theorem veqF_sound {t : TypeId} {d : TD} (hd : td P t = some d) {x y : AV} (h : veqF d.tag x y = true) {a b : Value} (hx : RepV γ S w a x) (hy : RepV γ S w b y) : ∃ e, (Op.equal t a b).run P w = .ok e w ∧ sole a = true ∧ sole b = true := by
  obtain ⟨i, ud, z, T⟩ := td_ok hd
  unfold veqF at h
  rw [equal_eq]
  split at h
  · obtain rfl := nilS_inv hy
    split at h
    · rename_i htag
      cases hx with
      | emp ad c es hm ha =>
        cases ad with
        | none =>
          obtain rfl := ha rfl
          exact ⟨true, by rw [Op.equalIn, Sem.run_bind, run_underlying (T.uslice htag)]; rfl, rfl, rfl⟩
        | some ad => exact ⟨false, by rw [Op.equalIn, Sem.run_bind, run_underlying (T.uslice htag)]; rfl, rfl, rfl⟩
      | sl b off n c es l hlen h0 => simp at hlen; omega
    · cases h
  · cases h
theorem eqCell_sound {d : Nat} {f : Field} {p : Nat × Tag} (hf : eqFld P f = some p) {xs ys : Array Value} {l m : List AC} (hx : RepCs γ S w xs.toList l) (hy : RepCs γ S w ys.toList m) {e : Bool} (h : eqCell l[p.1]? m[p.1]? p.2 = some e) :
    f.name ≠ "_" ∧ ∃ a b, (part f.type xs f.offset).run P w = .ok a w ∧ (part f.type ys f.offset).run P w = .ok b w ∧ (Op.equalIn (d + 1) f.type a b).run P w = .ok e w := by
  unfold eqFld at hf
  split at hf
  · cases hf
  · rename_i hn
    refine ⟨hn, ?_⟩
    have prt : ∀ {zs : Array Value} {k : List AC} {v : Value} {u : TypeDesc}, P.underlying f.type = some u → isAggD u = false → RepCs γ S w zs.toList k → k[f.offset]? = some (.pv (.lit v)) → (part f.type zs f.offset).run P w = .ok v w := fun {zs k v u} hu hag hz hk => by
      obtain ⟨x, h1, h2⟩ := hz.2 _ _ hk
      cases h2
      have h1' : zs[f.offset]? = some v := by simpa using h1
      have hia : (isAgg f.type).run P w = .ok false w := by
        unfold Go.isAgg
        rw [Sem.run_bind, run_underlying hu w]
        cases u <;> first | rfl | cases hag
      unfold part
      rw [Sem.run_bind, hia]
      simp [h1']
    unfold eqCell at h
    cases hu : P.underlying f.type with
    | none => rw [hu] at hf; cases hf
    | some u =>
      rw [hu] at hf
      split at hf
      · rename_i hh; cases hh; cases hf
        split at h <;> first | cases h | skip
        all_goals (rename_i a b g1 g2 g3)
        all_goals (first | cases g3 | skip)
        exact ⟨_, _, prt hu rfl hx g1, prt hu rfl hy g2, by rw [run_equalIn_bool' w d f.type _ _ hu]; rfl⟩
      · rename_i k hh; cases hh; cases hf
        split at h <;> first | cases h | skip
        all_goals (rename_i g1 g2 g3)
        all_goals (first | cases g3 | skip)
        split at h
        case isFalse => cases h
        rename_i hkk
        subst hkk
        cases h
        exact ⟨_, _, prt hu rfl hx g1, prt hu rfl hy g2, by rw [run_equalIn_int w d f.type _ _ _ _ hu]; rfl⟩
      · rename_i hh; cases hh; cases hf
        split at h <;> first | cases h | skip
        all_goals (rename_i a b g1 g2 g3)
        all_goals (first | cases g3 | skip)
        exact ⟨_, _, prt hu rfl hx g1, prt hu rfl hy g2, by rw [run_equalIn_string w d f.type _ _ hu, bs.text_eq]⟩
      · cases hf
theorem eqCells_sound {d : Nat} {xs ys : Array Value} {l m : List AC} (hx : RepCs γ S w xs.toList l) (hy : RepCs γ S w ys.toList m) : ∀ {fs : List Field} {ps : List (Nat × Tag)} {e : Bool}, fs.mapM (eqFld P) = some ps → eqCells l m ps = some e → (Op.eqFields (d + 1) xs ys fs).run P w = .ok e w
  | [], ps, e, hp, h => by simp at hp; subst hp; cases h; rfl
  | f :: fs, ps, e, hp, h => by
    simp only [List.mapM_cons, Option.bind_eq_bind, Option.pure_def] at hp
    cases hf : eqFld P f with
    | none => simp [hf] at hp
    | some p =>
      cases hr : fs.mapM (eqFld P) with
      | none => simp [hf, hr] at hp
      | some r =>
        simp [hf, hr] at hp
        subst hp
        unfold eqCells at h
        split at h
        · rename_i a b h1 h2
          cases h
          obtain ⟨hn, u, v, k1, k2, k3⟩ := eqCell_sound (d := d) hf hx hy h1
          have ih := eqCells_sound (d := d) hx hy hr h2
          unfold Op.eqFields
          simp only [hn, ne_eq, not_false_eq_true, if_true, Sem.run_bind, k1, k2, k3, Result.andThen_ok]
          cases a <;> simp [ih]
        · cases h
theorem vbin_sound {op : BinOp} {t : TypeId} {x y : AV} {v : AV} (h : vbin P op t x y = some v) (ox oy : Operand) {a b : Value} (hx : RepV γ S w a x) (hy : RepV γ S w b y) :
    ∃ u, (do eqGuard op t ox oy a b; binOp op t a b : Sem Value).run P w = .ok u w ∧ RepV γ S w u v := by
  unfold vbin at h
  split at h
  · obtain ⟨rfl, ha⟩ := lit_inv hx
    obtain ⟨rfl, hb⟩ := lit_inv hy
    obtain ⟨u, hu, rfl⟩ := Option.map_eq_some_iff.1 h
    exact ⟨u, by rw [eqGuard_at_int]; simp [run_pbin t hu], lit_rep (pbin_plain hu)⟩
  · obtain ⟨rfl, ha⟩ := lit_inv hx
    obtain ⟨rfl, hb⟩ := lit_inv hy
    obtain ⟨u, hu, rfl⟩ := Option.map_eq_some_iff.1 h
    exact ⟨u, by rw [eqGuard_at_string]; simp [run_pstr t hu], lit_rep (pbin_plain (op := op) (x := .string _) (y := .string _) hu)⟩
  · rename_i l m
    obtain ⟨xs, rfl, hxs⟩ := hx
    obtain ⟨ys, rfl, hys⟩ := hy
    split at h
    · rename_i s fs hs hfs
      obtain ⟨e, he, rfl⟩ := Option.map_eq_some_iff.1 h
      unfold eqTys at hfs
      split at hfs
      · rename_i hg
        split at hfs
        · rename_i fa hu
          have hfo : P.fieldsOf t = fa := by unfold Program.fieldsOf; rw [hu]
          have hu' : P.underlying t = some (.struct (P.fieldsOf t)) := by rw [hfo]; exact hu
          have key := eqCells_sound (d := 9998) hxs hys hfs he
          have heq : (Op.equalIn 10000 t (.agg xs) (.agg ys)).run P w = .ok e w := by
            rw [run_equalIn_struct w 9999 t xs ys hu' hg.1, hfo]; exact key
          refine ⟨.bool (e == s), ?_, lit_rep rfl⟩
          rw [Sem.run_bind, run_eqGuard_agg w op t ox oy xs ys hg.2, Result.andThen_ok]
          cases op <;> simp only [isEqOp, Option.some.injEq, reduceCtorEq] at hs <;> subst hs
          · rw [run_eql_struct, heq]; cases e <;> rfl
          · rw [run_neq_struct, heq]; cases e <;> rfl
        · cases hfs
      · cases hfs
    · cases h
  · split at h
    · rename_i s d hs hd
      split at h
      · rename_i hf
        cases h
        obtain ⟨e, k1, k2, k3⟩ := veqF_sound hd hf hx hy
        exact ⟨_, run_eqop hs k2 k3 k1 ox oy, ⟨_, rfl⟩⟩
      · obtain ⟨e, he, rfl⟩ := Option.map_eq_some_iff.1 h
        obtain ⟨k1, k2, k3⟩ := veq_sound hd he hx hy
        exact ⟨_, run_eqop hs k2 k3 k1 ox oy, lit_rep rfl⟩
    · cases h
end
end Go.Proofs.Ytcjagcfjpfjanaa.am
namespace Go.Proofs.Ytcjagcfjpfjanaa.am
open Go.ChangeShapes Go.WideShapes Go.ChangeAt Go.RowKit
set_option linter.unusedVariables false
set_option linter.unusedSimpArgs false
def asSl (es : Nat) : AV → Option (List (List PV))
  | .v (.c (.pv (.sl es' l))) => if es' = es then some l else none
  | .v (.c (.pv .nilS)) => some []
  | .v (.c (.row _ es' l)) => if es' = es then some l else none
  | .v (.c (.cut es' l)) => if es' = es then some l else none
  | _ => none
def asInt? : AV → Option Int
  | .v (.c (.pv (.lit (.int _ n)))) => some n
  | _ => none
section
variable {P : Program} {γ : Nat → G} {S : CS} {w : World}
theorem asSl_rep {es : Nat} {a : AV} {l : List (List PV)} {x : Value} (hx : RepV γ S w x a) (h : asSl es a = some l) : RepP S w x (.sl es l) := by
  unfold asSl at h
  split at h
  · split at h
    · rename_i he; subst he; cases h; exact hx
    · cases h
  · cases h
    obtain rfl := nilS_inv hx
    exact .emp none 0 es (by decide) (fun _ => rfl)
  · split at h
    · rename_i he; subst he; cases h; exact hx.1
    · cases h
  · split at h
    · rename_i he; subst he; cases h; exact hx.1
    · cases h
  · cases h
theorem asInt_inv {a : AV} {n : Int} {x : Value} (hx : RepV γ S w x a) (h : asInt? a = some n) : ∃ k, x = .int k n := by
  unfold asInt? at h
  split at h
  · cases h; obtain ⟨rfl, _⟩ := lit_inv hx; exact ⟨_, rfl⟩
  · cases h
structure SlR (S : CS) (w : World) (es : Nat) (l : List (List PV)) (a : Option Addr) (c : Nat) : Prop where
  cap : l.length ≤ c
  most : c ≤ 9223372036854775807
  nil : a = none → c = 0
  at' : l = [] ∨ ∃ b off, a = some ⟨b, off, none⟩ ∧ (∀ e ∈ l, e.length = es) ∧ ∀ (i : Nat) e (j : Nat) p, l[i]? = some e → e[j]? = some p → S b (off + i * es + j) ∧ ∃ u, w.cell? ⟨b, off + i * es + j, none⟩ = some u ∧ RepP S w u p
theorem sl_inv {es : Nat} {l : List (List PV)} {x : Value} (h : RepP S w x (.sl es l)) : ∃ a c, x = .slice a l.length c ∧ SlR S w es l a c := by
  cases h with
  | emp a c es hm ha => exact ⟨a, c, rfl, Nat.zero_le _, hm, ha, .inl rfl⟩
  | sl b off n c es l hlen h0 hc hm hes V hcell hV =>
    subst hlen
    exact ⟨_, c, rfl, hc, hm, by simp, .inr ⟨b, off, rfl, hes, fun i e j p h1 h2 => ⟨(hcell i e j p h1 h2).1, _, (hcell i e j p h1 h2).2, hV i e j p h1 h2⟩⟩⟩
theorem sl_intro {es : Nat} {l : List (List PV)} {a : Option Addr} {c : Nat} (h : SlR S w es l a c) : RepP S w (.slice a l.length c) (.sl es l) := by
  rcases h.at' with rfl | ⟨b, off, rfl, hes, hc⟩
  · exact .emp a c es h.most h.nil
  · rcases Nat.eq_zero_or_pos l.length with h0 | h0
    · have : l = [] := List.length_eq_zero_iff.1 h0
      subst this
      exact .emp _ c es h.most h.nil
    · refine .sl b off _ c es l rfl h0 h.cap h.most hes (fun i j => (w.cell? ⟨b, off + i * es + j, none⟩).getD undef) (fun i e j p h1 h2 => ?_) (fun i e j p h1 h2 => ?_)
      · obtain ⟨k1, u, k2, k3⟩ := hc i e j p h1 h2
        exact ⟨k1, by rw [k2]; rfl⟩
      · obtain ⟨k1, u, k2, k3⟩ := hc i e j p h1 h2
        rw [k2]; exact k3
def vlen (d : TD) (x : AV) : Option AV :=
  match d.tag with
  | .string => (match x with | .v (.c (.pv (.lit (.string s)))) => some (.v (.c (.pv (.lit (.int .i64 s.size))))) | _ => none)
  | .slice _ =>
    match x with
    | .v (.c (.pv (.sl _ l))) => some (.v (.c (.pv (.lit (.int .i64 l.length)))))
    | .v (.c (.pv .nilS)) => some (.v (.c (.pv (.lit (.int .i64 0)))))
    | .v (.c (.row _ _ l)) => some (.v (.c (.pv (.lit (.int .i64 l.length)))))
    | .v (.c (.cut _ l)) => some (.v (.c (.pv (.lit (.int .i64 l.length)))))
    | .v (.c (.arr _ _ n)) => some (.v (.c (.pv (.lit (.int .i64 n)))))
    | .v (.c (.vw _ _ _ n)) => some (.v (.c (.pv (.lit (.int .i64 n)))))
    | _ => none
  | _ => none
theorem vlen_sound {t : TypeId} {d : TD} (hd : td P t = some d) {x v : AV} (h : vlen d x = some v) (ty : TypeId) {a : Value} (hx : RepV γ S w a x) : ∃ u, (Builtin.len_ #[t] ty #[a]).run P w = .ok u w ∧ RepV γ S w u v := by
  obtain ⟨i, ud, z, T⟩ := td_ok hd
  have slen : ∀ (e : TypeId) (b : Option Addr) (n c : Nat), P.underlying t = some (.slice e) → (Builtin.len_ #[t] ty #[.slice b n c]).run P w = .ok (.int .i64 n) w := fun e b n c hu => by
    simp [Builtin.len_, run_underlying hu, goInt]
  unfold vlen at h
  split at h
  · rename_i htag
    split at h
    · cases h
      obtain ⟨rfl, _⟩ := lit_inv hx
      exact ⟨_, by simp [Builtin.len_, run_underlying (T.ustring htag), goInt], lit_rep rfl⟩
    · cases h
  · rename_i e htag
    have hu := T.uslice htag
    split at h
    · cases h
      obtain ⟨b, c, rfl, _⟩ := sl_inv hx
      exact ⟨_, slen e b _ c hu, lit_rep rfl⟩
    · cases h
      obtain rfl := nilS_inv hx
      exact ⟨_, slen e _ _ _ hu, lit_rep rfl⟩
    · cases h
      obtain ⟨b, c, rfl, _⟩ := sl_inv hx.1
      exact ⟨_, slen e b _ c hu, lit_rep rfl⟩
    · cases h
      obtain ⟨b, c, rfl, _⟩ := sl_inv hx.1
      exact ⟨_, slen e b _ c hu, lit_rep rfl⟩
    · cases h
      obtain ⟨⟨b, c, rfl⟩, _⟩ := hx
      exact ⟨_, slen e b _ c hu, lit_rep rfl⟩
    · cases h
      obtain ⟨b, m, c, _, a', _, _, _, rfl⟩ := hx
      exact ⟨_, slen e _ _ _ hu, lit_rep rfl⟩
    · cases h
  · cases h
def vfieldAddr (d : TD) (x : AV) (f : Nat) : Option AV :=
  match d.tag, d.flds[f]? with
  | .struct, some (off, sz, _) =>
    if sz = 0 then none else
    match x with
    | .v (.c (.ptr id o)) => some (.v (.c (.ptr id (o + off))))
    | .rp cells o => some (.rp cells (o + off))
    | .ep id es i o => some (.ep id es i (o + off))
    | _ => none
  | _, _ => none
theorem run_fieldAt {t : TypeId} {d : TD} (hd : td P t = some d) (htag : d.tag = .struct) {f off sz : Nat} {ag : Bool} (hf : d.flds[f]? = some (off, sz, ag)) (hsz : sz ≠ 0) (b o : Nat) :
    (Instr.fieldAt t (.pointer (some ⟨b, o, none⟩)) f).run P w = .ok (.pointer (some ⟨b, o + off, none⟩)) w := by
  obtain ⟨i, ud, z, T⟩ := td_ok hd
  obtain ⟨fs, hu, hm⟩ := T.ustruct htag
  obtain ⟨h1, h2⟩ := mapM_at hm
  obtain ⟨x, hx, hfx⟩ := h2 f _ hf
  have hx' : fs[f]? = some x := by simpa using hx
  unfold fld at hfx
  split at hfx
  · rename_i i' u' hi' hu'
    cases hfx
    have hs : (sizeOf x.type).run P w = .ok i'.size w := by simp [sizeOf, typeInfo, hi']
    simp [Instr.fieldAt, run_underlying hu, hx', Instr.sureAddr, fieldPlace, hs, hsz, addr_add]
  · cases hfx
theorem vfieldAddr_sound {t : TypeId} {d : TD} (hd : td P t = some d) {x v : AV} {f : Nat} (h : vfieldAddr d x f = some v) {a : Value} (hx : RepV γ S w a x) : ∃ u, (Instr.fieldAt t a f).run P w = .ok u w ∧ RepV γ S w u v := by
  unfold vfieldAddr at h
  split at h
  · rename_i off sz ag htag hf
    split at h
    · cases h
    · rename_i hsz
      split at h
      · cases h
        obtain ⟨b, hb, rfl⟩ := hx
        exact ⟨_, run_fieldAt hd htag hf hsz b _, b, hb, rfl⟩
      · cases h
        obtain ⟨b, o, rfl, hc⟩ := hx
        exact ⟨_, run_fieldAt hd htag hf hsz b _, b, o, by rw [Nat.add_assoc], hc⟩
      · cases h
        obtain ⟨b, rfl, hx⟩ := hx
        exact ⟨_, run_fieldAt hd htag hf hsz b _, b, by rw [Nat.add_assoc], hx⟩
      · cases h
  · cases h
def vfield (d : TD) (x : AV) (f : Nat) : Option AV :=
  match d.tag, d.flds[f]?, x with
  | .struct, some (off, sz, ag), .v (.agg l) => if ag = true then some (.v (.agg ((l.drop off).take sz))) else (l[off]?).map fun c => .v (.c c)
  | _, _, _ => none
theorem vfield_sound {t : TypeId} {d : TD} (hd : td P t = some d) {x v : AV} {f : Nat} (h : vfield d x f = some v) {a : Value} (hx : RepV γ S w a x) : ∃ u, (Instr.field t a f).run P w = .ok u w ∧ RepV γ S w u v := by
  unfold vfield at h
  split at h
  · rename_i off sz ag l htag hf
    obtain ⟨i, ud, z, T⟩ := td_ok hd
    obtain ⟨fs, hu, hm⟩ := T.ustruct htag
    obtain ⟨h1, h2⟩ := mapM_at hm
    obtain ⟨x, hx', hfx⟩ := h2 f _ hf
    have hx' : fs[f]? = some x := by simpa using hx'
    obtain ⟨cs, rfl, hcs⟩ := hx
    unfold fld at hfx
    split at hfx
    · rename_i i' u' hi' hu'
      cases hfx
      have hs : (sizeOf x.type).run P w = .ok i'.size w := by simp [sizeOf, typeInfo, hi']
      have hag : (isAgg x.type).run P w = .ok (isAggD u') w := by
        unfold Go.isAgg
        rw [Sem.run_bind, run_underlying hu' w]
        cases u' <;> rfl
      split at h
      · rename_i ha
        cases h
        refine ⟨.agg (cs.extract x.offset (x.offset + i'.size)), by simp [Instr.field, run_underlying hu, hx', part, hag, ha, asAgg, hs], _, rfl, ?_⟩
        have := hcs.seg x.offset i'.size
        rw [Array.toList_extract, List.extract_eq_take_drop, Nat.add_sub_cancel_left]
        exact this
      · rename_i ha
        obtain ⟨c, hc, rfl⟩ := Option.map_eq_some_iff.1 h
        obtain ⟨u, k1, k2⟩ := hcs.2 _ c hc
        have k1' : cs[x.offset]? = some u := by simpa using k1
        exact ⟨u, by simp [Instr.field, run_underlying hu, hx', part, hag, ha, asAgg, k1'], k2⟩
    · cases hfx
  · cases h
def vindexAddr (P : Program) (d : TD) (x : AV) (n : Int) : Option AV :=
  match d.tag with
  | .slice e =>
    match td P e with
    | some de =>
      match x with
      | .v (.c (.arr id es m)) => if es = de.sz ∧ 0 ≤ n ∧ n < m then some (.ep id es n.toNat 0) else none
      | _ =>
        match asSl de.sz x with
        | some l => if 0 ≤ n then (l[n.toNat]?).map fun el => .rp el 0 else none
        | none => none
    | none => none
  | .arr e c =>
    match td P e with
    | some de =>
      match x with
      | .v (.c (.ptr id o)) => if 0 ≤ n ∧ n < c then some (.v (.c (.ptr id (o + n.toNat * de.sz)))) else none
      | _ => none
    | none => none
  | _ => none
theorem run_indexArr {t e : TypeId} {de : TD} {c : Nat} (hu : P.underlying t = some (.array c e)) (hde : td P e = some de) (b o : Nat) (k : IntKind) (n : Int) (h0 : 0 ≤ n) (h1 : n < c) :
    (Instr.indexAt t (.pointer (some ⟨b, o, none⟩)) (.int k n)).run P w = .ok (.pointer (some ⟨b, o + n.toNat * de.sz, none⟩)) w := by
  obtain ⟨i, ud, z, T⟩ := td_ok hde
  simp [Instr.indexAt, asIntOf, run_underlying hu, T.sizeOf, h0, h1, addr_add, Instr.sureAddr]
theorem run_indexAt {t e : TypeId} {de : TD} (hu : P.underlying t = some (.slice e)) (hde : td P e = some de) (b o len c : Nat) (k : IntKind) (n : Int) (h0 : 0 ≤ n) (h1 : n < len) :
    (Instr.indexAt t (.slice (some ⟨b, o, none⟩) len c) (.int k n)).run P w = .ok (.pointer (some ⟨b, o + n.toNat * de.sz, none⟩)) w := by
  obtain ⟨i, ud, z, T⟩ := td_ok hde
  simp [Instr.indexAt, asIntOf, run_underlying hu, T.sizeOf, h0, h1, addr_add]
theorem vindexAddr_sound {t : TypeId} {d : TD} (hd : td P t = some d) {x v : AV} {n : Int} (h : vindexAddr P d x n = some v) {H : Nat → Option AO} (hob : ∀ x o, H x = some o → Obj' γ S w x o) (hH : ∀ id es m, x = .v (.c (.arr id es m)) → ∃ e l, H id = some (.arr e es l) ∧ m = l.length) {a : Value} (hx : RepV γ S w a x) (k : IntKind) :
    ∃ u, (Instr.indexAt t a (.int k n)).run P w = .ok u w ∧ RepV γ S w u v := by
  obtain ⟨i, ud, z, T⟩ := td_ok hd
  unfold vindexAddr at h
  split at h
  · rename_i e htag
    have hu := T.uslice htag
    split at h
    · rename_i de hde
      split at h
      · rename_i id es m
        split at h
        · rename_i hc
          obtain ⟨rfl, h0, h1⟩ := hc
          cases h
          obtain ⟨e', l, hHx, rfl⟩ := hH _ _ _ rfl
          obtain ⟨v0, xs, g1, g2, _⟩ := hob _ _ hHx
          obtain ⟨⟨aa, c, rfl⟩, g⟩ := hx
          rw [g1] at g
          rcases g with g | g
          · cases g
          · cases g
            obtain ⟨_, ho⟩ := g2
            rcases ho with ⟨ho, _⟩ | ⟨g, cap, cur, ho, _⟩
            · simp only [Value.slice.injEq] at ho
              obtain ⟨_, ho2, _⟩ := ho
              omega
            · cases ho
              exact ⟨_, run_indexAt hu hde g 0 _ _ k n h0 h1, g, by simp, .inr ⟨_, _, g1⟩⟩
        · cases h
      · split at h
        · rename_i l hl
          split at h
          · rename_i h0
            obtain ⟨el, hel, rfl⟩ := Option.map_eq_some_iff.1 h
            obtain ⟨aa, c, rfl, hs⟩ := sl_inv (asSl_rep hx hl)
            have h1 : n < l.length := by have := (List.getElem?_eq_some_iff.1 hel).1; omega
            rcases hs.at' with h2 | ⟨b, off, rfl, hes, hc⟩
            · subst h2; simp at hel
            · refine ⟨_, run_indexAt hu hde b off _ _ k n h0 h1, b, off + n.toNat * de.sz, by simp, fun j p hj => hc _ el j p hel hj⟩
          · cases h
        · cases h
    · cases h
  · rename_i e c htag
    have hu := T.uarr htag
    split at h
    · rename_i de hde
      split at h
      · rename_i id o
        split at h
        · rename_i hc
          cases h
          obtain ⟨b, hb, rfl⟩ := hx
          exact ⟨_, run_indexArr hu hde b _ k n hc.1 hc.2, b, hb, rfl⟩
        · cases h
      · cases h
    · cases h
  · cases h
def vindex (d : TD) (x : AV) (n : Int) : Option AV :=
  match d.tag, x with
  | .string, .v (.c (.pv (.lit (.string s)))) => if 0 ≤ n then (s[n.toNat]?).map fun b => .v (.c (.pv (.lit (.int .u8 b.toNat)))) else none
  | _, _ => none
theorem vindex_sound {t : TypeId} {d : TD} (hd : td P t = some d) {x v : AV} {n : Int} (h : vindex d x n = some v) {a : Value} (hx : RepV γ S w a x) (k : IntKind) : ∃ u, (Instr.index t a (.int k n)).run P w = .ok u w ∧ RepV γ S w u v := by
  obtain ⟨i, ud, z, T⟩ := td_ok hd
  unfold vindex at h
  split at h
  · rename_i s htag
    split at h
    · rename_i h0
      obtain ⟨b, hb, rfl⟩ := Option.map_eq_some_iff.1 h
      obtain ⟨rfl, _⟩ := lit_inv hx
      exact ⟨_, by simp [Instr.index, asIntOf, run_underlying (T.ustring htag), h0, hb], lit_rep rfl⟩
    · cases h
  · cases h
def bnd (x : Option AV) (dflt : Int) : Option Int :=
  match x with
  | none => some dflt
  | some a => asInt? a
def vslice (P : Program) (d : TD) (x : AV) (lo hi mx : Option AV) : Option AV :=
  match d.tag with
  | .string =>
    match x, mx with
    | .v (.c (.pv (.lit (.string s)))), none =>
      match bnd lo 0, bnd hi s.size with
      | some l, some h => if 0 ≤ l ∧ l ≤ h ∧ h ≤ s.size then some (.v (.c (.pv (.lit (.string (s.extract l.toNat h.toNat)))))) else none
      | _, _ => none
    | _, _ => none
  | .slice e =>
    match td P e with
    | some de =>
      match asSl de.sz x with
      | some xs =>
        match bnd lo 0, bnd hi xs.length, mx with
        | some l, some h, none => if 0 ≤ l ∧ l ≤ h ∧ h ≤ xs.length then some (.v (.c (.pv (.sl de.sz ((xs.take h.toNat).drop l.toNat))))) else none
        | some l, some h, some m => if hi.isSome = true ∧ 0 ≤ l ∧ l ≤ h ∧ h ≤ xs.length ∧ asInt? m = some h then some (.v (.c (.cut de.sz ((xs.take h.toNat).drop l.toNat)))) else none
        | _, _, _ => none
      | none => none
    | none => none
  | _ => none
theorem run_bound {x : Value} {k : IntKind} {n : Int} (hx : x = .int k n) (y : Nat) (code : BoundsCode) (h0 : 0 ≤ n) (h1 : n ≤ y) : (Instr.sliceBound x y code).run P w = .ok n.toNat w := by
  subst hx
  simp [Instr.sliceBound, asIntOf, h0, h1]
theorem bnd_inv {x : Option AV} {dflt n : Int} (h : bnd x dflt = some n) {a : Option Value} (ha : ∀ v, x = some v → ∃ u, a = some u ∧ RepV γ S w u v) (hn : x = none → a = none) : (a = none ∧ n = dflt) ∨ ∃ k, a = some (.int k n) := by
  unfold bnd at h
  split at h
  · cases h; exact .inl ⟨hn rfl, rfl⟩
  · obtain ⟨u, rfl, hu⟩ := ha _ rfl
    obtain ⟨k, rfl⟩ := asInt_inv hu h
    exact .inr ⟨k, rfl⟩
theorem run_bounds {isS : Bool} {len cap : Nat} {lo hi : Option Value} {l h : Int} (hl : (lo = none ∧ l = 0) ∨ ∃ k, lo = some (.int k l)) (hh : (hi = none ∧ h = len) ∨ ∃ k, hi = some (.int k h)) (h0 : 0 ≤ l) (h1 : l ≤ h) (h2 : h ≤ len) (h3 : len ≤ cap) :
    (Instr.sliceBounds isS len cap lo hi none).run P w = .ok (l.toNat, h.toNat, cap) w := by
  have hb : ∀ (k : IntKind) (n : Int) (y : Nat) (code : BoundsCode), 0 ≤ n → n ≤ y → (Instr.sliceBound (.int k n) y code).run P w = .ok n.toNat w := fun k n y code g0 g1 => run_bound rfl y code g0 g1
  unfold Instr.sliceBounds
  rcases hh with ⟨rfl, rfl⟩ | ⟨k, rfl⟩
  · rcases hl with ⟨rfl, rfl⟩ | ⟨k', rfl⟩
    · simp
    · simp [hb k' l len _ h0 (by omega)]
  · rcases hl with ⟨rfl, rfl⟩ | ⟨k', rfl⟩
    · simp [hb k h cap _ (by omega) (by omega)]
    · simp [hb k h cap _ (by omega) (by omega), hb k' l h.toNat _ h0 (by omega)]
theorem run_bounds3 {len cap : Nat} {lo : Option Value} {l h : Int} {k k2 : IntKind} (hl : (lo = none ∧ l = 0) ∨ ∃ k, lo = some (.int k l)) (h0 : 0 ≤ l) (h1 : l ≤ h) (h2 : h ≤ cap) :
    (Instr.sliceBounds true len cap lo (some (.int k h)) (some (.int k2 h))).run P w = .ok (l.toNat, h.toNat, h.toNat) w := by
  have hb : ∀ (k : IntKind) (n : Int) (y : Nat) (code : BoundsCode), 0 ≤ n → n ≤ y → (Instr.sliceBound (.int k n) y code).run P w = .ok n.toNat w := fun k n y code g0 g1 => run_bound rfl y code g0 g1
  unfold Instr.sliceBounds
  rcases hl with ⟨rfl, rfl⟩ | ⟨k', rfl⟩
  · simp [hb k2 h cap _ (by omega) h2, hb k h h.toNat _ (by omega) (by omega)]
  · simp [hb k2 h cap _ (by omega) h2, hb k h h.toNat _ (by omega) (by omega), hb k' l h.toNat _ h0 (by omega)]
theorem SlR.part {es : Nat} {xs : List (List PV)} {a : Option Addr} {c : Nat} (h : SlR S w es xs a c) (l k m : Nat) (h1 : l ≤ k) (h2 : k ≤ xs.length) (hm : m ≤ c) (hkm : k ≤ m) : SlR S w es ((xs.take k).drop l) (if m = l then a else a.map (·.add (l * es))) (m - l) := by
  have hlen : ((xs.take k).drop l).length = k - l := by simp; omega
  refine ⟨by rw [hlen]; omega, by have := h.most; omega, fun hn => ?_, ?_⟩
  · split at hn
    · rename_i he; omega
    · cases a with
      | none => have := h.nil rfl; omega
      | some a => simp at hn
  · rcases h.at' with rfl | ⟨b, off, rfl, hes, hc⟩
    · left; simp
    · rcases Nat.eq_zero_or_pos (k - l) with h0 | h0
      · left; exact List.length_eq_zero_iff.1 (by rw [hlen]; exact h0)
      · right
        rw [if_neg (by omega)]
        refine ⟨b, off + l * es, by simp [addr_add], fun e he => hes e (List.mem_of_mem_take (List.mem_of_mem_drop he)), fun i e j p hi hj => ?_⟩
        rw [List.getElem?_drop, List.getElem?_take] at hi
        split at hi
        · have := hc (l + i) e j p hi hj
          rwa [Nat.add_mul, ← Nat.add_assoc off] at this
        · cases hi
theorem vslice_sound {t : TypeId} {d : TD} (hd : td P t = some d) {x v : AV} {lo hi mx : Option AV} (h : vslice P d x lo hi mx = some v) {a : Value} {lo' hi' mx' : Option Value} (hx : RepV γ S w a x)
    (hlo : ∀ v, lo = some v → ∃ u, lo' = some u ∧ RepV γ S w u v) (hlo0 : lo = none → lo' = none) (hhi : ∀ v, hi = some v → ∃ u, hi' = some u ∧ RepV γ S w u v) (hhi0 : hi = none → hi' = none)
    (hmx : ∀ v, mx = some v → ∃ u, mx' = some u ∧ RepV γ S w u v) (hmx0 : mx = none → mx' = none) : ∃ u, (Instr.sliceAt t a lo' hi' mx').run P w = .ok u w ∧ RepV γ S w u v := by
  obtain ⟨i, ud, z, T⟩ := td_ok hd
  unfold vslice at h
  split at h
  · rename_i htag
    split at h
    · rename_i s
      split at h
      · rename_i l k hl hk
        split at h
        · rename_i hc
          obtain ⟨h0, h1, h2⟩ := hc
          cases h
          obtain ⟨rfl, _⟩ := lit_inv hx
          obtain rfl := hmx0 rfl
          have hb := run_bounds (P := P) (w := w) (isS := false) (len := s.size) (cap := s.size) (bnd_inv hl hlo hlo0) (bnd_inv hk hhi hhi0) h0 h1 h2 (Nat.le_refl _)
          exact ⟨_, by simp [Instr.sliceAt, Instr.slice, run_underlying (T.ustring htag), hb], lit_rep rfl⟩
        · cases h
      · cases h
    · cases h
  · rename_i e htag
    have hu := T.uslice htag
    split at h
    · rename_i de hde
      obtain ⟨_, _, _, T2⟩ := td_ok hde
      split at h
      · rename_i xs hxs
        obtain ⟨aa, c, rfl, hs⟩ := sl_inv (asSl_rep hx hxs)
        split at h
        · rename_i l k hl hk
          split at h
          · rename_i hc
            obtain ⟨h0, h1, h2⟩ := hc
            cases h
            obtain rfl := hmx0 rfl
            have hb := run_bounds (P := P) (w := w) (isS := true) (bnd_inv hl hlo hlo0) (bnd_inv hk hhi hhi0) h0 h1 h2 hs.cap
            have hp := hs.part l.toNat k.toNat c (by omega) (by omega) (Nat.le_refl _) (by have := hs.cap; omega)
            refine ⟨.slice (if c = l.toNat then aa else aa.map (·.add (l.toNat * de.sz))) (k.toNat - l.toNat) (c - l.toNat), by simp [Instr.sliceAt, Instr.slice, run_underlying hu, hb, T2.sizeOf], ?_⟩
            have := sl_intro hp
            rwa [show ((xs.take k.toNat).drop l.toNat).length = k.toNat - l.toNat by simp; omega] at this
          · cases h
        · rename_i l k m hl hk
          split at h
          · rename_i hc
            obtain ⟨hsm, h0, h1, h2, h3⟩ := hc
            cases h
            obtain ⟨um, rfl, hum⟩ := hmx _ rfl
            obtain ⟨k2, rfl⟩ := asInt_inv hum h3
            rcases bnd_inv hk hhi hhi0 with ⟨hn, _⟩ | ⟨k1, rfl⟩
            · obtain ⟨y, hy⟩ := Option.isSome_iff_exists.1 hsm
              obtain ⟨u, hu', _⟩ := hhi y hy
              rw [hn] at hu'; cases hu'
            · have hb := run_bounds3 (P := P) (w := w) (len := xs.length) (cap := c) (k := k1) (k2 := k2) (bnd_inv hl hlo hlo0) h0 h1 (by have := hs.cap; omega)
              have hp := hs.part l.toNat k.toNat k.toNat (by omega) (by omega) (by have := hs.cap; omega) (Nat.le_refl _)
              refine ⟨.slice (if k.toNat = l.toNat then aa else aa.map (·.add (l.toNat * de.sz))) (k.toNat - l.toNat) (k.toNat - l.toNat), by simp [Instr.sliceAt, Instr.slice, run_underlying hu, hb, T2.sizeOf], ?_, _, _, rfl⟩
              have := sl_intro hp
              rwa [show ((xs.take k.toNat).drop l.toNat).length = k.toNat - l.toNat by simp; omega] at this
          · cases h
        · cases h
      · cases h
    · cases h
  · cases h
end
end Go.Proofs.Ytcjagcfjpfjanaa.am
namespace Go.Proofs.Ytcjagcfjpfjanaa.am
open Go.ChangeShapes Go.WideShapes Go.ChangeAt Go.RowKit
set_option linter.unusedVariables false
set_option linter.unusedSimpArgs false
def upd {α : Type} (H : Nat → α) (x : Nat) (o : α) : Nat → α := fun y => if y = x then o else H y
theorem upd_same {α : Type} (H : Nat → α) (x : Nat) (o : α) : upd H x o x = o := by simp [upd]
theorem upd_ne {α : Type} (H : Nat → α) {x y : Nat} (o : α) (h : y ≠ x) : upd H x o y = H y := by simp [upd, h]
section
variable {X : Ctx} {H : Nat → Option AO} {U : Nat → Prop} {γ : Nat → G} {S : CS} {w : World}
theorem cell_old {w : World} {o : Obj} {b k : Nat} (h : b < w.heap.size) : (w.alloc o).cell? ⟨b, k, none⟩ = w.cell? ⟨b, k, none⟩ := by exact World.cell?_alloc_lt _ _ _ h
theorem GOn.upd_un {γ : Nat → G} {x : Nat} (h : γ x = .un) (g : G) : GOn γ (upd γ x g) := fun y => by
  by_cases hy : y = x
  · subst hy; exact .inl h
  · exact .inr (.inl (upd_ne γ g hy))
theorem Mem.add (h : Mem X H U γ S w) {nm : Nat} (hn : U nm) (ob : Obj) (g : G) (hg : g.bk = some w.heap.size) (K : Nat → Prop) (o : AO)
    (hob : Obj' (upd γ nm g) (fun b k => S b k ∨ (b = w.heap.size ∧ K k)) (w.alloc ob) nm o) :
    Mem X (upd H nm (some o)) (fun x => U x ∧ x ≠ nm) (upd γ nm g) (fun b k => S b k ∨ (b = w.heap.size ∧ K k)) (w.alloc ob) := by
  have hun := h.un nm hn
  have hG := GOn.upd_un hun g
  have hS : ∀ b k, S b k → (S b k ∨ (b = w.heap.size ∧ K k)) := fun b k h => .inl h
  have hw : ∀ b k, S b k → (w.alloc ob).cell? ⟨b, k, none⟩ = w.cell? ⟨b, k, none⟩ := fun b k hs => cell_old (h.inb b k hs)
  have hsz : (w.alloc ob).heap.size = w.heap.size + 1 := by simp
  have h0 := h.size
  refine ⟨h.os, h.tape, h.output, by rw [hsz]; omega, fun b hb hx => ?_, fun b k hs => ?_, fun b k hs => ?_, fun b k hs => ?_, h.mono.trans hG, fun x hx => ?_, fun x hx => ?_, fun x o' hx => ?_, fun x y hxy b hbx hby => ?_, fun x b hb => ?_⟩
  · rw [heap_alloc_old w ob (by omega)]; exact h.frame b hb hx
  · have := h.keep b k hs
    exact ⟨.inl this.1, by rw [hw b k this.1]; exact this.2⟩
  · rcases hs with hs | ⟨rfl, _⟩
    · exact h.fresh b k hs
    · exact .inr (.inl h0)
  · rcases hs with hs | ⟨rfl, _⟩
    · have := h.inb b k hs; omega
    · omega
  · rw [upd_ne γ g hx.2]; exact h.un x hx.1
  · by_cases hxn : x = nm
    · subst hxn; rw [upd_same] at hx; cases hx
    · rw [upd_ne _ _ hxn] at hx ⊢; exact h.off x hx
  · by_cases hxn : x = nm
    · subst hxn; rw [upd_same] at hx; cases hx; exact hob
    · rw [upd_ne _ _ hxn] at hx
      refine Obj'.on (h.obj x o' hx) (upd_ne γ g hxn) hG hS hw (fun b hb => ?_)
      have hl := (h.live x b hb).1
      exact ⟨heap_alloc_old w ob hl, fun k hk => hk.elim id (fun e => by omega)⟩
  · by_cases hxn : x = nm
    · subst hxn
      rw [upd_same, hg] at hbx; cases hbx
      rw [upd_ne _ _ (Ne.symm hxy)] at hby
      have := (h.live y _ hby).1; omega
    · by_cases hyn : y = nm
      · subst hyn
        rw [upd_same, hg] at hby; cases hby
        rw [upd_ne _ _ hxy] at hbx
        have := (h.live x _ hbx).1; omega
      · rw [upd_ne _ _ hxn] at hbx; rw [upd_ne _ _ hyn] at hby
        exact h.dist x y hxy b hbx hby
  · by_cases hxn : x = nm
    · subst hxn
      rw [upd_same, hg] at hb; cases hb
      exact ⟨by omega, .inl h0⟩
    · rw [upd_ne _ _ hxn] at hb
      have := h.live x b hb
      exact ⟨by omega, this.2⟩
theorem Mem.turn (h : Mem X H U γ S w) {id : Nat} {b : Nat} (hx : (γ id).bk = some b) {w' : World} (os : w'.os = w.os) (tape : w'.tape = w.tape) (out : w'.output = w.output) (size : w'.heap.size = w.heap.size)
    (hoth : ∀ k, k ≠ b → w'.heap[k]? = w.heap[k]?) (hS : ∀ o, ¬ S b o) (o : AO) (hob : Obj' γ S w' id o) : Mem X (upd H id (some o)) U γ S w' := by
  have hw : ∀ b' k, S b' k → w'.cell? ⟨b', k, none⟩ = w.cell? ⟨b', k, none⟩ := fun b' k hs => World.cell?_of_block (hoth b' (fun e => hS k (e ▸ hs)))
  refine ⟨os.trans h.os, tape.trans h.tape, out.trans h.output, by rw [size]; exact h.size, fun b' hb' hx' => ?_, fun b' k hs => ?_, h.fresh, fun b' k hs => by rw [size]; exact h.inb b' k hs, h.mono, h.un, fun x hx' => ?_, fun x o' hx' => ?_, h.dist, fun x b' hb' => by rw [size]; exact h.live x b' hb'⟩
  · rw [hoth b' (fun e => ?_)]
    · exact h.frame b' hb' hx'
    · subst e
      rcases (h.live id b' hx).2 with k | ⟨y, hy⟩
      · omega
      · exact hx' y hy
  · have := h.keep b' k hs
    exact ⟨this.1, by rw [hw b' k this.1]; exact this.2⟩
  · by_cases hxn : x = id
    · subst hxn; rw [upd_same] at hx'; cases hx'
    · rw [upd_ne _ _ hxn] at hx'; exact h.off x hx'
  · by_cases hxn : x = id
    · subst hxn; rw [upd_same] at hx'; cases hx'; exact hob
    · rw [upd_ne _ _ hxn] at hx'
      exact Obj'.on (h.obj x o' hx') rfl (GOn.refl _) (fun _ _ h => h) hw (fun b' hb' => ⟨hoth b' (fun e => h.dist x id hxn b' hb' (e ▸ hx)), fun _ h => h⟩)
end
def Stp (X : Ctx) (H' : Nat → Option AO) (U' : Nat → Prop) (γ : Nat → G) (S : CS) (w : World) (r : Result Go.Next) (v : AV) : Prop :=
  ∃ (u : Value) (w' : World) (γ' : Nat → G) (S' : CS), (r = .ok (.value u) w' ∨ (r = .ok .skip w' ∧ u = undef)) ∧ Mem X H' U' γ' S' w' ∧ GOn γ γ' ∧ (∀ b o, S b o → S' b o) ∧ (∀ b o, S b o → w'.cell? ⟨b, o, none⟩ = w.cell? ⟨b, o, none⟩) ∧ RepV γ' S' w' u v
section
variable {X : Ctx} {H : Nat → Option AO} {U : Nat → Prop} {γ : Nat → G} {S : CS} {w : World} {P : Program}
theorem newbox (h : Mem X H U γ S w) {nm : Nat} (hn : U nm) (cs : Array Value) (t : TypeId) {cells : List AC} (hc : RepCs γ S w cs.toList cells) :
    ∃ γ' S', Mem X (upd H nm (some (.box cells))) (fun x => U x ∧ x ≠ nm) γ' S' (w.alloc (.cells cs t)) ∧ GOn γ γ' ∧ (∀ b o, S b o → S' b o) ∧ (∀ b o, S b o → (w.alloc (.cells cs t)).cell? ⟨b, o, none⟩ = w.cell? ⟨b, o, none⟩) ∧
      RepV γ' S' (w.alloc (.cells cs t)) (.pointer (some ⟨w.heap.size, 0, none⟩)) (.v (.c (.ptr nm 0))) := by
  have hG := GOn.upd_un (h.un nm hn) (.blk w.heap.size)
  have hw : ∀ b k, S b k → (w.alloc (.cells cs t)).cell? ⟨b, k, none⟩ = w.cell? ⟨b, k, none⟩ := fun b k hs => cell_old (h.inb b k hs)
  refine ⟨_, _, h.add hn (.cells cs t) (.blk w.heap.size) rfl (fun _ => False) (.box cells) ⟨w.heap.size, cs, t, upd_same _ _ _, heap_alloc_new w _, hc.mono hG (fun _ _ h => .inl h) hw, fun o ho => ?_⟩, hG, fun _ _ h => .inl h, hw, w.heap.size, upd_same _ _ _, rfl⟩
  rcases ho with ho | ⟨_, ho⟩
  · have := h.inb _ _ ho; omega
  · exact ho
def cellsT : AT → List AC
  | .c x => [x]
  | .agg l => l
theorem cellsT_rep {v : Value} {x : AT} (h : RepT γ S w v x) : RepCs γ S w v.cells.toList (cellsT x) := by
  cases x with
  | c x =>
    have h1 : v.cells = #[v] := by have := RepC.one h; cases v <;> simp_all [Value.cells, Value.oneCell']
    rw [h1]
    refine ⟨rfl, fun i c hc => ?_⟩
    cases i with
    | zero => simp [cellsT] at hc; subst hc; exact ⟨v, rfl, h⟩
    | succ i => simp [cellsT] at hc
  | agg l => obtain ⟨cs, rfl, h2⟩ := h; exact h2
theorem box_sound (h : Mem X H U γ S w) {nm : Nat} (hn : U nm) (t : TypeId) {v : Value} {x : AT} (hv : RepT γ S w v x) (r : Go.Next → Sem Go.Next) :
    Stp X (upd H nm (some (.box (cellsT x)))) (fun x => U x ∧ x ≠ nm) γ S w ((do pure (.value (← Instr.box t v)) : Sem Go.Next).run P w) (.v (.c (.ptr nm 0))) := by
  obtain ⟨γ', S', h1, h2, h3, h4, h5⟩ := newbox h hn v.cells t (cellsT_rep hv)
  exact ⟨_, _, γ', S', .inl (by simp [Instr.box, newVar, newRow, newObj, Sem.run]), h1, h2, h3, h4, h5⟩
theorem newbld (h : Mem X H U γ S w) {nm : Nat} (hn : U nm) (t : TypeId) :
    ∃ γ' S', Mem X (upd H nm (some (.bld t (.pv .nilS)))) (fun x => U x ∧ x ≠ nm) γ' S' (w.alloc (.cells #[.pointer none, .slice none 0 0] t)) ∧ GOn γ γ' ∧ (∀ b o, S b o → S' b o) ∧ (∀ b o, S b o → (w.alloc (.cells #[.pointer none, .slice none 0 0] t)).cell? ⟨b, o, none⟩ = w.cell? ⟨b, o, none⟩) ∧
      RepV γ' S' (w.alloc (.cells #[.pointer none, .slice none 0 0] t)) (.pointer (some ⟨w.heap.size, 0, none⟩)) (.v (.c (.ptr nm 0))) := by
  have hG := GOn.upd_un (h.un nm hn) (.blk w.heap.size)
  have hw : ∀ b k, S b k → (w.alloc (.cells #[.pointer none, .slice none 0 0] t)).cell? ⟨b, k, none⟩ = w.cell? ⟨b, k, none⟩ := fun b k hs => cell_old (h.inb b k hs)
  refine ⟨_, _, h.add hn (.cells #[.pointer none, .slice none 0 0] t) (.blk w.heap.size) rfl (fun _ => False) (.bld t (.pv .nilS)) ⟨w.heap.size, _, _, upd_same _ _ _, heap_alloc_new w _, .inl rfl, RepP.nilS, fun o ho => ?_⟩, hG, fun _ _ h => .inl h, hw, w.heap.size, upd_same _ _ _, rfl⟩
  rcases ho with ho | ⟨_, ho⟩
  · have := h.inb _ _ ho; omega
  · exact ho
theorem alloc_sound (h : Mem X H U γ S w) {nm : Nat} (hn : U nm) {t : TypeId} {d : TD} (hd : td P t = some d) :
    Stp X (upd H nm (some (match d.zero with | [.lit (.pointer none), .nilS] => .bld t (.pv .nilS) | z => .box (z.map .pv)))) (fun x => U x ∧ x ≠ nm) γ S w ((do pure (.value (← Instr.alloc t true (.tuple #[]))) : Sem Go.Next).run P w) (.v (.c (.ptr nm 0))) := by
  obtain ⟨i, ud, z, T⟩ := td_ok hd
  have hc := T.rep γ S w
  split
  · rename_i hz
    rw [hz] at hc
    obtain ⟨v0, k1, k2⟩ := hc.2 0 _ rfl
    obtain ⟨v1, k3, k4⟩ := hc.2 1 _ rfl
    have e0 : v0 = .pointer none := (lit_inv (γ := γ) (S := S) (w := w) k2).1
    have e1 : v1 = .slice none 0 0 := nilS_inv (γ := γ) (S := S) (w := w) k4
    subst e0 e1
    have hl := hc.1
    have hzc : z.cells = #[.pointer none, .slice none 0 0] := by
      apply Array.ext'
      match hq : z.cells.toList with
      | [a, b] => rw [hq] at k1 k3; simp at k1 k3; rw [k1, k3]
      | [] => rw [hq] at hl; simp at hl
      | [_] => rw [hq] at hl; simp at hl
      | _ :: _ :: _ :: _ => rw [hq] at hl; simp at hl
    obtain ⟨γ', S', h1, h2, h3, h4, h5⟩ := newbld h hn t
    exact ⟨_, _, γ', S', .inl (by simp [Instr.alloc, T.zero, newVar, newRow, newObj, Sem.run, hzc]), h1, h2, h3, h4, h5⟩
  · obtain ⟨γ', S', h1, h2, h3, h4, h5⟩ := newbox h hn z.cells t hc
    exact ⟨_, _, γ', S', .inl (by simp [Instr.alloc, T.zero, newVar, newRow, newObj, Sem.run]), h1, h2, h3, h4, h5⟩
theorem RepCs.take {vs : List Value} {l : List AC} (h : RepCs γ S w vs l) (n : Nat) : RepCs γ S w (vs.take n) (l.take n) := by
  have := h.seg 0 n; simpa using this
theorem RepCs.drop {vs : List Value} {l : List AC} (h : RepCs γ S w vs l) (n : Nat) : RepCs γ S w (vs.drop n) (l.drop n) := by
  have := h.seg n vs.length
  rwa [List.take_of_length_le (by simp), List.take_of_length_le (by rw [List.length_drop, ← h.1]; omega)] at this
theorem RepCs.append {vs us : List Value} {l m : List AC} (h : RepCs γ S w vs l) (k : RepCs γ S w us m) : RepCs γ S w (vs ++ us) (l ++ m) := by
  refine ⟨by simp [h.1, k.1], fun i c hc => ?_⟩
  rw [List.getElem?_append] at hc ⊢
  split at hc
  · rename_i hi; obtain ⟨v, h1, h2⟩ := h.2 i c hc; exact ⟨v, by rw [if_pos (by rw [h.1]; exact hi)]; exact h1, h2⟩
  · rename_i hi; obtain ⟨v, h1, h2⟩ := k.2 _ c hc; exact ⟨v, by rw [if_neg (by rw [h.1]; exact hi), h.1]; exact h1, h2⟩
theorem RepCs.ones {vs : List Value} {l : List AC} (h : RepCs γ S w vs l) : ∀ v ∈ vs, v.oneCell' = true := fun v hv => by
  obtain ⟨i, hi⟩ := List.getElem?_of_mem hv
  obtain ⟨c, hc⟩ := getElem?_lift h.1 hi
  obtain ⟨v', h1, h2⟩ := h.2 i c hc
  rw [hi] at h1; cases h1
  exact h2.one
def setSeg {α : Type} (l : List α) (o : Nat) (m : List α) : List α := l.take o ++ m ++ l.drop (o + m.length)
theorem RepCs.seg' {vs us : List Value} {l m : List AC} (h : RepCs γ S w vs l) (k : RepCs γ S w us m) (o : Nat) : RepCs γ S w (setSeg vs o us) (setSeg l o m) := by
  unfold setSeg; rw [k.1]; exact ((h.take o).append k).append (h.drop _)
theorem store_box (h : Mem X H U γ S w) {id off : Nat} {cells : List AC} (hH : H id = some (.box cells)) {t : TypeId} {d : TD} (hd : td P t = some d) {a v : Value} (ha : RepV γ S w a (.v (.c (.ptr id off)))) {x : AT} (hv : RepT γ S w v x) (hsz : (cellsT x).length = d.sz) (hfit : off + d.sz ≤ cells.length) :
    Stp X (upd H id (some (.box (setSeg cells off (cellsT x))))) U γ S w ((do Instr.storeAt t a v; pure .skip : Sem Go.Next).run P w) .top := by
  obtain ⟨i, ud, z, T⟩ := td_ok hd
  obtain ⟨b, hb, rfl⟩ := ha
  obtain ⟨b', cs, tt, g1, g2, g3, g4⟩ := h.obj _ _ hH
  rw [g1] at hb; cases hb
  have hc := cellsT_rep hv
  have hst := run_storeCells_at P b off tt v.cells.toList 0 cs w g2 (by rw [hc.1, hsz]; have := g3.1; simp at this; omega) hc.ones
  simp only [Nat.add_zero] at hst
  have hvs : v.cells.size = d.sz := by rw [← hsz, ← hc.1]; simp
  have hbb : (γ id).bk = some b := by rw [g1]; rfl
  have hoth : ∀ k, k ≠ b → (w.setRow b (setSeg cs.toList off v.cells.toList).toArray).heap[k]? = w.heap[k]? := fun k hk => setRow_other w b k _ hk
  have hw : ∀ b' k, S b' k → (w.setRow b (setSeg cs.toList off v.cells.toList).toArray).cell? ⟨b', k, none⟩ = w.cell? ⟨b', k, none⟩ := fun b' k hs => World.cell?_of_block (hoth b' (fun e => g4 k (e ▸ hs)))
  have hsize : (w.setRow b (setSeg cs.toList off v.cells.toList).toArray).heap.size = w.heap.size := by simp [World.setRow]
  refine ⟨undef, w.setRow b (setSeg cs.toList off v.cells.toList).toArray, γ, S, .inr ⟨?_, rfl⟩, h.turn (w' := w.setRow b (setSeg cs.toList off v.cells.toList).toArray) hbb rfl rfl rfl hsize hoth g4 (.box (setSeg cells off (cellsT x))) ⟨b, _, tt, g1, setRow_heap w b cs _ tt _ g2, ?_, g4⟩, GOn.refl _, fun _ _ h => h, hw, trivial⟩
  · simp only [Sem.run_bind, Instr.storeAt, Instr.sureAddr, Sem.run_pure, Result.andThen_ok, storeVar, T.sizeOf, hvs]
    simp [hst, setSeg]
  · exact (g3.seg' hc off).mono (GOn.refl _) (fun _ _ h => h) hw
theorem store_bld (h : Mem X H U γ S w) {id : Nat} {t' : TypeId} {c' : AC} (hH : H id = some (.bld t' c')) {t : TypeId} {d : TD} (hd : td P t = some d) {a v : Value} (ha : RepV γ S w a (.v (.c (.ptr id 1)))) {y : AC} (hv : RepC γ S w v y) (hsz : d.sz = 1) :
    Stp X (upd H id (some (.bld t' y))) U γ S w ((do Instr.storeAt t a v; pure .skip : Sem Go.Next).run P w) .top := by
  obtain ⟨i, ud, z, T⟩ := td_ok hd
  obtain ⟨b, hb, rfl⟩ := ha
  obtain ⟨b', p, v0, g1, g2, g3, g4, g5⟩ := h.obj _ _ hH
  rw [g1] at hb; cases hb
  have hc := cellsT_rep (x := .c y) hv
  have hst := run_storeCells_at P b 1 t' v.cells.toList 0 #[p, v0] w g2 (by rw [hc.1]; simp [cellsT]) hc.ones
  simp only [Nat.add_zero] at hst
  have hv1 : v.cells.toList = [v] := by
    have h1 := hc.1
    obtain ⟨u, k1, k2⟩ := hc.2 0 y rfl
    have h3 := hv.one
    cases v <;> simp_all [Value.cells, Value.oneCell']
  have hvs : v.cells.size = d.sz := by rw [← Array.length_toList, hv1, hsz]; rfl
  have hbb : (γ id).bk = some b := by rw [g1]; rfl
  have hoth : ∀ k, k ≠ b → (w.setRow b #[p, v]).heap[k]? = w.heap[k]? := fun k hk => setRow_other w b k _ hk
  have hw : ∀ b' k, S b' k → (w.setRow b #[p, v]).cell? ⟨b', k, none⟩ = w.cell? ⟨b', k, none⟩ := fun b' k hs => World.cell?_of_block (hoth b' (fun e => g5 k (e ▸ hs)))
  have hsize : (w.setRow b #[p, v]).heap.size = w.heap.size := by simp [World.setRow]
  refine ⟨undef, w.setRow b #[p, v], γ, S, .inr ⟨?_, rfl⟩, h.turn (w' := w.setRow b #[p, v]) hbb rfl rfl rfl hsize hoth g5 (.bld t' y) ⟨b, p, v, g1, setRow_heap w b _ _ t' _ g2, g3, hv.mono (GOn.refl _) (fun _ _ h => h) hw, g5⟩, GOn.refl _, fun _ _ h => h, hw, trivial⟩
  rw [hv1] at hst
  simp only [Sem.run_bind, Instr.storeAt, Instr.sureAddr, Sem.run_pure, Result.andThen_ok, storeVar, T.sizeOf, hvs]
  simp [hst, hv1]
end
end Go.Proofs.Ytcjagcfjpfjanaa.am
namespace Go.Proofs.Ytcjagcfjpfjanaa.am
open Go.ChangeShapes Go.WideShapes Go.ChangeAt Go.RowKit
set_option linter.unusedVariables false
set_option linter.unusedSimpArgs false
theorem fold_set (off : Nat) : ∀ (vs : List Value) (k : Nat) (arr : Array Value), off + k + vs.length ≤ arr.size →
    (vs.zipIdx k).foldl (fun cs (p : Value × Nat) => cs.setIfInBounds (off + p.2) p.1) arr = (setSeg arr.toList (off + k) vs).toArray
  | [], k, arr, h => by simp [setSeg]
  | v :: vs, k, arr, h => by
    have hk : off + k < arr.size := by simp at h; omega
    rw [List.zipIdx_cons, List.foldl_cons, fold_set off vs (k + 1) _ (by simp at h ⊢; omega)]
    have e := list_seg_step arr.toList (off + k) v vs (by simp at h ⊢; omega)
    unfold setSeg
    congr 1
    simpa [Array.toList_setIfInBounds, Nat.add_assoc] using e
theorem fold_set' (off : Nat) (v : Array Value) (arr : Array Value) (h : off + v.size ≤ arr.size) :
    v.zipIdx.foldl (fun cs (x : Value × Nat) => match x with | (c, j) => cs.setIfInBounds (off + j) c) arr = (setSeg arr.toList off v.toList).toArray := by
  have := fold_set off v.toList 0 arr (by simpa using h)
  rw [Nat.add_zero] at this
  rw [← this, ← Array.foldl_toList, Array.toList_zipIdx]
def fillA (flds : List (Nat × Nat × Bool)) : List AC → List (Nat × AV) → Option (List AC)
  | cells, [] => some cells
  | cells, (i, a) :: rest =>
    match flds[i]?, a with
    | some (off, sz, _), .v x => if (cellsT x).length = sz ∧ off + sz ≤ cells.length then fillA flds (setSeg cells off (cellsT x)) rest else none
    | _, _ => none
def vbuild (d : TD) (parts : List (Nat × AV)) : Option AV :=
  match d.tag with
  | .struct => (fillA d.flds (d.zero.map .pv) parts).map fun l => .v (.agg l)
  | _ => none
section
variable {P : Program} {γ : Nat → G} {S : CS} {w : World}
def PartsR (γ : Nat → G) (S : CS) (w : World) : List (Nat × Value) → List (Nat × AV) → Prop
  | [], [] => True
  | p :: ps, q :: qs => p.1 = q.1 ∧ RepV γ S w p.2 q.2 ∧ PartsR γ S w ps qs
  | _, _ => False
theorem partsR_map (f : Operand → Value) (g : Operand → AV) (h : ∀ x, RepV γ S w (f x) (g x)) : ∀ l : List (Nat × Operand), PartsR γ S w (l.map fun p => (p.1, f p.2)) (l.map fun p => (p.1, g p.2))
  | [] => trivial
  | p :: l => ⟨rfl, h _, partsR_map f g h l⟩
theorem fill_sound (flds : List (Nat × Nat × Bool)) (place : Nat → Option (Nat × Nat)) (hp : ∀ i, place i = (flds[i]?).map fun x => (x.1, x.2.1)) : ∀ (ps : List (Nat × Value)) (qs : List (Nat × AV)) (arr : Array Value) (cells out : List AC),
    PartsR γ S w ps qs → RepCs γ S w arr.toList cells → fillA flds cells qs = some out → ∃ r, Instr.fill place arr ps = some r ∧ RepCs γ S w r.toList out
  | [], [], arr, cells, out, _, hr, h => by cases h; exact ⟨arr, rfl, hr⟩
  | (i, v) :: ps, (j, a) :: qs, arr, cells, out, hps, hr, h => by
    obtain ⟨hij, hv, hrest⟩ := hps
    simp only at hij hv
    subst hij
    unfold fillA at h
    split at h
    · rename_i off sz ag x hf
      split at h
      · rename_i hc
        obtain ⟨h1, h2⟩ := hc
        have hcc := cellsT_rep hv
        have hvs : v.cells.size = sz := by rw [← h1, ← hcc.1]; simp
        have hasz : arr.size = cells.length := by have := hr.1; simpa using this
        obtain ⟨r, k1, k2⟩ := fill_sound flds place hp ps qs (setSeg arr.toList off v.cells.toList).toArray (setSeg cells off (cellsT x)) out hrest (by simpa using hr.seg' hcc off) h
        refine ⟨r, ?_, k2⟩
        unfold Instr.fill
        rw [hp, hf]
        simp only [Option.map_some]
        have hno : ¬ (decide (v.cells.size ≠ sz) || decide (off + v.cells.size > arr.size)) = true := by
          simp [hvs]; omega
        simp only [hvs] at hno ⊢
        rw [if_neg (by simp; omega)]
        rw [fold_set' off v.cells arr (by rw [hvs]; omega)]
        exact k1
      · cases h
    · cases h
  | [], _ :: _, _, _, _, h, _, _ => h.elim
  | _ :: _, [], _, _, _, h, _, _ => h.elim
theorem mapM_places {fs : List Field} {fl : List (Nat × Nat × Bool)} (h : fs.mapM (fld P) = some fl) : fs.mapM (fun f => (P.info? f.type).map fun i => (f.offset, i.size)) = some (fl.map fun x => (x.1, x.2.1)) := by
  induction fs generalizing fl with
  | nil => simp at h; subst h; rfl
  | cons f fs ih =>
    simp only [List.mapM_cons, Option.bind_eq_bind, Option.pure_def] at h ⊢
    cases hf : fld P f with
    | none => simp [hf] at h
    | some y =>
      cases hl : fs.mapM (fld P) with
      | none => simp [hf, hl] at h
      | some r =>
        simp [hf, hl] at h
        subst h
        have := ih hl
        unfold fld at hf
        split at hf
        · rename_i i u hi hu
          cases hf
          simp [hi, this]
        · cases hf
theorem vbuild_sound {t : TypeId} {d : TD} (hd : td P t = some d) {qs : List (Nat × AV)} {v : AV} (h : vbuild d qs = some v) {ps : Array (Nat × Value)} (hp : PartsR γ S w ps.toList qs) : ∃ u, (Instr.build t ps).run P w = .ok u w ∧ RepV γ S w u v := by
  obtain ⟨i, ud, z, T⟩ := td_ok hd
  unfold vbuild at h
  split at h
  · rename_i htag
    obtain ⟨l, hl, rfl⟩ := Option.map_eq_some_iff.1 h
    obtain ⟨fs, hu, hm⟩ := T.ustruct htag
    obtain ⟨r, k1, k2⟩ := fill_sound d.flds (((d.flds.map fun x => (x.1, x.2.1)).toArray)[·]?) (fun i => by simp) ps.toList qs z.cells (d.zero.map .pv) l hp (T.rep γ S w) hl
    refine ⟨_, run_build w t ps r ?_, r, rfl, k2⟩
    unfold Program.built
    rw [T.info, hu]
    simp only [T.zer, mapM_places hm]
    exact k1
  · cases h
end
def pureC : AC → Option PV
  | .pv p => some p
  | .row _ es l => some (.sl es l)
  | .cut es l => some (.sl es l)
  | _ => none
def pureT (x : AT) : Option (List PV) := (cellsT x).mapM pureC
theorem pureC_rep {γ : Nat → G} {S : CS} {w : World} {v : Value} {c : AC} {p : PV} (h : RepC γ S w v c) (hp : pureC c = some p) : RepP S w v p := by
  cases c <;> simp [pureC] at hp <;> subst hp
  · exact h
  · exact h.1
  · exact h.1
def RepPs (S : CS) (w : World) (vs : List Value) (l : List PV) : Prop := vs.length = l.length ∧ ∀ (i : Nat) c, l[i]? = some c → ∃ v, vs[i]? = some v ∧ RepP S w v c
theorem pureT_rep {γ : Nat → G} {S : CS} {w : World} {v : Value} {x : AT} {l : List PV} (h : RepT γ S w v x) (hp : pureT x = some l) : RepPs S w v.cells.toList l := by
  have hc := cellsT_rep h
  obtain ⟨h1, h2⟩ := mapM_at hp
  refine ⟨hc.1.trans h1, fun i p hi => ?_⟩
  obtain ⟨c, k1, k2⟩ := h2 i p hi
  obtain ⟨u, k3, k4⟩ := hc.2 i c k1
  exact ⟨u, k3, pureC_rep k4 k2⟩
theorem RepPs.cs {γ : Nat → G} {S : CS} {w : World} {vs : List Value} {l : List PV} : RepPs S w vs l ↔ RepCs γ S w vs (l.map .pv) := by
  constructor
  · intro h
    refine ⟨by rw [h.1, List.length_map], fun i c hc => ?_⟩
    rw [List.getElem?_map] at hc
    obtain ⟨p, hp, rfl⟩ := Option.map_eq_some_iff.1 hc
    exact h.2 i p hp
  · intro h
    refine ⟨by rw [h.1, List.length_map], fun i p hp => ?_⟩
    exact h.2 i (.pv p) (by rw [List.getElem?_map, hp]; rfl)
def fillS (es : Nat) : List (List PV) → List (Nat × AV) → Option (List (List PV))
  | l, [] => some l
  | l, (i, a) :: rest =>
    match a with
    | .v x =>
      match pureT x with
      | some c => if c.length = es ∧ i < l.length then fillS es (l.set i c) rest else none
      | none => none
    | _ => none
theorem flat_len {es : Nat} : ∀ {l : List (List PV)}, (∀ e ∈ l, e.length = es) → l.flatten.length = l.length * es
  | [], _ => by simp
  | e :: l, h => by
    have h1 := h e (by simp)
    have h2 := flat_len (l := l) (fun e he => h e (by simp [he]))
    rw [List.flatten_cons, List.length_append, h1, h2, List.length_cons, Nat.succ_mul]; omega
theorem flat_set {es : Nat} : ∀ {l : List (List PV)} {i : Nat} {c : List PV}, (∀ e ∈ l, e.length = es) → c.length = es → i < l.length → (l.set i c).flatten = setSeg l.flatten (i * es) c
  | [], _, _, _, _, h => by simp at h
  | e :: l, 0, c, h, hc, _ => by
    have h1 := h e (by simp)
    simp only [List.set_cons_zero, List.flatten_cons, Nat.zero_mul, setSeg, List.take_zero, List.nil_append, Nat.zero_add, hc]
    rw [List.drop_left' h1]
  | e :: l, i + 1, c, h, hc, hi => by
    have h1 := h e (by simp)
    have ih := flat_set (l := l) (i := i) (c := c) (fun e he => h e (by simp [he])) hc (by simpa using hi)
    simp only [List.set_cons_succ, List.flatten_cons, ih, setSeg]
    have e1 : (i + 1) * es = e.length + i * es := by rw [h1, Nat.succ_mul]; omega
    rw [e1]
    have e2 : (e ++ l.flatten).take (e.length + i * es) = e ++ l.flatten.take (i * es) := by rw [List.take_append, List.take_of_length_le (Nat.le_add_right _ _), Nat.add_sub_cancel_left]
    have e3 : (e ++ l.flatten).drop (e.length + i * es + c.length) = l.flatten.drop (i * es + c.length) := by
      rw [Nat.add_assoc, List.drop_append, List.drop_of_length_le (Nat.le_add_right _ _), List.nil_append, Nat.add_sub_cancel_left]
    rw [e2, e3]
    simp [List.append_assoc]
theorem flat_get {es : Nat} {l : List (List PV)} (h : ∀ e ∈ l, e.length = es) {i j : Nat} {e : List PV} {p : PV} (hi : l[i]? = some e) (hj : e[j]? = some p) : l.flatten[i * es + j]? = some p := by
  induction l generalizing i with
  | nil => simp at hi
  | cons a l ih =>
    have h1 := h a (by simp)
    cases i with
    | zero =>
      simp at hi; subst hi
      rw [List.flatten_cons, List.getElem?_append_left (by have := (List.getElem?_eq_some_iff.1 hj).1; omega), Nat.zero_mul, Nat.zero_add]; exact hj
    | succ i =>
      simp at hi
      rw [List.flatten_cons, List.getElem?_append_right (by rw [h1, Nat.succ_mul]; omega), h1]
      have := ih (fun e he => h e (by simp [he])) hi
      rwa [show (i + 1) * es + j - es = i * es + j by rw [Nat.succ_mul]; omega]
theorem fillS_sound {γ : Nat → G} {S : CS} {w : World} (es : Nat) (place : Nat → Option (Nat × Nat)) (hp : ∀ i, place i = some (i * es, es)) : ∀ (ps : List (Nat × Value)) (qs : List (Nat × AV)) (arr : Array Value) (l out : List (List PV)),
    PartsR γ S w ps qs → (∀ e ∈ l, e.length = es) → RepPs S w arr.toList l.flatten → fillS es l qs = some out → ∃ r, Instr.fill place arr ps = some r ∧ RepPs S w r.toList out.flatten ∧ (∀ e ∈ out, e.length = es) ∧ out.length = l.length
  | [], [], arr, l, out, _, hes, hr, h => by cases h; exact ⟨arr, rfl, hr, hes, rfl⟩
  | (i, v) :: ps, (j, a) :: qs, arr, l, out, hps, hes, hr, h => by
    obtain ⟨hij, hv, hrest⟩ := hps
    simp only at hij hv
    subst hij
    unfold fillS at h
    split at h
    · rename_i x
      split at h
      · rename_i c hc
        split at h
        · rename_i hcond
          obtain ⟨h1, h2⟩ := hcond
          have hcc := pureT_rep hv hc
          have hvs : v.cells.size = es := by rw [← h1, ← hcc.1]; simp
          have hasz : arr.size = l.length * es := by have := hr.1; rw [flat_len hes] at this; simpa using this
          have hle : i * es + es ≤ arr.size := by rw [hasz, ← Nat.succ_mul]; exact Nat.mul_le_mul_right _ h2
          have hset : ∀ e ∈ l.set i c, e.length = es := fun e he => by
            rcases List.mem_or_eq_of_mem_set he with he | rfl
            · exact hes e he
            · exact h1
          obtain ⟨r, k1, k2, k3, k4⟩ := fillS_sound es place hp ps qs (setSeg arr.toList (i * es) v.cells.toList).toArray (l.set i c) out hrest hset (by
            have := ((RepPs.cs (γ := γ)).1 hr).seg' ((RepPs.cs (γ := γ)).1 hcc) (i * es)
            rw [flat_set hes h1 h2]
            refine (RepPs.cs (γ := γ)).2 ?_
            simp only [setSeg, List.map_append, List.map_take, List.map_drop, List.length_map] at this ⊢
            exact this) h
          refine ⟨r, ?_, k2, k3, by rw [k4, List.length_set]⟩
          unfold Instr.fill
          rw [hp]
          simp only [hvs]
          rw [if_neg (by simp; omega)]
          rw [fold_set' (i * es) v.cells arr (by rw [hvs]; omega)]
          exact k1
        · cases h
      · cases h
    · cases h
  | [], _ :: _, _, _, _, h, _, _, _ => h.elim
  | _ :: _, [], _, _, _, h, _, _, _ => h.elim
end Go.Proofs.Ytcjagcfjpfjanaa.am
namespace Go.Proofs.Ytcjagcfjpfjanaa.am
open Go.ChangeShapes Go.WideShapes Go.ChangeAt Go.RowKit
set_option linter.unusedVariables false
set_option linter.unusedSimpArgs false
theorem flat_decode {es : Nat} {l : List (List PV)} (h : ∀ e ∈ l, e.length = es) {k : Nat} {p : PV} (hk : l.flatten[k]? = some p) : ∃ (i j : Nat) (e : List PV), l[i]? = some e ∧ e[j]? = some p ∧ k = i * es + j := by
  induction l generalizing k with
  | nil => simp at hk
  | cons a l ih =>
    have h1 := h a (by simp)
    rw [List.flatten_cons] at hk
    by_cases hlt : k < a.length
    · rw [List.getElem?_append_left hlt] at hk
      exact ⟨0, k, a, rfl, hk, by omega⟩
    · rw [List.getElem?_append_right (by omega)] at hk
      obtain ⟨i, j, e, h2, h3, h4⟩ := ih (fun e he => h e (by simp [he])) hk
      exact ⟨i + 1, j, e, by simpa using h2, h3, by rw [Nat.succ_mul]; omega⟩
section
variable {X : Ctx} {H : Nat → Option AO} {U : Nat → Prop} {γ : Nat → G} {S : CS} {w : World} {P : Program}
theorem sl_of_block {es : Nat} {l : List (List PV)} (hes : ∀ e ∈ l, e.length = es) {b : Nat} {xs : List Value} (hxs : RepPs S w xs l.flatten) {c : Nat} (hc : l.length ≤ c) (hm : c ≤ 9223372036854775807) (hcell : ∀ (k : Nat) u, xs[k]? = some u → S b k ∧ w.cell? ⟨b, k, none⟩ = some u) :
    RepP S w (.slice (some ⟨b, 0, none⟩) l.length c) (.sl es l) :=
  sl_intro ⟨hc, hm, by simp, .inr ⟨b, 0, rfl, hes, fun i e j p hi hj => by
    obtain ⟨u, h1, h2⟩ := hxs.2 _ p (flat_get hes hi hj)
    rw [Nat.zero_add]
    exact ⟨(hcell _ u h1).1, u, (hcell _ u h1).2, h2⟩⟩⟩
theorem RepPs.mono {S' : CS} {w' : World} (hS : ∀ b o, S b o → S' b o) (hw : ∀ b o, S b o → w'.cell? ⟨b, o, none⟩ = w.cell? ⟨b, o, none⟩) {vs : List Value} {l : List PV} (h : RepPs S w vs l) : RepPs S' w' vs l :=
  ⟨h.1, fun i c hi => let ⟨v, h1, h2⟩ := h.2 i c hi; ⟨v, h1, h2.mono hS hw⟩⟩
theorem newrow (h : Mem X H U γ S w) {nm : Nat} (hn : U nm) (e : TypeId) (es : Nat) {l : List (List PV)} (hes : ∀ e ∈ l, e.length = es) (cs : Array Value) (cap : Nat) (hcap : l.length ≤ cap) (hmost : cap ≤ 9223372036854775807) (hcs : cs.size = cap * es) (hl : RepPs S w (cs.toList.take (l.length * es)) l.flatten) :
    ∃ γ' S', Mem X (upd H nm (some (.row e es))) (fun x => U x ∧ x ≠ nm) γ' S' (w.alloc (.cells cs e)) ∧ GOn γ γ' ∧ (∀ b o, S b o → S' b o) ∧ (∀ b o, S b o → (w.alloc (.cells cs e)).cell? ⟨b, o, none⟩ = w.cell? ⟨b, o, none⟩) ∧
      RepV γ' S' (w.alloc (.cells cs e)) (.slice (some ⟨w.heap.size, 0, none⟩) l.length cap) (.v (.c (.row nm es l))) := by
  have hG := GOn.upd_un (h.un nm hn) (.val (.slice (some ⟨w.heap.size, 0, none⟩) l.length cap))
  have hw : ∀ b k, S b k → (w.alloc (.cells cs e)).cell? ⟨b, k, none⟩ = w.cell? ⟨b, k, none⟩ := fun b k hs => cell_old (h.inb b k hs)
  refine ⟨_, _, h.add hn (.cells cs e) _ rfl (fun k => k < l.length * es) (.row e es) ⟨_, l.length, cs.toList.take (l.length * es), upd_same _ _ _, ⟨?_, .inr ⟨_, cap, cs, rfl, Nat.zero_le _, heap_alloc_new w _, hcap, by unfold maxLen; omega, hcs, rfl⟩⟩, fun b hb o ho hs => ?_⟩, hG, fun _ _ h => .inl h, hw, ?_, .inr (upd_same _ _ _)⟩
  · show (cs.toList.take (l.length * es)).length = l.length * es
    have hle := Nat.mul_le_mul_right es hcap
    rw [List.length_take, show cs.toList.length = cap * es from hcs]
    exact Nat.min_eq_left hle
  · cases hb
    rcases hs with hs | ⟨_, hs⟩
    · exact absurd (h.inb _ _ hs) (Nat.lt_irrefl _)
    · omega
  · refine sl_of_block hes (hl.mono (fun _ _ h => .inl h) hw) hcap hmost (fun k u hk => ?_)
    have hkl : k < l.length * es := by
      have h1 := (List.getElem?_eq_some_iff.1 hk).1
      rw [List.length_take] at h1; omega
    refine ⟨.inr ⟨rfl, hkl⟩, ?_⟩
    rw [cell_row (heap_alloc_new w (.cells cs e))]
    rw [List.getElem?_take, if_pos hkl] at hk
    exact hk
theorem arr_ps {e : TypeId} {es : Nat} {v : Value} {l : List (List PV)} {xs : List Value} (g2 : w.ownsRow 0 e es v l.length xs) (g3 : ∀ i e j p, l[i]? = some e → e[j]? = some p → ∃ u, xs[i * es + j]? = some u ∧ RepP S w u p) (g5 : ∀ e ∈ l, e.length = es) : RepPs S w xs l.flatten := by
  refine ⟨by rw [g2.1, flat_len g5], fun k p hk => ?_⟩
  obtain ⟨i, j, el, q1, q2, rfl⟩ := flat_decode g5 hk
  exact g3 i el j p q1 q2
theorem ps_arr {es : Nat} {l : List (List PV)} {xs : List Value} (h : RepPs S w xs l.flatten) (g5 : ∀ e ∈ l, e.length = es) : ∀ i e j p, l[i]? = some e → e[j]? = some p → ∃ u, xs[i * es + j]? = some u ∧ RepP S w u p := fun i e j p hi hj => h.2 _ p (flat_get g5 hi hj)
theorem newarr (h : Mem X H U γ S w) {nm : Nat} (hn : U nm) (e : TypeId) (es : Nat) {l : List (List PV)} (hes : ∀ e ∈ l, e.length = es) (cs : Array Value) (cap : Nat) (hcap : l.length ≤ cap) (hmost : cap ≤ 9223372036854775807) (hcs : cs.size = cap * es) (hl : RepPs S w (cs.toList.take (l.length * es)) l.flatten) :
    ∃ γ' S', Mem X (upd H nm (some (.arr e es l))) (fun x => U x ∧ x ≠ nm) γ' S' (w.alloc (.cells cs e)) ∧ GOn γ γ' ∧ (∀ b o, S b o → S' b o) ∧ (∀ b o, S b o → (w.alloc (.cells cs e)).cell? ⟨b, o, none⟩ = w.cell? ⟨b, o, none⟩) ∧
      RepV γ' S' (w.alloc (.cells cs e)) (.slice (some ⟨w.heap.size, 0, none⟩) l.length cap) (.v (.c (.arr nm es l.length))) := by
  have hG := GOn.upd_un (h.un nm hn) (.val (.slice (some ⟨w.heap.size, 0, none⟩) l.length cap))
  have hw : ∀ b k, S b k → (w.alloc (.cells cs e)).cell? ⟨b, k, none⟩ = w.cell? ⟨b, k, none⟩ := fun b k hs => cell_old (h.inb b k hs)
  refine ⟨_, _, h.add hn (.cells cs e) _ rfl (fun k => False) (.arr e es l) ⟨_, cs.toList.take (l.length * es), upd_same _ _ _, ⟨?_, .inr ⟨_, cap, cs, rfl, Nat.zero_le _, heap_alloc_new w _, hcap, by unfold maxLen; omega, hcs, rfl⟩⟩, ?_, hes, fun b hb o hs => ?_⟩, hG, fun _ _ h => .inl h, hw, ⟨_, _, rfl⟩, .inr (upd_same _ _ _)⟩
  · show (cs.toList.take (l.length * es)).length = l.length * es
    have hle := Nat.mul_le_mul_right es hcap
    rw [List.length_take, show cs.toList.length = cap * es from hcs]
    exact Nat.min_eq_left hle
  · exact ps_arr (hl.mono (fun _ _ h => .inl h) hw) hes
  · cases hb
    rcases hs with hs | ⟨_, hs⟩
    · exact absurd (h.inb _ _ hs) (Nat.lt_irrefl _)
    · exact hs
def vbuildSlice (P : Program) (d : TD) (len : Nat) (qs : List (Nat × AV)) (nm : Nat) : Option (AV × AO) :=
  match d.tag with
  | .slice e =>
    match td P e with
    | some de =>
      if len * de.sz ≤ 16777216 ∧ len ≤ 16777216 ∧ 0 < de.sz then
        (fillS de.sz (List.replicate len de.zero) qs).map fun l => if nm < 1000000 then (.v (.c (.row nm de.sz l)), .row e de.sz) else (.v (.c (.arr nm de.sz l.length)), .arr e de.sz l)
      else none
    | none => none
  | _ => none
theorem zero_fill {z : Array Value} {len es : Nat} (hz : z.size = es) {zero : List PV} (hlen : zero.length = es) (hr : RepPs S w z.toList zero) : RepPs S w ((Array.range (len * es)).map (fun k => z[k % es]!)).toList (List.replicate len zero).flatten := by
  have hes : ∀ e ∈ List.replicate len zero, e.length = es := fun e he => by rw [(List.mem_replicate.1 he).2]; exact hlen
  refine ⟨by rw [flat_len hes]; simp, fun k p hk => ?_⟩
  obtain ⟨i, j, e, h1, h2, rfl⟩ := flat_decode hes hk
  have he : e = zero := (List.mem_replicate.1 (List.mem_of_getElem? h1)).2
  subst he
  have hj : j < es := by have := (List.getElem?_eq_some_iff.1 h2).1; omega
  have hi : i < len := by have := (List.getElem?_eq_some_iff.1 h1).1; simpa using this
  obtain ⟨v, k1, k2⟩ := hr.2 j p h2
  refine ⟨v, ?_, k2⟩
  have hlt : i * es + j < len * es := by
    have : (i + 1) * es ≤ len * es := Nat.mul_le_mul_right _ hi
    rw [Nat.succ_mul] at this; omega
  have hmod : (i * es + j) % es = j := by rw [Nat.mul_comm, Nat.mul_add_mod, Nat.mod_eq_of_lt hj]
  have k1' : z[j]? = some v := by simpa using k1
  have k1'' : z[j]! = v := by rw [getElem!_def, k1']
  simp [hlt, hmod, k1'']
theorem vbuildSlice_sound (h : Mem X H U γ S w) {nm : Nat} (hn : U nm) {t : TypeId} {d : TD} (hd : td P t = some d) {len : Nat} {qs : List (Nat × AV)} {v : AV} {ob : AO} (hv : vbuildSlice P d len qs nm = some (v, ob)) {ps : Array (Nat × Value)} (hp : PartsR γ S w ps.toList qs) :
    Stp X (upd H nm (some ob)) (fun x => U x ∧ x ≠ nm) γ S w ((do pure (.value (← Instr.buildSlice t len ps)) : Sem Go.Next).run P w) v := by
  obtain ⟨i, ud, z, T⟩ := td_ok hd
  unfold vbuildSlice at hv
  split at hv
  · rename_i e' htag
    split at hv
    · rename_i de hde
      split at hv
      · rename_i hc
        obtain ⟨hc1, hc2, hc3⟩ := hc
        obtain ⟨l, hl, hv⟩ := Option.map_eq_some_iff.1 hv
        obtain ⟨i', ud', z', T'⟩ := td_ok hde
        have hu := T.uslice htag
        have hes : ∀ e ∈ List.replicate len de.zero, e.length = de.sz := fun e he => by rw [(List.mem_replicate.1 he).2]; exact T'.len
        have hzero : RepPs S w ((Array.range (len * de.sz)).map (fun k => z'.cells[k % de.sz]!)).toList (List.replicate len de.zero).flatten :=
          zero_fill T'.zsize T'.len ((RepPs.cs (γ := γ)).2 (T'.rep γ S w))
        obtain ⟨r, k1, k2, k3, k4⟩ := fillS_sound de.sz (fun i => some (i * de.sz, de.sz)) (fun i => rfl) ps.toList qs _ _ l hp hes hzero hl
        rw [List.length_replicate] at k4
        have hrs : r.size = l.length * de.sz := by have := k2.1; rw [flat_len k3] at this; simpa using this
        have key : ∃ γ' S', Mem X (upd H nm (some ob)) (fun x => U x ∧ x ≠ nm) γ' S' (w.alloc (.cells r e')) ∧ GOn γ γ' ∧ (∀ b o, S b o → S' b o) ∧ (∀ b o, S b o → (w.alloc (.cells r e')).cell? ⟨b, o, none⟩ = w.cell? ⟨b, o, none⟩) ∧ RepV γ' S' (w.alloc (.cells r e')) (.slice (some ⟨w.heap.size, 0, none⟩) l.length l.length) v := by
          split at hv
          · simp only [Prod.mk.injEq] at hv
            obtain ⟨rfl, rfl⟩ := hv
            exact newrow h hn e' de.sz k3 r l.length (Nat.le_refl _) (by omega) hrs (by rw [List.take_of_length_le (by simp [hrs])]; exact k2)
          · simp only [Prod.mk.injEq] at hv
            obtain ⟨rfl, rfl⟩ := hv
            exact newarr h hn e' de.sz k3 r l.length (Nat.le_refl _) (by omega) hrs (by rw [List.take_of_length_le (by simp [hrs])]; exact k2)
        obtain ⟨γ', S', g1, g2, g3, g4, g5⟩ := key
        refine ⟨_, _, γ', S', .inl ?_, g1, g2, g3, g4, g5⟩
        have hno : ¬ (2 : Nat) ^ 24 < len * de.sz := by omega
        by_cases h0 : len * de.sz = 0
        · have hlen : len = 0 := by rcases Nat.mul_eq_zero.1 h0 with h0 | h0 <;> omega
          subst hlen
          simp only [Nat.zero_mul, Array.range_zero', Array.map_empty] at k1
          simp only [Instr.buildSlice, Sem.run_bind, run_underlying hu, Result.andThen_ok, T'.sizeOf, h0, Nat.zero_mul]
          simp only [if_true, Sem.run_pure, Result.andThen_ok, Array.range_zero', Array.map_empty, Nat.not_lt_zero, if_false, gt_iff_lt, k1, newRow, newObj]
          simp [Sem.run, k4]
        · simp only [Instr.buildSlice, Sem.run_bind, run_underlying hu, Result.andThen_ok, T'.sizeOf, gt_iff_lt, hno, if_false, h0, T'.zero, Sem.run_pure, T'.zsize, k1, newRow, newObj]
          simp [Sem.run, k4]
      · cases hv
    · cases hv
  · cases hv
end
end Go.Proofs.Ytcjagcfjpfjanaa.am
namespace Go.Proofs.Ytcjagcfjpfjanaa.am
open Go.ChangeShapes Go.WideShapes Go.ChangeAt Go.RowKit
set_option linter.unusedVariables false
set_option linter.unusedSimpArgs false
section
variable {X : Ctx} {H : Nat → Option AO} {U : Nat → Prop} {γ : Nat → G} {S : CS} {w : World} {P : Program}
theorem GOn.kill {γ : Nat → G} {id : Nat} {v : Value} (h : γ id = .val v) : GOn γ (upd γ id .dead) := fun y => by
  by_cases hy : y = id
  · subst hy; exact .inr (.inr ⟨upd_same _ _ _, v, h⟩)
  · exact .inr (.inl (upd_ne γ _ hy))
theorem Mem.kill (h : Mem X H U γ S w) {id : Nat} {v : Value} (hid : γ id = .val v) : Mem X (upd H id none) U (upd γ id .dead) S w := by
  have hG := GOn.kill hid
  refine ⟨h.os, h.tape, h.output, h.size, h.frame, h.keep, h.fresh, h.inb, h.mono.trans hG, fun x hx => ?_, fun x hx => ?_, fun x o hx => ?_, fun x y hxy b hbx hby => ?_, fun x b hb => ?_⟩
  · have := h.un x hx
    rw [upd_ne γ _ (fun e => by rw [e, hid] at this; cases this)]; exact this
  · by_cases hx' : x = id
    · subst hx'; exact .inr (upd_same _ _ _)
    · rw [upd_ne _ _ hx'] at hx ⊢; exact h.off x hx
  · by_cases hx' : x = id
    · subst hx'; rw [upd_same] at hx; cases hx
    · rw [upd_ne _ _ hx'] at hx
      exact Obj'.on (h.obj x o hx) (upd_ne _ _ hx') hG (fun _ _ h => h) (fun _ _ _ => rfl) (fun b hb => ⟨rfl, fun _ h => h⟩)
  · by_cases hx' : x = id
    · subst hx'; rw [upd_same] at hbx; cases hbx
    · by_cases hy' : y = id
      · subst hy'; rw [upd_same] at hby; cases hby
      · rw [upd_ne _ _ hx'] at hbx; rw [upd_ne _ _ hy'] at hby; exact h.dist x y hxy b hbx hby
  · by_cases hx' : x = id
    · subst hx'; rw [upd_same] at hb; cases hb
    · rw [upd_ne _ _ hx'] at hb; exact h.live x b hb
theorem Mem.app (h : Mem X H U γ S w) {id nm : Nat} (hn : U nm) {v v' : Value} (hid : γ id = .val v) (hv : v'.ownBlock = v.ownBlock) {w' : World} (os : w'.os = w.os) (tape : w'.tape = w.tape) (out : w'.output = w.output) (size : w'.heap.size = w.heap.size)
    (hoth : ∀ k, v.ownBlock ≠ some k → w'.heap[k]? = w.heap[k]?) (hcell : ∀ b k, S b k → w'.cell? ⟨b, k, none⟩ = w.cell? ⟨b, k, none⟩) (K : Nat → Prop) (o : AO)
    (hob : Obj' (upd (upd γ id .dead) nm (.val v')) (fun b k => S b k ∨ (v.ownBlock = some b ∧ K k)) w' nm o) :
    Mem X (upd (upd H id none) nm (some o)) (fun x => U x ∧ x ≠ nm) (upd (upd γ id .dead) nm (.val v')) (fun b k => S b k ∨ (v.ownBlock = some b ∧ K k)) w' ∧ GOn γ (upd (upd γ id .dead) nm (.val v')) := by
  have hnm := h.un nm hn
  have hne : id ≠ nm := fun e => by rw [e, hnm] at hid; cases hid
  have hG : GOn γ (upd (upd γ id .dead) nm (.val v')) := (GOn.kill hid).trans (GOn.upd_un (by rw [upd_ne _ _ (Ne.symm hne)]; exact hnm) _)
  have hbk : ∀ x, x ≠ id → x ≠ nm → (upd (upd γ id .dead) nm (.val v')) x = γ x := fun x h1 h2 => by rw [upd_ne _ _ h2, upd_ne _ _ h1]
  have hbn : (upd (upd γ id .dead) nm (.val v')) nm = .val v' := upd_same _ _ _
  have hbi : (upd (upd γ id .dead) nm (.val v')) id = .dead := by rw [upd_ne _ _ hne, upd_same]
  have hown : ∀ b, v.ownBlock = some b → (γ id).bk = some b := fun b hb => by rw [hid]; exact hb
  refine ⟨⟨os.trans h.os, tape.trans h.tape, out.trans h.output, by rw [size]; exact h.size, fun b hb hx => ?_, fun b k hs => ?_, fun b k hs => ?_, fun b k hs => ?_, h.mono.trans hG, fun x hx => ?_, fun x hx => ?_, fun x o' hx => ?_, fun x y hxy b hbx hby => ?_, fun x b hb => ?_⟩, hG⟩
  · rw [hoth b (fun e => ?_)]
    · exact h.frame b hb hx
    · rcases (h.live id b (hown b e)).2 with k | ⟨y, hy⟩
      · omega
      · exact hx y hy
  · have := h.keep b k hs
    exact ⟨.inl this.1, by rw [hcell b k this.1]; exact this.2⟩
  · rcases hs with hs | ⟨hs, _⟩
    · exact h.fresh b k hs
    · rcases (h.live id b (hown b hs)).2 with k | k
      · exact .inr (.inl k)
      · exact .inr (.inr k)
  · rw [size]
    rcases hs with hs | ⟨hs, _⟩
    · exact h.inb b k hs
    · exact (h.live id b (hown b hs)).1
  · have := h.un x hx.1
    rw [hbk x (fun e => by rw [e, hid] at this; cases this) hx.2]; exact this
  · by_cases h1 : x = nm
    · subst h1; rw [upd_same] at hx; cases hx
    · rw [upd_ne _ _ h1] at hx
      by_cases h2 : x = id
      · subst h2; exact .inr hbi
      · rw [upd_ne _ _ h2] at hx; rw [hbk x h2 h1]; exact h.off x hx
  · by_cases h1 : x = nm
    · subst h1; rw [upd_same] at hx; cases hx; exact hob
    · rw [upd_ne _ _ h1] at hx
      by_cases h2 : x = id
      · subst h2; rw [upd_same] at hx; cases hx
      · rw [upd_ne _ _ h2] at hx
        refine Obj'.on (h.obj x o' hx) (hbk x h2 h1) hG (fun _ _ h => .inl h) hcell (fun b hb => ⟨hoth b (fun e => h.dist x id h2 b hb (hown b e)), fun k hk => hk.elim (fun h => h) (fun e => (h.dist x id h2 b hb (hown b e.1)).elim)⟩)
  · by_cases h1 : x = nm
    · subst h1
      rw [hbn] at hbx
      by_cases h3 : y = id
      · subst h3; rw [hbi] at hby; cases hby
      · rw [hbk y h3 (Ne.symm hxy)] at hby
        exact h.dist y id h3 b hby (hown b (by rw [← hv]; exact hbx))
    · by_cases h2 : x = id
      · subst h2; rw [hbi] at hbx; cases hbx
      · rw [hbk x h2 h1] at hbx
        by_cases h3 : y = nm
        · subst h3
          rw [hbn] at hby
          exact h.dist x id h2 b hbx (hown b (by rw [← hv]; exact hby))
        · by_cases h4 : y = id
          · subst h4; rw [hbi] at hby; cases hby
          · rw [hbk y h4 h3] at hby; exact h.dist x y hxy b hbx hby
  · rw [size]
    by_cases h1 : x = nm
    · subst h1; rw [hbn] at hb; exact h.live id b (hown b (by rw [← hv]; exact hb))
    · by_cases h2 : x = id
      · subst h2; rw [hbi] at hb; cases hb
      · rw [hbk x h2 h1] at hb; exact h.live x b hb
def srcOf (es : Nat) (y : AV) (H : Nat → Option AO) : Option (List (List PV) × List Nat) :=
  match y with
  | .v (.c (.arr id es' m)) =>
    match H id with
    | some (.arr _ es2 l) => if es' = es ∧ es2 = es ∧ m = l.length then some (l, [id]) else none
    | _ => none
  | .v (.c (.vw id es' lo n)) =>
    match H id with
    | some (.arr _ es2 l) => if es' = es ∧ es2 = es ∧ lo + n ≤ l.length then some ((l.drop lo).take n, [id]) else none
    | _ => none
  | y => (asSl es y).map fun l => (l, [])
def vappend (P : Program) (d : TD) (x y : AV) (H : Nat → Option AO) (nm : Nat) : Option (AV × List Nat × List (Nat × Option AO)) :=
  match d.tag with
  | .slice e =>
    match td P e with
    | some de =>
      match srcOf de.sz y H with
      | some (l', F0) =>
        match x with
        | .v (.c (.row id es l)) =>
          match H id with
          | some (.row e' es') => if e' = e ∧ es' = de.sz ∧ es = de.sz ∧ 0 < de.sz ∧ (l.length + l'.length) * de.bytes ≤ 140737488355328 ∧ l.length + l'.length ≤ 140737488355328 then some (.v (.c (.row nm de.sz (l ++ l'))), id :: F0, [(id, none), (nm, some (.row e de.sz))]) else none
          | _ => none
        | .v (.c (.arr id es m)) =>
          match H id with
          | some (.arr e' es' l) => if e' = e ∧ es' = de.sz ∧ es = de.sz ∧ m = l.length ∧ 0 < de.sz ∧ (l.length + l'.length) * de.bytes ≤ 140737488355328 ∧ l.length + l'.length ≤ 140737488355328 then some (.v (.c (.arr nm de.sz (l.length + l'.length))), id :: F0, [(id, none), (nm, some (.arr e de.sz (l ++ l')))]) else none
          | _ => none
        | .v (.c (.vw id es lo n)) =>
          match H id with
          | some (.arr e' es' l) => if e' = e ∧ es' = de.sz ∧ es = de.sz ∧ lo = 0 ∧ n ≤ l.length ∧ 0 < de.sz ∧ (n + l'.length) * de.bytes ≤ 140737488355328 ∧ n + l'.length ≤ 140737488355328 then some (.v (.c (.arr nm de.sz (n + l'.length))), id :: F0, [(id, none), (nm, some (.arr e de.sz (l.take n ++ l')))]) else none
          | _ => none
        | .v (.c (.pv .nilS)) => if 0 < de.sz ∧ l'.length * de.bytes ≤ 140737488355328 ∧ l'.length ≤ 140737488355328 then (if nm < 1000000 then some (.v (.c (.row nm de.sz l')), F0, [(nm, some (.row e de.sz))]) else some (.v (.c (.arr nm de.sz l'.length)), F0, [(nm, some (.arr e de.sz l'))])) else none
        | .v (.c (.cut es l)) => if es = de.sz ∧ 0 < de.sz ∧ 0 < l'.length ∧ (l.length + l'.length) * de.bytes ≤ 140737488355328 ∧ l.length + l'.length ≤ 140737488355328 then some (.v (.c (.row nm de.sz (l ++ l'))), F0, [(nm, some (.row e de.sz))]) else none
        | _ => none
      | none => none
    | none => none
  | _ => none
theorem SlR.news {es : Nat} {l : List (List PV)} {a : Option Addr} {c : Nat} (h : SlR S w es l a c) (h0 : 0 < l.length) : ∃ (ad : Addr) (news : List Value), a = some ad ∧ RepPs S w news l.flatten ∧ (∀ (j : Nat) u, news[j]? = some u → w.cell? (ad.add j) = some u) ∧ (∀ e ∈ l, e.length = es) ∧ news.length = l.length * es := by
  rcases h.at' with rfl | ⟨b, off, rfl, hes, hc⟩
  · simp at h0
  · obtain ⟨news, h1, h2, h3⟩ := RepPs_list (S := S) (w := w) b off l.flatten (fun k p hk => by
      obtain ⟨i, j, e, g1, g2, rfl⟩ := flat_decode hes hk
      have := (hc i e j p g1 g2).2
      rwa [Nat.add_assoc] at this)
    exact ⟨_, news, rfl, ⟨h1, h3⟩, fun j u hj => by rw [addr_add]; exact h2 j u hj, hes, by rw [h1, flat_len hes]⟩
theorem RepPs.ones {vs : List Value} {l : List PV} (h : RepPs S w vs l) : ∀ v ∈ vs, v.oneCell' = true := fun v hv => by
  obtain ⟨i, hi⟩ := List.getElem?_of_mem hv
  obtain ⟨c, hc⟩ := getElem?_lift h.1 hi
  obtain ⟨v', h1, h2⟩ := h.2 i c hc
  rw [hi] at h1; cases h1
  exact h2.one
theorem RepPs.append {vs us : List Value} {l m : List PV} (h : RepPs S w vs l) (k : RepPs S w us m) : RepPs S w (vs ++ us) (l ++ m) := by
  refine ⟨by simp [h.1, k.1], fun i c hc => ?_⟩
  rw [List.getElem?_append] at hc ⊢
  split at hc
  · rename_i hi; obtain ⟨v, h1, h2⟩ := h.2 i c hc; exact ⟨v, by rw [if_pos (by rw [h.1]; exact hi)]; exact h1, h2⟩
  · rename_i hi; obtain ⟨v, h1, h2⟩ := k.2 _ c hc; exact ⟨v, by rw [if_neg (by rw [h.1]; exact hi), h.1]; exact h1, h2⟩
theorem run_append0 {t ty e : TypeId} {de : TD} (ht : P.underlying t = some (.slice e)) (hde : td P e = some de) (a a' : Option Addr) (n c c' : Nat) (h : n ≤ c) : (Builtin.append_ #[t, t] ty #[.slice a n c, .slice a' 0 c']).run P w = .ok (.slice a n c) w := by
  obtain ⟨i, ud, z, T⟩ := td_ok hde
  cases a' <;> cases a <;> simp [Builtin.append_, run_underlying ht, T.sizeOf, Builtin.lenOf, h, Builtin.firstCells, loadCells, loadCellsFrom, storeCells]
theorem grown_row (h : Mem X H U γ S w) {nm : Nat} (hn : U nm) {e : TypeId} {de : TD} {z : Value} {i : TypeInfo} {ud : TypeDesc} (T : TDok P e de i ud z) {l : List (List PV)} (hes : ∀ e ∈ l, e.length = de.sz) {xs : List Value} (hxs : RepPs S w xs l.flatten) (old : Nat) (hle : l.length ≤ 140737488355328) :
    ∃ γ' S', Mem X (upd H nm (some (.row e de.sz))) (fun x => U x ∧ x ≠ nm) γ' S' (w.drew.alloc (.cells (xs.toArray ++ Builtin.zeroCells z.cells (grownCap w l.length old e - l.length)) e)) ∧ GOn γ γ' ∧ (∀ b o, S b o → S' b o) ∧ (∀ b o, S b o → (w.drew.alloc (.cells (xs.toArray ++ Builtin.zeroCells z.cells (grownCap w l.length old e - l.length)) e)).cell? ⟨b, o, none⟩ = w.cell? ⟨b, o, none⟩) ∧
      RepV γ' S' (w.drew.alloc (.cells (xs.toArray ++ Builtin.zeroCells z.cells (grownCap w l.length old e - l.length)) e)) (.slice (some ⟨w.heap.size, 0, none⟩) l.length (grownCap w l.length old e)) (.v (.c (.row nm de.sz l))) := by
  have hge := grownCap_ge w l.length old e
  have hcm : grownCap w l.length old e ≤ maxLen := grownCap_le_maxLen w l.length old e (by unfold maxLen; omega)
  have hxl : xs.length = l.length * de.sz := by rw [hxs.1, flat_len hes]
  have hsz : (xs.toArray ++ Builtin.zeroCells z.cells (grownCap w l.length old e - l.length)).size = grownCap w l.length old e * de.sz := by
    simp only [Array.size_append, List.size_toArray, size_zeroCells, T.zsize, hxl, ← Nat.add_mul]
    congr 1; omega
  have hdrew : RepPs S w.drew xs l.flatten := RepPs.mono (w := w) (w' := w.drew) (fun _ _ h => h) (fun _ _ _ => rfl) hxs
  have := newrow h.drew hn e de.sz hes _ (grownCap w l.length old e) hge (by unfold maxLen at hcm; omega) hsz (by
    simp only [Array.toList_append, List.toList_toArray]
    rw [← hxl, List.take_left]; exact hdrew)
  exact this
theorem grown_arr (h : Mem X H U γ S w) {nm : Nat} (hn : U nm) {e : TypeId} {de : TD} {z : Value} {i : TypeInfo} {ud : TypeDesc} (T : TDok P e de i ud z) {l : List (List PV)} (hes : ∀ e ∈ l, e.length = de.sz) {xs : List Value} (hxs : RepPs S w xs l.flatten) (old : Nat) (hle : l.length ≤ 140737488355328) :
    ∃ γ' S', Mem X (upd H nm (some (.arr e de.sz l))) (fun x => U x ∧ x ≠ nm) γ' S' (w.drew.alloc (.cells (xs.toArray ++ Builtin.zeroCells z.cells (grownCap w l.length old e - l.length)) e)) ∧ GOn γ γ' ∧ (∀ b o, S b o → S' b o) ∧ (∀ b o, S b o → (w.drew.alloc (.cells (xs.toArray ++ Builtin.zeroCells z.cells (grownCap w l.length old e - l.length)) e)).cell? ⟨b, o, none⟩ = w.cell? ⟨b, o, none⟩) ∧
      RepV γ' S' (w.drew.alloc (.cells (xs.toArray ++ Builtin.zeroCells z.cells (grownCap w l.length old e - l.length)) e)) (.slice (some ⟨w.heap.size, 0, none⟩) l.length (grownCap w l.length old e)) (.v (.c (.arr nm de.sz l.length))) := by
  have hge := grownCap_ge w l.length old e
  have hcm : grownCap w l.length old e ≤ maxLen := grownCap_le_maxLen w l.length old e (by unfold maxLen; omega)
  have hxl : xs.length = l.length * de.sz := by rw [hxs.1, flat_len hes]
  have hsz : (xs.toArray ++ Builtin.zeroCells z.cells (grownCap w l.length old e - l.length)).size = grownCap w l.length old e * de.sz := by
    simp only [Array.size_append, List.size_toArray, size_zeroCells, T.zsize, hxl, ← Nat.add_mul]
    congr 1; omega
  have hdrew : RepPs S w.drew xs l.flatten := RepPs.mono (w := w) (w' := w.drew) (fun _ _ h => h) (fun _ _ _ => rfl) hxs
  have := newarr h.drew hn e de.sz hes _ (grownCap w l.length old e) hge (by unfold maxLen at hcm; omega) hsz (by
    simp only [Array.toList_append, List.toList_toArray]
    rw [← hxl, List.take_left]; exact hdrew)
  exact this
theorem Mem.nilarr0 (h : Mem X H U γ S w) {nm : Nat} (hn : U nm) (e : TypeId) (es : Nat) : Mem X (upd H nm (some (.arr e es []))) (fun x => U x ∧ x ≠ nm) (upd γ nm (.val (.slice none 0 0))) S w := by
  have hG := GOn.upd_un (h.un nm hn) (.val (.slice none 0 0))
  refine ⟨h.os, h.tape, h.output, h.size, h.frame, h.keep, h.fresh, h.inb, h.mono.trans hG, fun x hx => by rw [upd_ne _ _ hx.2]; exact h.un x hx.1, fun x hx => ?_, fun x o hx => ?_, fun x y hxy b hbx hby => ?_, fun x b hb => ?_⟩
  · by_cases h1 : x = nm
    · subst h1; rw [upd_same] at hx; cases hx
    · rw [upd_ne _ _ h1] at hx ⊢; exact h.off x hx
  · by_cases h1 : x = nm
    · subst h1; rw [upd_same] at hx; cases hx
      exact ⟨_, [], upd_same _ _ _, World.ownsRow_nil w 0 e es, fun i e j p h => by simp at h, fun e h => by simp at h, fun b hb => by cases hb⟩
    · rw [upd_ne _ _ h1] at hx
      exact Obj'.on (h.obj x o hx) (upd_ne _ _ h1) hG (fun _ _ h => h) (fun _ _ _ => rfl) (fun b hb => ⟨rfl, fun _ h => h⟩)
  · by_cases h1 : x = nm
    · subst h1; rw [upd_same] at hbx; cases hbx
    · by_cases h2 : y = nm
      · subst h2; rw [upd_same] at hby; cases hby
      · rw [upd_ne _ _ h1] at hbx; rw [upd_ne _ _ h2] at hby; exact h.dist x y hxy b hbx hby
  · by_cases h1 : x = nm
    · subst h1; rw [upd_same] at hb; cases hb
    · rw [upd_ne _ _ h1] at hb; exact h.live x b hb
def SrcR (S : CS) (w : World) (es : Nat) (l : List (List PV)) (a : Option Addr) : Prop := 0 < l.length → ∃ (ad : Addr) (news : List Value), a = some ad ∧ RepPs S w news l.flatten ∧ (∀ (j : Nat) u, news[j]? = some u → w.cell? (ad.add j) = some u) ∧ (∀ e ∈ l, e.length = es) ∧ news.length = l.length * es
theorem srcOf_rep (h : Mem X H U γ S w) {es : Nat} {y : AV} {b : Value} (hy : RepV γ S w b y) {l' : List (List PV)} {F : List Nat} (hs : srcOf es y H = some (l', F)) : ∃ a' c', b = .slice a' l'.length c' ∧ SrcR S w es l' a' := by
  unfold srcOf at hs
  split at hs
  · rename_i id es' m
    split at hs
    · rename_i e es2 l hH
      split at hs
      · rename_i hc
        obtain ⟨rfl, rfl, rfl⟩ := hc
        simp only [Option.some.injEq, Prod.mk.injEq] at hs
        obtain ⟨rfl, rfl⟩ := hs
        obtain ⟨v0, xs, g1, g2, g3, g5, g4⟩ := h.obj _ _ hH
        obtain ⟨⟨ax, cx, rfl⟩, hxg⟩ := hy
        rcases hxg with hxg | hxg
        · rw [g1] at hxg; cases hxg
        rw [g1] at hxg; cases hxg
        refine ⟨_, _, rfl, fun h0 => ?_⟩
        rcases g2.2 with ⟨k1, k2⟩ | ⟨g, cap, cur, k1, _⟩
        · omega
        · cases k1
          exact ⟨_, xs, rfl, arr_ps g2 g3 g5, g2.cells (g := g) rfl, g5, g2.1⟩
      · cases hs
    · cases hs
  · rename_i id es2' lo n
    split at hs
    · rename_i e es2 l hH
      split at hs
      · rename_i hc
        obtain ⟨rfl, rfl, hc⟩ := hc
        simp only [Option.some.injEq, Prod.mk.injEq] at hs
        obtain ⟨rfl, rfl⟩ := hs
        have hln : ((l.drop lo).take n).length = n := by rw [List.length_take, List.length_drop]; omega
        obtain ⟨v0, xs, g1, g2, g3, g5, g4⟩ := h.obj _ _ hH
        obtain ⟨a, m, c, hxg, a1, hlm, hmc, ha1, rfl⟩ := hy
        rcases hxg with hxg | hxg
        · rw [g1] at hxg; cases hxg
        rw [g1] at hxg; cases hxg
        rw [hln]
        refine ⟨_, _, rfl, fun h0 => ?_⟩
        rw [hln] at h0
        rcases g2.2 with ⟨k1, k2⟩ | ⟨g, cap, cur, k1, _, k3, k4, k5, k6, k7⟩
        · omega
        · injection k1 with q1 q2 q3
          subst q1 q2 q3
          rw [ha1 (.inr h0)]
          have hes : ∀ e ∈ (l.drop lo).take n, e.length = es2 := fun e he => g5 e (List.mem_of_mem_drop (List.mem_of_mem_take he))
          have hx := g2.1
          have hmul : (lo + n) * es2 ≤ l.length * es2 := Nat.mul_le_mul_right _ hc
          rw [Nat.add_mul] at hmul
          have hnl : ((xs.drop (lo * es2)).take (n * es2)).length = n * es2 := by rw [List.length_take, List.length_drop]; omega
          refine ⟨⟨g, lo * es2, none⟩, (xs.drop (lo * es2)).take (n * es2), by simp [addr_add], ⟨by rw [hnl, flat_len hes, hln], fun k p hk => ?_⟩, fun j u hj => ?_, hes, by rw [hnl, hln]⟩
          · obtain ⟨i, j, el, q1, q2, rfl⟩ := flat_decode hes hk
            have hi : i < n := by have := (List.getElem?_eq_some_iff.1 q1).1; omega
            have hel : l[lo + i]? = some el := by
              rw [List.getElem?_take, if_pos hi, List.getElem?_drop] at q1; exact q1
            obtain ⟨u, r1, r2⟩ := g3 (lo + i) el j p hel q2
            refine ⟨u, ?_, r2⟩
            have hj : j < es2 := by have := (List.getElem?_eq_some_iff.1 q2).1; rw [hes el (List.mem_of_getElem? q1)] at this; exact this
            have hij : i * es2 + j < n * es2 := by
              have : (i + 1) * es2 ≤ n * es2 := Nat.mul_le_mul_right _ hi
              rw [Nat.succ_mul] at this; omega
            rw [List.getElem?_take, if_pos hij, List.getElem?_drop, ← Nat.add_assoc, ← Nat.add_mul]; exact r1
          · have := g2.cells (g := g) rfl (lo * es2 + j) u (seg_at hj)
            rw [addr_add, Nat.zero_add] at this
            rw [addr_add]; exact this
      · cases hs
    · cases hs
  · obtain ⟨l0, hl0, hs⟩ := Option.map_eq_some_iff.1 hs
    simp only [Prod.mk.injEq] at hs
    obtain ⟨rfl, rfl⟩ := hs
    obtain ⟨a', c', rfl, hs'⟩ := sl_inv (asSl_rep hy hl0)
    exact ⟨a', c', rfl, fun h0 => SlR.news hs' h0⟩
theorem append_arr (h : Mem X H U γ S w) {id nm : Nat} (hn : U nm) {t e : TypeId} {de : TD} (hu : P.underlying t = some (.slice e)) (hde : td P e = some de) {l : List (List PV)} (hH : H id = some (.arr e de.sz l)) (ty : TypeId) {a : Option Addr} {m c k : Nat} (hx : γ id = .dead ∨ γ id = .val (.slice a m c)) (hk : k ≤ l.length) {l' : List (List PV)} {a' : Option Addr} {c' : Nat} (hs' : SrcR S w de.sz l' a') (hpos : 0 < de.sz) (hby : (k + l'.length) * de.bytes ≤ 140737488355328) (hle : k + l'.length ≤ 140737488355328) :
    Stp X (upd (upd H id none) nm (some (.arr e de.sz (l.take k ++ l')))) (fun x => U x ∧ x ≠ nm) γ S w ((do pure (.value (← Builtin.append_ #[t, t] ty #[.slice a k c, .slice a' l'.length c'])) : Sem Go.Next).run P w) (.v (.c (.arr nm de.sz (k + l'.length)))) := by
  obtain ⟨i', ud', z', T'⟩ := td_ok hde
  obtain ⟨v0, xs1, g1, g2, g3, g5, g4⟩ := h.obj _ _ hH
  have hxg := hx
  rcases hxg with hxg | hxg
  · rw [g1] at hxg; cases hxg
  rw [g1] at hxg; cases hxg
  have hnm := h.un nm hn
  have hml : m = l.length := by
    rcases g2.2 with ⟨k1, k2⟩ | ⟨g, cap, cur, k1, _⟩
    · simp only [Value.slice.injEq] at k1; omega
    · injection k1
  subst hml
  obtain ⟨L, hL⟩ : ∃ L, l.take k = L := ⟨_, rfl⟩
  have hLl : L.length = k := by rw [← hL, List.length_take]; omega
  obtain ⟨xs0, hX0⟩ : ∃ xs0, xs1.take (k * de.sz) = xs0 := ⟨_, rfl⟩
  rw [hL]
  have hmul : k * de.sz ≤ l.length * de.sz := Nat.mul_le_mul_right _ hk
  have hxl : xs0.length = k * de.sz := by rw [← hX0, List.length_take, g2.1]; omega
  have hL5 : ∀ e ∈ L, e.length = de.sz := fun e he => g5 e (List.mem_of_mem_take (by rw [hL]; exact he))
  have hL3 : ∀ i e j p, L[i]? = some e → e[j]? = some p → ∃ u, xs0[i * de.sz + j]? = some u ∧ RepP S w u p := fun i e j p k1 k2 => by
    have hi : i < k := by have := (List.getElem?_eq_some_iff.1 k1).1; omega
    have hj : j < de.sz := by have := (List.getElem?_eq_some_iff.1 k2).1; rw [hL5 e (List.mem_of_getElem? k1)] at this; exact this
    rw [← hL, List.getElem?_take, if_pos hi] at k1
    obtain ⟨u, r1, r2⟩ := g3 i e j p k1 k2
    refine ⟨u, ?_, r2⟩
    have : (i + 1) * de.sz ≤ k * de.sz := Nat.mul_le_mul_right _ hi
    rw [Nat.succ_mul] at this
    rw [← hX0, List.getElem?_take, if_pos (by omega)]; exact r1
  have hxs0 : RepPs S w xs0 L.flatten := by
    refine ⟨by rw [hxl, flat_len hL5, hLl], fun q p hq => ?_⟩
    obtain ⟨i, j, el, q1, q2, rfl⟩ := flat_decode hL5 hq
    exact hL3 i el j p q1 q2
  have hlen2 : (L ++ l').length = k + l'.length := by rw [List.length_append, hLl]
  have hcap : l.length ≤ c := by
    rcases g2.2 with ⟨k1, k2⟩ | ⟨g, cap, cur, k1, _, _, k4, _⟩
    · simp only [Value.slice.injEq] at k1; omega
    · cases k1; exact k4
  rcases Nat.eq_zero_or_pos l'.length with h0 | h0
  · have hl0 : l' = [] := List.length_eq_zero_iff.1 h0
    subst hl0
    have hO : Obj' (upd (upd γ id .dead) nm (.val (.slice a k c))) (fun b q => S b q ∨ ((Value.slice a l.length c).ownBlock = some b ∧ (fun _ : Nat => False) q)) w nm (.arr e de.sz L) := by
      refine ⟨_, xs0, upd_same _ _ _, ⟨by rw [hxl, hLl], ?_⟩, fun i e j p k1 k2 => let ⟨u, k3, k4⟩ := hL3 i e j p k1 k2; ⟨u, k3, k4.mono (fun _ _ h => .inl h) (fun _ _ _ => rfl)⟩, hL5, fun b hb o hs => g4 b (by cases a <;> first | exact hb | cases hb) o (hs.elim (fun h => h) (fun h => h.2.elim))⟩
      rcases g2.2 with ⟨k1, k2⟩ | ⟨g, cap, cur, k1, k2, k3, k4, k5, k6, k7⟩
      · injection k1 with k3 k4 k5
        left
        have : k = 0 := by omega
        subst this k3 k5
        exact ⟨rfl, hLl⟩
      · injection k1 with q1 q2 q3
        subst q1 q3
        right
        refine ⟨g, c, cur, by rw [hLl], k2, k3, by rw [hLl]; omega, k5, k6, ?_⟩
        rw [hLl, ← hX0, ← k7, List.take_take]
        congr 1; omega
    obtain ⟨m1, m2⟩ := h.app hn g1 (v' := .slice a k c) (by cases a <;> rfl) (w' := w) rfl rfl rfl rfl (fun _ _ => rfl) (fun _ _ _ => rfl) (fun _ => False) (.arr e de.sz L) hO
    rw [List.append_nil]
    exact ⟨_, w, _, _, .inl (by simp [run_append0 hu hde a a' k c c' (by omega)]), m1, m2, fun _ _ h => .inl h, fun _ _ _ => rfl, ⟨_, _, rfl⟩, .inr (upd_same _ _ _)⟩
  · obtain ⟨ad, news, rfl, hnews, hcell, hes', hnl⟩ := hs' h0
    have hes2 : ∀ e ∈ L ++ l', e.length = de.sz := fun e he => (List.mem_append.1 he).elim (hL5 e) (hes' e)
    rcases g2.2 with ⟨k1, k2⟩ | ⟨g, cap, cur, k1, _, k3, k4, k5, k6, k7⟩
    · injection k1 with k3 k4 k5
      have hk0 : k = 0 := by omega
      have hl0 : L = [] := List.length_eq_zero_iff.1 (by omega)
      subst k3 k5
      rw [hk0, hl0, List.nil_append, Nat.zero_add]
      rw [hk0] at hby hle
      have hrun := run_append_nil (P := P) w t ty e i' z' hu T'.info T'.zer ad l'.length c' news (by rw [hnl, T'.sz]) hcell h0 (by omega) (by rw [T'.bytes]; simp at hby; omega)
      have mk := h.kill g1
      obtain ⟨γ', S', m1, m2, m3, m4, m5⟩ := grown_arr (P := P) mk hn T' hes' (xs := news) hnews 0 (by omega)
      exact ⟨_, _, γ', S', .inl (by rw [Sem.run_bind, hrun]; rfl), m1, (GOn.kill g1).trans m2, m3, m4, m5⟩
    · injection k1 with q1 q2 q3
      subst q1 q3
      have holds0 : ∀ j u, xs1[j]? = some u → w.cell? ((⟨g, 0, none⟩ : Addr).add j) = some u := g2.cells (g := g) rfl
      have holds : ∀ j u, xs0[j]? = some u → w.cell? ((⟨g, 0, none⟩ : Addr).add j) = some u := fun j u hj => by
        rw [← hX0] at hj
        exact holds0 j u (by rw [List.getElem?_take] at hj; split at hj; exact hj; cases hj)
      have k7' : cur.toList.take (k * de.sz) = xs0 := by rw [← hX0, ← k7, List.take_take]; congr 1; omega
      by_cases hroom : k + l'.length ≤ c
      · have hfit : k * i'.size + news.length ≤ cur.size := by rw [hnl, k6, T'.sz, ← Nat.add_mul]; exact Nat.mul_le_mul_right _ hroom
        have hrun := run_append_room (P := P) w t ty e i' hu T'.info g k c cur k3 ad l'.length c' news (by rw [hnl, T'.sz]) hcell hnews.ones hroom hfit
        rw [T'.sz] at hrun hfit
        have hoth : ∀ q, (Value.slice (some ⟨g, 0, none⟩) l.length c).ownBlock ≠ some q → (w.setRow g (cur.toList.take (k * de.sz) ++ news ++ cur.toList.drop (k * de.sz + news.length)).toArray).heap[q]? = w.heap[q]? := fun q hq => setRow_other w g q _ (fun e => hq (by rw [e]; rfl))
        have hcl : ∀ b q, S b q → (w.setRow g (cur.toList.take (k * de.sz) ++ news ++ cur.toList.drop (k * de.sz + news.length)).toArray).cell? ⟨b, q, none⟩ = w.cell? ⟨b, q, none⟩ := fun b q hs => by
          by_cases hb : b = g
          · subst hb; exact absurd hs (g4 b rfl q)
          · exact World.cell?_of_block (hoth b (fun e => hb (by cases e; rfl)))
        obtain ⟨m1, m2⟩ := h.app hn g1 (v' := .slice (some ⟨g, 0, none⟩) (k + l'.length) c) rfl (w' := w.setRow g (cur.toList.take (k * de.sz) ++ news ++ cur.toList.drop (k * de.sz + news.length)).toArray) rfl rfl rfl (by simp [World.setRow]) hoth hcl (fun _ => False) (.arr e de.sz (L ++ l'))
          ⟨_, xs0 ++ news, upd_same _ _ _, ⟨by rw [List.length_append, hxl, hnl, hlen2, Nat.add_mul], .inr ⟨g, c, _, by rw [hlen2], Nat.zero_le _, setRow_heap w g cur _ e _ k3, by rw [hlen2]; exact hroom, k5, by
              simp only [List.size_toArray, List.length_append, List.length_take, List.length_drop, Array.length_toList]; omega, by
              simp only [List.toList_toArray]
              rw [k7', show (L ++ l').length * de.sz = (xs0 ++ news).length by simp only [List.length_append, hxl, hnl, hLl, Nat.add_mul]]
              exact List.take_left⟩⟩, ps_arr (by rw [List.flatten_append]; exact (hxs0.append hnews).mono (fun _ _ h => .inl h) hcl) hes2, hes2, fun b hb o hs => by
            cases hb
            rcases hs with hs | ⟨_, hs⟩
            · exact g4 g rfl o hs
            · exact hs⟩
        exact ⟨_, _, _, _, .inl (by rw [Sem.run_bind, hrun]; rfl), m1, m2, fun _ _ h => .inl h, hcl, ⟨_, _, rfl⟩, .inr (upd_same _ _ _)⟩
      · have hrun := run_append_grow (P := P) w t ty e i' z' hu T'.info T'.zer ⟨g, 0, none⟩ k c xs0 (by rw [hxl, T'.sz]) holds ad l'.length c' news (by rw [hnl, T'.sz]) hcell (by omega) (by omega) (growslice_fits (by omega) (by rw [T'.bytes]; exact hby))
        have mk := h.kill g1
        obtain ⟨γ', S', m1, m2, m3, m4, m5⟩ := grown_arr (P := P) mk hn T' hes2 (xs := xs0 ++ news) (by rw [List.flatten_append]; exact hxs0.append hnews) c (by rw [hlen2]; exact hle)
        rw [hlen2] at m1 m4 m5
        rw [← List.append_toArray] at m1 m4 m5
        exact ⟨_, _, γ', S', .inl (by rw [Sem.run_bind, hrun]; rfl), m1, (GOn.kill g1).trans m2, m3, m4, m5⟩
theorem vappend_sound (h : Mem X H U γ S w) {nm : Nat} (hn : U nm) {t : TypeId} {d : TD} (hd : td P t = some d) {x y v : AV} {F : List Nat} {W : List (Nat × Option AO)} (hv : vappend P d x y H nm = some (v, F, W)) (ty : TypeId) {a b : Value} (hx : RepV γ S w a x) (hy : RepV γ S w b y) :
    Stp X (W.foldl (fun H p => upd H p.1 p.2) H) (fun x => U x ∧ x ≠ nm) γ S w ((do pure (.value (← Builtin.append_ #[t, t] ty #[a, b])) : Sem Go.Next).run P w) v := by
  obtain ⟨i, ud, z, T⟩ := td_ok hd
  unfold vappend at hv
  split at hv
  · rename_i e htag
    have hu := T.uslice htag
    split at hv
    · rename_i de hde
      obtain ⟨i', ud', z', T'⟩ := td_ok hde
      split at hv
      · rename_i l' F0 hl'
        obtain ⟨a', c', rfl, hs'⟩ := srcOf_rep h hy hl'
        split at hv
        · -- onto a slice of the call's own
          rename_i id es l
          split at hv
          · rename_i e' es' hH
            split at hv
            · rename_i hc
              obtain ⟨rfl, rfl, rfl, hpos, hby, hle⟩ := hc
              simp only [Option.some.injEq, Prod.mk.injEq] at hv
              obtain ⟨rfl, rfl, rfl⟩ := hv
              simp only [List.foldl_cons, List.foldl_nil]
              obtain ⟨hxr, hxg⟩ := hx
              obtain ⟨v0, n0, xs0, g1, g2, g3⟩ := h.obj _ _ hH
              have hav : a = v0 := by
                rcases hxg with hxg | hxg
                · rw [g1] at hxg; cases hxg
                · rw [g1] at hxg; cases hxg; rfl
              subst hav
              have hnm := h.un nm hn
              have hne : id ≠ nm := fun e => by rw [e, hnm] at g1; cases g1
              obtain ⟨a1, c1, rfl, hs1⟩ := sl_inv hxr
              rcases Nat.eq_zero_or_pos l'.length with h0 | h0
              · -- nothing is appended
                have hl0 : l' = [] := List.length_eq_zero_iff.1 h0
                subst hl0
                have hn0 : n0 = l.length := by
                  rcases g2.2 with ⟨k1, k2⟩ | ⟨g, cap, cur, k1, _⟩
                  · injection k1 with _ k3 _; omega
                  · cases k1; rfl
                subst hn0
                obtain ⟨m1, m2⟩ := h.app hn g1 (v' := .slice a1 l.length c1) rfl (w' := w) rfl rfl rfl rfl (fun _ _ => rfl) (fun _ _ _ => rfl) (fun _ => False) (.row e' de.sz) ⟨_, l.length, xs0, upd_same _ _ _, g2, fun b hb o ho hs => g3 b hb o ho (hs.elim (fun h => h) (fun h => h.2.elim))⟩
                refine ⟨_, w, _, _, .inl (by simp [run_append0 hu hde a1 a' l.length c1 c' hs1.cap]), m1, m2, fun _ _ h => .inl h, fun _ _ _ => rfl, ?_, .inr (upd_same _ _ _)⟩
                rw [List.append_nil]
                exact hxr.mono (fun _ _ h => .inl h) (fun _ _ _ => rfl)
              · obtain ⟨ad, news, rfl, hnews, hcell, hes', hnl⟩ := hs' h0
                rcases g2.2 with ⟨k1, k2⟩ | ⟨g, cap, cur, k1, _, k3, k4, k5, k6, k7⟩
                · -- onto nil
                  injection k1 with k3 k4 k5
                  have hl0 : l = [] := List.length_eq_zero_iff.1 k4
                  subst hl0 k3 k5
                  have hrun := run_append_nil (P := P) w t ty e' i' z' hu T'.info T'.zer ad l'.length c' news (by rw [hnl, T'.sz]) hcell h0 (by simp at hle; omega) (by rw [T'.bytes]; simp at hby; omega)
                  have mk := h.kill g1
                  obtain ⟨γ', S', m1, m2, m3, m4, m5⟩ := grown_row (P := P) mk hn T' hes' (xs := news) hnews 0 (by simp at hle; omega)
                  refine ⟨_, _, γ', S', .inl (by rw [Sem.run_bind, show ([] : List (List PV)).length = 0 from rfl, hrun]; rfl), m1, (GOn.kill g1).trans m2, m3, m4, m5⟩
                · cases k1
                  have holds : ∀ j u, xs0[j]? = some u → w.cell? ((⟨g, 0, none⟩ : Addr).add j) = some u := g2.cells (g := g) rfl
                  have hesl : ∀ e ∈ l, e.length = de.sz := by
                    rcases hs1.at' with rfl | ⟨b, off, _, hes, _⟩
                    · simp
                    · exact hes
                  have hxs0 : RepPs S w xs0 l.flatten := by
                    refine ⟨by rw [g2.1, flat_len hesl], fun k p hk => ?_⟩
                    obtain ⟨i, j, e, q1, q2, rfl⟩ := flat_decode hesl hk
                    rcases hs1.at' with rfl | ⟨b, off, hb, _, hc⟩
                    · simp at q1
                    · simp only [Option.some.injEq, Addr.mk.injEq, and_true] at hb
                      obtain ⟨rfl, rfl⟩ := hb
                      obtain ⟨_, u, q3, q4⟩ := hc i e j p q1 q2
                      have hlt : i * de.sz + j < xs0.length := by
                        have := (List.getElem?_eq_some_iff.1 hk).1
                        rwa [flat_len hesl, ← g2.1] at this
                      have q5 := holds (i * de.sz + j) _ (List.getElem?_eq_getElem hlt)
                      rw [addr_add, ← Nat.add_assoc, q3] at q5
                      cases q5
                      exact ⟨_, List.getElem?_eq_getElem hlt, q4⟩
                  have hes2 : ∀ e ∈ l ++ l', e.length = de.sz := fun e he => (List.mem_append.1 he).elim (hesl e) (hes' e)
                  by_cases hroom : l.length + l'.length ≤ c1
                  · -- in place
                    have hfit : l.length * i'.size + news.length ≤ cur.size := by rw [hnl, k6, T'.sz, ← Nat.add_mul]; exact Nat.mul_le_mul_right _ hroom
                    have hrun := run_append_room (P := P) w t ty e' i' hu T'.info g l.length c1 cur k3 ad l'.length c' news (by rw [hnl, T'.sz]) hcell hnews.ones hroom hfit
                    rw [T'.sz] at hrun hfit
                    have hkeep : ∀ k, k < l.length * de.sz → (w.setRow g (cur.toList.take (l.length * de.sz) ++ news ++ cur.toList.drop (l.length * de.sz + news.length)).toArray).cell? ⟨g, k, none⟩ = w.cell? ⟨g, k, none⟩ := fun k hk => by
                      rw [cell_row (setRow_heap w g cur _ e' _ k3), cell_row k3]
                      simp only [List.toList_toArray]
                      rw [List.append_assoc, List.getElem?_append_left (by have h9 : cur.toList.length = c1 * de.sz := k6; have h8 := Nat.mul_le_mul_right de.sz k4; rw [List.length_take]; omega), List.getElem?_take, if_pos hk]
                    have hoth : ∀ k, (Value.slice (some ⟨g, 0, none⟩) l.length c1).ownBlock ≠ some k → (w.setRow g (cur.toList.take (l.length * de.sz) ++ news ++ cur.toList.drop (l.length * de.sz + news.length)).toArray).heap[k]? = w.heap[k]? := fun k hk => setRow_other w g k _ (fun e => hk (by rw [e]; rfl))
                    have hcl : ∀ b k, S b k → (w.setRow g (cur.toList.take (l.length * de.sz) ++ news ++ cur.toList.drop (l.length * de.sz + news.length)).toArray).cell? ⟨b, k, none⟩ = w.cell? ⟨b, k, none⟩ := fun b k hs => by
                      by_cases hb : b = g
                      · subst hb
                        refine hkeep k (Nat.lt_of_not_le (fun hle' => g3 b rfl k hle' hs))
                      · exact World.cell?_of_block (hoth b (fun e => hb (by cases e; rfl)))
                    have hlen2 : (l ++ l').length = l.length + l'.length := List.length_append
                    have hxl2 : xs0.length = l.length * de.sz := g2.1
                    obtain ⟨m1, m2⟩ := h.app hn g1 (v' := .slice (some ⟨g, 0, none⟩) (l.length + l'.length) c1) rfl (w' := w.setRow g (cur.toList.take (l.length * de.sz) ++ news ++ cur.toList.drop (l.length * de.sz + news.length)).toArray) rfl rfl rfl (by simp [World.setRow]) hoth hcl (fun k => k < (l.length + l'.length) * de.sz) (.row e' de.sz)
                      ⟨_, l.length + l'.length, xs0 ++ news, upd_same _ _ _, ⟨by rw [List.length_append, hxl2, hnl, Nat.add_mul], .inr ⟨g, c1, _, rfl, Nat.zero_le _, setRow_heap w g cur _ e' _ k3, hroom, k5, by
                          simp only [List.size_toArray, List.length_append, List.length_take, List.length_drop, Array.length_toList]; omega, by
                          simp only [List.toList_toArray]
                          rw [k7, show (l.length + l'.length) * de.sz = (xs0 ++ news).length by rw [List.length_append, hxl2, hnl, Nat.add_mul]]
                          exact List.take_left⟩⟩, fun b hb o ho hs => by
                        cases hb
                        rcases hs with hs | ⟨_, hs⟩
                        · exact g3 g rfl o (Nat.le_trans (Nat.mul_le_mul_right _ (Nat.le_add_right _ _)) ho) hs
                        · omega⟩
                    refine ⟨_, _, _, _, .inl (by rw [Sem.run_bind, hrun]; rfl), m1, m2, fun _ _ h => .inl h, hcl, ?_, .inr (upd_same _ _ _)⟩
                    rw [← hlen2]
                    refine sl_of_block hes2 (xs := xs0 ++ news) ?_ (by rw [hlen2]; exact hroom) (by unfold maxLen at k5; omega) (fun k u hk => ?_)
                    · rw [List.flatten_append]
                      exact (hxs0.append hnews).mono (fun _ _ h => .inl h) hcl
                    · have hk1 := (List.getElem?_eq_some_iff.1 hk).1
                      rw [List.length_append, hxl2, hnl, ← Nat.add_mul] at hk1
                      refine ⟨.inr ⟨rfl, by rw [hlen2]; exact hk1⟩, ?_⟩
                      rw [cell_row (setRow_heap w g cur _ e' _ k3)]
                      simp only [List.toList_toArray]
                      rw [k7, List.getElem?_append_left (by rw [List.length_append, hxl2, hnl, ← Nat.add_mul]; exact hk1)]
                      exact hk
                  · -- in new memory
                    have hrun := run_append_grow (P := P) w t ty e' i' z' hu T'.info T'.zer ⟨g, 0, none⟩ l.length c1 xs0 (by rw [g2.1, T'.sz]) holds ad l'.length c' news (by rw [hnl, T'.sz]) hcell (by omega) (by omega) (growslice_fits (by omega) (by rw [T'.bytes]; exact hby))
                    have mk := h.kill g1
                    have hlen2 : (l ++ l').length = l.length + l'.length := List.length_append
                    obtain ⟨γ', S', m1, m2, m3, m4, m5⟩ := grown_row (P := P) mk hn T' hes2 (xs := xs0 ++ news) (by rw [List.flatten_append]; exact hxs0.append hnews) c1 (by rw [hlen2]; exact hle)
                    rw [hlen2] at m1 m4 m5
                    rw [← List.append_toArray] at m1 m4 m5
                    refine ⟨_, _, γ', S', .inl (by rw [Sem.run_bind, hrun]; rfl), m1, (GOn.kill g1).trans m2, m3, m4, m5⟩
            · cases hv
          · cases hv
        · -- onto one whose elements may be turned
          rename_i id es m
          split at hv
          · rename_i e' es' l hH
            split at hv
            · rename_i hc
              obtain ⟨rfl, rfl, rfl, rfl, hpos, hby, hle⟩ := hc
              simp only [Option.some.injEq, Prod.mk.injEq] at hv
              obtain ⟨rfl, rfl, rfl⟩ := hv
              simp only [List.foldl_cons, List.foldl_nil]
              obtain ⟨⟨ax, cx, rfl⟩, hxg⟩ := hx
              have key := append_arr h hn hu hde hH ty (k := l.length) hxg (Nat.le_refl _) (c' := c') hs' hpos hby hle
              rw [List.take_length] at key
              exact key
            · cases hv
          · cases hv
        · -- onto the first ones of such a slice
          rename_i id es lo n
          split at hv
          · rename_i e' es' l hH
            split at hv
            · rename_i hc
              obtain ⟨rfl, rfl, rfl, rfl, hnl, hpos, hby, hle⟩ := hc
              simp only [Option.some.injEq, Prod.mk.injEq] at hv
              obtain ⟨rfl, rfl, rfl⟩ := hv
              simp only [List.foldl_cons, List.foldl_nil]
              obtain ⟨ax, m, cx, hxg, a1, _, _, ha1, rfl⟩ := hx
              have e1 : a1 = ax := by
                have hax : ∀ q : Addr, q.add 0 = q := fun q => by unfold Addr.add; split <;> simp_all
                rw [ha1 (.inl rfl)]
                cases ax <;> simp [hax]
              rw [e1, Nat.sub_zero]
              exact append_arr h hn hu hde hH ty hxg hnl hs' hpos hby hle
            · cases hv
          · cases hv
        · -- onto nil
          split at hv
          · rename_i hc
            obtain ⟨hpos, hby, hle⟩ := hc
            split at hv
            rotate_left
            · simp only [Option.some.injEq, Prod.mk.injEq] at hv
              obtain ⟨rfl, rfl, rfl⟩ := hv
              simp only [List.foldl_cons, List.foldl_nil]
              obtain rfl := nilS_inv hx
              rcases Nat.eq_zero_or_pos l'.length with h0 | h0
              · have hl0 : l' = [] := List.length_eq_zero_iff.1 h0
                subst hl0
                have hG := GOn.upd_un (h.un nm hn) (.val (.slice none 0 0))
                have m := h.nilarr0 hn e de.sz
                exact ⟨.slice none 0 0, w, _, S, .inl (by rw [Sem.run_bind, show ([] : List (List PV)).length = 0 from rfl, run_append0 hu hde none a' 0 0 c' (Nat.le_refl _)]; rfl), m, hG, fun _ _ h => h, fun _ _ _ => rfl, ⟨_, _, rfl⟩, .inr (upd_same _ _ _)⟩
              · obtain ⟨ad, news, rfl, hnews, hcell, hes', hnl⟩ := hs' h0
                have hrun := run_append_nil (P := P) w t ty e i' z' hu T'.info T'.zer ad l'.length c' news (by rw [hnl, T'.sz]) hcell h0 (by omega) (by rw [T'.bytes]; omega)
                obtain ⟨γ', S', m1, m2, m3, m4, m5⟩ := grown_arr (P := P) h hn T' hes' (xs := news) hnews 0 hle
                exact ⟨_, _, γ', S', .inl (by rw [Sem.run_bind, hrun]; rfl), m1, m2, m3, m4, m5⟩
            simp only [Option.some.injEq, Prod.mk.injEq] at hv
            obtain ⟨rfl, rfl, rfl⟩ := hv
            simp only [List.foldl_cons, List.foldl_nil]
            obtain rfl := nilS_inv hx
            rcases Nat.eq_zero_or_pos l'.length with h0 | h0
            · have hl0 : l' = [] := List.length_eq_zero_iff.1 h0
              subst hl0
              have hG := GOn.upd_un (h.un nm hn) (.val (.slice none 0 0))
              have hm : Mem X (upd H nm (some (.row e de.sz))) (fun x => U x ∧ x ≠ nm) (upd γ nm (.val (.slice none 0 0))) S w := by
                refine ⟨h.os, h.tape, h.output, h.size, h.frame, h.keep, h.fresh, h.inb, h.mono.trans hG, fun x hx => by rw [upd_ne _ _ hx.2]; exact h.un x hx.1, fun x hx => ?_, fun x o hx => ?_, fun x y hxy b hbx hby => ?_, fun x b hb => ?_⟩
                · by_cases h1 : x = nm
                  · subst h1; rw [upd_same] at hx; cases hx
                  · rw [upd_ne _ _ h1] at hx ⊢; exact h.off x hx
                · by_cases h1 : x = nm
                  · subst h1; rw [upd_same] at hx; cases hx
                    exact ⟨_, 0, [], upd_same _ _ _, World.ownsRow_nil w 0 e de.sz, fun b hb => by cases hb⟩
                  · rw [upd_ne _ _ h1] at hx
                    exact Obj'.on (h.obj x o hx) (upd_ne _ _ h1) hG (fun _ _ h => h) (fun _ _ _ => rfl) (fun b hb => ⟨rfl, fun _ h => h⟩)
                · by_cases h1 : x = nm
                  · subst h1; rw [upd_same] at hbx; cases hbx
                  · by_cases h2 : y = nm
                    · subst h2; rw [upd_same] at hby; cases hby
                    · rw [upd_ne _ _ h1] at hbx; rw [upd_ne _ _ h2] at hby; exact h.dist x y hxy b hbx hby
                · by_cases h1 : x = nm
                  · subst h1; rw [upd_same] at hb; cases hb
                  · rw [upd_ne _ _ h1] at hb; exact h.live x b hb
              exact ⟨.slice none 0 0, w, _, S, .inl (by rw [Sem.run_bind, show ([] : List (List PV)).length = 0 from rfl, run_append0 hu hde none a' 0 0 c' (Nat.le_refl _)]; rfl), hm, hG, fun _ _ h => h, fun _ _ _ => rfl, .emp none 0 _ (by decide) (fun _ => rfl), .inr (upd_same _ _ _)⟩
            · obtain ⟨ad, news, rfl, hnews, hcell, hes', hnl⟩ := hs' h0
              have hrun := run_append_nil (P := P) w t ty e i' z' hu T'.info T'.zer ad l'.length c' news (by rw [hnl, T'.sz]) hcell h0 (by omega) (by rw [T'.bytes]; omega)
              obtain ⟨γ', S', m1, m2, m3, m4, m5⟩ := grown_row (P := P) h hn T' hes' (xs := news) hnews 0 hle
              exact ⟨_, _, γ', S', .inl (by rw [Sem.run_bind, hrun]; rfl), m1, m2, m3, m4, m5⟩
          · cases hv
        · -- onto one with no room
          split at hv
          · rename_i es l hc
            obtain ⟨rfl, hpos, h0, hby, hle⟩ := hc
            simp only [Option.some.injEq, Prod.mk.injEq] at hv
            obtain ⟨rfl, rfl, rfl⟩ := hv
            simp only [List.foldl_cons, List.foldl_nil]
            obtain ⟨hxr, aa, nn, hva⟩ := hx
            obtain ⟨a1, c1, rfl, hs1⟩ := sl_inv hxr
            simp only [Value.slice.injEq] at hva
            obtain ⟨rfl, rfl, rfl⟩ := hva
            obtain ⟨ad, news, rfl, hnews, hcell, hes', hnl⟩ := hs' h0
            have hlen2 : (l ++ l').length = l.length + l'.length := List.length_append
            rcases Nat.eq_zero_or_pos l.length with hl0 | hl0
            · have hln : l = [] := List.length_eq_zero_iff.1 hl0
              subst hln
              cases a1 with
              | none =>
                have hrun := run_append_nil (P := P) w t ty e i' z' hu T'.info T'.zer ad l'.length c' news (by rw [hnl, T'.sz]) hcell h0 (by simp at hle; omega) (by rw [T'.bytes]; simp at hby; omega)
                obtain ⟨γ', S', m1, m2, m3, m4, m5⟩ := grown_row (P := P) h hn T' hes' (xs := news) hnews 0 (by simp at hle; omega)
                exact ⟨_, _, γ', S', .inl (by rw [Sem.run_bind, show ([] : List (List PV)).length = 0 from rfl, hrun]; rfl), m1, m2, m3, m4, m5⟩
              | some b0 =>
                have hrun := run_append_grow (P := P) w t ty e i' z' hu T'.info T'.zer b0 0 0 [] (by simp) (by simp) ad l'.length c' news (by rw [hnl, T'.sz]) hcell (by omega) (by simp at hle; omega) (growslice_fits (by omega) (by rw [T'.bytes]; simpa using hby))
                obtain ⟨γ', S', m1, m2, m3, m4, m5⟩ := grown_row (P := P) h hn T' hes' (xs := news) hnews 0 (by simp at hle; omega)
                refine ⟨_, _, γ', S', .inl ?_, m1, m2, m3, m4, m5⟩
                rw [Sem.run_bind, show ([] : List (List PV)).length = 0 from rfl, hrun]
                simp
            · obtain ⟨ad1, olds, rfl, holds, hcell1, hes1, hol⟩ := hs1.news hl0
              have hrun := run_append_grow (P := P) w t ty e i' z' hu T'.info T'.zer ad1 l.length l.length olds (by rw [hol, T'.sz]) hcell1 ad l'.length c' news (by rw [hnl, T'.sz]) hcell (by omega) (by omega) (growslice_fits (by omega) (by rw [T'.bytes]; exact hby))
              have hes2 : ∀ e ∈ l ++ l', e.length = de.sz := fun e he => (List.mem_append.1 he).elim (hes1 e) (hes' e)
              obtain ⟨γ', S', m1, m2, m3, m4, m5⟩ := grown_row (P := P) h hn T' hes2 (xs := olds ++ news) (by rw [List.flatten_append]; exact holds.append hnews) l.length (by rw [hlen2]; exact hle)
              rw [hlen2] at m1 m4 m5
              rw [← List.append_toArray] at m1 m4 m5
              exact ⟨_, _, γ', S', .inl (by rw [Sem.run_bind, hrun]; rfl), m1, m2, m3, m4, m5⟩
          · cases hv
        · cases hv
      · cases hv
    · cases hv
  · cases hv
def bL (s : ByteArray) : List (List PV) := (Lib.strCells s).map fun v => [.lit v]
theorem bL_len (s : ByteArray) : (bL s).length = s.size := by unfold bL; rw [List.length_map, Lib.strCells_length]
theorem bL_es (s : ByteArray) : ∀ e ∈ bL s, e.length = 1 := fun e he => by
  obtain ⟨v, _, rfl⟩ := List.mem_map.1 he; rfl
theorem bL_flat (s : ByteArray) : (bL s).flatten = (Lib.strCells s).map .lit := by
  unfold bL
  induction Lib.strCells s with
  | nil => rfl
  | cons v l ih => simp [ih]
theorem strCells_plain {s : ByteArray} {v : Value} (h : v ∈ Lib.strCells s) : plain v = true := by
  unfold Lib.strCells at h
  obtain ⟨b, _, rfl⟩ := List.mem_map.1 h; rfl
theorem bL_ps (S : CS) (w : World) (s : ByteArray) : RepPs S w (Lib.strCells s) (bL s).flatten := by
  rw [bL_flat]
  refine ⟨by rw [List.length_map], fun i c hc => ?_⟩
  rw [List.getElem?_map] at hc
  obtain ⟨v, hv, rfl⟩ := Option.map_eq_some_iff.1 hc
  exact ⟨v, hv, RepP.lit v (strCells_plain (List.mem_of_getElem? hv))⟩
def vappendS (P : Program) (d d' : TD) (x y : AV) (H : Nat → Option AO) (nm : Nat) : Option (AV × List Nat × List (Nat × Option AO)) :=
  match d.tag, d'.tag, x, y with
  | .slice e, .string, .v (.c (.row id es l)), .v (.c (.pv (.lit (.string s)))) =>
    match td P e, H id with
    | some de, some (.row e' es') => if e' = e ∧ es' = 1 ∧ es = 1 ∧ de.sz = 1 ∧ de.bytes = 1 ∧ l.length + s.size ≤ 140737488355328 then some (.v (.c (.row nm 1 (l ++ bL s))), [id], [(id, none), (nm, some (.row e 1))]) else none
    | _, _ => none
  | _, _, _, _ => none
theorem run_append0S {t t' ty e : TypeId} {de : TD} (ht : P.underlying t = some (.slice e)) (ht' : P.underlying t' = some .string) (hde : td P e = some de) (a : Option Addr) (n c : Nat) (h : n ≤ c) {s : ByteArray} (hs : s.size = 0) : (Builtin.append_ #[t, t'] ty #[.slice a n c, .string s]).run P w = .ok (.slice a n c) w := by
  obtain ⟨i, ud, z, T⟩ := td_ok hde
  have hd : s.data = #[] := Array.eq_empty_of_size_eq_zero hs
  cases a <;> simp [Builtin.append_, run_underlying ht, run_underlying ht', T.sizeOf, Builtin.lenOf, hs, h, Builtin.firstCells, storeCells, hd]
set_option maxHeartbeats 1000000 in
theorem vappendS_sound (h : Mem X H U γ S w) {nm : Nat} (hn : U nm) {t t' : TypeId} {d d' : TD} (hd : td P t = some d) (hd' : td P t' = some d') {x y v : AV} {F : List Nat} {W : List (Nat × Option AO)} (hv : vappendS P d d' x y H nm = some (v, F, W)) (ty : TypeId) {a b : Value} (hx : RepV γ S w a x) (hy : RepV γ S w b y) :
    Stp X (W.foldl (fun H p => upd H p.1 p.2) H) (fun x => U x ∧ x ≠ nm) γ S w ((do pure (.value (← Builtin.append_ #[t, t'] ty #[a, b])) : Sem Go.Next).run P w) v := by
  obtain ⟨i, ud, z, T⟩ := td_ok hd
  obtain ⟨i1, ud1, z1, T1⟩ := td_ok hd'
  unfold vappendS at hv
  split at hv
  · rename_i e id es l s htag htag'
    have hu := T.uslice htag
    have hu' := T1.ustring htag'
    split at hv
    · rename_i de e' es' hde hH
      obtain ⟨i', ud', z', T'⟩ := td_ok hde
      split at hv
      · rename_i hc
        obtain ⟨rfl, rfl, rfl, hsz, hby, hle⟩ := hc
        simp only [Option.some.injEq, Prod.mk.injEq] at hv
        obtain ⟨rfl, rfl, rfl⟩ := hv
        simp only [List.foldl_cons, List.foldl_nil]
        obtain ⟨rfl, _⟩ := lit_inv hy
        obtain ⟨hxr, hxg⟩ := hx
        obtain ⟨v0, n0, xs0, g1, g2, g3⟩ := h.obj _ _ hH
        have hav : a = v0 := by
          rcases hxg with hxg | hxg
          · rw [g1] at hxg; cases hxg
          · rw [g1] at hxg; cases hxg; rfl
        subst hav
        have hnm := h.un nm hn
        have hne : id ≠ nm := fun e => by rw [e, hnm] at g1; cases g1
        obtain ⟨a1, c1, rfl, hs1⟩ := sl_inv hxr
        rcases Nat.eq_zero_or_pos s.size with h0 | h0
        · have hn0 : n0 = l.length := by
            rcases g2.2 with ⟨k1, k2⟩ | ⟨g, cap, cur, k1, _⟩
            · injection k1 with _ k3 _; omega
            · cases k1; rfl
          subst hn0
          obtain ⟨m1, m2⟩ := h.app hn g1 (v' := .slice a1 l.length c1) rfl (w' := w) rfl rfl rfl rfl (fun _ _ => rfl) (fun _ _ _ => rfl) (fun _ => False) (.row e' 1) ⟨_, l.length, xs0, upd_same _ _ _, g2, fun b hb o ho hs => g3 b hb o ho (hs.elim (fun h => h) (fun h => h.2.elim))⟩
          refine ⟨_, w, _, _, .inl (by simp [run_append0S hu hu' hde a1 l.length c1 hs1.cap h0]), m1, m2, fun _ _ h => .inl h, fun _ _ _ => rfl, ?_, .inr (upd_same _ _ _)⟩
          rw [show bL s = [] from List.eq_nil_of_length_eq_zero (by rw [bL_len]; exact h0), List.append_nil]
          exact hxr.mono (fun _ _ h => .inl h) (fun _ _ _ => rfl)
        · have hnews := bL_ps S w s
          have hnl : (Lib.strCells s).length = s.size := Lib.strCells_length s
          have hbl := bL_len s
          rcases g2.2 with ⟨k1, k2⟩ | ⟨g, cap, cur, k1, _, k3, k4, k5, k6, k7⟩
          · -- onto nil
            injection k1 with k3 k4 k5
            have hl0 : l = [] := List.length_eq_zero_iff.1 k4
            subst hl0 k3 k5
            have hrun := run_append_nil_string (P := P) w t t' ty e' i' z' hu hu' T'.info T'.zer s h0 (by simp at hle; omega) (by rw [T'.bytes, hby]; simp at hle; omega)
            have mk := h.kill g1
            obtain ⟨γ', S', m1, m2, m3, m4, m5⟩ := grown_row (P := P) mk hn T' (l := bL s) (by rw [hsz]; exact bL_es s) (xs := Lib.strCells s) hnews 0 (by rw [hbl]; simp at hle; omega)
            rw [hsz] at m1 m5
            rw [hbl] at m1 m4 m5
            have e1 : (s.data.map fun b => Value.int .u8 b.toNat) = (Lib.strCells s).toArray := by
              apply Array.ext'; simp [Lib.strCells]
            rw [e1] at hrun
            refine ⟨_, _, γ', S', .inl (by rw [Sem.run_bind, show ([] : List (List PV)).length = 0 from rfl, hrun]; rfl), m1, (GOn.kill g1).trans m2, m3, m4, ?_⟩
            rw [List.nil_append]; exact m5
          · cases k1
            have holds : ∀ j u, xs0[j]? = some u → w.cell? ((⟨g, 0, none⟩ : Addr).add j) = some u := g2.cells (g := g) rfl
            have hesl : ∀ e ∈ l, e.length = 1 := by
              rcases hs1.at' with rfl | ⟨b, off, _, hes, _⟩
              · simp
              · exact hes
            have hxs0 : RepPs S w xs0 l.flatten := by
              refine ⟨by rw [g2.1, flat_len hesl], fun k p hk => ?_⟩
              obtain ⟨i, j, e, q1, q2, rfl⟩ := flat_decode hesl hk
              rcases hs1.at' with rfl | ⟨b, off, hb, _, hc⟩
              · simp at q1
              · simp only [Option.some.injEq, Addr.mk.injEq, and_true] at hb
                obtain ⟨rfl, rfl⟩ := hb
                obtain ⟨_, u, q3, q4⟩ := hc i e j p q1 q2
                have hlt : i * 1 + j < xs0.length := by
                  have := (List.getElem?_eq_some_iff.1 hk).1
                  rwa [flat_len hesl, ← g2.1] at this
                have q5 := holds (i * 1 + j) _ (List.getElem?_eq_getElem hlt)
                rw [addr_add, ← Nat.add_assoc, q3] at q5
                cases q5
                exact ⟨_, List.getElem?_eq_getElem hlt, q4⟩
            have hes2 : ∀ e ∈ l ++ bL s, e.length = 1 := fun e he => (List.mem_append.1 he).elim (hesl e) (bL_es s e)
            have hlen2 : (l ++ bL s).length = l.length + s.size := by rw [List.length_append, hbl]
            have hxl2 : xs0.length = l.length := by rw [g2.1, Nat.mul_one]
            by_cases hroom : l.length + s.size ≤ c1
            · -- in place
              have hfit : l.length + s.size ≤ cur.size := by omega
              have hrun := Lib.run_append_room_string (P := P) w t t' ty e' i' hu hu' T'.info (by rw [T'.sz, hsz]) g l.length c1 cur k3 s hroom hfit
              have hkeep : ∀ k, k < l.length * 1 → (w.setRow g (cur.toList.take l.length ++ Lib.strCells s ++ cur.toList.drop (l.length + s.size)).toArray).cell? ⟨g, k, none⟩ = w.cell? ⟨g, k, none⟩ := fun k hk => by
                rw [cell_row (setRow_heap w g cur _ e' _ k3), cell_row k3]
                simp only [List.toList_toArray]
                rw [List.append_assoc, List.getElem?_append_left (by have h9 : cur.toList.length = c1 * 1 := k6; rw [List.length_take]; omega), List.getElem?_take, if_pos (by omega)]
              have hoth : ∀ k, (Value.slice (some ⟨g, 0, none⟩) l.length c1).ownBlock ≠ some k → (w.setRow g (cur.toList.take l.length ++ Lib.strCells s ++ cur.toList.drop (l.length + s.size)).toArray).heap[k]? = w.heap[k]? := fun k hk => setRow_other w g k _ (fun e => hk (by rw [e]; rfl))
              have hcl : ∀ b k, S b k → (w.setRow g (cur.toList.take l.length ++ Lib.strCells s ++ cur.toList.drop (l.length + s.size)).toArray).cell? ⟨b, k, none⟩ = w.cell? ⟨b, k, none⟩ := fun b k hs => by
                by_cases hb : b = g
                · subst hb
                  refine hkeep k (Nat.lt_of_not_le (fun hle' => g3 b rfl k hle' hs))
                · exact World.cell?_of_block (hoth b (fun e => hb (by cases e; rfl)))
              have hk7 : cur.toList.take l.length = xs0 := by rw [← k7, Nat.mul_one]
              obtain ⟨m1, m2⟩ := h.app hn g1 (v' := .slice (some ⟨g, 0, none⟩) (l.length + s.size) c1) rfl (w' := w.setRow g (cur.toList.take l.length ++ Lib.strCells s ++ cur.toList.drop (l.length + s.size)).toArray) rfl rfl rfl (by simp [World.setRow]) hoth hcl (fun k => k < (l.length + s.size) * 1) (.row e' 1)
                ⟨_, l.length + s.size, xs0 ++ Lib.strCells s, upd_same _ _ _, ⟨by rw [List.length_append, hxl2, hnl, Nat.mul_one], .inr ⟨g, c1, _, rfl, Nat.zero_le _, setRow_heap w g cur _ e' _ k3, hroom, k5, by
                    simp only [List.size_toArray, List.length_append, List.length_take, List.length_drop, Array.length_toList, hnl]; omega, by
                    simp only [List.toList_toArray]
                    rw [hk7, show (l.length + s.size) * 1 = (xs0 ++ Lib.strCells s).length by rw [List.length_append, hxl2, hnl, Nat.mul_one]]
                    exact List.take_left⟩⟩, fun b hb o ho hs => by
                  cases hb
                  rcases hs with hs | ⟨_, hs⟩
                  · exact g3 g rfl o (by omega) hs
                  · omega⟩
              refine ⟨_, _, _, _, .inl (by rw [Sem.run_bind, hrun]; rfl), m1, m2, fun _ _ h => .inl h, hcl, ?_, .inr (upd_same _ _ _)⟩
              have key : RepP (fun b k => S b k ∨ ((Value.slice (some ⟨g, 0, none⟩) l.length c1).ownBlock = some b ∧ k < (l.length + s.size) * 1)) (w.setRow g (cur.toList.take l.length ++ Lib.strCells s ++ cur.toList.drop (l.length + s.size)).toArray) (.slice (some ⟨g, 0, none⟩) (l ++ bL s).length c1) (.sl 1 (l ++ bL s)) := by
                refine sl_of_block hes2 (xs := xs0 ++ Lib.strCells s) ?_ (by rw [hlen2]; exact hroom) (by unfold maxLen at k5; omega) (fun k u hk => ?_)
                · rw [List.flatten_append]
                  exact (hxs0.append hnews).mono (fun _ _ h => .inl h) hcl
                · have hk1 := (List.getElem?_eq_some_iff.1 hk).1
                  rw [List.length_append, hxl2, hnl] at hk1
                  refine ⟨.inr ⟨rfl, by omega⟩, ?_⟩
                  rw [cell_row (setRow_heap w g cur _ e' _ k3)]
                  simp only [List.toList_toArray]
                  rw [hk7, List.getElem?_append_left (by rw [List.length_append, hxl2, hnl]; exact hk1)]
                  exact hk
              rw [hlen2] at key
              exact key
            · -- in new memory
              have hrun := Lib.run_append_grow_string (P := P) w t t' ty e' i' z' hu hu' T'.info T'.zer ⟨g, 0, none⟩ l.length c1 xs0 (by rw [g2.1, T'.sz, hsz]) holds s (by omega) (by omega) (growslice_fits (by omega) (by rw [T'.bytes, hby]; omega))
              have mk := h.kill g1
              obtain ⟨γ', S', m1, m2, m3, m4, m5⟩ := grown_row (P := P) mk hn T' (l := l ++ bL s) (by rw [hsz]; exact hes2) (xs := xs0 ++ Lib.strCells s) (by rw [List.flatten_append]; exact hxs0.append hnews) c1 (by rw [hlen2]; exact hle)
              rw [hsz] at m1 m5
              rw [hlen2] at m1 m4 m5
              rw [← List.append_toArray] at m1 m4 m5
              refine ⟨_, _, γ', S', .inl (by rw [Sem.run_bind, hrun]; rfl), m1, (GOn.kill g1).trans m2, m3, m4, m5⟩
      · cases hv
    · cases hv
  · cases hv
end
end Go.Proofs.Ytcjagcfjpfjanaa.am
namespace Go.Proofs.Ytcjagcfjpfjanaa.am
open Go.ChangeShapes Go.WideShapes Go.ChangeAt Go.RowKit
set_option linter.unusedVariables false
set_option linter.unusedSimpArgs false
def vun (op : UnOp) (x : AV) : Option AV :=
  match op, x with
  | .not, .v (.c (.pv (.lit (.bool b)))) => some (.v (.c (.pv (.lit (.bool (!b))))))
  | .not, .v (.c .flag) => some (.v (.c .flag))
  | .neg, .v (.c (.pv (.lit (.int k n)))) => some (.v (.c (.pv (.lit (.int k (k.wrap (0 - n)))))))
  | _, _ => none
def unbL : List (List PV) → Option (List UInt8)
  | [] => some []
  | [.lit (.int .u8 z)] :: r => if 0 ≤ z ∧ z < 256 then (unbL r).map (UInt8.ofNat z.toNat :: ·) else none
  | _ => none
def vconv (P : Program) (src dst : TypeId) (x : AV) : Option AV :=
  match td P src, td P dst, x with
  | some _, some d, .v (.c (.pv (.lit (.int _ n)))) => (match d.tag with | .int k => some (.v (.c (.pv (.lit (.int k (k.wrap n)))))) | _ => none)
  | some s, some d, .v (.c (.pv (.lit (.string b)))) => (match s.tag, d.tag with | .string, .string => some (.v (.c (.pv (.lit (.string b))))) | _, _ => none)
  | some s, some d, x => (match s.tag, d.tag with
    | .slice e, .string => (match td P e with
      | some de => (match de.tag with
        | .int .u8 => (match (asSl 1 x).bind unbL with | some bs => some (.v (.c (.pv (.lit (.string ⟨bs.toArray⟩))))) | none => none)
        | _ => none)
      | none => none)
    | _, _ => none)
  | _, _, _ => none
def capOf : AV → Option Cap
  | .v (.c (.ptr id off)) => some (.ptr id off)
  | .v (.c (.pv p)) => some (.pv p)
  | .v (.c (.row _ es l)) => some (.pv (.sl es l))
  | .v (.c (.cut es l)) => some (.pv (.sl es l))
  | _ => none
def vnil : AV → Option AV
  | .v (.c (.ptr id off)) => some (.v (.c (.ptr id off)))
  | .rp c o => some (.rp c o)
  | .ep id es i o => some (.ep id es i o)
  | _ => none
def vext (x : AV) (i : Nat) : Option AV :=
  match x with
  | .tup l => (l[i]?).map .v
  | _ => none
def vmin (b : Bool) : List AV → Option AV
  | [.v (.c (.pv (.lit (.int k x)))), .v (.c (.pv (.lit (.int _ y))))] => some (.v (.c (.pv (.lit (.int k (if b = true then (if y < x then y else x) else (if x < y then y else x)))))))
  | _ => none
def vstore (P : Program) (t : TypeId) (a x : AV) (H : Nat → Option AO) : Option (AV × List Nat × List (Nat × Option AO)) :=
  match a, x, td P t with
  | .v (.c (.ptr id off)), .v x, some d =>
    match H id with
    | some (.box cells) => if (cellsT x).length = d.sz ∧ off + d.sz ≤ cells.length then some (.top, [id], [(id, some (.box (setSeg cells off (cellsT x))))]) else none
    | some (.bld t' _) => match x with
      | .c y => if off = 1 ∧ d.sz = 1 then some (.top, [id], [(id, some (.bld t' y))]) else none
      | _ => none
    | _ => none
  | .ep id es i off, .v x, some d =>
    match H id with
    | some (.arr e es' l) =>
      match (if es = es' then l[i]? else none), pureT x with
      | some el, some ps => if ps.length = d.sz ∧ off + d.sz ≤ el.length then some (.top, [id], [(id, some (.arr e es' (l.set i (setSeg el off ps))))]) else none
      | _, _ => none
    | _ => none
  | _, _, _ => none
def vidx (P : Program) (d : TD) (x : AV) (n : Int) (H : Nat → Option AO) : Option (AV × List Nat × List (Nat × Option AO)) :=
  match x with
  | .v (.c (.arr id es m)) =>
    match H id with
    | some (.arr _ es' l) => if es' = es ∧ m = l.length then (vindexAddr P d x n).map fun v => (v, [id], []) else none
    | _ => none
  | .v (.c (.vw id es lo m)) =>
    match H id, d.tag with
    | some (.arr _ es' l), .slice e => match td P e with
      | some de => if es' = es ∧ es = de.sz ∧ lo + m ≤ l.length ∧ 0 ≤ n ∧ n < m then some (.ep id es (lo + n.toNat) 0, [id], []) else none
      | none => none
    | _, _ => none
  | _ => (vindexAddr P d x n).map fun v => (v, [], [])
def vsl (P : Program) (d : TD) (x : AV) (lo hi mx : Option AV) (H : Nat → Option AO) (nm : Nat) : Option (AV × List Nat × List (Nat × Option AO)) :=
  match x with
  | .v (.c (.arr id es m)) =>
    match d.tag, H id, mx, bnd lo 0, bnd hi (m : Int) with
    | .slice e, some (.arr _ es' l), none, some p, some q => match td P e with
      | some de => if es' = de.sz ∧ es = de.sz ∧ m = l.length ∧ 0 ≤ p ∧ p ≤ q ∧ q ≤ m then some (.v (.c (.vw id es p.toNat (q.toNat - p.toNat))), [id], []) else none
      | none => none
    | _, _, _, _, _ => none
  | .v (.c (.vw id es lo0 m)) =>
    match d.tag, mx, bnd lo 0, bnd hi (m : Int) with
    | .slice e, none, some p, some q => match td P e with
      | some de => if es = de.sz ∧ 0 ≤ p ∧ p ≤ q ∧ q ≤ m then some (.v (.c (.vw id es (lo0 + p.toNat) (q.toNat - p.toNat))), [], []) else none
      | none => none
    | _, _, _, _ => none
  | _ => (vslice P d x lo hi mx).map fun v => (v, [], [])
def vcopy (P : Program) (d : TD) (x y : AV) (H : Nat → Option AO) : Option (AV × List Nat × List (Nat × Option AO)) :=
  match d.tag with
  | .slice e =>
    match td P e with
    | some de =>
      match srcOf de.sz y H with
      | some (l', F0) =>
        match x with
        | .v (.c (.arr id es m)) =>
          match H id with
          | some (.arr e' es' l) => if e' = e ∧ de.sz = 1 ∧ es = 1 ∧ es' = 1 ∧ m = l.length then some (.v (.c (.pv (.lit (.int .i64 (min l'.length m : Nat))))), id :: F0, [(id, some (.arr e' 1 (setSeg l 0 (l'.take m))))]) else none
          | _ => none
        | .v (.c (.vw id es lo m)) =>
          match H id with
          | some (.arr e' es' l) => if e' = e ∧ de.sz = 1 ∧ es = 1 ∧ es' = 1 ∧ lo + m ≤ l.length then some (.v (.c (.pv (.lit (.int .i64 (min l'.length m : Nat))))), id :: F0, [(id, some (.arr e' 1 (setSeg l lo (l'.take m))))]) else none
          | _ => none
        | _ => none
      | none => none
    | none => none
  | _ => none
def vmake (P : Program) (d : TD) (n c : Int) (nm : Nat) : Option (AV × List Nat × List (Nat × Option AO)) :=
  match d.tag with
  | .slice e =>
    match td P e with
    | some de => if n = c ∧ 0 ≤ n ∧ 0 < de.sz ∧ n * de.bytes ≤ 140737488355328 ∧ n ≤ 140737488355328 then some (.v (.c (.arr nm de.sz n.toNat)), [], [(nm, some (.arr e de.sz (List.replicate n.toNat de.zero)))]) else none
    | none => none
  | _ => none
def vbuiltin (P : Program) (b : Builtin) (ts : List TypeId) (xs : List AV) (H : Nat → Option AO) (nm : Nat) : Option (AV × List Nat × List (Nat × Option AO)) :=
  match b, ts, xs with
  | .len, [t], [x] => (td P t).bind fun d => (vlen d x).map fun v => (v, [], [])
  | .append, [t, t'], [x, y] => if t = t' then (td P t).bind fun d => vappend P d x y H nm else (td P t).bind fun d => (td P t').bind fun d' => vappendS P d d' x y H nm
  | .copy, [t, t'], [x, y] => if t = t' then (td P t).bind fun d => vcopy P d x y H else none
  | .min, _, xs => (vmin true xs).map fun v => (v, [], [])
  | .max, _, xs => (vmin false xs).map fun v => (v, [], [])
  | _, _, _ => none
def keyEq : Value → Value → Bool
  | .int _ a, .int _ b => a == b
  | .string a, .string b => decide (a = b)
  | _, _ => false
def mlook : List (Value × PT) → Value → Option PT
  | [], _ => none
  | p :: l, k => if keyEq k p.1 = true then some p.2 else mlook l k
def mput : List (Value × PT) → Value → PT → List (Value × PT)
  | [], k, x => [(k, x)]
  | p :: l, k, x => if keyEq k p.1 = true then (k, x) :: l else p :: mput l k x
def keyKind : Tag → Option (Option IntKind)
  | .string => some none
  | .int k => some (some k)
  | _ => none
def asKey : AV → Option Value
  | .v (.c (.pv (.lit k))) => some k
  | _ => none
def ptOf : AT → Option PT
  | .c y => (pureC y).map .c
  | .agg l => (l.mapM pureC).map .agg
def zeroT (d : TD) : Option PT :=
  if d.agg = true then some (.agg d.zero) else match d.zero with
    | [p] => some (.c p)
    | _ => none
def vlookup (P : Program) (d : TD) (x k : AV) (ok : Bool) (H : Nat → Option AO) : Option (AV × List Nat × List (Nat × Option AO)) :=
  match d.tag, x, asKey k with
  | .map kt e, .v (.c (.map id)), some key =>
    match td P kt, td P e, H id with
    | some dk, some de, some (.mp q l) =>
      match zeroT de with
      | some z => if keyKind dk.tag = some q ∧ keyFit q key = true then
          some (match mlook l key with
            | some y => if ok = true then .tup [y.at, .c (.pv (.lit (.bool true)))] else .v y.at
            | none => if ok = true then .tup [z.at, .c (.pv (.lit (.bool false)))] else .v z.at, [id], []) else none
      | none => none
    | _, _, _ => none
  | _, _, _ => none
def vmapupd (P : Program) (d : TD) (x k y : AV) (H : Nat → Option AO) : Option (AV × List Nat × List (Nat × Option AO)) :=
  match d.tag, x, asKey k, y with
  | .map kt e, .v (.c (.map id)), some key, .v y =>
    match td P kt, H id, ptOf y with
    | some dk, some (.mp q l), some z => if keyKind dk.tag = some q ∧ keyFit q key = true then some (.top, [id], [(id, some (.mp q (mput l key z)))]) else none
    | _, _, _ => none
  | _, _, _, _ => none
def vmakemap (P : Program) (d : TD) (nm : Nat) : Option (AV × List Nat × List (Nat × Option AO)) :=
  match d.tag with
  | .map kt _ => match td P kt with
    | some dk => match keyKind dk.tag with
      | some q => some (.v (.c (.map nm)), [], [(nm, some (.mp q []))])
      | none => none
    | none => none
  | _ => none
def oav (e : Operand → AV) : Option Operand → Option AV
  | some x => some (e x)
  | none => none
def aop (P : Program) (op : Op) (e : Operand → AV) (H : Nat → Option AO) (nm : Nat) : Option (AV × List Nat × List (Nat × Option AO)) :=
  match op with
  | .move x => some (e x, [], [])
  | .assign x => some (e x, [], [])
  | .pick c a b => match e c with
    | .v (.c (.pv (.lit (.bool t)))) => some (if t = true then e a else e b, [], [])
    | _ => none
  | .alloc t => (td P t).map fun d => (.v (.c (.ptr nm 0)), [], [(nm, some (match d.zero with | [.lit (.pointer none), .nilS] => .bld t (.pv .nilS) | z => .box (z.map .pv)))])
  | .box _ x => match e x with
    | .v x => some (.v (.c (.ptr nm 0)), [], [(nm, some (.box (cellsT x)))])
    | _ => none
  | .build t parts => (td P t).bind fun d => (vbuild d (parts.toList.map fun p => (p.1, e p.2))).map fun v => (v, [], [])
  | .buildSlice t len parts => (td P t).bind fun d => (vbuildSlice P d len (parts.toList.map fun p => (p.1, e p.2)) nm).map fun r => (r.1, [], [(nm, some r.2)])
  | .load t a => (td P t).bind fun d => (vload d (e a) H).map fun r => (r.1, r.2, [])
  | .store t a x => vstore P t (e a) (e x) H
  | .nilCheck x => (vnil (e x)).map fun v => (v, [], [])
  | .binOp op t x y _ => (vbin P op t (e x) (e y)).map fun v => (v, [], [])
  | .unOp op _ x => (vun op (e x)).map fun v => (v, [], [])
  | .convert src dst x => (vconv P src dst (e x)).map fun v => (v, [], [])
  | .makeSlice t n c => (td P t).bind fun d => (asInt? (e n)).bind fun n => (asInt? (e c)).bind fun c => vmake P d n c nm
  | .makeFunc fn first caps => match first.toList.mapM fun x => capOf (e x), caps.toList.mapM fun x => capOf (e x) with
    | some a, some b => some (.v (.c (.fn fn a b)), [], [])
    | _, _ => none
  | .slice t x lo hi mx => (td P t).bind fun d => vsl P d (e x) (oav e lo) (oav e hi) (oav e mx) H nm
  | .fieldAddr t x f => (td P t).bind fun d => (vfieldAddr d (e x) f).map fun v => (v, [], [])
  | .field t x f => (td P t).bind fun d => (vfield d (e x) f).map fun v => (v, [], [])
  | .indexAddr t x i => (td P t).bind fun d => (asInt? (e i)).bind fun n => vidx P d (e x) n H
  | .index t x i => (td P t).bind fun d => (asInt? (e i)).bind fun n => (vindex d (e x) n).map fun v => (v, [], [])
  | .extract x i => (vext (e x) i).map fun v => (v, [], [])
  | .lookup t x i ok => (td P t).bind fun d => vlookup P d (e x) (e i) ok H
  | .mapUpdate t x i y => (td P t).bind fun d => vmapupd P d (e x) (e i) (e y) H
  | .insert t x i y => (td P t).bind fun d => vmapupd P d (e x) (e i) (e y) H
  | .makeMap t r => match r with
    | none => (td P t).bind fun d => vmakemap P d nm
    | some _ => none
  | .call c => match c.callee with
    | .builtin b => vbuiltin P b c.argTypes.toList (c.args.toList.map e) H nm
    | _ => none
  | _ => none
section
variable {X : Ctx} {H : Nat → Option AO} {U : Nat → Prop} {γ : Nat → G} {S : CS} {w : World} {P : Program}
theorem Mem.less (h : Mem X H U γ S w) {U' : Nat → Prop} (hU : ∀ x, U' x → U x) : Mem X H U' γ S w := { h with un := fun x hx => h.un x (hU x hx) }
theorem Stp.same (h : Mem X H U γ S w) {nm : Nat} {r : Result Go.Next} {u : Value} {v : AV} (hr : r = .ok (.value u) w) (hv : RepV γ S w u v) : Stp X H (fun x => U x ∧ x ≠ nm) γ S w r v :=
  ⟨u, w, γ, S, .inl hr, h.less (fun x hx => hx.1), GOn.refl _, fun _ _ h => h, fun _ _ _ => rfl, hv⟩
theorem Stp.val (h : Mem X H U γ S w) {nm : Nat} {s : Sem Value} {u : Value} {v : AV} (hr : s.run P w = .ok u w) (hv : RepV γ S w u v) : Stp X H (fun x => U x ∧ x ≠ nm) γ S w ((do pure (.value (← s)) : Sem Go.Next).run P w) v :=
  Stp.same h (u := u) (by rw [Sem.run_bind, hr]; rfl) hv
theorem same_now {u : TypeDesc} {q : Option IntKind} (hu : keyKind (tagOf u) = some q) {a b : Value} (ha : keyFit q a = true) (hb : keyFit q b = true) : Instr.sameNow u a b = some (keyEq a b) := by
  cases u <;> simp [tagOf, keyKind] at hu <;> subst hu
  · cases a <;> simp [keyFit] at ha
    cases b <;> simp [keyFit] at hb
    subst ha hb
    simp [Instr.sameNow, keyEq]
  · cases a <;> simp [keyFit] at ha
    cases b <;> simp [keyFit] at hb
    simp [Instr.sameNow, keyEq, bs.text_beq]
theorem find_now {u : TypeDesc} {q : Option IntKind} (hu : keyKind (tagOf u) = some q) {k : Value} (hk : keyFit q k = true) : ∀ (es : List MapEntry) (l : List (Value × PT)) (i : Nat), es.map (·.key) = l.map (·.1) → (∀ p ∈ l, keyFit q p.1 = true) →
    (mlook l k = none ∧ Instr.findNow u k es i = some none ∧ (∀ x, mput l k x = l ++ [(k, x)])) ∨ (∃ j e p, es[j]? = some e ∧ l[j]? = some p ∧ mlook l k = some p.2 ∧ Instr.findNow u k es i = some (some (i + j, e.val)) ∧ keyEq k p.1 = true ∧ e.key = p.1 ∧ ∀ x, mput l k x = l.set j (k, x))
  | [], [], i, _, _ => .inl ⟨rfl, rfl, fun _ => rfl⟩
  | e :: es, p :: l, i, h, hf => by
    simp only [List.map_cons, List.cons.injEq] at h
    have hp := hf p (by simp)
    have hs := same_now hu hk hp
    rw [← h.1] at hs
    cases hq : keyEq k e.key with
    | true =>
      refine .inr ⟨0, e, p, rfl, rfl, ?_, ?_, by rw [← h.1]; exact hq, h.1, fun x => ?_⟩
      · simp [mlook, ← h.1, hq]
      · simp [Instr.findNow, hs, hq]
      · simp [mput, ← h.1, hq]
    | false =>
      rcases find_now hu hk es l (i + 1) h.2 (fun p hp => hf p (by simp [hp])) with ⟨h1, h2, h3⟩ | ⟨j, e', p', h1, h2, h3, h4, h5, h6, h7⟩
      · exact .inl ⟨by simp [mlook, ← h.1, hq, h1], by simp [Instr.findNow, hs, hq, h2], fun x => by simp [mput, ← h.1, hq, h3]⟩
      · exact .inr ⟨j + 1, e', p', h1, h2, by simp [mlook, ← h.1, hq, h3], by simp [Instr.findNow, hs, hq, h4]; omega, h5, h6, fun x => by simp [mput, ← h.1, hq, h7]⟩
  | [], _ :: _, _, h, _ => by simp at h
  | _ :: _, [], _, h, _ => by simp at h
theorem check_key {t : TypeId} {u : TypeDesc} (hu : P.underlying t = some u) {q : Option IntKind} (hq : keyKind (tagOf u) = some q) (b : Bool) (k : Value) (w : World) : (Instr.checkKey b 10000 t k).run P w = .ok () w := by
  unfold Instr.checkKey
  simp only [Sem.run_bind, run_underlying hu, Result.andThen_ok]
  cases u <;> simp [tagOf, keyKind] at hq <;> rfl
theorem find_key {t : TypeId} {u : TypeDesc} (hu : P.underlying t = some u) {k : Value} {es : List MapEntry} {r : Option (Nat × Value)} (hr : Instr.findNow u k es 0 = some r) (w : World) : (Instr.findKey t k es).run P w = .ok r w := by
  unfold Instr.findKey
  simp only [Sem.run_bind, run_underlying hu, Result.andThen_ok, hr, Sem.run_pure]
theorem asKey_inv {x : AV} {k : Value} (h : asKey x = some k) {a : Value} (ha : RepV γ S w a x) : a = k := by
  unfold asKey at h
  split at h
  · cases h; exact (lit_inv ha).1
  · cases h
theorem PT.up {v : Value} {x : PT} (h : RepT (fun _ => .un) S w v x.at) : RepT γ S w v x.at := RepT.mono (S := S) (w := w) (fun _ => .inl rfl) (fun _ _ h => h) (fun _ _ _ => rfl) h
theorem ptOf_rep {v : Value} {x : AT} {y : PT} (h : RepT γ S w v x) (hy : ptOf x = some y) : RepT (fun _ => .un) S w v y.at := by
  cases x with
  | c z =>
    obtain ⟨p, hp, rfl⟩ := Option.map_eq_some_iff.1 hy
    exact pureC_rep h hp
  | agg l =>
    obtain ⟨ps, hp, rfl⟩ := Option.map_eq_some_iff.1 hy
    obtain ⟨cs, rfl, hc⟩ := h
    have := pureT_rep (γ := γ) (v := .agg cs) (x := .agg l) ⟨cs, rfl, hc⟩ hp
    exact ⟨cs, rfl, RepPs.cs.1 this⟩
theorem zeroT_rep {t : TypeId} {d : TD} {i : TypeInfo} {u : TypeDesc} {z : Value} (T : TDok P t d i u z) {y : PT} (h : zeroT d = some y) : RepT γ S w z y.at := by
  have hc := T.rep γ S w
  unfold zeroT at h
  split at h
  · rename_i ha
    cases h
    obtain ⟨cs, rfl⟩ : ∃ cs, z = .agg cs := by
      have := T.zagg ha
      exact this
    exact ⟨cs, rfl, hc⟩
  · rename_i ha
    split at h
    · rename_i p hp
      cases h
      rw [hp] at hc
      have hk := T.zk
      rw [show d.agg = false by simpa using ha] at hk
      have hz1 : z.cells = #[z] := by cases z <;> simp [aggV] at hk <;> rfl
      rw [hz1] at hc
      obtain ⟨v, k1, k2⟩ := hc.2 0 _ rfl
      simp at k1; subst k1
      exact k2
    · cases h
theorem vlookup_sound (h : Mem X H U γ S w) {nm : Nat} {t : TypeId} {d : TD} (hd : td P t = some d) {x k v : AV} {ok : Bool} {F : List Nat} {W : List (Nat × Option AO)} (hv : vlookup P d x k ok H = some (v, F, W)) {a c : Value} (ha : RepV γ S w a x) (hc : RepV γ S w c k) :
    W = [] ∧ ∃ u, (Instr.lookup t a c ok).run P w = .ok u w ∧ RepV γ S w u v := by
  unfold vlookup at hv
  split at hv
  · rename_i kt e id key htag hkey
    split at hv
    · rename_i dk de q l hdk hde hH
      split at hv
      · rename_i z hz
        split at hv
        · rename_i hcond
          simp only [Option.some.injEq, Prod.mk.injEq] at hv
          obtain ⟨hv, _, rfl⟩ := hv
          refine ⟨rfl, ?_⟩
          obtain ⟨_, _, _, T⟩ := td_ok hd
          obtain ⟨_, uk, _, TK⟩ := td_ok hdk
          obtain ⟨_, _, zv, TE⟩ := td_ok hde
          obtain ⟨b, hb, rfl⟩ := ha
          obtain ⟨b', es, clock, g1, g2, g3, g4, g5, g6⟩ := h.obj _ _ hH
          rw [g1] at hb; cases hb
          obtain rfl := asKey_inv hkey hc
          have hq : keyKind (tagOf uk) = some q := by rw [TK.tag]; exact hcond.1
          have hrun : ∀ r, Instr.findNow uk c es.toList 0 = some r → (Instr.lookup t (.map (some b)) c ok).run P w = .ok (if ok = true then .tuple #[(match r with | some (_, v) => v | none => zv), .bool r.isSome] else (match r with | some (_, v) => v | none => zv)) w := fun r hr => by
            unfold Instr.lookup
            simp only [Sem.run_bind, run_underlying (T.umap htag), Result.andThen_ok, MapKept.run_getObj_map g2, Sem.run_pure, check_key TK.und hq, find_key TK.und hr]
            cases r with
            | none => simp [Sem.run_bind, TE.zero]
            | some r => obtain ⟨i, v⟩ := r; simp
          rcases find_now hq hcond.2 es.toList l 0 g3 g4 with ⟨h1, h2, _⟩ | ⟨j, en, p, h1, h2, h3, h4, _⟩
          · have hr := hrun _ h2
            rw [h1] at hv
            dsimp only at hv hr
            have hzr : RepT γ S w zv z.at := zeroT_rep TE hz
            refine ⟨_, hr, ?_⟩
            cases ok
            · simp only [Bool.false_eq_true, if_false] at hv ⊢; subst hv; exact hzr
            · simp only [if_true] at hv ⊢; subst hv
              refine ⟨_, rfl, rfl, fun i c hc => ?_⟩
              match i with
              | 0 => simp at hc; subst hc; exact ⟨zv, rfl, hzr⟩
              | 1 => simp at hc; subst hc; exact ⟨_, rfl, lit_rep (γ := γ) rfl⟩
              | i + 2 => simp at hc
          · have hr := hrun _ h4
            rw [h3] at hv
            dsimp only at hv hr
            obtain ⟨u, k1, k2⟩ := g5.2 j p.2.at (by simp [h2])
            have k1' : u = en.val := by simp [h1] at k1; exact k1.symm
            subst k1'
            have hzr : RepT γ S w en.val p.2.at := PT.up k2
            refine ⟨_, hr, ?_⟩
            cases ok
            · simp only [Bool.false_eq_true, if_false] at hv ⊢; subst hv; exact hzr
            · simp only [if_true] at hv ⊢; subst hv
              refine ⟨_, rfl, rfl, fun i c hc => ?_⟩
              match i with
              | 0 => simp at hc; subst hc; exact ⟨en.val, rfl, hzr⟩
              | 1 => simp at hc; subst hc; exact ⟨_, rfl, lit_rep (γ := γ) rfl⟩
              | i + 2 => simp at hc
        · cases hv
      · cases hv
    · cases hv
  · cases hv
theorem same_bits {q : Option IntKind} {a b : Value} (ha : keyFit q a = true) (hb : keyFit q b = true) (h : keyEq a b = true) (n : Nat) : Instr.sameBits n b a = true := by
  cases a <;> cases q <;> simp [keyFit] at ha <;> cases b <;> simp [keyFit] at hb <;> simp_all [keyEq, Instr.sameBits, bs.text_beq]
theorem vmapupd_sound (h : Mem X H U γ S w) {nm : Nat} {t : TypeId} {d : TD} (hd : td P t = some d) {x k y v : AV} {F : List Nat} {W : List (Nat × Option AO)} (hv : vmapupd P d x k y H = some (v, F, W)) {a c u : Value} (ha : RepV γ S w a x) (hc : RepV γ S w c k) (hy : RepV γ S w u y) :
    Stp X (W.foldl (fun H p => upd H p.1 p.2) H) (fun x => U x ∧ x ≠ nm) γ S w ((do Instr.mapUpdate t a c u; pure .skip : Sem Go.Next).run P w) v := by
  unfold vmapupd at hv
  split at hv
  · rename_i kt e id key y htag hkey
    split at hv
    · rename_i dk q l z hdk hH hz
      split at hv
      · rename_i hcond
        simp only [Option.some.injEq, Prod.mk.injEq] at hv
        obtain ⟨rfl, _, rfl⟩ := hv
        obtain ⟨_, _, _, T⟩ := td_ok hd
        obtain ⟨_, uk, _, TK⟩ := td_ok hdk
        obtain ⟨b, hb, rfl⟩ := ha
        obtain ⟨b', es, clock, g1, g2, g3, g4, g5, g6⟩ := h.obj _ _ hH
        rw [g1] at hb; cases hb
        obtain rfl := asKey_inv hkey hc
        have hq : keyKind (tagOf uk) = some q := by rw [TK.tag]; exact hcond.1
        have hzr := ptOf_rep hy hz
        have hbb : (γ id).bk = some b := by rw [g1]; rfl
        obtain ⟨es', clock', hrun, e1, e2⟩ : ∃ es' clock', (Instr.mapUpdate t (.map (some b)) c u).run P w = .ok () { w with heap := w.heap.setIfInBounds b (.map es' clock') } ∧ es'.toList.map (·.key) = (mput l c z).map (·.1) ∧ RepTs (fun _ => .un) S w (es'.toList.map (·.val)) ((mput l c z).map (·.2.at)) := by
          rcases find_now hq hcond.2 es.toList l 0 g3 g4 with ⟨h1, h2, h3⟩ | ⟨j, en, p, h1, h2, h3, h4, h5, h6, h7⟩
          · refine ⟨es.push { key := c, val := u, born := clock }, clock + 1, ?_, ?_, ?_⟩
            · unfold Instr.mapUpdate
              simp only [Sem.run_bind, run_underlying (T.umap htag), Result.andThen_ok, MapKept.run_getObj_map g2, Sem.run_pure, check_key TK.und hq, find_key TK.und h2]
              rw [MapKept.run_setObj_map _ g2]
            · rw [h3]; simp [g3]
            · rw [h3]
              refine ⟨by have := g5.1; simpa using this, fun i x hi => ?_⟩
              simp only [List.map_append, List.map_cons, List.map_nil, Array.toList_push] at hi ⊢
              have hlen : (es.toList.map (·.val)).length = (l.map (·.2.at)).length := g5.1
              rw [List.getElem?_append] at hi ⊢
              split at hi
              · rename_i hlt
                rw [if_pos (by rw [hlen]; exact hlt)]
                exact g5.2 i x hi
              · rename_i hlt
                rw [if_neg (by rw [hlen]; exact hlt), hlen]
                obtain ⟨n, hn⟩ : ∃ n, i - (l.map (·.2.at)).length = n := ⟨_, rfl⟩
                rw [hn] at hi ⊢
                cases n with
                | zero => simp at hi; subst hi; exact ⟨u, rfl, hzr⟩
                | succ n => simp at hi
          · have hp := g4 p (List.mem_of_getElem? h2)
            have hej : es[j]? = some en := by simpa using h1
            refine ⟨es.modify j fun e => { e with key := c, val := u }, clock, ?_, ?_, ?_⟩
            · unfold Instr.mapUpdate
              simp only [Sem.run_bind, run_underlying (T.umap htag), Result.andThen_ok, MapKept.run_getObj_map g2, Sem.run_pure, check_key TK.und hq, find_key TK.und h4, Nat.zero_add, hej, Option.map_some, Option.getD_some]
              unfold Instr.keyThatStays
              rw [h6, if_pos (same_bits hcond.2 hp h5 _)]
              simp only [Sem.run_pure, Result.andThen_ok]
              rw [MapKept.run_setObj_map _ g2]
            · rw [h7, List.map_set, ← g3]
              apply List.ext_getElem?
              intro i
              simp only [List.getElem?_map, List.getElem?_set, Array.getElem?_toList, Array.getElem?_modify]
              by_cases hij : j = i
              · subst hij
                simp [hej, (List.getElem?_eq_some_iff.1 h1).1]
                have := (Array.getElem?_eq_some_iff.1 hej).1
                simp [this]
              · simp [hij]
            · rw [h7, List.map_set]
              refine ⟨by have := g5.1; simpa using this, fun i x hi => ?_⟩
              rw [List.getElem?_set] at hi
              by_cases hij : j = i
              · subst hij
                rw [if_pos rfl] at hi
                split at hi
                · cases hi
                  exact ⟨u, by simp [Array.getElem?_modify, hej], hzr⟩
                · cases hi
              · rw [if_neg hij] at hi
                obtain ⟨v, k1, k2⟩ := g5.2 i x hi
                refine ⟨v, ?_, k2⟩
                simp only [List.getElem?_map, Array.getElem?_toList, Array.getElem?_modify, hij, if_false] at k1 ⊢
                exact k1
        have hoth : ∀ k, k ≠ b → ({ w with heap := w.heap.setIfInBounds b (.map es' clock') } : World).heap[k]? = w.heap[k]? := fun k hk => by simp [Array.getElem?_setIfInBounds, Ne.symm hk]
        have hw : ∀ b' k, S b' k → ({ w with heap := w.heap.setIfInBounds b (.map es' clock') } : World).cell? ⟨b', k, none⟩ = w.cell? ⟨b', k, none⟩ := fun b' k hs => World.cell?_of_block (hoth b' (fun e => g6 k (e ▸ hs)))
        have hlt : b < w.heap.size := (Array.getElem?_eq_some_iff.1 g2).1
        refine ⟨undef, _, γ, S, .inr ⟨by rw [Sem.run_bind, hrun]; rfl, rfl⟩, (h.turn (w' := { w with heap := w.heap.setIfInBounds b (.map es' clock') }) hbb rfl rfl rfl (by simp) hoth g6 (.mp q (mput l c z)) ⟨b, es', clock', g1, by simp [Array.getElem?_setIfInBounds, hlt], e1, ?_, e2.mono (GOn.refl _) (fun _ _ h => h) hw, g6⟩).less (fun x hx => hx.1), GOn.refl _, fun _ _ h => h, hw, trivial⟩
        intro p hp
        have hmem : ∀ (l : List (Value × PT)), (∀ p ∈ l, keyFit q p.1 = true) → ∀ p ∈ mput l c z, keyFit q p.1 = true := by
          intro l
          induction l with
          | nil => intro _ p hp; simp [mput] at hp; subst hp; exact hcond.2
          | cons a l ih =>
            intro hl p hp
            unfold mput at hp
            split at hp
            · rcases List.mem_cons.1 hp with rfl | hp
              · exact hcond.2
              · exact hl p (by simp [hp])
            · rcases List.mem_cons.1 hp with rfl | hp
              · exact hl _ (by simp)
              · exact ih (fun p hp => hl p (by simp [hp])) p hp
        exact hmem l g4 p hp
      · cases hv
    · cases hv
  · cases hv
theorem vmakemap_sound (h : Mem X H U γ S w) {nm : Nat} (hn : U nm) {t : TypeId} {d : TD} {v : AV} {F : List Nat} {W : List (Nat × Option AO)} (hv : vmakemap P d nm = some (v, F, W)) :
    Stp X (W.foldl (fun H p => upd H p.1 p.2) H) (fun x => U x ∧ x ≠ nm) γ S w ((do pure (.value (← Instr.makeMap t none)) : Sem Go.Next).run P w) v := by
  unfold vmakemap at hv
  split at hv
  · split at hv
    · split at hv
      · rename_i q _
        simp only [Option.some.injEq, Prod.mk.injEq] at hv
        obtain ⟨rfl, _, rfl⟩ := hv
        have hG := GOn.upd_un (h.un nm hn) (.blk w.heap.size)
        have hw : ∀ b k, S b k → (w.alloc (.map #[] 0)).cell? ⟨b, k, none⟩ = w.cell? ⟨b, k, none⟩ := fun b k hs => cell_old (h.inb b k hs)
        have hm := h.add hn (.map #[] 0) (.blk w.heap.size) rfl (fun _ => False) (.mp q []) ⟨w.heap.size, #[], 0, upd_same _ _ _, heap_alloc_new w _, rfl, (fun p hp => nomatch hp), ⟨rfl, fun i c hc => by simp at hc⟩, fun o ho => ?_⟩
        · exact ⟨_, _, _, _, .inl (by simp [Instr.makeMap, newObj, Sem.run]), hm, hG, fun _ _ h => .inl h, hw, w.heap.size, upd_same _ _ _, rfl⟩
        · rcases ho with ho | ⟨_, ho⟩
          · have := h.inb _ _ ho; omega
          · exact ho
      · cases hv
    · cases hv
  · cases hv
theorem caps_rep {f : Operand → Value} {g : Operand → AV} (h : ∀ x, RepV γ S w (f x) (g x)) {xs : Array Operand} {l : List Cap} (hl : (xs.toList.mapM fun x => capOf (g x)) = some l) : RepCaps γ S w (xs.map f).toList l := by
  obtain ⟨h1, h2⟩ := mapM_at hl
  refine ⟨by simpa using h1, fun i c hi => ?_⟩
  obtain ⟨x, k1, k2⟩ := h2 i c hi
  refine ⟨f x, ?_, ?_⟩
  · have : xs[i]? = some x := by simpa using k1
    simp [this]
  · have hx := h x
    unfold capOf at k2
    split at k2
    · rename_i he; rw [he] at hx; cases k2; exact hx
    · rename_i he; rw [he] at hx; cases k2; exact hx
    · rename_i he; rw [he] at hx; cases k2; exact hx.1
    · rename_i he; rw [he] at hx; cases k2; exact hx.1
    · cases k2
theorem oav_some {e : Operand → AV} {f : Operand → Value} (h : ∀ x, RepV γ S w (f x) (e x)) (o : Option Operand) : (∀ v, oav e o = some v → ∃ u, o.map f = some u ∧ RepV γ S w u v) ∧ (oav e o = none → o.map f = none) := by
  cases o with
  | none => exact ⟨fun v hv => (by cases hv), fun _ => rfl⟩
  | some x => exact ⟨fun v hv => (by cases hv; exact ⟨_, rfl, h x⟩), fun hv => (by cases hv)⟩
theorem vun_sound {op : UnOp} {x v : AV} (h : vun op x = some v) {a : Value} (hx : RepV γ S w a x) : ∃ u, (Op.unary op a).run P w = .ok u w ∧ RepV γ S w u v := by
  unfold vun at h
  split at h
  · cases h; obtain ⟨rfl, _⟩ := lit_inv hx; exact ⟨_, by simp [Op.unary], lit_rep rfl⟩
  · cases h; obtain ⟨b, rfl⟩ := hx; exact ⟨.bool (!b), by simp [Op.unary], ⟨_, rfl⟩⟩
  · cases h; obtain ⟨rfl, _⟩ := lit_inv hx; exact ⟨_, by simp [Op.unary, Op.intArith], lit_rep rfl⟩
  · cases h
theorem unbL_at : ∀ (l : List (List PV)) (bs : List UInt8), unbL l = some bs → l = bs.map fun b => [.lit (.int .u8 (b.toNat : Int))]
  | [], bs, h => by cases h; rfl
  | [.lit (.int .u8 z)] :: r, bs, h => by
    unfold unbL at h
    split at h
    · rename_i hz
      obtain ⟨c, hc, rfl⟩ := Option.map_eq_some_iff.1 h
      rw [List.map_cons, ← unbL_at r c hc]
      congr 4
      have : z.toNat < 256 := by omega
      simp [UInt8.toNat_ofNat']
      omega
    · cases h
theorem vconv_sound {src dst : TypeId} {x v : AV} (h : vconv P src dst x = some v) {a : Value} (hx : RepV γ S w a x) : ∃ u, (convert src dst a).run P w = .ok u w ∧ RepV γ S w u v := by
  unfold vconv at h
  split at h
  · rename_i d1 d2 k n h1 h2
    obtain ⟨_, _, _, T1⟩ := td_ok h1
    obtain ⟨_, _, _, T2⟩ := td_ok h2
    split at h
    · rename_i k' htag
      cases h
      obtain ⟨rfl, _⟩ := lit_inv hx
      exact ⟨_, by simp [convert, run_underlying T1.und, run_underlying (T2.uint htag), Conv.intToInt], lit_rep rfl⟩
    · cases h
  · rename_i d1 d2 b h1 h2
    obtain ⟨_, _, _, T1⟩ := td_ok h1
    obtain ⟨_, _, _, T2⟩ := td_ok h2
    split at h
    · rename_i htag1 htag2
      cases h
      obtain ⟨rfl, _⟩ := lit_inv hx
      exact ⟨_, by simp [convert, run_underlying (T1.ustring htag1), run_underlying (T2.ustring htag2)], lit_rep rfl⟩
    · cases h
  · rename_i s d x' h1 h2 hn1 hn2
    obtain ⟨_, _, _, T1⟩ := td_ok h1
    obtain ⟨_, _, _, T2⟩ := td_ok h2
    split at h
    · rename_i e ht1 ht2
      split at h
      · rename_i de hde
        obtain ⟨_, _, _, T3⟩ := td_ok hde
        split at h
        · rename_i ht3
          split at h
          · rename_i bs hbs
            cases h
            obtain ⟨l, hl, hu⟩ := Option.bind_eq_some_iff.1 hbs
            obtain ⟨ad, c, rfl, R⟩ := sl_inv (asSl_rep hx hl)
            have hlb := unbL_at l bs hu
            have hlen : l.length = bs.length := by rw [hlb, List.length_map]
            refine ⟨.string ⟨bs.toArray⟩, ?_, lit_rep rfl⟩
            rw [hlen]
            rcases R.at' with h0 | ⟨b, off, rfl, hes, hc⟩
            · have : bs = [] := by rw [hlb] at h0; simpa using h0
              subst this
              rw [List.length_nil, run_convert_bytes_string w src dst e _ 0 c (T1.uslice ht1) (T3.uint ht3) (T2.ustring ht2)]
              cases ad <;> simp [Conv.bytesToString, loadCells]
              all_goals rfl
            · refine run_convert_bytes_back w src dst e ⟨b, off, none⟩ c bs (T1.uslice ht1) (T3.uint ht3) (T2.ustring ht2) (fun j hj => ?_)
              have hj2 : l[j]? = some [.lit (.int .u8 (bs[j].toNat : Int))] := by rw [hlb]; simp [hj]
              obtain ⟨-, u, hu1, hu2⟩ := hc j _ 0 (.lit (.int .u8 (bs[j].toNat : Int))) hj2 rfl
              cases hu2
              have ea : Addr.add ⟨b, off, none⟩ j = ⟨b, off + j, none⟩ := by
                unfold Addr.add
                split
                · rename_i h0; subst h0; rfl
                · rfl
              rw [ea]
              simpa using hu1
          · cases h
        · cases h
      · cases h
    · cases h
  · cases h
theorem vnil_sound {x v : AV} (h : vnil x = some v) {a : Value} (hx : RepV γ S w a x) : RepV γ S w a v ∧ ∃ ad, a = .pointer (some ad) := by
  unfold vnil at h
  split at h
  · cases h; obtain ⟨b, h1, rfl⟩ := hx; exact ⟨⟨b, h1, rfl⟩, _, rfl⟩
  · cases h; obtain ⟨b, o, rfl, h1⟩ := hx; exact ⟨⟨b, o, rfl, h1⟩, _, rfl⟩
  · cases h; obtain ⟨b, rfl, h1⟩ := hx; exact ⟨⟨b, rfl, h1⟩, _, rfl⟩
  · cases h
theorem vext_sound {x v : AV} {i : Nat} (h : vext x i = some v) {a : Value} (hx : RepV γ S w a x) : ∃ u, (Instr.extract a i).run P w = .ok u w ∧ RepV γ S w u v := by
  unfold vext at h
  split at h
  · obtain ⟨t, ht, rfl⟩ := Option.map_eq_some_iff.1 h
    obtain ⟨cs, rfl, h1⟩ := hx
    obtain ⟨u, k1, k2⟩ := h1.2 i t ht
    have k1' : cs[i]? = some u := by simpa using k1
    exact ⟨u, by simp [Instr.extract, k1'], k2⟩
  · cases h
theorem vmin_sound {b : Bool} {xs : List AV} {v : AV} (h : vmin b xs = some v) {vs : Array Value} (hx : vs.size = xs.length ∧ ∀ (i : Nat) x, xs[i]? = some x → ∃ u, vs[i]? = some u ∧ RepV γ S w u x) (ts : Array TypeId) (ty : TypeId) :
    ∃ u, ((if b = true then Builtin.min_ ts ty vs else Builtin.max_ ts ty vs)).run P w = .ok u w ∧ RepV γ S w u v := by
  unfold vmin at h
  split at h
  · rename_i k x k' y
    cases h
    obtain ⟨u0, h0, r0⟩ := hx.2 0 _ rfl
    obtain ⟨u1, h1, r1⟩ := hx.2 1 _ rfl
    obtain ⟨rfl, _⟩ := lit_inv r0
    obtain ⟨rfl, _⟩ := lit_inv r1
    have hvs : vs = #[.int k x, .int k' y] := by
      apply Array.ext'
      apply List.ext_getElem?
      intro i
      have h0' : vs.toList[0]? = some (.int k x) := by simpa using h0
      have h1' : vs.toList[1]? = some (.int k' y) := by simpa using h1
      match i with
      | 0 => rw [h0']; rfl
      | 1 => rw [h1']; rfl
      | i + 2 =>
        have : vs.toList.length = 2 := by simpa using hx.1
        rw [List.getElem?_eq_none (by omega)]; rfl
    subst hvs
    cases b <;> simp only [Bool.false_eq_true, if_false, if_true]
    · exact ⟨.int k (if x < y then y else x), by simp [Builtin.max_, Builtin.max2], lit_rep rfl⟩
    · exact ⟨.int k (if y < x then y else x), by simp [Builtin.min_, Builtin.min2], lit_rep rfl⟩
  · cases h
theorem args_rep {f : Operand → Value} {g : Operand → AV} (h : ∀ x, RepV γ S w (f x) (g x)) (xs : Array Operand) : (xs.map f).size = (xs.toList.map g).length ∧ ∀ (i : Nat) x, (xs.toList.map g)[i]? = some x → ∃ u, (xs.map f)[i]? = some u ∧ RepV γ S w u x := by
  refine ⟨by simp, fun i x hi => ?_⟩
  rw [List.getElem?_map] at hi
  obtain ⟨y, hy, rfl⟩ := Option.map_eq_some_iff.1 hi
  refine ⟨f y, ?_, h y⟩
  have : xs[i]? = some y := by simpa using hy
  simp [this]
theorem args_two {vs : Array Value} {x y : AV} (h : vs.size = [x, y].length ∧ ∀ (i : Nat) z, [x, y][i]? = some z → ∃ u, vs[i]? = some u ∧ RepV γ S w u z) : ∃ a b, vs = #[a, b] ∧ RepV γ S w a x ∧ RepV γ S w b y := by
  obtain ⟨u0, h0, r0⟩ := h.2 0 _ rfl
  obtain ⟨u1, h1, r1⟩ := h.2 1 _ rfl
  refine ⟨u0, u1, ?_, r0, r1⟩
  apply Array.ext'
  apply List.ext_getElem?
  intro i
  match i with
  | 0 => simpa using h0
  | 1 => simpa using h1
  | i + 2 =>
    have : vs.toList.length = 2 := by simpa using h.1
    rw [List.getElem?_eq_none (by omega)]; rfl
theorem args_one {vs : Array Value} {x : AV} (h : vs.size = [x].length ∧ ∀ (i : Nat) z, [x][i]? = some z → ∃ u, vs[i]? = some u ∧ RepV γ S w u z) : ∃ a, vs = #[a] ∧ RepV γ S w a x := by
  obtain ⟨u0, h0, r0⟩ := h.2 0 _ rfl
  refine ⟨u0, ?_, r0⟩
  apply Array.ext'
  apply List.ext_getElem?
  intro i
  match i with
  | 0 => simpa using h0
  | i + 1 =>
    have : vs.toList.length = 1 := by simpa using h.1
    rw [List.getElem?_eq_none (by omega)]; rfl
theorem setSeg_get {α : Type} {l m : List α} {o k : Nat} (h : o + m.length ≤ l.length) : (setSeg l o m)[k]? = if k < o then l[k]? else if k < o + m.length then m[k - o]? else l[k]? := by
  unfold setSeg
  by_cases h1 : k < o
  · rw [if_pos h1, List.append_assoc, List.getElem?_append_left (by rw [List.length_take]; omega), List.getElem?_take, if_pos h1]
  · rw [if_neg h1]
    by_cases h2 : k < o + m.length
    · rw [if_pos h2, List.append_assoc, List.getElem?_append_right (by rw [List.length_take]; omega), List.length_take, Nat.min_eq_left (by omega), List.getElem?_append_left (by omega)]
    · rw [if_neg h2, List.append_assoc, List.getElem?_append_right (by rw [List.length_take]; omega), List.length_take, Nat.min_eq_left (by omega), List.getElem?_append_right (by omega), List.getElem?_drop]
      congr 1; omega
theorem setSeg_len {α : Type} {l m : List α} {o : Nat} (h : o + m.length ≤ l.length) : (setSeg l o m).length = l.length := by
  unfold setSeg
  simp only [List.length_append, List.length_take, List.length_drop]
  omega
theorem obj_len {v : Value} {e : TypeId} {es n : Nat} {xs : List Value} (g : w.ownsRow 0 e es v n xs) {a : Option Addr} {m c : Nat} (hv : v = .slice a m c) : m = n ∧ n ≤ c := by
  subst hv
  rcases g.2 with ⟨k1, k2⟩ | ⟨g, cap, cur, k1, _, _, k4, _⟩
  · simp only [Value.slice.injEq] at k1; omega
  · injection k1 with q1 q2 q3; omega
set_option maxHeartbeats 2000000 in
theorem copy_arr (h : Mem X H U γ S w) {id : Nat} {nm : Nat} {t e e' : TypeId} {de : TD} (hu : P.underlying t = some (.slice e)) (hde : td P e = some de) (h1 : de.sz = 1) {l : List (List PV)} (hH : H id = some (.arr e' 1 l)) (ty : TypeId) {a : Option Addr} {m0 c0 lo m : Nat} {a1 : Option Addr} (hx : γ id = .dead ∨ γ id = .val (.slice a m0 c0)) (ha1 : (lo = 0 ∨ 0 < m) → a1 = a.map (·.add (lo * 1))) (hm : lo + m ≤ l.length) {l' : List (List PV)} {a' : Option Addr} {c' : Nat} (hs' : SrcR S w 1 l' a') :
    Stp X (upd H id (some (.arr e' 1 (setSeg l lo (l'.take m))))) (fun x => U x ∧ x ≠ nm) γ S w ((do pure (.value (← Builtin.copy_ #[t, t] ty #[.slice a1 m (c0 - lo), .slice a' l'.length c'])) : Sem Go.Next).run P w) (.v (.c (.pv (.lit (.int .i64 (min l'.length m : Nat)))))) := by
  obtain ⟨i', ud', z', T'⟩ := td_ok hde
  obtain ⟨v0, xs, g1, g2, g3, g5, g4⟩ := h.obj _ _ hH
  rcases hx with hx | hx
  · rw [g1] at hx; cases hx
  rw [g1] at hx; cases hx
  obtain ⟨rfl, hcap⟩ := obj_len g2 rfl
  have hsz : (P.info? e).map (·.size) = some 1 := by rw [T'.info, Option.map_some, T'.sz, h1]
  rcases Nat.eq_zero_or_pos (min l'.length m) with h0 | h0
  · have hn : Nat.min l'.length m = 0 := h0
    have hrun := run_copy_none (P := P) w t t ty e a1 a' m (c0 - lo) l'.length c' hu hsz hn
    have hset : setSeg l lo (l'.take m) = l := by
      have : l'.take m = [] := List.length_eq_zero_iff.1 (by rw [List.length_take]; have : min m l'.length = min l'.length m := Nat.min_comm _ _; omega)
      rw [this]; unfold setSeg; simp
    rw [hset, show upd H id (some (AO.arr e' 1 l)) = H by funext x; by_cases hxi : x = id <;> simp [upd, hxi, hH], h0]
    exact ⟨_, w, γ, S, .inl (by rw [Sem.run_bind, hrun]; rfl), h.less (fun x hx => hx.1), GOn.refl _, fun _ _ h => h, fun _ _ _ => rfl, lit_rep rfl⟩
  · have hl0 : 0 < l'.length := by have := Nat.min_le_left l'.length m; omega
    have hm0 : 0 < m := by have := Nat.min_le_right l'.length m; omega
    obtain ⟨ad, news, rfl, hnews, hcell, hes', hnl⟩ := hs' hl0
    obtain ⟨hxl, hown⟩ := g2
    rcases hown with ⟨hn, _⟩ | ⟨g, cap, cur, hve, _, hheap, hcl, hcm, hcs, htk⟩
    · injection hn with q1 q2 q3; omega
    injection hve with q1 q2 q3
    subst q1 q3
    have hlt : (l'.take m).length = min l'.length m := by rw [List.length_take]; exact Nat.min_comm _ _
    obtain ⟨cs, hcsd⟩ : ∃ cs, news.take (min l'.length m) = cs := ⟨_, rfl⟩
    have hcsl : cs.length = min l'.length m := by rw [← hcsd, List.length_take, hnl, Nat.mul_one]; have := Nat.min_le_left l'.length m; omega
    have hcell' : ∀ j v, cs[j]? = some v → w.cell? (ad.add j) = some v := fun j v hj => hcell j v (by
      rw [← hcsd, List.getElem?_take] at hj; split at hj; exact hj; cases hj)
    have hone : ∀ v ∈ cs, v.oneCell' = true := fun v hv => hnews.ones v (List.mem_of_mem_take (by rw [hcsd]; exact hv))
    have hle : min l'.length m ≤ m := Nat.min_le_right _ _
    have hfit : lo + cs.length ≤ cur.size := by rw [hcsl, hcs]; omega
    have hrun := run_copy_row (P := P) w t t ty e g lo m (c0 - lo) ad l'.length c' cur e' cs hu hsz hheap hcsl hcell' hfit hone
    rw [ha1 (.inr hm0), show (Option.map (fun q : Addr => q.add (lo * 1)) (some ⟨g, 0, none⟩)) = some ⟨g, lo, none⟩ by simp [addr_add]]
    have hbb : (γ id).bk = some g := by rw [g1]; rfl
    have hS : ∀ o, ¬ S g o := g4 g rfl
    have hoth : ∀ k, k ≠ g → (w.setRow g (cur.toList.take lo ++ cs ++ cur.toList.drop (lo + cs.length)).toArray).heap[k]? = w.heap[k]? := fun k hk => setRow_other w g k _ hk
    have hw : ∀ b' k, S b' k → (w.setRow g (cur.toList.take lo ++ cs ++ cur.toList.drop (lo + cs.length)).toArray).cell? ⟨b', k, none⟩ = w.cell? ⟨b', k, none⟩ := fun b' k hs => World.cell?_of_block (hoth b' (fun e => hS k (e ▸ hs)))
    have hcurl : cur.toList.length = c0 := by simpa using hcs
    have hsg : cur.toList.take lo ++ cs ++ cur.toList.drop (lo + cs.length) = setSeg cur.toList lo cs := rfl
    have hxs : ∀ k, k < l.length → xs[k]? = cur.toList[k]? := fun k hk => by rw [← htk, List.getElem?_take, if_pos (by omega)]
    have hfc : lo + cs.length ≤ cur.toList.length := by rw [hcurl]; omega
    have hfl : lo + (l'.take m).length ≤ l.length := by rw [hlt]; omega
    refine ⟨_, _, γ, S, .inl (by rw [Sem.run_bind, hrun]; rfl),
      (h.turn (w' := w.setRow g (cur.toList.take lo ++ cs ++ cur.toList.drop (lo + cs.length)).toArray) hbb rfl rfl rfl (by simp [World.setRow]) hoth hS (.arr e' 1 (setSeg l lo (l'.take m)))
        ⟨_, (setSeg cur.toList lo cs).take (l.length * 1), g1, ⟨?_, .inr ⟨g, c0, _, by rw [setSeg_len hfl], Nat.zero_le _, setRow_heap w g cur _ e' _ hheap, by rw [setSeg_len hfl]; exact hcl, hcm, ?_, by rw [setSeg_len hfl]; rfl⟩⟩, ?_, ?_, g4⟩).less (fun x hx => hx.1), GOn.refl _, fun _ _ h => h, hw, ?_⟩
    · rw [setSeg_len hfl, List.length_take, setSeg_len hfc, hcurl]; omega
    · rw [hsg, List.size_toArray, setSeg_len hfc, hcurl, Nat.mul_one]
    · intro i' el j p q1 q2
      have hj : j < 1 := by
        have h7 := (List.getElem?_eq_some_iff.1 q2).1
        rw [setSeg_get hfl] at q1
        split at q1
        · rw [g5 el (List.mem_of_getElem? q1)] at h7; exact h7
        · split at q1
          · rw [hes' el (List.mem_of_mem_take (List.mem_of_getElem? q1))] at h7; exact h7
          · rw [g5 el (List.mem_of_getElem? q1)] at h7; exact h7
      have hj0 : j = 0 := by omega
      subst hj0
      have hi : i' < l.length := by have := (List.getElem?_eq_some_iff.1 q1).1; rwa [setSeg_len hfl] at this
      simp only [Nat.mul_one, Nat.add_zero]
      rw [List.getElem?_take, if_pos (by omega), setSeg_get hfc]
      rw [setSeg_get hfl, hlt, ← hcsl] at q1
      by_cases c1 : i' < lo
      · rw [if_pos c1] at q1 ⊢
        obtain ⟨u, k1, k2⟩ := g3 i' el 0 p q1 q2
        rw [Nat.mul_one, Nat.add_zero, hxs _ hi] at k1
        exact ⟨u, k1, k2.mono (fun _ _ h => h) hw⟩
      · rw [if_neg c1] at q1 ⊢
        by_cases c2 : i' < lo + cs.length
        · rw [if_pos c2] at q1 ⊢
          rw [List.getElem?_take, if_pos (by omega)] at q1
          obtain ⟨u, k1, k2⟩ := hnews.2 ((i' - lo) * 1 + 0) p (flat_get hes' q1 q2)
          refine ⟨u, ?_, k2.mono (fun _ _ h => h) hw⟩
          rw [← hcsd, List.getElem?_take, if_pos (by omega)]
          rw [Nat.mul_one, Nat.add_zero] at k1; exact k1
        · rw [if_neg c2] at q1 ⊢
          obtain ⟨u, k1, k2⟩ := g3 i' el 0 p q1 q2
          rw [Nat.mul_one, Nat.add_zero, hxs _ hi] at k1
          exact ⟨u, k1, k2.mono (fun _ _ h => h) hw⟩
    · intro el hel
      obtain ⟨i', hi'⟩ := List.mem_iff_getElem?.1 hel
      rw [setSeg_get hfl] at hi'
      split at hi'
      · exact g5 el (List.mem_of_getElem? hi')
      · split at hi'
        · exact hes' el (List.mem_of_mem_take (List.mem_of_getElem? hi'))
        · exact g5 el (List.mem_of_getElem? hi')
    · rw [hcsl]; exact lit_rep rfl
theorem builtin_sound (h : Mem X H U γ S w) {nm : Nat} (hn : U nm) {b : Builtin} {ts : Array TypeId} {xs : List AV} {v : AV} {F : List Nat} {W : List (Nat × Option AO)} (hv : vbuiltin P b ts.toList xs H nm = some (v, F, W)) (ty : TypeId) (cs : Array Bool) {vs : Array Value}
    (hx : vs.size = xs.length ∧ ∀ (i : Nat) x, xs[i]? = some x → ∃ u, vs[i]? = some u ∧ RepV γ S w u x) :
    Stp X (W.foldl (fun H p => upd H p.1 p.2) H) (fun x => U x ∧ x ≠ nm) γ S w ((builtin b ts ty cs vs).run P w) v := by
  unfold vbuiltin at hv
  split at hv
  · rename_i t x hts
    obtain ⟨d, hd, hv⟩ := Option.bind_eq_some_iff.1 hv
    obtain ⟨v', hv', hv⟩ := Option.map_eq_some_iff.1 hv
    simp only [Prod.mk.injEq] at hv; obtain ⟨rfl, rfl, rfl⟩ := hv
    obtain ⟨a, rfl, ha⟩ := args_one hx
    obtain rfl : ts = #[t] := by apply Array.ext'; rw [hts]
    obtain ⟨u, h1, h2⟩ := vlen_sound hd hv' ty ha
    exact Stp.val h h1 h2
  · rename_i t t' x y hts
    split at hv
    · rename_i htt
      subst htt
      obtain ⟨d, hd, hv⟩ := Option.bind_eq_some_iff.1 hv
      obtain ⟨a, b, rfl, ha, hb⟩ := args_two hx
      obtain rfl : ts = #[t, t] := by apply Array.ext'; rw [hts]
      exact vappend_sound h hn hd hv ty ha hb
    · obtain ⟨d, hd, hv⟩ := Option.bind_eq_some_iff.1 hv
      obtain ⟨d', hd', hv⟩ := Option.bind_eq_some_iff.1 hv
      obtain ⟨a, b, rfl, ha, hb⟩ := args_two hx
      obtain rfl : ts = #[t, t'] := by apply Array.ext'; rw [hts]
      exact vappendS_sound h hn hd hd' hv ty ha hb
  · rename_i t t' x y hts
    split at hv
    · rename_i htt
      subst htt
      obtain ⟨d, hd, hv⟩ := Option.bind_eq_some_iff.1 hv
      obtain ⟨a, b, rfl, ha, hb⟩ := args_two hx
      obtain rfl : ts = #[t, t] := by apply Array.ext'; rw [hts]
      obtain ⟨i, ud, z, T⟩ := td_ok hd
      unfold vcopy at hv
      split at hv
      · rename_i e htag
        have hu := T.uslice htag
        split at hv
        · rename_i de hde
          split at hv
          · rename_i l' F0 hl'
            obtain ⟨a', c', rfl, hs'⟩ := srcOf_rep h hb hl'
            split at hv
            · rename_i id es m
              split at hv
              · rename_i e' es' l hH
                split at hv
                · rename_i hc
                  obtain ⟨rfl, h1, rfl, rfl, rfl⟩ := hc
                  simp only [Option.some.injEq, Prod.mk.injEq] at hv; obtain ⟨rfl, rfl, rfl⟩ := hv
                  obtain ⟨⟨ax, cx, rfl⟩, hxg⟩ := ha
                  have hax : ∀ q : Addr, q.add 0 = q := fun q => by unfold Addr.add; split <;> simp_all
                  have key := copy_arr (nm := nm) h hu hde h1 hH ty (lo := 0) (m := l.length) (a1 := ax) (c' := c') hxg (fun _ => by cases ax <;> simp [hax]) (by omega) (h1 ▸ hs')
                  rw [Nat.sub_zero] at key
                  exact key
                · cases hv
              · cases hv
            · rename_i id es lo m
              split at hv
              · rename_i e' es' l hH
                split at hv
                · rename_i hc
                  obtain ⟨rfl, h1, rfl, rfl, hlm⟩ := hc
                  simp only [Option.some.injEq, Prod.mk.injEq] at hv; obtain ⟨rfl, rfl, rfl⟩ := hv
                  obtain ⟨ax, m0, cx, hxg, a1, _, _, ha1, rfl⟩ := ha
                  exact copy_arr (nm := nm) h hu hde h1 hH ty (c' := c') hxg ha1 hlm (h1 ▸ hs')
                · cases hv
              · cases hv
            · cases hv
          · cases hv
        · cases hv
      · cases hv
    · cases hv
  · obtain ⟨v', hv', hv⟩ := Option.map_eq_some_iff.1 hv
    simp only [Prod.mk.injEq] at hv; obtain ⟨rfl, rfl, rfl⟩ := hv
    obtain ⟨u, h1, h2⟩ := vmin_sound (P := P) hv' hx ts ty
    exact Stp.val h h1 h2
  · obtain ⟨v', hv', hv⟩ := Option.map_eq_some_iff.1 hv
    simp only [Prod.mk.injEq] at hv; obtain ⟨rfl, rfl, rfl⟩ := hv
    obtain ⟨u, h1, h2⟩ := vmin_sound (P := P) hv' hx ts ty
    exact Stp.val h h1 h2
  · cases hv
theorem idx_sound (h : Mem X H U γ S w) {nm : Nat} {t : TypeId} {d : TD} (hd : td P t = some d) {x v : AV} {n : Int} {F : List Nat} {W : List (Nat × Option AO)} (hv : vidx P d x n H = some (v, F, W)) {a : Value} (ha : RepV γ S w a x) (k : IntKind) :
    Stp X (W.foldl (fun H p => upd H p.1 p.2) H) (fun x => U x ∧ x ≠ nm) γ S w ((do pure (.value (← Instr.indexAt t a (.int k n))) : Sem Go.Next).run P w) v := by
  unfold vidx at hv
  split at hv
  · rename_i id es m
    split at hv
    · rename_i e' es' l hH
      split at hv
      · rename_i hm
        obtain ⟨rfl, rfl⟩ := hm
        obtain ⟨v', hv', hv⟩ := Option.map_eq_some_iff.1 hv
        simp only [Prod.mk.injEq] at hv; obtain ⟨rfl, rfl, rfl⟩ := hv
        obtain ⟨u, h1, h2⟩ := vindexAddr_sound hd hv' h.obj (fun id' es2 m' he' => by cases he'; exact ⟨e', l, hH, rfl⟩) ha k
        exact Stp.val h h1 h2
      · cases hv
    · cases hv
  · rename_i id es lo m
    split at hv
    · rename_i e' es' l e hH htag
      split at hv
      · rename_i de hde
        split at hv
        · rename_i hc
          obtain ⟨rfl, rfl, hlm, h0, h1⟩ := hc
          simp only [Option.some.injEq, Prod.mk.injEq] at hv; obtain ⟨rfl, rfl, rfl⟩ := hv
          obtain ⟨i, ud, z, T⟩ := td_ok hd
          obtain ⟨v0, xs, g1, g2, _⟩ := h.obj _ _ hH
          obtain ⟨ax, m0, cx, hxg, a1, hl1, hl2, ha1, rfl⟩ := ha
          rcases hxg with hxg | hxg
          · rw [g1] at hxg; cases hxg
          rw [g1] at hxg; cases hxg
          rcases g2.2 with ⟨ho, _⟩ | ⟨g, cap, cur, ho, _⟩
          · simp only [Value.slice.injEq] at ho; omega
          · injection ho with q1 q2 q3
            subst q1
            rw [ha1 (.inr (by omega))]
            refine Stp.val (u := .pointer (some ⟨g, lo * de.sz + n.toNat * de.sz, none⟩)) h ?_ ⟨g, by rw [Nat.add_zero, Nat.add_mul], .inr ⟨_, _, g1⟩⟩
            have := run_indexAt (P := P) (w := w) (T.uslice htag) hde g (lo * de.sz) m (cx - lo) k n h0 h1
            simpa [addr_add] using this
        · cases hv
      · cases hv
    · cases hv
  · rename_i hna hnv
    obtain ⟨v', hv', hv⟩ := Option.map_eq_some_iff.1 hv
    simp only [Prod.mk.injEq] at hv; obtain ⟨rfl, rfl, rfl⟩ := hv
    obtain ⟨u, h1, h2⟩ := vindexAddr_sound hd hv' h.obj (fun id es m he' => absurd he' (hna _ _ _)) ha k
    exact Stp.val h h1 h2
theorem store_arr (h : Mem X H U γ S w) {id es i off : Nat} {e : TypeId} {l : List (List PV)} (hH : H id = some (.arr e es l)) {t : TypeId} {d : TD} (hd : td P t = some d) {a v : Value} (ha : RepV γ S w a (.ep id es i off)) {x : AT} (hv : RepT γ S w v x) {ps : List PV} (hp : pureT x = some ps) (hsz : ps.length = d.sz) {el : List PV} (hel : l[i]? = some el) (hfit : off + d.sz ≤ el.length) :
    Stp X (upd H id (some (.arr e es (l.set i (setSeg el off ps))))) U γ S w ((do Instr.storeAt t a v; pure .skip : Sem Go.Next).run P w) .top := by
  obtain ⟨i0, ud, z, T⟩ := td_ok hd
  obtain ⟨v0, xs, g1, g2, g3, g5, g4⟩ := h.obj _ _ hH
  obtain ⟨b, rfl, hx⟩ := ha
  rcases hx with hx | ⟨n, c, hx⟩
  · rw [g1] at hx; cases hx
  rw [g1] at hx; cases hx
  obtain ⟨hxl, hown⟩ := g2
  rcases hown with ⟨hn, _⟩ | ⟨g, cap, cur, hve, _, hheap, hcl, hcm, hcs, htk⟩
  · cases hn
  cases hve
  have hpr := pureT_rep hv hp
  have hil := (List.getElem?_eq_some_iff.1 hel).1
  have hes := g5 el (List.mem_of_getElem? hel)
  have hvl : v.cells.toList.length = d.sz := by rw [hpr.1, hsz]
  have hmul : i * es + es ≤ l.length * es := by rw [← Nat.succ_mul]; exact Nat.mul_le_mul_right es hil
  have hcap : l.length * es ≤ c * es := Nat.mul_le_mul_right es hcl
  have hst := run_storeCells_at P b (i * es + off) e v.cells.toList 0 cur w hheap (by rw [hvl, hcs]; omega) hpr.ones
  simp only [Nat.add_zero] at hst
  have hvs : v.cells.size = d.sz := by rw [← hvl]; simp
  have hbb : (γ id).bk = some b := by rw [g1]; rfl
  have hS : ∀ o, ¬ S b o := g4 b rfl
  have hoth : ∀ k, k ≠ b → (w.setRow b (setSeg cur.toList (i * es + off) v.cells.toList).toArray).heap[k]? = w.heap[k]? := fun k hk => setRow_other w b k _ hk
  have hw : ∀ b' k, S b' k → (w.setRow b (setSeg cur.toList (i * es + off) v.cells.toList).toArray).cell? ⟨b', k, none⟩ = w.cell? ⟨b', k, none⟩ := fun b' k hs => World.cell?_of_block (hoth b' (fun e => hS k (e ▸ hs)))
  have hsize : (w.setRow b (setSeg cur.toList (i * es + off) v.cells.toList).toArray).heap.size = w.heap.size := by simp [World.setRow]
  have hcurl : cur.toList.length = c * es := by simpa using hcs
  have hfitc : i * es + off + v.cells.toList.length ≤ cur.toList.length := by rw [hvl, hcurl]; omega
  have hxs : ∀ k, k < l.length * es → xs[k]? = cur.toList[k]? := fun k hk => by rw [← htk, List.getElem?_take, if_pos hk]
  refine ⟨undef, w.setRow b (setSeg cur.toList (i * es + off) v.cells.toList).toArray, γ, S, .inr ⟨?_, rfl⟩,
    h.turn (w' := w.setRow b (setSeg cur.toList (i * es + off) v.cells.toList).toArray) hbb rfl rfl rfl hsize hoth hS (.arr e es (l.set i (setSeg el off ps)))
      ⟨_, (setSeg cur.toList (i * es + off) v.cells.toList).take (l.length * es), g1, ⟨?_, .inr ⟨b, c, _, by rw [List.length_set], Nat.zero_le _, setRow_heap w b cur _ e _ hheap, by rw [List.length_set]; exact hcl, hcm, ?_, by rw [List.length_set]⟩⟩, ?_, ?_, g4⟩, GOn.refl _, fun _ _ h => h, hw, trivial⟩
  · simp only [Sem.run_bind, Instr.storeAt, Instr.sureAddr, Sem.run_pure, Result.andThen_ok, storeVar, T.sizeOf, hvs]
    simp [hst, setSeg]
  · rw [List.length_set, List.length_take, setSeg_len hfitc, hcurl]; exact Nat.min_eq_left hcap
  · rw [List.size_toArray, setSeg_len hfitc, hcurl]
  · intro i' e' j p h1 h2
    have hj : j < es := by
      rw [List.getElem?_set] at h1
      have := (List.getElem?_eq_some_iff.1 h2).1
      split at h1
      · cases h1; rwa [setSeg_len (by omega), hes] at this
      · rw [g5 e' (List.mem_of_getElem? h1)] at this; exact this
    have hi' : i' < l.length := by
      have := (List.getElem?_eq_some_iff.1 h1).1
      rwa [List.length_set] at this
    have hk : i' * es + j < l.length * es := by
      have : i' * es + es ≤ l.length * es := by rw [← Nat.succ_mul]; exact Nat.mul_le_mul_right es hi'
      omega
    rw [List.getElem?_take, if_pos hk, setSeg_get hfitc, hvl]
    by_cases hii : i' = i
    · subst hii
      rw [List.getElem?_set, if_pos rfl, if_pos hil] at h1
      cases h1
      rw [setSeg_get (by omega)] at h2
      by_cases c1 : j < off
      · rw [if_pos c1] at h2
        rw [if_pos (by omega), ← hxs _ hk]
        obtain ⟨u, k1, k2⟩ := g3 i' el j p hel h2
        exact ⟨u, k1, k2.mono (fun _ _ h => h) hw⟩
      · rw [if_neg c1] at h2
        rw [if_neg (by omega)]
        by_cases c2 : j < off + ps.length
        · rw [if_pos c2] at h2
          rw [if_pos (by omega)]
          obtain ⟨u, k1, k2⟩ := hpr.2 _ p h2
          refine ⟨u, ?_, k2.mono (fun _ _ h => h) hw⟩
          rw [show i' * es + j - (i' * es + off) = j - off by omega]; exact k1
        · rw [if_neg c2] at h2
          rw [if_neg (by omega), ← hxs _ hk]
          obtain ⟨u, k1, k2⟩ := g3 i' el j p hel h2
          exact ⟨u, k1, k2.mono (fun _ _ h => h) hw⟩
    · rw [List.getElem?_set, if_neg (fun e => hii e.symm)] at h1
      have hout : i' * es + j < i * es + off ∨ ¬ i' * es + j < i * es + off + d.sz := by
        rcases Nat.lt_or_ge i' i with hlt | hge
        · left
          have : i' * es + es ≤ i * es := by rw [← Nat.succ_mul]; exact Nat.mul_le_mul_right es hlt
          omega
        · right
          have hgt : i < i' := by omega
          have : i * es + es ≤ i' * es := by rw [← Nat.succ_mul]; exact Nat.mul_le_mul_right es hgt
          omega
      obtain ⟨u, k1, k2⟩ := g3 i' e' j p h1 h2
      refine ⟨u, ?_, k2.mono (fun _ _ h => h) hw⟩
      rw [hxs _ hk] at k1
      rcases hout with cc | cc
      · rw [if_pos cc]; exact k1
      · by_cases c1 : i' * es + j < i * es + off
        · rw [if_pos c1]; exact k1
        · rw [if_neg c1, if_neg cc]; exact k1
  · intro e' he'
    rcases List.mem_or_eq_of_mem_set he' with k | k
    · exact g5 e' k
    · rw [k, setSeg_len (by omega)]; exact hes
theorem aop_sound (h : Mem X H U γ S w) {nm : Nat} (hn : U nm) {a : Act} {T : Nat → AV} (ha : ∀ t, RepV γ S w (a.tmps.getD t undef) (T t)) (o : Oper) {v : AV} {F : List Nat} {W : List (Nat × Option AO)} (hv : aop P o.op (evA T) H nm = some (v, F, W)) :
    Stp X (W.foldl (fun H p => upd H p.1 p.2) H) (fun x => U x ∧ x ≠ nm) γ S w ((execOp a.eval o).run P w) v := by
  have he : ∀ x, RepV γ S w (a.eval x) (evA T x) := evA_rep ha
  obtain ⟨dst, op, ty, pos, after, guard⟩ := o
  dsimp only at hv
  cases op with
  | move x =>
    simp only [aop, Option.some.injEq, Prod.mk.injEq] at hv; obtain ⟨rfl, rfl, rfl⟩ := hv
    exact Stp.same h (u := a.eval x) rfl (he _)
  | assign x =>
    simp only [aop, Option.some.injEq, Prod.mk.injEq] at hv; obtain ⟨rfl, rfl, rfl⟩ := hv
    exact Stp.same h (u := a.eval x) rfl (he _)
  | pick c x y =>
    simp only [aop] at hv
    split at hv
    · rename_i t hc
      simp only [Option.some.injEq, Prod.mk.injEq] at hv; obtain ⟨rfl, rfl, rfl⟩ := hv
      have := he c; rw [hc] at this
      obtain ⟨hce, _⟩ := lit_inv this
      refine Stp.same h (u := if t = true then a.eval x else a.eval y) (by simp [execOp, hce, asBool]) ?_
      split
      · exact he x
      · exact he y
    · cases hv
  | alloc t =>
    obtain ⟨d, hd, hv⟩ := Option.map_eq_some_iff.1 hv
    simp only [Prod.mk.injEq] at hv; obtain ⟨rfl, rfl, rfl⟩ := hv
    exact alloc_sound h hn hd
  | box t x =>
    simp only [aop] at hv
    split at hv
    · rename_i y hy
      simp only [Option.some.injEq, Prod.mk.injEq] at hv; obtain ⟨rfl, rfl, rfl⟩ := hv
      have := he x; rw [hy] at this
      exact box_sound h hn t this pure
    · cases hv
  | build t parts =>
    obtain ⟨d, hd, hv⟩ := Option.bind_eq_some_iff.1 hv
    obtain ⟨v', hv', hv⟩ := Option.map_eq_some_iff.1 hv
    simp only [Prod.mk.injEq] at hv; obtain ⟨rfl, rfl, rfl⟩ := hv
    have hp := partsR_map a.eval (evA T) he parts.toList
    obtain ⟨u, h1, h2⟩ := vbuild_sound hd hv' (ps := parts.map fun p => (p.1, a.eval p.2)) (by simpa using hp)
    exact Stp.val h h1 h2
  | buildSlice t len parts =>
    obtain ⟨d, hd, hv⟩ := Option.bind_eq_some_iff.1 hv
    obtain ⟨r, hr, hv⟩ := Option.map_eq_some_iff.1 hv
    simp only [Prod.mk.injEq] at hv; obtain ⟨rfl, rfl, rfl⟩ := hv
    have hp := partsR_map a.eval (evA T) he parts.toList
    have hp' : PartsR γ S w (parts.map fun p => (p.1, a.eval p.2)).toList (parts.toList.map fun p => (p.1, evA T p.2)) := by simpa using hp
    have key := vbuildSlice_sound h hn hd (v := r.1) (ob := r.2) hr hp'
    have e1 : execOp a.eval ⟨dst, .buildSlice t len parts, ty, pos, after, guard⟩ = (do pure (.value (← Instr.buildSlice t len (parts.map fun p => (p.1, a.eval p.2)))) : Sem Go.Next) := rfl
    rw [e1]
    exact key
  | lookup t x i ok =>
    obtain ⟨d, hd, hv⟩ := Option.bind_eq_some_iff.1 hv
    obtain ⟨rfl, u, h1, h2⟩ := vlookup_sound (nm := nm) h hd hv (he x) (he i)
    exact Stp.val h h1 h2
  | mapUpdate t x i y =>
    obtain ⟨d, hd, hv⟩ := Option.bind_eq_some_iff.1 hv
    exact vmapupd_sound h hd hv (he x) (he i) (he y)
  | insert t x i y =>
    obtain ⟨d, hd, hv⟩ := Option.bind_eq_some_iff.1 hv
    exact vmapupd_sound h hd hv (he x) (he i) (he y)
  | makeMap t r =>
    simp only [aop] at hv
    cases r with
    | none =>
      obtain ⟨d, hd, hv⟩ := Option.bind_eq_some_iff.1 hv
      exact vmakemap_sound h hn hv
    | some r => cases hv
  | load t x =>
    obtain ⟨d, hd, hv⟩ := Option.bind_eq_some_iff.1 hv
    obtain ⟨r, hr, hv⟩ := Option.map_eq_some_iff.1 hv
    simp only [Prod.mk.injEq] at hv; obtain ⟨rfl, rfl, rfl⟩ := hv
    obtain ⟨u, h1, h2⟩ := vload_sound hd (v := r.1) (F := r.2) hr h.obj (he x)
    exact Stp.val h h1 h2
  | store t x y =>
    simp only [aop] at hv
    unfold vstore at hv
    split at hv
    · rename_i id off z d hx hy hd
      split at hv
      · rename_i cells hH
        split at hv
        · rename_i hc
          simp only [Option.some.injEq, Prod.mk.injEq] at hv; obtain ⟨rfl, rfl, rfl⟩ := hv
          have h1 := he x; rw [hx] at h1
          have h2 := he y; rw [hy] at h2
          obtain ⟨u, w', γ', S', r1, r2, r3, r4, r5, r6⟩ := store_box h hH hd h1 h2 hc.1 hc.2
          exact ⟨u, w', γ', S', r1, r2.less (fun x hx => hx.1), r3, r4, r5, r6⟩
        · cases hv
      · rename_i t' c' hH
        split at hv
        · rename_i yc
          split at hv
          · rename_i hc
            obtain ⟨rfl, hc⟩ := hc
            simp only [Option.some.injEq, Prod.mk.injEq] at hv; obtain ⟨rfl, rfl, rfl⟩ := hv
            have h1 := he x; rw [hx] at h1
            have h2 := he y; rw [hy] at h2
            obtain ⟨u, w', γ', S', r1, r2, r3, r4, r5, r6⟩ := store_bld h hH hd h1 h2 hc
            exact ⟨u, w', γ', S', r1, r2.less (fun x hx => hx.1), r3, r4, r5, r6⟩
          · cases hv
        · cases hv
      · cases hv
    · rename_i id es i off z d hx hy hd
      split at hv
      · rename_i e es' l hH
        split at hv
        · rename_i el ps hel hp
          split at hv
          · rename_i hc
            simp only [Option.some.injEq, Prod.mk.injEq] at hv; obtain ⟨rfl, rfl, rfl⟩ := hv
            have h1 := he x; rw [hx] at h1
            have h2 := he y; rw [hy] at h2
            split at hel
            · rename_i hes
              subst hes
              obtain ⟨u, w', γ', S', r1, r2, r3, r4, r5, r6⟩ := store_arr h hH hd h1 h2 hp hc.1 hel hc.2
              exact ⟨u, w', γ', S', r1, r2.less (fun x hx => hx.1), r3, r4, r5, r6⟩
            · cases hel
          · cases hv
        · cases hv
      · cases hv
    · cases hv
  | nilCheck x =>
    obtain ⟨v', hv', hv⟩ := Option.map_eq_some_iff.1 hv
    simp only [Prod.mk.injEq] at hv; obtain ⟨rfl, rfl, rfl⟩ := hv
    obtain ⟨h1, ad, h2⟩ := vnil_sound hv' (he x)
    exact Stp.same h (u := .pointer (some ad)) (by simp [execOp, h2]) (by rw [← h2]; exact h1)
  | binOp op t x y yt =>
    obtain ⟨v', hv', hv⟩ := Option.map_eq_some_iff.1 hv
    simp only [Prod.mk.injEq] at hv; obtain ⟨rfl, rfl, rfl⟩ := hv
    obtain ⟨u, h1, h2⟩ := vbin_sound hv' x y (he x) (he y)
    exact Stp.val h h1 h2
  | unOp op t x =>
    obtain ⟨v', hv', hv⟩ := Option.map_eq_some_iff.1 hv
    simp only [Prod.mk.injEq] at hv; obtain ⟨rfl, rfl, rfl⟩ := hv
    obtain ⟨u, h1, h2⟩ := vun_sound (P := P) hv' (he x)
    exact Stp.val h h1 h2
  | convert src dst' x =>
    obtain ⟨v', hv', hv⟩ := Option.map_eq_some_iff.1 hv
    simp only [Prod.mk.injEq] at hv; obtain ⟨rfl, rfl, rfl⟩ := hv
    obtain ⟨u, h1, h2⟩ := vconv_sound hv' (he x)
    exact Stp.val h h1 h2
  | makeSlice t n c =>
    obtain ⟨d, hd, hv⟩ := Option.bind_eq_some_iff.1 hv
    obtain ⟨n', hn', hv⟩ := Option.bind_eq_some_iff.1 hv
    obtain ⟨c', hc', hv⟩ := Option.bind_eq_some_iff.1 hv
    obtain ⟨kn, hkn⟩ := asInt_inv (he n) hn'
    obtain ⟨kc, hkc⟩ := asInt_inv (he c) hc'
    obtain ⟨i, ud, z, T⟩ := td_ok hd
    unfold vmake at hv
    split at hv
    · rename_i e htag
      split at hv
      · rename_i de hde
        split at hv
        · rename_i hc
          obtain ⟨rfl, h0, hpos, hby, hle⟩ := hc
          simp only [Option.some.injEq, Prod.mk.injEq] at hv; obtain ⟨rfl, rfl, rfl⟩ := hv
          obtain ⟨i', ud', z', T'⟩ := td_ok hde
          have hrun := run_make (P := P) w t e i' z' (T.uslice htag) T'.info T'.zer kn kc n' n' h0 (Int.le_refl _) (by rw [T'.bytes, Int.mul_comm]; omega) (by omega)
          rw [T'.sz] at hrun
          have hes : ∀ e ∈ List.replicate n'.toNat de.zero, e.length = de.sz := fun e he => by rw [(List.mem_replicate.1 he).2]; exact T'.len
          have hzero : RepPs S w ((Array.range (n'.toNat * de.sz)).map (fun k => z'.cells[k % de.sz]!)).toList (List.replicate n'.toNat de.zero).flatten :=
            zero_fill T'.zsize T'.len ((RepPs.cs (γ := γ)).2 (T'.rep γ S w))
          have hcells : madeCells z'.cells (n'.toNat * de.sz) = (Array.range (n'.toNat * de.sz)).map (fun k => z'.cells[k % de.sz]!) := by
            unfold madeCells; rw [T'.zsize]
          rw [hcells] at hrun
          have key := newarr h hn e de.sz hes ((Array.range (n'.toNat * de.sz)).map (fun k => z'.cells[k % de.sz]!)) n'.toNat (by rw [List.length_replicate]; exact Nat.le_refl _) (by omega) (by simp) (by rw [List.length_replicate, List.take_of_length_le (by simp)]; exact hzero)
          rw [List.length_replicate] at key
          obtain ⟨γ', S', k1, k2, k3, k4, k5⟩ := key
          refine ⟨_, _, γ', S', .inl ?_, k1, k2, k3, k4, k5⟩
          simp [execOp, hkn, hkc, hrun]
        · cases hv
      · cases hv
    · cases hv
  | makeFunc fn first caps =>
    simp only [aop] at hv
    split at hv
    · rename_i l1 l2 h1 h2
      simp only [Option.some.injEq, Prod.mk.injEq] at hv; obtain ⟨rfl, rfl, rfl⟩ := hv
      exact Stp.same h (u := .func fn (first.map a.eval) (caps.map a.eval)) rfl ⟨_, _, rfl, caps_rep he h1, caps_rep he h2⟩
    · cases hv
  | slice t x lo hi mx =>
    obtain ⟨d, hd, hv⟩ := Option.bind_eq_some_iff.1 hv
    have q1 := oav_some he lo; have q2 := oav_some he hi; have q3 := oav_some he mx
    have hxx := he x
    unfold vsl at hv
    split at hv
    · rename_i id es m hxe
      rw [hxe] at hxx
      split at hv
      · rename_i e e' es' l p q htag hH hmx hp hq
        split at hv
        · rename_i de hde
          split at hv
          · rename_i hc
            obtain ⟨rfl, rfl, rfl, h0, h1, h2⟩ := hc
            simp only [Option.some.injEq, Prod.mk.injEq] at hv; obtain ⟨rfl, rfl, rfl⟩ := hv
            obtain ⟨i, ud, z, T⟩ := td_ok hd
            obtain ⟨_, _, _, T2⟩ := td_ok hde
            have hu := T.uslice htag
            obtain ⟨v0, xs, g1, g2, _⟩ := h.obj _ _ hH
            obtain ⟨⟨ax, cx, hax⟩, hxg⟩ := hxx
            rcases hxg with hxg | hxg
            · rw [g1] at hxg; cases hxg
            rw [g1] at hxg; cases hxg
            obtain ⟨_, hcap⟩ := obj_len g2 hax
            have hb := run_bounds (P := P) (w := w) (isS := true) (bnd_inv hp q1.1 q1.2) (bnd_inv hq q2.1 q2.2) h0 h1 h2 hcap
            refine Stp.val (u := .slice (if cx = p.toNat then ax else ax.map (·.add (p.toNat * de.sz))) (q.toNat - p.toNat) (cx - p.toNat)) h ?_ ⟨ax, l.length, cx, .inr (by rw [g1, hax]), _, by omega, hcap, fun hz => ?_, rfl⟩
            rotate_left
            · split
              · rcases hz with hz | hz
                · have hz0 : ∀ z : Addr, z.add 0 = z := fun z => by unfold Addr.add; split <;> simp_all
                  rw [hz]; cases ax <;> simp [hz0]
                · omega
              · rfl
            simp [hax, Instr.sliceAt, Instr.slice, run_underlying hu, hb, T2.sizeOf, q3.2 hmx]
          · cases hv
        · cases hv
      · cases hv
    · rename_i id es lo0 m hxe
      rw [hxe] at hxx
      split at hv
      · rename_i e p q htag hmx hp hq
        split at hv
        · rename_i de hde
          split at hv
          · rename_i hc
            obtain ⟨rfl, h0, h1, h2⟩ := hc
            simp only [Option.some.injEq, Prod.mk.injEq] at hv; obtain ⟨rfl, rfl, rfl⟩ := hv
            obtain ⟨i, ud, z, T⟩ := td_ok hd
            obtain ⟨_, _, _, T2⟩ := td_ok hde
            have hu := T.uslice htag
            obtain ⟨ax, m0, cx, hxg, a1, hl1, hl2, ha1, hax⟩ := hxx
            have hb := run_bounds (P := P) (w := w) (isS := true) (len := m) (cap := cx - lo0) (bnd_inv hp q1.1 q1.2) (bnd_inv hq q2.1 q2.2) h0 h1 h2 (by omega)
            have hadd : ∀ (z : Addr) (i j : Nat), (z.add i).add j = z.add (i + j) := fun z i j => by
              obtain ⟨zb, zo, zs⟩ := z
              unfold Addr.add
              by_cases hi : i = 0
              · subst hi; simp
              · by_cases hj : j = 0
                · subst hj; simp [hi]
                · cases zs <;> simp [hi, hj, Nat.add_assoc]
            have hz0 : ∀ z : Addr, z.add 0 = z := fun z => by unfold Addr.add; split <;> simp_all
            refine Stp.val (u := .slice (if cx - lo0 = p.toNat then a1 else a1.map (·.add (p.toNat * de.sz))) (q.toNat - p.toNat) (cx - lo0 - p.toNat)) h ?_ ⟨ax, m0, cx, hxg, _, by omega, hl2, fun hz => ?_, by rw [Nat.sub_sub]⟩
            · simp [hax, Instr.sliceAt, Instr.slice, run_underlying hu, hb, T2.sizeOf, q3.2 hmx]
            · rcases hz with hz | hz
              · have hl0 : lo0 = 0 := by omega
                have hp0 : p.toNat = 0 := by omega
                rw [ha1 (.inl hl0), hl0, hp0]
                split <;> cases ax <;> simp [hz0]
              · rw [if_neg (by omega), ha1 (.inr (by omega))]
                cases ax
                · rfl
                · simp [hadd, Nat.add_mul]
          · cases hv
        · cases hv
      · cases hv
    · obtain ⟨v', hv', hv⟩ := Option.map_eq_some_iff.1 hv
      simp only [Prod.mk.injEq] at hv; obtain ⟨rfl, rfl, rfl⟩ := hv
      obtain ⟨u, h1, h2⟩ := vslice_sound hd hv' (he x) q1.1 q1.2 q2.1 q2.2 q3.1 q3.2
      exact Stp.val h h1 h2
  | fieldAddr t x f =>
    obtain ⟨d, hd, hv⟩ := Option.bind_eq_some_iff.1 hv
    obtain ⟨v', hv', hv⟩ := Option.map_eq_some_iff.1 hv
    simp only [Prod.mk.injEq] at hv; obtain ⟨rfl, rfl, rfl⟩ := hv
    obtain ⟨u, h1, h2⟩ := vfieldAddr_sound hd hv' (he x)
    exact Stp.val h h1 h2
  | field t x f =>
    obtain ⟨d, hd, hv⟩ := Option.bind_eq_some_iff.1 hv
    obtain ⟨v', hv', hv⟩ := Option.map_eq_some_iff.1 hv
    simp only [Prod.mk.injEq] at hv; obtain ⟨rfl, rfl, rfl⟩ := hv
    obtain ⟨u, h1, h2⟩ := vfield_sound hd hv' (he x)
    exact Stp.val h h1 h2
  | indexAddr t x i =>
    obtain ⟨d, hd, hv⟩ := Option.bind_eq_some_iff.1 hv
    obtain ⟨n, hni, hv⟩ := Option.bind_eq_some_iff.1 hv
    obtain ⟨k, hk⟩ := asInt_inv (he i) hni
    have := idx_sound h (nm := nm) hd hv (he x) k
    rw [← hk] at this
    exact this
  | index t x i =>
    obtain ⟨d, hd, hv⟩ := Option.bind_eq_some_iff.1 hv
    obtain ⟨n, hni, hv⟩ := Option.bind_eq_some_iff.1 hv
    obtain ⟨v', hv', hv⟩ := Option.map_eq_some_iff.1 hv
    simp only [Prod.mk.injEq] at hv; obtain ⟨rfl, rfl, rfl⟩ := hv
    obtain ⟨k, hk⟩ := asInt_inv (he i) hni
    obtain ⟨u, h1, h2⟩ := vindex_sound hd hv' (he x) k
    rw [← hk] at h1
    exact Stp.val h h1 h2
  | extract x i =>
    obtain ⟨v', hv', hv⟩ := Option.map_eq_some_iff.1 hv
    simp only [Prod.mk.injEq] at hv; obtain ⟨rfl, rfl, rfl⟩ := hv
    obtain ⟨u, h1, h2⟩ := vext_sound (P := P) hv' (he x)
    exact Stp.val h h1 h2
  | call c =>
    obtain ⟨callee, args, ats⟩ := c
    cases callee with
    | builtin b =>
      have := builtin_sound h hn (P := P) (ts := ats) hv ty (args.map fun | .const _ => true | _ => false) (args_rep he args)
      rw [Go.BigFrame.execOp_builtin]
      exact this
    | value f => cases hv
    | invoke r m => cases hv
  | _ => cases hv
end
end Go.Proofs.Ytcjagcfjpfjanaa.am
end
