import Derived.Laws.Rows
import Derived.Deep.AppendLies
import Derived.Test.YtjjnboenehomgaaPkF0
import Derived.Test.YtjjnboenehomgaaPkF16
import Derived.Test.YtjjnboenehomgaaProg
import Derived.WalkKit
import Derived.Deep.RegionHeld3
import Derived.StillTailTactics
import Derived.Lib.Hide
import Derived.Laws.Tables
import Derived.Deep.CutRange
section
namespace Go.Proofs.Ytjjnboenehomgaa.bs
open Go.ChangeShapes Go.WideShapes Go.ChangeAt Go.RowKit
set_option linter.unusedVariables false
def blockOf : Option Addr → Option Nat
  | some x => some x.block
  | none => none
def Blk (w : World) (g : Nat) (cs : Array Value) (t : TypeId) : Prop := w.heap[g]? = some (.cells cs t (0, 0))
theorem Blk.lt {w : World} {g cs t} (h : Blk w g cs t) : g < w.heap.size := (Array.getElem?_eq_some_iff.1 h).1
theorem Blk.cell {w : World} {g cs t} (h : Blk w g cs t) (i : Nat) : w.cell? ⟨g, i, none⟩ = cs[i]? := cell_of_row w g i cs t _ h
theorem Blk.set {w : World} {g cs t} (h : Blk w g cs t) (i : Nat) (v : Value) : Blk (w.setCell ⟨g, i, none⟩ v) g (cs.setIfInBounds i v) t := heap_setCell_same w g i cs t v h
theorem Blk.new (w : World) (cs : Array Value) (t : TypeId) : Blk (w.alloc (.cells cs t)) w.heap.size cs t := heap_alloc_new w _
theorem Blk.of {w w' : World} {g cs t} (h : Blk w g cs t) (he : w'.heap[g]? = w.heap[g]?) : Blk w' g cs t := by unfold Blk; rw [he]; exact h
theorem Blk.below {w w' : World} {g cs t} (h : Blk w g cs t) (hb : Below w.heap.size w w') : Blk w' g cs t := h.of (hb.block g h.lt)
theorem Blk.drewN {w : World} {g cs t} (h : Blk w g cs t) (m : Nat) : Blk (w.drewN m) g cs t := h
theorem Blk.other {w : World} {g cs t} (h : Blk w g cs t) (p : Addr) (v : Value) (hp : g ≠ p.block) : Blk (w.setCell p v) g cs t := h.of (heap_setCell_other w p g v hp)
structure Turned (w w' : World) (d : Nat) (row : Option Nat) : Prop where
  os : w'.os = w.os
  tape : w'.tape = w.tape
  output : w'.output = w.output
  size : w.heap.size ≤ w'.heap.size
  block : ∀ i, i < w.heap.size → i ≠ d → row ≠ some i → w'.heap[i]? = w.heap[i]?
theorem Turned.of_below {w w' : World} (h : Below w.heap.size w w') (d : Nat) (row : Option Nat) : Turned w w' d row := ⟨h.os, h.tape, h.output, h.size, fun i hi _ _ => h.block i hi⟩
theorem Turned.refl (w : World) (d : Nat) (row : Option Nat) : Turned w w d row := .of_below (Below.refl _ _) d row
theorem Turned.setCell {w w' : World} {d : Nat} {row : Option Nat} (h : Turned w w' d row) (j : Nat) (v : Value) : Turned w (w'.setCell ⟨d, j, none⟩ v) d row :=
  ⟨h.os, h.tape, h.output, by simpa [World.setCell] using h.size, fun i hi hd hr => (Below.heap_setCell w' ⟨d, j, none⟩ v i hd).trans (h.block i hi hd hr)⟩
theorem Turned.drewN {w w' : World} {d : Nat} {row : Option Nat} (h : Turned w w' d row) (m : Nat) : Turned w (w'.drewN m) d row := ⟨h.os, h.tape, h.output, h.size, h.block⟩
theorem Turned.trans {w w' w'' : World} {d : Nat} {row row' : Option Nat} (h : Turned w w' d row) (k : Turned w' w'' d row') (hr : ∀ i, i < w.heap.size → row' = some i → row = some i) : Turned w w'' d row :=
  ⟨k.os.trans h.os, k.tape.trans h.tape, k.output.trans h.output, Nat.le_trans h.size k.size, fun i hi hd hn => (k.block i (Nat.lt_of_lt_of_le hi h.size) hd (fun e => hn (hr i hi e))).trans (h.block i hi hd hn)⟩
theorem Turned.below {w w' : World} {d : Nat} {row : Option Nat} {B : Nat} (h : Turned w w' d row) (hB : B ≤ w.heap.size) (hd : B ≤ d) (hr : ∀ i, row = some i → B ≤ i) : Below B w w' :=
  ⟨h.os, h.tape, h.output, h.size, fun i hi => h.block i (by omega) (by omega) (fun e => by have := hr i e; omega)⟩
theorem OwnB.blockLt {w : World} {base e a n c l} (h : OwnB w base e a n c l) {i : Nat} (hi : blockOf a = some i) : base ≤ i ∧ i < w.heap.size := by
  rcases h.cases with ⟨rfl, _⟩ | ⟨g, rfl, h1, h2, _⟩
  · cases hi
  · cases hi; exact ⟨h1, h2⟩
theorem OwnB.of {w w' : World} {base e a n c l} (h : OwnB w base e a n c l) (hk : ∀ i, blockOf a = some i → w'.heap[i]? = w.heap[i]?) : OwnB w' base e a n c l := by
  rcases h.cases with ⟨rfl, rfl, rfl⟩ | ⟨g, rfl, h1, h2, _⟩
  · exact ⟨⟨h.own.1, .inl ⟨rfl, rfl⟩⟩, h.all⟩
  · exact h.keep (hk g rfl)
theorem OwnB.turned {w w' : World} {base e a n c l} (h : OwnB w base e a n c l) {d : Nat} {row : Option Nat} (ht : Turned w w' d row) (h1 : blockOf a ≠ some d) (h2 : ∀ i, row = some i → blockOf a ≠ some i) : OwnB w' base e a n c l :=
  h.of (fun i hi => ht.block i (h.blockLt hi).2 (fun e => h1 (by rw [hi, e])) (fun e => h2 i e hi))
theorem OwnB.first {w : World} {base e a n c l} (h : OwnB w base e a n c l) (k : Nat) (hk : k ≤ n) : OwnB w base e a k c (l.take k) := by
  have hl := h.len
  refine ⟨⟨by simp [cellsOf]; omega, ?_⟩, fun x hx => h.all x (List.mem_of_mem_take hx)⟩
  rcases h.own.2 with ⟨hv, h0⟩ | ⟨g, cap, cur, hv, hg, hh, hn, hm, hs, ht⟩
  · simp only [Value.slice.injEq] at hv
    obtain ⟨rfl, _, rfl⟩ := hv
    have : k = 0 := by omega
    subst this
    exact .inl ⟨rfl, rfl⟩
  · simp only [Value.slice.injEq] at hv
    obtain ⟨rfl, _, rfl⟩ := hv
    refine .inr ⟨g, c, cur, rfl, hg, hh, by omega, hm, hs, ?_⟩
    rw [Nat.mul_one] at ht ⊢
    rw [cellsOf, List.map_take, ← cellsOf, ← ht, List.take_take, Nat.min_eq_left hk]
section
variable {P : Program} {w : World} {ops : Array Oper} {rest : List Oper} {o : Oper} {a : Act} {Q : Exit → Act → World → Prop}
end
end Go.Proofs.Ytjjnboenehomgaa.bs
end
section
namespace Go.Proofs.Ytjjnboenehomgaa.bs
open Go.ChangeShapes Go.WideShapes Go.ChangeAt Go.RowKit
set_option linter.unusedVariables false
structure Src {α : Type} (cells : α → List Value) (w : World) (a : Option Addr) (m c : Nat) (l : List α) : Prop where
  num : l.length = m
  none : a = none → m = 0 ∧ c = 0
  at' : ∀ ad, a = some ad → ∀ j u, (l.flatMap cells)[j]? = some u → w.cell? (ad.add j) = some u
variable {α : Type} {size : Nat} {cells : α → List Value}
theorem Src.below {w w' : World} {a m c} {l : List α} (h : Src cells w a m c l) (hb : Below w.heap.size w w') : Src cells w' a m c l :=
  ⟨h.num, h.none, fun ad ha j u hu => by
    have h1 := h.at' ad ha j u hu
    rw [hb.cell (World.block_lt_of_cell? w _ h1)]; exact h1⟩
theorem OwnS.src {w : World} {base e a n c} {l : List α} (h : OwnS size cells w base e a n c l) (hz : ∀ x, (cells x).length = size) : Src cells w a n c l := by
  rcases h.cases with ⟨rfl, rfl, rfl⟩ | ⟨g, rfl, hg, hs, hn, hc⟩
  · exact ⟨h.num, fun _ => ⟨rfl, rfl⟩, fun ad ha => by cases ha⟩
  · refine ⟨h.num, fun ha => by simp at ha, fun ad ha j u hu => ?_⟩
    cases ha
    have hj : j < n * size := by
      have h1 := (List.getElem?_eq_some_iff.1 hu).1
      have h2 := h.own.1
      omega
    have hadd : (⟨g, 0, none⟩ : Addr).add j = ⟨g, j, none⟩ := by unfold Addr.add; split <;> simp_all
    rw [hadd, h.own.cellAt j hj]
    exact hu
section
variable {P : Program} {w : World} {ops : Array Oper} {rest : List Oper} {o : Oper} {a : Act} {Q : Exit → Act → World → Prop}
end
end Go.Proofs.Ytjjnboenehomgaa.bs
end
section
namespace Go.Proofs.Ytjjnboenehomgaa.te
open Go.ChangeShapes Go.WideShapes Go.ChangeAt Go.RowKit
open bs tr
set_option linter.unusedVariables false
structure Lab where
  k : Int
  n : Int
  s : ByteArray
  f : Int
  t : Int
def I64 (z : Int) : Prop := -9223372036854775808 ≤ z ∧ z ≤ 9223372036854775807
structure In64 (x : Lab) : Prop where
  k : I64 x.k
  n : I64 x.n
  f : I64 x.f
  t : I64 x.t
structure VH (w : World) (b o : Nat) (x : Lab) (a : Option Addr) (m c : Nat) : Prop where
  c0 : w.cell? ⟨b, o, none⟩ = some (.int .i64 x.k)
  c1 : w.cell? ⟨b, o + 3, none⟩ = some (.slice a m c)
  c2 : w.cell? ⟨b, o + 1, none⟩ = some (.int .i64 x.n)
  c3 : w.cell? ⟨b, o + 2, none⟩ = some (.string x.s)
  c4 : w.cell? ⟨b, o + 4, none⟩ = some (.int .i64 x.f)
  c5 : w.cell? ⟨b, o + 5, none⟩ = some (.int .i64 x.t)
  r0 : In64 x
theorem vh_stays : HStays VH := fun w w' b o x a m c h hb =>
  ⟨by rw [World.cell?_of_block (w := w) (a := ⟨b, o, none⟩) hb]; exact h.c0, by rw [World.cell?_of_block (w := w) (a := ⟨b, o + 3, none⟩) hb]; exact h.c1, by rw [World.cell?_of_block (w := w) (a := ⟨b, o + 1, none⟩) hb]; exact h.c2,
   by rw [World.cell?_of_block (w := w) (a := ⟨b, o + 2, none⟩) hb]; exact h.c3, by rw [World.cell?_of_block (w := w) (a := ⟨b, o + 4, none⟩) hb]; exact h.c4, by rw [World.cell?_of_block (w := w) (a := ⟨b, o + 5, none⟩) hb]; exact h.c5, h.r0⟩
abbrev VT := Tr Lab
def All : Nat → Prop := fun _ => True
abbrev VAs (S : Nat → Prop) (w : World) (b o : Nat) (t : VT) : Prop := Ta 6 VH S w b o t
abbrev VSs (S : Nat → Prop) (w : World) (a : Option Addr) (n c : Nat) (l : List VT) : Prop := Ts 6 VH S w a n c l
abbrev VA (w : World) (b o : Nat) (t : VT) : Prop := VAs All w b o t
abbrev VS (w : World) (a : Option Addr) (n c : Nat) (l : List VT) : Prop := VSs All w a n c l
theorem va_stays : Stays VA := taStays vh_stays
theorem sb_all (a : Option Addr) (n : Nat) : SB All a n := fun _ _ _ _ => trivial
structure Vn where
  x : Lab
  a : Option Addr
  m : Nat
  c : Nat
  l : List VT
def Vn.val (v : Vn) : Value := .agg #[.int .i64 v.x.k, .int .i64 v.x.n, .string v.x.s, .slice v.a v.m v.c, .int .i64 v.x.f, .int .i64 v.x.t]
def Vn.tr (v : Vn) : VT := .mk v.x v.l
def Vn.Rd (w : World) (v : Vn) : Prop := VS w v.a v.m v.c v.l ∧ In64 v.x
def Vn.cells (v : Vn) : List Value := [.int .i64 v.x.k, .int .i64 v.x.n, .string v.x.s, .slice v.a v.m v.c, .int .i64 v.x.f, .int .i64 v.x.t]
theorem Vn.Rd.below {w w' : World} {v : Vn} (h : v.Rd w) (hb : Below w.heap.size w w') : v.Rd w' := ⟨h.1.below va_stays hb, h.2⟩
structure Six (w : World) (b o : Nat) (v : Vn) : Prop where
  c0 : w.cell? ⟨b, o, none⟩ = some (.int .i64 v.x.k)
  c1 : w.cell? ⟨b, o + 3, none⟩ = some (.slice v.a v.m v.c)
  c2 : w.cell? ⟨b, o + 1, none⟩ = some (.int .i64 v.x.n)
  c3 : w.cell? ⟨b, o + 2, none⟩ = some (.string v.x.s)
  c4 : w.cell? ⟨b, o + 4, none⟩ = some (.int .i64 v.x.f)
  c5 : w.cell? ⟨b, o + 5, none⟩ = some (.int .i64 v.x.t)
theorem VA.out {w b o} {t : VT} (h : VA w b o t) : ∃ v : Vn, v.tr = t ∧ v.Rd w ∧ w.cell? ⟨b, o, none⟩ = some (.int .i64 v.x.k) ∧ w.cell? ⟨b, o + 3, none⟩ = some (.slice v.a v.m v.c) ∧ w.cell? ⟨b, o + 1, none⟩ = some (.int .i64 v.x.n) ∧ w.cell? ⟨b, o + 2, none⟩ = some (.string v.x.s) ∧ w.cell? ⟨b, o + 4, none⟩ = some (.int .i64 v.x.f) ∧ w.cell? ⟨b, o + 5, none⟩ = some (.int .i64 v.x.t) := by
  cases t with
  | mk x l =>
    obtain ⟨a, m, c, h1, h2, _⟩ := Ta.out h
    exact ⟨⟨x, a, m, c, l⟩, rfl, ⟨h2, h1.r0⟩, h1.c0, h1.c1, h1.c2, h1.c3, h1.c4, h1.c5⟩
structure Vn.Rs (S : Nat → Prop) (w : World) (v : Vn) : Prop where
  rd : VSs S w v.a v.m v.c v.l
  sb : SB S v.a v.m
  x64 : In64 v.x
theorem Vn.Rs.agree {S : Nat → Prop} {w w' : World} {v : Vn} (h : v.Rs S w) (hk : Kp S w w') : v.Rs S w' := ⟨Ts.agree vh_stays hk h.rd h.sb, h.sb, h.x64⟩
theorem Vn.Rs.below {S : Nat → Prop} {w w' : World} {v : Vn} (h : v.Rs S w) (hb : Below w.heap.size w w') : v.Rs S w' := h.agree (.of_below hb)
theorem Vn.Rs.weak {S S' : Nat → Prop} {w : World} {v : Vn} (h : v.Rs S w) (hS : ∀ b, b < w.heap.size → S b → S' b) : v.Rs S' w := ⟨Ts.weak h.rd hS, SB.weak h.sb h.rd hS, h.x64⟩
theorem Vn.Rd.rs {w : World} {v : Vn} (h : v.Rd w) : v.Rs (· < w.heap.size) w := ⟨Ts.weak h.1 (fun _ h _ => h), SB.weak (sb_all _ _) h.1 (fun _ h _ => h), h.2⟩
theorem VAs.out {S : Nat → Prop} {w b o} {t : VT} (h : VAs S w b o t) : ∃ v : Vn, v.tr = t ∧ v.Rs S w ∧ w.cell? ⟨b, o, none⟩ = some (.int .i64 v.x.k) ∧ w.cell? ⟨b, o + 3, none⟩ = some (.slice v.a v.m v.c) ∧ w.cell? ⟨b, o + 1, none⟩ = some (.int .i64 v.x.n) ∧ w.cell? ⟨b, o + 2, none⟩ = some (.string v.x.s) ∧ w.cell? ⟨b, o + 4, none⟩ = some (.int .i64 v.x.f) ∧ w.cell? ⟨b, o + 5, none⟩ = some (.int .i64 v.x.t) := by
  cases t with
  | mk x l =>
    obtain ⟨a, m, c, h1, h2, h3⟩ := Ta.out h
    exact ⟨⟨x, a, m, c, l⟩, rfl, ⟨h2, h3, h1.r0⟩, h1.c0, h1.c1, h1.c2, h1.c3, h1.c4, h1.c5⟩
theorem VAs.intro {S : Nat → Prop} {w b o} {v : Vn} (h : v.Rs S w) (hc : Six w b o v) : VAs S w b o v.tr :=
  Ta.intro (a := v.a) (m := v.m) (c := v.c) ⟨hc.c0, hc.c1, hc.c2, hc.c3, hc.c4, hc.c5, h.x64⟩ h.rd h.sb
theorem VA.intro {w b o} {v : Vn} (h : v.Rd w) (hc : Six w b o v) : VA w b o v.tr :=
  Ta.intro (a := v.a) (m := v.m) (c := v.c) ⟨hc.c0, hc.c1, hc.c2, hc.c3, hc.c4, hc.c5, h.2⟩ h.1 (sb_all _ _)
end Go.Proofs.Ytjjnboenehomgaa.te
end
section
namespace Go.Proofs.Ytjjnboenehomgaa.tr
set_option linter.unusedVariables false
namespace Tr
variable {α : Type}
theorem ext' {a b : Tr α} (h : a.lab = b.lab) (hk : a.kids = b.kids) : a = b := by cases a; cases b; simp_all [lab, kids]
theorem len_size {x : α} {l : List (Tr α)} : l.length < size (.mk x l) := by
  rw [size_mk]
  have : l.length ≤ (l.map size).sum := by
    induction l with
    | nil => simp
    | cons y l ih => have := size_pos y; simp; omega
  omega
end Tr
end Go.Proofs.Ytjjnboenehomgaa.tr
end
section
namespace Go.Proofs.Ytjjnboenehomgaa.te
open Go.ChangeShapes Go.WideShapes Go.ChangeAt Go.RowKit
open bs tr
set_option linter.unusedVariables false
noncomputable def key (K : Lab → Lab) (t : VT) : VT := Tr.fold (fun x _ b => .mk (K x) b) t
theorem recs_at {α : Type} {size : Nat} {E : World → Nat → Nat → α → Prop} {w : World} {a n c} {l : List α} (h : Recs size E w a n c l) {k : Nat} (hk : k < n) : ∃ b off x, a = some ⟨b, off, none⟩ ∧ b < w.heap.size ∧ l[k]? = some x ∧ E w b (off + k * size) x := by
  obtain ⟨x, hx⟩ := Recs.lt h k hk
  obtain ⟨b, off, ha, hb, he⟩ := Recs.one h k x hx
  exact ⟨b, off, x, ha, hb, hx, he⟩
end Go.Proofs.Ytjjnboenehomgaa.te
end
section
namespace Go.Proofs.Ytjjnboenehomgaa.te
open Go.ChangeShapes Go.WideShapes Go.ChangeAt Go.RowKit
open bs tr
set_option linter.unusedVariables false
def BP (w : World) (e : Ending) (w' : World) : Prop := ∃ r : Bool, e = .returned (.bool r) ∧ Below w.heap.size w w'
end Go.Proofs.Ytjjnboenehomgaa.te
end
section
namespace Go.Proofs.Ytjjnboenehomgaa.te
open Go.ChangeShapes Go.WideShapes Go.ChangeAt Go.RowKit
open bs tr
set_option linter.unusedVariables false
abbrev VB (w : World) (g : Nat) (v : Vn) : Prop := Blk w g #[.int .i64 v.x.k, .int .i64 v.x.n, .string v.x.s, .slice v.a v.m v.c, .int .i64 v.x.f, .int .i64 v.x.t] 24
def lab0 : Lab := ⟨0, 0, ⟨#[]⟩, 0, 0⟩
def v0 : Vn := ⟨lab0, none, 0, 0, []⟩
theorem i64_0 : te.I64 0 := ⟨by decide, by decide⟩
theorem v0_rd (w : World) : v0.Rd w := ⟨⟨rfl, Nat.le_refl _, by show 0 ≤ _; omega, fun _ => rfl, .inl rfl⟩, ⟨i64_0, i64_0, i64_0, i64_0⟩⟩
structure Only (w w' : World) (g : Nat) : Prop where
  os : w'.os = w.os
  tape : w'.tape = w.tape
  output : w'.output = w.output
  size : w'.heap.size = w.heap.size
  block : ∀ k, k ≠ g → w'.heap[k]? = w.heap[k]?
theorem Only.below {w w' : World} {g B : Nat} (h : Only w w' g) (hB : B ≤ g) : Below B w w' := ⟨h.os, h.tape, h.output, Nat.le_of_eq h.size.symm, fun k hk => h.block k (by omega)⟩
theorem Only.blk {w w' : World} {g k : Nat} {cs : Array Value} {t : TypeId} (h : Only w w' g) (hb : Blk w k cs t) (hk : k ≠ g) : Blk w' k cs t := hb.of (h.block k hk)
theorem only_setRow (w : World) (g : Nat) (cs : Array Value) : Only w (w.setRow g cs) g := ⟨rfl, rfl, rfl, by simp [World.setRow], fun k hk => Go.setRow_other w g k cs hk⟩
theorem blk_setRow {w : World} {g : Nat} {cs cs' : Array Value} {t : TypeId} (h : Blk w g cs t) : Blk (w.setRow g cs') g cs' t := setRow_heap w g cs cs' t (0, 0) h
theorem val_one (v : Vn) : (#[.int .i64 v.x.k, .int .i64 v.x.n, .string v.x.s, .slice v.a v.m v.c, .int .i64 v.x.f, .int .i64 v.x.t] : Array Value).all (·.oneCell') = true := by
  simp [Value.oneCell']
section
variable {w : World} {ops : Array Oper} {rest : List Oper} {o : Oper} {a : Act} {Q : Exit → Act → World → Prop}
theorem wpList_store_T (hgd : o.guard = none) (x y : Operand) (ho : o.op = .store 24 x y) {g : Nat} (hx : a.eval x = .pointer (some ⟨g, 0, none⟩)) {u : Vn} (hr : VB w g u) (v : Vn) (hy : a.eval y = v.val)
    (k : ∀ w', VB w' g v → Only w w' g → wpList Try.prog ops Q rest (a.put o.dst undef) w') : wpList Try.prog ops Q (o :: rest) a w :=
  wpList_store_row hgd 24 x y ho g #[.int .i64 v.x.k, .int .i64 v.x.n, .string v.x.s, .slice v.a v.m v.c, .int .i64 v.x.f, .int .i64 v.x.t] hx hy 24 _ hr (by kernel_rfl) rfl (val_one v) (k _ (blk_setRow hr) (only_setRow _ _ _))
theorem wpList_load_T (hgd : o.guard = none) (x : Operand) (ho : o.op = .load 24 x) {g : Nat} (hx : a.eval x = .pointer (some ⟨g, 0, none⟩)) {v : Vn} (hr : VB w g v)
    (h : wpList Try.prog ops Q rest (a.put o.dst (.agg #[.int .i64 v.x.k, .int .i64 v.x.n, .string v.x.s, .slice v.a v.m v.c, .int .i64 v.x.f, .int .i64 v.x.t])) w) : wpList Try.prog ops Q (o :: rest) a w :=
  wpList_load_row hgd 24 x ho g hx 24 _ (0, 0) _ hr Try.underlying24 rfl (by kernel_rfl) h
end
theorem results_cell_tmp {P : Program} {fn : Func} {p q : Tmp} {ty : TypeId} (h : fn.results = #[.cell p ty, .tmp q]) (tmps : Array Value) (w : World) (g : Nat) (t : TypeId) (cs : Array Value) (d : TypeDesc)
    (hp : tmps.getD p undef = .pointer (some ⟨g, 0, none⟩)) (hg : Blk w g cs t)
    (hu : P.underlying ty = some d) (hd : (match d with | .struct _ | .array _ _ => true | _ => false) = true) (hi : (P.info? ty).map (·.size) = some cs.size) :
    (results fn tmps).run P w = .ok (.tuple #[.agg cs, tmps.getD q undef]) w := by
  have hp' : tmps[p]?.getD undef = .pointer (some ⟨g, 0, none⟩) := by simpa using hp
  simp [results, h, hp', asAddr, run_loadVar_row w g t ty cs _ d hg hu hd hi]
theorem vb_new (w : World) (v : Vn) : VB (w.alloc (.cells #[.int .i64 v.x.k, .int .i64 v.x.n, .string v.x.s, .slice v.a v.m v.c, .int .i64 v.x.f, .int .i64 v.x.t] 24)) w.heap.size v := Blk.new w _ _
theorem vb_new0 (w : World) : VB (w.alloc (.cells #[.int .i64 0, .int .i64 0, .string ⟨#[]⟩, .slice none 0 0, .int .i64 0, .int .i64 0] 24)) w.heap.size v0 := Blk.new w _ _
theorem size_alloc (w : World) (o : Obj) : (w.alloc o).heap.size = w.heap.size + 1 := by simp
theorem below_alloc (w : World) (o : Obj) : Below w.heap.size w (w.alloc o) := (Below.refl _ _).alloc (Nat.le_refl _) _
end Go.Proofs.Ytjjnboenehomgaa.te
end
section
namespace Go.Proofs.Ytjjnboenehomgaa.fo
open Go.ChangeShapes Go.WideShapes Go.ChangeAt Go.RowKit
open ariths
set_option linter.unusedVariables false
def I6 (x : Int) : Prop := -9223372036854775808 ≤ x ∧ x ≤ 9223372036854775807
theorem tmod64 {a b : Int} (h0 : -9223372036854775808 ≤ a) (h1 : a ≤ 9223372036854775807) : I6 (a.tmod b) := by
  have h := Int.natAbs_tmod a b
  have h2 : a.natAbs % b.natAbs ≤ a.natAbs := Nat.mod_le _ _
  unfold I6
  by_cases ha : 0 ≤ a
  · have := Int.tmod_nonneg b ha
    omega
  · have := Int.tmod_nonneg b (show 0 ≤ -a by omega)
    rw [Int.neg_tmod] at this
    omega
theorem key64 (op a b : Int) (h0 : -9223372036854775808 ≤ a) (h1 : a ≤ 9223372036854775807) (g0 : -9223372036854775808 ≤ b) (g1 : b ≤ 9223372036854775807) : ∃ x t z, Tells op a b x t z ∧ I6 x ∧ I6 z := by
  by_cases c1 : op = 1
  · subst c1; exact ⟨_, _, _, fun W => ⟨Two_or a b W, RTwo_or a b W, One_neg a W, ROne_neg a W⟩, by first | exact wrap64_bd _ | (unfold I6 truth; split <;> omega) | (unfold I6; omega) | exact tmod64 h0 h1, by first | exact wrap64_bd _ | (unfold I6 truth; split <;> omega) | (unfold I6; omega) | exact tmod64 h0 h1⟩
  by_cases c2 : op = 2
  · subst c2; exact ⟨_, _, _, fun W => ⟨Two_and a b W, RTwo_and a b W, One_not a W, ROne_not a W⟩, by first | exact wrap64_bd _ | (unfold I6 truth; split <;> omega) | (unfold I6; omega) | exact tmod64 h0 h1, by first | exact wrap64_bd _ | (unfold I6 truth; split <;> omega) | (unfold I6; omega) | exact tmod64 h0 h1⟩
  by_cases c3 : op = 3
  · subst c3; exact ⟨_, _, _, fun W => ⟨Two_eq a b W, RTwo_eq a b W, One_other 3 a W rfl rfl, ROne_other 3 a W rfl rfl⟩, by first | exact wrap64_bd _ | (unfold I6 truth; split <;> omega) | (unfold I6; omega) | exact tmod64 h0 h1, by first | exact wrap64_bd _ | (unfold I6 truth; split <;> omega) | (unfold I6; omega) | exact tmod64 h0 h1⟩
  by_cases c4 : op = 4
  · subst c4; exact ⟨_, _, _, fun W => ⟨Two_ne a b W, RTwo_ne a b W, One_other 4 a W rfl rfl, ROne_other 4 a W rfl rfl⟩, by first | exact wrap64_bd _ | (unfold I6 truth; split <;> omega) | (unfold I6; omega) | exact tmod64 h0 h1, by first | exact wrap64_bd _ | (unfold I6 truth; split <;> omega) | (unfold I6; omega) | exact tmod64 h0 h1⟩
  by_cases c5 : op = 5
  · subst c5; exact ⟨_, _, _, fun W => ⟨Two_lt a b W, RTwo_lt a b W, One_other 5 a W rfl rfl, ROne_other 5 a W rfl rfl⟩, by first | exact wrap64_bd _ | (unfold I6 truth; split <;> omega) | (unfold I6; omega) | exact tmod64 h0 h1, by first | exact wrap64_bd _ | (unfold I6 truth; split <;> omega) | (unfold I6; omega) | exact tmod64 h0 h1⟩
  by_cases c6 : op = 6
  · subst c6; exact ⟨_, _, _, fun W => ⟨Two_le a b W, RTwo_le a b W, One_other 6 a W rfl rfl, ROne_other 6 a W rfl rfl⟩, by first | exact wrap64_bd _ | (unfold I6 truth; split <;> omega) | (unfold I6; omega) | exact tmod64 h0 h1, by first | exact wrap64_bd _ | (unfold I6 truth; split <;> omega) | (unfold I6; omega) | exact tmod64 h0 h1⟩
  by_cases c7 : op = 7
  · subst c7; exact ⟨_, _, _, fun W => ⟨Two_gt a b W, RTwo_gt a b W, One_other 7 a W rfl rfl, ROne_other 7 a W rfl rfl⟩, by first | exact wrap64_bd _ | (unfold I6 truth; split <;> omega) | (unfold I6; omega) | exact tmod64 h0 h1, by first | exact wrap64_bd _ | (unfold I6 truth; split <;> omega) | (unfold I6; omega) | exact tmod64 h0 h1⟩
  by_cases c8 : op = 8
  · subst c8; exact ⟨_, _, _, fun W => ⟨Two_ge a b W, RTwo_ge a b W, One_other 8 a W rfl rfl, ROne_other 8 a W rfl rfl⟩, by first | exact wrap64_bd _ | (unfold I6 truth; split <;> omega) | (unfold I6; omega) | exact tmod64 h0 h1, by first | exact wrap64_bd _ | (unfold I6 truth; split <;> omega) | (unfold I6; omega) | exact tmod64 h0 h1⟩
  by_cases c9 : op = 9
  · subst c9; exact ⟨_, _, _, fun W => ⟨Two_add a b W, RTwo_add a b W, One_other 9 a W rfl rfl, ROne_other 9 a W rfl rfl⟩, by first | exact wrap64_bd _ | (unfold I6 truth; split <;> omega) | (unfold I6; omega) | exact tmod64 h0 h1, by first | exact wrap64_bd _ | (unfold I6 truth; split <;> omega) | (unfold I6; omega) | exact tmod64 h0 h1⟩
  by_cases c10 : op = 10
  · subst c10; exact ⟨_, _, _, fun W => ⟨Two_sub a b W, RTwo_sub a b W, One_other 10 a W rfl rfl, ROne_other 10 a W rfl rfl⟩, by first | exact wrap64_bd _ | (unfold I6 truth; split <;> omega) | (unfold I6; omega) | exact tmod64 h0 h1, by first | exact wrap64_bd _ | (unfold I6 truth; split <;> omega) | (unfold I6; omega) | exact tmod64 h0 h1⟩
  by_cases c11 : op = 11
  · subst c11; exact ⟨_, _, _, fun W => ⟨Two_mul a b W, RTwo_mul a b W h0 h1 g0 g1, One_other 11 a W rfl rfl, ROne_other 11 a W rfl rfl⟩, by first | exact wrap64_bd _ | (unfold I6 truth; split <;> omega) | (unfold I6; omega) | exact tmod64 h0 h1, by first | exact wrap64_bd _ | (unfold I6 truth; split <;> omega) | (unfold I6; omega) | exact tmod64 h0 h1⟩
  by_cases c12 : op = 12
  · subst c12
    by_cases hb : b = 0
    · exact ⟨_, _, _, fun W => ⟨Two_div_zero a b W hb, RTwo_div_zero a b W hb, One_other 12 a W rfl rfl, ROne_other 12 a W rfl rfl⟩, by first | exact wrap64_bd _ | (unfold I6 truth; split <;> omega) | (unfold I6; omega) | exact tmod64 h0 h1, by first | exact wrap64_bd _ | (unfold I6 truth; split <;> omega) | (unfold I6; omega) | exact tmod64 h0 h1⟩
    · by_cases hm : b = -1
      · refine ⟨_, _, _, fun W => ⟨Two_div_neg a b W hm, ?_, One_other 12 a W rfl rfl, ROne_other 12 a W rfl rfl⟩, by first | exact wrap64_bd _ | (unfold I6 truth; split <;> omega) | (unfold I6; omega) | exact tmod64 h0 h1, by first | exact wrap64_bd _ | (unfold I6 truth; split <;> omega) | (unfold I6; omega) | exact tmod64 h0 h1⟩
        have h := RTwo_div a b W h0 h1 g0 g1 hb
        rw [hm, Int.tdiv_neg, Int.tdiv_one] at h
        rw [hm]
        exact h
      · exact ⟨_, _, _, fun W => ⟨Two_div_any a b W h0 h1 g0 g1 hb hm, RTwo_div a b W h0 h1 g0 g1 hb, One_other 12 a W rfl rfl, ROne_other 12 a W rfl rfl⟩, by first | exact wrap64_bd _ | (unfold I6 truth; split <;> omega) | (unfold I6; omega) | exact tmod64 h0 h1, by first | exact wrap64_bd _ | (unfold I6 truth; split <;> omega) | (unfold I6; omega) | exact tmod64 h0 h1⟩
  by_cases c13 : op = 13
  · subst c13
    by_cases hb : b = 0
    · exact ⟨_, _, _, fun W => ⟨Two_rem_zero a b W hb, RTwo_rem_zero a b W hb, One_other 13 a W rfl rfl, ROne_other 13 a W rfl rfl⟩, by first | exact wrap64_bd _ | (unfold I6 truth; split <;> omega) | (unfold I6; omega) | exact tmod64 h0 h1, by first | exact wrap64_bd _ | (unfold I6 truth; split <;> omega) | (unfold I6; omega) | exact tmod64 h0 h1⟩
    · by_cases hm : b = -1
      · refine ⟨_, _, _, fun W => ⟨Two_rem_neg a b W hm, ?_, One_other 13 a W rfl rfl, ROne_other 13 a W rfl rfl⟩, by first | exact wrap64_bd _ | (unfold I6 truth; split <;> omega) | (unfold I6; omega) | exact tmod64 h0 h1, by first | exact wrap64_bd _ | (unfold I6 truth; split <;> omega) | (unfold I6; omega) | exact tmod64 h0 h1⟩
        have h := RTwo_rem a b W h0 h1 g0 g1 hb
        rw [hm, Int.tmod_neg, Int.tmod_one] at h
        rw [hm]
        exact h
      · exact ⟨_, _, _, fun W => ⟨Two_rem_any a b W h0 h1 g0 g1 hb hm, RTwo_rem a b W h0 h1 g0 g1 hb, One_other 13 a W rfl rfl, ROne_other 13 a W rfl rfl⟩, by first | exact wrap64_bd _ | (unfold I6 truth; split <;> omega) | (unfold I6; omega) | exact tmod64 h0 h1, by first | exact wrap64_bd _ | (unfold I6 truth; split <;> omega) | (unfold I6; omega) | exact tmod64 h0 h1⟩
  exact ⟨_, _, _, fun W => ⟨Two_other op a b W (beq_eq_false_iff_ne.2 c1) (beq_eq_false_iff_ne.2 c2) (beq_eq_false_iff_ne.2 c3) (beq_eq_false_iff_ne.2 c4) (beq_eq_false_iff_ne.2 c5) (beq_eq_false_iff_ne.2 c6) (beq_eq_false_iff_ne.2 c7) (beq_eq_false_iff_ne.2 c8) (beq_eq_false_iff_ne.2 c9) (beq_eq_false_iff_ne.2 c10) (beq_eq_false_iff_ne.2 c11) (beq_eq_false_iff_ne.2 c12) (beq_eq_false_iff_ne.2 c13), RTwo_other op a b W (beq_eq_false_iff_ne.2 c1) (beq_eq_false_iff_ne.2 c2) (beq_eq_false_iff_ne.2 c3) (beq_eq_false_iff_ne.2 c4) (beq_eq_false_iff_ne.2 c5) (beq_eq_false_iff_ne.2 c6) (beq_eq_false_iff_ne.2 c7) (beq_eq_false_iff_ne.2 c8) (beq_eq_false_iff_ne.2 c9) (beq_eq_false_iff_ne.2 c10) (beq_eq_false_iff_ne.2 c11) (beq_eq_false_iff_ne.2 c12) (beq_eq_false_iff_ne.2 c13), One_other op a W (beq_eq_false_iff_ne.2 c1) (beq_eq_false_iff_ne.2 c2), ROne_other op a W (beq_eq_false_iff_ne.2 c1) (beq_eq_false_iff_ne.2 c2)⟩, by first | exact wrap64_bd _ | (unfold I6 truth; split <;> omega) | (unfold I6; omega) | exact tmod64 h0 h1, by first | exact wrap64_bd _ | (unfold I6 truth; split <;> omega) | (unfold I6; omega) | exact tmod64 h0 h1⟩
open Classical in
noncomputable def tw (op a b : Int) : Int × Int × Int := if op = 9 then (wrap64 (a + b), 0, 0) else if h : I6 a ∧ I6 b then
    (Classical.choose (key64 op a b h.1.1 h.1.2 h.2.1 h.2.2), Classical.choose (Classical.choose_spec (key64 op a b h.1.1 h.1.2 h.2.1 h.2.2)), Classical.choose (Classical.choose_spec (Classical.choose_spec (key64 op a b h.1.1 h.1.2 h.2.1 h.2.2)))) else (0, 0, 0)
theorem tw_tells (op a b : Int) (ha : I6 a) (hb : I6 b) : Tells op a b (tw op a b).1 (tw op a b).2.1 (tw op a b).2.2 ∧ I6 (tw op a b).1 ∧ I6 (tw op a b).2.2 := by
  by_cases h9 : op = 9
  · subst h9
    rw [show tw 9 a b = (wrap64 (a + b), 0, 0) from if_pos rfl]
    exact ⟨fun W => ⟨Two_add a b W, RTwo_add a b W, One_other 9 a W rfl rfl, ROne_other 9 a W rfl rfl⟩, wrap64_bd _, show I6 0 from by unfold I6; omega⟩
  have h := Classical.choose_spec (Classical.choose_spec (Classical.choose_spec (key64 op a b ha.1 ha.2 hb.1 hb.2)))
  unfold tw
  rw [if_neg h9, dif_pos ⟨ha, hb⟩]
  exact h
theorem tw_add (a b : Int) : tw 9 a b = (wrap64 (a + b), 0, 0) := if_pos rfl
end Go.Proofs.Ytjjnboenehomgaa.fo
end
section
namespace Go.Proofs.Ytjjnboenehomgaa.fo
open Go.ChangeShapes Go.WideShapes Go.ChangeAt Go.RowKit
open bs tr te
set_option linter.unusedVariables false
def BP (p : Prop) (w : World) (e : Ending) (w' : World) : Prop := ∃ r : Bool, e = .returned (.bool r) ∧ Hid (r = true ↔ p) ∧ Below w.heap.size w w'
theorem tt {p : Prop} (h : p) : (true = true ↔ p) := ⟨fun _ => h, fun _ => rfl⟩
def Lit (t : VT) : Prop := t.lab.s = ⟨#[]⟩ ∧ t.kids = [] ∧ (t.lab.k = 5 ∨ t.lab.k = 6 ∧ (t.lab.n = 0 ∨ t.lab.n = 1))
def leaf (k n : Int) : te.Vn := ⟨⟨k, n, ⟨#[]⟩, 0, 0⟩, none, 0, 0, []⟩
theorem leaf_rd {k n : Int} (hk : te.I64 k) (hn : te.I64 n) (w : World) : (leaf k n).Rd w := ⟨(v0_rd w).1, ⟨hk, hn, i64_0, i64_0⟩⟩
def lv : Option (Int × Int) → te.Vn
  | some (k, n) => leaf k n
  | none => te.v0
def VP (o : Option (Int × Int)) (w : World) (e : Ending) (w' : World) : Prop := e = .returned (.tuple #[(lv o).val, .bool o.isSome]) ∧ Below w.heap.size w w'
theorem ne_empty {s : ByteArray} (h : ¬ s = ⟨#[]⟩) : ¬ s.toList = [] := fun hs => by
  have h2 := text_eq s ⟨#[]⟩
  rw [decide_eq_false h, beq_eq_false_iff_ne, hs] at h2
  exact h2 (by rw [ByteArray.toList_eq])
theorem bool_of (p : Prop) : ∃ b : Bool, b = true ↔ p := by
  by_cases h : p
  · exact ⟨true, by simp [h]⟩
  · exact ⟨false, by simp [h]⟩
set_option maxRecDepth 100000 in
set_option maxHeartbeats 2000000 in
theorem lit_any (a : te.Vn) (w : World) (ha : a.Rd w) : Calls Try.prog 45 #[a.val] w (BP (Lit a.tr) w) := by
  obtain ⟨⟨k, n, s, f, t⟩, va, vm, vc, vl⟩ := a
  have hW : Below w.heap.size w (w.alloc (.cells #[.int .i64 k, .int .i64 n, .string s, .slice va vm vc, .int .i64 f, .int .i64 t] 24)) := (Below.refl _ _).alloc (Nat.le_refl _) _
  have hX : VB (w.alloc (.cells #[.int .i64 k, .int .i64 n, .string s, .slice va vm vc, .int .i64 f, .int .i64 t] 24)) w.heap.size ⟨⟨k, n, s, f, t⟩, va, vm, vc, vl⟩ := vb_new w ⟨⟨k, n, s, f, t⟩, va, vm, vc, vl⟩
  have hlen : vl.length = vm := ha.1.len
  have HLN := Lib.hid hlen
  have hcap : vm ≤ vc := ha.1.cap
  have hmost : vc ≤ 9223372036854775807 := ha.1.most
  have HW := Lib.hid hW; have HX := Lib.hid hX
  clear hW hX ha hlen
  obtain ⟨r, hr⟩ := bool_of (Lit (te.Vn.tr ⟨⟨k, n, s, f, t⟩, va, vm, vc, vl⟩))
  have HR := Lib.hid hr
  have hr2 : (r = true ↔ s = ⟨#[]⟩ ∧ vl = [] ∧ (k = 5 ∨ k = 6 ∧ (n = 0 ∨ n = 1))) := hr
  clear hr
  unfold te.Vn.val
  go_enter Try.func45, Try.ntmps45
  go_upto_region 1 with fail
  generalize hWW : w.alloc (.cells #[.int .i64 k, .int .i64 n, .string s, .slice va vm vc, .int .i64 f, .int .i64 t] 24) = W at HW HX ⊢
  clear hWW
  have p0 := HX.out.cell 0; have p1 := HX.out.cell 1; have p2 := HX.out.cell 2; have p3 := HX.out.cell 3
  simp at p0 p1 p2 p3
  by_cases hs : s = ⟨#[]⟩
  · subst hs
    by_cases hm : vm = 0
    · have hl : vl = [] := List.eq_nil_of_length_eq_zero (by have := HLN.out; omega)
      subst hl
      have b0 : decide ((0 : Int) < (vm : Int)) = false := decide_eq_false (by omega)
      have b1 : decide (0 < vm) = false := decide_eq_false (by omega)
      have b3 : ((vm : Int) == 0) = true := by rw [beq_iff_eq]; omega
      have b2 : ¬ 0 < vm := by omega
      have b4 : ((vm : Int) != 0) = false := by rw [bne_eq_false_iff_eq]; omega
      by_cases k5 : k = 5
      · have c5 : (k == 5) = true := by rw [beq_iff_eq]; exact k5
        have hv : r = true := hr2.2 ⟨rfl, rfl, .inl k5⟩
        have HV := Lib.hid hv
        clear k5 hm hr2 hv
        go_wp2
        go_ret
        exact ⟨r, by rw [HV.out]; rfl, HR, HW.out⟩
      · have c5 : (k == 5) = false := by rw [beq_eq_false_iff_ne]; exact k5
        by_cases k6 : k = 6
        · have c6 : (k == 6) = true := by rw [beq_iff_eq]; exact k6
          by_cases n0 : n = 0
          · have d0 : (n == 0) = true := by rw [beq_iff_eq]; exact n0
            have hv : r = true := hr2.2 ⟨rfl, rfl, .inr ⟨k6, .inl n0⟩⟩
            have HV := Lib.hid hv
            clear k5 k6 n0 hm hr2 hv
            go_wp2
            go_ret
            exact ⟨r, by rw [HV.out]; rfl, HR, HW.out⟩
          · have d0 : (n == 0) = false := by rw [beq_eq_false_iff_ne]; exact n0
            by_cases n1 : n = 1
            · have d1 : (n == 1) = true := by rw [beq_iff_eq]; exact n1
              have hv : r = true := hr2.2 ⟨rfl, rfl, .inr ⟨k6, .inr n1⟩⟩
              have HV := Lib.hid hv
              clear k5 k6 n0 n1 hm hr2 hv
              go_wp2
              go_ret
              exact ⟨r, by rw [HV.out]; rfl, HR, HW.out⟩
            · have d1 : (n == 1) = false := by rw [beq_eq_false_iff_ne]; exact n1
              have hv : r = false := by
                cases r with
                | false => rfl
                | true => have h := (hr2.1 rfl).2.2; omega
              have HV := Lib.hid hv
              clear k5 k6 n0 n1 hm hr2 hv
              go_wp2
              go_ret
              exact ⟨r, by rw [HV.out]; rfl, HR, HW.out⟩
        · have c6 : (k == 6) = false := by rw [beq_eq_false_iff_ne]; exact k6
          have hv : r = false := by
            cases r with
            | false => rfl
            | true => have h := (hr2.1 rfl).2.2; omega
          have HV := Lib.hid hv
          clear k5 k6 hm hr2 hv
          go_wp2
          go_ret
          exact ⟨r, by rw [HV.out]; rfl, HR, HW.out⟩
    · have b0 : decide ((0 : Int) < (vm : Int)) = true := decide_eq_true (by omega)
      have b1 : decide (0 < vm) = true := decide_eq_true (by omega)
      have b2 : 0 < vm := by omega
      have b3 : ((vm : Int) == 0) = false := by rw [beq_eq_false_iff_ne]; omega
      have b4 : ((vm : Int) != 0) = true := by rw [bne_iff_ne]; omega
      have hv : r = false := by
        cases r with
        | false => rfl
        | true => have h := (hr2.1 rfl).2.1; have := HLN.out; rw [h] at this; simp at this; omega
      have HV := Lib.hid hv
      clear hm hr2 hv
      go_wp2
      go_ret
      exact ⟨r, by rw [HV.out]; rfl, HR, HW.out⟩
  · have s1 : ¬ s.toList = [] := ne_empty hs
    have hv : r = false := by
      cases r with
      | false => rfl
      | true => exact absurd (hr2.1 rfl).1 hs
    have HV := Lib.hid hv
    clear hs hr2 hv
    go_wp2
    all_goals (
      go_ret
      exact ⟨r, by rw [HV.out]; rfl, HR, HW.out⟩)
set_option maxRecDepth 100000 in
set_option maxHeartbeats 2000000 in
theorem rlit_any (a : te.Vn) (w : World) (ha : a.Rd w) : Calls Try.prog 50 #[a.val] w (BP (Lit a.tr) w) := by
  obtain ⟨⟨k, n, s, f, t⟩, va, vm, vc, vl⟩ := a
  have hW : Below w.heap.size w (w.alloc (.cells #[.int .i64 k, .int .i64 n, .string s, .slice va vm vc, .int .i64 f, .int .i64 t] 24)) := (Below.refl _ _).alloc (Nat.le_refl _) _
  have hX : VB (w.alloc (.cells #[.int .i64 k, .int .i64 n, .string s, .slice va vm vc, .int .i64 f, .int .i64 t] 24)) w.heap.size ⟨⟨k, n, s, f, t⟩, va, vm, vc, vl⟩ := vb_new w ⟨⟨k, n, s, f, t⟩, va, vm, vc, vl⟩
  have hlen : vl.length = vm := ha.1.len
  have HLN := Lib.hid hlen
  have hcap : vm ≤ vc := ha.1.cap
  have hmost : vc ≤ 9223372036854775807 := ha.1.most
  have HW := Lib.hid hW; have HX := Lib.hid hX
  clear hW hX ha hlen
  obtain ⟨r, hr⟩ := bool_of (Lit (te.Vn.tr ⟨⟨k, n, s, f, t⟩, va, vm, vc, vl⟩))
  have HR := Lib.hid hr
  have hr2 : (r = true ↔ s = ⟨#[]⟩ ∧ vl = [] ∧ (k = 5 ∨ k = 6 ∧ (n = 0 ∨ n = 1))) := hr
  clear hr
  unfold te.Vn.val
  go_enter Try.func50, Try.ntmps50
  go_upto_region 1 with fail
  generalize hWW : w.alloc (.cells #[.int .i64 k, .int .i64 n, .string s, .slice va vm vc, .int .i64 f, .int .i64 t] 24) = W at HW HX ⊢
  clear hWW
  have p0 := HX.out.cell 0; have p1 := HX.out.cell 1; have p2 := HX.out.cell 2; have p3 := HX.out.cell 3
  simp at p0 p1 p2 p3
  by_cases hs : s = ⟨#[]⟩
  · subst hs
    by_cases hm : vm = 0
    · have hl : vl = [] := List.eq_nil_of_length_eq_zero (by have := HLN.out; omega)
      subst hl
      have b0 : decide ((0 : Int) < (vm : Int)) = false := decide_eq_false (by omega)
      have b1 : decide (0 < vm) = false := decide_eq_false (by omega)
      have b3 : ((vm : Int) == 0) = true := by rw [beq_iff_eq]; omega
      have b2 : ¬ 0 < vm := by omega
      have b4 : ((vm : Int) != 0) = false := by rw [bne_eq_false_iff_eq]; omega
      by_cases k5 : k = 5
      · have c5 : (k == 5) = true := by rw [beq_iff_eq]; exact k5
        have hv : r = true := hr2.2 ⟨rfl, rfl, .inl k5⟩
        have HV := Lib.hid hv
        clear k5 hm hr2 hv
        go_wp2
        go_ret
        exact ⟨r, by rw [HV.out]; rfl, HR, HW.out⟩
      · have c5 : (k == 5) = false := by rw [beq_eq_false_iff_ne]; exact k5
        by_cases k6 : k = 6
        · have c6 : (k == 6) = true := by rw [beq_iff_eq]; exact k6
          by_cases n0 : n = 0
          · have d0 : (n == 0) = true := by rw [beq_iff_eq]; exact n0
            have hv : r = true := hr2.2 ⟨rfl, rfl, .inr ⟨k6, .inl n0⟩⟩
            have HV := Lib.hid hv
            clear k5 k6 n0 hm hr2 hv
            go_wp2
            go_ret
            exact ⟨r, by rw [HV.out]; rfl, HR, HW.out⟩
          · have d0 : (n == 0) = false := by rw [beq_eq_false_iff_ne]; exact n0
            by_cases n1 : n = 1
            · have d1 : (n == 1) = true := by rw [beq_iff_eq]; exact n1
              have hv : r = true := hr2.2 ⟨rfl, rfl, .inr ⟨k6, .inr n1⟩⟩
              have HV := Lib.hid hv
              clear k5 k6 n0 n1 hm hr2 hv
              go_wp2
              go_ret
              exact ⟨r, by rw [HV.out]; rfl, HR, HW.out⟩
            · have d1 : (n == 1) = false := by rw [beq_eq_false_iff_ne]; exact n1
              have hv : r = false := by
                cases r with
                | false => rfl
                | true => have h := (hr2.1 rfl).2.2; omega
              have HV := Lib.hid hv
              clear k5 k6 n0 n1 hm hr2 hv
              go_wp2
              go_ret
              exact ⟨r, by rw [HV.out]; rfl, HR, HW.out⟩
        · have c6 : (k == 6) = false := by rw [beq_eq_false_iff_ne]; exact k6
          have hv : r = false := by
            cases r with
            | false => rfl
            | true => have h := (hr2.1 rfl).2.2; omega
          have HV := Lib.hid hv
          clear k5 k6 hm hr2 hv
          go_wp2
          go_ret
          exact ⟨r, by rw [HV.out]; rfl, HR, HW.out⟩
    · have b0 : decide ((0 : Int) < (vm : Int)) = true := decide_eq_true (by omega)
      have b1 : decide (0 < vm) = true := decide_eq_true (by omega)
      have b2 : 0 < vm := by omega
      have b3 : ((vm : Int) == 0) = false := by rw [beq_eq_false_iff_ne]; omega
      have b4 : ((vm : Int) != 0) = true := by rw [bne_iff_ne]; omega
      have hv : r = false := by
        cases r with
        | false => rfl
        | true => have h := (hr2.1 rfl).2.1; have := HLN.out; rw [h] at this; simp at this; omega
      have HV := Lib.hid hv
      clear hm hr2 hv
      go_wp2
      go_ret
      exact ⟨r, by rw [HV.out]; rfl, HR, HW.out⟩
  · have s1 : ¬ s.toList = [] := ne_empty hs
    have hv : r = false := by
      cases r with
      | false => rfl
      | true => exact absurd (hr2.1 rfl).1 hs
    have HV := Lib.hid hv
    clear hs hr2 hv
    go_wp2
    all_goals (
      go_ret
      exact ⟨r, by rw [HV.out]; rfl, HR, HW.out⟩)
end Go.Proofs.Ytjjnboenehomgaa.fo
end
