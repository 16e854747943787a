/-
  Layer 6: terms, as trees in memory.
-/
import Derived.Test.YtjmjillfclfkgaaTrees
import Derived.Test.YtjmjillfclfkgaaOpenI
import Derived.Test.YtjmjillfclfkgaaRecsApp
import Derived.Test.YtjmjillfclfkgaaProg
namespace Go.Proofs.Ytjmjillfclfkgaa.te
open Go.ChangeShapes Go.WideShapes Go.ChangeAt Go.RowKit
open bs tr
set_option linter.unusedVariables false

/-- What a term says beside its parts. -/
structure Lab where
  k : Int
  n : Int
  s : ByteArray
  f : Int
  t : Int
def I64 (z : Int) : Prop := -9223372036854775808 ≤ z ∧ z ≤ 9223372036854775807
structure In64 (x : Lab) : Prop where
  k : I64 x.k
  n : I64 x.n
  f : I64 x.f
  t : I64 x.t

/-- A term's cells. -/
structure VH (w : World) (b o : Nat) (x : Lab) (a : Option Addr) (m c : Nat) : Prop where
  c0 : w.cell? ⟨b, o, none⟩ = some (.int .i64 x.k)
  c1 : w.cell? ⟨b, o + 3, none⟩ = some (.slice a m c)
  c2 : w.cell? ⟨b, o + 1, none⟩ = some (.int .i64 x.n)
  c3 : w.cell? ⟨b, o + 2, none⟩ = some (.string x.s)
  c4 : w.cell? ⟨b, o + 4, none⟩ = some (.int .i64 x.f)
  c5 : w.cell? ⟨b, o + 5, none⟩ = some (.int .i64 x.t)
  r0 : In64 x
theorem vh_stays : HStays VH := fun w w' b o x a m c h hb =>
  ⟨by rw [World.cell?_of_block (w := w) (a := ⟨b, o, none⟩) hb]; exact h.c0, by rw [World.cell?_of_block (w := w) (a := ⟨b, o + 3, none⟩) hb]; exact h.c1, by rw [World.cell?_of_block (w := w) (a := ⟨b, o + 1, none⟩) hb]; exact h.c2,
   by rw [World.cell?_of_block (w := w) (a := ⟨b, o + 2, none⟩) hb]; exact h.c3, by rw [World.cell?_of_block (w := w) (a := ⟨b, o + 4, none⟩) hb]; exact h.c4, by rw [World.cell?_of_block (w := w) (a := ⟨b, o + 5, none⟩) hb]; exact h.c5, h.r0⟩

abbrev VT := Tr Lab
def All : Nat → Prop := fun _ => True
abbrev VAs (S : Nat → Prop) (w : World) (b o : Nat) (t : VT) : Prop := Ta 6 VH S w b o t
abbrev VSs (S : Nat → Prop) (w : World) (a : Option Addr) (n c : Nat) (l : List VT) : Prop := Ts 6 VH S w a n c l
abbrev VA (w : World) (b o : Nat) (t : VT) : Prop := VAs All w b o t
abbrev VS (w : World) (a : Option Addr) (n c : Nat) (l : List VT) : Prop := VSs All w a n c l
theorem va_stays : Stays VA := taStays vh_stays
theorem sb_all (a : Option Addr) (n : Nat) : SB All a n := fun _ _ _ _ => trivial

/-- A term. -/
structure Vn where
  x : Lab
  a : Option Addr
  m : Nat
  c : Nat
  l : List VT
def Vn.val (v : Vn) : Value := .agg #[.int .i64 v.x.k, .int .i64 v.x.n, .string v.x.s, .slice v.a v.m v.c, .int .i64 v.x.f, .int .i64 v.x.t]
def Vn.tr (v : Vn) : VT := .mk v.x v.l
def Vn.Rd (w : World) (v : Vn) : Prop := VS w v.a v.m v.c v.l ∧ In64 v.x
def Vn.cells (v : Vn) : List Value := [.int .i64 v.x.k, .int .i64 v.x.n, .string v.x.s, .slice v.a v.m v.c, .int .i64 v.x.f, .int .i64 v.x.t]
theorem Vn.Rd.below {w w' : World} {v : Vn} (h : v.Rd w) (hb : Below w.heap.size w w') : v.Rd w' := ⟨h.1.below va_stays hb, h.2⟩
/-- The six cells of a term. -/
structure Six (w : World) (b o : Nat) (v : Vn) : Prop where
  c0 : w.cell? ⟨b, o, none⟩ = some (.int .i64 v.x.k)
  c1 : w.cell? ⟨b, o + 3, none⟩ = some (.slice v.a v.m v.c)
  c2 : w.cell? ⟨b, o + 1, none⟩ = some (.int .i64 v.x.n)
  c3 : w.cell? ⟨b, o + 2, none⟩ = some (.string v.x.s)
  c4 : w.cell? ⟨b, o + 4, none⟩ = some (.int .i64 v.x.f)
  c5 : w.cell? ⟨b, o + 5, none⟩ = some (.int .i64 v.x.t)
theorem VA.out {w b o} {t : VT} (h : VA w b o t) : ∃ v : Vn, v.tr = t ∧ v.Rd w ∧ w.cell? ⟨b, o, none⟩ = some (.int .i64 v.x.k) ∧ w.cell? ⟨b, o + 3, none⟩ = some (.slice v.a v.m v.c) ∧ w.cell? ⟨b, o + 1, none⟩ = some (.int .i64 v.x.n) ∧ w.cell? ⟨b, o + 2, none⟩ = some (.string v.x.s) ∧ w.cell? ⟨b, o + 4, none⟩ = some (.int .i64 v.x.f) ∧ w.cell? ⟨b, o + 5, none⟩ = some (.int .i64 v.x.t) := by
  cases t with
  | mk x l =>
    obtain ⟨a, m, c, h1, h2, _⟩ := Ta.out h
    exact ⟨⟨x, a, m, c, l⟩, rfl, ⟨h2, h1.r0⟩, h1.c0, h1.c1, h1.c2, h1.c3, h1.c4, h1.c5⟩
/-- .. its parts in blocks of S. -/
structure Vn.Rs (S : Nat → Prop) (w : World) (v : Vn) : Prop where
  rd : VSs S w v.a v.m v.c v.l
  sb : SB S v.a v.m
  x64 : In64 v.x
theorem Vn.Rs.agree {S : Nat → Prop} {w w' : World} {v : Vn} (h : v.Rs S w) (hk : Kp S w w') : v.Rs S w' := ⟨Ts.agree vh_stays hk h.rd h.sb, h.sb, h.x64⟩
theorem Vn.Rs.below {S : Nat → Prop} {w w' : World} {v : Vn} (h : v.Rs S w) (hb : Below w.heap.size w w') : v.Rs S w' := h.agree (.of_below hb)
theorem Vn.Rs.weak {S S' : Nat → Prop} {w : World} {v : Vn} (h : v.Rs S w) (hS : ∀ b, b < w.heap.size → S b → S' b) : v.Rs S' w := ⟨Ts.weak h.rd hS, SB.weak h.sb h.rd hS, h.x64⟩
theorem Vn.Rs.rd' {S : Nat → Prop} {w : World} {v : Vn} (h : v.Rs S w) : v.Rd w := ⟨Ts.weak h.rd (fun _ _ _ => trivial), h.x64⟩
theorem Vn.Rd.rs {w : World} {v : Vn} (h : v.Rd w) : v.Rs (· < w.heap.size) w := ⟨Ts.weak h.1 (fun _ h _ => h), SB.weak (sb_all _ _) h.1 (fun _ h _ => h), h.2⟩
theorem VAs.out {S : Nat → Prop} {w b o} {t : VT} (h : VAs S w b o t) : ∃ v : Vn, v.tr = t ∧ v.Rs S w ∧ w.cell? ⟨b, o, none⟩ = some (.int .i64 v.x.k) ∧ w.cell? ⟨b, o + 3, none⟩ = some (.slice v.a v.m v.c) ∧ w.cell? ⟨b, o + 1, none⟩ = some (.int .i64 v.x.n) ∧ w.cell? ⟨b, o + 2, none⟩ = some (.string v.x.s) ∧ w.cell? ⟨b, o + 4, none⟩ = some (.int .i64 v.x.f) ∧ w.cell? ⟨b, o + 5, none⟩ = some (.int .i64 v.x.t) := by
  cases t with
  | mk x l =>
    obtain ⟨a, m, c, h1, h2, h3⟩ := Ta.out h
    exact ⟨⟨x, a, m, c, l⟩, rfl, ⟨h2, h3, h1.r0⟩, h1.c0, h1.c1, h1.c2, h1.c3, h1.c4, h1.c5⟩
theorem VAs.intro {S : Nat → Prop} {w b o} {v : Vn} (h : v.Rs S w) (hc : Six w b o v) : VAs S w b o v.tr :=
  Ta.intro (a := v.a) (m := v.m) (c := v.c) ⟨hc.c0, hc.c1, hc.c2, hc.c3, hc.c4, hc.c5, h.x64⟩ h.rd h.sb
theorem VA.intro {w b o} {v : Vn} (h : v.Rd w) (hc : Six w b o v) : VA w b o v.tr :=
  Ta.intro (a := v.a) (m := v.m) (c := v.c) ⟨hc.c0, hc.c1, hc.c2, hc.c3, hc.c4, hc.c5, h.2⟩ h.1 (sb_all _ _)

set_option maxRecDepth 100000 in
theorem open_cells {H : Type} {enc : TypeId × Value → H} {w : World} (fuel : Nat) : ∀ (cs : List Value) (y : DataW H × List MemPlace) (b o : Nat), DataW.trod enc Try.prog w 0 (fun _ => true) true fuel 24 cs = some y → cs.length = 6 → (∀ j, j < 6 → w.cell? ⟨b, o + j, none⟩ = cs[j]?) → ∃ t, VA w b o t := by
  induction fuel using Nat.strongRecOn with
  | ind fuel ih =>
  intro cs y b o ht hlen hc
  obtain ⟨xs, n', hn', _, _, hxl, hg⟩ := DataW.trod_struct Try.underlying24 ht
  have hxl' : xs.length = 6 := hxl
  match cs, hlen, hc with
  | [v0, v1, v2, v3, v4, v5], _, hc =>
    match xs, hxl' with
    | [y0, y1, y2, y3, y4, y5], _ =>
      have ci : Try.prog.cellsOf 2 = 1 := by kernel_rfl
      have ck : Try.prog.cellsOf 3 = 1 := by kernel_rfl
      have cs' : Try.prog.cellsOf 9 = 1 := by kernel_rfl
      have cb : Try.prog.cellsOf 22 = 1 := by kernel_rfl
      have g0 := hg 0 _ rfl
      have g1 := hg 1 _ rfl
      have g2 := hg 2 _ rfl
      have g3 := hg 3 _ rfl
      have g4 := hg 4 _ rfl
      have g5 := hg 5 _ rfl
      simp [ci, ck, cs', cb] at g0 g1 g2 g3 g4 g5
      obtain ⟨z0, h0, _, w0⟩ := DataW.trod_int Try.underlying3 g0
      obtain ⟨z1, h1, _, w1⟩ := DataW.trod_int Try.underlying2 g1
      obtain ⟨z2, h2, _, w2⟩ := DataW.trod_string Try.underlying9 g2
      obtain ⟨z4, h4, _, w4⟩ := DataW.trod_int Try.underlying3 g4
      obtain ⟨z5, h5, _, w5⟩ := DataW.trod_int Try.underlying3 g5
      have hsl : ∃ a m c, v3 = .slice a m c := by
        rcases DataW.trod_slice Try.underlying22 g3 with ⟨hcs, _⟩ | ⟨_, _, _, _, _, _, _, hcs, _⟩
        · simp only [List.cons.injEq, and_true] at hcs; exact ⟨_, _, _, hcs⟩
        · simp only [List.cons.injEq, and_true] at hcs; exact ⟨_, _, _, hcs⟩
      obtain ⟨a, m, c, rfl⟩ := hsl
      simp only [List.cons.injEq, and_true] at h0 h1 h2 h4 h5
      subst h0 h1 h2 h4 h5
      obtain ⟨l, hl⟩ := open_recs_lt 6 VA Try.underlying22 (by kernel_rfl) (by decide) (fun m cs y b o hm h1 h2 h3 => ih m (by omega) cs y b o h1 h2 h3) g3
      exact ⟨.mk ⟨z0, z1, z2, z4, z5⟩ l, Ta.intro ⟨hc 0 (by decide), hc 3 (by decide), hc 1 (by decide), hc 2 (by decide), hc 4 (by decide), hc 5 (by decide), ⟨in64 w0, in64 w1, in64 w4, in64 w5⟩⟩ hl (sb_all _ _)⟩

/-- A term out of its six cells. -/
theorem open_six {H : Type} {enc : TypeId × Value → H} {w : World} {fuel : Nat} {cs : List Value} {y : DataW H × List MemPlace} (h : DataW.trod enc Try.prog w 0 (fun _ => true) true fuel 24 cs = some y) (hlen : cs.length = 6) : ∃ x : Vn, cs = x.cells ∧ x.Rd w := by
  obtain ⟨xs, n', hn', _, _, hxl, hg⟩ := DataW.trod_struct Try.underlying24 h
  have hxl' : xs.length = 6 := hxl
  match cs, hlen with
  | [v0, v1, v2, v3, v4, v5], _ =>
    match xs, hxl' with
    | [y0, y1, y2, y3, y4, y5], _ =>
      have ci : Try.prog.cellsOf 2 = 1 := by kernel_rfl
      have ck : Try.prog.cellsOf 3 = 1 := by kernel_rfl
      have cs' : Try.prog.cellsOf 9 = 1 := by kernel_rfl
      have cb : Try.prog.cellsOf 22 = 1 := by kernel_rfl
      have g0 := hg 0 _ rfl
      have g1 := hg 1 _ rfl
      have g2 := hg 2 _ rfl
      have g3 := hg 3 _ rfl
      have g4 := hg 4 _ rfl
      have g5 := hg 5 _ rfl
      simp [ci, ck, cs', cb] at g0 g1 g2 g3 g4 g5
      obtain ⟨z0, h0, _, w0⟩ := DataW.trod_int Try.underlying3 g0
      obtain ⟨z1, h1, _, w1⟩ := DataW.trod_int Try.underlying2 g1
      obtain ⟨z2, h2, _, w2⟩ := DataW.trod_string Try.underlying9 g2
      obtain ⟨z4, h4, _, w4⟩ := DataW.trod_int Try.underlying3 g4
      obtain ⟨z5, h5, _, w5⟩ := DataW.trod_int Try.underlying3 g5
      have hsl : ∃ a m c, v3 = .slice a m c := by
        rcases DataW.trod_slice Try.underlying22 g3 with ⟨hcs, _⟩ | ⟨_, _, _, _, _, _, _, hcs, _⟩
        · simp only [List.cons.injEq, and_true] at hcs; exact ⟨_, _, _, hcs⟩
        · simp only [List.cons.injEq, and_true] at hcs; exact ⟨_, _, _, hcs⟩
      obtain ⟨a, m, c, rfl⟩ := hsl
      simp only [List.cons.injEq, and_true] at h0 h1 h2 h4 h5
      subst h0 h1 h2 h4 h5
      obtain ⟨l, hl⟩ := open_recs_lt 6 VA Try.underlying22 (by kernel_rfl) (by decide) (fun m cs y b o _ h1 h2 h3 => open_cells m cs y b o h1 h2 h3) g3
      exact ⟨⟨⟨z0, z1, z2, z4, z5⟩, a, m, c, l⟩, rfl, hl, ⟨in64 w0, in64 w1, in64 w4, in64 w5⟩⟩

set_option maxRecDepth 100000 in
theorem open_term {H : Type} {enc : TypeId × Value → H} {w : World} {r : Reach} {b0 : Nat} {v : Value} {d : DataW H} {p : List MemPlace}
    (hv : Value.okWide Try.prog w r b0 24 v) (h : DataW.Trod enc Try.prog w 0 (fun _ => true) true 24 v d p) : ∃ x : Vn, v = x.val ∧ x.Rd w := by
  obtain ⟨cs, rfl, hsz⟩ := okWide_struct Try.underlying24 hv
  obtain ⟨fuel, hf⟩ := h
  have hc : Try.prog.cellsOf 24 = 6 := by kernel_rfl
  obtain ⟨x, hx, hr⟩ := open_six hf (by show cs.toList.length = 6; rw [Array.length_toList, hsz, hc])
  have hx' : cs.toList = x.cells := hx
  refine ⟨x, ?_, hr⟩
  show Value.agg cs = Value.agg x.cells.toArray
  rw [← hx']

set_option maxRecDepth 100000 in
theorem open_way {H : Type} {enc : TypeId × Value → H} {w : World} {r : Reach} {b0 : Nat} {v : Value} {d : DataW H} {p : List MemPlace}
    (hv : Value.okWide Try.prog w r b0 65 v) (h : DataW.Trod enc Try.prog w 0 (fun _ => true) true 65 v d p) : ∃ a n c l, v = .slice a n c ∧ I64s w a n c l :=
  open_i64s Try.underlying65 Try.underlying3 (by kernel_rfl) hv h
end Go.Proofs.Ytjmjillfclfkgaa.te
