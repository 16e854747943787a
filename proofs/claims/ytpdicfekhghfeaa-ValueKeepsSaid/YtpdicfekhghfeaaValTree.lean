/-
  Layer 19: values, as trees in memory.
-/
import Derived.Test.YtpdicfekhghfeaaTrees
import Derived.Test.YtpdicfekhghfeaaOpenI
import Derived.Test.YtpdicfekhghfeaaRecsApp
import Derived.Test.YtpdicfekhghfeaaProg
namespace Go.Proofs.Ytpdicfekhghfeaa.va
open Go.ChangeShapes Go.WideShapes Go.ChangeAt Go.RowKit
open bs tr
set_option linter.unusedVariables false

def In64 (z : Int) : Prop := -9223372036854775808 ≤ z ∧ z ≤ 9223372036854775807

/-- A value's cells. -/
structure VH (w : World) (b o : Nat) (x : Int) (a : Option Addr) (m c : Nat) : Prop where
  c0 : w.cell? ⟨b, o, none⟩ = some (.int .i64 x)
  c1 : w.cell? ⟨b, o + 1, none⟩ = some (.slice a m c)
  r0 : In64 x
theorem vh_stays : HStays VH := fun w w' b o x a m c h hb =>
  ⟨by rw [World.cell?_of_block (w := w) (a := ⟨b, o, none⟩) hb]; exact h.c0, by rw [World.cell?_of_block (w := w) (a := ⟨b, o + 1, none⟩) hb]; exact h.c1, h.r0⟩

abbrev VT := Tr Int
def All : Nat → Prop := fun _ => True
abbrev VAs (S : Nat → Prop) (w : World) (b o : Nat) (t : VT) : Prop := Ta 2 VH S w b o t
abbrev VSs (S : Nat → Prop) (w : World) (a : Option Addr) (n c : Nat) (l : List VT) : Prop := Ts 2 VH S w a n c l
abbrev VA (w : World) (b o : Nat) (t : VT) : Prop := VAs All w b o t
abbrev VS (w : World) (a : Option Addr) (n c : Nat) (l : List VT) : Prop := VSs All w a n c l
theorem va_stays : Stays VA := taStays vh_stays
theorem sb_all (a : Option Addr) (n : Nat) : SB All a n := fun _ _ _ _ => trivial

/-- A value. -/
structure Vn where
  x : Int
  a : Option Addr
  m : Nat
  c : Nat
  l : List VT
def Vn.val (v : Vn) : Value := .agg #[.int .i64 v.x, .slice v.a v.m v.c]
def Vn.tr (v : Vn) : VT := .mk v.x v.l
def Vn.Rd (w : World) (v : Vn) : Prop := VS w v.a v.m v.c v.l ∧ In64 v.x
def Vn.cells (v : Vn) : List Value := [.int .i64 v.x, .slice v.a v.m v.c]
theorem Vn.Rd.below {w w' : World} {v : Vn} (h : v.Rd w) (hb : Below w.heap.size w w') : v.Rd w' := ⟨h.1.below va_stays hb, h.2⟩
theorem VA.out {w b o} {t : VT} (h : VA w b o t) : ∃ v : Vn, v.tr = t ∧ v.Rd w ∧ w.cell? ⟨b, o, none⟩ = some (.int .i64 v.x) ∧ w.cell? ⟨b, o + 1, none⟩ = some (.slice v.a v.m v.c) := by
  cases t with
  | mk x l =>
    obtain ⟨a, m, c, h1, h2, _⟩ := Ta.out h
    exact ⟨⟨x, a, m, c, l⟩, rfl, ⟨h2, h1.r0⟩, h1.c0, h1.c1⟩
theorem VA.intro {w b o} {v : Vn} (h : v.Rd w) (h0 : w.cell? ⟨b, o, none⟩ = some (.int .i64 v.x)) (h1 : w.cell? ⟨b, o + 1, none⟩ = some (.slice v.a v.m v.c)) : VA w b o v.tr :=
  Ta.intro (a := v.a) (m := v.m) (c := v.c) ⟨h0, h1, h.2⟩ h.1 (sb_all _ _)
/-- .. its parts in blocks of S. -/
structure Vn.Rs (S : Nat → Prop) (w : World) (v : Vn) : Prop where
  rd : VSs S w v.a v.m v.c v.l
  sb : SB S v.a v.m
  x64 : In64 v.x
theorem Vn.Rs.agree {S : Nat → Prop} {w w' : World} {v : Vn} (h : v.Rs S w) (hk : Kp S w w') : v.Rs S w' := ⟨Ts.agree vh_stays hk h.rd h.sb, h.sb, h.x64⟩
theorem Vn.Rs.below {S : Nat → Prop} {w w' : World} {v : Vn} (h : v.Rs S w) (hb : Below w.heap.size w w') : v.Rs S w' := h.agree (.of_below hb)
theorem Vn.Rs.weak {S S' : Nat → Prop} {w : World} {v : Vn} (h : v.Rs S w) (hS : ∀ b, b < w.heap.size → S b → S' b) : v.Rs S' w := ⟨Ts.weak h.rd hS, SB.weak h.sb h.rd hS, h.x64⟩
theorem Vn.Rs.rd' {S : Nat → Prop} {w : World} {v : Vn} (h : v.Rs S w) : v.Rd w := ⟨Ts.weak h.rd (fun _ _ _ => trivial), h.x64⟩
theorem Vn.Rd.rs {w : World} {v : Vn} (h : v.Rd w) : v.Rs (· < w.heap.size) w := ⟨Ts.weak h.1 (fun _ h _ => h), SB.weak (sb_all _ _) h.1 (fun _ h _ => h), h.2⟩
theorem VAs.out {S : Nat → Prop} {w b o} {t : VT} (h : VAs S w b o t) : ∃ v : Vn, v.tr = t ∧ v.Rs S w ∧ w.cell? ⟨b, o, none⟩ = some (.int .i64 v.x) ∧ w.cell? ⟨b, o + 1, none⟩ = some (.slice v.a v.m v.c) := by
  cases t with
  | mk x l =>
    obtain ⟨a, m, c, h1, h2, h3⟩ := Ta.out h
    exact ⟨⟨x, a, m, c, l⟩, rfl, ⟨h2, h3, h1.r0⟩, h1.c0, h1.c1⟩
theorem VAs.intro {S : Nat → Prop} {w b o} {v : Vn} (h : v.Rs S w) (h0 : w.cell? ⟨b, o, none⟩ = some (.int .i64 v.x)) (h1 : w.cell? ⟨b, o + 1, none⟩ = some (.slice v.a v.m v.c)) : VAs S w b o v.tr :=
  Ta.intro (a := v.a) (m := v.m) (c := v.c) ⟨h0, h1, h.x64⟩ h.rd h.sb

set_option maxRecDepth 100000 in
theorem open_cells {H : Type} {enc : TypeId × Value → H} {w : World} (fuel : Nat) : ∀ (cs : List Value) (y : DataW H × List MemPlace) (b o : Nat), DataW.trod enc Try.prog w 0 (fun _ => true) true fuel 27 cs = some y → cs.length = 2 → (∀ j, j < 2 → w.cell? ⟨b, o + j, none⟩ = cs[j]?) → ∃ t, VA w b o t := by
  induction fuel using Nat.strongRecOn with
  | ind fuel ih =>
  intro cs y b o ht hlen hc
  obtain ⟨xs, n', hn', _, _, hxl, hg⟩ := DataW.trod_struct Try.underlying27 ht
  have hxl' : xs.length = 2 := hxl
  match cs, hlen, hc with
  | [v0, v1], _, hc =>
    match xs, hxl' with
    | [y0, y1], _ =>
      have ci : Try.prog.cellsOf 2 = 1 := by kernel_rfl
      have cb : Try.prog.cellsOf 25 = 1 := by kernel_rfl
      have g0 := hg 0 _ rfl
      have g1 := hg 1 _ rfl
      simp [ci, cb] at g0 g1
      obtain ⟨z0, h0, _, w0⟩ := DataW.trod_int Try.underlying2 g0
      have hsl : ∃ a m c, v1 = .slice a m c := by
        rcases DataW.trod_slice Try.underlying25 g1 with ⟨hcs, _⟩ | ⟨_, _, _, _, _, _, _, hcs, _⟩
        · simp only [List.cons.injEq, and_true] at hcs; exact ⟨_, _, _, hcs⟩
        · simp only [List.cons.injEq, and_true] at hcs; exact ⟨_, _, _, hcs⟩
      obtain ⟨a, m, c, rfl⟩ := hsl
      simp only [List.cons.injEq, and_true] at h0
      subst h0
      obtain ⟨l, hl⟩ := open_recs_lt 2 VA Try.underlying25 (by kernel_rfl) (by decide) (fun m cs y b o hm h1 h2 h3 => ih m (by omega) cs y b o h1 h2 h3) g1
      exact ⟨.mk z0 l, Ta.intro ⟨hc 0 (by decide), hc 1 (by decide), in64 w0⟩ hl (sb_all _ _)⟩

set_option maxRecDepth 100000 in
theorem open_val {H : Type} {enc : TypeId × Value → H} {w : World} {r : Reach} {b0 : Nat} {v : Value} {d : DataW H} {p : List MemPlace}
    (hv : Value.okWide Try.prog w r b0 27 v) (h : DataW.Trod enc Try.prog w 0 (fun _ => true) true 27 v d p) : ∃ x : Vn, v = x.val ∧ x.Rd w := by
  obtain ⟨v0, v1, y0, y1, m, rfl, rfl, rfl, h0, h1⟩ := Go.Joins.open_agg2 Try.underlying27 (by kernel_rfl) (by kernel_rfl) hv h
  obtain ⟨z, e0, _, wz⟩ := DataW.trod_int Try.underlying2 h0
  simp only [List.cons.injEq, and_true] at e0
  subst e0
  have hsl : ∃ a m c, v1 = .slice a m c := by
    rcases DataW.trod_slice Try.underlying25 h1 with ⟨hcs, _⟩ | ⟨_, _, _, _, _, _, _, hcs, _⟩
    · simp only [List.cons.injEq, and_true] at hcs; exact ⟨_, _, _, hcs⟩
    · simp only [List.cons.injEq, and_true] at hcs; exact ⟨_, _, _, hcs⟩
  obtain ⟨a, n, c, rfl⟩ := hsl
  obtain ⟨l, hl⟩ := open_recs_lt 2 VA Try.underlying25 (by kernel_rfl) (by decide) (fun m cs y b o _ h1 h2 h3 => open_cells m cs y b o h1 h2 h3) h1
  exact ⟨⟨z, a, n, c, l⟩, rfl, hl, in64 wz⟩

set_option maxRecDepth 100000 in
theorem open_way {H : Type} {enc : TypeId × Value → H} {w : World} {r : Reach} {b0 : Nat} {v : Value} {d : DataW H} {p : List MemPlace}
    (hv : Value.okWide Try.prog w r b0 35 v) (h : DataW.Trod enc Try.prog w 0 (fun _ => true) true 35 v d p) : ∃ a n c l, v = .slice a n c ∧ I64s w a n c l :=
  open_i64s Try.underlying35 Try.underlying3 (by kernel_rfl) hv h
end Go.Proofs.Ytpdicfekhghfeaa.va
