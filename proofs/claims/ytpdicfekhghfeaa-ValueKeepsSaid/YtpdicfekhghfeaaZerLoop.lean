/-
  Layer 19: what a loop has made that builds a value's parts in a variable of its own.
-/
import Derived.Test.YtpdicfekhghfeaaZerParts
import Derived.Test.YtpdicfekhghfeaaValSet
namespace Go.Proofs.Ytpdicfekhghfeaa.zf
open Go.ChangeShapes Go.WideShapes Go.ChangeAt Go.RowKit
open bs tr te ty
open va (Frst OwnV)
set_option linter.unusedVariables false

def ZPost (z : PV) (w : World) (e : Ending) (w' : World) : Prop := ∃ x : va.Vn, e = .returned (.agg #[.int .i64 x.x, .slice x.a x.m x.c]) ∧ x.tr = z ∧ x.Rs (va.Old 0 w.heap.size) w' ∧ Below w.heap.size w w'

/-- The state: the variable's block stands at g, what it holds lies in blocks from B on. -/
structure LZ (B g : Nat) (wr : World) (k : Nat) (b : Option Addr) (c : Nat) (L : List va.Vn) : Prop where
  out : Blk wr g #[.int .i64 0, .slice b k c] 27
  fr : Frst 0 B wr B b k c L
theorem LZ.below {B g : Nat} {wr w' : World} {k : Nat} {b : Option Addr} {c : Nat} {L : List va.Vn} (h : LZ B g wr k b c L) (hb : Below wr.heap.size wr w') : LZ B g w' k b c L := ⟨h.out.below hb, h.fr.below hb⟩
theorem LZ.next {B g : Nat} {wr w6 : World} {k : Nat} {b : Option Addr} {c : Nat} {L : List va.Vn} (h : LZ B g wr k b c L) (hg : g < B) (hB : B ≤ wr.heap.size) {a2 : Option Addr} {n2 c2 : Nat} {L2 : List va.Vn} (hf : Frst 0 B w6 B a2 n2 c2 L2) (hb : Below B wr w6) :
    LZ B g (w6.setCell ⟨g, 1, none⟩ (.slice a2 n2 c2)) n2 a2 c2 L2 := by
  have hblk : Blk w6 g #[.int .i64 0, .slice b k c] 27 := h.out.of (hb.block g hg)
  refine ⟨?_, ⟨⟨ownsRow_setCell_below hf.own.own (a := ⟨g, 1, none⟩) hg _, hf.own.num⟩, fun x hx => ?_⟩⟩
  · have := hblk.set 1 (.slice a2 n2 c2)
    simpa using this
  · refine (hf.rs x hx).agree ⟨by simp [World.setCell], fun i hS hi => ?_⟩
    exact Below.heap_setCell _ ⟨g, 1, none⟩ _ i (by
      have : B ≤ i := by
        rcases hS.1 with h0 | h0
        · omega
        · exact h0
      show i ≠ g
      omega)
theorem LZ.val {B g : Nat} {wr : World} {k : Nat} {b : Option Addr} {c : Nat} {L : List va.Vn} (h : LZ B g wr k b c L) {lo : Nat} (hlo : lo ≤ B) : va.Vn.Rs (va.Old 0 lo) wr ⟨0, b, k, c, L.map va.Vn.tr⟩ := by
  refine ⟨Ts.weak h.fr.reads (fun i _ hS => ?_), fun _ i off hi => ?_, ?_⟩
  · rcases hS with h0 | h0
    · exact .inl h0
    · exact .inr (by omega)
  · have hi' : b = some ⟨i, off, none⟩ := hi
    have := h.fr.own.blockLt (i := i) (by rw [hi']; rfl)
    exact .inr (by omega)
  · show (-9223372036854775808 : Int) ≤ 0 ∧ (0 : Int) ≤ 9223372036854775807
    omega
theorem LZ.start {wr : World} {g B : Nat} (hb : Blk wr g #[.int .i64 0, .slice none 0 0] 27) : LZ B g wr 0 none 0 [] :=
  ⟨hb, ⟨OwnS.nil _ _ _, fun x hx => by cases hx⟩⟩

theorem take_next {α β : Type} {l : List α} {k : Nat} {t : α} (g : α → β) (h : l[k]? = some t) : (l.take (k + 1)).map g = (l.take k).map g ++ [g t] := by
  rw [List.take_add_one, h]
  simp
end Go.Proofs.Ytpdicfekhghfeaa.zf
