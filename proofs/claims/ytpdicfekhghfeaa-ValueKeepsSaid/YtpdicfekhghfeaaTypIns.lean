/-
  Layer 12: one place more, behind a copy of a list: the appends of a region that draws its order.
-/
import Derived.Test.YtpdicfekhghfeaaTypRef
import Derived.Deep.RegionHeldLaw
namespace Go.Proofs.Ytpdicfekhghfeaa.ty
open Go.ChangeShapes Go.WideShapes Go.ChangeAt Go.RowKit
open bs tr te
set_option linter.unusedVariables false

theorem intT : I64T Try.prog 35 3 := ⟨Try.underlying35, by kernel_rfl⟩
theorem bel_alloc {B : Nat} {w V : World} (h : Below B w V) (o : Obj) (hB : B = w.heap.size) : Below B w (V.alloc o) := by subst hB; exact h.alloc h.size o
theorem blk_new' {V : World} {g : Nat} {cs : Array Value} {t : TypeId} (h : g = V.heap.size) : Blk (V.alloc (.cells cs t)) g cs t := by subst h; exact Blk.new _ _ _
theorem blk_alloc {V : World} {g : Nat} {cs : Array Value} {t : TypeId} (h : Blk V g cs t) (o : Obj) : Blk (V.alloc o) g cs t := h.below (below_alloc V o)
theorem blk_drew {V : World} {g : Nat} {cs : Array Value} {t : TypeId} (h : Blk V g cs t) : Blk V.drew g cs t := h.below (Below.drew (Below.refl _ _))
theorem blk_grown {V w' : World} {g : Nat} {cs : Array Value} {t : TypeId} {row : Option Nat} (hg : V.grownBy w' row) (hne : row ≠ some g) (h : Blk V g cs t) : Blk w' g cs t := h.of (hg.block g h.lt hne.symm)
theorem own0 {V : World} {base g : Nat} (h : Blk V g #[] 3) (hb : base ≤ g) : OwnI V base 3 (some ⟨g, 0, none⟩) 0 0 [] :=
  ⟨⟨by simp [cellsI], .inr ⟨g, 0, #[], rfl, hb, h, Nat.le_refl _, by simp [maxLen], by simp, by simp [cellsI]⟩⟩, by simp [AllI]⟩
theorem i64_one {V : World} {g : Nat} {z : Int} (h : Blk V g #[.int .i64 z] 3) (hz : -9223372036854775808 ≤ z ∧ z ≤ 9223372036854775807) : I64s V (some ⟨g, 0, none⟩) 1 1 [z] :=
  OwnI.reads (e := 3) (base := 0) ⟨⟨by simp [cellsI], .inr ⟨g, 1, #[.int .i64 z], rfl, Nat.zero_le _, h, Nat.le_refl _, by simp [maxLen], by simp, by simp [cellsI]⟩⟩, by simpa [AllI] using hz⟩

section
variable {w : World} {ops : Array Oper} {o : Oper} {a : Act} {K : Act → World → Prop} {Q : Exit → Act → World → Prop} {E : Prop}
/-- A copy of a list. -/
theorem step_copy (hgd : o.guard = none) (s x : Operand) (ho : o.op = .call { callee := .builtin .append, args := #[s, x], argTypes := #[35, 35] })
    (base g : Nat) (hs : a.eval s = .slice (some ⟨g, 0, none⟩) 0 0) (h : Blk w g #[] 3) (hbg : base ≤ g) {b' m c' l'} (hx : a.eval x = .slice b' m c') (hb : I64s w b' m c' l') (hn : m ≤ 1000000)
    (k : ∀ a2 c2 w', OwnI w' base 3 a2 m c2 l' → Below base w w' → w.grownBy w' (some g) → K (a.put o.dst (.slice a2 m c2)) w') : if Region.wanted o (yielded ops a.tmps) = true then Oper.wp Try.prog o a w K Q else E := by
  refine step_append_I intT hgd s x ho base hs (own0 h hbg) hx hb (by omega) (by have := h.lt; omega) ?_
  intro a2 c2 w' h1 h2 h3
  rw [Nat.zero_add] at h1 ⊢
  rw [List.nil_append] at h1
  exact k a2 c2 w' h1 h2 h3
/-- One more. -/
theorem step_more (hgd : o.guard = none) (s x : Operand) (ho : o.op = .call { callee := .builtin .append, args := #[s, x], argTypes := #[35, 35] })
    (base g : Nat) {b n c l} (hs : a.eval s = .slice b n c) (h : OwnI w base 3 b n c l) (hx : a.eval x = .slice (some ⟨g, 0, none⟩) 1 1) {z : Int} (hb : Blk w g #[.int .i64 z] 3) (hz : -9223372036854775808 ≤ z ∧ z ≤ 9223372036854775807) (hn : n ≤ 1000000) (hbase : base ≤ w.heap.size)
    (k : ∀ a2 c2 w', OwnI w' base 3 a2 (n + 1) c2 (l ++ [z]) → Below base w w' → K (a.put o.dst (.slice a2 (n + 1) c2)) w') : if Region.wanted o (yielded ops a.tmps) = true then Oper.wp Try.prog o a w K Q else E := by
  refine step_append_I intT hgd s x ho base hs h hx (i64_one hb hz) (by omega) hbase ?_
  intro a2 c2 w' h1 h2 h3
  exact k a2 c2 w' h1 h2
end
end Go.Proofs.Ytpdicfekhghfeaa.ty
