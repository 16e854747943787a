/-
  Layer 19: the document's Set; the program's Set.
-/
import Derived.Test.YtpdicfekhghfeaaValPut
import Derived.Deep.AppendLies
namespace Go.Proofs.Ytpdicfekhghfeaa.va
open Go.ChangeShapes Go.WideShapes Go.ChangeAt Go.RowKit
open bs tr
set_option linter.unusedVariables false

/-- Values of the call's own, whose parts lie in old blocks or in blocks from H on, and not among them. -/
structure Frst (B0 H : Nat) (w : World) (base : Nat) (a : Option Addr) (n c : Nat) (L : List Vn) : Prop where
  own : OwnV w base a n c L
  rs : ∀ x ∈ L, x.Rs (fun b => Old B0 H b ∧ blockOf a ≠ some b) w
theorem Frst.below {B0 H : Nat} {w w' : World} {base : Nat} {a n c} {L : List Vn} (h : Frst B0 H w base a n c L) (hb : Below w.heap.size w w') : Frst B0 H w' base a n c L := ⟨OwnS.below h.own hb, fun x hx => (h.rs x hx).below hb⟩
theorem OwnV.blockLt {w : World} {base : Nat} {a n c} {L : List Vn} (h : OwnV w base a n c L) {i : Nat} (hi : blockOf a = some i) : base ≤ i ∧ i < w.heap.size := by
  rcases h.cases with ⟨rfl, _, _⟩ | ⟨g, rfl, hg, hs, _, _⟩
  · cases hi
  · cases hi; exact ⟨hg, hs⟩

theorem run_append_v {B0 H : Nat} (ty : TypeId) (w : World) (base : Nat) {a n c} {L : List Vn} (h : Frst B0 H w base a n c L) (x : Vn) (hx : x.Rs (fun b => Old B0 H b ∧ blockOf a ≠ some b) w) (ad : Addr) (c' : Nat)
    (hc : ∀ j u, (Vn.cells x)[j]? = some u → w.cell? (ad.add j) = some u) (hn : n + 1 ≤ 1000000) (hbase : base ≤ w.heap.size) :
    ∃ a2 c2 w', (Builtin.append_ #[25, 25] ty #[.slice a n c, .slice (some ad) 1 c']).run Try.prog w = .ok (.slice a2 (n + 1) c2) w' ∧ Frst B0 H w' base a2 (n + 1) c2 (L ++ [x]) ∧ Below base w w' := by
  obtain ⟨i0, hi, hz0, hz1, hz2⟩ := info_parts recT.info
  obtain ⟨g, cap, w', hr, ho2, hg, hat, hlt⟩ := run_append_lies (P := Try.prog) w 25 ty base 27 i0 (.agg #[.int .i64 0, .slice none 0 0]) 2 32 recT.und hi hz0 hz1 hz2 recT.zero (by decide) (.slice a n c) n (L.flatMap Vn.cells) h.own.own ad 1 c' (Vn.cells x) rfl hc
    (cells_one x) (by omega) (by unfold maxLen; omega) (by omega) hbase _ rfl
  rw [ownBlock_eq] at hg hat
  have he : (L ++ [x]).flatMap Vn.cells = L.flatMap Vn.cells ++ Vn.cells x := by simp
  have hbel : Below base w w' := (Below.refl base w).grown hg hbase (fun k hk => (h.own.blockLt hk).1)
  have key : ∀ y : Vn, y.Rs (fun b => Old B0 H b ∧ blockOf a ≠ some b) w → y.Rs (fun b => Old B0 H b ∧ blockOf (some ⟨g, 0, none⟩) ≠ some b) w' := fun y hy => by
    have h1 := hy.weak (S' := fun b => (Old B0 H b ∧ blockOf a ≠ some b) ∧ b < w.heap.size) (fun b h1 h2 => ⟨h2, h1⟩)
    have h2 := h1.agree (w' := w') ⟨hg.size, fun b hS hb => hg.block b hb (fun e => hS.1.2 e.symm)⟩
    refine h2.weak (fun b _ hS => ⟨hS.1.1, fun e => ?_⟩)
    have hgb : g = b := by simpa [blockOf] using e
    subst hgb
    rcases hat with hat | hat
    · exact hS.1.2 hat
    · have := hS.2; omega
  refine ⟨some ⟨g, 0, none⟩, cap, w', hr, ⟨⟨by rw [he]; exact ho2, by simp [h.own.num]⟩, fun y hy => ?_⟩, hbel⟩
  rcases List.mem_append.1 hy with h1 | h1
  · exact key y (h.rs y h1)
  · rw [List.mem_singleton] at h1; subst h1; exact key _ hx

section
variable {B0 H : Nat} {w : World} {ops : Array Oper} {rest : List Oper} {o : Oper} {a : Act} {Q : Exit → Act → World → Prop}
theorem wpList_append_v (hw : Region.wanted o (yielded ops a.tmps) = true) (s y : Operand) (ho : o.op = .call { callee := .builtin .append, args := #[s, y], argTypes := #[25, 25] })
    (base : Nat) {b n c} {L : List Vn} (hs : a.eval s = .slice b n c) (h : Frst B0 H w base b n c L) {ad c'} (hy : a.eval y = .slice (some ad) 1 c') (x : Vn) (hx : x.Rs (fun i => Old B0 H i ∧ blockOf b ≠ some i) w)
    (hc : ∀ j u, (Vn.cells x)[j]? = some u → w.cell? (ad.add j) = some u) (hn : n + 1 ≤ 1000000) (hbase : base ≤ w.heap.size)
    (k : ∀ a2 c2 w', Frst B0 H w' base a2 (n + 1) c2 (L ++ [x]) → Below base w w' → wpList Try.prog ops Q rest (a.put o.dst (.slice a2 (n + 1) c2)) w') : wpList Try.prog ops Q (o :: rest) a w :=
  BigFrame.wpList_want hw fun K hK => by
    obtain ⟨a2, c2, w', hr, h2, h3⟩ := run_append_v o.type w base h x hx ad c' hc hn hbase
    unfold Oper.wp execOp
    simp only [ho, resolve, invoke, builtin, Sem.run_bind, Sem.run_pure, Result.andThen_ok, List.map_toArray, List.map_cons, List.map_nil, hs, hy, hr]
    exact hK _ _ (k a2 c2 w' h2 h3)
theorem step_append_v {K : Act → World → Prop} {E : Prop} (hgd : o.guard = none) (s y : Operand) (ho : o.op = .call { callee := .builtin .append, args := #[s, y], argTypes := #[25, 25] })
    (base : Nat) {b n c} {L : List Vn} (hs : a.eval s = .slice b n c) (h : Frst B0 H w base b n c L) {ad c'} (hy : a.eval y = .slice (some ad) 1 c') (x : Vn) (hx : x.Rs (fun i => Old B0 H i ∧ blockOf b ≠ some i) w)
    (hc : ∀ j u, (Vn.cells x)[j]? = some u → w.cell? (ad.add j) = some u) (hn : n + 1 ≤ 1000000) (hbase : base ≤ w.heap.size)
    (k : ∀ a2 c2 w', Frst B0 H w' base a2 (n + 1) c2 (L ++ [x]) → Below base w w' → K (a.put o.dst (.slice a2 (n + 1) c2)) w') :
    if Region.wanted o (yielded ops a.tmps) = true then Oper.wp Try.prog o a w K Q else E := by
  have hw : Region.wanted o (yielded ops a.tmps) = true := by simp [Region.wanted, hgd]
  rw [if_pos hw]
  obtain ⟨a2, c2, w', hr, h2, h3⟩ := run_append_v o.type w base h x hx ad c' hc hn hbase
  unfold Oper.wp execOp
  simp only [ho, resolve, invoke, builtin, Sem.run_bind, Sem.run_pure, Result.andThen_ok, List.map_toArray, List.map_cons, List.map_nil, hs, hy, hr]
  exact k a2 c2 w' h2 h3
end
/-- Behind a call in w (which had what was ahead), what it made does not lie in a block that was there. -/
theorem Vn.Rs.apart {B0 H : Nat} {w w' : World} {base : Nat} {a n c} {L : List Vn} {r : Vn} (h : OwnV w base a n c L) (hB : B0 ≤ base) (hH : H ≤ w.heap.size) (hr : r.Rs (Old B0 w.heap.size) w') : r.Rs (fun b => Old B0 H b ∧ blockOf a ≠ some b) w' :=
  hr.weak (fun b _ hS => ⟨hS.imp id (fun h => by omega), fun e => by
    have h1 := h.blockLt e
    rcases hS with h2 | h2 <;> omega⟩)
theorem Vn.Rs.apart' {B0 H : Nat} {w w' : World} {base : Nat} {a n c} {L : List Vn} {r : Vn} (h : OwnV w base a n c L) (hB : B0 ≤ base) (hr : r.Rs (· < B0) w') : r.Rs (fun b => Old B0 H b ∧ blockOf a ≠ some b) w' :=
  hr.weak (fun b _ hS => ⟨.inl hS, fun e => by
    have h1 := h.blockLt e
    omega⟩)
theorem Frst.reads {B0 H : Nat} {w : World} {base : Nat} {a n c} {L : List Vn} (h : Frst B0 H w base a n c L) : VSs (Old B0 H) w a n c (L.map Vn.tr) := h.own.reads (fun x hx => (h.rs x hx).weak (fun b _ h => h.1))

theorem take_set_lt {α : Type} (l : List α) (q k : Nat) (t x : α) (hk : l[k]? = some x) (hne : k ≠ q) : (l.set q t).take (k + 1) = (l.set q t).take k ++ [x] := by
  rw [List.take_add_one, List.getElem?_set]
  simp [Ne.symm hne, hk]
theorem take_set_eq {α : Type} (l : List α) (q : Nat) (t : α) (hk : q < l.length) : (l.set q t).take (q + 1) = (l.set q t).take q ++ [t] := by
  rw [List.take_add_one, List.getElem?_set]
  simp [hk]

end Go.Proofs.Ytpdicfekhghfeaa.va
