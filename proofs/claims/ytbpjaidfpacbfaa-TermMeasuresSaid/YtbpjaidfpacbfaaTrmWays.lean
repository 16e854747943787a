/-
  Layer 6: slices of paths: each a slice of ints in a block of its own.
-/
import Derived.Test.YtbpjaidfpacbfaaTrmDeep
import Derived.Test.YtbpjaidfpacbfaaTrmPt
import Derived.Test.YtbpjaidfpacbfaaTrmFrst
namespace Go.Proofs.Ytbpjaidfpacbfaa.te
open Go.ChangeShapes Go.WideShapes Go.ChangeAt Go.RowKit
open bs tr
set_option linter.unusedVariables false

structure Wy where
  a : Option Addr
  n : Nat
  c : Nat
  l : List Int
def Wy.cells (y : Wy) : List Value := [.slice y.a y.n y.c]
theorem wy_len (y : Wy) : y.cells.length = 1 := rfl
theorem wy_one (y : Wy) : ∀ u ∈ y.cells, u.oneCell' = true := by
  intro u hu
  simp [Wy.cells] at hu
  subst hu; rfl
theorem wyT : RecT Try.prog 27 33 (.slice none 0 0) 1 24 := ⟨Try.underlying27, by kernel_rfl, rfl⟩

theorem I64s.keep {w w' : World} {a n c l} (h : I64s w a n c l) (hk : ∀ i, blockOf a = some i → w'.heap[i]? = w.heap[i]?) : I64s w' a n c l := by
  refine ⟨h.len, h.cap, h.most, h.all, h.nil, ?_⟩
  rcases h.at' with h0 | ⟨b, off, ha, hc⟩
  · exact .inl h0
  · refine .inr ⟨b, off, ha, fun i hi => ?_⟩
    rw [World.cell?_of_block (w := w) (a := ⟨b, off + i, none⟩) (hk b (by rw [ha]; rfl))]
    exact hc i hi

/-- A path that lies in a block of S. -/
structure Wy.Rs (S : Nat → Prop) (w : World) (y : Wy) : Prop where
  rd : I64s w y.a y.n y.c y.l
  sb : ∀ i, blockOf y.a = some i → S i ∧ i < w.heap.size
theorem Wy.Rs.agree {S : Nat → Prop} {w w' : World} {y : Wy} (h : y.Rs S w) (hk : Kp S w w') : y.Rs S w' :=
  ⟨I64s.keep h.rd (fun i hi => hk.block i (h.sb i hi).1 (h.sb i hi).2), fun i hi => ⟨(h.sb i hi).1, Nat.lt_of_lt_of_le (h.sb i hi).2 hk.size⟩⟩
theorem Wy.Rs.below {S : Nat → Prop} {w w' : World} {y : Wy} (h : y.Rs S w) (hb : Below w.heap.size w w') : y.Rs S w' := h.agree (.of_below hb)
theorem Wy.Rs.weak {S S' : Nat → Prop} {w : World} {y : Wy} (h : y.Rs S w) (hS : ∀ b, b < w.heap.size → S b → S' b) : y.Rs S' w :=
  ⟨h.rd, fun i hi => ⟨hS i (h.sb i hi).2 (h.sb i hi).1, (h.sb i hi).2⟩⟩

/-- Paths of the call's own, in blocks of S, and not among the row of them. -/
structure Pths (S : Nat → Prop) (w : World) (base : Nat) (a : Option Addr) (n c : Nat) (L : List Wy) : Prop where
  own : OwnS 1 Wy.cells w base 33 a n c L
  rs : ∀ x ∈ L, x.Rs (fun b => S b ∧ blockOf a ≠ some b) w
theorem Pths.nil (S : Nat → Prop) (w : World) (base : Nat) : Pths S w base none 0 0 [] := ⟨OwnS.nil _ _ _, fun x hx => by cases hx⟩
theorem Pths.below {S : Nat → Prop} {w w' : World} {base : Nat} {a n c} {L : List Wy} (h : Pths S w base a n c L) (hb : Below w.heap.size w w') : Pths S w' base a n c L := ⟨OwnS.below h.own hb, fun x hx => (h.rs x hx).below hb⟩
theorem OwnS.blockLt {α : Type} {size : Nat} {cells : α → List Value} {w : World} {base : Nat} {e a n c} {L : List α} (h : OwnS size cells w base e a n c L) {i : Nat} (hi : blockOf a = some i) : base ≤ i ∧ i < w.heap.size := by
  rcases h.cases with ⟨rfl, _, _⟩ | ⟨g, rfl, hg, hs, _, _⟩
  · cases hi
  · cases hi; exact ⟨hg, hs⟩
theorem OwnS.of {α : Type} {size : Nat} {cells : α → List Value} {w w' : World} {base : Nat} {e a n c} {L : List α} (h : OwnS size cells w base e a n c L) (hk : ∀ i, blockOf a = some i → w'.heap[i]? = w.heap[i]?) : OwnS size cells w' base e a n c L := by
  refine ⟨⟨h.own.1, ?_⟩, h.num⟩
  rcases h.own.2 with ⟨hv, hn⟩ | ⟨g, cap, cur, hv, hg, hh, r⟩
  · exact .inl ⟨hv, hn⟩
  · refine .inr ⟨g, cap, cur, hv, hg, ?_, r⟩
    simp only [Value.slice.injEq] at hv
    rw [hk g (by rw [hv.1]; rfl)]; exact hh
/-- What does not turn its row, nor a block of S. -/
theorem Pths.agree {S : Nat → Prop} {w w' : World} {base : Nat} {a n c} {L : List Wy} (h : Pths S w base a n c L) (hk : ∀ i, blockOf a = some i → w'.heap[i]? = w.heap[i]?) (hS : Kp S w w') : Pths S w' base a n c L :=
  ⟨OwnS.of h.own hk, fun x hx => (h.rs x hx).agree ⟨hS.size, fun b hb hl => hS.block b hb.1 hl⟩⟩
theorem Pths.weak {S S' : Nat → Prop} {w : World} {base : Nat} {a n c} {L : List Wy} (h : Pths S w base a n c L) (hS : ∀ b, b < w.heap.size → S b → S' b) : Pths S' w base a n c L :=
  ⟨h.own, fun x hx => (h.rs x hx).weak (fun b hl hb => ⟨hS b hl hb.1, hb.2⟩)⟩

/-- A slice of paths that can be read. -/
abbrev WR (w : World) (a : Option Addr) (n c : Nat) (L : List (List Int)) : Prop := Recs 1 (fun w b o (l : List Int) => ∃ y : Wy, y.l = l ∧ I64s w y.a y.n y.c y.l ∧ w.cell? ⟨b, o, none⟩ = some (.slice y.a y.n y.c)) w a n c L
theorem wr_stays : Stays (fun w b o (l : List Int) => ∃ y : Wy, y.l = l ∧ I64s w y.a y.n y.c y.l ∧ w.cell? ⟨b, o, none⟩ = some (.slice y.a y.n y.c)) := by
  rintro w w' b o l ⟨y, h1, h2, h3⟩ hb hbel
  exact ⟨y, h1, h2.below hbel, by rw [hbel.cell hb]; exact h3⟩
theorem Pths.reads {S : Nat → Prop} {w : World} {base : Nat} {a n c} {L : List Wy} (h : Pths S w base a n c L) : WR w a n c (L.map Wy.l) := by
  refine Recs.map (E := fun w b o (y : Wy) => I64s w y.a y.n y.c y.l ∧ w.cell? ⟨b, o, none⟩ = some (.slice y.a y.n y.c)) Wy.l ?_ (fun b o y _ _ h => ⟨y, rfl, h.1, h.2⟩)
  refine OwnS.recs h.own (by decide) wy_len _ (fun b o y hy hc => ⟨(h.rs y hy).rd, ?_⟩)
  exact hc 0 _ rfl

theorem run_append_y {S : Nat → Prop} (ty : TypeId) (w : World) (base : Nat) {a n c} {L : List Wy} (h : Pths S w base a n c L) (x : Wy) (hx : x.Rs (fun b => S b ∧ blockOf a ≠ some b) w) (ad : Addr) (c' : Nat)
    (hc : ∀ j u, (Wy.cells x)[j]? = some u → w.cell? (ad.add j) = some u) (hn : n + 1 ≤ 1000000) (hbase : base ≤ w.heap.size) :
    ∃ a2 c2 w', (Builtin.append_ #[27, 27] ty #[.slice a n c, .slice (some ad) 1 c']).run Try.prog w = .ok (.slice a2 (n + 1) c2) w' ∧ Pths S w' base a2 (n + 1) c2 (L ++ [x]) ∧ Below base w w' ∧ w.grownBy w' (blockOf a) ∧ (blockOf a2 = blockOf a ∨ blockOf a2 = some w.heap.size) := by
  obtain ⟨i0, hi, hz0, hz1, hz2⟩ := info_parts wyT.info
  obtain ⟨g, cap, w', hr, ho2, hg, hat, hlt⟩ := run_append_lies (P := Try.prog) w 27 ty base 33 i0 (.slice none 0 0) 1 24 wyT.und hi hz0 hz1 hz2 wyT.zero (by decide) (.slice a n c) n (L.flatMap Wy.cells) h.own.own ad 1 c' (Wy.cells x) rfl hc
    (wy_one x) (by omega) (by unfold maxLen; omega) (by omega) hbase _ rfl
  rw [ownBlock_eq] at hg hat
  have he : (L ++ [x]).flatMap Wy.cells = L.flatMap Wy.cells ++ Wy.cells x := by simp
  have hbel : Below base w w' := (Below.refl base w).grown hg hbase (fun k hk => (OwnS.blockLt h.own hk).1)
  have key : ∀ y : Wy, y.Rs (fun b => S b ∧ blockOf a ≠ some b) w → y.Rs (fun b => S b ∧ blockOf (some ⟨g, 0, none⟩) ≠ some b) w' := fun y hy => by
    have h1 := hy.weak (S' := fun b => (S b ∧ blockOf a ≠ some b) ∧ b < w.heap.size) (fun b h1 h2 => ⟨h2, h1⟩)
    have h2 := h1.agree (w' := w') ⟨hg.size, fun b hS hb => hg.block b hb (fun e => hS.1.2 e.symm)⟩
    refine h2.weak (fun b _ hS => ⟨hS.1.1, fun e => ?_⟩)
    have hgb : g = b := by simpa [blockOf] using e
    subst hgb
    rcases hat with hat | hat
    · exact hS.1.2 hat
    · have := hS.2; omega
  refine ⟨some ⟨g, 0, none⟩, cap, w', hr, ⟨⟨by rw [he]; exact ho2, by simp [h.own.num]⟩, fun y hy => ?_⟩, hbel, hg, hat.imp (fun h => h.symm) (fun h => by rw [h]; rfl)⟩
  rcases List.mem_append.1 hy with h1 | h1
  · exact key y (h.rs y h1)
  · rw [List.mem_singleton] at h1; subst h1; exact key _ hx

section
variable {S : Nat → Prop} {w : World} {ops : Array Oper} {rest : List Oper} {o : Oper} {a : Act} {Q : Exit → Act → World → Prop}
theorem step_append_y {K : Act → World → Prop} {E : Prop} (hgd : o.guard = none) (s y : Operand) (ho : o.op = .call { callee := .builtin .append, args := #[s, y], argTypes := #[27, 27] })
    (base : Nat) {b n c} {L : List Wy} (hs : a.eval s = .slice b n c) (h : Pths S w base b n c L) {ad c'} (hy : a.eval y = .slice (some ad) 1 c') (x : Wy) (hx : x.Rs (fun i => S i ∧ blockOf b ≠ some i) w)
    (hc : ∀ j u, (Wy.cells x)[j]? = some u → w.cell? (ad.add j) = some u) (hn : n + 1 ≤ 1000000) (hbase : base ≤ w.heap.size)
    (k : ∀ a2 c2 w', Pths S w' base a2 (n + 1) c2 (L ++ [x]) → Below base w w' → w.grownBy w' (blockOf b) → (blockOf a2 = blockOf b ∨ blockOf a2 = some w.heap.size) → K (a.put o.dst (.slice a2 (n + 1) c2)) w') :
    if Region.wanted o (yielded ops a.tmps) = true then Oper.wp Try.prog o a w K Q else E := by
  have hw : Region.wanted o (yielded ops a.tmps) = true := by simp [Region.wanted, hgd]
  rw [if_pos hw]
  obtain ⟨a2, c2, w', hr, h2, h3, h4, h5⟩ := run_append_y o.type w base h x hx ad c' hc hn hbase
  unfold Oper.wp execOp
  simp only [ho, resolve, invoke, builtin, Sem.run_bind, Sem.run_pure, Result.andThen_ok, List.map_toArray, List.map_cons, List.map_nil, hs, hy, hr]
  exact k a2 c2 w' h2 h3 h4 h5
end

def ClI (p : List Int) (n : Nat) (w : World) (e : Ending) (w' : World) : Prop := ∃ (a : Option Addr) (c : Nat), e = .returned (.slice a n c) ∧ OwnI w' w.heap.size 3 a n c p ∧ Below w.heap.size w w'

set_option maxRecDepth 100000 in
set_option maxHeartbeats 1000000 in
theorem clonei_any (a : Option Addr) (n c : Nat) (p : List Int) (w : World) (hs : I64s w a n c p) (hn : n ≤ 1000000) : Calls Try.prog 65 #[.slice a n c] w (ClI p n w) := by
  rcases a with _ | ad
  · have h2 := hs.nil rfl
    have h1 : n = 0 := by have := hs.cap; omega
    subst h1 h2
    have hL : p = [] := List.eq_nil_of_length_eq_zero hs.len
    subst hL
    clear hs
    have heq : ∀ W : World, (binOp .eql 33 (.slice none 0 0) (.slice none 0 0)).run Try.prog W = .ok (.bool true) W := fun W => Lib.run_eql_slice_nil W _ _ none 0 0 0 0 Try.underlying33
    go_enter Try.func65, Try.ntmps65
    go_wp2
    go_ret
    exact ⟨none, 0, rfl, OwnI.nil _ _ _, Below.refl _ _⟩
  · have ho := OwnI.made w w.heap.size 3 [] #[] rfl (Nat.le_refl _) (by simp [maxLen]) (by simp [AllI])
    have hb : Below w.heap.size w (w.alloc (.cells #[] 3)) := (Below.refl _ _).alloc (Nat.le_refl _) _
    have HO := Lib.hid ho; have HB := Lib.hid hb; have HS := Lib.hid (hs.below hb)
    clear hs ho hb
    have heq : ∀ W : World, (binOp .eql 33 (.slice (some ad) n c) (.slice none 0 0)).run Try.prog W = .ok (.bool false) W := fun W => Lib.run_eql_slice_nil W _ _ (some ad) n c 0 0 Try.underlying33
    go_enter Try.func65, Try.ntmps65
    go_wp2_with (at_builtin; refine wpList_append_I intT rfl _ _ rfl w.heap.size rfl HO.out rfl HS.out (by simp; omega) HB.out.size ?_)
    intro a2 c2 w2 ho2 hb2 _
    have HO2 := Lib.hid ho2; have HB2 := Lib.hid (HB.out.trans hb2)
    clear ho2 hb2
    go_wp2
    go_ret
    refine ⟨a2, c2, by simp, ?_, HB2.out⟩
    have := HO2.out
    simpa using this
end Go.Proofs.Ytbpjaidfpacbfaa.te
