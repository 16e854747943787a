/-
  Layer 6: what a walk with keep leaves; the call of keep.
-/
import Derived.Test.YtbpjaidfpacbfaaTrmWays
namespace Go.Proofs.Ytbpjaidfpacbfaa.tk
open Go.ChangeShapes Go.WideShapes Go.ChangeAt Go.RowKit
open bs tr te
set_option linter.unusedVariables false

/-- w' is w but for new blocks and those of S. -/
structure Tp (w w' : World) (S : Nat → Prop) : Prop where
  os : w'.os = w.os
  tape : w'.tape = w.tape
  output : w'.output = w.output
  size : w.heap.size ≤ w'.heap.size
  block : ∀ i, i < w.heap.size → ¬ S i → w'.heap[i]? = w.heap[i]?
theorem Tp.of_below {w w' : World} (h : Below w.heap.size w w') (S : Nat → Prop) : Tp w w' S := ⟨h.os, h.tape, h.output, h.size, fun i hi _ => h.block i hi⟩
theorem Tp.of_grown {w w' : World} {row : Option Nat} (h : w.grownBy w' row) : Tp w w' (fun i => row = some i) := ⟨h.os, h.tape, h.output, h.size, fun i hi hr => h.block i hi (fun e => hr e.symm)⟩
theorem Tp.trans {w w' w'' : World} {S S' : Nat → Prop} (h : Tp w w' S) (k : Tp w' w'' S') (hs : ∀ i, i < w.heap.size → S' i → S i) : Tp w w'' S :=
  ⟨k.os.trans h.os, k.tape.trans h.tape, k.output.trans h.output, Nat.le_trans h.size k.size, fun i hi hn => (k.block i (Nat.lt_of_lt_of_le hi h.size) (fun e => hn (hs i hi e))).trans (h.block i hi hn)⟩
theorem Tp.weak {w w' : World} {S S' : Nat → Prop} (h : Tp w w' S) (hs : ∀ i, i < w.heap.size → S i → S' i) : Tp w w' S' := ⟨h.os, h.tape, h.output, h.size, fun i hi hn => h.block i hi (fun e => hn (hs i hi e))⟩
theorem Tp.of_only {w w' : World} {g : Nat} (h : Only w w' g) : Tp w w' (fun i => i = g) := ⟨h.os, h.tape, h.output, Nat.le_of_eq h.size.symm, fun i _ hi => h.block i hi⟩
theorem Tp.below {w w' : World} {S : Nat → Prop} {B : Nat} (h : Tp w w' S) (hB : B ≤ w.heap.size) (hs : ∀ i, S i → B ≤ i) : Below B w w' :=
  ⟨h.os, h.tape, h.output, h.size, fun i hi => h.block i (by omega) (fun e => by have := hs i e; omega)⟩
theorem Tp.kp {w w' : World} {S T : Nat → Prop} (h : Tp w w' S) (hs : ∀ i, S i → ¬ T i) : Kp T w w' := ⟨h.size, fun b hT hb => h.block b hb (fun e => hs b e hT)⟩

/-- Where a slice lies that was at a0 before. -/
def Nw (h : Nat) (a0 a : Option Addr) : Prop := blockOf a = blockOf a0 ∨ ∃ g, blockOf a = some g ∧ h ≤ g
theorem Nw.refl (h : Nat) (a : Option Addr) : Nw h a a := .inl rfl
theorem Nw.trans {h h' : Nat} {a b c : Option Addr} (x : Nw h a b) (y : Nw h' b c) (hh : h ≤ h') : Nw h a c := by
  rcases y with y | ⟨g, y, hg⟩
  · rcases x with x | ⟨g, x, hg⟩
    · exact .inl (y.trans x)
    · exact .inr ⟨g, y.trans x, hg⟩
  · exact .inr ⟨g, y, Nat.le_trans hh hg⟩

/-- The teller (its paths M so far) and the path in hand. -/
structure WS (w : World) (tb : Nat) (d s : Value) (a : Option Addr) (n c : Nat) (p : List Int) (ka : Option Addr) (kc : Nat) (M : List (List Int)) : Prop where
  path : OwnI w (tb + 1) 3 a n c p
  blk : Blk w tb #[d, s, .slice ka M.length kc] 64
  kept : ∃ K, Pths (fun b => tb < b ∧ blockOf a ≠ some b) w (tb + 1) ka M.length kc K ∧ K.map Wy.l = M
  apart : ∀ i, blockOf a = some i → blockOf ka ≠ some i
/-- What turns when it goes on. -/
def Wr (tb : Nat) (a ka : Option Addr) (i : Nat) : Prop := i = tb ∨ blockOf a = some i ∨ blockOf ka = some i

theorem WS.lta {w : World} {tb : Nat} {d s : Value} {a : Option Addr} {n c : Nat} {p : List Int} {ka : Option Addr} {kc : Nat} {M : List (List Int)} (h : WS w tb d s a n c p ka kc M) : ∀ i, blockOf a = some i → tb < i ∧ i < w.heap.size := fun i hi => by
  have := OwnI.blockLt h.path hi; omega
theorem WS.ltk {w : World} {tb : Nat} {d s : Value} {a : Option Addr} {n c : Nat} {p : List Int} {ka : Option Addr} {kc : Nat} {M : List (List Int)} (h : WS w tb d s a n c p ka kc M) : ∀ i, blockOf ka = some i → tb < i ∧ i < w.heap.size := fun i hi => by
  obtain ⟨K, hK, _⟩ := h.kept
  have := OwnS.blockLt hK.own hi; omega
theorem WS.ltw {w : World} {tb : Nat} {d s : Value} {a : Option Addr} {n c : Nat} {p : List Int} {ka : Option Addr} {kc : Nat} {M : List (List Int)} (h : WS w tb d s a n c p ka kc M) : ∀ i, Wr tb a ka i → tb ≤ i ∧ i < w.heap.size := fun i hi => by
  rcases hi with h1 | h1 | h1
  · have := h.blk.lt; omega
  · have := h.lta i h1; omega
  · have := h.ltk i h1; omega
theorem WS.below {w w' : World} {tb : Nat} {d s : Value} {a : Option Addr} {n c : Nat} {p : List Int} {ka : Option Addr} {kc : Nat} {M : List (List Int)} (h : WS w tb d s a n c p ka kc M) (hb : Below w.heap.size w w') : WS w' tb d s a n c p ka kc M := by
  obtain ⟨K, hK, hM⟩ := h.kept
  exact ⟨h.path.below hb, h.blk.below hb, ⟨K, hK.below hb, hM⟩, h.apart⟩
/-- The first ones of the path. -/
theorem WS.first {w : World} {tb : Nat} {d s : Value} {a : Option Addr} {n c : Nat} {p : List Int} {ka : Option Addr} {kc : Nat} {M : List (List Int)} (h : WS w tb d s a n c p ka kc M) (k : Nat) (hk : k ≤ n) : WS w tb d s a k c (p.take k) ka kc M :=
  ⟨OwnI.first h.path k hk, h.blk, h.kept, h.apart⟩
/-- Behind an append to the path. -/
theorem WS.push {X w : World} {tb : Nat} {d s : Value} {a a2 : Option Addr} {n c n2 c2 : Nat} {p q : List Int} {ka : Option Addr} {kc : Nat} {M : List (List Int)} (h : WS X tb d s a n c p ka kc M) (ho : OwnI w (tb + 1) 3 a2 n2 c2 q) (hg : X.grownBy w (blockOf a)) (hl : blockOf a2 = blockOf a ∨ blockOf a2 = some X.heap.size) : WS w tb d s a2 n2 c2 q ka kc M := by
  obtain ⟨K, hK, hM⟩ := h.kept
  refine ⟨ho, h.blk.of (hg.block tb h.blk.lt (fun e => by have := h.lta tb e.symm; omega)), ⟨K, ?_, hM⟩, fun i hi hk => ?_⟩
  · have h1 : Pths (fun b => tb < b ∧ blockOf a ≠ some b) w (tb + 1) ka M.length kc K := hK.agree (fun i hi => hg.block i (h.ltk i hi).2 (fun e => h.apart i e.symm hi)) ⟨hg.size, fun b hb hl => hg.block b hl (fun e => hb.2 e.symm)⟩
    have h2 : Pths (fun b => (tb < b ∧ blockOf a ≠ some b) ∧ b < X.heap.size) w (tb + 1) ka M.length kc K := by
      have h3 := hK.weak (S' := fun b => (tb < b ∧ blockOf a ≠ some b) ∧ b < X.heap.size) (fun b hb hS => ⟨hS, hb⟩)
      exact h3.agree (fun i hi => hg.block i (h.ltk i hi).2 (fun e => h.apart i e.symm hi)) ⟨hg.size, fun b hb hl => hg.block b hl (fun e => hb.1.2 e.symm)⟩
    refine h2.weak (fun b _ hS => ⟨hS.1.1, fun e => ?_⟩)
    rcases hl with hl | hl
    · exact hS.1.2 (hl.symm.trans e)
    · rw [hl] at e; cases e; exact absurd hS.2 (Nat.lt_irrefl _)
  · rcases hl with hl | hl
    · exact h.apart i (hl.symm.trans hi) hk
    · rw [hl] at hi; cases hi; have := (h.ltk _ hk).2; omega

/-- Behind the append of a path to the paths, and the store of them. -/
theorem WS.keep {X w : World} {tb : Nat} {d s : Value} {a : Option Addr} {n c : Nat} {p : List Int} {ka a2 : Option Addr} {kc c2 : Nat} {M : List (List Int)} {K : List Wy} {y : Wy} (h : WS X tb d s a n c p ka kc M) (hK : K.map Wy.l = M) (hy : y.l = p)
    (hP : Pths (fun b => tb < b ∧ blockOf a ≠ some b) w (tb + 1) a2 (M.length + 1) c2 (K ++ [y])) (hg : X.grownBy w (blockOf ka)) (hl : blockOf a2 = blockOf ka ∨ blockOf a2 = some X.heap.size) : WS (w.setCell ⟨tb, 2, none⟩ (.slice a2 (M.length + 1) c2)) tb d s a n c p a2 c2 (M ++ [p]) := by
  have ho := only_cell w tb 2 (.slice a2 (M.length + 1) c2)
  refine ⟨?_, ?_, ⟨K ++ [y], ?_, by rw [List.map_append, hK, ← hy]; rfl⟩, fun i hi e => ?_⟩
  · exact OwnI.of h.path (fun i hi => (ho.block i (by have := h.lta i hi; omega)).trans (hg.block i (h.lta i hi).2 (fun e => h.apart i hi e.symm)))
  · have h1 : Blk w tb #[d, s, .slice ka M.length kc] 64 := h.blk.of (hg.block tb h.blk.lt (fun e => by have := h.ltk tb e.symm; omega))
    have h2 := h1.set 2 (.slice a2 (M.length + 1) c2)
    rw [List.length_append]
    simpa using h2
  · rw [List.length_append]
    refine hP.agree (fun i hi => ho.block i ?_) (ho.kp (fun b hb => by omega))
    have := OwnS.blockLt hP.own hi; omega
  · rcases hl with hl | hl
    · exact h.apart i hi (hl.symm.trans e)
    · rw [hl] at e; cases e; have := (h.lta _ hi).2; omega

def KP (tb : Nat) (d s : Value) (pa : Option Addr) (n c : Nat) (p : List Int) (ka : Option Addr) (M : List (List Int)) (w : World) (e : Ending) (w' : World) : Prop :=
  e = .returned (.tuple #[]) ∧ ∃ ka' kc', WS w' tb d s pa n c p ka' kc' (M ++ [p]) ∧ Tp w w' (fun i => i = tb ∨ blockOf ka = some i) ∧ Nw w.heap.size ka ka'

set_option maxRecDepth 100000 in
set_option maxHeartbeats 2000000 in
theorem keep_any (w : World) (tb : Nat) (d s : Value) (pa : Option Addr) (n c : Nat) (p : List Int) (ka : Option Addr) (kc : Nat) (M : List (List Int)) (h : WS w tb d s pa n c p ka kc M) (hM : M.length + 1 ≤ 1000000) (hn : n ≤ 1000000) :
    Calls Try.prog 51 #[.pointer (some ⟨tb, 0, none⟩), .slice pa n c] w (KP tb d s pa n c p ka M w) := by
  obtain ⟨K, hK, hKM⟩ := h.kept
  obtain ⟨m, hm⟩ : ∃ m, M.length = m := ⟨_, rfl⟩
  have H := Lib.hid h; have HKM := Lib.hid hKM; have HM := Lib.hid hm
  have hbk := h.blk
  rw [hm] at hbk hM hK
  have HK := Lib.hid hK
  have HBK := Lib.hid hbk
  have c0 := hbk.cell 2; have f0 := hbk.free 2
  simp at c0
  have HC := Lib.hid (clonei_any pa n c p w.drew (h.path.reads.drewN 1) hn)
  have KB := Lib.hid (show ∀ V, Below w.heap.size w V → V.cell? ⟨tb, 2, none⟩ = some (.slice ka m kc) from fun V hb => by rw [hb.cell HBK.out.lt]; simpa using HBK.out.cell 2)
  have hs0 : tb + 1 ≤ w.heap.size := h.blk.lt
  have KX := Lib.hid (show ∀ (w2 : World) (a2 : Option Addr) (c2 : Nat), Hid (OwnI w2 w.heap.size 3 a2 n c2 p) → Hid (Below w.heap.size w w2) → (⟨a2, n, c2, p⟩ : Wy).Rs (fun b => (tb < b ∧ blockOf pa ≠ some b) ∧ blockOf ka ≠ some b) (w2.alloc (.cells #[.slice a2 n c2] 33)) from fun w2 a2 c2 ho hb =>
    ⟨(ho.out.alloc _).reads, fun i hi => by
      have h1 := OwnI.blockLt ho.out hi
      refine ⟨⟨⟨by omega, fun e => ?_⟩, fun e => ?_⟩, by rw [size_alloc]; omega⟩
      · have := H.out.lta i e; omega
      · have := H.out.ltk i e; omega⟩)
  have KQ := Lib.hid (show ∀ (w2 : World) (a2 : Option Addr) (c2 : Nat), Hid (Below w.heap.size w w2) → Pths (fun b => tb < b ∧ blockOf pa ≠ some b) (w2.alloc (.cells #[.slice a2 n c2] 33)) (tb + 1) ka m kc K from fun w2 a2 c2 hb => (HK.out.below hb.out).below (below_alloc _ _))
  have KF := Lib.hid (show ∀ (w2 w3 : World) (a2 : Option Addr) (c2 : Nat), Hid (Below w.heap.size w w2) → (w2.alloc (.cells #[.slice a2 n c2] 33)).grownBy w3 (blockOf ka) → w3.frozen? ⟨tb, 2, none⟩ = false ∧ w3.cell? ⟨tb, 2, none⟩ = some (.slice ka m kc) from fun w2 w3 a2 c2 hb hg => by
    have h1 := (HBK.out.below hb.out).below (below_alloc w2 (.cells #[.slice a2 n c2] 33))
    have h2 := h1.of (hg.block tb h1.lt (fun e => by have := H.out.ltk tb e.symm; omega))
    exact ⟨h2.free 2, by simpa using h2.cell 2⟩)
  clear h hK hKM hm hbk
  go_enter Try.func51, Try.ntmps51
  go_region_law
    (first
      | (go_simp; go_at_call 65; (with_reducible refine HC.out.mono ?_); rintro e w2 ⟨a2, c2, rfl, ho2, hb2⟩; have hB2 : Below w.heap.size w w2 := (Below.drew (Below.refl _ _)).trans hb2; have x2 := KB.out _ hB2; have x3 := KB.out _ (hB2.trans ((below_alloc w2 (.cells #[.slice a2 n c2] 33)).mono hB2.size)); have HO2 : Hid (OwnI w2 w.heap.size 3 a2 n c2 p) := ho2; have HB2 := Lib.hid hB2; have hs2 := hB2.size; clear ho2 hb2 hB2)
      | (refine step_append_y (by rfl) (.tmp 8) (.tmp 11) (by rfl) (tb + 1) (by rfl) (KQ.out w2 a2 c2 HB2) (by rfl) ⟨a2, n, c2, p⟩ (KX.out w2 a2 c2 HO2 HB2) (src_new w2 [.slice a2 n c2] 33) hM (by rw [size_alloc]; omega) ?_; intro a3 c3 w3 hp3 hb3 hg3 hl3; obtain ⟨f3, x30⟩ := KF.out _ _ _ _ HB2 hg3; have HP3 := Lib.hid hp3; have HG3 := Lib.hid hg3; have HL3 := Lib.hid hl3; clear hp3 hb3 hg3 hl3))
  all_goals
    go_end0
    have hm := HM.out
    subst hm
    have hX := (H.out.below HB2.out).below (below_alloc w2 (.cells #[.slice a2 n c2] 33))
    have hsX : w.heap.size ≤ (w2.alloc (.cells #[.slice a2 n c2] 33)).heap.size := by rw [size_alloc]; omega
    refine ⟨rfl, a3, c3, hX.keep HKM.out rfl HP3.out HG3.out HL3.out, ?_, HL3.out.imp id (fun h => ⟨_, h, hsX⟩)⟩
    have t1 : Tp w (w2.alloc (.cells #[.slice a2 n c2] 33)) (fun i => i = tb ∨ blockOf ka = some i) := .of_below (HB2.out.trans ((below_alloc w2 (.cells #[.slice a2 n c2] 33)).mono HB2.out.size)) _
    exact (t1.trans (.of_grown HG3.out) (fun i _ h => .inr h)).trans (.of_only (only_cell _ _ _ _)) (fun i _ h => .inl h)
end Go.Proofs.Ytbpjaidfpacbfaa.tk
