import Derived.Test.YtbbkmijkllgfaaaGreatDoorProg
import Derived.Laws.Tables
import Derived.BigQuiet
import Derived.Deep.CutRange
import Derived.Deep.RegionHeldLaw
import Derived.OwnWalk
import Derived.Test.YtbbkmijkllgfaaaGreatDoorPkL19
import Derived.Test.YtbbkmijkllgfaaaGreatDoorPkL17
import Derived.Test.YtbbkmijkllgfaaaGreatDoorPkL15
import Derived.Test.YtbbkmijkllgfaaaGreatDoorPkL2
import Derived.Test.YtbbkmijkllgfaaaGreatDoorPkL0
import Derived.ChangeOld
import Derived.Lib.SmallJoins
import Derived.WalkKit
import Derived.Deep.RegionHeld3
import Derived.StillTailTactics
import Derived.Lib.Hide
import Derived.Deep.AppendLies
set_option maxRecDepth 100000
set_option maxHeartbeats 4000000
section
namespace Go.Proofs.YtbbkmijkllgfaaaGreatDoor.lx
open Go.ChangeShapes Go.WideShapes Go.ChangeAt Go.RowKit
open bs
set_option linter.unusedVariables false
set_option linter.unusedSimpArgs false
abbrev KB (w : World) (g : Nat) (x : Tk) : Prop := Blk w g x.row 70
theorem c6a (x : Tk) : (x.row : Array Value).all (·.oneCell') = true := by simp [Value.oneCell']
theorem c59 (x : Tk) : x.cells.length = 5 := rfl
theorem a8q (x : Tk) : ∀ u ∈ x.cells, u.oneCell' = true := by
  intro u hu
  simp [Tk.cells] at hu
  rcases hu with rfl | rfl | rfl | rfl | rfl <;> rfl
structure Only (w w' : World) (g : Nat) : Prop where
  os : w'.os = w.os
  tape : w'.tape = w.tape
  output : w'.output = w.output
  size : w'.heap.size = w.heap.size
  block : ∀ k, k ≠ g → w'.heap[k]? = w.heap[k]?
theorem Only.below {w w' : World} {g B : Nat} (h : Only w w' g) (hB : B ≤ g) : Below B w w' := ⟨h.os, h.tape, h.output, Nat.le_of_eq h.size.symm, fun k hk => h.block k (by omega)⟩
theorem a4v (w : World) (g : Nat) (cs : Array Value) : Only w (w.setRow g cs) g := ⟨rfl, rfl, rfl, by simp [World.setRow], fun k hk => Go.setRow_other w g k cs hk⟩
theorem a5w {w : World} {g : Nat} {cs cs' : Array Value} {t : TypeId} (h : Blk w g cs t) : Blk (w.setRow g cs') g cs' t := setRow_heap w g cs cs' t (0, 0) h
theorem w9 (w : World) (o : Obj) : (w.alloc o).heap.size = w.heap.size + 1 := by simp
theorem i7 (w : World) (o : Obj) : Below w.heap.size w (w.alloc o) := (Below.refl _ _).alloc (Nat.le_refl _) _
section
variable {w : World} {ops : Array Oper} {rest : List Oper} {o : Oper} {a : Act} {Q : Exit → Act → World → Prop}
theorem j4 (hgd : o.guard = none) (x y : Operand) (ho : o.op = .store 70 x y) {g : Nat} (hx : a.eval x = .pointer (some ⟨g, 0, none⟩)) {u : Tk} (hr : KB w g u) (v : Tk) (hy : a.eval y = v.val)
    (k : ∀ w', KB w' g v → Only w w' g → wpList Tryz.prog ops Q rest (a.put o.dst undef) w') : wpList Tryz.prog ops Q (o :: rest) a w :=
  wpList_store_row hgd 70 x y ho g v.row hx hy 70 _ hr (by kernel_rfl) rfl (c6a v) (k _ (a5w hr) (a4v _ _ _))
theorem a74 (hgd : o.guard = none) (x : Operand) (ho : o.op = .load 70 x) {g : Nat} (hx : a.eval x = .pointer (some ⟨g, 0, none⟩)) {v : Tk} (hr : KB w g v)
    (h : wpList Tryz.prog ops Q rest (a.put o.dst v.val) w) : wpList Tryz.prog ops Q (o :: rest) a w :=
  wpList_load_row hgd 70 x ho g hx 70 _ (0, 0) _ hr Tryz.underlying70 rfl (by kernel_rfl) h
end
theorem i8 {P : Program} {fn : Func} {p q : Tmp} {ty : TypeId} (h : fn.results = #[.cell p ty, .tmp q]) (tmps : Array Value) (w : World) (g : Nat) (t : TypeId) (cs : Array Value) (d : TypeDesc)
    (hp : tmps.getD p undef = .pointer (some ⟨g, 0, none⟩)) (hg : Blk w g cs t)
    (hu : P.underlying ty = some d) (hd : (match d with | .struct _ | .array _ _ => true | _ => false) = true) (hi : (P.info? ty).map (·.size) = some cs.size) :
    (results fn tmps).run P w = .ok (.tuple #[.agg cs, tmps.getD q undef]) w := by
  have hp' : tmps[p]?.getD undef = .pointer (some ⟨g, 0, none⟩) := by simpa using hp
  simp [results, h, hp', asAddr, run_loadVar_row w g t ty cs _ d hg hu hd hi]
def TP (r : Tk × Int) (w : World) (e : Ending) (w' : World) : Prop := e = .returned (.tuple #[r.1.val, .int .i64 r.2]) ∧ Below w.heap.size w w'
theorem b22 (w : World) (x : Tk) : KB (w.alloc (.cells x.row 70)) w.heap.size x := Blk.new w _ _
end Go.Proofs.YtbbkmijkllgfaaaGreatDoor.lx
namespace Go.Proofs.YtbbkmijkllgfaaaGreatDoor.lx
open Go.ChangeShapes Go.WideShapes Go.ChangeAt Go.RowKit
open bs
set_option linter.unusedVariables false
set_option linter.unusedSimpArgs false
theorem tkT : RecT Tryz.prog 59 70 (.agg #[.int .i64 0, .int .i64 0, .string ⟨#[]⟩, .int .i64 0, .int .i64 0]) 5 48 := ⟨Tryz.underlying59, by kernel_rfl, rfl⟩
abbrev OwnK (w : World) (base : Nat) (a : Option Addr) (n c : Nat) (L : List Tk) : Prop := OwnS 5 Tk.cells w base 70 a n c L
theorem OwnS.blockLt {α : Type} {size : Nat} {cells : α → List Value} {w : World} {base : Nat} {e a n c} {L : List α} (h : OwnS size cells w base e a n c L) {i : Nat} (hi : g9 a = some i) : base ≤ i ∧ i < w.heap.size := by
  rcases h.cases with ⟨rfl, _, _⟩ | ⟨g, rfl, hg, hs, _, _⟩
  · cases hi
  · cases hi; exact ⟨hg, hs⟩
theorem OwnS.of {α : Type} {size : Nat} {cells : α → List Value} {w w' : World} {base : Nat} {e a n c} {L : List α} (h : OwnS size cells w base e a n c L) (hk : ∀ i, g9 a = some i → w'.heap[i]? = w.heap[i]?) : OwnS size cells w' base e a n c L := by
  refine ⟨⟨h.own.1, ?_⟩, h.num⟩
  rcases h.own.2 with ⟨hv, hn⟩ | ⟨g, cap, cur, hv, hg, hh, r⟩
  · exact .inl ⟨hv, hn⟩
  · refine .inr ⟨g, cap, cur, hv, hg, ?_, r⟩
    simp only [Value.slice.injEq] at hv
    rw [hk g (by rw [hv.1]; rfl)]; exact hh
abbrev KS (w : World) (a : Option Addr) (n c : Nat) (L : List Tk) : Prop := Recs 5 (fun w b o (x : Tk) => ∀ j u, x.cells[j]? = some u → w.cell? ⟨b, o + j, none⟩ = some u) w a n c L
theorem OwnS.toks {w : World} {base : Nat} {a n c} {L : List Tk} (h : OwnK w base a n c L) : KS w a n c L := OwnS.recs h (by decide) c59 _ (fun b o x _ hc => hc)
section
variable {w : World} {ops : Array Oper} {rest : List Oper} {o : Oper} {a : Act} {Q : Exit → Act → World → Prop}
theorem a5b (hw : Region.wanted o (yielded ops a.tmps) = true) (s y : Operand) (ho : o.op = .call { callee := .builtin .append, args := #[s, y], argTypes := #[59, 59] })
    (base : Nat) {b n c} {l : List Tk} (hs : a.eval s = .slice b n c) (h : OwnK w base b n c l) {ad c'} (hy : a.eval y = .slice (some ad) 1 c') (x : Tk)
    (hc : ∀ j u, x.cells[j]? = some u → w.cell? (ad.add j) = some u) (hn : n + 1 ≤ 1000000) (hbase : base ≤ w.heap.size)
    (k : ∀ a2 c2 w', OwnK w' base a2 (n + 1) c2 (l ++ [x]) → Below base w w' → w.grownBy w' (g9 b) → wpList Tryz.prog ops Q rest (a.put o.dst (.slice a2 (n + 1) c2)) w') : wpList Tryz.prog ops Q (o :: rest) a w :=
  BigFrame.wpList_want hw fun K hK => by
    obtain ⟨a2, c2, w', hr, h2, h3, h4⟩ := a3i tkT (by decide) o.type w base h x rfl (a8q x) ad c' hc (by unfold maxLen; omega) (by omega) hbase
    rw [a4w] at h4
    unfold Oper.wp execOp
    simp only [ho, resolve, invoke, builtin, Sem.run_bind, Sem.run_pure, Result.andThen_ok, List.map_toArray, List.map_cons, List.map_nil, hs, hy, hr]
    exact hK _ _ (k a2 c2 w' h2 h3 h4)
end
theorem a4u (w : World) (g j : Nat) (u : Value) : Only w (w.setCell ⟨g, j, none⟩ u) g := ⟨rfl, rfl, rfl, by simp [World.setCell], fun k hk => Below.heap_setCell _ ⟨g, j, none⟩ _ k hk⟩
def TsP (r : List Tk × Nat × Int) (w : World) (e : Ending) (w' : World) : Prop :=
  ∃ (a : Option Addr) (n c : Nat), e = .returned (.tuple #[.slice a n c, .int .i64 (r.2.1 : Nat), .int .i64 r.2.2]) ∧ KS w' a n c r.1 ∧ Below w.heap.size w w'
def TsO (r : List Tk × Nat × Int) (w : World) (e : Ending) (w' : World) : Prop :=
  ∃ (a : Option Addr) (n c : Nat), e = .returned (.tuple #[.slice a n c, .int .i64 (r.2.1 : Nat), .int .i64 r.2.2]) ∧ (KS w' a n c r.1 ∧ (n = 0 ∨ ∃ b off, a = some ⟨b, off, none⟩ ∧ w.heap.size ≤ b)) ∧ Below w.heap.size w w'
theorem TsO.weak {r : List Tk × Nat × Int} {w : World} {e : Ending} {w' : World} (h : TsO r w e w') : TsP r w e w' := by
  obtain ⟨a, n, c, h1, h2, h3⟩ := h
  exact ⟨a, n, c, h1, h2.1, h3⟩
theorem OwnS.anew {w : World} {B base : Nat} {a n c} {L : List Tk} (h : OwnK w base a n c L) (hB : B ≤ base) : n = 0 ∨ ∃ b off, a = some ⟨b, off, none⟩ ∧ B ≤ b := by
  rcases OwnS.cases h with ⟨_, h1, _⟩ | ⟨g, h1, h2, _⟩
  · exact .inl h1
  · exact .inr ⟨g, 0, h1, Nat.le_trans hB h2⟩
end Go.Proofs.YtbbkmijkllgfaaaGreatDoor.lx
end
section
namespace Go.Proofs.YtbbkmijkllgfaaaGreatDoor.am
open Go.ChangeShapes Go.WideShapes Go.ChangeAt Go.RowKit
open vt
set_option linter.unusedVariables false
def tkT (x : lx.Tk) : Tok := ⟨x.k, x.n, x.s, x.f, x.t⟩
def tokG (s : ByteArray) : List Tok × Nat × Int := ((lx.tokens s).1.map tkT, (lx.tokens s).2)
abbrev vTk (r : List Tok × Nat × Int) : AV := .tup [.c (.pv (.sl 5 (r.1.map kc))), .c (.pv (I (r.2.1 : Nat))), .c (.pv (I r.2.2))]
theorem b45 {γ : Nat → G} {S : CS} {w w' : World} {r : List lx.Tk × Nat × Int} {e : Ending} (h : lx.TsO r w e w') : ∃ v, e = .returned v ∧ Below w.heap.size w w' ∧ j5 γ (newS S w w') w' v (vTk (r.1.map tkT, r.2)) := by
  obtain ⟨a, n, c, rfl, ⟨hk, hn⟩, hb⟩ := h
  refine ⟨_, rfl, hb, _, rfl, rfl, fun i x hx => ?_⟩
  have hsl : RepP (newS S w w') w' (.slice a n c) (.sl 5 ((r.1.map tkT).map kc)) := by
    rcases Nat.eq_zero_or_pos n with h0 | h0
    · subst h0
      have : r.1 = [] := List.length_eq_zero_iff.1 hk.len
      rw [this]
      exact .emp a c 5 hk.most hk.nil
    · rcases hn with hn | ⟨b, off, rfl, hnb⟩
      · omega
      rcases hk.at' with hz | ⟨b', off', hab, hlt, hc⟩
      · omega
      obtain ⟨rfl, rfl⟩ : b = b' ∧ off = off' := by injection hab with h; injection h with h1 h2; exact ⟨h1, h2⟩
      refine .sl b off n c 5 _ (by rw [List.length_map, List.length_map]; exact hk.len) h0 hk.cap hk.most (fun e he => ?_) (fun i j => (((r.1[i]?).bind fun x => x.cells[j]?)).getD undef) (fun i e j p h1 h2 => ?_) (fun i e j p h1 h2 => ?_)
      · obtain ⟨y, _, rfl⟩ := List.mem_map.1 he; rfl
      · rw [List.map_map, List.getElem?_map] at h1
        obtain ⟨y, hy, rfl⟩ := Option.map_eq_some_iff.1 h1
        have hj : j < 5 := (List.getElem?_eq_some_iff.1 h2).1
        refine ⟨.inr ⟨hnb, hlt⟩, ?_⟩
        rw [hy]
        have hcl : ∃ u, y.cells[j]? = some u := ⟨_, List.getElem?_eq_getElem (by exact hj)⟩
        obtain ⟨u, hu⟩ := hcl
        rw [hc i y hy j u hu]
        simp [hu]
      · rw [List.map_map, List.getElem?_map] at h1
        obtain ⟨y, hy, rfl⟩ := Option.map_eq_some_iff.1 h1
        rw [hy]
        have hj : j < 5 := (List.getElem?_eq_some_iff.1 h2).1
        match j, hj with
        | 0, _ => obtain rfl := Option.some.inj h2; exact .lit _ rfl
        | 1, _ => obtain rfl := Option.some.inj h2; exact .lit _ rfl
        | 2, _ => obtain rfl := Option.some.inj h2; exact .lit _ rfl
        | 3, _ => obtain rfl := Option.some.inj h2; exact .lit _ rfl
        | 4, _ => obtain rfl := Option.some.inj h2; exact .lit _ rfl
  match i, hx with
  | 0, hx => obtain rfl := Option.some.inj hx; exact ⟨_, rfl, hsl⟩
  | 1, hx => obtain rfl := Option.some.inj hx; exact ⟨_, rfl, .lit _ rfl⟩
  | 2, hx => obtain rfl := Option.some.inj hx; exact ⟨_, rfl, .lit _ rfl⟩
  | i + 3, hx => simp at hx
end Go.Proofs.YtbbkmijkllgfaaaGreatDoor.am
end
section
namespace Go.Proofs.YtbbkmijkllgfaaaGreatDoor.tr
open Go.ChangeShapes Go.WideShapes Go.ChangeAt Go.RowKit
open bs
set_option linter.unusedVariables false
inductive Tr (α : Type) where
  | mk (x : α) (l : List (Tr α))
namespace Tr
variable {α : Type}
def lab : Tr α → α
  | .mk x _ => x
def kids : Tr α → List (Tr α)
  | .mk _ l => l
theorem ind {P : Tr α → Prop} (h : ∀ x l, (∀ y ∈ l, P y) → P (.mk x l)) (t : Tr α) : P t :=
  Tr.rec (motive_1 := P) (motive_2 := fun l => ∀ y ∈ l, P y) h (fun y hy => by simp at hy) (fun x l hx hl y hy => by
    rcases List.mem_cons.1 hy with rfl | hy
    · exact hx
    · exact hl y hy) t
theorem eta (t : Tr α) : t = .mk t.lab t.kids := by cases t; rfl
noncomputable def fold {β : Type} (g : α → List (Tr α) → List β → β) (t : Tr α) : β :=
  Tr.rec (motive_1 := fun _ => β) (motive_2 := fun _ => List β) (fun x l ih => g x l ih) [] (fun _ _ a b => a :: b) t
theorem fold_mk {β : Type} (g : α → List (Tr α) → List β → β) (x : α) (l : List (Tr α)) : fold g (.mk x l) = g x l (l.map (fold g)) := by
  show g x l _ = _
  congr 1
  induction l with
  | nil => rfl
  | cons y l ih => show fold g y :: _ = _; rw [ih]; rfl
noncomputable def size (t : Tr α) : Nat := fold (fun _ _ b => 1 + b.sum) t
theorem size_mk (x : α) (l : List (Tr α)) : size (.mk x l) = 1 + (l.map size).sum := fold_mk _ x l
noncomputable def depth (t : Tr α) : Nat := fold (fun _ _ b => b.foldl max 0 + 1) t
theorem depth_mk (x : α) (l : List (Tr α)) : depth (.mk x l) = (l.map depth).foldl max 0 + 1 := fold_mk _ x l
theorem size_pos (t : Tr α) : 0 < size t := by cases t; rw [size_mk]; omega
theorem size_le {x : α} {l : List (Tr α)} {y : Tr α} (h : y ∈ l) : size y < size (.mk x l) := by
  rw [size_mk]
  have : size y ≤ (l.map size).sum := by
    induction l with
    | nil => simp at h
    | cons z l ih =>
      rcases List.mem_cons.1 h with rfl | h
      · simp
      · have := ih h; simp; omega
  omega
def at' : Tr α → List Int → Option (Tr α)
  | t, [] => some t
  | t, i :: p => if 0 ≤ i ∧ i < t.kids.length then (t.kids[i.toNat]?).bind fun y => at' y p else none
def put : Tr α → List Int → Tr α → Tr α
  | _, [], x => x
  | t, i :: p, x => .mk t.lab (t.kids.modify i.toNat fun y => put y p x)
end Tr
def b15 {α : Type} (Hd : World → Nat → Nat → α → Option Addr → Nat → Nat → Prop) : Prop := ∀ w w' b o x a m c, Hd w b o x a m c → w'.heap[b]? = w.heap[b]? → Hd w' b o x a m c
inductive Ta {α : Type} (size : Nat) (Hd : World → Nat → Nat → α → Option Addr → Nat → Nat → Prop) (S : Nat → Prop) (w : World) : Nat → Nat → Tr α → Prop where
  | leaf (b o : Nat) (x : α) (a : Option Addr) (c : Nat) (h : Hd w b o x a 0 c) (hm : c ≤ 9223372036854775807) (hn : a = none → c = 0) : Ta size Hd S w b o (.mk x [])
  | node (b o : Nat) (x : α) (l : List (Tr α)) (b' off c : Nat) (h : Hd w b o x (some ⟨b', off, none⟩) l.length c) (hc : l.length ≤ c) (hm : c ≤ 9223372036854775807) (hb : b' < w.heap.size) (hS : S b')
      (hl : ∀ (i : Nat) (y : Tr α), l[i]? = some y → Ta size Hd S w b' (off + i * size) y) : Ta size Hd S w b o (.mk x l)
section
variable {α : Type} {size : Nat} {Hd : World → Nat → Nat → α → Option Addr → Nat → Nat → Prop} {S S' : Nat → Prop}
abbrev Ts (size : Nat) (Hd : World → Nat → Nat → α → Option Addr → Nat → Nat → Prop) (S : Nat → Prop) (w : World) (a : Option Addr) (n c : Nat) (l : List (Tr α)) : Prop := Recs size (fun w b o t => Ta size Hd S w b o t) w a n c l
def SB (S : Nat → Prop) (a : Option Addr) (n : Nat) : Prop := 0 < n → ∀ b off, a = some ⟨b, off, none⟩ → S b
theorem Ta.out {w : World} {b o : Nat} {x : α} {l : List (Tr α)} (h : Ta size Hd S w b o (.mk x l)) : ∃ a m c, Hd w b o x a m c ∧ Ts size Hd S w a m c l ∧ SB S a m := by
  cases h with
  | leaf _ _ _ a c h hm hn => exact ⟨a, 0, c, h, ⟨rfl, Nat.zero_le _, hm, hn, .inl rfl⟩, fun h => absurd h (Nat.lt_irrefl _)⟩
  | node _ _ _ _ b' off c h hc hm hb hS hl => exact ⟨_, _, c, h, ⟨rfl, hc, hm, by simp, .inr ⟨b', off, rfl, hb, hl⟩⟩, fun _ b o he => by cases he; exact hS⟩
theorem Ta.intro {w : World} {b o : Nat} {x : α} {l : List (Tr α)} {a m c} (h : Hd w b o x a m c) (hr : Ts size Hd S w a m c l) (hs : SB S a m) : Ta size Hd S w b o (.mk x l) := by
  have hl := hr.len
  rcases hr.at' with h0 | ⟨b', off, ha, hb, hk⟩
  · subst h0
    have : l = [] := List.length_eq_zero_iff.1 hl
    subst this
    exact .leaf b o x a c h hr.most hr.nil
  · subst ha hl
    rcases Nat.eq_zero_or_pos l.length with h0 | h0
    · have : l = [] := List.length_eq_zero_iff.1 h0
      subst this
      exact .leaf b o x _ c h hr.most hr.nil
    · exact .node b o x l b' off c h hr.cap hr.most hb (hs h0 _ _ rfl) hk
structure Kp (S : Nat → Prop) (w w' : World) : Prop where
  size : w.heap.size ≤ w'.heap.size
  block : ∀ b, S b → b < w.heap.size → w'.heap[b]? = w.heap[b]?
theorem Kp.of_below {w w' : World} (h : Below w.heap.size w w') : Kp S w w' := ⟨h.size, fun b _ hb => h.block b hb⟩
theorem Ta.agree (hs : b15 Hd) {w w' : World} (hk : Kp S w w') {b o : Nat} {t : Tr α} (h : Ta size Hd S w b o t) (hb : w'.heap[b]? = w.heap[b]?) : Ta size Hd S w' b o t := by
  induction h with
  | leaf b o x a c h hm hn => exact .leaf b o x a c (hs _ _ _ _ _ _ _ _ h hb) hm hn
  | node b o x l b' off c h hc hm hb' hS hl ih => exact .node b o x l b' off c (hs _ _ _ _ _ _ _ _ h hb) hc hm (Nat.lt_of_lt_of_le hb' hk.size) hS (fun i y hi => ih i y hi (hk.block b' hS hb'))
theorem Ta.weak {w : World} {b o : Nat} {t : Tr α} (h : Ta size Hd S w b o t) (hS : ∀ b, b < w.heap.size → S b → S' b) : Ta size Hd S' w b o t := by
  induction h with
  | leaf b o x a c h hm hn => exact .leaf b o x a c h hm hn
  | node b o x l b' off c h hc hm hb' hSb hl ih => exact .node b o x l b' off c h hc hm hb' (hS b' hb' hSb) ih
theorem c6k (hs : b15 Hd) : c04 (fun w b o t => Ta size Hd S w b o t) := fun w w' b o t h hlt hb => Ta.agree hs (.of_below hb) h (hb.block b hlt)
theorem Ts.agree (hs : b15 Hd) {w w' : World} (hk : Kp S w w') {a n c} {l : List (Tr α)} (h : Ts size Hd S w a n c l) (hb : SB S a n) : Ts size Hd S w' a n c l := by
  refine ⟨h.len, h.cap, h.most, h.nil, ?_⟩
  rcases h.at' with h0 | ⟨b, off, ha, hlt, hc⟩
  · exact .inl h0
  · rcases Nat.eq_zero_or_pos n with h0 | h0
    · exact .inl h0
    · exact .inr ⟨b, off, ha, Nat.lt_of_lt_of_le hlt hk.size, fun i x hi => Ta.agree hs hk (hc i x hi) (hk.block b (hb h0 b off ha) hlt)⟩
theorem Ts.weak {w : World} {a n c} {l : List (Tr α)} (h : Ts size Hd S w a n c l) (hS : ∀ b, b < w.heap.size → S b → S' b) : Ts size Hd S' w a n c l := by
  refine ⟨h.len, h.cap, h.most, h.nil, ?_⟩
  rcases h.at' with h0 | ⟨b, off, ha, hlt, hc⟩
  · exact .inl h0
  · exact .inr ⟨b, off, ha, hlt, fun i x hi => Ta.weak (hc i x hi) hS⟩
theorem SB.weak {w : World} {a n c} {l : List (Tr α)} (hb : SB S a n) (h : Ts size Hd S w a n c l) (hS : ∀ b, b < w.heap.size → S b → S' b) : SB S' a n := by
  intro h0 b off ha
  rcases h.at' with h1 | ⟨b', off', ha', hlt, hc⟩
  · omega
  · have := ha.symm.trans ha'
    cases this
    exact hS b hlt (hb h0 b off ha)
theorem Recs.map {β γ : Type} {size : Nat} {E : World → Nat → Nat → β → Prop} {E' : World → Nat → Nat → γ → Prop} {w : World} {a n c} {l : List β} (f : β → γ) (h : Recs size E w a n c l) (hf : ∀ b o x, x ∈ l → b < w.heap.size → E w b o x → E' w b o (f x)) :
    Recs size E' w a n c (l.map f) := by
  refine ⟨by simpa using h.len, h.cap, h.most, h.nil, ?_⟩
  rcases h.at' with h0 | ⟨b, off, ha, hlt, hc⟩
  · exact .inl h0
  · refine .inr ⟨b, off, ha, hlt, fun i y hi => ?_⟩
    rw [List.getElem?_map] at hi
    obtain ⟨x, hx, rfl⟩ := Option.map_eq_some_iff.1 hi
    exact hf _ _ _ (List.mem_of_getElem? hx) hlt (hc i x hx)
theorem Recs.one {β : Type} {size : Nat} {E : World → Nat → Nat → β → Prop} {w : World} {a n c} {l : List β} (h : Recs size E w a n c l) (i : Nat) (x : β) (hi : l[i]? = some x) : ∃ b off, a = some ⟨b, off, none⟩ ∧ b < w.heap.size ∧ E w b (off + i * size) x := by
  rcases h.at' with h0 | ⟨b, off, ha, hlt, hc⟩
  · have := h.len; have := (List.getElem?_eq_some_iff.1 hi).1; omega
  · exact ⟨b, off, ha, hlt, hc i x hi⟩
theorem Recs.lt {β : Type} {size : Nat} {E : World → Nat → Nat → β → Prop} {w : World} {a n c} {l : List β} (h : Recs size E w a n c l) (i : Nat) (hi : i < n) : ∃ x, l[i]? = some x := ⟨l[i]'(by rw [h.len]; exact hi), List.getElem?_eq_getElem _⟩
section
variable {H : Type} {enc : TypeId × Value → H} {P : Program} {w : World}
end
end
end Go.Proofs.YtbbkmijkllgfaaaGreatDoor.tr
end
section
namespace Go.Proofs.YtbbkmijkllgfaaaGreatDoor.bs
open Go.ChangeShapes Go.WideShapes Go.ChangeAt Go.RowKit
set_option linter.unusedVariables false
def c4m (l : List Int) : Prop := ∀ n ∈ l, -9223372036854775808 ≤ n ∧ n ≤ 9223372036854775807
structure I64s (w : World) (a : Option Addr) (n c : Nat) (l : List Int) : Prop where
  len : l.length = n
  cap : n ≤ c
  most : c ≤ 9223372036854775807
  all : c4m l
  nil : a = none → c = 0
  at' : n = 0 ∨ ∃ b off, a = some ⟨b, off, none⟩ ∧ ∀ i, i < n → w.cell? ⟨b, off + i, none⟩ = some (.int .i64 (l.getD i 0))
theorem I64s.drewN {w : World} {a n c l} (h : I64s w a n c l) (m : Nat) : I64s (w.drewN m) a n c l :=
  ⟨h.len, h.cap, h.most, h.all, h.nil, h.at'⟩
theorem I64s.below {w w' : World} {a n c l} (h : I64s w a n c l) (hb : Below w.heap.size w w') : I64s w' a n c l := by
  refine ⟨h.len, h.cap, h.most, h.all, h.nil, ?_⟩
  rcases h.at' with h0 | ⟨b, off, ha, hc⟩
  · exact .inl h0
  · refine .inr ⟨b, off, ha, fun i hi => ?_⟩
    rw [hb.cell (World.block_lt_of_cell? w _ (hc i hi))]
    exact hc i hi
theorem c4m.getD {l : List Int} (h : c4m l) (i : Nat) : -9223372036854775808 ≤ l.getD i 0 ∧ l.getD i 0 ≤ 9223372036854775807 := by
  rw [List.getD_eq_getElem?_getD]
  rcases Nat.lt_or_ge i l.length with hi | hi
  · rw [List.getElem?_eq_getElem hi]; exact h _ (List.getElem_mem hi)
  · rw [List.getElem?_eq_none hi]; simp
def v6 (l : List Int) : List Value := l.map (Value.int .i64)
structure OwnI (w : World) (base : Nat) (e : TypeId) (a : Option Addr) (n c : Nat) (l : List Int) : Prop where
  own : w.ownsRow base e 1 (.slice a n c) n (v6 l)
  all : c4m l
theorem OwnI.len {w : World} {base e a n c l} (h : OwnI w base e a n c l) : l.length = n := by
  have := h.own.1
  simpa [v6] using this
theorem OwnI.cases {w : World} {base e a n c l} (h : OwnI w base e a n c l) : (a = none ∧ n = 0 ∧ c = 0) ∨ ∃ g, a = some ⟨g, 0, none⟩ ∧ base ≤ g ∧ g < w.heap.size ∧ n ≤ c ∧ c ≤ maxLen := by
  rcases h.own.2 with ⟨hv, hn⟩ | ⟨g, cap, cur, hv, hg, hh, hn, hc, _⟩
  · simp only [Value.slice.injEq] at hv
    exact .inl ⟨hv.1, hn, hv.2.2⟩
  · simp only [Value.slice.injEq] at hv
    obtain ⟨rfl, _, rfl⟩ := hv
    exact .inr ⟨g, rfl, hg, (Array.getElem?_eq_some_iff.1 hh).1, hn, hc⟩
theorem OwnI.reads {w : World} {base e a n c l} (h : OwnI w base e a n c l) : I64s w a n c l := by
  rcases h.cases with ⟨rfl, rfl, rfl⟩ | ⟨g, rfl, hg, hs, hn, hc⟩
  · exact ⟨h.len, Nat.le_refl _, by omega, h.all, fun _ => rfl, .inl rfl⟩
  · refine ⟨h.len, hn, by unfold maxLen at hc; omega, h.all, by simp, .inr ⟨g, 0, rfl, fun i hi => ?_⟩⟩
    rw [Nat.zero_add, h.own.cellAt i (by omega), v6, List.getElem?_map, List.getElem?_eq_getElem (by rw [h.len]; exact hi), List.getD_eq_getElem?_getD, List.getElem?_eq_getElem (by rw [h.len]; exact hi)]
    rfl
theorem OwnI.mono {w : World} {base base' e a n c l} (h : OwnI w base e a n c l) (hb : base' ≤ base) : OwnI w base' e a n c l := by
  refine ⟨⟨h.own.1, ?_⟩, h.all⟩
  rcases h.own.2 with hv | ⟨g, cap, cur, hv, hg, r⟩
  · exact .inl hv
  · exact .inr ⟨g, cap, cur, hv, Nat.le_trans hb hg, r⟩
theorem OwnI.below {w w' : World} {base e a n c l} (h : OwnI w base e a n c l) (hb : Below w.heap.size w w') : OwnI w' base e a n c l := by
  refine ⟨⟨h.own.1, ?_⟩, h.all⟩
  rcases h.own.2 with hv | ⟨g, cap, cur, hv, hg, hh, r⟩
  · exact .inl hv
  · exact .inr ⟨g, cap, cur, hv, hg, by rw [hb.block g (Array.getElem?_eq_some_iff.1 hh).1]; exact hh, r⟩
theorem OwnI.drewN {w : World} {base e a n c l} (h : OwnI w base e a n c l) (m : Nat) : OwnI (w.drewN m) base e a n c l :=
  h.below (below_drewN (Below.refl _ _) m)
theorem OwnI.drew {w : World} {base e a n c l} (h : OwnI w base e a n c l) : OwnI w.drew base e a n c l :=
  h.below (Below.drew (Below.refl _ _))
theorem OwnI.alloc {w : World} {base e a n c l} (h : OwnI w base e a n c l) (o : Obj) : OwnI (w.alloc o) base e a n c l :=
  h.below ((Below.refl _ _).alloc (Nat.le_refl _) o)
theorem OwnI.nil (w : World) (base : Nat) (e : TypeId) : OwnI w base e none 0 0 [] := ⟨World.ownsRow_nil w base e 1, by simp [c4m]⟩
theorem OwnI.made (w : World) (base : Nat) (e : TypeId) (l : List Int) (cur : Array Value) (hcur : cur = (v6 l).toArray) (hb : base ≤ w.heap.size) (hl : l.length ≤ maxLen) (hall : c4m l) :
    OwnI (w.alloc (.cells cur e)) base e (some ⟨w.heap.size, 0, none⟩) l.length l.length l := by
  subst hcur
  refine ⟨⟨by simp [v6], .inr ⟨w.heap.size, l.length, _, rfl, hb, heap_alloc_new w _, Nat.le_refl _, hl, by simp [v6], ?_⟩⟩, hall⟩
  rw [List.take_of_length_le (by simp [v6])]
theorem I64s.one (w : World) (e : TypeId) (z : Int) (h0 : -9223372036854775808 ≤ z ∧ z ≤ 9223372036854775807) : I64s (w.alloc (.cells #[.int .i64 z] e)) (some ⟨w.heap.size, 0, none⟩) 1 1 [z] :=
  (OwnI.made w 0 e [z] _ rfl (Nat.zero_le _) (by simp [maxLen]) (by simpa [c4m] using h0)).reads
structure I64T (P : Program) (t e : TypeId) : Prop where
  und : P.underlying t = some (.slice e)
  info : (P.info? e).map (fun i => (i.zero, i.size, i.bytes)) = some (some (.int .i64 0), 1, 8)
section
variable {P : Program} {w : World} {ops : Array Oper} {rest : List Oper} {o : Oper} {a : Act} {Q : Exit → Act → World → Prop}
end
theorem OwnI.stored {w : World} {base e n c l} {g : Nat} (h : OwnI w base e (some ⟨g, 0, none⟩) n c l) (j : Nat) (x : Int) (hx : -9223372036854775808 ≤ x ∧ x ≤ 9223372036854775807) :
    OwnI (w.setCell ⟨g, j, none⟩ (.int .i64 x)) base e (some ⟨g, 0, none⟩) n c (l.set j x) := by
  refine ⟨?_, ?_⟩
  · have := (h.own.stored j (.int .i64 x)).1
    rwa [show v6 (l.set j x) = (v6 l).set j (.int .i64 x) by simp [v6]]
  · intro y hy
    rcases List.mem_or_eq_of_mem_set hy with h1 | h1
    · exact h.all y h1
    · subst h1; exact hx
theorem OwnI.cellAt {w : World} {base e n c l} {g : Nat} (h : OwnI w base e (some ⟨g, 0, none⟩) n c l) (j : Nat) (hj : j < n) : w.cell? ⟨g, j, none⟩ = some (.int .i64 (l.getD j 0)) := by
  rw [h.own.cellAt j (by omega), v6, List.getElem?_map, List.getElem?_eq_getElem (by rw [h.len]; exact hj), List.getD_eq_getElem?_getD, List.getElem?_eq_getElem (by rw [h.len]; exact hj)]
  rfl
theorem OwnI.frozenAt {w : World} {base e n c l} {g : Nat} (h : OwnI w base e (some ⟨g, 0, none⟩) n c l) (j : Nat) : w.frozen? ⟨g, j, none⟩ = false := h.own.frozenAt j
theorem OwnI.keep {w w' : World} {base e n c l} {g : Nat} (h : OwnI w base e (some ⟨g, 0, none⟩) n c l) (hk : w'.heap[g]? = w.heap[g]?) : OwnI w' base e (some ⟨g, 0, none⟩) n c l := by
  refine ⟨⟨h.own.1, ?_⟩, h.all⟩
  rcases h.own.2 with hv | ⟨g', cap, cur, hv, hg, hh, r⟩
  · exact .inl hv
  · refine .inr ⟨g', cap, cur, hv, hg, ?_, r⟩
    simp only [Value.slice.injEq, Option.some.injEq, Addr.mk.injEq, and_true] at hv
    rw [← hv.1, hk, hv.1]
    exact hh
theorem OwnI.block {w : World} {base e n c l} {g : Nat} (h : OwnI w base e (some ⟨g, 0, none⟩) n c l) : ∃ cur, w.heap[g]? = some (.cells cur e (0, 0)) := by
  rcases h.own.2 with ⟨hv, _⟩ | ⟨g', cap, cur, hv, hg, hh, r⟩
  · simp at hv
  · simp only [Value.slice.injEq, Option.some.injEq, Addr.mk.injEq, and_true] at hv
    rw [hv.1]
    exact ⟨cur, hh⟩
end Go.Proofs.YtbbkmijkllgfaaaGreatDoor.bs
end
section
namespace Go.Proofs.YtbbkmijkllgfaaaGreatDoor.bs
open Go.ChangeShapes Go.WideShapes Go.ChangeAt Go.RowKit
set_option linter.unusedVariables false
section
variable {H : Type} {enc : TypeId × Value → H} {P : Program} {w : World}
theorem m7 {z : Int} (h : (Lit.int .i64 z).wf = true) : -9223372036854775808 ≤ z ∧ z ≤ 9223372036854775807 := by simpa [Lit.wf, IntKind.min, IntKind.max, IntKind.signed, IntKind.bits] using h
end
end Go.Proofs.YtbbkmijkllgfaaaGreatDoor.bs
end
section
namespace Go.Proofs.YtbbkmijkllgfaaaGreatDoor.bs
open Go.ChangeShapes Go.WideShapes Go.ChangeAt Go.RowKit
set_option linter.unusedVariables false
section
variable {H : Type} {enc : TypeId × Value → H} {P : Program} {w : World}
end
end Go.Proofs.YtbbkmijkllgfaaaGreatDoor.bs
end
section
namespace Go.Proofs.YtbbkmijkllgfaaaGreatDoor.bs
open Go.ChangeShapes Go.WideShapes Go.ChangeAt Go.RowKit
set_option linter.unusedVariables false
structure Src {α : Type} (cells : α → List Value) (w : World) (a : Option Addr) (m c : Nat) (l : List α) : Prop where
  num : l.length = m
  none : a = none → m = 0 ∧ c = 0
  at' : ∀ ad, a = some ad → ∀ j u, (l.flatMap cells)[j]? = some u → w.cell? (ad.add j) = some u
variable {α : Type} {size : Nat} {cells : α → List Value}
theorem Src.below {w w' : World} {a m c} {l : List α} (h : Src cells w a m c l) (hb : Below w.heap.size w w') : Src cells w' a m c l :=
  ⟨h.num, h.none, fun ad ha j u hu => by
    have h1 := h.at' ad ha j u hu
    rw [hb.cell (World.block_lt_of_cell? w _ h1)]; exact h1⟩
theorem OwnS.src {w : World} {base e a n c} {l : List α} (h : OwnS size cells w base e a n c l) (hz : ∀ x, (cells x).length = size) : Src cells w a n c l := by
  rcases h.cases with ⟨rfl, rfl, rfl⟩ | ⟨g, rfl, hg, hs, hn, hc⟩
  · exact ⟨h.num, fun _ => ⟨rfl, rfl⟩, fun ad ha => by cases ha⟩
  · refine ⟨h.num, fun ha => by simp at ha, fun ad ha j u hu => ?_⟩
    cases ha
    have hj : j < n * size := by
      have h1 := (List.getElem?_eq_some_iff.1 hu).1
      have h2 := h.own.1
      omega
    have hadd : (⟨g, 0, none⟩ : Addr).add j = ⟨g, j, none⟩ := by unfold Addr.add; split <;> simp_all
    rw [hadd, h.own.cellAt j hj]
    exact hu
section
variable {P : Program} {w : World} {ops : Array Oper} {rest : List Oper} {o : Oper} {a : Act} {Q : Exit → Act → World → Prop}
end
end Go.Proofs.YtbbkmijkllgfaaaGreatDoor.bs
end
section
namespace Go.Proofs.YtbbkmijkllgfaaaGreatDoor.te
open Go.ChangeShapes Go.WideShapes Go.ChangeAt Go.RowKit
open bs tr
set_option linter.unusedVariables false
structure Lab where
  k : Int
  n : Int
  s : ByteArray
  f : Int
  t : Int
def I64 (z : Int) : Prop := -9223372036854775808 ≤ z ∧ z ≤ 9223372036854775807
structure In64 (x : Lab) : Prop where
  k : I64 x.k
  n : I64 x.n
  f : I64 x.f
  t : I64 x.t
structure VH (w : World) (b o : Nat) (x : Lab) (a : Option Addr) (m c : Nat) : Prop where
  c0 : w.cell? ⟨b, o, none⟩ = some (.int .i64 x.k)
  c1 : w.cell? ⟨b, o + 3, none⟩ = some (.slice a m c)
  c2 : w.cell? ⟨b, o + 1, none⟩ = some (.int .i64 x.n)
  c3 : w.cell? ⟨b, o + 2, none⟩ = some (.string x.s)
  c4 : w.cell? ⟨b, o + 4, none⟩ = some (.int .i64 x.f)
  c5 : w.cell? ⟨b, o + 5, none⟩ = some (.int .i64 x.t)
  r0 : In64 x
theorem b31 : b15 VH := fun w w' b o x a m c h hb =>
  ⟨by rw [World.cell?_of_block (w := w) (a := ⟨b, o, none⟩) hb]; exact h.c0, by rw [World.cell?_of_block (w := w) (a := ⟨b, o + 3, none⟩) hb]; exact h.c1, by rw [World.cell?_of_block (w := w) (a := ⟨b, o + 1, none⟩) hb]; exact h.c2,
   by rw [World.cell?_of_block (w := w) (a := ⟨b, o + 2, none⟩) hb]; exact h.c3, by rw [World.cell?_of_block (w := w) (a := ⟨b, o + 4, none⟩) hb]; exact h.c4, by rw [World.cell?_of_block (w := w) (a := ⟨b, o + 5, none⟩) hb]; exact h.c5, h.r0⟩
abbrev VT := Tr Lab
def All : Nat → Prop := fun _ => True
abbrev VAs (S : Nat → Prop) (w : World) (b o : Nat) (t : VT) : Prop := Ta 6 VH S w b o t
abbrev VSs (S : Nat → Prop) (w : World) (a : Option Addr) (n c : Nat) (l : List VT) : Prop := Ts 6 VH S w a n c l
abbrev VA (w : World) (b o : Nat) (t : VT) : Prop := VAs All w b o t
abbrev VS (w : World) (a : Option Addr) (n c : Nat) (l : List VT) : Prop := VSs All w a n c l
theorem c2u : c04 VA := c6k b31
theorem c3w (a : Option Addr) (n : Nat) : SB All a n := fun _ _ _ _ => trivial
structure Vn where
  x : Lab
  a : Option Addr
  m : Nat
  c : Nat
  l : List VT
def Vn.val (v : Vn) : Value := .agg #[.int .i64 v.x.k, .int .i64 v.x.n, .string v.x.s, .slice v.a v.m v.c, .int .i64 v.x.f, .int .i64 v.x.t]
def Vn.tr (v : Vn) : VT := .mk v.x v.l
def Vn.Rd (w : World) (v : Vn) : Prop := VS w v.a v.m v.c v.l ∧ In64 v.x
def Vn.cells (v : Vn) : List Value := [.int .i64 v.x.k, .int .i64 v.x.n, .string v.x.s, .slice v.a v.m v.c, .int .i64 v.x.f, .int .i64 v.x.t]
theorem Vn.Rd.below {w w' : World} {v : Vn} (h : v.Rd w) (hb : Below w.heap.size w w') : v.Rd w' := ⟨h.1.below c2u hb, h.2⟩
structure Six (w : World) (b o : Nat) (v : Vn) : Prop where
  c0 : w.cell? ⟨b, o, none⟩ = some (.int .i64 v.x.k)
  c1 : w.cell? ⟨b, o + 3, none⟩ = some (.slice v.a v.m v.c)
  c2 : w.cell? ⟨b, o + 1, none⟩ = some (.int .i64 v.x.n)
  c3 : w.cell? ⟨b, o + 2, none⟩ = some (.string v.x.s)
  c4 : w.cell? ⟨b, o + 4, none⟩ = some (.int .i64 v.x.f)
  c5 : w.cell? ⟨b, o + 5, none⟩ = some (.int .i64 v.x.t)
theorem VA.out {w b o} {t : VT} (h : VA w b o t) : ∃ v : Vn, v.tr = t ∧ v.Rd w ∧ w.cell? ⟨b, o, none⟩ = some (.int .i64 v.x.k) ∧ w.cell? ⟨b, o + 3, none⟩ = some (.slice v.a v.m v.c) ∧ w.cell? ⟨b, o + 1, none⟩ = some (.int .i64 v.x.n) ∧ w.cell? ⟨b, o + 2, none⟩ = some (.string v.x.s) ∧ w.cell? ⟨b, o + 4, none⟩ = some (.int .i64 v.x.f) ∧ w.cell? ⟨b, o + 5, none⟩ = some (.int .i64 v.x.t) := by
  cases t with
  | mk x l =>
    obtain ⟨a, m, c, h1, h2, _⟩ := Ta.out h
    exact ⟨⟨x, a, m, c, l⟩, rfl, ⟨h2, h1.r0⟩, h1.c0, h1.c1, h1.c2, h1.c3, h1.c4, h1.c5⟩
structure Vn.Rs (S : Nat → Prop) (w : World) (v : Vn) : Prop where
  rd : VSs S w v.a v.m v.c v.l
  sb : SB S v.a v.m
  x64 : In64 v.x
theorem Vn.Rs.agree {S : Nat → Prop} {w w' : World} {v : Vn} (h : v.Rs S w) (hk : Kp S w w') : v.Rs S w' := ⟨Ts.agree b31 hk h.rd h.sb, h.sb, h.x64⟩
theorem Vn.Rs.below {S : Nat → Prop} {w w' : World} {v : Vn} (h : v.Rs S w) (hb : Below w.heap.size w w') : v.Rs S w' := h.agree (.of_below hb)
theorem Vn.Rs.weak {S S' : Nat → Prop} {w : World} {v : Vn} (h : v.Rs S w) (hS : ∀ b, b < w.heap.size → S b → S' b) : v.Rs S' w := ⟨Ts.weak h.rd hS, SB.weak h.sb h.rd hS, h.x64⟩
theorem Vn.Rd.rs {w : World} {v : Vn} (h : v.Rd w) : v.Rs (· < w.heap.size) w := ⟨Ts.weak h.1 (fun _ h _ => h), SB.weak (c3w _ _) h.1 (fun _ h _ => h), h.2⟩
theorem VAs.out {S : Nat → Prop} {w b o} {t : VT} (h : VAs S w b o t) : ∃ v : Vn, v.tr = t ∧ v.Rs S w ∧ w.cell? ⟨b, o, none⟩ = some (.int .i64 v.x.k) ∧ w.cell? ⟨b, o + 3, none⟩ = some (.slice v.a v.m v.c) ∧ w.cell? ⟨b, o + 1, none⟩ = some (.int .i64 v.x.n) ∧ w.cell? ⟨b, o + 2, none⟩ = some (.string v.x.s) ∧ w.cell? ⟨b, o + 4, none⟩ = some (.int .i64 v.x.f) ∧ w.cell? ⟨b, o + 5, none⟩ = some (.int .i64 v.x.t) := by
  cases t with
  | mk x l =>
    obtain ⟨a, m, c, h1, h2, h3⟩ := Ta.out h
    exact ⟨⟨x, a, m, c, l⟩, rfl, ⟨h2, h3, h1.r0⟩, h1.c0, h1.c1, h1.c2, h1.c3, h1.c4, h1.c5⟩
theorem VAs.intro {S : Nat → Prop} {w b o} {v : Vn} (h : v.Rs S w) (hc : Six w b o v) : VAs S w b o v.tr :=
  Ta.intro (a := v.a) (m := v.m) (c := v.c) ⟨hc.c0, hc.c1, hc.c2, hc.c3, hc.c4, hc.c5, h.x64⟩ h.rd h.sb
theorem VA.intro {w b o} {v : Vn} (h : v.Rd w) (hc : Six w b o v) : VA w b o v.tr :=
  Ta.intro (a := v.a) (m := v.m) (c := v.c) ⟨hc.c0, hc.c1, hc.c2, hc.c3, hc.c4, hc.c5, h.2⟩ h.1 (c3w _ _)
end Go.Proofs.YtbbkmijkllgfaaaGreatDoor.te
end
section
namespace Go.Proofs.YtbbkmijkllgfaaaGreatDoor.tr
set_option linter.unusedVariables false
namespace Tr
variable {α : Type}
theorem u2 (t : Tr α) (i : Int) (p : List Int) : at' t (i :: p) = if 0 ≤ i ∧ i < t.kids.length then (t.kids[i.toNat]?).bind fun y => at' y p else none := by cases t; rfl
theorem ext' {a b : Tr α} (h : a.lab = b.lab) (hk : a.kids = b.kids) : a = b := by cases a; cases b; simp_all [lab, kids]
noncomputable def sumk (l : List (Tr α)) (k : Nat) : Nat := ((l.take k).map size).sum
theorem sumk_succ {l : List (Tr α)} {k : Nat} {x : Tr α} (h : l[k]? = some x) : sumk l (k + 1) = sumk l k + size x := by
  unfold sumk
  rw [List.take_add_one, h]
  simp
theorem sumk_all {x : α} {l : List (Tr α)} {n : Nat} (h : l.length = n) : size (.mk x l) = 1 + sumk l n := by
  rw [size_mk, sumk, List.take_of_length_le (by omega)]
theorem len_size {x : α} {l : List (Tr α)} : l.length < size (.mk x l) := by
  rw [size_mk]
  have : l.length ≤ (l.map size).sum := by
    induction l with
    | nil => simp
    | cons y l ih => have := size_pos y; simp; omega
  omega
end Tr
end Go.Proofs.YtbbkmijkllgfaaaGreatDoor.tr
end
section
namespace Go.Proofs.YtbbkmijkllgfaaaGreatDoor.te
open Go.ChangeShapes Go.WideShapes Go.ChangeAt Go.RowKit
open bs tr
set_option linter.unusedVariables false
noncomputable def key (K : Lab → Lab) (t : VT) : VT := Tr.fold (fun x _ b => .mk (K x) b) t
theorem c58 {α : Type} {size : Nat} {E : World → Nat → Nat → α → Prop} {w : World} {a n c} {l : List α} (h : Recs size E w a n c l) {k : Nat} (hk : k < n) : ∃ b off x, a = some ⟨b, off, none⟩ ∧ b < w.heap.size ∧ l[k]? = some x ∧ E w b (off + k * size) x := by
  obtain ⟨x, hx⟩ := Recs.lt h k hk
  obtain ⟨b, off, ha, hb, he⟩ := Recs.one h k x hx
  exact ⟨b, off, x, ha, hb, hx, he⟩
end Go.Proofs.YtbbkmijkllgfaaaGreatDoor.te
end
section
namespace Go.Proofs.YtbbkmijkllgfaaaGreatDoor.te
open Go.ChangeShapes Go.WideShapes Go.ChangeAt Go.RowKit
open bs tr
set_option linter.unusedVariables false
abbrev VB (w : World) (g : Nat) (v : Vn) : Prop := Blk w g #[.int .i64 v.x.k, .int .i64 v.x.n, .string v.x.s, .slice v.a v.m v.c, .int .i64 v.x.f, .int .i64 v.x.t] 24
def lab0 : Lab := ⟨0, 0, ⟨#[]⟩, 0, 0⟩
def v0 : Vn := ⟨lab0, none, 0, 0, []⟩
structure Only (w w' : World) (g : Nat) : Prop where
  os : w'.os = w.os
  tape : w'.tape = w.tape
  output : w'.output = w.output
  size : w'.heap.size = w.heap.size
  block : ∀ k, k ≠ g → w'.heap[k]? = w.heap[k]?
theorem Only.below {w w' : World} {g B : Nat} (h : Only w w' g) (hB : B ≤ g) : Below B w w' := ⟨h.os, h.tape, h.output, Nat.le_of_eq h.size.symm, fun k hk => h.block k (by omega)⟩
theorem Only.blk {w w' : World} {g k : Nat} {cs : Array Value} {t : TypeId} (h : Only w w' g) (hb : Blk w k cs t) (hk : k ≠ g) : Blk w' k cs t := hb.of (h.block k hk)
theorem Only.kp {S : Nat → Prop} {w w' : World} {g : Nat} (h : Only w w' g) (hS : ∀ b, S b → b ≠ g) : Kp S w w' := ⟨Nat.le_of_eq h.size.symm, fun b hb _ => h.block b (hS b hb)⟩
theorem a4v (w : World) (g : Nat) (cs : Array Value) : Only w (w.setRow g cs) g := ⟨rfl, rfl, rfl, by simp [World.setRow], fun k hk => Go.setRow_other w g k cs hk⟩
theorem a5w {w : World} {g : Nat} {cs cs' : Array Value} {t : TypeId} (h : Blk w g cs t) : Blk (w.setRow g cs') g cs' t := setRow_heap w g cs cs' t (0, 0) h
section
variable {w : World} {ops : Array Oper} {rest : List Oper} {o : Oper} {a : Act} {Q : Exit → Act → World → Prop}
theorem a76 (hgd : o.guard = none) (x : Operand) (ho : o.op = .load 24 x) {g : Nat} (hx : a.eval x = .pointer (some ⟨g, 0, none⟩)) {v : Vn} (hr : VB w g v)
    (h : wpList Tryz.prog ops Q rest (a.put o.dst (.agg #[.int .i64 v.x.k, .int .i64 v.x.n, .string v.x.s, .slice v.a v.m v.c, .int .i64 v.x.f, .int .i64 v.x.t])) w) : wpList Tryz.prog ops Q (o :: rest) a w :=
  wpList_load_row hgd 24 x ho g hx 24 _ (0, 0) _ hr Tryz.underlying24 rfl (by kernel_rfl) h
end
theorem i8 {P : Program} {fn : Func} {p q : Tmp} {ty : TypeId} (h : fn.results = #[.cell p ty, .tmp q]) (tmps : Array Value) (w : World) (g : Nat) (t : TypeId) (cs : Array Value) (d : TypeDesc)
    (hp : tmps.getD p undef = .pointer (some ⟨g, 0, none⟩)) (hg : Blk w g cs t)
    (hu : P.underlying ty = some d) (hd : (match d with | .struct _ | .array _ _ => true | _ => false) = true) (hi : (P.info? ty).map (·.size) = some cs.size) :
    (results fn tmps).run P w = .ok (.tuple #[.agg cs, tmps.getD q undef]) w := by
  have hp' : tmps[p]?.getD undef = .pointer (some ⟨g, 0, none⟩) := by simpa using hp
  simp [results, h, hp', asAddr, run_loadVar_row w g t ty cs _ d hg hu hd hi]
theorem c38 (w : World) (v : Vn) : VB (w.alloc (.cells #[.int .i64 v.x.k, .int .i64 v.x.n, .string v.x.s, .slice v.a v.m v.c, .int .i64 v.x.f, .int .i64 v.x.t] 24)) w.heap.size v := Blk.new w _ _
theorem w9 (w : World) (o : Obj) : (w.alloc o).heap.size = w.heap.size + 1 := by simp
theorem i7 (w : World) (o : Obj) : Below w.heap.size w (w.alloc o) := (Below.refl _ _).alloc (Nat.le_refl _) _
end Go.Proofs.YtbbkmijkllgfaaaGreatDoor.te
end
section
namespace Go.Proofs.YtbbkmijkllgfaaaGreatDoor.te
open Go.ChangeShapes Go.WideShapes Go.ChangeAt Go.RowKit
open bs tr
set_option linter.unusedVariables false
theorem a3f (l : List Nat) : ∀ (a b : Nat), a ≤ b → (∀ x ∈ l, x ≤ b) → l.foldl max a ≤ b := by
  induction l with
  | nil => intro a b h _; exact h
  | cons x l ih =>
    intro a b h hl
    exact ih _ _ (Nat.max_le.2 ⟨h, hl x (by simp)⟩) (fun y hy => hl y (by simp [hy]))
theorem c1f (t : VT) : Tr.depth t ≤ Tr.size t := by
  induction t using Tr.ind with
  | h x l ih =>
    rw [Tr.depth_mk]
    have h : (l.map Tr.depth).foldl max 0 + 1 ≤ Tr.size (Tr.mk x l) := by
      have h1 : (l.map Tr.depth).foldl max 0 ≤ Tr.size (Tr.mk x l) - 1 := a3f _ _ _ (Nat.zero_le _) (fun y hy => by
        rw [List.mem_map] at hy
        obtain ⟨z, hz, rfl⟩ := hy
        have h1 := ih z hz
        have h2 := Tr.size_le (x := x) hz
        omega)
      have := Tr.size_pos (Tr.mk x l)
      omega
    exact h
noncomputable def mx (l : List VT) (k : Nat) : Nat := ((l.take k).map Tr.depth).foldl max 0
theorem c5s (l : List VT) : mx l 0 = 0 := rfl
theorem c5r {l : List VT} {k : Nat} {x : VT} (h : l[k]? = some x) : mx l (k + 1) = max (mx l k) x.depth := by
  unfold mx
  rw [List.take_add_one, h]
  simp
theorem mx_all {x : Lab} {l : List VT} {m : Nat} (h : l.length = m) : Tr.depth (Tr.mk x l) = mx l m + 1 := by
  rw [Tr.depth_mk, mx, List.take_of_length_le (by omega)]
end Go.Proofs.YtbbkmijkllgfaaaGreatDoor.te
end
section
namespace Go.Proofs.YtbbkmijkllgfaaaGreatDoor.tr
open Go.ChangeShapes Go.WideShapes Go.ChangeAt Go.RowKit
open bs
set_option linter.unusedVariables false
theorem Recs.src {α : Type} {size : Nat} {E : World → Nat → Nat → α → Prop} {cells : α → List Value} {w : World} {a : Option Addr} {n c : Nat} {l : List α} (h : Recs size E w a n c l) (hz : ∀ x, (cells x).length = size) (hpos : 0 < size) (hE : ∀ b o x, E w b o x → ∀ j u, (cells x)[j]? = some u → w.cell? ⟨b, o + j, none⟩ = some u) : Src cells w a n c l := by
  refine ⟨h.len, fun ha => ⟨by have := h.cap; have := h.nil ha; omega, h.nil ha⟩, fun ad ha j u hj => ?_⟩
  have hlen : ∀ l : List α, (l.flatMap cells).length = l.length * size := fun l => by
    induction l with
    | nil => simp
    | cons x l ih => rw [List.flatMap_cons, List.length_append, ih, hz, List.length_cons, Nat.succ_mul]; omega
  have hjl := (List.getElem?_eq_some_iff.1 hj).1
  rw [hlen] at hjl
  have hq : j / size < l.length := Nat.div_lt_of_lt_mul (by rw [Nat.mul_comm]; exact hjl)
  obtain ⟨x, hx⟩ : ∃ x, l[j / size]? = some x := ⟨_, List.getElem?_eq_getElem hq⟩
  rcases h.at' with h0 | ⟨b, off, ha', hlt, hc⟩
  · exact absurd hq (by rw [h.len, h0]; exact Nat.not_lt_zero _)
  · rw [ha'] at ha
    cases ha
    have hr : j % size < size := Nat.mod_lt _ hpos
    obtain ⟨u', hu'⟩ : ∃ u', (cells x)[j % size]? = some u' := ⟨_, List.getElem?_eq_getElem (by rw [hz]; exact hr)⟩
    have h1 := hE _ _ _ (hc _ _ hx) _ _ hu'
    have h2 := b7t hz l (j / size) (j % size) x u' hx hu'
    have h3 : j / size * size + j % size = j := by rw [Nat.mul_comm]; exact Nat.div_add_mod j size
    rw [h3, hj] at h2
    cases h2
    have hadd : (⟨b, off, none⟩ : Addr).add j = ⟨b, off + j, none⟩ := by unfold Addr.add; split <;> simp_all
    rw [hadd, ← h1, Nat.add_assoc, h3]
section
variable {α : Type} {size : Nat} {cells : α → List Value} {P : Program} {w : World} {ops : Array Oper} {rest : List Oper} {o : Oper} {a : Act} {Q : Exit → Act → World → Prop}
end
end Go.Proofs.YtbbkmijkllgfaaaGreatDoor.tr
end
section
namespace Go.Proofs.YtbbkmijkllgfaaaGreatDoor.bs
open Go.ChangeShapes Go.WideShapes Go.ChangeAt Go.RowKit
set_option linter.unusedVariables false
end Go.Proofs.YtbbkmijkllgfaaaGreatDoor.bs
end
section
namespace Go.Proofs.YtbbkmijkllgfaaaGreatDoor.te
open Go.ChangeShapes Go.WideShapes Go.ChangeAt Go.RowKit
open bs tr
set_option linter.unusedVariables false
theorem a4u (w : World) (g j : Nat) (u : Value) : Only w (w.setCell ⟨g, j, none⟩ u) g := ⟨rfl, rfl, rfl, by simp [World.setCell], fun k hk => Below.heap_setCell _ ⟨g, j, none⟩ _ k hk⟩
theorem intT : I64T Tryz.prog 25 3 := ⟨Tryz.underlying25, by kernel_rfl⟩
theorem OwnI.blockLt {w : World} {base e a n c l} (h : OwnI w base e a n c l) {i : Nat} (hi : g9 a = some i) : base ≤ i ∧ i < w.heap.size := by
  rcases h.cases with ⟨rfl, _, _⟩ | ⟨g, rfl, hg, hs, _, _⟩
  · cases hi
  · cases hi; exact ⟨hg, hs⟩
theorem OwnI.of {w w' : World} {base e a n c l} (h : OwnI w base e a n c l) (hk : ∀ i, g9 a = some i → w'.heap[i]? = w.heap[i]?) : OwnI w' base e a n c l := by
  refine ⟨⟨h.own.1, ?_⟩, h.all⟩
  rcases h.own.2 with hv | ⟨g, cap, cur, hv, hg, hh, r⟩
  · exact .inl hv
  · refine .inr ⟨g, cap, cur, hv, hg, ?_, r⟩
    simp only [Value.slice.injEq] at hv
    rw [hk g (by rw [hv.1]; rfl)]; exact hh
theorem OwnI.first {w : World} {base e a n c l} (h : OwnI w base e a n c l) (k : Nat) (hk : k ≤ n) : OwnI w base e a k c (l.take k) := by
  have hl := h.len
  refine ⟨⟨by simp [v6]; omega, ?_⟩, fun x hx => h.all x (List.mem_of_mem_take hx)⟩
  rcases h.own.2 with ⟨hv, h0⟩ | ⟨g, cap, cur, hv, hg, hh, hn, hm, hs, ht⟩
  · simp only [Value.slice.injEq] at hv
    obtain ⟨rfl, _, rfl⟩ := hv
    have : k = 0 := by omega
    subst this
    exact .inl ⟨rfl, rfl⟩
  · simp only [Value.slice.injEq] at hv
    obtain ⟨rfl, _, rfl⟩ := hv
    refine .inr ⟨g, c, cur, rfl, hg, hh, by omega, hm, hs, ?_⟩
    rw [Nat.mul_one] at ht ⊢
    rw [v6, List.map_take, ← v6, ← ht, List.take_take, Nat.min_eq_left hk]
section
variable {w : World} {ops : Array Oper} {o : Oper} {a : Act} {K : Act → World → Prop} {Q : Exit → Act → World → Prop} {E : Prop}
theorem a2i (hgd : o.guard = none) (s x : Operand) (ho : o.op = .call { callee := .builtin .append, args := #[s, x], argTypes := #[25, 25] })
    (base : Nat) {b n c l} (hs : a.eval s = .slice b n c) (h : OwnI w base 3 b n c l) {ad c'} (hx : a.eval x = .slice (some ad) 1 c') (z : Int) (hz : -9223372036854775808 ≤ z ∧ z ≤ 9223372036854775807) (hc : w.cell? (ad.add 0) = some (.int .i64 z)) (hn : n + 1 ≤ 17592186044416) (hbase : base ≤ w.heap.size)
    (k : ∀ a2 c2 w', OwnI w' base 3 a2 (n + 1) c2 (l ++ [z]) → Below base w w' → w.grownBy w' (g9 b) → (g9 a2 = g9 b ∨ g9 a2 = some w.heap.size) → K (a.put o.dst (.slice a2 (n + 1) c2)) w') :
    if Region.wanted o (yielded ops a.tmps) = true then Oper.wp Tryz.prog o a w K Q else E := by
  have hw : Region.wanted o (yielded ops a.tmps) = true := by simp [Region.wanted, hgd]
  rw [if_pos hw]
  obtain ⟨i0, hi, hz0, hz1, hz2⟩ := info_parts intT.info
  obtain ⟨g, cap, w', hr, ho2, hg, hat, hlt⟩ := run_append_lies (P := Tryz.prog) w 25 o.type base 3 i0 (.int .i64 0) 1 8 intT.und hi hz0 hz1 hz2 rfl (by decide) (.slice b n c) n (v6 l) h.own ad 1 c' [.int .i64 z] rfl
    (fun j u hu => by
      match j with
      | 0 => cases hu; exact hc
      | j + 1 => simp at hu) (by intro u hu; simp at hu; subst hu; rfl) (by omega) (by unfold maxLen; omega) (by omega) hbase _ rfl
  rw [a4w] at hg hat
  have hbel : Below base w w' := (Below.refl base w).grown hg hbase (fun k hk => (OwnI.blockLt h hk).1)
  have he : v6 (l ++ [z]) = v6 l ++ [.int .i64 z] := by simp [v6]
  unfold Oper.wp execOp
  simp only [ho, resolve, invoke, builtin, Sem.run_bind, Sem.run_pure, Result.andThen_ok, List.map_toArray, List.map_cons, List.map_nil, hs, hx, hr]
  refine k _ _ w' ⟨by rw [he]; exact ho2, fun y hy => ?_⟩ hbel hg ?_
  · rcases List.mem_append.1 hy with h1 | h1
    · exact h.all y h1
    · rw [List.mem_singleton] at h1; subst h1; exact hz
  · rcases hat with hat | hat
    · exact .inl hat.symm
    · exact .inr (by rw [hat]; rfl)
end
theorem a3k (a : Option Addr) (n c i : Nat) (h : i ≤ n) (hc : n ≤ c) (hm : c ≤ 9223372036854775807) (W : World) :
    (Instr.sliceAt 25 (.slice a n c) none (some (.int .i64 i)) none).run Tryz.prog W = .ok (.slice a i c) W := by
  have e1 : ¬ (i : Int) < 0 := by omega
  have e2 : ¬ (c : Int) < i := by omega
  have e3 : (i : Int).toNat = i := by omega
  rcases a with _ | x
  · simp [Instr.sliceAt, Instr.slice, Instr.sliceBounds, Instr.sliceBound, asIntOf, go_sem, h]; try omega
  · simp [Instr.sliceAt, Instr.slice, Instr.sliceBounds, Instr.sliceBound, asIntOf, go_sem, h]; try omega
theorem Turned.of_only {w w' : World} {g : Nat} (h : Only w w' g) (row : Option Nat) : Turned w w' g row := ⟨h.os, h.tape, h.output, Nat.le_of_eq h.size.symm, fun i _ hi _ => h.block i hi⟩
def WP (t : VT) (tb N : Nat) (d s : Value) (pa : Option Addr) (n : Nat) (p : List Int) (w : World) (e : Ending) (w' : World) : Prop :=
  ∃ (a : Option Addr) (c : Nat), e = .returned (.slice a n c) ∧ OwnI w' (tb + 1) 3 a n c p ∧ Blk w' tb #[.int .i64 ((N + t.size : Nat) : Int), d, s] 108 ∧ Turned w w' tb (g9 pa) ∧ (g9 a = g9 pa ∨ ∃ g, g9 a = some g ∧ w.heap.size ≤ g)
theorem kpB {w w' : World} {tb B : Nat} {row : Option Nat} (h : Turned w w' tb row) (hB : B ≤ tb) (hr : ∀ g, row = some g → B ≤ g) : Kp (· < B) w w' :=
  ⟨h.size, fun b hb hl => h.block b hl (by omega) (fun e => by have := hr b e; omega)⟩
structure ApR (V0 w2 : World) (tb g8 : Nat) (x : Vn) (M : Int) (d s : Value) (a a2 : Option Addr) (n c2 : Nat) (q : List Int) : Prop where
  own : OwnI w2 (tb + 1) 3 a2 n c2 q
  turned : Turned V0 w2 tb (g9 a)
  x8 : VB w2 g8 x
  blk : Blk w2 tb #[.int .i64 M, d, s] 108
  lies : g9 a2 = g9 a ∨ ∃ g, g9 a2 = some g ∧ V0.heap.size ≤ g
theorem b0r {V0 X w2 : World} {tb g8 : Nat} {x : Vn} {M : Int} {d s : Value} {a a2 : Option Addr} {n c2 : Nat} {q : List Int} (hX : Below V0.heap.size V0 X) (h8 : VB V0 g8 x) (hb : Blk V0 tb #[.int .i64 M, d, s] 108) (hPa : ∀ i, g9 a = some i → tb + 1 ≤ i ∧ i < g8)
    (ho : OwnI w2 (tb + 1) 3 a2 n c2 q) (hg : X.grownBy w2 (g9 a)) (hl : g9 a2 = g9 a ∨ g9 a2 = some X.heap.size) : ApR V0 w2 tb g8 x M d s a a2 n c2 q := by
  refine ⟨ho, (Turned.of_below hX tb (g9 a)).trans (Turned.of_grown hg tb) (fun _ _ h => h), ?_, ?_, hl.imp id (fun h => ⟨_, h, hX.size⟩)⟩
  · exact (h8.below hX).of (hg.block g8 (h8.below hX).lt (fun e => by have := (hPa g8 e.symm).2; omega))
  · exact (hb.below hX).of (hg.block tb (hb.below hX).lt (fun e => by have := (hPa tb e.symm).1; omega))
theorem a6o {V0 w2 w3 : World} {tb g8 : Nat} {x : Vn} {M : Int} {d s : Value} {a a2 : Option Addr} {n c2 : Nat} {q : List Int} (hA : ApR V0 w2 tb g8 x M d s a a2 n c2 q) (hPa : ∀ i, g9 a = some i → tb + 1 ≤ i ∧ i < g8) (ht : Turned w2 w3 tb (g9 a2)) (h : g8 ≠ tb) (hV : g8 < V0.heap.size) : VB w3 g8 x :=
  hA.x8.of (ht.block g8 hA.x8.lt h (fun e => by
    rcases hA.lies with h1 | ⟨g, h1, hg⟩
    · rw [h1] at e; have := (hPa g8 e).2; omega
    · rw [h1] at e; cases e; omega))
theorem a6l {w : World} {base : Nat} {a : Option Addr} {n c : Nat} {q : List Int} (h : OwnI w base 3 a (n + 1) c q) : ∀ W : World, (Instr.sliceAt 25 (.slice a (n + 1) c) none (some (.int .i64 n)) none).run Tryz.prog W = .ok (.slice a n c) W := fun W => by
  have h1 := h.reads.cap; have h2 := h.reads.most
  exact a3k a (n + 1) c n (by omega) h1 h2 W
end Go.Proofs.YtbbkmijkllgfaaaGreatDoor.te
end
