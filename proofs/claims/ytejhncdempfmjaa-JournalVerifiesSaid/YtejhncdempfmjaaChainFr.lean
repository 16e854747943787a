/-
  Layer 47: the frames of a log, said plainly: where each begins, what it tells; lists of frames in memory.
-/
import Derived.Test.YtejhncdempfmjaaChainBuild
import Derived.Test.YtejhncdempfmjaaOwnRecs
namespace Go.Proofs.Ytejhncdempfmjaa.ch
open Go.ChangeShapes Go.WideShapes Go.ChangeAt Go.RowKit
open bs en
open Go.Proofs.Ytejhncdempfmjaa.sh (tagB)
set_option linter.unusedVariables false

/-- What a frame tells: its kind, its body, its tag. -/
structure Fm where
  k : Int
  b : List Int
  t : List Int
/-- The frame that begins at a place. -/
def frK (l : List Int) (i : Nat) : Fm := ⟨(l.drop i).getD 4 0, ((l.drop i).drop 5).take ((sz (l.drop i)).toNat - 1), ((l.drop i).drop (4 + (sz (l.drop i)).toNat)).take 32⟩
/-- Where the frame number j begins. -/
def atF (l : List Int) : Nat → Nat
  | 0 => 0
  | j + 1 => atF l j + 36 + (sz (l.drop (atF l j))).toNat
def fm (l : List Int) (j : Nat) : Fm := frK l (atF l j)
/-- All frames ahead of j can be read. -/
def Up (l : List Int) (j : Nat) : Prop := ∀ i, i < j → atF l i < l.length ∧ rdE l (atF l i) = 0
theorem Up.zero (l : List Int) : Up l 0 := fun i h => absurd h (Nat.not_lt_zero i)
theorem Up.succ {l : List Int} {j : Nat} (h : Up l j) (h1 : atF l j < l.length) (h2 : rdE l (atF l j) = 0) : Up l (j + 1) := fun i hi => by
  rcases Nat.lt_or_ge i j with h3 | h3
  · exact h i h3
  · obtain rfl : i = j := by omega
    exact ⟨h1, h2⟩
/-- What can be read: its bounds. -/
theorem rd_ok {l : List Int} (ha : AllB l) {i : Nat} (h : rdE l i = 0) : 1 ≤ sz (l.drop i) ∧ sz (l.drop i) ≤ 1025 ∧ (i : Int) + 36 + sz (l.drop i) ≤ l.length ∧ isK ((l.drop i).getD 4 0) = true := by
  have hb : AllB (l.drop i) := fun x hx => ha x (List.mem_of_mem_drop hx)
  have b0 := hb.getD 0; have b1 := hb.getD 1; have b2 := hb.getD 2; have b3 := hb.getD 3
  have hs : 0 ≤ sz (l.drop i) := by unfold sz four; omega
  unfold rdE at h
  rw [Int.toNat_natCast] at h
  by_cases h1 : (i : Int) < 0 ∨ (l.length : Int) < i
  · rw [if_pos h1] at h; omega
  · rw [if_neg h1] at h
    by_cases h2 : (l.length : Int) - i < 4
    · rw [if_pos h2] at h; omega
    · rw [if_neg h2] at h
      by_cases h3 : sz (l.drop i) = 0
      · rw [if_pos h3] at h; omega
      · rw [if_neg h3] at h
        by_cases h4 : 1025 < sz (l.drop i)
        · rw [if_pos h4] at h; omega
        · rw [if_neg h4] at h
          by_cases h5 : (l.length : Int) - i < 4 + sz (l.drop i) + 32
          · rw [if_pos h5] at h; omega
          · rw [if_neg h5] at h
            by_cases h6 : isK ((l.drop i).getD 4 0) = true
            · exact ⟨by omega, by omega, by omega, h6⟩
            · rw [if_neg h6] at h; omega
theorem fr_ok {l : List Int} (ha : AllB l) {i : Nat} (h : rdE l i = 0) : (frK l i).t.length = 32 ∧ (frK l i).b.length + 1 = (sz (l.drop i)).toNat ∧ (frK l i).b.length ≤ 1024 ∧ payE (frK l i).k (frK l i).b.length = 0 ∧ 1 ≤ (frK l i).k ∧ (frK l i).k ≤ 3 ∧ AllB (frK l i).b ∧ AllB (frK l i).t := by
  obtain ⟨h1, h2, h3, h4⟩ := rd_ok ha h
  have hb : (((l.drop i).drop 5).take ((sz (l.drop i)).toNat - 1)).length = (sz (l.drop i)).toNat - 1 := by
    rw [List.length_take, List.length_drop, List.length_drop]; omega
  have ht : (((l.drop i).drop (4 + (sz (l.drop i)).toNat)).take 32).length = 32 := by
    rw [List.length_take, List.length_drop, List.length_drop]; omega
  have hk : 1 ≤ (l.drop i).getD 4 0 ∧ (l.drop i).getD 4 0 ≤ 3 := by unfold isK at h4; exact of_decide_eq_true h4
  refine ⟨ht, ?_, ?_, ?_, hk.1, hk.2, ?_, ?_⟩
  · show (((l.drop i).drop 5).take ((sz (l.drop i)).toNat - 1)).length + 1 = _
    rw [hb]; omega
  · show (((l.drop i).drop 5).take ((sz (l.drop i)).toNat - 1)).length ≤ _
    rw [hb]; omega
  · show payE ((l.drop i).getD 4 0) (((l.drop i).drop 5).take ((sz (l.drop i)).toNat - 1)).length = 0
    rw [hb]
    unfold payE
    rw [if_pos h4, if_neg (by omega)]
  · exact fun x hx => ha x (List.mem_of_mem_drop (List.mem_of_mem_drop (List.mem_of_mem_take hx)))
  · exact fun x hx => ha x (List.mem_of_mem_drop (List.mem_of_mem_drop (List.mem_of_mem_take hx)))
theorem at_ge {l : List Int} (j : Nat) : 36 * j ≤ atF l j := by
  induction j with
  | zero => exact Nat.zero_le _
  | succ j ih => rw [atF]; omega
theorem at_le {l : List Int} (ha : AllB l) (j : Nat) (h : Up l j) : atF l j ≤ l.length := by
  rcases j with _ | j
  · exact Nat.zero_le _
  · obtain ⟨h1, h2⟩ := h j (by omega)
    have h3 := rd_ok ha h2
    rw [atF]; omega
/-- The log ends behind j frames, with so much wrong. -/
def Ends (l : List Int) (j : Nat) (E : Int) : Prop := Up l j ∧ ((l.length ≤ atF l j ∧ E = 0) ∨ (atF l j < l.length ∧ rdE l (atF l j) = E ∧ E ≠ 0))
theorem Ends.le {l : List Int} {j j' : Nat} {E E' : Int} (h : Ends l j E) (h' : Ends l j' E') : j ≤ j' := by
  rcases Nat.lt_or_ge j' j with h1 | h1
  · obtain ⟨a, b⟩ := h.1 j' h1
    rcases h'.2 with ⟨c, _⟩ | ⟨_, c, d⟩ <;> omega
  · exact h1
theorem Ends.uniq {l : List Int} {j j' : Nat} {E E' : Int} (h : Ends l j E) (h' : Ends l j' E') : j = j' ∧ E = E' := by
  obtain rfl : j = j' := Nat.le_antisymm (h.le h') (h'.le h)
  refine ⟨rfl, ?_⟩
  rcases h.2 with ⟨a, b⟩ | ⟨a, b, c⟩ <;> rcases h'.2 with ⟨a', b'⟩ | ⟨a', b', c'⟩ <;> omega
/-- The tag ahead of frame i. -/
def ahd (f : Nat → Fm) (i : Nat) : List Int := if i = 0 then zt else (f (i - 1)).t
/-- What frame i's tag is of. -/
def mgF (f : Nat → Fm) (i : Nat) : List Int := mg (ahd f i) ((i + 1 : Nat) : Int) (f i).k (f i).b
/-- Is frame i's tag right? -/
def Good (key : List Int) (f : Nat → Fm) (i : Nat) : Prop := (f i).t = tagB key (mgF f i)
/-- The log by a key: so many frames are right, and behind them so much is wrong. -/
def EntE (key l : List Int) (m : Nat) (E : Int) : Prop :=
  Up l m ∧ (∀ i, i < m → Good key (fm l) i) ∧ ((l.length ≤ atF l m ∧ E = 0) ∨ (atF l m < l.length ∧ rdE l (atF l m) = E ∧ E ≠ 0) ∨ (atF l m < l.length ∧ rdE l (atF l m) = 0 ∧ ¬ Good key (fm l) m ∧ E = 29))
theorem EntE.le {key l : List Int} {m m' : Nat} {E E' : Int} (h : EntE key l m E) (h' : EntE key l m' E') : m ≤ m' := by
  rcases Nat.lt_or_ge m' m with h1 | h1
  · obtain ⟨a, b⟩ := h.1 m' h1
    have g := h.2.1 m' h1
    rcases h'.2.2 with ⟨c, _⟩ | ⟨_, c, d⟩ | ⟨_, _, d, _⟩
    · omega
    · omega
    · exact absurd g d
  · exact h1
theorem EntE.uniq {key l : List Int} {m m' : Nat} {E E' : Int} (h : EntE key l m E) (h' : EntE key l m' E') : m = m' ∧ E = E' := by
  obtain rfl : m = m' := Nat.le_antisymm (h.le h') (h'.le h)
  refine ⟨rfl, ?_⟩
  rcases h.2.2 with ⟨a, b⟩ | ⟨a, b, c⟩ | ⟨a, b, c, d⟩ <;> rcases h'.2.2 with ⟨a', b'⟩ | ⟨a', b', c'⟩ | ⟨a', b', c', d'⟩ <;> omega

/-- A frame in memory: its entry, its tag. -/
structure Fw where
  e : Ent
  a : Option Addr
  n : Nat
  c : Nat
  t : List Int
def Fw.val (x : Fw) : Value := .agg #[.int .i64 x.e.k, .slice x.e.a x.e.n x.e.c, .slice x.a x.n x.c]
def eCells (x : Fw) : List Value := [.int .i64 x.e.k, .slice x.e.a x.e.n x.e.c]
def tCells (x : Fw) : List Value := [.slice x.a x.n x.c]
def fCells (x : Fw) : List Value := [.int .i64 x.e.k, .slice x.e.a x.e.n x.e.c, .slice x.a x.n x.c]
/-- Its parts are the call's own. -/
structure FwOwn (w : World) (base : Nat) (x : Fw) : Prop where
  body : OwnB w base 5 x.e.a x.e.n x.e.c x.e.l
  tag : OwnB w base 5 x.a x.n x.c x.t
  k0 : -9223372036854775808 ≤ x.e.k
  k1 : x.e.k ≤ 9223372036854775807
theorem FwOwn.below {w w' : World} {base : Nat} {x : Fw} (h : FwOwn w base x) (hb : Below w.heap.size w w') : FwOwn w' base x := ⟨h.body.below hb, h.tag.below hb, h.k0, h.k1⟩
/-- It tells just that. -/
structure Tells (x : Fw) (f : Fm) : Prop where
  k : x.e.k = f.k
  b : x.e.l = f.b
  t : x.t = f.t
def Told (L : List Fw) (f : Nat → Fm) : Prop := ∀ i x, L[i]? = some x → Tells x (f i)
theorem Told.snoc {L : List Fw} {f : Nat → Fm} (h : Told L f) {x : Fw} (hx : Tells x (f L.length)) : Told (L ++ [x]) f := fun i y hy => by
  rcases Nat.lt_or_ge i L.length with h1 | h1
  · rw [List.getElem?_append_left h1] at hy; exact h i y hy
  · rw [List.getElem?_append_right h1] at hy
    have h2 := (List.getElem?_eq_some_iff.1 hy).1
    simp only [List.length_singleton] at h2
    rw [show i - L.length = 0 by omega] at hy
    simp only [List.getElem?_cons_zero, Option.some.injEq] at hy
    subst hy
    rw [show i = L.length by omega]
    exact hx

/-- Whose block holds rows of a type. -/
def Typed (w : World) (e : TypeId) (a : Option Addr) : Prop := ∀ g, blockOf a = some g → ∃ cur r, w.heap[g]? = some (.cells cur e r)
theorem typed_b {w : World} {base e a n c l} (h : OwnB w base e a n c l) : Typed w e a := fun g hg => by
  rcases h.own.2 with ⟨hv, _⟩ | ⟨g', cap, cur, hv, _, hh, _⟩
  · simp only [Value.slice.injEq] at hv
    rw [hv.1] at hg; cases hg
  · simp only [Value.slice.injEq] at hv
    rw [hv.1] at hg
    cases hg
    exact ⟨cur, _, hh⟩
theorem typed_s {α : Type} {size : Nat} {cells : α → List Value} {w : World} {base e a n c} {l : List α} (h : OwnS size cells w base e a n c l) : Typed w e a := fun g hg => by
  rcases h.own.2 with ⟨hv, _⟩ | ⟨g', cap, cur, hv, _, hh, _⟩
  · simp only [Value.slice.injEq] at hv
    rw [hv.1] at hg; cases hg
  · simp only [Value.slice.injEq] at hv
    rw [hv.1] at hg
    cases hg
    exact ⟨cur, _, hh⟩
theorem typed_blk {w : World} {g : Nat} {cs : Array Value} {t : TypeId} (h : Blk w g cs t) : Typed w t (some ⟨g, 0, none⟩) := fun g' hg => by cases hg; exact ⟨cs, _, h⟩
theorem typed_ne {w : World} {e e' : TypeId} {a a' : Option Addr} (h : Typed w e a) (h' : Typed w e' a') (hne : e ≠ e') {g : Nat} (hg : blockOf a = some g) : blockOf a' ≠ some g := fun hg' => by
  obtain ⟨c, r, h1⟩ := h g hg
  obtain ⟨c', r', h2⟩ := h' g hg'
  rw [h1] at h2
  simp only [Option.some.injEq, Obj.cells.injEq] at h2
  exact hne h2.2.1
theorem OwnS.of {α : Type} {size : Nat} {cells : α → List Value} {w w' : World} {base e a n c} {l : List α} (h : OwnS size cells w base e a n c l) (hk : ∀ i, blockOf a = some i → w'.heap[i]? = w.heap[i]?) : OwnS size cells w' base e a n c l := by
  refine ⟨⟨h.own.1, ?_⟩, h.num⟩
  rcases h.own.2 with hv | ⟨g, cap, cur, hv, hg, hh, r⟩
  · exact .inl hv
  · refine .inr ⟨g, cap, cur, hv, hg, ?_, r⟩
    simp only [Value.slice.injEq] at hv
    rw [hk g (by rw [hv.1]; rfl)]
    exact hh
theorem OwnS.lt {α : Type} {size : Nat} {cells : α → List Value} {w : World} {base e a n c} {l : List α} (h : OwnS size cells w base e a n c l) {i : Nat} (hi : blockOf a = some i) : base ≤ i ∧ i < w.heap.size := by
  rcases h.cases with ⟨rfl, _⟩ | ⟨g, rfl, h1, h2, _⟩
  · cases hi
  · cases hi; exact ⟨h1, h2⟩
theorem grown_b {w w' : World} {base e a n c l} (h : OwnB w base e a n c l) {e' : TypeId} {a' : Option Addr} (ht : Typed w e' a') (hne : e ≠ e') (hg : w.grownBy w' (blockOf a')) : OwnB w' base e a n c l :=
  h.of (fun i hi => hg.block i (h.blockLt hi).2 (fun q => typed_ne (typed_b h) ht hne hi q.symm))
theorem grown_s {α : Type} {size : Nat} {cells : α → List Value} {w w' : World} {base e a n c} {l : List α} (h : OwnS size cells w base e a n c l) {e' : TypeId} {a' : Option Addr} (ht : Typed w e' a') (hne : e ≠ e') (hg : w.grownBy w' (blockOf a')) : OwnS size cells w' base e a n c l :=
  OwnS.of h (fun i hi => hg.block i (OwnS.lt h hi).2 (fun q => typed_ne (typed_s h) ht hne hi q.symm))
theorem grown_f {w w' : World} {base : Nat} {x : Fw} (h : FwOwn w base x) {e' : TypeId} {a' : Option Addr} (ht : Typed w e' a') (hne : 5 ≠ e') (hg : w.grownBy w' (blockOf a')) : FwOwn w' base x :=
  ⟨grown_b h.body ht hne hg, grown_b h.tag ht hne hg, h.k0, h.k1⟩
theorem grown_blk {w w' : World} {g : Nat} {cs : Array Value} {t : TypeId} (h : Blk w g cs t) {e' : TypeId} {a' : Option Addr} (ht : Typed w e' a') (hne : t ≠ e') (hg : w.grownBy w' (blockOf a')) : Blk w' g cs t :=
  h.of (hg.block g h.lt (fun q => typed_ne (typed_blk h) ht hne rfl q.symm))

section
variable {P : Program} {w : World} {ops : Array Oper} {rest : List Oper} {o : Oper} {a : Act} {Q : Exit → Act → World → Prop} {α : Type} {size : Nat} {cells : α → List Value}
/-- The append of one element, which also tells what is turned. -/
theorem wpList_append_s2 {t e : TypeId} {z : Value} {bytes : Nat} (T : RecT P t e z size bytes) (hpos : 0 < size) (hw : Region.wanted o (yielded ops a.tmps) = true) (s y : Operand) (ho : o.op = .call { callee := .builtin .append, args := #[s, y], argTypes := #[t, t] })
    (base : Nat) {b n c} {l : List α} (hs : a.eval s = .slice b n c) (h : OwnS size cells w base e b n c l) {ad c'} (hy : a.eval y = .slice (some ad) 1 c') (x : α) (hx : (cells x).length = size) (h1 : ∀ u ∈ cells x, u.oneCell' = true)
    (hc : ∀ j u, (cells x)[j]? = some u → w.cell? (ad.add j) = some u) (hn : (n + 1) * bytes ≤ 140737488355328) (hm : n + 1 ≤ maxLen) (hbase : base ≤ w.heap.size)
    (k : ∀ a2 c2 w', OwnS size cells w' base e a2 (n + 1) c2 (l ++ [x]) → Below base w w' → w.grownBy w' (blockOf b) → wpList P ops Q rest (a.put o.dst (.slice a2 (n + 1) c2)) w') : wpList P ops Q (o :: rest) a w :=
  BigFrame.wpList_want hw fun K hK => by
    obtain ⟨a2, c2, w', hr, h2, h3, h4⟩ := run_append_s T hpos o.type w base h x hx h1 ad c' hc hm hn hbase
    rw [ownBlock_eq] at h4
    unfold Oper.wp execOp
    simp only [ho, resolve, invoke, builtin, Sem.run_bind, Sem.run_pure, Result.andThen_ok, List.map_toArray, List.map_cons, List.map_nil, hs, hy, hr]
    exact hK _ _ (k a2 c2 w' h2 h3 h4)
end
theorem entT : RecT Try.prog 23 35 (.agg #[.int .i64 0, .slice none 0 0]) 2 32 := ⟨Try.underlying23, by kernel_rfl, by kernel_rfl⟩
theorem tagT : RecT Try.prog 88 22 (.slice none 0 0) 1 24 := ⟨Try.underlying88, by kernel_rfl, by kernel_rfl⟩
theorem fraT : RecT Try.prog 92 85 (.agg #[.int .i64 0, .slice none 0 0, .slice none 0 0]) 3 56 := ⟨Try.underlying92, by kernel_rfl, by kernel_rfl⟩

end Go.Proofs.Ytejhncdempfmjaa.ch
