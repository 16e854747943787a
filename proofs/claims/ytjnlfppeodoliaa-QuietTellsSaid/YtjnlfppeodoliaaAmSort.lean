/-
  A machine of values: the library's Sort and Compact, of numbers, by their contracts. No program is named here.
-/
import Derived.Test.YtjnlfppeodoliaaAmC
import Derived.Sort.Grow
import Derived.Lib.SlicesCompact
namespace Go.Proofs.Ytjnlfppeodoliaa.am
open Go.ChangeShapes Go.WideShapes Go.ChangeAt Go.RowKit
set_option linter.unusedVariables false
set_option linter.unusedSectionVars false
/-- The numbers as the cells of a row. -/
abbrev icL (L : List Int) : List (List PV) := L.map fun z => [.lit (.int .i64 z)]
section
variable {X : Ctx} {H : Nat → Option AO} {U : Nat → Prop} {γ : Nat → G} {S : CS} {w : World}
theorem Mem.grow (h : Mem X H U γ S w) (os : Array Obj) : Mem X H U γ S (Go.Sort.grow w os) := by
  have hc : ∀ b o, S b o → (Go.Sort.grow w os).cell? ⟨b, o, none⟩ = w.cell? ⟨b, o, none⟩ := fun b o hs => Go.Sort.cell?_grow w os ⟨b, o, none⟩ (h.inb b o hs)
  refine ⟨h.os, h.tape, h.output, by rw [Go.Sort.size_grow]; have := h.size; omega, fun b hb hx => ?_, fun b o hs => ?_, fun b o hs => h.fresh b o hs, fun b o hs => by rw [Go.Sort.size_grow]; have := h.inb b o hs; omega, h.mono, h.un, h.off, fun x o hx => ?_, h.dist, fun x b hb => ⟨by rw [Go.Sort.size_grow]; have := (h.live x b hb).1; omega, (h.live x b hb).2⟩⟩
  · rw [Go.Sort.heap_grow_old w os (Nat.lt_of_lt_of_le hb h.size)]; exact h.frame b hb hx
  · exact ⟨(h.keep b o hs).1, by rw [hc b o (h.keep b o hs).1]; exact (h.keep b o hs).2⟩
  · exact Obj'.on (h.obj x o hx) rfl (GOn.refl _) (fun _ _ h => h) hc (fun b hbk => ⟨Go.Sort.heap_grow_old w os (h.live x b hbk).1, fun _ h => h⟩)
theorem arr_ints {x : Nat} {e : TypeId} {L : List Int} (h : Obj' γ S w x (.arr e 1 (icL L))) : ∃ v, γ x = .val v ∧ w.ownsRow 0 e 1 v L.length (L.map (Value.int .i64)) ∧ (∀ b, v.ownBlock = some b → ∀ o, ¬ S b o) := by
  obtain ⟨v, xs, h1, h2, h3, h4, h5⟩ := h
  rw [List.length_map] at h2
  have e : xs = L.map (Value.int .i64) := by
    apply List.ext_getElem?
    intro i
    by_cases hi : i < L.length
    · obtain ⟨u, k1, k2⟩ := h3 i [.lit (.int .i64 L[i])] 0 (.lit (.int .i64 L[i])) (by rw [List.getElem?_map, List.getElem?_eq_getElem hi]; rfl) rfl
      rw [show i * 1 + 0 = i by omega] at k1
      rw [k1, (lit_inv (γ := γ) (S := S) (w := w) k2).1, List.getElem?_map, List.getElem?_eq_getElem hi]; rfl
    · rw [List.getElem?_eq_none (by rw [h2.1]; omega), List.getElem?_eq_none (by rw [List.length_map]; omega)]
  subst e
  exact ⟨v, h1, h2, h5⟩
theorem ints_arr {x : Nat} {e : TypeId} {L : List Int} {v : Value} (h1 : γ x = .val v) (h2 : w.ownsRow 0 e 1 v L.length (L.map (Value.int .i64))) (h3 : ∀ b, v.ownBlock = some b → ∀ o, ¬ S b o) : Obj' γ S w x (.arr e 1 (icL L)) := by
  refine ⟨v, _, h1, by rw [List.length_map]; exact h2, fun i c j p hi hj => ?_, fun c hc => ?_, h3⟩
  · rw [List.getElem?_map] at hi
    cases hz : L[i]? with
    | none => rw [hz] at hi; cases hi
    | some z =>
      rw [hz] at hi; cases hi
      cases j with
      | zero => cases hj; exact ⟨.int .i64 z, by rw [show i * 1 + 0 = i by omega, List.getElem?_map, hz]; rfl, RepP.lit _ rfl⟩
      | succ j => cases hj
  · obtain ⟨z, _, rfl⟩ := List.mem_map.1 hc; rfl
theorem own_holds {e : TypeId} {g cap : Nat} {L : List Int} (h : w.ownsRow 0 e 1 (.slice (some ⟨g, 0, none⟩) L.length cap) L.length (L.map (Value.int .i64))) : Go.Sort.Holds (Value.int .i64) w g 0 L.toArray := by
  intro j hj
  have hj' : j < L.length := hj
  have h2 := h.cells (g := g) rfl
  rcases h.2 with ⟨k, _⟩ | ⟨g', cap', cur, k1, _, k2, _⟩
  · cases k
  cases k1
  refine ⟨?_, ?_⟩
  · have := h2 j (.int .i64 L[j]) (by rw [List.getElem?_map, List.getElem?_eq_getElem hj']; rfl)
    rw [getElem!_pos L.toArray j hj]
    simp only [Addr.add] at this
    rw [show (0 : Nat) + j = j by omega]
    by_cases h0 : j = 0
    · subst h0; simpa using this
    · rw [if_neg h0] at this; simpa using this
  · simp [World.frozen?, k2]
theorem heap_put {α : Type} [Inhabited α] (enc : α → Value) (q g : Nat) (d : Array α) {cur : Array Value} {e : TypeId} {z : Nat × Nat} (h : w.heap[g]? = some (.cells cur e z)) :
    (Go.Sort.putRow enc (Go.Sort.ahead w q) g 0 d).heap[g]? = some (.cells (Go.Sort.putCells enc 0 d cur) e z) ∧ ∀ k, k ≠ g → (Go.Sort.putRow enc (Go.Sort.ahead w q) g 0 d).heap[k]? = w.heap[k]? := by
  unfold Go.Sort.putRow Go.Sort.mapBlock
  refine ⟨?_, fun k hk => ?_⟩
  · simp only [Go.Sort.heap_ahead, Array.getElem?_modify, if_true, h, Option.map_some, Go.Sort.onCells]
  · simp only [Go.Sort.heap_ahead, Array.getElem?_modify]
    rw [if_neg (Ne.symm hk)]
theorem own_put {e : TypeId} {g cap n : Nat} {xs : List Value} {D : List Int} (hd : D.length = n) (h : w.ownsRow 0 e 1 (.slice (some ⟨g, 0, none⟩) n cap) n xs) (q m : Nat) (hm : m ≤ n) :
    (Go.Sort.putRow (Value.int .i64) (Go.Sort.ahead w q) g 0 D.toArray).ownsRow 0 e 1 (.slice (some ⟨g, 0, none⟩) m cap) m ((D.take m).map (Value.int .i64)) := by
  rcases h.2 with ⟨k, _⟩ | ⟨g', cap', cur, k1, k0, k2, k3, k4, k5, k6⟩
  · cases k
  cases k1
  refine ⟨by rw [List.length_map, List.length_take]; omega, .inr ⟨g, cap, _, rfl, k0, (heap_put (Value.int .i64) q g D.toArray k2).1, by omega, k4, by simp [Go.Sort.putCells, k5], ?_⟩⟩
  apply List.ext_getElem?
  intro i
  rw [List.getElem?_map, List.getElem?_take, List.getElem?_take, Nat.mul_one]
  by_cases hi : i < m
  · rw [if_pos hi, if_pos hi, Array.getElem?_toList]
    have hc : i < cur.size := by rw [k5]; omega
    have hD : i < D.toArray.size := by show i < D.length; omega
    have hD' : i < D.length := hD
    unfold Go.Sort.putCells
    rw [Array.getElem?_mapIdx, Array.getElem?_eq_getElem hc, Option.map_some, if_pos ⟨Nat.zero_le _, by omega⟩, Nat.sub_zero, getElem!_pos D.toArray i hD, List.getElem?_eq_getElem hD']
    rfl
  · rw [if_neg hi, if_neg hi]; rfl
end
/-- In order. -/
abbrev srt (L : List Int) : List Int := L.mergeSort fun x y => decide (x ≤ y)
abbrev SortK (P : Program) (f : Nat) : Prop :=
  (∀ (blk off cap : Nat) (zs : List Int) (w : World), Go.Sort.Holds (Value.int .i64) w blk off zs.toArray → blk < w.heap.size → zs.length < 4611686018427387904 →
    Calls P f #[.slice (some ⟨blk, off, none⟩) zs.length cap] w fun e w' => e = .returned (.tuple #[]) ∧ ∃ n os, w' = Go.Sort.grow (Go.Sort.putRow (Value.int .i64) (Go.Sort.ahead w n) blk off (srt zs).toArray) os) ∧
  (∀ (p : Option Addr) (cap : Nat) (w : World), Calls P f #[.slice p 0 cap] w fun e w' => e = .returned (.tuple #[]) ∧ w' = w)
abbrev CompactK (P : Program) (f : Nat) : Prop :=
  (∀ (blk off cap : Nat) (zs : List Int) (w : World), Go.Sort.Holds (Value.int .i64) w blk off zs.toArray → zs.length ≤ 9223372036854775807 → zs.length ≤ cap →
    Calls P f #[.slice (some ⟨blk, off, none⟩) zs.length cap] w fun e w' => e = .returned (.slice (some ⟨blk, off, none⟩) (Go.Lib.compact zs).length cap) ∧ ∃ q, w' = Go.Sort.putRow (Value.int .i64) (Go.Sort.ahead w q) blk off (Go.Lib.compact zs ++ List.replicate (zs.length - (Go.Lib.compact zs).length) 0).toArray) ∧
  (∀ (a : Option Addr) (cap : Nat) (w : World), Calls P f #[.slice a 0 cap] w fun e w' => e = .returned (.slice a 0 cap) ∧ w' = w)
theorem one_arg {γ : Nat → G} {S : CS} {w : World} {vs : List Value} {id es n : Nat} (h : RepVs γ S w vs [.v (.c (.arr id es n))]) : ∃ a c, vs = [.slice a n c] ∧ (γ id = .dead ∨ γ id = .val (.slice a n c)) := by
  match vs, h with
  | [u], h =>
    obtain ⟨⟨⟨a, c, rfl⟩, k3⟩, _⟩ := h
    exact ⟨a, c, rfl, k3⟩
theorem srt_len (L : List Int) : (srt L).length = L.length := List.length_mergeSort _
theorem sort_spec {P : Program} {f : Nat} (hk : SortK P f) (e : TypeId) (L : List Int) (hl : L.length ≤ 1000000) : Spec P f [.v (.c (.arr 0 1 L.length))] [.arr e 1 (icL L)] (.tup []) [some (.arr e 1 (icL (srt L)))] := fun γ S w vs hm hv => by
  obtain ⟨a, c, rfl, hg⟩ := one_arg hv
  obtain ⟨v, h1, h2, h3⟩ := arr_ints (hm.obj 0 _ rfl)
  rw [h1] at hg
  rcases hg with hg | hg
  · cases hg
  · cases hg
    rcases h2.2 with ⟨k, k0⟩ | ⟨g, cap, cur, k1, k0, k2, k3, k4, k5, k6⟩
    · have hL : L = [] := List.eq_nil_of_length_eq_zero k0
      subst hL
      cases k
      refine (hk.2 none 0 w).mono ?_
      rintro e1 w' ⟨rfl, rfl⟩
      refine ⟨_, γ, S, rfl, ?_, ⟨#[], rfl, rfl, fun i c h => by simp at h⟩⟩
      have e1 : (fun x : Nat => ([some (AO.arr e 1 (icL (srt [])))][x]?).join) = (fun x : Nat => [AO.arr e 1 (icL [])][x]?) := by
        funext x; cases x <;> simp [srt]
      rw [e1]; exact hm
    · cases k1
      have hH := own_holds h2
      have hb := (Array.getElem?_eq_some_iff.1 k2).1
      refine (hk.1 g 0 c L w hH hb (by omega)).mono ?_
      rintro e1 w' ⟨rfl, q, os, rfl⟩
      refine ⟨_, γ, S, rfl, ?_, ⟨#[], rfl, rfl, fun i c h => by simp at h⟩⟩
      have ho := own_put (srt_len L) h2 q L.length (Nat.le_refl _)
      rw [List.take_of_length_le (by rw [srt_len]; exact Nat.le_refl _)] at ho
      have ht := (hm.turn (id := 0) (b := g) (by rw [h1]; rfl) (w' := Go.Sort.putRow (Value.int .i64) (Go.Sort.ahead w q) g 0 (srt L).toArray) rfl rfl rfl (by simp) (fun k hk => (heap_put (Value.int .i64) q g (srt L).toArray k2).2 k hk) (fun o => h3 g rfl o) (.arr e 1 (icL (srt L))) (ints_arr h1 (by rw [srt_len]; exact ho) h3)).grow os
      have e1 : (fun x : Nat => ([some (AO.arr e 1 (icL (srt L)))][x]?).join) = upd (fun x : Nat => [AO.arr e 1 (icL L)][x]?) 0 (some (AO.arr e 1 (icL (srt L)))) := by
        funext x; cases x <;> simp [upd]
      rw [e1]; exact ht
theorem compact_spec {P : Program} {f : Nat} (hk : CompactK P f) (e : TypeId) (L : List Int) (hl : L.length ≤ 1000000) (hcl : (Go.Lib.compact L).length ≤ L.length) (hc0 : Go.Lib.compact ([] : List Int) = []) : Spec P f [.v (.c (.arr 0 1 L.length))] [.arr e 1 (icL L)] (.v (.c (.arr 1 1 (Go.Lib.compact L).length))) [none, some (.arr e 1 (icL (Go.Lib.compact L)))] := fun γ S w vs hm hv => by
  obtain ⟨a, c, rfl, hg⟩ := one_arg hv
  obtain ⟨v, h1, h2, h3⟩ := arr_ints (hm.obj 0 _ rfl)
  rw [h1] at hg
  rcases hg with hg | hg
  · cases hg
  · cases hg
    have fin : ∀ (w' : World), w'.os = w.os → w'.tape = w.tape → w'.output = w.output → w'.heap.size = w.heap.size → (∀ k, (Value.slice a L.length c).ownBlock ≠ some k → w'.heap[k]? = w.heap[k]?) →
        w'.ownsRow 0 e 1 (.slice a (Go.Lib.compact L).length c) (Go.Lib.compact L).length ((Go.Lib.compact L).map (Value.int .i64)) →
        ∃ v γ' S', Ending.returned (.slice a (Go.Lib.compact L).length c) = .returned v ∧ Mem ⟨w, S, γ⟩ (fun x => ([none, some (AO.arr e 1 (icL (Go.Lib.compact L)))][x]?).join) (fun x => [none, some (AO.arr e 1 (icL (Go.Lib.compact L)))].length ≤ x) γ' S' w' ∧ RepV γ' S' w' v (.v (.c (.arr 1 1 (Go.Lib.compact L).length))) := fun w' q1 q2 q3 q4 q5 q6 => by
      have hb : (Value.slice a (Go.Lib.compact L).length c).ownBlock = (Value.slice a L.length c).ownBlock := by cases a <;> rfl
      have hcell : ∀ b k, S b k → w'.cell? ⟨b, k, none⟩ = w.cell? ⟨b, k, none⟩ := fun b k hs => World.cell?_of_block (q5 b (fun e => h3 b e k hs))
      have ho : ∀ b, (Value.slice a (Go.Lib.compact L).length c).ownBlock = some b → ∀ o, ¬ (fun b k => S b k ∨ ((Value.slice a L.length c).ownBlock = some b ∧ (fun _ : Nat => False) k)) b o := fun b hbb o hs => by
        rw [hb] at hbb
        rcases hs with hs | ⟨_, hs⟩
        · exact h3 b hbb o hs
        · exact hs
      obtain ⟨r1, r2⟩ := hm.app (id := 0) (nm := 1) (Nat.le_refl 1) h1 hb q1 q2 q3 q4 q5 hcell (fun _ => False) (.arr e 1 (icL (Go.Lib.compact L))) (ints_arr (upd_same _ _ _) q6 ho)
      refine ⟨_, upd (upd γ 0 .dead) 1 (.val (.slice a (Go.Lib.compact L).length c)), (fun b k => S b k ∨ ((Value.slice a L.length c).ownBlock = some b ∧ False)), rfl, ?_, ⟨a, c, rfl⟩, .inr (upd_same _ _ _)⟩
      have e1 : (fun x : Nat => ([none, some (AO.arr e 1 (icL (Go.Lib.compact L)))][x]?).join) = upd (upd (fun x : Nat => [AO.arr e 1 (icL L)][x]?) 0 none) 1 (some (AO.arr e 1 (icL (Go.Lib.compact L)))) := by
        funext x
        match x with
        | 0 => rfl
        | 1 => rfl
        | x + 2 => simp [upd]
      rw [e1]
      exact r1.less (fun x hx => by simp only [List.length_cons, List.length_nil] at hx; exact ⟨by show 1 ≤ x; omega, by omega⟩)
    by_cases h0 : L = []
    · subst h0
      refine (hk.2 a c w).mono ?_
      rintro e1 w' ⟨rfl, rfl⟩
      have := fin w' rfl rfl rfl rfl (fun _ _ => rfl) (by rw [hc0]; exact h2)
      rw [hc0] at this ⊢
      exact this
    · rcases h2.2 with ⟨k, k0⟩ | ⟨g, cap, cur, k1, k0, k2, k3, k4, k5, k6⟩
      · exact absurd (List.eq_nil_of_length_eq_zero k0) h0
      · cases k1
        have hH := own_holds h2
        refine (hk.1 g 0 c L w hH (by omega) k3).mono ?_
        rintro e1 w' ⟨rfl, q, rfl⟩
        have hD : (Go.Lib.compact L ++ List.replicate (L.length - (Go.Lib.compact L).length) 0).length = L.length := by rw [List.length_append, List.length_replicate]; omega
        have ho := own_put hD h2 q (Go.Lib.compact L).length hcl
        rw [List.take_left] at ho
        generalize Go.Lib.compact L ++ List.replicate (L.length - (Go.Lib.compact L).length) 0 = D at ho ⊢
        have hp := heap_put (Value.int .i64) q g D.toArray k2
        have hz : (Go.Sort.putRow (Value.int .i64) (Go.Sort.ahead w q) g 0 D.toArray).heap.size = w.heap.size := by simp
        have p1 : (Go.Sort.putRow (Value.int .i64) (Go.Sort.ahead w q) g 0 D.toArray).os = w.os := rfl
        have p2 : (Go.Sort.putRow (Value.int .i64) (Go.Sort.ahead w q) g 0 D.toArray).tape = w.tape := rfl
        have p3 : (Go.Sort.putRow (Value.int .i64) (Go.Sort.ahead w q) g 0 D.toArray).output = w.output := rfl
        have p4 : ∀ k, (Value.slice (some ⟨g, 0, none⟩) L.length c).ownBlock ≠ some k → (Go.Sort.putRow (Value.int .i64) (Go.Sort.ahead w q) g 0 D.toArray).heap[k]? = w.heap[k]? := fun k hk => hp.2 k (fun e => hk (by rw [e]; rfl))
        generalize Go.Sort.putRow (Value.int .i64) (Go.Sort.ahead w q) g 0 D.toArray = W at ho hz p1 p2 p3 p4 ⊢
        exact fin W p1 p2 p3 hz p4 ho
end Go.Proofs.Ytjnlfppeodoliaa.am
