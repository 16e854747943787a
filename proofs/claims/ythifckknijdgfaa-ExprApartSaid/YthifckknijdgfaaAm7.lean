/-
  A machine of values: slices made, and appended to. No program is named here.
-/
import Derived.Test.YthifckknijdgfaaAm6
namespace Go.Proofs.Ythifckknijdgfaa.am
open Go.ChangeShapes Go.WideShapes Go.ChangeAt Go.RowKit
set_option linter.unusedVariables false
set_option linter.unusedSimpArgs false

theorem flat_decode {es : Nat} {l : List (List PV)} (h : ∀ e ∈ l, e.length = es) {k : Nat} {p : PV} (hk : l.flatten[k]? = some p) : ∃ (i j : Nat) (e : List PV), l[i]? = some e ∧ e[j]? = some p ∧ k = i * es + j := by
  induction l generalizing k with
  | nil => simp at hk
  | cons a l ih =>
    have h1 := h a (by simp)
    rw [List.flatten_cons] at hk
    by_cases hlt : k < a.length
    · rw [List.getElem?_append_left hlt] at hk
      exact ⟨0, k, a, rfl, hk, by omega⟩
    · rw [List.getElem?_append_right (by omega)] at hk
      obtain ⟨i, j, e, h2, h3, h4⟩ := ih (fun e he => h e (by simp [he])) hk
      exact ⟨i + 1, j, e, by simpa using h2, h3, by rw [Nat.succ_mul]; omega⟩

section
variable {X : Ctx} {H : Nat → Option AO} {U : Nat → Prop} {γ : Nat → G} {S : CS} {w : World} {P : Program}
/-- A slice out of the cells of a block. -/
theorem sl_of_block {es : Nat} {l : List (List PV)} (hes : ∀ e ∈ l, e.length = es) {b : Nat} {xs : List Value} (hxs : RepPs S w xs l.flatten) {c : Nat} (hc : l.length ≤ c) (hm : c ≤ 9223372036854775807) (hcell : ∀ (k : Nat) u, xs[k]? = some u → S b k ∧ w.cell? ⟨b, k, none⟩ = some u) :
    RepP S w (.slice (some ⟨b, 0, none⟩) l.length c) (.sl es l) :=
  sl_intro ⟨hc, hm, by simp, .inr ⟨b, 0, rfl, hes, fun i e j p hi hj => by
    obtain ⟨u, h1, h2⟩ := hxs.2 _ p (flat_get hes hi hj)
    rw [Nat.zero_add]
    exact ⟨(hcell _ u h1).1, u, (hcell _ u h1).2, h2⟩⟩⟩
theorem RepPs.mono {S' : CS} {w' : World} (hS : ∀ b o, S b o → S' b o) (hw : ∀ b o, S b o → w'.cell? ⟨b, o, none⟩ = w.cell? ⟨b, o, none⟩) {vs : List Value} {l : List PV} (h : RepPs S w vs l) : RepPs S' w' vs l :=
  ⟨h.1, fun i c hi => let ⟨v, h1, h2⟩ := h.2 i c hi; ⟨v, h1, h2.mono hS hw⟩⟩
/-- A slice of the call's own, just made. -/
theorem newrow (h : Mem X H U γ S w) {nm : Nat} (hn : U nm) (e : TypeId) (es : Nat) {l : List (List PV)} (hes : ∀ e ∈ l, e.length = es) (cs : Array Value) (cap : Nat) (hcap : l.length ≤ cap) (hmost : cap ≤ 9223372036854775807) (hcs : cs.size = cap * es) (hl : RepPs S w (cs.toList.take (l.length * es)) l.flatten) :
    ∃ γ' S', Mem X (upd H nm (some (.row e es))) (fun x => U x ∧ x ≠ nm) γ' S' (w.alloc (.cells cs e)) ∧ GOn γ γ' ∧ (∀ b o, S b o → S' b o) ∧ (∀ b o, S b o → (w.alloc (.cells cs e)).cell? ⟨b, o, none⟩ = w.cell? ⟨b, o, none⟩) ∧
      RepV γ' S' (w.alloc (.cells cs e)) (.slice (some ⟨w.heap.size, 0, none⟩) l.length cap) (.v (.c (.row nm es l))) := by
  have hG := GOn.upd_un (h.un nm hn) (.val (.slice (some ⟨w.heap.size, 0, none⟩) l.length cap))
  have hw : ∀ b k, S b k → (w.alloc (.cells cs e)).cell? ⟨b, k, none⟩ = w.cell? ⟨b, k, none⟩ := fun b k hs => cell_old (h.inb b k hs)
  refine ⟨_, _, h.add hn (.cells cs e) _ rfl (fun k => k < l.length * es) (.row e es) ⟨_, l.length, cs.toList.take (l.length * es), upd_same _ _ _, ⟨?_, .inr ⟨_, cap, cs, rfl, Nat.zero_le _, heap_alloc_new w _, hcap, by unfold maxLen; omega, hcs, rfl⟩⟩, fun b hb o ho hs => ?_⟩, hG, fun _ _ h => .inl h, hw, ?_, .inr (upd_same _ _ _)⟩
  · show (cs.toList.take (l.length * es)).length = l.length * es
    have hle := Nat.mul_le_mul_right es hcap
    rw [List.length_take, show cs.toList.length = cap * es from hcs]
    exact Nat.min_eq_left hle
  · cases hb
    rcases hs with hs | ⟨_, hs⟩
    · exact absurd (h.inb _ _ hs) (Nat.lt_irrefl _)
    · omega
  · refine sl_of_block hes (hl.mono (fun _ _ h => .inl h) hw) hcap hmost (fun k u hk => ?_)
    have hkl : k < l.length * es := by
      have h1 := (List.getElem?_eq_some_iff.1 hk).1
      rw [List.length_take] at h1; omega
    refine ⟨.inr ⟨rfl, hkl⟩, ?_⟩
    rw [cell_row (heap_alloc_new w (.cells cs e))]
    rw [List.getElem?_take, if_pos hkl] at hk
    exact hk

/-- A slice literal. -/
def vbuildSlice (P : Program) (d : TD) (len : Nat) (qs : List (Nat × AV)) (nm : Nat) : Option (AV × TypeId × Nat) :=
  match d.tag with
  | .slice e =>
    match td P e with
    | some de =>
      if len * de.sz ≤ 16777216 ∧ len ≤ 16777216 ∧ 0 < de.sz then
        (fillS de.sz (List.replicate len de.zero) qs).map fun l => (.v (.c (.row nm de.sz l)), e, de.sz)
      else none
    | none => none
  | _ => none
theorem zero_fill {z : Array Value} {len es : Nat} (hz : z.size = es) {zero : List PV} (hlen : zero.length = es) (hr : RepPs S w z.toList zero) : RepPs S w ((Array.range (len * es)).map (fun k => z[k % es]!)).toList (List.replicate len zero).flatten := by
  have hes : ∀ e ∈ List.replicate len zero, e.length = es := fun e he => by rw [(List.mem_replicate.1 he).2]; exact hlen
  refine ⟨by rw [flat_len hes]; simp, fun k p hk => ?_⟩
  obtain ⟨i, j, e, h1, h2, rfl⟩ := flat_decode hes hk
  have he : e = zero := (List.mem_replicate.1 (List.mem_of_getElem? h1)).2
  subst he
  have hj : j < es := by have := (List.getElem?_eq_some_iff.1 h2).1; omega
  have hi : i < len := by have := (List.getElem?_eq_some_iff.1 h1).1; simpa using this
  obtain ⟨v, k1, k2⟩ := hr.2 j p h2
  refine ⟨v, ?_, k2⟩
  have hlt : i * es + j < len * es := by
    have : (i + 1) * es ≤ len * es := Nat.mul_le_mul_right _ hi
    rw [Nat.succ_mul] at this; omega
  have hmod : (i * es + j) % es = j := by rw [Nat.mul_comm, Nat.mul_add_mod, Nat.mod_eq_of_lt hj]
  have k1' : z[j]? = some v := by simpa using k1
  have k1'' : z[j]! = v := by rw [getElem!_def, k1']
  simp [hlt, hmod, k1'']
theorem vbuildSlice_sound (h : Mem X H U γ S w) {nm : Nat} (hn : U nm) {t : TypeId} {d : TD} (hd : td P t = some d) {len : Nat} {qs : List (Nat × AV)} {v : AV} {e : TypeId} {es : Nat} (hv : vbuildSlice P d len qs nm = some (v, e, es)) {ps : Array (Nat × Value)} (hp : PartsR γ S w ps.toList qs) :
    Stp X (upd H nm (some (.row e es))) (fun x => U x ∧ x ≠ nm) γ S w ((do pure (.value (← Instr.buildSlice t len ps)) : Sem Go.Next).run P w) v := by
  obtain ⟨i, ud, z, T⟩ := td_ok hd
  unfold vbuildSlice at hv
  split at hv
  · rename_i e' htag
    split at hv
    · rename_i de hde
      split at hv
      · rename_i hc
        obtain ⟨hc1, hc2, hc3⟩ := hc
        obtain ⟨l, hl, hv⟩ := Option.map_eq_some_iff.1 hv
        simp only [Prod.mk.injEq] at hv
        obtain ⟨rfl, rfl, rfl⟩ := hv
        obtain ⟨i', ud', z', T'⟩ := td_ok hde
        have hu := T.uslice htag
        have hes : ∀ e ∈ List.replicate len de.zero, e.length = de.sz := fun e he => by rw [(List.mem_replicate.1 he).2]; exact T'.len
        have hzero : RepPs S w ((Array.range (len * de.sz)).map (fun k => z'.cells[k % de.sz]!)).toList (List.replicate len de.zero).flatten :=
          zero_fill T'.zsize T'.len ((RepPs.cs (γ := γ)).2 (T'.rep γ S w))
        obtain ⟨r, k1, k2, k3, k4⟩ := fillS_sound de.sz (fun i => some (i * de.sz, de.sz)) (fun i => rfl) ps.toList qs _ _ l hp hes hzero hl
        rw [List.length_replicate] at k4
        have hrs : r.size = l.length * de.sz := by have := k2.1; rw [flat_len k3] at this; simpa using this
        obtain ⟨γ', S', g1, g2, g3, g4, g5⟩ := newrow h hn e' de.sz k3 r l.length (Nat.le_refl _) (by omega) hrs (by rw [List.take_of_length_le (by simp [hrs])]; exact k2)
        refine ⟨_, _, γ', S', .inl ?_, g1, g2, g3, g4, g5⟩
        have hno : ¬ (2 : Nat) ^ 24 < len * de.sz := by omega
        by_cases h0 : len * de.sz = 0
        · have hlen : len = 0 := by rcases Nat.mul_eq_zero.1 h0 with h0 | h0 <;> omega
          subst hlen
          simp only [Nat.zero_mul, Array.range_zero', Array.map_empty] at k1
          simp only [Instr.buildSlice, Sem.run_bind, run_underlying hu, Result.andThen_ok, T'.sizeOf, h0, Nat.zero_mul]
          simp only [if_true, Sem.run_pure, Result.andThen_ok, Array.range_zero', Array.map_empty, Nat.not_lt_zero, if_false, gt_iff_lt, k1, newRow, newObj]
          simp [Sem.run, k4]
        · simp only [Instr.buildSlice, Sem.run_bind, run_underlying hu, Result.andThen_ok, T'.sizeOf, gt_iff_lt, hno, if_false, h0, T'.zero, Sem.run_pure, T'.zsize, k1, newRow, newObj]
          simp [Sem.run, k4]
      · cases hv
    · cases hv
  · cases hv
end
end Go.Proofs.Ythifckknijdgfaa.am
