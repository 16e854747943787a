/-
  A machine of values: structs and slices built. No program is named here.
-/
import Derived.Test.YthifckknijdgfaaAm5
namespace Go.Proofs.Ythifckknijdgfaa.am
open Go.ChangeShapes Go.WideShapes Go.ChangeAt Go.RowKit
set_option linter.unusedVariables false
set_option linter.unusedSimpArgs false

/-- Cells set one behind the other. -/
theorem fold_set (off : Nat) : ∀ (vs : List Value) (k : Nat) (arr : Array Value), off + k + vs.length ≤ arr.size →
    (vs.zipIdx k).foldl (fun cs (p : Value × Nat) => cs.setIfInBounds (off + p.2) p.1) arr = (setSeg arr.toList (off + k) vs).toArray
  | [], k, arr, h => by simp [setSeg]
  | v :: vs, k, arr, h => by
    have hk : off + k < arr.size := by simp at h; omega
    rw [List.zipIdx_cons, List.foldl_cons, fold_set off vs (k + 1) _ (by simp at h ⊢; omega)]
    have e := list_seg_step arr.toList (off + k) v vs (by simp at h ⊢; omega)
    unfold setSeg
    congr 1
    simpa [Array.toList_setIfInBounds, Nat.add_assoc] using e
theorem fold_set' (off : Nat) (v : Array Value) (arr : Array Value) (h : off + v.size ≤ arr.size) :
    v.zipIdx.foldl (fun cs (x : Value × Nat) => match x with | (c, j) => cs.setIfInBounds (off + j) c) arr = (setSeg arr.toList off v.toList).toArray := by
  have := fold_set off v.toList 0 arr (by simpa using h)
  rw [Nat.add_zero] at this
  rw [← this, ← Array.foldl_toList, Array.toList_zipIdx]

def fillA (flds : List (Nat × Nat × Bool)) : List AC → List (Nat × AV) → Option (List AC)
  | cells, [] => some cells
  | cells, (i, a) :: rest =>
    match flds[i]?, a with
    | some (off, sz, _), .v x => if (cellsT x).length = sz ∧ off + sz ≤ cells.length then fillA flds (setSeg cells off (cellsT x)) rest else none
    | _, _ => none
def vbuild (d : TD) (parts : List (Nat × AV)) : Option AV :=
  match d.tag with
  | .struct => (fillA d.flds (d.zero.map .pv) parts).map fun l => .v (.agg l)
  | _ => none

section
variable {P : Program} {γ : Nat → G} {S : CS} {w : World}
/-- The parts that are handed in, and what they are. -/
def PartsR (γ : Nat → G) (S : CS) (w : World) : List (Nat × Value) → List (Nat × AV) → Prop
  | [], [] => True
  | p :: ps, q :: qs => p.1 = q.1 ∧ RepV γ S w p.2 q.2 ∧ PartsR γ S w ps qs
  | _, _ => False
theorem partsR_map (f : Operand → Value) (g : Operand → AV) (h : ∀ x, RepV γ S w (f x) (g x)) : ∀ l : List (Nat × Operand), PartsR γ S w (l.map fun p => (p.1, f p.2)) (l.map fun p => (p.1, g p.2))
  | [] => trivial
  | p :: l => ⟨rfl, h _, partsR_map f g h l⟩
theorem fill_sound (flds : List (Nat × Nat × Bool)) (place : Nat → Option (Nat × Nat)) (hp : ∀ i, place i = (flds[i]?).map fun x => (x.1, x.2.1)) : ∀ (ps : List (Nat × Value)) (qs : List (Nat × AV)) (arr : Array Value) (cells out : List AC),
    PartsR γ S w ps qs → RepCs γ S w arr.toList cells → fillA flds cells qs = some out → ∃ r, Instr.fill place arr ps = some r ∧ RepCs γ S w r.toList out
  | [], [], arr, cells, out, _, hr, h => by cases h; exact ⟨arr, rfl, hr⟩
  | (i, v) :: ps, (j, a) :: qs, arr, cells, out, hps, hr, h => by
    obtain ⟨hij, hv, hrest⟩ := hps
    simp only at hij hv
    subst hij
    unfold fillA at h
    split at h
    · rename_i off sz ag x hf
      split at h
      · rename_i hc
        obtain ⟨h1, h2⟩ := hc
        have hcc := cellsT_rep hv
        have hvs : v.cells.size = sz := by rw [← h1, ← hcc.1]; simp
        have hasz : arr.size = cells.length := by have := hr.1; simpa using this
        obtain ⟨r, k1, k2⟩ := fill_sound flds place hp ps qs (setSeg arr.toList off v.cells.toList).toArray (setSeg cells off (cellsT x)) out hrest (by simpa using hr.seg' hcc off) h
        refine ⟨r, ?_, k2⟩
        unfold Instr.fill
        rw [hp, hf]
        simp only [Option.map_some]
        have hno : ¬ (decide (v.cells.size ≠ sz) || decide (off + v.cells.size > arr.size)) = true := by
          simp [hvs]; omega
        simp only [hvs] at hno ⊢
        rw [if_neg (by simp; omega)]
        rw [fold_set' off v.cells arr (by rw [hvs]; omega)]
        exact k1
      · cases h
    · cases h
  | [], _ :: _, _, _, _, h, _, _ => h.elim
  | _ :: _, [], _, _, _, h, _, _ => h.elim
theorem mapM_places {fs : List Field} {fl : List (Nat × Nat × Bool)} (h : fs.mapM (fld P) = some fl) : fs.mapM (fun f => (P.info? f.type).map fun i => (f.offset, i.size)) = some (fl.map fun x => (x.1, x.2.1)) := by
  induction fs generalizing fl with
  | nil => simp at h; subst h; rfl
  | cons f fs ih =>
    simp only [List.mapM_cons, Option.bind_eq_bind, Option.pure_def] at h ⊢
    cases hf : fld P f with
    | none => simp [hf] at h
    | some y =>
      cases hl : fs.mapM (fld P) with
      | none => simp [hf, hl] at h
      | some r =>
        simp [hf, hl] at h
        subst h
        have := ih hl
        unfold fld at hf
        split at hf
        · rename_i i u hi hu
          cases hf
          simp [hi, this]
        · cases hf
theorem vbuild_sound {t : TypeId} {d : TD} (hd : td P t = some d) {qs : List (Nat × AV)} {v : AV} (h : vbuild d qs = some v) {ps : Array (Nat × Value)} (hp : PartsR γ S w ps.toList qs) : ∃ u, (Instr.build t ps).run P w = .ok u w ∧ RepV γ S w u v := by
  obtain ⟨i, ud, z, T⟩ := td_ok hd
  unfold vbuild at h
  split at h
  · rename_i htag
    obtain ⟨l, hl, rfl⟩ := Option.map_eq_some_iff.1 h
    obtain ⟨fs, hu, hm⟩ := T.ustruct htag
    obtain ⟨r, k1, k2⟩ := fill_sound d.flds (((d.flds.map fun x => (x.1, x.2.1)).toArray)[·]?) (fun i => by simp) ps.toList qs z.cells (d.zero.map .pv) l hp (T.rep γ S w) hl
    refine ⟨_, run_build w t ps r ?_, r, rfl, k2⟩
    unfold Program.built
    rw [T.info, hu]
    simp only [T.zer, mapM_places hm]
    exact k1
  · cases h
end

/-! A slice built -/
def pureC : AC → Option PV
  | .pv p => some p
  | .row _ es l => some (.sl es l)
  | .cut es l => some (.sl es l)
  | _ => none
def pureT (x : AT) : Option (List PV) := (cellsT x).mapM pureC
theorem pureC_rep {γ : Nat → G} {S : CS} {w : World} {v : Value} {c : AC} {p : PV} (h : RepC γ S w v c) (hp : pureC c = some p) : RepP S w v p := by
  cases c <;> simp [pureC] at hp <;> subst hp
  · exact h
  · exact h.1
  · exact h.1
/-- Cells that are what they should be. -/
def RepPs (S : CS) (w : World) (vs : List Value) (l : List PV) : Prop := vs.length = l.length ∧ ∀ (i : Nat) c, l[i]? = some c → ∃ v, vs[i]? = some v ∧ RepP S w v c
theorem pureT_rep {γ : Nat → G} {S : CS} {w : World} {v : Value} {x : AT} {l : List PV} (h : RepT γ S w v x) (hp : pureT x = some l) : RepPs S w v.cells.toList l := by
  have hc := cellsT_rep h
  obtain ⟨h1, h2⟩ := mapM_at hp
  refine ⟨hc.1.trans h1, fun i p hi => ?_⟩
  obtain ⟨c, k1, k2⟩ := h2 i p hi
  obtain ⟨u, k3, k4⟩ := hc.2 i c k1
  exact ⟨u, k3, pureC_rep k4 k2⟩
theorem RepPs.cs {γ : Nat → G} {S : CS} {w : World} {vs : List Value} {l : List PV} : RepPs S w vs l ↔ RepCs γ S w vs (l.map .pv) := by
  constructor
  · intro h
    refine ⟨by rw [h.1, List.length_map], fun i c hc => ?_⟩
    rw [List.getElem?_map] at hc
    obtain ⟨p, hp, rfl⟩ := Option.map_eq_some_iff.1 hc
    exact h.2 i p hp
  · intro h
    refine ⟨by rw [h.1, List.length_map], fun i p hp => ?_⟩
    exact h.2 i (.pv p) (by rw [List.getElem?_map, hp]; rfl)
def fillS (es : Nat) : List (List PV) → List (Nat × AV) → Option (List (List PV))
  | l, [] => some l
  | l, (i, a) :: rest =>
    match a with
    | .v x =>
      match pureT x with
      | some c => if c.length = es ∧ i < l.length then fillS es (l.set i c) rest else none
      | none => none
    | _ => none
/-- Elements, one behind the other. -/
theorem flat_len {es : Nat} : ∀ {l : List (List PV)}, (∀ e ∈ l, e.length = es) → l.flatten.length = l.length * es
  | [], _ => by simp
  | e :: l, h => by
    have h1 := h e (by simp)
    have h2 := flat_len (l := l) (fun e he => h e (by simp [he]))
    rw [List.flatten_cons, List.length_append, h1, h2, List.length_cons, Nat.succ_mul]; omega
theorem flat_set {es : Nat} : ∀ {l : List (List PV)} {i : Nat} {c : List PV}, (∀ e ∈ l, e.length = es) → c.length = es → i < l.length → (l.set i c).flatten = setSeg l.flatten (i * es) c
  | [], _, _, _, _, h => by simp at h
  | e :: l, 0, c, h, hc, _ => by
    have h1 := h e (by simp)
    simp only [List.set_cons_zero, List.flatten_cons, Nat.zero_mul, setSeg, List.take_zero, List.nil_append, Nat.zero_add, hc]
    rw [List.drop_left' h1]
  | e :: l, i + 1, c, h, hc, hi => by
    have h1 := h e (by simp)
    have ih := flat_set (l := l) (i := i) (c := c) (fun e he => h e (by simp [he])) hc (by simpa using hi)
    simp only [List.set_cons_succ, List.flatten_cons, ih, setSeg]
    have e1 : (i + 1) * es = e.length + i * es := by rw [h1, Nat.succ_mul]; omega
    rw [e1]
    have e2 : (e ++ l.flatten).take (e.length + i * es) = e ++ l.flatten.take (i * es) := by rw [List.take_append, List.take_of_length_le (Nat.le_add_right _ _), Nat.add_sub_cancel_left]
    have e3 : (e ++ l.flatten).drop (e.length + i * es + c.length) = l.flatten.drop (i * es + c.length) := by
      rw [Nat.add_assoc, List.drop_append, List.drop_of_length_le (Nat.le_add_right _ _), List.nil_append, Nat.add_sub_cancel_left]
    rw [e2, e3]
    simp [List.append_assoc]
theorem flat_get {es : Nat} {l : List (List PV)} (h : ∀ e ∈ l, e.length = es) {i j : Nat} {e : List PV} {p : PV} (hi : l[i]? = some e) (hj : e[j]? = some p) : l.flatten[i * es + j]? = some p := by
  induction l generalizing i with
  | nil => simp at hi
  | cons a l ih =>
    have h1 := h a (by simp)
    cases i with
    | zero =>
      simp at hi; subst hi
      rw [List.flatten_cons, List.getElem?_append_left (by have := (List.getElem?_eq_some_iff.1 hj).1; omega), Nat.zero_mul, Nat.zero_add]; exact hj
    | succ i =>
      simp at hi
      rw [List.flatten_cons, List.getElem?_append_right (by rw [h1, Nat.succ_mul]; omega), h1]
      have := ih (fun e he => h e (by simp [he])) hi
      rwa [show (i + 1) * es + j - es = i * es + j by rw [Nat.succ_mul]; omega]
theorem fillS_sound {γ : Nat → G} {S : CS} {w : World} (es : Nat) (place : Nat → Option (Nat × Nat)) (hp : ∀ i, place i = some (i * es, es)) : ∀ (ps : List (Nat × Value)) (qs : List (Nat × AV)) (arr : Array Value) (l out : List (List PV)),
    PartsR γ S w ps qs → (∀ e ∈ l, e.length = es) → RepPs S w arr.toList l.flatten → fillS es l qs = some out → ∃ r, Instr.fill place arr ps = some r ∧ RepPs S w r.toList out.flatten ∧ (∀ e ∈ out, e.length = es) ∧ out.length = l.length
  | [], [], arr, l, out, _, hes, hr, h => by cases h; exact ⟨arr, rfl, hr, hes, rfl⟩
  | (i, v) :: ps, (j, a) :: qs, arr, l, out, hps, hes, hr, h => by
    obtain ⟨hij, hv, hrest⟩ := hps
    simp only at hij hv
    subst hij
    unfold fillS at h
    split at h
    · rename_i x
      split at h
      · rename_i c hc
        split at h
        · rename_i hcond
          obtain ⟨h1, h2⟩ := hcond
          have hcc := pureT_rep hv hc
          have hvs : v.cells.size = es := by rw [← h1, ← hcc.1]; simp
          have hasz : arr.size = l.length * es := by have := hr.1; rw [flat_len hes] at this; simpa using this
          have hle : i * es + es ≤ arr.size := by rw [hasz, ← Nat.succ_mul]; exact Nat.mul_le_mul_right _ h2
          have hset : ∀ e ∈ l.set i c, e.length = es := fun e he => by
            rcases List.mem_or_eq_of_mem_set he with he | rfl
            · exact hes e he
            · exact h1
          obtain ⟨r, k1, k2, k3, k4⟩ := fillS_sound es place hp ps qs (setSeg arr.toList (i * es) v.cells.toList).toArray (l.set i c) out hrest hset (by
            have := ((RepPs.cs (γ := γ)).1 hr).seg' ((RepPs.cs (γ := γ)).1 hcc) (i * es)
            rw [flat_set hes h1 h2]
            refine (RepPs.cs (γ := γ)).2 ?_
            simp only [setSeg, List.map_append, List.map_take, List.map_drop, List.length_map] at this ⊢
            exact this) h
          refine ⟨r, ?_, k2, k3, by rw [k4, List.length_set]⟩
          unfold Instr.fill
          rw [hp]
          simp only [hvs]
          rw [if_neg (by simp; omega)]
          rw [fold_set' (i * es) v.cells arr (by rw [hvs]; omega)]
          exact k1
        · cases h
      · cases h
    · cases h
  | [], _ :: _, _, _, _, h, _, _, _ => h.elim
  | _ :: _, [], _, _, _, h, _, _, _ => h.elim
end Go.Proofs.Ythifckknijdgfaa.am
