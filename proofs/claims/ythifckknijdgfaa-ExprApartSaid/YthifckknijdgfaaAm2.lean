/-
  A machine of values: the types' table; operations that turn nothing. No program is named here.
-/
import Derived.Test.YthifckknijdgfaaAm1
namespace Go.Proofs.Ythifckknijdgfaa.am
open Go.ChangeShapes Go.WideShapes Go.ChangeAt Go.RowKit
set_option linter.unusedVariables false
set_option linter.unusedSimpArgs false

def isAggD : TypeDesc → Bool
  | .struct _ | .array _ _ => true
  | _ => false
def zPV : Value → Option PV
  | .slice none 0 0 => some .nilS
  | v => if plain v = true then some (.lit v) else none
inductive Tag where
  | bool | int (k : IntKind) | string | pointer (e : TypeId) | slice (e : TypeId) | struct | func | interface | other
def tagOf : TypeDesc → Tag
  | .bool => .bool
  | .int k => .int k
  | .string => .string
  | .pointer e => .pointer e
  | .slice e => .slice e
  | .struct _ => .struct
  | .func .. => .func
  | .interface _ => .interface
  | _ => .other
/-- What is asked of a type. -/
structure TD where
  agg : Bool
  sz : Nat
  bytes : Nat
  zero : List PV
  flds : List (Nat × Nat × Bool)
  tag : Tag
def fld (P : Program) (f : Field) : Option (Nat × Nat × Bool) :=
  match P.info? f.type, P.underlying f.type with
  | some i, some u => some (f.offset, i.size, isAggD u)
  | _, _ => none
def fldsOf (P : Program) : TypeDesc → Option (List (Nat × Nat × Bool))
  | .struct fs => fs.toList.mapM (fld P)
  | _ => some []
def td (P : Program) (t : TypeId) : Option TD :=
  match P.info? t, P.underlying t with
  | some i, some u =>
    match i.zero with
    | some z =>
      match z.cells.toList.mapM zPV, fldsOf P u with
      | some zs, some fl => if zs.length = i.size then some ⟨isAggD u, i.size, i.bytes, zs, fl, tagOf u⟩ else none
      | _, _ => none
    | none => none
  | _, _ => none

structure TDok (P : Program) (t : TypeId) (d : TD) (i : TypeInfo) (u : TypeDesc) (z : Value) : Prop where
  info : P.info? t = some i
  und : P.underlying t = some u
  zer : i.zero = some z
  sz : i.size = d.sz
  bytes : i.bytes = d.bytes
  agg : isAggD u = d.agg
  zs : z.cells.toList.mapM zPV = some d.zero
  fl : fldsOf P u = some d.flds
  len : d.zero.length = d.sz
  tag : tagOf u = d.tag
theorem td_ok {P : Program} {t : TypeId} {d : TD} (h : td P t = some d) : ∃ i u z, TDok P t d i u z := by
  unfold td at h
  split at h
  · rename_i i u hi hu
    split at h
    · rename_i z hz
      split at h
      · rename_i zs fl hzs hfl
        split at h
        · rename_i hl
          cases h
          exact ⟨i, u, z, hi, hu, hz, rfl, rfl, rfl, hzs, hfl, hl, rfl⟩
        · cases h
      · cases h
    · cases h
  · cases h

section
variable {P : Program} {t : TypeId} {d : TD} {i : TypeInfo} {u : TypeDesc} {z : Value}
theorem TDok.isAgg (h : TDok P t d i u z) (w : World) : (isAgg t).run P w = .ok d.agg w := by
  unfold Go.isAgg
  rw [Sem.run_bind, run_underlying h.und w, ← h.agg]
  cases u <;> rfl
theorem TDok.sizeOf (h : TDok P t d i u z) (w : World) : (sizeOf t).run P w = .ok d.sz w := by
  simp [Go.sizeOf, typeInfo, h.info, h.sz]
theorem TDok.zero (h : TDok P t d i u z) (w : World) : (zeroValue t).run P w = .ok z w := by
  simp [zeroValue, typeInfo, h.info, h.zer]
theorem TDok.uslice (h : TDok P t d i u z) {e : TypeId} (he : d.tag = .slice e) : P.underlying t = some (.slice e) := by
  have := h.tag; rw [he] at this; rw [h.und]; cases u <;> cases this <;> rfl
theorem TDok.uint (h : TDok P t d i u z) {k : IntKind} (he : d.tag = .int k) : P.underlying t = some (.int k) := by
  have := h.tag; rw [he] at this; rw [h.und]; cases u <;> cases this <;> rfl
theorem TDok.ubool (h : TDok P t d i u z) (he : d.tag = .bool) : P.underlying t = some .bool := by
  have := h.tag; rw [he] at this; rw [h.und]; cases u <;> cases this <;> rfl
theorem TDok.ustring (h : TDok P t d i u z) (he : d.tag = .string) : P.underlying t = some .string := by
  have := h.tag; rw [he] at this; rw [h.und]; cases u <;> cases this <;> rfl
theorem TDok.upointer (h : TDok P t d i u z) {e : TypeId} (he : d.tag = .pointer e) : P.underlying t = some (.pointer e) := by
  have := h.tag; rw [he] at this; rw [h.und]; cases u <;> cases this <;> rfl
theorem TDok.ufunc (h : TDok P t d i u z) (he : d.tag = .func) : ∃ a b c, P.underlying t = some (.func a b c) := by
  have := h.tag; rw [he] at this; rw [h.und]; cases u <;> cases this <;> exact ⟨_, _, _, rfl⟩
theorem TDok.ustruct (h : TDok P t d i u z) (he : d.tag = .struct) : ∃ fs, P.underlying t = some (.struct fs) ∧ fs.toList.mapM (fld P) = some d.flds := by
  have := h.tag; have h2 := h.fl; rw [he] at this; rw [h.und]; cases u <;> cases this <;> exact ⟨_, rfl, h2⟩
theorem zPV_rep {S : CS} {w : World} {v : Value} {p : PV} (h : zPV v = some p) : RepP S w v p := by
  unfold zPV at h
  split at h
  · cases h; exact .nilS
  · split at h
    · rename_i hp; cases h; exact .lit _ hp
    · cases h
theorem mapM_at {α β : Type} {f : α → Option β} : ∀ {l : List α} {r : List β}, l.mapM f = some r → l.length = r.length ∧ ∀ (i : Nat) y, r[i]? = some y → ∃ x, l[i]? = some x ∧ f x = some y
  | [], r, h => by simp at h; subst h; exact ⟨rfl, fun i y hy => by simp at hy⟩
  | x :: l, r, h => by
    simp only [List.mapM_cons, Option.bind_eq_bind, Option.pure_def] at h
    cases hx : f x with
    | none => simp [hx] at h
    | some y =>
      cases hl : l.mapM f with
      | none => simp [hx, hl] at h
      | some r' =>
        simp [hx, hl] at h
        subst h
        obtain ⟨h1, h2⟩ := mapM_at hl
        refine ⟨by simp [h1], fun i z hz => ?_⟩
        cases i with
        | zero => simp at hz; subst hz; exact ⟨x, rfl, hx⟩
        | succ i => simp at hz; simpa using h2 i z hz
theorem TDok.rep (h : TDok P t d i u z) (γ : Nat → G) (S : CS) (w : World) : RepCs γ S w z.cells.toList (d.zero.map .pv) := by
  obtain ⟨h1, h2⟩ := mapM_at h.zs
  refine ⟨by rw [h1, List.length_map], fun i c hc => ?_⟩
  rw [List.getElem?_map] at hc
  obtain ⟨p, hp, rfl⟩ := Option.map_eq_some_iff.1 hc
  obtain ⟨x, hx, hz⟩ := h2 i p hp
  exact ⟨x, hx, zPV_rep hz⟩
theorem TDok.zsize (h : TDok P t d i u z) : z.cells.size = d.sz := by
  rw [← Array.length_toList, (mapM_at h.zs).1, h.len]
end

/-! Operands -/
def constAV (v : Value) : AV :=
  if plain v = true then .v (.c (.pv (.lit v))) else
  match v with
  | .slice none 0 0 => .v (.c (.pv .nilS))
  | .func f a b => if a.size = 0 ∧ b.size = 0 then .v (.c (.fn f [] [])) else .top
  | .agg cs => match cs.toList.mapM zPV with
    | some l => .v (.agg (l.map .pv))
    | none => .top
  | _ => .top
def evA (T : Nat → AV) : Operand → AV
  | .tmp t => T t
  | .const v => constAV v
  | .func f => .v (.c (.fn (.func f) [] []))
  | .global _ => .top
theorem constAV_rep (γ : Nat → G) (S : CS) (w : World) (v : Value) : RepV γ S w v (constAV v) := by
  unfold constAV
  by_cases h : plain v = true
  · rw [if_pos h]; exact RepP.lit v h
  · rw [if_neg h]
    cases v with
    | slice a n c =>
      try dsimp only
      split
      · rename_i heq; cases heq; exact RepP.nilS
      · rename_i heq; cases heq
      · rename_i heq; cases heq
      · trivial
    | func f xs ys =>
      try dsimp only
      split
      · rename_i hab
        exact ⟨xs, ys, rfl, ⟨by simpa using hab.1, fun i c h => by simp at h⟩, ⟨by simpa using hab.2, fun i c h => by simp at h⟩⟩
      · trivial
    | agg cs =>
      try dsimp only
      split
      · rename_i l hl
        obtain ⟨h1, h2⟩ := mapM_at hl
        refine ⟨cs, rfl, by rw [h1, List.length_map], fun i c hc => ?_⟩
        rw [List.getElem?_map] at hc
        obtain ⟨p, hp, rfl⟩ := Option.map_eq_some_iff.1 hc
        obtain ⟨x, hx, hz⟩ := h2 i p hp
        exact ⟨x, hx, zPV_rep hz⟩
      · trivial
    | _ => trivial
theorem evA_rep {γ : Nat → G} {S : CS} {w : World} {a : Act} {T : Nat → AV} (h : ∀ t, RepV γ S w (a.tmps.getD t undef) (T t)) (x : Operand) : RepV γ S w (a.eval x) (evA T x) := by
  cases x with
  | tmp t => exact h t
  | const v => exact constAV_rep γ S w v
  | func f => exact ⟨#[], #[], rfl, ⟨rfl, fun i c h => by simp at h⟩, ⟨rfl, fun i c h => by simp at h⟩⟩
  | global g => trivial

/-! Lists of cells -/
theorem getElem?_lift {α β : Type} {l : List α} {r : List β} (hlen : l.length = r.length) {i : Nat} {x : α} (h : l[i]? = some x) : ∃ y, r[i]? = some y := by
  have := (List.getElem?_eq_some_iff.1 h).1
  exact ⟨r[i]'(by omega), List.getElem?_eq_getElem _⟩
theorem RepCs.seg {γ : Nat → G} {S : CS} {w : World} {vs : List Value} {l : List AC} (h : RepCs γ S w vs l) (o n : Nat) : RepCs γ S w ((vs.drop o).take n) ((l.drop o).take n) := by
  refine ⟨by simp [h.1], fun i c hc => ?_⟩
  rw [List.getElem?_take] at hc ⊢
  by_cases hi : i < n
  · rw [if_pos hi, List.getElem?_drop] at hc
    obtain ⟨v, h1, h2⟩ := h.2 _ c hc
    exact ⟨v, by rw [if_pos hi, List.getElem?_drop]; exact h1, h2⟩
  · rw [if_neg hi] at hc; cases hc

/-! What is read -/
def vload (d : TD) (a : AV) (H : Nat → Option AO) : Option (AV × List Nat) :=
  match a with
  | .v (.c (.ptr id off)) =>
    match H id with
    | some (.box cells) => if d.agg = true then (if off + d.sz ≤ cells.length then some (.v (.agg ((cells.drop off).take d.sz)), [id]) else none) else (cells[off]?).map fun c => (.v (.c c), [id])
    | _ => none
  | .rp cells off => if d.agg = true then (if off + d.sz ≤ cells.length then some (.v (.agg (((cells.drop off).take d.sz).map .pv)), []) else none) else (cells[off]?).map fun p => (.v (.c (.pv p)), [])
  | .ep id es' i off =>
    match H id with
    | some (.arr _ es l) =>
      match (if es' = es then l[i]? else none) with
      | some el => if d.agg = true then (if off + d.sz ≤ el.length then some (.v (.agg (((el.drop off).take d.sz).map .pv)), [id]) else none) else (el[off]?).map fun p => (.v (.c (.pv p)), [id])
      | none => none
    | _ => none
  | _ => none

section
variable {P : Program} {γ : Nat → G} {S : CS} {w : World}
theorem addr_add (b o j : Nat) : (⟨b, o, none⟩ : Addr).add j = ⟨b, o + j, none⟩ := by unfold Addr.add; split <;> simp_all
/-- Cells read one behind the other. -/
theorem run_loadVar_cells {t : TypeId} {d : TD} {i : TypeInfo} {u : TypeDesc} {z : Value} (h : TDok P t d i u z) (hd : d.agg = true) (b o : Nat) (cs : List Value) (hn : cs.length = d.sz) (hc : ∀ (j : Nat) v, cs[j]? = some v → w.cell? ⟨b, o + j, none⟩ = some v) :
    (loadVar t ⟨b, o, none⟩).run P w = .ok (.agg cs.toArray) w := by
  have hl := run_loadCells_list (P := P) w ⟨b, o, none⟩ cs (fun j v hv => by rw [addr_add]; exact hc j v hv)
  unfold loadVar
  simp only [Sem.run_bind, h.isAgg, Result.andThen_ok, hd, if_true, h.sizeOf, ← hn, hl, Sem.run_pure]
theorem run_loadVar_cell {t : TypeId} {d : TD} {i : TypeInfo} {u : TypeDesc} {z : Value} (h : TDok P t d i u z) (hd : d.agg = false) (b o : Nat) (v : Value) (hc : w.cell? ⟨b, o, none⟩ = some v) :
    (loadVar t ⟨b, o, none⟩).run P w = .ok v w := by
  unfold loadVar
  simp only [Sem.run_bind, h.isAgg, Result.andThen_ok, hd, Bool.false_eq_true, if_false, run_load, hc]

theorem RepPs_list {S : CS} {w : World} (b o : Nat) (cells : List PV) (h : ∀ j p, cells[j]? = some p → ∃ u, w.cell? ⟨b, o + j, none⟩ = some u ∧ RepP S w u p) : ∃ cs : List Value, cs.length = cells.length ∧ (∀ (j : Nat) v, cs[j]? = some v → w.cell? ⟨b, o + j, none⟩ = some v) ∧ ∀ (j : Nat) p, cells[j]? = some p → ∃ v, cs[j]? = some v ∧ RepP S w v p := by
  induction cells generalizing o with
  | nil => exact ⟨[], rfl, fun j v h => by simp at h, fun j p h => by simp at h⟩
  | cons p cells ih =>
    obtain ⟨cs, h1, h2, h3⟩ := ih (o + 1) (fun j p hj => by have := h (j + 1) p (by simpa using hj); rwa [show o + (j + 1) = o + 1 + j by omega] at this)
    obtain ⟨u, hu, hp⟩ := h 0 p rfl
    refine ⟨u :: cs, by simp [h1], fun j v hv => ?_, fun j q hq => ?_⟩
    · cases j with
      | zero => simp at hv; subst hv; exact hu
      | succ j => simp at hv; have := h2 j v hv; rwa [show o + (j + 1) = o + 1 + j by omega]
    · cases j with
      | zero => simp at hq; subst hq; exact ⟨u, rfl, hp⟩
      | succ j => simp at hq; simpa using h3 j q hq
theorem RepPs_agg {cs : List Value} {cells : List PV} (hl : cs.length = cells.length) (h : ∀ (j : Nat) p, cells[j]? = some p → ∃ v, cs[j]? = some v ∧ RepP S w v p) : RepT γ S w (.agg cs.toArray) (.agg (cells.map .pv)) := by
  refine ⟨_, rfl, by simpa using hl, fun i c hc => ?_⟩
  rw [List.getElem?_map] at hc
  obtain ⟨p, hp, rfl⟩ := Option.map_eq_some_iff.1 hc
  obtain ⟨v, h1, h2⟩ := h i p hp
  exact ⟨v, by simpa using h1, h2⟩
theorem seg_at {α : Type} {l : List α} {o n j : Nat} {x : α} (h : ((l.drop o).take n)[j]? = some x) : l[o + j]? = some x := by
  rw [List.getElem?_take] at h
  split at h
  · rwa [List.getElem?_drop] at h
  · cases h

theorem cell_row {w : World} {b j : Nat} {cs : Array Value} {t : TypeId} {fr : Nat × Nat} (h : w.heap[b]? = some (.cells cs t fr)) : w.cell? ⟨b, j, none⟩ = cs.toList[j]? := by
  rw [cell_of_row w b j cs t fr h]; simp

theorem vload_sound {t : TypeId} {d : TD} (hd : td P t = some d) {a : AV} {H : Nat → Option AO} {v : AV} {F : List Nat} (h : vload d a H = some (v, F)) (hob : ∀ x o, H x = some o → Obj' γ S w x o) {x : Value} (hx : RepV γ S w x a) :
    ∃ u, (Instr.loadAt t x).run P w = .ok u w ∧ RepV γ S w u v := by
  obtain ⟨i, ud, z, T⟩ := td_ok hd
  have run1 : ∀ b o, (Instr.loadAt t (.pointer (some ⟨b, o, none⟩))).run P w = (loadVar t ⟨b, o, none⟩).run P w := fun b o => by simp [Instr.loadAt, Instr.sureAddr]
  -- a run of pure cells
  have pure : ∀ (b o off : Nat) (cells : List PV) (R : AV × List Nat), (∀ j p, cells[j]? = some p → ∃ u, w.cell? ⟨b, o + j, none⟩ = some u ∧ RepP S w u p) →
      (if d.agg = true then (if off + d.sz ≤ cells.length then some (AV.v (.agg (((cells.drop off).take d.sz).map .pv)), F) else none) else (cells[off]?).map fun p => (AV.v (.c (.pv p)), F)) = some (v, F) →
      ∃ u, (loadVar t ⟨b, o + off, none⟩).run P w = .ok u w ∧ RepV γ S w u v := fun b o off cells R hc hh => by
    split at hh
    · rename_i hag
      split at hh
      · rename_i hle
        simp only [Option.some.injEq, Prod.mk.injEq, and_true] at hh
        subst hh
        obtain ⟨cs, k1, k2, k3⟩ := RepPs_list b (o + off) ((cells.drop off).take d.sz) (fun j p hj => by have := hc (off + j) p (seg_at hj); rwa [← Nat.add_assoc] at this)
        refine ⟨_, run_loadVar_cells T hag b (o + off) cs ?_ k2, RepPs_agg k1 k3⟩
        rw [k1, List.length_take, List.length_drop]; omega
      · cases hh
    · rename_i hag
      obtain ⟨p, hp, hh⟩ := Option.map_eq_some_iff.1 hh
      simp only [Prod.mk.injEq, and_true] at hh
      subst hh
      obtain ⟨u, k1, k2⟩ := hc off p hp
      exact ⟨u, run_loadVar_cell T (by simpa using hag) b _ u k1, k2⟩
  unfold vload at h
  split at h
  · rename_i id off
    obtain ⟨b, hb, rfl⟩ := hx
    split at h
    · rename_i cells hH
      obtain ⟨b', cs, tt, g1, g2, g3, _⟩ := hob _ _ hH
      rw [g1] at hb; cases hb
      rw [run1]
      split at h
      · rename_i hag
        split at h
        · rename_i hle
          simp only [Option.some.injEq, Prod.mk.injEq] at h
          obtain ⟨rfl, rfl⟩ := h
          have k := g3.seg off d.sz
          refine ⟨_, run_loadVar_cells T hag b off ((cs.toList.drop off).take d.sz) ?_ (fun j v hv => ?_), ⟨_, rfl, by simpa using k⟩⟩
          · rw [List.length_take, List.length_drop, g3.1]; omega
          · rw [cell_row g2]; exact seg_at hv
        · cases h
      · rename_i hag
        obtain ⟨c, hc, hh⟩ := Option.map_eq_some_iff.1 h
        simp only [Prod.mk.injEq] at hh
        obtain ⟨rfl, rfl⟩ := hh
        obtain ⟨v, k1, k2⟩ := g3.2 off c hc
        exact ⟨v, run_loadVar_cell T (by simpa using hag) b off v (by rw [cell_row g2]; exact k1), k2⟩
    · cases h
  · rename_i cells off
    obtain ⟨b, o, rfl, hc⟩ := hx
    rw [run1]
    have hF : F = [] := by
      split at h
      · split at h
        · simp only [Option.some.injEq, Prod.mk.injEq] at h; exact h.2.symm
        · cases h
      · obtain ⟨c, hc, hh⟩ := Option.map_eq_some_iff.1 h
        simp only [Prod.mk.injEq] at hh; exact hh.2.symm
    subst hF
    exact pure b o off cells (v, []) (fun j p hj => (hc j p hj).2) h
  · rename_i id es' k off
    split at h
    · rename_i e es l hH
      obtain ⟨v0, xs, g1, g2, g3, g4, _⟩ := hob _ _ hH
      split at h
      · rename_i el hel
        split at hel
        · rename_i hes
          subst hes
          obtain ⟨b, rfl, hx⟩ := hx
          rcases hx with hx | ⟨n, c, hx⟩
          · rw [g1] at hx; cases hx
          · rw [g1] at hx; cases hx
            have hF : F = [id] := by
              split at h
              · split at h
                · simp only [Option.some.injEq, Prod.mk.injEq] at h; exact h.2.symm
                · cases h
              · obtain ⟨c, hc, hh⟩ := Option.map_eq_some_iff.1 h
                simp only [Prod.mk.injEq] at hh; exact hh.2.symm
            subst hF
            rw [run1]
            refine pure b (k * es') off el (v, []) (fun j p hj => ?_) h
            obtain ⟨u, k1, k2⟩ := g3 k el j p hel hj
            refine ⟨u, ?_, k2⟩
            have := g2.cells (g := b) rfl (k * es' + j) u k1
            rwa [addr_add, Nat.zero_add] at this
        · cases hel
      · cases h
    · cases h
  · cases h
end
end Go.Proofs.Ythifckknijdgfaa.am
