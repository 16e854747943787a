/-
  A machine of values: what is handed to a law, by content; a law's call out of its row. No program is named here.
-/
import Derived.Test.YtlkggpjdaaglmaaDoorAmB
import Derived.Test.YtlkggpjdaaglmaaDoorStructs
import Derived.ChangeOld
import Derived.OpenShut
import Derived.Below
namespace Go.Proofs.YtlkggpjdaaglmaaDoor.am
open Go.ChangeShapes Go.WideShapes Go.ChangeAt Go.RowKit
set_option linter.unusedVariables false
set_option linter.unusedSimpArgs false

/-- All that is there is kept. -/
def oldS (w : World) : CS := fun b _ => b < w.heap.size

/-- Are cells what a type says? -/
def Ty (P : Program) : Nat → TypeId → List PV → Prop
  | 0, _, _ => False
  | n + 1, t, ps =>
    match P.underlying t with
    | some .bool => ∃ b, ps = [.lit (.bool b)]
    | some (.int k) => ∃ z, ps = [.lit (.int k z)] ∧ (Lit.int k z).wf = true
    | some .string => ∃ s : ByteArray, ps = [.lit (.string s)] ∧ s.size ≤ maxLen
    | some (.slice e) => ∃ l : List (List PV), ps = [.sl (P.cellsOf e) l] ∧ l.length ≤ maxLen ∧ ∀ x ∈ l, Ty P n e x
    | some (.struct fs) => ps.length = P.cellsOf t ∧ ∀ f ∈ fs.toList, Ty P n f.type ((ps.drop f.offset).take (P.cellsOf f.type))
    | _ => False

def contig (P : Program) : Nat → List Field → Nat → Bool
  | off, [], tot => decide (off = tot)
  | off, f :: fs, tot => decide (f.offset = off) && contig P (off + P.cellsOf f.type) fs tot
/-- Is a type made of types of a list alone? -/
def okTy (P : Program) (cl : List TypeId) (t : TypeId) : Bool :=
  match P.underlying t with
  | some .bool => true
  | some (.int _) => true
  | some .string => true
  | some (.slice e) => cl.contains e && decide (0 < P.cellsOf e)
  | some (.struct fs) => (fs.toList.all fun f => cl.contains f.type) && contig P 0 fs.toList (P.cellsOf t)
  | _ => false

section
variable {P : Program} {S : CS} {w : World}
theorem RepPs.take {vs : List Value} {l : List PV} (h : RepPs S w vs l) (n : Nat) : RepPs S w (vs.take n) (l.take n) := by
  have := (RepPs.cs (γ := fun _ => .un)).1 h
  refine (RepPs.cs (γ := fun _ => .un)).2 ?_
  rw [List.map_take]; exact RepCs.take this n
/-- A struct's fields, one behind the other. -/
theorem fields_rep {n : Nat} {cs : List Value} : ∀ (fs : List Field) (off tot : Nat) (ps0 : List PV), RepPs S w (cs.take off) ps0 → ps0.length = off → off ≤ cs.length → contig P off fs tot = true → tot = cs.length →
    (∀ f ∈ fs, ∃ q, RepPs S w ((cs.drop f.offset).take (P.cellsOf f.type)) q ∧ Ty P n f.type q) →
    ∃ ps, RepPs S w cs ps ∧ ps.take off = ps0 ∧ ∀ f ∈ fs, off ≤ f.offset ∧ Ty P n f.type ((ps.drop f.offset).take (P.cellsOf f.type))
  | [], off, tot, ps0, h0, hl, hle, hc, ht, _ => by
    have : off = tot := by simpa [contig] using hc
    subst this
    subst ht
    rw [List.take_length] at h0
    exact ⟨ps0, h0, by rw [← hl, List.take_length], fun f hf => by simp at hf⟩
  | f :: fs, off, tot, ps0, h0, hl, hle, hc, ht, hf => by
    unfold contig at hc
    rw [Bool.and_eq_true] at hc
    have hoff : f.offset = off := of_decide_eq_true hc.1
    obtain ⟨q, hq, hty⟩ := hf f (by simp)
    rw [hoff] at hq
    obtain ⟨sz, hsz⟩ : ∃ sz, P.cellsOf f.type = sz := ⟨_, rfl⟩
    rw [hsz] at hq hc
    have hend : off + sz ≤ cs.length := by
      have key : ∀ (fs : List Field) (o : Nat), contig P o fs tot = true → o ≤ tot := fun fs => by
        induction fs with
        | nil => intro o h; have : o = tot := by simpa [contig] using h
                 omega
        | cons g gs ih => intro o h; unfold contig at h; rw [Bool.and_eq_true] at h; have := ih _ h.2; omega
      have := key fs _ hc.2
      omega
    have hql : q.length = sz := by rw [← hq.1, List.length_take, List.length_drop]; omega
    have h1 : RepPs S w (cs.take (off + sz)) (ps0 ++ q) := by
      rw [List.take_add]; exact h0.append hq
    obtain ⟨ps, k1, k2, k3⟩ := fields_rep fs (off + sz) tot (ps0 ++ q) h1 (by rw [List.length_append, hl, hql]) hend hc.2 ht (fun g hg => hf g (by simp [hg]))
    refine ⟨ps, k1, ?_, fun g hg => ?_⟩
    · have : (ps.take (off + sz)).take off = (ps0 ++ q).take off := by rw [k2]
      rw [List.take_take, Nat.min_eq_left (by omega)] at this
      rw [this, ← hl, List.take_left']; rfl
    · rcases List.mem_cons.1 hg with rfl | hg
      · refine ⟨by omega, ?_⟩
        rw [hoff, hsz]
        have : (ps.take (off + sz)).drop off = (ps0 ++ q).drop off := by rw [k2]
        rw [List.drop_take, Nat.add_sub_cancel_left] at this
        rw [this, ← hl, List.drop_left']; · exact hty
        rfl
      · have := k3 g hg; exact ⟨by omega, this.2⟩

theorem trod_rep {H : Type} {enc : TypeId × Value → H} {cl : List TypeId} (hcl : cl.all (okTy P cl) = true) : ∀ (n : Nat) (t : TypeId) (cs : List Value) (y : DataW H × List MemPlace), t ∈ cl → DataW.trod enc P w 0 (fun _ => true) true n t cs = some y → ∃ ps, RepPs (oldS w) w cs ps ∧ Ty P n t ps := by
  intro n
  induction n with
  | zero => intro t cs y _ h; simp [DataW.trod] at h
  | succ n ih =>
    intro t cs y ht h
    have hok := List.all_eq_true.1 hcl t ht
    have one : ∀ {v : Value} {p : PV}, RepP (oldS w) w v p → RepPs (oldS w) w [v] [p] := fun {v p} hp => ⟨rfl, fun i c hc => by
      cases i with
      | zero => simp at hc; subst hc; exact ⟨v, rfl, hp⟩
      | succ i => simp at hc⟩
    unfold okTy at hok
    cases hu : P.underlying t with
    | none => rw [hu] at hok; cases hok
    | some u =>
      rw [hu] at hok
      unfold Ty
      rw [hu]
      cases u with
      | bool =>
        obtain ⟨b, rfl, _⟩ := DataW.trod_bool hu h
        exact ⟨_, one (.lit _ rfl), b, rfl⟩
      | int k =>
        obtain ⟨z, rfl, _, hz⟩ := DataW.trod_int hu h
        exact ⟨_, one (.lit _ rfl), z, rfl, hz⟩
      | string =>
        obtain ⟨s, rfl, _, hs⟩ := DataW.trod_string hu h
        exact ⟨_, one (.lit _ rfl), s, rfl, hs⟩
      | slice e =>
        dsimp only at hok
        rw [Bool.and_eq_true] at hok
        have he : e ∈ cl := by simpa using hok.1
        have hpos : 0 < P.cellsOf e := of_decide_eq_true hok.2
        rcases DataW.trod_slice hu h with ⟨rfl, _⟩ | ⟨x, len, cap, elems, rest, m, hmf, rfl, hd, _, hl, hm, hlen, hele, hsp, _⟩
        · exact ⟨_, one (.emp none 0 (P.cellsOf e) (by omega) (fun _ => rfl)), [], rfl, Nat.zero_le _, fun x hx => by simp at hx⟩
        · have hmn : m = n := by omega
          subst hmn
          rcases Nat.eq_zero_or_pos len with h0 | hn
          · subst h0
            exact ⟨_, one (.emp (some x) cap (P.cellsOf e) (by unfold maxLen at hm; omega) (fun h => by cases h)), [], rfl, Nat.zero_le _, fun x hx => by simp at hx⟩
          · obtain ⟨b, off, spot⟩ := x
            obtain ⟨sz, hsz⟩ : ∃ sz, P.cellsOf e = sz := ⟨_, rfl⟩
            rw [hsz] at hpos hele
            show ∃ ps, RepPs (oldS w) w [Value.slice (some ⟨b, off, spot⟩) len cap] ps ∧ ∃ l : List (List PV), ps = [.sl (P.cellsOf e) l] ∧ l.length ≤ maxLen ∧ ∀ x ∈ l, Ty P m e x
            rw [hsz]
            have each : ∀ i, i < len → ∃ cs y, w.cells? 0 ((⟨b, off, spot⟩ : Addr).add (i * sz)) sz = some cs ∧ DataW.trod enc P w 0 (fun _ => true) true m e cs = some y := by
              intro i hi
              have := hele i hi
              have hs : ∃ y, elems[i]? = some y := ⟨elems[i], List.getElem?_eq_getElem (by omega)⟩
              obtain ⟨y, hy⟩ := hs
              rw [hy] at this
              obtain ⟨cs, h1, h2⟩ := Option.bind_eq_some_iff.1 this
              exact ⟨cs, y, h1, h2⟩
            obtain ⟨cs0, y0, k0, _⟩ := each 0 hn
            have c0 := (World.cells?_some k0)
            have hspot : spot = none := by
              have h1 := c0.2.2 0 hpos
              have hlt : (0 : Nat) < cs0.length := by have := c0.2.1; omega
              rw [List.getElem?_eq_getElem hlt] at h1
              simpa [Addr.add] using World.cell?_spot h1
            subst hspot
            have hblk : b < w.heap.size := by
              have := World.cells?_block k0 hpos
              simpa [addr_add] using this
            obtain ⟨L, hL, hq⟩ := bs.choose_list len (fun i (x : List Value × List PV) => x.1.length = sz ∧ (∀ j, j < sz → w.cell? ⟨b, off + i * sz + j, none⟩ = x.1[j]?) ∧ RepPs (oldS w) w x.1 x.2 ∧ Ty P m e x.2) (fun i hi => by
              obtain ⟨cs, y, k1, k2⟩ := each i hi
              have k3 := World.cells?_some k1
              rw [addr_add] at k3
              obtain ⟨ps, p1, p2⟩ := ih e cs y he k2
              refine ⟨(cs, ps), k3.2.1, fun j hj => ?_, p1, p2⟩
              have := k3.2.2 j hj
              rwa [addr_add] at this)
            have at' : ∀ i e', (L.map (·.2))[i]? = some e' → ∃ x : List Value × List PV, L[i]? = some x ∧ e' = x.2 := fun i e' h => by
              rw [List.getElem?_map] at h
              obtain ⟨x, h1, h2⟩ := Option.map_eq_some_iff.1 h
              exact ⟨x, h1, h2.symm⟩
            refine ⟨_, one (.sl b off len cap sz (L.map (·.2)) (by rw [List.length_map, hL]) hn hl (by unfold maxLen at hm; omega) (fun e' he' => ?_)
              (fun i j => ((L[i]?).bind (fun x => x.1[j]?)).getD undef) (fun i e' j p h1 h2 => ?_) (fun i e' j p h1 h2 => ?_)), L.map (·.2), rfl, by rw [List.length_map, hL]; omega, fun x hx => ?_⟩
            · obtain ⟨i, hi⟩ := List.mem_iff_getElem?.1 he'
              obtain ⟨x, hx, rfl⟩ := at' i e' hi
              have := hq i x hx
              rw [← this.2.2.1.1, this.1]
            · obtain ⟨x, hx, rfl⟩ := at' i e' h1
              have := hq i x hx
              have hj : j < sz := by have := (List.getElem?_eq_some_iff.1 h2).1; rw [← (hq i x hx).2.2.1.1, (hq i x hx).1] at this; exact this
              refine ⟨hblk, ?_⟩
              rw [this.2.1 j hj, hx]
              obtain ⟨v, hv, _⟩ := this.2.2.1.2 j p h2
              rw [hv]; simp [hv]
            · obtain ⟨x, hx, rfl⟩ := at' i e' h1
              obtain ⟨v, hv, hr⟩ := (hq i x hx).2.2.1.2 j p h2
              rw [hx]; simp [hv]; exact hr
            · obtain ⟨i, hi⟩ := List.mem_iff_getElem?.1 hx
              obtain ⟨z, hz, rfl⟩ := at' i x hi
              exact (hq i z hz).2.2.2
      | struct fs =>
        dsimp only at hok
        rw [Bool.and_eq_true] at hok
        obtain ⟨xs, m, hmf, _, hcl', hxl, hg⟩ := DataW.trod_struct hu h
        have hmn : m = n := by omega
        subst hmn
        obtain ⟨ps, k1, _, k3⟩ := fields_rep (P := P) (S := oldS w) (w := w) (n := m) (cs := cs) fs.toList 0 (P.cellsOf t) [] ⟨by simp, fun i c h => by simp at h⟩ rfl (Nat.zero_le _) hok.2 hcl'.symm (fun f hf => by
          obtain ⟨i, hi⟩ := List.mem_iff_getElem?.1 hf
          have hi' : fs[i]? = some f := by simpa using hi
          have h1 := hg i f hi'
          have hlt : i < xs.length := by
            have := (Array.getElem?_eq_some_iff.1 hi').1
            omega
          rw [List.getElem?_eq_getElem hlt] at h1
          exact ih f.type _ _ (by have := List.all_eq_true.1 hok.1 f hf; simpa using this) h1)
        exact ⟨ps, k1, by rw [← k1.1, hcl'], fun f hf => (k3 f hf).2⟩
      | _ => cases hok
/-- A value of one cell. -/
theorem open_cell {H : Type} {enc : TypeId × Value → H} {cl : List TypeId} {t : TypeId} {v : Value} {d : DataW H} {p : List MemPlace} (hcl : cl.all (okTy P cl) = true) (ht : t ∈ cl) (h1 : v.oneCell' = true) (h : DataW.Trod enc P w 0 (fun _ => true) true t v d p) : ∃ n q, RepV (fun _ => .un) (oldS w) w v (.v (.c (.pv q))) ∧ Ty P n t [q] := by
  obtain ⟨n, h⟩ := h
  have e : v.cells.toList = [v] := by cases v <;> simp_all [Value.oneCell', Value.cells]
  rw [e] at h
  obtain ⟨ps, k1, k2⟩ := trod_rep hcl n t _ _ ht h
  match ps, k1, k2 with
  | [q], k1, k2 =>
    obtain ⟨u, hu, hr⟩ := k1.2 0 q rfl
    simp at hu; subst hu
    exact ⟨n, q, hr, k2⟩
  | [], k1, _ => have := k1.1; simp at this
  | _ :: _ :: _, k1, _ => have := k1.1; simp at this
/-- A struct. -/
theorem open_agg {H : Type} {enc : TypeId × Value → H} {cl : List TypeId} {t : TypeId} {cs : Array Value} {d : DataW H} {p : List MemPlace} (hcl : cl.all (okTy P cl) = true) (ht : t ∈ cl) (h : DataW.Trod enc P w 0 (fun _ => true) true t (.agg cs) d p) : ∃ n ps, RepV (fun _ => .un) (oldS w) w (.agg cs) (.v (.agg (ps.map .pv))) ∧ Ty P n t ps := by
  obtain ⟨n, h⟩ := h
  obtain ⟨ps, k1, k2⟩ := trod_rep hcl n t _ _ ht h
  exact ⟨n, ps, ⟨cs, rfl, RepPs.cs.1 k1⟩, k2⟩
/-- A slice, its elements read. -/
theorem ty_slice {α : Type} {f : α → List PV} {Q : α → Prop} {t e : TypeId} (hu : P.underlying t = some (.slice e)) (hel : ∀ n x, Ty P n e x → ∃ a, x = f a ∧ Q a) {n : Nat} {ps : List PV} (h : Ty P n t ps) : ∃ L : List α, ps = [.sl (P.cellsOf e) (L.map f)] ∧ L.length ≤ maxLen ∧ ∀ a ∈ L, Q a := by
  cases n with
  | zero => exact h.elim
  | succ n =>
    unfold Ty at h
    rw [hu] at h
    obtain ⟨l, e3, hm, hl⟩ := h
    obtain ⟨L, hL, hq⟩ := bs.choose_list l.length (fun i (x : α) => l[i]? = some (f x) ∧ Q x) (fun i hi => by
      obtain ⟨x, h1, h2⟩ := hel n (l[i]'hi) (hl _ (List.getElem_mem hi))
      exact ⟨x, by rw [List.getElem?_eq_getElem hi, h1], h2⟩)
    have hlm : l = L.map f := by
      apply List.ext_getElem?
      intro i
      rw [List.getElem?_map]
      by_cases hi : i < L.length
      · have := hq i _ (List.getElem?_eq_getElem hi)
        rw [this.1, List.getElem?_eq_getElem hi]; rfl
      · rw [List.getElem?_eq_none (by omega), List.getElem?_eq_none (by omega)]; rfl
    refine ⟨L, by rw [e3, hlm], by rw [hL]; exact hm, fun a ha => ?_⟩
    obtain ⟨i, hi⟩ := List.mem_iff_getElem?.1 ha
    exact (hq i a hi).2
/-- A law's call. -/
theorem calls_of_row {f : FuncId} {args : List AV} {vs : List Value} (h : Row P f args [] (.v (.c (.pv (.lit (.bool true))))) []) (hv : RepVs (fun _ => .un) (oldS w) w vs args) : Calls P f vs.toArray w fun e w' => e = .returned (.bool true) ∧ Below w.heap.size w w' := by
  have hm : Mem ⟨w, oldS w, fun _ => .un, []⟩ (fun x => ([] : List AO)[x]?) (fun x => ([] : List AO).length ≤ x) (fun _ => .un) (oldS w) w :=
    ⟨rfl, rfl, rfl, Nat.le_refl _, fun _ _ _ => rfl, fun _ _ h => ⟨h, rfl⟩, fun _ _ h => .inl h, fun _ _ h => h, GOn.refl _, fun _ _ => rfl, fun _ _ => .inl rfl, fun x o h => by simp at h, fun x y _ b h _ => by simp [G.bk] at h, fun x b h => by simp [G.bk] at h⟩
  refine (h.spec _ _ w vs hm hv).mono ?_
  rintro e w' ⟨v, γ', S', rfl, m, hr⟩
  obtain ⟨rfl, _⟩ := lit_inv hr
  exact ⟨rfl, m.os, m.tape, m.output, m.size, fun b hb => m.frame b hb (fun x h => by simp [G.bk] at h)⟩
end
end Go.Proofs.YtlkggpjdaaglmaaDoor.am
