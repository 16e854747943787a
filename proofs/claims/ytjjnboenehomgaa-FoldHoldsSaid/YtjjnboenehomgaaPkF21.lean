import Derived.ChangeOld
import Derived.OpenShut
import Derived.Below
import Derived.Test.YtjjnboenehomgaaPkF3
import Derived.Test.YtjjnboenehomgaaPkF2
import Derived.Test.YtjjnboenehomgaaPkF17
import Derived.Test.YtjjnboenehomgaaPkF4
import Derived.Test.YtjjnboenehomgaaPkF20
import Derived.Test.YtjjnboenehomgaaPkF6
section
namespace Go.Proofs.Ytjjnboenehomgaa.am
open Go.ChangeShapes Go.WideShapes Go.ChangeAt Go.RowKit
set_option linter.unusedVariables false
set_option linter.unusedSimpArgs false
def oldS (w : World) : CS := fun b _ => b < w.heap.size
def Ty (P : Program) : Nat → TypeId → List PV → Prop
  | 0, _, _ => False
  | n + 1, t, ps =>
    match P.underlying t with
    | some .bool => ∃ b, ps = [.lit (.bool b)]
    | some (.int k) => ∃ z, ps = [.lit (.int k z)] ∧ (Lit.int k z).wf = true
    | some .string => ∃ s : ByteArray, ps = [.lit (.string s)] ∧ s.size ≤ maxLen
    | some (.slice e) => ∃ l : List (List PV), ps = [.sl (P.cellsOf e) l] ∧ l.length ≤ maxLen ∧ ∀ x ∈ l, Ty P n e x
    | some (.struct fs) => ps.length = P.cellsOf t ∧ ∀ f ∈ fs.toList, Ty P n f.type ((ps.drop f.offset).take (P.cellsOf f.type))
    | _ => False
def contig (P : Program) : Nat → List Field → Nat → Bool
  | off, [], tot => decide (off = tot)
  | off, f :: fs, tot => decide (f.offset = off) && contig P (off + P.cellsOf f.type) fs tot
def okTy (P : Program) (cl : List TypeId) (t : TypeId) : Bool :=
  match P.underlying t with
  | some .bool => true
  | some (.int _) => true
  | some .string => true
  | some (.slice e) => cl.contains e && decide (0 < P.cellsOf e)
  | some (.struct fs) => (fs.toList.all fun f => cl.contains f.type) && contig P 0 fs.toList (P.cellsOf t)
  | _ => false
section
variable {P : Program} {S : CS} {w : World}
theorem RepPs.take {vs : List Value} {l : List PV} (h : RepPs S w vs l) (n : Nat) : RepPs S w (vs.take n) (l.take n) := by
  have := (RepPs.cs (γ := fun _ => .un)).1 h
  refine (RepPs.cs (γ := fun _ => .un)).2 ?_
  rw [List.map_take]; exact RepCs.take this n
theorem fields_rep {n : Nat} {cs : List Value} : ∀ (fs : List Field) (off tot : Nat) (ps0 : List PV), RepPs S w (cs.take off) ps0 → ps0.length = off → off ≤ cs.length → contig P off fs tot = true → tot = cs.length →
    (∀ f ∈ fs, ∃ q, RepPs S w ((cs.drop f.offset).take (P.cellsOf f.type)) q ∧ Ty P n f.type q) →
    ∃ ps, RepPs S w cs ps ∧ ps.take off = ps0 ∧ ∀ f ∈ fs, off ≤ f.offset ∧ Ty P n f.type ((ps.drop f.offset).take (P.cellsOf f.type))
  | [], off, tot, ps0, h0, hl, hle, hc, ht, _ => by
    have : off = tot := by simpa [contig] using hc
    subst this
    subst ht
    rw [List.take_length] at h0
    exact ⟨ps0, h0, by rw [← hl, List.take_length], fun f hf => by simp at hf⟩
  | f :: fs, off, tot, ps0, h0, hl, hle, hc, ht, hf => by
    unfold contig at hc
    rw [Bool.and_eq_true] at hc
    have hoff : f.offset = off := of_decide_eq_true hc.1
    obtain ⟨q, hq, hty⟩ := hf f (by simp)
    rw [hoff] at hq
    obtain ⟨sz, hsz⟩ : ∃ sz, P.cellsOf f.type = sz := ⟨_, rfl⟩
    rw [hsz] at hq hc
    have hend : off + sz ≤ cs.length := by
      have key : ∀ (fs : List Field) (o : Nat), contig P o fs tot = true → o ≤ tot := fun fs => by
        induction fs with
        | nil => intro o h; have : o = tot := by simpa [contig] using h
                 omega
        | cons g gs ih => intro o h; unfold contig at h; rw [Bool.and_eq_true] at h; have := ih _ h.2; omega
      have := key fs _ hc.2
      omega
    have hql : q.length = sz := by rw [← hq.1, List.length_take, List.length_drop]; omega
    have h1 : RepPs S w (cs.take (off + sz)) (ps0 ++ q) := by
      rw [List.take_add]; exact h0.append hq
    obtain ⟨ps, k1, k2, k3⟩ := fields_rep fs (off + sz) tot (ps0 ++ q) h1 (by rw [List.length_append, hl, hql]) hend hc.2 ht (fun g hg => hf g (by simp [hg]))
    refine ⟨ps, k1, ?_, fun g hg => ?_⟩
    · have : (ps.take (off + sz)).take off = (ps0 ++ q).take off := by rw [k2]
      rw [List.take_take, Nat.min_eq_left (by omega)] at this
      rw [this, ← hl, List.take_left']; rfl
    · rcases List.mem_cons.1 hg with rfl | hg
      · refine ⟨by omega, ?_⟩
        rw [hoff, hsz]
        have : (ps.take (off + sz)).drop off = (ps0 ++ q).drop off := by rw [k2]
        rw [List.drop_take, Nat.add_sub_cancel_left] at this
        rw [this, ← hl, List.drop_left']; · exact hty
        rfl
      · have := k3 g hg; exact ⟨by omega, this.2⟩
theorem trod_rep {H : Type} {enc : TypeId × Value → H} {cl : List TypeId} (hcl : cl.all (okTy P cl) = true) : ∀ (n : Nat) (t : TypeId) (cs : List Value) (y : DataW H × List MemPlace), t ∈ cl → DataW.trod enc P w 0 (fun _ => true) true n t cs = some y → ∃ ps, RepPs (oldS w) w cs ps ∧ Ty P n t ps := by
  intro n
  induction n with
  | zero => intro t cs y _ h; simp [DataW.trod] at h
  | succ n ih =>
    intro t cs y ht h
    have hok := List.all_eq_true.1 hcl t ht
    have one : ∀ {v : Value} {p : PV}, RepP (oldS w) w v p → RepPs (oldS w) w [v] [p] := fun {v p} hp => ⟨rfl, fun i c hc => by
      cases i with
      | zero => simp at hc; subst hc; exact ⟨v, rfl, hp⟩
      | succ i => simp at hc⟩
    unfold okTy at hok
    cases hu : P.underlying t with
    | none => rw [hu] at hok; cases hok
    | some u =>
      rw [hu] at hok
      unfold Ty
      rw [hu]
      cases u with
      | bool =>
        obtain ⟨b, rfl, _⟩ := DataW.trod_bool hu h
        exact ⟨_, one (.lit _ rfl), b, rfl⟩
      | int k =>
        obtain ⟨z, rfl, _, hz⟩ := DataW.trod_int hu h
        exact ⟨_, one (.lit _ rfl), z, rfl, hz⟩
      | string =>
        obtain ⟨s, rfl, _, hs⟩ := DataW.trod_string hu h
        exact ⟨_, one (.lit _ rfl), s, rfl, hs⟩
      | slice e =>
        dsimp only at hok
        rw [Bool.and_eq_true] at hok
        have he : e ∈ cl := by simpa using hok.1
        have hpos : 0 < P.cellsOf e := of_decide_eq_true hok.2
        rcases DataW.trod_slice hu h with ⟨rfl, _⟩ | ⟨x, len, cap, elems, rest, m, hmf, rfl, hd, _, hl, hm, hlen, hele, hsp, _⟩
        · exact ⟨_, one (.emp none 0 (P.cellsOf e) (by omega) (fun _ => rfl)), [], rfl, Nat.zero_le _, fun x hx => by simp at hx⟩
        · have hmn : m = n := by omega
          subst hmn
          rcases Nat.eq_zero_or_pos len with h0 | hn
          · subst h0
            exact ⟨_, one (.emp (some x) cap (P.cellsOf e) (by unfold maxLen at hm; omega) (fun h => by cases h)), [], rfl, Nat.zero_le _, fun x hx => by simp at hx⟩
          · obtain ⟨b, off, spot⟩ := x
            obtain ⟨sz, hsz⟩ : ∃ sz, P.cellsOf e = sz := ⟨_, rfl⟩
            rw [hsz] at hpos hele
            show ∃ ps, RepPs (oldS w) w [Value.slice (some ⟨b, off, spot⟩) len cap] ps ∧ ∃ l : List (List PV), ps = [.sl (P.cellsOf e) l] ∧ l.length ≤ maxLen ∧ ∀ x ∈ l, Ty P m e x
            rw [hsz]
            have each : ∀ i, i < len → ∃ cs y, w.cells? 0 ((⟨b, off, spot⟩ : Addr).add (i * sz)) sz = some cs ∧ DataW.trod enc P w 0 (fun _ => true) true m e cs = some y := by
              intro i hi
              have := hele i hi
              have hs : ∃ y, elems[i]? = some y := ⟨elems[i], List.getElem?_eq_getElem (by omega)⟩
              obtain ⟨y, hy⟩ := hs
              rw [hy] at this
              obtain ⟨cs, h1, h2⟩ := Option.bind_eq_some_iff.1 this
              exact ⟨cs, y, h1, h2⟩
            obtain ⟨cs0, y0, k0, _⟩ := each 0 hn
            have c0 := (World.cells?_some k0)
            have hspot : spot = none := by
              have h1 := c0.2.2 0 hpos
              have hlt : (0 : Nat) < cs0.length := by have := c0.2.1; omega
              rw [List.getElem?_eq_getElem hlt] at h1
              simpa [Addr.add] using World.cell?_spot h1
            subst hspot
            have hblk : b < w.heap.size := by
              have := World.cells?_block k0 hpos
              simpa [addr_add] using this
            obtain ⟨L, hL, hq⟩ := bs.choose_list len (fun i (x : List Value × List PV) => x.1.length = sz ∧ (∀ j, j < sz → w.cell? ⟨b, off + i * sz + j, none⟩ = x.1[j]?) ∧ RepPs (oldS w) w x.1 x.2 ∧ Ty P m e x.2) (fun i hi => by
              obtain ⟨cs, y, k1, k2⟩ := each i hi
              have k3 := World.cells?_some k1
              rw [addr_add] at k3
              obtain ⟨ps, p1, p2⟩ := ih e cs y he k2
              refine ⟨(cs, ps), k3.2.1, fun j hj => ?_, p1, p2⟩
              have := k3.2.2 j hj
              rwa [addr_add] at this)
            have at' : ∀ i e', (L.map (·.2))[i]? = some e' → ∃ x : List Value × List PV, L[i]? = some x ∧ e' = x.2 := fun i e' h => by
              rw [List.getElem?_map] at h
              obtain ⟨x, h1, h2⟩ := Option.map_eq_some_iff.1 h
              exact ⟨x, h1, h2.symm⟩
            refine ⟨_, one (.sl b off len cap sz (L.map (·.2)) (by rw [List.length_map, hL]) hn hl (by unfold maxLen at hm; omega) (fun e' he' => ?_)
              (fun i j => ((L[i]?).bind (fun x => x.1[j]?)).getD undef) (fun i e' j p h1 h2 => ?_) (fun i e' j p h1 h2 => ?_)), L.map (·.2), rfl, by rw [List.length_map, hL]; omega, fun x hx => ?_⟩
            · obtain ⟨i, hi⟩ := List.mem_iff_getElem?.1 he'
              obtain ⟨x, hx, rfl⟩ := at' i e' hi
              have := hq i x hx
              rw [← this.2.2.1.1, this.1]
            · obtain ⟨x, hx, rfl⟩ := at' i e' h1
              have := hq i x hx
              have hj : j < sz := by have := (List.getElem?_eq_some_iff.1 h2).1; rw [← (hq i x hx).2.2.1.1, (hq i x hx).1] at this; exact this
              refine ⟨hblk, ?_⟩
              rw [this.2.1 j hj, hx]
              obtain ⟨v, hv, _⟩ := this.2.2.1.2 j p h2
              rw [hv]; simp [hv]
            · obtain ⟨x, hx, rfl⟩ := at' i e' h1
              obtain ⟨v, hv, hr⟩ := (hq i x hx).2.2.1.2 j p h2
              rw [hx]; simp [hv]; exact hr
            · obtain ⟨i, hi⟩ := List.mem_iff_getElem?.1 hx
              obtain ⟨z, hz, rfl⟩ := at' i x hi
              exact (hq i z hz).2.2.2
      | struct fs =>
        dsimp only at hok
        rw [Bool.and_eq_true] at hok
        obtain ⟨xs, m, hmf, _, hcl', hxl, hg⟩ := DataW.trod_struct hu h
        have hmn : m = n := by omega
        subst hmn
        obtain ⟨ps, k1, _, k3⟩ := fields_rep (P := P) (S := oldS w) (w := w) (n := m) (cs := cs) fs.toList 0 (P.cellsOf t) [] ⟨by simp, fun i c h => by simp at h⟩ rfl (Nat.zero_le _) hok.2 hcl'.symm (fun f hf => by
          obtain ⟨i, hi⟩ := List.mem_iff_getElem?.1 hf
          have hi' : fs[i]? = some f := by simpa using hi
          have h1 := hg i f hi'
          have hlt : i < xs.length := by
            have := (Array.getElem?_eq_some_iff.1 hi').1
            omega
          rw [List.getElem?_eq_getElem hlt] at h1
          exact ih f.type _ _ (by have := List.all_eq_true.1 hok.1 f hf; simpa using this) h1)
        exact ⟨ps, k1, by rw [← k1.1, hcl'], fun f hf => (k3 f hf).2⟩
      | _ => cases hok
theorem open_agg {H : Type} {enc : TypeId × Value → H} {cl : List TypeId} {t : TypeId} {cs : Array Value} {d : DataW H} {p : List MemPlace} (hcl : cl.all (okTy P cl) = true) (ht : t ∈ cl) (h : DataW.Trod enc P w 0 (fun _ => true) true t (.agg cs) d p) : ∃ n ps, RepV (fun _ => .un) (oldS w) w (.agg cs) (.v (.agg (ps.map .pv))) ∧ Ty P n t ps := by
  obtain ⟨n, h⟩ := h
  obtain ⟨ps, k1, k2⟩ := trod_rep hcl n t _ _ ht h
  exact ⟨n, ps, ⟨cs, rfl, RepPs.cs.1 k1⟩, k2⟩
theorem ty_slice {α : Type} {f : α → List PV} {Q : α → Prop} {t e : TypeId} (hu : P.underlying t = some (.slice e)) (hel : ∀ n x, Ty P n e x → ∃ a, x = f a ∧ Q a) {n : Nat} {ps : List PV} (h : Ty P n t ps) : ∃ L : List α, ps = [.sl (P.cellsOf e) (L.map f)] ∧ L.length ≤ maxLen ∧ ∀ a ∈ L, Q a := by
  cases n with
  | zero => exact h.elim
  | succ n =>
    unfold Ty at h
    rw [hu] at h
    obtain ⟨l, e3, hm, hl⟩ := h
    obtain ⟨L, hL, hq⟩ := bs.choose_list l.length (fun i (x : α) => l[i]? = some (f x) ∧ Q x) (fun i hi => by
      obtain ⟨x, h1, h2⟩ := hel n (l[i]'hi) (hl _ (List.getElem_mem hi))
      exact ⟨x, by rw [List.getElem?_eq_getElem hi, h1], h2⟩)
    have hlm : l = L.map f := by
      apply List.ext_getElem?
      intro i
      rw [List.getElem?_map]
      by_cases hi : i < L.length
      · have := hq i _ (List.getElem?_eq_getElem hi)
        rw [this.1, List.getElem?_eq_getElem hi]; rfl
      · rw [List.getElem?_eq_none (by omega), List.getElem?_eq_none (by omega)]; rfl
    refine ⟨L, by rw [e3, hlm], by rw [hL]; exact hm, fun a ha => ?_⟩
    obtain ⟨i, hi⟩ := List.mem_iff_getElem?.1 ha
    exact (hq i a hi).2
theorem calls_of_row {f : FuncId} {args : List AV} {vs : List Value} (h : Row P f args [] (.v (.c (.pv (.lit (.bool true))))) []) (hv : RepVs (fun _ => .un) (oldS w) w vs args) : Calls P f vs.toArray w fun e w' => e = .returned (.bool true) ∧ Below w.heap.size w w' := by
  have hm : Mem ⟨w, oldS w, fun _ => .un, []⟩ (fun x => ([] : List AO)[x]?) (fun x => ([] : List AO).length ≤ x) (fun _ => .un) (oldS w) w :=
    ⟨rfl, rfl, rfl, Nat.le_refl _, fun _ _ _ => rfl, fun _ _ h => ⟨h, rfl⟩, fun _ _ h => .inl h, fun _ _ h => h, GOn.refl _, fun _ _ => rfl, fun _ _ => .inl rfl, fun x o h => by simp at h, fun x y _ b h _ => by simp [G.bk] at h, fun x b h => by simp [G.bk] at h⟩
  refine (h.spec _ _ w vs hm hv).mono ?_
  rintro e w' ⟨v, γ', S', rfl, m, hr⟩
  obtain ⟨rfl, _⟩ := lit_inv hr
  exact ⟨rfl, m.os, m.tape, m.output, m.size, fun b hb => m.frame b hb (fun x h => by simp [G.bk] at h)⟩
end
end Go.Proofs.Ytjjnboenehomgaa.am
end
section
namespace Go.Proofs.Ytjjnboenehomgaa.am
open Go.ChangeShapes Go.WideShapes Go.ChangeAt Go.RowKit
set_option linter.unusedVariables false
abbrev newS (S : CS) (w w' : World) : CS := fun b o => S b o ∨ (w.heap.size ≤ b ∧ b < w'.heap.size)
theorem Mem.below {γ : Nat → G} {S : CS} {w w' : World} {ch : List AO} (hm : Mem ⟨w, S, γ, []⟩ (fun x => ch[x]?) (fun x => ch.length ≤ x) γ S w) (hb : Below w.heap.size w w') :
    Mem ⟨w, S, γ, []⟩ (fun x => ((ch.map some)[x]?).join) (fun x => (ch.map some).length ≤ x) γ (newS S w w') w' := by
  have hj : ∀ x, ((ch.map some)[x]?).join = ch[x]? := fun x => by
    rw [List.getElem?_map]
    cases ch[x]? <;> rfl
  refine ⟨hb.os, hb.tape, hb.output, hb.size, fun b h _ => hb.block b h, fun b o h => ⟨.inl h, hb.cell (p := ⟨b, o, none⟩) (hm.inb b o h)⟩, fun b o h => h.elim .inl (fun h => .inr (.inl h.1)), fun b o h => h.elim (fun h => Nat.lt_of_lt_of_le (hm.inb b o h) hb.size) (fun h => h.2), GOn.refl _,
    fun x hx => hm.un x (by rw [List.length_map] at hx; exact hx), fun x hx => hm.off x (by rw [← hj]; exact hx), fun x o hx => ?_, hm.dist, fun x b h => ⟨Nat.lt_of_lt_of_le (hm.live x b h).1 hb.size, (hm.live x b h).2⟩⟩
  refine Obj'.on (hm.obj x o (by rw [← hj]; exact hx)) rfl (GOn.refl _) (fun _ _ h => .inl h) (fun b o h => hb.cell (p := ⟨b, o, none⟩) (hm.inb b o h)) (fun b hbk => ⟨hb.block b (hm.live x b hbk).1, fun o h => h.elim (fun h => h) (fun h => ?_)⟩)
  have := (hm.live x b hbk).1
  exact absurd h.1 (Nat.not_le.2 this)
theorem spec_of_below {P : Program} {f : FuncId} {args : List AV} {ch : List AO} {res : AV}
    (h : ∀ (γ : Nat → G) (S : CS) (w : World) (vs : List Value), Mem ⟨w, S, γ, []⟩ (fun x => ch[x]?) (fun x => ch.length ≤ x) γ S w → RepVs γ S w vs args →
      Calls P f vs.toArray w fun e w' => ∃ v, e = .returned v ∧ Below w.heap.size w w' ∧ RepV γ (newS S w w') w' v res) : Spec P f args ch res (ch.map some) := fun γ S w vs hm hv => by
  refine (h γ S w vs hm hv).mono ?_
  rintro e w' ⟨v, h1, h2, h3⟩
  exact ⟨v, γ, newS S w w', h1, hm.below h2, h3⟩
end Go.Proofs.Ytjjnboenehomgaa.am
end
section
namespace Go.Proofs.Ytjjnboenehomgaa.am
open Go.ChangeShapes Go.WideShapes Go.ChangeAt Go.RowKit
open vt
set_option linter.unusedVariables false
def labE (x : Lab) : te.Lab := ⟨x.k, x.n, x.s, x.f, x.t⟩
noncomputable def toE (t : VT) : te.VT := Tr.fold (fun x _ b => tr.Tr.mk (labE x) b) t
theorem toE_mk (x : Lab) (l : List VT) : toE (.mk x l) = .mk (labE x) (l.map toE) := Tr.fold_mk _ x l
section
variable {S : CS} {w : World} (hS : ∀ b o, S b o → b < w.heap.size)
include hS
theorem sl_out {l : List VT} {v : Value} (h : RepP S w v (.sl 6 (l.map tc))) : ∃ a c, v = .slice a l.length c ∧ l.length ≤ c ∧ c ≤ 9223372036854775807 ∧ (a = none → c = 0) ∧
    (l = [] ∨ ∃ b off, a = some ⟨b, off, none⟩ ∧ b < w.heap.size ∧ ∃ V : Nat → Nat → Value, ∀ i y, l[i]? = some y → ∀ j p, (tc y)[j]? = some p → w.cell? ⟨b, off + i * 6 + j, none⟩ = some (V i j) ∧ RepP S w (V i j) p) := by
  obtain ⟨L, hL⟩ : ∃ L, l.map tc = L := ⟨_, rfl⟩
  rw [hL] at h
  cases h with
  | emp a c es hm ha =>
    have : l = [] := by simpa using hL
    subst this
    exact ⟨a, c, rfl, Nat.zero_le _, hm, ha, .inl rfl⟩
  | sl b off n c es L' hlen h0 hc hm hes V hcell hV =>
    subst hL
    have hn : l.length = n := by simpa using hlen
    subst hn
    have at' : ∀ i y, l[i]? = some y → (l.map tc)[i]? = some (tc y) := fun i y h => by rw [List.getElem?_map, h]; rfl
    refine ⟨_, c, rfl, hc, hm, (fun h => by cases h), .inr ⟨b, off, rfl, ?_, V, fun i y hi j p hj => ⟨(hcell i _ j p (at' i y hi) hj).2, hV i _ j p (at' i y hi) hj⟩⟩⟩
    obtain ⟨y, hy⟩ : ∃ y, l[0]? = some y := ⟨_, List.getElem?_eq_getElem h0⟩
    obtain ⟨p, hp⟩ : ∃ p, (tc y)[0]? = some p := ⟨_, List.getElem?_eq_getElem (by rw [tc_len]; decide)⟩
    exact hS _ _ (hcell 0 _ 0 p (at' 0 y hy) hp).1
theorem vs_of {l : List VT} {v : Value} (h : RepP S w v (.sl 6 (l.map tc))) (ih : ∀ y ∈ l, ∀ b o (V : Nat → Value), (∀ j p, (tc y)[j]? = some p → w.cell? ⟨b, o + j, none⟩ = some (V j) ∧ RepP S w (V j) p) → te.VA w b o (toE y)) : ∃ a c, v = .slice a l.length c ∧ te.VS w a l.length c (l.map toE) := by
  obtain ⟨a, c, h1, h2, h3, h4, h5⟩ := sl_out hS h
  refine ⟨a, c, h1, ⟨by simp, h2, h3, h4, ?_⟩⟩
  rcases h5 with h5 | ⟨b, off, h6, h7, V, h8⟩
  · left; rw [h5]; rfl
  · right
    refine ⟨b, off, h6, h7, fun i x hx => ?_⟩
    rw [List.getElem?_map] at hx
    obtain ⟨y, hy, rfl⟩ := Option.map_eq_some_iff.1 hx
    exact ih y (List.mem_of_getElem? hy) b (off + i * 6) (V i) (h8 i y hy)
omit hS in
theorem int_of {v : Value} {z : Int} (h : RepP S w v (I z)) : v = .int .i64 z := by cases h; rfl
omit hS in
theorem str_of {v : Value} {s : ByteArray} (h : RepP S w v (Sx s)) : v = .string s := by cases h; rfl
theorem va_of (t : VT) : in64 t → ∀ b o (V : Nat → Value), (∀ j p, (tc t)[j]? = some p → w.cell? ⟨b, o + j, none⟩ = some (V j) ∧ RepP S w (V j) p) → te.VA w b o (toE t) := by
  induction t using Tr.ind with
  | h x l ih =>
    intro ha b o V hc
    obtain ⟨⟨a1, a2, a3, a4⟩, ha⟩ := (Tr.all_mk _ _ _).1 ha
    rw [tc_mk] at hc
    have c0 := hc 0 _ rfl
    have c1 := hc 1 _ rfl
    have c2 := hc 2 _ rfl
    have c3 := hc 3 _ rfl
    have c4 := hc 4 _ rfl
    have c5 := hc 5 _ rfl
    rw [int_of c0.2] at c0
    rw [int_of c1.2] at c1
    rw [str_of c2.2] at c2
    rw [int_of c4.2] at c4
    rw [int_of c5.2] at c5
    obtain ⟨a, c, h1, h2⟩ := vs_of hS c3.2 (fun y hy => ih y hy (ha y hy))
    rw [h1] at c3
    have := te.VA.intro (v := ⟨labE x, a, l.length, c, l.map toE⟩) (w := w) (b := b) (o := o) ⟨h2, ⟨a1, a2, a3, a4⟩⟩ ⟨c0.1, c3.1, c1.1, c2.1, c4.1, c5.1⟩
    rw [toE_mk]
    exact this
end
theorem vn_of {γ : Nat → G} {S : CS} {w : World} (hS : ∀ b o, S b o → b < w.heap.size) {t : VT} {v : Value} (ha : in64 t) (h : RepV γ S w v (vT t)) : ∃ n : te.Vn, v = n.val ∧ n.tr = toE t ∧ n.Rd w := by
  obtain ⟨x, l⟩ := t
  obtain ⟨⟨a1, a2, a3, a4⟩, ha⟩ := (Tr.all_mk _ _ _).1 ha
  obtain ⟨cs, rfl, hl, hc⟩ := h
  rw [ta_mk] at hl hc
  obtain ⟨v0, e0, r0⟩ := hc 0 _ rfl
  obtain ⟨v1, e1, r1⟩ := hc 1 _ rfl
  obtain ⟨v2, e2, r2⟩ := hc 2 _ rfl
  obtain ⟨v3, e3, r3⟩ := hc 3 _ rfl
  obtain ⟨v4, e4, r4⟩ := hc 4 _ rfl
  obtain ⟨v5, e5, r5⟩ := hc 5 _ rfl
  obtain rfl := int_of r0
  obtain rfl := int_of r1
  obtain rfl := str_of r2
  obtain rfl := int_of r4
  obtain rfl := int_of r5
  obtain ⟨a, c, rfl, h2⟩ := vs_of hS r3 (fun y hy => va_of hS y (ha y hy))
  refine ⟨⟨labE x, a, l.length, c, l.map toE⟩, ?_, (toE_mk x l).symm, ⟨h2, ⟨a1, a2, a3, a4⟩⟩⟩
  have : cs = #[.int .i64 x.k, .int .i64 x.n, .string x.s, .slice a l.length c, .int .i64 x.f, .int .i64 x.t] := by
    apply Array.ext_getElem?
    intro i
    have hg : ∀ i : Nat, cs[i]? = cs.toList[i]? := fun i => by rw [Array.getElem?_toList]
    rw [hg]
    match i with
    | 0 => rw [e0]; rfl
    | 1 => rw [e1]; rfl
    | 2 => rw [e2]; rfl
    | 3 => rw [e3]; rfl
    | 4 => rw [e4]; rfl
    | 5 => rw [e5]; rfl
    | i + 6 => rw [List.getElem?_eq_none (by rw [hl]; simp)]; rfl
  rw [this]
  rfl
end Go.Proofs.Ytjjnboenehomgaa.am
end
section
namespace Go.Proofs.Ytjjnboenehomgaa.am
open Go.ChangeShapes Go.WideShapes Go.ChangeAt Go.RowKit
open vt
set_option linter.unusedVariables false
set_option linter.unusedSimpArgs false
def leafT (o : Option (Int × Int)) : VT := match o with
  | some (k, n) => .mk ⟨k, n, ⟨#[]⟩, 0, 0⟩ []
  | none => z0T
theorem leafT_size (o : Option (Int × Int)) : (leafT o).size = 1 := by
  unfold leafT
  split <;> simp [Tr.size_mk]
theorem leaf_rep {γ : Nat → G} {S : CS} {w : World} (k n : Int) : RepT γ S w (.agg #[.int .i64 k, .int .i64 n, .string ⟨#[]⟩, .slice none 0 0, .int .i64 0, .int .i64 0]) (.agg (ta (.mk ⟨k, n, ⟨#[]⟩, 0, 0⟩ []))) := by
  refine ⟨_, rfl, by rw [ta_mk]; rfl, fun i c h => ?_⟩
  rw [ta_mk] at h
  match i, h with
  | 0, h => simp at h; subst h; exact ⟨_, rfl, .lit _ rfl⟩
  | 1, h => simp at h; subst h; exact ⟨_, rfl, .lit _ rfl⟩
  | 2, h => simp at h; subst h; exact ⟨_, rfl, .lit _ rfl⟩
  | 3, h => simp at h; subst h; exact ⟨_, rfl, .emp none 0 6 (by omega) (fun _ => rfl)⟩
  | 4, h => simp at h; subst h; exact ⟨_, rfl, .lit _ rfl⟩
  | 5, h => simp at h; subst h; exact ⟨_, rfl, .lit _ rfl⟩
  | i + 6, h => simp at h
theorem lv_rep {γ : Nat → G} {S : CS} {w : World} (o : Option (Int × Int)) : RepV γ S w (.tuple #[(fo.lv o).val, .bool o.isSome]) (vTO (leafT o) o.isSome) := by
  refine ⟨_, rfl, rfl, fun i c h => ?_⟩
  match i, h with
  | 0, h =>
    simp at h; subst h
    refine ⟨_, rfl, ?_⟩
    cases o with
    | none => exact leaf_rep 0 0
    | some p => exact leaf_rep p.1 p.2
  | 1, h => simp at h; subst h; exact ⟨_, rfl, .lit _ rfl⟩
  | i + 2, h => simp at h
theorem values_row (t : VT) (ht : in64 t) : ∃ o : Option (Int × Int), Row Try.prog 24 [vT t] [] (vTO (leafT o) o.isSome) [] ∧ Row Try.prog 49 [vT t] [] (vTO (leafT o) o.isSome) [] := by
  refine ⟨fo.fv t.lab.k t.lab.n t.lab.s (t.kids.map toE), ⟨⟨_, Try.func24, rfl, rfl⟩, spec_of_below (ch := []) fun γ S w vs hm hv => ?_⟩, ⟨⟨_, Try.func49, rfl, rfl⟩, spec_of_below (ch := []) fun γ S w vs hm hv => ?_⟩⟩
  · match vs, hv with
    | [v0], ⟨h0, _⟩ =>
      obtain ⟨n, rfl, hn, hr⟩ := vn_of hm.inb ht h0
      have e : fo.fv n.x.k n.x.n n.x.s n.l = fo.fv t.lab.k t.lab.n t.lab.s (t.kids.map toE) := by
        obtain ⟨x, l⟩ := t
        rw [toE_mk] at hn
        obtain ⟨nx, na, nm, nc, nl⟩ := n
        injection hn with h1 h2
        dsimp only at h1 h2 ⊢
        rw [h1, h2]; rfl
      refine (fo.pvalue_any n w hr).mono ?_
      rintro e' w' ⟨rfl, hb⟩
      refine ⟨_, rfl, hb, ?_⟩
      rw [e]
      exact lv_rep _
  · match vs, hv with
    | [v0], ⟨h0, _⟩ =>
      obtain ⟨n, rfl, hn, hr⟩ := vn_of hm.inb ht h0
      have e : fo.fv n.x.k n.x.n n.x.s n.l = fo.fv t.lab.k t.lab.n t.lab.s (t.kids.map toE) := by
        obtain ⟨x, l⟩ := t
        rw [toE_mk] at hn
        obtain ⟨nx, na, nm, nc, nl⟩ := n
        injection hn with h1 h2
        dsimp only at h1 h2 ⊢
        rw [h1, h2]; rfl
      refine (fo.rvalue_any n w hr).mono ?_
      rintro e' w' ⟨rfl, hb⟩
      refine ⟨_, rfl, hb, ?_⟩
      rw [e]
      exact lv_rep _
end Go.Proofs.Ytjjnboenehomgaa.am
end
section
namespace Go.Proofs.Ytjjnboenehomgaa.am
open Go.ChangeShapes Go.WideShapes Go.ChangeAt Go.RowKit
open vt
set_option linter.unusedVariables false
set_option linter.unusedSimpArgs false
theorem cntK_len {l : List VT} {lv n : Int} : ∀ k, k ≤ l.length → cntK l lv n k ≤ n ∧ (0 ≤ cntK l lv n k → cntK l lv n k + k ≤ n) := fun k => by
  induction k with
  | zero => intro _; rw [cntK_zero]; omega
  | succ k ih =>
    intro hk
    obtain ⟨i1, i2⟩ := ih (by omega)
    have hy : l[k]? = some (l[k]'(by omega)) := List.getElem?_eq_getElem _
    rw [cntK_succ hy]
    split
    · rename_i hc
      have h1 := cnt_le (l[k]'(by omega)) (cntK l lv n k) (lv - 1) (by omega)
      have h2 := Tr.size_pos (l[k]'(by omega))
      have h3 := i2 hc
      refine ⟨by omega, fun h => ?_⟩
      have := h1.2.2 h
      omega
    · rename_i hc; exact ⟨i1, fun h => absurd h hc⟩
set_option maxRecDepth 100000 in
set_option maxHeartbeats 4000000 in
theorem rcnt_row (t : VT) : ∀ left lv : Int, 0 ≤ left → left ≤ 1000000 → lv ≤ 1000 → -1000000 ≤ lv → Row Try.prog 33 [vT t, vI left, vI lv] [] (vI (cntT t left lv)) [] := by
  induction t using Tr.ind with
  | h x l ih =>
  intro left lv h0 h1 h2 h3
  have hlen := Tr.len_size (x := x) (l := l)
  rw [cnt_mk]
  refine row_of Try.func33 rfl rfl (Nat.le_of_ble_eq_true rfl) ?_
  by_cases hl : lv ≤ 0
  · rw [if_pos hl]
    repeat (first | refine aw_seq ?_ | refine aw_skip ?_ | refine aw_block ?_ | refine aw_exit ?_ | refine aw_cond rfl (fun _ => ?_) (fun hb => absurd hb (by decide)) | refine aw_cond rfl (fun hb => absurd hb (by decide)) (fun _ => ?_) | (refine aw_reg (fun K hK => ?_); simp -implicitDefEqProofs [hl]; refine hK _ ?_) | (refine aw_drw mixd (fun K hK => ?_); simp -implicitDefEqProofs [hl]; refine hK _ _ (by rfl) ?_) | fail)
    refine aw_ret (fin_ret ?_); simp -implicitDefEqProofs [FinP, resV, resT] <;> try rfl
  rw [if_neg hl]
  have w1 : IntKind.i64.wrap (left - 1) = left - 1 := i64i _ (by omega) (by omega)
  have w3 : IntKind.i64.wrap (lv - 1) = lv - 1 := i64i _ (by omega) (by omega)
  repeat (first | refine aw_seq ?_ | refine aw_skip ?_ | refine aw_block ?_ | refine aw_exit ?_ | refine aw_cond rfl (fun _ => ?_) (fun hb => absurd hb (by decide)) | refine aw_cond rfl (fun hb => absurd hb (by decide)) (fun _ => ?_) | (refine aw_reg (fun K hK => ?_); simp -implicitDefEqProofs [hl, w1]; refine hK _ ?_) | (refine aw_drw mixd (fun K hK => ?_); simp -implicitDefEqProofs [hl, w1]; refine hK _ _ (by rfl) ?_) | fail)
  refine aw_lp (ι := Nat) (fun k => mkSt [(1, vI (cntK l lv (left - 1) k)), (2, vI lv), (3, .v (.c (.ptr 0 0))), (7, vI (k : Nat))] [some (.box (ta (.mk x l)))]) (fun k => k ≤ l.length ∧ -2 ≤ cntK l lv (left - 1) k ∧ cntK l lv (left - 1) k ≤ left) (fun k => l.length - k) 0 ⟨Nat.zero_le _, by rw [cntK_zero]; omega, by rw [cntK_zero]; omega⟩ (cov_intro [0] (by simp -implicitDefEqProofs [cntK_zero]) (by simp -implicitDefEqProofs [cntK_zero]) (by decide) rfl (by simp)) (fun Z hI k hkz => ?_)
  obtain ⟨hk, hc1, hc2⟩ := hkz
  by_cases hkl : k < l.length; rotate_left
  · have : k = l.length := by omega
    subst this
    repeat (first | refine aw_seq ?_ | refine aw_skip ?_ | refine aw_block ?_ | refine aw_exit ?_ | refine aw_cond rfl (fun _ => ?_) (fun hb => absurd hb (by decide)) | refine aw_cond rfl (fun hb => absurd hb (by decide)) (fun _ => ?_) | (refine aw_reg (fun K hK => ?_); simp -implicitDefEqProofs; refine hK _ ?_) | (refine aw_drw mixd (fun K hK => ?_); simp -implicitDefEqProofs; refine hK _ _ (by rfl) ?_) | fail)
    refine aw_ret (fin_ret ?_); simp -implicitDefEqProofs [FinP, resV, resT] <;> try rfl
  by_cases hc : 0 ≤ cntK l lv (left - 1) k; rotate_left
  · have := cntK_neg (l := l) (lv := lv) (n := left - 1) (k := k) (by omega) l.length hk (Nat.le_refl _)
    rw [this]
    repeat (first | refine aw_seq ?_ | refine aw_skip ?_ | refine aw_block ?_ | refine aw_exit ?_ | refine aw_cond rfl (fun _ => ?_) (fun hb => absurd hb (by decide)) | refine aw_cond rfl (fun hb => absurd hb (by decide)) (fun _ => ?_) | (refine aw_reg (fun K hK => ?_); simp -implicitDefEqProofs [hkl, hc]; refine hK _ ?_) | (refine aw_drw mixd (fun K hK => ?_); simp -implicitDefEqProofs [hkl, hc]; refine hK _ _ (by rfl) ?_) | fail)
    refine aw_ret (fin_ret ?_); simp -implicitDefEqProofs [FinP, resV, resT] <;> try rfl
  obtain ⟨⟨ax, al⟩, ha⟩ : ∃ a, l[k]? = some a := ⟨_, List.getElem?_eq_getElem hkl⟩
  have ha' := (List.getElem?_eq_some_iff.1 ha).2
  have hsz1 := Tr.size_at (x := x) ha
  have hcs := cntK_succ (lv := lv) (n := left - 1) ha
  have hkn := (cntK_len (l := l) (lv := lv) (n := left - 1) k hk).2 hc
  have w2 : IntKind.i64.wrap ((k : Nat) + 1 : Int) = (k : Nat) + 1 := i64i _ (by omega) (by omega)
  rw [if_pos hc] at hcs
  have hle := cnt_le (.mk ax al) (cntK l lv (left - 1) k) (lv - 1) (by omega)
  repeat (first | refine aw_seq ?_ | refine aw_skip ?_ | refine aw_block ?_ | refine aw_exit ?_ | refine aw_cond rfl (fun _ => ?_) (fun hb => absurd hb (by decide)) | refine aw_cond rfl (fun hb => absurd hb (by decide)) (fun _ => ?_) | (refine aw_reg (fun K hK => ?_); simp -implicitDefEqProofs [hkl, hc]; refine hK _ ?_) | (refine aw_drw mixd (fun K hK => ?_); simp -implicitDefEqProofs [hkl, hc]; refine hK _ _ (by rfl) ?_) | fail)
  refine aw_reg (fun K hK => ?_); simp -implicitDefEqProofs [hkl, ha, ha', w3]
  refine ar_call (call_pure (ih _ (List.mem_of_getElem? ha) (cntK l lv (left - 1) k) (lv - 1) (by omega) (by omega) (by omega) (by omega)) (by simp) (fun _ => rfl) rfl ?_)
  simp -implicitDefEqProofs; refine hK _ ?_
  repeat (first | refine aw_seq ?_ | refine aw_skip ?_ | refine aw_block ?_ | refine aw_exit ?_ | refine aw_cond rfl (fun _ => ?_) (fun hb => absurd hb (by decide)) | refine aw_cond rfl (fun hb => absurd hb (by decide)) (fun _ => ?_) | (refine aw_reg (fun K hK => ?_); simp -implicitDefEqProofs [w2]; refine hK _ ?_) | (refine aw_drw mixd (fun K hK => ?_); simp -implicitDefEqProofs [w2]; refine hK _ _ (by rfl) ?_) | fail)
  refine ⟨k + 1, ⟨by omega, by rw [hcs]; omega, by rw [hcs]; omega⟩, (by dsimp only; omega), ?_⟩
  rw [hI]; exact cov_intro [0] (by simp -implicitDefEqProofs [hcs]) (by simp -implicitDefEqProofs [hcs]) (by decide) rfl (by simp)
set_option maxRecDepth 100000 in
set_option maxHeartbeats 4000000 in
theorem rnmd_row (t : VT) : t.size ≤ 1000000 → Row Try.prog 34 [vT t] [] (vB (nmd t)) [] := by
  induction t using Tr.ind with
  | h x l ih =>
  intro hsz
  have hlen := Tr.len_size (x := x) (l := l)
  rw [nmd_mk]
  refine row_of Try.func34 rfl rfl (Nat.le_of_ble_eq_true rfl) ?_
  by_cases hs : 40 < x.s.size
  · have hs' : (40 : Int) < (x.s.size : Nat) := by omega
    repeat (first | refine aw_seq ?_ | refine aw_skip ?_ | refine aw_block ?_ | refine aw_exit ?_ | refine aw_cond rfl (fun _ => ?_) (fun hb => absurd hb (by decide)) | refine aw_cond rfl (fun hb => absurd hb (by decide)) (fun _ => ?_) | (refine aw_reg (fun K hK => ?_); simp -implicitDefEqProofs [hs, hs']; refine hK _ ?_) | (refine aw_drw mixd (fun K hK => ?_); simp -implicitDefEqProofs [hs, hs']; refine hK _ _ (by rfl) ?_) | fail)
    refine aw_ret (fin_ret ?_); simp -implicitDefEqProofs [FinP, resV, resT, hs] <;> try rfl
  have hs' : ¬ (40 : Int) < (x.s.size : Nat) := by omega
  repeat (first | refine aw_seq ?_ | refine aw_skip ?_ | refine aw_block ?_ | refine aw_exit ?_ | refine aw_cond rfl (fun _ => ?_) (fun hb => absurd hb (by decide)) | refine aw_cond rfl (fun hb => absurd hb (by decide)) (fun _ => ?_) | (refine aw_reg (fun K hK => ?_); simp -implicitDefEqProofs [hs, hs']; refine hK _ ?_) | (refine aw_drw mixd (fun K hK => ?_); simp -implicitDefEqProofs [hs, hs']; refine hK _ _ (by rfl) ?_) | fail)
  refine aw_lp (ι := Nat) (fun k => mkSt [(1, .v (.c (.ptr 0 0))), (3, vI (k : Nat))] [some (.box (ta (.mk x l)))]) (fun k => k ≤ l.length ∧ anyK nmd l k = false) (fun k => l.length - k) 0 ⟨Nat.zero_le _, anyK_zero _ _⟩ (cov_intro [0] (by simp -implicitDefEqProofs) (by simp -implicitDefEqProofs) (by decide) rfl (by simp)) (fun Z hI k hkz => ?_)
  obtain ⟨hk, hz⟩ := hkz
  by_cases hkl : k < l.length; rotate_left
  · have : k = l.length := by omega
    subst this
    rw [anyK_all] at hz
    repeat (first | refine aw_seq ?_ | refine aw_skip ?_ | refine aw_block ?_ | refine aw_exit ?_ | refine aw_cond rfl (fun _ => ?_) (fun hb => absurd hb (by decide)) | refine aw_cond rfl (fun hb => absurd hb (by decide)) (fun _ => ?_) | (refine aw_reg (fun K hK => ?_); simp -implicitDefEqProofs; refine hK _ ?_) | (refine aw_drw mixd (fun K hK => ?_); simp -implicitDefEqProofs; refine hK _ _ (by rfl) ?_) | fail)
    refine aw_ret (fin_ret ?_); simp -implicitDefEqProofs [FinP, resV, resT, hs, hz] <;> try rfl
  obtain ⟨⟨ax, al⟩, ha⟩ : ∃ a, l[k]? = some a := ⟨_, List.getElem?_eq_getElem hkl⟩
  have ha' := (List.getElem?_eq_some_iff.1 ha).2
  have hsz1 := Tr.size_at (x := x) ha
  have w2 : IntKind.i64.wrap ((k : Nat) + 1 : Int) = (k : Nat) + 1 := i64i _ (by omega) (by omega)
  have hcs := anyK_succ (f := nmd) ha
  repeat (first | refine aw_seq ?_ | refine aw_skip ?_ | refine aw_block ?_ | refine aw_exit ?_ | refine aw_cond rfl (fun _ => ?_) (fun hb => absurd hb (by decide)) | refine aw_cond rfl (fun hb => absurd hb (by decide)) (fun _ => ?_) | (refine aw_reg (fun K hK => ?_); simp -implicitDefEqProofs [hkl]; refine hK _ ?_) | (refine aw_drw mixd (fun K hK => ?_); simp -implicitDefEqProofs [hkl]; refine hK _ _ (by rfl) ?_) | fail)
  refine aw_reg (fun K hK => ?_); simp -implicitDefEqProofs [hkl, ha, ha']
  refine ar_call (call_pure (ih _ (List.mem_of_getElem? ha) (by omega)) (by simp) (fun _ => rfl) rfl ?_)
  simp -implicitDefEqProofs; refine hK _ ?_
  refine aw_cond rfl (fun hb => ?_) (fun hb => ?_)
  · have := any_of ha hb
    repeat (first | refine aw_seq ?_ | refine aw_skip ?_ | refine aw_block ?_ | refine aw_exit ?_ | refine aw_cond rfl (fun _ => ?_) (fun hb => absurd hb (by decide)) | refine aw_cond rfl (fun hb => absurd hb (by decide)) (fun _ => ?_) | (refine aw_reg (fun K hK => ?_); simp -implicitDefEqProofs; refine hK _ ?_) | (refine aw_drw mixd (fun K hK => ?_); simp -implicitDefEqProofs; refine hK _ _ (by rfl) ?_) | fail)
    refine aw_ret (fin_ret ?_); simp -implicitDefEqProofs [FinP, resV, resT, this] <;> try rfl
  · repeat (first | refine aw_seq ?_ | refine aw_skip ?_ | refine aw_block ?_ | refine aw_exit ?_ | refine aw_cond rfl (fun _ => ?_) (fun hb => absurd hb (by decide)) | refine aw_cond rfl (fun hb => absurd hb (by decide)) (fun _ => ?_) | (refine aw_reg (fun K hK => ?_); simp -implicitDefEqProofs [w2]; refine hK _ ?_) | (refine aw_drw mixd (fun K hK => ?_); simp -implicitDefEqProofs [w2]; refine hK _ _ (by rfl) ?_) | fail)
    refine ⟨k + 1, ⟨by omega, by rw [hcs, hz, hb]; rfl⟩, (by dsimp only; omega), ?_⟩
    rw [hI]; exact cov_intro [0] (by simp -implicitDefEqProofs) (by simp -implicitDefEqProofs) (by decide) rfl (by simp)
set_option maxRecDepth 100000 in
set_option maxHeartbeats 4000000 in
theorem rlarge_row (t : VT) : Row Try.prog 12 [vT t] [] (vB (large t)) [] := by
  refine row_of Try.func12 rfl rfl (Nat.le_of_ble_eq_true rfl) ?_
  obtain ⟨x, l⟩ := t
  repeat (first | refine aw_seq ?_ | refine aw_skip ?_ | refine aw_block ?_ | refine aw_exit ?_ | refine aw_cond rfl (fun _ => ?_) (fun hb => absurd hb (by decide)) | refine aw_cond rfl (fun hb => absurd hb (by decide)) (fun _ => ?_) | (refine aw_reg (fun K hK => ?_); simp -implicitDefEqProofs; refine hK _ ?_) | (refine aw_drw mixd (fun K hK => ?_); simp -implicitDefEqProofs; refine hK _ _ (by rfl) ?_) | fail)
  refine aw_reg (fun K hK => ?_); simp -implicitDefEqProofs
  refine ar_call (call_pure (rcnt_row (.mk x l) 400 70 (by omega) (by omega) (by omega) (by omega)) (by simp) (fun _ => rfl) rfl ?_)
  by_cases hc : cntT (.mk x l) 400 70 < 0
  · simp -implicitDefEqProofs [hc]; refine hK _ ?_
    refine aw_ret (fin_ret ?_); simp -implicitDefEqProofs [FinP, resV, resT, large, hc] <;> try rfl
  · simp -implicitDefEqProofs [hc]
    refine ar_call (call_pure (rnmd_row (.mk x l) (by have := (cnt_le (.mk x l) 400 70 (by omega)).2.2 (by omega); omega)) (by simp) (fun _ => rfl) rfl ?_)
    simp -implicitDefEqProofs; refine hK _ ?_
    refine aw_ret (fin_ret ?_); simp -implicitDefEqProofs [FinP, resV, resT, large, hc] <;> try rfl
end Go.Proofs.Ytjjnboenehomgaa.am
end
section
namespace Go.Proofs.Ytjjnboenehomgaa.vt
open Go.Proofs.Ytjjnboenehomgaa.am
set_option linter.unusedVariables false
abbrev VV := Tr Int
noncomputable def uc (t : VV) : List PV := Tr.fold (fun n _ b => [I n, .sl 2 b]) t
theorem uc_mk (n : Int) (l : List VV) : uc (.mk n l) = [I n, .sl 2 (l.map uc)] := Tr.fold_mk _ n l
theorem uc_len (t : VV) : (uc t).length = 2 := by cases t; rw [uc_mk]; rfl
noncomputable def ua (t : VV) : List AC := (uc t).map .pv
theorem ua_mk (n : Int) (l : List VV) : ua (.mk n l) = [.pv (I n), .pv (.sl 2 (l.map uc))] := by unfold ua; rw [uc_mk]; rfl
noncomputable abbrev vU (t : VV) : AV := .v (.agg (ua t))
noncomputable abbrev vUs (l : List VV) : AV := .v (.c (.pv (.sl 2 (l.map uc))))
theorem ua_len (t : VV) : (ua t).length = 2 := by unfold ua; rw [List.length_map]; exact uc_len t
theorem ua_pure (t : VV) : (ua t).mapM pureC = some (uc t) := mapM_pure _
theorem fit_ua {n : Nat} {ρ : Nat → Nat} (t : VV) : fitCs n ρ (ua t) (ua t) := fit_pure _
theorem ua_take (t : VV) : (ua t).take 2 = ua t := List.take_of_length_le (by rw [ua_len]; exact Nat.le_refl _)
attribute [simp] ua_mk uc_mk ua_len uc_len ua_pure fit_ua ua_take
noncomputable def asT (v : VV) : VT := Tr.fold (fun n _ b => .mk ⟨0, 0, ⟨#[]⟩, 0, 0⟩ b) v
theorem asT_mk (n : Int) (l : List VV) : asT (.mk n l) = .mk ⟨0, 0, ⟨#[]⟩, 0, 0⟩ (l.map asT) := Tr.fold_mk _ n l
structure StV where
  gl : List VV
  lo : List VV
  inp : List Int
  pos : Int
  tr : List Int
  fuel : Int
  kind : Int
  n : Int
  ret : VV
abbrev Iz (L : List Int) : PV := .sl 1 (L.map fun z => [I z])
noncomputable def sc (s : StV) : List PV := [.sl 2 (s.gl.map uc), .sl 2 (s.lo.map uc), Iz s.inp, I s.pos, Iz s.tr, I s.fuel, I s.kind, I s.n] ++ uc s.ret
noncomputable def sa (s : StV) : List AC := [.pv (.sl 2 (s.gl.map uc)), .pv (.sl 2 (s.lo.map uc)), .pv (Iz s.inp), .pv (I s.pos), .pv (Iz s.tr), .pv (I s.fuel), .pv (I s.kind), .pv (I s.n)] ++ ua s.ret
theorem sa_eq (s : StV) : (sc s).map .pv = sa s := by unfold sc sa ua; simp
structure RuV where
  m : VT
  ty : List VT
  s : StV
  rule : Int
  l : VT
  r : VT
noncomputable def rc (u : RuV) : List PV := tc u.m ++ (.sl 6 (u.ty.map tc) :: (sc u.s ++ (I u.rule :: (tc u.l ++ tc u.r))))
noncomputable def ra (u : RuV) : List AC := ta u.m ++ (.pv (.sl 6 (u.ty.map tc)) :: (sa u.s ++ (.pv (I u.rule) :: (ta u.l ++ ta u.r))))
theorem ra_eq (u : RuV) : (rc u).map .pv = ra u := by
  unfold rc ra
  rw [List.map_append, List.map_cons, List.map_append, sa_eq, List.map_cons, List.map_append]
  rfl
noncomputable abbrev vRule (u : RuV) : AV := .v (.agg (ra u))
noncomputable abbrev vSt (s : StV) : AV := .v (.agg (sa s))
end Go.Proofs.Ytjjnboenehomgaa.vt
end
