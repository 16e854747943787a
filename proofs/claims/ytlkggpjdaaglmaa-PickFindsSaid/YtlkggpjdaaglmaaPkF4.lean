import Derived.Test.YtlkggpjdaaglmaaPkF3
import Derived.Sort.Grow
import Derived.Lib.SlicesCompact
import Derived.ChangeOld
import Derived.OpenShut
import Derived.Below
import Derived.Test.YtlkggpjdaaglmaaPkF2
import Derived.Test.YtlkggpjdaaglmaaProg
import Derived.IntWalk
import Derived.Lib.Walk
import Derived.Test.YtlkggpjdaaglmaaPkF0
section
namespace Go.Proofs.Ytlkggpjdaaglmaa.am
open Go.ChangeShapes Go.WideShapes Go.ChangeAt Go.RowKit
set_option linter.unusedVariables false
set_option linter.unusedSimpArgs false
theorem cg {P : Program} {N f : Nat} {dst : Option Nat} {first caps : List Cap} {args cargs : List AV} {ch : List AO} {ch' : List (Option AO)} {res : AV} {st : St} {K : St → Prop} (hrow : Row P f cargs ch res ch') (σ : List Nat) (hk : K ((st.wr (wrs (nmap σ ch.length st.nx) 0 ch') 8).put dst (res.ren (nmap σ ch.length st.nx)))) (hfit : fitVs ch.length (fun i => σ.getD i 0) cargs (first.map capV ++ args ++ caps.map capV) := by first | (simp [*]; done) | fail) (ho : covO (hlk st.hp) ch.length (fun i => σ.getD i 0) (ch.map some) σ := by first | (simp [*]; done) | fail) (hnd : σ.Nodup := by first | decide | (simp; done) | fail) (hl : ch'.length ≤ ch.length + 8 := by first | decide | (simp; done) | fail) (hl' : ch.length ≤ ch'.length := by first | decide | (simp; done) | fail) (hd : dok N dst = true := by rfl) :
    CallK P N dst (.v (.c (.fn (.func f) first caps))) args st K := ⟨f, first, caps, cargs, ch, res, ch', σ, rfl, hrow, hfit, ho, hnd, hl, hl', hd, hk⟩
theorem dg {P : Program} {N f : Nat} {dst : Option Nat} {first caps : List Cap} {args cargs : List AV} {ch : List AO} {ch' : List (Option AO)} {res : AV} {st : St} {K : List Nat → List Nat → St → Prop} (hrow : Row P f cargs ch res ch') (σ : List Nat) (hk : K σ ((wrs (nmap σ ch.length st.nx) 0 ch').map (·.1)) ((st.wr (wrs (nmap σ ch.length st.nx) 0 ch') 8).put dst (res.ren (nmap σ ch.length st.nx)))) (hfit : fitVs ch.length (fun i => σ.getD i 0) cargs (first.map capV ++ args ++ caps.map capV) := by first | (simp [*]; done) | fail) (ho : covO (hlk st.hp) ch.length (fun i => σ.getD i 0) (ch.map some) σ := by first | (simp [*]; done) | fail) (hnd : σ.Nodup := by first | decide | (simp; done) | fail) (hl : ch'.length ≤ ch.length + 8 := by first | decide | (simp; done) | fail) (hl' : ch.length ≤ ch'.length := by first | decide | (simp; done) | fail) (hd : dok N dst = true := by rfl) :
    CallD P N dst (.v (.c (.fn (.func f) first caps))) args st K := ⟨f, first, caps, cargs, ch, res, ch', σ, rfl, hrow, hfit, ho, hnd, hl, hl', hd, hk⟩
attribute [simp] wrs nmap AC.ren AT.ren AV.ren AO.ren Cap.ren
def FinG (P : Program) (rs : List ResultVar) (res : AV) (ch' : List (Option AO)) (r : List Nat) (st : St) : Prop :=
  match resV P st rs with
  | some x => fitV ch'.length (fun i => r.getD i 0) res x ∧ covO (hlk st.hp) ch'.length (fun i => r.getD i 0) ch' r
  | none => False
theorem fin_g {P : Program} {nb : Nat} {rs : List ResultVar} {res : AV} {ch' : List (Option AO)} {st : St} (r : List Nat) (h : FinG P rs res ch' r st) (hnd : r.Nodup := by first | decide | (simp; done)) (ht : r.take nb = List.range nb := by rfl) (hl : nb ≤ ch'.length := by first | decide | (simp; done)) : Fin P nb rs res ch' .ret st := by
  unfold FinG at h
  split at h
  · rename_i x hx; exact ⟨x, r, hx, h.1, h.2, hnd, ht, hl⟩
  · exact h.elim
section
variable {X : Ctx} {H : Nat → Option AO} {U : Nat → Prop} {γ : Nat → G} {S : CS} {w : World}
theorem Mem.nilarr (h : Mem X H U γ S w) {nm : Nat} (hn : U nm) (e : TypeId) (es : Nat) : Mem X (upd H nm (some (.arr e es []))) (fun x => U x ∧ x ≠ nm) (upd γ nm (.val (.slice none 0 0))) S w := by
  have m := h.nilrow hn e es
  refine { m with off := fun x hx => ?_, obj := fun x o hx => ?_ }
  · by_cases h1 : x = nm
    · subst h1; rw [upd_same] at hx; cases hx
    · rw [upd_ne _ _ h1] at hx; exact m.off x (by rw [upd_ne _ _ h1]; exact hx)
  · by_cases h1 : x = nm
    · subst h1; rw [upd_same] at hx; cases hx
      exact ⟨_, [], upd_same _ _ _, World.ownsRow_nil w 0 e es, fun i e j p h => by simp at h, fun e h => by simp at h, fun b hb => by cases hb⟩
    · rw [upd_ne _ _ h1] at hx; exact m.obj x o (by rw [upd_ne _ _ h1]; exact hx)
theorem nil_arr_rep {γ' : Nat → G} {v : Value} {nm es : Nat} (h : RepV γ S w v (.v (.c (.pv .nilS)))) (hg : γ' nm = .val (.slice none 0 0)) : RepC γ' S w v (.arr nm es 0) := by
  obtain rfl := nilS_inv h
  exact ⟨⟨none, 0, rfl⟩, .inr hg⟩
def AC.frz (id : Nat) (p : PV) : AC → AC
  | .arr i es n => if i = id then .pv p else .arr i es n
  | .vw i es lo n => if i = id then (match p with | .sl es' l => if es' = es ∧ lo + n ≤ l.length ∧ (lo = 0 ∨ 0 < n) then .pv (.sl es ((l.drop lo).take n)) else .top | _ => .top) else .vw i es lo n
  | c => c
def AT.frz (id : Nat) (p : PV) : AT → AT
  | .c x => .c (x.frz id p)
  | .agg l => .agg (l.map (AC.frz id p))
def AV.frz (id : Nat) (p : PV) : AV → AV
  | .v x => .v (x.frz id p)
  | .ep i es k o => if i = id then .top else .ep i es k o
  | .tup l => .tup (l.map (AT.frz id p))
  | x => x
def AO.frz (id : Nat) (p : PV) : AO → AO
  | .box l => .box (l.map (AC.frz id p))
  | o => o
theorem RepC.frz {γ' : Nat → G} {id : Nat} {p : PV} {v0 : Value} (hg : γ id = .val v0) (hp : RepP S w v0 p) (hγ : γ' = upd γ id .dead) (hG : GOn γ γ') {v : Value} {c : AC} (h : RepC γ S w v c) : RepC γ' S w v (c.frz id p) := by
  have hm : ∀ {c}, RepC γ S w v c → RepC γ' S w v c := fun h => h.mono hG (fun _ _ h => h) (fun _ _ _ => rfl)
  cases c with
  | arr i es n =>
    show RepC γ' S w v (if i = id then .pv p else .arr i es n)
    by_cases hi : i = id
    · rw [if_pos hi]
      subst hi
      rcases h.2 with k | k
      · rw [hg] at k; cases k
      · rw [hg] at k; cases k; exact hp
    · rw [if_neg hi]; exact hm h
  | vw i es lo n =>
    have h1 := h.one
    by_cases hi : i = id
    · subst hi
      unfold AC.frz
      dsimp only
      rw [if_pos rfl]
      split
      · rename_i es' l
        split
        · rename_i hc
          obtain ⟨rfl, hc, hd⟩ := hc
          obtain ⟨a, m, c, hx, a1, hl1, hl2, ha1, rfl⟩ := h
          rcases hx with k | k
          · rw [hg] at k; cases k
          rw [hg] at k; cases k
          obtain ⟨a2, c2, e2, hs⟩ := sl_inv hp
          injection e2 with q1 q2 q3
          subst q1 q2 q3
          have hln : ((l.drop lo).take n).length = n := by rw [List.length_take, List.length_drop]; omega
          have key := hs.part lo (lo + n) c (by omega) (by omega) (Nat.le_refl _) (by omega)
          have e3 : (l.take (lo + n)).drop lo = (l.drop lo).take n := by rw [List.drop_take]; congr 1; omega
          rw [e3] at key
          have key := sl_intro key
          rw [hln] at key
          rcases hd with hd | hd
          · subst hd
            have hz0 : ∀ z : Addr, z.add 0 = z := fun z => by unfold Addr.add; split <;> simp_all
            have e4 : a1 = a := by rw [ha1 (.inl rfl)]; cases a <;> simp [hz0]
            rw [e4]
            have e5 : (if c = 0 then a else a.map (·.add (0 * es'))) = a := by
              split
              · rfl
              · cases a <;> simp [hz0]
            rw [e5] at key
            exact key
          · rw [ha1 (.inr hd)]
            rw [if_neg (by omega)] at key
            exact key
        · exact h1
      · exact h1
    · unfold AC.frz
      dsimp only
      rw [if_neg hi]; exact hm h
  | _ => exact hm h
theorem RepCs.frz {γ' : Nat → G} {id : Nat} {p : PV} {v0 : Value} (hg : γ id = .val v0) (hp : RepP S w v0 p) (hγ : γ' = upd γ id .dead) (hG : GOn γ γ') {vs : List Value} {l : List AC} (h : RepCs γ S w vs l) : RepCs γ' S w vs (l.map (AC.frz id p)) := by
  refine ⟨by rw [List.length_map]; exact h.1, fun i c hi => ?_⟩
  obtain ⟨x, hx, rfl⟩ := map_at hi
  obtain ⟨v, h1, h2⟩ := h.2 i x hx
  exact ⟨v, h1, h2.frz hg hp hγ hG⟩
theorem RepT.frz {γ' : Nat → G} {id : Nat} {p : PV} {v0 : Value} (hg : γ id = .val v0) (hp : RepP S w v0 p) (hγ : γ' = upd γ id .dead) (hG : GOn γ γ') {v : Value} {c : AT} (h : RepT γ S w v c) : RepT γ' S w v (c.frz id p) := by
  cases c with
  | c x => exact RepC.frz hg hp hγ hG h
  | agg l => obtain ⟨cs, h1, h2⟩ := h; exact ⟨cs, h1, h2.frz hg hp hγ hG⟩
theorem RepV.frz {γ' : Nat → G} {id : Nat} {p : PV} {v0 : Value} (hg : γ id = .val v0) (hp : RepP S w v0 p) (hγ : γ' = upd γ id .dead) (hG : GOn γ γ') {v : Value} {c : AV} (h : RepV γ S w v c) : RepV γ' S w v (c.frz id p) := by
  cases c with
  | v x => exact RepT.frz hg hp hγ hG h
  | tup l =>
    obtain ⟨cs, h1, h2⟩ := h
    refine ⟨cs, h1, by rw [List.length_map]; exact h2.1, fun i c hi => ?_⟩
    obtain ⟨x, hx, rfl⟩ := map_at hi
    obtain ⟨v, h3, h4⟩ := h2.2 i x hx
    exact ⟨v, h3, h4.frz hg hp hγ hG⟩
  | ep i es k o =>
    show RepV γ' S w v (if i = id then .top else .ep i es k o)
    by_cases hi : i = id
    · rw [if_pos hi]; trivial
    · rw [if_neg hi]; exact RepV.mono hG (fun _ _ h => h) (fun _ _ _ => rfl) h
  | rp c o => exact h
  | top => trivial
end
section
variable {P : Program} {N nb : Nat} {st : St} {Q : Exit → St → Prop}
def St.nila (st : St) (t : Nat) (e : TypeId) (es : Nat) : St := ⟨(t, .v (.c (.arr st.nx es 0))) :: st.tm, (st.nx, some (.arr e es [])) :: st.hp, st.nx + 1⟩
theorem aw_nila {c : Code} (t : Nat) (e : TypeId) (es : Nat) (ht : lk st.tm t = .v (.c (.pv .nilS))) (h : AW P N nb c (st.nila t e es) Q) : AW P N nb c st Q := by
  refine aw_cov (fun X hX a w hr => ?_) h
  obtain ⟨h1, h2, γ, S, hm, ha⟩ := hr
  have hG := GOn.upd_un (hm.un st.nx (Nat.le_refl _)) (.val (.slice none 0 0))
  refine ⟨h1, h2, upd γ st.nx (.val (.slice none 0 0)), S, ?_, fun s => ?_⟩
  · have m := hm.nilarr (nm := st.nx) (Nat.le_refl _) e es
    show Mem X (hlk ((st.nx, some (.arr e es [])) :: st.hp)) _ _ _ _
    rw [hlk_cons]
    exact m.less (fun x hx => ⟨by have : st.nx + 1 ≤ x := hx
                                  omega, by have : st.nx + 1 ≤ x := hx
                                            omega⟩)
  · show RepV _ S w _ (lk ((t, .v (.c (.arr st.nx es 0))) :: st.tm) s)
    by_cases hs : s = t
    · subst hs
      rw [show lk ((s, AV.v (.c (.arr st.nx es 0))) :: st.tm) s = .v (.c (.arr st.nx es 0)) by simp [lk]]
      have := ha s; rw [ht] at this
      exact nil_arr_rep (es := es) this (upd_same _ _ _)
    · rw [show lk ((t, AV.v (.c (.arr st.nx es 0))) :: st.tm) s = lk st.tm s by simp [lk, hs]]
      exact (ha s).mono hG (fun _ _ h => h) (fun _ _ _ => rfl)
def St.frz (st : St) (id es : Nat) (l : List (List PV)) : St := ⟨st.tm.map fun p => (p.1, p.2.frz id (.sl es l)), st.hp.map fun p => (p.1, if p.1 = id then none else p.2.map (AO.frz id (.sl es l))), st.nx⟩
end
end Go.Proofs.Ytlkggpjdaaglmaa.am
end
section
namespace Go.Proofs.Ytlkggpjdaaglmaa.am
open Go.ChangeShapes Go.WideShapes Go.ChangeAt Go.RowKit
set_option linter.unusedVariables false
set_option linter.unusedSectionVars false
abbrev icL (L : List Int) : List (List PV) := L.map fun z => [.lit (.int .i64 z)]
section
variable {X : Ctx} {H : Nat → Option AO} {U : Nat → Prop} {γ : Nat → G} {S : CS} {w : World}
theorem arr_ints {x : Nat} {e : TypeId} {L : List Int} (h : Obj' γ S w x (.arr e 1 (icL L))) : ∃ v, γ x = .val v ∧ w.ownsRow 0 e 1 v L.length (L.map (Value.int .i64)) ∧ (∀ b, v.ownBlock = some b → ∀ o, ¬ S b o) := by
  obtain ⟨v, xs, h1, h2, h3, h4, h5⟩ := h
  rw [List.length_map] at h2
  have e : xs = L.map (Value.int .i64) := by
    apply List.ext_getElem?
    intro i
    by_cases hi : i < L.length
    · obtain ⟨u, k1, k2⟩ := h3 i [.lit (.int .i64 L[i])] 0 (.lit (.int .i64 L[i])) (by rw [List.getElem?_map, List.getElem?_eq_getElem hi]; rfl) rfl
      rw [show i * 1 + 0 = i by omega] at k1
      rw [k1, (lit_inv (γ := γ) (S := S) (w := w) k2).1, List.getElem?_map, List.getElem?_eq_getElem hi]; rfl
    · rw [List.getElem?_eq_none (by rw [h2.1]; omega), List.getElem?_eq_none (by rw [List.length_map]; omega)]
  subst e
  exact ⟨v, h1, h2, h5⟩
end
theorem one_arg {γ : Nat → G} {S : CS} {w : World} {vs : List Value} {id es n : Nat} (h : RepVs γ S w vs [.v (.c (.arr id es n))]) : ∃ a c, vs = [.slice a n c] ∧ (γ id = .dead ∨ γ id = .val (.slice a n c)) := by
  match vs, h with
  | [u], h =>
    obtain ⟨⟨⟨a, c, rfl⟩, k3⟩, _⟩ := h
    exact ⟨a, c, rfl, k3⟩
end Go.Proofs.Ytlkggpjdaaglmaa.am
end
section
namespace Go.Proofs.Ytlkggpjdaaglmaa.am
open Go.ChangeShapes Go.WideShapes Go.ChangeAt Go.RowKit
set_option linter.unusedVariables false
set_option linter.unusedSimpArgs false
def oldS (w : World) : CS := fun b _ => b < w.heap.size
def Ty (P : Program) : Nat → TypeId → List PV → Prop
  | 0, _, _ => False
  | n + 1, t, ps =>
    match P.underlying t with
    | some .bool => ∃ b, ps = [.lit (.bool b)]
    | some (.int k) => ∃ z, ps = [.lit (.int k z)] ∧ (Lit.int k z).wf = true
    | some .string => ∃ s : ByteArray, ps = [.lit (.string s)] ∧ s.size ≤ maxLen
    | some (.slice e) => ∃ l : List (List PV), ps = [.sl (P.cellsOf e) l] ∧ l.length ≤ maxLen ∧ ∀ x ∈ l, Ty P n e x
    | some (.struct fs) => ps.length = P.cellsOf t ∧ ∀ f ∈ fs.toList, Ty P n f.type ((ps.drop f.offset).take (P.cellsOf f.type))
    | _ => False
def contig (P : Program) : Nat → List Field → Nat → Bool
  | off, [], tot => decide (off = tot)
  | off, f :: fs, tot => decide (f.offset = off) && contig P (off + P.cellsOf f.type) fs tot
def okTy (P : Program) (cl : List TypeId) (t : TypeId) : Bool :=
  match P.underlying t with
  | some .bool => true
  | some (.int _) => true
  | some .string => true
  | some (.slice e) => cl.contains e && decide (0 < P.cellsOf e)
  | some (.struct fs) => (fs.toList.all fun f => cl.contains f.type) && contig P 0 fs.toList (P.cellsOf t)
  | _ => false
section
variable {P : Program} {S : CS} {w : World}
theorem RepPs.take {vs : List Value} {l : List PV} (h : RepPs S w vs l) (n : Nat) : RepPs S w (vs.take n) (l.take n) := by
  have := (RepPs.cs (γ := fun _ => .un)).1 h
  refine (RepPs.cs (γ := fun _ => .un)).2 ?_
  rw [List.map_take]; exact RepCs.take this n
theorem fields_rep {n : Nat} {cs : List Value} : ∀ (fs : List Field) (off tot : Nat) (ps0 : List PV), RepPs S w (cs.take off) ps0 → ps0.length = off → off ≤ cs.length → contig P off fs tot = true → tot = cs.length →
    (∀ f ∈ fs, ∃ q, RepPs S w ((cs.drop f.offset).take (P.cellsOf f.type)) q ∧ Ty P n f.type q) →
    ∃ ps, RepPs S w cs ps ∧ ps.take off = ps0 ∧ ∀ f ∈ fs, off ≤ f.offset ∧ Ty P n f.type ((ps.drop f.offset).take (P.cellsOf f.type))
  | [], off, tot, ps0, h0, hl, hle, hc, ht, _ => by
    have : off = tot := by simpa [contig] using hc
    subst this
    subst ht
    rw [List.take_length] at h0
    exact ⟨ps0, h0, by rw [← hl, List.take_length], fun f hf => by simp at hf⟩
  | f :: fs, off, tot, ps0, h0, hl, hle, hc, ht, hf => by
    unfold contig at hc
    rw [Bool.and_eq_true] at hc
    have hoff : f.offset = off := of_decide_eq_true hc.1
    obtain ⟨q, hq, hty⟩ := hf f (by simp)
    rw [hoff] at hq
    obtain ⟨sz, hsz⟩ : ∃ sz, P.cellsOf f.type = sz := ⟨_, rfl⟩
    rw [hsz] at hq hc
    have hend : off + sz ≤ cs.length := by
      have key : ∀ (fs : List Field) (o : Nat), contig P o fs tot = true → o ≤ tot := fun fs => by
        induction fs with
        | nil => intro o h; have : o = tot := by simpa [contig] using h
                 omega
        | cons g gs ih => intro o h; unfold contig at h; rw [Bool.and_eq_true] at h; have := ih _ h.2; omega
      have := key fs _ hc.2
      omega
    have hql : q.length = sz := by rw [← hq.1, List.length_take, List.length_drop]; omega
    have h1 : RepPs S w (cs.take (off + sz)) (ps0 ++ q) := by
      rw [List.take_add]; exact h0.append hq
    obtain ⟨ps, k1, k2, k3⟩ := fields_rep fs (off + sz) tot (ps0 ++ q) h1 (by rw [List.length_append, hl, hql]) hend hc.2 ht (fun g hg => hf g (by simp [hg]))
    refine ⟨ps, k1, ?_, fun g hg => ?_⟩
    · have : (ps.take (off + sz)).take off = (ps0 ++ q).take off := by rw [k2]
      rw [List.take_take, Nat.min_eq_left (by omega)] at this
      rw [this, ← hl, List.take_left']; rfl
    · rcases List.mem_cons.1 hg with rfl | hg
      · refine ⟨by omega, ?_⟩
        rw [hoff, hsz]
        have : (ps.take (off + sz)).drop off = (ps0 ++ q).drop off := by rw [k2]
        rw [List.drop_take, Nat.add_sub_cancel_left] at this
        rw [this, ← hl, List.drop_left']; · exact hty
        rfl
      · have := k3 g hg; exact ⟨by omega, this.2⟩
theorem trod_rep {H : Type} {enc : TypeId × Value → H} {cl : List TypeId} (hcl : cl.all (okTy P cl) = true) : ∀ (n : Nat) (t : TypeId) (cs : List Value) (y : DataW H × List MemPlace), t ∈ cl → DataW.trod enc P w 0 (fun _ => true) true n t cs = some y → ∃ ps, RepPs (oldS w) w cs ps ∧ Ty P n t ps := by
  intro n
  induction n with
  | zero => intro t cs y _ h; simp [DataW.trod] at h
  | succ n ih =>
    intro t cs y ht h
    have hok := List.all_eq_true.1 hcl t ht
    have one : ∀ {v : Value} {p : PV}, RepP (oldS w) w v p → RepPs (oldS w) w [v] [p] := fun {v p} hp => ⟨rfl, fun i c hc => by
      cases i with
      | zero => simp at hc; subst hc; exact ⟨v, rfl, hp⟩
      | succ i => simp at hc⟩
    unfold okTy at hok
    cases hu : P.underlying t with
    | none => rw [hu] at hok; cases hok
    | some u =>
      rw [hu] at hok
      unfold Ty
      rw [hu]
      cases u with
      | bool =>
        obtain ⟨b, rfl, _⟩ := DataW.trod_bool hu h
        exact ⟨_, one (.lit _ rfl), b, rfl⟩
      | int k =>
        obtain ⟨z, rfl, _, hz⟩ := DataW.trod_int hu h
        exact ⟨_, one (.lit _ rfl), z, rfl, hz⟩
      | string =>
        obtain ⟨s, rfl, _, hs⟩ := DataW.trod_string hu h
        exact ⟨_, one (.lit _ rfl), s, rfl, hs⟩
      | slice e =>
        dsimp only at hok
        rw [Bool.and_eq_true] at hok
        have he : e ∈ cl := by simpa using hok.1
        have hpos : 0 < P.cellsOf e := of_decide_eq_true hok.2
        rcases DataW.trod_slice hu h with ⟨rfl, _⟩ | ⟨x, len, cap, elems, rest, m, hmf, rfl, hd, _, hl, hm, hlen, hele, hsp, _⟩
        · exact ⟨_, one (.emp none 0 (P.cellsOf e) (by omega) (fun _ => rfl)), [], rfl, Nat.zero_le _, fun x hx => by simp at hx⟩
        · have hmn : m = n := by omega
          subst hmn
          rcases Nat.eq_zero_or_pos len with h0 | hn
          · subst h0
            exact ⟨_, one (.emp (some x) cap (P.cellsOf e) (by unfold maxLen at hm; omega) (fun h => by cases h)), [], rfl, Nat.zero_le _, fun x hx => by simp at hx⟩
          · obtain ⟨b, off, spot⟩ := x
            obtain ⟨sz, hsz⟩ : ∃ sz, P.cellsOf e = sz := ⟨_, rfl⟩
            rw [hsz] at hpos hele
            show ∃ ps, RepPs (oldS w) w [Value.slice (some ⟨b, off, spot⟩) len cap] ps ∧ ∃ l : List (List PV), ps = [.sl (P.cellsOf e) l] ∧ l.length ≤ maxLen ∧ ∀ x ∈ l, Ty P m e x
            rw [hsz]
            have each : ∀ i, i < len → ∃ cs y, w.cells? 0 ((⟨b, off, spot⟩ : Addr).add (i * sz)) sz = some cs ∧ DataW.trod enc P w 0 (fun _ => true) true m e cs = some y := by
              intro i hi
              have := hele i hi
              have hs : ∃ y, elems[i]? = some y := ⟨elems[i], List.getElem?_eq_getElem (by omega)⟩
              obtain ⟨y, hy⟩ := hs
              rw [hy] at this
              obtain ⟨cs, h1, h2⟩ := Option.bind_eq_some_iff.1 this
              exact ⟨cs, y, h1, h2⟩
            obtain ⟨cs0, y0, k0, _⟩ := each 0 hn
            have c0 := (World.cells?_some k0)
            have hspot : spot = none := by
              have h1 := c0.2.2 0 hpos
              have hlt : (0 : Nat) < cs0.length := by have := c0.2.1; omega
              rw [List.getElem?_eq_getElem hlt] at h1
              simpa [Addr.add] using World.cell?_spot h1
            subst hspot
            have hblk : b < w.heap.size := by
              have := World.cells?_block k0 hpos
              simpa [addr_add] using this
            obtain ⟨L, hL, hq⟩ := bs.choose_list len (fun i (x : List Value × List PV) => x.1.length = sz ∧ (∀ j, j < sz → w.cell? ⟨b, off + i * sz + j, none⟩ = x.1[j]?) ∧ RepPs (oldS w) w x.1 x.2 ∧ Ty P m e x.2) (fun i hi => by
              obtain ⟨cs, y, k1, k2⟩ := each i hi
              have k3 := World.cells?_some k1
              rw [addr_add] at k3
              obtain ⟨ps, p1, p2⟩ := ih e cs y he k2
              refine ⟨(cs, ps), k3.2.1, fun j hj => ?_, p1, p2⟩
              have := k3.2.2 j hj
              rwa [addr_add] at this)
            have at' : ∀ i e', (L.map (·.2))[i]? = some e' → ∃ x : List Value × List PV, L[i]? = some x ∧ e' = x.2 := fun i e' h => by
              rw [List.getElem?_map] at h
              obtain ⟨x, h1, h2⟩ := Option.map_eq_some_iff.1 h
              exact ⟨x, h1, h2.symm⟩
            refine ⟨_, one (.sl b off len cap sz (L.map (·.2)) (by rw [List.length_map, hL]) hn hl (by unfold maxLen at hm; omega) (fun e' he' => ?_)
              (fun i j => ((L[i]?).bind (fun x => x.1[j]?)).getD undef) (fun i e' j p h1 h2 => ?_) (fun i e' j p h1 h2 => ?_)), L.map (·.2), rfl, by rw [List.length_map, hL]; omega, fun x hx => ?_⟩
            · obtain ⟨i, hi⟩ := List.mem_iff_getElem?.1 he'
              obtain ⟨x, hx, rfl⟩ := at' i e' hi
              have := hq i x hx
              rw [← this.2.2.1.1, this.1]
            · obtain ⟨x, hx, rfl⟩ := at' i e' h1
              have := hq i x hx
              have hj : j < sz := by have := (List.getElem?_eq_some_iff.1 h2).1; rw [← (hq i x hx).2.2.1.1, (hq i x hx).1] at this; exact this
              refine ⟨hblk, ?_⟩
              rw [this.2.1 j hj, hx]
              obtain ⟨v, hv, _⟩ := this.2.2.1.2 j p h2
              rw [hv]; simp [hv]
            · obtain ⟨x, hx, rfl⟩ := at' i e' h1
              obtain ⟨v, hv, hr⟩ := (hq i x hx).2.2.1.2 j p h2
              rw [hx]; simp [hv]; exact hr
            · obtain ⟨i, hi⟩ := List.mem_iff_getElem?.1 hx
              obtain ⟨z, hz, rfl⟩ := at' i x hi
              exact (hq i z hz).2.2.2
      | struct fs =>
        dsimp only at hok
        rw [Bool.and_eq_true] at hok
        obtain ⟨xs, m, hmf, _, hcl', hxl, hg⟩ := DataW.trod_struct hu h
        have hmn : m = n := by omega
        subst hmn
        obtain ⟨ps, k1, _, k3⟩ := fields_rep (P := P) (S := oldS w) (w := w) (n := m) (cs := cs) fs.toList 0 (P.cellsOf t) [] ⟨by simp, fun i c h => by simp at h⟩ rfl (Nat.zero_le _) hok.2 hcl'.symm (fun f hf => by
          obtain ⟨i, hi⟩ := List.mem_iff_getElem?.1 hf
          have hi' : fs[i]? = some f := by simpa using hi
          have h1 := hg i f hi'
          have hlt : i < xs.length := by
            have := (Array.getElem?_eq_some_iff.1 hi').1
            omega
          rw [List.getElem?_eq_getElem hlt] at h1
          exact ih f.type _ _ (by have := List.all_eq_true.1 hok.1 f hf; simpa using this) h1)
        exact ⟨ps, k1, by rw [← k1.1, hcl'], fun f hf => (k3 f hf).2⟩
      | _ => cases hok
theorem open_cell {H : Type} {enc : TypeId × Value → H} {cl : List TypeId} {t : TypeId} {v : Value} {d : DataW H} {p : List MemPlace} (hcl : cl.all (okTy P cl) = true) (ht : t ∈ cl) (h1 : v.oneCell' = true) (h : DataW.Trod enc P w 0 (fun _ => true) true t v d p) : ∃ n q, RepV (fun _ => .un) (oldS w) w v (.v (.c (.pv q))) ∧ Ty P n t [q] := by
  obtain ⟨n, h⟩ := h
  have e : v.cells.toList = [v] := by cases v <;> simp_all [Value.oneCell', Value.cells]
  rw [e] at h
  obtain ⟨ps, k1, k2⟩ := trod_rep hcl n t _ _ ht h
  match ps, k1, k2 with
  | [q], k1, k2 =>
    obtain ⟨u, hu, hr⟩ := k1.2 0 q rfl
    simp at hu; subst hu
    exact ⟨n, q, hr, k2⟩
  | [], k1, _ => have := k1.1; simp at this
  | _ :: _ :: _, k1, _ => have := k1.1; simp at this
theorem calls_of_row {f : FuncId} {args : List AV} {vs : List Value} (h : Row P f args [] (.v (.c (.pv (.lit (.bool true))))) []) (hv : RepVs (fun _ => .un) (oldS w) w vs args) : Calls P f vs.toArray w fun e w' => e = .returned (.bool true) ∧ Below w.heap.size w w' := by
  have hm : Mem ⟨w, oldS w, fun _ => .un, []⟩ (fun x => ([] : List AO)[x]?) (fun x => ([] : List AO).length ≤ x) (fun _ => .un) (oldS w) w :=
    ⟨rfl, rfl, rfl, Nat.le_refl _, fun _ _ _ => rfl, fun _ _ h => ⟨h, rfl⟩, fun _ _ h => .inl h, fun _ _ h => h, GOn.refl _, fun _ _ => rfl, fun _ _ => .inl rfl, fun x o h => by simp at h, fun x y _ b h _ => by simp [G.bk] at h, fun x b h => by simp [G.bk] at h⟩
  refine (h.spec _ _ w vs hm hv).mono ?_
  rintro e w' ⟨v, γ', S', rfl, m, hr⟩
  obtain ⟨rfl, _⟩ := lit_inv hr
  exact ⟨rfl, m.os, m.tape, m.output, m.size, fun b hb => m.frame b hb (fun x h => by simp [G.bk] at h)⟩
end
end Go.Proofs.Ytlkggpjdaaglmaa.am
end
section
namespace Go.Proofs.Ytlkggpjdaaglmaa.am
open Go.ChangeShapes Go.WideShapes Go.ChangeAt Go.RowKit
set_option linter.unusedVariables false
abbrev newS (S : CS) (w w' : World) : CS := fun b o => S b o ∨ (w.heap.size ≤ b ∧ b < w'.heap.size)
theorem Mem.below {γ : Nat → G} {S : CS} {w w' : World} {ch : List AO} (hm : Mem ⟨w, S, γ, []⟩ (fun x => ch[x]?) (fun x => ch.length ≤ x) γ S w) (hb : Below w.heap.size w w') :
    Mem ⟨w, S, γ, []⟩ (fun x => ((ch.map some)[x]?).join) (fun x => (ch.map some).length ≤ x) γ (newS S w w') w' := by
  have hj : ∀ x, ((ch.map some)[x]?).join = ch[x]? := fun x => by
    rw [List.getElem?_map]
    cases ch[x]? <;> rfl
  refine ⟨hb.os, hb.tape, hb.output, hb.size, fun b h _ => hb.block b h, fun b o h => ⟨.inl h, hb.cell (p := ⟨b, o, none⟩) (hm.inb b o h)⟩, fun b o h => h.elim .inl (fun h => .inr (.inl h.1)), fun b o h => h.elim (fun h => Nat.lt_of_lt_of_le (hm.inb b o h) hb.size) (fun h => h.2), GOn.refl _,
    fun x hx => hm.un x (by rw [List.length_map] at hx; exact hx), fun x hx => hm.off x (by rw [← hj]; exact hx), fun x o hx => ?_, hm.dist, fun x b h => ⟨Nat.lt_of_lt_of_le (hm.live x b h).1 hb.size, (hm.live x b h).2⟩⟩
  refine Obj'.on (hm.obj x o (by rw [← hj]; exact hx)) rfl (GOn.refl _) (fun _ _ h => .inl h) (fun b o h => hb.cell (p := ⟨b, o, none⟩) (hm.inb b o h)) (fun b hbk => ⟨hb.block b (hm.live x b hbk).1, fun o h => h.elim (fun h => h) (fun h => ?_)⟩)
  have := (hm.live x b hbk).1
  exact absurd h.1 (Nat.not_le.2 this)
theorem spec_of_below {P : Program} {f : FuncId} {args : List AV} {ch : List AO} {res : AV}
    (h : ∀ (γ : Nat → G) (S : CS) (w : World) (vs : List Value), Mem ⟨w, S, γ, []⟩ (fun x => ch[x]?) (fun x => ch.length ≤ x) γ S w → RepVs γ S w vs args →
      Calls P f vs.toArray w fun e w' => ∃ v, e = .returned v ∧ Below w.heap.size w w' ∧ RepV γ (newS S w w') w' v res) : Spec P f args ch res (ch.map some) := fun γ S w vs hm hv => by
  refine (h γ S w vs hm hv).mono ?_
  rintro e w' ⟨v, h1, h2, h3⟩
  exact ⟨v, γ, newS S w w', h1, hm.below h2, h3⟩
end Go.Proofs.Ytlkggpjdaaglmaa.am
end
section
namespace Go.Proofs.Ytlkggpjdaaglmaa.vt
open Go.Proofs.Ytlkggpjdaaglmaa.am
set_option linter.unusedVariables false
inductive Tr (α : Type) where
  | mk (x : α) (l : List (Tr α))
namespace Tr
variable {α : Type}
def lab : Tr α → α
  | .mk x _ => x
def kids : Tr α → List (Tr α)
  | .mk _ l => l
theorem ind {P : Tr α → Prop} (h : ∀ x l, (∀ y ∈ l, P y) → P (.mk x l)) (t : Tr α) : P t :=
  Tr.rec (motive_1 := P) (motive_2 := fun l => ∀ y ∈ l, P y) h (fun y hy => by simp at hy) (fun x l hx hl y hy => by
    rcases List.mem_cons.1 hy with rfl | hy
    · exact hx
    · exact hl y hy) t
noncomputable def fold {β : Type} (g : α → List (Tr α) → List β → β) (t : Tr α) : β :=
  Tr.rec (motive_1 := fun _ => β) (motive_2 := fun _ => List β) (fun x l ih => g x l ih) [] (fun _ _ a b => a :: b) t
theorem fold_mk {β : Type} (g : α → List (Tr α) → List β → β) (x : α) (l : List (Tr α)) : fold g (.mk x l) = g x l (l.map (fold g)) := by
  show g x l _ = _
  congr 1
  induction l with
  | nil => rfl
  | cons y l ih => show fold g y :: _ = _; rw [ih]; rfl
noncomputable def size (t : Tr α) : Nat := fold (fun _ _ b => 1 + b.sum) t
theorem size_mk (x : α) (l : List (Tr α)) : size (.mk x l) = 1 + (l.map size).sum := fold_mk _ x l
theorem size_pos (t : Tr α) : 0 < size t := by cases t; rw [size_mk]; omega
theorem size_at {x : α} {l : List (Tr α)} {i : Nat} {y : Tr α} (h : l[i]? = some y) : size y < size (.mk x l) := by
  rw [size_mk]
  have : size y ≤ (l.map size).sum := by
    induction l generalizing i with
    | nil => simp at h
    | cons z l ih =>
      cases i with
      | zero => simp at h; subst h; simp
      | succ i => have := ih (by simpa using h); simp; omega
  omega
theorem len_size {x : α} {l : List (Tr α)} : l.length < size (.mk x l) := by
  rw [size_mk]
  have : l.length ≤ (l.map size).sum := by
    induction l with
    | nil => simp
    | cons z l ih => have := size_pos z; simp; omega
  omega
noncomputable def all (p : α → Prop) (t : Tr α) : Prop := fold (fun x _ b => p x ∧ ∀ q ∈ b, q) t
end Tr
structure Lab where
  k : Int
  n : Int
  s : ByteArray
  f : Int
  t : Int
def Lab.ok (x : Lab) : Prop := (-9223372036854775808 ≤ x.k ∧ x.k ≤ 9223372036854775807) ∧ (-9223372036854775808 ≤ x.n ∧ x.n ≤ 9223372036854775807) ∧ (-9223372036854775808 ≤ x.f ∧ x.f ≤ 9223372036854775807) ∧ (-9223372036854775808 ≤ x.t ∧ x.t ≤ 9223372036854775807)
abbrev VT := Tr Lab
abbrev I (z : Int) : PV := .lit (.int .i64 z)
abbrev Sx (s : ByteArray) : PV := .lit (.string s)
abbrev Bo (b : Bool) : PV := .lit (.bool b)
abbrev vI (z : Int) : AV := .v (.c (.pv (I z)))
abbrev vS (s : ByteArray) : AV := .v (.c (.pv (Sx s)))
abbrev vB (b : Bool) : AV := .v (.c (.pv (Bo b)))
noncomputable def tc (t : VT) : List PV := Tr.fold (fun x _ b => [I x.k, I x.n, Sx x.s, .sl 6 b, I x.f, I x.t]) t
theorem tc_mk (x : Lab) (l : List VT) : tc (.mk x l) = [I x.k, I x.n, Sx x.s, .sl 6 (l.map tc), I x.f, I x.t] := Tr.fold_mk _ x l
theorem tc_len (t : VT) : (tc t).length = 6 := by cases t; rw [tc_mk]; rfl
noncomputable def ta (t : VT) : List AC := (tc t).map .pv
theorem ta_mk (x : Lab) (l : List VT) : ta (.mk x l) = [.pv (I x.k), .pv (I x.n), .pv (Sx x.s), .pv (.sl 6 (l.map tc)), .pv (I x.f), .pv (I x.t)] := by unfold ta; rw [tc_mk]; rfl
noncomputable abbrev vT (t : VT) : AV := .v (.agg (ta t))
noncomputable abbrev vLs (l : List VT) : AV := .v (.c (.pv (.sl 6 (l.map tc))))
theorem ta_len (t : VT) : (ta t).length = 6 := by unfold ta; rw [List.length_map]; exact tc_len t
theorem mapM_pure (l : List PV) : (l.map AC.pv).mapM pureC = some l := by
  induction l with
  | nil => rfl
  | cons p l ih => rw [List.map_cons, List.mapM_cons, ih]; rfl
theorem ta_pure (t : VT) : (ta t).mapM pureC = some (tc t) := mapM_pure _
theorem fit_pure {n : Nat} {ρ : Nat → Nat} (l : List PV) : fitCs n ρ (l.map AC.pv) (l.map AC.pv) := by
  induction l with
  | nil => trivial
  | cons p l ih => exact ⟨fitP_refl p, ih⟩
theorem fit_ta {n : Nat} {ρ : Nat → Nat} (t : VT) : fitCs n ρ (ta t) (ta t) := fit_pure _
theorem ta_take (t : VT) : (ta t).take 6 = ta t := List.take_of_length_le (by rw [ta_len]; exact Nat.le_refl _)
attribute [simp] ta_mk tc_mk ta_len tc_len ta_pure fit_ta fit_pure ta_take
theorem ren_pure (ρ : Nat → Nat) (l : List PV) : (l.map AC.pv).map (AC.ren ρ) = l.map AC.pv := by
  rw [List.map_map]; rfl
theorem vT_ren (t : VT) (ρ : Nat → Nat) : (vT t).ren ρ = vT t := by
  show AV.v (.agg (((tc t).map AC.pv).map (AC.ren ρ))) = _
  rw [ren_pure]; rfl
end Go.Proofs.Ytlkggpjdaaglmaa.vt
end
section
namespace Go.Proofs.Ytlkggpjdaaglmaa.vt
open Go.Proofs.Ytlkggpjdaaglmaa.am
set_option linter.unusedVariables false
noncomputable def eqv (p : Lab → Lab → Bool) (t : VT) : VT → Bool := Tr.fold (fun x l bs u => p x u.lab && decide (l.length = u.kids.length) && (bs.zip u.kids).all (fun q => q.1 q.2)) t
def pS (x y : Lab) : Bool := decide (x.k = y.k) && decide (x.n = y.n) && decide (x.s = y.s)
noncomputable abbrev same (t u : VT) : Bool := eqv pS t u
end Go.Proofs.Ytlkggpjdaaglmaa.vt
end
section
namespace Go.Proofs.Ytlkggpjdaaglmaa.vt
open Go.Proofs.Ytlkggpjdaaglmaa.am
set_option linter.unusedVariables false
def plc (zto : List Int) (n : Int) : Int := if n < 0 then n else match zto[n.toNat]? with | some z => if z < 0 then n else z | none => n
end Go.Proofs.Ytlkggpjdaaglmaa.vt
end
section
namespace Go.Proofs.Ytlkggpjdaaglmaa.am
open vt
theorem td_term : td Try.prog 26 = some ⟨true, 6, 72, [.lit (.int .i64 0), .lit (.int .i64 0), .lit (.string ⟨#[]⟩), .nilS, .lit (.int .i64 0), .lit (.int .i64 0)], [(0, 1, false), (1, 1, false), (2, 1, false), (3, 1, false), (4, 1, false), (5, 1, false)], .struct⟩ := Eq.trans (by kernel_rfl) (Eq.refl _)
theorem td_terms : td Try.prog 24 = some ⟨false, 1, 24, [.nilS], [], (.slice 26)⟩ := Eq.trans (by kernel_rfl) (Eq.refl _)
theorem td_int : td Try.prog 3 = some ⟨false, 1, 8, [.lit (.int .i64 0)], [], (.int .i64)⟩ := Eq.trans (by kernel_rfl) (Eq.refl _)
theorem td_int64 : td Try.prog 2 = some ⟨false, 1, 8, [.lit (.int .i64 0)], [], (.int .i64)⟩ := Eq.trans (by kernel_rfl) (Eq.refl _)
theorem td_bool : td Try.prog 4 = some ⟨false, 1, 1, [.lit (.bool false)], [], .bool⟩ := Eq.trans (by kernel_rfl) (Eq.refl _)
theorem td_string : td Try.prog 9 = some ⟨false, 1, 16, [.lit (.string ⟨#[]⟩)], [], .string⟩ := Eq.trans (by kernel_rfl) (Eq.refl _)
attribute [simp] td_term td_terms td_int td_int64 td_bool td_string
theorem mixd : Try.prog.follows .mixedOrders = true := by kernel_rfl
end Go.Proofs.Ytlkggpjdaaglmaa.am
end
section
namespace Go.Proofs.Ytlkggpjdaaglmaa.am
open Go.ChangeShapes Go.WideShapes Go.ChangeAt Go.RowKit
open vt
set_option linter.unusedVariables false
set_option linter.unusedSimpArgs false
theorem td_ints : td Try.prog 30 = some ⟨false, 1, 24, [.nilS], [], (.slice 3)⟩ := Eq.trans (by kernel_rfl) (Eq.refl _)
attribute [simp] td_ints
abbrev Is (l : List Int) : PV := .sl 1 (l.map fun z => [I z])
abbrev vIs (l : List Int) : AV := .v (.c (.pv (Is l)))
end Go.Proofs.Ytlkggpjdaaglmaa.am
end
section
namespace Go.Proofs.Ytlkggpjdaaglmaa.am
open Go.ChangeShapes Go.WideShapes Go.ChangeAt Go.RowKit
open bs
set_option linter.unusedVariables false
theorem intT' : I64T Try.prog 30 3 := ⟨Try.underlying30, by kernel_rfl⟩
def ClI (p : List Int) (n : Nat) (w : World) (e : Ending) (w' : World) : Prop := ∃ (a : Option Addr) (c : Nat), e = .returned (.slice a n c) ∧ OwnI w' w.heap.size 3 a n c p ∧ Below w.heap.size w w'
set_option maxRecDepth 100000 in
set_option maxHeartbeats 1000000 in
theorem clonei_any (a : Option Addr) (n c : Nat) (p : List Int) (w : World) (hs : I64s w a n c p) (hn : n ≤ 1000000) : Calls Try.prog 73 #[.slice a n c] w (ClI p n w) := by
  rcases a with _ | ad
  · have h2 := hs.nil rfl
    have h1 : n = 0 := by have := hs.cap; omega
    subst h1 h2
    have hL : p = [] := List.eq_nil_of_length_eq_zero hs.len
    subst hL
    clear hs
    have heq : ∀ W : World, (binOp .eql 30 (.slice none 0 0) (.slice none 0 0)).run Try.prog W = .ok (.bool true) W := fun W => Lib.run_eql_slice_nil W _ _ none 0 0 0 0 Try.underlying30
    go_enter Try.func73, Try.ntmps73
    go_wp2
    go_ret
    exact ⟨none, 0, rfl, OwnI.nil _ _ _, Below.refl _ _⟩
  · have ho := OwnI.made w w.heap.size 3 [] #[] rfl (Nat.le_refl _) (by simp [maxLen]) (by simp [AllI])
    have hb : Below w.heap.size w (w.alloc (.cells #[] 3)) := (Below.refl _ _).alloc (Nat.le_refl _) _
    have HO := Lib.hid ho; have HB := Lib.hid hb; have HS := Lib.hid (hs.below hb)
    clear hs ho hb
    have heq : ∀ W : World, (binOp .eql 30 (.slice (some ad) n c) (.slice none 0 0)).run Try.prog W = .ok (.bool false) W := fun W => Lib.run_eql_slice_nil W _ _ (some ad) n c 0 0 Try.underlying30
    go_enter Try.func73, Try.ntmps73
    go_wp2_with (at_builtin; refine wpList_append_I intT' rfl _ _ rfl w.heap.size rfl HO.out rfl HS.out (by simp; omega) HB.out.size ?_)
    intro a2 c2 w2 ho2 hb2 _
    have HO2 := Lib.hid ho2; have HB2 := Lib.hid (HB.out.trans hb2)
    clear ho2 hb2
    go_wp2
    go_ret
    refine ⟨a2, c2, by simp, ?_, HB2.out⟩
    have := HO2.out
    simpa using this
theorem arr_i64s {γ : Nat → G} {S : CS} {w : World} {x : Nat} {e : TypeId} {L : List Int} (hL : AllI L) {a : Option Addr} {c : Nat} (h : Obj' γ S w x (.arr e 1 (icL L))) (hg : γ x = .val (.slice a L.length c)) : I64s w a L.length c L := by
  obtain ⟨v, h1, h2, _⟩ := arr_ints h
  rw [h1] at hg
  cases hg
  have h3 := h2.2
  rcases h3 with ⟨k, k0⟩ | ⟨g, cap, cur, k1, k0, k2, k3, k4, k5, k6⟩
  · injection k with q1 q2 q3
    subst q1 q3
    exact ⟨rfl, by omega, by omega, hL, fun _ => rfl, .inl q2⟩
  · cases k1
    refine ⟨rfl, k3, by unfold maxLen at k4; omega, hL, (fun h => by cases h), ?_⟩
    refine .inr ⟨g, 0, rfl, fun i hi => ?_⟩
    have := h2.cells (g := g) rfl i (.int .i64 L[i]) (by rw [List.getElem?_map, List.getElem?_eq_getElem hi]; rfl)
    rw [addr_add] at this
    rw [this, List.getD_eq_getElem?_getD, List.getElem?_eq_getElem hi]; rfl
theorem ic_flat : ∀ L : List Int, (icL L).flatten = L.map fun z => PV.lit (.int .i64 z)
  | [] => rfl
  | z :: L => by
    have := ic_flat L
    simp only [icL, List.map_cons, List.flatten_cons] at this ⊢
    rw [this]; rfl
theorem own_sl {S : CS} {w w' : World} {a : Option Addr} {c : Nat} {L : List Int} {e : TypeId} (h : OwnI w' w.heap.size e a L.length c L) : RepP (newS S w w') w' (.slice a L.length c) (.sl 1 (icL L)) := by
  have ho := h.own
  rcases ho.2 with ⟨k, k0⟩ | ⟨g, cap, cur, k1, k0, k2, k3, k4, k5, k6⟩
  · injection k with q1 q2 q3
    have hL : L = [] := List.eq_nil_of_length_eq_zero q2
    subst hL q1 q3
    exact .emp none 0 1 (by decide) (fun _ => rfl)
  · cases k1
    have hb := (Array.getElem?_eq_some_iff.1 k2).1
    have := sl_of_block (S := newS S w w') (w := w') (es := 1) (l := icL L) (fun e he => by obtain ⟨z, _, rfl⟩ := List.mem_map.1 he; rfl) (b := g) (xs := cellsI L) (c := c) ?_ (by rw [List.length_map]; exact k3) (by unfold maxLen at k4; omega) (fun k u hk => ?_)
    · rw [List.length_map] at this; exact this
    · refine ⟨by unfold cellsI; rw [List.length_map, flat_len (es := 1) (fun e he => by obtain ⟨z, _, rfl⟩ := List.mem_map.1 he; rfl), List.length_map, Nat.mul_one], fun i p hp => ?_⟩
      rw [ic_flat, List.getElem?_map] at hp
      obtain ⟨z, hz, rfl⟩ := Option.map_eq_some_iff.1 hp
      exact ⟨.int .i64 z, by unfold cellsI; rw [List.getElem?_map, hz]; rfl, RepP.lit _ rfl⟩
    · have := ho.cells (g := g) rfl k u hk
      rw [addr_add] at this
      refine ⟨.inr ⟨k0, hb⟩, by simpa using this⟩
theorem clonea_row (L : List Int) (hL : AllI L) (hl : L.length ≤ 1000000) : Row Try.prog 73 [.v (.c (.arr 0 1 L.length))] [.arr 3 1 (icL L)] (vIs L) [some (.arr 3 1 (icL L))] := by
  refine ⟨⟨_, Try.func73, rfl, rfl⟩, spec_of_below (ch := [.arr 3 1 (icL L)]) fun γ S w vs hm hv => ?_⟩
  obtain ⟨a, c, rfl, hg⟩ := one_arg hv
  have ho := hm.obj 0 _ rfl
  have hval : γ 0 = .val (.slice a L.length c) := by
    rcases hg with hg | hg
    · obtain ⟨v, h1, _⟩ := arr_ints ho
      rw [h1] at hg; cases hg
    · exact hg
  refine (clonei_any a L.length c L w (arr_i64s hL ho hval) hl).mono ?_
  rintro e w' ⟨a2, c2, rfl, h2, h3⟩
  exact ⟨_, rfl, h3, own_sl h2⟩
end Go.Proofs.Ytlkggpjdaaglmaa.am
end
section
namespace Go.Proofs.Ytlkggpjdaaglmaa.am
open Go.ChangeShapes Go.WideShapes Go.ChangeAt Go.RowKit
open vt bs
set_option linter.unusedVariables false
set_option linter.unusedSimpArgs false
theorem td_tell : td Try.prog 95 = some ⟨true, 3, 40, [.lit (.int .i64 0), .lit (.int .i64 0), .nilS], [(0, 1, false), (1, 1, false), (2, 1, false)], .struct⟩ := Eq.trans (by kernel_rfl) (Eq.refl _)
theorem td_ptell : td Try.prog 110 = some ⟨false, 1, 8, [.lit (.pointer none)], [], (.pointer 95)⟩ := Eq.trans (by kernel_rfl) (Eq.refl _)
theorem td_paths : td Try.prog 35 = some ⟨false, 1, 24, [.nilS], [], (.slice 30)⟩ := Eq.trans (by kernel_rfl) (Eq.refl _)
attribute [simp] td_tell td_ptell td_paths
def flatK (f : VT → List (List Int)) (l : List VT) : Nat → List (List Int)
  | 0 => []
  | k + 1 => flatK f l k ++ (match l[k]? with | some u => (f u).map ((k : Int) :: ·) | none => [])
def ptsD : Nat → VT → List (List Int)
  | 0, _ => []
  | n + 1, .mk x l => [] :: flatK (ptsD n) l l.length
def finF : Nat → VT → List Int → List Int
  | 0, _, p => p
  | n + 1, .mk x l, p => match l[l.length - 1]? with | some u => finF n u (p ++ [(l.length : Int) - 1]) | none => p
abbrev pcc' (p : List Int) : List PV := [Is p]
abbrev tlB (s d : Int) (i : Nat) (ps : List (List Int)) : AO := .box [.pv (I s), .pv (I d), .row i 1 (ps.map pcc')]
abbrev arP (p : List Int) : AO := .arr 3 1 (icL p)
abbrev rwP : AO := .row 30 1
set_option maxRecDepth 100000 in
set_option maxHeartbeats 4000000 in
theorem keep_row (s d : Int) (ps : List (List Int)) (p : List Int) (hp : AllI p) (hl : p.length ≤ 1000000) (hn : ps.length ≤ 1000000) : Row Try.prog 55 [.v (.c (.ptr 0 0)), .v (.c (.arr 1 1 p.length))] [tlB s d 2 ps, arP p, rwP] (.tup []) [some (tlB s d 3 (ps ++ [p])), some (arP p), none, some rwP] := by
  have e := clonea_row p hp hl
  have b1 : (ps.length + 1) * 24 ≤ 140737488355328 := by omega
  have b2 : ps.length + 1 ≤ 140737488355328 := by omega
  refine row_of Try.func55 rfl rfl (Nat.le_of_ble_eq_true rfl) ?_
  repeat' (first | refine aw_seq ?_ | refine aw_skip ?_ | refine aw_block ?_ | refine aw_exit ?_ | refine aw_cond rfl (fun _ => ?_) (fun hb => absurd hb (by decide)) | refine aw_cond rfl (fun hb => absurd hb (by decide)) (fun _ => ?_) | (refine aw_reg (fun K hK => ?_); simp -implicitDefEqProofs [b1, b2]) | (refine aw_drw mixd (fun K hK => ?_); simp -implicitDefEqProofs [b1, b2]) | refine hK _ ?_ | refine hK _ _ (by rfl) ?_ | (refine ar_call (cg e [1] ?_); simp -implicitDefEqProofs [b1, b2]) | (refine ard_call (dg e [1] ?_); simp -implicitDefEqProofs [b1, b2]) | fail)
  refine fin_fall (fin_g [0, 1, 2, 67] ?_); simp -implicitDefEqProofs [FinG, resV, resT] <;> try rfl
theorem sum_succ {l : List VT} {k : Nat} {u : VT} (h : l[k]? = some u) : ((l.take (k + 1)).map Tr.size).sum = ((l.take k).map Tr.size).sum + u.size := by
  rw [List.take_add_one, h]
  show ((l.take k ++ [u]).map Tr.size).sum = _
  rw [List.map_append, List.sum_append]; simp
theorem sum_take (l : List VT) (k : Nat) : ((l.take k).map Tr.size).sum ≤ (l.map Tr.size).sum := by
  conv => rhs; rw [← List.take_append_drop k l]
  rw [List.map_append, List.sum_append]; omega
theorem flat_len' {f : VT → List (List Int)} {l : List VT} (h : ∀ u ∈ l, (f u).length ≤ u.size) : ∀ k, k ≤ l.length → (flatK f l k).length ≤ ((l.take k).map Tr.size).sum
  | 0, _ => Nat.zero_le _
  | k + 1, hk => by
    have ih := flat_len' h k (by omega)
    obtain ⟨u, hu⟩ : ∃ u, l[k]? = some u := ⟨_, List.getElem?_eq_getElem (by omega)⟩
    rw [flatK, hu, sum_succ hu]
    simp only [List.length_append, List.length_map]
    have := h u (List.mem_of_getElem? hu)
    omega
theorem pts_len : ∀ (n : Nat) (t : VT), (ptsD n t).length ≤ t.size
  | 0, t => Nat.zero_le _
  | n + 1, .mk x l => by
    rw [ptsD, Tr.size_mk]
    have h1 := flat_len' (f := ptsD n) (l := l) (fun u _ => pts_len n u) l.length (Nat.le_refl _)
    have h2 := sum_take l l.length
    simp only [List.length_cons]
    omega
theorem fin_take : ∀ (n : Nat) (t : VT) (p : List Int), (finF n t p).take p.length = p ∧ p.length ≤ (finF n t p).length
  | 0, t, p => ⟨List.take_length, Nat.le_refl _⟩
  | n + 1, .mk x l, p => by
    rw [finF]
    cases h : l[l.length - 1]? with
    | none => exact ⟨List.take_length, Nat.le_refl _⟩
    | some u =>
      obtain ⟨h1, h2⟩ := fin_take n u (p ++ [(l.length : Int) - 1])
      dsimp only
      rw [List.length_append] at h1 h2
      simp only [List.length_cons, List.length_nil] at h1 h2
      refine ⟨?_, by omega⟩
      have := congrArg (List.take p.length) h1
      rw [List.take_take, Nat.min_eq_left (by omega), List.take_left] at this
      exact this
abbrev kF : AV := .v (.c (.fn (.func 55) [.ptr 0 0] []))
set_option maxRecDepth 100000 in
set_option maxHeartbeats 4000000 in
theorem walkL_row (s d : Int) (ps : List (List Int)) (p : List Int) (x : Lab) (hp : AllI p) (hl : p.length ≤ 1000000) (hn : ps.length ≤ 1000000) : Row Try.prog 54 [vT (.mk x []), .v (.c (.arr 1 1 p.length)), kF] [tlB s d 2 ps, arP p, rwP] (.v (.c (.arr 1 1 p.length))) [some (tlB s d 3 (ps ++ [p])), some (arP p), none, some rwP] := by
  have e := keep_row s d ps p hp hl hn
  refine row_of Try.func54 rfl rfl (Nat.le_of_ble_eq_true rfl) ?_
  repeat' (first | refine aw_seq ?_ | refine aw_skip ?_ | refine aw_block ?_ | refine aw_exit ?_ | refine aw_cond rfl (fun _ => ?_) (fun hb => absurd hb (by decide)) | refine aw_cond rfl (fun hb => absurd hb (by decide)) (fun _ => ?_) | (refine aw_reg (fun K hK => ?_); simp -implicitDefEqProofs) | (refine aw_drw mixd (fun K hK => ?_); simp -implicitDefEqProofs) | refine hK _ ?_ | refine hK _ _ (by rfl) ?_ | (refine ar_call (cg e [0,1,2] ?_); simp -implicitDefEqProofs) | (refine ard_call (dg e [0,1,2] ?_); simp -implicitDefEqProofs) | fail)
  refine aw_lp (ι := Unit) (fun k => mkSt [(1, .v (.c (.arr 1 1 p.length))), (14, vI 0), (15, vI 0)] [some (tlB s d 3 (ps ++ [p])), some (arP p), none, some rwP]) (fun k => True) (fun k => 0) () trivial (cov_intro [0, 1, 2, 7] (by simp -implicitDefEqProofs) (by simp -implicitDefEqProofs) (by decide) rfl (by simp)) (fun Z hI k hk => ?_)
  repeat (first | refine aw_seq ?_ | refine aw_skip ?_ | refine aw_block ?_ | refine aw_exit ?_ | refine aw_cond rfl (fun _ => ?_) (fun hb => absurd hb (by decide)) | refine aw_cond rfl (fun hb => absurd hb (by decide)) (fun _ => ?_) | (refine aw_reg (fun K hK => ?_); simp -implicitDefEqProofs; refine hK _ ?_) | (refine aw_drw mixd (fun K hK => ?_); simp -implicitDefEqProofs; refine hK _ _ (by rfl) ?_) | fail)
  refine aw_ret (fin_g [0, 1, 2, 3] ?_); simp -implicitDefEqProofs [FinG, resV, resT] <;> try rfl
theorem pts_leaf {n : Nat} {x : Lab} (h : 0 < n) : ptsD n (.mk x []) = [[]] := by
  cases n with
  | zero => omega
  | succ n => rfl
theorem fin_leaf {n : Nat} {x : Lab} (p : List Int) : finF n (.mk x []) p = p := by
  cases n with
  | zero => rfl
  | succ n => rfl
def psK (m : Nat) (l : List VT) (ps : List (List Int)) (p : List Int) (k : Nat) : List (List Int) := ps ++ [p] ++ (flatK (ptsD m) l k).map (p ++ ·)
def arK (m : Nat) (l : List VT) (p : List Int) (k : Nat) : List Int := match l[k - 1]? with | some u => finF m u (p ++ [((k - 1 : Nat) : Int)]) | none => p
theorem psK_succ {m : Nat} {l : List VT} {ps : List (List Int)} {p : List Int} {k : Nat} {u : VT} (h : l[k]? = some u) : psK m l ps p (k + 1) = psK m l ps p k ++ (ptsD m u).map ((p ++ [(k : Int)]) ++ ·) := by
  unfold psK
  rw [flatK, h]
  simp [List.map_append, List.append_assoc, Function.comp_def]
theorem arK_succ {m : Nat} {l : List VT} {p : List Int} {k : Nat} {u : VT} (h : l[k]? = some u) : arK m l p (k + 1) = finF m u (p ++ [(k : Int)]) := by
  unfold arK
  rw [Nat.add_sub_cancel, h]
theorem arK_take {m : Nat} {l : List VT} {p : List Int} {k : Nat} (h0 : 0 < k) (hk : k ≤ l.length) : (arK m l p k).take p.length = p ∧ p.length ≤ (arK m l p k).length := by
  obtain ⟨u, hu⟩ : ∃ u, l[k - 1]? = some u := ⟨_, List.getElem?_eq_getElem (by omega)⟩
  unfold arK
  rw [hu]
  obtain ⟨h1, h2⟩ := fin_take m u (p ++ [((k - 1 : Nat) : Int)])
  dsimp only
  rw [List.length_append] at h1 h2
  simp only [List.length_cons, List.length_nil] at h1 h2
  refine ⟨?_, by omega⟩
  have := congrArg (List.take p.length) h1
  rw [List.take_take, Nat.min_eq_left (by omega), List.take_left] at this
  exact this
set_option maxRecDepth 100000 in
set_option maxHeartbeats 4000000 in
theorem walk_row : ∀ (n : Nat) (x : Lab) (l : List VT), (Tr.mk x l).size ≤ n → l ≠ [] → ∀ (p : List Int) (s d : Int) (ps : List (List Int)), AllI p → p.length + n ≤ 1000000 → ps.length + (Tr.mk x l).size ≤ 1000000 →
    Row Try.prog 54 [vT (.mk x l), .v (.c (.arr 1 1 p.length)), kF] [tlB s d 2 ps, arP p, rwP] (.v (.c (.vw 4 1 0 p.length))) [some (tlB s d 3 (ps ++ (ptsD n (.mk x l)).map (p ++ ·))), none, none, some rwP, some (arP (finF n (.mk x l) p))] := by
  intro n
  induction n with
  | zero => intro x l h; have := Tr.size_pos (.mk x l); omega
  | succ m ih =>
    intro x l hsz hne p s d ps hp hpl hpsl
    have e := keep_row s d ps p hp (by omega) (by have := Tr.size_pos (.mk x l); omega)
    have hln : l.length < (Tr.mk x l).size := Tr.len_size
    have h0l : 0 < l.length := List.length_pos_iff.2 hne
    have hS := Tr.size_mk x l
    refine row_of Try.func54 rfl rfl (Nat.le_of_ble_eq_true rfl) ?_
    repeat' (first | refine aw_seq ?_ | refine aw_skip ?_ | refine aw_block ?_ | refine aw_exit ?_ | refine aw_cond rfl (fun _ => ?_) (fun hb => absurd hb (by decide)) | refine aw_cond rfl (fun hb => absurd hb (by decide)) (fun _ => ?_) | (refine aw_reg (fun K hK => ?_); simp -implicitDefEqProofs) | (refine aw_drw mixd (fun K hK => ?_); simp -implicitDefEqProofs) | refine hK _ ?_ | refine hK _ _ (by rfl) ?_ | (refine ar_call (cg e [0,1,2] ?_); simp -implicitDefEqProofs) | (refine ard_call (dg e [0,1,2] ?_); simp -implicitDefEqProofs) | fail)
    refine aw_lp (ι := Nat) (fun k => if k = 0 then mkSt [(1, .v (.c (.arr 1 1 p.length))), (2, kF), (13, vLs l), (14, vI (l.length : Nat)), (15, vI (k : Nat))] [some (tlB s d 3 (psK m l ps p k)), some (arP p), none, some rwP]
      else mkSt [(1, .v (.c (.vw 4 1 0 p.length))), (2, kF), (13, vLs l), (14, vI (l.length : Nat)), (15, vI (k : Nat))] [some (tlB s d 3 (psK m l ps p k)), none, none, some rwP, some (arP (arK m l p k))]) (fun k => k ≤ l.length) (fun k => l.length - k) 0 (Nat.zero_le _) (by rw [if_pos rfl]; exact cov_intro [0, 1, 2, 7] (by simp -implicitDefEqProofs [psK, flatK]) (by simp -implicitDefEqProofs [psK, flatK]) (by decide) rfl (by simp)) (fun Z hI k hk => ?_)
    have hfl := flat_len' (f := ptsD m) (l := l) (fun u _ => pts_len m u) k hk
    have hpk : (psK m l ps p k).length = ps.length + 1 + (flatK (ptsD m) l k).length := by unfold psK; simp; omega
    by_cases hkl : k < l.length; rotate_left
    · have hke : k = l.length := by omega
      subst hke
      have hk0 : ¬ l.length = 0 := by omega
      rw [if_neg hk0]
      have e1 : finF (m + 1) (.mk x l) p = arK m l p l.length := by
        unfold arK
        rw [finF]
        obtain ⟨u, hu⟩ : ∃ u, l[l.length - 1]? = some u := ⟨_, List.getElem?_eq_getElem (by omega)⟩
        rw [hu]
        dsimp only
        rw [show ((l.length - 1 : Nat) : Int) = (l.length : Int) - 1 by omega]
      have e2 : ps ++ (ptsD (m + 1) (.mk x l)).map (p ++ ·) = psK m l ps p l.length := by
        unfold psK; rw [ptsD]; simp
      rw [e1, e2]
      repeat (first | refine aw_seq ?_ | refine aw_skip ?_ | refine aw_block ?_ | refine aw_exit ?_ | refine aw_cond rfl (fun _ => ?_) (fun hb => absurd hb (by decide)) | refine aw_cond rfl (fun hb => absurd hb (by decide)) (fun _ => ?_) | (refine aw_reg (fun K hK => ?_); simp -implicitDefEqProofs; refine hK _ ?_) | (refine aw_drw mixd (fun K hK => ?_); simp -implicitDefEqProofs; refine hK _ _ (by rfl) ?_) | fail)
      refine aw_ret (fin_g [0, 1, 2, 3, 4] ?_); simp -implicitDefEqProofs [FinG, resV, resT] <;> try rfl
    obtain ⟨⟨ux, ul⟩, hu⟩ : ∃ a, l[k]? = some a := ⟨_, List.getElem?_eq_getElem hkl⟩
    have hu' := (List.getElem?_eq_some_iff.1 hu).2
    have hss := sum_succ hu
    have hst := sum_take l (k + 1)
    have husz : (Tr.mk ux ul).size < (Tr.mk x l).size := Tr.size_at hu
    have w2 : IntKind.i64.wrap ((k : Nat) + 1 : Int) = (k : Nat) + 1 := i64i _ (by omega) (by omega)
    have b1 : (p.length + 1) * 8 ≤ 140737488355328 := by omega
    have b2 : p.length + 1 ≤ 140737488355328 := by omega
    have b3 : (p.length : Int) ≤ (p.length : Int) + 1 := by omega
    have hpq : AllI (p ++ [(k : Int)]) := fun z hz => by
      rcases List.mem_append.1 hz with hz | hz
      · exact hp z hz
      · rw [List.mem_singleton] at hz; omega
    have hpq' : (p ++ [(k : Int)]).length = p.length + 1 := by simp
    have hp2 := psK_succ (m := m) (ps := ps) (p := p) hu
    have ha2 := arK_succ (m := m) (p := p) hu
    by_cases hul : ul = []
    · subst hul
      have r := walkL_row s d (psK m l ps p k) (p ++ [(k : Int)]) ux hpq (by omega) (by omega)
      rw [pts_leaf (by have := Tr.size_pos (Tr.mk ux []); omega)] at hp2
      rw [fin_leaf] at ha2
      have hp3 : psK m l ps p (k + 1) = psK m l ps p k ++ [p ++ [(k : Int)]] := by rw [hp2]; simp
      by_cases hk0 : k = 0
      · rw [if_pos hk0]
        rw [hpq'] at r
        repeat' (first | refine aw_seq ?_ | refine aw_skip ?_ | refine aw_block ?_ | refine aw_exit ?_ | refine aw_cond rfl (fun _ => ?_) (fun hb => absurd hb (by decide)) | refine aw_cond rfl (fun hb => absurd hb (by decide)) (fun _ => ?_) | (refine aw_reg (fun K hK => ?_); simp -implicitDefEqProofs [hkl, hu, hu', w2, b1, b2, b3]) | (refine aw_drw mixd (fun K hK => ?_); simp -implicitDefEqProofs [hkl, hu, hu', w2, b1, b2, b3]) | refine hK _ ?_ | refine hK _ _ (by rfl) ?_ | (refine ar_call (cg r [0,43,3] ?_); simp -implicitDefEqProofs [hkl, hu, hu', w2, b1, b2, b3]) | (refine ard_call (dg r [0,43,3] ?_); simp -implicitDefEqProofs [hkl, hu, hu', w2, b1, b2, b3]) | fail)
        refine ⟨k + 1, (by dsimp only; omega), (by dsimp only; omega), ?_⟩
        rw [hI, if_neg (Nat.succ_ne_zero k), hp3, ha2]
        exact cov_intro [0, 1, 2, 59, 43] (by simp -implicitDefEqProofs) (by simp -implicitDefEqProofs) (by decide) rfl (by simp)
      · rw [if_neg hk0]
        obtain ⟨hT1, hT2⟩ := arK_take (m := m) (p := p) (Nat.pos_of_ne_zero hk0) hk
        generalize arK m l p k = q at hT1 hT2
        have hT3 : List.take p.length (q.map fun z => [PV.lit (.int .i64 z)]) = p.map fun z => [PV.lit (.int .i64 z)] := by rw [← List.map_take, hT1]
        rw [hpq'] at r
        repeat' (first | refine aw_seq ?_ | refine aw_skip ?_ | refine aw_block ?_ | refine aw_exit ?_ | refine aw_cond rfl (fun _ => ?_) (fun hb => absurd hb (by decide)) | refine aw_cond rfl (fun hb => absurd hb (by decide)) (fun _ => ?_) | (refine aw_reg (fun K hK => ?_); simp -implicitDefEqProofs [hkl, hu, hu', w2, b1, b2, b3, hT1, hT2, hT3]) | (refine aw_drw mixd (fun K hK => ?_); simp -implicitDefEqProofs [hkl, hu, hu', w2, b1, b2, b3, hT1, hT2, hT3]) | refine hK _ ?_ | refine hK _ _ (by rfl) ?_ | (refine ar_call (cg r [0,44,3] ?_); simp -implicitDefEqProofs [hkl, hu, hu', w2, b1, b2, b3, hT1, hT2, hT3]) | (refine ard_call (dg r [0,44,3] ?_); simp -implicitDefEqProofs [hkl, hu, hu', w2, b1, b2, b3, hT1, hT2, hT3]) | fail)
        refine ⟨k + 1, (by dsimp only; omega), (by dsimp only; omega), ?_⟩
        rw [hI, if_neg (Nat.succ_ne_zero k), hp3, ha2]
        exact cov_intro [0, 1, 2, 60, 44] (by simp -implicitDefEqProofs) (by simp -implicitDefEqProofs) (by decide) rfl (by simp)
    · have r := ih ux ul (by omega) hul (p ++ [(k : Int)]) s d (psK m l ps p k) hpq (by omega) (by omega)
      rw [← hp2, ← ha2, hpq'] at r
      by_cases hk0 : k = 0
      · rw [if_pos hk0]
        repeat' (first | refine aw_seq ?_ | refine aw_skip ?_ | refine aw_block ?_ | refine aw_exit ?_ | refine aw_cond rfl (fun _ => ?_) (fun hb => absurd hb (by decide)) | refine aw_cond rfl (fun hb => absurd hb (by decide)) (fun _ => ?_) | (refine aw_reg (fun K hK => ?_); simp -implicitDefEqProofs [hkl, hu, hu', w2, b1, b2, b3]) | (refine aw_drw mixd (fun K hK => ?_); simp -implicitDefEqProofs [hkl, hu, hu', w2, b1, b2, b3]) | refine hK _ ?_ | refine hK _ _ (by rfl) ?_ | (refine ar_call (cg r [0,43,3] ?_); simp -implicitDefEqProofs [hkl, hu, hu', w2, b1, b2, b3]) | (refine ard_call (dg r [0,43,3] ?_); simp -implicitDefEqProofs [hkl, hu, hu', w2, b1, b2, b3]) | fail)
        refine ⟨k + 1, (by dsimp only; omega), (by dsimp only; omega), ?_⟩
        rw [hI, if_neg (Nat.succ_ne_zero k)]
        exact cov_intro [0, 1, 2, 59, 60] (by simp -implicitDefEqProofs) (by simp -implicitDefEqProofs) (by decide) rfl (by simp)
      · rw [if_neg hk0]
        obtain ⟨hT1, hT2⟩ := arK_take (m := m) (p := p) (Nat.pos_of_ne_zero hk0) hk
        generalize arK m l p k = q at hT1 hT2
        have hT3 : List.take p.length (q.map fun z => [PV.lit (.int .i64 z)]) = p.map fun z => [PV.lit (.int .i64 z)] := by rw [← List.map_take, hT1]
        repeat' (first | refine aw_seq ?_ | refine aw_skip ?_ | refine aw_block ?_ | refine aw_exit ?_ | refine aw_cond rfl (fun _ => ?_) (fun hb => absurd hb (by decide)) | refine aw_cond rfl (fun hb => absurd hb (by decide)) (fun _ => ?_) | (refine aw_reg (fun K hK => ?_); simp -implicitDefEqProofs [hkl, hu, hu', w2, b1, b2, b3, hT1, hT2, hT3]) | (refine aw_drw mixd (fun K hK => ?_); simp -implicitDefEqProofs [hkl, hu, hu', w2, b1, b2, b3, hT1, hT2, hT3]) | refine hK _ ?_ | refine hK _ _ (by rfl) ?_ | (refine ar_call (cg r [0,44,3] ?_); simp -implicitDefEqProofs [hkl, hu, hu', w2, b1, b2, b3, hT1, hT2, hT3]) | (refine ard_call (dg r [0,44,3] ?_); simp -implicitDefEqProofs [hkl, hu, hu', w2, b1, b2, b3, hT1, hT2, hT3]) | fail)
        refine ⟨k + 1, (by dsimp only; omega), (by dsimp only; omega), ?_⟩
        rw [hI, if_neg (Nat.succ_ne_zero k)]
        exact cov_intro [0, 1, 2, 60, 61] (by simp -implicitDefEqProofs) (by simp -implicitDefEqProofs) (by decide) rfl (by simp)
end Go.Proofs.Ytlkggpjdaaglmaa.am
end
