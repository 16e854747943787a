/-
  A machine of values: a region that draws its order comes to what it comes to in its order. No program is named here.
-/
import Derived.Test.YthifckknijdgfaaAm16
namespace Go.Proofs.Ythifckknijdgfaa.am
open Go.ChangeShapes Go.WideShapes Go.ChangeAt Go.RowKit
set_option linter.unusedVariables false
set_option linter.unusedSimpArgs false

/-- What is known of the pairs. -/
structure Ord (l : List Oper) (its : List Itm) : Prop where
  os : its.map (·.o) = l
  low : ∀ (i : Nat) o, l[i]? = some o → ∀ j ∈ deps o, j < i
  pairs : ∀ (i j : Nat) x y, i < j → its[i]? = some x → its[j]? = some y → conf (l.map (·.dst)) x.o y.o ⟨x.d.F, x.d.W.map (·.1)⟩ ⟨y.d.F, y.d.W.map (·.1)⟩ = true → ((ancs l []).getD j 0).testBit i = true
theorem ord_of {l : List Oper} {its : List Itm} (hos : its.map (·.o) = l) (h : okD l (its.map fun x => ⟨x.d.F, x.d.W.map (·.1)⟩) = true) : Ord l its := by
  unfold okD at h
  simp only [Bool.and_eq_true] at h
  obtain ⟨⟨h1, _⟩, h3⟩ := h
  refine ⟨hos, fun i o hi j hj => ?_, fun i j x y hij hx hy hc => ?_⟩
  · have := List.all_eq_true.1 h1 (o, i) (by rw [List.mem_iff_getElem?]; exact ⟨i, by rw [List.getElem?_zipIdx, hi]; simp⟩)
    have := List.all_eq_true.1 this j hj
    simpa using this
  · have key := okPairs_spec h3 i j (x.o, ⟨x.d.F, x.d.W.map (·.1)⟩) (y.o, ⟨y.d.F, y.d.W.map (·.1)⟩) hij (by rw [← hos, List.zip_map', List.getElem?_map, hx]; rfl) (by rw [← hos, List.zip_map', List.getElem?_map, hy]; rfl) hc
    simpa using key

section
variable {P : Program} {X : Ctx} {N : Nat} {l : List Oper} {its : List Itm} {T0 : Nat → AV} {H0 : Nat → Option AO} {nx : Nat}
def Lo (listed : Array Bool) (i : Nat) : Bool := listed.getD i false
def Clo (l : List Oper) (L : Nat → Bool) : Prop := ∀ (i : Nat) o, l[i]? = some o → L i = true → ∀ j ∈ deps o, L j = true
def UL (nx n : Nat) (L : Nat → Bool) (x : Nat) : Prop := nx + 8 * n ≤ x ∨ ∃ j, j < n ∧ L j = false ∧ nx + 8 * j ≤ x ∧ x < nx + 8 * j + 8
theorem clo_anc (ho : Ord l its) {L : Nat → Bool} (hc : Clo l L) {i : Nat} (hi : i < l.length) (hL : L i = true) {j : Nat} (hj : ((ancs l []).getD i 0).testBit j = true) : L j = true :=
  ancs_spec l [] L [] rfl (fun i hi => by simp at hi) (fun i o hx hL j hj => hc i o (by simpa using hx) hL j hj) (fun i o hx j hj => by have := ho.low i o hx j hj; simpa using this) i (by simpa using hi) j hj hL
/-- An operation that is ready has all behind it that it must not pass. -/
theorem order_spec (ho : Ord l its) {L : Nat → Bool} (hc : Clo l L) {i : Nat} {x : Itm} (hx : its[i]? = some x) (hL : L i = false) (hd : ∀ j ∈ deps x.o, L j = true) {j : Nat} {y : Itm} (hy : its[j]? = some y) :
    (j < i → conf (l.map (·.dst)) y.o x.o ⟨y.d.F, y.d.W.map (·.1)⟩ ⟨x.d.F, x.d.W.map (·.1)⟩ = true → L j = true) ∧ (i < j → conf (l.map (·.dst)) x.o y.o ⟨x.d.F, x.d.W.map (·.1)⟩ ⟨y.d.F, y.d.W.map (·.1)⟩ = true → L j = false) := by
  have hlx : l[i]? = some x.o := by rw [← ho.os, List.getElem?_map, hx]; rfl
  have hly : l[j]? = some y.o := by rw [← ho.os, List.getElem?_map, hy]; rfl
  constructor
  · intro hij hcf
    have hanc := ho.pairs j i y x hij hy hx hcf
    have hc' : Clo l (fun k => L k || k == i) := fun k o hk hLk q hq => by
      by_cases hki : k = i
      · subst hki
        rw [hlx] at hk; cases hk
        simp [hd q hq]
      · have hLk' : L k = true := by simpa [hki] using hLk
        simp [hc k o hk hLk' q hq]
    have := clo_anc ho hc' (i := i) (List.getElem?_eq_some_iff.1 hlx).1 (by simp) hanc
    have hne : j ≠ i := by omega
    simpa [hne] using this
  · intro hij hcf
    have hanc := ho.pairs i j x y hij hx hy hcf
    cases hLj : L j with
    | false => rfl
    | true =>
      have := clo_anc ho hc (i := j) (List.getElem?_eq_some_iff.1 hly).1 hLj hanc
      rw [this] at hL; cases hL
theorem meet_yes {a b : List Nat} {x : Nat} (h1 : x ∈ a) (h2 : x ∈ b) : meet a b = true := by
  unfold meet; rw [List.any_eq_true]; exact ⟨x, h1, by simpa using h2⟩
theorem set_lo {listed : Array Bool} {i : Nat} (hi : i < listed.size) : Lo (listed.setIfInBounds i true) i = true ∧ ∀ j, j ≠ i → Lo (listed.setIfInBounds i true) j = Lo listed j := by
  constructor
  · simp [Lo, hi]
  · intro j hj; simp [Lo, Array.getElem?_setIfInBounds_ne (Ne.symm hj)]

theorem any_sound {st' : St} {Q : Exit → Act → World → Prop} (ho : Ord l its) (hch : Chain P N (l.map (·.dst)) its T0 H0 nx) (hT : lk st'.tm = TF (fun _ => true) 0 its T0) (hH : hlk st'.hp = HF (fun _ => true) 0 its H0) (hnx : st'.nx = nx + 8 * l.length)
    (hQ : ∀ a w, Rel X N st' a w → Q .normal a w) : ∀ (fuel : Nat) (listed : Array Bool) (a : Act) (w : World), listed.size = l.length → cnt (Lo listed) l.length ≤ fuel → Clo l (Lo listed) → RelF X N (TF (Lo listed) 0 its T0) (HF (Lo listed) 0 its H0) (UL nx l.length (Lo listed)) a w → wpAny P .any l.toArray Q fuel listed a w := by
  have hil : its.length = l.length := by rw [← ho.os, List.length_map]
  -- all are done
  have done : ∀ (listed : Array Bool) (a : Act) (w : World), (∀ i, i < l.length → Lo listed i = true) → RelF X N (TF (Lo listed) 0 its T0) (HF (Lo listed) 0 its H0) (UL nx l.length (Lo listed)) a w → Q .normal a w := fun listed a w hall hr => by
    obtain ⟨h1, h2, γ, S, hm, ha⟩ := hr
    have e1 : TF (Lo listed) 0 its T0 = lk st'.tm := by
      rw [hT]; funext t
      exact TF_congr rfl (fun i x hi _ => by rw [Nat.zero_add, hall i (by rw [← hil]; exact (List.getElem?_eq_some_iff.1 hi).1)])
    have e2 : HF (Lo listed) 0 its H0 = hlk st'.hp := by
      rw [hH]; funext t
      exact HF_congr rfl (fun i x hi _ => by rw [Nat.zero_add, hall i (by rw [← hil]; exact (List.getElem?_eq_some_iff.1 hi).1)])
    rw [e1] at ha; rw [e2] at hm
    exact hQ a w ⟨h1, h2, γ, S, hm.less (fun x hx => .inl (by rw [hnx] at hx; exact hx)), ha⟩
  have allof : ∀ (listed : Array Bool), listed.size = l.length → Region.ready .any l.toArray listed = [] → ∀ i, i < l.length → Lo listed i = true := fun listed hsz hre i => by
    induction i using Nat.strongRecOn with
    | ind i ih =>
      intro hi
      cases hLi : Lo listed i with
      | true => rfl
      | false =>
        have hmem : i ∈ Region.ready .any l.toArray listed := by
          rw [mem_ready]
          refine ⟨?_, l[i], by simp [hi], fun e he hb => ?_⟩
          · have : i < listed.size := by omega
            simp [Lo, this] at hLi ⊢; exact hLi
          · have hd : e.on ∈ deps l[i] := by
              unfold deps; rw [List.mem_map]; exact ⟨e, List.mem_filter.2 ⟨by simpa using he, hb⟩, rfl⟩
            exact ih e.on (ho.low i _ (List.getElem?_eq_getElem hi) _ hd) (by have := ho.low i _ (List.getElem?_eq_getElem hi) _ hd; omega)
        rw [hre] at hmem; cases hmem
  intro fuel
  induction fuel with
  | zero =>
    intro listed a w hsz hcnt hclo hr
    have hall := cnt_zero (Nat.le_zero.1 hcnt)
    refine ⟨?_, done listed a w hall hr⟩
    rw [List.eq_nil_iff_forall_not_mem]
    intro i hi
    obtain ⟨h1, o, h2, _⟩ := mem_ready.1 hi
    have hlt : i < l.length := by have := (Array.getElem?_eq_some_iff.1 h2).1; simpa using this
    have := hall i hlt
    have hs : i < listed.size := by omega
    simp [Lo, hs] at this h1
    rw [this] at h1; cases h1
  | succ fuel ih =>
    intro listed a w hsz hcnt hclo hr
    refine ⟨fun hre => done listed a w (allof listed hsz hre) hr, fun i hi => ?_⟩
    obtain ⟨h1, o, h2, h3⟩ := mem_ready.1 hi
    have hlt : i < l.length := by have := (Array.getElem?_eq_some_iff.1 h2).1; simpa using this
    have hs : i < listed.size := by omega
    have hLi : Lo listed i = false := by simp [Lo, hs] at h1 ⊢; exact h1
    have hlo : l[i]? = some o := by simpa using h2
    obtain ⟨x, hx⟩ : ∃ x, its[i]? = some x := ⟨its[i]'(by omega), List.getElem?_eq_getElem _⟩
    have hxo : x.o = o := by rw [← ho.os, List.getElem?_map, hx] at hlo; simpa using hlo
    subst hxo
    have hdep : ∀ j ∈ deps x.o, Lo listed j = true := fun j hj => by
      unfold deps at hj
      obtain ⟨e, he, rfl⟩ := List.mem_map.1 hj
      obtain ⟨he1, he2⟩ := List.mem_filter.1 he
      exact h3 e (by simpa using he1) he2
    obtain ⟨c1, c2, c3, c4⟩ := chain_at (k := 0) hch i x hx
    simp only [Nat.zero_add] at c1 c3
    -- what it looks at is as it was
    have agT : ∀ t, t ∈ looks (l.map (·.dst)) x.o → TF (Lo listed) 0 its T0 t = TF (fun j => decide (j < i)) 0 its T0 t := fun t ht =>
      TF_congr rfl (fun j y hj hd => by
        rw [Nat.zero_add]
        have os := order_spec ho hclo hx hLi hdep hj
        rcases Nat.lt_trichotomy j i with hji | rfl | hji
        · rw [os.1 hji (by unfold conf; rw [meet_yes (x := t) (by rw [hd]; simp) (List.mem_append.2 (.inl ht))]; rfl)]; simp [hji]
        · rw [hLi]; simp
        · rw [os.2 hji (by unfold conf; rw [meet_yes (a := y.o.dst.toList) (x := t) (by rw [hd]; simp) ht]; simp)]; simp; omega)
    have agH : ∀ n, n ∈ x.d.F → HF (Lo listed) 0 its H0 n = HF (fun j => decide (j < i)) 0 its H0 n := fun n hn =>
      HF_congr rfl (fun j y hj hd => by
        rw [Nat.zero_add]
        have os := order_spec ho hclo hx hLi hdep hj
        rcases Nat.lt_trichotomy j i with hji | rfl | hji
        · rw [os.1 hji (by unfold conf; rw [meet_yes (a := y.d.W.map (·.1)) (x := n) hd (List.mem_append.2 (.inl hn))]; simp)]; simp [hji]
        · rw [hLi]; simp
        · rw [os.2 hji (by unfold conf; rw [meet_yes (a := y.d.W.map (·.1)) (b := x.d.F) (x := n) hd hn]; simp)]; simp; omega)
    have hguard : gdF (l.map (·.dst)) (TF (Lo listed) 0 its T0) x.o.guard = some x.d.x := by
      rw [← c1]
      unfold gdF
      cases hg : x.o.guard with
      | none => rfl
      | some gw =>
        obtain ⟨g, want⟩ := gw
        dsimp only
        cases hdg : ((l.map (·.dst))[g]?).join with
        | none => rfl
        | some d =>
          dsimp only
          rw [agT d (by unfold looks; rw [hg]; simp only [hdg]; simp)]
    have hw : Region.wanted x.o (yielded l.toArray a.tmps) = x.d.x := gdF_wanted hr l.toArray x.o (by simpa using hguard)
    -- what is there behind it
    obtain ⟨sl1, sl2⟩ := set_lo (listed := listed) hs
    have later : ∀ (j : Nat) y, its[j]? = some y → i < j → conf (l.map (·.dst)) x.o y.o ⟨x.d.F, x.d.W.map (·.1)⟩ ⟨y.d.F, y.d.W.map (·.1)⟩ = true → Lo listed j = false := fun j y hj hij hc => (order_spec ho hclo hx hLi hdep hj).2 hij hc
    have eT : putT (TF (Lo listed) 0 its T0) x.o.dst x.d.v = TF (Lo (listed.setIfInBounds i true)) 0 its T0 := by
      funext t
      by_cases hd : x.o.dst = some t
      · rw [putT_eq hd, TF_last hx hd (by rw [Nat.zero_add]; exact sl1) (fun j y hj hyd hij => by
          rw [Nat.zero_add, sl2 j (by omega)]
          exact later j y hj hij (by unfold conf; rw [meet_yes (a := x.o.dst.toList) (x := t) (by rw [hd]; simp) (List.mem_append.2 (.inr (by rw [hyd]; simp)))]; rfl))]
      · rw [putT_ne hd]
        exact TF_congr rfl (fun j y hj hyd => by
          rw [Nat.zero_add, sl2 j (fun e => by subst e; rw [hx] at hj; cases hj; exact hd hyd)])
    have eH : wrH (HF (Lo listed) 0 its H0) x.d.W = HF (Lo (listed.setIfInBounds i true)) 0 its H0 := by
      funext n
      by_cases hd : n ∈ x.d.W.map (·.1)
      · rw [HF_last (HF (Lo listed) 0 its H0) hx hd (by rw [Nat.zero_add]; exact sl1) (fun j y hj hyd hij => by
          rw [Nat.zero_add, sl2 j (by omega)]
          exact later j y hj hij (by unfold conf; rw [meet_yes (a := x.d.W.map (·.1)) (x := n) hd (List.mem_append.2 (.inr hyd))]; simp))]
      · rw [wrH_out hd]
        exact HF_congr rfl (fun j y hj hyd => by
          rw [Nat.zero_add, sl2 j (fun e => by subst e; rw [hx] at hj; cases hj; exact hd hyd)])
    have hclo' : Clo l (Lo (listed.setIfInBounds i true)) := fun k o hk hLk q hq => by
      by_cases hki : k = i
      · subst hki
        rw [hlo] at hk; cases hk
        by_cases hqi : q = k
        · rw [hqi]; exact sl1
        · rw [sl2 q hqi]; exact hdep q hq
      · rw [sl2 k hki] at hLk
        by_cases hqi : q = i
        · rw [hqi]; exact sl1
        · rw [sl2 q hqi]; exact hclo k o hk hLk q hq
    have hcnt' : cnt (Lo (listed.setIfInBounds i true)) l.length ≤ fuel := by
      have := cnt_set hLi sl1 sl2 hlt
      omega
    have next : ∀ a' w', RelF X N (putT (TF (Lo listed) 0 its T0) x.o.dst x.d.v) (wrH (HF (Lo listed) 0 its H0) x.d.W) (fun y => UL nx l.length (Lo listed) y ∧ ¬ (nx + 8 * i ≤ y ∧ y < nx + 8 * i + 8)) a' w' → wpAny P .any l.toArray Q fuel (listed.setIfInBounds i true) a' w' := fun a' w' hr' => by
      refine ih (listed.setIfInBounds i true) a' w' (by simp [hsz]) hcnt' hclo' ?_
      obtain ⟨k1, k2, γ, S, k3, k4⟩ := hr'
      rw [eH] at k3
      rw [eT] at k4
      refine ⟨k1, k2, γ, S, k3.less (fun y hy => ?_), k4⟩
      rcases hy with hy | ⟨j, hj, hLj, h4, h5⟩
      · exact ⟨.inl hy, fun h => by omega⟩
      · have hji : j ≠ i := fun e => by rw [e, sl1] at hLj; cases hLj
        rw [sl2 j hji] at hLj
        exact ⟨.inr ⟨j, hj, hLj, h4, h5⟩, fun h => by omega⟩
    unfold wpOp
    simp only [h2, hw]
    cases hdx : x.d.x with
    | true =>
      rw [if_pos rfl]
      refine .inl (dstep_sound (nm := nx + 8 * i) (dstep_congr (c3 hdx) (fun t ht => agT t (by unfold looks; rw [List.mem_append]; left; exact List.mem_filterMap.2 ⟨.tmp t, by simpa using ht, rfl⟩)) agH) c2 hr (fun y h4 h5 => .inr ⟨i, hlt, hLi, h4, h5⟩) next)
    | false =>
      rw [if_neg (by simp)]
      obtain ⟨v1, v2, v3⟩ := c4 hdx
      obtain ⟨k1, k2, γ, S, k3, k4⟩ := hr
      refine next _ _ ⟨by rw [act_put_defers]; exact k1, by rw [act_put_size]; exact k2, γ, S, ?_, repF_put k2 k4 c2 (by rw [v1]; exact undef_rep)⟩
      rw [v3]
      exact k3.less (fun y hy => hy.1)

theorem aw_draw {nb : Nat} {st : St} {Q : Exit → St → Prop} (hm : P.follows .mixedOrders = true) {id : Nat} (h : ARD P N (l.map (·.dst)) l st [] (fun st' lg => okD l lg = true ∧ Q .normal st')) : AW P N nb (.region id l.toArray true) st Q := fun X hX a w hr Q' hQ => by
  obtain ⟨its, st', k1, k2, k3, k4, k5, k6, k7⟩ := ard_chain l st [] h
  have ho := ord_of k1 (by simpa using k6)
  refine wp_region_any hm (any_sound ho k2 k3 k4 k5 (fun a w hr' => hQ _ _ _ _ k7 hr') _ _ a w.drew (by simp) ?_ (fun i o hi hL => ?_) ?_)
  · have : ∀ (L : Nat → Bool) n, cnt L n ≤ n := fun L n => by
      induction n with
      | zero => exact Nat.le_refl _
      | succ n ih => unfold cnt; split <;> omega
    simpa using this _ _
  · simp [Lo] at hL
    have : i < l.length := (List.getElem?_eq_some_iff.1 hi).1
    simp [this] at hL
  · have noT : ∀ (its : List Itm) (k : Nat) (T : Nat → AV), TF (Lo (Array.replicate l.toArray.size false)) k its T = T := fun its => by
      induction its with
      | nil => intro k T; rfl
      | cons x r ih =>
        intro k T; unfold TF
        rw [if_neg, ih]
        simp [Lo]; by_cases hk : k < l.length <;> simp [hk]
    have noH : ∀ (its : List Itm) (k : Nat) (T : Nat → Option AO), HF (Lo (Array.replicate l.toArray.size false)) k its T = T := fun its => by
      induction its with
      | nil => intro k T; rfl
      | cons x r ih =>
        intro k T; unfold HF
        rw [if_neg, ih]
        simp [Lo]; by_cases hk : k < l.length <;> simp [hk]
    obtain ⟨h1, h2, γ, S, m, ha⟩ := hr
    rw [noT, noH]
    refine ⟨h1, h2, γ, S, m.drew.less (fun x hx => ?_), fun t => RepV.mono (w := w) (w' := w.drew) (GOn.refl _) (fun _ _ h => h) (fun _ _ _ => rfl) (ha t)⟩
    rcases hx with hx | ⟨j, _, _, hx, _⟩ <;> omega
theorem aw_drw {nb : Nat} {st : St} {Q : Exit → St → Prop} (hm : P.follows .mixedOrders = true) {id : Nat} (h : ∀ K : St → List Lg → Prop, (∀ st' lg, okD l lg = true → Q .normal st' → K st' lg) → ARD P N (l.map (·.dst)) l st [] K) : AW P N nb (.region id l.toArray true) st Q := aw_draw hm (h _ (fun _ _ h1 h2 => ⟨h1, h2⟩))
end
/-- Calls that are handed values alone. -/
theorem call_pure {P : Program} {N f : Nat} {dst : Option Nat} {args cargs : List AV} {res : AV} {st : St} {K : St → Prop} (hrow : Row P f cargs [] res []) (hfit : fitVs 0 (fun _ => 0) cargs args) (hr : ∀ ρ, res.ren ρ = res) (hd : dok N dst = true) (hk : K ((st.wr [] 8).put dst res)) :
    CallK P N dst (.v (.c (.fn (.func f) [] []))) args st K :=
  ⟨f, [], [], cargs, [], res, [], [], rfl, hrow, by simpa using hfit, trivial, List.nodup_nil, by simp, by simp, hd, by rw [hr]; exact hk⟩
theorem calld_pure {P : Program} {N f : Nat} {dst : Option Nat} {args cargs : List AV} {res : AV} {st : St} {K : List Nat → List Nat → St → Prop} (hrow : Row P f cargs [] res []) (hfit : fitVs 0 (fun _ => 0) cargs args) (hr : ∀ ρ, res.ren ρ = res) (hd : dok N dst = true) (hk : K [] [] ((st.wr [] 8).put dst res)) :
    CallD P N dst (.v (.c (.fn (.func f) [] []))) args st K :=
  ⟨f, [], [], cargs, [], res, [], [], rfl, hrow, by simpa using hfit, trivial, List.nodup_nil, by simp, by simp, hd, by rw [hr]; exact hk⟩
/-- Calls that are handed one variable besides. -/
theorem call_box {P : Program} {N f : Nat} {dst : Option Nat} {first caps : List Cap} {args cargs : List AV} {o o' : AO} {res : AV} {st : St} {K : St → Prop} (hrow : Row P f cargs [o] res [o']) (id : Nat) (hfit : fitVs 1 (fun i => [id].getD i 0) cargs (first.map capV ++ args ++ caps.map capV)) (ho : covO (hlk st.hp) 1 (fun i => [id].getD i 0) [some o] [id]) (hr : ∀ ρ, res.ren ρ = res) (ho' : ∀ ρ, o'.ren ρ = o') (hd : dok N dst = true) (hk : K ((st.wr [(id, some o')] 8).put dst res)) :
    CallK P N dst (.v (.c (.fn (.func f) first caps))) args st K :=
  ⟨f, first, caps, cargs, [o], res, [o'], [id], rfl, hrow, hfit, ho, by simp, by simp, by simp, hd, by rw [hr]; have e : wrs (nmap [id] [o].length st.nx) 0 [o'] = [(id, some o')] := by simp [wrs, nmap, ho']
                                                                                                       rw [e]; exact hk⟩
theorem calld_box {P : Program} {N f : Nat} {dst : Option Nat} {first caps : List Cap} {args cargs : List AV} {o o' : AO} {res : AV} {st : St} {K : List Nat → List Nat → St → Prop} (hrow : Row P f cargs [o] res [o']) (id : Nat) (hfit : fitVs 1 (fun i => [id].getD i 0) cargs (first.map capV ++ args ++ caps.map capV)) (ho : covO (hlk st.hp) 1 (fun i => [id].getD i 0) [some o] [id]) (hr : ∀ ρ, res.ren ρ = res) (ho' : ∀ ρ, o'.ren ρ = o') (hd : dok N dst = true) (hk : K [id] [id] ((st.wr [(id, some o')] 8).put dst res)) :
    CallD P N dst (.v (.c (.fn (.func f) first caps))) args st K :=
  ⟨f, first, caps, cargs, [o], res, [o'], [id], rfl, hrow, hfit, ho, by simp, by simp, by simp, hd, by rw [hr]; have e : wrs (nmap [id] [o].length st.nx) 0 [o'] = [(id, some o')] := by simp [wrs, nmap, ho']
                                                                                                       rw [e]; exact hk⟩
/-- .. of a call that is handed one variable besides. -/
def FinB (P : Program) (rs : List ResultVar) (res : AV) (o' : AO) (st : St) : Prop :=
  match resV P st rs with
  | some x => fitV 1 (fun i => [0].getD i 0) res x ∧ covO (hlk st.hp) 1 (fun i => [0].getD i 0) [some o'] [0]
  | none => False
theorem fin_box {P : Program} {rs : List ResultVar} {res : AV} {o' : AO} {st : St} (h : FinB P rs res o' st) : Fin P 1 rs res [o'] .ret st := by
  unfold FinB at h
  split at h
  · rename_i x hx; exact ⟨x, [0], hx, h.1, h.2, by simp, rfl, Nat.le_refl _⟩
  · exact h.elim
theorem fin_fall {P : Program} {nb : Nat} {rs : List ResultVar} {res : AV} {ch' : List (Option AO)} {st : St} (h : Fin P nb rs res ch' .ret st) : Fin P nb rs res ch' .normal st := h
/-- Where two ways meet. -/
def MtQ {ι : Type} (N nb : Nat) (I : ι → St) (C : ι → Prop) (Q : Exit → St → Prop) : Exit → St → Prop
  | .normal, st => ∃ y, C y ∧ Cov N nb st (I y)
  | e, st => Q e st
theorem aw_meet {P : Program} {N nb : Nat} {st : St} {Q : Exit → St → Prop} {ι : Type} {x y : Code} (I0 : ι → St) (C : ι → Prop) (h : ∀ I : ι → St, (∀ i, I i = I0 i) → AW P N nb x st (MtQ N nb I C Q)) (k : ∀ i, C i → AW P N nb y (I0 i) Q) : AW P N nb (.seq x y) st Q :=
  aw_seq (aw_mono (h I0 (fun _ => rfl)) (fun e st h => by
    cases e with
    | normal => obtain ⟨i, h1, h2⟩ := h; exact aw_cov h2 (k i h1)
    | _ => exact h))
end Go.Proofs.Ythifckknijdgfaa.am
