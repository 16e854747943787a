/-
  A machine of values: calls that are handed any variables, slices whose elements may be turned, results with slices of the call's own. No program is named here.
-/
import Derived.Test.YtlkggpjdaaglmaaDoorAmB
namespace Go.Proofs.YtlkggpjdaaglmaaDoor.am
open Go.ChangeShapes Go.WideShapes Go.ChangeAt Go.RowKit
set_option linter.unusedVariables false
set_option linter.unusedSimpArgs false

/-- Calls that are handed any variables. -/
theorem cg {P : Program} {N f : Nat} {dst : Option Nat} {first caps : List Cap} {args cargs : List AV} {ch : List AO} {ch' : List (Option AO)} {res : AV} {st : St} {K : St → Prop} (hrow : Row P f cargs ch res ch') (σ : List Nat) (hk : K ((st.wr (wrs (nmap σ ch.length st.nx) 0 ch') 8).put dst (res.ren (nmap σ ch.length st.nx)))) (hfit : fitVs ch.length (fun i => σ.getD i 0) cargs (first.map capV ++ args ++ caps.map capV) := by first | (simp [*]; done) | fail) (ho : covO (hlk st.hp) ch.length (fun i => σ.getD i 0) (ch.map some) σ := by first | (simp [*]; done) | fail) (hnd : σ.Nodup := by first | decide | (simp; done) | fail) (hl : ch'.length ≤ ch.length + 8 := by first | decide | (simp; done) | fail) (hl' : ch.length ≤ ch'.length := by first | decide | (simp; done) | fail) (hd : dok N dst = true := by rfl) :
    CallK P N dst (.v (.c (.fn (.func f) first caps))) args st K := ⟨f, first, caps, cargs, ch, res, ch', σ, rfl, hrow, hfit, ho, hnd, hl, hl', hd, hk⟩
theorem dg {P : Program} {N f : Nat} {dst : Option Nat} {first caps : List Cap} {args cargs : List AV} {ch : List AO} {ch' : List (Option AO)} {res : AV} {st : St} {K : List Nat → List Nat → St → Prop} (hrow : Row P f cargs ch res ch') (σ : List Nat) (hk : K σ ((wrs (nmap σ ch.length st.nx) 0 ch').map (·.1)) ((st.wr (wrs (nmap σ ch.length st.nx) 0 ch') 8).put dst (res.ren (nmap σ ch.length st.nx)))) (hfit : fitVs ch.length (fun i => σ.getD i 0) cargs (first.map capV ++ args ++ caps.map capV) := by first | (simp [*]; done) | fail) (ho : covO (hlk st.hp) ch.length (fun i => σ.getD i 0) (ch.map some) σ := by first | (simp [*]; done) | fail) (hnd : σ.Nodup := by first | decide | (simp; done) | fail) (hl : ch'.length ≤ ch.length + 8 := by first | decide | (simp; done) | fail) (hl' : ch.length ≤ ch'.length := by first | decide | (simp; done) | fail) (hd : dok N dst = true := by rfl) :
    CallD P N dst (.v (.c (.fn (.func f) first caps))) args st K := ⟨f, first, caps, cargs, ch, res, ch', σ, rfl, hrow, hfit, ho, hnd, hl, hl', hd, hk⟩
attribute [simp] wrs nmap AC.ren AT.ren AV.ren AO.ren Cap.ren

/-- What a call comes to, with whatever variables and new slices. -/
def FinG (P : Program) (rs : List ResultVar) (res : AV) (ch' : List (Option AO)) (r : List Nat) (st : St) : Prop :=
  match resV P st rs with
  | some x => fitV ch'.length (fun i => r.getD i 0) res x ∧ covO (hlk st.hp) ch'.length (fun i => r.getD i 0) ch' r
  | none => False
theorem fin_g {P : Program} {nb : Nat} {rs : List ResultVar} {res : AV} {ch' : List (Option AO)} {st : St} (r : List Nat) (h : FinG P rs res ch' r st) (hnd : r.Nodup := by first | decide | (simp; done)) (ht : r.take nb = List.range nb := by rfl) (hl : nb ≤ ch'.length := by first | decide | (simp; done)) : Fin P nb rs res ch' .ret st := by
  unfold FinG at h
  split at h
  · rename_i x hx; exact ⟨x, r, hx, h.1, h.2, hnd, ht, hl⟩
  · exact h.elim

section
variable {X : Ctx} {H : Nat → Option AO} {U : Nat → Prop} {γ : Nat → G} {S : CS} {w : World}
/-- nil, named: its elements may be turned. -/
theorem Mem.nilarr (h : Mem X H U γ S w) {nm : Nat} (hn : U nm) (e : TypeId) (es : Nat) : Mem X (upd H nm (some (.arr e es []))) (fun x => U x ∧ x ≠ nm) (upd γ nm (.val (.slice none 0 0))) S w := by
  have m := h.nilrow hn e es
  refine { m with off := fun x hx => ?_, obj := fun x o hx => ?_ }
  · by_cases h1 : x = nm
    · subst h1; rw [upd_same] at hx; cases hx
    · rw [upd_ne _ _ h1] at hx; exact m.off x (by rw [upd_ne _ _ h1]; exact hx)
  · by_cases h1 : x = nm
    · subst h1; rw [upd_same] at hx; cases hx
      exact ⟨_, [], upd_same _ _ _, World.ownsRow_nil w 0 e es, fun i e j p h => by simp at h, fun e h => by simp at h, fun b hb => by cases hb⟩
    · rw [upd_ne _ _ h1] at hx; exact m.obj x o (by rw [upd_ne _ _ h1]; exact hx)
theorem nil_arr_rep {γ' : Nat → G} {v : Value} {nm es : Nat} (h : RepV γ S w v (.v (.c (.pv .nilS)))) (hg : γ' nm = .val (.slice none 0 0)) : RepC γ' S w v (.arr nm es 0) := by
  obtain rfl := nilS_inv h
  exact ⟨⟨none, 0, rfl⟩, .inr hg⟩
/-- A slice of the call's own that has no elements yet: they may be turned. -/
theorem Mem.rowarr (h : Mem X H U γ S w) {id : Nat} {e : TypeId} {es : Nat} (hH : H id = some (.row e es)) {v : Value} (hv : RepC γ S w v (.row id es [])) : Mem X (upd H id (some (.arr e es []))) U γ S w ∧ RepC γ S w v (.arr id es 0) := by
  obtain ⟨v0, n, xs, g1, g2, g3⟩ := h.obj _ _ hH
  obtain ⟨h1, h2⟩ := hv
  have hvv : γ id = .val v := by
    rcases h2 with h2 | h2
    · rw [g1] at h2; cases h2
    · exact h2
  rw [g1] at hvv; cases hvv
  obtain ⟨a, c, rfl, hs⟩ := sl_inv h1
  have hn : n = 0 := by
    rcases g2.2 with ⟨k1, k2⟩ | ⟨g, cap, cur, k1, _⟩
    · exact k2
    · cases k1; rfl
  subst hn
  have hx0 : xs = [] := List.length_eq_zero_iff.1 (by rw [g2.1]; simp)
  subst hx0
  refine ⟨{ h with off := fun x hx => ?_, obj := fun x o hx => ?_ }, ⟨_, _, rfl⟩, .inr g1⟩
  · by_cases h1 : x = id
    · subst h1; rw [upd_same] at hx; cases hx
    · rw [upd_ne _ _ h1] at hx; exact h.off x hx
  · by_cases h1 : x = id
    · subst h1; rw [upd_same] at hx; cases hx
      exact ⟨_, [], g1, g2, fun i e j p h => by simp at h, fun e h => by simp at h, fun b hb o => g3 b hb o (by omega)⟩
    · rw [upd_ne _ _ h1] at hx; exact h.obj x o hx

/-! What was turned is turned no more -/
def AC.frz (id : Nat) (p : PV) : AC → AC
  | .arr i es n => if i = id then .pv p else .arr i es n
  | .vw i es lo n => if i = id then (match p with | .sl es' l => if es' = es ∧ lo + n ≤ l.length ∧ (lo = 0 ∨ 0 < n) then .pv (.sl es ((l.drop lo).take n)) else .top | _ => .top) else .vw i es lo n
  | c => c
def AT.frz (id : Nat) (p : PV) : AT → AT
  | .c x => .c (x.frz id p)
  | .agg l => .agg (l.map (AC.frz id p))
def AV.frz (id : Nat) (p : PV) : AV → AV
  | .v x => .v (x.frz id p)
  | .ep i es k o => if i = id then .top else .ep i es k o
  | .tup l => .tup (l.map (AT.frz id p))
  | x => x
def AO.frz (id : Nat) (p : PV) : AO → AO
  | .box l => .box (l.map (AC.frz id p))
  | o => o
theorem RepC.frz {γ' : Nat → G} {id : Nat} {p : PV} {v0 : Value} (hg : γ id = .val v0) (hp : RepP S w v0 p) (hγ : γ' = upd γ id .dead) (hG : GOn γ γ') {v : Value} {c : AC} (h : RepC γ S w v c) : RepC γ' S w v (c.frz id p) := by
  have hm : ∀ {c}, RepC γ S w v c → RepC γ' S w v c := fun h => h.mono hG (fun _ _ h => h) (fun _ _ _ => rfl)
  cases c with
  | arr i es n =>
    show RepC γ' S w v (if i = id then .pv p else .arr i es n)
    by_cases hi : i = id
    · rw [if_pos hi]
      subst hi
      rcases h.2 with k | k
      · rw [hg] at k; cases k
      · rw [hg] at k; cases k; exact hp
    · rw [if_neg hi]; exact hm h
  | vw i es lo n =>
    have h1 := h.one
    by_cases hi : i = id
    · subst hi
      unfold AC.frz
      dsimp only
      rw [if_pos rfl]
      split
      · rename_i es' l
        split
        · rename_i hc
          obtain ⟨rfl, hc, hd⟩ := hc
          obtain ⟨a, m, c, hx, a1, hl1, hl2, ha1, rfl⟩ := h
          rcases hx with k | k
          · rw [hg] at k; cases k
          rw [hg] at k; cases k
          obtain ⟨a2, c2, e2, hs⟩ := sl_inv hp
          injection e2 with q1 q2 q3
          subst q1 q2 q3
          have hln : ((l.drop lo).take n).length = n := by rw [List.length_take, List.length_drop]; omega
          have key := hs.part lo (lo + n) c (by omega) (by omega) (Nat.le_refl _) (by omega)
          have e3 : (l.take (lo + n)).drop lo = (l.drop lo).take n := by rw [List.drop_take]; congr 1; omega
          rw [e3] at key
          have key := sl_intro key
          rw [hln] at key
          rcases hd with hd | hd
          · subst hd
            have hz0 : ∀ z : Addr, z.add 0 = z := fun z => by unfold Addr.add; split <;> simp_all
            have e4 : a1 = a := by rw [ha1 (.inl rfl)]; cases a <;> simp [hz0]
            rw [e4]
            have e5 : (if c = 0 then a else a.map (·.add (0 * es'))) = a := by
              split
              · rfl
              · cases a <;> simp [hz0]
            rw [e5] at key
            exact key
          · rw [ha1 (.inr hd)]
            rw [if_neg (by omega)] at key
            exact key
        · exact h1
      · exact h1
    · unfold AC.frz
      dsimp only
      rw [if_neg hi]; exact hm h
  | _ => exact hm h
theorem RepCs.frz {γ' : Nat → G} {id : Nat} {p : PV} {v0 : Value} (hg : γ id = .val v0) (hp : RepP S w v0 p) (hγ : γ' = upd γ id .dead) (hG : GOn γ γ') {vs : List Value} {l : List AC} (h : RepCs γ S w vs l) : RepCs γ' S w vs (l.map (AC.frz id p)) := by
  refine ⟨by rw [List.length_map]; exact h.1, fun i c hi => ?_⟩
  obtain ⟨x, hx, rfl⟩ := map_at hi
  obtain ⟨v, h1, h2⟩ := h.2 i x hx
  exact ⟨v, h1, h2.frz hg hp hγ hG⟩
theorem RepT.frz {γ' : Nat → G} {id : Nat} {p : PV} {v0 : Value} (hg : γ id = .val v0) (hp : RepP S w v0 p) (hγ : γ' = upd γ id .dead) (hG : GOn γ γ') {v : Value} {c : AT} (h : RepT γ S w v c) : RepT γ' S w v (c.frz id p) := by
  cases c with
  | c x => exact RepC.frz hg hp hγ hG h
  | agg l => obtain ⟨cs, h1, h2⟩ := h; exact ⟨cs, h1, h2.frz hg hp hγ hG⟩
theorem RepV.frz {γ' : Nat → G} {id : Nat} {p : PV} {v0 : Value} (hg : γ id = .val v0) (hp : RepP S w v0 p) (hγ : γ' = upd γ id .dead) (hG : GOn γ γ') {v : Value} {c : AV} (h : RepV γ S w v c) : RepV γ' S w v (c.frz id p) := by
  cases c with
  | v x => exact RepT.frz hg hp hγ hG h
  | tup l =>
    obtain ⟨cs, h1, h2⟩ := h
    refine ⟨cs, h1, by rw [List.length_map]; exact h2.1, fun i c hi => ?_⟩
    obtain ⟨x, hx, rfl⟩ := map_at hi
    obtain ⟨v, h3, h4⟩ := h2.2 i x hx
    exact ⟨v, h3, h4.frz hg hp hγ hG⟩
  | ep i es k o =>
    show RepV γ' S w v (if i = id then .top else .ep i es k o)
    by_cases hi : i = id
    · rw [if_pos hi]; trivial
    · rw [if_neg hi]; exact RepV.mono hG (fun _ _ h => h) (fun _ _ _ => rfl) h
  | rp c o => exact h
  | top => trivial
theorem Mem.freeze (h : Mem X H U γ S w) {id : Nat} {e : TypeId} {es : Nat} {l : List (List PV)} (hH : H id = some (.arr e es l)) :
    ∃ (S' : CS) (v0 : Value), (∀ b o, S b o → S' b o) ∧ γ id = .val v0 ∧ RepP S' w v0 (.sl es l) ∧ Mem X (fun x => if x = id then none else (H x).map (AO.frz id (.sl es l))) U (upd γ id .dead) S' w := by
  obtain ⟨v0, xs, g1, g2, g3, g5, g4⟩ := h.obj _ _ hH
  have hG := GOn.kill g1
  have hown : ∀ b, v0.ownBlock = some b → (γ id).bk = some b := fun b hb => by rw [g1]; exact hb
  refine ⟨fun b o => S b o ∨ (v0.ownBlock = some b ∧ o < l.length * es), v0, fun _ _ h => .inl h, g1, ?_, ?_⟩
  · rcases g2.2 with ⟨k1, k2⟩ | ⟨g, cap, cur, k1, _, k3, k4, k5, k6, k7⟩
    · subst k1
      have : l = [] := List.length_eq_zero_iff.1 k2
      subst this
      exact .emp none 0 es (by decide) (fun _ => rfl)
    · subst k1
      refine sl_of_block (xs := xs) g5 ((arr_ps g2 g3 g5).mono (fun _ _ h => .inl h) (fun _ _ _ => rfl)) k4 (by unfold maxLen at k5; omega) (fun k u hk => ?_)
      have hk1 : k < l.length * es := by have := (List.getElem?_eq_some_iff.1 hk).1; rw [g2.1] at this; exact this
      refine ⟨.inr ⟨rfl, hk1⟩, ?_⟩
      rw [cell_row k3, ← hk, ← k7, List.getElem?_take, if_pos hk1]
  · have hmk := h.kill g1
    have hobk : ∀ b o, (S b o ∨ (v0.ownBlock = some b ∧ o < l.length * es)) → ∀ x, x ≠ id → (γ x).bk = some b → S b o := fun b o hs x hx hb => hs.elim (fun h => h) (fun hs => (h.dist x id hx b hb (hown b hs.1)).elim)
    have hvS : RepP (fun b o => S b o ∨ (v0.ownBlock = some b ∧ o < l.length * es)) w v0 (.sl es l) := by
      rcases g2.2 with ⟨k1, k2⟩ | ⟨g, cap, cur, k1, _, k3, k4, k5, k6, k7⟩
      · subst k1
        have : l = [] := List.length_eq_zero_iff.1 k2
        subst this
        exact .emp none 0 es (by decide) (fun _ => rfl)
      · subst k1
        refine sl_of_block (xs := xs) g5 ((arr_ps g2 g3 g5).mono (fun _ _ h => .inl h) (fun _ _ _ => rfl)) k4 (by unfold maxLen at k5; omega) (fun k u hk => ?_)
        have hk1 : k < l.length * es := by have := (List.getElem?_eq_some_iff.1 hk).1; rw [g2.1] at this; exact this
        refine ⟨.inr ⟨rfl, hk1⟩, ?_⟩
        rw [cell_row k3, ← hk, ← k7, List.getElem?_take, if_pos hk1]
    refine ⟨hmk.os, hmk.tape, hmk.output, hmk.size, hmk.frame, fun b o hs => ⟨.inl (h.keep b o hs).1, (h.keep b o hs).2⟩, fun b o hs => ?_, fun b o hs => ?_, hmk.mono, hmk.un, fun x hx => ?_, fun x o hx => ?_, hmk.dist, hmk.live⟩
    · rcases hs with hs | ⟨hs, _⟩
      · exact h.fresh b o hs
      · exact .inr (h.live id b (hown b hs)).2
    · rcases hs with hs | ⟨hs, _⟩
      · exact h.inb b o hs
      · exact (h.live id b (hown b hs)).1
    · by_cases hxi : x = id
      · subst hxi; exact .inr (upd_same _ _ _)
      · rw [if_neg hxi] at hx
        rw [upd_ne _ _ hxi]
        exact h.off x (Option.map_eq_none_iff.1 hx)
    · by_cases hxi : x = id
      · rw [if_pos hxi] at hx; cases hx
      · rw [if_neg hxi] at hx
        obtain ⟨o0, ho0, rfl⟩ := Option.map_eq_some_iff.1 hx
        have hO : Obj' (upd γ id .dead) (fun b o => S b o ∨ (v0.ownBlock = some b ∧ o < l.length * es)) w x o0 := Obj'.on (h.obj x o0 ho0) (upd_ne _ _ hxi) hG (fun _ _ h => .inl h) (fun _ _ _ => rfl) (fun b hb => ⟨rfl, fun o hs => hobk b o hs x hxi hb⟩)
        cases o0 with
        | box cells =>
          obtain ⟨b, cs, t, k1, k2, k3, k4⟩ := h.obj x _ ho0
          refine ⟨b, cs, t, by rw [upd_ne _ _ hxi]; exact k1, k2, ?_, fun o hs => k4 o (hobk b o hs x hxi (by rw [k1]; rfl))⟩
          exact (k3.mono (GOn.refl _) (fun _ _ h => .inl h) (fun _ _ _ => rfl)).frz g1 hvS rfl hG
        | _ => exact hO
end
section
variable {P : Program} {N nb : Nat} {st : St} {Q : Exit → St → Prop}
/-- The state in which a slot that holds nil holds a slice of the call's own whose elements may be turned. -/
def St.nila (st : St) (t : Nat) (e : TypeId) (es : Nat) : St := ⟨(t, .v (.c (.arr st.nx es 0))) :: st.tm, (st.nx, some (.arr e es [])) :: st.hp, st.nx + 1⟩
theorem aw_nila {c : Code} (t : Nat) (e : TypeId) (es : Nat) (ht : lk st.tm t = .v (.c (.pv .nilS))) (h : AW P N nb c (st.nila t e es) Q) : AW P N nb c st Q := by
  refine aw_cov (fun X hX a w hr => ?_) h
  obtain ⟨h1, h2, γ, S, hm, ha⟩ := hr
  have hG := GOn.upd_un (hm.un st.nx (Nat.le_refl _)) (.val (.slice none 0 0))
  refine ⟨h1, h2, upd γ st.nx (.val (.slice none 0 0)), S, ?_, fun s => ?_⟩
  · have m := hm.nilarr (nm := st.nx) (Nat.le_refl _) e es
    show Mem X (hlk ((st.nx, some (.arr e es [])) :: st.hp)) _ _ _ _
    rw [hlk_cons]
    exact m.less (fun x hx => ⟨by have : st.nx + 1 ≤ x := hx
                                  omega, by have : st.nx + 1 ≤ x := hx
                                            omega⟩)
  · show RepV _ S w _ (lk ((t, .v (.c (.arr st.nx es 0))) :: st.tm) s)
    by_cases hs : s = t
    · subst hs
      rw [show lk ((s, AV.v (.c (.arr st.nx es 0))) :: st.tm) s = .v (.c (.arr st.nx es 0)) by simp [lk]]
      have := ha s; rw [ht] at this
      exact nil_arr_rep (es := es) this (upd_same _ _ _)
    · rw [show lk ((t, AV.v (.c (.arr st.nx es 0))) :: st.tm) s = lk st.tm s by simp [lk, hs]]
      exact (ha s).mono hG (fun _ _ h => h) (fun _ _ _ => rfl)
/-- .. a variable's cell. -/
def St.nilca (st : St) (id j : Nat) (cells : List AC) (e : TypeId) (es : Nat) : St := ⟨st.tm, (id, some (.box (cells.set j (.arr st.nx es 0)))) :: (st.nx, some (.arr e es [])) :: st.hp, st.nx + 1⟩
theorem aw_nilca {c : Code} (id j : Nat) (cells : List AC) (e : TypeId) (es : Nat) (hid : hlk st.hp id = some (.box cells)) (hj : cells[j]? = some (.pv .nilS)) (hlt : id < st.nx) (h : AW P N nb c (st.nilca id j cells e es) Q) : AW P N nb c st Q := by
  refine aw_cov (fun X hX a w hr => ?_) h
  obtain ⟨h1, h2, γ, S, hm, ha⟩ := hr
  have hG := GOn.upd_un (hm.un st.nx (Nat.le_refl _)) (.val (.slice none 0 0))
  refine ⟨h1, h2, upd γ st.nx (.val (.slice none 0 0)), S, ?_, fun s => (ha s).mono hG (fun _ _ h => h) (fun _ _ _ => rfl)⟩
  have m := hm.nilarr (nm := st.nx) (Nat.le_refl _) e es
  show Mem X (hlk ((id, some (.box (cells.set j (.arr st.nx es 0)))) :: (st.nx, some (.arr e es [])) :: st.hp)) _ _ _ _
  rw [hlk_cons, hlk_cons]
  have hne : id ≠ st.nx := by omega
  have hid' : upd (hlk st.hp) st.nx (some (.arr e es [])) id = some (.box cells) := by rw [upd_ne _ _ hne]; exact hid
  refine { m with un := fun x hx => m.un x ⟨by have : st.nx + 1 ≤ x := hx
                                               omega, by have : st.nx + 1 ≤ x := hx
                                                         omega⟩, off := fun x hx => ?_, obj := fun x o hx => ?_ }
  · by_cases hxi : x = id
    · subst hxi; rw [upd_same] at hx; cases hx
    · rw [upd_ne _ _ hxi] at hx; exact m.off x hx
  · by_cases hxi : x = id
    · subst hxi
      rw [upd_same] at hx; cases hx
      obtain ⟨b, cs, t, k1, k2, k3, k4⟩ := m.obj x _ hid'
      refine ⟨b, cs, t, k1, k2, ⟨by rw [List.length_set]; exact k3.1, fun i ac hi => ?_⟩, k4⟩
      rw [List.getElem?_set] at hi
      split at hi
      · rename_i hij
        split at hi
        · cases hi
          subst hij
          obtain ⟨v, g1, g2⟩ := k3.2 j _ hj
          exact ⟨v, g1, nil_arr_rep (γ := upd γ st.nx (.val (.slice none 0 0))) g2 (upd_same _ _ _)⟩
        · cases hi
      · exact k3.2 i ac hi
    · rw [upd_ne _ _ hxi] at hx; exact m.obj x o hx
/-- .. a slot that holds a slice of the call's own that has no elements yet. -/
def St.rowa (st : St) (t id : Nat) (e : TypeId) (es : Nat) : St := ⟨(t, .v (.c (.arr id es 0))) :: st.tm, (id, some (.arr e es [])) :: st.hp, st.nx⟩
theorem aw_rowa {c : Code} (t id : Nat) (e : TypeId) (es : Nat) (ht : lk st.tm t = .v (.c (.row id es []))) (hid : hlk st.hp id = some (.row e es)) (h : AW P N nb c (st.rowa t id e es) Q) : AW P N nb c st Q := by
  refine aw_cov (fun X hX a w hr => ?_) h
  obtain ⟨h1, h2, γ, S, hm, ha⟩ := hr
  have h3 := ha t
  rw [ht] at h3
  obtain ⟨m, hv⟩ := hm.rowarr hid h3
  refine ⟨h1, h2, γ, S, ?_, fun s => ?_⟩
  · show Mem X (hlk ((id, some (.arr e es [])) :: st.hp)) _ _ _ _
    rw [hlk_cons]; exact m
  · show RepV _ S w _ (lk ((t, .v (.c (.arr id es 0))) :: st.tm) s)
    by_cases hs : s = t
    · subst hs
      rw [show lk ((s, AV.v (.c (.arr id es 0))) :: st.tm) s = .v (.c (.arr id es 0)) by simp [lk]]
      exact hv
    · rw [show lk ((t, AV.v (.c (.arr id es 0))) :: st.tm) s = lk st.tm s by simp [lk, hs]]
      exact ha s
/-- A slice's elements are turned no more. -/
def St.frz (st : St) (id es : Nat) (l : List (List PV)) : St := ⟨st.tm.map fun p => (p.1, p.2.frz id (.sl es l)), st.hp.map fun p => (p.1, if p.1 = id then none else p.2.map (AO.frz id (.sl es l))), st.nx⟩
theorem lk_map (f : AV → AV) (hf : f .top = .top) : ∀ (l : List (Nat × AV)) (t : Nat), lk (l.map fun p => (p.1, f p.2)) t = f (lk l t)
  | [], t => hf.symm
  | p :: l, t => by
    unfold lk
    rw [List.map_cons]
    dsimp only
    split
    · rfl
    · exact lk_map f hf l t
theorem hlk_map (f : Nat → Option AO → Option AO) (hf : ∀ x, f x none = none) : ∀ (l : List (Nat × Option AO)) (t : Nat), hlk (l.map fun p => (p.1, f p.1 p.2)) t = f t (hlk l t)
  | [], t => (hf t).symm
  | p :: l, t => by
    unfold hlk
    rw [List.map_cons]
    dsimp only
    split
    · rename_i h; rw [h]
    · exact hlk_map f hf l t
theorem aw_frz {c : Code} (id : Nat) (e : TypeId) (es : Nat) (l : List (List PV)) (hid : hlk st.hp id = some (.arr e es l)) (h : AW P N nb c (st.frz id es l) Q) : AW P N nb c st Q := by
  refine aw_cov (fun X hX a w hr => ?_) h
  obtain ⟨h1, h2, γ, S, hm, ha⟩ := hr
  obtain ⟨S', v0, hS, hg, hp, m⟩ := hm.freeze hid
  refine ⟨h1, h2, upd γ id .dead, S', ?_, fun s => ?_⟩
  · show Mem X (hlk (st.hp.map fun p => (p.1, if p.1 = id then none else p.2.map (AO.frz id (.sl es l))))) _ _ _ _
    have e1 : hlk (st.hp.map fun p => (p.1, if p.1 = id then none else p.2.map (AO.frz id (.sl es l)))) = fun x => if x = id then none else (hlk st.hp x).map (AO.frz id (.sl es l)) := by
      funext x
      exact hlk_map (fun x o => if x = id then none else o.map (AO.frz id (.sl es l))) (fun x => by split <;> rfl) st.hp x
    rw [e1]; exact m
  · show RepV _ S' w _ (lk (st.tm.map fun p => (p.1, p.2.frz id (.sl es l))) s)
    rw [lk_map (AV.frz id (.sl es l)) rfl]
    exact ((ha s).mono (GOn.refl _) hS (fun _ _ _ => rfl)).frz hg hp rfl (GOn.kill hg)
end
end Go.Proofs.YtlkggpjdaaglmaaDoor.am
