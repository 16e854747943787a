import Derived.Test.YthmdllhhmhbhbaaPkD3
import Derived.Test.YthmdllhhmhbhbaaProg
import Derived.IntWalk
section
namespace Go.Proofs.Ythmdllhhmhbhbaa.am
open Go.ChangeShapes Go.WideShapes Go.ChangeAt Go.RowKit
set_option linter.unusedVariables false
set_option linter.unusedSimpArgs false
theorem cg {P : Program} {N f : Nat} {dst : Option Nat} {first caps : List Cap} {args cargs : List AV} {ch : List AO} {ch' : List (Option AO)} {res : AV} {st : St} {K : St → Prop} (hrow : Row P f cargs ch res ch') (σ : List Nat) (hk : K ((st.wr (wrs (nmap σ ch.length st.nx) 0 ch') 8).put dst (res.ren (nmap σ ch.length st.nx)))) (hfit : fitVs ch.length (fun i => σ.getD i 0) cargs (first.map capV ++ args ++ caps.map capV) := by first | (simp [*]; done) | fail) (ho : covO (hlk st.hp) ch.length (fun i => σ.getD i 0) (ch.map some) σ := by first | (simp [*]; done) | fail) (hnd : σ.Nodup := by first | decide | (simp; done) | fail) (hl : ch'.length ≤ ch.length + 8 := by first | decide | (simp; done) | fail) (hl' : ch.length ≤ ch'.length := by first | decide | (simp; done) | fail) (hd : dok N dst = true := by rfl) :
    CallK P N dst (.v (.c (.fn (.func f) first caps))) args st K := ⟨f, first, caps, cargs, ch, res, ch', σ, rfl, hrow, hfit, ho, hnd, hl, hl', hd, hk⟩
theorem dg {P : Program} {N f : Nat} {dst : Option Nat} {first caps : List Cap} {args cargs : List AV} {ch : List AO} {ch' : List (Option AO)} {res : AV} {st : St} {K : List Nat → List Nat → St → Prop} (hrow : Row P f cargs ch res ch') (σ : List Nat) (hk : K σ ((wrs (nmap σ ch.length st.nx) 0 ch').map (·.1)) ((st.wr (wrs (nmap σ ch.length st.nx) 0 ch') 8).put dst (res.ren (nmap σ ch.length st.nx)))) (hfit : fitVs ch.length (fun i => σ.getD i 0) cargs (first.map capV ++ args ++ caps.map capV) := by first | (simp [*]; done) | fail) (ho : covO (hlk st.hp) ch.length (fun i => σ.getD i 0) (ch.map some) σ := by first | (simp [*]; done) | fail) (hnd : σ.Nodup := by first | decide | (simp; done) | fail) (hl : ch'.length ≤ ch.length + 8 := by first | decide | (simp; done) | fail) (hl' : ch.length ≤ ch'.length := by first | decide | (simp; done) | fail) (hd : dok N dst = true := by rfl) :
    CallD P N dst (.v (.c (.fn (.func f) first caps))) args st K := ⟨f, first, caps, cargs, ch, res, ch', σ, rfl, hrow, hfit, ho, hnd, hl, hl', hd, hk⟩
attribute [simp] wrs nmap AC.ren AT.ren AV.ren AO.ren Cap.ren
def FinG (P : Program) (rs : List ResultVar) (res : AV) (ch' : List (Option AO)) (r : List Nat) (st : St) : Prop :=
  match resV P st rs with
  | some x => fitV ch'.length (fun i => r.getD i 0) res x ∧ covO (hlk st.hp) ch'.length (fun i => r.getD i 0) ch' r
  | none => False
theorem fin_g {P : Program} {nb : Nat} {rs : List ResultVar} {res : AV} {ch' : List (Option AO)} {st : St} (r : List Nat) (h : FinG P rs res ch' r st) (hnd : r.Nodup := by first | decide | (simp; done)) (ht : r.take nb = List.range nb := by rfl) (hl : nb ≤ ch'.length := by first | decide | (simp; done)) : Fin P nb rs res ch' .ret st := by
  unfold FinG at h
  split at h
  · rename_i x hx; exact ⟨x, r, hx, h.1, h.2, hnd, ht, hl⟩
  · exact h.elim
section
variable {X : Ctx} {H : Nat → Option AO} {U : Nat → Prop} {γ : Nat → G} {S : CS} {w : World}
theorem Mem.nilarr (h : Mem X H U γ S w) {nm : Nat} (hn : U nm) (e : TypeId) (es : Nat) : Mem X (upd H nm (some (.arr e es []))) (fun x => U x ∧ x ≠ nm) (upd γ nm (.val (.slice none 0 0))) S w := by
  have m := h.nilrow hn e es
  refine { m with off := fun x hx => ?_, obj := fun x o hx => ?_ }
  · by_cases h1 : x = nm
    · subst h1; rw [upd_same] at hx; cases hx
    · rw [upd_ne _ _ h1] at hx; exact m.off x (by rw [upd_ne _ _ h1]; exact hx)
  · by_cases h1 : x = nm
    · subst h1; rw [upd_same] at hx; cases hx
      exact ⟨_, [], upd_same _ _ _, World.ownsRow_nil w 0 e es, fun i e j p h => by simp at h, fun e h => by simp at h, fun b hb => by cases hb⟩
    · rw [upd_ne _ _ h1] at hx; exact m.obj x o (by rw [upd_ne _ _ h1]; exact hx)
theorem nil_arr_rep {γ' : Nat → G} {v : Value} {nm es : Nat} (h : RepV γ S w v (.v (.c (.pv .nilS)))) (hg : γ' nm = .val (.slice none 0 0)) : RepC γ' S w v (.arr nm es 0) := by
  obtain rfl := nilS_inv h
  exact ⟨⟨none, 0, rfl⟩, .inr hg⟩
def AC.frz (id : Nat) (p : PV) : AC → AC
  | .arr i es n => if i = id then .pv p else .arr i es n
  | .vw i es lo n => if i = id then (match p with | .sl es' l => if es' = es ∧ lo + n ≤ l.length ∧ (lo = 0 ∨ 0 < n) then .pv (.sl es ((l.drop lo).take n)) else .top | _ => .top) else .vw i es lo n
  | c => c
def AT.frz (id : Nat) (p : PV) : AT → AT
  | .c x => .c (x.frz id p)
  | .agg l => .agg (l.map (AC.frz id p))
def AV.frz (id : Nat) (p : PV) : AV → AV
  | .v x => .v (x.frz id p)
  | .ep i es k o => if i = id then .top else .ep i es k o
  | .tup l => .tup (l.map (AT.frz id p))
  | x => x
def AO.frz (id : Nat) (p : PV) : AO → AO
  | .box l => .box (l.map (AC.frz id p))
  | o => o
theorem RepC.frz {γ' : Nat → G} {id : Nat} {p : PV} {v0 : Value} (hg : γ id = .val v0) (hp : RepP S w v0 p) (hγ : γ' = upd γ id .dead) (hG : GOn γ γ') {v : Value} {c : AC} (h : RepC γ S w v c) : RepC γ' S w v (c.frz id p) := by
  have hm : ∀ {c}, RepC γ S w v c → RepC γ' S w v c := fun h => h.mono hG (fun _ _ h => h) (fun _ _ _ => rfl)
  cases c with
  | arr i es n =>
    show RepC γ' S w v (if i = id then .pv p else .arr i es n)
    by_cases hi : i = id
    · rw [if_pos hi]
      subst hi
      rcases h.2 with k | k
      · rw [hg] at k; cases k
      · rw [hg] at k; cases k; exact hp
    · rw [if_neg hi]; exact hm h
  | vw i es lo n =>
    have h1 := h.one
    by_cases hi : i = id
    · subst hi
      unfold AC.frz
      dsimp only
      rw [if_pos rfl]
      split
      · rename_i es' l
        split
        · rename_i hc
          obtain ⟨rfl, hc, hd⟩ := hc
          obtain ⟨a, m, c, hx, a1, hl1, hl2, ha1, rfl⟩ := h
          rcases hx with k | k
          · rw [hg] at k; cases k
          rw [hg] at k; cases k
          obtain ⟨a2, c2, e2, hs⟩ := sl_inv hp
          injection e2 with q1 q2 q3
          subst q1 q2 q3
          have hln : ((l.drop lo).take n).length = n := by rw [List.length_take, List.length_drop]; omega
          have key := hs.part lo (lo + n) c (by omega) (by omega) (Nat.le_refl _) (by omega)
          have e3 : (l.take (lo + n)).drop lo = (l.drop lo).take n := by rw [List.drop_take]; congr 1; omega
          rw [e3] at key
          have key := sl_intro key
          rw [hln] at key
          rcases hd with hd | hd
          · subst hd
            have hz0 : ∀ z : Addr, z.add 0 = z := fun z => by unfold Addr.add; split <;> simp_all
            have e4 : a1 = a := by rw [ha1 (.inl rfl)]; cases a <;> simp [hz0]
            rw [e4]
            have e5 : (if c = 0 then a else a.map (·.add (0 * es'))) = a := by
              split
              · rfl
              · cases a <;> simp [hz0]
            rw [e5] at key
            exact key
          · rw [ha1 (.inr hd)]
            rw [if_neg (by omega)] at key
            exact key
        · exact h1
      · exact h1
    · unfold AC.frz
      dsimp only
      rw [if_neg hi]; exact hm h
  | _ => exact hm h
theorem RepCs.frz {γ' : Nat → G} {id : Nat} {p : PV} {v0 : Value} (hg : γ id = .val v0) (hp : RepP S w v0 p) (hγ : γ' = upd γ id .dead) (hG : GOn γ γ') {vs : List Value} {l : List AC} (h : RepCs γ S w vs l) : RepCs γ' S w vs (l.map (AC.frz id p)) := by
  refine ⟨by rw [List.length_map]; exact h.1, fun i c hi => ?_⟩
  obtain ⟨x, hx, rfl⟩ := map_at hi
  obtain ⟨v, h1, h2⟩ := h.2 i x hx
  exact ⟨v, h1, h2.frz hg hp hγ hG⟩
theorem RepT.frz {γ' : Nat → G} {id : Nat} {p : PV} {v0 : Value} (hg : γ id = .val v0) (hp : RepP S w v0 p) (hγ : γ' = upd γ id .dead) (hG : GOn γ γ') {v : Value} {c : AT} (h : RepT γ S w v c) : RepT γ' S w v (c.frz id p) := by
  cases c with
  | c x => exact RepC.frz hg hp hγ hG h
  | agg l => obtain ⟨cs, h1, h2⟩ := h; exact ⟨cs, h1, h2.frz hg hp hγ hG⟩
theorem RepV.frz {γ' : Nat → G} {id : Nat} {p : PV} {v0 : Value} (hg : γ id = .val v0) (hp : RepP S w v0 p) (hγ : γ' = upd γ id .dead) (hG : GOn γ γ') {v : Value} {c : AV} (h : RepV γ S w v c) : RepV γ' S w v (c.frz id p) := by
  cases c with
  | v x => exact RepT.frz hg hp hγ hG h
  | tup l =>
    obtain ⟨cs, h1, h2⟩ := h
    refine ⟨cs, h1, by rw [List.length_map]; exact h2.1, fun i c hi => ?_⟩
    obtain ⟨x, hx, rfl⟩ := map_at hi
    obtain ⟨v, h3, h4⟩ := h2.2 i x hx
    exact ⟨v, h3, h4.frz hg hp hγ hG⟩
  | ep i es k o =>
    show RepV γ' S w v (if i = id then .top else .ep i es k o)
    by_cases hi : i = id
    · rw [if_pos hi]; trivial
    · rw [if_neg hi]; exact RepV.mono hG (fun _ _ h => h) (fun _ _ _ => rfl) h
  | rp c o => exact h
  | top => trivial
theorem Mem.freeze (h : Mem X H U γ S w) {id : Nat} {e : TypeId} {es : Nat} {l : List (List PV)} (hH : H id = some (.arr e es l)) :
    ∃ (S' : CS) (v0 : Value), (∀ b o, S b o → S' b o) ∧ γ id = .val v0 ∧ RepP S' w v0 (.sl es l) ∧ Mem X (fun x => if x = id then none else (H x).map (AO.frz id (.sl es l))) U (upd γ id .dead) S' w := by
  obtain ⟨v0, xs, g1, g2, g3, g5, g4⟩ := h.obj _ _ hH
  have hG := GOn.kill g1
  have hown : ∀ b, v0.ownBlock = some b → (γ id).bk = some b := fun b hb => by rw [g1]; exact hb
  refine ⟨fun b o => S b o ∨ (v0.ownBlock = some b ∧ o < l.length * es), v0, fun _ _ h => .inl h, g1, ?_, ?_⟩
  · rcases g2.2 with ⟨k1, k2⟩ | ⟨g, cap, cur, k1, _, k3, k4, k5, k6, k7⟩
    · subst k1
      have : l = [] := List.length_eq_zero_iff.1 k2
      subst this
      exact .emp none 0 es (by decide) (fun _ => rfl)
    · subst k1
      refine sl_of_block (xs := xs) g5 ((arr_ps g2 g3 g5).mono (fun _ _ h => .inl h) (fun _ _ _ => rfl)) k4 (by unfold maxLen at k5; omega) (fun k u hk => ?_)
      have hk1 : k < l.length * es := by have := (List.getElem?_eq_some_iff.1 hk).1; rw [g2.1] at this; exact this
      refine ⟨.inr ⟨rfl, hk1⟩, ?_⟩
      rw [cell_row k3, ← hk, ← k7, List.getElem?_take, if_pos hk1]
  · have hmk := h.kill g1
    have hobk : ∀ b o, (S b o ∨ (v0.ownBlock = some b ∧ o < l.length * es)) → ∀ x, x ≠ id → (γ x).bk = some b → S b o := fun b o hs x hx hb => hs.elim (fun h => h) (fun hs => (h.dist x id hx b hb (hown b hs.1)).elim)
    have hvS : RepP (fun b o => S b o ∨ (v0.ownBlock = some b ∧ o < l.length * es)) w v0 (.sl es l) := by
      rcases g2.2 with ⟨k1, k2⟩ | ⟨g, cap, cur, k1, _, k3, k4, k5, k6, k7⟩
      · subst k1
        have : l = [] := List.length_eq_zero_iff.1 k2
        subst this
        exact .emp none 0 es (by decide) (fun _ => rfl)
      · subst k1
        refine sl_of_block (xs := xs) g5 ((arr_ps g2 g3 g5).mono (fun _ _ h => .inl h) (fun _ _ _ => rfl)) k4 (by unfold maxLen at k5; omega) (fun k u hk => ?_)
        have hk1 : k < l.length * es := by have := (List.getElem?_eq_some_iff.1 hk).1; rw [g2.1] at this; exact this
        refine ⟨.inr ⟨rfl, hk1⟩, ?_⟩
        rw [cell_row k3, ← hk, ← k7, List.getElem?_take, if_pos hk1]
    refine ⟨hmk.os, hmk.tape, hmk.output, hmk.size, hmk.frame, fun b o hs => ⟨.inl (h.keep b o hs).1, (h.keep b o hs).2⟩, fun b o hs => ?_, fun b o hs => ?_, hmk.mono, hmk.un, fun x hx => ?_, fun x o hx => ?_, hmk.dist, hmk.live⟩
    · rcases hs with hs | ⟨hs, _⟩
      · exact h.fresh b o hs
      · exact .inr (h.live id b (hown b hs)).2
    · rcases hs with hs | ⟨hs, _⟩
      · exact h.inb b o hs
      · exact (h.live id b (hown b hs)).1
    · by_cases hxi : x = id
      · subst hxi; exact .inr (upd_same _ _ _)
      · rw [if_neg hxi] at hx
        rw [upd_ne _ _ hxi]
        exact h.off x (Option.map_eq_none_iff.1 hx)
    · by_cases hxi : x = id
      · rw [if_pos hxi] at hx; cases hx
      · rw [if_neg hxi] at hx
        obtain ⟨o0, ho0, rfl⟩ := Option.map_eq_some_iff.1 hx
        have hO : Obj' (upd γ id .dead) (fun b o => S b o ∨ (v0.ownBlock = some b ∧ o < l.length * es)) w x o0 := Obj'.on (h.obj x o0 ho0) (upd_ne _ _ hxi) hG (fun _ _ h => .inl h) (fun _ _ _ => rfl) (fun b hb => ⟨rfl, fun o hs => hobk b o hs x hxi hb⟩)
        cases o0 with
        | box cells =>
          obtain ⟨b, cs, t, k1, k2, k3, k4⟩ := h.obj x _ ho0
          refine ⟨b, cs, t, by rw [upd_ne _ _ hxi]; exact k1, k2, ?_, fun o hs => k4 o (hobk b o hs x hxi (by rw [k1]; rfl))⟩
          exact (k3.mono (GOn.refl _) (fun _ _ h => .inl h) (fun _ _ _ => rfl)).frz g1 hvS rfl hG
        | _ => exact hO
end
section
variable {P : Program} {N nb : Nat} {st : St} {Q : Exit → St → Prop}
def St.nilca (st : St) (id j : Nat) (cells : List AC) (e : TypeId) (es : Nat) : St := ⟨st.tm, (id, some (.box (cells.set j (.arr st.nx es 0)))) :: (st.nx, some (.arr e es [])) :: st.hp, st.nx + 1⟩
theorem aw_nilca {c : Code} (id j : Nat) (cells : List AC) (e : TypeId) (es : Nat) (hid : hlk st.hp id = some (.box cells)) (hj : cells[j]? = some (.pv .nilS)) (hlt : id < st.nx) (h : AW P N nb c (st.nilca id j cells e es) Q) : AW P N nb c st Q := by
  refine aw_cov (fun X hX a w hr => ?_) h
  obtain ⟨h1, h2, γ, S, hm, ha⟩ := hr
  have hG := GOn.upd_un (hm.un st.nx (Nat.le_refl _)) (.val (.slice none 0 0))
  refine ⟨h1, h2, upd γ st.nx (.val (.slice none 0 0)), S, ?_, fun s => (ha s).mono hG (fun _ _ h => h) (fun _ _ _ => rfl)⟩
  have m := hm.nilarr (nm := st.nx) (Nat.le_refl _) e es
  show Mem X (hlk ((id, some (.box (cells.set j (.arr st.nx es 0)))) :: (st.nx, some (.arr e es [])) :: st.hp)) _ _ _ _
  rw [hlk_cons, hlk_cons]
  have hne : id ≠ st.nx := by omega
  have hid' : upd (hlk st.hp) st.nx (some (.arr e es [])) id = some (.box cells) := by rw [upd_ne _ _ hne]; exact hid
  refine { m with un := fun x hx => m.un x ⟨by have : st.nx + 1 ≤ x := hx
                                               omega, by have : st.nx + 1 ≤ x := hx
                                                         omega⟩, off := fun x hx => ?_, obj := fun x o hx => ?_ }
  · by_cases hxi : x = id
    · subst hxi; rw [upd_same] at hx; cases hx
    · rw [upd_ne _ _ hxi] at hx; exact m.off x hx
  · by_cases hxi : x = id
    · subst hxi
      rw [upd_same] at hx; cases hx
      obtain ⟨b, cs, t, k1, k2, k3, k4⟩ := m.obj x _ hid'
      refine ⟨b, cs, t, k1, k2, ⟨by rw [List.length_set]; exact k3.1, fun i ac hi => ?_⟩, k4⟩
      rw [List.getElem?_set] at hi
      split at hi
      · rename_i hij
        split at hi
        · cases hi
          subst hij
          obtain ⟨v, g1, g2⟩ := k3.2 j _ hj
          exact ⟨v, g1, nil_arr_rep (γ := upd γ st.nx (.val (.slice none 0 0))) g2 (upd_same _ _ _)⟩
        · cases hi
      · exact k3.2 i ac hi
    · rw [upd_ne _ _ hxi] at hx; exact m.obj x o hx
def St.frz (st : St) (id es : Nat) (l : List (List PV)) : St := ⟨st.tm.map fun p => (p.1, p.2.frz id (.sl es l)), st.hp.map fun p => (p.1, if p.1 = id then none else p.2.map (AO.frz id (.sl es l))), st.nx⟩
theorem lk_map (f : AV → AV) (hf : f .top = .top) : ∀ (l : List (Nat × AV)) (t : Nat), lk (l.map fun p => (p.1, f p.2)) t = f (lk l t)
  | [], t => hf.symm
  | p :: l, t => by
    unfold lk
    rw [List.map_cons]
    dsimp only
    split
    · rfl
    · exact lk_map f hf l t
theorem hlk_map (f : Nat → Option AO → Option AO) (hf : ∀ x, f x none = none) : ∀ (l : List (Nat × Option AO)) (t : Nat), hlk (l.map fun p => (p.1, f p.1 p.2)) t = f t (hlk l t)
  | [], t => (hf t).symm
  | p :: l, t => by
    unfold hlk
    rw [List.map_cons]
    dsimp only
    split
    · rename_i h; rw [h]
    · exact hlk_map f hf l t
theorem aw_frz {c : Code} (id : Nat) (e : TypeId) (es : Nat) (l : List (List PV)) (hid : hlk st.hp id = some (.arr e es l)) (h : AW P N nb c (st.frz id es l) Q) : AW P N nb c st Q := by
  refine aw_cov (fun X hX a w hr => ?_) h
  obtain ⟨h1, h2, γ, S, hm, ha⟩ := hr
  obtain ⟨S', v0, hS, hg, hp, m⟩ := hm.freeze hid
  refine ⟨h1, h2, upd γ id .dead, S', ?_, fun s => ?_⟩
  · show Mem X (hlk (st.hp.map fun p => (p.1, if p.1 = id then none else p.2.map (AO.frz id (.sl es l))))) _ _ _ _
    have e1 : hlk (st.hp.map fun p => (p.1, if p.1 = id then none else p.2.map (AO.frz id (.sl es l)))) = fun x => if x = id then none else (hlk st.hp x).map (AO.frz id (.sl es l)) := by
      funext x
      exact hlk_map (fun x o => if x = id then none else o.map (AO.frz id (.sl es l))) (fun x => by split <;> rfl) st.hp x
    rw [e1]; exact m
  · show RepV _ S' w _ (lk (st.tm.map fun p => (p.1, p.2.frz id (.sl es l))) s)
    rw [lk_map (AV.frz id (.sl es l)) rfl]
    exact ((ha s).mono (GOn.refl _) hS (fun _ _ _ => rfl)).frz hg hp rfl (GOn.kill hg)
end
end Go.Proofs.Ythmdllhhmhbhbaa.am
end
section
namespace Go.Proofs.Ythmdllhhmhbhbaa.vt
open Go.Proofs.Ythmdllhhmhbhbaa.am
set_option linter.unusedVariables false
inductive Tr (α : Type) where
  | mk (x : α) (l : List (Tr α))
namespace Tr
variable {α : Type}
def lab : Tr α → α
  | .mk x _ => x
def kids : Tr α → List (Tr α)
  | .mk _ l => l
theorem ind {P : Tr α → Prop} (h : ∀ x l, (∀ y ∈ l, P y) → P (.mk x l)) (t : Tr α) : P t :=
  Tr.rec (motive_1 := P) (motive_2 := fun l => ∀ y ∈ l, P y) h (fun y hy => by simp at hy) (fun x l hx hl y hy => by
    rcases List.mem_cons.1 hy with rfl | hy
    · exact hx
    · exact hl y hy) t
noncomputable def fold {β : Type} (g : α → List (Tr α) → List β → β) (t : Tr α) : β :=
  Tr.rec (motive_1 := fun _ => β) (motive_2 := fun _ => List β) (fun x l ih => g x l ih) [] (fun _ _ a b => a :: b) t
theorem fold_mk {β : Type} (g : α → List (Tr α) → List β → β) (x : α) (l : List (Tr α)) : fold g (.mk x l) = g x l (l.map (fold g)) := by
  show g x l _ = _
  congr 1
  induction l with
  | nil => rfl
  | cons y l ih => show fold g y :: _ = _; rw [ih]; rfl
noncomputable def size (t : Tr α) : Nat := fold (fun _ _ b => 1 + b.sum) t
theorem size_mk (x : α) (l : List (Tr α)) : size (.mk x l) = 1 + (l.map size).sum := fold_mk _ x l
theorem size_pos (t : Tr α) : 0 < size t := by cases t; rw [size_mk]; omega
theorem size_at {x : α} {l : List (Tr α)} {i : Nat} {y : Tr α} (h : l[i]? = some y) : size y < size (.mk x l) := by
  rw [size_mk]
  have : size y ≤ (l.map size).sum := by
    induction l generalizing i with
    | nil => simp at h
    | cons z l ih =>
      cases i with
      | zero => simp at h; subst h; simp
      | succ i => have := ih (by simpa using h); simp; omega
  omega
theorem len_size {x : α} {l : List (Tr α)} : l.length < size (.mk x l) := by
  rw [size_mk]
  have : l.length ≤ (l.map size).sum := by
    induction l with
    | nil => simp
    | cons z l ih => have := size_pos z; simp; omega
  omega
noncomputable def all (p : α → Prop) (t : Tr α) : Prop := fold (fun x _ b => p x ∧ ∀ q ∈ b, q) t
theorem all_mk (p : α → Prop) (x : α) (l : List (Tr α)) : all p (.mk x l) ↔ p x ∧ ∀ y ∈ l, all p y := by
  unfold all
  rw [fold_mk]
  constructor
  · rintro ⟨h1, h2⟩; exact ⟨h1, fun y hy => h2 _ (List.mem_map_of_mem hy)⟩
  · rintro ⟨h1, h2⟩; refine ⟨h1, fun q hq => ?_⟩
    obtain ⟨y, hy, rfl⟩ := List.mem_map.1 hq
    exact h2 y hy
end Tr
structure Lab where
  k : Int
  n : Int
  s : ByteArray
  f : Int
  t : Int
def Lab.ok (x : Lab) : Prop := (-9223372036854775808 ≤ x.k ∧ x.k ≤ 9223372036854775807) ∧ (-9223372036854775808 ≤ x.n ∧ x.n ≤ 9223372036854775807) ∧ (-9223372036854775808 ≤ x.f ∧ x.f ≤ 9223372036854775807) ∧ (-9223372036854775808 ≤ x.t ∧ x.t ≤ 9223372036854775807)
abbrev VT := Tr Lab
noncomputable abbrev in64 (t : VT) : Prop := Tr.all Lab.ok t
abbrev I (z : Int) : PV := .lit (.int .i64 z)
abbrev Sx (s : ByteArray) : PV := .lit (.string s)
abbrev Bo (b : Bool) : PV := .lit (.bool b)
abbrev vI (z : Int) : AV := .v (.c (.pv (I z)))
abbrev vB (b : Bool) : AV := .v (.c (.pv (Bo b)))
noncomputable def tc (t : VT) : List PV := Tr.fold (fun x _ b => [I x.k, I x.n, Sx x.s, .sl 6 b, I x.f, I x.t]) t
theorem tc_mk (x : Lab) (l : List VT) : tc (.mk x l) = [I x.k, I x.n, Sx x.s, .sl 6 (l.map tc), I x.f, I x.t] := Tr.fold_mk _ x l
theorem tc_len (t : VT) : (tc t).length = 6 := by cases t; rw [tc_mk]; rfl
noncomputable def ta (t : VT) : List AC := (tc t).map .pv
theorem ta_mk (x : Lab) (l : List VT) : ta (.mk x l) = [.pv (I x.k), .pv (I x.n), .pv (Sx x.s), .pv (.sl 6 (l.map tc)), .pv (I x.f), .pv (I x.t)] := by unfold ta; rw [tc_mk]; rfl
noncomputable abbrev vT (t : VT) : AV := .v (.agg (ta t))
noncomputable abbrev vLs (l : List VT) : AV := .v (.c (.pv (.sl 6 (l.map tc))))
theorem ta_len (t : VT) : (ta t).length = 6 := by unfold ta; rw [List.length_map]; exact tc_len t
theorem mapM_pure (l : List PV) : (l.map AC.pv).mapM pureC = some l := by
  induction l with
  | nil => rfl
  | cons p l ih => rw [List.map_cons, List.mapM_cons, ih]; rfl
theorem ta_pure (t : VT) : (ta t).mapM pureC = some (tc t) := mapM_pure _
theorem fit_pure {n : Nat} {ρ : Nat → Nat} (l : List PV) : fitCs n ρ (l.map AC.pv) (l.map AC.pv) := by
  induction l with
  | nil => trivial
  | cons p l ih => exact ⟨fitP_refl p, ih⟩
theorem fit_ta {n : Nat} {ρ : Nat → Nat} (t : VT) : fitCs n ρ (ta t) (ta t) := fit_pure _
theorem ta_take (t : VT) : (ta t).take 6 = ta t := List.take_of_length_le (by rw [ta_len]; exact Nat.le_refl _)
attribute [simp] ta_mk tc_mk ta_len tc_len ta_pure fit_ta fit_pure ta_take
theorem ren_pure (ρ : Nat → Nat) (l : List PV) : (l.map AC.pv).map (AC.ren ρ) = l.map AC.pv := by
  rw [List.map_map]; rfl
theorem vT_ren (t : VT) (ρ : Nat → Nat) : (vT t).ren ρ = vT t := by
  show AV.v (.agg (((tc t).map AC.pv).map (AC.ren ρ))) = _
  rw [ren_pure]; rfl
end Go.Proofs.Ythmdllhhmhbhbaa.vt
end
section
namespace Go.Proofs.Ythmdllhhmhbhbaa.vt
open Go.Proofs.Ythmdllhhmhbhbaa.am
set_option linter.unusedVariables false
noncomputable def eqv (p : Lab → Lab → Bool) (t : VT) : VT → Bool := Tr.fold (fun x l bs u => p x u.lab && decide (l.length = u.kids.length) && (bs.zip u.kids).all (fun q => q.1 q.2)) t
def zipA (f : VT → VT → Bool) (l m : List VT) (k : Nat) : Bool := ((l.zip m).take k).all (fun q => f q.1 q.2)
theorem zipA_zero (f : VT → VT → Bool) (l m : List VT) : zipA f l m 0 = true := by simp [zipA]
theorem zipA_succ {f : VT → VT → Bool} {l m : List VT} {k : Nat} {a b : VT} (ha : l[k]? = some a) (hb : m[k]? = some b) : zipA f l m (k + 1) = (zipA f l m k && f a b) := by
  unfold zipA
  rw [List.take_add_one, show (l.zip m)[k]? = some (a, b) from List.getElem?_zip_eq_some.2 ⟨ha, hb⟩]
  simp [List.all_append]
theorem zipA_mono {f : VT → VT → Bool} {l m : List VT} {k : Nat} (j : Nat) (h : zipA f l m k = false) : zipA f l m (k + j) = false := by
  unfold zipA at h ⊢
  rw [List.all_eq_false] at h ⊢
  obtain ⟨q, h1, h2⟩ := h
  refine ⟨q, ?_, h2⟩
  have : (l.zip m).take k <+: (l.zip m).take (k + j) := List.take_prefix_take_left (by omega)
  exact this.subset h1
theorem zip_map_all {α β : Type} (F : α → β → Bool) : ∀ (l : List α) (m : List β), ((l.map F).zip m).all (fun q => q.1 q.2) = (l.zip m).all (fun q => F q.1 q.2)
  | [], m => rfl
  | a :: l, [] => rfl
  | a :: l, b :: m => by simp only [List.map_cons, List.zip_cons_cons, List.all_cons, zip_map_all F l m]
theorem eqv_mk (p : Lab → Lab → Bool) (x y : Lab) (l m : List VT) : eqv p (.mk x l) (.mk y m) = (p x y && decide (l.length = m.length) && zipA (eqv p) l m l.length) := by
  have e : zipA (eqv p) l m l.length = (l.zip m).all (fun q => eqv p q.1 q.2) := by
    unfold zipA
    rw [List.take_of_length_le (l := l.zip m) (by rw [List.length_zip]; exact Nat.min_le_left _ _)]
  rw [e]
  conv => lhs; unfold eqv
  rw [Tr.fold_mk, zip_map_all]
  rfl
def pS (x y : Lab) : Bool := decide (x.k = y.k) && decide (x.n = y.n) && decide (x.s = y.s)
def pP (x y : Lab) : Bool := decide (x.k = y.k) && decide (x.n = y.n) && decide (x.s = y.s) && decide (x.f = y.f) && decide (x.t = y.t)
noncomputable abbrev same (t u : VT) : Bool := eqv pS t u
noncomputable abbrev plac (t u : VT) : Bool := eqv pP t u
theorem zipA_refl {f : VT → VT → Bool} {l : List VT} (h : ∀ y ∈ l, f y y = true) : ∀ k, zipA f l l k = true := fun k => by
  unfold zipA
  rw [List.all_eq_true]
  intro q hq
  have hq := List.mem_of_mem_take hq
  obtain ⟨i, hi⟩ := List.mem_iff_getElem?.1 hq
  obtain ⟨h1, h2⟩ := List.getElem?_zip_eq_some.1 hi
  rw [h1] at h2
  have : q.1 = q.2 := by simpa using h2
  rw [← this]
  exact h _ (List.mem_of_getElem? h1)
theorem eqv_refl {p : Lab → Lab → Bool} (hp : ∀ x, p x x = true) (t : VT) : eqv p t t = true := by
  induction t using Tr.ind with
  | h x l ih => rw [eqv_mk, hp, zipA_refl ih]; simp
theorem same_refl (t : VT) : same t t = true := eqv_refl (fun x => by simp [pS]) t
noncomputable def cntT (t : VT) : Int → Int → Int := Tr.fold (fun x l bs left lv => if lv ≤ 0 then -1 else bs.foldl (fun n f => if 0 ≤ n then f n (lv - 1) else n) (left - 1)) t
noncomputable def cntK (l : List VT) (lv n : Int) (k : Nat) : Int := (l.take k).foldl (fun n y => if 0 ≤ n then cntT y n (lv - 1) else n) n
theorem cnt_mk (x : Lab) (l : List VT) (left lv : Int) : cntT (.mk x l) left lv = if lv ≤ 0 then -1 else cntK l lv (left - 1) l.length := by
  unfold cntT
  rw [Tr.fold_mk]
  split
  · rfl
  · rw [List.foldl_map]; unfold cntK; rw [List.take_length]; rfl
theorem cntK_zero (l : List VT) (lv n : Int) : cntK l lv n 0 = n := by simp [cntK]
theorem cntK_succ {l : List VT} {lv n : Int} {k : Nat} {y : VT} (h : l[k]? = some y) : cntK l lv n (k + 1) = if 0 ≤ cntK l lv n k then cntT y (cntK l lv n k) (lv - 1) else cntK l lv n k := by
  unfold cntK
  rw [List.take_add_one, h, Option.toList_some, List.foldl_append]
  rfl
theorem cntK_neg {l : List VT} {lv n : Int} {k : Nat} (h : cntK l lv n k < 0) : ∀ j, k ≤ j → j ≤ l.length → cntK l lv n j = cntK l lv n k := fun j hj => by
  induction j with
  | zero => intro _; rw [show k = 0 by omega]
  | succ j ih =>
    intro hl
    by_cases hjk : k = j + 1
    · rw [hjk]
    · have hy : l[j]? = some (l[j]'(by omega)) := List.getElem?_eq_getElem _
      rw [cntK_succ hy, ih (by omega) (by omega), if_neg (by omega)]
theorem cnt_le (t : VT) : ∀ left lv : Int, -1 ≤ left → cntT t left lv ≤ left ∧ -2 ≤ cntT t left lv ∧ (0 ≤ cntT t left lv → cntT t left lv + (t.size : Int) = left) := by
  induction t using Tr.ind with
  | h x l ih =>
    intro left lv h0
    rw [cnt_mk]
    split
    · exact ⟨by omega, by omega, fun h => by omega⟩
    · have key : ∀ k, k ≤ l.length → cntK l lv (left - 1) k ≤ left - 1 ∧ -2 ≤ cntK l lv (left - 1) k ∧ (0 ≤ cntK l lv (left - 1) k → cntK l lv (left - 1) k + (((l.take k).map Tr.size).sum : Nat) = left - 1) := fun k => by
        induction k with
        | zero => intro _; rw [cntK_zero]; simp; omega
        | succ k ihk =>
          intro hk
          obtain ⟨a1, a2, a3⟩ := ihk (by omega)
          have hy : l[k]? = some (l[k]'(by omega)) := List.getElem?_eq_getElem _
          rw [cntK_succ hy]
          split
          · rename_i hge
            obtain ⟨b1, b2, b3⟩ := ih _ (List.mem_of_getElem? hy) (cntK l lv (left - 1) k) (lv - 1) (by omega)
            refine ⟨by omega, b2, fun h => ?_⟩
            have c1 := b3 h; have c2 := a3 hge
            rw [List.take_add_one, hy]
            simp only [Option.toList_some, List.map_append, List.map_cons, List.map_nil, List.sum_append, List.sum_cons, List.sum_nil]
            omega
          · exact ⟨a1, a2, fun h => by omega⟩
      obtain ⟨b1, b2, b3⟩ := key l.length (Nat.le_refl _)
      refine ⟨by omega, b2, fun h => ?_⟩
      have := b3 h
      rw [List.take_length] at this
      rw [Tr.size_mk]
      omega
noncomputable def nmd (t : VT) : Bool := Tr.fold (fun x l bs => decide (40 < x.s.size) || bs.any id) t
def anyK (f : VT → Bool) (l : List VT) (k : Nat) : Bool := (l.take k).any f
theorem anyK_zero (f : VT → Bool) (l : List VT) : anyK f l 0 = false := by simp [anyK]
theorem anyK_succ {f : VT → Bool} {l : List VT} {k : Nat} {y : VT} (h : l[k]? = some y) : anyK f l (k + 1) = (anyK f l k || f y) := by
  unfold anyK
  rw [List.take_add_one, h]; simp
theorem anyK_all (f : VT → Bool) (l : List VT) : anyK f l l.length = l.any f := by unfold anyK; rw [List.take_length]
theorem any_of {f : VT → Bool} {l : List VT} {k : Nat} {y : VT} (h : l[k]? = some y) (hf : f y = true) : l.any f = true := List.any_eq_true.2 ⟨y, List.mem_of_getElem? h, hf⟩
theorem nmd_mk (x : Lab) (l : List VT) : nmd (.mk x l) = (decide (40 < x.s.size) || l.any nmd) := by
  unfold nmd
  rw [Tr.fold_mk, List.any_map]
  rfl
noncomputable def large (t : VT) : Bool := decide (cntT t 400 70 < 0) || nmd t
theorem large_size {t : VT} (h : large t = false) : t.size ≤ 400 := by
  unfold large at h
  rw [Bool.or_eq_false_iff] at h
  have h1 : ¬ cntT t 400 70 < 0 := by simpa using h.1
  have := (cnt_le t 400 70 (by omega)).2.2 (by omega)
  omega
end Go.Proofs.Ythmdllhhmhbhbaa.vt
end
section
namespace Go.Proofs.Ythmdllhhmhbhbaa.vt
open Go.Proofs.Ythmdllhhmhbhbaa.am
set_option linter.unusedVariables false
def nmK (k : Int) : Bool := decide (k = 8) || decide (k = 9) || decide (k = 16) || decide (k = 15) || decide (k = 4)
def nmP (x : Lab) : Int × Int := if nmK x.k = true then (x.n, 1) else if x.k = 13 ∧ 0 ≤ x.n then (x.n / 64, 64) else (0, 0)
def nmR (x : Lab) : Int := if nmK x.k = true then x.n else if x.k = 13 ∧ 0 ≤ x.n then x.n / 64 else -1
def plc (to : List Int) (n : Int) : Int := if n < 0 then n else match to[n.toNat]? with | some z => if z < 0 then n else z | none => n
def nwN (to : List Int) (x : Lab) : Int := if nmK x.k = true then plc to x.n else if x.k = 13 ∧ 0 ≤ x.n then plc to (x.n / 64) * 64 + x.n % 64 else x.n
noncomputable def renum (to : List Int) (t : VT) : VT := Tr.fold (fun x _ bs => .mk { x with n := nwN to x } bs) t
theorem renum_mk (to : List Int) (x : Lab) (l : List VT) : renum to (.mk x l) = .mk { x with n := nwN to x } (l.map (renum to)) := Tr.fold_mk _ x l
noncomputable def nmsT (i : Int) (t : VT) : Bool := Tr.fold (fun x _ bs => decide (nmR x = i) || bs.any id) t
theorem nmsT_mk (i : Int) (x : Lab) (l : List VT) : nmsT i (.mk x l) = (decide (nmR x = i) || l.any (nmsT i)) := by
  unfold nmsT; rw [Tr.fold_mk, List.any_map]; rfl
theorem nmP_R (x : Lab) (i : Int) (h : 0 ≤ i) : (decide (0 < (nmP x).2) && decide ((nmP x).1 = i)) = decide (nmR x = i) := by
  unfold nmP nmR
  by_cases h1 : nmK x.k = true
  · simp [h1]
  · rw [if_neg h1, if_neg h1]
    by_cases h2 : x.k = 13 ∧ 0 ≤ x.n
    · rw [if_pos h2, if_pos h2]; simp
    · rw [if_neg h2, if_neg h2]
      have : ¬ (-1 : Int) = i := by omega
      simp [this]
theorem renum_size (to : List Int) (t : VT) : (renum to t).size = t.size := by
  induction t using Tr.ind with
  | h x l ih =>
    rw [renum_mk, Tr.size_mk, Tr.size_mk, List.map_map]
    congr 2
    exact List.map_congr_left fun y hy => ih y hy
theorem pig : ∀ (n : Nat) (l : List Int), l.Nodup → (∀ x ∈ l, 0 ≤ x ∧ x < n) → l.length ≤ n
  | 0, l, _, h => by
    cases l with
    | nil => simp
    | cons a l => have := h a (by simp); omega
  | n + 1, l, hn, h => by
    by_cases hm : (n : Int) ∈ l
    · have := pig n (l.erase n) (hn.erase _) (fun x hx => by
        have h1 := (hn.mem_erase_iff).1 hx
        have h2 := h x h1.2
        omega)
      rw [List.length_erase_of_mem hm] at this
      omega
    · have := pig n l hn (fun x hx => by
        have h2 := h x hx
        have : x ≠ n := fun e => hm (e ▸ hx)
        omega)
      omega
theorem sub_len : ∀ (R l : List Int), R.Nodup → (∀ x ∈ R, x ∈ l) → R.length ≤ l.length ∧ (R.length = l.length → l.Nodup ∧ ∀ x ∈ l, x ∈ R)
  | [], l, _, _ => ⟨by simp, fun h => by
      have : l = [] := List.length_eq_zero_iff.1 h.symm
      subst this; simp⟩
  | a :: R, l, hn, h => by
    have ha := h a (by simp)
    obtain ⟨hna, hnR⟩ := List.nodup_cons.1 hn
    have hlen := List.length_erase_of_mem ha
    have hpos : 0 < l.length := List.length_pos_of_mem ha
    obtain ⟨k1, k2⟩ := sub_len R (l.erase a) hnR (fun x hx => by
      have hxa : x ≠ a := fun e => hna (e ▸ hx)
      exact (List.mem_erase_of_ne hxa).2 (h x (by simp [hx])))
    refine ⟨by simp; omega, fun he => ?_⟩
    obtain ⟨e1, e2⟩ := k2 (by simp at he; omega)
    have hp := List.perm_cons_erase ha
    refine ⟨hp.nodup_iff.2 (List.nodup_cons.2 ⟨fun hx => hna (e2 a hx), e1⟩), fun x hx => ?_⟩
    rcases List.mem_cons.1 (hp.mem_iff.1 hx) with e | hx
    · simp [e]
    · simp [e2 x hx]
def isOrd (nums : List Int) : Bool := nums.all (fun z => decide (0 ≤ z) && decide (z < nums.length)) && decide nums.Nodup
theorem isOrd_iff (nums : List Int) : isOrd nums = true ↔ (∀ z ∈ nums, 0 ≤ z ∧ z < nums.length) ∧ nums.Nodup := by
  unfold isOrd
  rw [Bool.and_eq_true, List.all_eq_true, decide_eq_true_eq]
  constructor
  · rintro ⟨h1, h2⟩; exact ⟨fun z hz => by simpa using h1 z hz, h2⟩
  · rintro ⟨h1, h2⟩; exact ⟨fun z hz => by simpa using h1 z hz, h2⟩
theorem isOrd_all (nums : List Int) : isOrd nums = true ↔ ∀ k : Nat, k < nums.length → (k : Int) ∈ nums := by
  rw [isOrd_iff]
  constructor
  · rintro ⟨h1, h2⟩ k hk
    refine Classical.byContradiction fun hno => ?_
    have := pig nums.length ((k : Int) :: nums) (List.nodup_cons.2 ⟨hno, h2⟩) (fun x hx => by
      rcases List.mem_cons.1 hx with e | hx
      · subst e; omega
      · exact h1 x hx)
    simp at this; omega
  · intro h
    have hR : ((List.range nums.length).map (fun k : Nat => (k : Int))).Nodup := by
      rw [List.nodup_iff_pairwise_ne, List.pairwise_map]
      exact (List.nodup_iff_pairwise_ne.1 List.nodup_range).imp (fun hne e => hne (by omega))
    obtain ⟨_, k2⟩ := sub_len _ nums hR (fun x hx => by
      obtain ⟨k, hk, rfl⟩ := List.mem_map.1 hx
      exact h k (List.mem_range.1 hk))
    obtain ⟨e1, e2⟩ := k2 (by simp)
    refine ⟨fun z hz => ?_, e1⟩
    obtain ⟨k, hk, rfl⟩ := List.mem_map.1 (e2 z hz)
    have := List.mem_range.1 hk
    omega
def atI (k : Int) : List Int → Int
  | [] => -1
  | a :: l => if a = k then 0 else if atI k l < 0 then -1 else atI k l + 1
theorem atI_lt (k : Int) : ∀ l : List Int, -1 ≤ atI k l ∧ atI k l < l.length
  | [] => by simp [atI]
  | a :: l => by
    have := atI_lt k l
    unfold atI
    rw [List.length_cons]
    split
    · omega
    · split <;> omega
theorem atI_neg (k : Int) : ∀ l : List Int, atI k l < 0 ↔ k ∉ l
  | [] => by simp [atI]
  | a :: l => by
    have ih := atI_neg k l
    unfold atI
    by_cases h : a = k
    · subst h; simp
    · rw [if_neg h]
      have h' : ¬ k = a := fun e => h e.symm
      have hk : (k ∉ a :: l) ↔ k ∉ l := by simp [h']
      rw [hk, ← ih]
      split <;> omega
theorem atI_app (k : Int) (l : List Int) (z : Int) : atI k (l ++ [z]) = if atI k l < 0 then (if z = k then (l.length : Int) else -1) else atI k l := by
  induction l with
  | nil => simp [atI]
  | cons a l ih =>
    have := atI_lt k l
    simp only [List.cons_append, atI, ih]
    by_cases h : a = k
    · simp [h]
    · simp only [h, if_false]
      by_cases h2 : atI k l < 0
      · simp only [h2, if_true]
        by_cases h3 : z = k
        · simp [h3]; omega
        · simp [h3]
      · simp only [h2, if_false]
        have h4 : ¬ atI k l + 1 < 0 := by omega
        simp [h4]
theorem atI_val {k : Int} {l : List Int} (h : 0 ≤ atI k l) : l[(atI k l).toNat]? = some k := by
  induction l with
  | nil => simp [atI] at h
  | cons a l ih =>
    unfold atI at h ⊢
    by_cases h1 : a = k
    · simp [h1]
    · rw [if_neg h1] at h ⊢
      by_cases h2 : atI k l < 0
      · rw [if_pos h2] at h; omega
      · rw [if_neg h2]
        have := ih (by omega)
        rw [show (atI k l + 1).toNat = (atI k l).toNat + 1 by omega]
        simpa using this
def invN (nums : List Int) (n : Nat) : List Int := (List.range n).map fun k : Nat => atI (k : Int) nums
theorem invN_len (nums : List Int) (n : Nat) : (invN nums n).length = n := by simp [invN]
theorem invN_at (nums : List Int) {n k : Nat} (h : k < n) : (invN nums n)[k]? = some (atI (k : Int) nums) := by
  simp [invN, List.getElem?_range h]
theorem invN_nil (n : Nat) : invN [] n = List.replicate n (-1) := by
  unfold invN
  apply List.ext_getElem?
  intro i
  by_cases hi : i < n
  · simp [hi, atI]
  · simp [hi]
theorem invN_snoc (l : List Int) (n k : Nat) (hk : k < n) (hno : atI (k : Int) l < 0) : invN (l ++ [(k : Int)]) n = (invN l n).set k (l.length : Int) := by
  apply List.ext_getElem?
  intro i
  rw [List.getElem?_set]
  by_cases hi : i < n
  · rw [invN_at _ hi, invN_at _ hi, atI_app]
    by_cases he : k = i
    · subst he; rw [if_pos hno, if_pos rfl, if_pos rfl, if_pos (by rw [invN_len]; exact hi)]
    · rw [if_neg he]
      have h2 : ¬ (k : Int) = (i : Int) := by omega
      rw [if_neg h2]
      have := atI_lt (i : Int) l
      split
      · congr 1; omega
      · rfl
  · rw [List.getElem?_eq_none (by rw [invN_len]; omega), List.getElem?_eq_none (by rw [invN_len]; omega)]
    split
    · rw [if_neg (by rw [invN_len]; omega)]
    · rfl
def lessI (i : Int) (n : Nat) : List Int := (List.range n).map fun k : Nat => if (k : Int) < i then (k : Int) else if (k : Int) = i then -1 else (k : Int) - 1
theorem lessI_len (i : Int) (n : Nat) : (lessI i n).length = n := by simp [lessI]
theorem lessI_succ (i : Int) (k : Nat) : lessI i (k + 1) = lessI i k ++ [if (k : Int) < i then (k : Int) else if (k : Int) = i then -1 else (k : Int) - 1] := by
  unfold lessI; rw [List.range_succ, List.map_append]; rfl
theorem er_succ {α : Type} {l : List α} {i k : Nat} {a : α} (h : l[k]? = some a) : (l.take (k + 1)).eraseIdx i = (l.take k).eraseIdx i ++ (if k = i then [] else [a]) := by
  have hk := (List.getElem?_eq_some_iff.1 h).1
  have hlen : (l.take k).length = k := by rw [List.length_take]; omega
  rw [List.take_add_one, h, Option.toList_some]
  by_cases h1 : i < k
  · rw [if_neg (by omega), List.eraseIdx_append_of_lt_length (by omega)]
  · rw [List.eraseIdx_append_of_length_le (by omega), List.eraseIdx_of_length_le (l := l.take k) (by omega), hlen]
    by_cases h2 : k = i
    · subst h2; simp
    · rw [if_neg h2, List.eraseIdx_of_length_le (by simp; omega)]
noncomputable def dropB (m : VT) (i : Int) : Bool := match m with | .mk x l => decide (x.k = 36) && decide (0 ≤ i) && decide (i < l.length) && !(decide ((l.getD i.toNat (.mk ⟨0, 0, ⟨#[]⟩, 0, 0⟩ [])).lab.k = 33) && decide ((l.getD i.toNat (.mk ⟨0, 0, ⟨#[]⟩, 0, 0⟩ [])).lab.n = 1)) && !((l.eraseIdx i.toNat).any (nmsT i))
noncomputable def dropT (m : VT) (i : Int) : VT := match m with | .mk x l => .mk x ((l.eraseIdx i.toNat).map (renum (lessI i l.length)))
theorem any_er {i k : Nat} {l : List VT} {p : VT → Bool} {a : VT} (h : l[k]? = some a) (hi : k ≠ i) (hp : p a = true) : (l.eraseIdx i).any p = true := by
  rw [List.any_eq_true]
  refine ⟨a, ?_, hp⟩
  by_cases h1 : k < i
  · exact List.mem_of_getElem? (show (l.eraseIdx i)[k]? = some a by rw [List.getElem?_eraseIdx_of_lt h1]; exact h)
  · exact List.mem_of_getElem? (show (l.eraseIdx i)[k - 1]? = some a by rw [List.getElem?_eraseIdx_of_ge (by omega), show k - 1 + 1 = k by omega]; exact h)
def lstI (k : Int) (l : List Int) : Nat → Int
  | 0 => -1
  | i + 1 => if l[i]? = some k then (i : Int) else lstI k l i
theorem lstI_lt (k : Int) (l : List Int) : ∀ n : Nat, -1 ≤ lstI k l n ∧ lstI k l n < n
  | 0 => by simp [lstI]
  | n + 1 => by
    have := lstI_lt k l n
    unfold lstI
    split <;> omega
theorem lstI_neg (k : Int) (l : List Int) : ∀ n : Nat, n ≤ l.length → (lstI k l n < 0 ↔ k ∉ l.take n)
  | 0, _ => by simp [lstI]
  | n + 1, h => by
    have ih := lstI_neg k l n (by omega)
    obtain ⟨z, hz⟩ : ∃ z, l[n]? = some z := ⟨_, List.getElem?_eq_getElem (by omega)⟩
    unfold lstI
    rw [List.take_add_one, hz, Option.toList_some, List.mem_append, not_or, ← ih]
    by_cases h1 : z = k
    · subst h1; rw [if_pos rfl]; simp
    · have h1' : ¬ k = z := fun e => h1 e.symm
      rw [if_neg (by simpa using h1)]; simp [h1']
theorem lstI_at {k : Int} {l : List Int} (hn : l.Nodup) : ∀ n : Nat, n ≤ l.length → lstI k l n = atI k (l.take n)
  | 0, _ => by simp [lstI, atI]
  | n + 1, h => by
    have ih := lstI_at (k := k) hn n (by omega)
    obtain ⟨z, hz⟩ : ∃ z, l[n]? = some z := ⟨_, List.getElem?_eq_getElem (by omega)⟩
    have hb := lstI_lt k l n
    unfold lstI
    rw [List.take_add_one, hz, Option.toList_some, atI_app, ← ih, List.length_take, Nat.min_eq_left (by omega)]
    by_cases h1 : z = k
    · subst h1
      have hno : z ∉ l.take n := fun hm => by
        have h2 : (l.take n ++ l.drop n).Nodup := by rw [List.take_append_drop]; exact hn
        exact (List.nodup_append.1 h2).2.2 _ hm z (by
          have hlt : n < l.length := by omega
          rw [List.drop_eq_getElem_cons hlt]
          have := (List.getElem?_eq_some_iff.1 hz).2
          simp [this]) rfl
      rw [if_pos rfl, if_pos ((lstI_neg z l n (by omega)).2 hno), if_pos rfl]
    · rw [if_neg (by simpa using h1), if_neg h1]
      split <;> omega
def lstN (nums : List Int) (k : Nat) : List Int := (List.range k).map fun q : Nat => lstI (q : Int) nums nums.length
theorem lstN_succ (nums : List Int) (k : Nat) : lstN nums (k + 1) = lstN nums k ++ [lstI (k : Int) nums nums.length] := by
  unfold lstN; rw [List.range_succ, List.map_append]; rfl
theorem lstN_len (nums : List Int) (k : Nat) : (lstN nums k).length = k := by simp [lstN]
theorem lstN_inv {nums : List Int} (h : nums.Nodup) (k : Nat) : lstN nums k = invN nums k := by
  unfold lstN invN
  apply List.map_congr_left
  intro q _
  rw [lstI_at h _ (Nat.le_refl _), List.take_length]
end Go.Proofs.Ythmdllhhmhbhbaa.vt
end
section
namespace Go.Proofs.Ythmdllhhmhbhbaa.am
open vt
theorem td_term : td Try.prog 24 = some ⟨true, 6, 72, [.lit (.int .i64 0), .lit (.int .i64 0), .lit (.string ⟨#[]⟩), .nilS, .lit (.int .i64 0), .lit (.int .i64 0)], [(0, 1, false), (1, 1, false), (2, 1, false), (3, 1, false), (4, 1, false), (5, 1, false)], .struct⟩ := Eq.trans (by kernel_rfl) (Eq.refl _)
theorem td_terms : td Try.prog 22 = some ⟨false, 1, 24, [.nilS], [], (.slice 24)⟩ := Eq.trans (by kernel_rfl) (Eq.refl _)
theorem td_int : td Try.prog 3 = some ⟨false, 1, 8, [.lit (.int .i64 0)], [], (.int .i64)⟩ := Eq.trans (by kernel_rfl) (Eq.refl _)
theorem td_int64 : td Try.prog 2 = some ⟨false, 1, 8, [.lit (.int .i64 0)], [], (.int .i64)⟩ := Eq.trans (by kernel_rfl) (Eq.refl _)
theorem td_bool : td Try.prog 4 = some ⟨false, 1, 1, [.lit (.bool false)], [], .bool⟩ := Eq.trans (by kernel_rfl) (Eq.refl _)
theorem td_string : td Try.prog 9 = some ⟨false, 1, 16, [.lit (.string ⟨#[]⟩)], [], .string⟩ := Eq.trans (by kernel_rfl) (Eq.refl _)
attribute [simp] td_term td_terms td_int td_int64 td_bool td_string
theorem mixd : Try.prog.follows .mixedOrders = true := by kernel_rfl
end Go.Proofs.Ythmdllhhmhbhbaa.am
end
section
namespace Go.Proofs.Ythmdllhhmhbhbaa.am
open Go.ChangeShapes Go.WideShapes Go.ChangeAt Go.RowKit
open vt
set_option linter.unusedVariables false
set_option linter.unusedSimpArgs false
theorem td_ints : td Try.prog 25 = some ⟨false, 1, 24, [.nilS], [], (.slice 3)⟩ := Eq.trans (by kernel_rfl) (Eq.refl _)
attribute [simp] td_ints
abbrev Is (l : List Int) : PV := .sl 1 (l.map fun z => [I z])
abbrev vIs (l : List Int) : AV := .v (.c (.pv (Is l)))
def ok64 (l : List Int) : Prop := ∀ z ∈ l, -9223372036854775808 ≤ z ∧ z ≤ 9223372036854775807
theorem lab_ok {x : Lab} {l : List VT} (h : in64 (.mk x l)) : x.ok := ((Tr.all_mk _ x l).1 h).1
theorem kid_ok {x : Lab} {l : List VT} (h : in64 (.mk x l)) {y : VT} (hy : y ∈ l) : in64 y := ((Tr.all_mk _ x l).1 h).2 y hy
end Go.Proofs.Ythmdllhhmhbhbaa.am
end
