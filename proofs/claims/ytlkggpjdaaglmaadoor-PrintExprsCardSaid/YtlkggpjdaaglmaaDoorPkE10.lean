import Derived.Test.YtlkggpjdaaglmaaDoorPkE3
import Derived.Scope
import Derived.Test.YtlkggpjdaaglmaaDoorPkE7
import Derived.Test.YtlkggpjdaaglmaaDoorPkE8
import Derived.Shelf.Strings.Builder1
import Derived.Shelf.Strings.Builder2
import Derived.Shelf.Strings.OnBuilder
import Derived.Shelf.Strconv.Itoa0
import Derived.Shelf.Strconv.Itoa1
import Derived.Shelf.LaysM
import Derived.Shelf.Strconv.Itoa2
import Derived.Shelf.Strconv.Itoa3
import Derived.Shelf.Strconv.Itoa4
import Derived.Shelf.Strconv.ParseIntEmpty
import Derived.Shelf.Strconv.Clone
import Derived.Shelf.Strconv.SyntaxError
import Derived.Shelf.LaysC
import Derived.Shelf.Strconv.ToError
import Derived.Shelf.Strconv.Lower
import Derived.Shelf.Strconv.ParseUint10
import Derived.Shelf.Strconv.ParseUint10Empty
import Derived.Shelf.Strconv.ParseUint10Any
import Derived.Shelf.Strconv.ParseInt10
import Derived.Shelf.Strconv.RangeError
import Derived.Shelf.Strconv.ToErrorRange
import Derived.Shelf.Strconv.ParseUintEmpty
import Derived.Shelf.Strconv.ParseUint10b64
import Derived.Shelf.Strconv.ParseUint10b32
import Derived.Shelf.Strconv.ParseUint10b16
import Derived.Shelf.Strconv.ParseUint10b8
import Derived.Shelf.Strconv.ParseUint10At
import Derived.Shelf.Strconv.ParseInt10At64
import Derived.Shelf.Strconv.ParseInt10At32
import Derived.Shelf.Strconv.ParseInt10At16
import Derived.Shelf.Strconv.ParseInt10At8
import Derived.Shelf.Strconv.ParseInt10All
import Derived.Shelf.Strconv.ParseIntPublic10
import Derived.Shelf.Strconv.ErrVarParseInt
import Derived.Test.YtlkggpjdaaglmaaDoorProg
import Derived.Lib.LaidTab
import Derived.Deep.RegionHeld3
import Derived.Lib.AppendIntMem
import Derived.Test.YtlkggpjdaaglmaaDoorPkE5
import Derived.Test.YtlkggpjdaaglmaaDoorPkE4
section
namespace Go.Proofs.YtlkggpjdaaglmaaDoor.am
open Go.ChangeShapes Go.WideShapes Go.ChangeAt Go.RowKit
set_option linter.unusedVariables false
set_option linter.unusedSimpArgs false
theorem cg {P : Program} {N f : Nat} {dst : Option Nat} {first caps : List Cap} {args cargs : List AV} {ch : List AO} {ch' : List (Option AO)} {res : AV} {st : St} {K : St → Prop} (hrow : Row P f cargs ch res ch') (σ : List Nat) (hk : K ((st.wr (wrs (nmap σ ch.length st.nx) 0 ch') 8).put dst (res.ren (nmap σ ch.length st.nx)))) (hfit : fitVs ch.length (fun i => σ.getD i 0) cargs (first.map capV ++ args ++ caps.map capV) := by first | (simp [*]; done) | fail) (ho : covO (hlk st.hp) ch.length (fun i => σ.getD i 0) (ch.map some) σ := by first | (simp [*]; done) | fail) (hnd : σ.Nodup := by first | decide | (simp; done) | fail) (hl : ch'.length ≤ ch.length + 8 := by first | decide | (simp; done) | fail) (hl' : ch.length ≤ ch'.length := by first | decide | (simp; done) | fail) (hd : dok N dst = true := by rfl) :
    CallK P N dst (.v (.c (.fn (.func f) first caps))) args st K := ⟨f, first, caps, cargs, ch, res, ch', σ, rfl, hrow, hfit, ho, hnd, hl, hl', hd, hk⟩
theorem dg {P : Program} {N f : Nat} {dst : Option Nat} {first caps : List Cap} {args cargs : List AV} {ch : List AO} {ch' : List (Option AO)} {res : AV} {st : St} {K : List Nat → List Nat → St → Prop} (hrow : Row P f cargs ch res ch') (σ : List Nat) (hk : K σ ((wrs (nmap σ ch.length st.nx) 0 ch').map (·.1)) ((st.wr (wrs (nmap σ ch.length st.nx) 0 ch') 8).put dst (res.ren (nmap σ ch.length st.nx)))) (hfit : fitVs ch.length (fun i => σ.getD i 0) cargs (first.map capV ++ args ++ caps.map capV) := by first | (simp [*]; done) | fail) (ho : covO (hlk st.hp) ch.length (fun i => σ.getD i 0) (ch.map some) σ := by first | (simp [*]; done) | fail) (hnd : σ.Nodup := by first | decide | (simp; done) | fail) (hl : ch'.length ≤ ch.length + 8 := by first | decide | (simp; done) | fail) (hl' : ch.length ≤ ch'.length := by first | decide | (simp; done) | fail) (hd : dok N dst = true := by rfl) :
    CallD P N dst (.v (.c (.fn (.func f) first caps))) args st K := ⟨f, first, caps, cargs, ch, res, ch', σ, rfl, hrow, hfit, ho, hnd, hl, hl', hd, hk⟩
attribute [simp] wrs nmap AC.ren AT.ren AV.ren AO.ren Cap.ren
def FinG (P : Program) (rs : List ResultVar) (res : AV) (ch' : List (Option AO)) (r : List Nat) (st : St) : Prop :=
  match resV P st rs with
  | some x => fitV ch'.length (fun i => r.getD i 0) res x ∧ covO (hlk st.hp) ch'.length (fun i => r.getD i 0) ch' r
  | none => False
theorem fin_g {P : Program} {nb : Nat} {rs : List ResultVar} {res : AV} {ch' : List (Option AO)} {st : St} (r : List Nat) (h : FinG P rs res ch' r st) (hnd : r.Nodup := by first | decide | (simp; done)) (ht : r.take nb = List.range nb := by rfl) (hl : nb ≤ ch'.length := by first | decide | (simp; done)) : Fin P nb rs res ch' .ret st := by
  unfold FinG at h
  split at h
  · rename_i x hx; exact ⟨x, r, hx, h.1, h.2, hnd, ht, hl⟩
  · exact h.elim
section
variable {X : Ctx} {H : Nat → Option AO} {U : Nat → Prop} {γ : Nat → G} {S : CS} {w : World}
def AC.frz (id : Nat) (p : PV) : AC → AC
  | .arr i es n => if i = id then .pv p else .arr i es n
  | .vw i es lo n => if i = id then (match p with | .sl es' l => if es' = es ∧ lo + n ≤ l.length ∧ (lo = 0 ∨ 0 < n) then .pv (.sl es ((l.drop lo).take n)) else .top | _ => .top) else .vw i es lo n
  | c => c
def AT.frz (id : Nat) (p : PV) : AT → AT
  | .c x => .c (x.frz id p)
  | .agg l => .agg (l.map (AC.frz id p))
def AV.frz (id : Nat) (p : PV) : AV → AV
  | .v x => .v (x.frz id p)
  | .ep i es k o => if i = id then .top else .ep i es k o
  | .tup l => .tup (l.map (AT.frz id p))
  | x => x
def AO.frz (id : Nat) (p : PV) : AO → AO
  | .box l => .box (l.map (AC.frz id p))
  | o => o
theorem RepC.frz {γ' : Nat → G} {id : Nat} {p : PV} {v0 : Value} (hg : γ id = .val v0) (hp : RepP S w v0 p) (hγ : γ' = upd γ id .dead) (hG : GOn γ γ') {v : Value} {c : AC} (h : RepC γ S w v c) : RepC γ' S w v (c.frz id p) := by
  have hm : ∀ {c}, RepC γ S w v c → RepC γ' S w v c := fun h => h.mono hG (fun _ _ h => h) (fun _ _ _ => rfl)
  cases c with
  | arr i es n =>
    show RepC γ' S w v (if i = id then .pv p else .arr i es n)
    by_cases hi : i = id
    · rw [if_pos hi]
      subst hi
      rcases h.2 with k | k
      · rw [hg] at k; cases k
      · rw [hg] at k; cases k; exact hp
    · rw [if_neg hi]; exact hm h
  | vw i es lo n =>
    have h1 := h.one
    by_cases hi : i = id
    · subst hi
      unfold AC.frz
      dsimp only
      rw [if_pos rfl]
      split
      · rename_i es' l
        split
        · rename_i hc
          obtain ⟨rfl, hc, hd⟩ := hc
          obtain ⟨a, m, c, hx, a1, hl1, hl2, ha1, rfl⟩ := h
          rcases hx with k | k
          · rw [hg] at k; cases k
          rw [hg] at k; cases k
          obtain ⟨a2, c2, e2, hs⟩ := sl_inv hp
          injection e2 with q1 q2 q3
          subst q1 q2 q3
          have hln : ((l.drop lo).take n).length = n := by rw [List.length_take, List.length_drop]; omega
          have key := hs.part lo (lo + n) c (by omega) (by omega) (Nat.le_refl _) (by omega)
          have e3 : (l.take (lo + n)).drop lo = (l.drop lo).take n := by rw [List.drop_take]; congr 1; omega
          rw [e3] at key
          have key := sl_intro key
          rw [hln] at key
          rcases hd with hd | hd
          · subst hd
            have hz0 : ∀ z : Addr, z.add 0 = z := fun z => by unfold Addr.add; split <;> simp_all
            have e4 : a1 = a := by rw [ha1 (.inl rfl)]; cases a <;> simp [hz0]
            rw [e4]
            have e5 : (if c = 0 then a else a.map (·.add (0 * es'))) = a := by
              split
              · rfl
              · cases a <;> simp [hz0]
            rw [e5] at key
            exact key
          · rw [ha1 (.inr hd)]
            rw [if_neg (by omega)] at key
            exact key
        · exact h1
      · exact h1
    · unfold AC.frz
      dsimp only
      rw [if_neg hi]; exact hm h
  | _ => exact hm h
theorem RepCs.frz {γ' : Nat → G} {id : Nat} {p : PV} {v0 : Value} (hg : γ id = .val v0) (hp : RepP S w v0 p) (hγ : γ' = upd γ id .dead) (hG : GOn γ γ') {vs : List Value} {l : List AC} (h : RepCs γ S w vs l) : RepCs γ' S w vs (l.map (AC.frz id p)) := by
  refine ⟨by rw [List.length_map]; exact h.1, fun i c hi => ?_⟩
  obtain ⟨x, hx, rfl⟩ := map_at hi
  obtain ⟨v, h1, h2⟩ := h.2 i x hx
  exact ⟨v, h1, h2.frz hg hp hγ hG⟩
theorem RepT.frz {γ' : Nat → G} {id : Nat} {p : PV} {v0 : Value} (hg : γ id = .val v0) (hp : RepP S w v0 p) (hγ : γ' = upd γ id .dead) (hG : GOn γ γ') {v : Value} {c : AT} (h : RepT γ S w v c) : RepT γ' S w v (c.frz id p) := by
  cases c with
  | c x => exact RepC.frz hg hp hγ hG h
  | agg l => obtain ⟨cs, h1, h2⟩ := h; exact ⟨cs, h1, h2.frz hg hp hγ hG⟩
theorem RepV.frz {γ' : Nat → G} {id : Nat} {p : PV} {v0 : Value} (hg : γ id = .val v0) (hp : RepP S w v0 p) (hγ : γ' = upd γ id .dead) (hG : GOn γ γ') {v : Value} {c : AV} (h : RepV γ S w v c) : RepV γ' S w v (c.frz id p) := by
  cases c with
  | v x => exact RepT.frz hg hp hγ hG h
  | tup l =>
    obtain ⟨cs, h1, h2⟩ := h
    refine ⟨cs, h1, by rw [List.length_map]; exact h2.1, fun i c hi => ?_⟩
    obtain ⟨x, hx, rfl⟩ := map_at hi
    obtain ⟨v, h3, h4⟩ := h2.2 i x hx
    exact ⟨v, h3, h4.frz hg hp hγ hG⟩
  | ep i es k o =>
    show RepV γ' S w v (if i = id then .top else .ep i es k o)
    by_cases hi : i = id
    · rw [if_pos hi]; trivial
    · rw [if_neg hi]; exact RepV.mono hG (fun _ _ h => h) (fun _ _ _ => rfl) h
  | rp c o => exact h
  | top => trivial
end
section
variable {P : Program} {N nb : Nat} {st : St} {Q : Exit → St → Prop}
def St.frz (st : St) (id es : Nat) (l : List (List PV)) : St := ⟨st.tm.map fun p => (p.1, p.2.frz id (.sl es l)), st.hp.map fun p => (p.1, if p.1 = id then none else p.2.map (AO.frz id (.sl es l))), st.nx⟩
end
end Go.Proofs.YtlkggpjdaaglmaaDoor.am
end
section
namespace Go.Proofs.YtlkggpjdaaglmaaDoor.am
open Go.ChangeShapes Go.WideShapes Go.ChangeAt Go.RowKit
set_option linter.unusedVariables false
end Go.Proofs.YtlkggpjdaaglmaaDoor.am
end
section
namespace Go.Proofs.YtlkggpjdaaglmaaDoor.am
open Go.ChangeShapes Go.WideShapes Go.ChangeAt Go.RowKit
set_option linter.unusedVariables false
set_option linter.unusedSimpArgs false
variable {P : Program} {N nb : Nat} {st : St} {Q : Exit → St → Prop}
end Go.Proofs.YtlkggpjdaaglmaaDoor.am
end
section
namespace Go.Proofs.YtlkggpjdaaglmaaDoor.am
open Go.ChangeShapes Go.WideShapes Go.ChangeAt Go.RowKit
set_option linter.unusedVariables false
variable {P : Program} {N nb : Nat} {st : St} {Q : Exit → St → Prop}
def St.mvr (st : St) (id bx j : Nat) (cells : List AC) (e : TypeId) (es es' : Nat) (l : List (List PV)) : St := ⟨st.tm, (bx, some (.box (cells.set j (.row st.nx es l)))) :: (st.nx, some (.row e es')) :: (id, none) :: st.hp, st.nx + 1⟩
theorem aw_mvr {c : Code} (id bx j : Nat) (cells : List AC) (e : TypeId) (es es' : Nat) (l : List (List PV)) (hid : hlk st.hp id = some (.row e es')) (hbx : hlk st.hp bx = some (.box cells)) (hj : cells[j]? = some (.row id es l)) (hl1 : id < st.nx) (hl2 : bx < st.nx) (h : AW P N nb c (st.mvr id bx j cells e es es' l) Q) : AW P N nb c st Q := by
  refine aw_cov (fun X hX a w hr => ?_) h
  obtain ⟨h1, h2, γ, S, hm, ha⟩ := hr
  obtain ⟨v, n, xs, g1, g2, g3⟩ := hm.obj _ _ hid
  obtain ⟨m, hG⟩ := hm.app (nm := st.nx) (Nat.le_refl _) g1 rfl (w' := w) rfl rfl rfl rfl (fun _ _ => rfl) (fun _ _ _ => rfl) (fun _ => False) (.row e es')
    ⟨v, n, xs, upd_same _ _ _, g2, fun b hb o ho hs => g3 b hb o ho (hs.elim (fun h => h) (fun h => h.2.elim))⟩
  refine ⟨h1, h2, upd (upd γ id .dead) st.nx (.val v), (fun b k => S b k ∨ (v.ownBlock = some b ∧ False)), ?_, fun s => (ha s).mono hG (fun _ _ h => Or.inl h) (fun _ _ _ => rfl)⟩
  show Mem X (hlk ((bx, some (.box (cells.set j (.row st.nx es l)))) :: (st.nx, some (.row e es')) :: (id, none) :: st.hp)) _ _ _ _
  rw [hlk_cons, hlk_cons, hlk_cons]
  have hne : bx ≠ st.nx := by omega
  have hbi : bx ≠ id := fun e => by rw [e, hid] at hbx; cases hbx
  have hbx' : upd (upd (hlk st.hp) id none) st.nx (some (.row e es')) bx = some (.box cells) := by rw [upd_ne _ _ hne, upd_ne _ _ hbi]; exact hbx
  obtain ⟨b0, cs0, t0, q1, q2, q3, q4⟩ := hm.obj _ _ hbx
  refine { m with un := fun x hx => m.un x ⟨by have : st.nx + 1 ≤ x := hx
                                               show st.nx ≤ x
                                               omega, by have : st.nx + 1 ≤ x := hx
                                                         omega⟩, off := fun x hx => ?_, obj := fun x o hx => ?_ }
  · by_cases hxi : x = bx
    · subst hxi; rw [upd_same] at hx; cases hx
    · rw [upd_ne _ _ hxi] at hx; exact m.off x hx
  · by_cases hxi : x = bx
    · subst hxi
      rw [upd_same] at hx; cases hx
      obtain ⟨b, cs, t, k1, k2, k3, k4⟩ := m.obj x _ hbx'
      have hcs : cs = cs0 := by
        have : (upd (upd γ id .dead) st.nx (.val v)) x = γ x := by rw [upd_ne _ _ hne, upd_ne _ _ hbi]
        rw [this, q1] at k1
        cases k1
        rw [q2] at k2
        cases k2
        rfl
      refine ⟨b, cs, t, k1, k2, ⟨by rw [List.length_set]; exact k3.1, fun i ac hi => ?_⟩, k4⟩
      rw [List.getElem?_set] at hi
      split at hi
      · rename_i hij
        split at hi
        · cases hi
          subst hij
          obtain ⟨u, r1, r2⟩ := q3.2 j _ hj
          obtain ⟨r3, r4⟩ := r2
          have hu : u = v := by
            rcases r4 with r4 | r4
            · rw [g1] at r4; cases r4
            · rw [g1] at r4; cases r4; rfl
          subst hu
          exact ⟨u, by rw [hcs]; exact r1, r3.mono (fun _ _ h => .inl h) (fun _ _ _ => rfl), .inr (upd_same _ _ _)⟩
        · cases hi
      · exact k3.2 i ac hi
    · rw [upd_ne _ _ hxi] at hx; exact m.obj x o hx
abbrev bxW (i : Nat) (l : List (List PV)) : AO := .box [.row i 1 l]
theorem cgw {f : Nat} {dst : Option Nat} {first caps : List Cap} {args cargs : List AV} {l l0 : List (List PV)} {e : TypeId} {LL : List (Nat × Array Value)} {ch' : List (Option AO)} {res : AV} {K : St → Prop} (hrow : Row P f cargs [bxW 1 l, .row e 1, .lib LL] res ch') (b g : Nat) {i : Nat} (hb : hlk st.hp b = some (bxW i l0)) (hk : K ((st.wr (wrs (nmap [b, i, g] 3 st.nx) 0 ch') 8).put dst (res.ren (nmap [b, i, g] 3 st.nx)))) (hfit : fitVs 3 (fun k => [b, i, g].getD k 0) cargs (first.map capV ++ args ++ caps.map capV) := by first | (simp [*]; done) | fail) (ho : covO (hlk st.hp) 3 (fun k => [b, i, g].getD k 0) ([bxW 1 l, .row e 1, .lib LL].map some) [b, i, g] := by first | (simp [*]; done) | fail) (hnd : [b, i, g].Nodup := by first | decide | (simp; done) | fail) (hl : ch'.length ≤ 11 := by first | decide | (simp; done) | fail) (hl' : 3 ≤ ch'.length := by first | decide | (simp; done) | fail) (hd : dok N dst = true := by rfl) :
    CallK P N dst (.v (.c (.fn (.func f) first caps))) args st K := cg hrow [b, i, g] hk hfit ho hnd hl hl' hd
theorem dgw {f : Nat} {dst : Option Nat} {first caps : List Cap} {args cargs : List AV} {l l0 : List (List PV)} {e : TypeId} {LL : List (Nat × Array Value)} {ch' : List (Option AO)} {res : AV} {K : List Nat → List Nat → St → Prop} (hrow : Row P f cargs [bxW 1 l, .row e 1, .lib LL] res ch') (b g : Nat) {i : Nat} (hb : hlk st.hp b = some (bxW i l0)) (hk : K [b, i, g] ((wrs (nmap [b, i, g] 3 st.nx) 0 ch').map (·.1)) ((st.wr (wrs (nmap [b, i, g] 3 st.nx) 0 ch') 8).put dst (res.ren (nmap [b, i, g] 3 st.nx)))) (hfit : fitVs 3 (fun k => [b, i, g].getD k 0) cargs (first.map capV ++ args ++ caps.map capV) := by first | (simp [*]; done) | fail) (ho : covO (hlk st.hp) 3 (fun k => [b, i, g].getD k 0) ([bxW 1 l, .row e 1, .lib LL].map some) [b, i, g] := by first | (simp [*]; done) | fail) (hnd : [b, i, g].Nodup := by first | decide | (simp; done) | fail) (hl : ch'.length ≤ 11 := by first | decide | (simp; done) | fail) (hl' : 3 ≤ ch'.length := by first | decide | (simp; done) | fail) (hd : dok N dst = true := by rfl) :
    CallD P N dst (.v (.c (.fn (.func f) first caps))) args st K := dg hrow [b, i, g] hk hfit ho hnd hl hl' hd
theorem fin_gw {rs : List ResultVar} {res : AV} {ch' : List (Option AO)} {l0 : List (List PV)} {i : Nat} (hb : hlk st.hp 0 = some (bxW i l0)) (h : FinG P rs res ch' [0, 1, 2, i] st) (hnd : [0, 1, 2, i].Nodup := by first | decide | (simp; done)) (ht : [0, 1, 2, i].take nb = List.range nb := by rfl) (hl : nb ≤ ch'.length := by first | decide | (simp; done)) : Fin P nb rs res ch' .ret st := fin_g [0, 1, 2, i] h hnd ht hl
theorem cov_w {tm : List (Nat × AV)} {os : List (Option AO)} {l0 : List (List PV)} {i : Nat} (hw : hlk st.hp 0 = some (bxW i l0)) (ht : covT st.tm os.length (fun k => [0, 1, 2, i].getD k 0) tm) (hc : covO (hlk st.hp) os.length (fun k => [0, 1, 2, i].getD k 0) os [0, 1, 2, i]) (hnd : [0, 1, 2, i].Nodup) (hb : [0, 1, 2, i].take nb = List.range nb) (hnb : nb ≤ os.length) : Cov N nb st (mkSt tm os) := cov_intro [0, 1, 2, i] ht hc hnd hb hnb
end Go.Proofs.YtlkggpjdaaglmaaDoor.am
end
section
namespace Go.Proofs.YtlkggpjdaaglmaaDoor.am
open Go.ChangeShapes Go.WideShapes Go.ChangeAt Go.RowKit
open vt
set_option linter.unusedVariables false
set_option linter.unusedSimpArgs false
theorem td_prn : td Tryd.prog 90 = some ⟨true, 1, 24, [.nilS], [(0, 1, false)], .struct⟩ := Eq.trans (by kernel_rfl) (Eq.refl _)
theorem td_pprn : td Tryd.prog 70 = some ⟨false, 1, 8, [.lit (.pointer none)], [], (.pointer 90)⟩ := Eq.trans (by kernel_rfl) (Eq.refl _)
theorem td_pstrs : td Tryd.prog 83 = some ⟨false, 1, 24, [.nilS], [], (.slice 9)⟩ := Eq.trans (by kernel_rfl) (Eq.refl _)
attribute [simp] td_prn td_pprn td_pstrs
abbrev ws (L : List ByteArray) : List (List PV) := L.map fun s => [Sx s]
abbrev vWs (W : List ByteArray) : AV := .v (.c (.pv (.sl 1 (ws W))))
abbrev rwS : AO := .row 9 1
abbrev PRow (LL : List (Nat × Array Value)) (f : Nat) (args : List AV) (L W : List ByteArray) : Prop := Row Tryd.prog f (.v (.c (.ptr 0 0)) :: args) [bxW 1 (ws L), rwS, .lib LL] (.tup []) [some (bxW 3 (ws (L ++ W))), none, some (.lib LL), some rwS]
set_option maxRecDepth 100000 in
set_option maxHeartbeats 4000000 in
theorem put_row (LL : List (Nat × Array Value)) (L W : List ByteArray) (h : L.length + W.length ≤ 1000000) : PRow LL 55 [vWs W] L W := by
  have b1 : (L.length + W.length) * 16 ≤ 140737488355328 := by omega
  have b2 : L.length + W.length ≤ 140737488355328 := by omega
  refine row_of Tryd.func55 rfl rfl (Nat.le_of_ble_eq_true rfl) ?_
  repeat (first | refine aw_seq ?_ | refine aw_skip ?_ | refine aw_block ?_ | refine aw_exit ?_ | refine aw_cond rfl (fun _ => ?_) (fun hb => absurd hb (by decide)) | refine aw_cond rfl (fun hb => absurd hb (by decide)) (fun _ => ?_) | (refine aw_reg (fun K hK => ?_); simp -implicitDefEqProofs [b1, b2]; refine hK _ ?_) | (refine aw_drw mixd (fun K hK => ?_); simp -implicitDefEqProofs [b1, b2]; refine hK _ _ (by rfl) ?_) | fail)
  refine fin_fall (fin_gw rfl ?_); simp -implicitDefEqProofs [FinG, resV, resT] <;> try rfl
set_option maxRecDepth 100000 in
set_option maxHeartbeats 4000000 in
theorem part_row (x : Lab) (l : List VT) (i : Nat) (y : VT) (h : l[i]? = some y) (hi : i ≤ 9) : Row Tryd.prog 60 [vT (.mk x l), vI (i : Nat)] [] (vT y) [] := by
  have h1 := (List.getElem?_eq_some_iff.1 h).1
  have h2 := (List.getElem?_eq_some_iff.1 h).2
  have h3 : (i : Int) < l.length := by omega
  obtain ⟨⟨yk, yn, ys, yf, yt⟩, yl⟩ := y
  refine row_of Tryd.func60 rfl rfl (Nat.le_of_ble_eq_true rfl) ?_
  repeat (first | refine aw_seq ?_ | refine aw_skip ?_ | refine aw_block ?_ | refine aw_exit ?_ | refine aw_cond rfl (fun _ => ?_) (fun hb => absurd hb (by decide)) | refine aw_cond rfl (fun hb => absurd hb (by decide)) (fun _ => ?_) | (refine aw_reg (fun K hK => ?_); simp -implicitDefEqProofs [h, h1, h2, h3]; refine hK _ ?_) | (refine aw_drw mixd (fun K hK => ?_); simp -implicitDefEqProofs [h, h1, h2, h3]; refine hK _ _ (by rfl) ?_) | fail)
  refine aw_ret (fin_ret ?_); simp -implicitDefEqProofs [FinP, resV, resT] <;> try rfl
set_option maxRecDepth 100000 in
set_option maxHeartbeats 4000000 in
theorem oper_row (n : Int) (h1 : 1 ≤ n) (h2 : n ≤ 13) : Row Tryd.prog 77 [vI n] [] (.tup [.c (.pv (Sx (opB n).1)), .c (.pv (I (opB n).2))]) [] := by
  have : n = 1 ∨ n = 2 ∨ n = 3 ∨ n = 4 ∨ n = 5 ∨ n = 6 ∨ n = 7 ∨ n = 8 ∨ n = 9 ∨ n = 10 ∨ n = 11 ∨ n = 12 ∨ n = 13 := by omega
  rcases this with rfl | rfl | rfl | rfl | rfl | rfl | rfl | rfl | rfl | rfl | rfl | rfl | rfl
  all_goals
    refine row_of Tryd.func77 rfl rfl (Nat.le_of_ble_eq_true rfl) ?_
    repeat (first | refine aw_seq ?_ | refine aw_skip ?_ | refine aw_block ?_ | refine aw_exit ?_ | refine aw_cond rfl (fun _ => ?_) (fun hb => absurd hb (by decide)) | refine aw_cond rfl (fun hb => absurd hb (by decide)) (fun _ => ?_) | (refine aw_reg (fun K hK => ?_); simp -implicitDefEqProofs; refine hK _ ?_) | (refine aw_drw mixd (fun K hK => ?_); simp -implicitDefEqProofs; refine hK _ _ (by rfl) ?_) | fail)
    refine aw_ret (fin_ret ?_); simp -implicitDefEqProofs [FinP, resV, resT, opB] <;> try rfl
set_option maxRecDepth 100000 in
set_option maxHeartbeats 4000000 in
theorem bind_row (x : Lab) (l : List VT) (hx : Opd x) : Row Tryd.prog 78 [vT (.mk x l)] [] (vI (tgh x)) [] := by
  by_cases c : x.k = 10
  · have e := oper_row x.n (hx c).1 (hx c).2
    have t : tgh x = (opB x.n).2 := by unfold tgh; rw [if_pos c]
    rw [t]
    refine row_of Tryd.func78 rfl rfl (Nat.le_of_ble_eq_true rfl) ?_
    repeat' (first | refine aw_seq ?_ | refine aw_skip ?_ | refine aw_block ?_ | refine aw_exit ?_ | refine aw_cond rfl (fun _ => ?_) (fun hb => absurd hb (by decide)) | refine aw_cond rfl (fun hb => absurd hb (by decide)) (fun _ => ?_) | (refine aw_reg (fun K hK => ?_); simp -implicitDefEqProofs [c]) | (refine aw_drw mixd (fun K hK => ?_); simp -implicitDefEqProofs [c]) | refine hK _ ?_ | refine hK _ _ (by rfl) ?_ | (refine ar_call (cp e ?_); simp -implicitDefEqProofs [c]) | (refine ard_call (dp e ?_); simp -implicitDefEqProofs [c]) | fail)
    refine aw_ret (fin_ret ?_); simp -implicitDefEqProofs [FinP, resV, resT] <;> try rfl
  · by_cases c2 : x.k = 11
    · have t : tgh x = 6 := by unfold tgh; rw [if_neg c, if_pos c2]
      rw [t]
      refine row_of Tryd.func78 rfl rfl (Nat.le_of_ble_eq_true rfl) ?_
      repeat (first | refine aw_seq ?_ | refine aw_skip ?_ | refine aw_block ?_ | refine aw_exit ?_ | refine aw_cond rfl (fun _ => ?_) (fun hb => absurd hb (by decide)) | refine aw_cond rfl (fun hb => absurd hb (by decide)) (fun _ => ?_) | (refine aw_reg (fun K hK => ?_); simp -implicitDefEqProofs [c, c2]; refine hK _ ?_) | (refine aw_drw mixd (fun K hK => ?_); simp -implicitDefEqProofs [c, c2]; refine hK _ _ (by rfl) ?_) | fail)
      refine aw_ret (fin_ret ?_); simp -implicitDefEqProofs [FinP, resV, resT] <;> try rfl
    · have t : tgh x = 7 := by unfold tgh; rw [if_neg c, if_neg c2]
      rw [t]
      refine row_of Tryd.func78 rfl rfl (Nat.le_of_ble_eq_true rfl) ?_
      repeat (first | refine aw_seq ?_ | refine aw_skip ?_ | refine aw_block ?_ | refine aw_exit ?_ | refine aw_cond rfl (fun _ => ?_) (fun hb => absurd hb (by decide)) | refine aw_cond rfl (fun hb => absurd hb (by decide)) (fun _ => ?_) | (refine aw_reg (fun K hK => ?_); simp -implicitDefEqProofs [c, c2]; refine hK _ ?_) | (refine aw_drw mixd (fun K hK => ?_); simp -implicitDefEqProofs [c, c2]; refine hK _ _ (by rfl) ?_) | fail)
      refine aw_ret (fin_ret ?_); simp -implicitDefEqProofs [FinP, resV, resT] <;> try rfl
end Go.Proofs.YtlkggpjdaaglmaaDoor.am
end
section
namespace Go.Proofs
open Go.Shelf
def Tryd.lays156_ren : Go.Shelf.Ren := ⟨fun | 156 => 53 | 165 => 75 | 166 => 23 | 169 => 25 | 240 => 40 | 241 => 87 | 276 => 72 | 277 => 93 | n => n, fun | 31 => 83 | 9 => 9 | 3 => 3 | 4 => 4 | 0 => 0 | 20 => 20 | 72 => 51 | 76 => 58 | 70 => 48 | 37 => 49 | 75 => 57 | 127 => 79 | 164 => 100 | 5 => 5 | 80 => 61 | n => n, fun | n => n⟩
theorem Tryd.lays156 : Go.Proofs.Lays.n156 Tryd.prog Tryd.lays156_ren := {
  mixed := by kernel_rfl
  f156 := Tryd.func53.trans (congrArg some (by kernel_rfl))
  f165 := Tryd.func75.trans (congrArg some (by kernel_rfl))
  f166 := Tryd.func23.trans (congrArg some (by kernel_rfl))
  f169 := Tryd.func25.trans (congrArg some (by kernel_rfl))
  f240 := Tryd.func40.trans (congrArg some (by kernel_rfl))
  f241 := Tryd.func87.trans (congrArg some (by kernel_rfl))
  f276 := Tryd.func72.trans (congrArg some (by kernel_rfl))
  f277 := Tryd.func93.trans (congrArg some (by kernel_rfl))
  t0 := Tryd.underlying0
  a0 := Tryd.isAgg0
  z0 := Tryd.sizeOf0
  v0 := Tryd.zeroValue0
  t3 := Tryd.underlying3
  a3 := Tryd.isAgg3
  z3 := Tryd.sizeOf3
  v3 := Tryd.zeroValue3
  t4 := Tryd.underlying4
  a4 := Tryd.isAgg4
  z4 := Tryd.sizeOf4
  v4 := Tryd.zeroValue4
  t9 := Tryd.underlying9
  a9 := Tryd.isAgg9
  z9 := Tryd.sizeOf9
  v9 := Tryd.zeroValue9
  t20 := Tryd.underlying20
  a20 := Tryd.isAgg20
  z20 := Tryd.sizeOf20
  v20 := Tryd.zeroValue20
  t31 := Tryd.underlying83
  a31 := Tryd.isAgg83
  z31 := Tryd.sizeOf83
  v31 := Tryd.zeroValue83
  t37 := Tryd.underlying49
  a37 := Tryd.isAgg49
  z37 := Tryd.sizeOf49
  v37 := Tryd.zeroValue49
  t70 := Tryd.underlying48
  a70 := Tryd.isAgg48
  z70 := Tryd.sizeOf48
  v70 := Tryd.zeroValue48
  t72 := Tryd.underlying51
  a72 := Tryd.isAgg51
  z72 := Tryd.sizeOf51
  v72 := Tryd.zeroValue51
  t75 := Tryd.underlying57
  a75 := Tryd.isAgg57
  z75 := Tryd.sizeOf57
  v75 := Tryd.zeroValue57
  t76 := Tryd.underlying58
  a76 := Tryd.isAgg58
  z76 := Tryd.sizeOf58
  v76 := Tryd.zeroValue58
  t127 := Tryd.underlying79
  a127 := Tryd.isAgg79
  z127 := Tryd.sizeOf79
  v127 := Tryd.zeroValue79
  t164 := Tryd.underlying100
  a164 := Tryd.isAgg100
  z164 := Tryd.sizeOf100
  v164 := Tryd.zeroValue100 }
theorem Tryd.Builder_Extra_156 : Builder.Extra Tryd.prog Tryd.lays156_ren := {
  sizeBuilder := by kernel_rfl
  liesBuilder := by kernel_rfl
  t5 := Tryd.underlying5
  a5 := Tryd.isAgg5
  z5 := Tryd.sizeOf5
  v5 := Tryd.zeroValue5
  infoByte := by kernel_rfl
  cellsByte := by kernel_rfl
  sizeByte := by kernel_rfl
  neB5 := by decide }
open Go.RowKit in
theorem Tryd.strings_Join (bk o c : Nat) (xs : List ByteArray) (sep : ByteArray) (w : World) (hcells : ∀ (j : Nat) x, xs[j]? = some x → w.cell? ⟨bk, o + j, none⟩ = some (.string x)) (hbk : bk < w.heap.size) (hN : xs.length ≤ 140737488355328) (hcap : xs.length ≤ c) (hlen : (Lib.join (xs.map (·.data.toList)) sep.data.toList).length ≤ 140737488355328) :
    Calls Tryd.prog 53 #[.slice (some ⟨bk, o, none⟩) xs.length c, .string sep] w fun e w' => e = .returned (.string ⟨(Lib.join (xs.map (·.data.toList)) sep.data.toList).toArray⟩) ∧ Below w.heap.size w w' := Any.strings_Join Tryd.lays156 Tryd.Builder_Extra_156 bk o c xs sep w hcells hbk hN hcap hlen
def Tryd.laysM173_ren : Go.Shelf.Ren := ⟨fun | 173 => 94 | 246 => 101 | 283 => 108 | 284 => 109 | 285 => 110 | 286 => 111 | 129 => 114 | 317 => 113 | 318 => 115 | 319 => 116 | 320 => 117 | 337 => 118 | 338 => 119 | n => n, fun | 2 => 2 | 3 => 3 | 9 => 9 | 4 => 4 | 171 => 133 | 0 => 0 | 53 => 117 | 37 => 49 | 5 => 5 | 173 => 136 | 212 => 143 | 51 => 144 | 20 => 20 | 213 => 145 | 46 => 120 | 232 => 149 | 233 => 150 | n => n, fun | 17 => 3 | 18 => 4 | 19 => 5 | n => n⟩
theorem Tryd.laysM173 : Go.Proofs.LaysM.n173 Tryd.prog Tryd.laysM173_ren := {
  mixed := by kernel_rfl
  f129 := Tryd.func114.trans (congrArg some (by kernel_rfl))
  f173 := Tryd.func94.trans (congrArg some (by kernel_rfl))
  f246 := Tryd.func101.trans (congrArg some (by kernel_rfl))
  f283 := Tryd.func108.trans (congrArg some (by kernel_rfl))
  f284 := Tryd.func109.trans (congrArg some (by kernel_rfl))
  f285 := Tryd.func110.trans (congrArg some (by kernel_rfl))
  f286 := Tryd.func111.trans (congrArg some (by kernel_rfl))
  f317 := Tryd.func113.trans (congrArg some (by kernel_rfl))
  f318 := Tryd.func115.trans (congrArg some (by kernel_rfl))
  f319 := Tryd.func116.trans (congrArg some (by kernel_rfl))
  f320 := Tryd.func117.trans (congrArg some (by kernel_rfl))
  f337 := Tryd.func118.trans (congrArg some (by kernel_rfl))
  f338 := Tryd.func119.trans (congrArg some (by kernel_rfl))
  t0 := Tryd.underlying0
  a0 := Tryd.isAgg0
  z0 := Tryd.sizeOf0
  v0 := Tryd.zeroValue0
  t2 := Tryd.underlying2
  a2 := Tryd.isAgg2
  z2 := Tryd.sizeOf2
  v2 := Tryd.zeroValue2
  t3 := Tryd.underlying3
  a3 := Tryd.isAgg3
  z3 := Tryd.sizeOf3
  v3 := Tryd.zeroValue3
  t4 := Tryd.underlying4
  a4 := Tryd.isAgg4
  z4 := Tryd.sizeOf4
  v4 := Tryd.zeroValue4
  t5 := Tryd.underlying5
  a5 := Tryd.isAgg5
  z5 := Tryd.sizeOf5
  v5 := Tryd.zeroValue5
  t9 := Tryd.underlying9
  a9 := Tryd.isAgg9
  z9 := Tryd.sizeOf9
  v9 := Tryd.zeroValue9
  t20 := Tryd.underlying20
  a20 := Tryd.isAgg20
  z20 := Tryd.sizeOf20
  v20 := Tryd.zeroValue20
  t37 := Tryd.underlying49
  a37 := Tryd.isAgg49
  z37 := Tryd.sizeOf49
  v37 := Tryd.zeroValue49
  t46 := Tryd.underlying120
  a46 := Tryd.isAgg120
  z46 := Tryd.sizeOf120
  v46 := Tryd.zeroValue120
  t51 := Tryd.underlying144
  a51 := Tryd.isAgg144
  z51 := Tryd.sizeOf144
  v51 := Tryd.zeroValue144
  t53 := Tryd.underlying117
  a53 := Tryd.isAgg117
  z53 := Tryd.sizeOf117
  v53 := Tryd.zeroValue117
  t171 := Tryd.underlying133
  a171 := Tryd.isAgg133
  z171 := Tryd.sizeOf133
  v171 := Tryd.zeroValue133
  t173 := Tryd.underlying136
  a173 := Tryd.isAgg136
  z173 := Tryd.sizeOf136
  v173 := Tryd.zeroValue136
  t212 := Tryd.underlying143
  a212 := Tryd.isAgg143
  z212 := Tryd.sizeOf143
  v212 := Tryd.zeroValue143
  t213 := Tryd.underlying145
  a213 := Tryd.isAgg145
  z213 := Tryd.sizeOf145
  t232 := Tryd.underlying149
  a232 := Tryd.isAgg149
  z232 := Tryd.sizeOf149
  v232 := Tryd.zeroValue149
  t233 := Tryd.underlying150
  a233 := Tryd.isAgg150
  z233 := Tryd.sizeOf150
  v233 := Tryd.zeroValue150
  g17 := by kernel_rfl
  g18 := by kernel_rfl
  g19 := by kernel_rfl
  i0 := by kernel_rfl
  i2 := by kernel_rfl
  i3 := by kernel_rfl
  i4 := by kernel_rfl
  i5 := by kernel_rfl
  i9 := by kernel_rfl
  i20 := by kernel_rfl
  i37 := by kernel_rfl
  i46 := by kernel_rfl
  i51 := by kernel_rfl
  i53 := by kernel_rfl
  i171 := by kernel_rfl
  i173 := by kernel_rfl
  i212 := by kernel_rfl
  i232 := by kernel_rfl
  i233 := by kernel_rfl
  m17 := by kernel_rfl
  m18 := by kernel_rfl
  m19 := by kernel_rfl }
open Go.RowKit Go.Sort Go.Lib in
theorem Tryd.strconv_FormatInt_10 (n : Int) (h0 : -9223372036854775808 ≤ n) (h1 : n ≤ 9223372036854775807) (w : World) (htab : Lib.TabIs Tryd.prog w "internal/strconv.uint64pow10" .u64 Lib.pow10Tab) :
    Calls Tryd.prog 94 #[.int .i64 n, .int .i64 10] w fun e w' => e = .returned (.string ⟨(Lib.itoa n).toArray⟩) ∧ ∃ k os, w' = grow (w.drewN k) os := Any.strconv_FormatInt_10 Tryd.laysM173 n h0 h1 w htab
end Go.Proofs
end
section
namespace Go.Proofs.YtlkggpjdaaglmaaDoor.lx
open Go.ChangeShapes Go.WideShapes Go.ChangeAt Go.RowKit
open bs
set_option linter.unusedVariables false
theorem digits_own (n : Int) (w : World) (hT : Lib.TabIs Tryd.prog w "internal/strconv.uint64pow10" .u64 Lib.pow10Tab) (h0 : -9223372036854775808 ≤ n) (h1 : n ≤ 9223372036854775807) : Calls Tryd.prog 88 #[.int .i64 n] w fun e w' => e = .returned (.string (numT n)) ∧ Below w.heap.size w w' := by
  have HC := Lib.hid (Tryd.strconv_FormatInt_10 n h0 h1 w hT)
  clear hT
  go_enter Tryd.func88, Tryd.ntmps88
  go_wp2_with fail
  refine (HC.out).mono ?_
  rintro e w' ⟨rfl, k, os, rfl⟩
  have HB := Lib.hid (Lib.below_grow w.heap.size w (Nat.le_refl _) k os)
  generalize Go.Sort.grow (w.drewN k) os = W at HB ⊢
  go_wp2
  go_ret
  exact ⟨rfl, HB.out⟩
end Go.Proofs.YtlkggpjdaaglmaaDoor.lx
namespace Go.Proofs.YtlkggpjdaaglmaaDoor.am
open Go.ChangeShapes Go.WideShapes Go.ChangeAt Go.RowKit
set_option linter.unusedVariables false
def LibN (L : List (Nat × Array Value)) : Prop := (3, (Lib.pow10Tab.map fun z => Value.int .u64 z).toArray) ∈ L
theorem n_tabN : Tryd.prog.globalNamed "internal/strconv.uint64pow10" = some 3 := by kernel_rfl
theorem tab_of_lib {L : List (Nat × Array Value)} (hL : LibN L) {γ : Nat → G} {S : CS} {w : World} {x : Nat} (h : Obj' γ S w x (.lib L)) : Lib.TabIs Tryd.prog w "internal/strconv.uint64pow10" .u64 Lib.pow10Tab := lib_var h n_tabN hL (by decide)
theorem lib_of_gl {w : World} (h : Lib.TabIs Tryd.prog w "internal/strconv.uint64pow10" .u64 Lib.pow10Tab) : ∃ L, LibN L ∧ ∀ p ∈ L, ∀ o, p.1 < w.heap.size ∧ w.cell? ⟨p.1, o, none⟩ = p.2[o]? := by
  refine ⟨[(3, (Lib.pow10Tab.map fun z => Value.int .u64 z).toArray)], .head _, ?_⟩
  intro p hp o
  rcases List.mem_cons.1 hp with rfl | hp
  · exact var_lib n_tabN h o
  · cases hp
end Go.Proofs.YtlkggpjdaaglmaaDoor.am
end
section
namespace Go.Proofs.YtlkggpjdaaglmaaDoor.am
open Go.ChangeShapes Go.WideShapes Go.ChangeAt Go.RowKit
open vt
set_option linter.unusedVariables false
set_option linter.unusedSimpArgs false
theorem digits_row (LL : List (Nat × Array Value)) (hLL : LibN LL) (n : Int) (h0 : -9223372036854775808 ≤ n) (h1 : n ≤ 9223372036854775807) : Row Tryd.prog 88 [vI n] [.lib LL] (vS (wNum n)) [some (.lib LL)] := by
  refine ⟨⟨_, Tryd.func88, rfl, rfl⟩, spec_of_below fun γ S w vs hm hv => ?_⟩
  match vs, hv with
  | [v0], ⟨k0, _⟩ =>
    obtain ⟨rfl, _⟩ := lit_inv k0
    refine (lx.digits_own n w (tab_of_lib hLL (hm.obj 0 _ rfl)) h0 h1).mono ?_
    rintro e w' ⟨rfl, hb⟩
    exact ⟨_, rfl, hb, .lit _ rfl⟩
set_option maxRecDepth 100000 in
set_option maxHeartbeats 4000000 in
theorem spelln_row (LL : List (Nat × Array Value)) (s : ByteArray) : Row Tryd.prog 76 [vK ⟨1, 0, s, 0, 0⟩] [.lib LL] (vS s) [some (.lib LL)] := by
  refine row_of Tryd.func76 rfl rfl (Nat.le_of_ble_eq_true rfl) ?_
  repeat (first | refine aw_seq ?_ | refine aw_skip ?_ | refine aw_block ?_ | refine aw_exit ?_ | refine aw_cond rfl (fun _ => ?_) (fun hb => absurd hb (by decide)) | refine aw_cond rfl (fun hb => absurd hb (by decide)) (fun _ => ?_) | (refine aw_reg (fun K hK => ?_); simp -implicitDefEqProofs; refine hK _ ?_) | (refine aw_drw mixd (fun K hK => ?_); simp -implicitDefEqProofs; refine hK _ _ (by rfl) ?_) | fail)
  refine aw_ret (fin_box ?_); simp -implicitDefEqProofs [FinB, resV, resT] <;> try rfl
set_option maxRecDepth 100000 in
set_option maxHeartbeats 4000000 in
theorem spelld_row (LL : List (Nat × Array Value)) (hLL : LibN LL) (n : Int) (h0 : -9223372036854775808 ≤ n) (h1 : n ≤ 9223372036854775807) : Row Tryd.prog 76 [vK ⟨2, n, ⟨#[]⟩, 0, 0⟩] [.lib LL] (vS (wNum n)) [some (.lib LL)] := by
  have e := digits_row LL hLL n h0 h1
  refine row_of Tryd.func76 rfl rfl (Nat.le_of_ble_eq_true rfl) ?_
  repeat' (first | refine aw_seq ?_ | refine aw_skip ?_ | refine aw_block ?_ | refine aw_exit ?_ | refine aw_cond rfl (fun _ => ?_) (fun hb => absurd hb (by decide)) | refine aw_cond rfl (fun hb => absurd hb (by decide)) (fun _ => ?_) | (refine aw_reg (fun K hK => ?_); simp -implicitDefEqProofs) | (refine aw_drw mixd (fun K hK => ?_); simp -implicitDefEqProofs) | refine hK _ ?_ | refine hK _ _ (by rfl) ?_ | (refine ar_call (cb e 0 ?_); simp -implicitDefEqProofs) | (refine ard_call (db e 0 ?_); simp -implicitDefEqProofs) | fail)
  refine aw_ret (fin_box ?_); simp -implicitDefEqProofs [FinB, resV, resT] <;> try rfl
set_option maxRecDepth 100000 in
set_option maxHeartbeats 4000000 in
theorem name_row (LL : List (Nat × Array Value)) (L : List ByteArray) (s : ByteArray) (h : L.length + 1 ≤ 1000000) : PRow LL 56 [vS s] L [s] := by
  have e := spelln_row LL s
  have p := put_row LL L [s] h
  refine row_of Tryd.func56 rfl rfl (Nat.le_of_ble_eq_true rfl) ?_
  repeat' (first | refine aw_seq ?_ | refine aw_skip ?_ | refine aw_block ?_ | refine aw_exit ?_ | refine aw_cond rfl (fun _ => ?_) (fun hb => absurd hb (by decide)) | refine aw_cond rfl (fun hb => absurd hb (by decide)) (fun _ => ?_) | (refine aw_reg (fun K hK => ?_); simp -implicitDefEqProofs) | (refine aw_drw mixd (fun K hK => ?_); simp -implicitDefEqProofs) | refine hK _ ?_ | refine hK _ _ (by rfl) ?_ | (refine ar_call (cb e 2 ?_); simp -implicitDefEqProofs) | (refine ard_call (db e 2 ?_); simp -implicitDefEqProofs) | (refine ar_call (cgw p 0 2 rfl ?_); simp -implicitDefEqProofs) | (refine ard_call (dgw p 0 2 rfl ?_); simp -implicitDefEqProofs) | fail)
  refine fin_fall (fin_gw rfl ?_); simp -implicitDefEqProofs [FinG, resV, resT] <;> try rfl
set_option maxRecDepth 100000 in
set_option maxHeartbeats 4000000 in
theorem number_row (LL : List (Nat × Array Value)) (hLL : LibN LL) (L : List ByteArray) (n : Int) (h0 : -9223372036854775808 ≤ n) (h1 : n ≤ 9223372036854775807) (h : L.length + 1 ≤ 1000000) : PRow LL 54 [vI n] L [wNum n] := by
  have e := spelld_row LL hLL n h0 h1
  have p := put_row LL L [wNum n] h
  refine row_of Tryd.func54 rfl rfl (Nat.le_of_ble_eq_true rfl) ?_
  repeat' (first | refine aw_seq ?_ | refine aw_skip ?_ | refine aw_block ?_ | refine aw_exit ?_ | refine aw_cond rfl (fun _ => ?_) (fun hb => absurd hb (by decide)) | refine aw_cond rfl (fun hb => absurd hb (by decide)) (fun _ => ?_) | (refine aw_reg (fun K hK => ?_); simp -implicitDefEqProofs) | (refine aw_drw mixd (fun K hK => ?_); simp -implicitDefEqProofs) | refine hK _ ?_ | refine hK _ _ (by rfl) ?_ | (refine ar_call (cb e 2 ?_); simp -implicitDefEqProofs) | (refine ard_call (db e 2 ?_); simp -implicitDefEqProofs) | (refine ar_call (cgw p 0 2 rfl ?_); simp -implicitDefEqProofs) | (refine ard_call (dgw p 0 2 rfl ?_); simp -implicitDefEqProofs) | fail)
  refine fin_fall (fin_gw rfl ?_); simp -implicitDefEqProofs [FinG, resV, resT] <;> try rfl
set_option maxRecDepth 100000 in
set_option maxHeartbeats 4000000 in
theorem ptyp_row (LL : List (Nat × Array Value)) (hLL : LibN LL) {t : VT} {W : List ByteArray} (hW : WT t W) : ∀ L : List ByteArray, L.length + W.length ≤ 1000000 → PRow LL 41 [vT t] L W := by
  induction hW with
  | int x h =>
    intro L hL
    have p := put_row LL L [wInt] hL
    refine row_of Tryd.func41 rfl rfl (Nat.le_of_ble_eq_true rfl) ?_
    repeat' (first | refine aw_seq ?_ | refine aw_skip ?_ | refine aw_block ?_ | refine aw_exit ?_ | refine aw_cond rfl (fun _ => ?_) (fun hb => absurd hb (by decide)) | refine aw_cond rfl (fun hb => absurd hb (by decide)) (fun _ => ?_) | (refine aw_reg (fun K hK => ?_); simp -implicitDefEqProofs [h]) | (refine aw_drw mixd (fun K hK => ?_); simp -implicitDefEqProofs [h]) | refine hK _ ?_ | refine hK _ _ (by rfl) ?_ | (refine ar_call (cgw p 0 2 rfl ?_); simp -implicitDefEqProofs [h]) | (refine ard_call (dgw p 0 2 rfl ?_); simp -implicitDefEqProofs [h]) | fail)
    refine fin_fall (fin_gw rfl ?_); simp -implicitDefEqProofs [FinG, resV, resT] <;> try rfl
  | bool x h =>
    intro L hL
    have p := put_row LL L [wBool] hL
    refine row_of Tryd.func41 rfl rfl (Nat.le_of_ble_eq_true rfl) ?_
    repeat' (first | refine aw_seq ?_ | refine aw_skip ?_ | refine aw_block ?_ | refine aw_exit ?_ | refine aw_cond rfl (fun _ => ?_) (fun hb => absurd hb (by decide)) | refine aw_cond rfl (fun hb => absurd hb (by decide)) (fun _ => ?_) | (refine aw_reg (fun K hK => ?_); simp -implicitDefEqProofs [h]) | (refine aw_drw mixd (fun K hK => ?_); simp -implicitDefEqProofs [h]) | refine hK _ ?_ | refine hK _ _ (by rfl) ?_ | (refine ar_call (cgw p 0 2 rfl ?_); simp -implicitDefEqProofs [h]) | (refine ard_call (dgw p 0 2 rfl ?_); simp -implicitDefEqProofs [h]) | fail)
    refine fin_fall (fin_gw rfl ?_); simp -implicitDefEqProofs [FinG, resV, resT] <;> try rfl
  | rec' x h hs =>
    intro L hL
    have p := name_row LL L x.s hL
    refine row_of Tryd.func41 rfl rfl (Nat.le_of_ble_eq_true rfl) ?_
    repeat' (first | refine aw_seq ?_ | refine aw_skip ?_ | refine aw_block ?_ | refine aw_exit ?_ | refine aw_cond rfl (fun _ => ?_) (fun hb => absurd hb (by decide)) | refine aw_cond rfl (fun hb => absurd hb (by decide)) (fun _ => ?_) | (refine aw_reg (fun K hK => ?_); simp -implicitDefEqProofs [h]) | (refine aw_drw mixd (fun K hK => ?_); simp -implicitDefEqProofs [h]) | refine hK _ ?_ | refine hK _ _ (by rfl) ?_ | (refine ar_call (cgw p 0 2 rfl ?_); simp -implicitDefEqProofs [h]) | (refine ard_call (dgw p 0 2 rfl ?_); simp -implicitDefEqProofs [h]) | fail)
    refine fin_fall (fin_gw rfl ?_); simp -implicitDefEqProofs [FinG, resV, resT] <;> try rfl
  | arr x a al A h h0 h1 ha ih =>
    intro L hL
    simp only [List.length_append, List.length_cons, List.length_nil] at hL
    have p1 := put_row LL L [sOpen] (by simp; omega)
    have p2 := number_row LL hLL (L ++ [sOpen]) x.n h0 h1 (by simp; omega)
    have p3 := put_row LL (L ++ [sOpen] ++ [wNum x.n]) [sShut] (by simp; omega)
    have p4 := ih (L ++ [sOpen] ++ [wNum x.n] ++ [sShut]) (by simp; omega)
    have q := part_row x [.mk a al] 0 (.mk a al) rfl (by omega)
    refine row_of Tryd.func41 rfl rfl (Nat.le_of_ble_eq_true rfl) ?_
    repeat' (first | refine aw_seq ?_ | refine aw_skip ?_ | refine aw_block ?_ | refine aw_exit ?_ | refine aw_cond rfl (fun _ => ?_) (fun hb => absurd hb (by decide)) | refine aw_cond rfl (fun hb => absurd hb (by decide)) (fun _ => ?_) | (refine aw_reg (fun K hK => ?_); simp -implicitDefEqProofs [h]) | (refine aw_drw mixd (fun K hK => ?_); simp -implicitDefEqProofs [h]) | refine hK _ ?_ | refine hK _ _ (by rfl) ?_ | (refine ar_call (cgw p1 0 2 rfl ?_); simp -implicitDefEqProofs [h]) | (refine ard_call (dgw p1 0 2 rfl ?_); simp -implicitDefEqProofs [h]) | (refine ar_call (cgw p2 0 2 rfl ?_); simp -implicitDefEqProofs [h]) | (refine ard_call (dgw p2 0 2 rfl ?_); simp -implicitDefEqProofs [h]) | (refine ar_call (cgw p3 0 2 rfl ?_); simp -implicitDefEqProofs [h]) | (refine ard_call (dgw p3 0 2 rfl ?_); simp -implicitDefEqProofs [h]) | (refine ar_call (cp q ?_); simp -implicitDefEqProofs [h]) | (refine ard_call (dp q ?_); simp -implicitDefEqProofs [h]) | (refine ar_call (cgw p4 0 2 rfl ?_); simp -implicitDefEqProofs [h]) | (refine ard_call (dgw p4 0 2 rfl ?_); simp -implicitDefEqProofs [h]) | fail)
    refine fin_fall (fin_gw rfl ?_); simp -implicitDefEqProofs [FinG, resV, resT] <;> try rfl
end Go.Proofs.YtlkggpjdaaglmaaDoor.am
end
section
namespace Go.Proofs.YtlkggpjdaaglmaaDoor.am
open Go.ChangeShapes Go.WideShapes Go.ChangeAt Go.RowKit
open vt
set_option linter.unusedVariables false
set_option linter.unusedSimpArgs false
set_option maxRecDepth 100000 in
set_option maxHeartbeats 4000000 in
theorem operand_row (LL : List (Nat × Array Value)) (x : Lab) (l : List VT) (A : List ByteArray) (hx : Opd x) (n : Int) (hA : A ≠ []) (he : ∀ L : List ByteArray, L.length + 3 * A.length ≤ 1000000 → PRow LL 32 [vT (.mk x l)] L A) (L : List ByteArray) (hL : L.length + 3 * (par (tgh x) A n).length ≤ 1000000) : PRow LL 59 [vT (.mk x l), vI n] L (par (tgh x) A n) := by
  have eb := bind_row x l hx
  have hA := List.length_pos_iff.2 hA
  by_cases c : n ≤ tgh x
  · have t : par (tgh x) A n = A := by unfold par; rw [if_pos c]
    rw [t] at hL ⊢
    have p1 := he L hL
    generalize tgh x = b at eb c
    refine row_of Tryd.func59 rfl rfl (Nat.le_of_ble_eq_true rfl) ?_
    repeat' (first | refine aw_seq ?_ | refine aw_skip ?_ | refine aw_block ?_ | refine aw_exit ?_ | refine aw_cond rfl (fun _ => ?_) (fun hb => absurd hb (by decide)) | refine aw_cond rfl (fun hb => absurd hb (by decide)) (fun _ => ?_) | (refine aw_reg (fun K hK => ?_); simp -implicitDefEqProofs [c]) | (refine aw_drw mixd (fun K hK => ?_); simp -implicitDefEqProofs [c]) | refine hK _ ?_ | refine hK _ _ (by rfl) ?_ | (refine ar_call (cp eb ?_); simp -implicitDefEqProofs [c]) | (refine ard_call (dp eb ?_); simp -implicitDefEqProofs [c]) | (refine ar_call (cgw p1 0 2 rfl ?_); simp -implicitDefEqProofs [c]) | (refine ard_call (dgw p1 0 2 rfl ?_); simp -implicitDefEqProofs [c]) | fail)
    refine aw_ret (fin_gw rfl ?_); simp -implicitDefEqProofs [FinG, resV, resT] <;> try rfl
  · have t : par (tgh x) A n = [sParO] ++ A ++ [sParS] := by unfold par; rw [if_neg c]
    rw [t] at hL ⊢
    simp only [List.length_append, List.length_cons, List.length_nil] at hL
    have p1 := put_row LL L [sParO] (by simp; omega)
    have p2 := he (L ++ [sParO]) (by simp; omega)
    have p3 := put_row LL (L ++ [sParO] ++ A) [sParS] (by simp; omega)
    have e : L ++ ([sParO] ++ A ++ [sParS]) = L ++ [sParO] ++ A ++ [sParS] := by simp
    show Row _ _ _ _ _ [some (bxW 3 (ws (L ++ ([sParO] ++ A ++ [sParS])))), _, _, _]
    rw [e]
    generalize tgh x = b at eb c
    refine row_of Tryd.func59 rfl rfl (Nat.le_of_ble_eq_true rfl) ?_
    repeat' (first | refine aw_seq ?_ | refine aw_skip ?_ | refine aw_block ?_ | refine aw_exit ?_ | refine aw_cond rfl (fun _ => ?_) (fun hb => absurd hb (by decide)) | refine aw_cond rfl (fun hb => absurd hb (by decide)) (fun _ => ?_) | (refine aw_reg (fun K hK => ?_); simp -implicitDefEqProofs [c]) | (refine aw_drw mixd (fun K hK => ?_); simp -implicitDefEqProofs [c]) | refine hK _ ?_ | refine hK _ _ (by rfl) ?_ | (refine ar_call (cp eb ?_); simp -implicitDefEqProofs [c]) | (refine ard_call (dp eb ?_); simp -implicitDefEqProofs [c]) | (refine ar_call (cgw p1 0 2 rfl ?_); simp -implicitDefEqProofs [c]) | (refine ard_call (dgw p1 0 2 rfl ?_); simp -implicitDefEqProofs [c]) | (refine ar_call (cgw p2 0 2 rfl ?_); simp -implicitDefEqProofs [c]) | (refine ard_call (dgw p2 0 2 rfl ?_); simp -implicitDefEqProofs [c]) | (refine ar_call (cgw p3 0 2 rfl ?_); simp -implicitDefEqProofs [c]) | (refine ard_call (dgw p3 0 2 rfl ?_); simp -implicitDefEqProofs [c]) | fail)
    refine fin_fall (fin_gw rfl ?_); simp -implicitDefEqProofs [FinG, resV, resT] <;> try rfl
set_option maxRecDepth 100000 in
set_option maxHeartbeats 4000000 in
theorem plist_row (LL : List (Nat × Array Value)) (g : Nat) (sep : ByteArray) (l : List VT) (Ws : List (List ByteArray)) (hl : l.length = Ws.length) (hn : l.length ≤ 1000000) (he : ∀ (i : Nat) t W, l[i]? = some t → Ws[i]? = some W → ∀ L : List ByteArray, L.length + 3 * W.length ≤ 1000000 → PRow LL g [vT t] L W) (L : List ByteArray) (hL : L.length + 3 * (pre (if sep = ⟨#[]⟩ then [] else [sep]) Ws).length ≤ 1000000) : PRow LL 79 [vLs l, vS sep, .v (.c (.fn (.func g) [.ptr 0 0] []))] L (pre (if sep = ⟨#[]⟩ then [] else [sep]) Ws) := by
  obtain ⟨S, hS⟩ : ∃ S, (if sep = ⟨#[]⟩ then [] else [sep]) = S := ⟨_, rfl⟩
  rw [hS] at hL ⊢
  have hpre := pre_len (sep := S) (Ws := Ws)
  have hstep := fun k W h => pre_take (sep := S) (Ws := Ws) (k := k) (W := W) h
  have h0 : pre S [] = [] := rfl
  have hend : pre S (Ws.take Ws.length) = pre S Ws := by rw [List.take_length]
  refine row_of Tryd.func79 rfl rfl (Nat.le_of_ble_eq_true rfl) ?_
  refine aw_mvr 1 0 0 _ 9 1 1 (ws L) rfl rfl rfl (show 1 < 3 by decide) (show 0 < 3 by decide) ?_
  simp [St.mvr]
  repeat (first | refine aw_seq ?_ | refine aw_skip ?_ | refine aw_block ?_ | refine aw_exit ?_ | refine aw_cond rfl (fun _ => ?_) (fun hb => absurd hb (by decide)) | refine aw_cond rfl (fun hb => absurd hb (by decide)) (fun _ => ?_) | (refine aw_reg (fun K hK => ?_); simp -implicitDefEqProofs; refine hK _ ?_) | (refine aw_drw mixd (fun K hK => ?_); simp -implicitDefEqProofs; refine hK _ _ (by rfl) ?_) | fail)
  refine aw_lp (ι := Nat) (fun k => mkSt [(0, .v (.c (.ptr 0 0))), (2, vS sep), (3, .v (.c (.fn (.func g) [.ptr 0 0] []))), (10, vLs l), (11, vI (l.length : Nat)), (12, vI (k : Nat))] [some (bxW 3 (ws (L ++ pre S (Ws.take k)))), none, some (.lib LL), some rwS]) (fun k => k ≤ l.length) (fun k => l.length - k) 0 (Nat.zero_le _) (cov_w rfl (by simp -implicitDefEqProofs [h0]) (by simp -implicitDefEqProofs [h0]) (by decide) rfl (by simp)) (fun Z hI k hk => ?_)
  by_cases hkl : k < l.length; rotate_left
  · have hke : k = Ws.length := by omega
    subst hke
    rw [hend]
    have hlt : ¬ Ws.length < l.length := by omega
    repeat (first | refine aw_seq ?_ | refine aw_skip ?_ | refine aw_block ?_ | refine aw_exit ?_ | refine aw_cond rfl (fun _ => ?_) (fun hb => absurd hb (by decide)) | refine aw_cond rfl (fun hb => absurd hb (by decide)) (fun _ => ?_) | (refine aw_reg (fun K hK => ?_); simp -implicitDefEqProofs [hlt]; refine hK _ ?_) | (refine aw_drw mixd (fun K hK => ?_); simp -implicitDefEqProofs [hlt]; refine hK _ _ (by rfl) ?_) | fail)
    refine fin_fall (fin_gw rfl ?_); simp -implicitDefEqProofs [FinG, resV, resT] <;> try rfl
  obtain ⟨⟨ux, ul⟩, hu⟩ : ∃ a, l[k]? = some a := ⟨_, List.getElem?_eq_getElem hkl⟩
  have hu' := (List.getElem?_eq_some_iff.1 hu).2
  obtain ⟨W, hW⟩ : ∃ a, Ws[k]? = some a := ⟨_, List.getElem?_eq_getElem (by omega)⟩
  have hs := hstep k W hW
  have hp1 := hpre (k + 1) (by omega)
  have hp0 := hpre k (by omega)
  have w2 : IntKind.i64.wrap ((k : Nat) + 1 : Int) = (k : Nat) + 1 := i64i _ (by omega) (by omega)
  rw [hs] at hp1
  have nx : Z (k + 1) = mkSt [(0, .v (.c (.ptr 0 0))), (2, vS sep), (3, .v (.c (.fn (.func g) [.ptr 0 0] []))), (10, vLs l), (11, vI (l.length : Nat)), (12, vI ((k + 1 : Nat) : Int))] [some (bxW 3 (ws (L ++ (pre S (Ws.take k) ++ ((if k = 0 then [] else S) ++ W))))), none, some (.lib LL), some rwS] := by rw [hI, hs]
  clear hI hs hstep hpre hend
  generalize pre S (Ws.take k) = P0 at *
  rw [List.length_append, List.length_append] at hp1
  by_cases hk0 : (if k = 0 then [] else S) = []
  · rw [hk0, List.nil_append] at nx
    have q := he k (.mk ux ul) W hu hW (L ++ P0) (by rw [List.length_append]; omega)
    by_cases hkz : k = 0
    · have hkp : ¬ 0 < k := by omega
      clear hkz
      repeat' (first | refine aw_seq ?_ | refine aw_skip ?_ | refine aw_block ?_ | refine aw_exit ?_ | refine aw_cond rfl (fun _ => ?_) (fun hb => absurd hb (by decide)) | refine aw_cond rfl (fun hb => absurd hb (by decide)) (fun _ => ?_) | (refine aw_reg (fun K hK => ?_); simp -implicitDefEqProofs [hkl, hu, hu', hkp, w2]) | (refine aw_drw mixd (fun K hK => ?_); simp -implicitDefEqProofs [hkl, hu, hu', hkp, w2]) | refine hK _ ?_ | refine hK _ _ (by rfl) ?_ | (refine ar_call (cgw q 0 2 rfl ?_); simp -implicitDefEqProofs [hkl, hu, hu', hkp, w2]) | (refine ard_call (dgw q 0 2 rfl ?_); simp -implicitDefEqProofs [hkl, hu, hu', hkp, w2]) | fail)
      refine ⟨k + 1, by omega, (by dsimp only; omega), ?_⟩; rw [nx]; exact cov_w rfl (by simp -implicitDefEqProofs) (by simp -implicitDefEqProofs) (by decide) rfl (by simp)
    · have hsp : sep = ⟨#[]⟩ := by
        rw [if_neg hkz] at hk0
        by_cases e : sep = ⟨#[]⟩
        · exact e
        · rw [if_neg e] at hS; rw [← hS] at hk0; cases hk0
      have hkp : 0 < k := by omega
      repeat' (first | refine aw_seq ?_ | refine aw_skip ?_ | refine aw_block ?_ | refine aw_exit ?_ | refine aw_cond rfl (fun _ => ?_) (fun hb => absurd hb (by decide)) | refine aw_cond rfl (fun hb => absurd hb (by decide)) (fun _ => ?_) | (refine aw_reg (fun K hK => ?_); simp -implicitDefEqProofs [hkl, hu, hu', hsp, hkp, w2]) | (refine aw_drw mixd (fun K hK => ?_); simp -implicitDefEqProofs [hkl, hu, hu', hsp, hkp, w2]) | refine hK _ ?_ | refine hK _ _ (by rfl) ?_ | (refine ar_call (cgw q 0 2 rfl ?_); simp -implicitDefEqProofs [hkl, hu, hu', hsp, hkp, w2]) | (refine ard_call (dgw q 0 2 rfl ?_); simp -implicitDefEqProofs [hkl, hu, hu', hsp, hkp, w2]) | fail)
      refine ⟨k + 1, by omega, (by dsimp only; omega), ?_⟩; rw [nx]; exact cov_w rfl (by simp -implicitDefEqProofs [hsp]) (by simp -implicitDefEqProofs [hsp]) (by decide) rfl (by simp)
  · have hkz : k ≠ 0 := fun e => hk0 (if_pos e)
    rw [if_neg hkz] at hk0 hp1 nx
    have hsp : ¬ sep = ⟨#[]⟩ := fun e => hk0 (by rw [← hS, if_pos e])
    rw [if_neg hsp] at hS
    subst hS
    have hkp : 0 < k := by omega
    have p := put_row LL (L ++ P0) [sep] (by rw [List.length_append]; simp at hp1 ⊢; omega)
    have q := he k (.mk ux ul) W hu hW (L ++ P0 ++ [sep]) (by simp at hp1 ⊢; omega)
    repeat' (first | refine aw_seq ?_ | refine aw_skip ?_ | refine aw_block ?_ | refine aw_exit ?_ | refine aw_cond rfl (fun _ => ?_) (fun hb => absurd hb (by decide)) | refine aw_cond rfl (fun hb => absurd hb (by decide)) (fun _ => ?_) | (refine aw_reg (fun K hK => ?_); simp -implicitDefEqProofs [hkl, hu, hu', hsp, hkp, w2]) | (refine aw_drw mixd (fun K hK => ?_); simp -implicitDefEqProofs [hkl, hu, hu', hsp, hkp, w2]) | refine hK _ ?_ | refine hK _ _ (by rfl) ?_ | (refine ar_call (cgw p 0 2 rfl ?_); simp -implicitDefEqProofs [hkl, hu, hu', hsp, hkp, w2]) | (refine ard_call (dgw p 0 2 rfl ?_); simp -implicitDefEqProofs [hkl, hu, hu', hsp, hkp, w2]) | (refine ar_call (cgw q 0 2 rfl ?_); simp -implicitDefEqProofs [hkl, hu, hu', hsp, hkp, w2]) | (refine ard_call (dgw q 0 2 rfl ?_); simp -implicitDefEqProofs [hkl, hu, hu', hsp, hkp, w2]) | fail)
    refine ⟨k + 1, by omega, (by dsimp only; omega), ?_⟩; rw [nx]; exact cov_w rfl (by simp -implicitDefEqProofs) (by simp -implicitDefEqProofs) (by decide) rfl (by simp)
end Go.Proofs.YtlkggpjdaaglmaaDoor.am
end
