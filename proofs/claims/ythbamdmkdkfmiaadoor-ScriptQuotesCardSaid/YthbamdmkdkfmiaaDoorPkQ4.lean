import Derived.Test.YthbamdmkdkfmiaaDoorPkQ3
import Derived.Below
import Derived.Test.YthbamdmkdkfmiaaDoorProg
import Derived.Shelf.Strings.Builder1
import Derived.Shelf.Strings.Builder2
import Derived.Shelf.Strings.OnBuilder
import Derived.Shelf.Small.Strs
import Derived.Shelf.Strconv.Itoa0
import Derived.Shelf.Strconv.Itoa1
import Derived.Shelf.LaysM
import Derived.Shelf.Strconv.Itoa2
import Derived.Shelf.Strconv.Itoa3
import Derived.Shelf.Strconv.Itoa4
import Derived.Shelf.Strconv.ParseIntEmpty
import Derived.Shelf.Strconv.Clone
import Derived.Shelf.Strconv.SyntaxError
import Derived.Shelf.LaysC
import Derived.Shelf.Strconv.ToError
import Derived.Shelf.Strconv.Lower
import Derived.Shelf.Strconv.ParseUint10
import Derived.Shelf.Strconv.ParseUint10Empty
import Derived.Shelf.Strconv.ParseUint10Any
import Derived.Shelf.Strconv.ParseInt10
import Derived.Shelf.Strconv.RangeError
import Derived.Shelf.Strconv.ToErrorRange
import Derived.Shelf.Strconv.ParseUintEmpty
import Derived.Shelf.Strconv.ParseUint10b64
import Derived.Shelf.Strconv.ParseUint10b32
import Derived.Shelf.Strconv.ParseUint10b16
import Derived.Shelf.Strconv.ParseUint10b8
import Derived.Shelf.Strconv.ParseUint10At
import Derived.Shelf.Strconv.ParseInt10At64
import Derived.Shelf.Strconv.ParseInt10At32
import Derived.Shelf.Strconv.ParseInt10At16
import Derived.Shelf.Strconv.ParseInt10At8
import Derived.Shelf.Strconv.ParseInt10All
import Derived.Shelf.Strings.Search1
import Derived.Shelf.Strings.Search2
import Derived.Shelf.Strings.Search3
import Derived.Shelf.Strings.Count
import Derived.Shelf.Strings.Shaped
import Derived.Shelf.Strings.Split
import Derived.Shelf.Strings.SplitShaped
import Derived.Shelf.Unicode.DecodeSlow
import Derived.Scope
set_option maxRecDepth 100000
set_option maxHeartbeats 4000000
section
namespace Go.Proofs.YthbamdmkdkfmiaaDoor.vt
open Go.Proofs.YthbamdmkdkfmiaaDoor.am
set_option linter.unusedVariables false
inductive Tr (α : Type) where
  | mk (x : α) (l : List (Tr α))
namespace Tr
variable {α : Type}
theorem ind {P : Tr α → Prop} (h : ∀ x l, (∀ y ∈ l, P y) → P (.mk x l)) (t : Tr α) : P t :=
  Tr.rec (motive_1 := P) (motive_2 := fun l => ∀ y ∈ l, P y) h (fun y hy => by simp at hy) (fun x l hx hl y hy => by
    rcases List.mem_cons.1 hy with rfl | hy
    · exact hx
    · exact hl y hy) t
noncomputable def fold {β : Type} (g : α → List (Tr α) → List β → β) (t : Tr α) : β :=
  Tr.rec (motive_1 := fun _ => β) (motive_2 := fun _ => List β) (fun x l ih => g x l ih) [] (fun _ _ a b => a :: b) t
theorem fold_mk {β : Type} (g : α → List (Tr α) → List β → β) (x : α) (l : List (Tr α)) : fold g (.mk x l) = g x l (l.map (fold g)) := by
  show g x l _ = _
  congr 1
  induction l with
  | nil => rfl
  | cons y l ih => show fold g y :: _ = _; rw [ih]; rfl
noncomputable def size (t : Tr α) : Nat := fold (fun _ _ b => 1 + b.sum) t
noncomputable def all (p : α → Prop) (t : Tr α) : Prop := fold (fun x _ b => p x ∧ ∀ q ∈ b, q) t
end Tr
structure Lab where
  k : Int
  n : Int
  s : ByteArray
  f : Int
  t : Int
def Lab.ok (x : Lab) : Prop := (-9223372036854775808 ≤ x.k ∧ x.k ≤ 9223372036854775807) ∧ (-9223372036854775808 ≤ x.n ∧ x.n ≤ 9223372036854775807) ∧ (-9223372036854775808 ≤ x.f ∧ x.f ≤ 9223372036854775807) ∧ (-9223372036854775808 ≤ x.t ∧ x.t ≤ 9223372036854775807)
abbrev VT := Tr Lab
abbrev I (z : Int) : PV := .lit (.int .i64 z)
abbrev Sx (s : ByteArray) : PV := .lit (.string s)
abbrev Bo (b : Bool) : PV := .lit (.bool b)
abbrev vI (z : Int) : AV := .v (.c (.pv (I z)))
abbrev vS (s : ByteArray) : AV := .v (.c (.pv (Sx s)))
abbrev vB (b : Bool) : AV := .v (.c (.pv (Bo b)))
noncomputable def tc (t : VT) : List PV := Tr.fold (fun x _ b => [I x.k, I x.n, Sx x.s, .sl 6 b, I x.f, I x.t]) t
theorem a91 (x : Lab) (l : List VT) : tc (.mk x l) = [I x.k, I x.n, Sx x.s, .sl 6 (l.map tc), I x.f, I x.t] := Tr.fold_mk _ x l
theorem a8v (t : VT) : (tc t).length = 6 := by cases t; rw [a91]; rfl
noncomputable def ta (t : VT) : List AC := (tc t).map .pv
theorem ta_mk (x : Lab) (l : List VT) : ta (.mk x l) = [.pv (I x.k), .pv (I x.n), .pv (Sx x.s), .pv (.sl 6 (l.map tc)), .pv (I x.f), .pv (I x.t)] := by unfold ta; rw [a91]; rfl
noncomputable abbrev vT (t : VT) : AV := .v (.agg (ta t))
theorem a8t (t : VT) : (ta t).length = 6 := by unfold ta; rw [List.length_map]; exact a8v t
theorem a6x (l : List PV) : (l.map AC.pv).mapM a2e = some l := by
  induction l with
  | nil => rfl
  | cons p l ih => rw [List.map_cons, List.mapM_cons, ih]; rfl
theorem a9z (t : VT) : (ta t).mapM a2e = some (tc t) := a6x _
theorem a4c {n : Nat} {ρ : Nat → Nat} (l : List PV) : a3h n ρ (l.map AC.pv) (l.map AC.pv) := by
  induction l with
  | nil => trivial
  | cons p l ih => exact ⟨a15 p, ih⟩
theorem fit_ta {n : Nat} {ρ : Nat → Nat} (t : VT) : a3h n ρ (ta t) (ta t) := a4c _
theorem a90 (t : VT) : (ta t).take 6 = ta t := List.take_of_length_le (by rw [a8t]; exact Nat.le_refl _)
attribute [simp] ta_mk a91 a8t a8v a9z fit_ta a4c a90
theorem a8f (ρ : Nat → Nat) (l : List PV) : (l.map AC.pv).map (AC.ren ρ) = l.map AC.pv := by
  rw [List.map_map]; rfl
theorem a4n (t : VT) (ρ : Nat → Nat) : (vT t).ren ρ = vT t := by
  show AV.v (.agg (((tc t).map AC.pv).map (AC.ren ρ))) = _
  rw [a8f]; rfl
end Go.Proofs.YthbamdmkdkfmiaaDoor.vt
end
section
namespace Go.Proofs.YthbamdmkdkfmiaaDoor.am
open vt
set_option linter.unusedVariables false
set_option linter.unusedSimpArgs false
abbrev Bt (l : List UInt8) : ByteArray := ByteArray.mk l.toArray
theorem a6b (a b : List UInt8) : Bt a ++ Bt b = Bt (a ++ b) := by
  apply ByteArray.ext
  rw [ByteArray.data_append]
  simp
theorem j2 (a : List UInt8) : (Bt a).size = a.length := by simp [ByteArray.size]
theorem a6c (a : List UInt8) (i : Nat) : (Bt a)[i]? = a[i]? := by
  by_cases h : i < a.length
  · rw [List.getElem?_eq_getElem h, getElem?_pos (Bt a) i (by rw [j2]; exact h)]
    rfl
  · rw [List.getElem?_eq_none (by omega), getElem?_neg (Bt a) i (by rw [j2]; exact h)]
theorem a9m (a : List UInt8) (i : Nat) (h : i < (Bt a).size) : (Bt a)[i]'h = a[i]'(by rwa [j2] at h) := rfl
theorem a3y (a : List UInt8) (i j : Nat) : (Bt a).extract i j = Bt ((a.drop i).take (j - i)) := by
  apply ByteArray.ext
  rw [ByteArray.data_extract]
  apply Array.ext'
  simp [List.extract]
theorem a9n (s : ByteArray) : Bt s.data.toList = s := by apply ByteArray.ext; simp
def dgH (n : Nat) : UInt8 := if n < 10 then UInt8.ofNat (48 + n) else UInt8.ofNat (87 + n)
def qbL (c : UInt8) : List UInt8 :=
  if c = 34 ∨ c = 92 then [92, c]
  else if c = 10 then [92, 110]
  else if 32 ≤ c.toNat ∧ c.toNat ≤ 126 then [c]
  else [92, 120, dgH (c.toNat / 16), dgH (c.toNat % 16)]
def qsL (l : List UInt8) : List UInt8 := l.flatMap qbL
theorem a9w {l : List UInt8} {k : Nat} {c : UInt8} (h : l[k]? = some c) : qsL (l.take (k + 1)) = qsL (l.take k) ++ qbL c := by
  unfold qsL
  rw [List.take_add_one, h, Option.toList_some, List.flatMap_append]
  simp
theorem a2g (c : UInt8) : 1 ≤ (qbL c).length ∧ (qbL c).length ≤ 4 := by
  unfold qbL
  split
  · simp
  split
  · simp
  split <;> simp
theorem a4i (l : List UInt8) : l.length ≤ (qsL l).length ∧ (qsL l).length ≤ 4 * l.length := by
  unfold qsL
  induction l with
  | nil => simp
  | cons c l ih =>
    have := a2g c
    rw [List.flatMap_cons, List.length_append, List.length_cons]
    omega
theorem qs_cut {l : List UInt8} {k : Nat} {c : UInt8} (h : l[k]? = some c) : qsL l = qsL (l.take k) ++ (qbL c ++ qsL (l.drop (k + 1))) := by
  have e : l = l.take k ++ c :: l.drop (k + 1) := by
    have hlt := (List.getElem?_eq_some_iff.1 h).1
    have hc := (List.getElem?_eq_some_iff.1 h).2
    conv => lhs; rw [← List.take_append_drop k l]
    rw [List.drop_eq_getElem_cons hlt, hc]
  unfold qsL
  conv => lhs; rw [e]
  rw [List.flatMap_append, List.flatMap_cons]
theorem a8p : ∀ k : Nat, k < 16 → (Bt [48, 49, 50, 51, 52, 53, 54, 55, 56, 57, 97, 98, 99, 100, 101, 102])[k]? = some (dgH k) := by
  intro k hk
  rw [a6c]
  have : k = 0 ∨ k = 1 ∨ k = 2 ∨ k = 3 ∨ k = 4 ∨ k = 5 ∨ k = 6 ∨ k = 7 ∨ k = 8 ∨ k = 9 ∨ k = 10 ∨ k = 11 ∨ k = 12 ∨ k = 13 ∨ k = 14 ∨ k = 15 := by omega
  rcases this with rfl | rfl | rfl | rfl | rfl | rfl | rfl | rfl | rfl | rfl | rfl | rfl | rfl | rfl | rfl | rfl <;> rfl
end Go.Proofs.YthbamdmkdkfmiaaDoor.am
end
section
namespace Go.Proofs.YthbamdmkdkfmiaaDoor.am
open Go.ChangeShapes Go.WideShapes Go.ChangeAt Go.RowKit
set_option linter.unusedVariables false
set_option linter.unusedSimpArgs false
theorem cg {P : Program} {N f : Nat} {dst : Option Nat} {first caps : List Cap} {args cargs : List AV} {ch : List AO} {ch' : List (Option AO)} {res : AV} {st : St} {K : St → Prop} (hrow : Row P f cargs ch res ch') (σ : List Nat) (hk : K ((st.wr (wrs (n5 σ ch.length st.nx) 0 ch') 8).put dst (res.ren (n5 σ ch.length st.nx)))) (hfit : l9 ch.length (fun i => σ.getD i 0) cargs (first.map t2 ++ args ++ caps.map t2) := by first | (simp [*]; done) | fail) (ho : y4 (hlk st.hp) ch.length (fun i => σ.getD i 0) (ch.map some) σ := by first | (simp [*]; done) | fail) (hnd : σ.Nodup := by first | decide | (simp; done) | fail) (hl : ch'.length ≤ ch.length + 8 := by first | decide | (simp; done) | fail) (hl' : ch.length ≤ ch'.length := by first | decide | (simp; done) | fail) (hd : dok N dst = true := by rfl) :
    a0v P N dst (.v (.c (.fn (.func f) first caps))) args st K := ⟨f, first, caps, cargs, ch, res, ch', σ, rfl, hrow, hfit, ho, hnd, hl, hl', hd, hk⟩
theorem dg {P : Program} {N f : Nat} {dst : Option Nat} {first caps : List Cap} {args cargs : List AV} {ch : List AO} {ch' : List (Option AO)} {res : AV} {st : St} {K : List Nat → List Nat → St → Prop} (hrow : Row P f cargs ch res ch') (σ : List Nat) (hk : K σ ((wrs (n5 σ ch.length st.nx) 0 ch').map (·.1)) ((st.wr (wrs (n5 σ ch.length st.nx) 0 ch') 8).put dst (res.ren (n5 σ ch.length st.nx)))) (hfit : l9 ch.length (fun i => σ.getD i 0) cargs (first.map t2 ++ args ++ caps.map t2) := by first | (simp [*]; done) | fail) (ho : y4 (hlk st.hp) ch.length (fun i => σ.getD i 0) (ch.map some) σ := by first | (simp [*]; done) | fail) (hnd : σ.Nodup := by first | decide | (simp; done) | fail) (hl : ch'.length ≤ ch.length + 8 := by first | decide | (simp; done) | fail) (hl' : ch.length ≤ ch'.length := by first | decide | (simp; done) | fail) (hd : dok N dst = true := by rfl) :
    a0u P N dst (.v (.c (.fn (.func f) first caps))) args st K := ⟨f, first, caps, cargs, ch, res, ch', σ, rfl, hrow, hfit, ho, hnd, hl, hl', hd, hk⟩
attribute [simp] wrs n5 AC.ren AT.ren AV.ren AO.ren Cap.ren
def FinG (P : Program) (rs : List ResultVar) (res : AV) (ch' : List (Option AO)) (r : List Nat) (st : St) : Prop :=
  match j3 P st rs with
  | some x => a7k ch'.length (fun i => r.getD i 0) res x ∧ y4 (hlk st.hp) ch'.length (fun i => r.getD i 0) ch' r
  | none => False
theorem fin_g {P : Program} {nb : Nat} {rs : List ResultVar} {res : AV} {ch' : List (Option AO)} {st : St} (r : List Nat) (h : FinG P rs res ch' r st) (hnd : r.Nodup := by first | decide | (simp; done)) (ht : r.take nb = List.range nb := by rfl) (hl : nb ≤ ch'.length := by first | decide | (simp; done)) : Fin P nb rs res ch' .ret st := by
  unfold FinG at h
  split at h
  · rename_i x hx; exact ⟨x, r, hx, h.1, h.2, hnd, ht, hl⟩
  · exact h.elim
section
variable {X : Ctx} {H : Nat → Option AO} {U : Nat → Prop} {γ : Nat → G} {S : CS} {w : World}
def AC.frz (id : Nat) (p : PV) : AC → AC
  | .arr i es n => if i = id then .pv p else .arr i es n
  | .vw i es lo n => if i = id then (match p with | .sl es' l => if es' = es ∧ lo + n ≤ l.length ∧ (lo = 0 ∨ 0 < n) then .pv (.sl es ((l.drop lo).take n)) else .top | _ => .top) else .vw i es lo n
  | c => c
def AT.frz (id : Nat) (p : PV) : AT → AT
  | .c x => .c (x.frz id p)
  | .agg l => .agg (l.map (AC.frz id p))
def AV.frz (id : Nat) (p : PV) : AV → AV
  | .v x => .v (x.frz id p)
  | .ep i es k o => if i = id then .top else .ep i es k o
  | .tup l => .tup (l.map (AT.frz id p))
  | x => x
def AO.frz (id : Nat) (p : PV) : AO → AO
  | .box l => .box (l.map (AC.frz id p))
  | o => o
theorem p9.frz {γ' : Nat → G} {id : Nat} {p : PV} {v0 : Value} (hg : γ id = .val v0) (hp : RepP S w v0 p) (hγ : γ' = upd γ id .dead) (hG : GOn γ γ') {v : Value} {c : AC} (h : p9 γ S w v c) : p9 γ' S w v (c.frz id p) := by
  have hm : ∀ {c}, p9 γ S w v c → p9 γ' S w v c := fun h => h.mono hG (fun _ _ h => h) (fun _ _ _ => rfl)
  cases c with
  | arr i es n =>
    show p9 γ' S w v (if i = id then .pv p else .arr i es n)
    by_cases hi : i = id
    · rw [if_pos hi]
      subst hi
      rcases h.2 with k | k
      · rw [hg] at k; cases k
      · rw [hg] at k; cases k; exact hp
    · rw [if_neg hi]; exact hm h
  | vw i es lo n =>
    have h1 := h.one
    by_cases hi : i = id
    · subst hi
      unfold AC.frz
      dsimp only
      rw [if_pos rfl]
      split
      · rename_i es' l
        split
        · rename_i hc
          obtain ⟨rfl, hc, hd⟩ := hc
          obtain ⟨a, m, c, hx, a1, hl1, hl2, ha1, rfl⟩ := h
          rcases hx with k | k
          · rw [hg] at k; cases k
          rw [hg] at k; cases k
          obtain ⟨a2, c2, e2, hs⟩ := l6 hp
          injection e2 with q1 q2 q3
          subst q1 q2 q3
          have hln : ((l.drop lo).take n).length = n := by rw [List.length_take, List.length_drop]; omega
          have key := hs.part lo (lo + n) c (by omega) (by omega) (Nat.le_refl _) (by omega)
          have e3 : (l.take (lo + n)).drop lo = (l.drop lo).take n := by rw [List.drop_take]; congr 1; omega
          rw [e3] at key
          have key := p4 key
          rw [hln] at key
          rcases hd with hd | hd
          · subst hd
            have hz0 : ∀ z : Addr, z.add 0 = z := fun z => by unfold Addr.add; split <;> simp_all
            have e4 : a1 = a := by rw [ha1 (.inl rfl)]; cases a <;> simp [hz0]
            rw [e4]
            have e5 : (if c = 0 then a else a.map (·.add (0 * es'))) = a := by
              split
              · rfl
              · cases a <;> simp [hz0]
            rw [e5] at key
            exact key
          · rw [ha1 (.inr hd)]
            rw [if_neg (by omega)] at key
            exact key
        · exact h1
      · exact h1
    · unfold AC.frz
      dsimp only
      rw [if_neg hi]; exact hm h
  | _ => exact hm h
theorem e6.frz {γ' : Nat → G} {id : Nat} {p : PV} {v0 : Value} (hg : γ id = .val v0) (hp : RepP S w v0 p) (hγ : γ' = upd γ id .dead) (hG : GOn γ γ') {vs : List Value} {l : List AC} (h : e6 γ S w vs l) : e6 γ' S w vs (l.map (AC.frz id p)) := by
  refine ⟨by rw [List.length_map]; exact h.1, fun i c hi => ?_⟩
  obtain ⟨x, hx, rfl⟩ := a2b hi
  obtain ⟨v, h1, h2⟩ := h.2 i x hx
  exact ⟨v, h1, h2.frz hg hp hγ hG⟩
theorem n4.frz {γ' : Nat → G} {id : Nat} {p : PV} {v0 : Value} (hg : γ id = .val v0) (hp : RepP S w v0 p) (hγ : γ' = upd γ id .dead) (hG : GOn γ γ') {v : Value} {c : AT} (h : n4 γ S w v c) : n4 γ' S w v (c.frz id p) := by
  cases c with
  | c x => exact p9.frz hg hp hγ hG h
  | agg l => obtain ⟨cs, h1, h2⟩ := h; exact ⟨cs, h1, h2.frz hg hp hγ hG⟩
theorem c9.frz {γ' : Nat → G} {id : Nat} {p : PV} {v0 : Value} (hg : γ id = .val v0) (hp : RepP S w v0 p) (hγ : γ' = upd γ id .dead) (hG : GOn γ γ') {v : Value} {c : AV} (h : c9 γ S w v c) : c9 γ' S w v (c.frz id p) := by
  cases c with
  | v x => exact n4.frz hg hp hγ hG h
  | tup l =>
    obtain ⟨cs, h1, h2⟩ := h
    refine ⟨cs, h1, by rw [List.length_map]; exact h2.1, fun i c hi => ?_⟩
    obtain ⟨x, hx, rfl⟩ := a2b hi
    obtain ⟨v, h3, h4⟩ := h2.2 i x hx
    exact ⟨v, h3, h4.frz hg hp hγ hG⟩
  | ep i es k o =>
    show c9 γ' S w v (if i = id then .top else .ep i es k o)
    by_cases hi : i = id
    · rw [if_pos hi]; trivial
    · rw [if_neg hi]; exact c9.mono hG (fun _ _ h => h) (fun _ _ _ => rfl) h
  | rp c o => exact h
  | top => trivial
theorem Mem.freeze (h : Mem X H U γ S w) {id : Nat} {e : TypeId} {es : Nat} {l : List (List PV)} (hH : H id = some (.arr e es l)) :
    ∃ (S' : CS) (v0 : Value), (∀ b o, S b o → S' b o) ∧ γ id = .val v0 ∧ RepP S' w v0 (.sl es l) ∧ Mem X (fun x => if x = id then none else (H x).map (AO.frz id (.sl es l))) U (upd γ id .dead) S' w := by
  obtain ⟨v0, xs, g1, g2, g3, g5, g4⟩ := h.obj _ _ hH
  have hG := GOn.kill g1
  have hown : ∀ b, v0.ownBlock = some b → (γ id).bk = some b := fun b hb => by rw [g1]; exact hb
  refine ⟨fun b o => S b o ∨ (v0.ownBlock = some b ∧ o < l.length * es), v0, fun _ _ h => .inl h, g1, ?_, ?_⟩
  · rcases g2.2 with ⟨k1, k2⟩ | ⟨g, cap, cur, k1, _, k3, k4, k5, k6, k7⟩
    · subst k1
      have : l = [] := List.length_eq_zero_iff.1 k2
      subst this
      exact .emp none 0 es (by decide) (fun _ => rfl)
    · subst k1
      refine j0 (xs := xs) g5 ((a56 g2 g3 g5).mono (fun _ _ h => .inl h) (fun _ _ _ => rfl)) k4 (by unfold maxLen at k5; omega) (fun k u hk => ?_)
      have hk1 : k < l.length * es := by have := (List.getElem?_eq_some_iff.1 hk).1; rw [g2.1] at this; exact this
      refine ⟨.inr ⟨rfl, hk1⟩, ?_⟩
      rw [f2 k3, ← hk, ← k7, List.getElem?_take, if_pos hk1]
  · have hmk := h.kill g1
    have hobk : ∀ b o, (S b o ∨ (v0.ownBlock = some b ∧ o < l.length * es)) → ∀ x, x ≠ id → (γ x).bk = some b → S b o := fun b o hs x hx hb => hs.elim (fun h => h) (fun hs => (h.dist x id hx b hb (hown b hs.1)).elim)
    have hvS : RepP (fun b o => S b o ∨ (v0.ownBlock = some b ∧ o < l.length * es)) w v0 (.sl es l) := by
      rcases g2.2 with ⟨k1, k2⟩ | ⟨g, cap, cur, k1, _, k3, k4, k5, k6, k7⟩
      · subst k1
        have : l = [] := List.length_eq_zero_iff.1 k2
        subst this
        exact .emp none 0 es (by decide) (fun _ => rfl)
      · subst k1
        refine j0 (xs := xs) g5 ((a56 g2 g3 g5).mono (fun _ _ h => .inl h) (fun _ _ _ => rfl)) k4 (by unfold maxLen at k5; omega) (fun k u hk => ?_)
        have hk1 : k < l.length * es := by have := (List.getElem?_eq_some_iff.1 hk).1; rw [g2.1] at this; exact this
        refine ⟨.inr ⟨rfl, hk1⟩, ?_⟩
        rw [f2 k3, ← hk, ← k7, List.getElem?_take, if_pos hk1]
    refine ⟨hmk.os, hmk.tape, hmk.output, hmk.size, hmk.frame, fun b o hs => ⟨.inl (h.keep b o hs).1, (h.keep b o hs).2⟩, fun b o hs => ?_, fun b o hs => ?_, hmk.mono, hmk.un, fun x hx => ?_, fun x o hx => ?_, hmk.dist, hmk.live⟩
    · rcases hs with hs | ⟨hs, _⟩
      · exact h.fresh b o hs
      · exact .inr (h.live id b (hown b hs)).2
    · rcases hs with hs | ⟨hs, _⟩
      · exact h.inb b o hs
      · exact (h.live id b (hown b hs)).1
    · by_cases hxi : x = id
      · subst hxi; exact .inr (a6 _ _ _)
      · rw [if_neg hxi] at hx
        rw [b7 _ _ hxi]
        exact h.off x (Option.map_eq_none_iff.1 hx)
    · by_cases hxi : x = id
      · rw [if_pos hxi] at hx; cases hx
      · rw [if_neg hxi] at hx
        obtain ⟨o0, ho0, rfl⟩ := Option.map_eq_some_iff.1 hx
        have hO : n6 (upd γ id .dead) (fun b o => S b o ∨ (v0.ownBlock = some b ∧ o < l.length * es)) w x o0 := n6.on (h.obj x o0 ho0) (b7 _ _ hxi) hG (fun _ _ h => .inl h) (fun _ _ _ => rfl) (fun b hb => ⟨rfl, fun o hs => hobk b o hs x hxi hb⟩)
        cases o0 with
        | box cells =>
          obtain ⟨b, cs, t, k1, k2, k3, k4⟩ := h.obj x _ ho0
          refine ⟨b, cs, t, by rw [b7 _ _ hxi]; exact k1, k2, ?_, fun o hs => k4 o (hobk b o hs x hxi (by rw [k1]; rfl))⟩
          exact (k3.mono (GOn.refl _) (fun _ _ h => .inl h) (fun _ _ _ => rfl)).frz g1 hvS rfl hG
        | _ => exact hO
end
section
variable {P : Program} {N nb : Nat} {st : St} {Q : Exit → St → Prop}
def St.frz (st : St) (id es : Nat) (l : List (List PV)) : St := ⟨st.tm.map fun p => (p.1, p.2.frz id (.sl es l)), st.hp.map fun p => (p.1, if p.1 = id then none else p.2.map (AO.frz id (.sl es l))), st.nx⟩
end
end Go.Proofs.YthbamdmkdkfmiaaDoor.am
end
section
namespace Go.Proofs.YthbamdmkdkfmiaaDoor.am
open Go.ChangeShapes Go.WideShapes Go.ChangeAt Go.RowKit
set_option linter.unusedVariables false
set_option linter.unusedSectionVars false
section
variable {P : Program} {N nb : Nat} {st : St} {Q : Exit → St → Prop}
def St.nilb (st : St) (id : Nat) (t e : TypeId) : St := ⟨st.tm, (id, some (.bld t (.row st.nx 1 []))) :: (st.nx, some (.row e 1)) :: st.hp, st.nx + 1⟩
theorem a9h {c : Code} (id : Nat) (t e : TypeId) (hid : hlk st.hp id = some (.bld t (.pv .nilS))) (hlt : id < st.nx) (h : AW P N nb c (st.nilb id t e) Q) : AW P N nb c st Q := by
  refine a8m (fun X hX a w hr => ?_) h
  obtain ⟨h1, h2, γ, S, hm, ha⟩ := hr
  have hG := GOn.upd_un (hm.un st.nx (Nat.le_refl _)) (.val (.slice none 0 0))
  refine ⟨h1, h2, upd γ st.nx (.val (.slice none 0 0)), S, ?_, fun s => (ha s).mono hG (fun _ _ h => h) (fun _ _ _ => rfl)⟩
  have m := hm.nilrow (nm := st.nx) (Nat.le_refl _) e 1
  show Mem X (hlk ((id, some (.bld t (.row st.nx 1 []))) :: (st.nx, some (.row e 1)) :: st.hp)) _ _ _ _
  rw [t7, t7]
  have hne : id ≠ st.nx := by omega
  have hid' : upd (hlk st.hp) st.nx (some (.row e 1)) id = some (.bld t (.pv .nilS)) := by rw [b7 _ _ hne]; exact hid
  refine { m with un := fun x hx => m.un x ⟨by have : st.nx + 1 ≤ x := hx
                                               omega, by have : st.nx + 1 ≤ x := hx
                                                         omega⟩, off := fun x hx => ?_, obj := fun x o hx => ?_ }
  · by_cases hxi : x = id
    · subst hxi; rw [a6] at hx; cases hx
    · rw [b7 _ _ hxi] at hx; exact m.off x hx
  · by_cases hxi : x = id
    · subst hxi
      rw [a6] at hx; cases hx
      obtain ⟨b, p, v, k1, k2, k3, k4, k5⟩ := m.obj x _ hid'
      exact ⟨b, p, v, k1, k2, k3, x2 (γ := upd γ st.nx (.val (.slice none 0 0))) k4 (a6 _ _ _), k5⟩
    · rw [b7 _ _ hxi] at hx; exact m.obj x o hx
end
section
variable {X : Ctx} {H : Nat → Option AO} {U : Nat → Prop} {γ : Nat → G} {S : CS} {w : World}
theorem Mem.frzn (h : Mem X H U γ S w) {g : Nat} (hno : ∀ x, (γ x).bk ≠ some g) (hg : X.w0.heap.size ≤ g ∨ ∃ y, (X.γ0 y).bk = some g) {w' : World} (os : w'.os = w.os) (tape : w'.tape = w.tape) (out : w'.output = w.output) (size : w'.heap.size = w.heap.size)
    (hoth : ∀ k, k ≠ g → w'.heap[k]? = w.heap[k]?) (hcell : ∀ k, w'.cell? ⟨g, k, none⟩ = w.cell? ⟨g, k, none⟩) : Mem X H U γ S w' := by
  have hw : ∀ b k, S b k → w'.cell? ⟨b, k, none⟩ = w.cell? ⟨b, k, none⟩ := fun b k hs => by
    by_cases hb : b = g
    · rw [hb]; exact hcell k
    · exact World.cell?_of_block (hoth b hb)
  refine ⟨os.trans h.os, tape.trans h.tape, out.trans h.output, by rw [size]; exact h.size, fun b hb hx => ?_, fun b k hs => ⟨(h.keep b k hs).1, by rw [hw b k (h.keep b k hs).1]; exact (h.keep b k hs).2⟩, h.fresh, fun b k hs => by rw [size]; exact h.inb b k hs, h.mono, h.un, h.off, fun x o hx => ?_, h.dist, fun x b hb => by rw [size]; exact h.live x b hb⟩
  · rw [hoth b (fun e => ?_)]
    · exact h.frame b hb hx
    · subst e
      rcases hg with hg | ⟨y, hy⟩
      · omega
      · exact hx y hy
  · exact n6.on (h.obj x o hx) rfl (GOn.refl _) (fun _ _ h => h) hw (fun b hb => ⟨hoth b (fun e => hno x (e ▸ hb)), fun _ h => h⟩)
theorem Mem.more (h : Mem X H U γ S w) {w' : World} (hb : Below w.heap.size w w') : Mem X H U γ S w' := by
  have hw : ∀ b k, S b k → w'.cell? ⟨b, k, none⟩ = w.cell? ⟨b, k, none⟩ := fun b k hs => World.cell?_of_block (hb.block b (h.inb b k hs))
  refine ⟨hb.os.trans h.os, hb.tape.trans h.tape, hb.output.trans h.output, Nat.le_trans h.size hb.size, fun b hbb hx => ?_, fun b k hs => ⟨(h.keep b k hs).1, by rw [hw b k (h.keep b k hs).1]; exact (h.keep b k hs).2⟩, h.fresh, fun b k hs => Nat.lt_of_lt_of_le (h.inb b k hs) hb.size, h.mono, h.un, h.off, fun x o hx => ?_, h.dist, fun x b hbb => ⟨Nat.lt_of_lt_of_le (h.live x b hbb).1 hb.size, (h.live x b hbb).2⟩⟩
  · rw [hb.block b (Nat.lt_of_lt_of_le hbb h.size)]; exact h.frame b hbb hx
  · exact n6.on (h.obj x o hx) rfl (GOn.refl _) (fun _ _ h => h) hw (fun b hbb => ⟨hb.block b (h.live x b hbb).1, fun _ h => h⟩)
end
structure CopyK (P : Program) (f : Nat) (T : TypeId) : Prop where
  used : ∀ (b : Nat) (w : World), w.cell? ⟨b, 0, none⟩ = some (.pointer (some ⟨b, 0, none⟩)) → Calls P f #[.pointer (some ⟨b, 0, none⟩)] w fun e w' => e = .returned (.tuple #[]) ∧ w' = w
  fresh : ∀ (b : Nat) (w : World), w.cell? ⟨b, 0, none⟩ = some (.pointer none) → w.shape? b = some (T, 2) → w.frozen? ⟨b, 0, none⟩ = false → Calls P f #[.pointer (some ⟨b, 0, none⟩)] w fun e w' => e = .returned (.tuple #[]) ∧ w' = w.setCell ⟨b, 0, none⟩ (.pointer (some ⟨b, 0, none⟩))
theorem a62 {γ : Nat → G} {S : CS} {w : World} {vs : List Value} {id : Nat} (h : f9 γ S w vs [.v (.c (.ptr id 0))]) : ∃ b, vs = [.pointer (some ⟨b, 0, none⟩)] ∧ γ id = .blk b := by
  match vs, h with
  | [u], h =>
    obtain ⟨⟨b, k1, rfl⟩, _⟩ := h
    exact ⟨b, rfl, k1⟩
theorem a6h {P : Program} {f : Nat} {T : TypeId} (hk : CopyK P f T) (e : TypeId) (l : List (List PV)) : Spec P f [.v (.c (.ptr 0 0))] [.bld T (.row 1 1 l), .row e 1] (.tup []) [some (.bld T (.row 1 1 l)), some (.row e 1)] := fun γ S w vs hm hv => by
  obtain ⟨b, rfl, hb⟩ := a62 hv
  obtain ⟨b', p, v, g1, g2, g3, g4, g5⟩ := hm.obj 0 _ rfl
  rw [g1] at hb; cases hb
  have e0 : (fun x : Nat => ([some (AO.bld T (.row 1 1 l)), some (.row e 1)][x]?).join) = fun x : Nat => [AO.bld T (.row 1 1 l), .row e 1][x]? := by
    funext x
    match x with
    | 0 => rfl
    | 1 => rfl
    | x + 2 => simp
  have hc0 : w.cell? ⟨b, 0, none⟩ = some p := by rw [f2 g2]; rfl
  rcases g3 with rfl | rfl
  · refine (hk.fresh b w hc0 (by simp [World.shape?, g2]) (by simp [World.frozen?, g2])).mono ?_
    rintro e1 w' ⟨rfl, rfl⟩
    have hoth : ∀ k, k ≠ b → (w.setCell ⟨b, 0, none⟩ (.pointer (some ⟨b, 0, none⟩))).heap[k]? = w.heap[k]? := fun k hk => Below.heap_setCell _ _ _ _ hk
    have hw : ∀ b' k, S b' k → (w.setCell ⟨b, 0, none⟩ (.pointer (some ⟨b, 0, none⟩))).cell? ⟨b', k, none⟩ = w.cell? ⟨b', k, none⟩ := fun b' k hs => World.cell?_of_block (hoth b' (fun e => g5 k (e ▸ hs)))
    have m := hm.turn (id := 0) (b := b) (by rw [g1]; rfl) (w' := w.setCell ⟨b, 0, none⟩ (.pointer (some ⟨b, 0, none⟩))) rfl rfl rfl (by simp [World.setCell]) hoth g5 (.bld T (.row 1 1 l)) ⟨b, _, v, g1, by simp [World.setCell, Array.getElem?_modify, g2], .inr rfl, g4.mono (GOn.refl _) (fun _ _ h => h) hw, g5⟩
    refine ⟨_, γ, S, rfl, ?_, ⟨#[], rfl, rfl, fun i c h => by simp at h⟩⟩
    rw [e0]
    have e2 : upd (fun x : Nat => [AO.bld T (.row 1 1 l), .row e 1][x]?) 0 (some (.bld T (.row 1 1 l))) = fun x : Nat => [AO.bld T (.row 1 1 l), .row e 1][x]? := by
      funext x
      match x with
      | 0 => rfl
      | x + 1 => rfl
    rw [e2] at m
    exact m
  · refine (hk.used b w hc0).mono ?_
    rintro e1 w' ⟨rfl, rfl⟩
    refine ⟨_, γ, S, rfl, ?_, ⟨#[], rfl, rfl, fun i c h => by simp at h⟩⟩
    rw [e0]; exact hm
structure StrK (P : Program) (f : Nat) (T E : TypeId) : Prop where
  emp : ∀ (b : Nat) (p v : Value) (xs : List Value) (w : World), w.heap[b]? = some (.cells #[p, v] T (0, 0)) → w.ownsRow 0 E 1 v 0 xs → Calls P f #[.pointer (some ⟨b, 0, none⟩)] w fun e w' => e = .returned (.string .empty) ∧ Below w.heap.size w w'
  yes : ∀ (b g cap : Nat) (cur : Array Value) (p : Value) (t : TypeId) (s : ByteArray) (w : World), 0 < s.size → w.heap[b]? = some (.cells #[p, .slice (some ⟨g, 0, none⟩) s.size cap] t (0, 0)) → w.ownsRow 0 E 1 (.slice (some ⟨g, 0, none⟩) s.size cap) s.size (Lib.strCells s) →
    Calls P f #[.pointer (some ⟨b, 0, none⟩)] w fun e w' => e = .returned (.string s) ∧ w' = w.drew.freeze ⟨g, 0, none⟩ s.size
theorem a3m (w : World) (p : Addr) (n : Nat) : (w.freeze p n).heap.size = w.heap.size := by
  unfold World.freeze
  split <;> simp
theorem a19 (w : World) (g n k : Nat) (h : k ≠ g) : (w.freeze ⟨g, 0, none⟩ n).heap[k]? = w.heap[k]? := by
  unfold World.freeze
  split
  · rfl
  · simp only [Array.getElem?_modify]
    rw [if_neg (Ne.symm h)]
theorem a3l (w : World) (g n k : Nat) : (w.freeze ⟨g, 0, none⟩ n).cell? ⟨g, k, none⟩ = w.cell? ⟨g, k, none⟩ := by
  unfold World.freeze
  split
  · rfl
  · simp only [World.cell?, Array.getElem?_modify, if_true]
    cases w.heap[g]? with
    | none => rfl
    | some o => cases o <;> rfl
theorem a9x {γ : Nat → G} {S : CS} {w : World} {x : Nat} {E : TypeId} {s : ByteArray} {v : Value} (h : n6 γ S w x (.row E 1)) (hv : p9 γ S w v (.row x 1 (bL s))) : γ x = .val v ∧ w.ownsRow 0 E 1 v s.size (Lib.strCells s) := by
  obtain ⟨h1, h2⟩ := hv
  obtain ⟨v0, n, xs, g1, g2, g3⟩ := h
  have hvv : v = v0 := by
    rcases h2 with h2 | h2
    · rw [g1] at h2; cases h2
    · rw [g1] at h2; cases h2; rfl
  subst hvv
  obtain ⟨a, c, rfl, hs⟩ := l6 h1
  have hn : n = s.size := by
    rw [a0b] at g2
    rcases g2.2 with ⟨k1, k2⟩ | ⟨g, cap, cur, k1, _⟩
    · injection k1 with _ k3 _; omega
    · injection k1 with _ k3 _; omega
  subst hn
  have hx : xs = Lib.strCells s := by
    apply List.ext_getElem?
    intro i
    by_cases hi : i < s.size
    · have hlt : i < (Lib.strCells s).length := by rw [Lib.strCells_length]; exact hi
      have hlx : i < xs.length := by rw [g2.1]; omega
      rw [List.getElem?_eq_getElem hlx, List.getElem?_eq_getElem hlt]
      congr 1
      rcases hs.at' with hz | ⟨b, off, hb, hes, hc⟩
      · have := a0b s; rw [hz] at this; simp at this; omega
      · obtain ⟨_, u, k1, k2⟩ := hc i [.lit (Lib.strCells s)[i]] 0 (.lit (Lib.strCells s)[i]) (by unfold bL; rw [List.getElem?_map, List.getElem?_eq_getElem hlt]; rfl) rfl
        rcases g2.2 with ⟨k3, k4⟩ | ⟨g, cap, cur, k3, _⟩
        · omega
        · have hbb := hb
          injection k3 with q1 _ _
          rw [hb] at q1
          injection q1 with q1
          injection q1 with q1 q2 _
          subst q1 q2
          have := g2.cells (g := b) (by rw [hbb]; rfl) i xs[i] (List.getElem?_eq_getElem hlx)
          rw [e9] at this
          rw [show 0 + i * 1 + 0 = 0 + i by omega, this] at k1
          cases k1
          exact (c7 (γ := γ) (S := S) (w := w) k2).1
    · rw [List.getElem?_eq_none (by rw [g2.1]; omega), List.getElem?_eq_none (by rw [Lib.strCells_length]; omega)]
  subst hx
  exact ⟨g1, g2⟩
theorem a3t {P : Program} {f : Nat} {T E : TypeId} (hk : StrK P f T E) (s : ByteArray) : Spec P f [.v (.c (.ptr 0 0))] [.bld T (.row 1 1 (bL s)), .row E 1] (.v (.c (.pv (.lit (.string s))))) [some (.bld T (.row 1 1 (bL s))), none] := fun γ S w vs hm hv => by
  obtain ⟨b, rfl, hb⟩ := a62 hv
  obtain ⟨b', p, v, g1, g2, g3, g4, g5⟩ := hm.obj 0 _ rfl
  rw [g1] at hb; cases hb
  obtain ⟨k1, k2⟩ := a9x (hm.obj 1 _ rfl) g4
  have e0 : (fun x : Nat => ([some (AO.bld T (.row 1 1 (bL s))), none][x]?).join) = upd (fun x : Nat => [AO.bld T (.row 1 1 (bL s)), .row E 1][x]?) 1 none := by
    funext x
    match x with
    | 0 => rfl
    | 1 => rfl
    | x + 2 => simp [upd]
  have mk := hm.kill k1
  have hU : ∀ {w'}, Mem ⟨w, S, γ, []⟩ (upd (fun x : Nat => [AO.bld T (.row 1 1 (bL s)), .row E 1][x]?) 1 none) (fun x => [AO.bld T (.row 1 1 (bL s)), .row E 1].length ≤ x) (upd γ 1 .dead) S w' → ∃ v γ' S', Ending.returned (.string s) = .returned v ∧ Mem ⟨w, S, γ, []⟩ (fun x : Nat => ([some (AO.bld T (.row 1 1 (bL s))), none][x]?).join) (fun x => [some (AO.bld T (.row 1 1 (bL s))), none].length ≤ x) γ' S' w' ∧ c9 γ' S' w' v (.v (.c (.pv (.lit (.string s))))) := fun {w'} m => by
    refine ⟨.string s, upd γ 1 .dead, S, rfl, ?_, RepP.lit _ rfl⟩
    rw [e0]; exact m
  rcases Nat.eq_zero_or_pos s.size with h0 | h0
  · have hs : s = .empty := by
      apply ByteArray.ext
      exact Array.eq_empty_of_size_eq_zero h0
    rw [h0] at k2
    refine (hk.emp b p v _ w g2 k2).mono ?_
    rintro e1 w' ⟨rfl, hbl⟩
    rw [← hs]
    exact hU (mk.more hbl)
  · rcases k2.2 with ⟨k3, k4⟩ | ⟨g, cap, cur, k3, _⟩
    · omega
    · subst k3
      refine (hk.yes b g cap cur p T s w h0 g2 k2).mono ?_
      rintro e1 w' ⟨rfl, rfl⟩
      have hgb : (γ 1).bk = some g := by rw [k1]; rfl
      refine hU (mk.drew.frzn (g := g) (fun x hx => ?_) (hm.live 1 g hgb).2 (by unfold World.freeze; split <;> rfl) (by unfold World.freeze; split <;> rfl) (by unfold World.freeze; split <;> rfl) (a3m _ _ _) (fun k hk => a19 _ _ _ _ hk) (fun k => a3l _ _ _ _))
      by_cases h1 : x = 1
      · subst h1; rw [a6] at hx; cases hx
      · rw [b7 _ _ h1] at hx; exact hm.dist x 1 h1 g hx hgb
end Go.Proofs.YthbamdmkdkfmiaaDoor.am
end
section
namespace Go.Proofs.YthbamdmkdkfmiaaDoor.am
open vt
theorem td_int : td Tryd.prog 3 = some ⟨false, 1, 8, [.lit (.int .i64 0)], [], (.int .i64)⟩ := Eq.trans (by kernel_rfl) (Eq.refl _)
theorem td_bool : td Tryd.prog 4 = some ⟨false, 1, 1, [.lit (.bool false)], [], .bool⟩ := Eq.trans (by kernel_rfl) (Eq.refl _)
theorem td_string : td Tryd.prog 9 = some ⟨false, 1, 16, [.lit (.string ⟨#[]⟩)], [], .string⟩ := Eq.trans (by kernel_rfl) (Eq.refl _)
attribute [simp] td_int td_bool td_string
theorem i5 : Tryd.prog.follows .mixedOrders = true := by kernel_rfl
end Go.Proofs.YthbamdmkdkfmiaaDoor.am
end
section
namespace Go.Proofs
open Go.Shelf
def Tryd.lays169_ren : Go.Shelf.Ren := ⟨fun | 169 => 19 | n => n, fun | 70 => 40 | 9 => 9 | 0 => 0 | 72 => 42 | 37 => 39 | 127 => 67 | 3 => 3 | 5 => 5 | n => n, fun | n => n⟩
theorem Tryd.lays169 : Go.Proofs.Lays.n169 Tryd.prog Tryd.lays169_ren := {
  mixed := by kernel_rfl
  f169 := Tryd.func19.trans (congrArg some (by kernel_rfl))
  t0 := Tryd.underlying0
  a0 := Tryd.isAgg0
  z0 := Tryd.sizeOf0
  v0 := Tryd.zeroValue0
  t3 := Tryd.underlying3
  a3 := Tryd.isAgg3
  z3 := Tryd.sizeOf3
  v3 := Tryd.zeroValue3
  t9 := Tryd.underlying9
  a9 := Tryd.isAgg9
  z9 := Tryd.sizeOf9
  v9 := Tryd.zeroValue9
  t37 := Tryd.underlying39
  a37 := Tryd.isAgg39
  z37 := Tryd.sizeOf39
  v37 := Tryd.zeroValue39
  t70 := Tryd.underlying40
  a70 := Tryd.isAgg40
  z70 := Tryd.sizeOf40
  v70 := Tryd.zeroValue40
  t72 := Tryd.underlying42
  a72 := Tryd.isAgg42
  z72 := Tryd.sizeOf42
  v72 := Tryd.zeroValue42
  t127 := Tryd.underlying67
  a127 := Tryd.isAgg67
  z127 := Tryd.sizeOf67
  v127 := Tryd.zeroValue67 }
theorem Tryd.Builder_Extra_169 : Builder.Extra Tryd.prog Tryd.lays169_ren := {
  sizeBuilder := by kernel_rfl
  liesBuilder := by kernel_rfl
  t5 := Tryd.underlying5
  a5 := Tryd.isAgg5
  z5 := Tryd.sizeOf5
  v5 := Tryd.zeroValue5
  infoByte := by kernel_rfl
  cellsByte := by kernel_rfl
  sizeByte := by kernel_rfl
  neB5 := by decide }
def Tryd.lays165_ren : Go.Shelf.Ren := ⟨fun | 165 => 32 | 240 => 31 | 241 => 53 | 276 => 52 | 277 => 63 | n => n, fun | 70 => 40 | 3 => 3 | 0 => 0 | 4 => 4 | 9 => 9 | 20 => 20 | 72 => 42 | 37 => 39 | 164 => 85 | 5 => 5 | n => n, fun | n => n⟩
theorem Tryd.lays165 : Go.Proofs.Lays.n165 Tryd.prog Tryd.lays165_ren := {
  mixed := by kernel_rfl
  f165 := Tryd.func32.trans (congrArg some (by kernel_rfl))
  f240 := Tryd.func31.trans (congrArg some (by kernel_rfl))
  f241 := Tryd.func53.trans (congrArg some (by kernel_rfl))
  f276 := Tryd.func52.trans (congrArg some (by kernel_rfl))
  f277 := Tryd.func63.trans (congrArg some (by kernel_rfl))
  t0 := Tryd.underlying0
  a0 := Tryd.isAgg0
  z0 := Tryd.sizeOf0
  v0 := Tryd.zeroValue0
  t3 := Tryd.underlying3
  a3 := Tryd.isAgg3
  z3 := Tryd.sizeOf3
  v3 := Tryd.zeroValue3
  t4 := Tryd.underlying4
  a4 := Tryd.isAgg4
  z4 := Tryd.sizeOf4
  v4 := Tryd.zeroValue4
  t9 := Tryd.underlying9
  a9 := Tryd.isAgg9
  z9 := Tryd.sizeOf9
  v9 := Tryd.zeroValue9
  t20 := Tryd.underlying20
  a20 := Tryd.isAgg20
  z20 := Tryd.sizeOf20
  v20 := Tryd.zeroValue20
  t37 := Tryd.underlying39
  a37 := Tryd.isAgg39
  z37 := Tryd.sizeOf39
  v37 := Tryd.zeroValue39
  t70 := Tryd.underlying40
  a70 := Tryd.isAgg40
  z70 := Tryd.sizeOf40
  v70 := Tryd.zeroValue40
  t72 := Tryd.underlying42
  a72 := Tryd.isAgg42
  z72 := Tryd.sizeOf42
  v72 := Tryd.zeroValue42
  t164 := Tryd.underlying85
  a164 := Tryd.isAgg85
  z164 := Tryd.sizeOf85
  v164 := Tryd.zeroValue85 }
theorem Tryd.Builder_Extra_165 : Builder.Extra Tryd.prog Tryd.lays165_ren := {
  sizeBuilder := by kernel_rfl
  liesBuilder := by kernel_rfl
  t5 := Tryd.underlying5
  a5 := Tryd.isAgg5
  z5 := Tryd.sizeOf5
  v5 := Tryd.zeroValue5
  infoByte := by kernel_rfl
  cellsByte := by kernel_rfl
  sizeByte := by kernel_rfl
  neB5 := by decide }
def Tryd.lays137_ren : Go.Shelf.Ren := ⟨fun | 137 => 79 | 217 => 75 | 266 => 89 | n => n, fun | 9 => 9 | 5 => 5 | 3 => 3 | n => n, fun | n => n⟩
theorem Tryd.lays137 : Go.Proofs.Lays.n137 Tryd.prog Tryd.lays137_ren := {
  mixed := by kernel_rfl
  f137 := Tryd.func79.trans (congrArg some (by kernel_rfl))
  f217 := Tryd.func75.trans (congrArg some (by kernel_rfl))
  f266 := Tryd.func89.trans (congrArg some (by kernel_rfl))
  t3 := Tryd.underlying3
  a3 := Tryd.isAgg3
  z3 := Tryd.sizeOf3
  v3 := Tryd.zeroValue3
  t5 := Tryd.underlying5
  a5 := Tryd.isAgg5
  z5 := Tryd.sizeOf5
  v5 := Tryd.zeroValue5
  t9 := Tryd.underlying9
  a9 := Tryd.isAgg9
  z9 := Tryd.sizeOf9
  v9 := Tryd.zeroValue9 }
open Go.RowKit in
theorem Tryd.strings_IndexByte (s : ByteArray) (c : Int) (w : World) :
    Calls Tryd.prog 79 #[.string s, .int .u8 c] w fun e w' => e = .returned (.int .i64 (Lib.indexByte s.data.toList c.toNat.toUInt8)) ∧ w' = w := Any.strings_IndexByte Tryd.lays137 s c w
def Tryd.lays146_ren : Go.Shelf.Ren := ⟨fun | 146 => 21 | 221 => 37 | 268 => 55 | 138 => 56 | 143 => 57 | 195 => 64 | 197 => 65 | 218 => 66 | 219 => 67 | 260 => 74 | 217 => 75 | 225 => 76 | 224 => 77 | 267 => 78 | 266 => 89 | 314 => 90 | n => n, fun | 9 => 9 | 31 => 43 | 3 => 3 | 4 => 4 | 0 => 0 | 105 => 98 | 21 => 21 | 5 => 5 | 46 => 105 | 119 => 118 | 139 => 121 | 138 => 120 | 146 => 123 | 51 => 122 | n => n, fun | 1 => 0 | 3 => 1 | 4 => 2 | n => n⟩
theorem Tryd.lays146 : Go.Proofs.Lays.n146 Tryd.prog Tryd.lays146_ren := {
  mixed := by kernel_rfl
  f138 := Tryd.func56.trans (congrArg some (by kernel_rfl))
  f143 := Tryd.func57.trans (congrArg some (by kernel_rfl))
  f146 := Tryd.func21.trans (congrArg some (by kernel_rfl))
  f195 := Tryd.func64.trans (congrArg some (by kernel_rfl))
  f197 := Tryd.func65.trans (congrArg some (by kernel_rfl))
  f217 := Tryd.func75.trans (congrArg some (by kernel_rfl))
  f218 := Tryd.func66.trans (congrArg some (by kernel_rfl))
  f219 := Tryd.func67.trans (congrArg some (by kernel_rfl))
  f221 := Tryd.func37.trans (congrArg some (by kernel_rfl))
  f224 := Tryd.func77.trans (congrArg some (by kernel_rfl))
  f225 := Tryd.func76.trans (congrArg some (by kernel_rfl))
  f260 := Tryd.func74.trans (congrArg some (by kernel_rfl))
  f266 := Tryd.func89.trans (congrArg some (by kernel_rfl))
  f267 := Tryd.func78.trans (congrArg some (by kernel_rfl))
  f268 := Tryd.func55.trans (congrArg some (by kernel_rfl))
  f314 := Tryd.func90.trans (congrArg some (by kernel_rfl))
  t0 := Tryd.underlying0
  a0 := Tryd.isAgg0
  z0 := Tryd.sizeOf0
  v0 := Tryd.zeroValue0
  t3 := Tryd.underlying3
  a3 := Tryd.isAgg3
  z3 := Tryd.sizeOf3
  v3 := Tryd.zeroValue3
  t4 := Tryd.underlying4
  a4 := Tryd.isAgg4
  z4 := Tryd.sizeOf4
  v4 := Tryd.zeroValue4
  t5 := Tryd.underlying5
  a5 := Tryd.isAgg5
  z5 := Tryd.sizeOf5
  v5 := Tryd.zeroValue5
  t9 := Tryd.underlying9
  a9 := Tryd.isAgg9
  z9 := Tryd.sizeOf9
  v9 := Tryd.zeroValue9
  t21 := Tryd.underlying21
  a21 := Tryd.isAgg21
  z21 := Tryd.sizeOf21
  v21 := Tryd.zeroValue21
  t31 := Tryd.underlying43
  a31 := Tryd.isAgg43
  z31 := Tryd.sizeOf43
  v31 := Tryd.zeroValue43
  t46 := Tryd.underlying105
  a46 := Tryd.isAgg105
  z46 := Tryd.sizeOf105
  v46 := Tryd.zeroValue105
  t51 := Tryd.underlying122
  a51 := Tryd.isAgg122
  z51 := Tryd.sizeOf122
  v51 := Tryd.zeroValue122
  t105 := Tryd.underlying98
  a105 := Tryd.isAgg98
  z105 := Tryd.sizeOf98
  v105 := Tryd.zeroValue98
  t119 := Tryd.underlying118
  a119 := Tryd.isAgg118
  z119 := Tryd.sizeOf118
  t138 := Tryd.underlying120
  a138 := Tryd.isAgg120
  z138 := Tryd.sizeOf120
  v138 := Tryd.zeroValue120
  t139 := Tryd.underlying121
  a139 := Tryd.isAgg121
  z139 := Tryd.sizeOf121
  v139 := Tryd.zeroValue121
  t146 := Tryd.underlying123
  a146 := Tryd.isAgg123
  z146 := Tryd.sizeOf123
  v146 := Tryd.zeroValue123
  g1 := by kernel_rfl
  g3 := by kernel_rfl
  g4 := by kernel_rfl }
open Go.RowKit Go.Lib in
theorem Tryd.strings_Split (s sep : ByteArray) (m : Int) (w : World) (hs : s.size < 4294967281) (hm : w.cell? ⟨0, 0, none⟩ = some (.int .i64 m)) (h1 : 1 ≤ sep.size) :
    Calls Tryd.prog 21 #[.string s, .string sep] w fun e w' =>
      e = .returned (.slice (some ⟨w.heap.size, 0, none⟩) (Lib.countB s sep + 1) (Lib.countB s sep + 1)) ∧ w' = w.alloc (.cells ((Lib.splitB sep 0 (Lib.countB s sep) s).map Value.string).toArray 9) := Any.strings_Split Tryd.lays146 (by kernel_rfl) s sep m w hs hm h1
end Go.Proofs
end
section
namespace Go.Proofs.YthbamdmkdkfmiaaDoor.am
open Go.Shelf Go.RowKit
variable {P : Program} {ρ : Ren}
set_option maxHeartbeats 1000000 in
set_option maxRecDepth 100000 in
theorem a2l (L : Lays.n169 P ρ) (X : Builder.Extra P ρ) {b g cap : Nat} {cur : Array Value} {p : Value} {t : TypeId} {s : ByteArray} {w : World} (h0 : 0 < s.size) (hbk : w.heap[b]? = some (.cells #[p, .slice (some ⟨g, 0, none⟩) s.size cap] t (0, 0))) (hown : w.ownsRow 0 (ρ.t 5) 1 (.slice (some ⟨g, 0, none⟩) s.size cap) s.size (Lib.strCells s)) :
    Calls P (ρ.f 169) #[.pointer (some ⟨b, 0, none⟩)] w fun e w' => e = .returned (.string s) ∧ w' = w.drew.freeze ⟨g, 0, none⟩ s.size := by
  have hx := hown.2
  rcases hx with ⟨k1, _⟩ | ⟨g', cap', cur, k1, _, k3, k4, k5, k6, k7⟩
  · cases k1
  cases k1
  have hl : s.data.toList ≠ [] := fun e => by
    have h1 : s.data.toList.length = 0 := by rw [e]; rfl
    rw [Array.length_toList] at h1
    have : s.data.size = s.size := rfl
    omega
  have hsl : s.data.toList.length = s.size := Array.length_toList
  have c1 : w.drew.cell? ⟨b, 1, none⟩ = some (.slice (some ⟨g, 0, none⟩) s.size cap) := f2 (w := w.drew) hbk
  have hSD : (Builtin.unsafeSliceData_ #[(ρ.t 37)] (ρ.t 127) #[.slice (some ⟨g, 0, none⟩) s.size cap]).run P w.drew = .ok (.pointer (some ⟨g, 0, none⟩)) w.drew := Lib.run_unsafeSliceData_row _ _ _ _ _ _ (by omega)
  have hUS : (Builtin.unsafeString_ #[(ρ.t 127), (ρ.t 3)] (ρ.t 9) #[.pointer (some ⟨g, 0, none⟩), .int .i64 s.size]).run P w.drew = .ok (.string s) (w.drew.freeze ⟨g, 0, none⟩ s.size) := by
    have key := Lib.run_unsafeString_row w.drew (ρ.t 127) (ρ.t 3) (ρ.t 9) (ρ.t 5) L.t127 X.cellsByte g cur.size (by have hg : w.drew.heap[g]? = some (.cells cur (ρ.t 5) (0, 0)) := k3; simp [World.shape?, hg]) s.data.toList hl (by omega) (by unfold maxLen at k5; omega) (fun j x hj => hown.cells (g := g) rfl j (.int .u8 x.toNat) (by unfold Lib.strCells; rw [List.getElem?_map, hj]; rfl))
    rw [hsl] at key
    exact key
  have mixed := L.mixed
  have t72 := L.t72; have a72 := L.a72; have z72 := L.z72; have v72 := L.v72; have u72 := run_underlying L.t72
  have t70 := L.t70; have a70 := L.a70; have z70 := L.z70; have v70 := L.v70; have u70 := run_underlying L.t70
  have t37 := L.t37; have a37 := L.a37; have z37 := L.z37; have v37 := L.v37; have u37 := run_underlying L.t37
  have t127 := L.t127; have a127 := L.a127; have z127 := L.z127; have v127 := L.v127; have u127 := run_underlying L.t127
  have t3 := L.t3; have a3 := L.a3; have z3 := L.z3; have v3 := L.v3; have u3 := run_underlying L.t3
  have t9 := L.t9; have a9 := L.a9; have z9 := L.z9; have v9 := L.v9; have u9 := run_underlying L.t9
  have t5 := X.t5; have a5 := X.a5; have z5 := X.z5; have v5 := X.v5; have u5 := run_underlying X.t5
  clear k4 k5 k6 k7 hl h0
  go_enter L.f169, Body.n169_ntmps ρ
  go_wp2
  go_region_o
  all_goals (go_wp2; go_ret; exact ⟨rfl, rfl⟩)
end Go.Proofs.YthbamdmkdkfmiaaDoor.am
namespace Go.Proofs.YthbamdmkdkfmiaaDoor.am
open Go.ChangeShapes Go.WideShapes Go.ChangeAt Go.RowKit
set_option linter.unusedVariables false
set_option linter.unusedSimpArgs false
theorem td_bldr : td Tryd.prog 42 = some ⟨true, 2, 32, [.lit (.pointer none), .nilS], [(0, 1, false), (1, 1, false)], .struct⟩ := Eq.trans (by kernel_rfl) (Eq.refl _)
theorem td_bldrp : td Tryd.prog 40 = some ⟨false, 1, 8, [.lit (.pointer none)], [], (.pointer 42)⟩ := Eq.trans (by kernel_rfl) (Eq.refl _)
theorem td_u8s : td Tryd.prog 39 = some ⟨false, 1, 24, [.nilS], [], (.slice 5)⟩ := Eq.trans (by kernel_rfl) (Eq.refl _)
theorem td_bu8 : td Tryd.prog 5 = some ⟨false, 1, 1, [.lit (.int .u8 0)], [], (.int .u8)⟩ := Eq.trans (by kernel_rfl) (Eq.refl _)
attribute [simp] td_bldr td_bldrp td_u8s td_bu8
theorem copyK : CopyK Tryd.prog 31 42 where
  used := fun b w h => Any.Builder_copyCheck_used (ρ := Tryd.lays165_ren) { Tryd.lays165 with } Tryd.Builder_Extra_165.toX72 b w h
  fresh := fun b w h1 h2 h3 => Any.Builder_copyCheck_fresh (ρ := Tryd.lays165_ren) { Tryd.lays165 with } Tryd.Builder_Extra_165.toX72 b w h1 h2 h3
theorem strK : StrK Tryd.prog 19 42 5 where
  emp := fun b p v xs w hb ho => by
    rcases ho.2 with ⟨k1, _⟩ | ⟨g, cap, cur, k1, _, k3, k4, k5, k6, k7⟩
    · subst k1
      exact Any.Builder_String_nil Tryd.lays169 Tryd.Builder_Extra_169 w.heap.size b p w hb
    · subst k1
      by_cases h0 : cap = 0
      · subst h0
        exact Any.Builder_String_noroom Tryd.lays169 Tryd.Builder_Extra_169 w.heap.size b g p cur w (Nat.le_refl _) hb k3
      · exact Any.Builder_String_room Tryd.lays169 Tryd.Builder_Extra_169 w.heap.size b g cap p w h0 hb
  yes := fun b g cap cur p t s w h0 hb ho => a2l Tryd.lays169 Tryd.Builder_Extra_169 (cur := cur) h0 hb ho
theorem o9 (l : List (List PV)) : Row Tryd.prog 31 [.v (.c (.ptr 0 0))] [.bld 42 (.row 1 1 l), .row 5 1] (.tup []) [some (.bld 42 (.row 1 1 l)), some (.row 5 1)] :=
  ⟨⟨_, Tryd.func31, rfl, rfl⟩, a6h copyK _ l⟩
abbrev bld (i : Nat) (s : ByteArray) : AO := .bld 42 (.row i 1 (bL s))
abbrev brw : AO := .row 5 1
theorem a3b (s : ByteArray) : Row Tryd.prog 19 [.v (.c (.ptr 0 0))] [bld 1 s, brw] (.v (.c (.pv (.lit (.string s))))) [some (bld 1 s), none] :=
  ⟨⟨_, Tryd.func19, rfl, rfl⟩, a3t strK s⟩
theorem a40 (a s : ByteArray) (h : a.size + s.size ≤ 140737488355328) : Row Tryd.prog 16 [.v (.c (.ptr 0 0)), .v (.c (.pv (.lit (.string s))))] [bld 1 a, brw] (.tup [.c (.pv (.lit (.int .i64 s.size))), .c (.pv (.lit .nilIface))]) [some (bld 2 (a ++ s)), none, some brw] := by
  have hl : (bL a).length + s.size ≤ 140737488355328 := by rw [a0b]; exact h
  refine d9 Tryd.func16 rfl rfl (Nat.le_of_ble_eq_true rfl) ?_
  repeat' (first | refine b9 ?_ | refine b5 ?_ | refine a7 ?_ | refine a8 ?_ | refine d5 rfl ?_ | refine d4 rfl ?_ | ((first | refine b8 (fun K hK => ?_) | refine c6 i5 (fun K hK => ?_) | refine c5 (cg (o9 (bL a)) [0,1] ?_) | refine b6 (dg (o9 (bL a)) [0,1] ?_) | fail); simp -implicitDefEqProofs [hl]) | refine hK _ ?_ | refine hK _ _ (by rfl) ?_ | fail)
  repeat (first | refine b9 ?_ | refine b5 ?_ | refine a7 ?_ | refine a8 ?_ | refine d5 rfl ?_ | refine d4 rfl ?_ | ((first | refine b8 (fun K hK => ?_) | refine c6 i5 (fun K hK => ?_) | fail); simp -implicitDefEqProofs [hl]; first | refine hK _ ?_ | refine hK _ _ (by rfl) ?_ | fail) | fail)
  refine d6 (fin_g [0, 1, 19] ?_); simp -implicitDefEqProofs [FinG, j3, j6, a10] <;> try rfl
end Go.Proofs.YthbamdmkdkfmiaaDoor.am
end
section
namespace Go.Proofs.YthbamdmkdkfmiaaDoor.am
open Go.ChangeShapes Go.WideShapes Go.ChangeAt Go.RowKit
set_option linter.unusedVariables false
set_option linter.unusedSimpArgs false
theorem td_err : td Tryd.prog 47 = some ⟨false, 1, 16, [.lit .nilIface], [], .interface⟩ := Eq.trans (by kernel_rfl) (Eq.refl _)
attribute [simp] td_err
theorem a9j (c : UInt8) : bL ⟨#[c]⟩ = [[.lit (.int .u8 c.toNat)]] := rfl
theorem a11 (a : ByteArray) (c : UInt8) (h : a.size + 1 ≤ 140737488355328) : Row Tryd.prog 18 [.v (.c (.ptr 0 0)), .v (.c (.pv (.lit (.int .u8 c.toNat))))] [bld 1 a, brw] (.v (.c (.pv (.lit .nilIface)))) [some (bld 2 (a ++ ⟨#[c]⟩)), none, some brw] := by
  have hl : (bL a).length + 1 ≤ 140737488355328 := by rw [a0b]; exact h
  refine d9 Tryd.func18 rfl rfl (Nat.le_of_ble_eq_true rfl) ?_
  repeat' (first | refine b9 ?_ | refine b5 ?_ | refine a7 ?_ | refine a8 ?_ | refine d5 rfl ?_ | refine d4 rfl ?_ | ((first | refine b8 (fun K hK => ?_) | refine c6 i5 (fun K hK => ?_) | refine c5 (cg (o9 (bL a)) [0,1] ?_) | refine b6 (dg (o9 (bL a)) [0,1] ?_) | fail); simp -implicitDefEqProofs [hl]) | refine hK _ ?_ | refine hK _ _ (by rfl) ?_ | fail)
  repeat (first | refine b9 ?_ | refine b5 ?_ | refine a7 ?_ | refine a8 ?_ | refine d5 rfl ?_ | refine d4 rfl ?_ | ((first | refine b8 (fun K hK => ?_) | refine c6 i5 (fun K hK => ?_) | fail); simp -implicitDefEqProofs [hl]; first | refine hK _ ?_ | refine hK _ _ (by rfl) ?_ | fail) | fail)
  refine d6 (fin_g [0, 1, 19] ?_); simp -implicitDefEqProofs [FinG, j3, j6, a10, a9j] <;> try rfl
end Go.Proofs.YthbamdmkdkfmiaaDoor.am
end
section
namespace Go.Proofs.YthbamdmkdkfmiaaDoor.am
open Go.ChangeShapes Go.WideShapes Go.ChangeAt Go.RowKit
set_option linter.unusedVariables false
end Go.Proofs.YthbamdmkdkfmiaaDoor.am
end
section
namespace Go.Proofs.YthbamdmkdkfmiaaDoor.am
open Go.ChangeShapes Go.WideShapes Go.ChangeAt Go.RowKit
open vt
set_option linter.unusedVariables false
set_option linter.unusedSimpArgs false
abbrev vU (c : UInt8) : AV := .v (.c (.pv (.lit (.int .u8 c.toNat))))
theorem a1h {c d : UInt8} (h : ¬ c = d) : ¬ (c.toNat : Int) = d.toNat := fun e => h (UInt8.toNat_inj.1 (by omega))
theorem u8w (n : Int) (h0 : 0 ≤ n) (h1 : n < 256) : IntKind.u8.wrap n = n := by unfold IntKind.wrap; simp [IntKind.bits, IntKind.signed]; omega
theorem p6 (c : UInt8) (r : List (List PV)) : a2w ([.lit (.int .u8 (c.toNat : Int))] :: r) = (a2w r).map (c :: ·) := by
  have h := c.toNat_lt
  rw [a2w, if_pos (by omega)]
  simp
theorem a94 : a2w [] = some [] := rfl
theorem unb_92 (r : List (List PV)) : a2w ([.lit (.int .u8 92)] :: r) = (a2w r).map (92 :: ·) := p6 92 r
theorem a93 (r : List (List PV)) : a2w ([.lit (.int .u8 120)] :: r) = (a2w r).map (120 :: ·) := p6 120 r
theorem unb_34 (r : List (List PV)) : a2w ([.lit (.int .u8 34)] :: r) = (a2w r).map (34 :: ·) := p6 34 r
attribute [simp] unb_34 a94 p6 unb_92 a93 a6b j2 a6c a9m
theorem a9t (c : UInt8) : Row Tryd.prog 25 [vU c] [] (vS (Bt (qbL c))) [] := by
  unfold qbL
  by_cases h1 : c = 34
  · subst h1
    refine d9 Tryd.func25 rfl rfl (Nat.le_of_ble_eq_true rfl) ?_
    repeat (first | refine b9 ?_ | refine b5 ?_ | refine a7 ?_ | refine a8 ?_ | refine d5 rfl ?_ | refine d4 rfl ?_ | ((first | refine b8 (fun K hK => ?_) | refine c6 i5 (fun K hK => ?_) | fail); simp -implicitDefEqProofs; first | refine hK _ ?_ | refine hK _ _ (by rfl) ?_ | fail) | fail)
    refine d6 (f6 ?_); simp -implicitDefEqProofs [a1n, j3, j6] <;> try rfl
  by_cases h2 : c = 92
  · subst h2
    refine d9 Tryd.func25 rfl rfl (Nat.le_of_ble_eq_true rfl) ?_
    repeat (first | refine b9 ?_ | refine b5 ?_ | refine a7 ?_ | refine a8 ?_ | refine d5 rfl ?_ | refine d4 rfl ?_ | ((first | refine b8 (fun K hK => ?_) | refine c6 i5 (fun K hK => ?_) | fail); simp -implicitDefEqProofs; first | refine hK _ ?_ | refine hK _ _ (by rfl) ?_ | fail) | fail)
    refine d6 (f6 ?_); simp -implicitDefEqProofs [a1n, j3, j6] <;> try rfl
  have g1 : ¬ (c.toNat : Int) = 34 := a1h h1
  have g2 : ¬ (c.toNat : Int) = 92 := a1h h2
  rw [if_neg (fun h => h.elim h1 h2)]
  by_cases h3 : c = 10
  · subst h3
    refine d9 Tryd.func25 rfl rfl (Nat.le_of_ble_eq_true rfl) ?_
    repeat (first | refine b9 ?_ | refine b5 ?_ | refine a7 ?_ | refine a8 ?_ | refine d5 rfl ?_ | refine d4 rfl ?_ | ((first | refine b8 (fun K hK => ?_) | refine c6 i5 (fun K hK => ?_) | fail); simp -implicitDefEqProofs; first | refine hK _ ?_ | refine hK _ _ (by rfl) ?_ | fail) | fail)
    refine d6 (f6 ?_); simp -implicitDefEqProofs [a1n, j3, j6] <;> try rfl
  have g3 : ¬ (c.toNat : Int) = 10 := a1h h3
  rw [if_neg h3]
  by_cases h4 : 32 ≤ c.toNat ∧ c.toNat ≤ 126
  · rw [if_pos h4]
    have g4 : (32 : Int) ≤ c.toNat := by omega
    have g5 : (c.toNat : Int) ≤ 126 := by omega
    refine d9 Tryd.func25 rfl rfl (Nat.le_of_ble_eq_true rfl) ?_
    repeat (first | refine b9 ?_ | refine b5 ?_ | refine a7 ?_ | refine a8 ?_ | refine d5 rfl ?_ | refine d4 rfl ?_ | ((first | refine b8 (fun K hK => ?_) | refine c6 i5 (fun K hK => ?_) | fail); simp -implicitDefEqProofs [g1, g2, g3, g4, g5]; first | refine hK _ ?_ | refine hK _ _ (by rfl) ?_ | fail) | fail)
    refine d6 (f6 ?_); simp -implicitDefEqProofs [a1n, j3, j6] <;> try rfl
  rw [if_neg h4]
  have hc := c.toNat_lt
  obtain ⟨h, hh⟩ : ∃ h, c.toNat / 16 = h := ⟨_, rfl⟩
  obtain ⟨l, hl⟩ : ∃ l, c.toNat % 16 = l := ⟨_, rfl⟩
  have w1 : IntKind.u8.wrap ((c.toNat : Int) / 16) = (h : Int) := by rw [u8w _ (by omega) (by omega)]; omega
  have w2 : Int.tmod (c.toNat : Int) 16 = (l : Int) := by rw [Int.tmod_eq_emod_of_nonneg (by omega)]; omega
  have k1 := a8p h (by omega)
  have k2 := a8p l (by omega)
  rw [hh, hl]
  rw [a6c] at k1 k2
  refine d9 Tryd.func25 rfl rfl (Nat.le_of_ble_eq_true rfl) ?_
  by_cases g4 : (32 : Int) ≤ c.toNat
  · have g5 : ¬ (c.toNat : Int) ≤ 126 := by omega
    repeat (first | refine b9 ?_ | refine b5 ?_ | refine a7 ?_ | refine a8 ?_ | refine d5 rfl ?_ | refine d4 rfl ?_ | ((first | refine b8 (fun K hK => ?_) | refine c6 i5 (fun K hK => ?_) | fail); simp -implicitDefEqProofs [g1, g2, g3, g4, g5, k1, k2, w1, w2]; first | refine hK _ ?_ | refine hK _ _ (by rfl) ?_ | fail) | fail)
    refine d6 (f6 ?_); simp -implicitDefEqProofs [a1n, j3, j6] <;> try rfl
  · repeat (first | refine b9 ?_ | refine b5 ?_ | refine a7 ?_ | refine a8 ?_ | refine d5 rfl ?_ | refine d4 rfl ?_ | ((first | refine b8 (fun K hK => ?_) | refine c6 i5 (fun K hK => ?_) | fail); simp -implicitDefEqProofs [g1, g2, g3, g4, k1, k2, w1, w2]; first | refine hK _ ?_ | refine hK _ _ (by rfl) ?_ | fail) | fail)
    refine d6 (f6 ?_); simp -implicitDefEqProofs [a1n, j3, j6] <;> try rfl
theorem a0k (k : Nat) (hk : k < 16) : Row Tryd.prog 50 [.v (.c (.pv (.lit (.int .u8 (k : Nat)))))] [] (vU (dgH k)) [] := by
  have : k = 0 ∨ k = 1 ∨ k = 2 ∨ k = 3 ∨ k = 4 ∨ k = 5 ∨ k = 6 ∨ k = 7 ∨ k = 8 ∨ k = 9 ∨ k = 10 ∨ k = 11 ∨ k = 12 ∨ k = 13 ∨ k = 14 ∨ k = 15 := by omega
  rcases this with rfl | rfl | rfl | rfl | rfl | rfl | rfl | rfl | rfl | rfl | rfl | rfl | rfl | rfl | rfl | rfl
  all_goals
    refine d9 Tryd.func50 rfl rfl (Nat.le_of_ble_eq_true rfl) ?_
    repeat (first | refine b9 ?_ | refine b5 ?_ | refine a7 ?_ | refine a8 ?_ | refine d5 rfl ?_ | refine d4 rfl ?_ | ((first | refine b8 (fun K hK => ?_) | refine c6 i5 (fun K hK => ?_) | fail); simp -implicitDefEqProofs; first | refine hK _ ?_ | refine hK _ _ (by rfl) ?_ | fail) | fail)
    refine d6 (f6 ?_); simp -implicitDefEqProofs [a1n, j3, j6, dgH] <;> try rfl
theorem a9y (c : UInt8) : Row Tryd.prog 26 [vU c] [] (vS (Bt (qbL c))) [] := by
  unfold qbL
  by_cases h1 : c = 34
  · subst h1
    refine d9 Tryd.func26 rfl rfl (Nat.le_of_ble_eq_true rfl) ?_
    repeat (first | refine b9 ?_ | refine b5 ?_ | refine a7 ?_ | refine a8 ?_ | refine d5 rfl ?_ | refine d4 rfl ?_ | ((first | refine b8 (fun K hK => ?_) | refine c6 i5 (fun K hK => ?_) | fail); simp -implicitDefEqProofs; first | refine hK _ ?_ | refine hK _ _ (by rfl) ?_ | fail) | fail)
    refine d6 (f6 ?_); simp -implicitDefEqProofs [a1n, j3, j6] <;> try rfl
  by_cases h2 : c = 92
  · subst h2
    refine d9 Tryd.func26 rfl rfl (Nat.le_of_ble_eq_true rfl) ?_
    repeat (first | refine b9 ?_ | refine b5 ?_ | refine a7 ?_ | refine a8 ?_ | refine d5 rfl ?_ | refine d4 rfl ?_ | ((first | refine b8 (fun K hK => ?_) | refine c6 i5 (fun K hK => ?_) | fail); simp -implicitDefEqProofs; first | refine hK _ ?_ | refine hK _ _ (by rfl) ?_ | fail) | fail)
    refine d6 (f6 ?_); simp -implicitDefEqProofs [a1n, j3, j6] <;> try rfl
  have g1 : ¬ (c.toNat : Int) = 34 := a1h h1
  have g2 : ¬ (c.toNat : Int) = 92 := a1h h2
  rw [if_neg (fun h => h.elim h1 h2)]
  by_cases h3 : c = 10
  · subst h3
    refine d9 Tryd.func26 rfl rfl (Nat.le_of_ble_eq_true rfl) ?_
    repeat (first | refine b9 ?_ | refine b5 ?_ | refine a7 ?_ | refine a8 ?_ | refine d5 rfl ?_ | refine d4 rfl ?_ | ((first | refine b8 (fun K hK => ?_) | refine c6 i5 (fun K hK => ?_) | fail); simp -implicitDefEqProofs; first | refine hK _ ?_ | refine hK _ _ (by rfl) ?_ | fail) | fail)
    refine d6 (f6 ?_); simp -implicitDefEqProofs [a1n, j3, j6] <;> try rfl
  have g3 : ¬ (c.toNat : Int) = 10 := a1h h3
  rw [if_neg h3]
  by_cases h4 : 32 ≤ c.toNat ∧ c.toNat ≤ 126
  · rw [if_pos h4]
    have g4 : (32 : Int) ≤ c.toNat := by omega
    have g5 : (c.toNat : Int) ≤ 126 := by omega
    refine d9 Tryd.func26 rfl rfl (Nat.le_of_ble_eq_true rfl) ?_
    repeat (first | refine b9 ?_ | refine b5 ?_ | refine a7 ?_ | refine a8 ?_ | refine d5 rfl ?_ | refine d4 rfl ?_ | ((first | refine b8 (fun K hK => ?_) | refine c6 i5 (fun K hK => ?_) | fail); simp -implicitDefEqProofs [g1, g2, g3, g4, g5]; first | refine hK _ ?_ | refine hK _ _ (by rfl) ?_ | fail) | fail)
    refine d6 (f6 ?_); simp -implicitDefEqProofs [a1n, j3, j6] <;> try rfl
  rw [if_neg h4]
  have hc := c.toNat_lt
  obtain ⟨h, hh⟩ : ∃ h, c.toNat / 16 = h := ⟨_, rfl⟩
  obtain ⟨l, hl⟩ : ∃ l, c.toNat % 16 = l := ⟨_, rfl⟩
  have w1 : IntKind.u8.wrap ((c.toNat : Int) / 16) = (h : Int) := by rw [u8w _ (by omega) (by omega)]; omega
  have w2 : Int.tmod (c.toNat : Int) 16 = (l : Int) := by rw [Int.tmod_eq_emod_of_nonneg (by omega)]; omega
  have k1 := a0k h (by omega)
  have k2 := a0k l (by omega)
  rw [hh, hl]
  refine d9 Tryd.func26 rfl rfl (Nat.le_of_ble_eq_true rfl) ?_
  by_cases g4 : (32 : Int) ≤ c.toNat
  · have g5 : ¬ (c.toNat : Int) ≤ 126 := by omega
    repeat' (first | refine b9 ?_ | refine b5 ?_ | refine a7 ?_ | refine a8 ?_ | refine d5 rfl ?_ | refine d4 rfl ?_ | ((first | refine b8 (fun K hK => ?_) | refine c6 i5 (fun K hK => ?_) | refine c5 (cp k1 ?_) | refine b6 (dp k1 ?_) | refine c5 (cp k2 ?_) | refine b6 (dp k2 ?_) | fail); simp -implicitDefEqProofs [g1, g2, g3, g4, g5, w1, w2]) | refine hK _ ?_ | refine hK _ _ (by rfl) ?_ | fail)
    refine d6 (f6 ?_); simp -implicitDefEqProofs [a1n, j3, j6] <;> try rfl
  · repeat' (first | refine b9 ?_ | refine b5 ?_ | refine a7 ?_ | refine a8 ?_ | refine d5 rfl ?_ | refine d4 rfl ?_ | ((first | refine b8 (fun K hK => ?_) | refine c6 i5 (fun K hK => ?_) | refine c5 (cp k1 ?_) | refine b6 (dp k1 ?_) | refine c5 (cp k2 ?_) | refine b6 (dp k2 ?_) | fail); simp -implicitDefEqProofs [g1, g2, g3, g4, w1, w2]) | refine hK _ ?_ | refine hK _ _ (by rfl) ?_ | fail)
    refine d6 (f6 ?_); simp -implicitDefEqProofs [a1n, j3, j6] <;> try rfl
end Go.Proofs.YthbamdmkdkfmiaaDoor.am
end
