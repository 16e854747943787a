import Derived.Test.YtcjagcfjpfjanaaPkC3
import Derived.Scope
import Derived.Test.YtcjagcfjpfjanaaProg
import Derived.Test.YtcjagcfjpfjanaaPkC4
import Derived.Defers
set_option maxRecDepth 100000
set_option maxHeartbeats 4000000
section
namespace Go.Proofs.Ytcjagcfjpfjanaa.am
open Go.ChangeShapes Go.WideShapes Go.ChangeAt Go.RowKit
set_option linter.unusedVariables false
set_option linter.unusedSimpArgs false
theorem cg {P : Program} {N f : Nat} {dst : Option Nat} {first caps : List Cap} {args cargs : List AV} {ch : List AO} {ch' : List (Option AO)} {res : AV} {st : St} {K : St → Prop} (hrow : Row P f cargs ch res ch') (σ : List Nat) (hk : K ((st.wr (wrs (nmap σ ch.length st.nx) 0 ch') 8).put dst (res.ren (nmap σ ch.length st.nx)))) (hfit : fitVs ch.length (fun i => σ.getD i 0) cargs (first.map capV ++ args ++ caps.map capV) := by first | (simp [*]; done) | fail) (ho : covO (hlk st.hp) ch.length (fun i => σ.getD i 0) (ch.map some) σ := by first | (simp [*]; done) | fail) (hnd : σ.Nodup := by first | decide | (simp; done) | fail) (hl : ch'.length ≤ ch.length + 8 := by first | decide | (simp; done) | fail) (hl' : ch.length ≤ ch'.length := by first | decide | (simp; done) | fail) (hd : dok N dst = true := by rfl) :
    CallK P N dst (.v (.c (.fn (.func f) first caps))) args st K := ⟨f, first, caps, cargs, ch, res, ch', σ, rfl, hrow, hfit, ho, hnd, hl, hl', hd, hk⟩
theorem dg {P : Program} {N f : Nat} {dst : Option Nat} {first caps : List Cap} {args cargs : List AV} {ch : List AO} {ch' : List (Option AO)} {res : AV} {st : St} {K : List Nat → List Nat → St → Prop} (hrow : Row P f cargs ch res ch') (σ : List Nat) (hk : K σ ((wrs (nmap σ ch.length st.nx) 0 ch').map (·.1)) ((st.wr (wrs (nmap σ ch.length st.nx) 0 ch') 8).put dst (res.ren (nmap σ ch.length st.nx)))) (hfit : fitVs ch.length (fun i => σ.getD i 0) cargs (first.map capV ++ args ++ caps.map capV) := by first | (simp [*]; done) | fail) (ho : covO (hlk st.hp) ch.length (fun i => σ.getD i 0) (ch.map some) σ := by first | (simp [*]; done) | fail) (hnd : σ.Nodup := by first | decide | (simp; done) | fail) (hl : ch'.length ≤ ch.length + 8 := by first | decide | (simp; done) | fail) (hl' : ch.length ≤ ch'.length := by first | decide | (simp; done) | fail) (hd : dok N dst = true := by rfl) :
    CallD P N dst (.v (.c (.fn (.func f) first caps))) args st K := ⟨f, first, caps, cargs, ch, res, ch', σ, rfl, hrow, hfit, ho, hnd, hl, hl', hd, hk⟩
attribute [simp] wrs nmap AC.ren AT.ren AV.ren AO.ren Cap.ren
def FinG (P : Program) (rs : List ResultVar) (res : AV) (ch' : List (Option AO)) (r : List Nat) (st : St) : Prop :=
  match resV P st rs with
  | some x => fitV ch'.length (fun i => r.getD i 0) res x ∧ covO (hlk st.hp) ch'.length (fun i => r.getD i 0) ch' r
  | none => False
theorem fin_g {P : Program} {nb : Nat} {rs : List ResultVar} {res : AV} {ch' : List (Option AO)} {st : St} (r : List Nat) (h : FinG P rs res ch' r st) (hnd : r.Nodup := by first | decide | (simp; done)) (ht : r.take nb = List.range nb := by rfl) (hl : nb ≤ ch'.length := by first | decide | (simp; done)) : Fin P nb rs res ch' .ret st := by
  unfold FinG at h
  split at h
  · rename_i x hx; exact ⟨x, r, hx, h.1, h.2, hnd, ht, hl⟩
  · exact h.elim
section
variable {X : Ctx} {H : Nat → Option AO} {U : Nat → Prop} {γ : Nat → G} {S : CS} {w : World}
def AC.frz (id : Nat) (p : PV) : AC → AC
  | .arr i es n => if i = id then .pv p else .arr i es n
  | .vw i es lo n => if i = id then (match p with | .sl es' l => if es' = es ∧ lo + n ≤ l.length ∧ (lo = 0 ∨ 0 < n) then .pv (.sl es ((l.drop lo).take n)) else .top | _ => .top) else .vw i es lo n
  | c => c
def AT.frz (id : Nat) (p : PV) : AT → AT
  | .c x => .c (x.frz id p)
  | .agg l => .agg (l.map (AC.frz id p))
def AV.frz (id : Nat) (p : PV) : AV → AV
  | .v x => .v (x.frz id p)
  | .ep i es k o => if i = id then .top else .ep i es k o
  | .tup l => .tup (l.map (AT.frz id p))
  | x => x
def AO.frz (id : Nat) (p : PV) : AO → AO
  | .box l => .box (l.map (AC.frz id p))
  | o => o
theorem RepC.frz {γ' : Nat → G} {id : Nat} {p : PV} {v0 : Value} (hg : γ id = .val v0) (hp : RepP S w v0 p) (hγ : γ' = upd γ id .dead) (hG : GOn γ γ') {v : Value} {c : AC} (h : RepC γ S w v c) : RepC γ' S w v (c.frz id p) := by
  have hm : ∀ {c}, RepC γ S w v c → RepC γ' S w v c := fun h => h.mono hG (fun _ _ h => h) (fun _ _ _ => rfl)
  cases c with
  | arr i es n =>
    show RepC γ' S w v (if i = id then .pv p else .arr i es n)
    by_cases hi : i = id
    · rw [if_pos hi]
      subst hi
      rcases h.2 with k | k
      · rw [hg] at k; cases k
      · rw [hg] at k; cases k; exact hp
    · rw [if_neg hi]; exact hm h
  | vw i es lo n =>
    have h1 := h.one
    by_cases hi : i = id
    · subst hi
      unfold AC.frz
      dsimp only
      rw [if_pos rfl]
      split
      · rename_i es' l
        split
        · rename_i hc
          obtain ⟨rfl, hc, hd⟩ := hc
          obtain ⟨a, m, c, hx, a1, hl1, hl2, ha1, rfl⟩ := h
          rcases hx with k | k
          · rw [hg] at k; cases k
          rw [hg] at k; cases k
          obtain ⟨a2, c2, e2, hs⟩ := sl_inv hp
          injection e2 with q1 q2 q3
          subst q1 q2 q3
          have hln : ((l.drop lo).take n).length = n := by rw [List.length_take, List.length_drop]; omega
          have key := hs.part lo (lo + n) c (by omega) (by omega) (Nat.le_refl _) (by omega)
          have e3 : (l.take (lo + n)).drop lo = (l.drop lo).take n := by rw [List.drop_take]; congr 1; omega
          rw [e3] at key
          have key := sl_intro key
          rw [hln] at key
          rcases hd with hd | hd
          · subst hd
            have hz0 : ∀ z : Addr, z.add 0 = z := fun z => by unfold Addr.add; split <;> simp_all
            have e4 : a1 = a := by rw [ha1 (.inl rfl)]; cases a <;> simp [hz0]
            rw [e4]
            have e5 : (if c = 0 then a else a.map (·.add (0 * es'))) = a := by
              split
              · rfl
              · cases a <;> simp [hz0]
            rw [e5] at key
            exact key
          · rw [ha1 (.inr hd)]
            rw [if_neg (by omega)] at key
            exact key
        · exact h1
      · exact h1
    · unfold AC.frz
      dsimp only
      rw [if_neg hi]; exact hm h
  | _ => exact hm h
theorem RepCs.frz {γ' : Nat → G} {id : Nat} {p : PV} {v0 : Value} (hg : γ id = .val v0) (hp : RepP S w v0 p) (hγ : γ' = upd γ id .dead) (hG : GOn γ γ') {vs : List Value} {l : List AC} (h : RepCs γ S w vs l) : RepCs γ' S w vs (l.map (AC.frz id p)) := by
  refine ⟨by rw [List.length_map]; exact h.1, fun i c hi => ?_⟩
  obtain ⟨x, hx, rfl⟩ := map_at hi
  obtain ⟨v, h1, h2⟩ := h.2 i x hx
  exact ⟨v, h1, h2.frz hg hp hγ hG⟩
theorem RepT.frz {γ' : Nat → G} {id : Nat} {p : PV} {v0 : Value} (hg : γ id = .val v0) (hp : RepP S w v0 p) (hγ : γ' = upd γ id .dead) (hG : GOn γ γ') {v : Value} {c : AT} (h : RepT γ S w v c) : RepT γ' S w v (c.frz id p) := by
  cases c with
  | c x => exact RepC.frz hg hp hγ hG h
  | agg l => obtain ⟨cs, h1, h2⟩ := h; exact ⟨cs, h1, h2.frz hg hp hγ hG⟩
theorem RepV.frz {γ' : Nat → G} {id : Nat} {p : PV} {v0 : Value} (hg : γ id = .val v0) (hp : RepP S w v0 p) (hγ : γ' = upd γ id .dead) (hG : GOn γ γ') {v : Value} {c : AV} (h : RepV γ S w v c) : RepV γ' S w v (c.frz id p) := by
  cases c with
  | v x => exact RepT.frz hg hp hγ hG h
  | tup l =>
    obtain ⟨cs, h1, h2⟩ := h
    refine ⟨cs, h1, by rw [List.length_map]; exact h2.1, fun i c hi => ?_⟩
    obtain ⟨x, hx, rfl⟩ := map_at hi
    obtain ⟨v, h3, h4⟩ := h2.2 i x hx
    exact ⟨v, h3, h4.frz hg hp hγ hG⟩
  | ep i es k o =>
    show RepV γ' S w v (if i = id then .top else .ep i es k o)
    by_cases hi : i = id
    · rw [if_pos hi]; trivial
    · rw [if_neg hi]; exact RepV.mono hG (fun _ _ h => h) (fun _ _ _ => rfl) h
  | rp c o => exact h
  | top => trivial
end
section
variable {P : Program} {N nb : Nat} {st : St} {Q : Exit → St → Prop}
def St.frz (st : St) (id es : Nat) (l : List (List PV)) : St := ⟨st.tm.map fun p => (p.1, p.2.frz id (.sl es l)), st.hp.map fun p => (p.1, if p.1 = id then none else p.2.map (AO.frz id (.sl es l))), st.nx⟩
end
end Go.Proofs.Ytcjagcfjpfjanaa.am
end
section
namespace Go.Proofs.Ytcjagcfjpfjanaa.am
open Go.ChangeShapes Go.WideShapes Go.ChangeAt Go.RowKit
set_option linter.unusedVariables false
end Go.Proofs.Ytcjagcfjpfjanaa.am
end
section
namespace Go.Proofs.Ytcjagcfjpfjanaa.am
open vt
theorem td_int : td Try.prog 3 = some ⟨false, 1, 8, [.lit (.int .i64 0)], [], (.int .i64)⟩ := Eq.trans (by kernel_rfl) (Eq.refl _)
theorem td_bool : td Try.prog 4 = some ⟨false, 1, 1, [.lit (.bool false)], [], .bool⟩ := Eq.trans (by kernel_rfl) (Eq.refl _)
theorem td_string : td Try.prog 9 = some ⟨false, 1, 16, [.lit (.string ⟨#[]⟩)], [], .string⟩ := Eq.trans (by kernel_rfl) (Eq.refl _)
attribute [simp] td_int td_bool td_string
theorem mixd : Try.prog.follows .mixedOrders = true := by kernel_rfl
theorem td_term : td Try.prog 25 = some ⟨true, 6, 72, [.lit (.int .i64 0), .lit (.int .i64 0), .lit (.string ⟨#[]⟩), .nilS, .lit (.int .i64 0), .lit (.int .i64 0)], [(0, 1, false), (1, 1, false), (2, 1, false), (3, 1, false), (4, 1, false), (5, 1, false)], .struct⟩ := Eq.trans (by kernel_rfl) (Eq.refl _)
theorem td_terms : td Try.prog 23 = some ⟨false, 1, 24, [.nilS], [], (.slice 25)⟩ := Eq.trans (by kernel_rfl) (Eq.refl _)
theorem td_int64 : td Try.prog 2 = some ⟨false, 1, 8, [.lit (.int .i64 0)], [], (.int .i64)⟩ := Eq.trans (by kernel_rfl) (Eq.refl _)
attribute [simp] td_term td_terms td_int64
end Go.Proofs.Ytcjagcfjpfjanaa.am
end
section
namespace Go.Proofs.Ytcjagcfjpfjanaa.am
open Go.ChangeShapes Go.WideShapes Go.ChangeAt Go.RowKit
open vt
set_option linter.unusedVariables false
set_option linter.unusedSimpArgs false
def iC (l : List Int) : List (List PV) := l.map fun z => [PV.lit (.int .u8 z)]
theorem iC_len (l : List Int) : (iC l).length = l.length := by unfold iC; rw [List.length_map]
theorem iC_app (a b : List Int) : iC a ++ iC b = iC (a ++ b) := by unfold iC; rw [List.map_append]
theorem iC_at {l : List Int} {i : Nat} {e : List PV} (h : (iC l)[i]? = some e) : ∃ z, l[i]? = some z ∧ e = [PV.lit (.int .u8 z)] := by
  unfold iC at h
  rw [List.getElem?_map] at h
  obtain ⟨z, hz, rfl⟩ := Option.map_eq_some_iff.1 h
  exact ⟨z, hz, rfl⟩
abbrev vBy (l : List Int) : AV := .v (.c (.pv (.sl 1 (iC l))))
abbrev vN (z : Int) : AV := .v (.c (.pv (.lit (.int .u64 z))))
theorem own_rep {S : CS} {w w' : World} {e : TypeId} {a : Option Addr} {n c : Nat} {l : List Int} (h : bs.OwnB w' w.heap.size e a n c l) : RepP (newS S w w') w' (.slice a n c) (.sl 1 (iC l)) := by
  have hb := h.bytes
  obtain rfl := h.len
  have key : SlR (newS S w w') w' 1 (iC l) a c := by
    refine ⟨by rw [iC_len]; exact hb.cap, hb.most, hb.nil, ?_⟩
    rcases h.cases with ⟨rfl, h0, rfl⟩ | ⟨g, rfl, hg, hlt, -, -⟩
    · left
      have : l = [] := List.length_eq_zero_iff.1 h0
      rw [this]; rfl
    · right
      refine ⟨g, 0, rfl, fun e he => ?_, fun i e j p h1 h2 => ?_⟩
      · obtain ⟨i, hi⟩ := List.mem_iff_getElem?.1 he
        obtain ⟨z, -, rfl⟩ := iC_at hi
        rfl
      · obtain ⟨z, hz, rfl⟩ := iC_at h1
        have hj : j = 0 := by have := (List.getElem?_eq_some_iff.1 h2).1; simpa using this
        subst hj
        obtain rfl := Option.some.inj h2
        have hi := (List.getElem?_eq_some_iff.1 hz).1
        have hc := h.cellAt i hi
        have hd : l.getD i 0 = z := by simp [List.getD, hz]
        rw [hd] at hc
        refine ⟨.inr ⟨hg, hlt⟩, .int .u8 z, ?_, .lit _ rfl⟩
        simpa using hc
  have := sl_intro key
  rwa [iC_len] at this
theorem rep_bytes {S : CS} {w : World} {l : List Int} {x : Value} (hl : bs.AllB l) (h : RepP S w x (.sl 1 (iC l))) : ∃ a c, x = .slice a l.length c ∧ bs.Bytes w a l.length c l := by
  obtain ⟨a, c, rfl, R⟩ := sl_inv h
  rw [iC_len]
  refine ⟨a, c, rfl, rfl, by have := R.cap; rwa [iC_len] at this, R.most, hl, R.nil, ?_⟩
  rcases R.at' with h0 | ⟨b, off, rfl, hes, hc⟩
  · left
    have := congrArg List.length h0
    rwa [iC_len] at this
  · right
    refine ⟨b, off, rfl, fun i hi => ?_⟩
    have hz : l[i]? = some l[i] := List.getElem?_eq_getElem hi
    have h1 : (iC l)[i]? = some [PV.lit (.int .u8 l[i])] := by unfold iC; rw [List.getElem?_map, hz]; rfl
    obtain ⟨-, u, hu, hr⟩ := hc i _ 0 _ h1 rfl
    cases hr
    have hd : l.getD i 0 = l[i] := by simp [List.getD, hz]
    rw [hd]
    simpa using hu
theorem encB_row (f : Nat) (v : Int) (h : ∀ w, Calls Try.prog f #[.int .u64 v] w (vs.BPost w v)) (hf : Ent Try.prog f) : Row Try.prog f [vN v] [] (vBy (vs.enc v)) [] := by
  refine ⟨hf, spec_of_below (ch := []) fun γ S w vs' hm hv => ?_⟩
  match vs', hv with
  | [v0], ⟨h0, _⟩ =>
    obtain ⟨rfl, _⟩ := lit_inv h0
    refine (h w).mono ?_
    rintro e w' ⟨a, n, c, rfl, ho, hb⟩
    exact ⟨_, rfl, hb, own_rep ho⟩
theorem pbytes_row (v : Int) (h0 : 0 ≤ v) (h1 : v ≤ 18446744073709551615) : Row Try.prog 69 [vN v] [] (vBy (vs.enc v)) [] := encB_row _ v (fun w => vs.bytes_any v w h0 h1) ⟨_, Try.func69, rfl, rfl⟩
theorem rbytes_row (v : Int) (h0 : 0 ≤ v) (h1 : v ≤ 18446744073709551615) : Row Try.prog 25 [vN v] [] (vBy (vs.enc v)) [] := encB_row _ v (fun w => vs.rbytes_any v w h0 h1) ⟨_, Try.func25, rfl, rfl⟩
abbrev vGet (g : Int × Int × Int) : AV := .tup [.c (.pv (.lit (.int .u64 g.1))), .c (.pv (I g.2.1)), .c (.pv (I g.2.2))]
theorem pget_row (l : List Int) (hl : bs.AllB l) (hn : l.length ≤ 140737488355328) (at' : Int) (h0 : -9223372036854775808 ≤ at') (h1 : at' ≤ 9223372036854775807) : Row Try.prog 70 [vBy l, vI at'] [] (vGet (vs.getAt l at')) [] := by
  refine ⟨⟨_, Try.func70, rfl, rfl⟩, spec_of_below (ch := []) fun γ S w vs' hm hv => ?_⟩
  match vs', hv with
  | [v0, v1], ⟨h2, h3, _⟩ =>
    obtain ⟨rfl, _⟩ := lit_inv h3
    obtain ⟨a, c, rfl, hb⟩ := rep_bytes hl h2
    refine (vs.get_any a l.length c l at' w hb hn h0 h1).mono ?_
    rintro e w' ⟨rfl, rfl⟩
    refine ⟨_, rfl, Below.refl _ _, _, rfl, rfl, fun i x hx => ?_⟩
    match i, hx with
    | 0, hx => cases hx; exact ⟨_, rfl, .lit _ rfl⟩
    | 1, hx => cases hx; exact ⟨_, rfl, .lit _ rfl⟩
    | 2, hx => cases hx; exact ⟨_, rfl, .lit _ rfl⟩
    | i + 3, hx => simp at hx
theorem pzig_row (n : Int) (h0 : -9223372036854775808 ≤ n) (h1 : n ≤ 9223372036854775807) : Row Try.prog 47 [vI n] [] (vN (zigs.zig n)) [] := by
  refine ⟨⟨_, Try.func47, rfl, rfl⟩, spec_of_below (ch := []) fun γ S w vs' hm hv => ?_⟩
  match vs', hv with
  | [v0], ⟨h2, _⟩ =>
    obtain ⟨rfl, _⟩ := lit_inv h2
    refine (zigs.zig_any n w h0 h1).mono ?_
    rintro e w' ⟨rfl, rfl⟩
    exact ⟨_, rfl, Below.refl _ _, .lit _ rfl⟩
theorem rzig_row (n : Int) (h0 : -9223372036854775808 ≤ n) (h1 : n ≤ 9223372036854775807) : Row Try.prog 26 [vI n] [] (vN (zigs.zig n)) [] := by
  refine ⟨⟨_, Try.func26, rfl, rfl⟩, spec_of_below (ch := []) fun γ S w vs' hm hv => ?_⟩
  match vs', hv with
  | [v0], ⟨h2, _⟩ =>
    obtain ⟨rfl, _⟩ := lit_inv h2
    refine (zigs.rzig_any n w h0 h1).mono ?_
    rintro e w' ⟨rfl, rfl⟩
    exact ⟨_, rfl, Below.refl _ _, .lit _ rfl⟩
theorem pzag_row (v : Int) (h0 : 0 ≤ v) (h1 : v ≤ 18446744073709551615) : Row Try.prog 52 [vN v] [] (vI (zigs.zag v)) [] := by
  refine ⟨⟨_, Try.func52, rfl, rfl⟩, spec_of_below (ch := []) fun γ S w vs' hm hv => ?_⟩
  match vs', hv with
  | [v0], ⟨h2, _⟩ =>
    obtain ⟨rfl, _⟩ := lit_inv h2
    refine (zigs.zag_any v w h0 h1).mono ?_
    rintro e w' ⟨rfl, rfl⟩
    exact ⟨_, rfl, Below.refl _ _, .lit _ rfl⟩
end Go.Proofs.Ytcjagcfjpfjanaa.am
end
section
namespace Go.Proofs.Ytcjagcfjpfjanaa.am
open Go.ChangeShapes Go.WideShapes Go.ChangeAt Go.RowKit
set_option linter.unusedVariables false
abbrev SpecD (P : Program) (f : FuncId) (args : List AV) (ch : List AO) (res : AV) (ch' : List (Option AO)) : Prop :=
  SpecC (fun vs w R => CallsD P f vs .returning w (fun e u w' => u = .returning ∧ R e w')) args ch res ch'
structure RowD (P : Program) (f : FuncId) (args : List AV) (ch : List AO) (res : AV) (ch' : List (Option AO)) : Prop where
  ent : Ent P f
  spec : SpecD P f args ch res ch'
theorem rowD_of {P : Program} {f : FuncId} {fn : Func} {c : Code} (hf : P.funcs[f]? = some fn) (hb : fn.body = some c) (hn : (fn.name == "runtime.NumGoroutine") = false) {args : List AV} {ch : List AO} {res : AV} {ch' : List (Option AO)} (hN : args.length ≤ fn.ntmps)
    (h : AW P fn.ntmps ch.length c (entry args ch) (Fin P ch.length fn.results.toList res ch')) : RowD P f args ch res ch' :=
  ⟨⟨fn, hf, hn, by rw [hb]; rfl⟩, fun γ S w vs hm hv => callsD_of_wp hf hb (body_of hN h γ S w vs hm hv)⟩
abbrev Post (γ : Nat → G) (S : CS) (w : World) (res : AV) (ch' : List (Option AO)) : Ending → World → Prop := fun e w' =>
  ∃ v γ' S', e = .returned v ∧ Mem ⟨w, S, γ, []⟩ (fun x => (ch'[x]?).join) (fun x => ch'.length ≤ x) γ' S' w' ∧ RepV γ' S' w' v res
def FinD (P : Program) (N nb : Nat) (g : FuncId) (i off : Nat) (rs : List ResultVar) (res : AV) (ch' : List (Option AO)) : Exit → St → Prop := fun e st =>
  (e = .normal ∨ e = .ret) ∧ ∃ cargs ch0 res0 ch0' σ, RowD P g cargs ch0 res0 ch0' ∧ fitVs ch0.length (fun i => σ.getD i 0) cargs [.v (.c (.ptr i off))] ∧ covO (hlk st.hp) ch0.length (fun i => σ.getD i 0) (ch0.map some) σ ∧ σ.Nodup ∧
    ch0'.length ≤ ch0.length + 8 ∧ ch0.length ≤ ch0'.length ∧ (∃ o, hlk st.hp i = some o) ∧ Fin P nb rs res ch' .ret (st.wr (wrs (nmap σ ch0.length st.nx) 0 ch0') 8)
def AWD (P : Program) (fn : Func) (nb : Nat) (res : AV) (ch' : List (Option AO)) (c : Code) (st : St) : Prop :=
  ∀ (γ : Nat → G) (S : CS) (w0 : World), (∀ x, nb ≤ x → γ x = .un) → (∀ x, x < nb → γ x ≠ .un ∧ γ x ≠ .dead) → ∀ a w, Rel ⟨w0, S, γ, []⟩ fn.ntmps st a w → c.wp P (bodyPostD P fn (Post γ S w0 res ch')) a w
theorem awd_seq {P : Program} {fn : Func} {nb : Nat} {res : AV} {ch' : List (Option AO)} {x y : Code} {st : St} (h : AW P fn.ntmps nb x st (fun e st' => e = .normal ∧ AWD P fn nb res ch' y st')) : AWD P fn nb res ch' (.seq x y) st := fun γ S w0 h1 h2 a w hr =>
  wp_seq (h ⟨w0, S, γ, []⟩ h1 a w hr _ (fun e st' a' w' hq hr' => by
    obtain ⟨rfl, hq⟩ := hq
    exact hq γ S w0 h1 h2 a' w' hr'))
theorem row_of_d {P : Program} {f : FuncId} {fn : Func} {c : Code} (hf : P.funcs[f]? = some fn) (hb : fn.body = some c) (hn : (fn.name == "runtime.NumGoroutine") = false) {args : List AV} {ch : List AO} {res : AV} {ch' : List (Option AO)} (hN : args.length ≤ fn.ntmps)
    (h : AWD P fn ch.length res ch' c (entry args ch)) : Row P f args ch res ch' := by
  refine ⟨⟨fn, hf, hn, by rw [hb]; rfl⟩, fun γ S w vs hm hv => ?_⟩
  have hlen : vs.length = args.length := by
    clear h hm hN
    induction vs generalizing args with
    | nil => cases args with
      | nil => rfl
      | cons a l => exact hv.elim
    | cons v vs ih => cases args with
      | nil => exact hv.elim
      | cons a l => simp [ih hv.2]
  refine calls_of_wp_defers hf hb (h γ S w (fun x hx => hm.un x hx) (fun x hx => (hm.obj x _ (List.getElem?_eq_getElem hx)).live) _ w ⟨rfl, ?_, γ, S, ?_, fun t => ?_⟩)
  · simp [hlen]; omega
  · have e : hlk (entry args ch).hp = fun x => ch[x]? := by
      funext x
      show hlk (idx 0 (ch.map some)) x = _
      rw [hlk_idx0, List.getElem?_map]
      cases ch[x]? <;> rfl
    rw [e]; exact hm
  · have := idxA_lk (N := fn.ntmps - vs.toArray.size) hv 0 t
    simp at this ⊢
    exact this
theorem ar_tail {P : Program} {X : Ctx} {N : Nat} (ops : Array Oper) {Q : Exit → Act → World → Prop} {K : St → Prop} (tl : List Oper) (hQ : ∀ st a w, K st → Rel X N st a w → wpList P ops Q tl a w) : ∀ (l : List Oper) (st : St) (a : Act) (w : World), Rel X N st a w → AR P N (ops.toList.map (·.dst)) l st K → wpList P ops Q (l ++ tl) a w
  | [], st, a, w, h, hk => hQ st a w hk h
  | o :: l, st, a, w, h, hk => by
    unfold AR at hk
    rw [List.cons_append]
    cases hb : gd (ops.toList.map (·.dst)) st o.guard with
    | none => rw [hb] at hk; exact hk.elim
    | some b =>
      have hw := gd_wanted h ops o hb
      rw [hb] at hk
      unfold wpList
      rw [hw]
      cases b with
      | true =>
        rw [if_pos rfl]
        exact .inl (astep_sound h hk (fun st' a' w' hk' hr => ar_tail ops tl hQ l st' a' w' hr hk'))
      | false =>
        rw [if_neg (by simp)]
        obtain ⟨hd, hk⟩ : dok N o.dst = true ∧ _ := hk
        exact ar_tail ops tl hQ l _ _ w (h.put hd) hk
theorem Mem.re {w0 : World} {S0 : CS} {γ0 : Nat → G} {d d' : List Deferred} {H : Nat → Option AO} {U : Nat → Prop} {γ : Nat → G} {S : CS} {w : World} (h : Mem ⟨w0, S0, γ0, d⟩ H U γ S w) : Mem ⟨w0, S0, γ0, d'⟩ H U γ S w :=
  ⟨h.os, h.tape, h.output, h.size, h.frame, h.keep, h.fresh, h.inb, h.mono, h.un, h.off, h.obj, h.dist, h.live⟩
theorem ptr_keeps {γ0 γ1 γ2 : Nat → G} {S S' : CS} {w w' : World} {i off : Nat} {u : Value} (h0 : γ0 i ≠ .un) (h1 : GOn γ0 γ1) (h2 : GOn γ0 γ2) (hl : γ2 i ≠ .dead) (h : RepV γ1 S w u (.v (.c (.ptr i off)))) : RepV γ2 S' w' u (.v (.c (.ptr i off))) := by
  obtain ⟨b, hb, hu⟩ := h
  rcases h1 i with k | k | ⟨k, _⟩
  · exact absurd k h0
  · rcases h2 i with q | q | ⟨q, _⟩
    · exact absurd q h0
    · exact ⟨b, by rw [q, ← k]; exact hb, hu⟩
    · exact absurd q hl
  · rw [k] at hb; cases hb
theorem awd_defer {P : Program} {fn : Func} {nb : Nat} {res : AV} {ch' : List (Option AO)} {id : Nat} {ops : Array Oper} {dst : Option Nat} {g : FuncId} {x : Operand} {ats ty pos after} {B : Code} {st : St}
    (hl : ops.toList.getLast? = some (⟨dst, .defer ⟨.value (.func g), #[x], ats⟩, ty, pos, after, none⟩ : Oper))
    (h : AR P fn.ntmps (ops.toList.map (·.dst)) ops.toList.dropLast st (fun st1 => dok fn.ntmps dst = true ∧ ∃ i off, i < nb ∧ evA (lk st1.tm) x = .v (.c (.ptr i off)) ∧ AW P fn.ntmps nb B (st1.put dst (.tup [])) (FinD P fn.ntmps nb g i off fn.results.toList res ch'))) :
    AWD P fn nb res ch' (.seq (.region id ops false) B) st := fun γ0 S0 w0 u1 u2 a w hr => by
  refine wp_seq (wp_region_list ?_)
  have e : ops.toList = ops.toList.dropLast ++ [(⟨dst, .defer ⟨.value (.func g), #[x], ats⟩, ty, pos, after, none⟩ : Oper)] := by
    obtain ⟨ys, hys⟩ := List.getLast?_eq_some_iff.1 hl
    rw [hys, List.dropLast_concat]
  rw [e]
  refine ar_tail (X := ⟨w0, S0, γ0, []⟩) (N := fn.ntmps) ops _ (fun st1 a1 w1 hk hr1 => ?_) _ st a w hr h
  obtain ⟨hd, i, off, hi, hx, hB⟩ := hk
  obtain ⟨d1, d2, γ1, S1, m1, a1r⟩ := hr1
  have hu : RepV γ1 S1 w1 (a1.eval x) (.v (.c (.ptr i off))) := by rw [← hx]; exact evA_rep a1r x
  unfold wpList
  rw [if_pos (by simp [Region.wanted])]
  refine .inl ?_
  unfold Oper.wp
  have hex : (execOp a1.eval ⟨dst, .defer ⟨.value (.func g), #[x], ats⟩, ty, pos, after, none⟩).run P w1 = .ok (.defer { target := .fn (.func g) #[], args := #[a1.eval x] }) w1 := by
    simp [execOp, resolve, Deferred.ofValue, Act.eval]
  rw [hex, Oper.upon_defer]
  unfold wpList
  obtain ⟨X, hX⟩ : ∃ X : Ctx, X = ⟨w0, S0, γ0, [{ target := .fn (.func g) #[], args := #[a1.eval x] }]⟩ := ⟨_, rfl⟩
  have hrel0 : Rel X fn.ntmps st1 { a1 with defers := { target := .fn (.func g) #[], args := #[a1.eval x] } :: a1.defers } w1 := by
    subst hX
    exact ⟨by show _ :: a1.defers = _; rw [d1], d2, γ1, S1, m1.re, a1r⟩
  have hcx : CtxB nb X := by subst hX; exact u1
  refine hB X hcx _ w1 (hrel0.put hd) _ (fun e st' a' w' hq hr' => ?_)
  obtain ⟨he, cargs, ch0, res0, ch0', σ, hD, hfit, hcov, hnd, hl1, hl2, ⟨ob, hob⟩, hfin⟩ := hq
  obtain ⟨q1, q2, γ2, S2, m2, a2r⟩ := hr'
  have hu2 : RepV γ2 S2 w' (a1.eval x) (.v (.c (.ptr i off))) := ptr_keeps (u2 i hi).1 m1.mono (by have := m2.mono; subst hX; exact this) (m2.obj i ob hob).live.2 hu
  obtain ⟨c1, c2⟩ := covO_at hcov
  rw [List.length_map] at c1
  have key := call_soundC (C := fun vs w R => CallsD P g vs .returning w (fun e u w' => u = .returning ∧ R e w')) (fun h hr => h.mono (fun e u w' hh => ⟨hh.1, hr e w' hh.2⟩)) hD.spec m2 σ (fun i j hi hj e => nodup_getD hnd i j (by omega) (by omega) e) (fun i o ho => by
    have := (c2 i (some o) (by rw [List.getElem?_map, ho]; rfl)).1 o rfl
    exact this) (vs := [a1.eval x]) (args := [.v (.c (.ptr i off))]) ⟨hu2, trivial⟩ hfit st'.nx (fun x h _ => h) hl1 hl2
  have hlv : Leaves P fn a'.tmps (Post γ0 S0 w0 res ch') a'.defers .returning w' := by
    have q1' : a'.defers = [{ target := .fn (.func g) #[], args := #[a1.eval x] }] := by rw [q1, hX]
    rw [q1']
    refine leaves_cons (by simp) (f := g) (args := #[a1.eval x]) ?_ (key.mono ?_)
    · simp only [invoke]
      rw [run_callFunc hD.ent]
      rfl
    · rintro e2 u w2 ⟨rfl, v, γ3, S3, rfl, k1, k2, k3, k4, k5⟩
      obtain ⟨y, r, g1, g2, g3, g4, g5, g6⟩ := hfin
      have e1 : (st'.wr (wrs (nmap σ ch0.length st'.nx) 0 ch0') 8).hp = (wrs (nmap σ ch0.length st'.nx) 0 ch0').foldl (fun h p => p :: h) st'.hp := rfl
      have m3 : Mem X (hlk (st'.wr (wrs (nmap σ ch0.length st'.nx) 0 ch0') 8).hp) (fun x => st'.nx + 8 ≤ x) γ3 S3 w2 := by
        rw [e1, hlk_wr]
        exact k1.less (fun x hx => ⟨Nat.le_trans (Nat.le_add_right _ _) hx, fun hh => by have := hh.2; omega⟩)
      obtain ⟨z, j1, j2⟩ := resV_sound (st := st'.wr (wrs (nmap σ ch0.length st'.nx) 0 ch0') 8) m3 (tmps := a'.tmps) (fun t => (a2r t).mono k2 k3 k4) g1
      obtain ⟨γ4, hg, m4⟩ := m3.cov (nb := nb) hcx g3 g4 g5 g6
      subst hX
      exact ⟨z, j1, z, γ4, S3, rfl, m4.re, fitV_rep (ρ := fun i => r.getD i 0) hg g2 j2⟩
  rcases he with rfl | rfl
  · exact hlv
  · exact hlv
end Go.Proofs.Ytcjagcfjpfjanaa.am
end
section
namespace Go.Proofs.Ytcjagcfjpfjanaa.am
open Go.ChangeShapes Go.WideShapes Go.ChangeAt Go.RowKit
open vt
set_option linter.unusedVariables false
set_option linter.unusedSimpArgs false
theorem td_wri36 : td Try.prog 58 = some ⟨true, 4, 48, [.lit (.int .i64 0), .lit (.int .i64 0), .nilS, .lit (.int .i64 0)], [(0, 2, true), (2, 1, false), (3, 1, false)], .struct⟩ := Eq.trans (by kernel_rfl) (Eq.refl _)
theorem td_pwri36 : td Try.prog 54 = some ⟨false, 1, 8, [.lit (.pointer none)], [], (.pointer 58)⟩ := Eq.trans (by kernel_rfl) (Eq.refl _)
theorem td_lev36 : td Try.prog 56 = some ⟨true, 2, 16, [.lit (.int .i64 0), .lit (.int .i64 0)], [(0, 1, false), (1, 1, false)], .struct⟩ := Eq.trans (by kernel_rfl) (Eq.refl _)
theorem td_u836 : td Try.prog 5 = some ⟨false, 1, 1, [.lit (.int .u8 0)], [], (.int .u8)⟩ := Eq.trans (by kernel_rfl) (Eq.refl _)
theorem td_u8s36 : td Try.prog 22 = some ⟨false, 1, 24, [.nilS], [], (.slice 5)⟩ := Eq.trans (by kernel_rfl) (Eq.refl _)
theorem td_u6436 : td Try.prog 62 = some ⟨false, 1, 8, [.lit (.int .u64 0)], [], (.int .u64)⟩ := Eq.trans (by kernel_rfl) (Eq.refl _)
theorem td_pint36 : td Try.prog 86 = some ⟨false, 1, 8, [.lit (.pointer none)], [], (.pointer 3)⟩ := Eq.trans (by kernel_rfl) (Eq.refl _)
theorem td_errno36 : td Try.prog 28 = some ⟨false, 1, 8, [.lit (.int .i64 0)], [], (.int .i64)⟩ := Eq.trans (by kernel_rfl) (Eq.refl _)
attribute [simp] td_wri36 td_pwri36 td_lev36 td_u836 td_u8s36 td_u6436 td_pint36 td_errno36
abbrev bxC (i : Nat) (tr dv : Int) (B : List Int) (e : Int) : AO := .box [.pv (I tr), .pv (I dv), .row i 1 (iC B), .pv (I e)]
abbrev rwC : AO := .row 5 1
abbrev vW0 : AV := .v (.c (.ptr 0 0))
theorem wfail_row (tr dv : Int) (B : List Int) (e e' : Int) : Row Try.prog 45 [vW0, vI e'] [bxC 1 tr dv B e, rwC] (.tup []) [some (bxC 1 tr dv B (if e = 0 then e' else e)), some rwC] := by
  by_cases h : e = 0
  · subst h
    refine row_of Try.func45 rfl rfl (Nat.le_of_ble_eq_true rfl) ?_
    repeat (first | refine aw_seq ?_ | refine aw_skip ?_ | refine aw_block ?_ | refine aw_exit ?_ | refine aw_ct rfl ?_ | refine aw_cf rfl ?_ | ((first | refine aw_reg (fun K hK => ?_) | refine aw_drw mixd (fun K hK => ?_) | fail); simp -implicitDefEqProofs; first | refine hK _ ?_ | refine hK _ _ (by rfl) ?_ | fail) | fail)
    refine fin_fall (fin_g [0, 1] ?_); simp -implicitDefEqProofs [FinG, resV, resT] <;> try rfl
  · refine row_of Try.func45 rfl rfl (Nat.le_of_ble_eq_true rfl) ?_
    repeat (first | refine aw_seq ?_ | refine aw_skip ?_ | refine aw_block ?_ | refine aw_exit ?_ | refine aw_ct rfl ?_ | refine aw_cf rfl ?_ | ((first | refine aw_reg (fun K hK => ?_) | refine aw_drw mixd (fun K hK => ?_) | fail); simp -implicitDefEqProofs [h]; first | refine hK _ ?_ | refine hK _ _ (by rfl) ?_ | fail) | fail)
    refine fin_fall (fin_g [0, 1] ?_); simp -implicitDefEqProofs [FinG, resV, resT, h] <;> try rfl
theorem leave_rowD (tr dv : Int) (B : List Int) (e : Int) (h0 : -9223372036854775808 ≤ tr - 1) (h1 : tr ≤ 9223372036854775807) : RowD Try.prog 41 [vW0] [bxC 1 tr dv B e, rwC] (.tup []) [some (bxC 1 (tr - 1) dv B e), some rwC] := by
  have w1 : IntKind.i64.wrap (tr - 1) = tr - 1 := i64i _ h0 (by omega)
  refine rowD_of Try.func41 rfl rfl (Nat.le_of_ble_eq_true rfl) ?_
  repeat (first | refine aw_seq ?_ | refine aw_skip ?_ | refine aw_block ?_ | refine aw_exit ?_ | refine aw_ct rfl ?_ | refine aw_cf rfl ?_ | ((first | refine aw_reg (fun K hK => ?_) | refine aw_drw mixd (fun K hK => ?_) | fail); simp -implicitDefEqProofs [w1]; first | refine hK _ ?_ | refine hK _ _ (by rfl) ?_ | fail) | fail)
  refine fin_fall (fin_g [0, 1] ?_); simp -implicitDefEqProofs [FinG, resV, resT] <;> try rfl
theorem wenter_row (tr dv : Int) (B : List Int) (e : Int) (h0 : 0 ≤ tr) (h1 : tr ≤ 1000000) : Row Try.prog 42 [vW0, vW0] [bxC 1 tr dv B e, rwC] (vB (decide ((if 64 ≤ tr ∧ e = 0 then 7 else e) = 0))) [some (bxC 1 (tr + 1) dv B (if 64 ≤ tr ∧ e = 0 then 7 else e)), some rwC] := by
  have w1 : IntKind.i64.wrap (tr + 1) = tr + 1 := i64i _ (by omega) (by omega)
  have hf := wfail_row tr dv B e 7
  by_cases h : 64 ≤ tr
  · by_cases he : e = 0
    · subst he
      rw [if_pos rfl] at hf
      rw [if_pos ⟨h, rfl⟩]
      refine row_of Try.func42 rfl rfl (Nat.le_of_ble_eq_true rfl) ?_
      repeat' (first | refine aw_seq ?_ | refine aw_skip ?_ | refine aw_block ?_ | refine aw_exit ?_ | refine aw_ct rfl ?_ | refine aw_cf rfl ?_ | ((first | refine aw_reg (fun K hK => ?_) | refine aw_drw mixd (fun K hK => ?_) | refine ar_call (cg hf [0,1] ?_) | refine ard_call (dg hf [0,1] ?_) | fail); simp -implicitDefEqProofs [h, w1]) | refine hK _ ?_ | refine hK _ _ (by rfl) ?_ | fail)
      refine aw_ret (fin_g [0, 1] ?_); simp -implicitDefEqProofs [FinG, resV, resT] <;> try rfl
    · rw [if_neg he] at hf
      rw [if_neg (fun k => he k.2)]
      refine row_of Try.func42 rfl rfl (Nat.le_of_ble_eq_true rfl) ?_
      repeat' (first | refine aw_seq ?_ | refine aw_skip ?_ | refine aw_block ?_ | refine aw_exit ?_ | refine aw_ct rfl ?_ | refine aw_cf rfl ?_ | ((first | refine aw_reg (fun K hK => ?_) | refine aw_drw mixd (fun K hK => ?_) | refine ar_call (cg hf [0,1] ?_) | refine ard_call (dg hf [0,1] ?_) | fail); simp -implicitDefEqProofs [h, w1, he]) | refine hK _ ?_ | refine hK _ _ (by rfl) ?_ | fail)
      refine aw_ret (fin_g [0, 1] ?_); simp -implicitDefEqProofs [FinG, resV, resT, he] <;> try rfl
  · rw [if_neg (fun k => h k.1)]
    by_cases he : e = 0
    · subst he
      refine row_of Try.func42 rfl rfl (Nat.le_of_ble_eq_true rfl) ?_
      repeat (first | refine aw_seq ?_ | refine aw_skip ?_ | refine aw_block ?_ | refine aw_exit ?_ | refine aw_ct rfl ?_ | refine aw_cf rfl ?_ | ((first | refine aw_reg (fun K hK => ?_) | refine aw_drw mixd (fun K hK => ?_) | fail); simp -implicitDefEqProofs [h, w1]; first | refine hK _ ?_ | refine hK _ _ (by rfl) ?_ | fail) | fail)
      refine aw_ret (fin_g [0, 1] ?_); simp -implicitDefEqProofs [FinG, resV, resT] <;> try rfl
    · refine row_of Try.func42 rfl rfl (Nat.le_of_ble_eq_true rfl) ?_
      repeat (first | refine aw_seq ?_ | refine aw_skip ?_ | refine aw_block ?_ | refine aw_exit ?_ | refine aw_ct rfl ?_ | refine aw_cf rfl ?_ | ((first | refine aw_reg (fun K hK => ?_) | refine aw_drw mixd (fun K hK => ?_) | fail); simp -implicitDefEqProofs [h, w1, he]; first | refine hK _ ?_ | refine hK _ _ (by rfl) ?_ | fail) | fail)
      refine aw_ret (fin_g [0, 1] ?_); simp -implicitDefEqProofs [FinG, resV, resT, he] <;> try rfl
theorem wbyte_row (tr dv : Int) (B : List Int) (e : Int) (z : Int) (hB : B.length + 1 ≤ 140737488355328) : Row Try.prog 68 [vW0, .v (.c (.pv (.lit (.int .u8 z))))] [bxC 1 tr dv B e, rwC] (.tup []) [some (bxC 2 tr dv (B ++ [z]) e), none, some rwC] := by
  have hl : (iC B).length + 1 ≤ 140737488355328 := by rw [iC_len]; exact hB
  have ha : iC (B ++ [z]) = iC B ++ [[PV.lit (.int .u8 z)]] := by rw [← iC_app]; rfl
  refine row_of Try.func68 rfl rfl (Nat.le_of_ble_eq_true rfl) ?_
  repeat (first | refine aw_seq ?_ | refine aw_skip ?_ | refine aw_block ?_ | refine aw_exit ?_ | refine aw_ct rfl ?_ | refine aw_cf rfl ?_ | ((first | refine aw_reg (fun K hK => ?_) | refine aw_drw mixd (fun K hK => ?_) | fail); simp -implicitDefEqProofs [hl]; first | refine hK _ ?_ | refine hK _ _ (by rfl) ?_ | fail) | fail)
  refine fin_fall (fin_g [0, 1, 9] ?_); simp -implicitDefEqProofs [FinG, resV, resT, ha] <;> try rfl
theorem wnumber_row (tr dv : Int) (B : List Int) (e : Int) (v : Int) (h0 : 0 ≤ v) (h1 : v ≤ 18446744073709551615) (hB : B.length + 10 ≤ 140737488355328) : Row Try.prog 46 [vW0, vN v] [bxC 1 tr dv B e, rwC] (.tup []) [some (bxC 2 tr dv (B ++ vs.enc v) e), none, some rwC] := by
  have hl : (iC B).length + (iC (vs.enc v)).length ≤ 140737488355328 := by rw [iC_len, iC_len]; have := (enc_ln v).2; omega
  have hb := pbytes_row v h0 h1
  have ha := (iC_app B (vs.enc v)).symm
  refine row_of Try.func46 rfl rfl (Nat.le_of_ble_eq_true rfl) ?_
  repeat' (first | refine aw_seq ?_ | refine aw_skip ?_ | refine aw_block ?_ | refine aw_exit ?_ | refine aw_ct rfl ?_ | refine aw_cf rfl ?_ | ((first | refine aw_reg (fun K hK => ?_) | refine aw_drw mixd (fun K hK => ?_) | refine ar_call (cp hb ?_) | refine ard_call (dp hb ?_) | fail); simp -implicitDefEqProofs [hl]) | refine hK _ ?_ | refine hK _ _ (by rfl) ?_ | fail)
  refine fin_fall (fin_g [0, 1, 58] ?_); simp -implicitDefEqProofs [FinG, resV, resT, ha] <;> try rfl
theorem isterm_row (k : Int) : Row Try.prog 44 [vI k] [] (vB (decide (1 ≤ k ∧ k ≤ 36))) [] := by
  by_cases h1 : 1 ≤ k
  · by_cases h2 : k ≤ 36
    · refine row_of Try.func44 rfl rfl (Nat.le_of_ble_eq_true rfl) ?_
      repeat (first | refine aw_seq ?_ | refine aw_skip ?_ | refine aw_block ?_ | refine aw_exit ?_ | refine aw_ct rfl ?_ | refine aw_cf rfl ?_ | ((first | refine aw_reg (fun K hK => ?_) | refine aw_drw mixd (fun K hK => ?_) | fail); simp -implicitDefEqProofs [h1, h2]; first | refine hK _ ?_ | refine hK _ _ (by rfl) ?_ | fail) | fail)
      refine aw_ret (fin_ret ?_); simp -implicitDefEqProofs [FinP, resV, resT, h1, h2] <;> try rfl
    · refine row_of Try.func44 rfl rfl (Nat.le_of_ble_eq_true rfl) ?_
      repeat (first | refine aw_seq ?_ | refine aw_skip ?_ | refine aw_block ?_ | refine aw_exit ?_ | refine aw_ct rfl ?_ | refine aw_cf rfl ?_ | ((first | refine aw_reg (fun K hK => ?_) | refine aw_drw mixd (fun K hK => ?_) | fail); simp -implicitDefEqProofs [h1, h2]; first | refine hK _ ?_ | refine hK _ _ (by rfl) ?_ | fail) | fail)
      refine aw_ret (fin_ret ?_); simp -implicitDefEqProofs [FinP, resV, resT, h1, h2] <;> try rfl
  · refine row_of Try.func44 rfl rfl (Nat.le_of_ble_eq_true rfl) ?_
    repeat (first | refine aw_seq ?_ | refine aw_skip ?_ | refine aw_block ?_ | refine aw_exit ?_ | refine aw_ct rfl ?_ | refine aw_cf rfl ?_ | ((first | refine aw_reg (fun K hK => ?_) | refine aw_drw mixd (fun K hK => ?_) | fail); simp -implicitDefEqProofs [h1]; first | refine hK _ ?_ | refine hK _ _ (by rfl) ?_ | fail) | fail)
    refine aw_ret (fin_ret ?_); simp -implicitDefEqProofs [FinP, resV, resT, h1] <;> try rfl
theorem wkind_yes (tr dv : Int) (B : List Int) (e : Int) (k : Int) (h1 : 1 ≤ k) (h2 : k ≤ 36) (hB : B.length + 1 ≤ 140737488355328) : Row Try.prog 43 [vW0, vI k, vB true] [bxC 1 tr dv B e, rwC] (.tup []) [some (bxC 2 tr dv (B ++ [k]) e), none, some rwC] := by
  have hb := wbyte_row tr dv B e k hB
  have w1 : IntKind.u8.wrap k = k := vs.u8_in k (by omega) (by omega)
  refine row_of Try.func43 rfl rfl (Nat.le_of_ble_eq_true rfl) ?_
  repeat' (first | refine aw_seq ?_ | refine aw_skip ?_ | refine aw_block ?_ | refine aw_exit ?_ | refine aw_ct rfl ?_ | refine aw_cf rfl ?_ | ((first | refine aw_reg (fun K hK => ?_) | refine aw_drw mixd (fun K hK => ?_) | refine ar_call (cg hb [0,1] ?_) | refine ard_call (dg hb [0,1] ?_) | fail); simp -implicitDefEqProofs [w1]) | refine hK _ ?_ | refine hK _ _ (by rfl) ?_ | fail)
  refine fin_fall (fin_g [0, 1, 7] ?_); simp -implicitDefEqProofs [FinG, resV, resT] <;> try rfl
theorem wkind_no (tr dv : Int) (B : List Int) (e : Int) (k : Int) : Row Try.prog 43 [vW0, vI k, vB false] [bxC 1 tr dv B e, rwC] (.tup []) [some (bxC 1 tr dv B (if e = 0 then 23 else e)), some rwC] := by
  have hf := wfail_row tr dv B e 23
  obtain ⟨g, hg⟩ : ∃ g, (if e = 0 then (23 : Int) else e) = g := ⟨_, rfl⟩
  rw [hg] at hf ⊢
  refine row_of Try.func43 rfl rfl (Nat.le_of_ble_eq_true rfl) ?_
  repeat' (first | refine aw_seq ?_ | refine aw_skip ?_ | refine aw_block ?_ | refine aw_exit ?_ | refine aw_ct rfl ?_ | refine aw_cf rfl ?_ | ((first | refine aw_reg (fun K hK => ?_) | refine aw_drw mixd (fun K hK => ?_) | refine ar_call (cg hf [0,1] ?_) | refine ard_call (dg hf [0,1] ?_) | fail); simp -implicitDefEqProofs) | refine hK _ ?_ | refine hK _ _ (by rfl) ?_ | fail)
  refine aw_ret (fin_g [0, 1] ?_); simp -implicitDefEqProofs [FinG, resV, resT] <;> try rfl
abbrev fnW : AV := .v (.c (.fn (.func 23) [.ptr 0 0] []))
def WrOk (dv : Int) (y : VT) (tr : Int) : Prop := ∀ B : List Int, B.length + 21 * y.size ≤ 100000000 → Row Try.prog 23 [vW0, vT y] [bxC 1 tr dv B 0, rwC] (.tup []) [some (bxC 2 tr dv (B ++ wrT y tr) (erT y (tr + 1))), none, some rwC]
theorem size_cut (l : List VT) (k : Nat) : ((l.take k).map Tr.size).sum + ((l.drop k).map Tr.size).sum = (l.map Tr.size).sum := by
  rw [← List.sum_append, ← List.map_append, List.take_append_drop]
theorem wall_row (tr dv : Int) (B : List Int) (e : Int) (l : List VT) (hl : l.length ≤ 1000000) (hok : ∀ y ∈ l, WrOk dv y tr) (hB : B.length + 10 + 21 * (l.map Tr.size).sum ≤ 100000000) : Row Try.prog 48 [vW0, vLs l, fnW] [bxC 1 tr dv B e, rwC] (.tup []) [some (bxC 2 tr dv (B ++ (vs.enc (l.length : Nat) ++ (if e = 0 then seqW (l.map fun y => (wrT y tr, erT y (tr + 1))) else []))) (if e = 0 then fstE (l.map fun y => erT y (tr + 1)) else e)), none, some rwC] := by
  have hn := wnumber_row tr dv B e (l.length : Nat) (by omega) (by omega) (by omega)
  have w0 : IntKind.u64.wrap (l.length : Int) = (l.length : Nat) := by rw [vs.u64_wrap]; omega
  obtain ⟨A, hA⟩ : ∃ A, B ++ vs.enc (l.length : Nat) = A := ⟨_, rfl⟩
  have hAl : A.length ≤ B.length + 10 := by rw [← hA, List.length_append]; have := (enc_ln (l.length : Nat)).2; omega
  rw [← List.append_assoc, hA]
  rw [hA] at hn
  by_cases he : e = 0; rotate_left
  · rw [if_neg he, if_neg he, List.append_nil]
    refine row_of Try.func48 rfl rfl (Nat.le_of_ble_eq_true rfl) ?_
    repeat' (first | refine aw_seq ?_ | refine aw_skip ?_ | refine aw_block ?_ | refine aw_exit ?_ | refine aw_ct rfl ?_ | refine aw_cf rfl ?_ | ((first | refine aw_reg (fun K hK => ?_) | refine aw_drw mixd (fun K hK => ?_) | refine ar_call (cg hn [0,1] ?_) | refine ard_call (dg hn [0,1] ?_) | fail); simp -implicitDefEqProofs [w0]) | refine hK _ ?_ | refine hK _ _ (by rfl) ?_ | fail)
    refine aw_lp (ι := Nat) (fun k => mkSt [(0, vW0), (13, vLs l), (14, vI (l.length : Nat)), (15, vI (k : Nat))] [some (bxC 2 tr dv A e), none, some rwC]) (fun k => k ≤ l.length) (fun k => l.length - k) 0 (Nat.zero_le _) (cov_intro [0, 1, 6] (by simp -implicitDefEqProofs) (by simp -implicitDefEqProofs) (by decide) rfl (by simp)) (fun Z hI k hk => ?_)
    by_cases hkl : k < l.length; rotate_left
    · have : k = l.length := by omega
      subst this
      repeat (first | refine aw_seq ?_ | refine aw_skip ?_ | refine aw_block ?_ | refine aw_exit ?_ | refine aw_ct rfl ?_ | refine aw_cf rfl ?_ | ((first | refine aw_reg (fun K hK => ?_) | refine aw_drw mixd (fun K hK => ?_) | fail); simp -implicitDefEqProofs; first | refine hK _ ?_ | refine hK _ _ (by rfl) ?_ | fail) | fail)
      refine fin_fall (fin_g [0, 1, 2] ?_); simp -implicitDefEqProofs [FinG, resV, resT] <;> try rfl
    obtain ⟨⟨ax, al⟩, ha⟩ : ∃ a, l[k]? = some a := ⟨_, List.getElem?_eq_getElem hkl⟩
    have ha' := (List.getElem?_eq_some_iff.1 ha).2
    have w2 : IntKind.i64.wrap ((k : Nat) + 1 : Int) = (k : Nat) + 1 := i64i _ (by omega) (by omega)
    repeat (first | refine aw_seq ?_ | refine aw_skip ?_ | refine aw_block ?_ | refine aw_exit ?_ | refine aw_ct rfl ?_ | refine aw_cf rfl ?_ | ((first | refine aw_reg (fun K hK => ?_) | refine aw_drw mixd (fun K hK => ?_) | fail); simp -implicitDefEqProofs [hkl, ha, ha', w2, he]; first | refine hK _ ?_ | refine hK _ _ (by rfl) ?_ | fail) | fail)
    refine ⟨k + 1, by omega, (by dsimp only; omega), ?_⟩
    rw [hI]; exact cov_intro [0, 1, 2] (by simp -implicitDefEqProofs) (by simp -implicitDefEqProofs) (by decide) rfl (by simp)
  subst he
  rw [if_pos rfl, if_pos rfl]
  have hlen : ∀ k, k ≤ l.length → (seqW ((l.take k).map fun y => (wrT y tr, erT y (tr + 1)))).length ≤ 21 * ((l.take k).map Tr.size).sum := fun k hk => by
    have h3 := seq_len ((l.take k).map fun y => (wrT y tr, erT y (tr + 1))) ((l.take k).map fun y => 21 * y.size) (by simp) (fun i p n hp hn => by
      rw [List.getElem?_map] at hp hn
      obtain ⟨y, hy, rfl⟩ := Option.map_eq_some_iff.1 hp
      rw [hy] at hn
      obtain rfl := Option.some.inj hn
      exact wr_len y tr)
    have h4 : ∀ L : List VT, (L.map fun y => 21 * y.size).sum = 21 * (L.map Tr.size).sum := fun L => by
      induction L with
      | nil => rfl
      | cons y L ih => simp only [List.map_cons, List.sum_cons, ih]; omega
    rw [h4] at h3
    exact h3
  have s0 : A ++ seqW ((l.take 0).map fun y => (wrT y tr, erT y (tr + 1))) = A := by rw [List.take_zero]; exact List.append_nil A
  have f0 : fstE ((l.take 0).map fun y => erT y (tr + 1)) = 0 := rfl
  refine row_of Try.func48 rfl rfl (Nat.le_of_ble_eq_true rfl) ?_
  repeat' (first | refine aw_seq ?_ | refine aw_skip ?_ | refine aw_block ?_ | refine aw_exit ?_ | refine aw_ct rfl ?_ | refine aw_cf rfl ?_ | ((first | refine aw_reg (fun K hK => ?_) | refine aw_drw mixd (fun K hK => ?_) | refine ar_call (cg hn [0,1] ?_) | refine ard_call (dg hn [0,1] ?_) | fail); simp -implicitDefEqProofs [w0]) | refine hK _ ?_ | refine hK _ _ (by rfl) ?_ | fail)
  refine aw_lp (ι := Nat) (fun k => mkSt [(0, vW0), (2, fnW), (13, vLs l), (14, vI (l.length : Nat)), (15, vI (k : Nat))] [some (bxC 2 tr dv (A ++ seqW ((l.take k).map fun y => (wrT y tr, erT y (tr + 1)))) (fstE ((l.take k).map fun y => erT y (tr + 1)))), none, some rwC]) (fun k => k ≤ l.length) (fun k => l.length - k) 0 (Nat.zero_le _) (by rw [s0, f0]; exact cov_intro [0, 1, 6] (by simp -implicitDefEqProofs) (by simp -implicitDefEqProofs) (by decide) rfl (by simp)) (fun Z hI k hk => ?_)
  clear s0 f0 hn
  by_cases hkl : k < l.length; rotate_left
  · have : k = l.length := by omega
    subst this
    rw [List.take_length]
    obtain ⟨X, hX⟩ : ∃ X, A ++ seqW (l.map fun y => (wrT y tr, erT y (tr + 1))) = X := ⟨_, rfl⟩
    obtain ⟨g, hg⟩ : ∃ g, fstE (l.map fun y => erT y (tr + 1)) = g := ⟨_, rfl⟩
    rw [hX, hg]
    repeat (first | refine aw_seq ?_ | refine aw_skip ?_ | refine aw_block ?_ | refine aw_exit ?_ | refine aw_ct rfl ?_ | refine aw_cf rfl ?_ | ((first | refine aw_reg (fun K hK => ?_) | refine aw_drw mixd (fun K hK => ?_) | fail); simp -implicitDefEqProofs; first | refine hK _ ?_ | refine hK _ _ (by rfl) ?_ | fail) | fail)
    refine fin_fall (fin_g [0, 1, 2] ?_); simp -implicitDefEqProofs [FinG, resV, resT] <;> try rfl
  obtain ⟨a, ha⟩ : ∃ a, l[k]? = some a := ⟨_, List.getElem?_eq_getElem hkl⟩
  have ha' := (List.getElem?_eq_some_iff.1 ha).2
  have w2 : IntKind.i64.wrap ((k : Nat) + 1 : Int) = (k : Nat) + 1 := i64i _ (by omega) (by omega)
  have htk : ∀ {β : Type} (f : VT → β), (l.take (k + 1)).map f = (l.take k).map f ++ [f a] := fun f => by rw [List.take_add_one, ha]; simp
  have hs1 := seq_snoc (wrT a tr, erT a (tr + 1)) ((l.take k).map fun y => (wrT y tr, erT y (tr + 1)))
  rw [← htk (fun y => (wrT y tr, erT y (tr + 1))), List.map_map] at hs1
  have hs2 := fst_snoc (erT a (tr + 1)) ((l.take k).map fun y => erT y (tr + 1))
  rw [← htk (fun y => erT y (tr + 1))] at hs2
  have hcmp : ((fun x : List Int × Int => x.2) ∘ fun y : VT => (wrT y tr, erT y (tr + 1))) = fun y => erT y (tr + 1) := rfl
  rw [hcmp] at hs1
  have hlk := hlen k hk
  have hcut := size_cut l k
  have hd : l.drop k = a :: l.drop (k + 1) := by rw [List.drop_eq_getElem_cons hkl, ha']
  rw [hd, List.map_cons, List.sum_cons] at hcut
  obtain ⟨W, hW⟩ : ∃ W, seqW ((l.take k).map fun y => (wrT y tr, erT y (tr + 1))) = W := ⟨_, rfl⟩
  obtain ⟨g, hg⟩ : ∃ g, fstE ((l.take k).map fun y => erT y (tr + 1)) = g := ⟨_, rfl⟩
  rw [hW, hg] at hs1
  rw [hg] at hs2
  rw [hW] at hlk ⊢
  rw [hg]
  have hrow := hok a (List.mem_of_getElem? ha) (A ++ W) (by rw [List.length_append]; omega)
  rw [List.append_assoc] at hrow
  obtain ⟨ax, al⟩ := a
  clear hok hlen htk hcut
  by_cases hg0 : g = 0
  · subst hg0
    rw [if_pos rfl] at hs1 hs2
    obtain ⟨V, hV⟩ : ∃ V, W ++ wrT (.mk ax al) tr = V := ⟨_, rfl⟩
    rw [hV] at hs1 hrow
    obtain ⟨q, hq⟩ : ∃ q, erT (.mk ax al) (tr + 1) = q := ⟨_, rfl⟩
    rw [hq] at hs2 hrow
    repeat' (first | refine aw_seq ?_ | refine aw_skip ?_ | refine aw_block ?_ | refine aw_exit ?_ | refine aw_ct rfl ?_ | refine aw_cf rfl ?_ | ((first | refine aw_reg (fun K hK => ?_) | refine aw_drw mixd (fun K hK => ?_) | refine ar_call (cg hrow [0,2] ?_) | refine ard_call (dg hrow [0,2] ?_) | fail); simp -implicitDefEqProofs [hkl, ha, ha', w2]) | refine hK _ ?_ | refine hK _ _ (by rfl) ?_ | fail)
    refine ⟨k + 1, by omega, (by dsimp only; omega), ?_⟩
    rw [hI, hs1, hs2]; exact cov_intro [0, 1, 15] (by simp -implicitDefEqProofs) (by simp -implicitDefEqProofs) (by decide) rfl (by simp)
  · rw [if_neg hg0] at hs1 hs2
    repeat (first | refine aw_seq ?_ | refine aw_skip ?_ | refine aw_block ?_ | refine aw_exit ?_ | refine aw_ct rfl ?_ | refine aw_cf rfl ?_ | ((first | refine aw_reg (fun K hK => ?_) | refine aw_drw mixd (fun K hK => ?_) | fail); simp -implicitDefEqProofs [hkl, ha, ha', w2, hg0]; first | refine hK _ ?_ | refine hK _ _ (by rfl) ?_ | fail) | fail)
    refine ⟨k + 1, by omega, (by dsimp only; omega), ?_⟩
    rw [hI, hs1, hs2]; exact cov_intro [0, 1, 2] (by simp -implicitDefEqProofs) (by simp -implicitDefEqProofs) (by decide) rfl (by simp)
end Go.Proofs.Ytcjagcfjpfjanaa.am
end
section
namespace Go.Proofs.Ytcjagcfjpfjanaa.am
open Go.ChangeShapes Go.WideShapes Go.ChangeAt Go.RowKit
set_option linter.unusedVariables false
set_option linter.unusedSimpArgs false
variable {P : Program} {N nb : Nat} {st : St} {Q : Exit → St → Prop}
end Go.Proofs.Ytcjagcfjpfjanaa.am
end
section
namespace Go.Proofs.Ytcjagcfjpfjanaa.am
open Go.ChangeShapes Go.WideShapes Go.ChangeAt Go.RowKit
set_option linter.unusedVariables false
variable {P : Program} {N nb : Nat} {st : St} {Q : Exit → St → Prop}
def St.mvr (st : St) (id bx j : Nat) (cells : List AC) (e : TypeId) (es es' : Nat) (l : List (List PV)) : St := ⟨st.tm, (bx, some (.box (cells.set j (.row st.nx es l)))) :: (st.nx, some (.row e es')) :: (id, none) :: st.hp, st.nx + 1⟩
theorem aw_mvr {c : Code} (id bx j : Nat) (cells : List AC) (e : TypeId) (es es' : Nat) (l : List (List PV)) (hid : hlk st.hp id = some (.row e es')) (hbx : hlk st.hp bx = some (.box cells)) (hj : cells[j]? = some (.row id es l)) (hl1 : id < st.nx) (hl2 : bx < st.nx) (h : AW P N nb c (st.mvr id bx j cells e es es' l) Q) : AW P N nb c st Q := by
  refine aw_cov (fun X hX a w hr => ?_) h
  obtain ⟨h1, h2, γ, S, hm, ha⟩ := hr
  obtain ⟨v, n, xs, g1, g2, g3⟩ := hm.obj _ _ hid
  obtain ⟨m, hG⟩ := hm.app (nm := st.nx) (Nat.le_refl _) g1 rfl (w' := w) rfl rfl rfl rfl (fun _ _ => rfl) (fun _ _ _ => rfl) (fun _ => False) (.row e es')
    ⟨v, n, xs, upd_same _ _ _, g2, fun b hb o ho hs => g3 b hb o ho (hs.elim (fun h => h) (fun h => h.2.elim))⟩
  refine ⟨h1, h2, upd (upd γ id .dead) st.nx (.val v), (fun b k => S b k ∨ (v.ownBlock = some b ∧ False)), ?_, fun s => (ha s).mono hG (fun _ _ h => Or.inl h) (fun _ _ _ => rfl)⟩
  show Mem X (hlk ((bx, some (.box (cells.set j (.row st.nx es l)))) :: (st.nx, some (.row e es')) :: (id, none) :: st.hp)) _ _ _ _
  rw [hlk_cons, hlk_cons, hlk_cons]
  have hne : bx ≠ st.nx := by omega
  have hbi : bx ≠ id := fun e => by rw [e, hid] at hbx; cases hbx
  have hbx' : upd (upd (hlk st.hp) id none) st.nx (some (.row e es')) bx = some (.box cells) := by rw [upd_ne _ _ hne, upd_ne _ _ hbi]; exact hbx
  obtain ⟨b0, cs0, t0, q1, q2, q3, q4⟩ := hm.obj _ _ hbx
  refine { m with un := fun x hx => m.un x ⟨by have : st.nx + 1 ≤ x := hx
                                               show st.nx ≤ x
                                               omega, by have : st.nx + 1 ≤ x := hx
                                                         omega⟩, off := fun x hx => ?_, obj := fun x o hx => ?_ }
  · by_cases hxi : x = bx
    · subst hxi; rw [upd_same] at hx; cases hx
    · rw [upd_ne _ _ hxi] at hx; exact m.off x hx
  · by_cases hxi : x = bx
    · subst hxi
      rw [upd_same] at hx; cases hx
      obtain ⟨b, cs, t, k1, k2, k3, k4⟩ := m.obj x _ hbx'
      have hcs : cs = cs0 := by
        have : (upd (upd γ id .dead) st.nx (.val v)) x = γ x := by rw [upd_ne _ _ hne, upd_ne _ _ hbi]
        rw [this, q1] at k1
        cases k1
        rw [q2] at k2
        cases k2
        rfl
      refine ⟨b, cs, t, k1, k2, ⟨by rw [List.length_set]; exact k3.1, fun i ac hi => ?_⟩, k4⟩
      rw [List.getElem?_set] at hi
      split at hi
      · rename_i hij
        split at hi
        · cases hi
          subst hij
          obtain ⟨u, r1, r2⟩ := q3.2 j _ hj
          obtain ⟨r3, r4⟩ := r2
          have hu : u = v := by
            rcases r4 with r4 | r4
            · rw [g1] at r4; cases r4
            · rw [g1] at r4; cases r4; rfl
          subst hu
          exact ⟨u, by rw [hcs]; exact r1, r3.mono (fun _ _ h => .inl h) (fun _ _ _ => rfl), .inr (upd_same _ _ _)⟩
        · cases hi
      · exact k3.2 i ac hi
    · rw [upd_ne _ _ hxi] at hx; exact m.obj x o hx
end Go.Proofs.Ytcjagcfjpfjanaa.am
end
section
namespace Go.Proofs.Ytcjagcfjpfjanaa.am
open Go.ChangeShapes Go.WideShapes Go.ChangeAt Go.RowKit
open vt
set_option linter.unusedVariables false
set_option linter.unusedSimpArgs false
def kid : Option AO → Option Nat
  | some (AO.box cs) => match (cs[2]? : Option AC) with
    | some (AC.row i _ _) => some i
    | _ => none
  | _ => none
section
variable {P : Program} {N nb : Nat} {st : St} {Q : Exit → St → Prop}
theorem cgK {f : Nat} {dst : Option Nat} {first caps : List Cap} {args cargs : List AV} {tr dv e : Int} {B : List Int} {o1 : AO} {ch' : List (Option AO)} {res : AV} {K : St → Prop} (hrow : Row P f cargs [bxC 1 tr dv B e, o1] res ch') (b : Nat) {i : Nat} (hb : kid (hlk st.hp b) = some i) (hk : K ((st.wr (wrs (nmap [b, i] 2 st.nx) 0 ch') 8).put dst (res.ren (nmap [b, i] 2 st.nx)))) (hfit : fitVs 2 (fun k => [b, i].getD k 0) cargs (first.map capV ++ args ++ caps.map capV) := by first | (simp [*]; done) | fail) (ho : covO (hlk st.hp) 2 (fun k => [b, i].getD k 0) ([bxC 1 tr dv B e, o1].map some) [b, i] := by first | (simp [*]; done) | fail) (hnd : [b, i].Nodup := by first | decide | (simp; done) | fail) (hl : ch'.length ≤ 10 := by first | decide | (simp; done) | fail) (hl' : 2 ≤ ch'.length := by first | decide | (simp; done) | fail) (hd : dok N dst = true := by rfl) :
    CallK P N dst (.v (.c (.fn (.func f) first caps))) args st K := cg hrow [b, i] hk hfit ho hnd hl hl' hd
theorem dgK {f : Nat} {dst : Option Nat} {first caps : List Cap} {args cargs : List AV} {tr dv e : Int} {B : List Int} {o1 : AO} {ch' : List (Option AO)} {res : AV} {K : List Nat → List Nat → St → Prop} (hrow : Row P f cargs [bxC 1 tr dv B e, o1] res ch') (b : Nat) {i : Nat} (hb : kid (hlk st.hp b) = some i) (hk : K [b, i] ((wrs (nmap [b, i] 2 st.nx) 0 ch').map (·.1)) ((st.wr (wrs (nmap [b, i] 2 st.nx) 0 ch') 8).put dst (res.ren (nmap [b, i] 2 st.nx)))) (hfit : fitVs 2 (fun k => [b, i].getD k 0) cargs (first.map capV ++ args ++ caps.map capV) := by first | (simp [*]; done) | fail) (ho : covO (hlk st.hp) 2 (fun k => [b, i].getD k 0) ([bxC 1 tr dv B e, o1].map some) [b, i] := by first | (simp [*]; done) | fail) (hnd : [b, i].Nodup := by first | decide | (simp; done) | fail) (hl : ch'.length ≤ 10 := by first | decide | (simp; done) | fail) (hl' : 2 ≤ ch'.length := by first | decide | (simp; done) | fail) (hd : dok N dst = true := by rfl) :
    CallD P N dst (.v (.c (.fn (.func f) first caps))) args st K := dg hrow [b, i] hk hfit ho hnd hl hl' hd
theorem finD_k {g : FuncId} {rs : List ResultVar} {res : AV} {ch' : List (Option AO)} {ex : Exit} {tr tr' dv e : Int} {B : List Int} {o : AO} {i : Nat} (hD : RowD P g [vW0] [bxC 1 tr dv B e, rwC] (.tup []) [some (bxC 1 tr' dv B e), some rwC]) (he : ex = .normal ∨ ex = .ret) (hb : kid (hlk st.hp 0) = some i) (ho : hlk st.hp 0 = some o) (hcov : covO (hlk st.hp) 2 (fun k => [0, i].getD k 0) ([bxC 1 tr dv B e, rwC].map some) [0, i])
    (h : FinG P rs res ch' [0, 1, i] (st.wr (wrs (nmap [0, i] 2 st.nx) 0 [some (bxC 1 tr' dv B e), some rwC]) 8)) (hnd : [0, i].Nodup := by first | decide | (simp; done)) (hn3 : [0, 1, i].Nodup := by first | decide | (simp; done)) (hl : 2 ≤ ch'.length := by first | decide | (simp; done)) : FinD P N 2 g 0 0 rs res ch' ex st :=
  ⟨he, [vW0], [bxC 1 tr dv B e, rwC], .tup [], [some (bxC 1 tr' dv B e), some rwC], [0, i], hD, by simp, hcov, hnd, by simp, by simp, ⟨o, ho⟩, fin_g [0, 1, i] h hn3 rfl hl⟩
end
theorem wterm_deep (tr dv : Int) (B : List Int) (t : VT) (h0 : 64 ≤ tr) (h1 : tr ≤ 100000) : Row Try.prog 23 [vW0, vT t] [bxC 1 tr dv B 0, rwC] (.tup []) [some (bxC 2 tr dv (B ++ wrT t tr) (erT t (tr + 1))), none, some rwC] := by
  obtain ⟨x, l⟩ := t
  rw [wrT_mk, if_pos h0, erT_mk, if_pos (by omega), List.append_nil]
  have hen := wenter_row tr dv B 0 (by omega) (by omega)
  rw [if_pos ⟨h0, rfl⟩] at hen
  have hD := leave_rowD (tr + 1) dv B 7 (by omega) (by omega)
  rw [show tr + 1 - 1 = tr by omega] at hD
  refine row_of_d Try.func23 rfl rfl (Nat.le_of_ble_eq_true rfl) ?_
  refine awd_seq ?_
  refine aw_reg (fun K hK => ?_); simp -implicitDefEqProofs; refine hK _ ?_
  refine ⟨rfl, ?_⟩
  refine awd_defer rfl ?_
  simp -implicitDefEqProofs
  refine ⟨0, by decide, 0, ⟨rfl, rfl⟩, ?_⟩
  refine aw_mvr 1 0 2 _ 5 1 1 (iC B) rfl rfl rfl (by simp) (by simp) ?_
  simp [St.mvr]
  repeat' (first | refine aw_seq ?_ | refine aw_skip ?_ | refine aw_block ?_ | refine aw_exit ?_ | refine aw_ct rfl ?_ | refine aw_cf rfl ?_ | ((first | refine aw_reg (fun K hK => ?_) | refine aw_drw mixd (fun K hK => ?_) | refine ar_call (cgK hen 0 rfl ?_) | refine ard_call (dgK hen 0 rfl ?_) | fail); simp -implicitDefEqProofs) | refine hK _ ?_ | refine hK _ _ (by rfl) ?_ | fail)
  refine aw_ret (finD_k (N := 0) hD (.inr rfl) rfl rfl ?_ ?_)
  · simp
  · simp -implicitDefEqProofs [FinG, resV, resT]
end Go.Proofs.Ytcjagcfjpfjanaa.am
end
