/-
  A machine of values: states, regions in their order, code. No program is named here.
-/
import Derived.Test.YthifckknijdgfaaAm11
namespace Go.Proofs.Ythifckknijdgfaa.am
open Go.ChangeShapes Go.WideShapes Go.ChangeAt Go.RowKit
set_option linter.unusedVariables false
set_option linter.unusedSimpArgs false

/-- What a call's slots and its names hold; which name is next. -/
structure St where
  tm : List (Nat × AV)
  hp : List (Nat × Option AO)
  nx : Nat
def lk : List (Nat × AV) → Nat → AV
  | [], _ => .top
  | p :: r, t => if t = p.1 then p.2 else lk r t
def hlk : List (Nat × Option AO) → Nat → Option AO
  | [], _ => none
  | p :: r, x => if x = p.1 then p.2 else hlk r x
theorem hlk_cons (p : Nat × Option AO) (l : List (Nat × Option AO)) : hlk (p :: l) = upd (hlk l) p.1 p.2 := by
  funext x; rfl
theorem hlk_wr : ∀ (W l : List (Nat × Option AO)), hlk (W.foldl (fun h p => p :: h) l) = W.foldl (fun H p => upd H p.1 p.2) (hlk l)
  | [], l => rfl
  | p :: W, l => by rw [List.foldl_cons, List.foldl_cons, hlk_wr W (p :: l), hlk_cons]

def Rel (X : Ctx) (N : Nat) (st : St) (a : Act) (w : World) : Prop :=
  a.defers = [] ∧ a.tmps.size = N ∧ ∃ γ S, Mem X (hlk st.hp) (fun x => st.nx ≤ x) γ S w ∧ ∀ t, RepV γ S w (a.tmps.getD t undef) (lk st.tm t)
def St.put (st : St) : Option Nat → AV → St
  | some d, v => { st with tm := (d, v) :: st.tm }
  | none, _ => st
def St.wr (st : St) (W : List (Nat × Option AO)) (k : Nat) : St := { st with hp := W.foldl (fun h p => p :: h) st.hp, nx := st.nx + k }
def dok (N : Nat) : Option Nat → Bool
  | some d => decide (d < N)
  | none => true
def gd (ds : List (Option Nat)) (st : St) : Option (Nat × Bool) → Option Bool
  | none => some true
  | some (j, want) =>
    match (ds[j]?).join with
    | some d => (match lk st.tm d with | .v (.c (.pv (.lit (.bool b)))) => some (b == want) | .tup [] => some false | _ => none)
    | none => none
def AG (g : Option Bool) (A B : Prop) : Prop :=
  match g with
  | some true => A
  | some false => B
  | none => False

/-- A function that has a text. -/
def Ent (P : Program) (f : FuncId) : Prop := ∃ fn, P.funcs[f]? = some fn ∧ (fn.name == "runtime.NumGoroutine") = false ∧ fn.body.isNone = false
structure Row (P : Program) (f : FuncId) (args : List AV) (ch : List AO) (res : AV) (ch' : List (Option AO)) : Prop where
  ent : Ent P f
  spec : Spec P f args ch res ch'
def capV : Cap → AV
  | .ptr id off => .v (.c (.ptr id off))
  | .pv p => .v (.c (.pv p))
/-- The objects asked for are there. -/
def covO (hp : Nat → Option AO) (n : Nat) (ρ : Nat → Nat) : List (Option AO) → List Nat → Prop
  | [], [] => True
  | some o :: os, x :: r => (match hp x with | some o' => fitO n ρ o o' | none => False) ∧ covO hp n ρ os r
  | none :: os, x :: r => hp x = none ∧ covO hp n ρ os r
  | _, _ => False
/-- A call. -/
def CallK (P : Program) (N : Nat) (dst : Option Nat) (fv : AV) (args : List AV) (st : St) (K : St → Prop) : Prop :=
  ∃ f first caps cargs ch res ch' σ, fv = .v (.c (.fn (.func f) first caps)) ∧ Row P f cargs ch res ch' ∧ fitVs ch.length (fun i => σ.getD i 0) cargs (first.map capV ++ args ++ caps.map capV) ∧ covO (hlk st.hp) ch.length (fun i => σ.getD i 0) (ch.map some) σ ∧ σ.Nodup ∧
    ch'.length ≤ ch.length + 8 ∧ ch.length ≤ ch'.length ∧ dok N dst = true ∧ K ((st.wr (wrs (nmap σ ch.length st.nx) 0 ch') 8).put dst (res.ren (nmap σ ch.length st.nx)))
def AStep (P : Program) (N : Nat) (o : Oper) (st : St) (K : St → Prop) : Prop :=
  match o.op with
  | .call ⟨.value f, args, _⟩ => CallK P N o.dst (evA (lk st.tm) f) (args.toList.map (evA (lk st.tm))) st K
  | op => match aop P op (evA (lk st.tm)) (hlk st.hp) st.nx with
    | some r => dok N o.dst = true ∧ K ((st.wr r.2.2 1).put o.dst r.1)
    | none => False
def AR (P : Program) (N : Nat) (ds : List (Option Nat)) : List Oper → St → (St → Prop) → Prop
  | [], st, K => K st
  | o :: os, st, K => AG (gd ds st o.guard) (AStep P N o st (fun st' => AR P N ds os st' K)) (dok N o.dst = true ∧ AR P N ds os (st.put o.dst (.tup [])) K)

section
variable {P : Program} {X : Ctx} {N : Nat}
theorem tup0_inv {γ : Nat → G} {S : CS} {w : World} {v : Value} (h : RepV γ S w v (.tup [])) : v = undef := by
  obtain ⟨cs, rfl, h1, _⟩ := h
  have : cs = #[] := by
    have : cs.toList = [] := List.length_eq_zero_iff.1 h1
    simpa using this
  rw [this]; rfl
theorem undef_rep {γ : Nat → G} {S : CS} {w : World} : RepV γ S w undef (.tup []) := ⟨#[], rfl, rfl, fun i c h => by simp at h⟩
theorem act_put_size (a : Act) (dst : Option Nat) (v : Value) : (a.put dst v).tmps.size = a.tmps.size := by cases dst <;> simp [Act.put]
theorem act_put_defers (a : Act) (dst : Option Nat) (v : Value) : (a.put dst v).defers = a.defers := by cases dst <;> rfl
theorem rep_put {γ : Nat → G} {S : CS} {w : World} {a : Act} {st : St} (hN : a.tmps.size = N) (ha : ∀ t, RepV γ S w (a.tmps.getD t undef) (lk st.tm t)) {dst : Option Nat} (hd : dok N dst = true) {u : Value} {v : AV} (hv : RepV γ S w u v) :
    ∀ t, RepV γ S w ((a.put dst u).tmps.getD t undef) (lk (st.put dst v).tm t) := by
  cases dst with
  | none => exact ha
  | some d =>
    intro t
    have hdN : d < a.tmps.size := by rw [hN]; simpa [dok] using hd
    simp only [St.put, lk, Act.put]
    by_cases ht : t = d
    · subst ht
      rw [if_pos rfl]
      simp [hdN]; exact hv
    · rw [if_neg ht]
      have : (a.tmps.setIfInBounds d u).getD t undef = a.tmps.getD t undef := by
        simp [Array.getElem?_setIfInBounds_ne (Ne.symm ht)]
      rw [this]; exact ha t
theorem Rel.put {st : St} {a : Act} {w : World} (h : Rel X N st a w) {dst : Option Nat} (hd : dok N dst = true) : Rel X N (st.put dst (.tup [])) (a.put dst undef) w := by
  obtain ⟨h1, h2, γ, S, h3, h4⟩ := h
  refine ⟨by rw [act_put_defers]; exact h1, by rw [act_put_size]; exact h2, γ, S, ?_, rep_put h2 h4 hd undef_rep⟩
  cases dst <;> exact h3
theorem run_callFunc {f : FuncId} (h : Ent P f) (args : Array Value) (w : World) : (callFunc f args).run P w = .ok (.enter f args) w := by
  obtain ⟨fn, h1, h2, h3⟩ := h
  cases hb : fn.body with
  | none => rw [hb] at h3; cases h3
  | some c =>
    have h2' : ¬ fn.name = "runtime.NumGoroutine" := by simpa using h2
    simp [callFunc, h1, h2', hb]
theorem capV_rep {γ : Nat → G} {S : CS} {w : World} : ∀ {vs : List Value} {l : List Cap}, RepCaps γ S w vs l → RepVs γ S w vs (l.map capV)
  | [], [], _ => trivial
  | [], _ :: _, h => by have := h.1; simp at this
  | _ :: _, [], h => by have := h.1; simp at this
  | v :: vs, c :: l, h => by
    obtain ⟨v0, h3, h4⟩ := h.2 0 c rfl
    simp at h3; subst h3
    have ht : RepCaps γ S w vs l := ⟨by have := h.1; simpa using this, fun i c hc => by have := h.2 (i + 1) c (by simpa using hc); simpa using this⟩
    refine ⟨?_, capV_rep ht⟩
    cases c with
    | ptr id off => exact h4
    | pv p => exact h4
theorem RepVs.append {γ : Nat → G} {S : CS} {w : World} : ∀ {vs us : List Value} {l m : List AV}, RepVs γ S w vs l → RepVs γ S w us m → RepVs γ S w (vs ++ us) (l ++ m)
  | [], us, [], m, _, h => h
  | v :: vs, us, a :: l, m, h, k => ⟨h.1, RepVs.append h.2 k⟩
  | [], _, _ :: _, _, h, _ => h.elim
  | _ :: _, _, [], _, h, _ => h.elim
theorem RepVs.map {γ : Nat → G} {S : CS} {w : World} {f : Operand → Value} {g : Operand → AV} (h : ∀ x, RepV γ S w (f x) (g x)) : ∀ l : List Operand, RepVs γ S w (l.map f) (l.map g)
  | [] => trivial
  | x :: l => ⟨h x, RepVs.map h l⟩
theorem covO_at {hp : Nat → Option AO} {n : Nat} {ρ : Nat → Nat} : ∀ {os : List (Option AO)} {r : List Nat}, covO hp n ρ os r → os.length = r.length ∧ ∀ i o, os[i]? = some o → (∀ o1, o = some o1 → ∃ o', hp (r.getD i 0) = some o' ∧ fitO n ρ o1 o') ∧ (o = none → hp (r.getD i 0) = none)
  | [], [], _ => ⟨rfl, fun i o h => by simp at h⟩
  | some o :: os, x :: r, h => by
    obtain ⟨h1, h2⟩ := h
    obtain ⟨k1, k2⟩ := covO_at h2
    refine ⟨by simp [k1], fun i o' hi => ?_⟩
    cases i with
    | zero =>
      simp at hi; subst hi
      refine ⟨fun o1 he => ?_, fun he => (by cases he)⟩
      cases he
      split at h1
      · rename_i o' ho'; exact ⟨o', by simpa using ho', h1⟩
      · exact h1.elim
    | succ i => simp at hi; simpa using k2 i o' hi
  | none :: os, x :: r, h => by
    obtain ⟨h1, h2⟩ := h
    obtain ⟨k1, k2⟩ := covO_at h2
    refine ⟨by simp [k1], fun i o' hi => ?_⟩
    cases i with
    | zero =>
      simp at hi; subst hi
      exact ⟨fun o1 he => (by cases he), fun _ => (by simpa using h1)⟩
    | succ i => simp at hi; simpa using k2 i o' hi
  | [], _ :: _, h => h.elim
  | some _ :: _, [], h => h.elim
  | none :: _, [], h => h.elim
theorem nodup_getD {σ : List Nat} (h : σ.Nodup) (i j : Nat) (hi : i < σ.length) (hj : j < σ.length) (e : σ.getD i 0 = σ.getD j 0) : i = j := by
  rw [List.getD_eq_getElem?_getD, List.getD_eq_getElem?_getD, List.getElem?_eq_getElem hi, List.getElem?_eq_getElem hj] at e
  have hp := List.pairwise_iff_getElem.1 h
  simp only [Option.getD_some] at e
  rcases Nat.lt_trichotomy i j with hlt | heq | hgt
  · exact absurd e (hp i j hi hj hlt)
  · exact heq
  · exact absurd e.symm (hp j i hj hi hgt)

/-- A call, met. -/
theorem callK_sound {st : St} {a : Act} {w : World} (h : Rel X N st a w) {dst : Option Nat} {f : Operand} {args ats} {ty pos after guard} {K : St → Prop} (hc : CallK P N dst (evA (lk st.tm) f) (args.toList.map (evA (lk st.tm))) st K) {K' : Act → World → Prop} {Q : Exit → Act → World → Prop}
    (hK : ∀ st' a' w', K st' → Rel X N st' a' w' → K' a' w') : Oper.wp P ⟨dst, .call ⟨.value f, args, ats⟩, ty, pos, after, guard⟩ a w K' Q := by
  obtain ⟨h1, h2, γ, S, hm, ha⟩ := h
  obtain ⟨g, first, caps, cargs, ch, res, ch', σ, hf, hrow, hfit, hcov, hnd, hl1, hl2, hd, hk⟩ := hc
  have he : ∀ x, RepV γ S w (a.eval x) (evA (lk st.tm) x) := evA_rep ha
  have hfv := he f
  rw [hf] at hfv
  obtain ⟨xs, ys, hfe, hx, hy⟩ := hfv
  obtain ⟨c1, c2⟩ := covO_at hcov
  rw [List.length_map] at c1
  have hargs : RepVs γ S w (xs.toList ++ (args.map a.eval).toList ++ ys.toList) (first.map capV ++ args.toList.map (evA (lk st.tm)) ++ caps.map capV) :=
    ((capV_rep hx).append (by simpa using RepVs.map he args.toList)).append (capV_rep hy)
  have key := call_sound hrow.spec hm σ (fun i j hi hj e => nodup_getD hnd i j (by omega) (by omega) e) (fun i o ho => by
    have := (c2 i (some o) (by rw [List.getElem?_map, ho]; rfl)).1 o rfl
    exact this) hargs hfit st.nx (fun x h _ => h) hl1 hl2
  unfold Oper.wp
  have hex : (execOp a.eval ⟨dst, .call ⟨.value f, args, ats⟩, ty, pos, after, guard⟩).run P w = .ok (.enter g (xs.toList ++ (args.map a.eval).toList ++ ys.toList).toArray) w := by
    simp only [execOp, resolve, hfe, Deferred.ofValue, Sem.run_bind, Sem.run_pure, Result.andThen_ok, invoke]
    rw [run_callFunc hrow.ent]
    congr 2
    simp
  rw [hex, Oper.upon_enter]
  refine key.mono ?_
  rintro e w' ⟨v, γ', S', rfl, m1, m2, m3, m4, m5⟩
  refine hK _ _ _ hk ⟨by rw [act_put_defers]; exact h1, by rw [act_put_size]; exact h2, γ', S', ?_, rep_put (st := st.wr (wrs (nmap σ ch.length st.nx) 0 ch') 8) h2 (fun t => (ha t).mono m2 m3 m4) hd m5⟩
  have e1 : ((st.wr (wrs (nmap σ ch.length st.nx) 0 ch') 8).put dst (res.ren (nmap σ ch.length st.nx))).hp = (wrs (nmap σ ch.length st.nx) 0 ch').foldl (fun h p => p :: h) st.hp := by cases dst <;> rfl
  have e2 : ((st.wr (wrs (nmap σ ch.length st.nx) 0 ch') 8).put dst (res.ren (nmap σ ch.length st.nx))).nx = st.nx + 8 := by cases dst <;> rfl
  rw [e1, e2, hlk_wr]
  exact m1.less (fun x hx => ⟨Nat.le_trans (Nat.le_add_right _ _) hx, fun hh => by have := hh.2; omega⟩)

theorem astep_sound {st : St} {a : Act} {w : World} (h : Rel X N st a w) {o : Oper} {K : St → Prop} (hc : AStep P N o st K) {K' : Act → World → Prop} {Q : Exit → Act → World → Prop}
    (hK : ∀ st' a' w', K st' → Rel X N st' a' w' → K' a' w') : o.wp P a w K' Q := by
  have plainOp : ∀ r, aop P o.op (evA (lk st.tm)) (hlk st.hp) st.nx = some r → dok N o.dst = true ∧ K ((st.wr r.2.2 1).put o.dst r.1) → o.wp P a w K' Q := fun r hr hk => by
    obtain ⟨h1, h2, γ, S, hm, ha⟩ := h
    obtain ⟨u, w', γ', S', g1, g2, g3, g4, g5, g6⟩ := aop_sound hm (Nat.le_refl st.nx) ha o (v := r.1) (F := r.2.1) (W := r.2.2) hr
    have hrel : Rel X N ((st.wr r.2.2 1).put o.dst r.1) (a.put o.dst u) w' := by
      refine ⟨by rw [act_put_defers]; exact h1, by rw [act_put_size]; exact h2, γ', S', ?_, rep_put (st := st.wr r.2.2 1) h2 (fun t => (ha t).mono g3 g4 g5) hk.1 g6⟩
      have e1 : ((st.wr r.2.2 1).put o.dst r.1).hp = r.2.2.foldl (fun h p => p :: h) st.hp := by cases o.dst <;> rfl
      have e2 : ((st.wr r.2.2 1).put o.dst r.1).nx = st.nx + 1 := by cases o.dst <;> rfl
      rw [e1, e2, hlk_wr]
      exact g2.less (fun x hx => ⟨by omega, by omega⟩)
    unfold Oper.wp
    rcases g1 with g1 | ⟨g1, rfl⟩
    · rw [g1]; exact hK _ _ _ hk.2 hrel
    · rw [g1]; exact hK _ _ _ hk.2 hrel
  unfold AStep at hc
  split at hc
  · rename_i f args ats hop
    obtain ⟨dst, op, ty, pos, after, guard⟩ := o
    dsimp only at hop hc
    subst hop
    exact callK_sound h hc hK
  · split at hc
    · rename_i r hr
      exact plainOp r hr hc
    · exact hc.elim

/-- Was the guard met? -/
theorem gd_wanted {st : St} {a : Act} {w : World} (h : Rel X N st a w) (ops : Array Oper) (o : Oper) {b : Bool} (hg : gd (ops.toList.map (·.dst)) st o.guard = some b) : Region.wanted o (yielded ops a.tmps) = b := by
  obtain ⟨h1, h2, γ, S, hm, ha⟩ := h
  unfold Region.wanted
  unfold gd at hg
  split at hg
  · rename_i hgd; cases hg; rw [hgd]
  · rename_i j want hgd
    rw [hgd]
    split at hg
    · rename_i d hd
      split at hg
      · rename_i c hl
        cases hg
        have := ha d
        rw [hl] at this
        obtain ⟨hv, _⟩ := lit_inv this
        have hdj : (ops[j]?).bind (·.dst) = some d := by
          rw [List.getElem?_map] at hd
          cases ho : ops.toList[j]? with
          | none => rw [ho] at hd; simp at hd
          | some x =>
            rw [ho] at hd
            have : ops[j]? = some x := by simpa using ho
            rw [this]; simpa using hd
        have hty : a.tmps[d]? = some (.bool c) := by
          cases ht : a.tmps[d]? with
          | none => simp [ht, undef] at hv
          | some x => simp [ht] at hv; rw [hv]
        simp only [yielded, hdj, Option.bind_some, hty]
        cases c <;> cases want <;> rfl
      · rename_i hl
        cases hg
        have := ha d
        rw [hl] at this
        have hv : a.tmps.getD d undef = undef := tup0_inv this
        have hdj : (ops[j]?).bind (·.dst) = some d := by
          rw [List.getElem?_map] at hd
          cases ho : ops.toList[j]? with
          | none => rw [ho] at hd; simp at hd
          | some x =>
            rw [ho] at hd
            have : ops[j]? = some x := by simpa using ho
            rw [this]; simpa using hd
        have hty : a.tmps[d]? = none ∨ a.tmps[d]? = some undef := by
          cases ht : a.tmps[d]? with
          | none => exact .inl rfl
          | some x => right; simp [ht] at hv; rw [hv]
        rcases hty with hty | hty
        · simp only [yielded, hdj, Option.bind_some, hty]; cases want <;> rfl
        · simp only [yielded, hdj, Option.bind_some, hty]; cases want <;> rfl
      · cases hg
    · cases hg

theorem ar_sound (ops : Array Oper) {Q : Exit → Act → World → Prop} {K : St → Prop} (hQ : ∀ st a w, K st → Rel X N st a w → Q .normal a w) : ∀ (l : List Oper) (st : St) (a : Act) (w : World), Rel X N st a w → AR P N (ops.toList.map (·.dst)) l st K → wpList P ops Q l a w
  | [], st, a, w, h, hk => hQ st a w hk h
  | o :: l, st, a, w, h, hk => by
    unfold AR at hk
    cases hb : gd (ops.toList.map (·.dst)) st o.guard with
    | none => rw [hb] at hk; exact hk.elim
    | some b =>
      have hw := gd_wanted h ops o hb
      rw [hb] at hk
      unfold wpList
      rw [hw]
      cases b with
      | true =>
        rw [if_pos rfl]
        exact .inl (astep_sound h hk (fun st' a' w' hk' hr => ar_sound ops hQ l st' a' w' hr hk'))
      | false =>
        rw [if_neg (by simp)]
        obtain ⟨hd, hk⟩ : dok N o.dst = true ∧ _ := hk
        exact ar_sound ops hQ l _ _ w (h.put hd) hk
/-! How a region is reckoned -/
/-- An operation's answer taken up, and those behind it. -/
def OpA (P : Program) (N : Nat) (ds : List (Option Nat)) (dst : Option Nat) (st : St) (os : List Oper) (r : Option (AV × List Nat × List (Nat × Option AO))) (K : St → Prop) : Prop :=
  match r with
  | some r => dok N dst = true ∧ AR P N ds os ((st.wr r.2.2 1).put dst r.1) K
  | none => False
theorem OpA_some {ds : List (Option Nat)} {dst : Option Nat} {st : St} {os : List Oper} {v F W} {K : St → Prop} : OpA P N ds dst st os (some (v, F, W)) K = (dok N dst = true ∧ AR P N ds os ((st.wr W 1).put dst v) K) := rfl
theorem AR_nil {ds : List (Option Nat)} {st : St} {K : St → Prop} : AR P N ds [] st K = K st := rfl
/-- An operation that runs, and those behind it. -/
def AX (P : Program) (N : Nat) (ds : List (Option Nat)) (dst : Option Nat) (op : Op) (st : St) (os : List Oper) (K : St → Prop) : Prop :=
  match op with
  | .call ⟨.value f, args, _⟩ => CallK P N dst (evA (lk st.tm) f) (args.toList.map (evA (lk st.tm))) st (fun st' => AR P N ds os st' K)
  | op => OpA P N ds dst st os (aop P op (evA (lk st.tm)) (hlk st.hp) st.nx) K
theorem AR_cons {ds : List (Option Nat)} {dst : Option Nat} {op : Op} {ty pos after} {os : List Oper} {st : St} {K : St → Prop} : AR P N ds (⟨dst, op, ty, pos, after, none⟩ :: os) st K = AX P N ds dst op st os K := rfl
/-- An operation that has a guard. -/
def GX (P : Program) (N : Nat) (ds : List (Option Nat)) (g : Option Bool) (dst : Option Nat) (op : Op) (st : St) (os : List Oper) (K : St → Prop) : Prop := AG g (AX P N ds dst op st os K) (dok N dst = true ∧ AR P N ds os (st.put dst (.tup [])) K)
theorem AR_gard {ds : List (Option Nat)} {dst : Option Nat} {op : Op} {ty pos after g} {os : List Oper} {st : St} {K : St → Prop} : AR P N ds (⟨dst, op, ty, pos, after, some g⟩ :: os) st K = GX P N ds (gd ds st (some g)) dst op st os K := rfl
theorem GX_yes {ds : List (Option Nat)} {dst : Option Nat} {op : Op} {os : List Oper} {st : St} {K : St → Prop} : GX P N ds (some true) dst op st os K = AX P N ds dst op st os K := rfl
theorem GX_not {ds : List (Option Nat)} {dst : Option Nat} {op : Op} {os : List Oper} {st : St} {K : St → Prop} : GX P N ds (some false) dst op st os K = (dok N dst = true ∧ AR P N ds os (st.put dst (.tup [])) K) := rfl
section
variable {ds : List (Option Nat)} {dst : Option Nat} {st : St} {os : List Oper} {K : St → Prop}
theorem AX_move {x} : AX P N ds dst (.move x) st os K = OpA P N ds dst st os (aop P (.move x) (evA (lk st.tm)) (hlk st.hp) st.nx) K := rfl
theorem AX_assign {x} : AX P N ds dst (.assign x) st os K = OpA P N ds dst st os (aop P (.assign x) (evA (lk st.tm)) (hlk st.hp) st.nx) K := rfl
theorem AX_pick {c a b} : AX P N ds dst (.pick c a b) st os K = OpA P N ds dst st os (aop P (.pick c a b) (evA (lk st.tm)) (hlk st.hp) st.nx) K := rfl
theorem AX_alloc {e} : AX P N ds dst (.alloc e) st os K = OpA P N ds dst st os (aop P (.alloc e) (evA (lk st.tm)) (hlk st.hp) st.nx) K := rfl
theorem AX_box {e v} : AX P N ds dst (.box e v) st os K = OpA P N ds dst st os (aop P (.box e v) (evA (lk st.tm)) (hlk st.hp) st.nx) K := rfl
theorem AX_build {t p} : AX P N ds dst (.build t p) st os K = OpA P N ds dst st os (aop P (.build t p) (evA (lk st.tm)) (hlk st.hp) st.nx) K := rfl
theorem AX_buildSlice {t n p} : AX P N ds dst (.buildSlice t n p) st os K = OpA P N ds dst st os (aop P (.buildSlice t n p) (evA (lk st.tm)) (hlk st.hp) st.nx) K := rfl
theorem AX_insert {t m k v} : AX P N ds dst (.insert t m k v) st os K = OpA P N ds dst st os (aop P (.insert t m k v) (evA (lk st.tm)) (hlk st.hp) st.nx) K := rfl
theorem AX_load {t a} : AX P N ds dst (.load t a) st os K = OpA P N ds dst st os (aop P (.load t a) (evA (lk st.tm)) (hlk st.hp) st.nx) K := rfl
theorem AX_store {t a v} : AX P N ds dst (.store t a v) st os K = OpA P N ds dst st os (aop P (.store t a v) (evA (lk st.tm)) (hlk st.hp) st.nx) K := rfl
theorem AX_ready {g} : AX P N ds dst (.ready g) st os K = OpA P N ds dst st os (aop P (.ready g) (evA (lk st.tm)) (hlk st.hp) st.nx) K := rfl
theorem AX_waits {g} : AX P N ds dst (.waits g) st os K = OpA P N ds dst st os (aop P (.waits g) (evA (lk st.tm)) (hlk st.hp) st.nx) K := rfl
theorem AX_nilCheck {x} : AX P N ds dst (.nilCheck x) st os K = OpA P N ds dst st os (aop P (.nilCheck x) (evA (lk st.tm)) (hlk st.hp) st.nx) K := rfl
theorem AX_binOp {o t x y u} : AX P N ds dst (.binOp o t x y u) st os K = OpA P N ds dst st os (aop P (.binOp o t x y u) (evA (lk st.tm)) (hlk st.hp) st.nx) K := rfl
theorem AX_unOp {o t x} : AX P N ds dst (.unOp o t x) st os K = OpA P N ds dst st os (aop P (.unOp o t x) (evA (lk st.tm)) (hlk st.hp) st.nx) K := rfl
theorem AX_convert {s d x} : AX P N ds dst (.convert s d x) st os K = OpA P N ds dst st os (aop P (.convert s d x) (evA (lk st.tm)) (hlk st.hp) st.nx) K := rfl
theorem AX_sliceToArrayPointer {d x} : AX P N ds dst (.sliceToArrayPointer d x) st os K = OpA P N ds dst st os (aop P (.sliceToArrayPointer d x) (evA (lk st.tm)) (hlk st.hp) st.nx) K := rfl
theorem AX_makeInterface {t x} : AX P N ds dst (.makeInterface t x) st os K = OpA P N ds dst st os (aop P (.makeInterface t x) (evA (lk st.tm)) (hlk st.hp) st.nx) K := rfl
theorem AX_makeFunc {f a b} : AX P N ds dst (.makeFunc f a b) st os K = OpA P N ds dst st os (aop P (.makeFunc f a b) (evA (lk st.tm)) (hlk st.hp) st.nx) K := rfl
theorem AX_makeMap {t r} : AX P N ds dst (.makeMap t r) st os K = OpA P N ds dst st os (aop P (.makeMap t r) (evA (lk st.tm)) (hlk st.hp) st.nx) K := rfl
theorem AX_makeChan {t z} : AX P N ds dst (.makeChan t z) st os K = OpA P N ds dst st os (aop P (.makeChan t z) (evA (lk st.tm)) (hlk st.hp) st.nx) K := rfl
theorem AX_makeSlice {t n c} : AX P N ds dst (.makeSlice t n c) st os K = OpA P N ds dst st os (aop P (.makeSlice t n c) (evA (lk st.tm)) (hlk st.hp) st.nx) K := rfl
theorem AX_slice {t x l h m} : AX P N ds dst (.slice t x l h m) st os K = OpA P N ds dst st os (aop P (.slice t x l h m) (evA (lk st.tm)) (hlk st.hp) st.nx) K := rfl
theorem AX_fieldAddr {t x f} : AX P N ds dst (.fieldAddr t x f) st os K = OpA P N ds dst st os (aop P (.fieldAddr t x f) (evA (lk st.tm)) (hlk st.hp) st.nx) K := rfl
theorem AX_field {t x f} : AX P N ds dst (.field t x f) st os K = OpA P N ds dst st os (aop P (.field t x f) (evA (lk st.tm)) (hlk st.hp) st.nx) K := rfl
theorem AX_indexAddr {t x i} : AX P N ds dst (.indexAddr t x i) st os K = OpA P N ds dst st os (aop P (.indexAddr t x i) (evA (lk st.tm)) (hlk st.hp) st.nx) K := rfl
theorem AX_index {t x i} : AX P N ds dst (.index t x i) st os K = OpA P N ds dst st os (aop P (.index t x i) (evA (lk st.tm)) (hlk st.hp) st.nx) K := rfl
theorem AX_lookup {t x i c} : AX P N ds dst (.lookup t x i c) st os K = OpA P N ds dst st os (aop P (.lookup t x i c) (evA (lk st.tm)) (hlk st.hp) st.nx) K := rfl
theorem AX_mapUpdate {t m k v} : AX P N ds dst (.mapUpdate t m k v) st os K = OpA P N ds dst st os (aop P (.mapUpdate t m k v) (evA (lk st.tm)) (hlk st.hp) st.nx) K := rfl
theorem AX_mapEntry {t m k} : AX P N ds dst (.mapEntry t m k) st os K = OpA P N ds dst st os (aop P (.mapEntry t m k) (evA (lk st.tm)) (hlk st.hp) st.nx) K := rfl
theorem AX_entryStore {t m a v} : AX P N ds dst (.entryStore t m a v) st os K = OpA P N ds dst st os (aop P (.entryStore t m a v) (evA (lk st.tm)) (hlk st.hp) st.nx) K := rfl
theorem AX_range {t x} : AX P N ds dst (.range t x) st os K = OpA P N ds dst st os (aop P (.range t x) (evA (lk st.tm)) (hlk st.hp) st.nx) K := rfl
theorem AX_next {i s} : AX P N ds dst (.next i s) st os K = OpA P N ds dst st os (aop P (.next i s) (evA (lk st.tm)) (hlk st.hp) st.nx) K := rfl
theorem AX_entry {i} : AX P N ds dst (.entry i) st os K = OpA P N ds dst st os (aop P (.entry i) (evA (lk st.tm)) (hlk st.hp) st.nx) K := rfl
theorem AX_typeAssert {x t a c} : AX P N ds dst (.typeAssert x t a c) st os K = OpA P N ds dst st os (aop P (.typeAssert x t a c) (evA (lk st.tm)) (hlk st.hp) st.nx) K := rfl
theorem AX_extract {t i} : AX P N ds dst (.extract t i) st os K = OpA P N ds dst st os (aop P (.extract t i) (evA (lk st.tm)) (hlk st.hp) st.nx) K := rfl
theorem AX_panic {x} : AX P N ds dst (.panic x) st os K = OpA P N ds dst st os (aop P (.panic x) (evA (lk st.tm)) (hlk st.hp) st.nx) K := rfl
theorem AX_builtin {b a t} : AX P N ds dst (.call ⟨.builtin b, a, t⟩) st os K = OpA P N ds dst st os (aop P (.call ⟨.builtin b, a, t⟩) (evA (lk st.tm)) (hlk st.hp) st.nx) K := rfl
end
/-- A call met in a region in its order. -/
theorem ar_call {ds : List (Option Nat)} {dst : Option Nat} {f : Operand} {args ats} {os : List Oper} {st : St} {K : St → Prop} (h : CallK P N dst (evA (lk st.tm) f) (args.toList.map (evA (lk st.tm))) st (fun st' => AR P N ds os st' K)) :
    AX P N ds dst (.call ⟨.value f, args, ats⟩) st os K := h
end
end Go.Proofs.Ythifckknijdgfaa.am
