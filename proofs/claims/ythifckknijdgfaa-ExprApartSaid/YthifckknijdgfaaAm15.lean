/-
  A machine of values: a region that draws its order comes to what it comes to in its order. No program is named here.
-/
import Derived.Test.YthifckknijdgfaaAm14
namespace Go.Proofs.Ythifckknijdgfaa.am
open Go.ChangeShapes Go.WideShapes Go.ChangeAt Go.RowKit
set_option linter.unusedVariables false
set_option linter.unusedSimpArgs false

def RelF (X : Ctx) (N : Nat) (T : Nat → AV) (H : Nat → Option AO) (U : Nat → Prop) (a : Act) (w : World) : Prop :=
  a.defers = [] ∧ a.tmps.size = N ∧ ∃ γ S, Mem X H U γ S w ∧ ∀ t, RepV γ S w (a.tmps.getD t undef) (T t)
def putT (T : Nat → AV) : Option Nat → AV → Nat → AV
  | some d, v => upd T d v
  | none, _ => T
abbrev wrH (H : Nat → Option AO) (W : List (Nat × Option AO)) : Nat → Option AO := W.foldl (fun H p => upd H p.1 p.2) H
/-- What an operation gives, what it looks at, what it writes. -/
structure Dat where
  x : Bool
  v : AV
  F : List Nat
  W : List (Nat × Option AO)
def DCall (P : Program) (fv : AV) (args : List AV) (H : Nat → Option AO) (nm : Nat) (d : Dat) : Prop :=
  ∃ f first caps cargs ch res ch' σ, fv = .v (.c (.fn (.func f) first caps)) ∧ Row P f cargs ch res ch' ∧ fitVs ch.length (fun i => σ.getD i 0) cargs (first.map capV ++ args ++ caps.map capV) ∧ covO H ch.length (fun i => σ.getD i 0) (ch.map some) σ ∧ σ.Nodup ∧
    ch'.length ≤ ch.length + 8 ∧ ch.length ≤ ch'.length ∧ d.v = res.ren (nmap σ ch.length nm) ∧ d.F = σ ∧ d.W = wrs (nmap σ ch.length nm) 0 ch'
def DStep (P : Program) (o : Oper) (T : Nat → AV) (H : Nat → Option AO) (nm : Nat) (d : Dat) : Prop :=
  match o.op with
  | .call ⟨.value f, args, _⟩ => DCall P (evA T f) (args.toList.map (evA T)) H nm d
  | op => aop P op (evA T) H nm = some (d.v, d.F, d.W)
def looks (ds : List (Option Nat)) (o : Oper) : List Nat :=
  (o.op.operands.toList.filterMap fun | .tmp t => some t | _ => none) ++ (match o.guard with | some (g, _) => ((ds[g]?).join).toList | none => [])
def gdF (ds : List (Option Nat)) (T : Nat → AV) : Option (Nat × Bool) → Option Bool
  | none => some true
  | some (j, want) =>
    match (ds[j]?).join with
    | some d => (match T d with | .v (.c (.pv (.lit (.bool b)))) => some (b == want) | .tup [] => some false | _ => none)
    | none => none

section
variable {P : Program} {X : Ctx} {N : Nat} {T T' : Nat → AV} {H H' : Nat → Option AO} {U : Nat → Prop}
theorem evA_congr {x : Operand} (h : ∀ t, x = .tmp t → T' t = T t) : evA T' x = evA T x := by
  cases x with
  | tmp t => exact h t rfl
  | _ => rfl
theorem covO_congr {n : Nat} {ρ : Nat → Nat} : ∀ {os : List (Option AO)} {r : List Nat}, covO H n ρ os r → (∀ x ∈ r, H' x = H x) → covO H' n ρ os r
  | [], [], _, _ => trivial
  | some o :: os, x :: r, h, hH => ⟨by rw [hH x (by simp)]; exact h.1, covO_congr h.2 (fun y hy => hH y (by simp [hy]))⟩
  | none :: os, x :: r, h, hH => ⟨by rw [hH x (by simp)]; exact h.1, covO_congr h.2 (fun y hy => hH y (by simp [hy]))⟩
  | [], _ :: _, h, _ => h.elim
  | some _ :: _, [], h, _ => h.elim
  | none :: _, [], h, _ => h.elim
theorem dstep_congr {o : Oper} {nm : Nat} {d : Dat} (h : DStep P o T H nm d) (hT : ∀ t, .tmp t ∈ o.op.operands → T' t = T t) (hH : ∀ x ∈ d.F, H' x = H x) : DStep P o T' H' nm d := by
  unfold DStep at h ⊢
  split at h
  · rename_i f args ats hop
    obtain ⟨g, first, caps, cargs, ch, res, ch', σ, h1, h2, h3, h4, h5, h6, h7, h8, h9, h10⟩ := h
    have e1 : evA T' f = evA T f := evA_congr fun t ht => hT t (by rw [hop]; subst ht; simp [Op.operands, Call.operands])
    have e2 : args.toList.map (evA T') = args.toList.map (evA T) := List.map_congr_left fun x hx => evA_congr fun t ht => hT t (by rw [hop]; subst ht; simp [Op.operands, Call.operands]; right; simpa using hx)
    rw [e1, e2]
    exact ⟨g, first, caps, cargs, ch, res, ch', σ, h1, h2, h3, covO_congr h4 (fun x hx => hH x (by rw [h9]; exact hx)), h5, h6, h7, h8, h9, h10⟩
  · rename_i hne
    exact aop_congr h (fun x hx => evA_congr fun t ht => hT t (by subst ht; exact hx)) hH
theorem repF_put {γ : Nat → G} {S : CS} {w : World} {a : Act} (hN : a.tmps.size = N) (ha : ∀ t, RepV γ S w (a.tmps.getD t undef) (T t)) {dst : Option Nat} (hd : dok N dst = true) {u : Value} {v : AV} (hv : RepV γ S w u v) :
    ∀ t, RepV γ S w ((a.put dst u).tmps.getD t undef) (putT T dst v t) := by
  cases dst with
  | none => exact ha
  | some d =>
    intro t
    have hdN : d < a.tmps.size := by rw [hN]; simpa [dok] using hd
    simp only [putT, Act.put]
    by_cases ht : t = d
    · subst ht
      rw [upd_same]
      simp [hdN]; exact hv
    · rw [upd_ne _ _ ht]
      have : (a.tmps.setIfInBounds d u).getD t undef = a.tmps.getD t undef := by
        simp [Array.getElem?_setIfInBounds_ne (Ne.symm ht)]
      rw [this]; exact ha t
theorem dstep_sound {o : Oper} {nm : Nat} {d : Dat} (h : DStep P o T H nm d) (hd : dok N o.dst = true) {a : Act} {w : World} (hr : RelF X N T H U a w) (hU : ∀ x, nm ≤ x → x < nm + 8 → U x) {K' : Act → World → Prop} {Q : Exit → Act → World → Prop}
    (hK : ∀ a' w', RelF X N (putT T o.dst d.v) (wrH H d.W) (fun x => U x ∧ ¬ (nm ≤ x ∧ x < nm + 8)) a' w' → K' a' w') : o.wp P a w K' Q := by
  obtain ⟨h1, h2, γ, S, hm, ha⟩ := hr
  have he : ∀ x, RepV γ S w (a.eval x) (evA T x) := evA_rep ha
  unfold DStep at h
  split at h
  · rename_i f args ats hop
    obtain ⟨dst, op, ty, pos, after, guard⟩ := o
    dsimp only at hop hd hK
    subst hop
    obtain ⟨g, first, caps, cargs, ch, res, ch', σ, hf, hrow, hfit, hcov, hnd, hl1, hl2, hv, hF, hW⟩ := h
    have hfv := he f
    rw [hf] at hfv
    obtain ⟨xs, ys, hfe, hx, hy⟩ := hfv
    obtain ⟨c1, c2⟩ := covO_at hcov
    rw [List.length_map] at c1
    have hargs : RepVs γ S w (xs.toList ++ (args.map a.eval).toList ++ ys.toList) (first.map capV ++ args.toList.map (evA T) ++ caps.map capV) :=
      ((capV_rep hx).append (by simpa using RepVs.map he args.toList)).append (capV_rep hy)
    have key := call_sound hrow.spec hm σ (fun i j hi hj e => nodup_getD hnd i j (by omega) (by omega) e) (fun i o ho => by
      have := (c2 i (some o) (by rw [List.getElem?_map, ho]; rfl)).1 o rfl
      exact this) hargs hfit nm hU hl1 hl2
    unfold Oper.wp
    have hex : (execOp a.eval ⟨dst, .call ⟨.value f, args, ats⟩, ty, pos, after, guard⟩).run P w = .ok (.enter g (xs.toList ++ (args.map a.eval).toList ++ ys.toList).toArray) w := by
      simp only [execOp, resolve, hfe, Deferred.ofValue, Sem.run_bind, Sem.run_pure, Result.andThen_ok, invoke]
      rw [run_callFunc hrow.ent]
      congr 2
      simp
    rw [hex, Oper.upon_enter]
    refine key.mono ?_
    rintro e w' ⟨v, γ', S', rfl, m1, m2, m3, m4, m5⟩
    exact hK _ _ ⟨by rw [act_put_defers]; exact h1, by rw [act_put_size]; exact h2, γ', S', by rw [hW]; exact m1, repF_put h2 (fun t => (ha t).mono m2 m3 m4) hd (by rw [hv]; exact m5)⟩
  · obtain ⟨u, w', γ', S', g1, g2, g3, g4, g5, g6⟩ := aop_sound hm (hU nm (Nat.le_refl _) (by omega)) ha o h
    have hrel : RelF X N (putT T o.dst d.v) (wrH H d.W) (fun x => U x ∧ ¬ (nm ≤ x ∧ x < nm + 8)) (a.put o.dst u) w' :=
      ⟨by rw [act_put_defers]; exact h1, by rw [act_put_size]; exact h2, γ', S', g2.less (fun x hx => ⟨hx.1, fun e => hx.2 (by omega)⟩), repF_put h2 (fun t => (ha t).mono g3 g4 g5) hd g6⟩
    unfold Oper.wp
    rcases g1 with g1 | ⟨g1, rfl⟩
    · rw [g1]; exact hK _ _ hrel
    · rw [g1]; exact hK _ _ hrel
theorem gdF_wanted {a : Act} {w : World} (h : RelF X N T H U a w) (ops : Array Oper) (o : Oper) {b : Bool} (hg : gdF (ops.toList.map (·.dst)) T o.guard = some b) : Region.wanted o (yielded ops a.tmps) = b := by
  obtain ⟨h1, h2, γ, S, hm, ha⟩ := h
  unfold Region.wanted
  unfold gdF at hg
  split at hg
  · rename_i hgd; cases hg; rw [hgd]
  · rename_i j want hgd
    rw [hgd]
    split at hg
    · rename_i d hd
      split at hg
      · rename_i c hl
        cases hg
        have := ha d
        rw [hl] at this
        obtain ⟨hv, _⟩ := lit_inv this
        have hdj : (ops[j]?).bind (·.dst) = some d := by
          rw [List.getElem?_map] at hd
          cases ho : ops.toList[j]? with
          | none => rw [ho] at hd; simp at hd
          | some x =>
            rw [ho] at hd
            have : ops[j]? = some x := by simpa using ho
            rw [this]; simpa using hd
        have hty : a.tmps[d]? = some (.bool c) := by
          cases ht : a.tmps[d]? with
          | none => simp [ht, undef] at hv
          | some x => simp [ht] at hv; rw [hv]
        simp only [yielded, hdj, Option.bind_some, hty]
        cases c <;> cases want <;> rfl
      · rename_i hl
        cases hg
        have := ha d
        rw [hl] at this
        have hv : a.tmps.getD d undef = undef := tup0_inv this
        have hdj : (ops[j]?).bind (·.dst) = some d := by
          rw [List.getElem?_map] at hd
          cases ho : ops.toList[j]? with
          | none => rw [ho] at hd; simp at hd
          | some x =>
            rw [ho] at hd
            have : ops[j]? = some x := by simpa using ho
            rw [this]; simpa using hd
        have hty : a.tmps[d]? = none ∨ a.tmps[d]? = some undef := by
          cases ht : a.tmps[d]? with
          | none => exact .inl rfl
          | some x => right; simp [ht] at hv; rw [hv]
        rcases hty with hty | hty
        · simp only [yielded, hdj, Option.bind_some, hty]; cases want <;> rfl
        · simp only [yielded, hdj, Option.bind_some, hty]; cases want <;> rfl
      · cases hg
    · cases hg
end

/-! What is there behind some of the operations -/
structure Itm where
  o : Oper
  d : Dat
def TF (L : Nat → Bool) : Nat → List Itm → (Nat → AV) → Nat → AV
  | _, [], T => T
  | k, x :: r, T => TF L (k + 1) r (if L k = true then putT T x.o.dst x.d.v else T)
def HF (L : Nat → Bool) : Nat → List Itm → (Nat → Option AO) → Nat → Option AO
  | _, [], H => H
  | k, x :: r, H => HF L (k + 1) r (if L k = true then wrH H x.d.W else H)
theorem wrH_out {W : List (Nat × Option AO)} : ∀ {H : Nat → Option AO} {x : Nat}, x ∉ W.map (·.1) → wrH H W x = H x := by
  induction W with
  | nil => intro H x _; rfl
  | cons p W ih =>
    intro H x hx
    simp at hx
    show wrH (upd H p.1 p.2) W x = H x
    rw [ih (by simpa using hx.2), upd_ne _ _ hx.1]
theorem wrH_in {W : List (Nat × Option AO)} : ∀ {H H' : Nat → Option AO} {x : Nat}, x ∈ W.map (·.1) → wrH H W x = wrH H' W x := by
  induction W with
  | nil => intro H H' x hx; simp at hx
  | cons p W ih =>
    intro H H' x hx
    show wrH (upd H p.1 p.2) W x = wrH (upd H' p.1 p.2) W x
    by_cases h : x ∈ W.map (·.1)
    · exact ih h
    · rw [wrH_out h, wrH_out h]
      simp only [List.map_cons, List.mem_cons] at hx
      rcases hx with hx | hx
      · rw [hx, upd_same, upd_same]
      · exact absurd hx h
theorem putT_ne {T : Nat → AV} {dst : Option Nat} {v : AV} {t : Nat} (h : dst ≠ some t) : putT T dst v t = T t := by
  cases dst with
  | none => rfl
  | some d => exact upd_ne _ _ (fun e => h (by rw [e]))
theorem putT_eq {T : Nat → AV} {dst : Option Nat} {v : AV} {t : Nat} (h : dst = some t) : putT T dst v t = v := by subst h; exact upd_same _ _ _
/-- A slot is what it was, if the same writers of it are behind. -/
theorem TF_congr {L L' : Nat → Bool} {t : Nat} : ∀ {l : List Itm} {k : Nat} {T T' : Nat → AV}, T t = T' t → (∀ (i : Nat) x, l[i]? = some x → x.o.dst = some t → L (k + i) = L' (k + i)) → TF L k l T t = TF L' k l T' t
  | [], k, T, T', h, _ => h
  | x :: r, k, T, T', h, hL => by
    unfold TF
    refine TF_congr ?_ (fun i y hi hd => by have := hL (i + 1) y (by simpa using hi) hd; rwa [show k + (i + 1) = k + 1 + i by omega] at this)
    by_cases hd : x.o.dst = some t
    · have := hL 0 x rfl hd
      rw [Nat.add_zero] at this
      rw [this]
      split
      · rw [putT_eq hd, putT_eq hd]
      · exact h
    · split <;> split <;> simp only [putT_ne hd, h]
theorem HF_congr {L L' : Nat → Bool} {n : Nat} : ∀ {l : List Itm} {k : Nat} {H H' : Nat → Option AO}, H n = H' n → (∀ (i : Nat) x, l[i]? = some x → n ∈ x.d.W.map (·.1) → L (k + i) = L' (k + i)) → HF L k l H n = HF L' k l H' n
  | [], k, H, H', h, _ => h
  | x :: r, k, H, H', h, hL => by
    unfold HF
    refine HF_congr ?_ (fun i y hi hd => by have := hL (i + 1) y (by simpa using hi) hd; rwa [show k + (i + 1) = k + 1 + i by omega] at this)
    by_cases hd : n ∈ x.d.W.map (·.1)
    · have := hL 0 x rfl hd
      rw [Nat.add_zero] at this
      rw [this]
      split
      · exact wrH_in hd
      · exact h
    · split <;> split <;> simp only [wrH_out hd, h]
/-- .. the last writer's. -/
theorem TF_last {L : Nat → Bool} {t : Nat} : ∀ {l : List Itm} {k i : Nat} {x : Itm} {T : Nat → AV}, l[i]? = some x → x.o.dst = some t → L (k + i) = true → (∀ (j : Nat) y, l[j]? = some y → y.o.dst = some t → i < j → L (k + j) = false) → TF L k l T t = x.d.v
  | y :: r, k, 0, x, T, hi, hd, hL, hlast => by
    simp at hi; subst hi
    unfold TF
    rw [Nat.add_zero] at hL
    rw [if_pos hL]
    have : TF L (k + 1) r (putT T y.o.dst y.d.v) t = TF (fun _ => false) (k + 1) r (putT T y.o.dst y.d.v) t :=
      TF_congr rfl (fun j z hj hz => by have := hlast (j + 1) z (by simpa using hj) hz (by omega); rwa [show k + (j + 1) = k + 1 + j by omega] at this)
    rw [this]
    have none : ∀ (l : List Itm) (k : Nat) (T : Nat → AV), TF (fun _ => false) k l T = T := fun l => by
      induction l with
      | nil => intro k T; rfl
      | cons a l ih => intro k T; unfold TF; simp [ih]
    rw [none, putT_eq hd]
  | y :: r, k, i + 1, x, T, hi, hd, hL, hlast => by
    unfold TF
    exact TF_last (i := i) (by simpa using hi) hd (by rwa [show k + (i + 1) = k + 1 + i by omega] at hL) (fun j z hj hz hlt => by
      have := hlast (j + 1) z (by simpa using hj) hz (by omega); rwa [show k + (j + 1) = k + 1 + j by omega] at this)
  | [], _, _, _, _, hi, _, _, _ => by simp at hi
theorem HF_last {L : Nat → Bool} {n : Nat} : ∀ {l : List Itm} {k i : Nat} {x : Itm} {H : Nat → Option AO} (H2 : Nat → Option AO), l[i]? = some x → n ∈ x.d.W.map (·.1) → L (k + i) = true → (∀ (j : Nat) y, l[j]? = some y → n ∈ y.d.W.map (·.1) → i < j → L (k + j) = false) → HF L k l H n = wrH H2 x.d.W n
  | y :: r, k, 0, x, H, H2, hi, hd, hL, hlast => by
    simp at hi; subst hi
    unfold HF
    rw [Nat.add_zero] at hL
    rw [if_pos hL]
    have : HF L (k + 1) r (wrH H y.d.W) n = HF (fun _ => false) (k + 1) r (wrH H y.d.W) n :=
      HF_congr rfl (fun j z hj hz => by have := hlast (j + 1) z (by simpa using hj) hz (by omega); rwa [show k + (j + 1) = k + 1 + j by omega] at this)
    rw [this]
    have none : ∀ (l : List Itm) (k : Nat) (T : Nat → Option AO), HF (fun _ => false) k l T = T := fun l => by
      induction l with
      | nil => intro k T; rfl
      | cons a l ih => intro k T; unfold HF; simp [ih]
    rw [none]; exact wrH_in hd
  | y :: r, k, i + 1, x, H, H2, hi, hd, hL, hlast => by
    unfold HF
    exact HF_last (i := i) H2 (by simpa using hi) hd (by rwa [show k + (i + 1) = k + 1 + i by omega] at hL) (fun j z hj hz hlt => by
      have := hlast (j + 1) z (by simpa using hj) hz (by omega); rwa [show k + (j + 1) = k + 1 + j by omega] at this)
  | [], _, _, _, _, _, hi, _, _, _ => by simp at hi
end Go.Proofs.Ythifckknijdgfaa.am
