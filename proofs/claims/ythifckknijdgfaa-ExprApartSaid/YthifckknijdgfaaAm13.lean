/-
  A machine of values: code, loops, a function's row. No program is named here.
-/
import Derived.Test.YthifckknijdgfaaAm12
import Derived.Test.YthifckknijdgfaaStructs
namespace Go.Proofs.Ythifckknijdgfaa.am
open Go.ChangeShapes Go.WideShapes Go.ChangeAt Go.RowKit
set_option linter.unusedVariables false
set_option linter.unusedSimpArgs false

def CtxB (nb : Nat) (X : Ctx) : Prop := ∀ x, nb ≤ x → X.γ0 x = .un
/-- From whatever memory the state tells of, the code comes to a state of which Q holds. -/
def AW (P : Program) (N nb : Nat) (c : Code) (st : St) (Q : Exit → St → Prop) : Prop :=
  ∀ X, CtxB nb X → ∀ a w, Rel X N st a w → ∀ Q' : Exit → Act → World → Prop, (∀ e st' a' w', Q e st' → Rel X N st' a' w' → Q' e a' w') → c.wp P Q' a w
/-- A state that tells less. -/
def Cov (N nb : Nat) (st st' : St) : Prop := ∀ X, CtxB nb X → ∀ a w, Rel X N st a w → Rel X N st' a w

def idx : Nat → List (Option AO) → List (Nat × Option AO)
  | _, [] => []
  | k, o :: os => (k, o) :: idx (k + 1) os
theorem hlk_idx : ∀ (os : List (Option AO)) (k x : Nat), hlk (idx k os) x = if k ≤ x then (os[x - k]?).join else none
  | [], k, x => by simp [idx, hlk]
  | o :: os, k, x => by
    unfold idx hlk
    rw [hlk_idx os (k + 1) x]
    by_cases h1 : x = k
    · subst h1; simp
    · rw [if_neg h1]
      by_cases h2 : k ≤ x
      · have : x - k = (x - (k + 1)) + 1 := by omega
        rw [if_pos (by omega), if_pos h2, this]; simp
      · rw [if_neg (by omega), if_neg h2]
theorem hlk_idx0 (os : List (Option AO)) (x : Nat) : hlk (idx 0 os) x = (os[x]?).join := by rw [hlk_idx]; simp
/-- A state by its slots and its names. -/
def mkSt (tm : List (Nat × AV)) (os : List (Option AO)) : St := ⟨tm, idx 0 os, os.length⟩
def covT (tm : List (Nat × AV)) (n : Nat) (ρ : Nat → Nat) : List (Nat × AV) → Prop
  | [] => True
  | p :: r => fitV n ρ p.2 (lk tm p.1) ∧ covT tm n ρ r
theorem covT_lk {γ γ' : Nat → G} {S : CS} {w : World} {n : Nat} {ρ : Nat → Nat} (hg : ∀ i, i < n → γ' i = γ (ρ i)) {a : Act} {tm : List (Nat × AV)} (ha : ∀ t, RepV γ S w (a.tmps.getD t undef) (lk tm t)) : ∀ {tm' : List (Nat × AV)}, covT tm n ρ tm' → ∀ t, RepV γ' S w (a.tmps.getD t undef) (lk tm' t)
  | [], _, t => trivial
  | p :: r, h, t => by
    unfold lk
    by_cases ht : t = p.1
    · rw [if_pos ht]; exact fitV_rep hg h.1 (by rw [← ht]; exact ha t)
    · rw [if_neg ht]; exact covT_lk hg ha h.2 t

section
variable {P : Program} {N nb : Nat}
/-- Memory told of by other names. -/
theorem Mem.cov {X : Ctx} (hX : CtxB nb X) {hp : Nat → Option AO} {U : Nat → Prop} {γ : Nat → G} {S : CS} {w : World} (h : Mem X hp U γ S w) {os : List (Option AO)} {r : List Nat} (hc : covO hp os.length (fun i => r.getD i 0) os r) (hnd : r.Nodup) (hb : r.take nb = List.range nb) (hnb : nb ≤ os.length) :
    ∃ γ', (∀ i, i < os.length → γ' i = γ (r.getD i 0)) ∧ Mem X (fun x => (os[x]?).join) (fun x => os.length ≤ x) γ' S w := by
  obtain ⟨γ', hγ⟩ : ∃ γ' : Nat → G, γ' = fun i => if i < os.length then γ (r.getD i 0) else .un := ⟨_, rfl⟩
  have hg : ∀ i, i < os.length → γ' i = γ (r.getD i 0) := fun i hi => by rw [hγ]; simp only [hi, if_true]
  have ho : ∀ i, os.length ≤ i → γ' i = .un := fun i hi => by rw [hγ]; simp only [Nat.not_lt.2 hi, if_false]
  obtain ⟨c1, c2⟩ := covO_at hc
  have hr : ∀ i, i < nb → r.getD i 0 = i := fun i hi => by
    have : (r.take nb)[i]? = (List.range nb)[i]? := by rw [hb]
    rw [List.getElem?_take, if_pos hi, List.getElem?_range hi] at this
    rw [List.getD_eq_getElem?_getD, this]; rfl
  refine ⟨γ', hg, h.os, h.tape, h.output, h.size, h.frame, h.keep, h.fresh, h.inb, fun x => ?_, fun x hx => ho x hx, fun x hx => ?_, fun x o hx => ?_, fun x y hxy b hbx hby => ?_, fun x b hb => ?_⟩
  · by_cases hx : x < nb
    · have := h.mono x
      rw [hg x (by omega), hr x hx]; exact this
    · exact .inl (hX x (by omega))
  · by_cases hx' : x < os.length
    · rw [hg x hx']
      have := (c2 x _ (List.getElem?_eq_getElem hx')).2
      refine h.off _ (this ?_)
      rw [List.getElem?_eq_getElem hx'] at hx
      exact hx
    · exact .inl (ho x (by omega))
  · have hx' : x < os.length := by
      rcases Nat.lt_or_ge x os.length with h | h
      · exact h
      · rw [List.getElem?_eq_none h] at hx; cases hx
    rw [List.getElem?_eq_getElem hx'] at hx
    obtain ⟨o', h1, h2⟩ := (c2 x _ (List.getElem?_eq_getElem hx')).1 o hx
    exact fitO_rep (ρ := fun i => r.getD i 0) hg hx' h2 (h.obj _ _ h1)
  · by_cases hx : x < os.length
    · by_cases hy : y < os.length
      · rw [hg x hx] at hbx; rw [hg y hy] at hby
        exact h.dist _ _ (fun e => hxy (nodup_getD hnd x y (by omega) (by omega) e)) b hbx hby
      · rw [ho y (by omega)] at hby; cases hby
    · rw [ho x (by omega)] at hbx; cases hbx
  · by_cases hx : x < os.length
    · rw [hg x hx] at hb; exact h.live _ b hb
    · rw [ho x (by omega)] at hb; cases hb
theorem cov_intro {st : St} {tm : List (Nat × AV)} {os : List (Option AO)} (r : List Nat) (ht : covT st.tm os.length (fun i => r.getD i 0) tm) (hc : covO (hlk st.hp) os.length (fun i => r.getD i 0) os r) (hnd : r.Nodup) (hb : r.take nb = List.range nb) (hnb : nb ≤ os.length) : Cov N nb st (mkSt tm os) := by
  intro X hX a w h
  obtain ⟨h1, h2, γ, S, hm, ha⟩ := h
  obtain ⟨γ', hg, hm'⟩ := hm.cov hX hc hnd hb hnb
  refine ⟨h1, h2, γ', S, ?_, covT_lk (ρ := fun i => r.getD i 0) hg ha ht⟩
  have e : hlk (mkSt tm os).hp = fun x => (os[x]?).join := funext (hlk_idx0 os)
  rw [e]; exact hm'

/-! Code -/
def Th (P : Program) (N nb : Nat) (y : Code) (Q : Exit → St → Prop) : Exit → St → Prop
  | .normal, st => AW P N nb y st Q
  | e, st => Q e st
def InB (id : Nat) (Q : Exit → St → Prop) : Exit → St → Prop
  | .exit id', st => if id' = id then Q .normal st else Q (.exit id') st
  | e, st => Q e st
variable {st : St} {Q : Exit → St → Prop}
theorem aw_cov {c : Code} {st' : St} (h : Cov N nb st st') (k : AW P N nb c st' Q) : AW P N nb c st Q := fun X hX a w hr => k X hX a w (h X hX a w hr)
theorem aw_mono {c : Code} {Q₂ : Exit → St → Prop} (h : AW P N nb c st Q) (hq : ∀ e st, Q e st → Q₂ e st) : AW P N nb c st Q₂ := fun X hX a w hr Q' hQ => h X hX a w hr Q' (fun e st' a' w' h1 h2 => hQ e st' a' w' (hq e st' h1) h2)
theorem aw_seq {x y : Code} (h : AW P N nb x st (Th P N nb y Q)) : AW P N nb (.seq x y) st Q := fun X hX a w hr Q' hQ =>
  wp_seq (h X hX a w hr _ (fun e st' a' w' h1 h2 => by
    cases e with
    | normal => exact h1 X hX a' w' h2 Q' hQ
    | _ => exact hQ _ _ _ _ h1 h2))
theorem aw_cond {c : Operand} {x y : Code} {b : Bool} (hc : evA (lk st.tm) c = .v (.c (.pv (.lit (.bool b))))) (ht : b = true → AW P N nb x st Q) (hf : b = false → AW P N nb y st Q) : AW P N nb (.cond c x y) st Q := fun X hX a w hr Q' hQ => by
  obtain ⟨h1, h2, γ, S, hm, ha⟩ := id hr
  have he := evA_rep ha c
  rw [hc] at he
  obtain ⟨hv, _⟩ := lit_inv he
  exact wp_cond_split hv (fun hb => ht hb X hX a w hr Q' hQ) (fun hb => hf hb X hX a w hr Q' hQ)
/-- A condition that nothing tells. -/
theorem aw_flag {c : Operand} {x y : Code} (hc : evA (lk st.tm) c = .v (.c .flag)) (ht : AW P N nb x st Q) (hf : AW P N nb y st Q) : AW P N nb (.cond c x y) st Q := fun X hX a w hr Q' hQ => by
  obtain ⟨h1, h2, γ, S, hm, ha⟩ := id hr
  have he := evA_rep ha c
  rw [hc] at he
  obtain ⟨b, hv⟩ := he
  exact wp_cond_split hv (fun hb => ht X hX a w hr Q' hQ) (fun hb => hf X hX a w hr Q' hQ)
theorem aw_block {id : Nat} {c : Code} (h : AW P N nb c st (InB id Q)) : AW P N nb (.block id c) st Q := fun X hX a w hr Q' hQ =>
  wp_block (h X hX a w hr _ (fun e st' a' w' h1 h2 => by
    cases e with
    | exit id' =>
      have h1' : if id' = id then Q .normal st' else Q (.exit id') st' := h1
      show if id' = id then Q' .normal a' w' else Q' (.exit id') a' w'
      by_cases he : id' = id
      · rw [if_pos he] at h1' ⊢; exact hQ _ _ _ _ h1' h2
      · rw [if_neg he] at h1' ⊢; exact hQ _ _ _ _ h1' h2
    | _ => exact hQ _ _ _ _ h1 h2))
theorem aw_skip (h : Q .normal st) : AW P N nb .skip st Q := fun X hX a w hr Q' hQ => wp_skip (hQ _ _ _ _ h hr)
theorem aw_ret (h : Q .ret st) : AW P N nb .ret st Q := fun X hX a w hr Q' hQ => wp_ret (hQ _ _ _ _ h hr)
theorem aw_exit {id : Nat} (h : Q (.exit id) st) : AW P N nb (.exit id) st Q := fun X hX a w hr Q' hQ => wp_exit (hQ _ _ _ _ h hr)
theorem aw_region {id : Nat} {l : List Oper} (h : AR P N (l.map (·.dst)) l st (Q .normal)) : AW P N nb (.region id l.toArray false) st Q := fun X hX a w hr Q' hQ =>
  wp_region_list (by
    have := ar_sound (P := P) (X := X) l.toArray (Q := Q') (K := Q .normal) (fun st a w h1 h2 => hQ _ _ _ _ h1 h2) l st a w hr (by simpa using h)
    simpa using this)
theorem least {p : Nat → Prop} (h : ∃ n, p n) : ∃ n, p n ∧ ∀ m, p m → n ≤ m := by
  obtain ⟨n, hn⟩ := h
  induction n using Nat.strongRecOn with
  | ind n ih =>
    by_cases hm : ∃ m, p m ∧ m < n
    · obtain ⟨m, h1, h2⟩ := hm; exact ih m h2 h1
    · exact ⟨n, hn, fun m h1 => Nat.le_of_not_lt fun h2 => hm ⟨m, h1, h2⟩⟩
noncomputable def lst (p : Nat → Prop) : Nat := open Classical in if h : ∃ n, p n then Classical.choose (least h) else 0
theorem lst_spec {p : Nat → Prop} (h : ∃ n, p n) : p (lst p) ∧ ∀ m, p m → lst p ≤ m := by
  unfold lst; rw [dif_pos h]; exact Classical.choose_spec (least h)
/-- .. with what is to hold behind it under one name. -/
theorem aw_reg {id : Nat} {l : List Oper} (h : ∀ K : St → Prop, (∀ st, Q .normal st → K st) → AR P N (l.map (·.dst)) l st K) : AW P N nb (.region id l.toArray false) st Q := aw_region (h (Q .normal) (fun _ h => h))
/-- Where a loop goes on. -/
def LpQ {ι : Type} (N nb : Nat) (I : ι → St) (C : ι → Prop) (μ : ι → Nat) (x : ι) (Q : Exit → St → Prop) : Exit → St → Prop
  | .normal, st => ∃ y, C y ∧ μ y < μ x ∧ Cov N nb st (I y)
  | e, st => Q e st
theorem aw_loop {ι : Type} {c : Code} (I : ι → St) (C : ι → Prop) (μ : ι → Nat) (x0 : ι) (h0 : C x0) (hs : Cov N nb st (I x0)) (round : ∀ x, C x → AW P N nb c (I x) (LpQ N nb I C μ x Q)) : AW P N nb (.loop c) st Q := fun X hX a w hr Q' hQ => by
  let p : Act → World → Nat → Prop := fun a' w' n => ∃ x, C x ∧ Rel X N (I x) a' w' ∧ μ x = n
  refine wp_loop (fun a' w' => ∃ n, p a' w' n) (fun a' w' => lst (p a' w')) ⟨_, x0, h0, hs X hX a w hr, rfl⟩ (fun a' w' hI => ?_)
  obtain ⟨⟨x, hx, hrx, hm⟩, hle⟩ := lst_spec hI
  refine round x hx X hX a' w' hrx _ (fun e st' a2 w2 h1 h2 => ?_)
  cases e with
  | normal =>
    obtain ⟨y, hy, hlt, hc⟩ := h1
    have hp : p a2 w2 (μ y) := ⟨y, hy, hc X hX a2 w2 h2, rfl⟩
    refine ⟨⟨_, hp⟩, ?_⟩
    have := (lst_spec ⟨_, hp⟩).2 _ hp
    show lst (p a2 w2) < lst (p a' w')
    omega
  | _ => exact hQ _ _ _ _ h1 h2
/-- .. with the states at its head under one name, so that they are not laid open. -/
theorem aw_lp {ι : Type} {c : Code} (I0 : ι → St) (C : ι → Prop) (μ : ι → Nat) (x0 : ι) (h0 : C x0) (hs : Cov N nb st (I0 x0)) (round : ∀ I : ι → St, (∀ x, I x = I0 x) → ∀ x, C x → AW P N nb c (I0 x) (LpQ N nb I C μ x Q)) : AW P N nb (.loop c) st Q :=
  aw_loop I0 C μ x0 h0 hs (round I0 (fun _ => rfl))
end

/-! A function's row -/
def idxA : Nat → List AV → List (Nat × AV)
  | _, [] => []
  | k, v :: l => (k, v) :: idxA (k + 1) l
def entry (args : List AV) (ch : List AO) : St := ⟨idxA 0 args, idx 0 (ch.map some), ch.length⟩
def resT (P : Program) (st : St) : ResultVar → Option AT
  | .tmp t => match lk st.tm t with
    | .v x => some x
    | _ => none
  | .cell a t => match lk st.tm a, td P t with
    | .v (.c (.ptr id off)), some d => (match vload d (.v (.c (.ptr id off))) (hlk st.hp) with | some (.v x, _) => some x | _ => none)
    | _, _ => none
def resV (P : Program) (st : St) (rs : List ResultVar) : Option AV :=
  match rs.mapM (resT P st) with
  | some [x] => some (.v x)
  | some l => some (.tup l)
  | none => none
/-- What the call comes to. -/
def Fin (P : Program) (nb : Nat) (rs : List ResultVar) (res : AV) (ch' : List (Option AO)) : Exit → St → Prop
  | .normal, st | .ret, st => ∃ x r, resV P st rs = some x ∧ fitV ch'.length (fun i => r.getD i 0) res x ∧ covO (hlk st.hp) ch'.length (fun i => r.getD i 0) ch' r ∧ r.Nodup ∧ r.take nb = List.range nb ∧ nb ≤ ch'.length
  | _, _ => False
/-- .. of a call that is handed values alone. -/
def FinP (P : Program) (rs : List ResultVar) (res : AV) (st : St) : Prop :=
  match resV P st rs with
  | some x => fitV 0 (fun _ => 0) res x
  | none => False
theorem fin_ret {P : Program} {rs : List ResultVar} {res : AV} {st : St} (h : FinP P rs res st) : Fin P 0 rs res [] .ret st := by
  unfold FinP at h
  split at h
  · rename_i x hx; exact ⟨x, [], hx, h, trivial, List.nodup_nil, rfl, Nat.le_refl _⟩
  · exact h.elim
theorem idxA_lk {γ : Nat → G} {S : CS} {w : World} {N : Nat} : ∀ {vs : List Value} {l : List AV}, RepVs γ S w vs l → ∀ (k t : Nat), RepV γ S w ((vs.toArray ++ Array.replicate N undef).getD (t - k) undef) (if k ≤ t then lk (idxA k l) t else .top)
  | vs, l, h, k, t => by
    by_cases hk : k ≤ t
    · rw [if_pos hk]
      induction l generalizing vs k with
      | nil => trivial
      | cons v l ih =>
        cases vs with
        | nil => exact h.elim
        | cons u vs =>
          unfold idxA lk
          by_cases ht : t = k
          · subst ht
            rw [if_pos rfl]
            simp [Array.getElem?_append]; exact h.1
          · rw [if_neg ht]
            have := ih (vs := vs) h.2 (k + 1) (by omega)
            have e1 : t - k = (t - (k + 1)) + 1 := by omega
            rw [e1]
            have e2 : ((u :: vs).toArray ++ Array.replicate N undef).getD (t - (k + 1) + 1) undef = (vs.toArray ++ Array.replicate N undef).getD (t - (k + 1)) undef := by
              simp [Array.getElem?_append, List.getElem?_cons_succ]
            rw [e2]; exact this
    · rw [if_neg hk]; trivial
theorem run_results {P : Program} {γ : Nat → G} {S : CS} {w : World} {X : Ctx} {U : Nat → Prop} {st : St} (hm : Mem X (hlk st.hp) U γ S w) {tmps : Array Value} (ha : ∀ t, RepV γ S w (tmps.getD t undef) (lk st.tm t)) {r : ResultVar} {x : AT} (h : resT P st r = some x) :
    ∃ u, (match r with | .tmp t => pure (tmps.getD t undef) | .cell a t => do loadVar t (← asAddr (tmps.getD a undef)) : Sem Value).run P w = .ok u w ∧ RepT γ S w u x := by
  cases r with
  | tmp t =>
    have := ha t
    unfold resT at h
    dsimp only at h
    split at h
    · rename_i y hy
      cases h
      rw [hy] at this
      exact ⟨_, rfl, this⟩
    · cases h
  | cell a t =>
    have hat := ha a
    unfold resT at h
    dsimp only at h
    split at h
    · rename_i id off d hl hd
      split at h
      · rename_i y F hv
        cases h
        rw [hl] at hat
        obtain ⟨u, h1, h2⟩ := vload_sound hd hv hm.obj hat
        obtain ⟨b, hb, he⟩ := hat
        refine ⟨u, ?_, h2⟩
        rw [he] at h1
        dsimp only
        rw [he]
        simp only [asAddr, Sem.run_bind, Sem.run_pure, Result.andThen_ok]
        simpa [Instr.loadAt, Instr.sureAddr] using h1
      · cases h
    · cases h
theorem run_mapM {α β : Type} {P : Program} {w : World} {f : α → Sem β} : ∀ (l : List α) (g : List β), l.length = g.length → (∀ (i : Nat) x y, l[i]? = some x → g[i]? = some y → (f x).run P w = .ok y w) → (l.mapM f).run P w = .ok g w
  | [], [], _, _ => by simp
  | x :: l, y :: g, hl, h => by
    have ih := run_mapM l g (by simpa using hl) (fun i a b h1 h2 => h (i + 1) a b (by simpa using h1) (by simpa using h2))
    have h0 := h 0 x y rfl rfl
    simp [List.mapM_cons, h0, ih]
  | [], _ :: _, h, _ => by simp at h
  | _ :: _, [], h, _ => by simp at h
theorem run_mapMA {α β : Type} {P : Program} {w : World} {f : α → Sem β} (l : Array α) (g : List β) (hl : l.size = g.length) (h : ∀ (i : Nat) x y, l[i]? = some x → g[i]? = some y → (f x).run P w = .ok y w) : (l.mapM f).run P w = .ok g.toArray w := by
  have e := run_mapM (f := f) l.toList g (by simpa using hl) (fun i x y h1 h2 => h i x y (by simpa using h1) h2)
  have e2 : l.mapM f = List.toArray <$> l.toList.mapM f := Array.mapM_eq_mapM_toList
  rw [e2, map_eq_pure_bind, Sem.run_bind, e]
  rfl
theorem resV_sound {P : Program} {γ : Nat → G} {S : CS} {w : World} {X : Ctx} {U : Nat → Prop} {st : St} (hm : Mem X (hlk st.hp) U γ S w) {tmps : Array Value} (ha : ∀ t, RepV γ S w (tmps.getD t undef) (lk st.tm t)) {fn : Func} {x : AV} (h : resV P st fn.results.toList = some x) :
    ∃ u, (results fn tmps).run P w = .ok u w ∧ RepV γ S w u x := by
  obtain ⟨l, hl⟩ : ∃ l, fn.results.toList.mapM (resT P st) = some l := by
    unfold resV at h
    cases hh : fn.results.toList.mapM (resT P st) with
    | none => rw [hh] at h; cases h
    | some l => exact ⟨l, rfl⟩
  obtain ⟨h1, h2⟩ := mapM_at hl
  obtain ⟨us, hu1, hu2⟩ := bs.choose_list l.length (fun i u => ∃ r x, fn.results.toList[i]? = some r ∧ l[i]? = some x ∧ (match r with | .tmp t => pure (tmps.getD t undef) | .cell a t => do loadVar t (← asAddr (tmps.getD a undef)) : Sem Value).run P w = .ok u w ∧ RepT γ S w u x) (fun i hi => by
    obtain ⟨r, k1, k2⟩ := h2 i _ (List.getElem?_eq_getElem hi)
    obtain ⟨u, k3, k4⟩ := run_results hm ha k2
    exact ⟨u, r, _, k1, List.getElem?_eq_getElem hi, k3, k4⟩)
  have hrep : RepTs γ S w us l := ⟨hu1, fun i c hc => by
    obtain ⟨u, hu⟩ := getElem?_lift hu1.symm hc
    obtain ⟨r', x, k1, k2, k3, k4⟩ := hu2 i u hu
    rw [hc] at k2; cases k2
    exact ⟨u, hu, k4⟩⟩
  have hres : (results fn tmps).run P w = .ok (if h : us.toArray.size = 1 then us.toArray[0] else .tuple us.toArray) w := by
    unfold results
    rw [Sem.run_bind, run_mapMA fn.results us (by rw [← hu1] at h1; simpa using h1) (fun i r u g1 g2 => by
      obtain ⟨r', x, k1, k2, k3, k4⟩ := hu2 i u g2
      have g1' : fn.results.toList[i]? = some r := by simpa using g1
      rw [g1'] at k1; cases k1; exact k3)]
    rfl
  unfold resV at h
  rw [hl] at h
  split at h
  · rename_i y heq
    cases heq; cases h
    match us, hu1, hrep, hres with
    | [u], _, hrep, hres =>
      obtain ⟨v, k1, k2⟩ := hrep.2 0 y rfl
      simp at k1; subst k1
      exact ⟨u, by simpa using hres, k2⟩
  · rename_i l' hne heq
    cases heq; cases h
    refine ⟨.tuple us.toArray, ?_, us.toArray, rfl, hrep⟩
    rw [hres, dif_neg]
    intro h1
    rw [List.size_toArray, hu1] at h1
    obtain ⟨y, hy⟩ := List.length_eq_one_iff.1 h1
    exact hne y hy
  · cases h
theorem row_of {P : Program} {f : FuncId} {fn : Func} {c : Code} (hf : P.funcs[f]? = some fn) (hb : fn.body = some c) (hn : (fn.name == "runtime.NumGoroutine") = false) {args : List AV} {ch : List AO} {res : AV} {ch' : List (Option AO)} (hN : args.length ≤ fn.ntmps)
    (h : AW P fn.ntmps ch.length c (entry args ch) (Fin P ch.length fn.results.toList res ch')) : Row P f args ch res ch' := by
  refine ⟨⟨fn, hf, hn, by rw [hb]; rfl⟩, fun γ S w vs hm hv => ?_⟩
  have hlen : vs.length = args.length := by
    clear h hm hN
    induction vs generalizing args with
    | nil => cases args with
      | nil => rfl
      | cons a l => exact hv.elim
    | cons v vs ih => cases args with
      | nil => exact hv.elim
      | cons a l => simp [ih hv.2]
  refine calls_of_wp hf hb (h ⟨w, S, γ⟩ (fun x hx => hm.un x hx) _ w ⟨rfl, ?_, γ, S, ?_, fun t => ?_⟩ _ (fun e st' a' w' hq hr => ?_))
  · simp [hlen]; omega
  · have e : hlk (entry args ch).hp = fun x => ch[x]? := by
      funext x
      show hlk (idx 0 (ch.map some)) x = _
      rw [hlk_idx0, List.getElem?_map]
      cases ch[x]? <;> rfl
    rw [e]; exact hm
  · have := idxA_lk (N := fn.ntmps - vs.toArray.size) hv 0 t
    simp at this ⊢
    exact this
  · obtain ⟨d1, d2, γ', S', m1, m2⟩ := hr
    have fin : (∃ x r, resV P st' fn.results.toList = some x ∧ fitV ch'.length (fun i => r.getD i 0) res x ∧ covO (hlk st'.hp) ch'.length (fun i => r.getD i 0) ch' r ∧ r.Nodup ∧ r.take ch.length = List.range ch.length ∧ ch.length ≤ ch'.length) →
        a'.defers = [] ∧ ∃ v, (results fn a'.tmps).run P w' = .ok v w' ∧ ∃ v' γ' S', Ending.returned v = .returned v' ∧ Mem ⟨w, S, γ⟩ (fun x => (ch'[x]?).join) (fun x => ch'.length ≤ x) γ' S' w' ∧ RepV γ' S' w' v' res := fun ⟨x, r, g1, g2, g3, g4, g5, g6⟩ => by
      obtain ⟨u, k1, k2⟩ := resV_sound m1 m2 g1
      obtain ⟨γ2, hg, m3⟩ := m1.cov (nb := ch.length) (fun x hx => hm.un x hx) g3 g4 g5 g6
      exact ⟨d1, u, k1, u, γ2, S', rfl, m3, fitV_rep (ρ := fun i => r.getD i 0) hg g2 k2⟩
    cases e with
    | normal => exact fin hq
    | ret => exact fin hq
    | _ => exact hq.elim
end Go.Proofs.Ythifckknijdgfaa.am
