/-
  A machine of values: calls. A function's row: what it comes to, of values and of the variables that are handed in. No program is named here.
-/
import Derived.Test.YthifckknijdgfaaAm9
namespace Go.Proofs.Ythifckknijdgfaa.am
open Go.ChangeShapes Go.WideShapes Go.ChangeAt Go.RowKit
set_option linter.unusedVariables false
set_option linter.unusedSimpArgs false

/-! Other names -/
def Cap.ren (ρ : Nat → Nat) : Cap → Cap
  | .ptr id off => .ptr (ρ id) off
  | .pv p => .pv p
def AC.ren (ρ : Nat → Nat) : AC → AC
  | .pv p => .pv p
  | .row id es l => .row (ρ id) es l
  | .arr id es n => .arr (ρ id) es n
  | .cut es l => .cut es l
  | .ptr id off => .ptr (ρ id) off
  | .fn f a b => .fn f (a.map (Cap.ren ρ)) (b.map (Cap.ren ρ))
  | .flag => .flag
  | .top => .top
def AT.ren (ρ : Nat → Nat) : AT → AT
  | .c x => .c (x.ren ρ)
  | .agg l => .agg (l.map (AC.ren ρ))
def AV.ren (ρ : Nat → Nat) : AV → AV
  | .v x => .v (x.ren ρ)
  | .rp c o => .rp c o
  | .ep id es i o => .ep (ρ id) es i o
  | .tup l => .tup (l.map (AT.ren ρ))
  | .top => .top
def AO.ren (ρ : Nat → Nat) : AO → AO
  | .box l => .box (l.map (AC.ren ρ))
  | .row e es => .row e es
  | .arr e es l => .arr e es l

section
variable {γ γ' : Nat → G} {S : CS} {w : World} {ρ : Nat → Nat}
theorem map_at {α β : Type} {f : α → β} {l : List α} {i : Nat} {y : β} (h : (l.map f)[i]? = some y) : ∃ x, l[i]? = some x ∧ y = f x := by
  rw [List.getElem?_map] at h
  obtain ⟨x, h1, h2⟩ := Option.map_eq_some_iff.1 h
  exact ⟨x, h1, h2.symm⟩
theorem RepCaps.ren (hρ : ∀ i, γ i = .un ∨ γ' (ρ i) = γ i) {vs : List Value} {l : List Cap} (h : RepCaps γ S w vs l) : RepCaps γ' S w vs (l.map (Cap.ren ρ)) := by
  refine ⟨by rw [h.1, List.length_map], fun i c hc => ?_⟩
  obtain ⟨x, hx, rfl⟩ := map_at hc
  obtain ⟨v, h1, h2⟩ := h.2 i x hx
  refine ⟨v, h1, ?_⟩
  cases x with
  | ptr id off => obtain ⟨b, h3, h4⟩ := h2; exact ⟨b, ((hρ id).resolve_left (by rw [h3]; simp)).trans h3, h4⟩
  | pv p => exact h2
theorem rval (hρ : ∀ i, γ i = .un ∨ γ' (ρ i) = γ i) {id : Nat} {v : Value} (h : γ id = .dead ∨ γ id = .val v) : γ' (ρ id) = .dead ∨ γ' (ρ id) = .val v := by
  rcases hρ id with k | k
  · rw [k] at h; rcases h with h | h <;> cases h
  · rw [k]; exact h
theorem RepC.ren (hρ : ∀ i, γ i = .un ∨ γ' (ρ i) = γ i) {v : Value} {c : AC} (h : RepC γ S w v c) : RepC γ' S w v (c.ren ρ) := by
  cases c with
  | pv p => exact h
  | row id es l => exact ⟨h.1, rval hρ h.2⟩
  | arr id es n => exact ⟨h.1, rval hρ h.2⟩
  | cut es l => exact h
  | ptr id off => obtain ⟨b, h3, h4⟩ := h; exact ⟨b, ((hρ id).resolve_left (by rw [h3]; simp)).trans h3, h4⟩
  | fn f a b => obtain ⟨xs, ys, h1, h2, h3⟩ := h; exact ⟨xs, ys, h1, h2.ren hρ, h3.ren hρ⟩
  | flag => exact h
  | top => exact h
theorem RepCs.ren (hρ : ∀ i, γ i = .un ∨ γ' (ρ i) = γ i) {vs : List Value} {l : List AC} (h : RepCs γ S w vs l) : RepCs γ' S w vs (l.map (AC.ren ρ)) := by
  refine ⟨by rw [h.1, List.length_map], fun i c hc => ?_⟩
  obtain ⟨x, hx, rfl⟩ := map_at hc
  obtain ⟨v, h1, h2⟩ := h.2 i x hx
  exact ⟨v, h1, h2.ren hρ⟩
theorem RepT.ren (hρ : ∀ i, γ i = .un ∨ γ' (ρ i) = γ i) {v : Value} {c : AT} (h : RepT γ S w v c) : RepT γ' S w v (c.ren ρ) := by
  cases c with
  | c x => exact RepC.ren hρ h
  | agg l => obtain ⟨cs, h1, h2⟩ := h; exact ⟨cs, h1, h2.ren hρ⟩
theorem RepV.ren (hρ : ∀ i, γ i = .un ∨ γ' (ρ i) = γ i) {v : Value} {c : AV} (h : RepV γ S w v c) : RepV γ' S w v (c.ren ρ) := by
  cases c with
  | v x => exact RepT.ren hρ h
  | rp c o => exact h
  | ep id es i o =>
    obtain ⟨b, h1, h2⟩ := h
    refine ⟨b, h1, ?_⟩
    rcases hρ id with k | k
    · rw [k] at h2; rcases h2 with h2 | ⟨n, c, h2⟩ <;> cases h2
    · rw [k]; exact h2
  | tup l =>
    obtain ⟨cs, h1, h2⟩ := h
    refine ⟨cs, h1, by rw [h2.1, List.length_map], fun i c hc => ?_⟩
    obtain ⟨x, hx, rfl⟩ := map_at hc
    obtain ⟨v, h3, h4⟩ := h2.2 i x hx
    exact ⟨v, h3, h4.ren hρ⟩
  | top => trivial
theorem Obj'.ren (hρ : ∀ i, γ i = .un ∨ γ' (ρ i) = γ i) {x : Nat} {o : AO} (h : Obj' γ S w x o) : Obj' γ' S w (ρ x) (o.ren ρ) := by
  cases o with
  | box cells => obtain ⟨b, cs, t, h1, h2, h3, h4⟩ := h; exact ⟨b, cs, t, ((hρ x).resolve_left (by rw [h1]; simp)).trans h1, h2, h3.ren hρ, h4⟩
  | row e es => obtain ⟨v, n, xs, h1, h2⟩ := h; exact ⟨v, n, xs, ((hρ x).resolve_left (by rw [h1]; simp)).trans h1, h2⟩
  | arr e es l => obtain ⟨v, xs, h1, h2⟩ := h; exact ⟨v, xs, ((hρ x).resolve_left (by rw [h1]; simp)).trans h1, h2⟩
end

/-! What is handed on fits what is asked for: 'ρ' tells which of the caller's names one of the n names asked for is. -/
def fitCap (n : Nat) (ρ : Nat → Nat) : Cap → Cap → Prop
  | .ptr i o, .ptr j o' => i < n ∧ ρ i = j ∧ o = o'
  | .pv p, .pv q => p = q
  | _, _ => False
def fitCaps (n : Nat) (ρ : Nat → Nat) : List Cap → List Cap → Prop
  | [], [] => True
  | a :: l, b :: m => fitCap n ρ a b ∧ fitCaps n ρ l m
  | _, _ => False
mutual
def fitP : PV → PV → Prop
  | .sl _ l, .nilS => l = []
  | .sl es l, .sl es' l' => es = es' ∧ (l = l' ∨ fitQs l l')
  | p, q => p = q
def fitQs : List (List PV) → List (List PV) → Prop
  | [], [] => True
  | a :: l, b :: m => fitQ a b ∧ fitQs l m
  | _, _ => False
def fitQ : List PV → List PV → Prop
  | [], [] => True
  | a :: l, b :: m => fitP a b ∧ fitQ l m
  | _, _ => False
end
theorem fitP_sn (es : Nat) (l : List (List PV)) : fitP (.sl es l) .nilS = (l = []) := by rw [fitP]
theorem fitP_ss (es es' : Nat) (l l' : List (List PV)) : fitP (.sl es l) (.sl es' l') = (es = es' ∧ (l = l' ∨ fitQs l l')) := by rw [fitP]
theorem fitP_sl (es : Nat) (l : List (List PV)) (u : Value) : fitP (.sl es l) (.lit u) = False := by rw [fitP] <;> simp
theorem fitP_l (a : Value) (q : PV) : fitP (.lit a) q = (PV.lit a = q) := by cases q <;> rw [fitP] <;> simp
theorem fitP_n (q : PV) : fitP .nilS q = (PV.nilS = q) := by cases q <;> rw [fitP] <;> simp
theorem fitQs_nil : fitQs [] [] = True := by rw [fitQs]
theorem fitQs_cons (a b : List PV) (l m : List (List PV)) : fitQs (a :: l) (b :: m) = (fitQ a b ∧ fitQs l m) := by rw [fitQs]
theorem fitQs_nc (b : List PV) (m : List (List PV)) : fitQs [] (b :: m) = False := by rw [fitQs] <;> simp
theorem fitQs_cn (b : List PV) (m : List (List PV)) : fitQs (b :: m) [] = False := by rw [fitQs] <;> simp
theorem fitQ_nil : fitQ [] [] = True := by rw [fitQ]
theorem fitQ_cons (a b : PV) (l m : List PV) : fitQ (a :: l) (b :: m) = (fitP a b ∧ fitQ l m) := by rw [fitQ]
theorem fitQ_nc (b : PV) (m : List PV) : fitQ [] (b :: m) = False := by rw [fitQ] <;> simp
theorem fitQ_cn (b : PV) (m : List PV) : fitQ (b :: m) [] = False := by rw [fitQ] <;> simp
theorem fitQs_at : ∀ {l m : List (List PV)}, fitQs l m → l.length = m.length ∧ ∀ (i : Nat) e, l[i]? = some e → ∃ e', m[i]? = some e' ∧ fitQ e e'
  | [], [], _ => ⟨rfl, fun i e h => by simp at h⟩
  | a :: l, b :: m, h => by
    rw [fitQs_cons] at h
    obtain ⟨k1, k2⟩ := fitQs_at h.2
    refine ⟨by simp [k1], fun i e hi => ?_⟩
    cases i with
    | zero => simp at hi; subst hi; exact ⟨b, rfl, h.1⟩
    | succ i => simp at hi; simpa using k2 i e hi
  | [], _ :: _, h => by rw [fitQs_nc] at h; exact h.elim
  | _ :: _, [], h => by rw [fitQs_cn] at h; exact h.elim
theorem fitQ_at : ∀ {l m : List PV}, fitQ l m → l.length = m.length ∧ ∀ (i : Nat) e, l[i]? = some e → ∃ e', m[i]? = some e' ∧ fitP e e'
  | [], [], _ => ⟨rfl, fun i e h => by simp at h⟩
  | a :: l, b :: m, h => by
    rw [fitQ_cons] at h
    obtain ⟨k1, k2⟩ := fitQ_at h.2
    refine ⟨by simp [k1], fun i e hi => ?_⟩
    cases i with
    | zero => simp at hi; subst hi; exact ⟨b, rfl, h.1⟩
    | succ i => simp at hi; simpa using k2 i e hi
  | [], _ :: _, h => by rw [fitQ_nc] at h; exact h.elim
  | _ :: _, [], h => by rw [fitQ_cn] at h; exact h.elim
theorem fitP_refl (p : PV) : fitP p p := by cases p <;> simp [fitP_l, fitP_n, fitP_ss]
/-- A list of elements fits another one. -/
def fitLL (l m : List (List PV)) : Prop := l = m ∨ fitQs l m
def fitC (n : Nat) (ρ : Nat → Nat) : AC → AC → Prop
  | .top, _ => True
  | .pv p, .pv q => fitP p q
  | .pv (.sl es l), .row _ es' l' => fitP (.sl es l) (.sl es' l')
  | .pv (.sl es l), .cut es' l' => fitP (.sl es l) (.sl es' l')
  | .row i es l, .row j es' l' => i < n ∧ ρ i = j ∧ fitP (.sl es l) (.sl es' l')
  | .arr i es m, .arr j es' m' => i < n ∧ ρ i = j ∧ es = es' ∧ m = m'
  | .cut es l, .cut es' l' => es = es' ∧ l = l'
  | .ptr i o, .ptr j o' => i < n ∧ ρ i = j ∧ o = o'
  | .fn f a b, .fn g c d => f = g ∧ fitCaps n ρ a c ∧ fitCaps n ρ b d
  | .flag, .flag => True
  | .flag, .pv (.lit (.bool _)) => True
  | _, _ => False
def fitCs (n : Nat) (ρ : Nat → Nat) : List AC → List AC → Prop
  | [], [] => True
  | a :: l, b :: m => fitC n ρ a b ∧ fitCs n ρ l m
  | _, _ => False
def fitT (n : Nat) (ρ : Nat → Nat) : AT → AT → Prop
  | .c x, .c y => fitC n ρ x y
  | .agg l, .agg m => fitCs n ρ l m
  | _, _ => False
def fitTs (n : Nat) (ρ : Nat → Nat) : List AT → List AT → Prop
  | [], [] => True
  | a :: l, b :: m => fitT n ρ a b ∧ fitTs n ρ l m
  | _, _ => False
def fitV (n : Nat) (ρ : Nat → Nat) : AV → AV → Prop
  | .top, _ => True
  | .v x, .v y => fitT n ρ x y
  | .rp c o, .rp c' o' => c = c' ∧ o = o'
  | .tup l, .tup m => fitTs n ρ l m
  | _, _ => False
def fitVs (n : Nat) (ρ : Nat → Nat) : List AV → List AV → Prop
  | [], [] => True
  | a :: l, b :: m => fitV n ρ a b ∧ fitVs n ρ l m
  | _, _ => False
def fitO (n : Nat) (ρ : Nat → Nat) : AO → AO → Prop
  | .box l, .box m => fitCs n ρ l m
  | .row e es, .row e' es' => e = e' ∧ es = es'
  | .arr e es l, .arr e' es' l' => e = e' ∧ es = es' ∧ l = l'
  | _, _ => False

section
variable {γ γ' : Nat → G} {S : CS} {w : World} {ρ : Nat → Nat} {n : Nat}
theorem fitCap_rep (hg : ∀ i, i < n → γ' i = γ (ρ i)) {v : Value} {a b : Cap} (h : fitCap n ρ a b) (hb : RepCap γ S w v b) : RepCap γ' S w v a := by
  cases a <;> cases b <;> simp only [fitCap] at h
  · obtain ⟨h1, rfl, rfl⟩ := h
    obtain ⟨k, h3, h4⟩ := hb
    exact ⟨k, (hg _ h1).trans h3, h4⟩
  · subst h; exact hb
theorem fitCaps_rep (hg : ∀ i, i < n → γ' i = γ (ρ i)) : ∀ {l m : List Cap} {vs : List Value}, fitCaps n ρ l m → RepCaps γ S w vs m → RepCaps γ' S w vs l
  | [], [], vs, _, h => ⟨h.1, fun i c hc => by simp at hc⟩
  | a :: l, b :: m, [], _, h => by have := h.1; simp at this
  | a :: l, b :: m, v :: vs, hf, h => by
    obtain ⟨h1, h2⟩ := hf
    obtain ⟨v0, h3, h4⟩ := h.2 0 b rfl
    simp at h3; subst h3
    have ht : RepCaps γ S w vs m := ⟨by have := h.1; simpa using this, fun i c hc => by have := h.2 (i + 1) c (by simpa using hc); simpa using this⟩
    have ih := fitCaps_rep hg h2 ht
    refine ⟨by simp [ih.1], fun i c hc => ?_⟩
    cases i with
    | zero => simp at hc; subst hc; exact ⟨v, rfl, fitCap_rep hg h1 h4⟩
    | succ i => simp at hc; simpa using ih.2 i c hc
  | [], _ :: _, _, h, _ => h.elim
  | _ :: _, [], _, h, _ => h.elim
theorem fitP_rep {q : PV} {v : Value} (hv : RepP S w v q) : ∀ {p : PV}, fitP p q → RepP S w v p := by
  induction hv with
  | lit u hu =>
    intro p h
    cases p with
    | lit a => rw [fitP_l] at h; rw [h]; exact .lit u hu
    | nilS => rw [fitP_n] at h; cases h
    | sl es l => rw [fitP_sl] at h; exact h.elim
  | nilS =>
    intro p h
    cases p with
    | lit a => rw [fitP_l] at h; cases h
    | nilS => exact .nilS
    | sl es l => rw [fitP_sn] at h; subst h; exact .emp none 0 _ (by decide) (fun _ => rfl)
  | emp a c es hm ha =>
    intro p h
    cases p with
    | lit a => rw [fitP_l] at h; cases h
    | nilS => rw [fitP_n] at h; cases h
    | sl es' l =>
      rw [fitP_ss] at h
      obtain ⟨rfl, h⟩ := h
      have : l = [] := by
        rcases h with h | h
        · exact h
        · have := (fitQs_at h).1; exact List.length_eq_zero_iff.1 (by simpa using this)
      subst this
      exact .emp a c es' hm ha
  | sl b off n c es l hlen h0 hc hm hes V hcell hV ih =>
    intro p h
    cases p with
    | lit a => rw [fitP_l] at h; cases h
    | nilS => rw [fitP_n] at h; cases h
    | sl es' l' =>
      rw [fitP_ss] at h
      obtain ⟨rfl, h⟩ := h
      rcases h with rfl | h
      · exact .sl b off n c es' l' hlen h0 hc hm hes V hcell hV
      · obtain ⟨k1, k2⟩ := fitQs_at h
        have at2 : ∀ i e j p, l'[i]? = some e → e[j]? = some p → ∃ e2 p2, l[i]? = some e2 ∧ e2[j]? = some p2 ∧ fitP p p2 := fun i e j p h1 h2 => by
          obtain ⟨e2, g1, g2⟩ := k2 i e h1
          obtain ⟨p2, g3, g4⟩ := (fitQ_at g2).2 j p h2
          exact ⟨e2, p2, g1, g3, g4⟩
        refine .sl b off n c es' l' (k1.trans hlen) h0 hc hm (fun e he => ?_) V (fun i e j p h1 h2 => ?_) (fun i e j p h1 h2 => ?_)
        · obtain ⟨i, hi⟩ := List.mem_iff_getElem?.1 he
          obtain ⟨e2, g1, g2⟩ := k2 i e hi
          rw [(fitQ_at g2).1]; exact hes e2 (List.mem_of_getElem? g1)
        · obtain ⟨e2, p2, g1, g2, _⟩ := at2 i e j p h1 h2
          exact hcell i e2 j p2 g1 g2
        · obtain ⟨e2, p2, g1, g2, g3⟩ := at2 i e j p h1 h2
          exact ih i e2 j p2 g1 g2 g3
theorem fit_val (hg : ∀ i, i < n → γ' i = γ (ρ i)) {i j : Nat} (hi : i < n) (hij : ρ i = j) {v : Value} (h : γ j = .dead ∨ γ j = .val v) : γ' i = .dead ∨ γ' i = .val v := by rw [hg i hi, hij]; exact h
theorem fitC_rep (hg : ∀ i, i < n → γ' i = γ (ρ i)) {v : Value} {a b : AC} (h : fitC n ρ a b) (hb : RepC γ S w v b) : RepC γ' S w v a := by
  unfold fitC at h
  split at h
  · exact hb.one
  · exact fitP_rep hb h
  · exact fitP_rep hb.1 h
  · exact fitP_rep hb.1 h
  · obtain ⟨h1, h2, h3⟩ := h; exact ⟨fitP_rep hb.1 h3, fit_val hg h1 h2 hb.2⟩
  · obtain ⟨h1, h2, rfl, rfl⟩ := h; exact ⟨hb.1, fit_val hg h1 h2 hb.2⟩
  · obtain ⟨rfl, rfl⟩ := h; exact hb
  · obtain ⟨h1, rfl, rfl⟩ := h
    obtain ⟨k, h3, h4⟩ := hb
    exact ⟨k, (hg _ h1).trans h3, h4⟩
  · obtain ⟨rfl, h1, h2⟩ := h
    obtain ⟨xs, ys, h3, h4, h5⟩ := hb
    exact ⟨xs, ys, h3, fitCaps_rep hg h1 h4, fitCaps_rep hg h2 h5⟩
  · exact hb
  · rename_i b; cases hb; exact ⟨b, rfl⟩
  · exact h.elim
theorem fitCs_rep (hg : ∀ i, i < n → γ' i = γ (ρ i)) : ∀ {l m : List AC} {vs : List Value}, fitCs n ρ l m → RepCs γ S w vs m → RepCs γ' S w vs l
  | [], [], vs, _, h => ⟨h.1, fun i c hc => by simp at hc⟩
  | a :: l, b :: m, [], _, h => by have := h.1; simp at this
  | a :: l, b :: m, v :: vs, hf, h => by
    obtain ⟨h1, h2⟩ := hf
    obtain ⟨v0, h3, h4⟩ := h.2 0 b rfl
    simp at h3; subst h3
    have ht : RepCs γ S w vs m := ⟨by have := h.1; simpa using this, fun i c hc => by have := h.2 (i + 1) c (by simpa using hc); simpa using this⟩
    have ih := fitCs_rep hg h2 ht
    refine ⟨by simp [ih.1], fun i c hc => ?_⟩
    cases i with
    | zero => simp at hc; subst hc; exact ⟨v, rfl, fitC_rep hg h1 h4⟩
    | succ i => simp at hc; simpa using ih.2 i c hc
  | [], _ :: _, _, h, _ => h.elim
  | _ :: _, [], _, h, _ => h.elim
theorem fitT_rep (hg : ∀ i, i < n → γ' i = γ (ρ i)) {v : Value} {a b : AT} (h : fitT n ρ a b) (hb : RepT γ S w v b) : RepT γ' S w v a := by
  cases a <;> cases b <;> simp only [fitT] at h
  · exact fitC_rep hg h hb
  · obtain ⟨cs, h1, h2⟩ := hb; exact ⟨cs, h1, fitCs_rep hg h h2⟩
theorem fitTs_rep (hg : ∀ i, i < n → γ' i = γ (ρ i)) : ∀ {l m : List AT} {vs : List Value}, fitTs n ρ l m → RepTs γ S w vs m → RepTs γ' S w vs l
  | [], [], vs, _, h => ⟨h.1, fun i c hc => by simp at hc⟩
  | a :: l, b :: m, [], _, h => by have := h.1; simp at this
  | a :: l, b :: m, v :: vs, hf, h => by
    obtain ⟨h1, h2⟩ := hf
    obtain ⟨v0, h3, h4⟩ := h.2 0 b rfl
    simp at h3; subst h3
    have ht : RepTs γ S w vs m := ⟨by have := h.1; simpa using this, fun i c hc => by have := h.2 (i + 1) c (by simpa using hc); simpa using this⟩
    have ih := fitTs_rep hg h2 ht
    refine ⟨by simp [ih.1], fun i c hc => ?_⟩
    cases i with
    | zero => simp at hc; subst hc; exact ⟨v, rfl, fitT_rep hg h1 h4⟩
    | succ i => simp at hc; simpa using ih.2 i c hc
  | [], _ :: _, _, h, _ => h.elim
  | _ :: _, [], _, h, _ => h.elim
theorem fitV_rep (hg : ∀ i, i < n → γ' i = γ (ρ i)) {v : Value} {a b : AV} (h : fitV n ρ a b) (hb : RepV γ S w v b) : RepV γ' S w v a := by
  cases a <;> cases b <;> simp only [fitV] at h <;> first | trivial | skip
  · exact fitT_rep hg h hb
  · obtain ⟨rfl, rfl⟩ := h; exact hb
  · obtain ⟨cs, h1, h2⟩ := hb; exact ⟨cs, h1, fitTs_rep hg h h2⟩
theorem fitO_rep (hg : ∀ i, i < n → γ' i = γ (ρ i)) {x : Nat} (hx : x < n) {a b : AO} (h : fitO n ρ a b) (hb : Obj' γ S w (ρ x) b) : Obj' γ' S w x a := by
  cases a <;> cases b <;> simp only [fitO] at h
  · obtain ⟨b, cs, t, h1, h2, h3, h4⟩ := hb; exact ⟨b, cs, t, (hg x hx).trans h1, h2, fitCs_rep hg h h3, h4⟩
  · obtain ⟨rfl, rfl⟩ := h; obtain ⟨v, m, xs, h1, h2⟩ := hb; exact ⟨v, m, xs, (hg x hx).trans h1, h2⟩
  · obtain ⟨rfl, rfl, rfl⟩ := h; obtain ⟨v, xs, h1, h2⟩ := hb; exact ⟨v, xs, (hg x hx).trans h1, h2⟩
theorem Obj'.live {x : Nat} {o : AO} (h : Obj' γ S w x o) : γ x ≠ .un ∧ γ x ≠ .dead := by
  cases o with
  | box cells => obtain ⟨b, cs, t, h1, _⟩ := h; rw [h1]; simp
  | row e es => obtain ⟨v, m, xs, h1, _⟩ := h; rw [h1]; simp
  | arr e es l => obtain ⟨v, xs, h1, _⟩ := h; rw [h1]; simp
end

/-! A function's row -/
def RepVs (γ : Nat → G) (S : CS) (w : World) : List Value → List AV → Prop
  | [], [] => True
  | v :: vs, x :: xs => RepV γ S w v x ∧ RepVs γ S w vs xs
  | _, _ => False
theorem RepVs.fit {γ γ' : Nat → G} {S : CS} {w : World} {ρ : Nat → Nat} {n : Nat} (hg : ∀ i, i < n → γ' i = γ (ρ i)) : ∀ {vs : List Value} {l m : List AV}, fitVs n ρ l m → RepVs γ S w vs m → RepVs γ' S w vs l
  | [], [], [], _, _ => trivial
  | v :: vs, a :: l, b :: m, hf, h => ⟨fitV_rep hg hf.1 h.1, RepVs.fit hg hf.2 h.2⟩
  | [], [], _ :: _, h, _ => h.elim
  | [], _ :: _, [], h, _ => h.elim
  | _ :: _, [], [], _, h => h.elim
  | _ :: _, [], _ :: _, h, _ => h.elim
  | _ :: _, _ :: _, [], h, _ => h.elim
  | [], _ :: _, _ :: _, _, h => h.elim
/-- Called with these, and these variables of the caller's, a function gives that, and the variables hold that. -/
def Spec (P : Program) (f : FuncId) (args : List AV) (ch : List AO) (res : AV) (ch' : List (Option AO)) : Prop :=
  ∀ (γ : Nat → G) (S : CS) (w : World) (vs : List Value), Mem ⟨w, S, γ⟩ (fun x => ch[x]?) (fun x => ch.length ≤ x) γ S w → RepVs γ S w vs args →
    Calls P f vs.toArray w fun e w' => ∃ v γ' S', e = .returned v ∧ Mem ⟨w, S, γ⟩ (fun x => (ch'[x]?).join) (fun x => ch'.length ≤ x) γ' S' w' ∧ RepV γ' S' w' v res
end Go.Proofs.Ythifckknijdgfaa.am
