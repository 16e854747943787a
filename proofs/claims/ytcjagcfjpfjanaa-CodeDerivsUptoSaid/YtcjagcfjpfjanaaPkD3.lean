import Derived.IntWalk
import Derived.Test.YtcjagcfjpfjanaaPkD1
import Derived.Test.YtcjagcfjpfjanaaPkD2
set_option maxRecDepth 100000
set_option maxHeartbeats 4000000
section
namespace Go.Proofs.Ytcjagcfjpfjanaa.am
open Go.ChangeShapes Go.WideShapes Go.ChangeAt Go.RowKit
set_option linter.unusedVariables false
set_option linter.unusedSimpArgs false
def Cap.ren (ρ : Nat → Nat) : Cap → Cap
  | .ptr id off => .ptr (ρ id) off
  | .pv p => .pv p
def AC.ren (ρ : Nat → Nat) : AC → AC
  | .pv p => .pv p
  | .row id es l => .row (ρ id) es l
  | .arr id es n => .arr (ρ id) es n
  | .vw id es lo n => .vw (ρ id) es lo n
  | .cut es l => .cut es l
  | .ptr id off => .ptr (ρ id) off
  | .fn f a b => .fn f (a.map (Cap.ren ρ)) (b.map (Cap.ren ρ))
  | .map id => .map (ρ id)
  | .flag => .flag
  | .top => .top
def AT.ren (ρ : Nat → Nat) : AT → AT
  | .c x => .c (x.ren ρ)
  | .agg l => .agg (l.map (AC.ren ρ))
def AV.ren (ρ : Nat → Nat) : AV → AV
  | .v x => .v (x.ren ρ)
  | .rp c o => .rp c o
  | .ep id es i o => .ep (ρ id) es i o
  | .tup l => .tup (l.map (AT.ren ρ))
  | .top => .top
def AO.ren (ρ : Nat → Nat) : AO → AO
  | .box l => .box (l.map (AC.ren ρ))
  | .row e es => .row e es
  | .arr e es l => .arr e es l
  | .lib L => .lib L
  | .bld t c => .bld t (c.ren ρ)
  | .mp q l => .mp q l
section
variable {γ γ' : Nat → G} {S : CS} {w : World} {ρ : Nat → Nat}
theorem map_at {α β : Type} {f : α → β} {l : List α} {i : Nat} {y : β} (h : (l.map f)[i]? = some y) : ∃ x, l[i]? = some x ∧ y = f x := by
  rw [List.getElem?_map] at h
  obtain ⟨x, h1, h2⟩ := Option.map_eq_some_iff.1 h
  exact ⟨x, h1, h2.symm⟩
theorem RepCaps.ren (hρ : ∀ i, γ i = .un ∨ γ' (ρ i) = γ i) {vs : List Value} {l : List Cap} (h : RepCaps γ S w vs l) : RepCaps γ' S w vs (l.map (Cap.ren ρ)) := by
  refine ⟨by rw [h.1, List.length_map], fun i c hc => ?_⟩
  obtain ⟨x, hx, rfl⟩ := map_at hc
  obtain ⟨v, h1, h2⟩ := h.2 i x hx
  refine ⟨v, h1, ?_⟩
  cases x with
  | ptr id off => obtain ⟨b, h3, h4⟩ := h2; exact ⟨b, ((hρ id).resolve_left (by rw [h3]; simp)).trans h3, h4⟩
  | pv p => exact h2
theorem rval (hρ : ∀ i, γ i = .un ∨ γ' (ρ i) = γ i) {id : Nat} {v : Value} (h : γ id = .dead ∨ γ id = .val v) : γ' (ρ id) = .dead ∨ γ' (ρ id) = .val v := by
  rcases hρ id with k | k
  · rw [k] at h; rcases h with h | h <;> cases h
  · rw [k]; exact h
theorem RepC.ren (hρ : ∀ i, γ i = .un ∨ γ' (ρ i) = γ i) {v : Value} {c : AC} (h : RepC γ S w v c) : RepC γ' S w v (c.ren ρ) := by
  cases c with
  | pv p => exact h
  | row id es l => exact ⟨h.1, rval hρ h.2⟩
  | arr id es n => exact ⟨h.1, rval hρ h.2⟩
  | vw id es lo n => obtain ⟨a, m, c, h1, h2⟩ := h; exact ⟨a, m, c, rval hρ h1, h2⟩
  | cut es l => exact h
  | ptr id off => obtain ⟨b, h3, h4⟩ := h; exact ⟨b, ((hρ id).resolve_left (by rw [h3]; simp)).trans h3, h4⟩
  | fn f a b => obtain ⟨xs, ys, h1, h2, h3⟩ := h; exact ⟨xs, ys, h1, h2.ren hρ, h3.ren hρ⟩
  | map id => obtain ⟨b, h3, h4⟩ := h; exact ⟨b, ((hρ id).resolve_left (by rw [h3]; simp)).trans h3, h4⟩
  | flag => exact h
  | top => exact h
theorem RepCs.ren (hρ : ∀ i, γ i = .un ∨ γ' (ρ i) = γ i) {vs : List Value} {l : List AC} (h : RepCs γ S w vs l) : RepCs γ' S w vs (l.map (AC.ren ρ)) := by
  refine ⟨by rw [h.1, List.length_map], fun i c hc => ?_⟩
  obtain ⟨x, hx, rfl⟩ := map_at hc
  obtain ⟨v, h1, h2⟩ := h.2 i x hx
  exact ⟨v, h1, h2.ren hρ⟩
theorem RepT.ren (hρ : ∀ i, γ i = .un ∨ γ' (ρ i) = γ i) {v : Value} {c : AT} (h : RepT γ S w v c) : RepT γ' S w v (c.ren ρ) := by
  cases c with
  | c x => exact RepC.ren hρ h
  | agg l => obtain ⟨cs, h1, h2⟩ := h; exact ⟨cs, h1, h2.ren hρ⟩
theorem RepV.ren (hρ : ∀ i, γ i = .un ∨ γ' (ρ i) = γ i) {v : Value} {c : AV} (h : RepV γ S w v c) : RepV γ' S w v (c.ren ρ) := by
  cases c with
  | v x => exact RepT.ren hρ h
  | rp c o => exact h
  | ep id es i o =>
    obtain ⟨b, h1, h2⟩ := h
    refine ⟨b, h1, ?_⟩
    rcases hρ id with k | k
    · rw [k] at h2; rcases h2 with h2 | ⟨n, c, h2⟩ <;> cases h2
    · rw [k]; exact h2
  | tup l =>
    obtain ⟨cs, h1, h2⟩ := h
    refine ⟨cs, h1, by rw [h2.1, List.length_map], fun i c hc => ?_⟩
    obtain ⟨x, hx, rfl⟩ := map_at hc
    obtain ⟨v, h3, h4⟩ := h2.2 i x hx
    exact ⟨v, h3, h4.ren hρ⟩
  | top => trivial
theorem Obj'.ren (hρ : ∀ i, γ i = .un ∨ γ' (ρ i) = γ i) {x : Nat} {o : AO} (h : Obj' γ S w x o) : Obj' γ' S w (ρ x) (o.ren ρ) := by
  cases o with
  | box cells => obtain ⟨b, cs, t, h1, h2, h3, h4⟩ := h; exact ⟨b, cs, t, ((hρ x).resolve_left (by rw [h1]; simp)).trans h1, h2, h3.ren hρ, h4⟩
  | row e es => obtain ⟨v, n, xs, h1, h2⟩ := h; exact ⟨v, n, xs, ((hρ x).resolve_left (by rw [h1]; simp)).trans h1, h2⟩
  | arr e es l => obtain ⟨v, xs, h1, h2⟩ := h; exact ⟨v, xs, ((hρ x).resolve_left (by rw [h1]; simp)).trans h1, h2⟩
  | mp q l => obtain ⟨b, es, c, h1, h2⟩ := h; exact ⟨b, es, c, ((hρ x).resolve_left (by rw [h1]; simp)).trans h1, h2⟩
  | lib L => exact ⟨((hρ x).resolve_left (by rw [h.1]; simp)).trans h.1, h.2⟩
  | bld t c => obtain ⟨b, p, v, h1, h2, h3, h4, h5⟩ := h; exact ⟨b, p, v, ((hρ x).resolve_left (by rw [h1]; simp)).trans h1, h2, h3, h4.ren hρ, h5⟩
end
def fitCap (n : Nat) (ρ : Nat → Nat) : Cap → Cap → Prop
  | .ptr i o, .ptr j o' => i < n ∧ ρ i = j ∧ o = o'
  | .pv p, .pv q => p = q
  | _, _ => False
def fitCaps (n : Nat) (ρ : Nat → Nat) : List Cap → List Cap → Prop
  | [], [] => True
  | a :: l, b :: m => fitCap n ρ a b ∧ fitCaps n ρ l m
  | _, _ => False
mutual
def fitP : PV → PV → Prop
  | .sl _ l, .nilS => l = []
  | .sl es l, .sl es' l' => es = es' ∧ (l = l' ∨ fitQs l l')
  | p, q => p = q
def fitQs : List (List PV) → List (List PV) → Prop
  | [], [] => True
  | a :: l, b :: m => fitQ a b ∧ fitQs l m
  | _, _ => False
def fitQ : List PV → List PV → Prop
  | [], [] => True
  | a :: l, b :: m => fitP a b ∧ fitQ l m
  | _, _ => False
end
theorem fitP_sn (es : Nat) (l : List (List PV)) : fitP (.sl es l) .nilS = (l = []) := by rw [fitP]
theorem fitP_ss (es es' : Nat) (l l' : List (List PV)) : fitP (.sl es l) (.sl es' l') = (es = es' ∧ (l = l' ∨ fitQs l l')) := by rw [fitP]
theorem fitP_sl (es : Nat) (l : List (List PV)) (u : Value) : fitP (.sl es l) (.lit u) = False := by rw [fitP] <;> simp
theorem fitP_l (a : Value) (q : PV) : fitP (.lit a) q = (PV.lit a = q) := by cases q <;> rw [fitP] <;> simp
theorem fitP_n (q : PV) : fitP .nilS q = (PV.nilS = q) := by cases q <;> rw [fitP] <;> simp
theorem fitQs_nil : fitQs [] [] = True := by rw [fitQs]
theorem fitQs_cons (a b : List PV) (l m : List (List PV)) : fitQs (a :: l) (b :: m) = (fitQ a b ∧ fitQs l m) := by rw [fitQs]
theorem fitQs_nc (b : List PV) (m : List (List PV)) : fitQs [] (b :: m) = False := by rw [fitQs] <;> simp
theorem fitQs_cn (b : List PV) (m : List (List PV)) : fitQs (b :: m) [] = False := by rw [fitQs] <;> simp
theorem fitQ_nil : fitQ [] [] = True := by rw [fitQ]
theorem fitQ_cons (a b : PV) (l m : List PV) : fitQ (a :: l) (b :: m) = (fitP a b ∧ fitQ l m) := by rw [fitQ]
theorem fitQ_nc (b : PV) (m : List PV) : fitQ [] (b :: m) = False := by rw [fitQ] <;> simp
theorem fitQ_cn (b : PV) (m : List PV) : fitQ (b :: m) [] = False := by rw [fitQ] <;> simp
theorem fitQs_at : ∀ {l m : List (List PV)}, fitQs l m → l.length = m.length ∧ ∀ (i : Nat) e, l[i]? = some e → ∃ e', m[i]? = some e' ∧ fitQ e e'
  | [], [], _ => ⟨rfl, fun i e h => by simp at h⟩
  | a :: l, b :: m, h => by
    rw [fitQs_cons] at h
    obtain ⟨k1, k2⟩ := fitQs_at h.2
    refine ⟨by simp [k1], fun i e hi => ?_⟩
    cases i with
    | zero => simp at hi; subst hi; exact ⟨b, rfl, h.1⟩
    | succ i => simp at hi; simpa using k2 i e hi
  | [], _ :: _, h => by rw [fitQs_nc] at h; exact h.elim
  | _ :: _, [], h => by rw [fitQs_cn] at h; exact h.elim
theorem fitQ_at : ∀ {l m : List PV}, fitQ l m → l.length = m.length ∧ ∀ (i : Nat) e, l[i]? = some e → ∃ e', m[i]? = some e' ∧ fitP e e'
  | [], [], _ => ⟨rfl, fun i e h => by simp at h⟩
  | a :: l, b :: m, h => by
    rw [fitQ_cons] at h
    obtain ⟨k1, k2⟩ := fitQ_at h.2
    refine ⟨by simp [k1], fun i e hi => ?_⟩
    cases i with
    | zero => simp at hi; subst hi; exact ⟨b, rfl, h.1⟩
    | succ i => simp at hi; simpa using k2 i e hi
  | [], _ :: _, h => by rw [fitQ_nc] at h; exact h.elim
  | _ :: _, [], h => by rw [fitQ_cn] at h; exact h.elim
theorem fitP_refl (p : PV) : fitP p p := by cases p <;> simp [fitP_l, fitP_n, fitP_ss]
def fitC (n : Nat) (ρ : Nat → Nat) : AC → AC → Prop
  | .top, _ => True
  | .pv p, .pv q => fitP p q
  | .pv (.sl es l), .row _ es' l' => fitP (.sl es l) (.sl es' l')
  | .pv (.sl es l), .cut es' l' => fitP (.sl es l) (.sl es' l')
  | .row i es l, .row j es' l' => i < n ∧ ρ i = j ∧ fitP (.sl es l) (.sl es' l')
  | .arr i es m, .arr j es' m' => i < n ∧ ρ i = j ∧ es = es' ∧ m = m'
  | .vw i es lo m, .vw j es' lo' m' => i < n ∧ ρ i = j ∧ es = es' ∧ lo = lo' ∧ m = m'
  | .cut es l, .cut es' l' => es = es' ∧ l = l'
  | .ptr i o, .ptr j o' => i < n ∧ ρ i = j ∧ o = o'
  | .fn f a b, .fn g c d => f = g ∧ fitCaps n ρ a c ∧ fitCaps n ρ b d
  | .map i, .map j => i < n ∧ ρ i = j
  | .flag, .flag => True
  | .flag, .pv (.lit (.bool _)) => True
  | _, _ => False
def fitCs (n : Nat) (ρ : Nat → Nat) : List AC → List AC → Prop
  | [], [] => True
  | a :: l, b :: m => fitC n ρ a b ∧ fitCs n ρ l m
  | _, _ => False
def fitT (n : Nat) (ρ : Nat → Nat) : AT → AT → Prop
  | .c x, .c y => fitC n ρ x y
  | .agg l, .agg m => fitCs n ρ l m
  | _, _ => False
def fitTs (n : Nat) (ρ : Nat → Nat) : List AT → List AT → Prop
  | [], [] => True
  | a :: l, b :: m => fitT n ρ a b ∧ fitTs n ρ l m
  | _, _ => False
def fitV (n : Nat) (ρ : Nat → Nat) : AV → AV → Prop
  | .top, _ => True
  | .v x, .v y => fitT n ρ x y
  | .rp c o, .rp c' o' => c = c' ∧ o = o'
  | .tup l, .tup m => fitTs n ρ l m
  | _, _ => False
def fitVs (n : Nat) (ρ : Nat → Nat) : List AV → List AV → Prop
  | [], [] => True
  | a :: l, b :: m => fitV n ρ a b ∧ fitVs n ρ l m
  | _, _ => False
def fitO (n : Nat) (ρ : Nat → Nat) : AO → AO → Prop
  | .box l, .box m => fitCs n ρ l m
  | .row e es, .row e' es' => e = e' ∧ es = es'
  | .arr e es l, .arr e' es' l' => e = e' ∧ es = es' ∧ l = l'
  | .lib L, .lib M => L = M
  | .bld t c, .bld t' c' => t = t' ∧ fitC n ρ c c'
  | .mp q l, .mp q' l' => q = q' ∧ l = l'
  | _, _ => False
section
variable {γ γ' : Nat → G} {S : CS} {w : World} {ρ : Nat → Nat} {n : Nat}
theorem fitCap_rep (hg : ∀ i, i < n → γ' i = γ (ρ i)) {v : Value} {a b : Cap} (h : fitCap n ρ a b) (hb : RepCap γ S w v b) : RepCap γ' S w v a := by
  cases a <;> cases b <;> simp only [fitCap] at h
  · obtain ⟨h1, rfl, rfl⟩ := h
    obtain ⟨k, h3, h4⟩ := hb
    exact ⟨k, (hg _ h1).trans h3, h4⟩
  · subst h; exact hb
theorem fitCaps_rep (hg : ∀ i, i < n → γ' i = γ (ρ i)) : ∀ {l m : List Cap} {vs : List Value}, fitCaps n ρ l m → RepCaps γ S w vs m → RepCaps γ' S w vs l
  | [], [], vs, _, h => ⟨h.1, fun i c hc => by simp at hc⟩
  | a :: l, b :: m, [], _, h => by have := h.1; simp at this
  | a :: l, b :: m, v :: vs, hf, h => by
    obtain ⟨h1, h2⟩ := hf
    obtain ⟨v0, h3, h4⟩ := h.2 0 b rfl
    simp at h3; subst h3
    have ht : RepCaps γ S w vs m := ⟨by have := h.1; simpa using this, fun i c hc => by have := h.2 (i + 1) c (by simpa using hc); simpa using this⟩
    have ih := fitCaps_rep hg h2 ht
    refine ⟨by simp [ih.1], fun i c hc => ?_⟩
    cases i with
    | zero => simp at hc; subst hc; exact ⟨v, rfl, fitCap_rep hg h1 h4⟩
    | succ i => simp at hc; simpa using ih.2 i c hc
  | [], _ :: _, _, h, _ => h.elim
  | _ :: _, [], _, h, _ => h.elim
theorem fitP_rep {q : PV} {v : Value} (hv : RepP S w v q) : ∀ {p : PV}, fitP p q → RepP S w v p := by
  induction hv with
  | lit u hu =>
    intro p h
    cases p with
    | lit a => rw [fitP_l] at h; rw [h]; exact .lit u hu
    | nilS => rw [fitP_n] at h; cases h
    | sl es l => rw [fitP_sl] at h; exact h.elim
  | nilS =>
    intro p h
    cases p with
    | lit a => rw [fitP_l] at h; cases h
    | nilS => exact .nilS
    | sl es l => rw [fitP_sn] at h; subst h; exact .emp none 0 _ (by decide) (fun _ => rfl)
  | emp a c es hm ha =>
    intro p h
    cases p with
    | lit a => rw [fitP_l] at h; cases h
    | nilS => rw [fitP_n] at h; cases h
    | sl es' l =>
      rw [fitP_ss] at h
      obtain ⟨rfl, h⟩ := h
      have : l = [] := by
        rcases h with h | h
        · exact h
        · have := (fitQs_at h).1; exact List.length_eq_zero_iff.1 (by simpa using this)
      subst this
      exact .emp a c es' hm ha
  | sl b off n c es l hlen h0 hc hm hes V hcell hV ih =>
    intro p h
    cases p with
    | lit a => rw [fitP_l] at h; cases h
    | nilS => rw [fitP_n] at h; cases h
    | sl es' l' =>
      rw [fitP_ss] at h
      obtain ⟨rfl, h⟩ := h
      rcases h with rfl | h
      · exact .sl b off n c es' l' hlen h0 hc hm hes V hcell hV
      · obtain ⟨k1, k2⟩ := fitQs_at h
        have at2 : ∀ i e j p, l'[i]? = some e → e[j]? = some p → ∃ e2 p2, l[i]? = some e2 ∧ e2[j]? = some p2 ∧ fitP p p2 := fun i e j p h1 h2 => by
          obtain ⟨e2, g1, g2⟩ := k2 i e h1
          obtain ⟨p2, g3, g4⟩ := (fitQ_at g2).2 j p h2
          exact ⟨e2, p2, g1, g3, g4⟩
        refine .sl b off n c es' l' (k1.trans hlen) h0 hc hm (fun e he => ?_) V (fun i e j p h1 h2 => ?_) (fun i e j p h1 h2 => ?_)
        · obtain ⟨i, hi⟩ := List.mem_iff_getElem?.1 he
          obtain ⟨e2, g1, g2⟩ := k2 i e hi
          rw [(fitQ_at g2).1]; exact hes e2 (List.mem_of_getElem? g1)
        · obtain ⟨e2, p2, g1, g2, _⟩ := at2 i e j p h1 h2
          exact hcell i e2 j p2 g1 g2
        · obtain ⟨e2, p2, g1, g2, g3⟩ := at2 i e j p h1 h2
          exact ih i e2 j p2 g1 g2 g3
theorem fit_val (hg : ∀ i, i < n → γ' i = γ (ρ i)) {i j : Nat} (hi : i < n) (hij : ρ i = j) {v : Value} (h : γ j = .dead ∨ γ j = .val v) : γ' i = .dead ∨ γ' i = .val v := by rw [hg i hi, hij]; exact h
theorem fitC_rep (hg : ∀ i, i < n → γ' i = γ (ρ i)) {v : Value} {a b : AC} (h : fitC n ρ a b) (hb : RepC γ S w v b) : RepC γ' S w v a := by
  unfold fitC at h
  split at h
  · exact hb.one
  · exact fitP_rep hb h
  · exact fitP_rep hb.1 h
  · exact fitP_rep hb.1 h
  · obtain ⟨h1, h2, h3⟩ := h; exact ⟨fitP_rep hb.1 h3, fit_val hg h1 h2 hb.2⟩
  · obtain ⟨h1, h2, rfl, rfl⟩ := h; exact ⟨hb.1, fit_val hg h1 h2 hb.2⟩
  · obtain ⟨h1, h2, rfl, rfl, rfl⟩ := h; obtain ⟨a, m, c, h3, h4⟩ := hb; exact ⟨a, m, c, fit_val hg h1 h2 h3, h4⟩
  · obtain ⟨rfl, rfl⟩ := h; exact hb
  · obtain ⟨h1, rfl, rfl⟩ := h
    obtain ⟨k, h3, h4⟩ := hb
    exact ⟨k, (hg _ h1).trans h3, h4⟩
  · obtain ⟨rfl, h1, h2⟩ := h
    obtain ⟨xs, ys, h3, h4, h5⟩ := hb
    exact ⟨xs, ys, h3, fitCaps_rep hg h1 h4, fitCaps_rep hg h2 h5⟩
  · obtain ⟨h1, rfl⟩ := h
    obtain ⟨k, h3, h4⟩ := hb
    exact ⟨k, (hg _ h1).trans h3, h4⟩
  · exact hb
  · rename_i b; cases hb; exact ⟨b, rfl⟩
  · exact h.elim
theorem fitCs_rep (hg : ∀ i, i < n → γ' i = γ (ρ i)) : ∀ {l m : List AC} {vs : List Value}, fitCs n ρ l m → RepCs γ S w vs m → RepCs γ' S w vs l
  | [], [], vs, _, h => ⟨h.1, fun i c hc => by simp at hc⟩
  | a :: l, b :: m, [], _, h => by have := h.1; simp at this
  | a :: l, b :: m, v :: vs, hf, h => by
    obtain ⟨h1, h2⟩ := hf
    obtain ⟨v0, h3, h4⟩ := h.2 0 b rfl
    simp at h3; subst h3
    have ht : RepCs γ S w vs m := ⟨by have := h.1; simpa using this, fun i c hc => by have := h.2 (i + 1) c (by simpa using hc); simpa using this⟩
    have ih := fitCs_rep hg h2 ht
    refine ⟨by simp [ih.1], fun i c hc => ?_⟩
    cases i with
    | zero => simp at hc; subst hc; exact ⟨v, rfl, fitC_rep hg h1 h4⟩
    | succ i => simp at hc; simpa using ih.2 i c hc
  | [], _ :: _, _, h, _ => h.elim
  | _ :: _, [], _, h, _ => h.elim
theorem fitT_rep (hg : ∀ i, i < n → γ' i = γ (ρ i)) {v : Value} {a b : AT} (h : fitT n ρ a b) (hb : RepT γ S w v b) : RepT γ' S w v a := by
  cases a <;> cases b <;> simp only [fitT] at h
  · exact fitC_rep hg h hb
  · obtain ⟨cs, h1, h2⟩ := hb; exact ⟨cs, h1, fitCs_rep hg h h2⟩
theorem fitTs_rep (hg : ∀ i, i < n → γ' i = γ (ρ i)) : ∀ {l m : List AT} {vs : List Value}, fitTs n ρ l m → RepTs γ S w vs m → RepTs γ' S w vs l
  | [], [], vs, _, h => ⟨h.1, fun i c hc => by simp at hc⟩
  | a :: l, b :: m, [], _, h => by have := h.1; simp at this
  | a :: l, b :: m, v :: vs, hf, h => by
    obtain ⟨h1, h2⟩ := hf
    obtain ⟨v0, h3, h4⟩ := h.2 0 b rfl
    simp at h3; subst h3
    have ht : RepTs γ S w vs m := ⟨by have := h.1; simpa using this, fun i c hc => by have := h.2 (i + 1) c (by simpa using hc); simpa using this⟩
    have ih := fitTs_rep hg h2 ht
    refine ⟨by simp [ih.1], fun i c hc => ?_⟩
    cases i with
    | zero => simp at hc; subst hc; exact ⟨v, rfl, fitT_rep hg h1 h4⟩
    | succ i => simp at hc; simpa using ih.2 i c hc
  | [], _ :: _, _, h, _ => h.elim
  | _ :: _, [], _, h, _ => h.elim
theorem fitV_rep (hg : ∀ i, i < n → γ' i = γ (ρ i)) {v : Value} {a b : AV} (h : fitV n ρ a b) (hb : RepV γ S w v b) : RepV γ' S w v a := by
  cases a <;> cases b <;> simp only [fitV] at h <;> first | trivial | skip
  · exact fitT_rep hg h hb
  · obtain ⟨rfl, rfl⟩ := h; exact hb
  · obtain ⟨cs, h1, h2⟩ := hb; exact ⟨cs, h1, fitTs_rep hg h h2⟩
theorem fitO_rep (hg : ∀ i, i < n → γ' i = γ (ρ i)) {x : Nat} (hx : x < n) {a b : AO} (h : fitO n ρ a b) (hb : Obj' γ S w (ρ x) b) : Obj' γ' S w x a := by
  cases a <;> cases b <;> simp only [fitO] at h
  · obtain ⟨b, cs, t, h1, h2, h3, h4⟩ := hb; exact ⟨b, cs, t, (hg x hx).trans h1, h2, fitCs_rep hg h h3, h4⟩
  · obtain ⟨rfl, rfl⟩ := h; obtain ⟨v, m, xs, h1, h2⟩ := hb; exact ⟨v, m, xs, (hg x hx).trans h1, h2⟩
  · obtain ⟨rfl, rfl, rfl⟩ := h; obtain ⟨v, xs, h1, h2⟩ := hb; exact ⟨v, xs, (hg x hx).trans h1, h2⟩
  · subst h; exact ⟨(hg x hx).trans hb.1, hb.2⟩
  · obtain ⟨rfl, h⟩ := h; obtain ⟨b, p, v, h1, h2, h3, h4, h5⟩ := hb; exact ⟨b, p, v, (hg x hx).trans h1, h2, h3, fitC_rep hg h h4, h5⟩
  · obtain ⟨rfl, rfl⟩ := h; obtain ⟨b, es, c, h1, h2⟩ := hb; exact ⟨b, es, c, (hg x hx).trans h1, h2⟩
theorem Obj'.live {x : Nat} {o : AO} (h : Obj' γ S w x o) : γ x ≠ .un ∧ γ x ≠ .dead := by
  cases o with
  | box cells => obtain ⟨b, cs, t, h1, _⟩ := h; rw [h1]; simp
  | row e es => obtain ⟨v, m, xs, h1, _⟩ := h; rw [h1]; simp
  | arr e es l => obtain ⟨v, xs, h1, _⟩ := h; rw [h1]; simp
  | mp q l => obtain ⟨b, es, c, h1, _⟩ := h; rw [h1]; simp
  | lib L => rw [h.1]; simp
  | bld t c => obtain ⟨b, p, v, h1, _⟩ := h; rw [h1]; simp
end
def RepVs (γ : Nat → G) (S : CS) (w : World) : List Value → List AV → Prop
  | [], [] => True
  | v :: vs, x :: xs => RepV γ S w v x ∧ RepVs γ S w vs xs
  | _, _ => False
theorem RepVs.fit {γ γ' : Nat → G} {S : CS} {w : World} {ρ : Nat → Nat} {n : Nat} (hg : ∀ i, i < n → γ' i = γ (ρ i)) : ∀ {vs : List Value} {l m : List AV}, fitVs n ρ l m → RepVs γ S w vs m → RepVs γ' S w vs l
  | [], [], [], _, _ => trivial
  | v :: vs, a :: l, b :: m, hf, h => ⟨fitV_rep hg hf.1 h.1, RepVs.fit hg hf.2 h.2⟩
  | [], [], _ :: _, h, _ => h.elim
  | [], _ :: _, [], h, _ => h.elim
  | _ :: _, [], [], _, h => h.elim
  | _ :: _, [], _ :: _, h, _ => h.elim
  | _ :: _, _ :: _, [], h, _ => h.elim
  | [], _ :: _, _ :: _, _, h => h.elim
def SpecC (C : Array Value → World → (Ending → World → Prop) → Prop) (args : List AV) (ch : List AO) (res : AV) (ch' : List (Option AO)) : Prop :=
  ∀ (γ : Nat → G) (S : CS) (w : World) (vs : List Value), Mem ⟨w, S, γ, []⟩ (fun x => ch[x]?) (fun x => ch.length ≤ x) γ S w → RepVs γ S w vs args →
    C vs.toArray w fun e w' => ∃ v γ' S', e = .returned v ∧ Mem ⟨w, S, γ, []⟩ (fun x => (ch'[x]?).join) (fun x => ch'.length ≤ x) γ' S' w' ∧ RepV γ' S' w' v res
def Spec (P : Program) (f : FuncId) (args : List AV) (ch : List AO) (res : AV) (ch' : List (Option AO)) : Prop :=
  ∀ (γ : Nat → G) (S : CS) (w : World) (vs : List Value), Mem ⟨w, S, γ, []⟩ (fun x => ch[x]?) (fun x => ch.length ≤ x) γ S w → RepVs γ S w vs args →
    Calls P f vs.toArray w fun e w' => ∃ v γ' S', e = .returned v ∧ Mem ⟨w, S, γ, []⟩ (fun x => (ch'[x]?).join) (fun x => ch'.length ≤ x) γ' S' w' ∧ RepV γ' S' w' v res
end Go.Proofs.Ytcjagcfjpfjanaa.am
namespace Go.Proofs.Ytcjagcfjpfjanaa.am
open Go.ChangeShapes Go.WideShapes Go.ChangeAt Go.RowKit
set_option linter.unusedVariables false
set_option linter.unusedSimpArgs false
def wrs (ρ : Nat → Nat) : Nat → List (Option AO) → List (Nat × Option AO)
  | _, [] => []
  | i, o :: l => (ρ i, o.map (AO.ren ρ)) :: wrs ρ (i + 1) l
theorem wrs_out (ρ : Nat → Nat) : ∀ (l : List (Option AO)) (k : Nat) (H : Nat → Option AO) (y : Nat), (∀ i, i < l.length → ρ (k + i) ≠ y) → (wrs ρ k l).foldl (fun H p => upd H p.1 p.2) H y = H y
  | [], k, H, y, _ => rfl
  | o :: l, k, H, y, h => by
    unfold wrs
    rw [List.foldl_cons, wrs_out ρ l (k + 1) _ y (fun i hi => by have := h (i + 1) (by simpa using hi); rwa [show k + (i + 1) = k + 1 + i by omega] at this)]
    exact upd_ne _ _ (fun e => h 0 (by simp) e.symm)
theorem wrs_in (ρ : Nat → Nat) : ∀ (l : List (Option AO)) (k : Nat) (H : Nat → Option AO) (i : Nat), (∀ i j, i < l.length → j < l.length → ρ (k + i) = ρ (k + j) → i = j) → i < l.length → (wrs ρ k l).foldl (fun H p => upd H p.1 p.2) H (ρ (k + i)) = (l[i]?).join.map (AO.ren ρ)
  | [], k, H, i, _, hi => by simp at hi
  | o :: l, k, H, 0, hinj, _ => by
    unfold wrs
    rw [List.foldl_cons, wrs_out ρ l (k + 1) _ _ (fun i hi e => by have := hinj (i + 1) 0 (by simpa using hi) (by simp) (by rw [show k + (i + 1) = k + 1 + i by omega]; exact e); omega)]
    rw [Nat.add_zero, upd_same]; simp
  | o :: l, k, H, i + 1, hinj, hi => by
    unfold wrs
    rw [List.foldl_cons, show k + (i + 1) = k + 1 + i by omega, wrs_in ρ l (k + 1) _ i (fun a b ha hb e => by
      have := hinj (a + 1) (b + 1) (by simpa using ha) (by simpa using hb) (by rw [show k + (a + 1) = k + 1 + a by omega, show k + (b + 1) = k + 1 + b by omega]; exact e)
      omega) (by simpa using hi)]
    simp
def nmap (σ : List Nat) (n nm : Nat) (i : Nat) : Nat := if i < n then σ.getD i 0 else nm + (i - n)
theorem call_soundC {C : Array Value → World → (Ending → World → Prop) → Prop} (hmono : ∀ {vs w R R'}, C vs w R → (∀ e w', R e w' → R' e w') → C vs w R') {cargs : List AV} {ch : List AO} {res : AV} {ch' : List (Option AO)} (hs : SpecC C cargs ch res ch') {X : Ctx} {H : Nat → Option AO} {U : Nat → Prop} {γ : Nat → G} {S : CS} {w : World} (h : Mem X H U γ S w)
    (σ : List Nat) (hnd : ∀ i j, i < ch.length → j < ch.length → σ.getD i 0 = σ.getD j 0 → i = j) (hob : ∀ i o, ch[i]? = some o → ∃ o', H (σ.getD i 0) = some o' ∧ fitO ch.length (fun i => σ.getD i 0) o o')
    {vs : List Value} {args : List AV} (hv : RepVs γ S w vs args) (hfit : fitVs ch.length (fun i => σ.getD i 0) cargs args) (nm : Nat) (hU : ∀ x, nm ≤ x → x < nm + 8 → U x) (hlen : ch'.length ≤ ch.length + 8) (hle : ch.length ≤ ch'.length) :
    C vs.toArray w fun e w' => ∃ v γ' S', e = .returned v ∧ Mem X ((wrs (nmap σ ch.length nm) 0 ch').foldl (fun H p => upd H p.1 p.2) H) (fun x => U x ∧ ¬ (nm ≤ x ∧ x < nm + 8)) γ' S' w' ∧ GOn γ γ' ∧ (∀ b o, S b o → S' b o) ∧ (∀ b o, S b o → w'.cell? ⟨b, o, none⟩ = w.cell? ⟨b, o, none⟩) ∧ RepV γ' S' w' v (res.ren (nmap σ ch.length nm)) := by
  obtain ⟨γc, hγc⟩ : ∃ γc : Nat → G, γc = fun i => if i < ch.length then γ (σ.getD i 0) else .un := ⟨_, rfl⟩
  have hg : ∀ i, i < ch.length → γc i = γ (σ.getD i 0) := fun i hi => by rw [hγc]; simp only [hi, if_true]
  have hgo : ∀ i, ch.length ≤ i → γc i = .un := fun i hi => by rw [hγc]; simp only [Nat.not_lt.2 hi, if_false]
  have hliv : ∀ i, i < ch.length → γ (σ.getD i 0) ≠ .un ∧ γ (σ.getD i 0) ≠ .dead := fun i hi => by
    obtain ⟨o', h1, _⟩ := hob i _ (List.getElem?_eq_getElem hi)
    exact (h.obj _ _ h1).live
  have mc : Mem ⟨w, S, γc, []⟩ (fun x => ch[x]?) (fun x => ch.length ≤ x) γc S w := by
    refine ⟨rfl, rfl, rfl, Nat.le_refl _, fun _ _ _ => rfl, fun _ _ h => ⟨h, rfl⟩, fun _ _ h => .inl h, h.inb, GOn.refl _, fun x hx => hgo x hx, fun x hx => ?_, fun x o hx => ?_, fun x y hxy b hbx hby => ?_, fun x b hb => ?_⟩
    · exact .inl (hgo x (List.getElem?_eq_none_iff.1 hx))
    · obtain ⟨o', h1, h2⟩ := hob x o hx
      have hlt := (List.getElem?_eq_some_iff.1 hx).1
      exact fitO_rep (ρ := fun i => σ.getD i 0) hg hlt h2 (h.obj _ _ h1)
    · by_cases hx : x < ch.length
      · by_cases hy : y < ch.length
        · rw [hg x hx] at hbx; rw [hg y hy] at hby
          exact h.dist _ _ (fun e => hxy (hnd x y hx hy e)) b hbx hby
        · rw [hgo y (by omega)] at hby; cases hby
      · rw [hgo x (by omega)] at hbx; cases hbx
    · by_cases hx : x < ch.length
      · have hb' := hb
        rw [hg x hx] at hb'
        exact ⟨(h.live _ b hb').1, .inr ⟨x, hb⟩⟩
      · rw [hgo x (by omega)] at hb; cases hb
  refine hmono (hs γc S w vs mc (RepVs.fit (ρ := fun i => σ.getD i 0) hg hfit hv)) ?_
  rintro e w' ⟨v, γ', S', rfl, m, hres⟩
  -- names
  obtain ⟨ρ, hρ⟩ : ∃ ρ, nmap σ ch.length nm = ρ := ⟨_, rfl⟩
  have hρ1 : ∀ i, i < ch.length → ρ i = σ.getD i 0 := fun i hi => by rw [← hρ]; unfold nmap; rw [if_pos hi]
  have hρ2 : ∀ i, ch.length ≤ i → ρ i = nm + (i - ch.length) := fun i hi => by rw [← hρ]; unfold nmap; rw [if_neg (by omega)]
  have hUr : ∀ i, ch.length ≤ i → i < ch'.length → U (ρ i) := fun i h1 h2 => by rw [hρ2 i h1]; exact hU _ (by omega) (by omega)
  have hinj : ∀ i j, i < ch'.length → j < ch'.length → ρ i = ρ j → i = j := fun i j hi hj e => by
    by_cases h1 : i < ch.length
    · by_cases h2 : j < ch.length
      · rw [hρ1 i h1, hρ1 j h2] at e; exact hnd i j h1 h2 e
      · have := h.un _ (hUr j (by omega) hj)
        rw [← e, hρ1 i h1] at this
        exact absurd this (hliv i h1).1
    · by_cases h2 : j < ch.length
      · have := h.un _ (hUr i (by omega) hi)
        rw [e, hρ1 j h2] at this
        exact absurd this (hliv j h2).1
      · rw [hρ2 i (by omega), hρ2 j (by omega)] at e; omega
  rw [hρ]
  obtain ⟨H', hH'⟩ : ∃ H', (wrs ρ 0 ch').foldl (fun H p => upd H p.1 p.2) H = H' := ⟨_, rfl⟩
  have hHi : ∀ i, i < ch'.length → H' (ρ i) = (ch'[i]?).join.map (AO.ren ρ) := fun i hi => by
    have := wrs_in ρ ch' 0 H i (fun a b ha hb e => hinj a b ha hb (by simpa using e)) hi
    rw [Nat.zero_add] at this
    rw [← hH']; exact this
  have hHo : ∀ y, (∀ i, i < ch'.length → ρ i ≠ y) → H' y = H y := fun y hy => by rw [← hH']; exact wrs_out ρ ch' 0 H y (fun i hi => by rw [Nat.zero_add]; exact hy i hi)
  rw [hH']
  clear hH'
  -- where they lead
  obtain ⟨γn, hγ1, hγ2⟩ : ∃ γn : Nat → G, (∀ i, i < ch'.length → γn (ρ i) = γ' i) ∧ ∀ y, (∀ i, i < ch'.length → ρ i ≠ y) → γn y = γ y := by
    refine ⟨fun y => open Classical in if h : ∃ i, i < ch'.length ∧ ρ i = y then γ' (Classical.choose h) else γ y, fun i hi => ?_, fun y hy => ?_⟩
    · have hex : ∃ j, j < ch'.length ∧ ρ j = ρ i := ⟨i, hi, rfl⟩
      have hc := Classical.choose_spec hex
      simp only [dif_pos hex]
      rw [hinj _ _ hc.1 hi hc.2]
    · have hno : ¬ ∃ i, i < ch'.length ∧ ρ i = y := fun ⟨i, h1, h2⟩ => hy i h1 h2
      simp only [dif_neg hno]
  have hun' : ∀ i, ch'.length ≤ i → γ' i = .un := fun i hi => m.un i hi
  have hren : ∀ i, γ' i = .un ∨ γn (ρ i) = γ' i := fun i => by
    by_cases hi : i < ch'.length
    · exact .inr (hγ1 i hi)
    · exact .inl (hun' i (by omega))
  have hgc : ∀ i b, (γc i).bk = some b → i < ch.length ∧ (γ (σ.getD i 0)).bk = some b := fun i b hb => by
    by_cases hi : i < ch.length
    · exact ⟨hi, by rw [← hg i hi]; exact hb⟩
    · rw [hgo i (by omega)] at hb; cases hb
  have hG : GOn γ γn := fun y => by
    by_cases hy : ∃ i, i < ch'.length ∧ ρ i = y
    · obtain ⟨i, hi, rfl⟩ := hy
      by_cases h1 : i < ch.length
      · rw [hγ1 i hi, hρ1 i h1]
        rcases m.mono i with k | k | ⟨k, v', hv'⟩
        · exact .inl (by rw [← hg i h1]; exact k)
        · exact .inr (.inl (by rw [← hg i h1]; exact k))
        · exact .inr (.inr ⟨k, v', by rw [← hg i h1]; exact hv'⟩)
      · exact .inl (h.un _ (hUr i (by omega) hi))
    · exact .inr (.inl (hγ2 y (fun i hi e => hy ⟨i, hi, e⟩)))
  have hSS : ∀ b o, S b o → S' b o := fun b o hb => (m.keep b o hb).1
  have hcell : ∀ b o, S b o → w'.cell? ⟨b, o, none⟩ = w.cell? ⟨b, o, none⟩ := fun b o hb => (m.keep b o hb).2
  have hsz : w.heap.size ≤ w'.heap.size := m.size
  -- a block that the call's variables do not lead zto
  have hfar : ∀ b, b < w.heap.size → (∀ i, i < ch.length → (γ (σ.getD i 0)).bk ≠ some b) → w'.heap[b]? = w.heap[b]? ∧ ∀ o, S' b o → S b o := fun b hb hn =>
    ⟨m.frame b hb (fun i hi => let ⟨h1, h2⟩ := hgc i b hi; hn i h1 h2), fun o ho => by
      rcases m.fresh b o ho with k | k | ⟨i, hi⟩
      · exact k
      · exact (Nat.lt_irrefl _ (Nat.lt_of_lt_of_le hb k)).elim
      · obtain ⟨h1, h2⟩ := hgc i b hi; exact absurd h2 (hn i h1)⟩
  have hold : ∀ i b, i < ch'.length → (γ' i).bk = some b → b < w'.heap.size ∧ (w.heap.size ≤ b ∨ ∃ j, j < ch.length ∧ (γ (σ.getD j 0)).bk = some b) := fun i b hi hb => by
    have := m.live i b hb
    exact ⟨this.1, this.2.imp id (fun ⟨j, hj⟩ => ⟨j, hgc j b hj⟩)⟩
  have houter : ∀ y, (∀ i, i < ch'.length → ρ i ≠ y) → ∀ b, (γ y).bk = some b → b < w.heap.size ∧ ∀ i, i < ch.length → (γ (σ.getD i 0)).bk ≠ some b := fun y hy b hb =>
    ⟨(h.live y b hb).1, fun i hi e => h.dist y (σ.getD i 0) (fun e' => hy i (by omega) (by rw [hρ1 i hi]; exact e'.symm)) b hb e⟩
  refine ⟨v, γn, S', rfl, ⟨m.os.trans h.os, m.tape.trans h.tape, m.output.trans h.output, Nat.le_trans h.size hsz, fun b hb hx => ?_, fun b o hs0 => ?_, fun b o hs' => ?_, m.inb, h.mono.trans hG, fun x hx => ?_, fun x hx => ?_, fun x o hx => ?_, fun x y hxy b hbx hby => ?_, fun x b hb => ?_⟩, hG, hSS, hcell, hres.ren hren⟩
  · have h0 := h.size
    rw [(hfar b (by omega) (fun i hi e => ?_)).1]
    · exact h.frame b hb hx
    · rcases (h.live _ b e).2 with k | ⟨y, hy⟩
      · omega
      · exact hx y hy
  · have h1 := h.keep b o hs0
    exact ⟨hSS _ _ h1.1, by rw [hcell _ _ h1.1]; exact h1.2⟩
  · rcases m.fresh b o hs' with k | k | ⟨i, hi⟩
    · exact h.fresh b o k
    · exact .inr (.inl (Nat.le_trans h.size k))
    · obtain ⟨h1, h2⟩ := hgc i b hi
      rcases (h.live _ b h2).2 with k | k
      · exact .inr (.inl k)
      · exact .inr (.inr k)
  · rw [hγ2 x (fun i hi e => ?_)]
    · exact h.un x hx.1
    · subst e
      by_cases h1 : i < ch.length
      · rw [hρ1 i h1] at hx; exact (hliv i h1).1 (h.un _ hx.1)
      · rw [hρ2 i (by omega)] at hx; exact hx.2 ⟨by omega, by omega⟩
  · by_cases hy : ∃ i, i < ch'.length ∧ ρ i = x
    · obtain ⟨i, hi, rfl⟩ := hy
      rw [hHi i hi] at hx
      rw [hγ1 i hi]
      refine m.off i ?_
      cases hj : (ch'[i]?).join with
      | none => rfl
      | some o => rw [hj] at hx; cases hx
    · have hno : ∀ i, i < ch'.length → ρ i ≠ x := fun i hi e => hy ⟨i, hi, e⟩
      rw [hHo x hno] at hx; rw [hγ2 x hno]; exact h.off x hx
  · by_cases hy : ∃ i, i < ch'.length ∧ ρ i = x
    · obtain ⟨i, hi, rfl⟩ := hy
      rw [hHi i hi] at hx
      obtain ⟨o', ho', rfl⟩ := Option.map_eq_some_iff.1 hx
      exact (m.obj i o' ho').ren hren
    · have hno : ∀ i, i < ch'.length → ρ i ≠ x := fun i hi e => hy ⟨i, hi, e⟩
      rw [hHo x hno] at hx
      refine Obj'.on (h.obj x o hx) (hγ2 x hno) hG hSS hcell (fun b hb => ?_)
      have := houter x hno b hb
      exact hfar b this.1 this.2
  · by_cases h1 : ∃ i, i < ch'.length ∧ ρ i = x
    · obtain ⟨i, hi, rfl⟩ := h1
      rw [hγ1 i hi] at hbx
      by_cases h2 : ∃ j, j < ch'.length ∧ ρ j = y
      · obtain ⟨j, hj, rfl⟩ := h2
        rw [hγ1 j hj] at hby
        exact m.dist i j (fun e => hxy (by rw [e])) b hbx hby
      · have hno : ∀ i, i < ch'.length → ρ i ≠ y := fun i hi e => h2 ⟨i, hi, e⟩
        rw [hγ2 y hno] at hby
        have o1 := houter y hno b hby
        rcases (hold i b hi hbx).2 with k | ⟨j, hj, k⟩
        · omega
        · exact o1.2 j hj k
    · have hno : ∀ i, i < ch'.length → ρ i ≠ x := fun i hi e => h1 ⟨i, hi, e⟩
      rw [hγ2 x hno] at hbx
      have o1 := houter x hno b hbx
      by_cases h2 : ∃ j, j < ch'.length ∧ ρ j = y
      · obtain ⟨j, hj, rfl⟩ := h2
        rw [hγ1 j hj] at hby
        rcases (hold j b hj hby).2 with k | ⟨i, hi, k⟩
        · omega
        · exact o1.2 i hi k
      · have hno2 : ∀ i, i < ch'.length → ρ i ≠ y := fun i hi e => h2 ⟨i, hi, e⟩
        rw [hγ2 y hno2] at hby
        exact h.dist x y hxy b hbx hby
  · by_cases h1 : ∃ i, i < ch'.length ∧ ρ i = x
    · obtain ⟨i, hi, rfl⟩ := h1
      rw [hγ1 i hi] at hb
      have := hold i b hi hb
      refine ⟨this.1, ?_⟩
      rcases this.2 with k | ⟨j, hj, k⟩
      · exact .inl (Nat.le_trans h.size k)
      · exact (h.live _ b k).2
    · have hno : ∀ i, i < ch'.length → ρ i ≠ x := fun i hi e => h1 ⟨i, hi, e⟩
      rw [hγ2 x hno] at hb
      have := h.live x b hb
      exact ⟨by omega, this.2⟩
theorem call_sound {P : Program} {f : FuncId} {cargs : List AV} {ch : List AO} {res : AV} {ch' : List (Option AO)} (hs : Spec P f cargs ch res ch') {X : Ctx} {H : Nat → Option AO} {U : Nat → Prop} {γ : Nat → G} {S : CS} {w : World} (h : Mem X H U γ S w)
    (σ : List Nat) (hnd : ∀ i j, i < ch.length → j < ch.length → σ.getD i 0 = σ.getD j 0 → i = j) (hob : ∀ i o, ch[i]? = some o → ∃ o', H (σ.getD i 0) = some o' ∧ fitO ch.length (fun i => σ.getD i 0) o o')
    {vs : List Value} {args : List AV} (hv : RepVs γ S w vs args) (hfit : fitVs ch.length (fun i => σ.getD i 0) cargs args) (nm : Nat) (hU : ∀ x, nm ≤ x → x < nm + 8 → U x) (hlen : ch'.length ≤ ch.length + 8) (hle : ch.length ≤ ch'.length) :
    Calls P f vs.toArray w fun e w' => ∃ v γ' S', e = .returned v ∧ Mem X ((wrs (nmap σ ch.length nm) 0 ch').foldl (fun H p => upd H p.1 p.2) H) (fun x => U x ∧ ¬ (nm ≤ x ∧ x < nm + 8)) γ' S' w' ∧ GOn γ γ' ∧ (∀ b o, S b o → S' b o) ∧ (∀ b o, S b o → w'.cell? ⟨b, o, none⟩ = w.cell? ⟨b, o, none⟩) ∧ RepV γ' S' w' v (res.ren (nmap σ ch.length nm)) := call_soundC (C := Calls P f) (fun h hr => h.mono hr) hs h σ hnd hob hv hfit nm hU hlen hle
end Go.Proofs.Ytcjagcfjpfjanaa.am
namespace Go.Proofs.Ytcjagcfjpfjanaa.am
open Go.ChangeShapes Go.WideShapes Go.ChangeAt Go.RowKit
set_option linter.unusedVariables false
set_option linter.unusedSimpArgs false
structure St where
  tm : List (Nat × AV)
  hp : List (Nat × Option AO)
  nx : Nat
def lk : List (Nat × AV) → Nat → AV
  | [], _ => .top
  | p :: r, t => if t = p.1 then p.2 else lk r t
def hlk : List (Nat × Option AO) → Nat → Option AO
  | [], _ => none
  | p :: r, x => if x = p.1 then p.2 else hlk r x
theorem hlk_cons (p : Nat × Option AO) (l : List (Nat × Option AO)) : hlk (p :: l) = upd (hlk l) p.1 p.2 := by
  funext x; rfl
theorem hlk_wr : ∀ (W l : List (Nat × Option AO)), hlk (W.foldl (fun h p => p :: h) l) = W.foldl (fun H p => upd H p.1 p.2) (hlk l)
  | [], l => rfl
  | p :: W, l => by rw [List.foldl_cons, List.foldl_cons, hlk_wr W (p :: l), hlk_cons]
def Rel (X : Ctx) (N : Nat) (st : St) (a : Act) (w : World) : Prop :=
  a.defers = X.ds ∧ a.tmps.size = N ∧ ∃ γ S, Mem X (hlk st.hp) (fun x => st.nx ≤ x) γ S w ∧ ∀ t, RepV γ S w (a.tmps.getD t undef) (lk st.tm t)
def St.put (st : St) : Option Nat → AV → St
  | some d, v => { st with tm := (d, v) :: st.tm }
  | none, _ => st
def St.wr (st : St) (W : List (Nat × Option AO)) (k : Nat) : St := { st with hp := W.foldl (fun h p => p :: h) st.hp, nx := st.nx + k }
def dok (N : Nat) : Option Nat → Bool
  | some d => decide (d < N)
  | none => true
def gd (ds : List (Option Nat)) (st : St) : Option (Nat × Bool) → Option Bool
  | none => some true
  | some (j, want) =>
    match (ds[j]?).join with
    | some d => (match lk st.tm d with | .v (.c (.pv (.lit (.bool b)))) => some (b == want) | .tup [] => some false | _ => none)
    | none => none
def AG (g : Option Bool) (A B : Prop) : Prop :=
  match g with
  | some true => A
  | some false => B
  | none => False
def Ent (P : Program) (f : FuncId) : Prop := ∃ fn, P.funcs[f]? = some fn ∧ (fn.name == "runtime.NumGoroutine") = false ∧ fn.body.isNone = false
structure Row (P : Program) (f : FuncId) (args : List AV) (ch : List AO) (res : AV) (ch' : List (Option AO)) : Prop where
  ent : Ent P f
  spec : Spec P f args ch res ch'
def capV : Cap → AV
  | .ptr id off => .v (.c (.ptr id off))
  | .pv p => .v (.c (.pv p))
def covO (hp : Nat → Option AO) (n : Nat) (ρ : Nat → Nat) : List (Option AO) → List Nat → Prop
  | [], [] => True
  | some o :: os, x :: r => (match hp x with | some o' => fitO n ρ o o' | none => False) ∧ covO hp n ρ os r
  | none :: os, x :: r => hp x = none ∧ covO hp n ρ os r
  | _, _ => False
def CallK (P : Program) (N : Nat) (dst : Option Nat) (fv : AV) (args : List AV) (st : St) (K : St → Prop) : Prop :=
  ∃ f first caps cargs ch res ch' σ, fv = .v (.c (.fn (.func f) first caps)) ∧ Row P f cargs ch res ch' ∧ fitVs ch.length (fun i => σ.getD i 0) cargs (first.map capV ++ args ++ caps.map capV) ∧ covO (hlk st.hp) ch.length (fun i => σ.getD i 0) (ch.map some) σ ∧ σ.Nodup ∧
    ch'.length ≤ ch.length + 8 ∧ ch.length ≤ ch'.length ∧ dok N dst = true ∧ K ((st.wr (wrs (nmap σ ch.length st.nx) 0 ch') 8).put dst (res.ren (nmap σ ch.length st.nx)))
def AStep (P : Program) (N : Nat) (o : Oper) (st : St) (K : St → Prop) : Prop :=
  match o.op with
  | .call ⟨.value f, args, _⟩ => CallK P N o.dst (evA (lk st.tm) f) (args.toList.map (evA (lk st.tm))) st K
  | op => match aop P op (evA (lk st.tm)) (hlk st.hp) st.nx with
    | some r => dok N o.dst = true ∧ K ((st.wr r.2.2 1).put o.dst r.1)
    | none => False
def AR (P : Program) (N : Nat) (ds : List (Option Nat)) : List Oper → St → (St → Prop) → Prop
  | [], st, K => K st
  | o :: os, st, K => AG (gd ds st o.guard) (AStep P N o st (fun st' => AR P N ds os st' K)) (dok N o.dst = true ∧ AR P N ds os (st.put o.dst (.tup [])) K)
section
variable {P : Program} {X : Ctx} {N : Nat}
theorem tup0_inv {γ : Nat → G} {S : CS} {w : World} {v : Value} (h : RepV γ S w v (.tup [])) : v = undef := by
  obtain ⟨cs, rfl, h1, _⟩ := h
  have : cs = #[] := by
    have : cs.toList = [] := List.length_eq_zero_iff.1 h1
    simpa using this
  rw [this]; rfl
theorem undef_rep {γ : Nat → G} {S : CS} {w : World} : RepV γ S w undef (.tup []) := ⟨#[], rfl, rfl, fun i c h => by simp at h⟩
theorem act_put_size (a : Act) (dst : Option Nat) (v : Value) : (a.put dst v).tmps.size = a.tmps.size := by cases dst <;> simp [Act.put]
theorem act_put_defers (a : Act) (dst : Option Nat) (v : Value) : (a.put dst v).defers = a.defers := by cases dst <;> rfl
theorem rep_put {γ : Nat → G} {S : CS} {w : World} {a : Act} {st : St} (hN : a.tmps.size = N) (ha : ∀ t, RepV γ S w (a.tmps.getD t undef) (lk st.tm t)) {dst : Option Nat} (hd : dok N dst = true) {u : Value} {v : AV} (hv : RepV γ S w u v) :
    ∀ t, RepV γ S w ((a.put dst u).tmps.getD t undef) (lk (st.put dst v).tm t) := by
  cases dst with
  | none => exact ha
  | some d =>
    intro t
    have hdN : d < a.tmps.size := by rw [hN]; simpa [dok] using hd
    simp only [St.put, lk, Act.put]
    by_cases ht : t = d
    · subst ht
      rw [if_pos rfl]
      simp [hdN]; exact hv
    · rw [if_neg ht]
      have : (a.tmps.setIfInBounds d u).getD t undef = a.tmps.getD t undef := by
        simp [Array.getElem?_setIfInBounds_ne (Ne.symm ht)]
      rw [this]; exact ha t
theorem Rel.put {st : St} {a : Act} {w : World} (h : Rel X N st a w) {dst : Option Nat} (hd : dok N dst = true) : Rel X N (st.put dst (.tup [])) (a.put dst undef) w := by
  obtain ⟨h1, h2, γ, S, h3, h4⟩ := h
  refine ⟨by rw [act_put_defers]; exact h1, by rw [act_put_size]; exact h2, γ, S, ?_, rep_put h2 h4 hd undef_rep⟩
  cases dst <;> exact h3
theorem run_callFunc {f : FuncId} (h : Ent P f) (args : Array Value) (w : World) : (callFunc f args).run P w = .ok (.enter f args) w := by
  obtain ⟨fn, h1, h2, h3⟩ := h
  cases hb : fn.body with
  | none => rw [hb] at h3; cases h3
  | some c =>
    have h2' : ¬ fn.name = "runtime.NumGoroutine" := by simpa using h2
    simp [callFunc, h1, h2', hb]
theorem capV_rep {γ : Nat → G} {S : CS} {w : World} : ∀ {vs : List Value} {l : List Cap}, RepCaps γ S w vs l → RepVs γ S w vs (l.map capV)
  | [], [], _ => trivial
  | [], _ :: _, h => by have := h.1; simp at this
  | _ :: _, [], h => by have := h.1; simp at this
  | v :: vs, c :: l, h => by
    obtain ⟨v0, h3, h4⟩ := h.2 0 c rfl
    simp at h3; subst h3
    have ht : RepCaps γ S w vs l := ⟨by have := h.1; simpa using this, fun i c hc => by have := h.2 (i + 1) c (by simpa using hc); simpa using this⟩
    refine ⟨?_, capV_rep ht⟩
    cases c with
    | ptr id off => exact h4
    | pv p => exact h4
theorem RepVs.append {γ : Nat → G} {S : CS} {w : World} : ∀ {vs us : List Value} {l m : List AV}, RepVs γ S w vs l → RepVs γ S w us m → RepVs γ S w (vs ++ us) (l ++ m)
  | [], us, [], m, _, h => h
  | v :: vs, us, a :: l, m, h, k => ⟨h.1, RepVs.append h.2 k⟩
  | [], _, _ :: _, _, h, _ => h.elim
  | _ :: _, _, [], _, h, _ => h.elim
theorem RepVs.map {γ : Nat → G} {S : CS} {w : World} {f : Operand → Value} {g : Operand → AV} (h : ∀ x, RepV γ S w (f x) (g x)) : ∀ l : List Operand, RepVs γ S w (l.map f) (l.map g)
  | [] => trivial
  | x :: l => ⟨h x, RepVs.map h l⟩
theorem covO_at {hp : Nat → Option AO} {n : Nat} {ρ : Nat → Nat} : ∀ {os : List (Option AO)} {r : List Nat}, covO hp n ρ os r → os.length = r.length ∧ ∀ i o, os[i]? = some o → (∀ o1, o = some o1 → ∃ o', hp (r.getD i 0) = some o' ∧ fitO n ρ o1 o') ∧ (o = none → hp (r.getD i 0) = none)
  | [], [], _ => ⟨rfl, fun i o h => by simp at h⟩
  | some o :: os, x :: r, h => by
    obtain ⟨h1, h2⟩ := h
    obtain ⟨k1, k2⟩ := covO_at h2
    refine ⟨by simp [k1], fun i o' hi => ?_⟩
    cases i with
    | zero =>
      simp at hi; subst hi
      refine ⟨fun o1 he => ?_, fun he => (by cases he)⟩
      cases he
      split at h1
      · rename_i o' ho'; exact ⟨o', by simpa using ho', h1⟩
      · exact h1.elim
    | succ i => simp at hi; simpa using k2 i o' hi
  | none :: os, x :: r, h => by
    obtain ⟨h1, h2⟩ := h
    obtain ⟨k1, k2⟩ := covO_at h2
    refine ⟨by simp [k1], fun i o' hi => ?_⟩
    cases i with
    | zero =>
      simp at hi; subst hi
      exact ⟨fun o1 he => (by cases he), fun _ => (by simpa using h1)⟩
    | succ i => simp at hi; simpa using k2 i o' hi
  | [], _ :: _, h => h.elim
  | some _ :: _, [], h => h.elim
  | none :: _, [], h => h.elim
theorem nodup_getD {σ : List Nat} (h : σ.Nodup) (i j : Nat) (hi : i < σ.length) (hj : j < σ.length) (e : σ.getD i 0 = σ.getD j 0) : i = j := by
  rw [List.getD_eq_getElem?_getD, List.getD_eq_getElem?_getD, List.getElem?_eq_getElem hi, List.getElem?_eq_getElem hj] at e
  have hp := List.pairwise_iff_getElem.1 h
  simp only [Option.getD_some] at e
  rcases Nat.lt_trichotomy i j with hlt | heq | hgt
  · exact absurd e (hp i j hi hj hlt)
  · exact heq
  · exact absurd e.symm (hp j i hj hi hgt)
theorem callK_sound {st : St} {a : Act} {w : World} (h : Rel X N st a w) {dst : Option Nat} {f : Operand} {args ats} {ty pos after guard} {K : St → Prop} (hc : CallK P N dst (evA (lk st.tm) f) (args.toList.map (evA (lk st.tm))) st K) {K' : Act → World → Prop} {Q : Exit → Act → World → Prop}
    (hK : ∀ st' a' w', K st' → Rel X N st' a' w' → K' a' w') : Oper.wp P ⟨dst, .call ⟨.value f, args, ats⟩, ty, pos, after, guard⟩ a w K' Q := by
  obtain ⟨h1, h2, γ, S, hm, ha⟩ := h
  obtain ⟨g, first, caps, cargs, ch, res, ch', σ, hf, hrow, hfit, hcov, hnd, hl1, hl2, hd, hk⟩ := hc
  have he : ∀ x, RepV γ S w (a.eval x) (evA (lk st.tm) x) := evA_rep ha
  have hfv := he f
  rw [hf] at hfv
  obtain ⟨xs, ys, hfe, hx, hy⟩ := hfv
  obtain ⟨c1, c2⟩ := covO_at hcov
  rw [List.length_map] at c1
  have hargs : RepVs γ S w (xs.toList ++ (args.map a.eval).toList ++ ys.toList) (first.map capV ++ args.toList.map (evA (lk st.tm)) ++ caps.map capV) :=
    ((capV_rep hx).append (by simpa using RepVs.map he args.toList)).append (capV_rep hy)
  have key := call_sound hrow.spec hm σ (fun i j hi hj e => nodup_getD hnd i j (by omega) (by omega) e) (fun i o ho => by
    have := (c2 i (some o) (by rw [List.getElem?_map, ho]; rfl)).1 o rfl
    exact this) hargs hfit st.nx (fun x h _ => h) hl1 hl2
  unfold Oper.wp
  have hex : (execOp a.eval ⟨dst, .call ⟨.value f, args, ats⟩, ty, pos, after, guard⟩).run P w = .ok (.enter g (xs.toList ++ (args.map a.eval).toList ++ ys.toList).toArray) w := by
    simp only [execOp, resolve, hfe, Deferred.ofValue, Sem.run_bind, Sem.run_pure, Result.andThen_ok, invoke]
    rw [run_callFunc hrow.ent]
    congr 2
    simp
  rw [hex, Oper.upon_enter]
  refine key.mono ?_
  rintro e w' ⟨v, γ', S', rfl, m1, m2, m3, m4, m5⟩
  refine hK _ _ _ hk ⟨by rw [act_put_defers]; exact h1, by rw [act_put_size]; exact h2, γ', S', ?_, rep_put (st := st.wr (wrs (nmap σ ch.length st.nx) 0 ch') 8) h2 (fun t => (ha t).mono m2 m3 m4) hd m5⟩
  have e1 : ((st.wr (wrs (nmap σ ch.length st.nx) 0 ch') 8).put dst (res.ren (nmap σ ch.length st.nx))).hp = (wrs (nmap σ ch.length st.nx) 0 ch').foldl (fun h p => p :: h) st.hp := by cases dst <;> rfl
  have e2 : ((st.wr (wrs (nmap σ ch.length st.nx) 0 ch') 8).put dst (res.ren (nmap σ ch.length st.nx))).nx = st.nx + 8 := by cases dst <;> rfl
  rw [e1, e2, hlk_wr]
  exact m1.less (fun x hx => ⟨Nat.le_trans (Nat.le_add_right _ _) hx, fun hh => by have := hh.2; omega⟩)
theorem astep_sound {st : St} {a : Act} {w : World} (h : Rel X N st a w) {o : Oper} {K : St → Prop} (hc : AStep P N o st K) {K' : Act → World → Prop} {Q : Exit → Act → World → Prop}
    (hK : ∀ st' a' w', K st' → Rel X N st' a' w' → K' a' w') : o.wp P a w K' Q := by
  have plainOp : ∀ r, aop P o.op (evA (lk st.tm)) (hlk st.hp) st.nx = some r → dok N o.dst = true ∧ K ((st.wr r.2.2 1).put o.dst r.1) → o.wp P a w K' Q := fun r hr hk => by
    obtain ⟨h1, h2, γ, S, hm, ha⟩ := h
    obtain ⟨u, w', γ', S', g1, g2, g3, g4, g5, g6⟩ := aop_sound hm (Nat.le_refl st.nx) ha o (v := r.1) (F := r.2.1) (W := r.2.2) hr
    have hrel : Rel X N ((st.wr r.2.2 1).put o.dst r.1) (a.put o.dst u) w' := by
      refine ⟨by rw [act_put_defers]; exact h1, by rw [act_put_size]; exact h2, γ', S', ?_, rep_put (st := st.wr r.2.2 1) h2 (fun t => (ha t).mono g3 g4 g5) hk.1 g6⟩
      have e1 : ((st.wr r.2.2 1).put o.dst r.1).hp = r.2.2.foldl (fun h p => p :: h) st.hp := by cases o.dst <;> rfl
      have e2 : ((st.wr r.2.2 1).put o.dst r.1).nx = st.nx + 1 := by cases o.dst <;> rfl
      rw [e1, e2, hlk_wr]
      exact g2.less (fun x hx => ⟨by omega, by omega⟩)
    unfold Oper.wp
    rcases g1 with g1 | ⟨g1, rfl⟩
    · rw [g1]; exact hK _ _ _ hk.2 hrel
    · rw [g1]; exact hK _ _ _ hk.2 hrel
  unfold AStep at hc
  split at hc
  · rename_i f args ats hop
    obtain ⟨dst, op, ty, pos, after, guard⟩ := o
    dsimp only at hop hc
    subst hop
    exact callK_sound h hc hK
  · split at hc
    · rename_i r hr
      exact plainOp r hr hc
    · exact hc.elim
theorem gd_wanted {st : St} {a : Act} {w : World} (h : Rel X N st a w) (ops : Array Oper) (o : Oper) {b : Bool} (hg : gd (ops.toList.map (·.dst)) st o.guard = some b) : Region.wanted o (yielded ops a.tmps) = b := by
  obtain ⟨h1, h2, γ, S, hm, ha⟩ := h
  unfold Region.wanted
  unfold gd at hg
  split at hg
  · rename_i hgd; cases hg; rw [hgd]
  · rename_i j want hgd
    rw [hgd]
    split at hg
    · rename_i d hd
      split at hg
      · rename_i c hl
        cases hg
        have := ha d
        rw [hl] at this
        obtain ⟨hv, _⟩ := lit_inv this
        have hdj : (ops[j]?).bind (·.dst) = some d := by
          rw [List.getElem?_map] at hd
          cases ho : ops.toList[j]? with
          | none => rw [ho] at hd; simp at hd
          | some x =>
            rw [ho] at hd
            have : ops[j]? = some x := by simpa using ho
            rw [this]; simpa using hd
        have hty : a.tmps[d]? = some (.bool c) := by
          cases ht : a.tmps[d]? with
          | none => simp [ht, undef] at hv
          | some x => simp [ht] at hv; rw [hv]
        simp only [yielded, hdj, Option.bind_some, hty]
        cases c <;> cases want <;> rfl
      · rename_i hl
        cases hg
        have := ha d
        rw [hl] at this
        have hv : a.tmps.getD d undef = undef := tup0_inv this
        have hdj : (ops[j]?).bind (·.dst) = some d := by
          rw [List.getElem?_map] at hd
          cases ho : ops.toList[j]? with
          | none => rw [ho] at hd; simp at hd
          | some x =>
            rw [ho] at hd
            have : ops[j]? = some x := by simpa using ho
            rw [this]; simpa using hd
        have hty : a.tmps[d]? = none ∨ a.tmps[d]? = some undef := by
          cases ht : a.tmps[d]? with
          | none => exact .inl rfl
          | some x => right; simp [ht] at hv; rw [hv]
        rcases hty with hty | hty
        · simp only [yielded, hdj, Option.bind_some, hty]; cases want <;> rfl
        · simp only [yielded, hdj, Option.bind_some, hty]; cases want <;> rfl
      · cases hg
    · cases hg
theorem ar_sound (ops : Array Oper) {Q : Exit → Act → World → Prop} {K : St → Prop} (hQ : ∀ st a w, K st → Rel X N st a w → Q .normal a w) : ∀ (l : List Oper) (st : St) (a : Act) (w : World), Rel X N st a w → AR P N (ops.toList.map (·.dst)) l st K → wpList P ops Q l a w
  | [], st, a, w, h, hk => hQ st a w hk h
  | o :: l, st, a, w, h, hk => by
    unfold AR at hk
    cases hb : gd (ops.toList.map (·.dst)) st o.guard with
    | none => rw [hb] at hk; exact hk.elim
    | some b =>
      have hw := gd_wanted h ops o hb
      rw [hb] at hk
      unfold wpList
      rw [hw]
      cases b with
      | true =>
        rw [if_pos rfl]
        exact .inl (astep_sound h hk (fun st' a' w' hk' hr => ar_sound ops hQ l st' a' w' hr hk'))
      | false =>
        rw [if_neg (by simp)]
        obtain ⟨hd, hk⟩ : dok N o.dst = true ∧ _ := hk
        exact ar_sound ops hQ l _ _ w (h.put hd) hk
def OpA (P : Program) (N : Nat) (ds : List (Option Nat)) (dst : Option Nat) (st : St) (os : List Oper) (r : Option (AV × List Nat × List (Nat × Option AO))) (K : St → Prop) : Prop :=
  match r with
  | some r => dok N dst = true ∧ AR P N ds os ((st.wr r.2.2 1).put dst r.1) K
  | none => False
theorem OpA_some {ds : List (Option Nat)} {dst : Option Nat} {st : St} {os : List Oper} {v F W} {K : St → Prop} : OpA P N ds dst st os (some (v, F, W)) K = (dok N dst = true ∧ AR P N ds os ((st.wr W 1).put dst v) K) := rfl
theorem AR_nil {ds : List (Option Nat)} {st : St} {K : St → Prop} : AR P N ds [] st K = K st := rfl
def AX (P : Program) (N : Nat) (ds : List (Option Nat)) (dst : Option Nat) (op : Op) (st : St) (os : List Oper) (K : St → Prop) : Prop :=
  match op with
  | .call ⟨.value f, args, _⟩ => CallK P N dst (evA (lk st.tm) f) (args.toList.map (evA (lk st.tm))) st (fun st' => AR P N ds os st' K)
  | op => OpA P N ds dst st os (aop P op (evA (lk st.tm)) (hlk st.hp) st.nx) K
theorem AR_cons {ds : List (Option Nat)} {dst : Option Nat} {op : Op} {ty pos after} {os : List Oper} {st : St} {K : St → Prop} : AR P N ds (⟨dst, op, ty, pos, after, none⟩ :: os) st K = AX P N ds dst op st os K := rfl
def GX (P : Program) (N : Nat) (ds : List (Option Nat)) (g : Option Bool) (dst : Option Nat) (op : Op) (st : St) (os : List Oper) (K : St → Prop) : Prop := AG g (AX P N ds dst op st os K) (dok N dst = true ∧ AR P N ds os (st.put dst (.tup [])) K)
theorem AR_gard {ds : List (Option Nat)} {dst : Option Nat} {op : Op} {ty pos after g} {os : List Oper} {st : St} {K : St → Prop} : AR P N ds (⟨dst, op, ty, pos, after, some g⟩ :: os) st K = GX P N ds (gd ds st (some g)) dst op st os K := rfl
theorem GX_yes {ds : List (Option Nat)} {dst : Option Nat} {op : Op} {os : List Oper} {st : St} {K : St → Prop} : GX P N ds (some true) dst op st os K = AX P N ds dst op st os K := rfl
theorem GX_not {ds : List (Option Nat)} {dst : Option Nat} {op : Op} {os : List Oper} {st : St} {K : St → Prop} : GX P N ds (some false) dst op st os K = (dok N dst = true ∧ AR P N ds os (st.put dst (.tup [])) K) := rfl
section
variable {ds : List (Option Nat)} {dst : Option Nat} {st : St} {os : List Oper} {K : St → Prop}
theorem AX_move {x} : AX P N ds dst (.move x) st os K = OpA P N ds dst st os (aop P (.move x) (evA (lk st.tm)) (hlk st.hp) st.nx) K := rfl
theorem AX_assign {x} : AX P N ds dst (.assign x) st os K = OpA P N ds dst st os (aop P (.assign x) (evA (lk st.tm)) (hlk st.hp) st.nx) K := rfl
theorem AX_pick {c a b} : AX P N ds dst (.pick c a b) st os K = OpA P N ds dst st os (aop P (.pick c a b) (evA (lk st.tm)) (hlk st.hp) st.nx) K := rfl
theorem AX_alloc {e} : AX P N ds dst (.alloc e) st os K = OpA P N ds dst st os (aop P (.alloc e) (evA (lk st.tm)) (hlk st.hp) st.nx) K := rfl
theorem AX_box {e v} : AX P N ds dst (.box e v) st os K = OpA P N ds dst st os (aop P (.box e v) (evA (lk st.tm)) (hlk st.hp) st.nx) K := rfl
theorem AX_build {t p} : AX P N ds dst (.build t p) st os K = OpA P N ds dst st os (aop P (.build t p) (evA (lk st.tm)) (hlk st.hp) st.nx) K := rfl
theorem AX_buildSlice {t n p} : AX P N ds dst (.buildSlice t n p) st os K = OpA P N ds dst st os (aop P (.buildSlice t n p) (evA (lk st.tm)) (hlk st.hp) st.nx) K := rfl
theorem AX_insert {t m k v} : AX P N ds dst (.insert t m k v) st os K = OpA P N ds dst st os (aop P (.insert t m k v) (evA (lk st.tm)) (hlk st.hp) st.nx) K := rfl
theorem AX_load {t a} : AX P N ds dst (.load t a) st os K = OpA P N ds dst st os (aop P (.load t a) (evA (lk st.tm)) (hlk st.hp) st.nx) K := rfl
theorem AX_store {t a v} : AX P N ds dst (.store t a v) st os K = OpA P N ds dst st os (aop P (.store t a v) (evA (lk st.tm)) (hlk st.hp) st.nx) K := rfl
theorem AX_ready {g} : AX P N ds dst (.ready g) st os K = OpA P N ds dst st os (aop P (.ready g) (evA (lk st.tm)) (hlk st.hp) st.nx) K := rfl
theorem AX_waits {g} : AX P N ds dst (.waits g) st os K = OpA P N ds dst st os (aop P (.waits g) (evA (lk st.tm)) (hlk st.hp) st.nx) K := rfl
theorem AX_nilCheck {x} : AX P N ds dst (.nilCheck x) st os K = OpA P N ds dst st os (aop P (.nilCheck x) (evA (lk st.tm)) (hlk st.hp) st.nx) K := rfl
theorem AX_binOp {o t x y u} : AX P N ds dst (.binOp o t x y u) st os K = OpA P N ds dst st os (aop P (.binOp o t x y u) (evA (lk st.tm)) (hlk st.hp) st.nx) K := rfl
theorem AX_unOp {o t x} : AX P N ds dst (.unOp o t x) st os K = OpA P N ds dst st os (aop P (.unOp o t x) (evA (lk st.tm)) (hlk st.hp) st.nx) K := rfl
theorem AX_convert {s d x} : AX P N ds dst (.convert s d x) st os K = OpA P N ds dst st os (aop P (.convert s d x) (evA (lk st.tm)) (hlk st.hp) st.nx) K := rfl
theorem AX_sliceToArrayPointer {d x} : AX P N ds dst (.sliceToArrayPointer d x) st os K = OpA P N ds dst st os (aop P (.sliceToArrayPointer d x) (evA (lk st.tm)) (hlk st.hp) st.nx) K := rfl
theorem AX_makeInterface {t x} : AX P N ds dst (.makeInterface t x) st os K = OpA P N ds dst st os (aop P (.makeInterface t x) (evA (lk st.tm)) (hlk st.hp) st.nx) K := rfl
theorem AX_makeFunc {f a b} : AX P N ds dst (.makeFunc f a b) st os K = OpA P N ds dst st os (aop P (.makeFunc f a b) (evA (lk st.tm)) (hlk st.hp) st.nx) K := rfl
theorem AX_makeMap {t r} : AX P N ds dst (.makeMap t r) st os K = OpA P N ds dst st os (aop P (.makeMap t r) (evA (lk st.tm)) (hlk st.hp) st.nx) K := rfl
theorem AX_makeChan {t z} : AX P N ds dst (.makeChan t z) st os K = OpA P N ds dst st os (aop P (.makeChan t z) (evA (lk st.tm)) (hlk st.hp) st.nx) K := rfl
theorem AX_makeSlice {t n c} : AX P N ds dst (.makeSlice t n c) st os K = OpA P N ds dst st os (aop P (.makeSlice t n c) (evA (lk st.tm)) (hlk st.hp) st.nx) K := rfl
theorem AX_slice {t x l h m} : AX P N ds dst (.slice t x l h m) st os K = OpA P N ds dst st os (aop P (.slice t x l h m) (evA (lk st.tm)) (hlk st.hp) st.nx) K := rfl
theorem AX_fieldAddr {t x f} : AX P N ds dst (.fieldAddr t x f) st os K = OpA P N ds dst st os (aop P (.fieldAddr t x f) (evA (lk st.tm)) (hlk st.hp) st.nx) K := rfl
theorem AX_field {t x f} : AX P N ds dst (.field t x f) st os K = OpA P N ds dst st os (aop P (.field t x f) (evA (lk st.tm)) (hlk st.hp) st.nx) K := rfl
theorem AX_indexAddr {t x i} : AX P N ds dst (.indexAddr t x i) st os K = OpA P N ds dst st os (aop P (.indexAddr t x i) (evA (lk st.tm)) (hlk st.hp) st.nx) K := rfl
theorem AX_index {t x i} : AX P N ds dst (.index t x i) st os K = OpA P N ds dst st os (aop P (.index t x i) (evA (lk st.tm)) (hlk st.hp) st.nx) K := rfl
theorem AX_lookup {t x i c} : AX P N ds dst (.lookup t x i c) st os K = OpA P N ds dst st os (aop P (.lookup t x i c) (evA (lk st.tm)) (hlk st.hp) st.nx) K := rfl
theorem AX_mapUpdate {t m k v} : AX P N ds dst (.mapUpdate t m k v) st os K = OpA P N ds dst st os (aop P (.mapUpdate t m k v) (evA (lk st.tm)) (hlk st.hp) st.nx) K := rfl
theorem AX_mapEntry {t m k} : AX P N ds dst (.mapEntry t m k) st os K = OpA P N ds dst st os (aop P (.mapEntry t m k) (evA (lk st.tm)) (hlk st.hp) st.nx) K := rfl
theorem AX_entryStore {t m a v} : AX P N ds dst (.entryStore t m a v) st os K = OpA P N ds dst st os (aop P (.entryStore t m a v) (evA (lk st.tm)) (hlk st.hp) st.nx) K := rfl
theorem AX_range {t x} : AX P N ds dst (.range t x) st os K = OpA P N ds dst st os (aop P (.range t x) (evA (lk st.tm)) (hlk st.hp) st.nx) K := rfl
theorem AX_next {i s} : AX P N ds dst (.next i s) st os K = OpA P N ds dst st os (aop P (.next i s) (evA (lk st.tm)) (hlk st.hp) st.nx) K := rfl
theorem AX_entry {i} : AX P N ds dst (.entry i) st os K = OpA P N ds dst st os (aop P (.entry i) (evA (lk st.tm)) (hlk st.hp) st.nx) K := rfl
theorem AX_typeAssert {x t a c} : AX P N ds dst (.typeAssert x t a c) st os K = OpA P N ds dst st os (aop P (.typeAssert x t a c) (evA (lk st.tm)) (hlk st.hp) st.nx) K := rfl
theorem AX_extract {t i} : AX P N ds dst (.extract t i) st os K = OpA P N ds dst st os (aop P (.extract t i) (evA (lk st.tm)) (hlk st.hp) st.nx) K := rfl
theorem AX_panic {x} : AX P N ds dst (.panic x) st os K = OpA P N ds dst st os (aop P (.panic x) (evA (lk st.tm)) (hlk st.hp) st.nx) K := rfl
theorem AX_builtin {b a t} : AX P N ds dst (.call ⟨.builtin b, a, t⟩) st os K = OpA P N ds dst st os (aop P (.call ⟨.builtin b, a, t⟩) (evA (lk st.tm)) (hlk st.hp) st.nx) K := rfl
end
theorem ar_call {ds : List (Option Nat)} {dst : Option Nat} {f : Operand} {args ats} {os : List Oper} {st : St} {K : St → Prop} (h : CallK P N dst (evA (lk st.tm) f) (args.toList.map (evA (lk st.tm))) st (fun st' => AR P N ds os st' K)) :
    AX P N ds dst (.call ⟨.value f, args, ats⟩) st os K := h
end
end Go.Proofs.Ytcjagcfjpfjanaa.am
namespace Go.Proofs.Ytcjagcfjpfjanaa.am
open Go.ChangeShapes Go.WideShapes Go.ChangeAt Go.RowKit
set_option linter.unusedVariables false
set_option linter.unusedSimpArgs false
def CtxB (nb : Nat) (X : Ctx) : Prop := ∀ x, nb ≤ x → X.γ0 x = .un
def AW (P : Program) (N nb : Nat) (c : Code) (st : St) (Q : Exit → St → Prop) : Prop :=
  ∀ X, CtxB nb X → ∀ a w, Rel X N st a w → ∀ Q' : Exit → Act → World → Prop, (∀ e st' a' w', Q e st' → Rel X N st' a' w' → Q' e a' w') → c.wp P Q' a w
def Cov (N nb : Nat) (st st' : St) : Prop := ∀ X, CtxB nb X → ∀ a w, Rel X N st a w → Rel X N st' a w
def idx : Nat → List (Option AO) → List (Nat × Option AO)
  | _, [] => []
  | k, o :: os => (k, o) :: idx (k + 1) os
theorem hlk_idx : ∀ (os : List (Option AO)) (k x : Nat), hlk (idx k os) x = if k ≤ x then (os[x - k]?).join else none
  | [], k, x => by simp [idx, hlk]
  | o :: os, k, x => by
    unfold idx hlk
    rw [hlk_idx os (k + 1) x]
    by_cases h1 : x = k
    · subst h1; simp
    · rw [if_neg h1]
      by_cases h2 : k ≤ x
      · have : x - k = (x - (k + 1)) + 1 := by omega
        rw [if_pos (by omega), if_pos h2, this]; simp
      · rw [if_neg (by omega), if_neg h2]
theorem hlk_idx0 (os : List (Option AO)) (x : Nat) : hlk (idx 0 os) x = (os[x]?).join := by rw [hlk_idx]; simp
def mkSt (tm : List (Nat × AV)) (os : List (Option AO)) : St := ⟨tm, idx 0 os, os.length⟩
def covT (tm : List (Nat × AV)) (n : Nat) (ρ : Nat → Nat) : List (Nat × AV) → Prop
  | [] => True
  | p :: r => fitV n ρ p.2 (lk tm p.1) ∧ covT tm n ρ r
theorem covT_lk {γ γ' : Nat → G} {S : CS} {w : World} {n : Nat} {ρ : Nat → Nat} (hg : ∀ i, i < n → γ' i = γ (ρ i)) {a : Act} {tm : List (Nat × AV)} (ha : ∀ t, RepV γ S w (a.tmps.getD t undef) (lk tm t)) : ∀ {tm' : List (Nat × AV)}, covT tm n ρ tm' → ∀ t, RepV γ' S w (a.tmps.getD t undef) (lk tm' t)
  | [], _, t => trivial
  | p :: r, h, t => by
    unfold lk
    by_cases ht : t = p.1
    · rw [if_pos ht]; exact fitV_rep hg h.1 (by rw [← ht]; exact ha t)
    · rw [if_neg ht]; exact covT_lk hg ha h.2 t
section
variable {P : Program} {N nb : Nat}
theorem Mem.cov {X : Ctx} (hX : CtxB nb X) {hp : Nat → Option AO} {U : Nat → Prop} {γ : Nat → G} {S : CS} {w : World} (h : Mem X hp U γ S w) {os : List (Option AO)} {r : List Nat} (hc : covO hp os.length (fun i => r.getD i 0) os r) (hnd : r.Nodup) (hb : r.take nb = List.range nb) (hnb : nb ≤ os.length) :
    ∃ γ', (∀ i, i < os.length → γ' i = γ (r.getD i 0)) ∧ Mem X (fun x => (os[x]?).join) (fun x => os.length ≤ x) γ' S w := by
  obtain ⟨γ', hγ⟩ : ∃ γ' : Nat → G, γ' = fun i => if i < os.length then γ (r.getD i 0) else .un := ⟨_, rfl⟩
  have hg : ∀ i, i < os.length → γ' i = γ (r.getD i 0) := fun i hi => by rw [hγ]; simp only [hi, if_true]
  have ho : ∀ i, os.length ≤ i → γ' i = .un := fun i hi => by rw [hγ]; simp only [Nat.not_lt.2 hi, if_false]
  obtain ⟨c1, c2⟩ := covO_at hc
  have hr : ∀ i, i < nb → r.getD i 0 = i := fun i hi => by
    have : (r.take nb)[i]? = (List.range nb)[i]? := by rw [hb]
    rw [List.getElem?_take, if_pos hi, List.getElem?_range hi] at this
    rw [List.getD_eq_getElem?_getD, this]; rfl
  refine ⟨γ', hg, h.os, h.tape, h.output, h.size, h.frame, h.keep, h.fresh, h.inb, fun x => ?_, fun x hx => ho x hx, fun x hx => ?_, fun x o hx => ?_, fun x y hxy b hbx hby => ?_, fun x b hb => ?_⟩
  · by_cases hx : x < nb
    · have := h.mono x
      rw [hg x (by omega), hr x hx]; exact this
    · exact .inl (hX x (by omega))
  · by_cases hx' : x < os.length
    · rw [hg x hx']
      have := (c2 x _ (List.getElem?_eq_getElem hx')).2
      refine h.off _ (this ?_)
      rw [List.getElem?_eq_getElem hx'] at hx
      exact hx
    · exact .inl (ho x (by omega))
  · have hx' : x < os.length := by
      rcases Nat.lt_or_ge x os.length with h | h
      · exact h
      · rw [List.getElem?_eq_none h] at hx; cases hx
    rw [List.getElem?_eq_getElem hx'] at hx
    obtain ⟨o', h1, h2⟩ := (c2 x _ (List.getElem?_eq_getElem hx')).1 o hx
    exact fitO_rep (ρ := fun i => r.getD i 0) hg hx' h2 (h.obj _ _ h1)
  · by_cases hx : x < os.length
    · by_cases hy : y < os.length
      · rw [hg x hx] at hbx; rw [hg y hy] at hby
        exact h.dist _ _ (fun e => hxy (nodup_getD hnd x y (by omega) (by omega) e)) b hbx hby
      · rw [ho y (by omega)] at hby; cases hby
    · rw [ho x (by omega)] at hbx; cases hbx
  · by_cases hx : x < os.length
    · rw [hg x hx] at hb; exact h.live _ b hb
    · rw [ho x (by omega)] at hb; cases hb
theorem cov_intro {st : St} {tm : List (Nat × AV)} {os : List (Option AO)} (r : List Nat) (ht : covT st.tm os.length (fun i => r.getD i 0) tm) (hc : covO (hlk st.hp) os.length (fun i => r.getD i 0) os r) (hnd : r.Nodup) (hb : r.take nb = List.range nb) (hnb : nb ≤ os.length) : Cov N nb st (mkSt tm os) := by
  intro X hX a w h
  obtain ⟨h1, h2, γ, S, hm, ha⟩ := h
  obtain ⟨γ', hg, hm'⟩ := hm.cov hX hc hnd hb hnb
  refine ⟨h1, h2, γ', S, ?_, covT_lk (ρ := fun i => r.getD i 0) hg ha ht⟩
  have e : hlk (mkSt tm os).hp = fun x => (os[x]?).join := funext (hlk_idx0 os)
  rw [e]; exact hm'
def Th (P : Program) (N nb : Nat) (y : Code) (Q : Exit → St → Prop) : Exit → St → Prop
  | .normal, st => AW P N nb y st Q
  | e, st => Q e st
def InB (id : Nat) (Q : Exit → St → Prop) : Exit → St → Prop
  | .exit id', st => if id' = id then Q .normal st else Q (.exit id') st
  | e, st => Q e st
variable {st : St} {Q : Exit → St → Prop}
theorem aw_cov {c : Code} {st' : St} (h : Cov N nb st st') (k : AW P N nb c st' Q) : AW P N nb c st Q := fun X hX a w hr => k X hX a w (h X hX a w hr)
theorem aw_seq {x y : Code} (h : AW P N nb x st (Th P N nb y Q)) : AW P N nb (.seq x y) st Q := fun X hX a w hr Q' hQ =>
  wp_seq (h X hX a w hr _ (fun e st' a' w' h1 h2 => by
    cases e with
    | normal => exact h1 X hX a' w' h2 Q' hQ
    | _ => exact hQ _ _ _ _ h1 h2))
theorem aw_cond {c : Operand} {x y : Code} {b : Bool} (hc : evA (lk st.tm) c = .v (.c (.pv (.lit (.bool b))))) (ht : b = true → AW P N nb x st Q) (hf : b = false → AW P N nb y st Q) : AW P N nb (.cond c x y) st Q := fun X hX a w hr Q' hQ => by
  obtain ⟨h1, h2, γ, S, hm, ha⟩ := id hr
  have he := evA_rep ha c
  rw [hc] at he
  obtain ⟨hv, _⟩ := lit_inv he
  exact wp_cond_split hv (fun hb => ht hb X hX a w hr Q' hQ) (fun hb => hf hb X hX a w hr Q' hQ)
theorem aw_ct {c : Operand} {x y : Code} {b : Bool} (hc : evA (lk st.tm) c = .v (.c (.pv (.lit (.bool b))))) (ht : AW P N nb x st Q) (hb : b = true := by decide) : AW P N nb (.cond c x y) st Q :=
  aw_cond hc (fun _ => ht) (fun h => Bool.noConfusion (hb.symm.trans h))
theorem aw_cf {c : Operand} {x y : Code} {b : Bool} (hc : evA (lk st.tm) c = .v (.c (.pv (.lit (.bool b))))) (hf : AW P N nb y st Q) (hb : b = false := by decide) : AW P N nb (.cond c x y) st Q :=
  aw_cond hc (fun h => Bool.noConfusion (hb.symm.trans h)) (fun _ => hf)
theorem aw_block {id : Nat} {c : Code} (h : AW P N nb c st (InB id Q)) : AW P N nb (.block id c) st Q := fun X hX a w hr Q' hQ =>
  wp_block (h X hX a w hr _ (fun e st' a' w' h1 h2 => by
    cases e with
    | exit id' =>
      have h1' : if id' = id then Q .normal st' else Q (.exit id') st' := h1
      show if id' = id then Q' .normal a' w' else Q' (.exit id') a' w'
      by_cases he : id' = id
      · rw [if_pos he] at h1' ⊢; exact hQ _ _ _ _ h1' h2
      · rw [if_neg he] at h1' ⊢; exact hQ _ _ _ _ h1' h2
    | _ => exact hQ _ _ _ _ h1 h2))
theorem aw_skip (h : Q .normal st) : AW P N nb .skip st Q := fun X hX a w hr Q' hQ => wp_skip (hQ _ _ _ _ h hr)
theorem aw_ret (h : Q .ret st) : AW P N nb .ret st Q := fun X hX a w hr Q' hQ => wp_ret (hQ _ _ _ _ h hr)
theorem aw_exit {id : Nat} (h : Q (.exit id) st) : AW P N nb (.exit id) st Q := fun X hX a w hr Q' hQ => wp_exit (hQ _ _ _ _ h hr)
theorem aw_region {id : Nat} {l : List Oper} (h : AR P N (l.map (·.dst)) l st (Q .normal)) : AW P N nb (.region id l.toArray false) st Q := fun X hX a w hr Q' hQ =>
  wp_region_list (by
    have := ar_sound (P := P) (X := X) l.toArray (Q := Q') (K := Q .normal) (fun st a w h1 h2 => hQ _ _ _ _ h1 h2) l st a w hr (by simpa using h)
    simpa using this)
theorem least {p : Nat → Prop} (h : ∃ n, p n) : ∃ n, p n ∧ ∀ m, p m → n ≤ m := by
  obtain ⟨n, hn⟩ := h
  induction n using Nat.strongRecOn with
  | ind n ih =>
    by_cases hm : ∃ m, p m ∧ m < n
    · obtain ⟨m, h1, h2⟩ := hm; exact ih m h2 h1
    · exact ⟨n, hn, fun m h1 => Nat.le_of_not_lt fun h2 => hm ⟨m, h1, h2⟩⟩
noncomputable def lst (p : Nat → Prop) : Nat := open Classical in if h : ∃ n, p n then Classical.choose (least h) else 0
theorem lst_spec {p : Nat → Prop} (h : ∃ n, p n) : p (lst p) ∧ ∀ m, p m → lst p ≤ m := by
  unfold lst; rw [dif_pos h]; exact Classical.choose_spec (least h)
theorem aw_reg {id : Nat} {l : List Oper} (h : ∀ K : St → Prop, (∀ st, Q .normal st → K st) → AR P N (l.map (·.dst)) l st K) : AW P N nb (.region id l.toArray false) st Q := aw_region (h (Q .normal) (fun _ h => h))
def LpQ {ι : Type} (N nb : Nat) (I : ι → St) (C : ι → Prop) (μ : ι → Nat) (x : ι) (Q : Exit → St → Prop) : Exit → St → Prop
  | .normal, st => ∃ y, C y ∧ μ y < μ x ∧ Cov N nb st (I y)
  | e, st => Q e st
theorem aw_loop {ι : Type} {c : Code} (I : ι → St) (C : ι → Prop) (μ : ι → Nat) (x0 : ι) (h0 : C x0) (hs : Cov N nb st (I x0)) (round : ∀ x, C x → AW P N nb c (I x) (LpQ N nb I C μ x Q)) : AW P N nb (.loop c) st Q := fun X hX a w hr Q' hQ => by
  let p : Act → World → Nat → Prop := fun a' w' n => ∃ x, C x ∧ Rel X N (I x) a' w' ∧ μ x = n
  refine wp_loop (fun a' w' => ∃ n, p a' w' n) (fun a' w' => lst (p a' w')) ⟨_, x0, h0, hs X hX a w hr, rfl⟩ (fun a' w' hI => ?_)
  obtain ⟨⟨x, hx, hrx, hm⟩, hle⟩ := lst_spec hI
  refine round x hx X hX a' w' hrx _ (fun e st' a2 w2 h1 h2 => ?_)
  cases e with
  | normal =>
    obtain ⟨y, hy, hlt, hc⟩ := h1
    have hp : p a2 w2 (μ y) := ⟨y, hy, hc X hX a2 w2 h2, rfl⟩
    refine ⟨⟨_, hp⟩, ?_⟩
    have := (lst_spec ⟨_, hp⟩).2 _ hp
    show lst (p a2 w2) < lst (p a' w')
    omega
  | _ => exact hQ _ _ _ _ h1 h2
theorem aw_lp {ι : Type} {c : Code} (I0 : ι → St) (C : ι → Prop) (μ : ι → Nat) (x0 : ι) (h0 : C x0) (hs : Cov N nb st (I0 x0)) (round : ∀ I : ι → St, (∀ x, I x = I0 x) → ∀ x, C x → AW P N nb c (I0 x) (LpQ N nb I C μ x Q)) : AW P N nb (.loop c) st Q :=
  aw_loop I0 C μ x0 h0 hs (round I0 (fun _ => rfl))
end
def idxA : Nat → List AV → List (Nat × AV)
  | _, [] => []
  | k, v :: l => (k, v) :: idxA (k + 1) l
def entry (args : List AV) (ch : List AO) : St := ⟨idxA 0 args, idx 0 (ch.map some), ch.length⟩
def resT (P : Program) (st : St) : ResultVar → Option AT
  | .tmp t => match lk st.tm t with
    | .v x => some x
    | _ => none
  | .cell a t => match lk st.tm a, td P t with
    | .v (.c (.ptr id off)), some d => (match vload d (.v (.c (.ptr id off))) (hlk st.hp) with | some (.v x, _) => some x | _ => none)
    | _, _ => none
def resV (P : Program) (st : St) (rs : List ResultVar) : Option AV :=
  match rs.mapM (resT P st) with
  | some [x] => some (.v x)
  | some l => some (.tup l)
  | none => none
def Fin (P : Program) (nb : Nat) (rs : List ResultVar) (res : AV) (ch' : List (Option AO)) : Exit → St → Prop
  | .normal, st | .ret, st => ∃ x r, resV P st rs = some x ∧ fitV ch'.length (fun i => r.getD i 0) res x ∧ covO (hlk st.hp) ch'.length (fun i => r.getD i 0) ch' r ∧ r.Nodup ∧ r.take nb = List.range nb ∧ nb ≤ ch'.length
  | _, _ => False
def FinP (P : Program) (rs : List ResultVar) (res : AV) (st : St) : Prop :=
  match resV P st rs with
  | some x => fitV 0 (fun _ => 0) res x
  | none => False
theorem fin_ret {P : Program} {rs : List ResultVar} {res : AV} {st : St} (h : FinP P rs res st) : Fin P 0 rs res [] .ret st := by
  unfold FinP at h
  split at h
  · rename_i x hx; exact ⟨x, [], hx, h, trivial, List.nodup_nil, rfl, Nat.le_refl _⟩
  · exact h.elim
theorem idxA_lk {γ : Nat → G} {S : CS} {w : World} {N : Nat} : ∀ {vs : List Value} {l : List AV}, RepVs γ S w vs l → ∀ (k t : Nat), RepV γ S w ((vs.toArray ++ Array.replicate N undef).getD (t - k) undef) (if k ≤ t then lk (idxA k l) t else .top)
  | vs, l, h, k, t => by
    by_cases hk : k ≤ t
    · rw [if_pos hk]
      induction l generalizing vs k with
      | nil => trivial
      | cons v l ih =>
        cases vs with
        | nil => exact h.elim
        | cons u vs =>
          unfold idxA lk
          by_cases ht : t = k
          · subst ht
            rw [if_pos rfl]
            simp [Array.getElem?_append]; exact h.1
          · rw [if_neg ht]
            have := ih (vs := vs) h.2 (k + 1) (by omega)
            have e1 : t - k = (t - (k + 1)) + 1 := by omega
            rw [e1]
            have e2 : ((u :: vs).toArray ++ Array.replicate N undef).getD (t - (k + 1) + 1) undef = (vs.toArray ++ Array.replicate N undef).getD (t - (k + 1)) undef := by
              simp [Array.getElem?_append, List.getElem?_cons_succ]
            rw [e2]; exact this
    · rw [if_neg hk]; trivial
theorem run_results {P : Program} {γ : Nat → G} {S : CS} {w : World} {X : Ctx} {U : Nat → Prop} {st : St} (hm : Mem X (hlk st.hp) U γ S w) {tmps : Array Value} (ha : ∀ t, RepV γ S w (tmps.getD t undef) (lk st.tm t)) {r : ResultVar} {x : AT} (h : resT P st r = some x) :
    ∃ u, (match r with | .tmp t => pure (tmps.getD t undef) | .cell a t => do loadVar t (← asAddr (tmps.getD a undef)) : Sem Value).run P w = .ok u w ∧ RepT γ S w u x := by
  cases r with
  | tmp t =>
    have := ha t
    unfold resT at h
    dsimp only at h
    split at h
    · rename_i y hy
      cases h
      rw [hy] at this
      exact ⟨_, rfl, this⟩
    · cases h
  | cell a t =>
    have hat := ha a
    unfold resT at h
    dsimp only at h
    split at h
    · rename_i id off d hl hd
      split at h
      · rename_i y F hv
        cases h
        rw [hl] at hat
        obtain ⟨u, h1, h2⟩ := vload_sound hd hv hm.obj hat
        obtain ⟨b, hb, he⟩ := hat
        refine ⟨u, ?_, h2⟩
        rw [he] at h1
        dsimp only
        rw [he]
        simp only [asAddr, Sem.run_bind, Sem.run_pure, Result.andThen_ok]
        simpa [Instr.loadAt, Instr.sureAddr] using h1
      · cases h
    · cases h
theorem run_mapM {α β : Type} {P : Program} {w : World} {f : α → Sem β} : ∀ (l : List α) (g : List β), l.length = g.length → (∀ (i : Nat) x y, l[i]? = some x → g[i]? = some y → (f x).run P w = .ok y w) → (l.mapM f).run P w = .ok g w
  | [], [], _, _ => by simp
  | x :: l, y :: g, hl, h => by
    have ih := run_mapM l g (by simpa using hl) (fun i a b h1 h2 => h (i + 1) a b (by simpa using h1) (by simpa using h2))
    have h0 := h 0 x y rfl rfl
    simp [List.mapM_cons, h0, ih]
  | [], _ :: _, h, _ => by simp at h
  | _ :: _, [], h, _ => by simp at h
theorem run_mapMA {α β : Type} {P : Program} {w : World} {f : α → Sem β} (l : Array α) (g : List β) (hl : l.size = g.length) (h : ∀ (i : Nat) x y, l[i]? = some x → g[i]? = some y → (f x).run P w = .ok y w) : (l.mapM f).run P w = .ok g.toArray w := by
  have e := run_mapM (f := f) l.toList g (by simpa using hl) (fun i x y h1 h2 => h i x y (by simpa using h1) h2)
  have e2 : l.mapM f = List.toArray <$> l.toList.mapM f := Array.mapM_eq_mapM_toList
  rw [e2, map_eq_pure_bind, Sem.run_bind, e]
  rfl
theorem resV_sound {P : Program} {γ : Nat → G} {S : CS} {w : World} {X : Ctx} {U : Nat → Prop} {st : St} (hm : Mem X (hlk st.hp) U γ S w) {tmps : Array Value} (ha : ∀ t, RepV γ S w (tmps.getD t undef) (lk st.tm t)) {fn : Func} {x : AV} (h : resV P st fn.results.toList = some x) :
    ∃ u, (results fn tmps).run P w = .ok u w ∧ RepV γ S w u x := by
  obtain ⟨l, hl⟩ : ∃ l, fn.results.toList.mapM (resT P st) = some l := by
    unfold resV at h
    cases hh : fn.results.toList.mapM (resT P st) with
    | none => rw [hh] at h; cases h
    | some l => exact ⟨l, rfl⟩
  obtain ⟨h1, h2⟩ := mapM_at hl
  obtain ⟨us, hu1, hu2⟩ := bs.choose_list l.length (fun i u => ∃ r x, fn.results.toList[i]? = some r ∧ l[i]? = some x ∧ (match r with | .tmp t => pure (tmps.getD t undef) | .cell a t => do loadVar t (← asAddr (tmps.getD a undef)) : Sem Value).run P w = .ok u w ∧ RepT γ S w u x) (fun i hi => by
    obtain ⟨r, k1, k2⟩ := h2 i _ (List.getElem?_eq_getElem hi)
    obtain ⟨u, k3, k4⟩ := run_results hm ha k2
    exact ⟨u, r, _, k1, List.getElem?_eq_getElem hi, k3, k4⟩)
  have hrep : RepTs γ S w us l := ⟨hu1, fun i c hc => by
    obtain ⟨u, hu⟩ := getElem?_lift hu1.symm hc
    obtain ⟨r', x, k1, k2, k3, k4⟩ := hu2 i u hu
    rw [hc] at k2; cases k2
    exact ⟨u, hu, k4⟩⟩
  have hres : (results fn tmps).run P w = .ok (if h : us.toArray.size = 1 then us.toArray[0] else .tuple us.toArray) w := by
    unfold results
    rw [Sem.run_bind, run_mapMA fn.results us (by rw [← hu1] at h1; simpa using h1) (fun i r u g1 g2 => by
      obtain ⟨r', x, k1, k2, k3, k4⟩ := hu2 i u g2
      have g1' : fn.results.toList[i]? = some r := by simpa using g1
      rw [g1'] at k1; cases k1; exact k3)]
    rfl
  unfold resV at h
  rw [hl] at h
  split at h
  · rename_i y heq
    cases heq; cases h
    match us, hu1, hrep, hres with
    | [u], _, hrep, hres =>
      obtain ⟨v, k1, k2⟩ := hrep.2 0 y rfl
      simp at k1; subst k1
      exact ⟨u, by simpa using hres, k2⟩
  · rename_i l' hne heq
    cases heq; cases h
    refine ⟨.tuple us.toArray, ?_, us.toArray, rfl, hrep⟩
    rw [hres, dif_neg]
    intro h1
    rw [List.size_toArray, hu1] at h1
    obtain ⟨y, hy⟩ := List.length_eq_one_iff.1 h1
    exact hne y hy
  · cases h
theorem body_of {P : Program} {fn : Func} {c : Code} {args : List AV} {ch : List AO} {res : AV} {ch' : List (Option AO)} (hN : args.length ≤ fn.ntmps)
    (h : AW P fn.ntmps ch.length c (entry args ch) (Fin P ch.length fn.results.toList res ch')) (γ : Nat → G) (S : CS) (w : World) (vs : List Value) (hm : Mem ⟨w, S, γ, []⟩ (fun x => ch[x]?) (fun x => ch.length ≤ x) γ S w) (hv : RepVs γ S w vs args) :
    c.wp P (bodyPost P fn fun e w' => ∃ v γ' S', e = .returned v ∧ Mem ⟨w, S, γ, []⟩ (fun x => (ch'[x]?).join) (fun x => ch'.length ≤ x) γ' S' w' ∧ RepV γ' S' w' v res) { tmps := vs.toArray ++ Array.replicate (fn.ntmps - vs.toArray.size) undef, defers := [] } w := by
  have hlen : vs.length = args.length := by
    clear h hm hN
    induction vs generalizing args with
    | nil => cases args with
      | nil => rfl
      | cons a l => exact hv.elim
    | cons v vs ih => cases args with
      | nil => exact hv.elim
      | cons a l => simp [ih hv.2]
  refine (h ⟨w, S, γ, []⟩ (fun x hx => hm.un x hx) _ w ⟨rfl, ?_, γ, S, ?_, fun t => ?_⟩ _ (fun e st' a' w' hq hr => ?_))
  · simp [hlen]; omega
  · have e : hlk (entry args ch).hp = fun x => ch[x]? := by
      funext x
      show hlk (idx 0 (ch.map some)) x = _
      rw [hlk_idx0, List.getElem?_map]
      cases ch[x]? <;> rfl
    rw [e]; exact hm
  · have := idxA_lk (N := fn.ntmps - vs.toArray.size) hv 0 t
    simp at this ⊢
    exact this
  · obtain ⟨d1, d2, γ', S', m1, m2⟩ := hr
    have fin : (∃ x r, resV P st' fn.results.toList = some x ∧ fitV ch'.length (fun i => r.getD i 0) res x ∧ covO (hlk st'.hp) ch'.length (fun i => r.getD i 0) ch' r ∧ r.Nodup ∧ r.take ch.length = List.range ch.length ∧ ch.length ≤ ch'.length) →
        a'.defers = [] ∧ ∃ v, (results fn a'.tmps).run P w' = .ok v w' ∧ ∃ v' γ' S', Ending.returned v = .returned v' ∧ Mem ⟨w, S, γ, []⟩ (fun x => (ch'[x]?).join) (fun x => ch'.length ≤ x) γ' S' w' ∧ RepV γ' S' w' v' res := fun ⟨x, r, g1, g2, g3, g4, g5, g6⟩ => by
      obtain ⟨u, k1, k2⟩ := resV_sound m1 m2 g1
      obtain ⟨γ2, hg, m3⟩ := m1.cov (nb := ch.length) (fun x hx => hm.un x hx) g3 g4 g5 g6
      exact ⟨d1, u, k1, u, γ2, S', rfl, m3, fitV_rep (ρ := fun i => r.getD i 0) hg g2 k2⟩
    cases e with
    | normal => exact fin hq
    | ret => exact fin hq
    | _ => exact hq.elim
theorem row_of {P : Program} {f : FuncId} {fn : Func} {c : Code} (hf : P.funcs[f]? = some fn) (hb : fn.body = some c) (hn : (fn.name == "runtime.NumGoroutine") = false) {args : List AV} {ch : List AO} {res : AV} {ch' : List (Option AO)} (hN : args.length ≤ fn.ntmps)
    (h : AW P fn.ntmps ch.length c (entry args ch) (Fin P ch.length fn.results.toList res ch')) : Row P f args ch res ch' :=
  ⟨⟨fn, hf, hn, by rw [hb]; rfl⟩, fun γ S w vs hm hv => calls_of_wp hf hb (body_of hN h γ S w vs hm hv)⟩
end Go.Proofs.Ytcjagcfjpfjanaa.am
namespace Go.Proofs.Ytcjagcfjpfjanaa.am
open Go.ChangeShapes Go.WideShapes Go.ChangeAt Go.RowKit
set_option linter.unusedVariables false
set_option linter.unusedSimpArgs false
theorem mapM_congr' {α β : Type} {f g : α → Option β} : ∀ {l : List α}, (∀ x ∈ l, f x = g x) → l.mapM f = l.mapM g
  | [], _ => rfl
  | x :: l, h => by
    simp only [List.mapM_cons]
    rw [h x (by simp), mapM_congr' (fun y hy => h y (by simp [hy]))]
theorem parts_congr {e e' : Operand → AV} {ps : List (Nat × Operand)} (h : ∀ x ∈ ps.map (·.2), e' x = e x) : (ps.map fun p => (p.1, e' p.2)) = ps.map fun p => (p.1, e p.2) :=
  List.map_congr_left fun p hp => by rw [h p.2 (List.mem_map.2 ⟨p, hp, rfl⟩)]
theorem oav_congr {e e' : Operand → AV} {o : Option Operand} (h : ∀ x, o = some x → e' x = e x) : oav e' o = oav e o := by
  cases o with
  | none => rfl
  | some x => simp [oav, h x rfl]
theorem vload_congr {d : TD} {a : AV} {H H' : Nat → Option AO} {v : AV} {F : List Nat} (h : vload d a H = some (v, F)) (hH : ∀ x ∈ F, H' x = H x) : vload d a H' = some (v, F) := by
  unfold vload at h ⊢
  split at h
  · rename_i id off
    split at h
    · rename_i cells hc
      have hF : id ∈ F := by
        split at h
        · split at h
          · cases h; simp
          · cases h
        · obtain ⟨c, _, he⟩ := Option.map_eq_some_iff.1 h; cases he; simp
      simp only [hH id hF, hc]
      exact h
    · rename_i t' c hc
      have hF : id ∈ F := by
        split at h
        · cases h; simp
        · cases h
      simp only [hH id hF, hc]
      exact h
    · cases h
  · exact h
  · rename_i id es' k off
    split at h
    · rename_i e es l hc
      have hF : id ∈ F := by
        split at h
        · split at h
          · split at h
            · cases h; simp
            · cases h
          · obtain ⟨c, _, he⟩ := Option.map_eq_some_iff.1 h; cases he; simp
        · cases h
      simp only [hH id hF, hc]
      exact h
    · cases h
  · cases h
theorem vstore_congr {P : Program} {t : TypeId} {a x : AV} {H H' : Nat → Option AO} {v : AV} {F : List Nat} {W : List (Nat × Option AO)} (h : vstore P t a x H = some (v, F, W)) (hH : ∀ x ∈ F, H' x = H x) : vstore P t a x H' = some (v, F, W) := by
  unfold vstore at h ⊢
  split at h
  · rename_i id off z d hd
    split at h
    · rename_i cells hc
      split at h
      · rename_i hcond
        have hF : id ∈ F := by cases h; simp
        simp only [hH id hF, hc, hd]
        rw [if_pos hcond]; exact h
      · cases h
    · rename_i t' c hc
      split at h
      · split at h
        · rename_i hcond
          have hF : id ∈ F := by cases h; simp
          simp only [hH id hF, hc, hd]
          rw [if_pos hcond]; exact h
        · cases h
      · cases h
    · cases h
  · rename_i id es i off z d hd
    split at h
    · rename_i e es' l hc
      split at h
      · rename_i el ps hel hp
        split at h
        · rename_i hcond
          have hF : id ∈ F := by cases h; simp
          simp only [hH id hF, hc, hd, hel, hp]
          rw [if_pos hcond]; exact h
        · cases h
      · cases h
    · cases h
  · cases h
theorem vidx_congr {P : Program} {d : TD} {x : AV} {n : Int} {H H' : Nat → Option AO} {v : AV} {F : List Nat} {W : List (Nat × Option AO)} (h : vidx P d x n H = some (v, F, W)) (hH : ∀ x ∈ F, H' x = H x) : vidx P d x n H' = some (v, F, W) := by
  unfold vidx at h ⊢
  split at h
  · rename_i id es m
    split at h
    · rename_i e es' l hc
      split at h
      · rename_i hcond
        have hF : id ∈ F := by obtain ⟨c, _, he⟩ := Option.map_eq_some_iff.1 h; cases he; simp
        simp only [hH id hF, hc]
        rw [if_pos hcond]; exact h
      · cases h
    · cases h
  · rename_i id es lo m
    have hid : H id = H' id := by
      split at h
      · split at h
        · split at h
          · exact (hH id (by cases h; simp)).symm
          · cases h
        · cases h
      · cases h
    rw [← hid]; exact h
  · exact h
theorem srcOf_congr {es : Nat} {y : AV} {H H' : Nat → Option AO} {l : List (List PV)} {F : List Nat} (h : srcOf es y H = some (l, F)) (hH : ∀ x ∈ F, H' x = H x) : srcOf es y H' = some (l, F) := by
  unfold srcOf at h ⊢
  split at h
  · rename_i id es' m
    split at h
    · rename_i e es2 l2 hc
      split at h
      · rename_i hcond
        have hF : id ∈ F := by cases h; simp
        simp only [hH id hF, hc]
        rw [if_pos hcond]; exact h
      · cases h
    · cases h
  · rename_i id es' lo m
    split at h
    · rename_i e es2 l2 hc
      split at h
      · rename_i hcond
        have hF : id ∈ F := by cases h; simp
        simp only [hH id hF, hc]
        rw [if_pos hcond]; exact h
      · cases h
    · cases h
  · exact h
theorem vappend_congr {P : Program} {d : TD} {x y : AV} {nm : Nat} {H H' : Nat → Option AO} {v : AV} {F : List Nat} {W : List (Nat × Option AO)} (h : vappend P d x y H nm = some (v, F, W)) (hH : ∀ x ∈ F, H' x = H x) : vappend P d x y H' nm = some (v, F, W) := by
  unfold vappend at h ⊢
  split at h
  · split at h
    · rename_i de hde
      split at h
      · rename_i l' F0 hl'
        have sub : ∀ {F1 : List Nat}, (∀ x ∈ F0, x ∈ F1) → (∀ x ∈ F1, H' x = H x) → srcOf de.sz y H' = some (l', F0) := fun h1 h2 => srcOf_congr hl' (fun x hx => h2 x (h1 x hx))
        split at h
        · rename_i id es l
          split at h
          · rename_i e' es' hc
            split at h
            · rename_i hcond
              have hF : id ∈ F := by cases h; simp
              have h0 := sub (F1 := F) (fun x hx => by cases h; simp [hx]) hH
              simp only [hde, h0, hH id hF, hc]
              rw [if_pos hcond]; exact h
            · cases h
          · cases h
        · rename_i id es m
          split at h
          · rename_i e' es' l hc
            split at h
            · rename_i hcond
              have hF : id ∈ F := by cases h; simp
              have h0 := sub (F1 := F) (fun x hx => by cases h; simp [hx]) hH
              simp only [hde, h0, hH id hF, hc]
              rw [if_pos hcond]; exact h
            · cases h
          · cases h
        · rename_i id es lo n
          split at h
          · rename_i e' es' l hc
            split at h
            · rename_i hcond
              have hF : id ∈ F := by cases h; simp
              have h0 := sub (F1 := F) (fun x hx => by cases h; simp [hx]) hH
              simp only [hde, h0, hH id hF, hc]
              rw [if_pos hcond]; exact h
            · cases h
          · cases h
        · split at h
          · rename_i hcond
            have hF0 : ∀ x ∈ F0, x ∈ F := fun x hx => by split at h <;> (cases h; exact hx)
            have h0 := sub (F1 := F) hF0 hH
            simp only [hde, h0]
            rw [if_pos hcond]; exact h
          · cases h
        · split at h
          · rename_i hcond
            have h0 := sub (F1 := F) (fun x hx => by cases h; exact hx) hH
            simp only [hde, h0]
            rw [if_pos hcond]; exact h
          · cases h
        · cases h
      · cases h
    · cases h
  · cases h
theorem vcopy_congr {P : Program} {d : TD} {x y : AV} {H H' : Nat → Option AO} {v : AV} {F : List Nat} {W : List (Nat × Option AO)} (h : vcopy P d x y H = some (v, F, W)) (hH : ∀ x ∈ F, H' x = H x) : vcopy P d x y H' = some (v, F, W) := by
  unfold vcopy at h ⊢
  split at h
  · split at h
    · rename_i de hde
      split at h
      · rename_i l' F0 hl'
        have sub : ∀ {F1 : List Nat}, (∀ x ∈ F0, x ∈ F1) → (∀ x ∈ F1, H' x = H x) → srcOf de.sz y H' = some (l', F0) := fun h1 h2 => srcOf_congr hl' (fun x hx => h2 x (h1 x hx))
        split at h
        · rename_i id es m
          split at h
          · rename_i e' es' l hc
            split at h
            · rename_i hcond
              have hF : id ∈ F := by cases h; simp
              have h0 := sub (F1 := F) (fun x hx => by cases h; simp [hx]) hH
              simp only [hde, h0, hH id hF, hc]
              rw [if_pos hcond]; exact h
            · cases h
          · cases h
        · rename_i id es lo m
          split at h
          · rename_i e' es' l hc
            split at h
            · rename_i hcond
              have hF : id ∈ F := by cases h; simp
              have h0 := sub (F1 := F) (fun x hx => by cases h; simp [hx]) hH
              simp only [hde, h0, hH id hF, hc]
              rw [if_pos hcond]; exact h
            · cases h
          · cases h
        · cases h
      · cases h
    · cases h
  · cases h
theorem vsl_congr {P : Program} {d : TD} {x : AV} {lo hi mx : Option AV} {nm : Nat} {H H' : Nat → Option AO} {v : AV} {F : List Nat} {W : List (Nat × Option AO)} (h : vsl P d x lo hi mx H nm = some (v, F, W)) (hH : ∀ x ∈ F, H' x = H x) : vsl P d x lo hi mx H' nm = some (v, F, W) := by
  unfold vsl at h ⊢
  split at h
  · rename_i id es m
    have hid : H id = H' id := by
      split at h
      · split at h
        · split at h
          · exact (hH id (by cases h; simp)).symm
          · cases h
        · cases h
      · cases h
    rw [← hid]; exact h
  · exact h
  · exact h
theorem vappendS_congr {P : Program} {d d' : TD} {x y : AV} {nm : Nat} {H H' : Nat → Option AO} {v : AV} {F : List Nat} {W : List (Nat × Option AO)} (h : vappendS P d d' x y H nm = some (v, F, W)) (hH : ∀ x ∈ F, H' x = H x) : vappendS P d d' x y H' nm = some (v, F, W) := by
  unfold vappendS at h ⊢
  split at h
  · rename_i e id es l s h1 h2
    split at h
    · rename_i de e' es' hde hid
      split at h
      · rename_i hc
        simp only [Option.some.injEq, Prod.mk.injEq] at h
        obtain ⟨rfl, rfl, rfl⟩ := h
        simp only [h1, h2, hde, hH id (by simp), hid, if_pos hc]
      · cases h
    · cases h
  · cases h
theorem vbuiltin_congr {P : Program} {b : Builtin} {ts : List TypeId} {xs : List AV} {nm : Nat} {H H' : Nat → Option AO} {v : AV} {F : List Nat} {W : List (Nat × Option AO)} (h : vbuiltin P b ts xs H nm = some (v, F, W)) (hH : ∀ x ∈ F, H' x = H x) : vbuiltin P b ts xs H' nm = some (v, F, W) := by
  unfold vbuiltin at h ⊢
  split at h
  · exact h
  · split at h
    · rename_i ht
      rw [if_pos ht]
      obtain ⟨d, hd, h⟩ := Option.bind_eq_some_iff.1 h
      rw [hd]
      exact vappend_congr h hH
    · rename_i ht
      rw [if_neg ht]
      obtain ⟨d, hd, h⟩ := Option.bind_eq_some_iff.1 h
      rw [hd]
      obtain ⟨d', hd', h⟩ := Option.bind_eq_some_iff.1 h
      simp only [Option.bind_some, hd']
      exact vappendS_congr h hH
  · split at h
    · rename_i ht
      rw [if_pos ht]
      obtain ⟨d, hd, h⟩ := Option.bind_eq_some_iff.1 h
      rw [hd]
      exact vcopy_congr h hH
    · cases h
  · exact h
  · exact h
  · cases h
set_option maxHeartbeats 1000000 in
theorem vlookup_congr {P : Program} {d : TD} {x k : AV} {ok : Bool} {H H' : Nat → Option AO} {v : AV} {F : List Nat} {W : List (Nat × Option AO)} (h : vlookup P d x k ok H = some (v, F, W)) (hH : ∀ x ∈ F, H' x = H x) : vlookup P d x k ok H' = some (v, F, W) := by
  unfold vlookup at h ⊢
  split at h
  · rename_i kt e id key htag hkey
    split at h
    · rename_i dk de q l hdk hde hHi
      split at h
      · rename_i z hz
        split at h
        · rename_i hc
          have h' := h
          simp only [Option.some.injEq, Prod.mk.injEq] at h'
          have hi : H' id = H id := hH id (by rw [← h'.2.1]; simp)
          simp only [htag, hkey, hdk, hde, hi, hHi, hz]
          rw [if_pos hc]
          exact h
        · cases h
      · cases h
    · cases h
  · cases h
theorem vmapupd_congr {P : Program} {d : TD} {x k y : AV} {H H' : Nat → Option AO} {v : AV} {F : List Nat} {W : List (Nat × Option AO)} (h : vmapupd P d x k y H = some (v, F, W)) (hH : ∀ x ∈ F, H' x = H x) : vmapupd P d x k y H' = some (v, F, W) := by
  unfold vmapupd at h ⊢
  split at h
  · rename_i kt e id key y htag hkey
    split at h
    · rename_i dk q l z hdk hHi hz
      split at h
      · rename_i hc
        have h' := h
        simp only [Option.some.injEq, Prod.mk.injEq] at h'
        have hi : H' id = H id := hH id (by rw [← h'.2.1]; simp)
        simp only [htag, hkey, hdk, hi, hHi, hz]
        rw [if_pos hc]
        exact h
      · cases h
    · cases h
  · cases h
theorem aop_congr {P : Program} {op : Op} {e e' : Operand → AV} {H H' : Nat → Option AO} {nm : Nat} {v : AV} {F : List Nat} {W : List (Nat × Option AO)} (h : aop P op e H nm = some (v, F, W)) (he : ∀ x ∈ op.operands, e' x = e x) (hH : ∀ x ∈ F, H' x = H x) : aop P op e' H' nm = some (v, F, W) := by
  cases op with
  | move x => have := he x (by simp [Op.operands]); simp only [aop, this] at h ⊢; exact h
  | assign x => have := he x (by simp [Op.operands]); simp only [aop, this] at h ⊢; exact h
  | pick c a b => have h1 := he c (by simp [Op.operands]); have h2 := he a (by simp [Op.operands]); have h3 := he b (by simp [Op.operands]); simp only [aop, h1, h2, h3] at h ⊢; exact h
  | alloc t => exact h
  | box t x => have := he x (by simp [Op.operands]); simp only [aop, this] at h ⊢; exact h
  | build t ps =>
    have := parts_congr (e := e) (e' := e') (ps := ps.toList) (fun x hx => he x (by simpa [Op.operands] using hx))
    simp only [aop, this] at h ⊢; exact h
  | buildSlice t n ps =>
    have := parts_congr (e := e) (e' := e') (ps := ps.toList) (fun x hx => he x (by simpa [Op.operands] using hx))
    simp only [aop, this] at h ⊢; exact h
  | load t a =>
    have := he a (by simp [Op.operands])
    simp only [aop, this] at h ⊢
    obtain ⟨d, hd, h⟩ := Option.bind_eq_some_iff.1 h
    obtain ⟨r, hr, h⟩ := Option.map_eq_some_iff.1 h
    cases h
    rw [hd, Option.bind_some, vload_congr (v := r.1) (F := r.2) hr hH]; rfl
  | store t a x =>
    have h1 := he a (by simp [Op.operands]); have h2 := he x (by simp [Op.operands])
    simp only [aop, h1, h2] at h ⊢
    exact vstore_congr h hH
  | nilCheck x => have := he x (by simp [Op.operands]); simp only [aop, this] at h ⊢; exact h
  | binOp o t x y yt => have h1 := he x (by simp [Op.operands]); have h2 := he y (by simp [Op.operands]); simp only [aop, h1, h2] at h ⊢; exact h
  | unOp o t x => have := he x (by simp [Op.operands]); simp only [aop, this] at h ⊢; exact h
  | convert s d x => have := he x (by simp [Op.operands]); simp only [aop, this] at h ⊢; exact h
  | makeSlice t n c => have h1 := he n (by simp [Op.operands]); have h2 := he c (by simp [Op.operands]); simp only [aop, h1, h2] at h ⊢; exact h
  | makeFunc fn a b =>
    have h1 : (a.toList.mapM fun x => capOf (e' x)) = a.toList.mapM fun x => capOf (e x) := mapM_congr' fun x hx => by rw [he x (by simp [Op.operands]; left; simpa using hx)]
    have h2 : (b.toList.mapM fun x => capOf (e' x)) = b.toList.mapM fun x => capOf (e x) := mapM_congr' fun x hx => by rw [he x (by simp [Op.operands]; right; simpa using hx)]
    simp only [aop, h1, h2] at h ⊢; exact h
  | slice t x lo hi mx =>
    have h0 := he x (by cases lo <;> cases hi <;> cases mx <;> simp [Op.operands])
    have h1 := oav_congr (e := e) (e' := e') (o := lo) (fun y hy => he y (by subst hy; simp [Op.operands]))
    have h2 := oav_congr (e := e) (e' := e') (o := hi) (fun y hy => he y (by subst hy; cases lo <;> simp [Op.operands]))
    have h3 := oav_congr (e := e) (e' := e') (o := mx) (fun y hy => he y (by subst hy; cases lo <;> cases hi <;> simp [Op.operands]))
    simp only [aop, h0, h1, h2, h3] at h ⊢
    obtain ⟨d, hd, h⟩ := Option.bind_eq_some_iff.1 h
    rw [hd, Option.bind_some]
    exact vsl_congr h hH
  | fieldAddr t x f => have := he x (by simp [Op.operands]); simp only [aop, this] at h ⊢; exact h
  | field t x f => have := he x (by simp [Op.operands]); simp only [aop, this] at h ⊢; exact h
  | indexAddr t x i =>
    have h1 := he x (by simp [Op.operands]); have h2 := he i (by simp [Op.operands])
    simp only [aop, h1, h2] at h ⊢
    obtain ⟨d, hd, h⟩ := Option.bind_eq_some_iff.1 h
    obtain ⟨n, hn, h⟩ := Option.bind_eq_some_iff.1 h
    rw [hd, Option.bind_some, hn, Option.bind_some]
    exact vidx_congr h hH
  | index t x i => have h1 := he x (by simp [Op.operands]); have h2 := he i (by simp [Op.operands]); simp only [aop, h1, h2] at h ⊢; exact h
  | extract x i => have := he x (by simp [Op.operands]); simp only [aop, this] at h ⊢; exact h
  | lookup t x i ok =>
    have h1 := he x (by simp [Op.operands]); have h2 := he i (by simp [Op.operands])
    simp only [aop, h1, h2] at h ⊢
    obtain ⟨d, hd, h⟩ := Option.bind_eq_some_iff.1 h
    rw [hd, Option.bind_some]
    exact vlookup_congr h hH
  | mapUpdate t x i y =>
    have h1 := he x (by simp [Op.operands]); have h2 := he i (by simp [Op.operands]); have h3 := he y (by simp [Op.operands])
    simp only [aop, h1, h2, h3] at h ⊢
    obtain ⟨d, hd, h⟩ := Option.bind_eq_some_iff.1 h
    rw [hd, Option.bind_some]
    exact vmapupd_congr h hH
  | insert t x i y =>
    have h1 := he x (by simp [Op.operands]); have h2 := he i (by simp [Op.operands]); have h3 := he y (by simp [Op.operands])
    simp only [aop, h1, h2, h3] at h ⊢
    obtain ⟨d, hd, h⟩ := Option.bind_eq_some_iff.1 h
    rw [hd, Option.bind_some]
    exact vmapupd_congr h hH
  | makeMap t r => simp only [aop] at h ⊢; exact h
  | call c =>
    obtain ⟨callee, args, ats⟩ := c
    cases callee with
    | builtin b =>
      have h1 : args.toList.map e' = args.toList.map e := List.map_congr_left fun x hx => he x (by simp [Op.operands, Call.operands]; simpa using hx)
      simp only [aop, h1] at h ⊢
      exact vbuiltin_congr h hH
    | value f => cases h
    | invoke r m => cases h
  | _ => cases h
end Go.Proofs.Ytcjagcfjpfjanaa.am
namespace Go.Proofs.Ytcjagcfjpfjanaa.am
open Go.ChangeShapes Go.WideShapes Go.ChangeAt Go.RowKit
set_option linter.unusedVariables false
set_option linter.unusedSimpArgs false
def RelF (X : Ctx) (N : Nat) (T : Nat → AV) (H : Nat → Option AO) (U : Nat → Prop) (a : Act) (w : World) : Prop :=
  a.defers = X.ds ∧ a.tmps.size = N ∧ ∃ γ S, Mem X H U γ S w ∧ ∀ t, RepV γ S w (a.tmps.getD t undef) (T t)
def putT (T : Nat → AV) : Option Nat → AV → Nat → AV
  | some d, v => upd T d v
  | none, _ => T
abbrev wrH (H : Nat → Option AO) (W : List (Nat × Option AO)) : Nat → Option AO := W.foldl (fun H p => upd H p.1 p.2) H
structure Dat where
  x : Bool
  v : AV
  F : List Nat
  W : List (Nat × Option AO)
def DCall (P : Program) (fv : AV) (args : List AV) (H : Nat → Option AO) (nm : Nat) (d : Dat) : Prop :=
  ∃ f first caps cargs ch res ch' σ, fv = .v (.c (.fn (.func f) first caps)) ∧ Row P f cargs ch res ch' ∧ fitVs ch.length (fun i => σ.getD i 0) cargs (first.map capV ++ args ++ caps.map capV) ∧ covO H ch.length (fun i => σ.getD i 0) (ch.map some) σ ∧ σ.Nodup ∧
    ch'.length ≤ ch.length + 8 ∧ ch.length ≤ ch'.length ∧ d.v = res.ren (nmap σ ch.length nm) ∧ d.F = σ ∧ d.W = wrs (nmap σ ch.length nm) 0 ch'
def DStep (P : Program) (o : Oper) (T : Nat → AV) (H : Nat → Option AO) (nm : Nat) (d : Dat) : Prop :=
  match o.op with
  | .call ⟨.value f, args, _⟩ => DCall P (evA T f) (args.toList.map (evA T)) H nm d
  | op => aop P op (evA T) H nm = some (d.v, d.F, d.W)
def looks (ds : List (Option Nat)) (o : Oper) : List Nat :=
  (o.op.operands.toList.filterMap fun | .tmp t => some t | _ => none) ++ (match o.guard with | some (g, _) => ((ds[g]?).join).toList | none => [])
def gdF (ds : List (Option Nat)) (T : Nat → AV) : Option (Nat × Bool) → Option Bool
  | none => some true
  | some (j, want) =>
    match (ds[j]?).join with
    | some d => (match T d with | .v (.c (.pv (.lit (.bool b)))) => some (b == want) | .tup [] => some false | _ => none)
    | none => none
section
variable {P : Program} {X : Ctx} {N : Nat} {T T' : Nat → AV} {H H' : Nat → Option AO} {U : Nat → Prop}
theorem evA_congr {x : Operand} (h : ∀ t, x = .tmp t → T' t = T t) : evA T' x = evA T x := by
  cases x with
  | tmp t => exact h t rfl
  | _ => rfl
theorem covO_congr {n : Nat} {ρ : Nat → Nat} : ∀ {os : List (Option AO)} {r : List Nat}, covO H n ρ os r → (∀ x ∈ r, H' x = H x) → covO H' n ρ os r
  | [], [], _, _ => trivial
  | some o :: os, x :: r, h, hH => ⟨by rw [hH x (by simp)]; exact h.1, covO_congr h.2 (fun y hy => hH y (by simp [hy]))⟩
  | none :: os, x :: r, h, hH => ⟨by rw [hH x (by simp)]; exact h.1, covO_congr h.2 (fun y hy => hH y (by simp [hy]))⟩
  | [], _ :: _, h, _ => h.elim
  | some _ :: _, [], h, _ => h.elim
  | none :: _, [], h, _ => h.elim
theorem dstep_congr {o : Oper} {nm : Nat} {d : Dat} (h : DStep P o T H nm d) (hT : ∀ t, .tmp t ∈ o.op.operands → T' t = T t) (hH : ∀ x ∈ d.F, H' x = H x) : DStep P o T' H' nm d := by
  unfold DStep at h ⊢
  split at h
  · rename_i f args ats hop
    obtain ⟨g, first, caps, cargs, ch, res, ch', σ, h1, h2, h3, h4, h5, h6, h7, h8, h9, h10⟩ := h
    have e1 : evA T' f = evA T f := evA_congr fun t ht => hT t (by rw [hop]; subst ht; simp [Op.operands, Call.operands])
    have e2 : args.toList.map (evA T') = args.toList.map (evA T) := List.map_congr_left fun x hx => evA_congr fun t ht => hT t (by rw [hop]; subst ht; simp [Op.operands, Call.operands]; right; simpa using hx)
    rw [e1, e2]
    exact ⟨g, first, caps, cargs, ch, res, ch', σ, h1, h2, h3, covO_congr h4 (fun x hx => hH x (by rw [h9]; exact hx)), h5, h6, h7, h8, h9, h10⟩
  · rename_i hne
    exact aop_congr h (fun x hx => evA_congr fun t ht => hT t (by subst ht; exact hx)) hH
theorem repF_put {γ : Nat → G} {S : CS} {w : World} {a : Act} (hN : a.tmps.size = N) (ha : ∀ t, RepV γ S w (a.tmps.getD t undef) (T t)) {dst : Option Nat} (hd : dok N dst = true) {u : Value} {v : AV} (hv : RepV γ S w u v) :
    ∀ t, RepV γ S w ((a.put dst u).tmps.getD t undef) (putT T dst v t) := by
  cases dst with
  | none => exact ha
  | some d =>
    intro t
    have hdN : d < a.tmps.size := by rw [hN]; simpa [dok] using hd
    simp only [putT, Act.put]
    by_cases ht : t = d
    · subst ht
      rw [upd_same]
      simp [hdN]; exact hv
    · rw [upd_ne _ _ ht]
      have : (a.tmps.setIfInBounds d u).getD t undef = a.tmps.getD t undef := by
        simp [Array.getElem?_setIfInBounds_ne (Ne.symm ht)]
      rw [this]; exact ha t
theorem dstep_sound {o : Oper} {nm : Nat} {d : Dat} (h : DStep P o T H nm d) (hd : dok N o.dst = true) {a : Act} {w : World} (hr : RelF X N T H U a w) (hU : ∀ x, nm ≤ x → x < nm + 8 → U x) {K' : Act → World → Prop} {Q : Exit → Act → World → Prop}
    (hK : ∀ a' w', RelF X N (putT T o.dst d.v) (wrH H d.W) (fun x => U x ∧ ¬ (nm ≤ x ∧ x < nm + 8)) a' w' → K' a' w') : o.wp P a w K' Q := by
  obtain ⟨h1, h2, γ, S, hm, ha⟩ := hr
  have he : ∀ x, RepV γ S w (a.eval x) (evA T x) := evA_rep ha
  unfold DStep at h
  split at h
  · rename_i f args ats hop
    obtain ⟨dst, op, ty, pos, after, guard⟩ := o
    dsimp only at hop hd hK
    subst hop
    obtain ⟨g, first, caps, cargs, ch, res, ch', σ, hf, hrow, hfit, hcov, hnd, hl1, hl2, hv, hF, hW⟩ := h
    have hfv := he f
    rw [hf] at hfv
    obtain ⟨xs, ys, hfe, hx, hy⟩ := hfv
    obtain ⟨c1, c2⟩ := covO_at hcov
    rw [List.length_map] at c1
    have hargs : RepVs γ S w (xs.toList ++ (args.map a.eval).toList ++ ys.toList) (first.map capV ++ args.toList.map (evA T) ++ caps.map capV) :=
      ((capV_rep hx).append (by simpa using RepVs.map he args.toList)).append (capV_rep hy)
    have key := call_sound hrow.spec hm σ (fun i j hi hj e => nodup_getD hnd i j (by omega) (by omega) e) (fun i o ho => by
      have := (c2 i (some o) (by rw [List.getElem?_map, ho]; rfl)).1 o rfl
      exact this) hargs hfit nm hU hl1 hl2
    unfold Oper.wp
    have hex : (execOp a.eval ⟨dst, .call ⟨.value f, args, ats⟩, ty, pos, after, guard⟩).run P w = .ok (.enter g (xs.toList ++ (args.map a.eval).toList ++ ys.toList).toArray) w := by
      simp only [execOp, resolve, hfe, Deferred.ofValue, Sem.run_bind, Sem.run_pure, Result.andThen_ok, invoke]
      rw [run_callFunc hrow.ent]
      congr 2
      simp
    rw [hex, Oper.upon_enter]
    refine key.mono ?_
    rintro e w' ⟨v, γ', S', rfl, m1, m2, m3, m4, m5⟩
    exact hK _ _ ⟨by rw [act_put_defers]; exact h1, by rw [act_put_size]; exact h2, γ', S', by rw [hW]; exact m1, repF_put h2 (fun t => (ha t).mono m2 m3 m4) hd (by rw [hv]; exact m5)⟩
  · obtain ⟨u, w', γ', S', g1, g2, g3, g4, g5, g6⟩ := aop_sound hm (hU nm (Nat.le_refl _) (by omega)) ha o h
    have hrel : RelF X N (putT T o.dst d.v) (wrH H d.W) (fun x => U x ∧ ¬ (nm ≤ x ∧ x < nm + 8)) (a.put o.dst u) w' :=
      ⟨by rw [act_put_defers]; exact h1, by rw [act_put_size]; exact h2, γ', S', g2.less (fun x hx => ⟨hx.1, fun e => hx.2 (by omega)⟩), repF_put h2 (fun t => (ha t).mono g3 g4 g5) hd g6⟩
    unfold Oper.wp
    rcases g1 with g1 | ⟨g1, rfl⟩
    · rw [g1]; exact hK _ _ hrel
    · rw [g1]; exact hK _ _ hrel
theorem gdF_wanted {a : Act} {w : World} (h : RelF X N T H U a w) (ops : Array Oper) (o : Oper) {b : Bool} (hg : gdF (ops.toList.map (·.dst)) T o.guard = some b) : Region.wanted o (yielded ops a.tmps) = b := by
  obtain ⟨h1, h2, γ, S, hm, ha⟩ := h
  unfold Region.wanted
  unfold gdF at hg
  split at hg
  · rename_i hgd; cases hg; rw [hgd]
  · rename_i j want hgd
    rw [hgd]
    split at hg
    · rename_i d hd
      split at hg
      · rename_i c hl
        cases hg
        have := ha d
        rw [hl] at this
        obtain ⟨hv, _⟩ := lit_inv this
        have hdj : (ops[j]?).bind (·.dst) = some d := by
          rw [List.getElem?_map] at hd
          cases ho : ops.toList[j]? with
          | none => rw [ho] at hd; simp at hd
          | some x =>
            rw [ho] at hd
            have : ops[j]? = some x := by simpa using ho
            rw [this]; simpa using hd
        have hty : a.tmps[d]? = some (.bool c) := by
          cases ht : a.tmps[d]? with
          | none => simp [ht, undef] at hv
          | some x => simp [ht] at hv; rw [hv]
        simp only [yielded, hdj, Option.bind_some, hty]
        cases c <;> cases want <;> rfl
      · rename_i hl
        cases hg
        have := ha d
        rw [hl] at this
        have hv : a.tmps.getD d undef = undef := tup0_inv this
        have hdj : (ops[j]?).bind (·.dst) = some d := by
          rw [List.getElem?_map] at hd
          cases ho : ops.toList[j]? with
          | none => rw [ho] at hd; simp at hd
          | some x =>
            rw [ho] at hd
            have : ops[j]? = some x := by simpa using ho
            rw [this]; simpa using hd
        have hty : a.tmps[d]? = none ∨ a.tmps[d]? = some undef := by
          cases ht : a.tmps[d]? with
          | none => exact .inl rfl
          | some x => right; simp [ht] at hv; rw [hv]
        rcases hty with hty | hty
        · simp only [yielded, hdj, Option.bind_some, hty]; cases want <;> rfl
        · simp only [yielded, hdj, Option.bind_some, hty]; cases want <;> rfl
      · cases hg
    · cases hg
end
structure Itm where
  o : Oper
  d : Dat
def TF (L : Nat → Bool) : Nat → List Itm → (Nat → AV) → Nat → AV
  | _, [], T => T
  | k, x :: r, T => TF L (k + 1) r (if L k = true then putT T x.o.dst x.d.v else T)
def HF (L : Nat → Bool) : Nat → List Itm → (Nat → Option AO) → Nat → Option AO
  | _, [], H => H
  | k, x :: r, H => HF L (k + 1) r (if L k = true then wrH H x.d.W else H)
theorem wrH_out {W : List (Nat × Option AO)} : ∀ {H : Nat → Option AO} {x : Nat}, x ∉ W.map (·.1) → wrH H W x = H x := by
  induction W with
  | nil => intro H x _; rfl
  | cons p W ih =>
    intro H x hx
    simp at hx
    show wrH (upd H p.1 p.2) W x = H x
    rw [ih (by simpa using hx.2), upd_ne _ _ hx.1]
theorem wrH_in {W : List (Nat × Option AO)} : ∀ {H H' : Nat → Option AO} {x : Nat}, x ∈ W.map (·.1) → wrH H W x = wrH H' W x := by
  induction W with
  | nil => intro H H' x hx; simp at hx
  | cons p W ih =>
    intro H H' x hx
    show wrH (upd H p.1 p.2) W x = wrH (upd H' p.1 p.2) W x
    by_cases h : x ∈ W.map (·.1)
    · exact ih h
    · rw [wrH_out h, wrH_out h]
      simp only [List.map_cons, List.mem_cons] at hx
      rcases hx with hx | hx
      · rw [hx, upd_same, upd_same]
      · exact absurd hx h
theorem putT_ne {T : Nat → AV} {dst : Option Nat} {v : AV} {t : Nat} (h : dst ≠ some t) : putT T dst v t = T t := by
  cases dst with
  | none => rfl
  | some d => exact upd_ne _ _ (fun e => h (by rw [e]))
theorem putT_eq {T : Nat → AV} {dst : Option Nat} {v : AV} {t : Nat} (h : dst = some t) : putT T dst v t = v := by subst h; exact upd_same _ _ _
theorem TF_congr {L L' : Nat → Bool} {t : Nat} : ∀ {l : List Itm} {k : Nat} {T T' : Nat → AV}, T t = T' t → (∀ (i : Nat) x, l[i]? = some x → x.o.dst = some t → L (k + i) = L' (k + i)) → TF L k l T t = TF L' k l T' t
  | [], k, T, T', h, _ => h
  | x :: r, k, T, T', h, hL => by
    unfold TF
    refine TF_congr ?_ (fun i y hi hd => by have := hL (i + 1) y (by simpa using hi) hd; rwa [show k + (i + 1) = k + 1 + i by omega] at this)
    by_cases hd : x.o.dst = some t
    · have := hL 0 x rfl hd
      rw [Nat.add_zero] at this
      rw [this]
      split
      · rw [putT_eq hd, putT_eq hd]
      · exact h
    · split <;> split <;> simp only [putT_ne hd, h]
theorem HF_congr {L L' : Nat → Bool} {n : Nat} : ∀ {l : List Itm} {k : Nat} {H H' : Nat → Option AO}, H n = H' n → (∀ (i : Nat) x, l[i]? = some x → n ∈ x.d.W.map (·.1) → L (k + i) = L' (k + i)) → HF L k l H n = HF L' k l H' n
  | [], k, H, H', h, _ => h
  | x :: r, k, H, H', h, hL => by
    unfold HF
    refine HF_congr ?_ (fun i y hi hd => by have := hL (i + 1) y (by simpa using hi) hd; rwa [show k + (i + 1) = k + 1 + i by omega] at this)
    by_cases hd : n ∈ x.d.W.map (·.1)
    · have := hL 0 x rfl hd
      rw [Nat.add_zero] at this
      rw [this]
      split
      · exact wrH_in hd
      · exact h
    · split <;> split <;> simp only [wrH_out hd, h]
theorem TF_last {L : Nat → Bool} {t : Nat} : ∀ {l : List Itm} {k i : Nat} {x : Itm} {T : Nat → AV}, l[i]? = some x → x.o.dst = some t → L (k + i) = true → (∀ (j : Nat) y, l[j]? = some y → y.o.dst = some t → i < j → L (k + j) = false) → TF L k l T t = x.d.v
  | y :: r, k, 0, x, T, hi, hd, hL, hlast => by
    simp at hi; subst hi
    unfold TF
    rw [Nat.add_zero] at hL
    rw [if_pos hL]
    have : TF L (k + 1) r (putT T y.o.dst y.d.v) t = TF (fun _ => false) (k + 1) r (putT T y.o.dst y.d.v) t :=
      TF_congr rfl (fun j z hj hz => by have := hlast (j + 1) z (by simpa using hj) hz (by omega); rwa [show k + (j + 1) = k + 1 + j by omega] at this)
    rw [this]
    have none : ∀ (l : List Itm) (k : Nat) (T : Nat → AV), TF (fun _ => false) k l T = T := fun l => by
      induction l with
      | nil => intro k T; rfl
      | cons a l ih => intro k T; unfold TF; simp [ih]
    rw [none, putT_eq hd]
  | y :: r, k, i + 1, x, T, hi, hd, hL, hlast => by
    unfold TF
    exact TF_last (i := i) (by simpa using hi) hd (by rwa [show k + (i + 1) = k + 1 + i by omega] at hL) (fun j z hj hz hlt => by
      have := hlast (j + 1) z (by simpa using hj) hz (by omega); rwa [show k + (j + 1) = k + 1 + j by omega] at this)
  | [], _, _, _, _, hi, _, _, _ => by simp at hi
theorem HF_last {L : Nat → Bool} {n : Nat} : ∀ {l : List Itm} {k i : Nat} {x : Itm} {H : Nat → Option AO} (H2 : Nat → Option AO), l[i]? = some x → n ∈ x.d.W.map (·.1) → L (k + i) = true → (∀ (j : Nat) y, l[j]? = some y → n ∈ y.d.W.map (·.1) → i < j → L (k + j) = false) → HF L k l H n = wrH H2 x.d.W n
  | y :: r, k, 0, x, H, H2, hi, hd, hL, hlast => by
    simp at hi; subst hi
    unfold HF
    rw [Nat.add_zero] at hL
    rw [if_pos hL]
    have : HF L (k + 1) r (wrH H y.d.W) n = HF (fun _ => false) (k + 1) r (wrH H y.d.W) n :=
      HF_congr rfl (fun j z hj hz => by have := hlast (j + 1) z (by simpa using hj) hz (by omega); rwa [show k + (j + 1) = k + 1 + j by omega] at this)
    rw [this]
    have none : ∀ (l : List Itm) (k : Nat) (T : Nat → Option AO), HF (fun _ => false) k l T = T := fun l => by
      induction l with
      | nil => intro k T; rfl
      | cons a l ih => intro k T; unfold HF; simp [ih]
    rw [none]; exact wrH_in hd
  | y :: r, k, i + 1, x, H, H2, hi, hd, hL, hlast => by
    unfold HF
    exact HF_last (i := i) H2 (by simpa using hi) hd (by rwa [show k + (i + 1) = k + 1 + i by omega] at hL) (fun j z hj hz hlt => by
      have := hlast (j + 1) z (by simpa using hj) hz (by omega); rwa [show k + (j + 1) = k + 1 + j by omega] at this)
  | [], _, _, _, _, _, hi, _, _, _ => by simp at hi
end Go.Proofs.Ytcjagcfjpfjanaa.am
namespace Go.Proofs.Ytcjagcfjpfjanaa.am
open Go.ChangeShapes Go.WideShapes Go.ChangeAt Go.RowKit
set_option linter.unusedVariables false
set_option linter.unusedSimpArgs false
def deps (o : Oper) : List Nat := (o.after.toList.filter (Region.binds .any)).map (·.on)
def bits (acc : List Nat) : List Nat → Nat
  | [] => 0
  | j :: r => 2 ^ j ||| acc.getD j 0 ||| bits acc r
theorem bits_spec {acc : List Nat} {j : Nat} : ∀ {l : List Nat}, (bits acc l).testBit j = true → ∃ q ∈ l, j = q ∨ (acc.getD q 0).testBit j = true
  | [], h => by simp [bits] at h
  | q :: r, h => by
    unfold bits at h
    rw [Nat.testBit_or, Nat.testBit_or, Bool.or_eq_true, Bool.or_eq_true] at h
    rcases h with (h | h) | h
    · rw [Nat.testBit_two_pow] at h
      exact ⟨q, List.mem_cons_self, .inl (by simpa using (of_decide_eq_true h).symm)⟩
    · exact ⟨q, List.mem_cons_self, .inr h⟩
    · obtain ⟨q', h1, h2⟩ := bits_spec h
      exact ⟨q', List.mem_cons_of_mem _ h1, h2⟩
def ancs : List Oper → List Nat → List Nat
  | [], acc => acc
  | o :: os, acc => ancs os (acc ++ [bits acc (deps o)])
structure Lg where
  F : List Nat
  W : List Nat
def meet (a b : List Nat) : Bool := a.any fun x => b.contains x
def conf (ds : List (Option Nat)) (o1 o2 : Oper) (g1 g2 : Lg) : Bool :=
  meet o1.dst.toList (looks ds o2 ++ o2.dst.toList) || meet o2.dst.toList (looks ds o1) || meet g1.W (g2.F ++ g2.W) || meet g2.W g1.F
def okPairs (ds : List (Option Nat)) (an : List Nat) : Nat → List (Oper × Lg) → Bool
  | _, [] => true
  | i, x :: r => (r.zipIdx (i + 1)).all (fun y => !conf ds x.1 y.1.1 x.2 y.1.2 || (an.getD y.2 0).testBit i) && okPairs ds an (i + 1) r
def okD (ops : List Oper) (lg : List Lg) : Bool :=
  (ops.zipIdx.all fun p => (deps p.1).all fun j => decide (j < p.2)) && (ops.all fun o => match o.op with | .select .. => false | _ => true) && okPairs (ops.map (·.dst)) (ancs ops []) 0 (ops.zip lg)
theorem ancs_spec : ∀ (os : List Oper) (acc : List Nat) (L : Nat → Bool) (pre : List Oper), acc.length = pre.length → (∀ i, i < pre.length → ∀ j, (acc.getD i 0).testBit j = true → L i = true → L j = true) → (∀ (i : Nat) o, (pre ++ os)[i]? = some o → L i = true → ∀ j ∈ deps o, L j = true) →
    (∀ (i : Nat) o, os[i]? = some o → ∀ j ∈ deps o, j < pre.length + i) → ∀ i, i < (pre ++ os).length → ∀ j, ((ancs os acc).getD i 0).testBit j = true → L i = true → L j = true
  | [], acc, L, pre, hl, h1, h2, hb, i, hi, j, hj, hL => h1 i (by simpa using hi) j (by simpa [ancs] using hj) hL
  | o :: os, acc, L, pre, hl, h1, h2, hb, i, hi, j, hj, hL => by
    refine ancs_spec os (acc ++ [bits acc (deps o)]) L (pre ++ [o]) (by simp [hl]) (fun i hi j hj hL => ?_) (fun i x hx => h2 i x (by simpa using hx)) (fun i x hx j hj => by have := hb (i + 1) x (by simpa using hx) j hj; simp; omega) i (by simpa using hi) j (by simpa [ancs] using hj) hL
    by_cases hlt : i < pre.length
    · rw [List.getD_eq_getElem?_getD, List.getElem?_append_left (by omega), ← List.getD_eq_getElem?_getD] at hj
      exact h1 i hlt j hj hL
    · have hie : i = pre.length := by simp at hi; omega
      subst hie
      rw [List.getD_eq_getElem?_getD, List.getElem?_append_right (by omega), hl] at hj
      simp only [Nat.sub_self, List.getElem?_cons_zero, Option.getD_some] at hj
      obtain ⟨q, hq, hj⟩ := bits_spec hj
      have hq1 := h2 pre.length o (by simp) hL q hq
      rcases hj with rfl | hj
      · exact hq1
      · have hql := hb 0 o rfl q hq
        exact h1 q (by omega) j hj hq1
theorem okPairs_spec {ds : List (Option Nat)} {an : List Nat} : ∀ {l : List (Oper × Lg)} {k : Nat}, okPairs ds an k l = true → ∀ (i j : Nat) x y, i < j → l[i]? = some x → l[j]? = some y → conf ds x.1 y.1 x.2 y.2 = true → (an.getD (k + j) 0).testBit (k + i) = true
  | [], k, _, i, j, x, y, _, hi, _, _ => by simp at hi
  | z :: r, k, h, 0, j + 1, x, y, _, hi, hj, hc => by
    simp at hi; subst hi
    unfold okPairs at h
    rw [Bool.and_eq_true] at h
    have := List.all_eq_true.1 h.1 (y, k + 1 + j) (by rw [List.mem_iff_getElem?]; exact ⟨j, by rw [List.getElem?_zipIdx]; simp at hj; simp [hj]⟩)
    simp only [hc, Bool.not_true, Bool.false_or] at this
    rwa [show k + (j + 1) = k + 1 + j by omega, Nat.add_zero]
  | z :: r, k, h, i + 1, j + 1, x, y, hij, hi, hj, hc => by
    unfold okPairs at h
    rw [Bool.and_eq_true] at h
    have := okPairs_spec h.2 i j x y (by omega) (by simpa using hi) (by simpa using hj) hc
    rwa [show k + (i + 1) = k + 1 + i by omega, show k + (j + 1) = k + 1 + j by omega]
  | _ :: _, _, _, _, 0, _, _, h, _, _, _ => by omega
def CallD (P : Program) (N : Nat) (dst : Option Nat) (fv : AV) (args : List AV) (st : St) (K : List Nat → List Nat → St → Prop) : Prop :=
  ∃ g first caps cargs ch res ch' σ, fv = .v (.c (.fn (.func g) first caps)) ∧ Row P g cargs ch res ch' ∧ fitVs ch.length (fun i => σ.getD i 0) cargs (first.map capV ++ args ++ caps.map capV) ∧ covO (hlk st.hp) ch.length (fun i => σ.getD i 0) (ch.map some) σ ∧ σ.Nodup ∧
    ch'.length ≤ ch.length + 8 ∧ ch.length ≤ ch'.length ∧ dok N dst = true ∧ K σ ((wrs (nmap σ ch.length st.nx) 0 ch').map (·.1)) ((st.wr (wrs (nmap σ ch.length st.nx) 0 ch') 8).put dst (res.ren (nmap σ ch.length st.nx)))
def ARD (P : Program) (N : Nat) (ds : List (Option Nat)) : List Oper → St → List Lg → (St → List Lg → Prop) → Prop
  | [], st, lg, K => K st lg
  | o :: os, st, lg, K => AG (gd ds st o.guard)
      (match o.op with
       | .call ⟨.value f, args, _⟩ => CallD P N o.dst (evA (lk st.tm) f) (args.toList.map (evA (lk st.tm))) st (fun F W st' => ARD P N ds os st' (lg ++ [⟨F, W⟩]) K)
       | op => match aop P op (evA (lk st.tm)) (hlk st.hp) st.nx with
         | some r => dok N o.dst = true ∧ ARD P N ds os ((st.wr r.2.2 8).put o.dst r.1) (lg ++ [⟨r.2.1, r.2.2.map (·.1)⟩]) K
         | none => False)
      (dok N o.dst = true ∧ ARD P N ds os ((st.wr [] 8).put o.dst (.tup [])) (lg ++ [⟨[], []⟩]) K)
section
variable {P : Program} {N : Nat} {ds : List (Option Nat)} {os : List Oper} {st : St} {lg : List Lg} {K : St → List Lg → Prop}
theorem ARD_nil : ARD P N ds [] st lg K = K st lg := rfl
def OpD (P : Program) (N : Nat) (ds : List (Option Nat)) (dst : Option Nat) (st : St) (lg : List Lg) (os : List Oper) (r : Option (AV × List Nat × List (Nat × Option AO))) (K : St → List Lg → Prop) : Prop :=
  match r with
  | some r => dok N dst = true ∧ ARD P N ds os ((st.wr r.2.2 8).put dst r.1) (lg ++ [(⟨r.2.1, r.2.2.map Prod.fst⟩ : Lg)]) K
  | none => False
theorem OpD_some {dst : Option Nat} {v F W} : OpD P N ds dst st lg os (some (v, F, W)) K = (dok N dst = true ∧ ARD P N ds os ((st.wr W 8).put dst v) (lg ++ [(⟨F, W.map Prod.fst⟩ : Lg)]) K) := rfl
def AXD (P : Program) (N : Nat) (ds : List (Option Nat)) (dst : Option Nat) (op : Op) (st : St) (lg : List Lg) (os : List Oper) (K : St → List Lg → Prop) : Prop :=
  match op with
  | .call ⟨.value f, args, _⟩ => CallD P N dst (evA (lk st.tm) f) (args.toList.map (evA (lk st.tm))) st (fun F W st' => ARD P N ds os st' (lg ++ [(⟨F, W⟩ : Lg)]) K)
  | op => OpD P N ds dst st lg os (aop P op (evA (lk st.tm)) (hlk st.hp) st.nx) K
theorem ARD_cons {dst : Option Nat} {op : Op} {ty pos after} : ARD P N ds (⟨dst, op, ty, pos, after, none⟩ :: os) st lg K = AXD P N ds dst op st lg os K := rfl
def GXD (P : Program) (N : Nat) (ds : List (Option Nat)) (g : Option Bool) (dst : Option Nat) (op : Op) (st : St) (lg : List Lg) (os : List Oper) (K : St → List Lg → Prop) : Prop := AG g (AXD P N ds dst op st lg os K) (dok N dst = true ∧ ARD P N ds os ((st.wr [] 8).put dst (.tup [])) (lg ++ [(⟨[], []⟩ : Lg)]) K)
theorem ARD_gard {dst : Option Nat} {op : Op} {ty pos after g} : ARD P N ds (⟨dst, op, ty, pos, after, some g⟩ :: os) st lg K = GXD P N ds (gd ds st (some g)) dst op st lg os K := rfl
theorem GXD_yes {dst : Option Nat} {op : Op} : GXD P N ds (some true) dst op st lg os K = AXD P N ds dst op st lg os K := rfl
theorem GXD_not {dst : Option Nat} {op : Op} : GXD P N ds (some false) dst op st lg os K = (dok N dst = true ∧ ARD P N ds os ((st.wr [] 8).put dst (.tup [])) (lg ++ [(⟨[], []⟩ : Lg)]) K) := rfl
section
variable {dst : Option Nat}
theorem AXD_move {x} : AXD P N ds dst (.move x) st lg os K = OpD P N ds dst st lg os (aop P (.move x) (evA (lk st.tm)) (hlk st.hp) st.nx) K := rfl
theorem AXD_assign {x} : AXD P N ds dst (.assign x) st lg os K = OpD P N ds dst st lg os (aop P (.assign x) (evA (lk st.tm)) (hlk st.hp) st.nx) K := rfl
theorem AXD_pick {c a b} : AXD P N ds dst (.pick c a b) st lg os K = OpD P N ds dst st lg os (aop P (.pick c a b) (evA (lk st.tm)) (hlk st.hp) st.nx) K := rfl
theorem AXD_alloc {e} : AXD P N ds dst (.alloc e) st lg os K = OpD P N ds dst st lg os (aop P (.alloc e) (evA (lk st.tm)) (hlk st.hp) st.nx) K := rfl
theorem AXD_box {e v} : AXD P N ds dst (.box e v) st lg os K = OpD P N ds dst st lg os (aop P (.box e v) (evA (lk st.tm)) (hlk st.hp) st.nx) K := rfl
theorem AXD_build {t p} : AXD P N ds dst (.build t p) st lg os K = OpD P N ds dst st lg os (aop P (.build t p) (evA (lk st.tm)) (hlk st.hp) st.nx) K := rfl
theorem AXD_buildSlice {t n p} : AXD P N ds dst (.buildSlice t n p) st lg os K = OpD P N ds dst st lg os (aop P (.buildSlice t n p) (evA (lk st.tm)) (hlk st.hp) st.nx) K := rfl
theorem AXD_insert {t m k v} : AXD P N ds dst (.insert t m k v) st lg os K = OpD P N ds dst st lg os (aop P (.insert t m k v) (evA (lk st.tm)) (hlk st.hp) st.nx) K := rfl
theorem AXD_load {t a} : AXD P N ds dst (.load t a) st lg os K = OpD P N ds dst st lg os (aop P (.load t a) (evA (lk st.tm)) (hlk st.hp) st.nx) K := rfl
theorem AXD_store {t a v} : AXD P N ds dst (.store t a v) st lg os K = OpD P N ds dst st lg os (aop P (.store t a v) (evA (lk st.tm)) (hlk st.hp) st.nx) K := rfl
theorem AXD_ready {g} : AXD P N ds dst (.ready g) st lg os K = OpD P N ds dst st lg os (aop P (.ready g) (evA (lk st.tm)) (hlk st.hp) st.nx) K := rfl
theorem AXD_waits {g} : AXD P N ds dst (.waits g) st lg os K = OpD P N ds dst st lg os (aop P (.waits g) (evA (lk st.tm)) (hlk st.hp) st.nx) K := rfl
theorem AXD_nilCheck {x} : AXD P N ds dst (.nilCheck x) st lg os K = OpD P N ds dst st lg os (aop P (.nilCheck x) (evA (lk st.tm)) (hlk st.hp) st.nx) K := rfl
theorem AXD_binOp {o t x y u} : AXD P N ds dst (.binOp o t x y u) st lg os K = OpD P N ds dst st lg os (aop P (.binOp o t x y u) (evA (lk st.tm)) (hlk st.hp) st.nx) K := rfl
theorem AXD_unOp {o t x} : AXD P N ds dst (.unOp o t x) st lg os K = OpD P N ds dst st lg os (aop P (.unOp o t x) (evA (lk st.tm)) (hlk st.hp) st.nx) K := rfl
theorem AXD_convert {s d x} : AXD P N ds dst (.convert s d x) st lg os K = OpD P N ds dst st lg os (aop P (.convert s d x) (evA (lk st.tm)) (hlk st.hp) st.nx) K := rfl
theorem AXD_sliceToArrayPointer {d x} : AXD P N ds dst (.sliceToArrayPointer d x) st lg os K = OpD P N ds dst st lg os (aop P (.sliceToArrayPointer d x) (evA (lk st.tm)) (hlk st.hp) st.nx) K := rfl
theorem AXD_makeInterface {t x} : AXD P N ds dst (.makeInterface t x) st lg os K = OpD P N ds dst st lg os (aop P (.makeInterface t x) (evA (lk st.tm)) (hlk st.hp) st.nx) K := rfl
theorem AXD_makeFunc {f a b} : AXD P N ds dst (.makeFunc f a b) st lg os K = OpD P N ds dst st lg os (aop P (.makeFunc f a b) (evA (lk st.tm)) (hlk st.hp) st.nx) K := rfl
theorem AXD_makeMap {t r} : AXD P N ds dst (.makeMap t r) st lg os K = OpD P N ds dst st lg os (aop P (.makeMap t r) (evA (lk st.tm)) (hlk st.hp) st.nx) K := rfl
theorem AXD_makeChan {t z} : AXD P N ds dst (.makeChan t z) st lg os K = OpD P N ds dst st lg os (aop P (.makeChan t z) (evA (lk st.tm)) (hlk st.hp) st.nx) K := rfl
theorem AXD_makeSlice {t n c} : AXD P N ds dst (.makeSlice t n c) st lg os K = OpD P N ds dst st lg os (aop P (.makeSlice t n c) (evA (lk st.tm)) (hlk st.hp) st.nx) K := rfl
theorem AXD_slice {t x l h m} : AXD P N ds dst (.slice t x l h m) st lg os K = OpD P N ds dst st lg os (aop P (.slice t x l h m) (evA (lk st.tm)) (hlk st.hp) st.nx) K := rfl
theorem AXD_fieldAddr {t x f} : AXD P N ds dst (.fieldAddr t x f) st lg os K = OpD P N ds dst st lg os (aop P (.fieldAddr t x f) (evA (lk st.tm)) (hlk st.hp) st.nx) K := rfl
theorem AXD_field {t x f} : AXD P N ds dst (.field t x f) st lg os K = OpD P N ds dst st lg os (aop P (.field t x f) (evA (lk st.tm)) (hlk st.hp) st.nx) K := rfl
theorem AXD_indexAddr {t x i} : AXD P N ds dst (.indexAddr t x i) st lg os K = OpD P N ds dst st lg os (aop P (.indexAddr t x i) (evA (lk st.tm)) (hlk st.hp) st.nx) K := rfl
theorem AXD_index {t x i} : AXD P N ds dst (.index t x i) st lg os K = OpD P N ds dst st lg os (aop P (.index t x i) (evA (lk st.tm)) (hlk st.hp) st.nx) K := rfl
theorem AXD_lookup {t x i c} : AXD P N ds dst (.lookup t x i c) st lg os K = OpD P N ds dst st lg os (aop P (.lookup t x i c) (evA (lk st.tm)) (hlk st.hp) st.nx) K := rfl
theorem AXD_mapUpdate {t m k v} : AXD P N ds dst (.mapUpdate t m k v) st lg os K = OpD P N ds dst st lg os (aop P (.mapUpdate t m k v) (evA (lk st.tm)) (hlk st.hp) st.nx) K := rfl
theorem AXD_mapEntry {t m k} : AXD P N ds dst (.mapEntry t m k) st lg os K = OpD P N ds dst st lg os (aop P (.mapEntry t m k) (evA (lk st.tm)) (hlk st.hp) st.nx) K := rfl
theorem AXD_entryStore {t m a v} : AXD P N ds dst (.entryStore t m a v) st lg os K = OpD P N ds dst st lg os (aop P (.entryStore t m a v) (evA (lk st.tm)) (hlk st.hp) st.nx) K := rfl
theorem AXD_range {t x} : AXD P N ds dst (.range t x) st lg os K = OpD P N ds dst st lg os (aop P (.range t x) (evA (lk st.tm)) (hlk st.hp) st.nx) K := rfl
theorem AXD_next {i s} : AXD P N ds dst (.next i s) st lg os K = OpD P N ds dst st lg os (aop P (.next i s) (evA (lk st.tm)) (hlk st.hp) st.nx) K := rfl
theorem AXD_entry {i} : AXD P N ds dst (.entry i) st lg os K = OpD P N ds dst st lg os (aop P (.entry i) (evA (lk st.tm)) (hlk st.hp) st.nx) K := rfl
theorem AXD_typeAssert {x t a c} : AXD P N ds dst (.typeAssert x t a c) st lg os K = OpD P N ds dst st lg os (aop P (.typeAssert x t a c) (evA (lk st.tm)) (hlk st.hp) st.nx) K := rfl
theorem AXD_extract {t i} : AXD P N ds dst (.extract t i) st lg os K = OpD P N ds dst st lg os (aop P (.extract t i) (evA (lk st.tm)) (hlk st.hp) st.nx) K := rfl
theorem AXD_panic {x} : AXD P N ds dst (.panic x) st lg os K = OpD P N ds dst st lg os (aop P (.panic x) (evA (lk st.tm)) (hlk st.hp) st.nx) K := rfl
theorem AXD_builtin {b a t} : AXD P N ds dst (.call ⟨.builtin b, a, t⟩) st lg os K = OpD P N ds dst st lg os (aop P (.call ⟨.builtin b, a, t⟩) (evA (lk st.tm)) (hlk st.hp) st.nx) K := rfl
end
theorem ard_call {dst : Option Nat} {f : Operand} {args ats} (h : CallD P N dst (evA (lk st.tm) f) (args.toList.map (evA (lk st.tm))) st (fun F W st' => ARD P N ds os st' (lg ++ [(⟨F, W⟩ : Lg)]) K)) :
    AXD P N ds dst (.call ⟨.value f, args, ats⟩) st lg os K := h
end
section
variable {P : Program} {X : Ctx} {N : Nat}
def Chain (P : Program) (N : Nat) (ds : List (Option Nat)) : List Itm → (Nat → AV) → (Nat → Option AO) → Nat → Prop
  | [], _, _, _ => True
  | x :: r, T, H, nm => gdF ds T x.o.guard = some x.d.x ∧ dok N x.o.dst = true ∧ (x.d.x = true → DStep P x.o T H nm x.d) ∧ (x.d.x = false → x.d.v = .tup [] ∧ x.d.F = [] ∧ x.d.W = []) ∧ Chain P N ds r (putT T x.o.dst x.d.v) (wrH H x.d.W) (nm + 8)
theorem lk_put (st : St) (dst : Option Nat) (v : AV) : lk (st.put dst v).tm = putT (lk st.tm) dst v := by
  cases dst with
  | none => rfl
  | some d => funext t; rfl
theorem hp_put (st : St) (dst : Option Nat) (v : AV) : (st.put dst v).hp = st.hp := by cases dst <;> rfl
theorem nx_put (st : St) (dst : Option Nat) (v : AV) : (st.put dst v).nx = st.nx := by cases dst <;> rfl
theorem ard_chain {ds : List (Option Nat)} {K : St → List Lg → Prop} : ∀ (l : List Oper) (st : St) (lg : List Lg), ARD P N ds l st lg K →
    ∃ (its : List Itm) (st' : St), its.map (·.o) = l ∧ Chain P N ds its (lk st.tm) (hlk st.hp) st.nx ∧ lk st'.tm = TF (fun _ => true) 0 its (lk st.tm) ∧ hlk st'.hp = HF (fun _ => true) 0 its (hlk st.hp) ∧ st'.nx = st.nx + 8 * l.length ∧ K st' (lg ++ its.map fun x => ⟨x.d.F, x.d.W.map (·.1)⟩)
  | [], st, lg, h => ⟨[], st, rfl, trivial, rfl, rfl, by simp, by simpa [ARD] using h⟩
  | o :: os, st, lg, h => by
    have step : ∀ (d : Dat) (st1 : St), gdF ds (lk st.tm) o.guard = some d.x → dok N o.dst = true → (d.x = true → DStep P o (lk st.tm) (hlk st.hp) st.nx d) → (d.x = false → d.v = .tup [] ∧ d.F = [] ∧ d.W = []) → st1 = (st.wr d.W 8).put o.dst d.v → ARD P N ds os st1 (lg ++ [⟨d.F, d.W.map (·.1)⟩]) K →
        ∃ (its : List Itm) (st' : St), its.map (·.o) = o :: os ∧ Chain P N ds its (lk st.tm) (hlk st.hp) st.nx ∧ lk st'.tm = TF (fun _ => true) 0 its (lk st.tm) ∧ hlk st'.hp = HF (fun _ => true) 0 its (hlk st.hp) ∧ st'.nx = st.nx + 8 * (o :: os).length ∧ K st' (lg ++ its.map fun x => ⟨x.d.F, x.d.W.map (·.1)⟩) := fun d st1 h1 h2 h3 h4 h5 h6 => by
      obtain ⟨its, st', k1, k2, k3, k4, k5, k6⟩ := ard_chain os st1 _ h6
      have e1 : lk st1.tm = putT (lk st.tm) o.dst d.v := by rw [h5, lk_put]; rfl
      have e2 : hlk st1.hp = wrH (hlk st.hp) d.W := by rw [h5, hp_put]; exact hlk_wr d.W st.hp
      have e3 : st1.nx = st.nx + 8 := by rw [h5, nx_put]; rfl
      rw [e1, e2, e3] at k2
      rw [e1] at k3
      rw [e2] at k4
      have shT : ∀ (l : List Itm) (k : Nat) (T : Nat → AV), TF (fun _ => true) (k + 1) l T = TF (fun _ => true) k l T := fun l => by
        induction l with
        | nil => intro k T; rfl
        | cons a l ih => intro k T; unfold TF; rw [ih (k + 1)]
      have shH : ∀ (l : List Itm) (k : Nat) (T : Nat → Option AO), HF (fun _ => true) (k + 1) l T = HF (fun _ => true) k l T := fun l => by
        induction l with
        | nil => intro k T; rfl
        | cons a l ih => intro k T; unfold HF; rw [ih (k + 1)]
      refine ⟨⟨o, d⟩ :: its, st', by simp [k1], ⟨h1, h2, h3, h4, k2⟩, ?_, ?_, by rw [k5, e3]; simp; omega, by simpa using k6⟩
      · rw [k3]; show _ = TF (fun _ => true) (0 + 1) its (putT (lk st.tm) o.dst d.v); rw [shT]
      · rw [k4]; show _ = HF (fun _ => true) (0 + 1) its (wrH (hlk st.hp) d.W); rw [shH]
    unfold ARD at h
    cases hb : gd ds st o.guard with
    | none => rw [hb] at h; exact h.elim
    | some b =>
      rw [hb] at h
      have hb' : gdF ds (lk st.tm) o.guard = some b := hb
      cases b with
      | true =>
        have h : (match o.op with
          | .call ⟨.value f, args, _⟩ => CallD P N o.dst (evA (lk st.tm) f) (args.toList.map (evA (lk st.tm))) st (fun F W st' => ARD P N ds os st' (lg ++ [(⟨F, W⟩ : Lg)]) K)
          | op => match aop P op (evA (lk st.tm)) (hlk st.hp) st.nx with
            | some r => dok N o.dst = true ∧ ARD P N ds os ((St.wr st r.2.2 8).put o.dst r.1) (lg ++ [(⟨r.2.1, r.2.2.map (·.1)⟩ : Lg)]) K
            | none => False) := h
        split at h
        · rename_i f args ats hop
          obtain ⟨g, first, caps, cargs, ch, res, ch', σ, q1, q2, q3, q4, q5, q6, q7, q8, q9⟩ := h
          refine step ⟨true, res.ren (nmap σ ch.length st.nx), σ, wrs (nmap σ ch.length st.nx) 0 ch'⟩ _ hb' q8 (fun _ => ?_) (fun h => by cases h) rfl q9
          unfold DStep
          rw [hop]
          exact ⟨g, first, caps, cargs, ch, res, ch', σ, q1, q2, q3, q4, q5, q6, q7, rfl, rfl, rfl⟩
        · rename_i hne
          split at h
          · rename_i r hr
            refine step ⟨true, r.1, r.2.1, r.2.2⟩ _ hb' h.1 (fun _ => ?_) (fun h => by cases h) rfl h.2
            unfold DStep
            split
            · rename_i f args ats hop; exact (hne f args ats hop).elim
            · exact hr
          · exact h.elim
      | false =>
        obtain ⟨h1, h2⟩ : dok N o.dst = true ∧ _ := h
        exact step ⟨false, .tup [], [], []⟩ _ hb' h1 (fun h => by cases h) (fun _ => ⟨rfl, rfl, rfl⟩) rfl h2
theorem chain_at {ds : List (Option Nat)} : ∀ {its : List Itm} {T : Nat → AV} {H : Nat → Option AO} {nm k : Nat}, Chain P N ds its T H nm → ∀ (i : Nat) x, its[i]? = some x →
    gdF ds (TF (fun j => decide (j < k + i)) k its T) x.o.guard = some x.d.x ∧ dok N x.o.dst = true ∧ (x.d.x = true → DStep P x.o (TF (fun j => decide (j < k + i)) k its T) (HF (fun j => decide (j < k + i)) k its H) (nm + 8 * i) x.d) ∧ (x.d.x = false → x.d.v = .tup [] ∧ x.d.F = [] ∧ x.d.W = [])
  | [], T, H, nm, k, _, i, x, hi => by simp at hi
  | y :: r, T, H, nm, k, h, 0, x, hi => by
    simp at hi; subst hi
    obtain ⟨h1, h2, h3, h4, h5⟩ := h
    have nT : ∀ (l : List Itm) (m : Nat) (T : Nat → AV), k ≤ m → TF (fun j => decide (j < k + 0)) m l T = T := fun l => by
      induction l with
      | nil => intro m T _; rfl
      | cons a l ih => intro m T hm; unfold TF; rw [if_neg (by simp; omega), ih _ _ (by omega)]
    have nH : ∀ (l : List Itm) (m : Nat) (T : Nat → Option AO), k ≤ m → HF (fun j => decide (j < k + 0)) m l T = T := fun l => by
      induction l with
      | nil => intro m T _; rfl
      | cons a l ih => intro m T hm; unfold HF; rw [if_neg (by simp; omega), ih _ _ (by omega)]
    rw [nT _ _ _ (Nat.le_refl _), nH _ _ _ (Nat.le_refl _)]
    exact ⟨h1, h2, by simpa using h3, h4⟩
  | y :: r, T, H, nm, k, h, i + 1, x, hi => by
    obtain ⟨h1, h2, h3, h4, h5⟩ := h
    have := chain_at (k := k + 1) h5 i x (by simpa using hi)
    unfold TF HF
    rw [if_pos (by simp), if_pos (by simp)]
    rw [show k + (i + 1) = k + 1 + i by omega, show nm + 8 * (i + 1) = nm + 8 + 8 * i by omega]
    exact this
end
def cnt (L : Nat → Bool) : Nat → Nat
  | 0 => 0
  | k + 1 => cnt L k + if L k = true then 0 else 1
theorem cnt_zero {L : Nat → Bool} : ∀ {n : Nat}, cnt L n = 0 → ∀ i, i < n → L i = true
  | 0, _, i, hi => by omega
  | n + 1, h, i, hi => by
    unfold cnt at h
    by_cases hn : L n = true
    · rw [if_pos hn] at h
      rcases Nat.lt_succ_iff_lt_or_eq.1 hi with h1 | rfl
      · exact cnt_zero (by omega) i h1
      · exact hn
    · rw [if_neg hn] at h; omega
theorem cnt_set {L L' : Nat → Bool} {i : Nat} (hi : L i = false) (hi' : L' i = true) (ho : ∀ j, j ≠ i → L' j = L j) : ∀ {n : Nat}, i < n → cnt L' n + 1 = cnt L n
  | 0, h => by omega
  | n + 1, h => by
    unfold cnt
    by_cases hn : i = n
    · subst hn
      rw [if_pos hi', if_neg (by rw [hi]; simp)]
      have : ∀ m, m ≤ i → cnt L' m = cnt L m := fun m => by
        induction m with
        | zero => intro _; rfl
        | succ m ih => intro hm; unfold cnt; rw [ih (by omega), ho m (by omega)]
      rw [this i (Nat.le_refl _)]
    · rw [ho n (fun e => hn e.symm), ← cnt_set hi hi' ho (n := n) (by omega)]; omega
end Go.Proofs.Ytcjagcfjpfjanaa.am
namespace Go.Proofs.Ytcjagcfjpfjanaa.am
open Go.ChangeShapes Go.WideShapes Go.ChangeAt Go.RowKit
set_option linter.unusedVariables false
set_option linter.unusedSimpArgs false
structure Ord (l : List Oper) (its : List Itm) : Prop where
  os : its.map (·.o) = l
  low : ∀ (i : Nat) o, l[i]? = some o → ∀ j ∈ deps o, j < i
  pairs : ∀ (i j : Nat) x y, i < j → its[i]? = some x → its[j]? = some y → conf (l.map (·.dst)) x.o y.o ⟨x.d.F, x.d.W.map (·.1)⟩ ⟨y.d.F, y.d.W.map (·.1)⟩ = true → ((ancs l []).getD j 0).testBit i = true
theorem ord_of {l : List Oper} {its : List Itm} (hos : its.map (·.o) = l) (h : okD l (its.map fun x => ⟨x.d.F, x.d.W.map (·.1)⟩) = true) : Ord l its := by
  unfold okD at h
  simp only [Bool.and_eq_true] at h
  obtain ⟨⟨h1, _⟩, h3⟩ := h
  refine ⟨hos, fun i o hi j hj => ?_, fun i j x y hij hx hy hc => ?_⟩
  · have := List.all_eq_true.1 h1 (o, i) (by rw [List.mem_iff_getElem?]; exact ⟨i, by rw [List.getElem?_zipIdx, hi]; simp⟩)
    have := List.all_eq_true.1 this j hj
    simpa using this
  · have key := okPairs_spec h3 i j (x.o, ⟨x.d.F, x.d.W.map (·.1)⟩) (y.o, ⟨y.d.F, y.d.W.map (·.1)⟩) hij (by rw [← hos, List.zip_map', List.getElem?_map, hx]; rfl) (by rw [← hos, List.zip_map', List.getElem?_map, hy]; rfl) hc
    simpa using key
section
variable {P : Program} {X : Ctx} {N : Nat} {l : List Oper} {its : List Itm} {T0 : Nat → AV} {H0 : Nat → Option AO} {nx : Nat}
def Lo (listed : Array Bool) (i : Nat) : Bool := listed.getD i false
def Clo (l : List Oper) (L : Nat → Bool) : Prop := ∀ (i : Nat) o, l[i]? = some o → L i = true → ∀ j ∈ deps o, L j = true
def UL (nx n : Nat) (L : Nat → Bool) (x : Nat) : Prop := nx + 8 * n ≤ x ∨ ∃ j, j < n ∧ L j = false ∧ nx + 8 * j ≤ x ∧ x < nx + 8 * j + 8
theorem clo_anc (ho : Ord l its) {L : Nat → Bool} (hc : Clo l L) {i : Nat} (hi : i < l.length) (hL : L i = true) {j : Nat} (hj : ((ancs l []).getD i 0).testBit j = true) : L j = true :=
  ancs_spec l [] L [] rfl (fun i hi => by simp at hi) (fun i o hx hL j hj => hc i o (by simpa using hx) hL j hj) (fun i o hx j hj => by have := ho.low i o hx j hj; simpa using this) i (by simpa using hi) j hj hL
theorem order_spec (ho : Ord l its) {L : Nat → Bool} (hc : Clo l L) {i : Nat} {x : Itm} (hx : its[i]? = some x) (hL : L i = false) (hd : ∀ j ∈ deps x.o, L j = true) {j : Nat} {y : Itm} (hy : its[j]? = some y) :
    (j < i → conf (l.map (·.dst)) y.o x.o ⟨y.d.F, y.d.W.map (·.1)⟩ ⟨x.d.F, x.d.W.map (·.1)⟩ = true → L j = true) ∧ (i < j → conf (l.map (·.dst)) x.o y.o ⟨x.d.F, x.d.W.map (·.1)⟩ ⟨y.d.F, y.d.W.map (·.1)⟩ = true → L j = false) := by
  have hlx : l[i]? = some x.o := by rw [← ho.os, List.getElem?_map, hx]; rfl
  have hly : l[j]? = some y.o := by rw [← ho.os, List.getElem?_map, hy]; rfl
  constructor
  · intro hij hcf
    have hanc := ho.pairs j i y x hij hy hx hcf
    have hc' : Clo l (fun k => L k || k == i) := fun k o hk hLk q hq => by
      by_cases hki : k = i
      · subst hki
        rw [hlx] at hk; cases hk
        simp [hd q hq]
      · have hLk' : L k = true := by simpa [hki] using hLk
        simp [hc k o hk hLk' q hq]
    have := clo_anc ho hc' (i := i) (List.getElem?_eq_some_iff.1 hlx).1 (by simp) hanc
    have hne : j ≠ i := by omega
    simpa [hne] using this
  · intro hij hcf
    have hanc := ho.pairs i j x y hij hx hy hcf
    cases hLj : L j with
    | false => rfl
    | true =>
      have := clo_anc ho hc (i := j) (List.getElem?_eq_some_iff.1 hly).1 hLj hanc
      rw [this] at hL; cases hL
theorem meet_yes {a b : List Nat} {x : Nat} (h1 : x ∈ a) (h2 : x ∈ b) : meet a b = true := by
  unfold meet; rw [List.any_eq_true]; exact ⟨x, h1, by simpa using h2⟩
theorem set_lo {listed : Array Bool} {i : Nat} (hi : i < listed.size) : Lo (listed.setIfInBounds i true) i = true ∧ ∀ j, j ≠ i → Lo (listed.setIfInBounds i true) j = Lo listed j := by
  constructor
  · simp [Lo, hi]
  · intro j hj; simp [Lo, Array.getElem?_setIfInBounds_ne (Ne.symm hj)]
theorem any_sound {st' : St} {Q : Exit → Act → World → Prop} (ho : Ord l its) (hch : Chain P N (l.map (·.dst)) its T0 H0 nx) (hT : lk st'.tm = TF (fun _ => true) 0 its T0) (hH : hlk st'.hp = HF (fun _ => true) 0 its H0) (hnx : st'.nx = nx + 8 * l.length)
    (hQ : ∀ a w, Rel X N st' a w → Q .normal a w) : ∀ (fuel : Nat) (listed : Array Bool) (a : Act) (w : World), listed.size = l.length → cnt (Lo listed) l.length ≤ fuel → Clo l (Lo listed) → RelF X N (TF (Lo listed) 0 its T0) (HF (Lo listed) 0 its H0) (UL nx l.length (Lo listed)) a w → wpAny P .any l.toArray Q fuel listed a w := by
  have hil : its.length = l.length := by rw [← ho.os, List.length_map]
  -- all are done
  have done : ∀ (listed : Array Bool) (a : Act) (w : World), (∀ i, i < l.length → Lo listed i = true) → RelF X N (TF (Lo listed) 0 its T0) (HF (Lo listed) 0 its H0) (UL nx l.length (Lo listed)) a w → Q .normal a w := fun listed a w hall hr => by
    obtain ⟨h1, h2, γ, S, hm, ha⟩ := hr
    have e1 : TF (Lo listed) 0 its T0 = lk st'.tm := by
      rw [hT]; funext t
      exact TF_congr rfl (fun i x hi _ => by rw [Nat.zero_add, hall i (by rw [← hil]; exact (List.getElem?_eq_some_iff.1 hi).1)])
    have e2 : HF (Lo listed) 0 its H0 = hlk st'.hp := by
      rw [hH]; funext t
      exact HF_congr rfl (fun i x hi _ => by rw [Nat.zero_add, hall i (by rw [← hil]; exact (List.getElem?_eq_some_iff.1 hi).1)])
    rw [e1] at ha; rw [e2] at hm
    exact hQ a w ⟨h1, h2, γ, S, hm.less (fun x hx => .inl (by rw [hnx] at hx; exact hx)), ha⟩
  have allof : ∀ (listed : Array Bool), listed.size = l.length → Region.ready .any l.toArray listed = [] → ∀ i, i < l.length → Lo listed i = true := fun listed hsz hre i => by
    induction i using Nat.strongRecOn with
    | ind i ih =>
      intro hi
      cases hLi : Lo listed i with
      | true => rfl
      | false =>
        have hmem : i ∈ Region.ready .any l.toArray listed := by
          rw [mem_ready]
          refine ⟨?_, l[i], by simp [hi], fun e he hb => ?_⟩
          · have : i < listed.size := by omega
            simp [Lo, this] at hLi ⊢; exact hLi
          · have hd : e.on ∈ deps l[i] := by
              unfold deps; rw [List.mem_map]; exact ⟨e, List.mem_filter.2 ⟨by simpa using he, hb⟩, rfl⟩
            exact ih e.on (ho.low i _ (List.getElem?_eq_getElem hi) _ hd) (by have := ho.low i _ (List.getElem?_eq_getElem hi) _ hd; omega)
        rw [hre] at hmem; cases hmem
  intro fuel
  induction fuel with
  | zero =>
    intro listed a w hsz hcnt hclo hr
    have hall := cnt_zero (Nat.le_zero.1 hcnt)
    refine ⟨?_, done listed a w hall hr⟩
    rw [List.eq_nil_iff_forall_not_mem]
    intro i hi
    obtain ⟨h1, o, h2, _⟩ := mem_ready.1 hi
    have hlt : i < l.length := by have := (Array.getElem?_eq_some_iff.1 h2).1; simpa using this
    have := hall i hlt
    have hs : i < listed.size := by omega
    simp [Lo, hs] at this h1
    rw [this] at h1; cases h1
  | succ fuel ih =>
    intro listed a w hsz hcnt hclo hr
    refine ⟨fun hre => done listed a w (allof listed hsz hre) hr, fun i hi => ?_⟩
    obtain ⟨h1, o, h2, h3⟩ := mem_ready.1 hi
    have hlt : i < l.length := by have := (Array.getElem?_eq_some_iff.1 h2).1; simpa using this
    have hs : i < listed.size := by omega
    have hLi : Lo listed i = false := by simp [Lo, hs] at h1 ⊢; exact h1
    have hlo : l[i]? = some o := by simpa using h2
    obtain ⟨x, hx⟩ : ∃ x, its[i]? = some x := ⟨its[i]'(by omega), List.getElem?_eq_getElem _⟩
    have hxo : x.o = o := by rw [← ho.os, List.getElem?_map, hx] at hlo; simpa using hlo
    subst hxo
    have hdep : ∀ j ∈ deps x.o, Lo listed j = true := fun j hj => by
      unfold deps at hj
      obtain ⟨e, he, rfl⟩ := List.mem_map.1 hj
      obtain ⟨he1, he2⟩ := List.mem_filter.1 he
      exact h3 e (by simpa using he1) he2
    obtain ⟨c1, c2, c3, c4⟩ := chain_at (k := 0) hch i x hx
    simp only [Nat.zero_add] at c1 c3
    -- what it looks at is as it was
    have agT : ∀ t, t ∈ looks (l.map (·.dst)) x.o → TF (Lo listed) 0 its T0 t = TF (fun j => decide (j < i)) 0 its T0 t := fun t ht =>
      TF_congr rfl (fun j y hj hd => by
        rw [Nat.zero_add]
        have os := order_spec ho hclo hx hLi hdep hj
        rcases Nat.lt_trichotomy j i with hji | rfl | hji
        · rw [os.1 hji (by unfold conf; rw [meet_yes (x := t) (by rw [hd]; simp) (List.mem_append.2 (.inl ht))]; rfl)]; simp [hji]
        · rw [hLi]; simp
        · rw [os.2 hji (by unfold conf; rw [meet_yes (a := y.o.dst.toList) (x := t) (by rw [hd]; simp) ht]; simp)]; simp; omega)
    have agH : ∀ n, n ∈ x.d.F → HF (Lo listed) 0 its H0 n = HF (fun j => decide (j < i)) 0 its H0 n := fun n hn =>
      HF_congr rfl (fun j y hj hd => by
        rw [Nat.zero_add]
        have os := order_spec ho hclo hx hLi hdep hj
        rcases Nat.lt_trichotomy j i with hji | rfl | hji
        · rw [os.1 hji (by unfold conf; rw [meet_yes (a := y.d.W.map (·.1)) (x := n) hd (List.mem_append.2 (.inl hn))]; simp)]; simp [hji]
        · rw [hLi]; simp
        · rw [os.2 hji (by unfold conf; rw [meet_yes (a := y.d.W.map (·.1)) (b := x.d.F) (x := n) hd hn]; simp)]; simp; omega)
    have hguard : gdF (l.map (·.dst)) (TF (Lo listed) 0 its T0) x.o.guard = some x.d.x := by
      rw [← c1]
      unfold gdF
      cases hg : x.o.guard with
      | none => rfl
      | some gw =>
        obtain ⟨g, want⟩ := gw
        dsimp only
        cases hdg : ((l.map (·.dst))[g]?).join with
        | none => rfl
        | some d =>
          dsimp only
          rw [agT d (by unfold looks; rw [hg]; simp only [hdg]; simp)]
    have hw : Region.wanted x.o (yielded l.toArray a.tmps) = x.d.x := gdF_wanted hr l.toArray x.o (by simpa using hguard)
    -- what is there behind it
    obtain ⟨sl1, sl2⟩ := set_lo (listed := listed) hs
    have later : ∀ (j : Nat) y, its[j]? = some y → i < j → conf (l.map (·.dst)) x.o y.o ⟨x.d.F, x.d.W.map (·.1)⟩ ⟨y.d.F, y.d.W.map (·.1)⟩ = true → Lo listed j = false := fun j y hj hij hc => (order_spec ho hclo hx hLi hdep hj).2 hij hc
    have eT : putT (TF (Lo listed) 0 its T0) x.o.dst x.d.v = TF (Lo (listed.setIfInBounds i true)) 0 its T0 := by
      funext t
      by_cases hd : x.o.dst = some t
      · rw [putT_eq hd, TF_last hx hd (by rw [Nat.zero_add]; exact sl1) (fun j y hj hyd hij => by
          rw [Nat.zero_add, sl2 j (by omega)]
          exact later j y hj hij (by unfold conf; rw [meet_yes (a := x.o.dst.toList) (x := t) (by rw [hd]; simp) (List.mem_append.2 (.inr (by rw [hyd]; simp)))]; rfl))]
      · rw [putT_ne hd]
        exact TF_congr rfl (fun j y hj hyd => by
          rw [Nat.zero_add, sl2 j (fun e => by subst e; rw [hx] at hj; cases hj; exact hd hyd)])
    have eH : wrH (HF (Lo listed) 0 its H0) x.d.W = HF (Lo (listed.setIfInBounds i true)) 0 its H0 := by
      funext n
      by_cases hd : n ∈ x.d.W.map (·.1)
      · rw [HF_last (HF (Lo listed) 0 its H0) hx hd (by rw [Nat.zero_add]; exact sl1) (fun j y hj hyd hij => by
          rw [Nat.zero_add, sl2 j (by omega)]
          exact later j y hj hij (by unfold conf; rw [meet_yes (a := x.d.W.map (·.1)) (x := n) hd (List.mem_append.2 (.inr hyd))]; simp))]
      · rw [wrH_out hd]
        exact HF_congr rfl (fun j y hj hyd => by
          rw [Nat.zero_add, sl2 j (fun e => by subst e; rw [hx] at hj; cases hj; exact hd hyd)])
    have hclo' : Clo l (Lo (listed.setIfInBounds i true)) := fun k o hk hLk q hq => by
      by_cases hki : k = i
      · subst hki
        rw [hlo] at hk; cases hk
        by_cases hqi : q = k
        · rw [hqi]; exact sl1
        · rw [sl2 q hqi]; exact hdep q hq
      · rw [sl2 k hki] at hLk
        by_cases hqi : q = i
        · rw [hqi]; exact sl1
        · rw [sl2 q hqi]; exact hclo k o hk hLk q hq
    have hcnt' : cnt (Lo (listed.setIfInBounds i true)) l.length ≤ fuel := by
      have := cnt_set hLi sl1 sl2 hlt
      omega
    have next : ∀ a' w', RelF X N (putT (TF (Lo listed) 0 its T0) x.o.dst x.d.v) (wrH (HF (Lo listed) 0 its H0) x.d.W) (fun y => UL nx l.length (Lo listed) y ∧ ¬ (nx + 8 * i ≤ y ∧ y < nx + 8 * i + 8)) a' w' → wpAny P .any l.toArray Q fuel (listed.setIfInBounds i true) a' w' := fun a' w' hr' => by
      refine ih (listed.setIfInBounds i true) a' w' (by simp [hsz]) hcnt' hclo' ?_
      obtain ⟨k1, k2, γ, S, k3, k4⟩ := hr'
      rw [eH] at k3
      rw [eT] at k4
      refine ⟨k1, k2, γ, S, k3.less (fun y hy => ?_), k4⟩
      rcases hy with hy | ⟨j, hj, hLj, h4, h5⟩
      · exact ⟨.inl hy, fun h => by omega⟩
      · have hji : j ≠ i := fun e => by rw [e, sl1] at hLj; cases hLj
        rw [sl2 j hji] at hLj
        exact ⟨.inr ⟨j, hj, hLj, h4, h5⟩, fun h => by omega⟩
    unfold wpOp
    simp only [h2, hw]
    cases hdx : x.d.x with
    | true =>
      rw [if_pos rfl]
      refine .inl (dstep_sound (nm := nx + 8 * i) (dstep_congr (c3 hdx) (fun t ht => agT t (by unfold looks; rw [List.mem_append]; left; exact List.mem_filterMap.2 ⟨.tmp t, by simpa using ht, rfl⟩)) agH) c2 hr (fun y h4 h5 => .inr ⟨i, hlt, hLi, h4, h5⟩) next)
    | false =>
      rw [if_neg (by simp)]
      obtain ⟨v1, v2, v3⟩ := c4 hdx
      obtain ⟨k1, k2, γ, S, k3, k4⟩ := hr
      refine next _ _ ⟨by rw [act_put_defers]; exact k1, by rw [act_put_size]; exact k2, γ, S, ?_, repF_put k2 k4 c2 (by rw [v1]; exact undef_rep)⟩
      rw [v3]
      exact k3.less (fun y hy => hy.1)
theorem aw_draw {nb : Nat} {st : St} {Q : Exit → St → Prop} (hm : P.follows .mixedOrders = true) {id : Nat} (h : ARD P N (l.map (·.dst)) l st [] (fun st' lg => okD l lg = true ∧ Q .normal st')) : AW P N nb (.region id l.toArray true) st Q := fun X hX a w hr Q' hQ => by
  obtain ⟨its, st', k1, k2, k3, k4, k5, k6, k7⟩ := ard_chain l st [] h
  have ho := ord_of k1 (by simpa using k6)
  refine wp_region_any hm (any_sound ho k2 k3 k4 k5 (fun a w hr' => hQ _ _ _ _ k7 hr') _ _ a w.drew (by simp) ?_ (fun i o hi hL => ?_) ?_)
  · have : ∀ (L : Nat → Bool) n, cnt L n ≤ n := fun L n => by
      induction n with
      | zero => exact Nat.le_refl _
      | succ n ih => unfold cnt; split <;> omega
    simpa using this _ _
  · simp [Lo] at hL
    have : i < l.length := (List.getElem?_eq_some_iff.1 hi).1
    simp [this] at hL
  · have noT : ∀ (its : List Itm) (k : Nat) (T : Nat → AV), TF (Lo (Array.replicate l.toArray.size false)) k its T = T := fun its => by
      induction its with
      | nil => intro k T; rfl
      | cons x r ih =>
        intro k T; unfold TF
        rw [if_neg, ih]
        simp [Lo]; by_cases hk : k < l.length <;> simp [hk]
    have noH : ∀ (its : List Itm) (k : Nat) (T : Nat → Option AO), HF (Lo (Array.replicate l.toArray.size false)) k its T = T := fun its => by
      induction its with
      | nil => intro k T; rfl
      | cons x r ih =>
        intro k T; unfold HF
        rw [if_neg, ih]
        simp [Lo]; by_cases hk : k < l.length <;> simp [hk]
    obtain ⟨h1, h2, γ, S, m, ha⟩ := hr
    rw [noT, noH]
    refine ⟨h1, h2, γ, S, m.drew.less (fun x hx => ?_), fun t => RepV.mono (w := w) (w' := w.drew) (GOn.refl _) (fun _ _ h => h) (fun _ _ _ => rfl) (ha t)⟩
    rcases hx with hx | ⟨j, _, _, hx, _⟩ <;> omega
theorem aw_drw {nb : Nat} {st : St} {Q : Exit → St → Prop} (hm : P.follows .mixedOrders = true) {id : Nat} (h : ∀ K : St → List Lg → Prop, (∀ st' lg, okD l lg = true → Q .normal st' → K st' lg) → ARD P N (l.map (·.dst)) l st [] K) : AW P N nb (.region id l.toArray true) st Q := aw_draw hm (h _ (fun _ _ h1 h2 => ⟨h1, h2⟩))
end
theorem call_pure {P : Program} {N f : Nat} {dst : Option Nat} {args cargs : List AV} {res : AV} {st : St} {K : St → Prop} (hrow : Row P f cargs [] res []) (hfit : fitVs 0 (fun _ => 0) cargs args) (hr : ∀ ρ, res.ren ρ = res) (hd : dok N dst = true) (hk : K ((st.wr [] 8).put dst res)) :
    CallK P N dst (.v (.c (.fn (.func f) [] []))) args st K :=
  ⟨f, [], [], cargs, [], res, [], [], rfl, hrow, by simpa using hfit, trivial, List.nodup_nil, by simp, by simp, hd, by rw [hr]; exact hk⟩
theorem calld_pure {P : Program} {N f : Nat} {dst : Option Nat} {args cargs : List AV} {res : AV} {st : St} {K : List Nat → List Nat → St → Prop} (hrow : Row P f cargs [] res []) (hfit : fitVs 0 (fun _ => 0) cargs args) (hr : ∀ ρ, res.ren ρ = res) (hd : dok N dst = true) (hk : K [] [] ((st.wr [] 8).put dst res)) :
    CallD P N dst (.v (.c (.fn (.func f) [] []))) args st K :=
  ⟨f, [], [], cargs, [], res, [], [], rfl, hrow, by simpa using hfit, trivial, List.nodup_nil, by simp, by simp, hd, by rw [hr]; exact hk⟩
theorem call_box {P : Program} {N f : Nat} {dst : Option Nat} {first caps : List Cap} {args cargs : List AV} {o o' : AO} {res : AV} {st : St} {K : St → Prop} (hrow : Row P f cargs [o] res [o']) (id : Nat) (hfit : fitVs 1 (fun i => [id].getD i 0) cargs (first.map capV ++ args ++ caps.map capV)) (ho : covO (hlk st.hp) 1 (fun i => [id].getD i 0) [some o] [id]) (hr : ∀ ρ, res.ren ρ = res) (ho' : ∀ ρ, o'.ren ρ = o') (hd : dok N dst = true) (hk : K ((st.wr [(id, some o')] 8).put dst res)) :
    CallK P N dst (.v (.c (.fn (.func f) first caps))) args st K :=
  ⟨f, first, caps, cargs, [o], res, [o'], [id], rfl, hrow, hfit, ho, by simp, by simp, by simp, hd, by rw [hr]; have e : wrs (nmap [id] [o].length st.nx) 0 [o'] = [(id, some o')] := by simp [wrs, nmap, ho']
                                                                                                       rw [e]; exact hk⟩
theorem fin_fall {P : Program} {nb : Nat} {rs : List ResultVar} {res : AV} {ch' : List (Option AO)} {st : St} (h : Fin P nb rs res ch' .ret st) : Fin P nb rs res ch' .normal st := h
theorem cp {P : Program} {N f : Nat} {dst : Option Nat} {args cargs : List AV} {res : AV} {st : St} {K : St → Prop} (hrow : Row P f cargs [] res []) (hk : K ((st.wr [] 8).put dst res)) (hfit : fitVs 0 (fun _ => 0) cargs args := by first | (simp [*]; done) | fail) (hr : ∀ ρ, res.ren ρ = res := by first | exact (fun _ => rfl) | exact (vT_ren _) | exact (vLs_ren _) | exact (vTB_ren _) | exact (vG_ren _) | exact (vT3_ren _) | (intro ρ; simp [AV.ren, AT.ren, AC.ren]; done) | fail) (hd : dok N dst = true := by rfl) :
    CallK P N dst (.v (.c (.fn (.func f) [] []))) args st K := call_pure hrow hfit hr hd hk
theorem dp {P : Program} {N f : Nat} {dst : Option Nat} {args cargs : List AV} {res : AV} {st : St} {K : List Nat → List Nat → St → Prop} (hrow : Row P f cargs [] res []) (hk : K [] [] ((st.wr [] 8).put dst res)) (hfit : fitVs 0 (fun _ => 0) cargs args := by first | (simp [*]; done) | fail) (hr : ∀ ρ, res.ren ρ = res := by first | exact (fun _ => rfl) | exact (vT_ren _) | exact (vLs_ren _) | exact (vTB_ren _) | exact (vG_ren _) | exact (vT3_ren _) | (intro ρ; simp [AV.ren, AT.ren, AC.ren]; done) | fail) (hd : dok N dst = true := by rfl) :
    CallD P N dst (.v (.c (.fn (.func f) [] []))) args st K := calld_pure hrow hfit hr hd hk
theorem cb {P : Program} {N f : Nat} {dst : Option Nat} {first caps : List Cap} {args cargs : List AV} {o o' : AO} {res : AV} {st : St} {K : St → Prop} (hrow : Row P f cargs [o] res [o']) (id : Nat) (hk : K ((st.wr [(id, some o')] 8).put dst res)) (hfit : fitVs 1 (fun i => [id].getD i 0) cargs (first.map capV ++ args ++ caps.map capV) := by first | (simp [*]; done) | fail) (ho : covO (hlk st.hp) 1 (fun i => [id].getD i 0) [some o] [id] := by first | (simp [*]; done) | fail) (hr : ∀ ρ, res.ren ρ = res := by first | exact (fun _ => rfl) | exact (vT_ren _) | exact (vLs_ren _) | exact (vTB_ren _) | exact (vG_ren _) | exact (vT3_ren _) | (intro ρ; simp [AV.ren, AT.ren, AC.ren]; done) | fail) (ho' : ∀ ρ, o'.ren ρ = o' := by first | exact (fun _ => rfl) | exact (rd_ren _ _ _) | exact (bx_ren _) | exact (box_ren _) | fail) (hd : dok N dst = true := by rfl) :
    CallK P N dst (.v (.c (.fn (.func f) first caps))) args st K := call_box hrow id hfit ho hr ho' hd hk
end Go.Proofs.Ytcjagcfjpfjanaa.am
namespace Go.Proofs.Ytcjagcfjpfjanaa.am
open Go.ChangeShapes Go.WideShapes Go.ChangeAt Go.RowKit
attribute [simp] AR_nil AR_cons AR_gard GX_yes GX_not ARD_nil ARD_cons ARD_gard GXD_yes GXD_not OpA_some OpD_some AX_move AX_assign AX_pick AX_alloc AX_box AX_build AX_buildSlice AX_insert AX_load AX_store AX_ready AX_waits AX_nilCheck AX_binOp AX_unOp AX_convert AX_sliceToArrayPointer AX_makeInterface AX_makeFunc AX_makeMap AX_makeChan AX_makeSlice AX_slice AX_fieldAddr AX_field AX_indexAddr AX_index AX_lookup AX_mapUpdate AX_mapEntry AX_entryStore AX_range AX_next AX_entry AX_typeAssert AX_extract AX_panic AX_builtin AXD_move AXD_assign AXD_pick AXD_alloc AXD_box AXD_build AXD_buildSlice AXD_insert AXD_load AXD_store AXD_ready AXD_waits AXD_nilCheck AXD_binOp AXD_unOp AXD_convert AXD_sliceToArrayPointer AXD_makeInterface AXD_makeFunc AXD_makeMap AXD_makeChan AXD_makeSlice AXD_slice AXD_fieldAddr AXD_field AXD_indexAddr AXD_index AXD_lookup AXD_mapUpdate AXD_mapEntry AXD_entryStore AXD_range AXD_next AXD_entry AXD_typeAssert AXD_extract AXD_panic AXD_builtin gd aop evA lk hlk St.put St.wr dok cellsT constAV plain vload vstore vfieldAddr vfield vindexAddr vidx vindex vslice vsl srcOf vcopy vmake vbin veqF veq isEqOp pbin pint pstr vun vconv vlen vbuiltin vappend vappendS vbuildSlice vbuild fillA fillS pureT pureC setSeg asSl asInt? bnd oav vext vmin vnil capOf capV entry idxA idx mkSt fitVs fitV fitT fitC fitCs fitP_sn fitP_sl fitP_ss fitP_l fitP_n fitQs_nil fitQs_cons fitQs_nc fitQs_cn fitQ_nil fitQ_cons fitQ_nc fitQ_cn fitTs fitCap fitCaps fitO covO covT vlookup vmapupd vmakemap keyKind keyFit asKey ptOf zeroT PT.at
theorem i64i (z : Int) (h1 : -9223372036854775808 ≤ z) (h2 : z ≤ 9223372036854775807) : IntKind.i64.wrap z = z := IntWalk.i64_in _ (by omega)
end Go.Proofs.Ytcjagcfjpfjanaa.am
namespace Go.Proofs.Ytcjagcfjpfjanaa.am
open Go.ChangeShapes Go.WideShapes Go.ChangeAt Go.RowKit
set_option linter.unusedVariables false
set_option linter.unusedSimpArgs false
section
variable {P : Program} {N : Nat} {ds : List (Option Nat)} {dst : Option Nat} {op : Op} {st : St} {os : List Oper} {K : St → Prop} {lg : List Lg} {KD : St → List Lg → Prop}
end
section
variable {X : Ctx} {H : Nat → Option AO} {U : Nat → Prop} {γ : Nat → G} {S : CS} {w : World}
theorem Mem.nilrow (h : Mem X H U γ S w) {nm : Nat} (hn : U nm) (e : TypeId) (es : Nat) : Mem X (upd H nm (some (.row e es))) (fun x => U x ∧ x ≠ nm) (upd γ nm (.val (.slice none 0 0))) S w := by
  have hG := GOn.upd_un (h.un nm hn) (.val (.slice none 0 0))
  refine ⟨h.os, h.tape, h.output, h.size, h.frame, h.keep, h.fresh, h.inb, h.mono.trans hG, fun x hx => ?_, fun x hx => ?_, fun x o' hx => ?_, fun x y hxy b hbx hby => ?_, fun x b hb => ?_⟩
  · rw [upd_ne γ _ hx.2]; exact h.un x hx.1
  · by_cases hxn : x = nm
    · subst hxn; rw [upd_same] at hx; cases hx
    · rw [upd_ne _ _ hxn] at hx ⊢; exact h.off x hx
  · by_cases hxn : x = nm
    · subst hxn; rw [upd_same] at hx; cases hx
      exact ⟨_, 0, [], upd_same _ _ _, ⟨by simp, .inl ⟨rfl, rfl⟩⟩, fun b hb => by cases hb⟩
    · rw [upd_ne _ _ hxn] at hx
      exact Obj'.on (h.obj x o' hx) (upd_ne γ _ hxn) hG (fun _ _ h => h) (fun _ _ _ => rfl) (fun b hb => ⟨rfl, fun _ h => h⟩)
  · by_cases hxn : x = nm
    · subst hxn; rw [upd_same] at hbx; cases hbx
    · by_cases hyn : y = nm
      · subst hyn; rw [upd_same] at hby; cases hby
      · rw [upd_ne _ _ hxn] at hbx; rw [upd_ne _ _ hyn] at hby; exact h.dist x y hxy b hbx hby
  · by_cases hxn : x = nm
    · subst hxn; rw [upd_same] at hb; cases hb
    · rw [upd_ne _ _ hxn] at hb
      refine (h.live x b hb).imp id (fun k => ?_)
      exact k
theorem nil_row_rep {γ' : Nat → G} {v : Value} {nm es : Nat} (h : RepV γ S w v (.v (.c (.pv .nilS)))) (hg : γ' nm = .val (.slice none 0 0)) : RepC γ' S w v (.row nm es []) := by
  obtain rfl := nilS_inv h
  exact ⟨.emp none 0 es (by omega) (fun _ => rfl), .inr hg⟩
end
section
variable {P : Program} {N nb : Nat} {st : St} {Q : Exit → St → Prop}
def St.nil (st : St) (t : Nat) (e : TypeId) (es : Nat) : St := ⟨(t, .v (.c (.row st.nx es []))) :: st.tm, (st.nx, some (.row e es)) :: st.hp, st.nx + 1⟩
theorem aw_nil {c : Code} (t : Nat) (e : TypeId) (es : Nat) (ht : lk st.tm t = .v (.c (.pv .nilS))) (h : AW P N nb c (st.nil t e es) Q) : AW P N nb c st Q := by
  refine aw_cov (fun X hX a w hr => ?_) h
  obtain ⟨h1, h2, γ, S, hm, ha⟩ := hr
  have hG := GOn.upd_un (hm.un st.nx (Nat.le_refl _)) (.val (.slice none 0 0))
  refine ⟨h1, h2, upd γ st.nx (.val (.slice none 0 0)), S, ?_, fun s => ?_⟩
  · have := hm.nilrow (nm := st.nx) (Nat.le_refl _) e es
    show Mem X (hlk ((st.nx, some (.row e es)) :: st.hp)) _ _ _ _
    rw [hlk_cons]
    exact this.less (fun x hx => ⟨by have : st.nx + 1 ≤ x := hx
                                     omega, by have : st.nx + 1 ≤ x := hx
                                               omega⟩)
  · show RepV _ _ _ _ (if s = t then _ else lk st.tm s)
    by_cases hs : s = t
    · rw [if_pos hs]
      subst hs
      have := ha s
      rw [ht] at this
      exact nil_row_rep this (upd_same _ _ _)
    · rw [if_neg hs]
      exact (ha s).mono hG (fun _ _ h => h) (fun _ _ _ => rfl)
def St.nilc (st : St) (id j : Nat) (cells : List AC) (e : TypeId) (es : Nat) : St := ⟨st.tm, (id, some (.box (cells.set j (.row st.nx es [])))) :: (st.nx, some (.row e es)) :: st.hp, st.nx + 1⟩
theorem aw_nilc {c : Code} (id j : Nat) (cells : List AC) (e : TypeId) (es : Nat) (hid : hlk st.hp id = some (.box cells)) (hj : cells[j]? = some (.pv .nilS)) (hlt : id < st.nx) (h : AW P N nb c (st.nilc id j cells e es) Q) : AW P N nb c st Q := by
  refine aw_cov (fun X hX a w hr => ?_) h
  obtain ⟨h1, h2, γ, S, hm, ha⟩ := hr
  have hG := GOn.upd_un (hm.un st.nx (Nat.le_refl _)) (.val (.slice none 0 0))
  refine ⟨h1, h2, upd γ st.nx (.val (.slice none 0 0)), S, ?_, fun s => (ha s).mono hG (fun _ _ h => h) (fun _ _ _ => rfl)⟩
  have m := hm.nilrow (nm := st.nx) (Nat.le_refl _) e es
  show Mem X (hlk ((id, some (.box (cells.set j (.row st.nx es [])))) :: (st.nx, some (.row e es)) :: st.hp)) _ _ _ _
  rw [hlk_cons, hlk_cons]
  have hne : id ≠ st.nx := by omega
  have hid' : upd (hlk st.hp) st.nx (some (.row e es)) id = some (.box cells) := by rw [upd_ne _ _ hne]; exact hid
  refine { m with un := fun x hx => m.un x ⟨by have : st.nx + 1 ≤ x := hx
                                               omega, by have : st.nx + 1 ≤ x := hx
                                                         omega⟩, off := fun x hx => ?_, obj := fun x o hx => ?_ }
  · by_cases hxi : x = id
    · subst hxi; rw [upd_same] at hx; cases hx
    · rw [upd_ne _ _ hxi] at hx; exact m.off x hx
  · by_cases hxi : x = id
    · subst hxi
      rw [upd_same] at hx; cases hx
      obtain ⟨b, cs, t, k1, k2, k3, k4⟩ := m.obj x _ hid'
      refine ⟨b, cs, t, k1, k2, ⟨by rw [List.length_set]; exact k3.1, fun i ac hi => ?_⟩, k4⟩
      rw [List.getElem?_set] at hi
      split at hi
      · rename_i hij
        split at hi
        · cases hi
          subst hij
          obtain ⟨v, g1, g2⟩ := k3.2 j _ hj
          exact ⟨v, g1, nil_row_rep (γ := upd γ st.nx (.val (.slice none 0 0))) g2 (upd_same _ _ _)⟩
        · cases hi
      · exact k3.2 i ac hi
    · rw [upd_ne _ _ hxi] at hx; exact m.obj x o hx
end
@[simp] theorem fitQ_refl : ∀ l : List PV, fitQ l l
  | [] => by rw [fitQ_nil]; trivial
  | a :: l => by rw [fitQ_cons]; exact ⟨fitP_refl a, fitQ_refl l⟩
@[simp] theorem fitQs_app (l a b : List (List PV)) : fitQs (l ++ a) (l ++ b) ↔ fitQs a b := by
  induction l with
  | nil => rfl
  | cons x l ih => rw [List.cons_append, List.cons_append, fitQs_cons, ih]; exact ⟨fun h => h.2, fun h => ⟨fitQ_refl x, h⟩⟩
@[simp] theorem take_len_map {α β : Type} (f : α → β) (l : List α) : List.take l.length (List.map f l) = List.map f l := List.take_of_length_le (by rw [List.length_map]; exact Nat.le_refl _)
end Go.Proofs.Ytcjagcfjpfjanaa.am
end
