/-
  Layer 38: regions seen from the other side; the bytes between; what the edits make. No walk here.
-/
import Derived.Test.YtcncfljpbbpaoaaRegionEdits
namespace Go.Proofs.Ytcncfljpbbpaoaa.rg
open Go.ChangeShapes Go.WideShapes Go.ChangeAt Go.RowKit
open bs
set_option linter.unusedVariables false

def turnR (r : Reg) : Reg := ⟨r.fq, r.tq, r.fp, r.tp⟩
theorem may_turn (np nq : Nat) : ∀ (l : List Reg) (x y : Int), may nq np y x (l.map turnR) = may np nq x y l
  | [], _, _ => rfl
  | r :: l, x, y => by
    show (decide (y < r.fq) && withinB r.fq r.tq nq && decide (x < r.fp) && withinB r.fp r.tp np && may nq np r.tq r.tp (l.map turnR)) = _
    rw [may_turn np nq l r.tp r.tq]
    show _ = (decide (x < r.fp) && withinB r.fp r.tp np && decide (y < r.fq) && withinB r.fq r.tq nq && may np nq r.tp r.tq l)
    cases decide (y < r.fq) <;> cases withinB r.fq r.tq nq <;> cases decide (x < r.fp) <;> cases withinB r.fp r.tp np <;> rfl
theorem corr_turn (p q : ByteArray) : ∀ (l : List Reg) (x y : Nat), corr q p y x (l.map turnR) = corr p q x y l
  | [], x, y => by
    show decide (q.extract y q.size = p.extract x p.size) = decide (p.extract x p.size = q.extract y q.size)
    exact decide_eq_decide.2 eq_comm
  | r :: l, x, y => by
    show (decide (q.extract y r.fq.toNat = p.extract x r.fp.toNat) && corr q p r.tq.toNat r.tp.toNat (l.map turnR)) = (decide (p.extract x r.fp.toNat = q.extract y r.fq.toNat) && corr p q r.tp.toNat r.tq.toNat l)
    rw [corr_turn p q l]
    congr 1
    exact decide_eq_decide.2 eq_comm
theorem chk_turn (p q : ByteArray) (l : List Reg) : chk q p (l.map turnR) = chk p q l := by
  unfold chk
  rw [may_turn, corr_turn]

/-- The bytes between regions. -/
def restP (t : ByteArray) : Nat → List Reg → List ByteArray
  | x, [] => [t.extract x t.size]
  | x, r :: l => t.extract x r.fp.toNat :: restP t r.tp.toNat l
def restQ (t : ByteArray) : Nat → List Reg → List ByteArray
  | x, [] => [t.extract x t.size]
  | x, r :: l => t.extract x r.fq.toNat :: restQ t r.tq.toNat l
theorem restP_len (t : ByteArray) : ∀ (l : List Reg) (x : Nat), (restP t x l).length = l.length + 1
  | [], _ => rfl
  | r :: l, x => by simp [restP, restP_len t l]
theorem restQ_len (t : ByteArray) : ∀ (l : List Reg) (x : Nat), (restQ t x l).length = l.length + 1
  | [], _ => rfl
  | r :: l, x => by simp [restQ, restQ_len t l]
theorem corr_rest (p q : ByteArray) : ∀ (l : List Reg) (x y : Nat), corr p q x y l = decide (restP p x l = restQ q y l)
  | [], x, y => by
    show decide (p.extract x p.size = q.extract y q.size) = decide ([p.extract x p.size] = [q.extract y q.size])
    exact decide_eq_decide.2 (by simp)
  | r :: l, x, y => by
    show (decide (p.extract x r.fp.toNat = q.extract y r.fq.toNat) && corr p q r.tp.toNat r.tq.toNat l) = decide (p.extract x r.fp.toNat :: restP p r.tp.toNat l = q.extract y r.fq.toNat :: restQ q r.tq.toNat l)
    rw [corr_rest p q l]
    by_cases h1 : p.extract x r.fp.toNat = q.extract y r.fq.toNat
    · by_cases h2 : restP p r.tp.toNat l = restQ q r.tq.toNat l
      · rw [decide_eq_true h1, decide_eq_true h2, decide_eq_true (by rw [h1, h2])]; rfl
      · rw [decide_eq_true h1, decide_eq_false h2, decide_eq_false (fun h => h2 (List.cons.inj h).2)]; rfl
    · rw [decide_eq_false h1, decide_eq_false (fun h => h1 (List.cons.inj h).1)]; rfl

/-- Where the bytes begin that stand behind so many regions. -/
def endP : List Reg → Nat → Nat
  | _, 0 => 0
  | l, k + 1 => match l[k]? with | some r => r.tp.toNat | none => 0
def endQ : List Reg → Nat → Nat
  | _, 0 => 0
  | l, k + 1 => match l[k]? with | some r => r.tq.toNat | none => 0

/-- Regions that may be, and correspond, one by one. -/
structure Steps (p q : ByteArray) (l : List Reg) : Prop where
  each : ∀ (k : Nat) (r : Reg), l[k]? = some r → 0 ≤ r.fp ∧ r.fp ≤ r.tp ∧ r.tp ≤ p.size ∧ 0 ≤ r.fq ∧ r.fq ≤ r.tq ∧ r.tq ≤ q.size ∧ (endP l k : Int) ≤ r.fp ∧ (endQ l k : Int) ≤ r.fq ∧ p.extract (endP l k) r.fp.toNat = q.extract (endQ l k) r.fq.toNat
  last : p.extract (endP l l.length) p.size = q.extract (endQ l l.length) q.size
  order : ∀ (k : Nat) (r s : Reg), l[k]? = some r → l[k + 1]? = some s → r.tp < s.fp

theorem endP_cons (r : Reg) (l : List Reg) (k : Nat) (hk : 0 < k) : endP (r :: l) (k + 1) = endP l k := by
  obtain ⟨j, rfl⟩ : ∃ j, k = j + 1 := ⟨k - 1, by omega⟩
  show (match (r :: l)[j + 1]? with | some r => r.tp.toNat | none => 0) = _
  rw [List.getElem?_cons_succ]
  rfl
theorem endQ_cons (r : Reg) (l : List Reg) (k : Nat) (hk : 0 < k) : endQ (r :: l) (k + 1) = endQ l k := by
  obtain ⟨j, rfl⟩ : ∃ j, k = j + 1 := ⟨k - 1, by omega⟩
  show (match (r :: l)[j + 1]? with | some r => r.tq.toNat | none => 0) = _
  rw [List.getElem?_cons_succ]
  rfl

/-- By the way: from any two places on. -/
theorem steps_from (p q : ByteArray) (full : List Reg) : ∀ (l : List Reg) (k : Nat) (ex ey : Int), full.drop k = l → may p.size q.size ex ey l = true → corr p q (endP full k) (endQ full k) l = true →
    ((ex = endP full k ∨ ex = -1 ∧ endP full k = 0) ∧ (ey = endQ full k ∨ ey = -1 ∧ endQ full k = 0)) →
    (∀ (j : Nat) (r : Reg), k ≤ j → full[j]? = some r → 0 ≤ r.fp ∧ r.fp ≤ r.tp ∧ r.tp ≤ p.size ∧ 0 ≤ r.fq ∧ r.fq ≤ r.tq ∧ r.tq ≤ q.size ∧ (endP full j : Int) ≤ r.fp ∧ (endQ full j : Int) ≤ r.fq ∧ p.extract (endP full j) r.fp.toNat = q.extract (endQ full j) r.fq.toNat) ∧
    (p.extract (endP full (k + l.length)) p.size = q.extract (endQ full (k + l.length)) q.size) ∧ (∀ (j : Nat) (r s : Reg), k ≤ j → full[j]? = some r → full[j + 1]? = some s → r.tp < s.fp) ∧ (∀ (r : Reg), l.head? = some r → ex < r.fp)
  | [], k, ex, ey, hd, hm, hc, hx => by
    have hlen : full.length ≤ k := by
      have := congrArg List.length hd
      simp at this; omega
    refine ⟨fun j r hj hr => ?_, ?_, fun j r s hj hr _ => ?_, by simp⟩
    · rw [List.getElem?_eq_none (by omega)] at hr; cases hr
    · simpa using of_decide_eq_true hc
    · rw [List.getElem?_eq_none (by omega)] at hr; cases hr
  | r :: l, k, ex, ey, hd, hm, hc, hx => by
    have hk : full[k]? = some r := by
      have := congrArg (fun x => x[0]?) hd
      simpa [List.getElem?_drop] using this
    have hd' : full.drop (k + 1) = l := by
      rw [← List.drop_drop, hd]; rfl
    have hm' : ((decide (ex < r.fp) && withinB r.fp r.tp p.size && decide (ey < r.fq) && withinB r.fq r.tq q.size) && may p.size q.size r.tp r.tq l) = true := hm
    simp only [Bool.and_eq_true, decide_eq_true_eq, withinB] at hm'
    obtain ⟨⟨⟨⟨s1, s2, s3, s4⟩, s5⟩, s6, s7, s8⟩, s9⟩ := hm'
    have hc' : (decide (p.extract (endP full k) r.fp.toNat = q.extract (endQ full k) r.fq.toNat) && corr p q r.tp.toNat r.tq.toNat l) = true := hc
    simp only [Bool.and_eq_true, decide_eq_true_eq] at hc'
    have eP : endP full (k + 1) = r.tp.toNat := by
      show (match full[k]? with | some r => r.tp.toNat | none => 0) = _
      rw [hk]
    have eQ : endQ full (k + 1) = r.tq.toNat := by
      show (match full[k]? with | some r => r.tq.toNat | none => 0) = _
      rw [hk]
    obtain ⟨i1, i2, i3, i4⟩ := steps_from p q full l (k + 1) r.tp r.tq hd' s9 (by rw [eP, eQ]; exact hc'.2) (by rw [eP, eQ]; exact ⟨.inl (by omega), .inl (by omega)⟩)
    refine ⟨fun j s hj hs => ?_, ?_, fun j s t hj hs ht => ?_, fun s hs => ?_⟩
    · rcases Nat.eq_or_lt_of_le hj with h | h
      · subst h
        rw [hk] at hs
        cases hs
        exact ⟨s2, s3, s4, s6, s7, s8, by omega, by omega, hc'.1⟩
      · exact i1 j s (by omega) hs
    · rw [List.length_cons, show k + (l.length + 1) = k + 1 + l.length by omega]
      exact i2
    · rcases Nat.eq_or_lt_of_le hj with h | h
      · subst h
        rw [hk] at hs
        cases hs
        refine i4 t ?_
        rw [← hd', List.head?_drop]
        exact ht
      · exact i3 j s t (by omega) hs ht
    · simp only [List.head?_cons, Option.some.injEq] at hs
      subst hs
      exact s1
theorem chk_steps (p q : ByteArray) (l : List Reg) (h : chk p q l = 0) : Steps p q l := by
  unfold chk at h
  by_cases hm : may p.size q.size (-1) (-1) l = true
  · rw [if_pos hm] at h
    by_cases hc : corr p q 0 0 l = true
    · obtain ⟨h1, h2, h3, _⟩ := steps_from p q l l 0 (-1) (-1) rfl hm hc ⟨.inr ⟨rfl, rfl⟩, .inr ⟨rfl, rfl⟩⟩
      rw [Nat.zero_add] at h2
      exact ⟨fun k r hr => h1 k r (Nat.zero_le _) hr, h2, fun k r s hr hs => h3 k r s (Nat.zero_le _) hr hs⟩
    · rw [if_neg hc] at h; omega
  · rw [if_neg hm] at h; omega
theorem steps_ok {p q : ByteArray} {l : List Reg} (h : Steps p q l) : edsOk q l = true := by
  unfold edsOk
  rw [List.all_eq_true]
  intro r hr
  obtain ⟨k, hk⟩ := List.mem_iff_getElem?.1 hr
  obtain ⟨_, _, _, h4, h5, h6, _⟩ := h.each k r hk
  exact decide_eq_true ⟨h4, h5, h6⟩

/-- Regions that may be, one by one. -/
def OkP (n : Nat) (l : List Reg) : Prop := ∀ (k : Nat) (r : Reg), l[k]? = some r → (endP l k : Int) ≤ r.fp ∧ 0 ≤ r.fp ∧ r.fp ≤ r.tp ∧ r.tp ≤ n
def OkQ (n : Nat) (l : List Reg) : Prop := ∀ (k : Nat) (r : Reg), l[k]? = some r → (endQ l k : Int) ≤ r.fq ∧ 0 ≤ r.fq ∧ r.fq ≤ r.tq ∧ r.tq ≤ n
theorem may_from (np nq : Nat) (full : List Reg) : ∀ (l : List Reg) (k : Nat) (ex ey : Int), full.drop k = l → may np nq ex ey l = true →
    ((ex = endP full k ∨ ex = -1 ∧ endP full k = 0) ∧ (ey = endQ full k ∨ ey = -1 ∧ endQ full k = 0)) →
    (∀ (j : Nat) (r : Reg), k ≤ j → full[j]? = some r → ((endP full j : Int) ≤ r.fp ∧ 0 ≤ r.fp ∧ r.fp ≤ r.tp ∧ r.tp ≤ np) ∧ ((endQ full j : Int) ≤ r.fq ∧ 0 ≤ r.fq ∧ r.fq ≤ r.tq ∧ r.tq ≤ nq))
  | [], k, ex, ey, hd, hm, hx => by
    have hlen : full.length ≤ k := by
      have := congrArg List.length hd
      simp at this; omega
    intro j r hj hr
    rw [List.getElem?_eq_none (by omega)] at hr; cases hr
  | r :: l, k, ex, ey, hd, hm, hx => by
    have hk : full[k]? = some r := by
      have := congrArg (fun x => x[0]?) hd
      simpa [List.getElem?_drop] using this
    have hd' : full.drop (k + 1) = l := by
      rw [← List.drop_drop, hd]; rfl
    have hm' : ((decide (ex < r.fp) && withinB r.fp r.tp np && decide (ey < r.fq) && withinB r.fq r.tq nq) && may np nq r.tp r.tq l) = true := hm
    simp only [Bool.and_eq_true, decide_eq_true_eq, withinB] at hm'
    obtain ⟨⟨⟨⟨s1, s2, s3, s4⟩, s5⟩, s6, s7, s8⟩, s9⟩ := hm'
    have eP : endP full (k + 1) = r.tp.toNat := by
      show (match full[k]? with | some r => r.tp.toNat | none => 0) = _
      rw [hk]
    have eQ : endQ full (k + 1) = r.tq.toNat := by
      show (match full[k]? with | some r => r.tq.toNat | none => 0) = _
      rw [hk]
    have ih := may_from np nq full l (k + 1) r.tp r.tq hd' s9 (by rw [eP, eQ]; exact ⟨.inl (by omega), .inl (by omega)⟩)
    intro j s hj hs
    rcases Nat.eq_or_lt_of_le hj with h | h
    · subst h
      rw [hk] at hs
      cases hs
      exact ⟨⟨by omega, s2, s3, s4⟩, by omega, s6, s7, s8⟩
    · exact ih j s (by omega) hs
theorem may_ok (np nq : Nat) (l : List Reg) (h : may np nq (-1) (-1) l = true) : OkP np l ∧ OkQ nq l := by
  have := may_from np nq l l 0 (-1) (-1) rfl h ⟨.inr ⟨rfl, rfl⟩, .inr ⟨rfl, rfl⟩⟩
  exact ⟨fun k r hr => (this k r (Nat.zero_le _) hr).1, fun k r hr => (this k r (Nat.zero_le _) hr).2⟩
theorem endP_zero (l : List Reg) : endP l 0 = 0 := by cases l <;> rfl
theorem endQ_zero (l : List Reg) : endQ l 0 = 0 := by cases l <;> rfl
theorem endP_le {n : Nat} {l : List Reg} (h : OkP n l) (k : Nat) : endP l k ≤ n := by
  cases k with
  | zero => rw [endP_zero]; omega
  | succ k =>
    show (match l[k]? with | some r => r.tp.toNat | none => 0) ≤ n
    cases hr : l[k]? with
    | none => exact Nat.zero_le _
    | some r => have := h k r hr; show r.tp.toNat ≤ n; omega
theorem endQ_le {n : Nat} {l : List Reg} (h : OkQ n l) (k : Nat) : endQ l k ≤ n := by
  cases k with
  | zero => rw [endQ_zero]; omega
  | succ k =>
    show (match l[k]? with | some r => r.tq.toNat | none => 0) ≤ n
    cases hr : l[k]? with
    | none => exact Nat.zero_le _
    | some r => have := h k r hr; show r.tq.toNat ≤ n; omega
theorem endP_succ {l : List Reg} {k : Nat} {r : Reg} (hr : l[k]? = some r) : endP l (k + 1) = r.tp.toNat := by
  show (match l[k]? with | some r => r.tp.toNat | none => 0) = _
  rw [hr]
theorem endQ_succ {l : List Reg} {k : Nat} {r : Reg} (hr : l[k]? = some r) : endQ l (k + 1) = r.tq.toNat := by
  show (match l[k]? with | some r => r.tq.toNat | none => 0) = _
  rw [hr]
theorem restP_step {t : ByteArray} {l : List Reg} {k : Nat} {r : Reg} (hr : l[k]? = some r) : restP t (endP l k) (l.drop k) = t.extract (endP l k) r.fp.toNat :: restP t (endP l (k + 1)) (l.drop (k + 1)) := by
  obtain ⟨hk, he⟩ := List.getElem?_eq_some_iff.1 hr
  rw [List.drop_eq_getElem_cons hk, he, endP_succ hr]
  rfl
theorem restQ_step {t : ByteArray} {l : List Reg} {k : Nat} {r : Reg} (hr : l[k]? = some r) : restQ t (endQ l k) (l.drop k) = t.extract (endQ l k) r.fq.toNat :: restQ t (endQ l (k + 1)) (l.drop (k + 1)) := by
  obtain ⟨hk, he⟩ := List.getElem?_eq_some_iff.1 hr
  rw [List.drop_eq_getElem_cons hk, he, endQ_succ hr]
  rfl
end Go.Proofs.Ytcncfljpbbpaoaa.rg
