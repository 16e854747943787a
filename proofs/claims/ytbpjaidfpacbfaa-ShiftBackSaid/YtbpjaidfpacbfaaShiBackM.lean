/-
  Layer 14: up and down again (pure), and whether a number is wild.
-/
import Derived.Test.YtbpjaidfpacbfaaShiMenTop
namespace Go.Proofs.Ytbpjaidfpacbfaa.te
open Go.ChangeShapes Go.WideShapes Go.ChangeAt Go.RowKit
open bs tr
set_option linter.unusedVariables false

/-- Is a local's number beyond 2^40? -/
noncomputable def wi (t : VT) : Bool := Tr.fold (fun x _ bs => decide (x.k = 7 ∧ 1099511627776 < x.n) || bs.any id) t
theorem wi_mk (x : Lab) (l : List VT) : wi (.mk x l) = (decide (x.k = 7 ∧ 1099511627776 < x.n) || (l.map wi).any id) := by
  unfold wi; rw [Tr.fold_mk]
theorem wi_out {x : Lab} {l : List VT} (h : wi (.mk x l) = false) : (x.k = 7 → x.n ≤ 1099511627776) ∧ ∀ y ∈ l, wi y = false := by
  rw [wi_mk, Bool.or_eq_false_iff, decide_eq_false_iff_not, List.any_eq_false] at h
  refine ⟨fun hk => ?_, fun y hy => ?_⟩
  · have := h.1; omega
  · have := h.2 (wi y) (List.mem_map.2 ⟨y, hy, rfl⟩)
    simpa using this

theorem sh_lab (by' fr : Int) (t : VT) (d : Int) : (sh by' fr t d).lab.k = t.lab.k := by
  cases t with
  | mk x l =>
    rw [sh_mk]
    split
    · show (mv by' fr x d).k = x.k
      unfold mv
      split <;> rfl
    · rfl
theorem sh_kids_len (by' fr : Int) (t : VT) (d : Int) : (sh by' fr t d).kids.length = t.kids.length := by
  cases t with
  | mk x l =>
    rw [sh_mk]
    split
    · rfl
    · exact kidS_len by' fr x l d
theorem brB_sh (by' fr : Int) (t : VT) (d : Int) : brB (sh by' fr t d) = brB t := by unfold brB; rw [sh_lab]

/-- Two lists of terms alike in what In asks. -/
structure Al (l l' : List VT) : Prop where
  len : l'.length = l.length
  br : l'.map brB = l.map brB
  fst : fst l' = fst l
theorem filter_len (f : VT → Bool) (l : List VT) : (l.filter f).length = ((l.map f).filter id).length := by
  induction l with
  | nil => rfl
  | cons x l ih =>
    by_cases h : f x = true
    · simp [h, ih]
    · simp [h, ih]
theorem inn_al {l l' : List VT} (x x' : Lab) (hx : x'.k = x.k) (h : Al l l') (i : Int) : inn x' l' i = inn x l i := by
  have hb : ∀ k, brC l' k = brC l k := fun k => by
    unfold brC
    rw [filter_len, filter_len, List.map_take, List.map_take, h.br]
  unfold inn
  rw [h.len, h.fst, hb, hx]
theorem al_kidS (by' fr : Int) (x : Lab) (l : List VT) (d : Int) : Al l (kidS by' fr x l d) := by
  refine ⟨kidS_len _ _ _ _ _, ?_, ?_⟩
  · apply List.ext_getElem?
    intro i
    unfold kidS
    rw [List.getElem?_map, List.getElem?_map, List.getElem?_mapIdx]
    cases l[i]? with
    | none => rfl
    | some y => simp [brB_sh]
  · cases l with
    | nil => rfl
    | cons y l =>
      show fst (kidS by' fr x (y :: l) d) = y.kids.length
      unfold kidS
      rw [List.mapIdx_cons]
      show (sh by' fr y _).kids.length = _
      rw [sh_kids_len]

theorem kidS_get (by' fr : Int) (x : Lab) (l : List VT) (d : Int) (i : Nat) : (kidS by' fr x l d)[i]? = l[i]?.map (fun y => sh by' fr y (d + (inn x l i : Nat))) := by
  unfold kidS; rw [List.getElem?_mapIdx]
theorem size_sh (by' fr : Int) (t : VT) : ∀ d, Tr.size (sh by' fr t d) = Tr.size t := by
  induction t using Tr.ind with
  | h x l ih =>
    intro d
    rw [sh_mk]
    split
    · rw [Tr.size_mk, Tr.size_mk]
    · rw [Tr.size_mk, Tr.size_mk]
      congr 2
      apply List.ext_getElem?
      intro i
      rw [List.getElem?_map, List.getElem?_map, kidS_get]
      cases hy : l[i]? with
      | none => rfl
      | some y =>
        simp only [Option.map_some]
        rw [ih y (List.mem_of_getElem? hy)]

/-- Up and down again: the term, nothing lost, and none between. -/
theorem back {by' fr : Int} (b0 : 0 ≤ by') (b1 : by' ≤ 100) (f0 : 0 ≤ fr) (t : VT) : ∀ d, 0 ≤ d → wi t = false → sh (-by') fr (sh by' fr t d) d = t ∧ lo (-by') fr (sh by' fr t d) d = false ∧ (0 < by' → tm.lo 0 fr (sh by' fr t d) d = false) := by
  induction t using Tr.ind with
  | h x l ih =>
    intro d hd hw
    obtain ⟨hn, hl⟩ := wi_out hw
    rw [sh_mk]
    by_cases hk : x.k = 7
    · rw [if_pos hk]
      have hn := hn hk
      by_cases hf : fr ≤ outr x.n d
      · have hmv : mv by' fr x d = ⟨x.k, x.n + by', x.s, x.f, x.t⟩ := by
          unfold mv
          rw [if_pos ⟨hk, hf⟩]
          have hnd : ¬ x.n < d := fun h => by unfold outr at hf; rw [if_pos h] at hf; omega
          rw [IntWalk.i64_in _ (by omega)]
        have hnd : ¬ x.n < d := fun h => by unfold outr at hf; rw [if_pos h] at hf; omega
        have ho : outr x.n d = x.n - d := by unfold outr; rw [if_neg hnd]
        have ho2 : outr (x.n + by') d = x.n + by' - d := by unfold outr; rw [if_neg (by omega)]
        rw [hmv]
        refine ⟨?_, ?_, fun hb => ?_⟩
        · rw [sh_mk, if_pos hk]
          unfold mv
          dsimp only
          rw [ho2, if_pos ⟨hk, by omega⟩, IntWalk.i64_in _ (by omega), show x.n + by' + -by' = x.n by omega]
        · rw [lo_mk, if_pos hk]
          unfold ls
          dsimp only
          rw [ho2, decide_eq_false_iff_not]
          omega
        · rw [tm.lo_mk, if_pos hk]
          unfold tm.ls
          dsimp only
          rw [ho2, decide_eq_false_iff_not]
          omega
      · have hmv : mv by' fr x d = x := by unfold mv; rw [if_neg (fun h => hf h.2)]
        rw [hmv]
        refine ⟨?_, ?_, fun hb => ?_⟩
        · rw [sh_mk, if_pos hk]
          unfold mv
          rw [if_neg (fun h => hf h.2)]
        · rw [lo_mk, if_pos hk]
          unfold ls
          rw [decide_eq_false_iff_not]
          omega
        · rw [tm.lo_mk, if_pos hk]
          unfold tm.ls
          rw [decide_eq_false_iff_not]
          omega
    · rw [if_neg hk]
      have hin : ∀ i, inn x (kidS by' fr x l d) i = inn x l i := fun i => inn_al x x rfl (al_kidS by' fr x l d) i
      refine ⟨?_, ?_, fun hb => ?_⟩
      · rw [sh_mk, if_neg hk]
        congr 1
        apply List.ext_getElem?
        intro i
        show (List.mapIdx _ _)[i]? = _
        rw [List.getElem?_mapIdx, kidS_get]
        cases hy : l[i]? with
        | none => rfl
        | some y =>
          rw [hin]
          simp only [Option.map_some]
          rw [(ih y (List.mem_of_getElem? hy) _ (by omega) (hl y (List.mem_of_getElem? hy))).1]
      · rw [lo_mk, if_neg hk, List.any_eq_false]
        intro b hb
        obtain ⟨i, hi⟩ := List.getElem?_of_mem hb
        unfold kidL at hi
        rw [List.getElem?_mapIdx, kidS_get] at hi
        cases hy : l[i]? with
        | none => rw [hy] at hi; cases hi
        | some y =>
          rw [hy, hin] at hi
          simp only [Option.map_some, Option.some.injEq] at hi
          rw [(ih y (List.mem_of_getElem? hy) _ (by omega) (hl y (List.mem_of_getElem? hy))).2.1] at hi
          rw [← hi]; simp
      · rw [tm.lo_mk, if_neg hk, List.any_eq_false]
        intro b hb'
        obtain ⟨i, hi⟩ := List.getElem?_of_mem hb'
        unfold tm.kidL at hi
        rw [List.getElem?_mapIdx, kidS_get] at hi
        cases hy : l[i]? with
        | none => rw [hy] at hi; cases hi
        | some y =>
          rw [hy, hin] at hi
          simp only [Option.map_some, Option.some.injEq] at hi
          rw [(ih y (List.mem_of_getElem? hy) _ (by omega) (hl y (List.mem_of_getElem? hy))).2.2 hb] at hi
          rw [← hi]; simp
end Go.Proofs.Ytbpjaidfpacbfaa.te
