import Derived.Test.YthcnligihpnfiaaGreatDoorPkV18
import Derived.Test.YthcnligihpnfiaaGreatDoorPkV15
import Derived.Test.YthcnligihpnfiaaGreatDoorPkV17
import Derived.Shelf.Strconv.Itoa0
import Derived.Shelf.Strconv.Itoa1
import Derived.Shelf.LaysM
import Derived.Shelf.Strconv.Itoa2
import Derived.Shelf.Strconv.Itoa3
import Derived.Shelf.Strconv.Itoa4
import Derived.Shelf.Strconv.ParseIntEmpty
import Derived.Shelf.Strconv.Clone
import Derived.Shelf.Strconv.SyntaxError
import Derived.Shelf.LaysC
import Derived.Shelf.Strconv.ToError
import Derived.Shelf.Strconv.Lower
import Derived.Shelf.Strconv.ParseUint10
import Derived.Shelf.Strconv.ParseUint10Empty
import Derived.Shelf.Strconv.ParseUint10Any
import Derived.Shelf.Strconv.ParseInt10
import Derived.Shelf.Strconv.RangeError
import Derived.Shelf.Strconv.ToErrorRange
import Derived.Shelf.Strconv.ParseUintEmpty
import Derived.Shelf.Strconv.ParseUint10b64
import Derived.Shelf.Strconv.ParseUint10b32
import Derived.Shelf.Strconv.ParseUint10b16
import Derived.Shelf.Strconv.ParseUint10b8
import Derived.Shelf.Strconv.ParseUint10At
import Derived.Shelf.Strconv.ParseInt10At64
import Derived.Shelf.Strconv.ParseInt10At32
import Derived.Shelf.Strconv.ParseInt10At16
import Derived.Shelf.Strconv.ParseInt10At8
import Derived.Shelf.Strconv.ParseInt10All
import Derived.Shelf.Strconv.ParseIntPublic10
import Derived.Shelf.Strconv.ErrVarParseInt
import Derived.Test.YthcnligihpnfiaaGreatDoorProg
section
namespace Go.Proofs.YthcnligihpnfiaaGreatDoor.vt
open Go.Proofs.YthcnligihpnfiaaGreatDoor.am
set_option linter.unusedVariables false
theorem else_no {w : ByteArray} {x : Tok} (hw : w ≠ wElse) (h : isK w x = true) : isK wElse x = false := by
  unfold isK at h ⊢
  simp at h
  rw [h.2]
  simp
  exact fun _ hh => hw hh
theorem end_else (s : ByteArray) : isK wElse (enT s) = false := by
  unfold isK
  rcases quo_34 wElse with h | h <;> rw [h] <;> rfl
theorem mvK_else (d : Int) (x : Tok) : isK wElse (mvK d x) = isK wElse x := rfl
theorem decl_first {ts : List Tok} {i : Nat} (h : (declG ts i).2.2 = 0) : isK wElse (nxt ts i) = false := by
  unfold declG at h
  by_cases c1 : isK wConst (nxt ts i) = true
  · exact else_no (by decide) c1
  rw [if_neg c1] at h
  by_cases c2 : isK wVar (nxt ts i) = true
  · exact else_no (by decide) c2
  rw [if_neg c2] at h
  by_cases c3 : isK wPub (nxt ts i) = true
  · exact else_no (by decide) c3
  rw [if_neg c3] at h
  by_cases c4 : isK wFn (nxt ts i) = true
  · exact else_no (by decide) c4
  rw [if_neg c4] at h
  by_cases c5 : isK wRec (nxt ts i) = true
  · exact else_no (by decide) c5
  rw [if_neg c5] at h
  exact absurd h (by simp [bad7])
section
variable {a b ab : ByteArray} {ta tb all : List Tok} {d : Int} (ha : TokOk a ta) (hb : TokOk b tb) (hj : all = ta.take (ta.length - 1) ++ (tb.take (tb.length - 1)).map (mvK d) ++ [enT ab])
include ha hb hj
theorem jl_len : all.length = ta.length - 1 + (tb.length - 1) + 1 := by
  have := (tok_len ha).1
  have := (tok_len hb).1
  rw [hj]
  simp only [List.length_append, List.length_map, List.length_take, List.length_cons, List.length_nil]
  omega
omit ha hb in
theorem jl_a (j : Nat) (h : j < ta.length - 1) : nxt all j = nxt ta j := by
  have h1 : all[j]? = ta[j]? := by
    rw [hj, List.append_assoc, List.getElem?_append_left (by rw [List.length_take]; omega), List.getElem?_take, if_pos h]
  unfold nxt
  rw [h1]
omit ha hb in
theorem jl_b (j : Nat) (h : j < tb.length - 1) : nxt all (ta.length - 1 + j) = mvK d (nxt tb j) := by
  have hx : tb[j]? = some tb[j] := List.getElem?_eq_getElem (by omega)
  have h1 : all[ta.length - 1 + j]? = some (mvK d tb[j]) := by
    have e1 : (ta.take (ta.length - 1)).length = ta.length - 1 := by rw [List.length_take]; omega
    rw [hj, List.getElem?_append_left (by simp only [List.length_append, List.length_map, List.length_take]; omega), List.getElem?_append_right (by rw [e1]; omega), e1, show ta.length - 1 + j - (ta.length - 1) = j by omega, List.getElem?_map, List.getElem?_take, if_pos h, hx]
    rfl
  rw [nxt_some h1, nxt_some hx]
omit ha hb in
theorem jl_e : nxt all (ta.length - 1 + (tb.length - 1)) = enT ab := by
  refine nxt_some ?_
  have e1 : (ta.take (ta.length - 1) ++ (tb.take (tb.length - 1)).map (mvK d)).length = ta.length - 1 + (tb.length - 1) := by
    simp only [List.length_append, List.length_map, List.length_take]; omega
  rw [hj, List.getElem?_append_right (by rw [e1]; omega), e1, Nat.sub_self]
  rfl
theorem like_a : LikeM ta all 0 0 (ta.length - 1) := ⟨fun j h => by rw [Nat.zero_add, jl_a hj j h]; unfold mvK; simp, by omega, by rw [jl_len ha hb hj]; omega⟩
theorem like_b : LikeM tb all (ta.length - 1) d (tb.length - 1) := ⟨fun j h => jl_b hj j h, by omega, by rw [jl_len ha hb hj]; omega⟩
theorem join_a (hf : 1 < tb.length → isK wElse (nxt tb 0) = false) : ∀ (m m' i : Nat) (acc : List VT), i + 1 ≤ ta.length → all.length < m' + i → (lpU ta m i acc).2.2 = 0 → ∃ m'', all.length < m'' + (ta.length - 1) ∧ lpU all m' i acc = lpU all m'' (ta.length - 1) (lpU ta m i acc).1
  | 0, m', i, acc, hi, hm, h => by rw [lpU] at h; exact absurd h (by simp)
  | m + 1, m', i, acc, hi, hm, h => by
    have hal := jl_len ha hb hj
    rw [lpU] at h ⊢
    by_cases c : ta.length ≤ i + 1
    · rw [if_pos c]
      have e : i = ta.length - 1 := by omega
      exact ⟨m', by omega, by rw [e]⟩
    rw [if_neg c] at h ⊢
    by_cases c2 : (declG ta i).2.2 ≠ 0
    · rw [if_pos c2] at h; exact absurd h c2
    rw [if_neg c2] at h ⊢
    have c2' : (declG ta i).2.2 = 0 := by simpa using c2
    have hah := decl_ahead ha hi
    have hy := (decl_oks (ts := ta) i (by omega)).ok.yes c2'
    obtain ⟨m', rfl⟩ : ∃ q, m' = q + 1 := ⟨m' - 1, by omega⟩
    have hel : isK wElse (nxt all (0 + (ta.length - 1))) = isK wElse (nxt ta (ta.length - 1)) := by
      rw [tok_last ha, end_else, Nat.zero_add]
      rcases Nat.lt_or_ge 1 tb.length with h1 | h1
      · have := jl_b hj 0 (by omega)
        rw [Nat.add_zero] at this
        rw [this, mvK_else]
        exact hf h1
      · have := jl_e hj
        rw [show tb.length - 1 = 0 by omega, Nat.add_zero] at this
        rw [this]
        exact end_else ab
    have e := decl_m (like_a ha hb hj) hel i (by omega) c2' (by omega)
    rw [Nat.zero_add] at e
    have e : declG all i = declG ta i := by
      rw [e]; unfold shd; rw [mvT_zero, Nat.zero_add]
    rw [lpU, if_neg (by omega), e, if_neg c2]
    exact join_a hf m m' _ _ hah (by omega) h
theorem join_b (acc0 : List VT) : ∀ (m m' i : Nat) (acc : List VT), i + 1 ≤ tb.length → all.length < m' + (ta.length - 1 + i) → (lpU tb m i acc).2.2 = 0 → lpU all m' (ta.length - 1 + i) (acc0 ++ acc.map (mvT d)) = (acc0 ++ (lpU tb m i acc).1.map (mvT d), all.length - 1, 0)
  | 0, m', i, acc, hi, hm, h => by rw [lpU] at h; exact absurd h (by simp)
  | m + 1, m', i, acc, hi, hm, h => by
    have hal := jl_len ha hb hj
    have hla := (tok_len ha).1
    obtain ⟨m', rfl⟩ : ∃ q, m' = q + 1 := ⟨m' - 1, by omega⟩
    rw [lpU] at h
    rw [lpU, lpU]
    by_cases c : tb.length ≤ i + 1
    · rw [if_pos c, if_pos (by omega)]
      have : ta.length - 1 + i = all.length - 1 := by omega
      rw [this]
    rw [if_neg c] at h ⊢
    by_cases c2 : (declG tb i).2.2 ≠ 0
    · rw [if_pos c2] at h; exact absurd h c2
    rw [if_neg c2] at h ⊢
    have c2' : (declG tb i).2.2 = 0 := by simpa using c2
    have hah := decl_ahead hb hi
    have hy := (decl_oks (ts := tb) i (by omega)).ok.yes c2'
    have hel : isK wElse (nxt all (ta.length - 1 + (tb.length - 1))) = isK wElse (nxt tb (tb.length - 1)) := by
      rw [tok_last hb, end_else, jl_e hj, end_else]
    have e := decl_m (like_b ha hb hj) hel i (by omega) c2' (by omega)
    rw [if_neg (by omega), e, if_neg (show ¬ (shd (ta.length - 1) d (declG tb i)).2.2 ≠ 0 from c2)]
    have hmap : acc0 ++ acc.map (mvT d) ++ [(shd (ta.length - 1) d (declG tb i)).1] = acc0 ++ (acc ++ [(declG tb i).1]).map (mvT d) := by
      rw [List.map_append, List.append_assoc]; rfl
    rw [hmap]
    exact join_b acc0 m m' _ _ hah (by show all.length < m' + (ta.length - 1 + (declG tb i).2.1); omega) h
theorem lpU_join (h1 : (lpU ta (ta.length + 1) 0 []).2.2 = 0) (h2 : (lpU tb (tb.length + 1) 0 []).2.2 = 0) : lpU all (all.length + 1) 0 [] = ((lpU ta (ta.length + 1) 0 []).1 ++ (lpU tb (tb.length + 1) 0 []).1.map (mvT d), all.length - 1, 0) := by
  have hla := (tok_len ha).1
  have hlb := (tok_len hb).1
  obtain ⟨m'', h3, h4⟩ := join_a ha hb hj (fun hh => by
    rw [lpU, if_neg (by omega)] at h2
    by_cases c : (declG tb 0).2.2 ≠ 0
    · rw [if_pos c] at h2; exact absurd h2 c
    · exact decl_first (by simpa using c)) (ta.length + 1) (all.length + 1) 0 [] (by omega) (by omega) h1
  rw [h4]
  have := join_b ha hb hj (lpU ta (ta.length + 1) 0 []).1 (tb.length + 1) m'' 0 [] (by omega) (by omega) h2
  rw [Nat.add_zero, List.map_nil, List.append_nil] at this
  exact this
end
theorem dpt_mvT (d : Int) (t : VT) : dpt (mvT d t) = dpt t := by
  induction t using Tr.ind with
  | h x l ih =>
    rw [mvT_mk, dpt_mk, dpt_mk, List.map_map]
    congr 2
    exact List.map_congr_left (fun y hy => ih y hy)
theorem foldl_max_app (l m : List Nat) (c : Nat) : (l ++ m).foldl max c = max (l.foldl max c) (m.foldl max c) := by
  have le : ∀ (l : List Nat) (c : Nat), c ≤ l.foldl max c := by
    intro l
    induction l with
    | nil => intro c; exact Nat.le_refl _
    | cons x l ih => intro c; exact Nat.le_trans (Nat.le_max_left _ _) (ih _)
  have mo : ∀ (m : List Nat) (c e : Nat), m.foldl max (max c e) = max e (m.foldl max c) := by
    intro m
    induction m with
    | nil => intro c e; exact Nat.max_comm _ _
    | cons x m ih => intro c e; rw [List.foldl_cons, List.foldl_cons, ← ih, Nat.max_assoc, Nat.max_comm e x, ← Nat.max_assoc]
  rw [List.foldl_append]
  have := mo m c (l.foldl max c)
  rw [Nat.max_eq_right (le l c)] at this
  exact this
theorem dpt_join (s t u : ByteArray) (la lb : List VT) (d : Int) : dpt (modT u (la ++ lb.map (mvT d))) = max (dpt (modT s la)) (dpt (modT t lb)) := by
  unfold modT
  rw [dpt_mk, dpt_mk, dpt_mk, List.map_append, List.map_map, foldl_max_app]
  have : lb.map (dpt ∘ mvT d) = lb.map dpt := List.map_congr_left (fun y _ => dpt_mvT d y)
  rw [this, Nat.succ_max_succ]
theorem unit_yes {s : ByteArray} (h : (unitG s).2.2 = 0) : (tokG s).2.2 = 0 ∧ (lpU (tokG s).1 ((tokG s).1.length + 1) 0 []).2.2 = 0 ∧ (lpU (tokG s).1 ((tokG s).1.length + 1) 0 []).1.length ≤ 64 ∧ dpt (modT s (lpU (tokG s).1 ((tokG s).1.length + 1) 0 []).1) ≤ 64 ∧ unitG s = (modT s (lpU (tokG s).1 ((tokG s).1.length + 1) 0 []).1, 0, 0) := by
  unfold unitG at h ⊢
  by_cases h0 : (tokG s).2.2 ≠ 0
  · rw [if_pos h0] at h; exact absurd h h0
  rw [if_neg h0] at h ⊢
  unfold modG at h ⊢
  by_cases h1 : (lpU (tokG s).1 ((tokG s).1.length + 1) 0 []).2.2 ≠ 0
  · rw [if_pos h1] at h; exact absurd h h1
  rw [if_neg h1] at h ⊢
  by_cases h2 : 64 < (lpU (tokG s).1 ((tokG s).1.length + 1) 0 []).1.length
  · rw [if_pos h2] at h; exact absurd h (by simp)
  rw [if_neg h2] at h ⊢
  by_cases h3 : 64 < dpt (modT s (lpU (tokG s).1 ((tokG s).1.length + 1) 0 []).1)
  · rw [if_pos h3] at h; exact absurd h (by simp)
  rw [if_neg h3]
  exact ⟨by simpa using h0, by simpa using h1, by omega, by omega, rfl⟩
theorem unit_join {a b ab : ByteArray} {d : Int} (h1 : (unitG a).2.2 = 0) (h2 : (unitG b).2.2 = 0) (hT : tokG ab = ((tokG a).1.take ((tokG a).1.length - 1) ++ ((tokG b).1.take ((tokG b).1.length - 1)).map (mvK d) ++ [enT ab], 0, 0)) (h64 : (unitG a).1.kids.length + (unitG b).1.kids.length ≤ 64) : unitG ab = (modT ab ((unitG a).1.kids ++ (unitG b).1.kids.map (mvT d)), 0, 0) := by
  obtain ⟨a1, a2, a3, a4, a5⟩ := unit_yes h1
  obtain ⟨b1, b2, b3, b4, b5⟩ := unit_yes h2
  rw [a5, b5] at h64 ⊢
  have h64 : (lpU (tokG a).1 ((tokG a).1.length + 1) 0 []).1.length + (lpU (tokG b).1 ((tokG b).1.length + 1) 0 []).1.length ≤ 64 := h64
  show unitG ab = (modT ab ((lpU (tokG a).1 ((tokG a).1.length + 1) 0 []).1 ++ (lpU (tokG b).1 ((tokG b).1.length + 1) 0 []).1.map (mvT d)), 0, 0)
  have hl := lpU_join (tok_ok a1) (tok_ok b1) (all := (tokG ab).1) (d := d) (ab := ab) (by rw [hT]) a2 b2
  unfold unitG
  rw [if_neg (by rw [hT]; simp)]
  unfold modG
  rw [hl]
  dsimp only
  rw [if_neg (by simp), if_neg (by rw [List.length_append, List.length_map]; omega), if_neg (by rw [dpt_join a b]; omega)]
end Go.Proofs.YthcnligihpnfiaaGreatDoor.vt
end
section
namespace Go.Proofs.YthcnligihpnfiaaGreatDoor.lx
open Go.ChangeShapes Go.WideShapes Go.ChangeAt Go.RowKit
open bs
set_option linter.unusedVariables false
theorem txt_cat (a b : ByteArray) : txt (a ++ b) = txt a ++ txt b := by
  unfold txt
  rw [ByteArray.data_append, Array.toList_append, List.map_append]
theorem any_eq {α : Type} {f g : α → Bool} : ∀ (l : List α), (∀ x ∈ l, f x = g x) → l.any f = l.any g
  | [], _ => rfl
  | x :: l, h => by rw [List.any_cons, List.any_cons, h x (by simp), any_eq l (fun y hy => h y (by simp [hy]))]
structure Pre (a t : ByteArray) : Prop where
  size : a.size < t.size
  b : ∀ i, i < a.size → B t i = B a i
  nl : B t a.size = 10
  ex : ∀ i j, j ≤ a.size → t.extract i j = a.extract i j
theorem pre_of (a r : ByteArray) (hr : 0 < r.size) (h10 : B r 0 = 10) : Pre a (a ++ r) := by
  refine ⟨by rw [ByteArray.size_append]; omega, fun i hi => ?_, ?_, fun i j hj => ?_⟩
  · unfold B
    rw [txt_cat, List.getD_eq_getElem?_getD, List.getD_eq_getElem?_getD, List.getElem?_append_left (by rw [txt_len]; exact hi)]
  · unfold B at h10 ⊢
    rw [txt_cat, List.getD_eq_getElem?_getD, List.getElem?_append_right (by rw [txt_len]; exact Nat.le_refl _), txt_len, Nat.sub_self, ← List.getD_eq_getElem?_getD]
    exact h10
  · apply txt_inj
    rw [txt_cut, txt_cut, txt_cat]
    have hl := txt_len a
    rcases Nat.lt_or_ge i j with h | h
    · rw [List.drop_append_of_le_length (by omega), List.take_append_of_le_length (by rw [List.length_drop]; omega)]
    · rw [show j - i = 0 by omega, List.take_zero, List.take_zero]
section
variable {a t : ByteArray} (h : Pre a t)
include h
theorem pre_run {p : Int → Bool} (hp : p 10 = false) {i : Nat} (hi : i ≤ a.size) : run p t i = run p a i := by
  have hb := run_bd p a i hi
  have hs := h.size
  refine run_eq hb.1 (by omega) (fun j h1 h2 => ?_) (.inr ?_)
  · rw [h.b j (by omega)]; exact run_all h1 h2
  · rcases Nat.lt_or_ge (run p a i) a.size with h1 | h1
    · rw [h.b _ h1]; exact run_stop hi h1
    · rw [show run p a i = a.size by omega, h.nl]; exact hp
theorem pre_at {w : ByteArray} (hw : ∀ j, j < w.size → B w j ≠ 10) {i : Nat} (hi : i < a.size) : at' t i w = at' a i w := by
  have hs := h.size
  rcases Nat.lt_or_ge a.size (i + w.size) with h1 | h1
  · have e1 : at' a i w = false := decide_eq_false (fun x => by omega)
    rw [e1]
    cases e : at' t i w with
    | false => rfl
    | true =>
      have := at_byte e (j := a.size - i) (by omega)
      rw [show i + (a.size - i) = a.size by omega, h.nl] at this
      exact absurd this (hw _ (by omega))
  · unfold at'
    rw [h.ex i (i + w.size) h1]
    have e1 : (i + w.size ≤ t.size) = True := eq_true (by omega)
    have e2 : (i + w.size ≤ a.size) = True := eq_true h1
    simp only [e1, e2]
theorem pre_sg {i : Nat} (hi : i < a.size) : sgN t i = sgN a i := by
  have e1 : twoL.any (fun l => at' t i (mkB l)) = twoL.any (fun l => at' a i (mkB l)) := any_eq _ (fun l hl => by
    refine pre_at h (fun j hj => ?_) hi
    simp only [twoL, List.mem_cons, List.not_mem_nil, or_false] at hl
    rcases hl with rfl | rfl | rfl | rfl | rfl | rfl <;> (rcases j with _ | _ | j <;> first | decide | (exact absurd hj (by rw [mk_size]; simp))))
  unfold sgN
  rw [e1, h.b i hi]
theorem pre_on {i : Nat} (hi : i < a.size) (h0 : (on a i).2 = 0) : on t i = on a i := by
  have hs := h.size
  have hN := pre_run h (p := isN) (by decide) (Nat.le_of_lt hi)
  have hD := pre_run h (p := isD) (by decide) (Nat.le_of_lt hi)
  have bN := run_bd isN a i (Nat.le_of_lt hi)
  have bD := run_bd isD a i (Nat.le_of_lt hi)
  have hb := h.b i hi
  have hto := on_to hi h0
  unfold on at h0 ⊢
  rw [hN, hD, hb, pre_sg h hi, h.ex i (run isN a i) bN.2, h.ex i (run isD a i) bD.2]
  by_cases c1 : isL (B a i) = true
  · rw [if_pos c1, if_pos c1]
  rw [if_neg c1] at h0 ⊢
  rw [if_neg c1]
  by_cases c2 : isD (B a i) = true
  · rw [if_pos c2, if_pos c2]
  rw [if_neg c2] at h0 ⊢
  rw [if_neg c2]
  by_cases c3 : sgN a i = 0
  · rw [if_pos c3, if_pos c3]
  rw [if_neg c3, if_neg c3]
  rw [tk_sign (by simpa using c1) (by simpa using c2) c3] at hto
  obtain ⟨_, j, h4, h5, h6⟩ := hto
  have h4 : ((i + sgN a i : Nat) : Int) = (j : Int) := h4
  rw [h.ex i (i + sgN a i) (by omega)]
theorem pre_nx : ∀ n i, a.size - i ≤ n → i ≤ a.size → (nx a i < a.size → nx t i = nx a i) ∧ (a.size ≤ nx a i → nx t i = nx t a.size) := by
  have hs := h.size
  intro n
  induction n with
  | zero =>
    intro i h1 h2
    have e : i = a.size := by omega
    subst e
    exact ⟨fun h3 => by rw [nx_end (Nat.le_refl _)] at h3; omega, fun _ => rfl⟩
  | succ n ih =>
    intro i h1 h2
    rcases Nat.lt_or_ge i a.size with hi | hi
    · have hb := h.b i hi
      rcases Bool.eq_false_or_eq_true (isB (B a i)) with c | c
      · rw [nx_blank hi c, nx_blank (s := t) (by omega) (by rw [hb]; exact c)]
        exact ih (i + 1) (by omega) (by omega)
      · have hcc := pre_at h (w := cc) (fun j hj => by rcases j with _ | _ | j <;> first | decide | (exact absurd hj (by show ¬ (j + 1 + 1 < 2); omega))) hi
        rcases Bool.eq_false_or_eq_true (at' a i cc) with c2 | c2
        · have hr := cc_run c2
          have hb2 := run_bd isC a i h2
          rw [nx_comment hi c c2, nx_comment (s := t) (by omega) (by rw [hb]; exact c) (by rw [hcc]; exact c2), pre_run h (p := isC) (by decide) h2]
          exact ih (run isC a i) (by omega) hb2.2
        · rw [nx_stop c c2, nx_stop (s := t) (by rw [hb]; exact c) (by rw [hcc]; exact c2)]
          exact ⟨fun _ => rfl, fun h3 => by omega⟩
    · have e : i = a.size := by omega
      subst e
      exact ⟨fun h3 => by rw [nx_end (Nat.le_refl _)] at h3; omega, fun _ => rfl⟩
theorem pre_toks : ∀ n i (L : List Tk), a.size - i ≤ n → i ≤ a.size → (toks a i).2.2 = 0 → ∃ M, (toks a i).1 = M ++ [tkEnd a] ∧ app L (toks t i) = app (L ++ M) (toks t a.size) := by
  have hs := h.size
  intro n
  induction n with
  | zero =>
    intro i L h1 h2 h3
    have e : i = a.size := by omega
    subst e
    refine ⟨[], ?_, by rw [List.append_nil]⟩
    rw [toks, dif_neg (by rw [nx_end (Nat.le_refl _)]; omega)]
    rfl
  | succ n ih =>
    intro i L h1 h2 h3
    have hnx := pre_nx h (a.size - i) i (Nat.le_refl _) h2
    rcases Nat.lt_or_ge (nx a i) a.size with c | c
    · have e := hnx.1 c
      rw [toks, dif_pos ⟨c, h2⟩] at h3
      rw [toks, dif_pos ⟨c, h2⟩]
      by_cases c2 : (on a (nx a i)).2 = 0; rotate_left
      · rw [dif_neg c2] at h3; exact absurd h3 c2
      rw [dif_pos c2] at h3 ⊢
      simp only at h3 ⊢
      have ho := pre_on h c c2
      obtain ⟨_, j, h4, h5, h6⟩ := on_to c c2
      have hle := (nx_le h2).1
      rw [h4] at h3 ⊢
      rw [show ((j : Int)).toNat = j from rfl] at h3 ⊢
      have h3' : (toks a j).2.2 = 0 := by
        by_cases c3 : (toks a j).2.2 = 0
        · exact c3
        · rw [if_neg c3] at h3; exact h3
      rw [if_pos h3']
      obtain ⟨M, m1, m2⟩ := ih j (L ++ [(on a (nx a i)).1]) (by omega) h6 h3'
      refine ⟨(on a (nx a i)).1 :: M, by rw [m1]; rfl, ?_⟩
      rw [app_step (s := t) (by rw [e]; omega) (by omega) (by rw [e, ho]; exact c2), e, ho, h4]
      rw [show ((j : Int)).toNat = j from rfl, m2, List.append_assoc]
      rfl
    · have e := hnx.2 c
      refine ⟨[], ?_, ?_⟩
      · rw [toks, dif_neg (by omega)]; rfl
      · rw [List.append_nil, ← toks_nx (s := t) (i := i) (by omega), e, toks_nx (by omega)]
end
structure Suf (n : Nat) (b t : ByteArray) : Prop where
  size : t.size = n + b.size
  bt : ∀ i, B t (n + i) = B b i
  ex : ∀ i j, t.extract (n + i) (n + j) = b.extract i j
theorem suf_of (l b : ByteArray) : Suf l.size b (l ++ b) := by
  refine ⟨ByteArray.size_append, fun i => ?_, fun i j => ?_⟩
  · unfold B
    rw [txt_cat, List.getD_eq_getElem?_getD, List.getD_eq_getElem?_getD, List.getElem?_append_right (by rw [txt_len]; omega), txt_len, show l.size + i - l.size = i by omega]
  · apply txt_inj
    have hl := txt_len l
    rw [txt_cut, txt_cut, txt_cat, show l.size + i = (txt l).length + i by omega, List.drop_append, show l.size + j - ((txt l).length + i) = j - i by omega]
    rw [List.drop_of_length_le (by omega), List.nil_append, show (txt l).length + i - (txt l).length = i by omega]
def mvE (n : Nat) (x : Tk) : Tk := ⟨x.k, x.n, x.s, x.f + n, x.t + n⟩
section
variable {n : Nat} {b t : ByteArray} (h : Suf n b t)
include h
theorem suf_run {p : Int → Bool} {i : Nat} (hi : i ≤ b.size) : run p t (n + i) = n + run p b i := by
  have hb := run_bd p b i hi
  have hs := h.size
  refine run_eq (by omega) (by omega) (fun j h1 h2 => ?_) ?_
  · rw [show j = n + (j - n) by omega, h.bt]; exact run_all (show i ≤ j - n by omega) (by omega)
  · rcases Nat.lt_or_ge (run p b i) b.size with h1 | h1
    · right; rw [h.bt]; exact run_stop hi h1
    · left; omega
theorem suf_at {w : ByteArray} {i : Nat} : at' t (n + i) w = at' b i w := by
  have hs := h.size
  unfold at'
  rw [Nat.add_assoc, h.ex]
  have e1 : (n + (i + w.size) ≤ t.size) = (i + w.size ≤ b.size) := by rw [hs]; exact propext ⟨fun x => by omega, fun x => by omega⟩
  simp only [e1]
theorem suf_sg {i : Nat} : sgN t (n + i) = sgN b i := by
  have e1 : twoL.any (fun l => at' t (n + i) (mkB l)) = twoL.any (fun l => at' b i (mkB l)) := any_eq _ (fun l _ => suf_at h)
  unfold sgN
  rw [e1, h.bt i]
theorem suf_on {i : Nat} (hi : i < b.size) (h0 : (on b i).2 = 0) : on t (n + i) = (mvE n (on b i).1, 0) := by
  have hN := suf_run h (p := isN) (Nat.le_of_lt hi)
  have hD := suf_run h (p := isD) (Nat.le_of_lt hi)
  have bN := run_bd isN b i (Nat.le_of_lt hi)
  have hb := h.bt i
  unfold on at h0 ⊢
  rw [hN, hD, hb, suf_sg h, h.ex, h.ex, Nat.add_assoc, h.ex, show n + run isN b i - (n + i) = run isN b i - i by omega]
  by_cases c1 : isL (B b i) = true
  · rw [if_pos c1] at h0 ⊢
    rw [if_pos c1]
    by_cases c : 16 < run isN b i - i
    · rw [if_pos c] at h0; exact absurd h0 (by decide)
    rw [if_neg c, if_neg c]
    unfold mvE
    simp only [Prod.mk.injEq, and_true, Tk.mk.injEq, true_and]
    constructor <;> omega
  rw [if_neg c1] at h0 ⊢
  rw [if_neg c1]
  by_cases c2 : isD (B b i) = true
  · rw [if_pos c2] at h0 ⊢
    rw [if_pos c2]
    cases hn : num (b.extract i (run isD b i)) with
    | none => rw [hn] at h0; exact absurd (show (5 : Int) = 0 from h0) (by decide)
    | some v =>
      unfold mvE
      simp only [Prod.mk.injEq, and_true, Tk.mk.injEq, true_and]
      constructor <;> omega
  rw [if_neg c2] at h0 ⊢
  rw [if_neg c2]
  by_cases c3 : sgN b i = 0
  · rw [if_pos c3] at h0; exact absurd h0 (by decide)
  rw [if_neg c3, if_neg c3]
  unfold mvE
  simp only [Prod.mk.injEq, and_true, Tk.mk.injEq, true_and]
  constructor <;> omega
theorem suf_nx : ∀ m i, b.size - i ≤ m → i ≤ b.size → nx t (n + i) = n + nx b i := by
  have hs := h.size
  intro m
  induction m with
  | zero =>
    intro i h1 h2
    rw [nx_end (s := b) (by omega), nx_end (by omega)]
  | succ m ih =>
    intro i h1 h2
    rcases Nat.lt_or_ge i b.size with hi | hi
    · have hb := h.bt i
      rcases Bool.eq_false_or_eq_true (isB (B b i)) with c | c
      · rw [nx_blank hi c, nx_blank (s := t) (by omega) (by rw [hb]; exact c), Nat.add_assoc]
        exact ih (i + 1) (by omega) (by omega)
      · have hcc := suf_at h (w := cc) (i := i)
        rcases Bool.eq_false_or_eq_true (at' b i cc) with c2 | c2
        · have hr := cc_run c2
          have hb2 := run_bd isC b i h2
          rw [nx_comment hi c c2, nx_comment (s := t) (by omega) (by rw [hb]; exact c) (by rw [hcc]; exact c2), suf_run h h2]
          exact ih (run isC b i) (by omega) hb2.2
        · rw [nx_stop c c2, nx_stop (s := t) (by rw [hb]; exact c) (by rw [hcc]; exact c2)]
    · rw [nx_end (s := b) hi, nx_end (by omega)]
theorem suf_toks : ∀ m i (L : List Tk), b.size - i ≤ m → i ≤ b.size → (toks b i).2.2 = 0 → ∃ M, (toks b i).1 = M ++ [tkEnd b] ∧ app L (toks t (n + i)) = (L ++ M.map (mvE n) ++ [tkEnd t], 0, 0) := by
  have hs := h.size
  intro m
  induction m with
  | zero =>
    intro i L h1 h2 h3
    refine ⟨[], ?_, ?_⟩
    · rw [toks, dif_neg (by rw [nx_end (by omega)]; omega)]; rfl
    · rw [app_end (by rw [nx_end (by omega)]; omega), List.map_nil, List.append_nil]
  | succ m ih =>
    intro i L h1 h2 h3
    have e := suf_nx h (b.size - i) i (Nat.le_refl _) h2
    rcases Nat.lt_or_ge (nx b i) b.size with c | c
    · rw [toks, dif_pos ⟨c, h2⟩] at h3
      rw [toks, dif_pos ⟨c, h2⟩]
      by_cases c2 : (on b (nx b i)).2 = 0; rotate_left
      · rw [dif_neg c2] at h3; exact absurd h3 c2
      rw [dif_pos c2] at h3 ⊢
      simp only at h3 ⊢
      have ho := suf_on h c c2
      obtain ⟨_, j, h4, h5, h6⟩ := on_to c c2
      have hle := (nx_le h2).1
      rw [h4] at h3 ⊢
      rw [show ((j : Int)).toNat = j from rfl] at h3 ⊢
      have h3' : (toks b j).2.2 = 0 := by
        by_cases c3 : (toks b j).2.2 = 0
        · exact c3
        · rw [if_neg c3] at h3; exact h3
      rw [if_pos h3']
      obtain ⟨M, m1, m2⟩ := ih j (L ++ [mvE n (on b (nx b i)).1]) (by omega) h6 h3'
      refine ⟨(on b (nx b i)).1 :: M, by rw [m1]; rfl, ?_⟩
      have hj : (mvE n (on b (nx b i)).1).t.toNat = n + j := by
        show ((on b (nx b i)).1.t + (n : Int)).toNat = n + j
        rw [h4]; omega
      rw [app_step (s := t) (by rw [e]; omega) (by omega) (by rw [e, ho]), e, ho]
      rw [hj, m2, List.map_cons, List.append_assoc, List.append_assoc, List.append_assoc]
      rfl
    · refine ⟨[], ?_, ?_⟩
      · rw [toks, dif_neg (by omega)]; rfl
      · rw [app_end (by rw [e]; omega), List.map_nil, List.append_nil]
end
def nlB : ByteArray := ⟨#[10]⟩
theorem toks_cat (a b : ByteArray) (ha : (toks a 0).2.2 = 0) (hb : (toks b 0).2.2 = 0) : ∃ M K, (toks a 0).1 = M ++ [tkEnd a] ∧ (toks b 0).1 = K ++ [tkEnd b] ∧ toks (a ++ nlB ++ b) 0 = (M ++ K.map (mvE (a.size + 1)) ++ [tkEnd (a ++ nlB ++ b)], 0, 0) := by
  have hp : Pre a (a ++ nlB ++ b) := by
    have e : a ++ nlB ++ b = a ++ (nlB ++ b) := ByteArray.append_assoc
    rw [e]
    refine pre_of a (nlB ++ b) (by rw [ByteArray.size_append]; show 0 < 1 + b.size; omega) ?_
    unfold B
    rw [txt_cat]
    rfl
  have hn : (a ++ nlB).size = a.size + 1 := ByteArray.size_append
  have hq := suf_of (a ++ nlB) b
  rw [hn] at hq
  obtain ⟨t, ht⟩ : ∃ t, a ++ nlB ++ b = t := ⟨_, rfl⟩
  rw [ht] at hp hq ⊢
  have hs := hp.size
  obtain ⟨M, m1, m2⟩ := pre_toks hp a.size 0 [] (by omega) (Nat.zero_le _) ha
  obtain ⟨K, k1, k2⟩ := suf_toks hq b.size 0 M (by omega) (Nat.zero_le _) hb
  refine ⟨M, K, m1, k1, ?_⟩
  rw [app_nil, List.nil_append] at m2
  rw [m2]
  have e : toks t a.size = toks t (a.size + 1) := by
    have hz := hq.size
    rw [← toks_nx (s := t) (i := a.size) (by omega), nx_blank hs (by rw [hp.nl]; decide), toks_nx (by omega)]
  rw [e]
  exact k2
end Go.Proofs.YthcnligihpnfiaaGreatDoor.lx
end
section
namespace Go.Proofs.YthcnligihpnfiaaGreatDoor.am
open Go.ChangeShapes Go.WideShapes Go.ChangeAt Go.RowKit
open vt
set_option linter.unusedVariables false
set_option linter.unusedSimpArgs false
def Sm (x : Lab) : Prop := 0 ≤ x.f ∧ x.f ≤ 100000 ∧ 0 ≤ x.t ∧ x.t ≤ 100000
theorem wi_sm {t : VT} (h : Wi t) : 0 ≤ t.lab.f → t.lab.f ≤ t.lab.t → t.lab.t ≤ 100000 → Tr.all Sm t := by
  induction h with
  | mk x l hc hl ih =>
    intro h1 h2 h3
    have h1 : 0 ≤ x.f := h1
    have h2 : x.f ≤ x.t := h2
    have h3 : x.t ≤ 100000 := h3
    refine (Tr.all_mk _ _ _).2 ⟨⟨h1, by omega, by omega, h3⟩, fun y hy => ?_⟩
    have key : ∀ (l : List VT) (lo hi : Int), ChL lo hi l → 0 ≤ lo → hi ≤ 100000 → ∀ y ∈ l, 0 ≤ y.lab.f ∧ y.lab.f ≤ y.lab.t ∧ y.lab.t ≤ 100000 := by
      intro l
      induction l with
      | nil => intro lo hi _ _ _ y hy; cases hy
      | cons z l ihl =>
        intro lo hi hcl h5 h6 y hy
        obtain ⟨c1, c2, c3⟩ := hcl
        have c4 := chl_le c3
        rcases List.mem_cons.1 hy with rfl | hy
        · exact ⟨by omega, c2, by omega⟩
        · exact ihl _ _ c3 (by omega) h6 y hy
    have k := key l x.f x.t hc h1 h3 y hy
    exact ih y hy k.1 k.2.1 k.2.2
noncomputable def mvL (d : Int) (l : List VT) (k : Nat) : List VT := (l.take k).map (mvT d)
theorem mvL_len {d : Int} {l : List VT} {k : Nat} (h : k ≤ l.length) : (mvL d l k).length = k := by unfold mvL; rw [List.length_map, List.length_take]; omega
theorem mvL_succ {d : Int} {l : List VT} {k : Nat} {y : VT} (h : l[k]? = some y) : mvL d l (k + 1) = mvL d l k ++ [mvT d y] := by
  unfold mvL
  rw [List.take_add_one, h, List.map_append]
  rfl
theorem mvL_all {d : Int} {l : List VT} : mvL d l l.length = l.map (mvT d) := by unfold mvL; rw [List.take_length]
set_option maxRecDepth 100000 in
set_option maxHeartbeats 4000000 in
theorem rmoved_row (d : Nat) (hd : d ≤ 100000) (t : VT) : t.size ≤ 1000000 → Tr.all Sm t → Row Tryz.prog 12 [vT t, vI d] [] (vT (mvT d t)) [] := by
  induction t using Tr.ind with
  | h x l ih =>
  intro hs ha
  obtain ⟨⟨a1, a2, a3, a4⟩, ha⟩ := (Tr.all_mk _ _ _).1 ha
  have hlen : l.length ≤ 1000000 := by have := Tr.len_size (x := x) (l := l); omega
  have w1 : IntKind.i64.wrap (x.f + (d : Nat)) = x.f + (d : Nat) := i64i _ (by omega) (by omega)
  have w2 : IntKind.i64.wrap (x.t + (d : Nat)) = x.t + (d : Nat) := i64i _ (by omega) (by omega)
  rw [mvT_mk, ← mvL_all]
  have h0 : mvL d l 0 = [] := rfl
  refine row_of Tryz.func12 rfl rfl (Nat.le_of_ble_eq_true rfl) ?_
  repeat (first | refine aw_seq ?_ | refine aw_skip ?_ | refine aw_block ?_ | refine aw_exit ?_ | refine aw_cond rfl (fun _ => ?_) (fun hb => absurd hb (by decide)) | refine aw_cond rfl (fun hb => absurd hb (by decide)) (fun _ => ?_) | (refine aw_reg (fun K hK => ?_); simp -implicitDefEqProofs; refine hK _ ?_) | (refine aw_drw mixd (fun K hK => ?_); simp -implicitDefEqProofs; refine hK _ _ (by rfl) ?_) | fail)
  refine aw_lp (ι := Nat) (fun k => mkSt [(1, vI d), (2, .v (.c (.ptr 0 0))), (4, .v (.c (.ptr 1 0))), (5, .v (.c (.row 2 6 ((mvL d l k).map tc)))), (6, vI (k : Nat))] [some (.box ((tc (.mk x l)).map .pv)), some zTb, some (.row 25 6)]) (fun k => k ≤ l.length) (fun k => l.length - k) 0 (Nat.zero_le _) (cov_intro [0, 1, 2] (by simp -implicitDefEqProofs [h0]) (by simp -implicitDefEqProofs [h0]) (by decide) rfl (by simp)) (fun Z hI k hk => ?_)
  clear h0
  by_cases hkl : k < l.length; rotate_left
  · have : k = l.length := by omega
    subst this
    repeat (first | refine aw_seq ?_ | refine aw_skip ?_ | refine aw_block ?_ | refine aw_exit ?_ | refine aw_cond rfl (fun _ => ?_) (fun hb => absurd hb (by decide)) | refine aw_cond rfl (fun hb => absurd hb (by decide)) (fun _ => ?_) | (refine aw_reg (fun K hK => ?_); simp -implicitDefEqProofs [hkl, w1, w2]; refine hK _ ?_) | (refine aw_drw mixd (fun K hK => ?_); simp -implicitDefEqProofs [hkl, w1, w2]; refine hK _ _ (by rfl) ?_) | fail)
    refine aw_ret (fin_ret ?_); simp -implicitDefEqProofs [FinP, resV, resT] <;> try rfl
  obtain ⟨y, hy⟩ : ∃ y, l[k]? = some y := ⟨_, List.getElem?_eq_getElem hkl⟩
  have hy' := (List.getElem?_eq_some_iff.1 hy).2
  have hm := List.mem_of_getElem? hy
  have hq := ih y hm (by have := Tr.size_at (x := x) hy; omega) (ha y hm)
  have hn := mvL_succ (d := d) hy
  have hll := mvL_len (d := (d : Int)) (l := l) hk
  obtain ⟨⟨mx, ml⟩, hmv⟩ : ∃ r, mvT d y = r := ⟨_, rfl⟩
  rw [hmv] at hq hn
  obtain ⟨⟨yk, yn, ys, yf, yt⟩, yl⟩ := y
  have w3 : IntKind.i64.wrap ((k : Nat) + 1 : Int) = (k : Nat) + 1 := i64i _ (by omega) (by omega)
  have b1 : (k + 1) * 72 ≤ 140737488355328 := by omega
  have b2 : k + 1 ≤ 140737488355328 := by omega
  clear ih hm hmv ha
  repeat' (first | refine aw_seq ?_ | refine aw_skip ?_ | refine aw_block ?_ | refine aw_exit ?_ | refine aw_cond rfl (fun _ => ?_) (fun hb => absurd hb (by decide)) | refine aw_cond rfl (fun hb => absurd hb (by decide)) (fun _ => ?_) | (refine aw_reg (fun K hK => ?_); simp -implicitDefEqProofs [hkl, hy, hy', w3, hll, b1, b2]) | (refine aw_drw mixd (fun K hK => ?_); simp -implicitDefEqProofs [hkl, hy, hy', w3, hll, b1, b2]) | refine hK _ ?_ | refine hK _ _ (by rfl) ?_ | (refine ar_call (cp hq ?_); simp -implicitDefEqProofs [hkl, hy, hy', w3, hll, b1, b2]) | (refine ard_call (dp hq ?_); simp -implicitDefEqProofs [hkl, hy, hy', w3, hll, b1, b2]) | fail)
  refine ⟨k + 1, by omega, (by dsimp only; omega), ?_⟩; rw [hI]; exact cov_intro [0, 1, 24] (by simp -implicitDefEqProofs [hn]) (by simp -implicitDefEqProofs [hn]) (by decide) rfl (by simp)
theorem tok_join {a b : ByteArray} (ha : a.size ≤ 1000) (hb : b.size ≤ 1000) (h1 : (tokG a).2.2 = 0) (h2 : (tokG b).2.2 = 0) : tokG (a ++ lx.nlB ++ b) = ((tokG a).1.take ((tokG a).1.length - 1) ++ ((tokG b).1.take ((tokG b).1.length - 1)).map (mvK (a.size + 1 : Nat)) ++ [enT (a ++ lx.nlB ++ b)], 0, 0) := by
  have ea : lx.tokens a = lx.toks a 0 := if_neg (by omega)
  have eb : lx.tokens b = lx.toks b 0 := if_neg (by omega)
  have hsz : (a ++ lx.nlB ++ b).size = a.size + 1 + b.size := by rw [ByteArray.size_append, ByteArray.size_append]; rfl
  have et : lx.tokens (a ++ lx.nlB ++ b) = lx.toks (a ++ lx.nlB ++ b) 0 := if_neg (by omega)
  unfold tokG at h1 h2 ⊢
  rw [ea] at h1 ⊢
  rw [eb] at h2 ⊢
  rw [et]
  obtain ⟨M, K, m1, k1, h3⟩ := lx.toks_cat a b h1 h2
  rw [h3, m1, k1]
  have e : ∀ (L : List lx.Tk) (x : lx.Tk), ((L ++ [x]).map tkT).take (((L ++ [x]).map tkT).length - 1) = L.map tkT := fun L x => by
    rw [List.map_append, List.length_append, List.length_map, List.map_cons, List.map_nil, List.length_singleton, Nat.add_sub_cancel, List.take_append_of_le_length (by rw [List.length_map]; exact Nat.le_refl _), List.take_of_length_le (by rw [List.length_map]; exact Nat.le_refl _)]
  dsimp only
  rw [e, e, List.map_append, List.map_append, List.map_map, List.map_map]
  rfl
end Go.Proofs.YthcnligihpnfiaaGreatDoor.am
end
section
namespace Go.Proofs.YthcnligihpnfiaaGreatDoor.am
open Go.ChangeShapes Go.WideShapes Go.ChangeAt Go.RowKit
open vt
set_option linter.unusedVariables false
set_option linter.unusedSimpArgs false
set_option maxRecDepth 100000 in
set_option maxHeartbeats 4000000 in
theorem law_ujoins_row {L : List (Nat × Array Value)} (hT : TkL L) (a b : ByteArray) (ha47 : a.size ≤ 9223372036854775807) (hb47 : b.size ≤ 9223372036854775807) : Row Tryz.prog 4 [vS a, vS b] [.lib L] (vB true) [some (.lib L)] := by
  have haw := awake09_row hT
  by_cases la : 1000 < a.size
  · have la' : (1000 : Int) < a.size := by omega
    refine row_of Tryz.func4 rfl rfl (Nat.le_of_ble_eq_true rfl) ?_
    repeat' (first | refine aw_seq ?_ | refine aw_skip ?_ | refine aw_block ?_ | refine aw_exit ?_ | refine aw_cond rfl (fun _ => ?_) (fun hb => absurd hb (by decide)) | refine aw_cond rfl (fun hb => absurd hb (by decide)) (fun _ => ?_) | (refine aw_reg (fun K hK => ?_); simp -implicitDefEqProofs [la, la']) | (refine aw_drw mixd (fun K hK => ?_); simp -implicitDefEqProofs [la, la']) | refine hK _ ?_ | refine hK _ _ (by rfl) ?_ | (refine ar_call (cb haw 0 ?_); simp -implicitDefEqProofs [la, la']) | (refine ard_call (db haw 0 ?_); simp -implicitDefEqProofs [la, la']) | fail)
    refine aw_ret (fin_box ?_); simp -implicitDefEqProofs [FinB, resV, resT] <;> try rfl
  have la' : ¬ (1000 : Int) < a.size := by omega
  by_cases lb : 1000 < b.size
  · have lb' : (1000 : Int) < b.size := by omega
    refine row_of Tryz.func4 rfl rfl (Nat.le_of_ble_eq_true rfl) ?_
    repeat' (first | refine aw_seq ?_ | refine aw_skip ?_ | refine aw_block ?_ | refine aw_exit ?_ | refine aw_cond rfl (fun _ => ?_) (fun hb => absurd hb (by decide)) | refine aw_cond rfl (fun hb => absurd hb (by decide)) (fun _ => ?_) | (refine aw_reg (fun K hK => ?_); simp -implicitDefEqProofs [la, la', lb, lb']) | (refine aw_drw mixd (fun K hK => ?_); simp -implicitDefEqProofs [la, la', lb, lb']) | refine hK _ ?_ | refine hK _ _ (by rfl) ?_ | (refine ar_call (cb haw 0 ?_); simp -implicitDefEqProofs [la, la', lb, lb']) | (refine ard_call (db haw 0 ?_); simp -implicitDefEqProofs [la, la', lb, lb']) | fail)
    refine aw_ret (fin_box ?_); simp -implicitDefEqProofs [FinB, resV, resT] <;> try rfl
  have lb' : ¬ (1000 : Int) < b.size := by omega
  have p1 := uparse_row L a (by omega) (hT a ha47)
  have p2 := uparse_row L b (by omega) (hT b hb47)
  by_cases h1 : (unitG a).2.2 = 0; rotate_left
  · obtain ⟨⟨⟨ux, ul⟩, up, ue⟩, hu⟩ : ∃ r, unitG a = r := ⟨_, rfl⟩
    obtain ⟨⟨⟨vx, vl⟩, vp, ve⟩, hv⟩ : ∃ r, unitG b = r := ⟨_, rfl⟩
    rw [hu] at p1 h1
    rw [hv] at p2
    dsimp only at h1
    clear hu hv
    refine row_of Tryz.func4 rfl rfl (Nat.le_of_ble_eq_true rfl) ?_
    repeat' (first | refine aw_seq ?_ | refine aw_skip ?_ | refine aw_block ?_ | refine aw_exit ?_ | refine aw_cond rfl (fun _ => ?_) (fun hb => absurd hb (by decide)) | refine aw_cond rfl (fun hb => absurd hb (by decide)) (fun _ => ?_) | (refine aw_reg (fun K hK => ?_); simp -implicitDefEqProofs [la, la', lb, lb', h1]) | (refine aw_drw mixd (fun K hK => ?_); simp -implicitDefEqProofs [la, la', lb, lb', h1]) | refine hK _ ?_ | refine hK _ _ (by rfl) ?_ | (refine ar_call (cb p1 0 ?_); simp -implicitDefEqProofs [la, la', lb, lb', h1]) | (refine ard_call (db p1 0 ?_); simp -implicitDefEqProofs [la, la', lb, lb', h1]) | (refine ar_call (cb p2 0 ?_); simp -implicitDefEqProofs [la, la', lb, lb', h1]) | (refine ard_call (db p2 0 ?_); simp -implicitDefEqProofs [la, la', lb, lb', h1]) | (refine ar_call (cb haw 0 ?_); simp -implicitDefEqProofs [la, la', lb, lb', h1]) | (refine ard_call (db haw 0 ?_); simp -implicitDefEqProofs [la, la', lb, lb', h1]) | fail)
    refine aw_ret (fin_box ?_); simp -implicitDefEqProofs [FinB, resV, resT] <;> try rfl
  by_cases h2 : (unitG b).2.2 = 0; rotate_left
  · obtain ⟨⟨⟨ux, ul⟩, up, ue⟩, hu⟩ : ∃ r, unitG a = r := ⟨_, rfl⟩
    obtain ⟨⟨⟨vx, vl⟩, vp, ve⟩, hv⟩ : ∃ r, unitG b = r := ⟨_, rfl⟩
    rw [hu] at p1 h1
    rw [hv] at p2 h2
    dsimp only at h1 h2
    subst h1
    clear hu hv
    refine row_of Tryz.func4 rfl rfl (Nat.le_of_ble_eq_true rfl) ?_
    repeat' (first | refine aw_seq ?_ | refine aw_skip ?_ | refine aw_block ?_ | refine aw_exit ?_ | refine aw_cond rfl (fun _ => ?_) (fun hb => absurd hb (by decide)) | refine aw_cond rfl (fun hb => absurd hb (by decide)) (fun _ => ?_) | (refine aw_reg (fun K hK => ?_); simp -implicitDefEqProofs [la, la', lb, lb', h2]) | (refine aw_drw mixd (fun K hK => ?_); simp -implicitDefEqProofs [la, la', lb, lb', h2]) | refine hK _ ?_ | refine hK _ _ (by rfl) ?_ | (refine ar_call (cb p1 0 ?_); simp -implicitDefEqProofs [la, la', lb, lb', h2]) | (refine ard_call (db p1 0 ?_); simp -implicitDefEqProofs [la, la', lb, lb', h2]) | (refine ar_call (cb p2 0 ?_); simp -implicitDefEqProofs [la, la', lb, lb', h2]) | (refine ard_call (db p2 0 ?_); simp -implicitDefEqProofs [la, la', lb, lb', h2]) | (refine ar_call (cb haw 0 ?_); simp -implicitDefEqProofs [la, la', lb, lb', h2]) | (refine ard_call (db haw 0 ?_); simp -implicitDefEqProofs [la, la', lb, lb', h2]) | fail)
    refine aw_ret (fin_box ?_); simp -implicitDefEqProofs [FinB, resV, resT] <;> try rfl
  obtain ⟨a1, a2, a3, a4, a5⟩ := unit_yes h1
  obtain ⟨b1, b2, b3, b4, b5⟩ := unit_yes h2
  have hj := unit_join (ab := a ++ lx.nlB ++ b) (d := (a.size + 1 : Nat)) h1 h2 (tok_join (by omega) (by omega) a1 b1)
  have za := unit_sz a (by omega)
  have zb := unit_sz b (by omega)
  have wb := unit_wi b h2
  rw [a5] at p1 za hj
  rw [b5] at p2 zb hj wb
  obtain ⟨ma, hma⟩ : ∃ l, (lpU (tokG a).1 ((tokG a).1.length + 1) 0 []).1 = l := ⟨_, rfl⟩
  obtain ⟨mb, hmb⟩ : ∃ l, (lpU (tokG b).1 ((tokG b).1.length + 1) 0 []).1 = l := ⟨_, rfl⟩
  rw [hma] at p1 za hj a3
  rw [hmb] at p2 zb hj wb b3
  clear a1 a2 a4 a5 b1 b2 b4 b5 hma hmb h1 h2
  unfold modT at p1 p2 za zb hj wb
  dsimp only [Tr.kids] at hj
  have ws : IntKind.i64.wrap ((ma.length : Int) + mb.length) = (ma.length : Int) + mb.length := i64i _ (by omega) (by omega)
  by_cases h64 : ma.length + mb.length ≤ 64; rotate_left
  · have h64' : (64 : Int) < (ma.length : Int) + mb.length := by omega
    clear hj wb za zb
    refine row_of Tryz.func4 rfl rfl (Nat.le_of_ble_eq_true rfl) ?_
    repeat' (first | refine aw_seq ?_ | refine aw_skip ?_ | refine aw_block ?_ | refine aw_exit ?_ | refine aw_cond rfl (fun _ => ?_) (fun hb => absurd hb (by decide)) | refine aw_cond rfl (fun hb => absurd hb (by decide)) (fun _ => ?_) | (refine aw_reg (fun K hK => ?_); simp -implicitDefEqProofs [la, la', lb, lb', ws, h64']) | (refine aw_drw mixd (fun K hK => ?_); simp -implicitDefEqProofs [la, la', lb, lb', ws, h64']) | refine hK _ ?_ | refine hK _ _ (by rfl) ?_ | (refine ar_call (cb p1 0 ?_); simp -implicitDefEqProofs [la, la', lb, lb', ws, h64']) | (refine ard_call (db p1 0 ?_); simp -implicitDefEqProofs [la, la', lb, lb', ws, h64']) | (refine ar_call (cb p2 0 ?_); simp -implicitDefEqProofs [la, la', lb, lb', ws, h64']) | (refine ard_call (db p2 0 ?_); simp -implicitDefEqProofs [la, la', lb, lb', ws, h64']) | (refine ar_call (cb haw 0 ?_); simp -implicitDefEqProofs [la, la', lb, lb', ws, h64']) | (refine ard_call (db haw 0 ?_); simp -implicitDefEqProofs [la, la', lb, lb', ws, h64']) | fail)
    refine aw_ret (fin_box ?_); simp -implicitDefEqProofs [FinB, resV, resT] <;> try rfl
  have h64' : ¬ (64 : Int) < (ma.length : Int) + mb.length := by omega
  have hj := hj h64
  have hsz : (a ++ lx.nlB ++ b).size = a.size + 1 + b.size := by rw [ByteArray.size_append, ByteArray.size_append]; rfl
  have p3 := uparse_row L (a ++ lx.nlB ++ b) (by omega) (hT _ (by omega))
  have zc := unit_sz (a ++ lx.nlB ++ b) (by omega)
  rw [hj] at p3 zc
  have hwm := wi_sm wb.1 (by rw [wb.2.1]; exact Int.le_refl _) (by rw [wb.2.1, wb.2.2]; omega) (by rw [wb.2.2]; omega)
  have hsm := ((Tr.all_mk _ _ _).1 hwm).2
  clear hj wb hwm
  obtain ⟨D, hD⟩ : ∃ D, a.size + 1 = D := ⟨_, rfl⟩
  rw [hD] at p3 zc
  have wD : IntKind.i64.wrap ((a.size : Int) + 1) = (D : Nat) := by rw [i64i _ (by omega) (by omega)]; omega
  have hzl : (ma ++ mb.map (mvT D)).length = ma.length + mb.length := by simp
  have hza : ∀ i, i < ma.length → (ma ++ mb.map (mvT D))[i]? = ma[i]? := fun i h => List.getElem?_append_left h
  have hzb : ∀ j, (ma ++ mb.map (mvT D))[ma.length + j]? = (mb[j]?).map (mvT D) := fun j => by
    rw [List.getElem?_append_right (by omega), Nat.add_sub_cancel_left, List.getElem?_map]
  obtain ⟨zl, hzz⟩ : ∃ l, ma ++ mb.map (mvT D) = l := ⟨_, rfl⟩
  rw [hzz] at hzl hza hzb
  rw [hzz] at p3 zc
  rw [show lx.nlB = (⟨#[10]⟩ : ByteArray) from rfl] at p3 hsz
  have hzl' : (zl.length : Int) = (ma.length : Int) + mb.length := by omega
  have hsz' : (((a ++ (⟨#[10]⟩ : ByteArray) ++ b).size : Nat) : Int) = (a.size : Int) + 1 + b.size := by omega
  clear hzz
  have s10 : (⟨#[10]⟩ : ByteArray).size = 1 := rfl
  have bs1 : (a.size + 1 ≤ 9223372036854775807) = True := eq_true (by omega)
  have bs2 : (a.size + 1 + b.size ≤ 9223372036854775807) = True := eq_true (by omega)
  have hs2 : (a ++ (⟨#[10]⟩ : ByteArray)).size = a.size + 1 := by rw [ByteArray.size_append]; rfl
  refine row_of Tryz.func4 rfl rfl (Nat.le_of_ble_eq_true rfl) ?_
  repeat' (first | refine aw_seq ?_ | refine aw_skip ?_ | refine aw_block ?_ | refine aw_exit ?_ | refine aw_cond rfl (fun _ => ?_) (fun hb => absurd hb (by decide)) | refine aw_cond rfl (fun hb => absurd hb (by decide)) (fun _ => ?_) | (refine aw_reg (fun K hK => ?_); simp -implicitDefEqProofs [la, la', lb, lb', ws, h64', hzl, hzl', s10, bs1, bs2, hs2]) | (refine aw_drw mixd (fun K hK => ?_); simp -implicitDefEqProofs [la, la', lb, lb', ws, h64', hzl, hzl', s10, bs1, bs2, hs2]) | refine hK _ ?_ | refine hK _ _ (by rfl) ?_ | (refine ar_call (cb p1 0 ?_); simp -implicitDefEqProofs [la, la', lb, lb', ws, h64', hzl, hzl', s10, bs1, bs2, hs2]) | (refine ard_call (db p1 0 ?_); simp -implicitDefEqProofs [la, la', lb, lb', ws, h64', hzl, hzl', s10, bs1, bs2, hs2]) | (refine ar_call (cb p2 0 ?_); simp -implicitDefEqProofs [la, la', lb, lb', ws, h64', hzl, hzl', s10, bs1, bs2, hs2]) | (refine ard_call (db p2 0 ?_); simp -implicitDefEqProofs [la, la', lb, lb', ws, h64', hzl, hzl', s10, bs1, bs2, hs2]) | (refine ar_call (cb p3 0 ?_); simp -implicitDefEqProofs [la, la', lb, lb', ws, h64', hzl, hzl', s10, bs1, bs2, hs2]) | (refine ard_call (db p3 0 ?_); simp -implicitDefEqProofs [la, la', lb, lb', ws, h64', hzl, hzl', s10, bs1, bs2, hs2]) | fail)
  refine aw_lp (ι := Nat) (fun k => mkSt [(0, vS a), (4, vB false), (5, .v (.c (.ptr 1 0))), (8, .v (.c (.ptr 2 0))), (12, .v (.c (.ptr 3 0))), (15, vI (k : Nat))] [some (.lib L), some (.box (ta (.mk ⟨36, 0, ⟨#[]⟩, 0, a.size⟩ ma))), some (.box (ta (.mk ⟨36, 0, ⟨#[]⟩, 0, b.size⟩ mb))), some (.box (ta (.mk ⟨36, 0, ⟨#[]⟩, 0, (a.size : Int) + 1 + b.size⟩ zl)))]) (fun k => k ≤ zl.length) (fun k => zl.length - k) 0 (Nat.zero_le _) (cov_intro [0, 23, 40, 78] (by simp -implicitDefEqProofs) (by simp -implicitDefEqProofs) (by decide) rfl (by simp)) (fun Z hI k hk => ?_)
  clear p1 p2 p3
  dsimp only at za zb zc
  have w3 : IntKind.i64.wrap ((k : Nat) + 1 : Int) = (k : Nat) + 1 := i64i _ (by omega) (by omega)
  by_cases hkl : k < zl.length; rotate_left
  · repeat' (first | refine aw_seq ?_ | refine aw_skip ?_ | refine aw_block ?_ | refine aw_exit ?_ | refine aw_cond rfl (fun _ => ?_) (fun hb => absurd hb (by decide)) | refine aw_cond rfl (fun hb => absurd hb (by decide)) (fun _ => ?_) | (refine aw_reg (fun K hK => ?_); simp -implicitDefEqProofs [hkl]) | (refine aw_drw mixd (fun K hK => ?_); simp -implicitDefEqProofs [hkl]) | refine hK _ ?_ | refine hK _ _ (by rfl) ?_ | (refine ar_call (cb haw 0 ?_); simp -implicitDefEqProofs [hkl]) | (refine ard_call (db haw 0 ?_); simp -implicitDefEqProofs [hkl]) | fail)
    refine aw_ret (fin_box ?_); simp -implicitDefEqProofs [FinB, resV, resT] <;> try rfl
  by_cases hka : k < ma.length
  · obtain ⟨y, hm⟩ : ∃ y, ma[k]? = some y := ⟨_, List.getElem?_eq_getElem hka⟩
    have hz : zl[k]? = some y := by rw [hza k hka]; exact hm
    have hm' := (List.getElem?_eq_some_iff.1 hm).2
    have hz' := (List.getElem?_eq_some_iff.1 hz).2
    have hs1 := Tr.size_at (x := ⟨36, 0, ⟨#[]⟩, 0, (a.size : Int)⟩) hm
    have hp := rplac_row y (by omega) y (by omega)
    rw [plac_refl] at hp
    have hka2 : ¬ ma.length ≤ k := by omega
    obtain ⟨yx, yl⟩ := y
    clear hza hzb hsm hs1 za zb zc haw
    repeat' (first | refine aw_seq ?_ | refine aw_skip ?_ | refine aw_block ?_ | refine aw_exit ?_ | refine aw_cond rfl (fun _ => ?_) (fun hb => absurd hb (by decide)) | refine aw_cond rfl (fun hb => absurd hb (by decide)) (fun _ => ?_) | (refine aw_reg (fun K hK => ?_); simp -implicitDefEqProofs [hkl, hka, hka2, hz, hz', hm, hm', w3]) | (refine aw_drw mixd (fun K hK => ?_); simp -implicitDefEqProofs [hkl, hka, hka2, hz, hz', hm, hm', w3]) | refine hK _ ?_ | refine hK _ _ (by rfl) ?_ | (refine ar_call (cp hp ?_); simp -implicitDefEqProofs [hkl, hka, hka2, hz, hz', hm, hm', w3]) | (refine ard_call (dp hp ?_); simp -implicitDefEqProofs [hkl, hka, hka2, hz, hz', hm, hm', w3]) | fail)
    refine ⟨k + 1, by omega, (by dsimp only; omega), ?_⟩; rw [hI]; exact cov_intro [0, 1, 2, 3] (by simp -implicitDefEqProofs) (by simp -implicitDefEqProofs) (by decide) rfl (by simp)
  · obtain ⟨j, hj⟩ : ∃ j, k = ma.length + j := ⟨k - ma.length, by omega⟩
    have hjl : j < mb.length := by omega
    obtain ⟨u, hm⟩ : ∃ u, mb[j]? = some u := ⟨_, List.getElem?_eq_getElem hjl⟩
    have hz : zl[k]? = some (mvT D u) := by rw [hj, hzb j, hm]; rfl
    have hm' := (List.getElem?_eq_some_iff.1 hm).2
    have hs1 := Tr.size_at (x := ⟨36, 0, ⟨#[]⟩, 0, (b.size : Int)⟩) hm
    have hs2 := Tr.size_at (x := ⟨36, 0, ⟨#[]⟩, 0, ((a ++ (⟨#[10]⟩ : ByteArray) ++ b).size : Int)⟩) hz
    have hmv := rmoved_row D (by omega) u (by omega) (hsm u (List.mem_of_getElem? hm))
    have hp := rplac_row (mvT D u) (by have hzc := zc; rw [show lx.nlB = (⟨#[10]⟩ : ByteArray) from rfl] at hzc; omega) (mvT D u) (by have hzc := zc; rw [show lx.nlB = (⟨#[10]⟩ : ByteArray) from rfl] at hzc; omega)
    rw [plac_refl] at hp
    obtain ⟨⟨zx, zk⟩, hzv⟩ : ∃ r, mvT D u = r := ⟨_, rfl⟩
    rw [hzv] at hz hmv hp
    have hz' := (List.getElem?_eq_some_iff.1 hz).2
    have hka2 : ma.length ≤ k := by omega
    have wj : IntKind.i64.wrap ((k : Int) - ma.length) = (j : Nat) := by rw [i64i _ (by omega) (by omega)]; omega
    obtain ⟨ux, uk⟩ := u
    clear hza hzb hsm hs1 hs2 za zb zc haw hj hzv
    repeat' (first | refine aw_seq ?_ | refine aw_skip ?_ | refine aw_block ?_ | refine aw_exit ?_ | refine aw_cond rfl (fun _ => ?_) (fun hb => absurd hb (by decide)) | refine aw_cond rfl (fun hb => absurd hb (by decide)) (fun _ => ?_) | (refine aw_reg (fun K hK => ?_); simp -implicitDefEqProofs [hkl, hka, hka2, hjl, hz, hz', hm, hm', w3, wj, wD]) | (refine aw_drw mixd (fun K hK => ?_); simp -implicitDefEqProofs [hkl, hka, hka2, hjl, hz, hz', hm, hm', w3, wj, wD]) | refine hK _ ?_ | refine hK _ _ (by rfl) ?_ | (refine ar_call (cp hp ?_); simp -implicitDefEqProofs [hkl, hka, hka2, hjl, hz, hz', hm, hm', w3, wj, wD]) | (refine ard_call (dp hp ?_); simp -implicitDefEqProofs [hkl, hka, hka2, hjl, hz, hz', hm, hm', w3, wj, wD]) | (refine ar_call (cp hmv ?_); simp -implicitDefEqProofs [hkl, hka, hka2, hjl, hz, hz', hm, hm', w3, wj, wD]) | (refine ard_call (dp hmv ?_); simp -implicitDefEqProofs [hkl, hka, hka2, hjl, hz, hz', hm, hm', w3, wj, wD]) | fail)
    refine ⟨k + 1, by omega, (by dsimp only; omega), ?_⟩; rw [hI]; exact cov_intro [0, 1, 2, 3] (by simp -implicitDefEqProofs) (by simp -implicitDefEqProofs) (by decide) rfl (by simp)
end Go.Proofs.YthcnligihpnfiaaGreatDoor.am
end
section
namespace Go.Proofs
open Go.Shelf
def Tryz.laysC174_ren : Go.Shelf.Ren := ⟨fun | 174 => 123 | 247 => 138 | 245 => 139 | 287 => 149 | 279 => 150 | 280 => 151 | 281 => 152 | 282 => 153 | 321 => 159 | 322 => 160 | 316 => 161 | 171 => 163 | 205 => 162 | 243 => 175 | 246 => 158 | 283 => 171 | 284 => 172 | 285 => 173 | 286 => 174 | 129 => 178 | 317 => 177 | 318 => 179 | 319 => 180 | 320 => 181 | 337 => 183 | 338 => 184 | n => n, fun | 9 => 9 | 3 => 3 | 2 => 2 | 75 => 59 | 85 => 122 | 4 => 4 | 167 => 150 | 5 => 5 | 53 => 151 | 175 => 152 | 46 => 154 | 168 => 155 | 37 => 55 | 0 => 0 | 210 => 163 | 21 => 21 | 127 => 100 | 145 => 173 | 143 => 171 | 171 => 166 | 173 => 169 | 212 => 176 | 51 => 177 | 20 => 20 | 213 => 178 | 232 => 182 | 233 => 183 | 80 => 67 | n => n, fun | 15 => 1 | 16 => 2 | 17 => 3 | 18 => 4 | 19 => 5 | n => n⟩
theorem Tryz.laysC174 : Go.Proofs.LaysC.n174 Tryz.prog Tryz.laysC174_ren := {
  mixed := by kernel_rfl
  f129 := Tryz.func178.trans (congrArg some (by kernel_rfl))
  f171 := Tryz.func163.trans (congrArg some (by kernel_rfl))
  f174 := Tryz.func123.trans (congrArg some (by kernel_rfl))
  f205 := Tryz.func162.trans (congrArg some (by kernel_rfl))
  f243 := Tryz.func175.trans (congrArg some (by kernel_rfl))
  f245 := Tryz.func139.trans (congrArg some (by kernel_rfl))
  f246 := Tryz.func158.trans (congrArg some (by kernel_rfl))
  f247 := Tryz.func138.trans (congrArg some (by kernel_rfl))
  f279 := Tryz.func150.trans (congrArg some (by kernel_rfl))
  f280 := Tryz.func151.trans (congrArg some (by kernel_rfl))
  f281 := Tryz.func152.trans (congrArg some (by kernel_rfl))
  f282 := Tryz.func153.trans (congrArg some (by kernel_rfl))
  f283 := Tryz.func171.trans (congrArg some (by kernel_rfl))
  f284 := Tryz.func172.trans (congrArg some (by kernel_rfl))
  f285 := Tryz.func173.trans (congrArg some (by kernel_rfl))
  f286 := Tryz.func174.trans (congrArg some (by kernel_rfl))
  f287 := Tryz.func149.trans (congrArg some (by kernel_rfl))
  f316 := Tryz.func161.trans (congrArg some (by kernel_rfl))
  f317 := Tryz.func177.trans (congrArg some (by kernel_rfl))
  f318 := Tryz.func179.trans (congrArg some (by kernel_rfl))
  f319 := Tryz.func180.trans (congrArg some (by kernel_rfl))
  f320 := Tryz.func181.trans (congrArg some (by kernel_rfl))
  f321 := Tryz.func159.trans (congrArg some (by kernel_rfl))
  f322 := Tryz.func160.trans (congrArg some (by kernel_rfl))
  f337 := Tryz.func183.trans (congrArg some (by kernel_rfl))
  f338 := Tryz.func184.trans (congrArg some (by kernel_rfl))
  t0 := Tryz.underlying0
  a0 := Tryz.isAgg0
  z0 := Tryz.sizeOf0
  v0 := Tryz.zeroValue0
  t2 := Tryz.underlying2
  a2 := Tryz.isAgg2
  z2 := Tryz.sizeOf2
  v2 := Tryz.zeroValue2
  t3 := Tryz.underlying3
  a3 := Tryz.isAgg3
  z3 := Tryz.sizeOf3
  v3 := Tryz.zeroValue3
  t4 := Tryz.underlying4
  a4 := Tryz.isAgg4
  z4 := Tryz.sizeOf4
  v4 := Tryz.zeroValue4
  t5 := Tryz.underlying5
  a5 := Tryz.isAgg5
  z5 := Tryz.sizeOf5
  v5 := Tryz.zeroValue5
  t9 := Tryz.underlying9
  a9 := Tryz.isAgg9
  z9 := Tryz.sizeOf9
  v9 := Tryz.zeroValue9
  t20 := Tryz.underlying20
  a20 := Tryz.isAgg20
  z20 := Tryz.sizeOf20
  v20 := Tryz.zeroValue20
  t21 := Tryz.underlying21
  a21 := Tryz.isAgg21
  z21 := Tryz.sizeOf21
  v21 := Tryz.zeroValue21
  t37 := Tryz.underlying55
  a37 := Tryz.isAgg55
  z37 := Tryz.sizeOf55
  v37 := Tryz.zeroValue55
  t46 := Tryz.underlying154
  a46 := Tryz.isAgg154
  z46 := Tryz.sizeOf154
  v46 := Tryz.zeroValue154
  t51 := Tryz.underlying177
  a51 := Tryz.isAgg177
  z51 := Tryz.sizeOf177
  v51 := Tryz.zeroValue177
  t53 := Tryz.underlying151
  a53 := Tryz.isAgg151
  z53 := Tryz.sizeOf151
  v53 := Tryz.zeroValue151
  t75 := Tryz.underlying59
  a75 := Tryz.isAgg59
  z75 := Tryz.sizeOf59
  v75 := Tryz.zeroValue59
  t85 := Tryz.underlying122
  a85 := Tryz.isAgg122
  z85 := Tryz.sizeOf122
  v85 := Tryz.zeroValue122
  t127 := Tryz.underlying100
  a127 := Tryz.isAgg100
  z127 := Tryz.sizeOf100
  v127 := Tryz.zeroValue100
  t143 := Tryz.underlying171
  a143 := Tryz.isAgg171
  z143 := Tryz.sizeOf171
  v143 := Tryz.zeroValue171
  t145 := Tryz.underlying173
  a145 := Tryz.isAgg173
  z145 := Tryz.sizeOf173
  v145 := Tryz.zeroValue173
  t167 := Tryz.underlying150
  a167 := Tryz.isAgg150
  z167 := Tryz.sizeOf150
  v167 := Tryz.zeroValue150
  t168 := Tryz.underlying155
  a168 := Tryz.isAgg155
  z168 := Tryz.sizeOf155
  v168 := Tryz.zeroValue155
  t171 := Tryz.underlying166
  a171 := Tryz.isAgg166
  z171 := Tryz.sizeOf166
  v171 := Tryz.zeroValue166
  t173 := Tryz.underlying169
  a173 := Tryz.isAgg169
  z173 := Tryz.sizeOf169
  v173 := Tryz.zeroValue169
  t175 := Tryz.underlying152
  a175 := Tryz.isAgg152
  z175 := Tryz.sizeOf152
  v175 := Tryz.zeroValue152
  t210 := Tryz.underlying163
  a210 := Tryz.isAgg163
  z210 := Tryz.sizeOf163
  v210 := Tryz.zeroValue163
  t212 := Tryz.underlying176
  a212 := Tryz.isAgg176
  z212 := Tryz.sizeOf176
  v212 := Tryz.zeroValue176
  t213 := Tryz.underlying178
  a213 := Tryz.isAgg178
  z213 := Tryz.sizeOf178
  t232 := Tryz.underlying182
  a232 := Tryz.isAgg182
  z232 := Tryz.sizeOf182
  v232 := Tryz.zeroValue182
  t233 := Tryz.underlying183
  a233 := Tryz.isAgg183
  z233 := Tryz.sizeOf183
  v233 := Tryz.zeroValue183
  g15 := by kernel_rfl
  g16 := by kernel_rfl
  g17 := by kernel_rfl
  g18 := by kernel_rfl
  g19 := by kernel_rfl
  t80 := Tryz.underlying67
  a80 := Tryz.isAgg67
  z80 := Tryz.sizeOf67
  v80 := Tryz.zeroValue67
  i0 := by kernel_rfl
  i2 := by kernel_rfl
  i3 := by kernel_rfl
  i4 := by kernel_rfl
  i5 := by kernel_rfl
  i9 := by kernel_rfl
  i20 := by kernel_rfl
  i21 := by kernel_rfl
  i37 := by kernel_rfl
  i46 := by kernel_rfl
  i51 := by kernel_rfl
  i53 := by kernel_rfl
  i75 := by kernel_rfl
  i80 := by kernel_rfl
  i85 := by kernel_rfl
  i127 := by kernel_rfl
  i143 := by kernel_rfl
  i145 := by kernel_rfl
  i167 := by kernel_rfl
  i168 := by kernel_rfl
  i171 := by kernel_rfl
  i173 := by kernel_rfl
  i175 := by kernel_rfl
  i210 := by kernel_rfl
  i212 := by kernel_rfl
  i232 := by kernel_rfl
  i233 := by kernel_rfl
  m15 := by kernel_rfl
  m16 := by kernel_rfl
  m17 := by kernel_rfl
  m18 := by kernel_rfl
  m19 := by kernel_rfl
  c0 := by kernel_rfl
  c2 := by kernel_rfl
  c3 := by kernel_rfl
  c4 := by kernel_rfl
  c5 := by kernel_rfl
  c9 := by kernel_rfl
  c20 := by kernel_rfl
  c21 := by kernel_rfl
  c37 := by kernel_rfl
  c46 := by kernel_rfl
  c51 := by kernel_rfl
  c53 := by kernel_rfl
  c75 := by kernel_rfl
  c80 := by kernel_rfl
  c85 := by kernel_rfl
  c127 := by kernel_rfl
  c143 := by kernel_rfl
  c145 := by kernel_rfl
  c167 := by kernel_rfl
  c168 := by kernel_rfl
  c171 := by kernel_rfl
  c173 := by kernel_rfl
  c175 := by kernel_rfl
  c210 := by kernel_rfl
  c212 := by kernel_rfl
  c213 := by kernel_rfl
  c232 := by kernel_rfl
  c233 := by kernel_rfl }
open Go.RowKit in
theorem Tryz.strconv_ParseInt_10_at64_ok (s : ByteArray) (hmax : s.size ≤ 9223372036854775806) (v : Int) (h : Lib.parseIntB 64 s.data.toList = .ok v) (w : World) :
    Calls Tryz.prog 123 #[.string s, .int .i64 10, .int .i64 64] w fun e w' => e = .returned (.tuple #[.int .i64 v, .nilIface]) ∧ (w' = w ∨ ∃ t, w' = Lib.bytesWorld w 5 t) := Any.strconv_ParseInt_10_at64_ok Tryz.laysC174 s hmax v h w
open Go.RowKit in
theorem Tryz.strconv_ParseInt_10_at64_range_var (s : ByteArray) (hlim : s.size ≤ 281474976710656) (h : Lib.parseIntB 64 s.data.toList = .range) (tp : TypeId) (p : Value) (w : World) (hvar : w.var? Tryz.prog "strconv.ErrRange" = some #[.iface tp p]) :
    Calls Tryz.prog 123 #[.string s, .int .i64 10, .int .i64 64] w fun e w' => ∃ N, e = .returned (.tuple #[.int .i64 (Lib.intSat 64 s.data.toList), .iface 155 (.pointer (some ⟨N, 0, none⟩))]) ∧ w.heap.size ≤ N ∧ w'.heap[N]? = some (.cells #[.string ⟨#[80, 97, 114, 115, 101, 73, 110, 116]⟩, .string s, .iface tp p] 163 (0, 0)) ∧ Below w.heap.size w w' := Any.strconv_ParseInt_10_at64_range_var Tryz.laysC174 s hlim h tp p w hvar
end Go.Proofs
end
