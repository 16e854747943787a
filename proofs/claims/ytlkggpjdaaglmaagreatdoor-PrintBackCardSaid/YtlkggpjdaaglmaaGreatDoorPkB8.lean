import Derived.Test.YtlkggpjdaaglmaaGreatDoorPkB6
import Derived.Test.YtlkggpjdaaglmaaGreatDoorPkB4
import Derived.Test.YtlkggpjdaaglmaaGreatDoorPkB7
import Derived.Test.YtlkggpjdaaglmaaGreatDoorPkB5
import Derived.Lib.Join
section
namespace Go.Proofs.YtlkggpjdaaglmaaGreatDoor.am
open Go.ChangeShapes Go.WideShapes Go.ChangeAt Go.RowKit
open vt
set_option linter.unusedVariables false
def tkT (x : lx.Tk) : Tok := ⟨x.k, x.n, x.s, x.f, x.t⟩
def tokG (s : ByteArray) : List Tok × Nat × Int := ((lx.tokens s).1.map tkT, (lx.tokens s).2)
abbrev vTk (r : List Tok × Nat × Int) : AV := .tup [.c (.pv (.sl 5 (r.1.map kc))), .c (.pv (I (r.2.1 : Nat))), .c (.pv (I r.2.2))]
theorem rep_tokens {γ : Nat → G} {S : CS} {w w' : World} {r : List lx.Tk × Nat × Int} {e : Ending} (h : lx.TsO r w e w') : ∃ v, e = .returned v ∧ Below w.heap.size w w' ∧ RepV γ (newS S w w') w' v (vTk (r.1.map tkT, r.2)) := by
  obtain ⟨a, n, c, rfl, ⟨hk, hn⟩, hb⟩ := h
  refine ⟨_, rfl, hb, _, rfl, rfl, fun i x hx => ?_⟩
  have hsl : RepP (newS S w w') w' (.slice a n c) (.sl 5 ((r.1.map tkT).map kc)) := by
    rcases Nat.eq_zero_or_pos n with h0 | h0
    · subst h0
      have : r.1 = [] := List.length_eq_zero_iff.1 hk.len
      rw [this]
      exact .emp a c 5 hk.most hk.nil
    · rcases hn with hn | ⟨b, off, rfl, hnb⟩
      · omega
      rcases hk.at' with hz | ⟨b', off', hab, hlt, hc⟩
      · omega
      obtain ⟨rfl, rfl⟩ : b = b' ∧ off = off' := by injection hab with h; injection h with h1 h2; exact ⟨h1, h2⟩
      refine .sl b off n c 5 _ (by rw [List.length_map, List.length_map]; exact hk.len) h0 hk.cap hk.most (fun e he => ?_) (fun i j => (((r.1[i]?).bind fun x => x.cells[j]?)).getD undef) (fun i e j p h1 h2 => ?_) (fun i e j p h1 h2 => ?_)
      · obtain ⟨y, _, rfl⟩ := List.mem_map.1 he; rfl
      · rw [List.map_map, List.getElem?_map] at h1
        obtain ⟨y, hy, rfl⟩ := Option.map_eq_some_iff.1 h1
        have hj : j < 5 := (List.getElem?_eq_some_iff.1 h2).1
        refine ⟨.inr ⟨hnb, hlt⟩, ?_⟩
        rw [hy]
        have hcl : ∃ u, y.cells[j]? = some u := ⟨_, List.getElem?_eq_getElem (by exact hj)⟩
        obtain ⟨u, hu⟩ := hcl
        rw [hc i y hy j u hu]
        simp [hu]
      · rw [List.map_map, List.getElem?_map] at h1
        obtain ⟨y, hy, rfl⟩ := Option.map_eq_some_iff.1 h1
        rw [hy]
        have hj : j < 5 := (List.getElem?_eq_some_iff.1 h2).1
        match j, hj with
        | 0, _ => obtain rfl := Option.some.inj h2; exact .lit _ rfl
        | 1, _ => obtain rfl := Option.some.inj h2; exact .lit _ rfl
        | 2, _ => obtain rfl := Option.some.inj h2; exact .lit _ rfl
        | 3, _ => obtain rfl := Option.some.inj h2; exact .lit _ rfl
        | 4, _ => obtain rfl := Option.some.inj h2; exact .lit _ rfl
  match i, hx with
  | 0, hx => obtain rfl := Option.some.inj hx; exact ⟨_, rfl, hsl⟩
  | 1, hx => obtain rfl := Option.some.inj hx; exact ⟨_, rfl, .lit _ rfl⟩
  | 2, hx => obtain rfl := Option.some.inj hx; exact ⟨_, rfl, .lit _ rfl⟩
  | i + 3, hx => simp at hx
end Go.Proofs.YtlkggpjdaaglmaaGreatDoor.am
end
section
namespace Go.Proofs.YtlkggpjdaaglmaaGreatDoor.am
open Go.ChangeShapes Go.WideShapes Go.ChangeAt Go.RowKit
open vt
set_option linter.unusedVariables false
def CL (hi : Int) : Int → List Tok → Prop
  | lo, [] => lo ≤ hi
  | lo, x :: M => lo ≤ x.f ∧ x.f ≤ x.t ∧ CL hi x.t M
theorem cl_le {hi : Int} : ∀ {M : List Tok} {lo : Int}, CL hi lo M → lo ≤ hi
  | [], lo, h => h
  | x :: M, lo, ⟨h1, h2, h3⟩ => by have := cl_le h3; omega
theorem cl_at {hi : Int} : ∀ {M : List Tok} {lo : Int} (i : Nat), CL hi lo M → i < M.length → lo ≤ frT M i ∧ frT M i ≤ toT M i ∧ toT M i ≤ hi ∧ (i + 1 < M.length → toT M i ≤ frT M (i + 1))
  | x :: M, lo, 0, ⟨h1, h2, h3⟩, _ => by
    refine ⟨h1, h2, cl_le h3, fun h => ?_⟩
    cases M with
    | nil => simp at h
    | cons y M => exact h3.1
  | x :: M, lo, i + 1, ⟨h1, h2, h3⟩, hi => by
    have := cl_at i h3 (by simpa using hi)
    have e : ∀ j, frT (x :: M) (j + 1) = frT M j ∧ toT (x :: M) (j + 1) = toT M j := fun j => ⟨rfl, rfl⟩
    rw [(e i).1, (e i).2, (e (i + 1)).1]
    exact ⟨by omega, this.2.1, this.2.2.1, fun h => this.2.2.2 (by simpa using h)⟩
def T6 (x : Tok) : Prop := I6 x.n ∧ I6 x.f ∧ I6 x.t
theorem cl_to {hi lo : Int} {M : List Tok} (h : CL hi lo M) (h6 : ∀ x ∈ M, T6 x) : TO M := ⟨fun i hi => by
  obtain ⟨x, hx⟩ : ∃ x, M[i]? = some x := ⟨_, List.getElem?_eq_getElem hi⟩
  rw [nxt_some hx]; exact h6 x (List.mem_of_getElem? hx), fun i hi => (cl_at i h hi).2.1, fun i hi => (cl_at i h (by omega)).2.2.2 hi⟩
theorem cl_snoc {hi : Int} : ∀ {M : List Tok} {lo : Int} {x : Tok}, CL x.f lo M → x.f ≤ x.t → x.t ≤ hi → CL hi lo (M ++ [x])
  | [], lo, x, h, h1, h2 => ⟨h, h1, h2⟩
  | y :: M, lo, x, ⟨a1, a2, a3⟩, h1, h2 => ⟨a1, a2, cl_snoc a3 h1 h2⟩
def enT (s : ByteArray) : Tok := tkT (lx.tkEnd s)
theorem on_kind {s : ByteArray} {i : Nat} (hi : i < s.size) (h : (lx.on s i).2 = 0) : (lx.on s i).1.k ≠ 5 := by
  by_cases hL : lx.isL (lx.B s i) = true
  · by_cases h2 : 16 < lx.run lx.isN s i - i
    · rw [lx.tk_long hL h2] at h; simp at h
    · rw [lx.tk_name hL h2]; dsimp only; split <;> decide
  · have hL : lx.isL (lx.B s i) = false := by simpa using hL
    by_cases hD : lx.isD (lx.B s i) = true
    · cases hn : lx.num (s.extract i (lx.run lx.isD s i)) with
      | none => rw [lx.tk_nonum hL hD hn] at h; simp at h
      | some n => rw [lx.tk_number hL hD hn]; show (2 : Int) ≠ 5; decide
    · have hD : lx.isD (lx.B s i) = false := by simpa using hD
      by_cases hs : lx.sgN s i = 0
      · rw [lx.tk_none hL hD hs] at h; simp at h
      · rw [lx.tk_sign hL hD hs]; show (4 : Int) ≠ 5; decide
theorem on_n6 {s : ByteArray} {i : Nat} (hi : i < s.size) (h : (lx.on s i).2 = 0) : I6 (lx.on s i).1.n := by
  by_cases hL : lx.isL (lx.B s i) = true
  · by_cases h2 : 16 < lx.run lx.isN s i - i
    · rw [lx.tk_long hL h2] at h; simp at h
    · rw [lx.tk_name hL h2]; show I6 0; decide
  · have hL : lx.isL (lx.B s i) = false := by simpa using hL
    by_cases hD : lx.isD (lx.B s i) = true
    · cases hn : lx.num (s.extract i (lx.run lx.isD s i)) with
      | none => rw [lx.tk_nonum hL hD hn] at h; simp at h
      | some n =>
        rw [lx.tk_number hL hD hn]
        have := (lx.num_spell (lx.dig_cut (Nat.le_of_lt hi)) hn).2
        show I6 n
        exact ⟨by omega, this.2⟩
    · have hD : lx.isD (lx.B s i) = false := by simpa using hD
      by_cases hs : lx.sgN s i = 0
      · rw [lx.tk_none hL hD hs] at h; simp at h
      · rw [lx.tk_sign hL hD hs]; show I6 0; decide
theorem toks_ord (s : ByteArray) (hs : s.size ≤ 8192) : ∀ n i, s.size - i ≤ n → i ≤ s.size → (lx.toks s i).2.2 = 0 → ∃ M, (lx.toks s i).1 = M ++ [lx.tkEnd s] ∧ CL s.size i (M.map tkT) ∧ (∀ x ∈ M, x.k ≠ 5 ∧ T6 (tkT x)) ∧ M.length + i ≤ s.size := by
  intro n
  induction n with
  | zero =>
    intro i hn hi h
    have hx := lx.nx_le hi
    rw [lx.toks, dif_neg (by omega)]
    exact ⟨[], rfl, (by show (i : Int) ≤ s.size; omega), (fun x h => by cases h), (by simp; omega)⟩
  | succ n ih =>
    intro i hn hi h
    have hx := lx.nx_le hi
    by_cases h1 : lx.nx s i < s.size
    · have h2 : (lx.on s (lx.nx s i)).2 = 0 := by
        by_cases h2 : (lx.on s (lx.nx s i)).2 = 0
        · exact h2
        · rw [lx.toks, dif_pos ⟨h1, hi⟩, dif_neg h2] at h; exact absurd h h2
      obtain ⟨hf, j, hj, hlt, hle⟩ := lx.on_to h1 h2
      have hk := on_kind h1 h2
      have h6 := on_n6 h1 h2
      rw [lx.toks, dif_pos ⟨h1, hi⟩, dif_pos h2] at h ⊢
      simp only at h ⊢
      obtain ⟨x, hxe⟩ : ∃ x, (lx.on s (lx.nx s i)).1 = x := ⟨_, rfl⟩
      rw [hxe] at hf hj hk h h6 ⊢
      have hjt : x.t.toNat = j := by rw [hj]; simp
      rw [hjt] at h ⊢
      by_cases h3 : (lx.toks s j).2.2 = 0; rotate_left
      · rw [if_neg h3] at h; exact absurd h h3
      rw [if_pos h3]
      obtain ⟨M, a1, a2, a3, a4⟩ := ih j (by omega) hle h3
      refine ⟨x :: M, by rw [a1]; rfl, ⟨?_, ?_, ?_⟩, fun y hy => ?_, by simp; omega⟩
      · show (i : Int) ≤ x.f; rw [hf]; omega
      · show x.f ≤ x.t; rw [hf, hj]; omega
      · show CL _ x.t (M.map tkT); rw [hj]; exact a2
      · rcases List.mem_cons.1 hy with rfl | hy
        · exact ⟨hk, h6, by show I6 y.f; rw [hf]; exact ⟨by omega, by omega⟩, by show I6 y.t; rw [hj]; exact ⟨by omega, by omega⟩⟩
        · exact a3 y hy
    · rw [lx.toks, dif_neg (by omega)]
      exact ⟨[], rfl, (by show (i : Int) ≤ s.size; omega), (fun x h => by cases h), (by simp; omega)⟩
structure TokOk (s : ByteArray) (ts : List Tok) : Prop where
  ex : ∃ M, ts = M ++ [enT s] ∧ CL s.size 0 M ∧ (∀ x ∈ M, x.k ≠ 5 ∧ T6 x) ∧ M.length ≤ s.size ∧ s.size ≤ 8192
theorem tok_ok {s : ByteArray} (h : (tokG s).2.2 = 0) : TokOk s (tokG s).1 := by
  unfold tokG lx.tokens at h ⊢
  by_cases hb : 8192 < s.size
  · rw [if_pos hb] at h; exact absurd (show (3 : Int) = 0 from h) (by decide)
  rw [if_neg hb] at h ⊢
  obtain ⟨M, a1, a2, a3, a4⟩ := toks_ord s (by omega) s.size 0 (Nat.sub_le _ _) (Nat.zero_le _) h
  refine ⟨M.map tkT, ?_, a2, fun x hx => ?_, by simp; omega, by omega⟩
  · show ((lx.toks s 0).1).map tkT = _
    rw [a1, List.map_append]; rfl
  · obtain ⟨y, hy, rfl⟩ := List.mem_map.1 hx
    exact a3 y hy
theorem tok_to {s : ByteArray} {ts : List Tok} (h : TokOk s ts) : TO ts := by
  obtain ⟨M, rfl, h1, h2, h3, h4⟩ := h.ex
  refine cl_to (hi := s.size) (lo := 0) (cl_snoc (x := enT s) h1 (Int.le_refl _) (Int.le_refl _)) (fun x hx => ?_)
  rcases List.mem_append.1 hx with hx | hx
  · exact (h2 x hx).2
  · rw [List.mem_singleton.1 hx]
    have e : I6 (s.size : Int) := ⟨by omega, by omega⟩
    exact ⟨by show I6 0; decide, e, e⟩
theorem tok_len {s : ByteArray} {ts : List Tok} (h : TokOk s ts) : 0 < ts.length ∧ ts.length ≤ s.size + 1 := by
  obtain ⟨M, rfl, h1, h2, h3, h4⟩ := h.ex
  simp; omega
theorem tok_last {s : ByteArray} {ts : List Tok} (h : TokOk s ts) : nxt ts (ts.length - 1) = enT s := by
  obtain ⟨M, rfl, h1, h2, h3, h4⟩ := h.ex
  exact nxt_some (by simp)
end Go.Proofs.YtlkggpjdaaglmaaGreatDoor.am
end
section
namespace Go.Proofs.YtlkggpjdaaglmaaGreatDoor.vt
open Go.Proofs.YtlkggpjdaaglmaaGreatDoor.am
set_option linter.unusedVariables false
noncomputable def dpt (t : VT) : Nat := Tr.fold (fun _ _ b => b.foldl max 0 + 1) t
theorem dpt_mk (x : Lab) (l : List VT) : dpt (.mk x l) = (l.map dpt).foldl max 0 + 1 := Tr.fold_mk _ x l
def modT (s : ByteArray) (l : List VT) : VT := .mk ⟨36, 0, ⟨#[]⟩, 0, s.size⟩ l
noncomputable def modG (s : ByteArray) (ts : List Tok) : VT × Int × Int :=
  if (lpU ts (ts.length + 1) 0 []).2.2 ≠ 0 then (z0, frT ts (lpU ts (ts.length + 1) 0 []).2.1, (lpU ts (ts.length + 1) 0 []).2.2)
  else if 64 < (lpU ts (ts.length + 1) 0 []).1.length then (z0, 0, 11)
  else if 64 < dpt (modT s (lpU ts (ts.length + 1) 0 []).1) then (z0, 0, 7)
  else (modT s (lpU ts (ts.length + 1) 0 []).1, 0, 0)
noncomputable def unitG (s : ByteArray) : VT × Int × Int := if (tokG s).2.2 ≠ 0 then (z0, (tokG s).2.1, (tokG s).2.2) else modG s (tokG s).1
section
variable {ts : List Tok}
structure InvU (ts : List Tok) (C : List VT × Nat × Int) (x : Nat × Nat × List VT) : Prop where
  eq : lpU ts x.1 x.2.1 x.2.2 = C
  le : x.2.1 + 1 ≤ ts.length
  fuel : ts.length < x.1 + x.2.1
  few : x.2.2.length + x.1 ≤ ts.length + 1
  sz : sm x.2.2 ≤ x.2.1
theorem decl_ahead {s : ByteArray} (h : TokOk s ts) {i : Nat} (hi : i + 1 ≤ ts.length) : (declG ts i).2.1 + 1 ≤ ts.length := by
  have hk := (decl_oks (ts := ts) i (by omega)).ok.le (by omega)
  have hn := decl_ne5 (ts := ts) i (by omega)
  rcases Nat.lt_or_ge (declG ts i).2.1 ts.length with h1 | h1
  · exact h1
  · have e : (declG ts i).2.1 = ts.length := by omega
    rw [e] at hn
    have := hn (by omega)
    rw [tok_last h] at this
    exact absurd rfl this
theorem invU_next {s : ByteArray} (h : TokOk s ts) {m i : Nat} {acc : List VT} {C : List VT × Nat × Int} (hI : InvU ts C (m + 1, i, acc)) (h0 : ¬ ts.length ≤ i + 1) (h1 : (declG ts i).2.2 = 0) : InvU ts C (m, (declG ts i).2.1, acc ++ [(declG ts i).1]) := by
  have hk := decl_oks (ts := ts) i (by have := hI.le; dsimp only at this; omega)
  have hy := hk.ok.yes h1
  have hs := hk.sz h1
  obtain ⟨x1, x2, x3, x4, x5⟩ := hI
  dsimp only at x1 x2 x3 x4 x5
  rw [lpU, if_neg h0, if_neg (by simp [h1])] at x1
  exact ⟨x1, decl_ahead h x2, by dsimp only; omega, by dsimp only; rw [List.length_append, List.length_singleton]; omega, by dsimp only; rw [sm_app]; omega⟩
theorem lpU_sz : ∀ (m i : Nat) (acc : List VT), i ≤ ts.length → sm acc ≤ i → sm (lpU ts m i acc).1 ≤ ts.length
  | 0, i, acc, hi, h => by rw [lpU]; dsimp only; omega
  | m + 1, i, acc, hi, h => by
    rw [lpU]
    by_cases h0 : ts.length ≤ i + 1
    · rw [if_pos h0]; dsimp only; omega
    rw [if_neg h0]
    have hk := decl_oks (ts := ts) i hi
    by_cases h1 : (declG ts i).2.2 ≠ 0
    · rw [if_pos h1]; dsimp only; omega
    · rw [if_neg h1]
      have h1 : (declG ts i).2.2 = 0 := by simpa using h1
      have hs := hk.sz h1
      exact lpU_sz m _ _ (hk.ok.yes h1).2 (by rw [sm_app]; omega)
theorem mod_sz (s : ByteArray) (m : Nat) : (modT s (lpU ts m 0 []).1).size ≤ ts.length + 1 := by
  have := lpU_sz (ts := ts) m 0 [] (Nat.zero_le _) (by simp [sm])
  unfold modT
  rw [Tr.size_mk]
  unfold sm at this
  omega
end
end Go.Proofs.YtlkggpjdaaglmaaGreatDoor.vt
end
section
namespace Go.Proofs.YtlkggpjdaaglmaaGreatDoor.am
open vt
set_option linter.unusedVariables false
abbrev sp : ByteArray := ⟨#[32]⟩
def J (W : List ByteArray) : ByteArray := lx.mkB (Lib.join (W.map (·.data.toList)) [32])
theorem mkB_app (a b : List UInt8) : lx.mkB (a ++ b) = lx.mkB a ++ lx.mkB b := by
  unfold lx.mkB
  apply ByteArray.ext
  simp
theorem J_nil : J [] = ⟨#[]⟩ := rfl
theorem J_one (a : ByteArray) : J [a] = a := by
  unfold J
  rw [List.map_cons, List.map_nil, Lib.join_one]; rfl
theorem jt_app (a b : List (List UInt8)) : Lib.joinTail [32] (a ++ b) = Lib.joinTail [32] a ++ Lib.joinTail [32] b := by
  unfold Lib.joinTail; simp
theorem J_app {A B : List ByteArray} (hA : A ≠ []) (hB : B ≠ []) : J (A ++ B) = J A ++ sp ++ J B := by
  obtain ⟨a, A', rfl⟩ := List.exists_cons_of_ne_nil hA
  obtain ⟨b, B', rfl⟩ := List.exists_cons_of_ne_nil hB
  unfold J
  have e : (32 : UInt8) :: b.data.toList = [32] ++ b.data.toList := rfl
  have h1 : Lib.join ((a :: A' ++ b :: B').map (·.data.toList)) [32] = Lib.join ((a :: A').map (·.data.toList)) [32] ++ [32] ++ Lib.join ((b :: B').map (·.data.toList)) [32] := by
    rw [List.map_append, List.map_cons, List.map_cons, List.cons_append, Lib.join_cons, jt_app, Lib.join_cons, Lib.join_cons]
    unfold Lib.joinTail
    simp
  rw [h1, mkB_app, mkB_app]
  rfl
theorem J_size_le {M : Nat} : ∀ (W : List ByteArray), (∀ w ∈ W, w.size ≤ M) → (J W).size ≤ W.length * (M + 1)
  | [], _ => by rw [J_nil]; exact Nat.zero_le _
  | [a], h => by
    rw [J_one]
    have := h a (.head _)
    simp; omega
  | a :: b :: r, h => by
    have ih := J_size_le (b :: r) (fun w hw => h w (.tail _ hw))
    have ha := h a (.head _)
    rw [show a :: b :: r = [a] ++ (b :: r) from rfl, J_app (by simp) (by simp), J_one, ByteArray.size_append, ByteArray.size_append]
    have : sp.size = 1 := rfl
    rw [List.length_append, List.length_singleton, Nat.add_mul]
    omega
def pre (sep : List ByteArray) : List (List ByteArray) → List ByteArray
  | [] => []
  | W :: r => W ++ (r.map (sep ++ ·)).flatten
theorem pre_snoc {sep : List ByteArray} (Ws : List (List ByteArray)) (W : List ByteArray) : pre sep (Ws ++ [W]) = pre sep Ws ++ ((if Ws = [] then [] else sep) ++ W) := by
  cases Ws with
  | nil => simp [pre]
  | cons a r => simp [pre]
theorem pre_take {sep : List ByteArray} {Ws : List (List ByteArray)} {k : Nat} {W : List ByteArray} (h : Ws[k]? = some W) : pre sep (Ws.take (k + 1)) = pre sep (Ws.take k) ++ ((if k = 0 then [] else sep) ++ W) := by
  have hk := (List.getElem?_eq_some_iff.1 h).1
  rw [List.take_add_one, h]
  show pre sep (Ws.take k ++ [W]) = _
  rw [pre_snoc]
  congr 2
  cases k with
  | zero => simp
  | succ k =>
    have : Ws.take (k + 1) ≠ [] := fun e => by
      have := congrArg List.length e
      rw [List.length_take, Nat.min_eq_left (by omega)] at this
      simp at this
    rw [if_neg this, if_neg (by omega)]
theorem pre_len {sep : List ByteArray} {Ws : List (List ByteArray)} : ∀ k, k ≤ Ws.length → (pre sep (Ws.take k)).length ≤ (pre sep Ws).length := fun k hk => by
  cases Ws with
  | nil => simp [pre]
  | cons a r =>
    cases k with
    | zero => simp [pre]
    | succ k =>
      rw [List.take_succ_cons]
      unfold pre
      rw [List.length_append, List.length_append]
      have : ((r.take k).map (sep ++ ·)).flatten.length ≤ ((r).map (sep ++ ·)).flatten.length := by
        have e := List.take_append_drop k r
        have : ((r).map (sep ++ ·)).flatten = ((r.take k).map (sep ++ ·)).flatten ++ ((r.drop k).map (sep ++ ·)).flatten := by rw [← List.flatten_append, ← List.map_append, e]
        rw [this, List.length_append]; omega
      omega
def opB (n : Int) : ByteArray × Int :=
  if n = 1 then (⟨#[124, 124]⟩, 1) else if n = 2 then (⟨#[38, 38]⟩, 2) else if n = 3 then (⟨#[61, 61]⟩, 3) else if n = 4 then (⟨#[33, 61]⟩, 3) else if n = 5 then (⟨#[60]⟩, 3) else if n = 6 then (⟨#[60, 61]⟩, 3)
  else if n = 7 then (⟨#[62]⟩, 3) else if n = 8 then (⟨#[62, 61]⟩, 3) else if n = 9 then (⟨#[43]⟩, 4) else if n = 10 then (⟨#[45]⟩, 4) else if n = 11 then (⟨#[42]⟩, 5) else if n = 12 then (⟨#[47]⟩, 5) else (⟨#[37]⟩, 5)
def tgh (x : Lab) : Int := if x.k = 10 then (opB x.n).2 else if x.k = 11 then 6 else 7
def Opd (x : Lab) : Prop := x.k = 10 → 1 ≤ x.n ∧ x.n ≤ 13
def par (b : Int) (A : List ByteArray) (n : Int) : List ByteArray := if n ≤ b then A else [sParO] ++ A ++ [sParS]
abbrev wNum (n : Int) : ByteArray := lx.numT n
inductive WE : VT → List ByteArray → Prop
  | num (x : Lab) (h : x.k = 5) (h0 : -9223372036854775808 ≤ x.n) (h1 : x.n ≤ 9223372036854775807) : WE (.mk x []) [wNum x.n]
  | tru (x : Lab) (h : x.k = 6) (hn : x.n = 1) : WE (.mk x []) [wTrue]
  | fls (x : Lab) (h : x.k = 6) (hn : x.n = 0) : WE (.mk x []) [wFals]
  | read (x : Lab) (h : x.k = 18) : WE (.mk x []) [wRead]
  | nam (x : Lab) (h : x.k = 19) (hs : x.s.size ≤ 8192) : WE (.mk x []) [x.s]
  | bin (x a c : Lab) (al cl : List VT) (A C : List ByteArray) (h : x.k = 10) (h1 : 1 ≤ x.n) (h2 : x.n ≤ 13) (ha : WE (.mk a al) A) (hc : WE (.mk c cl) C) : WE (.mk x [.mk a al, .mk c cl]) (par (tgh a) A (if (opB x.n).2 = 3 then 4 else (opB x.n).2) ++ ([(opB x.n).1] ++ par (tgh c) C ((opB x.n).2 + 1)))
  | neg (x a : Lab) (al : List VT) (A : List ByteArray) (h : x.k = 11) (hn : x.n = 1) (ha : WE (.mk a al) A) : WE (.mk x [.mk a al]) ([sMin] ++ par (tgh a) A 6)
  | nt (x a : Lab) (al : List VT) (A : List ByteArray) (h : x.k = 11) (hn : x.n = 2) (ha : WE (.mk a al) A) : WE (.mk x [.mk a al]) ([sNot] ++ par (tgh a) A 6)
  | idx (x a c : Lab) (al cl : List VT) (A C : List ByteArray) (h : x.k = 12) (ha : WE (.mk a al) A) (hc : WE (.mk c cl) C) : WE (.mk x [.mk a al, .mk c cl]) (par (tgh a) A 7 ++ ([sOpen] ++ (C ++ [sShut])))
  | fld (x a : Lab) (al : List VT) (A : List ByteArray) (h : x.k = 13) (hs : x.s.size ≤ 8192) (ha : WE (.mk a al) A) : WE (.mk x [.mk a al]) (par (tgh a) A 7 ++ ([sDot] ++ [x.s]))
  | lst (x : Lab) (l : List VT) (Ws : List (List ByteArray)) (h : x.k = 14) (hl : l.length = Ws.length) (hw : ∀ (i : Nat) t W, l[i]? = some t → Ws[i]? = some W → WE t W) : WE (.mk x l) ([sOpen] ++ (pre [sCom] Ws ++ [sShut]))
  | mak (x : Lab) (l : List VT) (Ws : List (List ByteArray)) (h : x.k = 15) (hs : x.s.size ≤ 8192) (hl : l.length = Ws.length) (hw : ∀ (i : Nat) t W, l[i]? = some t → Ws[i]? = some W → WE t W) : WE (.mk x l) ([wNew] ++ ([x.s] ++ ([sParO] ++ (pre [sCom] Ws ++ [sParS]))))
  | cal (x : Lab) (l : List VT) (Ws : List (List ByteArray)) (h : x.k = 16) (hs : x.s.size ≤ 8192) (hl : l.length = Ws.length) (hw : ∀ (i : Nat) t W, l[i]? = some t → Ws[i]? = some W → WE t W) : WE (.mk x l) ([x.s] ++ ([sParO] ++ (pre [sCom] Ws ++ [sParS])))
  | ext (x : Lab) (l : List VT) (Ws : List (List ByteArray)) (h : x.k = 17) (hs : x.s.size ≤ 8192) (hl : l.length = Ws.length) (hw : ∀ (i : Nat) t W, l[i]? = some t → Ws[i]? = some W → WE t W) : WE (.mk x l) ([sAt] ++ ([x.s] ++ ([sParO] ++ (pre [sCom] Ws ++ [sParS]))))
inductive WTp : VT → List ByteArray → Prop
  | int (x : Lab) (h : x.k = 1) : WTp (.mk x []) [wInt]
  | bool (x : Lab) (h : x.k = 2) : WTp (.mk x []) [wBool]
  | arr (x a : Lab) (al : List VT) (A : List ByteArray) (h : x.k = 3) (h0 : -9223372036854775808 ≤ x.n) (h1 : x.n ≤ 9223372036854775807) (ha : WTp (.mk a al) A) : WTp (.mk x [.mk a al]) ([sOpen] ++ ([wNum x.n] ++ ([sShut] ++ A)))
  | rec' (x : Lab) (h : x.k = 4) (hs : x.s.size ≤ 8192) : WTp (.mk x []) [x.s]
end Go.Proofs.YtlkggpjdaaglmaaGreatDoor.am
end
section
namespace Go.Proofs.YtlkggpjdaaglmaaGreatDoor.am
open vt
set_option linter.unusedVariables false
inductive WS : VT → List ByteArray → Prop
  | blk (x : Lab) (l : List VT) (Ws : List (List ByteArray)) (h : x.k = 29) (hl : l.length = Ws.length) (hw : ∀ (i : Nat) t W, l[i]? = some t → Ws[i]? = some W → WS t W) : WS (.mk x l) ([sBra] ++ (pre [] Ws ++ [sKet]))
  | lt (x a : Lab) (al : List VT) (A : List ByteArray) (h : x.k = 20) (hs : x.s.size ≤ 8192) (ha : WE (.mk a al) A) : WS (.mk x [.mk a al]) ([wLet] ++ ([x.s] ++ ([sIs] ++ (A ++ [sEnd]))))
  | new (x a : Lab) (al : List VT) (A : List ByteArray) (h : x.k = 21) (hs : x.s.size ≤ 8192) (ha : WTp (.mk a al) A) : WS (.mk x [.mk a al]) ([wLet] ++ ([x.s] ++ ([sCol] ++ (A ++ [sEnd]))))
  | set' (x a c : Lab) (al cl : List VT) (A C : List ByteArray) (h : x.k = 22) (ha : WE (.mk a al) A) (hc : WE (.mk c cl) C) : WS (.mk x [.mk a al, .mk c cl]) (A ++ ([sIs] ++ (C ++ [sEnd])))
  | ifn (x a c e : Lab) (al cl : List VT) (A C : List ByteArray) (h : x.k = 23) (ha : WE (.mk a al) A) (hk : c.k = 29) (hc : WS (.mk c cl) C) : WS (.mk x [.mk a al, .mk c cl, .mk e []]) ([wIf] ++ (A ++ C))
  | ife (x a c e : Lab) (al cl el : List VT) (A C E : List ByteArray) (h : x.k = 23) (ha : WE (.mk a al) A) (hk : c.k = 29) (hc : WS (.mk c cl) C) (he : e.k = 29) (hn : el ≠ []) (hE : WS (.mk e el) E) : WS (.mk x [.mk a al, .mk c cl, .mk e el]) ([wIf] ++ (A ++ (C ++ ([wElse] ++ E))))
  | whl (x a c : Lab) (al cl : List VT) (A C : List ByteArray) (h : x.k = 24) (ha : WE (.mk a al) A) (hk : c.k = 29) (hc : WS (.mk c cl) C) : WS (.mk x [.mk a al, .mk c cl]) ([wWhil] ++ (A ++ C))
  | frr (x a b c : Lab) (al bl cl : List VT) (A B C : List ByteArray) (h : x.k = 25) (hs : x.s.size ≤ 8192) (ha : WE (.mk a al) A) (hb : WE (.mk b bl) B) (hk : c.k = 29) (hc : WS (.mk c cl) C) : WS (.mk x [.mk a al, .mk b bl, .mk c cl]) ([wFor] ++ ([x.s] ++ ([sIs] ++ (A ++ ([wTo] ++ (B ++ C))))))
  | prn (x a : Lab) (al : List VT) (A : List ByteArray) (h : x.k = 26) (ha : WE (.mk a al) A) : WS (.mk x [.mk a al]) ([wPrin] ++ (A ++ [sEnd]))
  | rtn (x a : Lab) (al : List VT) (A : List ByteArray) (h : x.k = 27) (ha : WE (.mk a al) A) : WS (.mk x [.mk a al]) ([wRet] ++ (A ++ [sEnd]))
  | doo (x a : Lab) (al : List VT) (A : List ByteArray) (h : x.k = 28) (ha : WE (.mk a al) A) : WS (.mk x [.mk a al]) ([wDo] ++ (A ++ [sEnd]))
theorem ws_ne {t : VT} {W : List ByteArray} (h : WS t W) : W ≠ [] := by cases h <;> simp
inductive WF : VT → List ByteArray → Prop
  | mk (x a : Lab) (al : List VT) (A : List ByteArray) (hs : x.s.size ≤ 8192) (ha : WTp (.mk a al) A) : WF (.mk x [.mk a al]) ([x.s] ++ ([sCol] ++ A))
inductive WD : VT → List ByteArray → Prop
  | rec' (x : Lab) (l : List VT) (Ws : List (List ByteArray)) (h : x.k = 30) (hs : x.s.size ≤ 8192) (hl : l.length = Ws.length) (hw : ∀ (i : Nat) t W, l[i]? = some t → Ws[i]? = some W → WF t W) : WD (.mk x l) ([wRec] ++ ([x.s] ++ ([sBra] ++ (pre [] (Ws.map (· ++ [sEnd])) ++ [sKet]))))
  | dfn (x a : Lab) (al : List VT) (A : List ByteArray) (h : x.k = 31) (hs : x.s.size ≤ 8192) (ha : WE (.mk a al) A) : WD (.mk x [.mk a al]) ([wConst] ++ ([x.s] ++ ([sIs] ++ (A ++ [sEnd]))))
  | var' (x a : Lab) (al : List VT) (A : List ByteArray) (h : x.k = 32) (hs : x.s.size ≤ 8192) (ha : WTp (.mk a al) A) : WD (.mk x [.mk a al]) ([wVar] ++ ([x.s] ++ ([sCol] ++ (A ++ [sEnd]))))
  | fn (x p r b : Lab) (pl rl bl : List VT) (Ws : List (List ByteArray)) (R B : List ByteArray) (h : x.k = 33) (hn : x.n = 0) (hs : x.s.size ≤ 8192) (hl : pl.length = Ws.length) (hw : ∀ (i : Nat) t W, pl[i]? = some t → Ws[i]? = some W → WF t W) (hr : WTp (.mk r rl) R) (hk : b.k = 29) (hb : WS (.mk b bl) B) : WD (.mk x [.mk p pl, .mk r rl, .mk b bl]) ([wFn] ++ ([x.s] ++ ([sParO] ++ (pre [sCom] Ws ++ ([sParS] ++ ([sCol] ++ (R ++ B)))))))
  | pub (x p r b : Lab) (pl rl bl : List VT) (Ws : List (List ByteArray)) (R B : List ByteArray) (h : x.k = 33) (hn : x.n = 1) (hs : x.s.size ≤ 8192) (hl : pl.length = Ws.length) (hw : ∀ (i : Nat) t W, pl[i]? = some t → Ws[i]? = some W → WF t W) (hr : WTp (.mk r rl) R) (hk : b.k = 29) (hb : WS (.mk b bl) B) : WD (.mk x [.mk p pl, .mk r rl, .mk b bl]) ([wPub] ++ ([wFn] ++ ([x.s] ++ ([sParO] ++ (pre [sCom] Ws ++ ([sParS] ++ ([sCol] ++ (R ++ B))))))))
def Sml (W : List ByteArray) : Prop := ∀ w ∈ W, w.size ≤ 8192
theorem sml_app {A B : List ByteArray} : Sml (A ++ B) ↔ Sml A ∧ Sml B := ⟨fun h => ⟨fun w hw => h w (List.mem_append_left _ hw), fun w hw => h w (List.mem_append_right _ hw)⟩, fun h w hw => (List.mem_append.1 hw).elim (h.1 w) (h.2 w)⟩
theorem J_sml {W : List ByteArray} (h : Sml W) (hl : W.length ≤ 100000) : (J W).size ≤ 819300000 := by
  have h1 := J_size_le W h
  have : W.length * (8192 + 1) ≤ 100000 * 8193 := Nat.mul_le_mul_right _ hl
  omega
end Go.Proofs.YtlkggpjdaaglmaaGreatDoor.am
end
section
namespace Go.Proofs.YtlkggpjdaaglmaaGreatDoor.am
open vt
set_option linter.unusedVariables false
inductive Sm : VT → VT → Prop
  | mk (x y : Lab) (l m : List VT) (hk : x.k = y.k) (hn : x.n = y.n) (hs : x.s = y.s) (hl : l.length = m.length) (h : ∀ (i : Nat) a b, l[i]? = some a → m[i]? = some b → Sm a b) : Sm (.mk x l) (.mk y m)
structure Lke (x y : Tok) : Prop where
  k : x.k = y.k
  n : x.n = y.n
  s : x.s = y.s
theorem lke_isK {x y : Tok} (h : Lke x y) (s : ByteArray) : isK s x = isK s y := by unfold isK; rw [h.k, h.s]
theorem lke_opK {x y : Tok} (h : Lke x y) : opK x = opK y := by unfold opK; rw [h.k, h.s]
def kwd (s : ByteArray) : Tok := ⟨quo s, 0, s, 0, 0⟩
def nmT (s : ByteArray) : Tok := ⟨1, 0, s, 0, 0⟩
def nbT (n : Int) : Tok := ⟨2, n, ⟨#[]⟩, 0, 0⟩
theorem isK_nm (s w : ByteArray) : isK w (nmT s) = false := by
  unfold isK nmT
  have : ¬ (1 : Int) = quo w := by rcases quo_34 w with h | h <;> rw [h] <;> decide
  rw [decide_eq_false this]; rfl
theorem isK_nb (n : Int) (w : ByteArray) : isK w (nbT n) = false := by
  unfold isK nbT
  have : ¬ (2 : Int) = quo w := by rcases quo_34 w with h | h <;> rw [h] <;> decide
  rw [decide_eq_false this]; rfl
def Lk (ts : List Tok) (i : Nat) (M : List Tok) : Prop := ∀ (j : Nat) y, M[j]? = some y → Lke (nxt ts (i + j)) y
theorem lk_app {ts : List Tok} {i : Nat} {A B : List Tok} : Lk ts i (A ++ B) ↔ Lk ts i A ∧ Lk ts (i + A.length) B := by
  constructor
  · intro h
    refine ⟨fun j y hy => h j y ?_, fun j y hy => ?_⟩
    · rw [List.getElem?_append_left (List.getElem?_eq_some_iff.1 hy).1]; exact hy
    · have := h (A.length + j) y (by rw [List.getElem?_append_right (by omega), Nat.add_sub_cancel_left]; exact hy)
      rwa [← Nat.add_assoc] at this
  · rintro ⟨h1, h2⟩ j y hy
    rcases Nat.lt_or_ge j A.length with hj | hj
    · rw [List.getElem?_append_left hj] at hy; exact h1 j y hy
    · rw [List.getElem?_append_right hj] at hy
      have := h2 (j - A.length) y hy
      rwa [show i + A.length + (j - A.length) = i + j by omega] at this
theorem lk_one {ts : List Tok} {i : Nat} {y : Tok} : Lk ts i [y] ↔ Lke (nxt ts i) y := by
  constructor
  · intro h; exact h 0 y rfl
  · intro h j z hz
    cases j with
    | zero => simp at hz; subst hz; exact h
    | succ j => simp at hz
def parK (b : Int) (A : List Tok) (n : Int) : List Tok := if n ≤ b then A else [kwd sParO] ++ A ++ [kwd sParS]
def preK (sep : List Tok) : List (List Tok) → List Tok
  | [] => []
  | W :: r => W ++ (r.map (sep ++ ·)).flatten
inductive KE : VT → List Tok → Prop
  | num (x : Lab) (h : x.k = 5) (hs : x.s = ⟨#[]⟩) (h0 : 0 ≤ x.n) (h1 : x.n ≤ 9223372036854775807) : KE (.mk x []) [nbT x.n]
  | tru (x : Lab) (h : x.k = 6) (hn : x.n = 1) (hs : x.s = ⟨#[]⟩) : KE (.mk x []) [kwd wTrue]
  | fls (x : Lab) (h : x.k = 6) (hn : x.n = 0) (hs : x.s = ⟨#[]⟩) : KE (.mk x []) [kwd wFals]
  | read (x : Lab) (h : x.k = 18) (hn : x.n = 0) (hs : x.s = ⟨#[]⟩) : KE (.mk x []) [kwd wRead]
  | nam (x : Lab) (h : x.k = 19) (hn : x.n = 0) : KE (.mk x []) [nmT x.s]
  | bin (x a c : Lab) (al cl : List VT) (A C : List Tok) (h : x.k = 10) (hs : x.s = ⟨#[]⟩) (h1 : 1 ≤ x.n) (h2 : x.n ≤ 13) (ha : KE (.mk a al) A) (hc : KE (.mk c cl) C) : KE (.mk x [.mk a al, .mk c cl]) (parK (tgh a) A (if (opB x.n).2 = 3 then 4 else (opB x.n).2) ++ ([kwd (opB x.n).1] ++ parK (tgh c) C ((opB x.n).2 + 1)))
  | neg (x a : Lab) (al : List VT) (A : List Tok) (h : x.k = 11) (hn : x.n = 1) (hs : x.s = ⟨#[]⟩) (ha : KE (.mk a al) A) : KE (.mk x [.mk a al]) ([kwd sMin] ++ parK (tgh a) A 6)
  | nt (x a : Lab) (al : List VT) (A : List Tok) (h : x.k = 11) (hn : x.n = 2) (hs : x.s = ⟨#[]⟩) (ha : KE (.mk a al) A) : KE (.mk x [.mk a al]) ([kwd sNot] ++ parK (tgh a) A 6)
  | idx (x a c : Lab) (al cl : List VT) (A C : List Tok) (h : x.k = 12) (hn : x.n = 0) (hs : x.s = ⟨#[]⟩) (ha : KE (.mk a al) A) (hc : KE (.mk c cl) C) : KE (.mk x [.mk a al, .mk c cl]) (parK (tgh a) A 7 ++ ([kwd sOpen] ++ (C ++ [kwd sShut])))
  | fld (x a : Lab) (al : List VT) (A : List Tok) (h : x.k = 13) (hn : x.n = 0) (ha : KE (.mk a al) A) : KE (.mk x [.mk a al]) (parK (tgh a) A 7 ++ ([kwd sDot] ++ [nmT x.s]))
  | lst (x : Lab) (l : List VT) (Ms : List (List Tok)) (h : x.k = 14) (hn : x.n = 0) (hs : x.s = ⟨#[]⟩) (h0 : l ≠ []) (hl : l.length = Ms.length) (hw : ∀ (i : Nat) t M, l[i]? = some t → Ms[i]? = some M → KE t M) : KE (.mk x l) ([kwd sOpen] ++ (preK [kwd sCom] Ms ++ [kwd sShut]))
  | mak (x : Lab) (l : List VT) (Ms : List (List Tok)) (h : x.k = 15) (hn : x.n = 0) (h0 : l ≠ []) (hl : l.length = Ms.length) (hw : ∀ (i : Nat) t M, l[i]? = some t → Ms[i]? = some M → KE t M) : KE (.mk x l) ([kwd wNew] ++ ([nmT x.s] ++ ([kwd sParO] ++ (preK [kwd sCom] Ms ++ [kwd sParS]))))
  | cal (x : Lab) (l : List VT) (Ms : List (List Tok)) (h : x.k = 16) (hn : x.n = 0) (hl : l.length = Ms.length) (hw : ∀ (i : Nat) t M, l[i]? = some t → Ms[i]? = some M → KE t M) : KE (.mk x l) ([nmT x.s] ++ ([kwd sParO] ++ (preK [kwd sCom] Ms ++ [kwd sParS])))
  | ext (x : Lab) (l : List VT) (Ms : List (List Tok)) (h : x.k = 17) (hn : x.n = 0) (hl : l.length = Ms.length) (hw : ∀ (i : Nat) t M, l[i]? = some t → Ms[i]? = some M → KE t M) : KE (.mk x l) ([kwd sAt] ++ ([nmT x.s] ++ ([kwd sParO] ++ (preK [kwd sCom] Ms ++ [kwd sParS]))))
structure Fol (l : Nat) (z : Tok) : Prop where
  op : ∀ w, l < w → w ≤ 5 → (opK z).2 ≠ w
  noO : isK sOpen z = false
  noD : isK sDot z = false
  noP : isK sParO z = false
theorem Fol.mono {l m : Nat} {z : Tok} (h : Fol l z) (hl : l ≤ m) : Fol m z := ⟨fun w h1 h2 => h.op w (by omega) h2, h.noO, h.noD, h.noP⟩
theorem fol_lke {l : Nat} {x y : Tok} (h : Lke x y) (f : Fol l y) : Fol l x := ⟨fun w h1 h2 => by rw [lke_opK h]; exact f.op w h1 h2, by rw [lke_isK h]; exact f.noO, by rw [lke_isK h]; exact f.noD, by rw [lke_isK h]; exact f.noP⟩
theorem fol_kwd {s : ByteArray} (h1 : (opK (kwd s)).2 = 6) (h2 : isK sOpen (kwd s) = false) (h3 : isK sDot (kwd s) = false) (h4 : isK sParO (kwd s) = false) : Fol 0 (kwd s) := ⟨fun w a b => by rw [h1]; omega, h2, h3, h4⟩
def Red (ts : List Tok) (w i N : Nat) (t : VT) : Prop :=
  i < N ∧ N ≤ ts.length ∧
  (w = 7 → Fol 5 (nxt ts N) ∨ isK sOpen (nxt ts N) = true ∨ isK sDot (nxt ts N) = true → unN ts i = 0 ∧ ∃ m, ts.length + 1 ≤ m + (N - i) ∧ Qx ts 7 i = lpP ts (Qx ts 1) i m (t, N, 0)) ∧
  (w = 6 → Fol 5 (nxt ts N) → Qx ts 6 i = (t, N, 0)) ∧
  (1 ≤ w → w ≤ 5 → Fol w (nxt ts N) → ∃ m f, ts.length + 1 ≤ m + (N - i) ∧ Qx ts w i = lpL ts (Qx ts (w + 1)) w i m f (t, N, 0))
section
variable {ts : List Tok}
theorem lpL_done {P : Nat → Got} {l a m : Nat} {f : Bool} {t : VT} {N : Nat} (h : (opK (nxt ts N)).2 ≠ l) : lpL ts P l a m f (t, N, 0) = (t, N, 0) := by
  cases m with
  | zero => rw [lpL]
  | succ m => rw [lpL, if_neg (by simp), if_pos (.inl h)]
theorem lpP_done {E : Nat → Got} {a m : Nat} {t : VT} {N : Nat} (h1 : isK sOpen (nxt ts N) = false) (h2 : isK sDot (nxt ts N) = false) : lpP ts E a m (t, N, 0) = (t, N, 0) := by
  cases m with
  | zero => rw [lpP]
  | succ m =>
    rw [lpP, if_neg (by simp)]
    dsimp only
    rw [if_neg (by rw [h1]; simp), if_neg (by rw [h2]; simp)]
theorem red7 {w i N : Nat} {t : VT} (h : Red ts w i N t) (hw : w = 7) (hf : Fol 5 (nxt ts N)) : Qx ts 7 i = (t, N, 0) := by
  obtain ⟨_, _, h7, _⟩ := h
  obtain ⟨_, m, _, e⟩ := h7 hw (.inl hf)
  rw [e, lpP_done hf.noO hf.noD]
theorem red6 {w i N : Nat} {t : VT} (h : Red ts w i N t) (hw : 6 ≤ w) (hw7 : w ≤ 7) (hf : Fol 5 (nxt ts N)) : Qx ts 6 i = (t, N, 0) := by
  by_cases h7 : w = 7
  · have e := red7 h h7 hf
    have hu := (h.2.2.1 h7 (.inl hf)).1
    rw [Q_eq 6 i (by decide) (by decide) (by have := h.1; have := h.2.1; omega)]
    unfold bG
    rw [if_neg (by decide), if_pos rfl, if_pos hu]
    exact e
  · exact h.2.2.2.1 (by omega) hf
theorem red_low {w i N : Nat} {t : VT} (h : Red ts w i N t) (hw7 : w ≤ 7) : ∀ n l, 6 - l ≤ n → 1 ≤ l → l ≤ 5 → l ≤ w → Fol l (nxt ts N) → ∃ m f, ts.length + 1 ≤ m + (N - i) ∧ (f = true → w = l) ∧ Qx ts l i = lpL ts (Qx ts (l + 1)) l i m f (t, N, 0) := by
  intro n
  induction n with
  | zero => intro l h1 h2 h3; omega
  | succ n ih =>
    intro l h1 h2 h3 h4 hf
    have hi : i ≤ ts.length := by have := h.1; have := h.2.1; omega
    by_cases hwl : w = l
    · obtain ⟨m, f, e1, e2⟩ := h.2.2.2.2 (by omega) (by omega) (by rw [hwl]; exact hf)
      rw [hwl] at e2
      exact ⟨m, f, e1, fun _ => hwl, e2⟩
    · have e : Qx ts (l + 1) i = (t, N, 0) := by
        by_cases h5 : l = 5
        · subst h5
          exact red6 h (by omega) hw7 hf
        · obtain ⟨m, f, e1, e2, e3⟩ := ih (l + 1) (by omega) (by omega) (by omega) (by omega) (hf.mono (by omega))
          rw [e3, lpL_done (hf.op (l + 1) (by omega) (by omega))]
      refine ⟨ts.length + 1, false, by omega, (fun h => Bool.noConfusion h), ?_⟩
      rw [Q_eq l i h2 (by omega) hi]
      unfold bG
      rw [if_pos h3, e]
theorem red_fin {w i N : Nat} {t : VT} (h : Red ts w i N t) (hw7 : w ≤ 7) {l : Nat} (h1 : 1 ≤ l) (hl : l ≤ w) (hl6 : l ≤ 6) (hf : Fol (l - 1) (nxt ts N)) : Qx ts l i = (t, N, 0) := by
  by_cases h6 : l = 6
  · subst h6; exact red6 h hl hw7 hf
  · obtain ⟨m, f, e1, e2, e3⟩ := red_low h hw7 6 l (by omega) h1 (by omega) hl (hf.mono (by omega))
    rw [e3, lpL_done (hf.op l (by omega) (by omega))]
end
end Go.Proofs.YtlkggpjdaaglmaaGreatDoor.am
end
section
namespace Go.Proofs.YtlkggpjdaaglmaaGreatDoor.am
open vt
set_option linter.unusedVariables false
theorem parK_len {b : Int} {A : List Tok} {n : Int} : A.length ≤ (parK b A n).length := by
  unfold parK
  split
  · exact Nat.le_refl _
  · simp only [List.length_append, List.length_singleton]; omega
theorem preK_two (S A B : List Tok) (r : List (List Tok)) : preK S (A :: B :: r) = A ++ (S ++ preK S (B :: r)) := by
  simp [preK]
theorem ke_tgh {t : VT} {M : List Tok} (h : KE t M) : 1 ≤ tgh t.lab ∧ tgh t.lab ≤ 7 := by
  have hx : ∀ {x : Lab} {l : List VT}, (Tr.mk x l).lab = x := rfl
  cases h
  case bin x a c al cl A C h hs h1 h2 ha hc =>
    rw [hx]
    unfold tgh
    rw [if_pos h]
    have : x.n = 1 ∨ x.n = 2 ∨ x.n = 3 ∨ x.n = 4 ∨ x.n = 5 ∨ x.n = 6 ∨ x.n = 7 ∨ x.n = 8 ∨ x.n = 9 ∨ x.n = 10 ∨ x.n = 11 ∨ x.n = 12 ∨ x.n = 13 := by omega
    rcases this with g | g | g | g | g | g | g | g | g | g | g | g | g <;> rw [g] <;> decide
  all_goals
    rw [hx]
    unfold tgh
    rw [if_neg (by omega)]
    split <;> decide
theorem ke_hd {t : VT} {M : List Tok} (h : KE t M) : ∃ y r, M = y :: r ∧ isK sParS y = false ∧ (tgh t.lab = 7 → isK sNot y = false ∧ isK sMin y = false) := by
  have hp : ∀ {a : Lab} {al : List VT} {A : List Tok} {n : Int}, tgh a ≤ 7 → (∃ y r, A = y :: r ∧ isK sParS y = false ∧ (tgh a = 7 → isK sNot y = false ∧ isK sMin y = false)) → ∃ y r, parK (tgh a) A n = y :: r ∧ isK sParS y = false ∧ (n = 7 → isK sNot y = false ∧ isK sMin y = false) := fun {a al A n} h7 ⟨y, r, h1, h2, h3⟩ => by
    unfold parK
    split
    · rename_i c
      refine ⟨y, r, h1, h2, fun e => h3 ?_⟩
      omega
    · exact ⟨_, _, rfl, by decide, fun _ => ⟨by decide, by decide⟩⟩
  have ap : ∀ {A B : List Tok} {P : Tok → Prop}, (∃ y r, A = y :: r ∧ P y) → ∃ y r, A ++ B = y :: r ∧ P y := fun {A B P} ⟨y, r, h1, h2⟩ => ⟨y, r ++ B, by rw [h1]; rfl, h2⟩
  induction h with
  | num x h hs h0 h1 => exact ⟨_, _, rfl, isK_nb _ _, fun _ => ⟨isK_nb _ _, isK_nb _ _⟩⟩
  | tru x h hn hs => exact ⟨_, _, rfl, by decide, fun _ => ⟨by decide, by decide⟩⟩
  | fls x h hn hs => exact ⟨_, _, rfl, by decide, fun _ => ⟨by decide, by decide⟩⟩
  | read x h hn hs => exact ⟨_, _, rfl, by decide, fun _ => ⟨by decide, by decide⟩⟩
  | nam x h hn => exact ⟨_, _, rfl, isK_nm _ _, fun _ => ⟨isK_nm _ _, isK_nm _ _⟩⟩
  | bin x a c al cl A C h hs h1 h2 ha hc ia ic =>
    obtain ⟨y, r, e, e1, e2⟩ := hp (a := a) (al := al) (n := if (opB x.n).2 = 3 then 4 else (opB x.n).2) (ke_tgh ha).2 ia
    refine ⟨y, _, by rw [e]; rfl, e1, fun h7 => ?_⟩
    exfalso
    have : (Tr.mk x [Tr.mk a al, Tr.mk c cl]).lab = x := rfl
    rw [this] at h7
    unfold tgh at h7
    rw [if_pos h] at h7
    have : x.n = 1 ∨ x.n = 2 ∨ x.n = 3 ∨ x.n = 4 ∨ x.n = 5 ∨ x.n = 6 ∨ x.n = 7 ∨ x.n = 8 ∨ x.n = 9 ∨ x.n = 10 ∨ x.n = 11 ∨ x.n = 12 ∨ x.n = 13 := by omega
    rcases this with g | g | g | g | g | g | g | g | g | g | g | g | g <;> rw [g] at h7 <;> exact absurd h7 (by decide)
  | neg x a al A h hn hs ha ia =>
    refine ⟨_, _, rfl, by decide, fun h7 => ?_⟩
    have : (Tr.mk x [Tr.mk a al]).lab = x := rfl
    rw [this] at h7
    unfold tgh at h7
    rw [if_neg (by omega), if_pos h] at h7
    exact absurd h7 (by decide)
  | nt x a al A h hn hs ha ia =>
    refine ⟨_, _, rfl, by decide, fun h7 => ?_⟩
    have : (Tr.mk x [Tr.mk a al]).lab = x := rfl
    rw [this] at h7
    unfold tgh at h7
    rw [if_neg (by omega), if_pos h] at h7
    exact absurd h7 (by decide)
  | idx x a c al cl A C h hn hs ha hc ia ic =>
    obtain ⟨y, r, e, e1, e2⟩ := hp (a := a) (al := al) (n := 7) (ke_tgh ha).2 ia
    exact ⟨y, _, by rw [e]; rfl, e1, fun _ => e2 rfl⟩
  | fld x a al A h hn ha ia =>
    obtain ⟨y, r, e, e1, e2⟩ := hp (a := a) (al := al) (n := 7) (ke_tgh ha).2 ia
    exact ⟨y, _, by rw [e]; rfl, e1, fun _ => e2 rfl⟩
  | lst x l Ms h hn hs h0 hl hw ih => exact ⟨_, _, rfl, by decide, fun _ => ⟨by decide, by decide⟩⟩
  | mak x l Ms h hn h0 hl hw ih => exact ⟨_, _, rfl, by decide, fun _ => ⟨by decide, by decide⟩⟩
  | cal x l Ms h hn hl hw ih => exact ⟨_, _, rfl, isK_nm _ _, fun _ => ⟨isK_nm _ _, isK_nm _ _⟩⟩
  | ext x l Ms h hn hl hw ih => exact ⟨_, _, rfl, by decide, fun _ => ⟨by decide, by decide⟩⟩
def Rds (ts : List Tok) (t : VT) (M : List Tok) : Prop := ∀ i, Lk ts i M → i + M.length ≤ ts.length → ∃ t', Sm t' t ∧ Red ts (tgh t.lab).toNat i (i + M.length) t'
section
variable {ts : List Tok}
theorem q7 {i N : Nat} {t : VT} (h : Qx ts 8 i = (t, N, 0)) (h1 : i < N) (h2 : N ≤ ts.length) (hu : unN ts i = 0) : Red ts 7 i N t := by
  refine ⟨h1, h2, fun _ _ => ⟨hu, ts.length + 1, by omega, ?_⟩, fun e => by omega, fun _ e => by omega⟩
  rw [Q_eq 7 i (by decide) (by decide) (by omega)]
  unfold bG
  rw [if_neg (by decide), if_neg (by decide), if_pos rfl, h]
theorem unN_zero {i : Nat} (h1 : isK sNot (nxt ts i) = false) (h2 : isK sMin (nxt ts i) = false) : unN ts i = 0 := by
  unfold unN
  rw [if_neg (by rw [h1]; simp), if_neg (by rw [h2]; simp)]
theorem q8 {i : Nat} (hi : i ≤ ts.length) : Qx ts 8 i = atoG ts (Qx ts 1) i := by
  rw [Q_eq 8 i (by decide) (by decide) hi]
  unfold bG
  rw [if_neg (by decide), if_neg (by decide), if_neg (by decide)]
theorem ato_parK {i N : Nat} {a : VT} (h : Lke (nxt ts i) (kwd sParO)) (he : Qx ts 1 (i + 1) = (a, N, 0)) (hc : isK sParS (nxt ts N) = true) (hi : i ≤ ts.length) : Qx ts 8 i = (a, N + 1, 0) := by
  rw [q8 hi]
  unfold atoG
  rw [if_neg (by rw [h.k]; decide), if_neg (by rw [lke_isK h]; decide), if_neg (by rw [lke_isK h]; decide), if_neg (by rw [lke_isK h]; decide), if_neg (fun g => absurd (h.k.symm.trans g.1) (by decide)), if_pos (by rw [lke_isK h]; decide), he]
  rw [if_neg (by simp), if_neg (by rw [hc]; simp)]
theorem fol_S {l : Nat} {i : Nat} (h : Lke (nxt ts i) (kwd sParS)) : Fol l (nxt ts i) := (fol_lke h (fol_kwd (by decide) (by decide) (by decide) (by decide))).mono (Nat.zero_le _)
theorem fol_C {l : Nat} {i : Nat} (h : Lke (nxt ts i) (kwd sCom)) : Fol l (nxt ts i) := (fol_lke h (fol_kwd (by decide) (by decide) (by decide) (by decide))).mono (Nat.zero_le _)
theorem fol_H {l : Nat} {i : Nat} (h : Lke (nxt ts i) (kwd sShut)) : Fol l (nxt ts i) := (fol_lke h (fol_kwd (by decide) (by decide) (by decide) (by decide))).mono (Nat.zero_le _)
theorem par_read {a : Lab} {al : List VT} {A : List Tok} (hk : KE (.mk a al) A) (ia : Rds ts (.mk a al) A) {n : Int} (hn1 : 1 ≤ n) (hn : n ≤ 7) {i : Nat} (h : Lk ts i (parK (tgh a) A n)) (hl : i + (parK (tgh a) A n).length ≤ ts.length) : ∃ (a' : VT) (w : Nat), Sm a' (.mk a al) ∧ n ≤ (w : Int) ∧ w ≤ 7 ∧ (w = (tgh a).toNat ∨ w = 7) ∧ Red ts w i (i + (parK (tgh a) A n).length) a' := by
  have ht := ke_tgh hk
  have hx : (Tr.mk a al).lab = a := rfl
  rw [hx] at ht
  by_cases c : n ≤ tgh a
  · have e : parK (tgh a) A n = A := by unfold parK; rw [if_pos c]
    rw [e] at h hl ⊢
    obtain ⟨a', h1, h2⟩ := ia i h hl
    rw [hx] at h2
    exact ⟨a', _, h1, by omega, by omega, .inl rfl, h2⟩
  · have e : parK (tgh a) A n = [kwd sParO] ++ A ++ [kwd sParS] := by unfold parK; rw [if_neg c]
    rw [e] at h hl ⊢
    obtain ⟨h12, h3⟩ := lk_app.1 h
    obtain ⟨h1, h2⟩ := lk_app.1 h12
    simp only [List.length_append, List.length_singleton] at hl h2 h3 ⊢
    have h1 := lk_one.1 h1
    have h3 := lk_one.1 h3
    obtain ⟨a', g1, g2⟩ := ia (i + 1) h2 (by omega)
    rw [hx] at g2
    rw [show i + (1 + A.length) = i + 1 + A.length by omega] at h3
    have he : Qx ts 1 (i + 1) = (a', i + 1 + A.length, 0) := red_fin g2 (by omega) (by decide) (by omega) (by decide) (fol_S h3)
    have h8 := ato_parK h1 he (by rw [lke_isK h3]; decide) (by omega)
    refine ⟨a', 7, g1, by omega, by omega, .inr rfl, ?_⟩
    rw [show i + (1 + A.length + 1) = i + 1 + A.length + 1 by omega]
    exact q7 h8 (by omega) (by omega) (unN_zero (by rw [lke_isK h1]; decide) (by rw [lke_isK h1]; decide))
def SmL (l m : List VT) : Prop := l.length = m.length ∧ ∀ (i : Nat) a b, l[i]? = some a → m[i]? = some b → Sm a b
theorem lpC_read : ∀ (l : List VT) (Ms : List (List Tok)), l ≠ [] → l.length = Ms.length → (∀ (k : Nat) t M, l[k]? = some t → Ms[k]? = some M → KE t M ∧ Rds ts t M) → ∀ (m i : Nat) (acc : List VT) (y : Tok), Lk ts i (preK [kwd sCom] Ms) → i + (preK [kwd sCom] Ms).length ≤ ts.length → Lke (nxt ts (i + (preK [kwd sCom] Ms).length)) y → Fol 0 y → isK sCom y = false → Ms.length ≤ m → ∃ l', SmL l' l ∧ lpC ts (Qx ts 1) m i acc = (acc ++ l', i + (preK [kwd sCom] Ms).length, 0)
  | [], Ms, h0, hl, hw, m, i, acc, y, h1, h2, h3, h4, h5, h6 => absurd rfl h0
  | t :: l, [], h0, hl, hw, m, i, acc, y, h1, h2, h3, h4, h5, h6 => by simp at hl
  | [t], [M], h0, hl, hw, m, i, acc, y, h1, h2, h3, h4, h5, h6 => by
    have e : preK [kwd sCom] [M] = M := by simp [preK]
    rw [e] at h1 h2 h3 ⊢
    obtain ⟨hk, hr⟩ := hw 0 t M rfl rfl
    obtain ⟨t', g1, g2⟩ := hr i h1 h2
    have ht := ke_tgh hk
    have he : Qx ts 1 i = (t', i + M.length, 0) := red_fin g2 (by omega) (by decide) (by omega) (by decide) (fol_lke h3 h4)
    obtain ⟨m, rfl⟩ : ∃ q, m = q + 1 := ⟨m - 1, by simp at h6; omega⟩
    refine ⟨[t'], ⟨rfl, fun k a b ha hb => ?_⟩, ?_⟩
    · cases k with
      | zero => simp at ha hb; subst ha hb; exact g1
      | succ k => simp at ha
    · rw [lpC, he, if_neg (by simp), if_pos (by rw [lke_isK h3]; exact h5)]
  | [t], M :: M2 :: Ms, h0, hl, hw, m, i, acc, y, h1, h2, h3, h4, h5, h6 => by simp at hl
  | t :: u :: l, [M], h0, hl, hw, m, i, acc, y, h1, h2, h3, h4, h5, h6 => by simp at hl
  | t :: u :: l, M :: M2 :: Ms, h0, hl, hw, m, i, acc, y, h1, h2, h3, h4, h5, h6 => by
    rw [preK_two] at h1 h2 h3 ⊢
    obtain ⟨k1, k2⟩ := lk_app.1 h1
    obtain ⟨k2, k3⟩ := lk_app.1 k2
    simp only [List.length_append, List.length_singleton] at h2 h3 k3 ⊢
    have k2 := lk_one.1 k2
    obtain ⟨hk, hr⟩ := hw 0 t M rfl rfl
    obtain ⟨t', g1, g2⟩ := hr i k1 (by omega)
    have ht := ke_tgh hk
    have he : Qx ts 1 i = (t', i + M.length, 0) := red_fin g2 (by omega) (by decide) (by omega) (by decide) (fol_C k2)
    obtain ⟨m, rfl⟩ : ∃ q, m = q + 1 := ⟨m - 1, by simp at h6; omega⟩
    have hN : i + (M.length + (1 + (preK [kwd sCom] (M2 :: Ms)).length)) = i + M.length + 1 + (preK [kwd sCom] (M2 :: Ms)).length := by omega
    rw [hN] at h2 h3 ⊢
    obtain ⟨l', q1, q2⟩ := lpC_read (u :: l) (M2 :: Ms) (by simp) (by simpa using hl) (fun k t' M' a b => hw (k + 1) t' M' (by simpa using a) (by simpa using b)) m (i + M.length + 1) (acc ++ [t']) y k3 h2 h3 h4 h5 (by simp at h6 ⊢; omega)
    refine ⟨t' :: l', ⟨by simp only [List.length_cons, q1.1], fun k a b ha hb => ?_⟩, ?_⟩
    · cases k with
      | zero => simp at ha hb; subst ha hb; exact g1
      | succ k => exact q1.2 k a b (by simpa using ha) (by simpa using hb)
    · rw [lpC, he, if_neg (by simp)]
      dsimp only
      rw [if_neg (by rw [lke_isK k2]; decide), q2]
      simp
end
end Go.Proofs.YtlkggpjdaaglmaaGreatDoor.am
end
