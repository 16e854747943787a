/-
  Layer 5: the tokens of a text stand in their order, the last one is its end: plain.
-/
import Derived.Test.YtlkggpjdaaglmaaDoorLexRow
import Derived.Test.YtlkggpjdaaglmaaDoorVtPlc
namespace Go.Proofs.YtlkggpjdaaglmaaDoor.am
open Go.ChangeShapes Go.WideShapes Go.ChangeAt Go.RowKit
open vt
set_option linter.unusedVariables false

/-- Tokens one behind the other, from a place on. -/
def CL (hi : Int) : Int → List Tok → Prop
  | lo, [] => lo ≤ hi
  | lo, x :: M => lo ≤ x.f ∧ x.f ≤ x.t ∧ CL hi x.t M
theorem cl_le {hi : Int} : ∀ {M : List Tok} {lo : Int}, CL hi lo M → lo ≤ hi
  | [], lo, h => h
  | x :: M, lo, ⟨h1, h2, h3⟩ => by have := cl_le h3; omega
theorem cl_at {hi : Int} : ∀ {M : List Tok} {lo : Int} (i : Nat), CL hi lo M → i < M.length → lo ≤ frT M i ∧ frT M i ≤ toT M i ∧ toT M i ≤ hi ∧ (i + 1 < M.length → toT M i ≤ frT M (i + 1))
  | x :: M, lo, 0, ⟨h1, h2, h3⟩, _ => by
    refine ⟨h1, h2, cl_le h3, fun h => ?_⟩
    cases M with
    | nil => simp at h
    | cons y M => exact h3.1
  | x :: M, lo, i + 1, ⟨h1, h2, h3⟩, hi => by
    have := cl_at i h3 (by simpa using hi)
    have e : ∀ j, frT (x :: M) (j + 1) = frT M j ∧ toT (x :: M) (j + 1) = toT M j := fun j => ⟨rfl, rfl⟩
    rw [(e i).1, (e i).2, (e (i + 1)).1]
    exact ⟨by omega, this.2.1, this.2.2.1, fun h => this.2.2.2 (by simpa using h)⟩
def T6 (x : Tok) : Prop := I6 x.n ∧ I6 x.f ∧ I6 x.t
theorem cl_to {hi lo : Int} {M : List Tok} (h : CL hi lo M) (h6 : ∀ x ∈ M, T6 x) : TO M := ⟨fun i hi => by
  obtain ⟨x, hx⟩ : ∃ x, M[i]? = some x := ⟨_, List.getElem?_eq_getElem hi⟩
  rw [nxt_some hx]; exact h6 x (List.mem_of_getElem? hx), fun i hi => (cl_at i h hi).2.1, fun i hi => (cl_at i h (by omega)).2.2.2 hi⟩
theorem cl_snoc {hi : Int} : ∀ {M : List Tok} {lo : Int} {x : Tok}, CL x.f lo M → x.f ≤ x.t → x.t ≤ hi → CL hi lo (M ++ [x])
  | [], lo, x, h, h1, h2 => ⟨h, h1, h2⟩
  | y :: M, lo, x, ⟨a1, a2, a3⟩, h1, h2 => ⟨a1, a2, cl_snoc a3 h1 h2⟩
def enT (s : ByteArray) : Tok := tkT (lx.tkEnd s)
theorem on_kind {s : ByteArray} {i : Nat} (hi : i < s.size) (h : (lx.on s i).2 = 0) : (lx.on s i).1.k ≠ 5 := by
  by_cases hL : lx.isL (lx.B s i) = true
  · by_cases h2 : 16 < lx.run lx.isN s i - i
    · rw [lx.tk_long hL h2] at h; simp at h
    · rw [lx.tk_name hL h2]; dsimp only; split <;> decide
  · have hL : lx.isL (lx.B s i) = false := by simpa using hL
    by_cases hD : lx.isD (lx.B s i) = true
    · cases hn : lx.num (s.extract i (lx.run lx.isD s i)) with
      | none => rw [lx.tk_nonum hL hD hn] at h; simp at h
      | some n => rw [lx.tk_number hL hD hn]; show (2 : Int) ≠ 5; decide
    · have hD : lx.isD (lx.B s i) = false := by simpa using hD
      by_cases hs : lx.sgN s i = 0
      · rw [lx.tk_none hL hD hs] at h; simp at h
      · rw [lx.tk_sign hL hD hs]; show (4 : Int) ≠ 5; decide
theorem on_n6 {s : ByteArray} {i : Nat} (hi : i < s.size) (h : (lx.on s i).2 = 0) : I6 (lx.on s i).1.n := by
  by_cases hL : lx.isL (lx.B s i) = true
  · by_cases h2 : 16 < lx.run lx.isN s i - i
    · rw [lx.tk_long hL h2] at h; simp at h
    · rw [lx.tk_name hL h2]; show I6 0; decide
  · have hL : lx.isL (lx.B s i) = false := by simpa using hL
    by_cases hD : lx.isD (lx.B s i) = true
    · cases hn : lx.num (s.extract i (lx.run lx.isD s i)) with
      | none => rw [lx.tk_nonum hL hD hn] at h; simp at h
      | some n =>
        rw [lx.tk_number hL hD hn]
        have := (lx.num_spell (lx.dig_cut (Nat.le_of_lt hi)) hn).2
        show I6 n
        exact ⟨by omega, this.2⟩
    · have hD : lx.isD (lx.B s i) = false := by simpa using hD
      by_cases hs : lx.sgN s i = 0
      · rw [lx.tk_none hL hD hs] at h; simp at h
      · rw [lx.tk_sign hL hD hs]; show I6 0; decide
theorem toks_ord (s : ByteArray) (hs : s.size ≤ 8192) : ∀ n i, s.size - i ≤ n → i ≤ s.size → (lx.toks s i).2.2 = 0 → ∃ M, (lx.toks s i).1 = M ++ [lx.tkEnd s] ∧ CL s.size i (M.map tkT) ∧ (∀ x ∈ M, x.k ≠ 5 ∧ T6 (tkT x)) ∧ M.length + i ≤ s.size := by
  intro n
  induction n with
  | zero =>
    intro i hn hi h
    have hx := lx.nx_le hi
    rw [lx.toks, dif_neg (by omega)]
    exact ⟨[], rfl, (by show (i : Int) ≤ s.size; omega), (fun x h => by cases h), (by simp; omega)⟩
  | succ n ih =>
    intro i hn hi h
    have hx := lx.nx_le hi
    by_cases h1 : lx.nx s i < s.size
    · have h2 : (lx.on s (lx.nx s i)).2 = 0 := by
        by_cases h2 : (lx.on s (lx.nx s i)).2 = 0
        · exact h2
        · rw [lx.toks, dif_pos ⟨h1, hi⟩, dif_neg h2] at h; exact absurd h h2
      obtain ⟨hf, j, hj, hlt, hle⟩ := lx.on_to h1 h2
      have hk := on_kind h1 h2
      have h6 := on_n6 h1 h2
      rw [lx.toks, dif_pos ⟨h1, hi⟩, dif_pos h2] at h ⊢
      simp only at h ⊢
      obtain ⟨x, hxe⟩ : ∃ x, (lx.on s (lx.nx s i)).1 = x := ⟨_, rfl⟩
      rw [hxe] at hf hj hk h h6 ⊢
      have hjt : x.t.toNat = j := by rw [hj]; simp
      rw [hjt] at h ⊢
      by_cases h3 : (lx.toks s j).2.2 = 0; rotate_left
      · rw [if_neg h3] at h; exact absurd h h3
      rw [if_pos h3]
      obtain ⟨M, a1, a2, a3, a4⟩ := ih j (by omega) hle h3
      refine ⟨x :: M, by rw [a1]; rfl, ⟨?_, ?_, ?_⟩, fun y hy => ?_, by simp; omega⟩
      · show (i : Int) ≤ x.f; rw [hf]; omega
      · show x.f ≤ x.t; rw [hf, hj]; omega
      · show CL _ x.t (M.map tkT); rw [hj]; exact a2
      · rcases List.mem_cons.1 hy with rfl | hy
        · exact ⟨hk, h6, by show I6 y.f; rw [hf]; exact ⟨by omega, by omega⟩, by show I6 y.t; rw [hj]; exact ⟨by omega, by omega⟩⟩
        · exact a3 y hy
    · rw [lx.toks, dif_neg (by omega)]
      exact ⟨[], rfl, (by show (i : Int) ≤ s.size; omega), (fun x h => by cases h), (by simp; omega)⟩
/-- What a text's tokens are, if there are some. -/
structure TokOk (s : ByteArray) (ts : List Tok) : Prop where
  ex : ∃ M, ts = M ++ [enT s] ∧ CL s.size 0 M ∧ (∀ x ∈ M, x.k ≠ 5 ∧ T6 x) ∧ M.length ≤ s.size ∧ s.size ≤ 8192
theorem tok_ok {s : ByteArray} (h : (tokG s).2.2 = 0) : TokOk s (tokG s).1 := by
  unfold tokG lx.tokens at h ⊢
  by_cases hb : 8192 < s.size
  · rw [if_pos hb] at h; exact absurd (show (3 : Int) = 0 from h) (by decide)
  rw [if_neg hb] at h ⊢
  obtain ⟨M, a1, a2, a3, a4⟩ := toks_ord s (by omega) s.size 0 (Nat.sub_le _ _) (Nat.zero_le _) h
  refine ⟨M.map tkT, ?_, a2, fun x hx => ?_, by simp; omega, by omega⟩
  · show ((lx.toks s 0).1).map tkT = _
    rw [a1, List.map_append]; rfl
  · obtain ⟨y, hy, rfl⟩ := List.mem_map.1 hx
    exact a3 y hy
theorem tok_to {s : ByteArray} {ts : List Tok} (h : TokOk s ts) : TO ts := by
  obtain ⟨M, rfl, h1, h2, h3, h4⟩ := h.ex
  refine cl_to (hi := s.size) (lo := 0) (cl_snoc (x := enT s) h1 (Int.le_refl _) (Int.le_refl _)) (fun x hx => ?_)
  rcases List.mem_append.1 hx with hx | hx
  · exact (h2 x hx).2
  · rw [List.mem_singleton.1 hx]
    have e : I6 (s.size : Int) := ⟨by omega, by omega⟩
    exact ⟨by show I6 0; decide, e, e⟩
theorem tok_len {s : ByteArray} {ts : List Tok} (h : TokOk s ts) : 0 < ts.length ∧ ts.length ≤ s.size + 1 := by
  obtain ⟨M, rfl, h1, h2, h3, h4⟩ := h.ex
  simp; omega
theorem tok_last {s : ByteArray} {ts : List Tok} (h : TokOk s ts) : nxt ts (ts.length - 1) = enT s := by
  obtain ⟨M, rfl, h1, h2, h3, h4⟩ := h.ex
  exact nxt_some (by simp)
/-- A term that was read from a text's tokens ends ahead of the end. -/
theorem tok_ahead {s : ByteArray} {ts : List Tok} (h : TokOk s ts) {i : Nat} {x : Got} (hk : OkG ts i x) (h0 : x.2.2 = 0) (hp : Pl ts i x) : x.2.1 < ts.length := by
  have hy := hk.yes h0
  have hn := (hp h0).ne
  rcases Nat.lt_or_ge x.2.1 ts.length with h1 | h1
  · exact h1
  · have : x.2.1 = ts.length := by omega
    rw [this, tok_last h] at hn
    exact absurd rfl hn
end Go.Proofs.YtlkggpjdaaglmaaDoor.am
