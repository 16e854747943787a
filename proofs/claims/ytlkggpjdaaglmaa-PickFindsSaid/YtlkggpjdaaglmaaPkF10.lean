import Derived.Test.YtlkggpjdaaglmaaPkF9
import Derived.Test.YtlkggpjdaaglmaaPkF8
import Derived.Test.YtlkggpjdaaglmaaPkF6
import Derived.Test.YtlkggpjdaaglmaaPkF4
import Derived.Test.YtlkggpjdaaglmaaPkF5
import Derived.Test.YtlkggpjdaaglmaaPkF3
import Derived.Test.YtlkggpjdaaglmaaPkF7
section
namespace Go.Proofs.Ytlkggpjdaaglmaa.am
open Go.ChangeShapes Go.WideShapes Go.ChangeAt Go.RowKit
open vt
set_option linter.unusedVariables false
def CL (hi : Int) : Int → List Tok → Prop
  | lo, [] => lo ≤ hi
  | lo, x :: M => lo ≤ x.f ∧ x.f ≤ x.t ∧ CL hi x.t M
def T6 (x : Tok) : Prop := I6 x.n ∧ I6 x.f ∧ I6 x.t
def enT (s : ByteArray) : Tok := tkT (lx.tkEnd s)
theorem on_kind {s : ByteArray} {i : Nat} (hi : i < s.size) (h : (lx.on s i).2 = 0) : (lx.on s i).1.k ≠ 5 := by
  by_cases hL : lx.isL (lx.B s i) = true
  · by_cases h2 : 16 < lx.run lx.isN s i - i
    · rw [lx.tk_long hL h2] at h; simp at h
    · rw [lx.tk_name hL h2]; dsimp only; split <;> decide
  · have hL : lx.isL (lx.B s i) = false := by simpa using hL
    by_cases hD : lx.isD (lx.B s i) = true
    · cases hn : lx.num (s.extract i (lx.run lx.isD s i)) with
      | none => rw [lx.tk_nonum hL hD hn] at h; simp at h
      | some n => rw [lx.tk_number hL hD hn]; show (2 : Int) ≠ 5; decide
    · have hD : lx.isD (lx.B s i) = false := by simpa using hD
      by_cases hs : lx.sgN s i = 0
      · rw [lx.tk_none hL hD hs] at h; simp at h
      · rw [lx.tk_sign hL hD hs]; show (4 : Int) ≠ 5; decide
theorem on_n6 {s : ByteArray} {i : Nat} (hi : i < s.size) (h : (lx.on s i).2 = 0) : I6 (lx.on s i).1.n := by
  by_cases hL : lx.isL (lx.B s i) = true
  · by_cases h2 : 16 < lx.run lx.isN s i - i
    · rw [lx.tk_long hL h2] at h; simp at h
    · rw [lx.tk_name hL h2]; show I6 0; decide
  · have hL : lx.isL (lx.B s i) = false := by simpa using hL
    by_cases hD : lx.isD (lx.B s i) = true
    · cases hn : lx.num (s.extract i (lx.run lx.isD s i)) with
      | none => rw [lx.tk_nonum hL hD hn] at h; simp at h
      | some n =>
        rw [lx.tk_number hL hD hn]
        have := (lx.num_spell (lx.dig_cut (Nat.le_of_lt hi)) hn).2
        show I6 n
        exact ⟨by omega, this.2⟩
    · have hD : lx.isD (lx.B s i) = false := by simpa using hD
      by_cases hs : lx.sgN s i = 0
      · rw [lx.tk_none hL hD hs] at h; simp at h
      · rw [lx.tk_sign hL hD hs]; show I6 0; decide
theorem toks_ord (s : ByteArray) (hs : s.size ≤ 8192) : ∀ n i, s.size - i ≤ n → i ≤ s.size → (lx.toks s i).2.2 = 0 → ∃ M, (lx.toks s i).1 = M ++ [lx.tkEnd s] ∧ CL s.size i (M.map tkT) ∧ (∀ x ∈ M, x.k ≠ 5 ∧ T6 (tkT x)) ∧ M.length + i ≤ s.size := by
  intro n
  induction n with
  | zero =>
    intro i hn hi h
    have hx := lx.nx_le hi
    rw [lx.toks, dif_neg (by omega)]
    exact ⟨[], rfl, (by show (i : Int) ≤ s.size; omega), (fun x h => by cases h), (by simp; omega)⟩
  | succ n ih =>
    intro i hn hi h
    have hx := lx.nx_le hi
    by_cases h1 : lx.nx s i < s.size
    · have h2 : (lx.on s (lx.nx s i)).2 = 0 := by
        by_cases h2 : (lx.on s (lx.nx s i)).2 = 0
        · exact h2
        · rw [lx.toks, dif_pos ⟨h1, hi⟩, dif_neg h2] at h; exact absurd h h2
      obtain ⟨hf, j, hj, hlt, hle⟩ := lx.on_to h1 h2
      have hk := on_kind h1 h2
      have h6 := on_n6 h1 h2
      rw [lx.toks, dif_pos ⟨h1, hi⟩, dif_pos h2] at h ⊢
      simp only at h ⊢
      obtain ⟨x, hxe⟩ : ∃ x, (lx.on s (lx.nx s i)).1 = x := ⟨_, rfl⟩
      rw [hxe] at hf hj hk h h6 ⊢
      have hjt : x.t.toNat = j := by rw [hj]; simp
      rw [hjt] at h ⊢
      by_cases h3 : (lx.toks s j).2.2 = 0; rotate_left
      · rw [if_neg h3] at h; exact absurd h h3
      rw [if_pos h3]
      obtain ⟨M, a1, a2, a3, a4⟩ := ih j (by omega) hle h3
      refine ⟨x :: M, by rw [a1]; rfl, ⟨?_, ?_, ?_⟩, fun y hy => ?_, by simp; omega⟩
      · show (i : Int) ≤ x.f; rw [hf]; omega
      · show x.f ≤ x.t; rw [hf, hj]; omega
      · show CL _ x.t (M.map tkT); rw [hj]; exact a2
      · rcases List.mem_cons.1 hy with rfl | hy
        · exact ⟨hk, h6, by show I6 y.f; rw [hf]; exact ⟨by omega, by omega⟩, by show I6 y.t; rw [hj]; exact ⟨by omega, by omega⟩⟩
        · exact a3 y hy
    · rw [lx.toks, dif_neg (by omega)]
      exact ⟨[], rfl, (by show (i : Int) ≤ s.size; omega), (fun x h => by cases h), (by simp; omega)⟩
structure TokOk (s : ByteArray) (ts : List Tok) : Prop where
  ex : ∃ M, ts = M ++ [enT s] ∧ CL s.size 0 M ∧ (∀ x ∈ M, x.k ≠ 5 ∧ T6 x) ∧ M.length ≤ s.size ∧ s.size ≤ 8192
theorem tok_ok {s : ByteArray} (h : (tokG s).2.2 = 0) : TokOk s (tokG s).1 := by
  unfold tokG lx.tokens at h ⊢
  by_cases hb : 8192 < s.size
  · rw [if_pos hb] at h; exact absurd (show (3 : Int) = 0 from h) (by decide)
  rw [if_neg hb] at h ⊢
  obtain ⟨M, a1, a2, a3, a4⟩ := toks_ord s (by omega) s.size 0 (Nat.sub_le _ _) (Nat.zero_le _) h
  refine ⟨M.map tkT, ?_, a2, fun x hx => ?_, by simp; omega, by omega⟩
  · show ((lx.toks s 0).1).map tkT = _
    rw [a1, List.map_append]; rfl
  · obtain ⟨y, hy, rfl⟩ := List.mem_map.1 hx
    exact a3 y hy
theorem tok_len {s : ByteArray} {ts : List Tok} (h : TokOk s ts) : 0 < ts.length ∧ ts.length ≤ s.size + 1 := by
  obtain ⟨M, rfl, h1, h2, h3, h4⟩ := h.ex
  simp; omega
theorem tok_last {s : ByteArray} {ts : List Tok} (h : TokOk s ts) : nxt ts (ts.length - 1) = enT s := by
  obtain ⟨M, rfl, h1, h2, h3, h4⟩ := h.ex
  exact nxt_some (by simp)
end Go.Proofs.Ytlkggpjdaaglmaa.am
end
section
namespace Go.Proofs.Ytlkggpjdaaglmaa.vt
open Go.Proofs.Ytlkggpjdaaglmaa.am
set_option linter.unusedVariables false
noncomputable def dpt (t : VT) : Nat := Tr.fold (fun _ _ b => b.foldl max 0 + 1) t
theorem dpt_mk (x : Lab) (l : List VT) : dpt (.mk x l) = (l.map dpt).foldl max 0 + 1 := Tr.fold_mk _ x l
noncomputable def dmx (l : List VT) (k : Nat) : Nat := ((l.take k).map dpt).foldl max 0
theorem dmx_succ {l : List VT} {k : Nat} {x : VT} (h : l[k]? = some x) : dmx l (k + 1) = max (dmx l k) (dpt x) := by
  unfold dmx
  rw [List.take_add_one, h]
  simp
theorem foldl_max_le' (l : List Nat) : ∀ (a b : Nat), a ≤ b → (∀ x ∈ l, x ≤ b) → l.foldl max a ≤ b := by
  induction l with
  | nil => intro a b h _; exact h
  | cons x l ih =>
    intro a b h hl
    exact ih _ _ (Nat.max_le.2 ⟨h, hl x (by simp)⟩) (fun y hy => hl y (by simp [hy]))
theorem dpt_le (t : VT) : dpt t ≤ t.size := by
  induction t using Tr.ind with
  | h x l ih =>
    rw [dpt_mk]
    have h1 : (l.map dpt).foldl max 0 ≤ Tr.size (Tr.mk x l) - 1 := foldl_max_le' _ _ _ (Nat.zero_le _) (fun y hy => by
      rw [List.mem_map] at hy
      obtain ⟨z, hz, rfl⟩ := hy
      have h1 := ih z hz
      obtain ⟨i, hi⟩ := List.mem_iff_getElem?.1 hz
      have h2 := Tr.size_at (x := x) hi
      omega)
    have := Tr.size_pos (Tr.mk x l)
    omega
theorem dmx_le {x : Lab} {l : List VT} (k : Nat) : dmx l k ≤ Tr.size (Tr.mk x l) := by
  unfold dmx
  refine foldl_max_le' _ _ _ (Nat.zero_le _) (fun y hy => ?_)
  rw [List.mem_map] at hy
  obtain ⟨z, hz, rfl⟩ := hy
  have h1 := dpt_le z
  obtain ⟨i, hi⟩ := List.mem_iff_getElem?.1 (List.mem_of_mem_take hz)
  have h2 := Tr.size_at (x := x) hi
  omega
def modT (s : ByteArray) (l : List VT) : VT := .mk ⟨36, 0, ⟨#[]⟩, 0, s.size⟩ l
noncomputable def modG (s : ByteArray) (ts : List Tok) : VT × Int × Int :=
  if (lpU ts (ts.length + 1) 0 []).2.2 ≠ 0 then (z0, frT ts (lpU ts (ts.length + 1) 0 []).2.1, (lpU ts (ts.length + 1) 0 []).2.2)
  else if 64 < (lpU ts (ts.length + 1) 0 []).1.length then (z0, 0, 11)
  else if 64 < dpt (modT s (lpU ts (ts.length + 1) 0 []).1) then (z0, 0, 7)
  else (modT s (lpU ts (ts.length + 1) 0 []).1, 0, 0)
noncomputable def unitG (s : ByteArray) : VT × Int × Int := if (tokG s).2.2 ≠ 0 then (z0, (tokG s).2.1, (tokG s).2.2) else modG s (tokG s).1
section
variable {ts : List Tok}
structure InvU (ts : List Tok) (C : List VT × Nat × Int) (x : Nat × Nat × List VT) : Prop where
  eq : lpU ts x.1 x.2.1 x.2.2 = C
  le : x.2.1 + 1 ≤ ts.length
  fuel : ts.length < x.1 + x.2.1
  few : x.2.2.length + x.1 ≤ ts.length + 1
  sz : sm x.2.2 ≤ x.2.1
theorem decl_ahead {s : ByteArray} (h : TokOk s ts) {i : Nat} (hi : i + 1 ≤ ts.length) : (declG ts i).2.1 + 1 ≤ ts.length := by
  have hk := (decl_oks (ts := ts) i (by omega)).ok.le (by omega)
  have hn := decl_ne5 (ts := ts) i (by omega)
  rcases Nat.lt_or_ge (declG ts i).2.1 ts.length with h1 | h1
  · exact h1
  · have e : (declG ts i).2.1 = ts.length := by omega
    rw [e] at hn
    have := hn (by omega)
    rw [tok_last h] at this
    exact absurd rfl this
theorem invU_next {s : ByteArray} (h : TokOk s ts) {m i : Nat} {acc : List VT} {C : List VT × Nat × Int} (hI : InvU ts C (m + 1, i, acc)) (h0 : ¬ ts.length ≤ i + 1) (h1 : (declG ts i).2.2 = 0) : InvU ts C (m, (declG ts i).2.1, acc ++ [(declG ts i).1]) := by
  have hk := decl_oks (ts := ts) i (by have := hI.le; dsimp only at this; omega)
  have hy := hk.ok.yes h1
  have hs := hk.sz h1
  obtain ⟨x1, x2, x3, x4, x5⟩ := hI
  dsimp only at x1 x2 x3 x4 x5
  rw [lpU, if_neg h0, if_neg (by simp [h1])] at x1
  exact ⟨x1, decl_ahead h x2, by dsimp only; omega, by dsimp only; rw [List.length_append, List.length_singleton]; omega, by dsimp only; rw [sm_app]; omega⟩
theorem lpU_sz : ∀ (m i : Nat) (acc : List VT), i ≤ ts.length → sm acc ≤ i → sm (lpU ts m i acc).1 ≤ ts.length
  | 0, i, acc, hi, h => by rw [lpU]; dsimp only; omega
  | m + 1, i, acc, hi, h => by
    rw [lpU]
    by_cases h0 : ts.length ≤ i + 1
    · rw [if_pos h0]; dsimp only; omega
    rw [if_neg h0]
    have hk := decl_oks (ts := ts) i hi
    by_cases h1 : (declG ts i).2.2 ≠ 0
    · rw [if_pos h1]; dsimp only; omega
    · rw [if_neg h1]
      have h1 : (declG ts i).2.2 = 0 := by simpa using h1
      have hs := hk.sz h1
      exact lpU_sz m _ _ (hk.ok.yes h1).2 (by rw [sm_app]; omega)
theorem mod_sz (s : ByteArray) (m : Nat) : (modT s (lpU ts m 0 []).1).size ≤ ts.length + 1 := by
  have := lpU_sz (ts := ts) m 0 [] (Nat.zero_le _) (by simp [sm])
  unfold modT
  rw [Tr.size_mk]
  unfold sm at this
  omega
end
end Go.Proofs.Ytlkggpjdaaglmaa.vt
end
section
namespace Go.Proofs.Ytlkggpjdaaglmaa.am
open vt
set_option linter.unusedVariables false
def sbs : List It → List Nat
  | [] => []
  | .sub w :: l => w :: sbs l
  | _ :: l => sbs l
theorem it_parts {ts : List Tok} {R : Nat → Nat → Got} {a : Nat} {k n : Int} : ∀ (l : List It) (tz : Nat) (s : ByteArray) (ps : List VT), It.els ∉ l → (itH ts R a k n l tz s ps).2.2 = 0 → ∃ b s' qs, (itH ts R a k n l tz s ps).1 = (mk7 ts a b k n s' (ps ++ qs)).1 ∧ qs.length = (sbs l).length ∧ ∀ (i w : Nat) q, (sbs l)[i]? = some w → qs[i]? = some q → ∃ j, (R w j).2.2 = 0 ∧ q = (R w j).1
  | [], tz, s, ps, hn, h => ⟨tz, s, [], by rw [itH, List.append_nil], rfl, fun i w q hw => by simp [sbs] at hw⟩
  | .sgn x :: l, tz, s, ps, hn, h => by
    rw [itG_sgn] at h ⊢
    by_cases c : isK x (nxt ts tz) = true
    · rw [if_pos c] at h ⊢
      exact it_parts l _ _ _ (fun h => hn (.tail _ h)) h
    · rw [if_neg c] at h; simp [bad7] at h
  | .nam :: l, tz, s, ps, hn, h => by
    rw [itG_nam] at h ⊢
    by_cases c : (nxt ts tz).k = 1
    · rw [if_pos c] at h ⊢
      exact it_parts l _ _ _ (fun h => hn (.tail _ h)) h
    · rw [if_neg c] at h; simp [bad7] at h
  | .sub w :: l, tz, s, ps, hn, h => by
    rw [itG_sub] at h ⊢
    by_cases c : (R w tz).2.2 = 0
    · rw [if_pos c] at h ⊢
      obtain ⟨b, s', qs, e1, e2, e3⟩ := it_parts l _ _ _ (fun h => hn (.tail _ h)) h
      refine ⟨b, s', (R w tz).1 :: qs, by rw [e1, List.append_assoc]; rfl, by simp [sbs, e2], fun i v q hv hq => ?_⟩
      cases i with
      | zero =>
        simp [sbs] at hv hq
        subst hv hq
        exact ⟨tz, c, rfl⟩
      | succ i =>
        simp [sbs] at hv hq
        exact e3 i v q hv hq
    · rw [if_neg c] at h; exact absurd h c
  | .els :: l, tz, s, ps, hn, h => absurd (.head _) hn
theorem lpB_kind {ts : List Tok} {S : Nat → Got} (a : Nat) : ∀ (m tz : Nat) (acc : List VT), (lpB ts S a m tz acc).2.2 = 0 → (lpB ts S a m tz acc).1.lab.k = 29
  | 0, tz, acc, h => by simp [lpB, bad7] at h
  | m + 1, tz, acc, h => by
    rw [lpB] at h ⊢
    by_cases h2 : isK sKet (nxt ts tz) = true
    · rw [if_pos h2]; rfl
    · rw [if_neg h2] at h ⊢
      by_cases h3 : (S tz).2.2 = 0
      · rw [if_pos h3] at h ⊢
        exact lpB_kind a m _ _ h
      · rw [if_neg h3] at h; exact absurd h h3
theorem blG_kind {ts : List Tok} {S : Nat → Got} {i : Nat} (h : (blG ts S i).2.2 = 0) : (blG ts S i).1.lab.k = 29 := by
  unfold blG at h ⊢
  by_cases c : isK sBra (nxt ts i) = true
  · rw [if_pos c] at h ⊢; exact lpB_kind i _ _ _ h
  · rw [if_neg c] at h; simp [bad7] at h
def FnB (d : VT) : Prop := ∀ (x : Lab) (l : List VT), d = .mk x l → x.k = 33 → ∀ y, l[2]? = some y → isE y.lab.k = false
theorem fnB_kind {x : Lab} {l : List VT} (h : x.k ≠ 33) : FnB (.mk x l) := fun x' l' e hk => by
  have := (Tr.mk.injEq _ _ _ _).mp e
  obtain ⟨rfl, rfl⟩ := this
  exact absurd hk h
theorem it_fnB {ts : List Tok} {a : Nat} {k n : Int} {l : List It} {tz : Nat} {s : ByteArray} (hn : It.els ∉ l) (hk : k ≠ 33 ∨ sbs l = [4, 1, 2]) (h : (itH ts (R9 ts) a k n l tz s []).2.2 = 0) : FnB (itH ts (R9 ts) a k n l tz s []).1 := by
  obtain ⟨b, s', qs, e1, e2, e3⟩ := it_parts l _ _ _ hn h
  rw [e1]
  show FnB (.mk _ ([] ++ qs))
  rcases hk with hk | hk
  · exact fnB_kind hk
  · intro x' l' e _ y hy
    obtain ⟨rfl, rfl⟩ := (Tr.mk.injEq _ _ _ _).mp e
    rw [List.nil_append] at hy
    obtain ⟨j, j1, rfl⟩ := e3 2 2 y (by rw [hk]; rfl) hy
    have : (R9 ts 2 j) = Blk9 ts j := by unfold R9; rw [if_pos rfl]
    rw [this] at j1 ⊢
    have hb := blG_kind j1
    unfold Blk9
    unfold isE
    rw [hb]; rfl
theorem decl_fnB {ts : List Tok} {i : Nat} (h : (declG ts i).2.2 = 0) : FnB (declG ts i).1 := by
  unfold declG at h ⊢
  split
  · rename_i c; rw [if_pos c] at h; exact it_fnB (by simp) (.inl (by decide)) h
  rename_i c; rw [if_neg c] at h
  split
  · rename_i c; rw [if_pos c] at h; exact it_fnB (by simp) (.inl (by decide)) h
  rename_i c; rw [if_neg c] at h
  split
  · rename_i c; rw [if_pos c] at h; exact it_fnB (by simp) (.inr rfl) h
  rename_i c; rw [if_neg c] at h
  split
  · rename_i c; rw [if_pos c] at h; exact it_fnB (by simp) (.inr rfl) h
  rename_i c; rw [if_neg c] at h
  split
  · rename_i c; rw [if_pos c] at h
    unfold recG at h ⊢
    split
    · rename_i c; rw [if_pos c] at h
      split
      · rename_i c; rw [if_pos c] at h
        unfold finC at h ⊢
        split
        · rename_i c; rw [if_pos c] at h; exact absurd h c
        · exact fnB_kind (show (30 : Int) ≠ 33 by decide)
      · rename_i c; rw [if_neg c] at h; simp [bad7] at h
    · rename_i c; rw [if_neg c] at h; simp [bad7] at h
  · rename_i c; rw [if_neg c] at h; simp [bad7] at h
theorem lpU_fnB {ts : List Tok} : ∀ (m i : Nat) (acc : List VT), (∀ d ∈ acc, FnB d) → ∀ d ∈ (lpU ts m i acc).1, FnB d
  | 0, i, acc, h => by rw [lpU]; exact h
  | m + 1, i, acc, h => by
    rw [lpU]
    by_cases h0 : ts.length ≤ i + 1
    · rw [if_pos h0]; exact h
    rw [if_neg h0]
    by_cases h1 : (declG ts i).2.2 ≠ 0
    · rw [if_pos h1]; exact h
    · rw [if_neg h1]
      have h1 : (declG ts i).2.2 = 0 := by simpa using h1
      refine lpU_fnB m _ _ (fun d hd => ?_)
      rcases List.mem_append.1 hd with hd | hd
      · exact h d hd
      · rw [List.mem_singleton.1 hd]; exact decl_fnB h1
theorem unit_fnB (s : ByteArray) {x : Lab} {l : List VT} (h : (unitG s).1 = .mk x l) : ∀ d ∈ l, FnB d := by
  have hz : ∀ {x l}, z0 = .mk x l → ∀ d ∈ l, FnB d := fun {x l} e d hd => by
    obtain ⟨rfl, rfl⟩ := (Tr.mk.injEq _ _ _ _).mp e
    cases hd
  unfold unitG at h
  split at h
  · exact hz h
  unfold modG at h
  split at h
  · exact hz h
  split at h
  · exact hz h
  split at h
  · exact hz h
  · obtain ⟨rfl, rfl⟩ := (Tr.mk.injEq _ _ _ _).mp h
    exact lpU_fnB _ _ _ (fun d hd => by cases hd)
theorem unit_sz40 (s : ByteArray) (hs : s.size ≤ 8000) : (unitG s).1.size ≤ 9000 := by
  have hz : Tr.size z0 = 1 := by simp [z0, Tr.size_mk]
  unfold unitG
  split
  · rw [hz]; decide
  · rename_i h
    have h : (tokG s).2.2 = 0 := by simpa using h
    have h1 := tok_len (tok_ok h)
    have h2 := mod_sz (ts := (tokG s).1) s ((tokG s).1.length + 1)
    unfold modG
    split
    · rw [hz]; decide
    split
    · rw [hz]; decide
    split
    · rw [hz]; decide
    · dsimp only; omega
theorem vl_eq {mx : Lab} {ml : List VT} (hF : ∀ d ∈ ml, FnB d) {q : List Int} {u : VT} (hu : atO q (.mk mx ml) = some u) : (isE u.lab.k && vlP (.mk mx ml) q) = vlD (.mk mx ml) q := by
  have hk : kdA (.mk mx ml) q q.length = u.lab.k := by unfold kdA; rw [List.take_length, hu]
  unfold vlP vlD
  rw [hk]
  by_cases h2 : 2 < q.length
  · rw [decide_eq_true h2, decide_eq_true (show 2 ≤ q.length by omega)]
    cases isE u.lab.k <;> simp
  · rw [decide_eq_false h2]
    by_cases h1 : 2 ≤ q.length; rotate_left
    · rw [decide_eq_false h1]; simp
    have hl : q.length = 2 := by omega
    obtain ⟨a, b, rfl⟩ : ∃ a b, q = [a, b] := by
      match q, hl with
      | [a, b], _ => exact ⟨a, b, rfl⟩
    obtain ⟨g0, g1, ⟨dx, dl⟩, g2, g3⟩ := at_head hu
    by_cases c1 : dx.k = 33; rotate_left
    · have : kdA (.mk mx ml) [a, b] 1 = dx.k := by
        unfold kdA
        show (match atO [a] (.mk mx ml) with | some u => u.lab.k | none => 0) = _
        rw [atO, if_pos g0, g2]; rfl
      rw [this]; simp [c1]
    by_cases c2 : b = 2; rotate_left
    · simp [c2]
    subst c2
    obtain ⟨_, _, y, y1, y2⟩ := at_head g3
    have := hF _ (List.mem_of_getElem? g2) dx dl rfl c1 y y1
    cases y2
    rw [this]; simp
theorem c_eq {mx : Lab} {ml : List VT} (hF : ∀ d ∈ ml, FnB d) {q : List Int} {u : VT} (hu : atO q (.mk mx ml) = some u) (fr tz : Int) : cV (.mk mx ml) fr tz q = cD (.mk mx ml) fr tz q := by
  have := vl_eq hF hu
  unfold cV cD
  rw [hu]
  dsimp only
  rw [Bool.and_assoc, this]
theorem fnd_congr {Q : List (List Int)} {c d : List Int → Bool} (h : ∀ q ∈ Q, c q = d q) : fndV Q c = fndV Q d := by
  have : Q.find? c = Q.find? d := by
    induction Q with
    | nil => rfl
    | cons q Q ih =>
      rw [List.find?_cons, List.find?_cons, h q (.head _), ih (fun r hr => h r (.tail _ hr))]
  unfold fndV
  rw [this]
end Go.Proofs.Ytlkggpjdaaglmaa.am
end
section
namespace Go.Proofs.Ytlkggpjdaaglmaa.am
open vt
noncomputable abbrev vT3i (r : VT × Int × Int) : AV := .tup [.agg (ta r.1), .c (.pv (I r.2.1)), .c (.pv (I r.2.2))]
abbrev zTb : AO := .box [.pv (I 0), .pv (I 0), .pv (Sx ⟨#[]⟩), .pv .nilS, .pv (I 0), .pv (I 0)]
end Go.Proofs.Ytlkggpjdaaglmaa.am
end
section
namespace Go.Proofs.Ytlkggpjdaaglmaa.am
open Go.ChangeShapes Go.WideShapes Go.ChangeAt Go.RowKit
open vt
set_option linter.unusedVariables false
set_option linter.unusedSimpArgs false
theorem td_tok : td Try.prog 67 = some ⟨true, 5, 48, [.lit (.int .i64 0), .lit (.int .i64 0), .lit (.string ⟨#[]⟩), .lit (.int .i64 0), .lit (.int .i64 0)], [(0, 1, false), (1, 1, false), (2, 1, false), (3, 1, false), (4, 1, false)], .struct⟩ := Eq.trans (by kernel_rfl) (Eq.refl _)
theorem td_toks : td Try.prog 60 = some ⟨false, 1, 24, [.nilS], [], (.slice 67)⟩ := Eq.trans (by kernel_rfl) (Eq.refl _)
theorem td_errno : td Try.prog 27 = some ⟨false, 1, 8, [.lit (.int .i64 0)], [], (.int .i64)⟩ := Eq.trans (by kernel_rfl) (Eq.refl _)
attribute [simp] td_tok td_toks td_errno
attribute [simp] kc
theorem tyG_int {ts : List Tok} {n i : Nat} (h : isK wInt (nxt ts i) = true) : tyG ts (n + 1) i = (.mk ⟨1, 0, ⟨#[]⟩, frT ts i, toT ts i⟩ [], i + 1, 0) := by rw [tyG, if_pos h]
theorem tyG_bool {ts : List Tok} {n i : Nat} (h1 : isK wInt (nxt ts i) = false) (h : isK wBool (nxt ts i) = true) : tyG ts (n + 1) i = (.mk ⟨2, 0, ⟨#[]⟩, frT ts i, toT ts i⟩ [], i + 1, 0) := by rw [tyG, if_neg (by simp [h1]), if_pos h]
theorem tyG_arr {ts : List Tok} {n i : Nat} (h1 : isK wInt (nxt ts i) = false) (h2 : isK wBool (nxt ts i) = false) (h : isK sOpen (nxt ts i) = true) : tyG ts (n + 1) i =
      if (nxt ts (i + 1)).k = 2 then
        if isK sShut (nxt ts (i + 2)) = true then
          if (tyG ts n (i + 3)).2.2 = 0 then (.mk ⟨3, (nxt ts (i + 1)).n, ⟨#[]⟩, frT ts i, toT ts ((tyG ts n (i + 3)).2.1 - 1)⟩ [(tyG ts n (i + 3)).1], (tyG ts n (i + 3)).2.1, 0)
          else tyG ts n (i + 3)
        else (z0, i + 2, 6)
      else (z0, i + 1, 6) := by rw [tyG, if_neg (by simp [h1]), if_neg (by simp [h2]), if_pos h]
theorem tyG_rec {ts : List Tok} {n i : Nat} (h1 : isK wInt (nxt ts i) = false) (h2 : isK wBool (nxt ts i) = false) (h3 : isK sOpen (nxt ts i) = false) : tyG ts (n + 1) i = if (nxt ts i).k = 1 then (.mk ⟨4, 0, (nxt ts i).s, frT ts i, toT ts i⟩ [], i + 1, 0) else (z0, i, 6) := by rw [tyG, if_neg (by simp [h1]), if_neg (by simp [h2]), if_neg (by simp [h3])]
theorem kind_at {ts : List Tok} {i : Nat} {k : Int} (h : (nxt ts i).k = k) (hk : k ≠ 5) : ∃ x, ts[i]? = some x ∧ nxt ts i = x ∧ x.k = k := by
  unfold nxt at h ⊢
  cases hx : ts[i]? with
  | none => rw [hx] at h; exact absurd h.symm hk
  | some x => rw [hx] at h; exact ⟨x, rfl, rfl, h⟩
end Go.Proofs.Ytlkggpjdaaglmaa.am
end
section
namespace Go.Proofs.Ytlkggpjdaaglmaa.am
open Go.ChangeShapes Go.WideShapes Go.ChangeAt Go.RowKit
open vt
set_option linter.unusedVariables false
set_option linter.unusedSimpArgs false
theorem td_got : td Try.prog 64 = some ⟨true, 8, 88, [.lit (.int .i64 0), .lit (.int .i64 0), .lit (.string ⟨#[]⟩), .nilS, .lit (.int .i64 0), .lit (.int .i64 0), .lit (.int .i64 0), .lit (.int .i64 0)], [(0, 6, true), (6, 1, false), (7, 1, false)], .struct⟩ := Eq.trans (by kernel_rfl) (Eq.refl _)
attribute [simp] td_got
noncomputable abbrev vG (r : VT × Nat × Int) : AV := .v (.agg (((tc r.1) ++ [I (r.2.1 : Nat), I r.2.2]).map .pv))
theorem vG_ren (r : VT × Nat × Int) (ρ : Nat → Nat) : (vG r).ren ρ = vG r := by
  show AV.v (.agg (((tc r.1 ++ [I (r.2.1 : Nat), I r.2.2]).map AC.pv).map (AC.ren ρ))) = _
  rw [ren_pure]
set_option maxRecDepth 100000 in
set_option maxHeartbeats 4000000 in
theorem now_row (ts : List Tok) (i : Nat) : Row Try.prog 50 [vKs ts, vI i] [] (vK (nxt ts i)) [] := by
  by_cases h : i < ts.length
  · obtain ⟨x, hx⟩ : ∃ x, ts[i]? = some x := ⟨_, List.getElem?_eq_getElem h⟩
    have hx' := (List.getElem?_eq_some_iff.1 hx).2
    rw [nxt_some hx]
    refine row_of Try.func50 rfl rfl (Nat.le_of_ble_eq_true rfl) ?_
    repeat (first | refine aw_seq ?_ | refine aw_skip ?_ | refine aw_block ?_ | refine aw_exit ?_ | refine aw_cond rfl (fun _ => ?_) (fun hb => absurd hb (by decide)) | refine aw_cond rfl (fun hb => absurd hb (by decide)) (fun _ => ?_) | (refine aw_reg (fun K hK => ?_); simp -implicitDefEqProofs [h, hx, hx']; refine hK _ ?_) | (refine aw_drw mixd (fun K hK => ?_); simp -implicitDefEqProofs [h, hx, hx']; refine hK _ _ (by rfl) ?_) | fail)
    refine aw_ret (fin_ret ?_); simp -implicitDefEqProofs [FinP, resV, resT] <;> try rfl
  · rw [nxt_none (by omega)]
    refine row_of Try.func50 rfl rfl (Nat.le_of_ble_eq_true rfl) ?_
    repeat (first | refine aw_seq ?_ | refine aw_skip ?_ | refine aw_block ?_ | refine aw_exit ?_ | refine aw_cond rfl (fun _ => ?_) (fun hb => absurd hb (by decide)) | refine aw_cond rfl (fun hb => absurd hb (by decide)) (fun _ => ?_) | (refine aw_reg (fun K hK => ?_); simp -implicitDefEqProofs [h]; refine hK _ ?_) | (refine aw_drw mixd (fun K hK => ?_); simp -implicitDefEqProofs [h]; refine hK _ _ (by rfl) ?_) | fail)
    refine aw_ret (fin_ret ?_); simp -implicitDefEqProofs [FinP, resV, resT, endK] <;> try rfl
set_option maxRecDepth 100000 in
set_option maxHeartbeats 4000000 in
theorem word_row (ts : List Tok) (i : Nat) (s : ByteArray) : Row Try.prog 46 [vKs ts, vI i, vS s] [] (vB (decide ((nxt ts i).k = 3) && decide ((nxt ts i).s = s))) [] := by
  have h := now_row ts i
  obtain ⟨⟨k, n, x, f, t⟩, hx⟩ : ∃ x, nxt ts i = x := ⟨_, rfl⟩
  rw [hx] at h ⊢
  refine row_of Try.func46 rfl rfl (Nat.le_of_ble_eq_true rfl) ?_
  repeat' (first | refine aw_seq ?_ | refine aw_skip ?_ | refine aw_block ?_ | refine aw_exit ?_ | refine aw_cond rfl (fun _ => ?_) (fun hb => absurd hb (by decide)) | refine aw_cond rfl (fun hb => absurd hb (by decide)) (fun _ => ?_) | (refine aw_reg (fun K hK => ?_); simp -implicitDefEqProofs [*]) | (refine aw_drw mixd (fun K hK => ?_); simp -implicitDefEqProofs [*]) | refine hK _ ?_ | refine hK _ _ (by rfl) ?_ | (refine ar_call (cp h ?_); simp -implicitDefEqProofs [*]) | (refine ard_call (dp h ?_); simp -implicitDefEqProofs [*]) | (refine aw_cond rfl (fun hb => ?_) (fun hb => ?_) <;> ((try simp only [decide_eq_true_eq, decide_eq_false_iff_not, Bool.not_eq_true', Bool.not_eq_false', Bool.not_eq_eq_eq_not, Bool.not_true, Bool.not_false, beq_iff_eq, beq_true, beq_false, bne_iff_ne, ne_eq, Decidable.not_not, Bool.and_eq_true, Bool.or_eq_true, Bool.and_eq_false_iff, Bool.or_eq_false_iff] at hb) <;> repeat' (refine Or.elim hb (fun hb => ?_) (fun hb => ?_)))) | (refine gx_split (fun hb => ?_) (fun hb => ?_) <;> ((try simp only [decide_eq_true_eq, decide_eq_false_iff_not, Bool.not_eq_true', Bool.not_eq_false', Bool.not_eq_eq_eq_not, Bool.not_true, Bool.not_false, beq_iff_eq, beq_true, beq_false, bne_iff_ne, ne_eq, Decidable.not_not, Bool.and_eq_true, Bool.or_eq_true, Bool.and_eq_false_iff, Bool.or_eq_false_iff] at hb) <;> repeat' (refine Or.elim hb (fun hb => ?_) (fun hb => ?_))) <;> simp -implicitDefEqProofs [*]) | (refine gxd_split (fun hb => ?_) (fun hb => ?_) <;> ((try simp only [decide_eq_true_eq, decide_eq_false_iff_not, Bool.not_eq_true', Bool.not_eq_false', Bool.not_eq_eq_eq_not, Bool.not_true, Bool.not_false, beq_iff_eq, beq_true, beq_false, bne_iff_ne, ne_eq, Decidable.not_not, Bool.and_eq_true, Bool.or_eq_true, Bool.and_eq_false_iff, Bool.or_eq_false_iff] at hb) <;> repeat' (refine Or.elim hb (fun hb => ?_) (fun hb => ?_))) <;> simp -implicitDefEqProofs [*]) | fail)
  all_goals (refine aw_ret (fin_ret ?_); simp -implicitDefEqProofs [FinP, resV, resT, *] <;> try rfl)
set_option maxRecDepth 100000 in
set_option maxHeartbeats 4000000 in
theorem sign_row (ts : List Tok) (i : Nat) (s : ByteArray) : Row Try.prog 51 [vKs ts, vI i, vS s] [] (vB (decide ((nxt ts i).k = 4) && decide ((nxt ts i).s = s))) [] := by
  have h := now_row ts i
  obtain ⟨⟨k, n, x, f, t⟩, hx⟩ : ∃ x, nxt ts i = x := ⟨_, rfl⟩
  rw [hx] at h ⊢
  refine row_of Try.func51 rfl rfl (Nat.le_of_ble_eq_true rfl) ?_
  repeat' (first | refine aw_seq ?_ | refine aw_skip ?_ | refine aw_block ?_ | refine aw_exit ?_ | refine aw_cond rfl (fun _ => ?_) (fun hb => absurd hb (by decide)) | refine aw_cond rfl (fun hb => absurd hb (by decide)) (fun _ => ?_) | (refine aw_reg (fun K hK => ?_); simp -implicitDefEqProofs [*]) | (refine aw_drw mixd (fun K hK => ?_); simp -implicitDefEqProofs [*]) | refine hK _ ?_ | refine hK _ _ (by rfl) ?_ | (refine ar_call (cp h ?_); simp -implicitDefEqProofs [*]) | (refine ard_call (dp h ?_); simp -implicitDefEqProofs [*]) | (refine aw_cond rfl (fun hb => ?_) (fun hb => ?_) <;> ((try simp only [decide_eq_true_eq, decide_eq_false_iff_not, Bool.not_eq_true', Bool.not_eq_false', Bool.not_eq_eq_eq_not, Bool.not_true, Bool.not_false, beq_iff_eq, beq_true, beq_false, bne_iff_ne, ne_eq, Decidable.not_not, Bool.and_eq_true, Bool.or_eq_true, Bool.and_eq_false_iff, Bool.or_eq_false_iff] at hb) <;> repeat' (refine Or.elim hb (fun hb => ?_) (fun hb => ?_)))) | (refine gx_split (fun hb => ?_) (fun hb => ?_) <;> ((try simp only [decide_eq_true_eq, decide_eq_false_iff_not, Bool.not_eq_true', Bool.not_eq_false', Bool.not_eq_eq_eq_not, Bool.not_true, Bool.not_false, beq_iff_eq, beq_true, beq_false, bne_iff_ne, ne_eq, Decidable.not_not, Bool.and_eq_true, Bool.or_eq_true, Bool.and_eq_false_iff, Bool.or_eq_false_iff] at hb) <;> repeat' (refine Or.elim hb (fun hb => ?_) (fun hb => ?_))) <;> simp -implicitDefEqProofs [*]) | (refine gxd_split (fun hb => ?_) (fun hb => ?_) <;> ((try simp only [decide_eq_true_eq, decide_eq_false_iff_not, Bool.not_eq_true', Bool.not_eq_false', Bool.not_eq_eq_eq_not, Bool.not_true, Bool.not_false, beq_iff_eq, beq_true, beq_false, bne_iff_ne, ne_eq, Decidable.not_not, Bool.and_eq_true, Bool.or_eq_true, Bool.and_eq_false_iff, Bool.or_eq_false_iff] at hb) <;> repeat' (refine Or.elim hb (fun hb => ?_) (fun hb => ?_))) <;> simp -implicitDefEqProofs [*]) | fail)
  all_goals (refine aw_ret (fin_ret ?_); simp -implicitDefEqProofs [FinP, resV, resT, *] <;> try rfl)
set_option maxRecDepth 100000 in
set_option maxHeartbeats 4000000 in
theorem bad_row (i : Nat) : Row Try.prog 49 [vI i] [] (vG (z0, i, 6)) [] := by
  refine row_of Try.func49 rfl rfl (Nat.le_of_ble_eq_true rfl) ?_
  repeat (first | refine aw_seq ?_ | refine aw_skip ?_ | refine aw_block ?_ | refine aw_exit ?_ | refine aw_cond rfl (fun _ => ?_) (fun hb => absurd hb (by decide)) | refine aw_cond rfl (fun hb => absurd hb (by decide)) (fun _ => ?_) | (refine aw_reg (fun K hK => ?_); simp -implicitDefEqProofs; refine hK _ ?_) | (refine aw_drw mixd (fun K hK => ?_); simp -implicitDefEqProofs; refine hK _ _ (by rfl) ?_) | fail)
  refine aw_ret (fin_ret ?_); simp -implicitDefEqProofs [FinP, resV, resT, z0] <;> try rfl
set_option maxRecDepth 100000 in
set_option maxHeartbeats 4000000 in
theorem make7_row (ts : List Tok) (a b : Nat) (k n : Int) (s : ByteArray) (l : List VT) (ha : a < ts.length) (hb : 0 < b) (hbl : b ≤ ts.length) (hl : ts.length ≤ 9223372036854775807) : Row Try.prog 53 [vKs ts, vI a, vI b, vI k, vI n, vS s, vLs l] [] (vG (.mk ⟨k, n, s, frT ts a, toT ts (b - 1)⟩ l, b, 0)) [] := by
  obtain ⟨y, hy⟩ : ∃ y, ts[a]? = some y := ⟨_, List.getElem?_eq_getElem ha⟩
  have hy' := (List.getElem?_eq_some_iff.1 hy).2
  obtain ⟨j, rfl⟩ : ∃ j, b = j + 1 := ⟨b - 1, by omega⟩
  have hi1 : j < ts.length := by omega
  obtain ⟨z, hz⟩ : ∃ z, ts[j]? = some z := ⟨_, List.getElem?_eq_getElem hi1⟩
  have hz' := (List.getElem?_eq_some_iff.1 hz).2
  rw [show frT ts a = y.f by unfold frT; rw [nxt_some hy], show toT ts (j + 1 - 1) = z.t by unfold toT; rw [Nat.add_sub_cancel, nxt_some hz]]
  have wj : IntKind.i64.wrap ((j : Nat) : Int) = (j : Nat) := i64i _ (by omega) (by omega)
  refine row_of Try.func53 rfl rfl (Nat.le_of_ble_eq_true rfl) ?_
  repeat (first | refine aw_seq ?_ | refine aw_skip ?_ | refine aw_block ?_ | refine aw_exit ?_ | refine aw_cond rfl (fun _ => ?_) (fun hb => absurd hb (by decide)) | refine aw_cond rfl (fun hb => absurd hb (by decide)) (fun _ => ?_) | (refine aw_reg (fun K hK => ?_); simp -implicitDefEqProofs [ha, hy, hy', hz, hz', hi1, wj]; refine hK _ ?_) | (refine aw_drw mixd (fun K hK => ?_); simp -implicitDefEqProofs [ha, hy, hy', hz, hz', hi1, wj]; refine hK _ _ (by rfl) ?_) | fail)
  refine aw_ret (fin_ret ?_); simp -implicitDefEqProofs [FinP, resV, resT] <;> try rfl
theorem word_is {s : ByteArray} (h : quo s = 3) (x : Tok) : (decide (x.k = 3) && decide (x.s = s)) = isK s x := by unfold isK; rw [h]
theorem sign_is {s : ByteArray} (h : quo s = 4) (x : Tok) : (decide (x.k = 4) && decide (x.s = s)) = isK s x := by unfold isK; rw [h]
set_option maxRecDepth 100000 in
set_option maxHeartbeats 4000000 in
theorem rtype_row (ts : List Tok) (hl : ts.length ≤ 9223372036854775000) : ∀ n i, ts.length - i < n → i ≤ ts.length → Row Try.prog 68 [vKs ts, vI i] [] (vG (tyG ts n i)) [] := by
  intro n
  induction n with
  | zero => intro i h; omega
  | succ n ih =>
  intro i hn hi
  have q1 := word_row ts i wInt
  rw [word_is (by decide)] at q1
  have q2 := word_row ts i wBool
  rw [word_is (by decide)] at q2
  have q3 := sign_row ts i sOpen
  rw [sign_is (by decide)] at q3
  have o := now_row ts i
  have w1 : IntKind.i64.wrap ((i : Nat) + 1 : Int) = (i : Nat) + 1 := i64i _ (by omega) (by omega)
  have w2 : IntKind.i64.wrap ((i : Nat) + 2 : Int) = (i : Nat) + 2 := i64i _ (by omega) (by omega)
  have w3 : IntKind.i64.wrap ((i : Nat) + 3 : Int) = (i : Nat) + 3 := i64i _ (by omega) (by omega)
  by_cases h1 : isK wInt (nxt ts i) = true
  · rw [tyG_int h1]
    rw [h1] at q1
    obtain ⟨x, hx, _⟩ := isK_at h1
    have hil := (List.getElem?_eq_some_iff.1 hx).1
    have m := make7_row ts i (i + 1) 1 0 ⟨#[]⟩ [] hil (by omega) (by omega) (by omega)
    rw [Nat.add_sub_cancel] at m
    refine row_of Try.func68 rfl rfl (Nat.le_of_ble_eq_true rfl) ?_
    repeat' (first | refine aw_seq ?_ | refine aw_skip ?_ | refine aw_block ?_ | refine aw_exit ?_ | refine aw_cond rfl (fun _ => ?_) (fun hb => absurd hb (by decide)) | refine aw_cond rfl (fun hb => absurd hb (by decide)) (fun _ => ?_) | (refine aw_reg (fun K hK => ?_); simp -implicitDefEqProofs [w1]) | (refine aw_drw mixd (fun K hK => ?_); simp -implicitDefEqProofs [w1]) | refine hK _ ?_ | refine hK _ _ (by rfl) ?_ | (refine ar_call (cp q1 ?_); simp -implicitDefEqProofs [w1]) | (refine ard_call (dp q1 ?_); simp -implicitDefEqProofs [w1]) | (refine ar_call (cp m ?_); simp -implicitDefEqProofs [w1]) | (refine ard_call (dp m ?_); simp -implicitDefEqProofs [w1]) | fail)
    refine aw_ret (fin_ret ?_); simp -implicitDefEqProofs [FinP, resV, resT] <;> try rfl
  have h1 : isK wInt (nxt ts i) = false := by simpa using h1
  rw [h1] at q1
  by_cases h2 : isK wBool (nxt ts i) = true
  · rw [tyG_bool h1 h2]
    rw [h2] at q2
    obtain ⟨x, hx, _⟩ := isK_at h2
    have hil := (List.getElem?_eq_some_iff.1 hx).1
    have m := make7_row ts i (i + 1) 2 0 ⟨#[]⟩ [] hil (by omega) (by omega) (by omega)
    rw [Nat.add_sub_cancel] at m
    refine row_of Try.func68 rfl rfl (Nat.le_of_ble_eq_true rfl) ?_
    repeat' (first | refine aw_seq ?_ | refine aw_skip ?_ | refine aw_block ?_ | refine aw_exit ?_ | refine aw_cond rfl (fun _ => ?_) (fun hb => absurd hb (by decide)) | refine aw_cond rfl (fun hb => absurd hb (by decide)) (fun _ => ?_) | (refine aw_reg (fun K hK => ?_); simp -implicitDefEqProofs [w1]) | (refine aw_drw mixd (fun K hK => ?_); simp -implicitDefEqProofs [w1]) | refine hK _ ?_ | refine hK _ _ (by rfl) ?_ | (refine ar_call (cp q1 ?_); simp -implicitDefEqProofs [w1]) | (refine ard_call (dp q1 ?_); simp -implicitDefEqProofs [w1]) | (refine ar_call (cp q2 ?_); simp -implicitDefEqProofs [w1]) | (refine ard_call (dp q2 ?_); simp -implicitDefEqProofs [w1]) | (refine ar_call (cp m ?_); simp -implicitDefEqProofs [w1]) | (refine ard_call (dp m ?_); simp -implicitDefEqProofs [w1]) | fail)
    refine aw_ret (fin_ret ?_); simp -implicitDefEqProofs [FinP, resV, resT] <;> try rfl
  have h2 : isK wBool (nxt ts i) = false := by simpa using h2
  rw [h2] at q2
  by_cases h4 : (nxt ts i).k = 1
  · have h3 : isK sOpen (nxt ts i) = false := by unfold isK; rw [h4]; rfl
    rw [tyG_rec h1 h2 h3, if_pos h4]
    obtain ⟨x, hx, hxn, hxk⟩ := kind_at h4 (by omega)
    have hil := (List.getElem?_eq_some_iff.1 hx).1
    rw [hxn] at o ⊢
    obtain ⟨xk, xn, xs, xf, xt⟩ := x
    dsimp only at hxk
    subst hxk
    have m := make7_row ts i (i + 1) 4 0 xs [] hil (by omega) (by omega) (by omega)
    rw [Nat.add_sub_cancel] at m
    clear h1 h2 h3 h4 hx hxn
    refine row_of Try.func68 rfl rfl (Nat.le_of_ble_eq_true rfl) ?_
    repeat' (first | refine aw_seq ?_ | refine aw_skip ?_ | refine aw_block ?_ | refine aw_exit ?_ | refine aw_cond rfl (fun _ => ?_) (fun hb => absurd hb (by decide)) | refine aw_cond rfl (fun hb => absurd hb (by decide)) (fun _ => ?_) | (refine aw_reg (fun K hK => ?_); simp -implicitDefEqProofs [w1]) | (refine aw_drw mixd (fun K hK => ?_); simp -implicitDefEqProofs [w1]) | refine hK _ ?_ | refine hK _ _ (by rfl) ?_ | (refine ar_call (cp q1 ?_); simp -implicitDefEqProofs [w1]) | (refine ard_call (dp q1 ?_); simp -implicitDefEqProofs [w1]) | (refine ar_call (cp q2 ?_); simp -implicitDefEqProofs [w1]) | (refine ard_call (dp q2 ?_); simp -implicitDefEqProofs [w1]) | (refine ar_call (cp o ?_); simp -implicitDefEqProofs [w1]) | (refine ard_call (dp o ?_); simp -implicitDefEqProofs [w1]) | (refine ar_call (cp m ?_); simp -implicitDefEqProofs [w1]) | (refine ard_call (dp m ?_); simp -implicitDefEqProofs [w1]) | fail)
    refine aw_ret (fin_ret ?_); simp -implicitDefEqProofs [FinP, resV, resT] <;> try rfl
  obtain ⟨⟨ok, on, os, of', ot⟩, hon⟩ : ∃ x, nxt ts i = x := ⟨_, rfl⟩
  have h4' : ¬ ok = 1 := by rw [hon] at h4; exact h4
  by_cases h3 : isK sOpen (nxt ts i) = true; rotate_left
  · have h3 : isK sOpen (nxt ts i) = false := by simpa using h3
    rw [tyG_rec h1 h2 h3, if_neg h4]
    rw [h3] at q3
    rw [hon] at o
    have b := bad_row i
    clear h1 h2 h3 h4 hon
    refine row_of Try.func68 rfl rfl (Nat.le_of_ble_eq_true rfl) ?_
    repeat' (first | refine aw_seq ?_ | refine aw_skip ?_ | refine aw_block ?_ | refine aw_exit ?_ | refine aw_cond rfl (fun _ => ?_) (fun hb => absurd hb (by decide)) | refine aw_cond rfl (fun hb => absurd hb (by decide)) (fun _ => ?_) | (refine aw_reg (fun K hK => ?_); simp -implicitDefEqProofs [h4']) | (refine aw_drw mixd (fun K hK => ?_); simp -implicitDefEqProofs [h4']) | refine hK _ ?_ | refine hK _ _ (by rfl) ?_ | (refine ar_call (cp q1 ?_); simp -implicitDefEqProofs [h4']) | (refine ard_call (dp q1 ?_); simp -implicitDefEqProofs [h4']) | (refine ar_call (cp q2 ?_); simp -implicitDefEqProofs [h4']) | (refine ard_call (dp q2 ?_); simp -implicitDefEqProofs [h4']) | (refine ar_call (cp o ?_); simp -implicitDefEqProofs [h4']) | (refine ard_call (dp o ?_); simp -implicitDefEqProofs [h4']) | (refine ar_call (cp q3 ?_); simp -implicitDefEqProofs [h4']) | (refine ard_call (dp q3 ?_); simp -implicitDefEqProofs [h4']) | (refine ar_call (cp b ?_); simp -implicitDefEqProofs [h4']) | (refine ard_call (dp b ?_); simp -implicitDefEqProofs [h4']) | fail)
    refine aw_ret (fin_ret ?_); simp -implicitDefEqProofs [FinP, resV, resT, z0] <;> try rfl
  rw [tyG_arr h1 h2 h3]
  rw [h3] at q3
  rw [hon] at o
  obtain ⟨x, hx, _⟩ := isK_at h3
  have hil := (List.getElem?_eq_some_iff.1 hx).1
  have o1 := now_row ts (i + 1)
  clear h1 h2 h3 h4 hon hx
  by_cases h5 : (nxt ts (i + 1)).k = 2; rotate_left
  · rw [if_neg h5]
    obtain ⟨⟨pk, pn, ps, pf, pt⟩, hp⟩ : ∃ x, nxt ts (i + 1) = x := ⟨_, rfl⟩
    rw [hp] at o1 h5
    dsimp only at h5
    have b := bad_row (i + 1)
    refine row_of Try.func68 rfl rfl (Nat.le_of_ble_eq_true rfl) ?_
    repeat' (first | refine aw_seq ?_ | refine aw_skip ?_ | refine aw_block ?_ | refine aw_exit ?_ | refine aw_cond rfl (fun _ => ?_) (fun hb => absurd hb (by decide)) | refine aw_cond rfl (fun hb => absurd hb (by decide)) (fun _ => ?_) | (refine aw_reg (fun K hK => ?_); simp -implicitDefEqProofs [h4', h5, w1]) | (refine aw_drw mixd (fun K hK => ?_); simp -implicitDefEqProofs [h4', h5, w1]) | refine hK _ ?_ | refine hK _ _ (by rfl) ?_ | (refine ar_call (cp q1 ?_); simp -implicitDefEqProofs [h4', h5, w1]) | (refine ard_call (dp q1 ?_); simp -implicitDefEqProofs [h4', h5, w1]) | (refine ar_call (cp q2 ?_); simp -implicitDefEqProofs [h4', h5, w1]) | (refine ard_call (dp q2 ?_); simp -implicitDefEqProofs [h4', h5, w1]) | (refine ar_call (cp o ?_); simp -implicitDefEqProofs [h4', h5, w1]) | (refine ard_call (dp o ?_); simp -implicitDefEqProofs [h4', h5, w1]) | (refine ar_call (cp q3 ?_); simp -implicitDefEqProofs [h4', h5, w1]) | (refine ard_call (dp q3 ?_); simp -implicitDefEqProofs [h4', h5, w1]) | (refine ar_call (cp o1 ?_); simp -implicitDefEqProofs [h4', h5, w1]) | (refine ard_call (dp o1 ?_); simp -implicitDefEqProofs [h4', h5, w1]) | (refine ar_call (cp b ?_); simp -implicitDefEqProofs [h4', h5, w1]) | (refine ard_call (dp b ?_); simp -implicitDefEqProofs [h4', h5, w1]) | fail)
    refine aw_ret (fin_ret ?_); simp -implicitDefEqProofs [FinP, resV, resT, z0] <;> try rfl
  rw [if_pos h5]
  obtain ⟨⟨pk, pn, ps, pf, pt⟩, hp⟩ : ∃ x, nxt ts (i + 1) = x := ⟨_, rfl⟩
  rw [hp] at o1 h5 ⊢
  dsimp only at h5 ⊢
  subst h5
  have q4 := sign_row ts (i + 2) sShut
  rw [sign_is (by decide)] at q4
  by_cases h6 : isK sShut (nxt ts (i + 2)) = true; rotate_left
  · rw [if_neg h6]
    rw [show isK sShut (nxt ts (i + 2)) = false by simpa using h6] at q4
    have b := bad_row (i + 2)
    clear h6 hp
    refine row_of Try.func68 rfl rfl (Nat.le_of_ble_eq_true rfl) ?_
    repeat' (first | refine aw_seq ?_ | refine aw_skip ?_ | refine aw_block ?_ | refine aw_exit ?_ | refine aw_cond rfl (fun _ => ?_) (fun hb => absurd hb (by decide)) | refine aw_cond rfl (fun hb => absurd hb (by decide)) (fun _ => ?_) | (refine aw_reg (fun K hK => ?_); simp -implicitDefEqProofs [h4', w1, w2]) | (refine aw_drw mixd (fun K hK => ?_); simp -implicitDefEqProofs [h4', w1, w2]) | refine hK _ ?_ | refine hK _ _ (by rfl) ?_ | (refine ar_call (cp q1 ?_); simp -implicitDefEqProofs [h4', w1, w2]) | (refine ard_call (dp q1 ?_); simp -implicitDefEqProofs [h4', w1, w2]) | (refine ar_call (cp q2 ?_); simp -implicitDefEqProofs [h4', w1, w2]) | (refine ard_call (dp q2 ?_); simp -implicitDefEqProofs [h4', w1, w2]) | (refine ar_call (cp o ?_); simp -implicitDefEqProofs [h4', w1, w2]) | (refine ard_call (dp o ?_); simp -implicitDefEqProofs [h4', w1, w2]) | (refine ar_call (cp q3 ?_); simp -implicitDefEqProofs [h4', w1, w2]) | (refine ard_call (dp q3 ?_); simp -implicitDefEqProofs [h4', w1, w2]) | (refine ar_call (cp o1 ?_); simp -implicitDefEqProofs [h4', w1, w2]) | (refine ard_call (dp o1 ?_); simp -implicitDefEqProofs [h4', w1, w2]) | (refine ar_call (cp q4 ?_); simp -implicitDefEqProofs [h4', w1, w2]) | (refine ard_call (dp q4 ?_); simp -implicitDefEqProofs [h4', w1, w2]) | (refine ar_call (cp b ?_); simp -implicitDefEqProofs [h4', w1, w2]) | (refine ard_call (dp b ?_); simp -implicitDefEqProofs [h4', w1, w2]) | fail)
    refine aw_ret (fin_ret ?_); simp -implicitDefEqProofs [FinP, resV, resT, z0] <;> try rfl
  rw [if_pos h6]
  rw [h6] at q4
  obtain ⟨z, hz, _⟩ := isK_at h6
  have hil2 := (List.getElem?_eq_some_iff.1 hz).1
  have y1 := ih (i + 3) (by omega) (by omega)
  obtain ⟨g1, g2, g3, _⟩ := tyG_ok ts n (i + 3)
  obtain ⟨⟨⟨px, pl⟩, j, e⟩, hr⟩ : ∃ r, tyG ts n (i + 3) = r := ⟨_, rfl⟩
  rw [hr] at y1 g1 g2 g3 ⊢
  dsimp only at g1 g2 g3 ⊢
  clear hr ih hz h6 hp
  by_cases he : e = 0
  · subst he
    rw [if_pos rfl]
    obtain ⟨g4, g5⟩ := g1 rfl
    have m := make7_row ts i j 3 pn ⟨#[]⟩ [.mk px pl] hil (by omega) g5 (by omega)
    refine row_of Try.func68 rfl rfl (Nat.le_of_ble_eq_true rfl) ?_
    repeat' (first | refine aw_seq ?_ | refine aw_skip ?_ | refine aw_block ?_ | refine aw_exit ?_ | refine aw_cond rfl (fun _ => ?_) (fun hb => absurd hb (by decide)) | refine aw_cond rfl (fun hb => absurd hb (by decide)) (fun _ => ?_) | (refine aw_reg (fun K hK => ?_); simp -implicitDefEqProofs [h4', w1, w2, w3]) | (refine aw_drw mixd (fun K hK => ?_); simp -implicitDefEqProofs [h4', w1, w2, w3]) | refine hK _ ?_ | refine hK _ _ (by rfl) ?_ | (refine ar_call (cp q1 ?_); simp -implicitDefEqProofs [h4', w1, w2, w3]) | (refine ard_call (dp q1 ?_); simp -implicitDefEqProofs [h4', w1, w2, w3]) | (refine ar_call (cp q2 ?_); simp -implicitDefEqProofs [h4', w1, w2, w3]) | (refine ard_call (dp q2 ?_); simp -implicitDefEqProofs [h4', w1, w2, w3]) | (refine ar_call (cp o ?_); simp -implicitDefEqProofs [h4', w1, w2, w3]) | (refine ard_call (dp o ?_); simp -implicitDefEqProofs [h4', w1, w2, w3]) | (refine ar_call (cp q3 ?_); simp -implicitDefEqProofs [h4', w1, w2, w3]) | (refine ard_call (dp q3 ?_); simp -implicitDefEqProofs [h4', w1, w2, w3]) | (refine ar_call (cp o1 ?_); simp -implicitDefEqProofs [h4', w1, w2, w3]) | (refine ard_call (dp o1 ?_); simp -implicitDefEqProofs [h4', w1, w2, w3]) | (refine ar_call (cp q4 ?_); simp -implicitDefEqProofs [h4', w1, w2, w3]) | (refine ard_call (dp q4 ?_); simp -implicitDefEqProofs [h4', w1, w2, w3]) | (refine ar_call (cp y1 ?_); simp -implicitDefEqProofs [h4', w1, w2, w3]) | (refine ard_call (dp y1 ?_); simp -implicitDefEqProofs [h4', w1, w2, w3]) | (refine ar_call (cp m ?_); simp -implicitDefEqProofs [h4', w1, w2, w3]) | (refine ard_call (dp m ?_); simp -implicitDefEqProofs [h4', w1, w2, w3]) | fail)
    refine aw_ret (fin_ret ?_); simp -implicitDefEqProofs [FinP, resV, resT] <;> try rfl
  · rw [if_neg he]
    clear g1 g2 g3
    refine row_of Try.func68 rfl rfl (Nat.le_of_ble_eq_true rfl) ?_
    repeat' (first | refine aw_seq ?_ | refine aw_skip ?_ | refine aw_block ?_ | refine aw_exit ?_ | refine aw_cond rfl (fun _ => ?_) (fun hb => absurd hb (by decide)) | refine aw_cond rfl (fun hb => absurd hb (by decide)) (fun _ => ?_) | (refine aw_reg (fun K hK => ?_); simp -implicitDefEqProofs [h4', w1, w2, w3, he]) | (refine aw_drw mixd (fun K hK => ?_); simp -implicitDefEqProofs [h4', w1, w2, w3, he]) | refine hK _ ?_ | refine hK _ _ (by rfl) ?_ | (refine ar_call (cp q1 ?_); simp -implicitDefEqProofs [h4', w1, w2, w3, he]) | (refine ard_call (dp q1 ?_); simp -implicitDefEqProofs [h4', w1, w2, w3, he]) | (refine ar_call (cp q2 ?_); simp -implicitDefEqProofs [h4', w1, w2, w3, he]) | (refine ard_call (dp q2 ?_); simp -implicitDefEqProofs [h4', w1, w2, w3, he]) | (refine ar_call (cp o ?_); simp -implicitDefEqProofs [h4', w1, w2, w3, he]) | (refine ard_call (dp o ?_); simp -implicitDefEqProofs [h4', w1, w2, w3, he]) | (refine ar_call (cp q3 ?_); simp -implicitDefEqProofs [h4', w1, w2, w3, he]) | (refine ard_call (dp q3 ?_); simp -implicitDefEqProofs [h4', w1, w2, w3, he]) | (refine ar_call (cp o1 ?_); simp -implicitDefEqProofs [h4', w1, w2, w3, he]) | (refine ard_call (dp o1 ?_); simp -implicitDefEqProofs [h4', w1, w2, w3, he]) | (refine ar_call (cp q4 ?_); simp -implicitDefEqProofs [h4', w1, w2, w3, he]) | (refine ard_call (dp q4 ?_); simp -implicitDefEqProofs [h4', w1, w2, w3, he]) | (refine ar_call (cp y1 ?_); simp -implicitDefEqProofs [h4', w1, w2, w3, he]) | (refine ard_call (dp y1 ?_); simp -implicitDefEqProofs [h4', w1, w2, w3, he]) | fail)
    refine aw_ret (fin_ret ?_); simp -implicitDefEqProofs [FinP, resV, resT] <;> try rfl
end Go.Proofs.Ytlkggpjdaaglmaa.am
end
section
namespace Go.Proofs.Ytlkggpjdaaglmaa.am
open Go.ChangeShapes Go.WideShapes Go.ChangeAt Go.RowKit
open vt
set_option linter.unusedVariables false
set_option linter.unusedSimpArgs false
theorem td_strs : td Try.prog 106 = some ⟨false, 1, 24, [.nilS], [], (.slice 9)⟩ := Eq.trans (by kernel_rfl) (Eq.refl _)
theorem td_intv : td Try.prog 131 = some ⟨false, 1, 24, [.nilS], [], (.slice 2)⟩ := Eq.trans (by kernel_rfl) (Eq.refl _)
attribute [simp] td_strs td_intv
abbrev Sg := ByteArray × Int
def opsL : Nat → List Sg
  | 1 => [(⟨#[124, 124]⟩, 1)]
  | 2 => [(⟨#[38, 38]⟩, 2)]
  | 3 => [(⟨#[61, 61]⟩, 3), (⟨#[33, 61]⟩, 4), (⟨#[60]⟩, 5), (⟨#[60, 61]⟩, 6), (⟨#[62]⟩, 7), (⟨#[62, 61]⟩, 8)]
  | 4 => [(⟨#[43]⟩, 9), (⟨#[45]⟩, 10)]
  | _ => [(⟨#[42]⟩, 11), (⟨#[47]⟩, 12), (⟨#[37]⟩, 13)]
def pS (x : Sg) : List PV := [Sx x.1]
def pI (x : Sg) : List PV := [I x.2]
abbrev vSI (l : List Sg) : AV := .tup [.c (.pv (.sl 1 (l.map pS))), .c (.pv (.sl 1 (l.map pI)))]
attribute [simp] pS pI
def fnd (x : Tok) : List Sg → Int
  | [] => 0
  | y :: l => if x.k = 4 ∧ x.s = y.1 then y.2 else fnd x l
theorem fnd_op (x : Tok) (l : Nat) (h1 : 1 ≤ l) (h5 : l ≤ 5) : fnd x (opsL l) = if (opK x).2 = l then (opK x).1 else 0 := by
  have hl : l = 1 ∨ l = 2 ∨ l = 3 ∨ l = 4 ∨ l = 5 := by omega
  unfold opK
  by_cases hk : x.k = 4; rotate_left
  · rcases hl with rfl | rfl | rfl | rfl | rfl <;> simp [opsL, fnd, hk]
  obtain ⟨k, n, s, f, t⟩ := x
  dsimp only at hk
  subst hk
  rw [if_pos rfl]
  dsimp only
  by_cases e0 : s = (⟨#[124, 124]⟩ : ByteArray)
  · subst e0; rcases hl with rfl | rfl | rfl | rfl | rfl <;> rfl
  by_cases e1 : s = (⟨#[38, 38]⟩ : ByteArray)
  · subst e1; rcases hl with rfl | rfl | rfl | rfl | rfl <;> rfl
  by_cases e2 : s = (⟨#[61, 61]⟩ : ByteArray)
  · subst e2; rcases hl with rfl | rfl | rfl | rfl | rfl <;> rfl
  by_cases e3 : s = (⟨#[33, 61]⟩ : ByteArray)
  · subst e3; rcases hl with rfl | rfl | rfl | rfl | rfl <;> rfl
  by_cases e4 : s = (⟨#[60]⟩ : ByteArray)
  · subst e4; rcases hl with rfl | rfl | rfl | rfl | rfl <;> rfl
  by_cases e5 : s = (⟨#[60, 61]⟩ : ByteArray)
  · subst e5; rcases hl with rfl | rfl | rfl | rfl | rfl <;> rfl
  by_cases e6 : s = (⟨#[62]⟩ : ByteArray)
  · subst e6; rcases hl with rfl | rfl | rfl | rfl | rfl <;> rfl
  by_cases e7 : s = (⟨#[62, 61]⟩ : ByteArray)
  · subst e7; rcases hl with rfl | rfl | rfl | rfl | rfl <;> rfl
  by_cases e8 : s = (⟨#[43]⟩ : ByteArray)
  · subst e8; rcases hl with rfl | rfl | rfl | rfl | rfl <;> rfl
  by_cases e9 : s = (⟨#[45]⟩ : ByteArray)
  · subst e9; rcases hl with rfl | rfl | rfl | rfl | rfl <;> rfl
  by_cases e10 : s = (⟨#[42]⟩ : ByteArray)
  · subst e10; rcases hl with rfl | rfl | rfl | rfl | rfl <;> rfl
  by_cases e11 : s = (⟨#[47]⟩ : ByteArray)
  · subst e11; rcases hl with rfl | rfl | rfl | rfl | rfl <;> rfl
  by_cases e12 : s = (⟨#[37]⟩ : ByteArray)
  · subst e12; rcases hl with rfl | rfl | rfl | rfl | rfl <;> rfl
  rcases hl with rfl | rfl | rfl | rfl | rfl <;> simp [opsL, fnd, opS, e0, e1, e2, e3, e4, e5, e6, e7, e8, e9, e10, e11, e12]
theorem opK_pos (x : Tok) (l : Nat) (h5 : l ≤ 5) (h : (opK x).2 = l) : (opK x).1 ≠ 0 := by
  unfold opK at h ⊢
  by_cases hk : x.k = 4; rotate_left
  · rw [if_neg hk] at h; dsimp only at h; omega
  rw [if_pos hk] at h ⊢
  obtain ⟨k, n, s, f, t⟩ := x
  dsimp only at h ⊢
  clear hk
  by_cases e0 : s = (⟨#[124, 124]⟩ : ByteArray)
  · subst e0; exact fun hh => absurd (show (1 : Int) = 0 from hh) (by decide)
  by_cases e1 : s = (⟨#[38, 38]⟩ : ByteArray)
  · subst e1; exact fun hh => absurd (show (2 : Int) = 0 from hh) (by decide)
  by_cases e2 : s = (⟨#[61, 61]⟩ : ByteArray)
  · subst e2; exact fun hh => absurd (show (3 : Int) = 0 from hh) (by decide)
  by_cases e3 : s = (⟨#[33, 61]⟩ : ByteArray)
  · subst e3; exact fun hh => absurd (show (4 : Int) = 0 from hh) (by decide)
  by_cases e4 : s = (⟨#[60]⟩ : ByteArray)
  · subst e4; exact fun hh => absurd (show (5 : Int) = 0 from hh) (by decide)
  by_cases e5 : s = (⟨#[60, 61]⟩ : ByteArray)
  · subst e5; exact fun hh => absurd (show (6 : Int) = 0 from hh) (by decide)
  by_cases e6 : s = (⟨#[62]⟩ : ByteArray)
  · subst e6; exact fun hh => absurd (show (7 : Int) = 0 from hh) (by decide)
  by_cases e7 : s = (⟨#[62, 61]⟩ : ByteArray)
  · subst e7; exact fun hh => absurd (show (8 : Int) = 0 from hh) (by decide)
  by_cases e8 : s = (⟨#[43]⟩ : ByteArray)
  · subst e8; exact fun hh => absurd (show (9 : Int) = 0 from hh) (by decide)
  by_cases e9 : s = (⟨#[45]⟩ : ByteArray)
  · subst e9; exact fun hh => absurd (show (10 : Int) = 0 from hh) (by decide)
  by_cases e10 : s = (⟨#[42]⟩ : ByteArray)
  · subst e10; exact fun hh => absurd (show (11 : Int) = 0 from hh) (by decide)
  by_cases e11 : s = (⟨#[47]⟩ : ByteArray)
  · subst e11; exact fun hh => absurd (show (12 : Int) = 0 from hh) (by decide)
  by_cases e12 : s = (⟨#[37]⟩ : ByteArray)
  · subst e12; exact fun hh => absurd (show (13 : Int) = 0 from hh) (by decide)
  simp [opS, e0, e1, e2, e3, e4, e5, e6, e7, e8, e9, e10, e11, e12] at h
  omega
set_option maxRecDepth 100000 in
set_option maxHeartbeats 4000000 in
theorem ops_row (l : Nat) (h1 : 1 ≤ l) (h5 : l ≤ 5) : Row Try.prog 88 [vI (l : Nat)] [] (vSI (opsL l)) [] := by
  have hl : l = 1 ∨ l = 2 ∨ l = 3 ∨ l = 4 ∨ l = 5 := by omega
  rcases hl with rfl | rfl | rfl | rfl | rfl
  all_goals (
    refine row_of Try.func88 rfl rfl (Nat.le_of_ble_eq_true rfl) ?_
    repeat (first | refine aw_seq ?_ | refine aw_skip ?_ | refine aw_block ?_ | refine aw_exit ?_ | refine aw_cond rfl (fun _ => ?_) (fun hb => absurd hb (by decide)) | refine aw_cond rfl (fun hb => absurd hb (by decide)) (fun _ => ?_) | (refine aw_reg (fun K hK => ?_); simp -implicitDefEqProofs; refine hK _ ?_) | (refine aw_drw mixd (fun K hK => ?_); simp -implicitDefEqProofs; refine hK _ _ (by rfl) ?_) | fail)
    refine aw_ret (fin_ret ?_); simp -implicitDefEqProofs [FinP, resV, resT, opsL] <;> try rfl)
set_option maxRecDepth 100000 in
set_option maxHeartbeats 4000000 in
theorem op_row (ts : List Tok) (i l : Nat) (h1 : 1 ≤ l) (h5 : l ≤ 5) : Row Try.prog 85 [vKs ts, vI i, vI (l : Nat)] [] (vI (if (opK (nxt ts i)).2 = l then (opK (nxt ts i)).1 else 0)) [] := by
  rw [← fnd_op _ l h1 h5]
  have o := ops_row l h1 h5
  obtain ⟨L, hL⟩ : ∃ L, opsL l = L := ⟨_, rfl⟩
  have hLl : L.length ≤ 6 := by rw [← hL]; unfold opsL; split <;> simp
  rw [hL] at o ⊢
  refine row_of Try.func85 rfl rfl (Nat.le_of_ble_eq_true rfl) ?_
  repeat' (first | refine aw_seq ?_ | refine aw_skip ?_ | refine aw_block ?_ | refine aw_exit ?_ | refine aw_cond rfl (fun _ => ?_) (fun hb => absurd hb (by decide)) | refine aw_cond rfl (fun hb => absurd hb (by decide)) (fun _ => ?_) | (refine aw_reg (fun K hK => ?_); simp -implicitDefEqProofs) | (refine aw_drw mixd (fun K hK => ?_); simp -implicitDefEqProofs) | refine hK _ ?_ | refine hK _ _ (by rfl) ?_ | (refine ar_call (cp o ?_); simp -implicitDefEqProofs) | (refine ard_call (dp o ?_); simp -implicitDefEqProofs) | fail)
  refine aw_lp (ι := Nat) (fun k => mkSt [(0, vKs ts), (1, vI i), (7, .v (.c (.pv (.sl 1 (L.map pS))))), (8, .v (.c (.pv (.sl 1 (L.map pI))))), (9, vI (k : Nat))] []) (fun k => k ≤ L.length ∧ fnd (nxt ts i) (L.drop k) = fnd (nxt ts i) L) (fun k => L.length - k) 0 ⟨Nat.zero_le _, rfl⟩ (cov_intro [] (by simp -implicitDefEqProofs [hL]) (by simp -implicitDefEqProofs [hL]) (by decide) rfl (by simp)) (fun Z hI k hk => ?_)
  obtain ⟨hk, hf⟩ := hk
  by_cases hkl : k < L.length; rotate_left
  · have : k = L.length := by omega
    subst this
    rw [List.drop_length] at hf
    rw [← hf]
    repeat (first | refine aw_seq ?_ | refine aw_skip ?_ | refine aw_block ?_ | refine aw_exit ?_ | refine aw_cond rfl (fun _ => ?_) (fun hb => absurd hb (by decide)) | refine aw_cond rfl (fun hb => absurd hb (by decide)) (fun _ => ?_) | (refine aw_reg (fun K hK => ?_); simp -implicitDefEqProofs; refine hK _ ?_) | (refine aw_drw mixd (fun K hK => ?_); simp -implicitDefEqProofs; refine hK _ _ (by rfl) ?_) | fail)
    refine aw_ret (fin_ret ?_); simp -implicitDefEqProofs [FinP, resV, resT, fnd] <;> try rfl
  obtain ⟨⟨y1, y2⟩, hy⟩ : ∃ y, L[k]? = some y := ⟨_, List.getElem?_eq_getElem hkl⟩
  have hy' := (List.getElem?_eq_some_iff.1 hy).2
  have w2 : IntKind.i64.wrap ((k : Nat) + 1 : Int) = (k : Nat) + 1 := i64i _ (by omega) (by omega)
  have q := sign_row ts i y1
  rw [List.drop_eq_getElem_cons hkl, hy'] at hf
  rw [fnd] at hf
  by_cases hs : (nxt ts i).k = 4 ∧ (nxt ts i).s = y1
  · rw [if_pos hs] at hf
    dsimp only at hf
    rw [show (decide ((nxt ts i).k = 4) && decide ((nxt ts i).s = y1)) = true by simp [hs.1, hs.2]] at q
    rw [← hf]
    clear hf hs
    repeat' (first | refine aw_seq ?_ | refine aw_skip ?_ | refine aw_block ?_ | refine aw_exit ?_ | refine aw_cond rfl (fun _ => ?_) (fun hb => absurd hb (by decide)) | refine aw_cond rfl (fun hb => absurd hb (by decide)) (fun _ => ?_) | (refine aw_reg (fun K hK => ?_); simp -implicitDefEqProofs [hkl, hy, hy']) | (refine aw_drw mixd (fun K hK => ?_); simp -implicitDefEqProofs [hkl, hy, hy']) | refine hK _ ?_ | refine hK _ _ (by rfl) ?_ | (refine ar_call (cp q ?_); simp -implicitDefEqProofs [hkl, hy, hy']) | (refine ard_call (dp q ?_); simp -implicitDefEqProofs [hkl, hy, hy']) | fail)
    refine aw_ret (fin_ret ?_); simp -implicitDefEqProofs [FinP, resV, resT] <;> try rfl
  · rw [if_neg hs] at hf
    rw [show (decide ((nxt ts i).k = 4) && decide ((nxt ts i).s = y1)) = false by simpa using hs] at q
    clear hs
    repeat' (first | refine aw_seq ?_ | refine aw_skip ?_ | refine aw_block ?_ | refine aw_exit ?_ | refine aw_cond rfl (fun _ => ?_) (fun hb => absurd hb (by decide)) | refine aw_cond rfl (fun hb => absurd hb (by decide)) (fun _ => ?_) | (refine aw_reg (fun K hK => ?_); simp -implicitDefEqProofs [hkl, hy, hy', w2]) | (refine aw_drw mixd (fun K hK => ?_); simp -implicitDefEqProofs [hkl, hy, hy', w2]) | refine hK _ ?_ | refine hK _ _ (by rfl) ?_ | (refine ar_call (cp q ?_); simp -implicitDefEqProofs [hkl, hy, hy', w2]) | (refine ard_call (dp q ?_); simp -implicitDefEqProofs [hkl, hy, hy', w2]) | fail)
    refine ⟨k + 1, ⟨by omega, hf⟩, (by dsimp only; omega), ?_⟩; rw [hI]; exact cov_intro [] (by simp -implicitDefEqProofs) (by simp -implicitDefEqProofs) (by decide) rfl (by simp)
end Go.Proofs.Ytlkggpjdaaglmaa.am
end
