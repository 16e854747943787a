import Derived.Test.YtbbkmijkllgfaaaGreatDoorPkL15
import Derived.Test.YtbbkmijkllgfaaaGreatDoorPkL4
import Derived.Test.YtbbkmijkllgfaaaGreatDoorPkL14
import Derived.Test.YtbbkmijkllgfaaaGreatDoorPkL6
import Derived.Test.YtbbkmijkllgfaaaGreatDoorPkL12
set_option maxRecDepth 100000
set_option maxHeartbeats 4000000
section
namespace Go.Proofs.YtbbkmijkllgfaaaGreatDoor.am
open Go.ChangeShapes Go.WideShapes Go.ChangeAt Go.RowKit
open vt
set_option linter.unusedVariables false
set_option linter.unusedSimpArgs false
def atO : List Int → VT → Option VT
  | [], t => some t
  | i :: p, .mk x l => if 0 ≤ i then (match l[i.toNat]? with | some u => atO p u | none => none) else none
noncomputable abbrev vTb (r : VT × Bool) : AV := .tup [.agg (ta r.1), .c (.pv (Bo r.2))]
def atG (p : List Int) (t : VT) : VT × Bool := match atO p t with | some u => (u, true) | none => (z0, false)
theorem b6x (p : List Int) (t : VT) (hp : p.length ≤ 1000000) : Row Tryz.prog 18 [vT t, vIs p] [] (vTb (atG p t)) [] := by
  obtain ⟨x0, l0⟩ := t
  refine d7 Tryz.func18 rfl rfl (Nat.le_of_ble_eq_true rfl) ?_
  repeat (first | refine b9 ?_ | refine b6 ?_ | refine a6 ?_ | refine b5 ?_ | refine e7 rfl ?_ | refine d9 rfl ?_ | ((first | refine b8 (fun K hK => ?_) | refine d3 e9 (fun K hK => ?_) | fail); simp -implicitDefEqProofs; first | refine hK _ ?_ | refine hK _ _ (by rfl) ?_ | fail) | fail)
  refine m6 (ι := Nat × VT) (fun s => x5 [(2, .v (.c (.ptr 0 0))), (4, .v (.c (.ptr 1 0))), (8, vIs p), (9, vI (p.length : Nat)), (10, vI (s.1 : Nat))] [some (.box (ta s.2)), some (.box [.pv (I 0), .pv (I 0), .pv (Sx ⟨#[]⟩), .pv .nilS, .pv (I 0), .pv (I 0)])]) (fun s => s.1 ≤ p.length ∧ atO (p.drop s.1) s.2 = atO p (.mk x0 l0)) (fun s => p.length - s.1) (0, .mk x0 l0) ⟨Nat.zero_le _, rfl⟩ (e8 [0, 1] (by simp -implicitDefEqProofs) (by simp -implicitDefEqProofs) (by decide) rfl (by simp)) (fun Z hI s hk => ?_)
  obtain ⟨k, ⟨x, l⟩⟩ := s
  obtain ⟨hk, hz⟩ := hk
  dsimp only at hk hz ⊢
  unfold atG
  rw [← hz]
  by_cases hkl : k < p.length; rotate_left
  · have : k = p.length := by omega
    subst this
    rw [List.drop_length]
    repeat (first | refine b9 ?_ | refine b6 ?_ | refine a6 ?_ | refine b5 ?_ | refine e7 rfl ?_ | refine d9 rfl ?_ | ((first | refine b8 (fun K hK => ?_) | refine d3 e9 (fun K hK => ?_) | fail); simp -implicitDefEqProofs; first | refine hK _ ?_ | refine hK _ _ (by rfl) ?_ | fail) | fail)
    refine d6 (d4 ?_); simp -implicitDefEqProofs [f9, f6, f7, atO] <;> try rfl
  obtain ⟨i, hi⟩ : ∃ a, p[k]? = some a := ⟨_, List.getElem?_eq_getElem hkl⟩
  have hi' := (List.getElem?_eq_some_iff.1 hi).2
  have w2 : IntKind.i64.wrap ((k : Nat) + 1 : Int) = (k : Nat) + 1 := l4 _ (by omega) (by omega)
  have hd : p.drop k = i :: p.drop (k + 1) := by rw [List.drop_eq_getElem_cons hkl, hi']
  rw [hd] at hz ⊢
  by_cases h0 : i < 0
  · have h0' : ¬ 0 ≤ i := by omega
    have e : atO (i :: p.drop (k + 1)) (.mk x l) = none := by rw [atO, if_neg h0']
    rw [e]
    repeat (first | refine b9 ?_ | refine b6 ?_ | refine a6 ?_ | refine b5 ?_ | refine e7 rfl ?_ | refine d9 rfl ?_ | ((first | refine b8 (fun K hK => ?_) | refine d3 e9 (fun K hK => ?_) | fail); simp -implicitDefEqProofs [hkl, hi, hi', h0]; first | refine hK _ ?_ | refine hK _ _ (by rfl) ?_ | fail) | fail)
    refine d6 (d4 ?_); simp -implicitDefEqProofs [f9, f6, f7, z0] <;> try rfl
  have h0' : 0 ≤ i := by omega
  by_cases h1 : (l.length : Int) ≤ i
  · have e : atO (i :: p.drop (k + 1)) (.mk x l) = none := by
      rw [atO, if_pos h0', List.getElem?_eq_none (by omega)]
    rw [e]
    repeat (first | refine b9 ?_ | refine b6 ?_ | refine a6 ?_ | refine b5 ?_ | refine e7 rfl ?_ | refine d9 rfl ?_ | ((first | refine b8 (fun K hK => ?_) | refine d3 e9 (fun K hK => ?_) | fail); simp -implicitDefEqProofs [hkl, hi, hi', h0, h1]; first | refine hK _ ?_ | refine hK _ _ (by rfl) ?_ | fail) | fail)
    refine d6 (d4 ?_); simp -implicitDefEqProofs [f9, f6, f7, z0] <;> try rfl
  have h2 : i.toNat < l.length := by omega
  obtain ⟨⟨ux, ul⟩, hu⟩ : ∃ a, l[i.toNat]? = some a := ⟨_, List.getElem?_eq_getElem h2⟩
  have hu' := (List.getElem?_eq_some_iff.1 hu).2
  have h3 : i < l.length := by omega
  have e : atO (i :: p.drop (k + 1)) (.mk x l) = atO (p.drop (k + 1)) (.mk ux ul) := by rw [atO, if_pos h0', hu]
  repeat (first | refine b9 ?_ | refine b6 ?_ | refine a6 ?_ | refine b5 ?_ | refine e7 rfl ?_ | refine d9 rfl ?_ | ((first | refine b8 (fun K hK => ?_) | refine d3 e9 (fun K hK => ?_) | fail); simp -implicitDefEqProofs [hkl, hi, hi', h0, h0', h1, h2, h3, hu, hu', w2]; first | refine hK _ ?_ | refine hK _ _ (by rfl) ?_ | fail) | fail)
  refine ⟨(k + 1, .mk ux ul), ⟨(by show k + 1 ≤ p.length; omega), by first | exact e.symm | (rw [← e]; exact hz)⟩, (by dsimp only; omega), ?_⟩
  rw [hI]; exact e8 [0, 1] (by simp -implicitDefEqProofs) (by simp -implicitDefEqProofs) (by decide) rfl (by simp)
theorem b8q : ∀ (p : List Int) (t u : VT), p.length ≤ 1000000 → atO p t = some u → Row Tryz.prog 9 [vT t, vIs p] [] (vT u) []
  | [], .mk x l, u, _, h => by
    cases h
    refine d7 Tryz.func9 rfl rfl (Nat.le_of_ble_eq_true rfl) ?_
    repeat (first | refine b9 ?_ | refine b6 ?_ | refine a6 ?_ | refine b5 ?_ | refine e7 rfl ?_ | refine d9 rfl ?_ | ((first | refine b8 (fun K hK => ?_) | refine d3 e9 (fun K hK => ?_) | fail); simp -implicitDefEqProofs; first | refine hK _ ?_ | refine hK _ _ (by rfl) ?_ | fail) | fail)
    refine d6 (d4 ?_); simp -implicitDefEqProofs [f9, f6, f7] <;> try rfl
  | i :: p, .mk x l, u, hl, h => by
    rw [atO] at h
    by_cases h0 : 0 ≤ i
    · rw [if_pos h0] at h
      cases hu : l[i.toNat]? with
      | none => rw [hu] at h; cases h
      | some v =>
        rw [hu] at h
        have hu' := (List.getElem?_eq_some_iff.1 hu).2
        have h2 := (List.getElem?_eq_some_iff.1 hu).1
        have h3 : i < l.length := by omega
        have e := b8q p v u (by simp at hl; omega) h
        obtain ⟨vx, vl⟩ := v
        have hz : ¬ (p.length : Int) + 1 = 0 := by omega
        have hz2 : (1 : Int) ≤ (p.length : Int) + 1 := by omega
        refine d7 Tryz.func9 rfl rfl (Nat.le_of_ble_eq_true rfl) ?_
        repeat' (first | refine b9 ?_ | refine b6 ?_ | refine a6 ?_ | refine b5 ?_ | refine e7 rfl ?_ | refine d9 rfl ?_ | ((first | refine b8 (fun K hK => ?_) | refine d3 e9 (fun K hK => ?_) | refine b7 (cp e ?_) | refine a8 (dp e ?_) | fail); simp -implicitDefEqProofs [h0, h2, h3, hu, hu', hz, hz2]) | refine hK _ ?_ | refine hK _ _ (by rfl) ?_ | fail)
        refine d6 (d4 ?_); simp -implicitDefEqProofs [f9, f6, f7] <;> try rfl
    · rw [if_neg h0] at h; cases h
theorem a6h : ∀ (p : List Int) (t : VT), p.length ≤ 1000000 → Row Tryz.prog 8 [vT t, vIs p] [] (vB (atO p t).isSome) []
  | [], .mk x l, _ => by
    refine d7 Tryz.func8 rfl rfl (Nat.le_of_ble_eq_true rfl) ?_
    repeat (first | refine b9 ?_ | refine b6 ?_ | refine a6 ?_ | refine b5 ?_ | refine e7 rfl ?_ | refine d9 rfl ?_ | ((first | refine b8 (fun K hK => ?_) | refine d3 e9 (fun K hK => ?_) | fail); simp -implicitDefEqProofs; first | refine hK _ ?_ | refine hK _ _ (by rfl) ?_ | fail) | fail)
    refine d6 (d4 ?_); simp -implicitDefEqProofs [f9, f6, f7, atO] <;> try rfl
  | i :: p, .mk x l, hl => by
    have hz : ¬ (p.length : Int) + 1 = 0 := by omega
    have hz2 : (1 : Int) ≤ (p.length : Int) + 1 := by omega
    by_cases h0 : 0 ≤ i
    · cases hu : l[i.toNat]? with
      | none =>
        have h2 : ¬ i < l.length := by have := List.getElem?_eq_none_iff.1 hu; omega
        have e : (atO (i :: p) (.mk x l)).isSome = false := by rw [atO, if_pos h0, hu]; rfl
        rw [e]
        refine d7 Tryz.func8 rfl rfl (Nat.le_of_ble_eq_true rfl) ?_
        repeat (first | refine b9 ?_ | refine b6 ?_ | refine a6 ?_ | refine b5 ?_ | refine e7 rfl ?_ | refine d9 rfl ?_ | ((first | refine b8 (fun K hK => ?_) | refine d3 e9 (fun K hK => ?_) | fail); simp -implicitDefEqProofs [h0, h2, hz]; first | refine hK _ ?_ | refine hK _ _ (by rfl) ?_ | fail) | fail)
        refine d6 (d4 ?_); simp -implicitDefEqProofs [f9, f6, f7] <;> try rfl
      | some v =>
        have hu' := (List.getElem?_eq_some_iff.1 hu).2
        have h2 := (List.getElem?_eq_some_iff.1 hu).1
        have h3 : i < l.length := by omega
        have e := a6h p v (by simp at hl; omega)
        obtain ⟨vx, vl⟩ := v
        have e2 : atO (i :: p) (.mk x l) = atO p (.mk vx vl) := by rw [atO, if_pos h0, hu]
        rw [e2]
        refine d7 Tryz.func8 rfl rfl (Nat.le_of_ble_eq_true rfl) ?_
        repeat' (first | refine b9 ?_ | refine b6 ?_ | refine a6 ?_ | refine b5 ?_ | refine e7 rfl ?_ | refine d9 rfl ?_ | ((first | refine b8 (fun K hK => ?_) | refine d3 e9 (fun K hK => ?_) | refine b7 (cp e ?_) | refine a8 (dp e ?_) | fail); simp -implicitDefEqProofs [h0, h2, h3, hu, hu', hz, hz2]) | refine hK _ ?_ | refine hK _ _ (by rfl) ?_ | fail)
        refine d6 (d4 ?_); simp -implicitDefEqProofs [f9, f6, f7] <;> try rfl
    · have e : (atO (i :: p) (.mk x l)).isSome = false := by rw [atO, if_neg h0]; rfl
      rw [e]
      refine d7 Tryz.func8 rfl rfl (Nat.le_of_ble_eq_true rfl) ?_
      repeat (first | refine b9 ?_ | refine b6 ?_ | refine a6 ?_ | refine b5 ?_ | refine e7 rfl ?_ | refine d9 rfl ?_ | ((first | refine b8 (fun K hK => ?_) | refine d3 e9 (fun K hK => ?_) | fail); simp -implicitDefEqProofs [h0, hz]; first | refine hK _ ?_ | refine hK _ _ (by rfl) ?_ | fail) | fail)
      refine d6 (d4 ?_); simp -implicitDefEqProofs [f9, f6, f7] <;> try rfl
theorem c3e : ∀ (p : List Int) (t u : VT), atO p t = some u → b5z (p.map Int.toNat) t = some u ∧ ∀ i ∈ p, 0 ≤ i
  | [], t, u, h => by
    cases h
    exact ⟨rfl, fun i hi => by cases hi⟩
  | i :: p, .mk x l, u, h => by
    rw [atO] at h
    split at h
    · rename_i h0
      cases hv : l[i.toNat]? with
      | none => rw [hv] at h; cases h
      | some v =>
        rw [hv] at h
        obtain ⟨e1, e2⟩ := c3e p v u h
        refine ⟨?_, fun j hj => ?_⟩
        · rw [List.map_cons]
          unfold b5z
          rw [show (Tr.mk x l).kids = l from rfl, hv]
          exact e1
        · rcases List.mem_cons.1 hj with rfl | hj
          · exact h0
          · exact e2 j hj
    · cases h
theorem u2 {i : Int} {p : List Int} {x : Lab} {l : List VT} {u : VT} (h : atO (i :: p) (.mk x l) = some u) : ∃ (k : Nat) (v : VT), i = k ∧ l[k]? = some v ∧ atO p v = some u := by
  rw [atO] at h
  split at h
  · rename_i h0
    cases hv : l[i.toNat]? with
    | none => rw [hv] at h; cases h
    | some v =>
      rw [hv] at h
      exact ⟨i.toNat, v, by omega, hv, h⟩
  · cases h
theorem b0u (brg : List VT → VT → List VT) (i : Nat) (r : List Nat) (x : Lab) (l L : List VT) : bwT brg (i :: r) (.mk x l) L = bwT brg r (l.getD i z0T) (if x.k = 29 then (l.take i).foldl brg L else if x.k = 25 ∧ i = 2 then L ++ [tyT 1] else L) := rfl
theorem b7w {m ret : VT} : ∀ (l r : List VT) (L : List VT) (B : Nat), (∀ y ∈ l, m7 y) → Cn m L ret B ((l.map Tr.size).sum + (r.map Tr.size).sum) → Cn m (l.foldl (z6 m) L) ret (B + (l.map Tr.size).sum) (r.map Tr.size).sum
  | [], r, L, B, _, h => by simpa using h
  | y :: l, r, L, B, hl, h => by
    rw [List.foldl_cons, List.map_cons, List.sum_cons, ← Nat.add_assoc]
    rw [List.map_cons, List.sum_cons, Nat.add_assoc] at h
    exact b7w l r _ _ (fun z hz => hl z (by simp [hz])) (b66 h (hl y (by simp)))
theorem b9k (l : List VT) (k : Nat) : ((l.take k).map Tr.size).sum + ((l.drop k).map Tr.size).sum = (l.map Tr.size).sum := by
  rw [← List.sum_append, ← List.map_append, List.take_append_drop]
theorem a22 {m ret : VT} {l L : List VT} {B : Nat} (hl : ∀ y ∈ l, m7 y) (h : Cn m L ret B (l.map Tr.size).sum) {k : Nat} {y : VT} (hk : l[k]? = some y) : Cn m ((l.take k).foldl (z6 m) L) ret (B + ((l.take k).map Tr.size).sum) y.size := by
  have h1 := b7w (l.take k) (l.drop k) L B (fun z hz => hl z (List.mem_of_mem_take hz)) (by rw [b9k]; exact h)
  have hlt := (List.getElem?_eq_some_iff.1 hk).1
  have hd : l.drop k = y :: l.drop (k + 1) := by rw [List.drop_eq_getElem_cons hlt, (List.getElem?_eq_some_iff.1 hk).2]
  rw [hd, List.map_cons, List.sum_cons] at h1
  exact h1.less (by omega)
theorem b7x {m : VT} {l L : List VT} {k : Nat} {y : VT} (hk : l[k]? = some y) : (l.take (k + 1)).foldl (z6 m) L = z6 m ((l.take k).foldl (z6 m) L) y := by
  rw [List.take_add_one, hk, List.foldl_append]
  rfl
theorem b18 {m ret : VT} {x : Lab} {l L : List VT} {B k : Nat} {v : VT} (ht : m7 (.mk x l)) (hc : Cn m L ret B (Tr.mk x l).size) (hv : l[k]? = some v) : ∃ B', Cn m (if x.k = 29 then (l.take k).foldl (z6 m) L else if x.k = 25 ∧ k = 2 then L ++ [tyT 1] else L) ret B' v.size := by
  have hlen := Tr.len_size (x := x) (l := l)
  have hsum : (l.map Tr.size).sum + 1 = (Tr.mk x l).size := by rw [Tr.size_mk]; omega
  have hl : ∀ y ∈ l, m7 y := ((Tr.all_mk _ _ _).1 ht).2
  have hsv := Tr.size_at (x := x) hv
  have hcl := hc.len
  have hce := hc.le
  split
  · exact ⟨_, a22 hl (hc.less (by omega)) hv⟩
  split
  · exact ⟨B, hc.hm, fun y hy => by
      rcases List.mem_append.1 hy with hy | hy
      · exact hc.hL y hy
      · rw [List.mem_singleton.1 hy]
        have := hc.hm.2
        have := Tr.size_pos m
        exact ⟨(Tr.all_mk _ _ _).2 ⟨⟨by decide, by decide, by decide, by decide⟩, fun z hz => by cases hz⟩, by unfold tyT; rw [Tr.size_mk]; simp; omega⟩, by rw [List.length_append]; simp; omega, by omega, hc.ret⟩
  · exact ⟨B, hc.less (by omega)⟩
theorem a1f (m ret : VT) : ∀ (p : List Int) (t u : VT) (L : List VT) (B : Nat), p.length ≤ 1000000 → atO p t = some u → m7 t → Cn m L ret B t.size → Row Tryz.prog 23 [vT m, vLs L, vT t, vIs p] [] (vLs (bwT (z6 m) (p.map Int.toNat) t L)) []
  | [], .mk x l, u, L, B, _, _, _, hc => by
    obtain ⟨mx, ml⟩ := m
    rw [show bwT (z6 (.mk mx ml)) (([] : List Int).map Int.toNat) (.mk x l) L = L from rfl]
    refine d7 Tryz.func23 rfl rfl (Nat.le_of_ble_eq_true rfl) ?_
    repeat (first | refine b9 ?_ | refine b6 ?_ | refine a6 ?_ | refine b5 ?_ | refine e7 rfl ?_ | refine d9 rfl ?_ | ((first | refine b8 (fun K hK => ?_) | refine d3 e9 (fun K hK => ?_) | fail); simp -implicitDefEqProofs; first | refine hK _ ?_ | refine hK _ _ (by rfl) ?_ | fail) | fail)
    refine d6 (d4 ?_); simp -implicitDefEqProofs [f9, f6, f7] <;> try rfl
  | i :: p, .mk x l, u, L, B, hp, h, ht, hc => by
    obtain ⟨k, v, rfl, hv, hu⟩ := u2 h
    have hv' := (List.getElem?_eq_some_iff.1 hv).2
    have h2 := (List.getElem?_eq_some_iff.1 hv).1
    have h3 : (k : Int) < l.length := by omega
    have hlen := Tr.len_size (x := x) (l := l)
    have hsum : (l.map Tr.size).sum + 1 = (Tr.mk x l).size := by rw [Tr.size_mk]; omega
    have hl : ∀ y ∈ l, m7 y := ((Tr.all_mk _ _ _).1 ht).2
    have hvl := hl v (List.mem_of_getElem? hv)
    have hsv := Tr.size_at (x := x) hv
    have hcl := hc.len
    have hce := hc.le
    have hp' : p.length ≤ 1000000 := by simp at hp; omega
    have hz : ¬ (p.length : Int) + 1 = 0 := by omega
    have hz2 : (1 : Int) ≤ (p.length : Int) + 1 := by omega
    rw [List.map_cons, Int.toNat_natCast]
    rw [b0u, List.getD_eq_getElem?_getD, hv]
    rw [show (some v).getD z0T = v from rfl]
    by_cases h29 : x.k = 29
    · rw [if_pos h29]
      have hc0 : Cn m L ret B (l.map Tr.size).sum := hc.less (by omega)
      have hr := a1f m ret p v u ((l.take k).foldl (z6 m) L) _ hp' hu hvl (a22 hl hc0 hv)
      obtain ⟨R, hR⟩ : ∃ R, bwT (z6 m) (p.map Int.toNat) v ((l.take k).foldl (z6 m) L) = R := ⟨_, rfl⟩
      rw [hR] at hr ⊢
      clear hR
      obtain ⟨⟨vx, vl⟩, rfl⟩ : ∃ q, v = q := ⟨_, rfl⟩
      have hbr := fun (j : Nat) (y : VT) (hy : l[j]? = some y) => a41 m ((l.take j).foldl (z6 m) L) _ (a22 hl hc0 hy).hm (a22 hl hc0 hy).hL (by have := (a22 hl hc0 hy).le; omega) (by have := (a22 hl hc0 hy).len; omega) y (hl y (List.mem_of_getElem? hy)) (by have := Tr.size_at (x := x) hy; omega)
      obtain ⟨mx, ml⟩ := m
      have q0 : (l.take 0).foldl (z6 (.mk mx ml)) L = L := rfl
      refine d7 Tryz.func23 rfl rfl (Nat.le_of_ble_eq_true rfl) ?_
      repeat (first | refine b9 ?_ | refine b6 ?_ | refine a6 ?_ | refine b5 ?_ | refine e7 rfl ?_ | refine d9 rfl ?_ | ((first | refine b8 (fun K hK => ?_) | refine d3 e9 (fun K hK => ?_) | fail); simp -implicitDefEqProofs [h29, hz, hz2]; first | refine hK _ ?_ | refine hK _ _ (by rfl) ?_ | fail) | fail)
      refine m6 (ι := Nat) (fun j => x5 [(1, vLs ((l.take j).foldl (z6 (.mk mx ml)) L)), (3, vIs ((k : Int) :: p)), (4, .v (.c (.ptr 0 0))), (6, .v (.c (.ptr 1 0))), (9, vI (k : Nat)), (10, vI (j : Nat))] [some (.box (ta (.mk mx ml))), some (.box (ta (.mk x l)))]) (fun j => j ≤ k) (fun j => k - j) 0 (Nat.zero_le _) (by rw [q0]; exact e8 [0, 1] (by simp -implicitDefEqProofs [h29]) (by simp -implicitDefEqProofs [h29]) (by decide) rfl (by simp)) (fun Z hI j hj => ?_)
      by_cases hjk : j < k; rotate_left
      · have : j = k := by omega
        subst this
        repeat' (first | refine b9 ?_ | refine b6 ?_ | refine a6 ?_ | refine b5 ?_ | refine e7 rfl ?_ | refine d9 rfl ?_ | ((first | refine b8 (fun K hK => ?_) | refine d3 e9 (fun K hK => ?_) | refine b7 (cp hr ?_) | refine a8 (dp hr ?_) | fail); simp -implicitDefEqProofs [h29, hz, hz2, hv, hv', h2, h3]) | refine hK _ ?_ | refine hK _ _ (by rfl) ?_ | fail)
        refine d6 (d4 ?_); simp -implicitDefEqProofs [f9, f6, f7] <;> try rfl
      obtain ⟨⟨ax, al⟩, ha⟩ : ∃ a, l[j]? = some a := ⟨_, List.getElem?_eq_getElem (by omega)⟩
      have ha' := (List.getElem?_eq_some_iff.1 ha).2
      have hjl := (List.getElem?_eq_some_iff.1 ha).1
      have w2 : IntKind.i64.wrap ((j : Nat) + 1 : Int) = (j : Nat) + 1 := l4 _ (by omega) (by omega)
      have hb := hbr j _ ha
      rw [← b7x ha] at hb
      clear hr hbr
      repeat' (first | refine b9 ?_ | refine b6 ?_ | refine a6 ?_ | refine b5 ?_ | refine e7 rfl ?_ | refine d9 rfl ?_ | ((first | refine b8 (fun K hK => ?_) | refine d3 e9 (fun K hK => ?_) | refine b7 (cp hb ?_) | refine a8 (dp hb ?_) | fail); simp -implicitDefEqProofs [hjk, hjl, ha, ha', w2, h2]) | refine hK _ ?_ | refine hK _ _ (by rfl) ?_ | fail)
      refine ⟨j + 1, by omega, (by dsimp only; omega), ?_⟩
      rw [hI]; exact e8 [0, 1] (by simp -implicitDefEqProofs) (by simp -implicitDefEqProofs) (by decide) rfl (by simp)
    · rw [if_neg h29]
      by_cases h25 : x.k = 25 ∧ k = 2
      · obtain ⟨h25, rfl⟩ := h25
        rw [if_pos ⟨h25, rfl⟩]
        obtain ⟨B1, hc1⟩ := b18 ht hc hv
        rw [if_neg h29, if_pos ⟨h25, rfl⟩] at hc1
        have hr := a1f m ret p v u (L ++ [tyT 1]) _ hp' hu hvl hc1
        obtain ⟨R, hR⟩ : ∃ R, bwT (z6 m) (p.map Int.toNat) v (L ++ [tyT 1]) = R := ⟨_, rfl⟩
        rw [hR] at hr ⊢
        clear hR
        unfold tyT at hr
        have b1 : (L.length + 1) * 72 ≤ 140737488355328 := by omega
        have b2 : L.length + 1 ≤ 140737488355328 := by omega
        have b3 : L.length * 72 ≤ 140737488355328 := by omega
        have b4 : L.length ≤ 140737488355328 := by omega
        obtain ⟨vx, vl⟩ := v
        obtain ⟨mx, ml⟩ := m
        refine d7 Tryz.func23 rfl rfl (Nat.le_of_ble_eq_true rfl) ?_
        repeat' (first | refine b9 ?_ | refine b6 ?_ | refine a6 ?_ | refine b5 ?_ | refine e7 rfl ?_ | refine d9 rfl ?_ | ((first | refine b8 (fun K hK => ?_) | refine d3 e9 (fun K hK => ?_) | refine b7 (cp hr ?_) | refine a8 (dp hr ?_) | fail); simp -implicitDefEqProofs [h25, hz, hz2, hv, hv', h2, h3, b1, b2, b3, b4]) | refine hK _ ?_ | refine hK _ _ (by rfl) ?_ | fail)
        refine d6 (d4 ?_); simp -implicitDefEqProofs [f9, f6, f7] <;> try rfl
      · rw [if_neg h25]
        have hr := a1f m ret p v u L _ hp' hu hvl (hc.less (by omega))
        obtain ⟨R, hR⟩ : ∃ R, bwT (z6 m) (p.map Int.toNat) v L = R := ⟨_, rfl⟩
        rw [hR] at hr ⊢
        clear hR
        obtain ⟨vx, vl⟩ := v
        obtain ⟨mx, ml⟩ := m
        by_cases k25 : x.k = 25
        · have hk2 : ¬ k = 2 := fun e => h25 ⟨k25, e⟩
          have hk2' : ¬ (k : Int) = 2 := by omega
          refine d7 Tryz.func23 rfl rfl (Nat.le_of_ble_eq_true rfl) ?_
          repeat' (first | refine b9 ?_ | refine b6 ?_ | refine a6 ?_ | refine b5 ?_ | refine e7 rfl ?_ | refine d9 rfl ?_ | ((first | refine b8 (fun K hK => ?_) | refine d3 e9 (fun K hK => ?_) | refine b7 (cp hr ?_) | refine a8 (dp hr ?_) | fail); simp -implicitDefEqProofs [k25, hk2, hk2', hz, hz2, hv, hv', h2, h3]) | refine hK _ ?_ | refine hK _ _ (by rfl) ?_ | fail)
          refine d6 (d4 ?_); simp -implicitDefEqProofs [f9, f6, f7] <;> try rfl
        · refine d7 Tryz.func23 rfl rfl (Nat.le_of_ble_eq_true rfl) ?_
          repeat' (first | refine b9 ?_ | refine b6 ?_ | refine a6 ?_ | refine b5 ?_ | refine e7 rfl ?_ | refine d9 rfl ?_ | ((first | refine b8 (fun K hK => ?_) | refine d3 e9 (fun K hK => ?_) | refine b7 (cp hr ?_) | refine a8 (dp hr ?_) | fail); simp -implicitDefEqProofs [h29, k25, hz, hz2, hv, hv', h2, h3]) | refine hK _ ?_ | refine hK _ _ (by rfl) ?_ | fail)
          refine d6 (d4 ?_); simp -implicitDefEqProofs [f9, f6, f7] <;> try rfl
theorem b3x {m : VT} (hm : m7 m) {B : Nat} (hB : m.size ≤ B) {k : Nat} {d : VT} (hd : m.kids[k]? = some d) (hp : ∀ y ∈ (d.kids.getD 0 z0T).kids, j1 y = true) : (∀ t ∈ p8 d, p6 B t) ∧ (p8 d).length < m.size := by
  obtain ⟨mx, ml⟩ := m
  have hd : ml[k]? = some d := hd
  have h1 := ((Tr.all_mk _ _ _).1 hm).2 d (List.mem_of_getElem? hd)
  have s1 := Tr.size_at (x := mx) hd
  obtain ⟨x, l⟩ := d
  cases l with
  | nil => exact ⟨fun t ht => by simp [p8, Tr.kids] at ht, by simp [p8, Tr.kids]; exact Tr.size_pos _⟩
  | cons q l =>
  have h2 := ((Tr.all_mk _ _ _).1 h1).2 q (by simp)
  have s2 := Tr.size_at (x := x) (l := q :: l) (i := 0) rfl
  obtain ⟨qx, ql⟩ := q
  have s3 := Tr.len_size (x := qx) (l := ql)
  have hp : ∀ y ∈ ql, j1 y = true := hp
  rw [show p8 (.mk x (.mk qx ql :: l)) = ql.map (fun q => q.kids.getD 0 z0T) from rfl]
  refine ⟨fun t ht => ?_, by rw [List.length_map]; omega⟩
  obtain ⟨y, hy, rfl⟩ := List.mem_map.1 ht
  have h3 := ((Tr.all_mk _ _ _).1 h2).2 y hy
  have s4 := v8 (x := qx) hy
  have hpy := hp y hy
  unfold j1 at hpy
  rw [Bool.and_eq_true] at hpy
  obtain ⟨yx, yl⟩ := y
  obtain ⟨z, rfl⟩ : ∃ z, yl = [z] := List.length_eq_one_iff.1 (of_decide_eq_true hpy.2)
  have s5 := Tr.size_at (x := yx) (l := [z]) (i := 0) rfl
  exact ⟨((Tr.all_mk _ _ _).1 h3).2 z (by simp), by show z.size ≤ B; omega⟩
theorem b1p (m : VT) (hm : m7 m) (hms : m.size ≤ 100000) (hr : c0f m = true) (p : List Int) (u : VT) (hpl : p.length ≤ 1000000) (h : atO p m = some u) : Row Tryz.prog 11 [vT m, vIs p] [] (vLs (ldD m (p.map Int.toNat))) [] := by
  by_cases hl : p.length < 2
  · have hl' : (p.length : Int) < 2 := by omega
    have e : ldD m (p.map Int.toNat) = [] := by
      match p, hl with
      | [], _ => rfl
      | [i], _ => rfl
      | i :: j :: r, hl => simp at hl; omega
    rw [e]
    obtain ⟨mx, ml⟩ := m
    refine d7 Tryz.func11 rfl rfl (Nat.le_of_ble_eq_true rfl) ?_
    repeat (first | refine b9 ?_ | refine b6 ?_ | refine a6 ?_ | refine b5 ?_ | refine e7 rfl ?_ | refine d9 rfl ?_ | ((first | refine b8 (fun K hK => ?_) | refine d3 e9 (fun K hK => ?_) | fail); simp -implicitDefEqProofs [hl, hl']; first | refine hK _ ?_ | refine hK _ _ (by rfl) ?_ | fail) | fail)
    refine d6 (d4 ?_); simp -implicitDefEqProofs [f9, f6, f7] <;> try rfl
  obtain ⟨i, j, p, rfl⟩ : ∃ i j r, p = i :: j :: r := by
    match p, hl with
    | [], hl => simp at hl
    | [i], hl => simp at hl
    | i :: j :: r, _ => exact ⟨i, j, r, rfl⟩
  have hfm : p6 100000 m := ⟨hm, hms⟩
  obtain ⟨mx, ml⟩ := m
  obtain ⟨k, d, rfl, hd, h1⟩ := u2 h
  have hd' := (List.getElem?_eq_some_iff.1 hd).2
  have hkl := (List.getElem?_eq_some_iff.1 hd).1
  have hki : (k : Int) < ml.length := by omega
  have hin := ((Tr.all_mk _ _ _).1 hm).2 d (List.mem_of_getElem? hd)
  have hsz := Tr.size_at (x := mx) hd
  obtain ⟨he, hn⟩ := a9m hr (i := k) (d := d) hd
  have htf := b3x (m := .mk mx ml) hm hms (d := d) hd
  have hz2 : ¬ (p.length : Int) + 1 + 1 < 2 := by omega
  have hz3 : (2 : Int) ≤ (p.length : Int) + 1 + 1 := by omega
  obtain ⟨x, l⟩ := d
  rw [List.map_cons, List.map_cons, Int.toNat_natCast]
  rw [a2b, show (Tr.mk mx ml).kids = ml from rfl, List.getD_eq_getElem?_getD, hd, show (some (Tr.mk x l)).getD z0T = .mk x l from rfl, show (Tr.mk x l).lab = x from rfl, show (Tr.mk x l).kids = l from rfl]
  by_cases h33 : x.k = 33; rotate_left
  · rw [if_neg (fun e => h33 e.1)]
    refine d7 Tryz.func11 rfl rfl (Nat.le_of_ble_eq_true rfl) ?_
    repeat (first | refine b9 ?_ | refine b6 ?_ | refine a6 ?_ | refine b5 ?_ | refine e7 rfl ?_ | refine d9 rfl ?_ | ((first | refine b8 (fun K hK => ?_) | refine d3 e9 (fun K hK => ?_) | fail); simp -implicitDefEqProofs [h33, hz2, hz3, hd, hd', hkl, hki]; first | refine hK _ ?_ | refine hK _ _ (by rfl) ?_ | fail) | fail)
    refine d6 (d4 ?_); simp -implicitDefEqProofs [f9, f6, f7] <;> try rfl
  by_cases hj : j = 2; rotate_left
  · obtain ⟨k2, e, rfl, -, -⟩ := u2 h1
    rw [if_neg (fun e => hj (by have := e.2; omega))]
    refine d7 Tryz.func11 rfl rfl (Nat.le_of_ble_eq_true rfl) ?_
    repeat (first | refine b9 ?_ | refine b6 ?_ | refine a6 ?_ | refine b5 ?_ | refine e7 rfl ?_ | refine d9 rfl ?_ | ((first | refine b8 (fun K hK => ?_) | refine d3 e9 (fun K hK => ?_) | fail); simp -implicitDefEqProofs [h33, hj, hz2, hz3, hd, hd', hkl, hki]; first | refine hK _ ?_ | refine hK _ _ (by rfl) ?_ | fail) | fail)
    refine d6 (d4 ?_); simp -implicitDefEqProofs [f9, f6, f7] <;> try rfl
  subst hj
  rw [if_pos ⟨h33, rfl⟩]
  obtain ⟨q, r, b, rfl, h35, h29, hp, -, -, hst⟩ := a82 (m := .mk mx ml) h33 he
  obtain ⟨hT, hTl⟩ := htf hp
  have hbi := ((Tr.all_mk _ _ _).1 hin).2 b (by simp)
  have hri := ((Tr.all_mk _ _ _).1 hin).2 r (by simp)
  have hbs := Tr.size_at (x := x) (l := [q, r, b]) (i := 2) rfl
  have hrs := Tr.size_at (x := x) (l := [q, r, b]) (i := 1) rfl
  obtain ⟨v, hv, hu⟩ : ∃ v, [q, r, b][(2 : Int).toNat]? = some v ∧ atO p v = some u := by
    obtain ⟨k2, v, e, hv, hu⟩ := u2 h1
    rw [e]
    exact ⟨v, hv, hu⟩
  cases hv
  have hbw := a1f (.mk mx ml) r p b u (p8 (.mk x [q, r, b])) 100000 (by simp at hpl; omega) hu hbi ⟨hfm, hT, by omega, by omega, ⟨hri, by omega⟩⟩
  have hqs := Tr.size_at (x := x) (l := [q, r, b]) (i := 0) rfl
  obtain ⟨qx, ql⟩ := q
  have hql := Tr.len_size (x := qx) (l := ql)
  have hty := a6j x qx ql [r, b] (by omega) (List.all_eq_true.2 hp)
  rw [show [Tr.mk qx ql, r, b].getD 2 z0T = b from rfl]
  obtain ⟨T, hTT⟩ : ∃ T, p8 (.mk x [.mk qx ql, r, b]) = T := ⟨_, rfl⟩
  rw [hTT] at hty hbw ⊢
  obtain ⟨R, hR⟩ : ∃ R, bwT (z6 (.mk mx ml)) (p.map Int.toNat) b T = R := ⟨_, rfl⟩
  rw [hR] at hbw ⊢
  clear hR hTT hT hst hn he hr
  obtain ⟨rx, rl⟩ := r
  obtain ⟨bx, bl⟩ := b
  refine d7 Tryz.func11 rfl rfl (Nat.le_of_ble_eq_true rfl) ?_
  repeat' (first | refine b9 ?_ | refine b6 ?_ | refine a6 ?_ | refine b5 ?_ | refine e7 rfl ?_ | refine d9 rfl ?_ | ((first | refine b8 (fun K hK => ?_) | refine d3 e9 (fun K hK => ?_) | refine b7 (cg hty [] ?_) | refine a8 (dg hty [] ?_) | refine b7 (cp hbw ?_) | refine a8 (dp hbw ?_) | fail); simp -implicitDefEqProofs [h33, hz2, hz3, hd, hd', hkl, hki]) | refine hK _ ?_ | refine hK _ _ (by rfl) ?_ | fail)
  refine d6 (d4 ?_); simp -implicitDefEqProofs [f9, f6, f7] <;> try rfl
theorem b43 (L : List VT) (hL : ∀ t ∈ L, t.size ≤ 1000000) (hl : L.length ≤ 1000000) : Row Tryz.prog 10 [vLs L, vLs L] [] (vB true) [] := by
  have hsm := fun (j : Nat) (y : VT) (hy : L[j]? = some y) => a04 y (hL y (List.mem_of_getElem? hy)) y (hL y (List.mem_of_getElem? hy))
  refine d7 Tryz.func10 rfl rfl (Nat.le_of_ble_eq_true rfl) ?_
  repeat (first | refine b9 ?_ | refine b6 ?_ | refine a6 ?_ | refine b5 ?_ | refine e7 rfl ?_ | refine d9 rfl ?_ | ((first | refine b8 (fun K hK => ?_) | refine d3 e9 (fun K hK => ?_) | fail); simp -implicitDefEqProofs; first | refine hK _ ?_ | refine hK _ _ (by rfl) ?_ | fail) | fail)
  refine m6 (ι := Nat) (fun j => x5 [(0, vLs L), (1, vLs L), (5, vI (j : Nat))] []) (fun j => j ≤ L.length) (fun j => L.length - j) 0 (Nat.zero_le _) (e8 [] (by simp -implicitDefEqProofs) (by simp -implicitDefEqProofs) (by decide) rfl (by simp)) (fun Z hI j hj => ?_)
  by_cases hjk : j < L.length; rotate_left
  · have : j = L.length := by omega
    subst this
    clear hsm
    repeat (first | refine b9 ?_ | refine b6 ?_ | refine a6 ?_ | refine b5 ?_ | refine e7 rfl ?_ | refine d9 rfl ?_ | ((first | refine b8 (fun K hK => ?_) | refine d3 e9 (fun K hK => ?_) | fail); simp -implicitDefEqProofs; first | refine hK _ ?_ | refine hK _ _ (by rfl) ?_ | fail) | fail)
    refine d6 (d4 ?_); simp -implicitDefEqProofs [f9, f6, f7] <;> try rfl
  obtain ⟨a, ha⟩ : ∃ a, L[j]? = some a := ⟨_, List.getElem?_eq_getElem hjk⟩
  have ha' := (List.getElem?_eq_some_iff.1 ha).2
  have w2 : IntKind.i64.wrap ((j : Nat) + 1 : Int) = (j : Nat) + 1 := l4 _ (by omega) (by omega)
  have hb := hsm j a ha
  rw [a9q] at hb
  clear hsm
  obtain ⟨ax, al⟩ := a
  repeat' (first | refine b9 ?_ | refine b6 ?_ | refine a6 ?_ | refine b5 ?_ | refine e7 rfl ?_ | refine d9 rfl ?_ | ((first | refine b8 (fun K hK => ?_) | refine d3 e9 (fun K hK => ?_) | refine b7 (cp hb ?_) | refine a8 (dp hb ?_) | fail); simp -implicitDefEqProofs [hjk, ha, ha', w2]) | refine hK _ ?_ | refine hK _ _ (by rfl) ?_ | fail)
  refine ⟨j + 1, by omega, (by dsimp only; omega), ?_⟩
  rw [hI]; exact e8 [] (by simp -implicitDefEqProofs) (by simp -implicitDefEqProofs) (by decide) rfl (by simp)
theorem knw_cm {m : VT} {L : List VT} {ret : VT} {B sz : Nat} {t : VT} (h : Cm m L ret B (t.size + sz)) (ht : m7 t) : Cm m (a01 m L t) ret (B + t.size) sz := by
  have h1 := h.len
  have h2 := h.le
  have hp := Tr.size_pos t
  obtain ⟨k1, k2⟩ := c1o h.hm (by have := h.hm.2; omega) h.hL ht (by omega)
  exact ⟨h.hm.le (by omega), k1, by omega, by omega, h.ret⟩
theorem b24 {m ret : VT} : ∀ (l r : List VT) (L : List VT) (B : Nat), (∀ y ∈ l, m7 y) → Cm m L ret B ((l.map Tr.size).sum + (r.map Tr.size).sum) → Cm m (l.foldl (a01 m) L) ret (B + (l.map Tr.size).sum) (r.map Tr.size).sum
  | [], r, L, B, _, h => by simpa using h
  | y :: l, r, L, B, hl, h => by
    rw [List.foldl_cons, List.map_cons, List.sum_cons, ← Nat.add_assoc]
    rw [List.map_cons, List.sum_cons, Nat.add_assoc] at h
    exact b24 l r _ _ (fun z hz => hl z (by simp [hz])) (knw_cm h (hl y (by simp)))
theorem b23 {m ret : VT} {l L : List VT} {B : Nat} (hl : ∀ y ∈ l, m7 y) (h : Cm m L ret B (l.map Tr.size).sum) {k : Nat} {y : VT} (hk : l[k]? = some y) : Cm m ((l.take k).foldl (a01 m) L) ret (B + ((l.take k).map Tr.size).sum) y.size := by
  have h1 := b24 (l.take k) (l.drop k) L B (fun z hz => hl z (List.mem_of_mem_take hz)) (by rw [b9k]; exact h)
  have hlt := (List.getElem?_eq_some_iff.1 hk).1
  have hd : l.drop k = y :: l.drop (k + 1) := by rw [List.drop_eq_getElem_cons hlt, (List.getElem?_eq_some_iff.1 hk).2]
  rw [hd, List.map_cons, List.sum_cons] at h1
  exact h1.less (by omega)
theorem b4r {m : VT} {l L : List VT} {k : Nat} {y : VT} (hk : l[k]? = some y) : (l.take (k + 1)).foldl (a01 m) L = a01 m ((l.take k).foldl (a01 m) L) y := by
  rw [List.take_add_one, hk, List.foldl_append]
  rfl
noncomputable abbrev vLsB (L : AC) (b : Bool) : AV := .tup [.c L, .c (.pv (Bo b))]
theorem b4o (m : VT) (p : List Int) (hpl : p.length ≤ 1000000) (h : atO p m = none) : Row Tryz.prog 7 [vT m, vIs p] [] (vLsB (.pv .nilS) false) [] := by
  have ha := b6x p m hpl
  unfold atG at ha
  rw [h] at ha
  obtain ⟨mx, ml⟩ := m
  refine d7 Tryz.func7 rfl rfl (Nat.le_of_ble_eq_true rfl) ?_
  repeat' (first | refine b9 ?_ | refine b6 ?_ | refine a6 ?_ | refine b5 ?_ | refine e7 rfl ?_ | refine d9 rfl ?_ | ((first | refine b8 (fun K hK => ?_) | refine d3 e9 (fun K hK => ?_) | refine b7 (cp ha ?_) | refine a8 (dp ha ?_) | fail); simp -implicitDefEqProofs [z0]) | refine hK _ ?_ | refine hK _ _ (by rfl) ?_ | fail)
  refine d6 (d4 ?_); simp -implicitDefEqProofs [f9, f6, f7] <;> try rfl
theorem b08 (m : VT) (p : List Int) (u : VT) (hpl : p.length ≤ 1000000) (h : atO p m = some u) (hn : ∀ i j r, p = i :: j :: r → ¬ ((m.kids.getD i.toNat z0T).lab.k = 33 ∧ j = 2)) : Row Tryz.prog 7 [vT m, vIs p] [] (vLsB (.pv (.sl 6 [])) true) [] := by
  have ha := b6x p m hpl
  unfold atG at ha
  rw [h] at ha
  by_cases hl : p.length < 2
  · have hl' : (p.length : Int) < 2 := by omega
    obtain ⟨mx, ml⟩ := m
    obtain ⟨ux, ul⟩ := u
    refine d7 Tryz.func7 rfl rfl (Nat.le_of_ble_eq_true rfl) ?_
    repeat' (first | refine b9 ?_ | refine b6 ?_ | refine a6 ?_ | refine b5 ?_ | refine e7 rfl ?_ | refine d9 rfl ?_ | ((first | refine b8 (fun K hK => ?_) | refine d3 e9 (fun K hK => ?_) | refine b7 (cp ha ?_) | refine a8 (dp ha ?_) | fail); simp -implicitDefEqProofs [hl, hl']) | refine hK _ ?_ | refine hK _ _ (by rfl) ?_ | fail)
    refine b17 4 24 6 (by simp) ?_
    simp [St.nil]
    refine d6 (d4 ?_); simp -implicitDefEqProofs [f9, f6, f7] <;> try rfl
  obtain ⟨i, j, p, rfl⟩ : ∃ i j r, p = i :: j :: r := by
    match p, hl with
    | [], hl => simp at hl
    | [i], hl => simp at hl
    | i :: j :: r, _ => exact ⟨i, j, r, rfl⟩
  have hnn := hn i j p rfl
  obtain ⟨mx, ml⟩ := m
  obtain ⟨k, d, rfl, hd, h1⟩ := u2 h
  have hd' := (List.getElem?_eq_some_iff.1 hd).2
  have hkl := (List.getElem?_eq_some_iff.1 hd).1
  have hki : (k : Int) < ml.length := by omega
  have hz2 : ¬ (p.length : Int) + 1 + 1 < 2 := by omega
  have hz3 : (2 : Int) ≤ (p.length : Int) + 1 + 1 := by omega
  rw [show (Tr.mk mx ml).kids = ml from rfl, Int.toNat_natCast, List.getD_eq_getElem?_getD, hd] at hnn
  obtain ⟨x, l⟩ := d
  obtain ⟨ux, ul⟩ := u
  have hnn : ¬ (x.k = 33 ∧ j = 2) := hnn
  clear hn
  by_cases h33 : x.k = 33
  · have hj : ¬ j = 2 := fun e => hnn ⟨h33, e⟩
    refine d7 Tryz.func7 rfl rfl (Nat.le_of_ble_eq_true rfl) ?_
    repeat' (first | refine b9 ?_ | refine b6 ?_ | refine a6 ?_ | refine b5 ?_ | refine e7 rfl ?_ | refine d9 rfl ?_ | ((first | refine b8 (fun K hK => ?_) | refine d3 e9 (fun K hK => ?_) | refine b7 (cp ha ?_) | refine a8 (dp ha ?_) | fail); simp -implicitDefEqProofs [h33, hj, hz2, hz3, hd, hd', hkl, hki]) | refine hK _ ?_ | refine hK _ _ (by rfl) ?_ | fail)
    refine b17 4 24 6 (by simp) ?_
    simp [St.nil]
    refine d6 (d4 ?_); simp -implicitDefEqProofs [f9, f6, f7] <;> try rfl
  · refine d7 Tryz.func7 rfl rfl (Nat.le_of_ble_eq_true rfl) ?_
    repeat' (first | refine b9 ?_ | refine b6 ?_ | refine a6 ?_ | refine b5 ?_ | refine e7 rfl ?_ | refine d9 rfl ?_ | ((first | refine b8 (fun K hK => ?_) | refine d3 e9 (fun K hK => ?_) | refine b7 (cp ha ?_) | refine a8 (dp ha ?_) | fail); simp -implicitDefEqProofs [h33, hz2, hz3, hd, hd', hkl, hki]) | refine hK _ ?_ | refine hK _ _ (by rfl) ?_ | fail)
    refine b17 4 24 6 (by simp) ?_
    simp [St.nil]
    refine d6 (d4 ?_); simp -implicitDefEqProofs [f9, f6, f7] <;> try rfl
theorem b09 (m ret : VT) (a e : Int) (x fx : Lab) (fl l : List VT) (hp : b41 fl = true) (hsz : (Tr.mk fx fl).size ≤ 400000) : Row Tryz.prog 19 [.v (.c (.ptr 0 0)), vT (.mk x (.mk fx fl :: l))] [.box (ta m ++ ta ret ++ [.pv .nilS, .pv (I a), .pv (I e)])] (.tup []) [some (bxJ 1 m ret (a79 fl).length a e), some (arJ (a79 fl))] := by
  have hfl := Tr.len_size (x := fx) (l := fl)
  obtain ⟨mx, ml⟩ := m
  obtain ⟨rx, rl⟩ := ret
  have p0 : a79 (List.take 0 fl) = [] := rfl
  refine d7 Tryz.func19 rfl rfl (Nat.le_of_ble_eq_true rfl) ?_
  refine a08 0 12 _ 24 6 rfl rfl (show (0 : Nat) < 1 by decide) ?_
  simp [St.nilca]
  refine a38 1 0 12 _ 24 6 0 [] rfl rfl (.inl rfl) (by dsimp only; omega) (by dsimp only; omega) ?_
  simp [St.mvw]
  repeat (first | refine b9 ?_ | refine b6 ?_ | refine a6 ?_ | refine b5 ?_ | refine e7 rfl ?_ | refine d9 rfl ?_ | ((first | refine b8 (fun K hK => ?_) | refine d3 e9 (fun K hK => ?_) | fail); simp -implicitDefEqProofs; first | refine hK _ ?_ | refine hK _ _ (by rfl) ?_ | fail) | fail)
  refine m6 (ι := Nat) (fun k => x5 [(0, .v (.c (.ptr 0 0))), (10, vLs fl), (11, vI (fl.length : Nat)), (12, vI (k : Nat))] [some (bxJ 1 (.mk mx ml) (.mk rx rl) (a79 (fl.take k)).length a e), some (arJ (a79 (fl.take k)))]) (fun k => k ≤ fl.length) (fun k => fl.length - k) 0 (Nat.zero_le _) (by rw [p0]; exact e8 [0, 2] (by simp -implicitDefEqProofs) (by simp -implicitDefEqProofs) (by decide) rfl (by simp)) (fun Z hI k hk => ?_)
  by_cases hkl : k < fl.length; rotate_left
  · have : k = fl.length := by omega
    subst this
    rw [List.take_length]
    repeat (first | refine b9 ?_ | refine b6 ?_ | refine a6 ?_ | refine b5 ?_ | refine e7 rfl ?_ | refine d9 rfl ?_ | ((first | refine b8 (fun K hK => ?_) | refine d3 e9 (fun K hK => ?_) | fail); simp -implicitDefEqProofs; first | refine hK _ ?_ | refine hK _ _ (by rfl) ?_ | fail) | fail)
    refine l5 (j0 [0, 1] ?_); simp -implicitDefEqProofs [m9, f6, f7] <;> try rfl
  obtain ⟨⟨ax, al⟩, ha⟩ : ∃ a, fl[k]? = some a := ⟨_, List.getElem?_eq_getElem hkl⟩
  have ha' := (List.getElem?_eq_some_iff.1 ha).2
  have hsz1 := Tr.size_at (x := fx) ha
  have w2 : IntKind.i64.wrap ((k : Nat) + 1 : Int) = (k : Nat) + 1 := l4 _ (by omega) (by omega)
  obtain ⟨⟨ux, ul⟩, rfl⟩ := ptd_at hp ha
  have hus := Tr.size_at (x := ax) (l := [Tr.mk ux ul]) (i := 0) rfl
  have hb := a14 (.mk ux ul) (by omega)
  have hs : a79 (fl.take (k + 1)) = a79 (fl.take k) ++ [u9 (.mk ux ul)] := by
    unfold a79
    rw [b8a ha, List.map_append]
    rfl
  have hQl : (a79 (fl.take k)).length ≤ 400000 := by unfold a79; rw [List.length_map, List.length_map, List.length_take]; omega
  obtain ⟨⟨bx, bl⟩, hbb⟩ : ∃ b, u9 (.mk ux ul) = b := ⟨_, rfl⟩
  rw [hbb] at hb hs
  obtain ⟨Q, hQ⟩ : ∃ Q, a79 (fl.take k) = Q := ⟨_, rfl⟩
  rw [hQ] at hs hQl ⊢
  have hbr := a1c (.mk mx ml) (.mk rx rl) Q Q (a1e _) (by omega) a e bx bl
  have hEl : (Q ++ [Tr.mk bx bl]).length = Q.length + 1 := by simp
  repeat' (first | refine b9 ?_ | refine b6 ?_ | refine a6 ?_ | refine b5 ?_ | refine e7 rfl ?_ | refine d9 rfl ?_ | ((first | refine b8 (fun K hK => ?_) | refine d3 e9 (fun K hK => ?_) | refine b7 (cp hb ?_) | refine a8 (dp hb ?_) | refine b7 (cgJ hbr 0 rfl ?_) | refine a8 (dgJ hbr 0 rfl ?_) | fail); simp -implicitDefEqProofs [hkl, ha, ha', w2]) | refine hK _ ?_ | refine hK _ _ (by rfl) ?_ | fail)
  refine ⟨k + 1, by omega, (by dsimp only; omega), ?_⟩
  rw [hI, hs, hEl]; exact e8 [0, 24] (by simp -implicitDefEqProofs) (by simp -implicitDefEqProofs) (by decide) rfl (by simp)
theorem b4n (m : VT) (hm : m7 m) (hms : m.size ≤ 100000) (k : Nat) (x qx : Lab) (ql : List VT) (r b : VT) (hd : m.kids[k]? = some (.mk x [.mk qx ql, r, b])) (h33 : x.k = 33) (hp : b41 ql = true) (p : List Int) (u : VT) (hpl : p.length ≤ 900000) (hu : atO p b = some u) : Row Tryz.prog 7 [vT m, vIs ((k : Int) :: 2 :: p)] [] (vLsB (.pv (.sl 6 ((bwT (a01 m) (p.map Int.toNat) b (a79 ql)).map tc))) true) [] := by
  obtain ⟨mx, ml⟩ := m
  have hd : ml[k]? = some (.mk x [.mk qx ql, r, b]) := hd
  have hau : atO ((k : Int) :: 2 :: p) (.mk mx ml) = some u := by
    rw [atO, if_pos (by omega), Int.toNat_natCast, hd]
    show atO (2 :: p) (.mk x [.mk qx ql, r, b]) = some u
    rw [atO, if_pos (by decide)]
    exact hu
  have ha := b6x ((k : Int) :: 2 :: p) (.mk mx ml) (by simp; omega)
  unfold atG at ha
  rw [hau] at ha
  have hd' := (List.getElem?_eq_some_iff.1 hd).2
  have hkl := (List.getElem?_eq_some_iff.1 hd).1
  have hki : (k : Int) < ml.length := by omega
  have hz2 : ¬ (p.length : Int) + 1 + 1 < 2 := by omega
  have hz3 : (2 : Int) ≤ (p.length : Int) + 1 + 1 := by omega
  have hin := ((Tr.all_mk _ _ _).1 hm).2 _ (List.mem_of_getElem? hd)
  have hsz := Tr.size_at (x := mx) hd
  have hbi := ((Tr.all_mk _ _ _).1 hin).2 b (by simp)
  have hqi := ((Tr.all_mk _ _ _).1 hin).2 (.mk qx ql) (by simp)
  have hbs := Tr.size_at (x := x) (l := [.mk qx ql, r, b]) (i := 2) rfl
  have hqs := Tr.size_at (x := x) (l := [.mk qx ql, r, b]) (i := 0) rfl
  have hql := Tr.len_size (x := qx) (l := ql)
  have hpar := b09 (.mk mx ml) z0T 0 0 x qx ql [r, b] hp (by omega)
  have hPf : (∀ t ∈ a79 ql, p6 100000 t) ∧ (a79 ql).length ≤ 100000 := by
    unfold a79
    refine ⟨fun t ht => ?_, by rw [List.length_map, List.length_map]; omega⟩
    obtain ⟨z, hz, rfl⟩ := List.mem_map.1 ht
    obtain ⟨y, hy, rfl⟩ := List.mem_map.1 hz
    have h3 := ((Tr.all_mk _ _ _).1 hqi).2 y hy
    have s4 := v8 (x := qx) hy
    have hpy := List.all_eq_true.1 hp y hy
    unfold j1 at hpy
    rw [Bool.and_eq_true] at hpy
    obtain ⟨yx, yl⟩ := y
    obtain ⟨z, rfl⟩ : ∃ z, yl = [z] := List.length_eq_one_iff.1 (of_decide_eq_true hpy.2)
    have s5 := Tr.size_at (x := yx) (l := [z]) (i := 0) rfl
    have h4 := ((Tr.all_mk _ _ _).1 h3).2 z (by simp)
    rw [show (Tr.mk yx [z]).kids.getD 0 z0T = z from rfl]
    exact ⟨b6z z h4, by rw [a13]; omega⟩
  obtain ⟨P, hP⟩ : ∃ P, a79 ql = P := ⟨_, rfl⟩
  rw [hP] at hpar hPf ⊢
  obtain ⟨R, hR⟩ : ∃ R, bwT (a01 (.mk mx ml)) (p.map Int.toNat) b P = R := ⟨_, rfl⟩
  rw [hR]
  have hc0 : Cm (.mk mx ml) P z0T 100000 b.size := ⟨⟨hm, hms⟩, hPf.1, by omega, by omega, ⟨(Tr.all_mk _ _ _).2 ⟨⟨by decide, by decide, by decide, by decide⟩, fun z hz => by cases hz⟩, by simp [Tr.size_mk]⟩⟩
  clear hP hp hin hqi hPf hau
  obtain ⟨xk, xn, xs, xf, xt⟩ := x
  have h33 : xk = 33 := h33
  subst h33
  obtain ⟨ux, ul⟩ := u
  obtain ⟨rx, rl⟩ := r
  obtain ⟨bx, bl⟩ := b
  have hkn := fun (L : List VT) (B sz : Nat) (h : Cm (.mk mx ml) L z0T B sz) (t : VT) (ht : m7 t) (hs : t.size ≤ 400000) => b4m (.mk mx ml) z0T L B h.hm h.hL (by have := h.le; omega) (by have := h.len; omega) t ht hs 0 0
  refine d7 Tryz.func7 rfl rfl (Nat.le_of_ble_eq_true rfl) ?_
  repeat' (first | refine b9 ?_ | refine b6 ?_ | refine a6 ?_ | refine b5 ?_ | refine e7 rfl ?_ | refine d9 rfl ?_ | ((first | refine b8 (fun K hK => ?_) | refine d3 e9 (fun K hK => ?_) | refine b7 (cp ha ?_) | refine a8 (dp ha ?_) | refine b7 (cg hpar [183] ?_) | refine a8 (dg hpar [183] ?_) | fail); simp -implicitDefEqProofs [hz2, hz3, hd, hd', hkl, hki]) | refine hK _ ?_ | refine hK _ _ (by rfl) ?_ | fail)
  refine m6 (ι := Nat × VT × List VT) (fun s => x5 [(8, .v (.c (.ptr 0 0))), (9, .v (.c (.ptr 2 0))), (65, vIs p), (66, vI (p.length : Nat)), (67, vI (s.1 : Nat))] [some (bxJ 1 (.mk mx ml) z0T s.2.2.length 0 0), some (arJ s.2.2), some (.box (ta s.2.1))]) (fun s => s.1 ≤ p.length ∧ bwT (a01 (.mk mx ml)) ((p.drop s.1).map Int.toNat) s.2.1 s.2.2 = R ∧ atO (p.drop s.1) s.2.1 = some (.mk ux ul) ∧ m7 s.2.1 ∧ ∃ B, Cm (.mk mx ml) s.2.2 z0T B s.2.1.size) (fun s => p.length - s.1) (0, .mk bx bl, P) ⟨Nat.zero_le _, hR, hu, hbi, 100000, hc0⟩ (e8 [183, 249, 337] (by simp -implicitDefEqProofs) (by simp -implicitDefEqProofs) (by decide) rfl (by simp)) (fun Z hI s hs => ?_)
  obtain ⟨i, ⟨tx, tl⟩, L⟩ := s
  obtain ⟨hi, hz, hat, hti, B, hc⟩ := hs
  dsimp only at hi hz hat hti hc ⊢
  clear hpar ha hR hu hbi hc0 hd hd'
  by_cases hil : i < p.length; rotate_left
  · have : i = p.length := by omega
    subst this
    rw [List.drop_length] at hz
    have hz : L = R := hz
    subst hz
    refine b16 1 24 6 (L.map tc) (by simp) ?_
    simp [St.frz, AV.frz, AT.frz, AC.frz, AO.frz]
    repeat (first | refine b9 ?_ | refine b6 ?_ | refine a6 ?_ | refine b5 ?_ | refine e7 rfl ?_ | refine d9 rfl ?_ | ((first | refine b8 (fun K hK => ?_) | refine d3 e9 (fun K hK => ?_) | fail); simp -implicitDefEqProofs; first | refine hK _ ?_ | refine hK _ _ (by rfl) ?_ | fail) | fail)
    refine d6 (d4 ?_); simp -implicitDefEqProofs [f9, f6, f7] <;> try rfl
  obtain ⟨j, hj⟩ : ∃ a, p[i]? = some a := ⟨_, List.getElem?_eq_getElem hil⟩
  have hj' := (List.getElem?_eq_some_iff.1 hj).2
  have hdr : p.drop i = j :: p.drop (i + 1) := by rw [List.drop_eq_getElem_cons hil, hj']
  rw [hdr] at hz hat
  obtain ⟨k2, v, rfl, hv, hat2⟩ := u2 hat
  have hv' := (List.getElem?_eq_some_iff.1 hv).2
  have hkl2 := (List.getElem?_eq_some_iff.1 hv).1
  have hki2 : (k2 : Int) < tl.length := by omega
  have hki3 : (k2 : Int) ≤ tl.length := by omega
  have hkl3 : k2 ≤ tl.length := by omega
  have w2 : IntKind.i64.wrap ((i : Nat) + 1 : Int) = (i : Nat) + 1 := l4 _ (by omega) (by omega)
  have hlen := Tr.len_size (x := tx) (l := tl)
  have hsum : (tl.map Tr.size).sum + 1 = (Tr.mk tx tl).size := by rw [Tr.size_mk]; omega
  have htl : ∀ y ∈ tl, m7 y := ((Tr.all_mk _ _ _).1 hti).2
  have hvi := htl v (List.mem_of_getElem? hv)
  have hsv := Tr.size_at (x := tx) hv
  have hcl := hc.len
  have hce := hc.le
  rw [List.map_cons, Int.toNat_natCast, b0u, List.getD_eq_getElem?_getD, hv, show (some v).getD z0T = v from rfl] at hz
  by_cases h29 : tx.k = 29
  · rw [if_pos h29] at hz
    have hcs : Cm (.mk mx ml) L z0T B (tl.map Tr.size).sum := hc.less (by omega)
    have hce2 := b23 htl hcs hv
    have hmin : min k2 tl.length = k2 := Nat.min_eq_left hkl3
    have q0 : (tl.take 0).foldl (a01 (.mk mx ml)) L = L := rfl
    repeat (first | refine b9 ?_ | refine b6 ?_ | refine a6 ?_ | refine b5 ?_ | refine e7 rfl ?_ | refine d9 rfl ?_ | ((first | refine b8 (fun K hK => ?_) | refine d3 e9 (fun K hK => ?_) | fail); simp -implicitDefEqProofs [hil, hj, hj', h29, hki2, hki3, hkl2, hkl3, hmin]; first | refine hK _ ?_ | refine hK _ _ (by rfl) ?_ | fail) | fail)
    refine m6 (ι := Nat) (fun n => x5 [(8, .v (.c (.ptr 0 0))), (9, .v (.c (.ptr 2 0))), (65, vIs p), (66, vI (p.length : Nat)), (67, vI (i : Nat)), (11, vI (k2 : Nat)), (77, vLs (tl.take k2)), (78, vI (k2 : Nat)), (79, vI (n : Nat))] [some (bxJ 1 (.mk mx ml) z0T ((tl.take n).foldl (a01 (.mk mx ml)) L).length 0 0), some (arJ ((tl.take n).foldl (a01 (.mk mx ml)) L)), some (.box (ta (.mk tx tl)))]) (fun n => n ≤ k2) (fun n => k2 - n) 0 (Nat.zero_le _) (by rw [q0]; exact e8 [0, 1, 2] (by simp -implicitDefEqProofs [hmin, h29]) (by simp -implicitDefEqProofs [hmin, h29]) (by decide) rfl (by simp)) (fun Z2 hI2 n hn => ?_)
    by_cases hnk : n < k2; rotate_left
    · have : n = k2 := by omega
      subst this
      obtain ⟨vx, vl⟩ := v
      repeat (first | refine b9 ?_ | refine b6 ?_ | refine a6 ?_ | refine b5 ?_ | refine e7 rfl ?_ | refine d9 rfl ?_ | ((first | refine b8 (fun K hK => ?_) | refine d3 e9 (fun K hK => ?_) | fail); simp -implicitDefEqProofs [hnk, h29, hv, hv', hki2, hkl2, w2]; first | refine hK _ ?_ | refine hK _ _ (by rfl) ?_ | fail) | fail)
      refine ⟨(i + 1, .mk vx vl, (tl.take n).foldl (a01 (.mk mx ml)) L), ⟨hil, hz, hat2, hvi, _, hce2⟩, (by dsimp only; omega), ?_⟩
      rw [hI]; exact e8 [0, 1, 2] (by simp -implicitDefEqProofs) (by simp -implicitDefEqProofs) (by decide) rfl (by simp)
    obtain ⟨⟨ax, al⟩, ha⟩ : ∃ a, tl[n]? = some a := ⟨_, List.getElem?_eq_getElem (by omega)⟩
    have ha1 : (tl.take k2)[n]? = some (.mk ax al) := by rw [List.getElem?_take_of_lt hnk]; exact ha
    have ha2 := (List.getElem?_eq_some_iff.1 ha1).2
    have ha3 := (List.getElem?_eq_some_iff.1 ha).2
    have hnl : n < tl.length := by omega
    have w3 : IntKind.i64.wrap ((n : Nat) + 1 : Int) = (n : Nat) + 1 := l4 _ (by omega) (by omega)
    have hcn := b23 htl hcs ha
    have hkr := hkn _ _ _ hcn (.mk ax al) (htl _ (List.mem_of_getElem? ha)) (by have := hcn.len; omega)
    have hs2 := b4r (m := .mk mx ml) (L := L) ha
    obtain ⟨F, hF⟩ : ∃ F, (tl.take n).foldl (a01 (.mk mx ml)) L = F := ⟨_, rfl⟩
    rw [hF] at hkr hs2 ⊢
    obtain ⟨G, hG⟩ : ∃ G, a01 (.mk mx ml) F (.mk ax al) = G := ⟨_, rfl⟩
    rw [hG] at hkr hs2
    clear hkn hcn hce2 hcs hz hG hF
    repeat' (first | refine b9 ?_ | refine b6 ?_ | refine a6 ?_ | refine b5 ?_ | refine e7 rfl ?_ | refine d9 rfl ?_ | ((first | refine b8 (fun K hK => ?_) | refine d3 e9 (fun K hK => ?_) | refine b7 (cgJ hkr 0 rfl ?_) | refine a8 (dgJ hkr 0 rfl ?_) | fail); simp -implicitDefEqProofs [hnk, hnl, ha, ha1, ha2, ha3, hmin, w3]) | refine hK _ ?_ | refine hK _ _ (by rfl) ?_ | fail)
    refine ⟨n + 1, hnk, (by dsimp only; omega), ?_⟩
    rw [hI2, hs2]; exact e8 [0, 10, 2] (by simp -implicitDefEqProofs) (by simp -implicitDefEqProofs) (by decide) rfl (by simp)
  rw [if_neg h29] at hz
  by_cases h25 : tx.k = 25 ∧ k2 = 2
  · obtain ⟨h25, rfl⟩ := h25
    rw [if_pos ⟨h25, rfl⟩] at hz
    have hc1 : Cm (.mk mx ml) (L ++ [tyT 1]) z0T B v.size := ⟨hc.hm, fun y hy => by
      rcases List.mem_append.1 hy with hy | hy
      · exact hc.hL y hy
      · rw [List.mem_singleton.1 hy]
        have := hc.hm.2
        have := Tr.size_pos (Tr.mk mx ml)
        exact ⟨(Tr.all_mk _ _ _).2 ⟨⟨by decide, by decide, by decide, by decide⟩, fun z hz => by cases hz⟩, by unfold tyT; rw [Tr.size_mk]; simp; omega⟩, by rw [List.length_append]; simp; omega, by omega, hc.ret⟩
    have hbr := a1c (.mk mx ml) z0T L L (a1e _) (by omega) 0 0 ⟨1, 0, ⟨#[]⟩, 0, 0⟩ []
    have hEl : (L ++ [Tr.mk (⟨1, 0, ⟨#[]⟩, 0, 0⟩ : Lab) []]).length = L.length + 1 := by simp
    unfold tyT at hz hc1
    obtain ⟨vx, vl⟩ := v
    repeat' (first | refine b9 ?_ | refine b6 ?_ | refine a6 ?_ | refine b5 ?_ | refine e7 rfl ?_ | refine d9 rfl ?_ | ((first | refine b8 (fun K hK => ?_) | refine d3 e9 (fun K hK => ?_) | refine b7 (cgJ hbr 0 rfl ?_) | refine a8 (dgJ hbr 0 rfl ?_) | fail); simp -implicitDefEqProofs [hil, hj, hj', h25, h29, hv, hv', hki2, hkl2, w2]) | refine hK _ ?_ | refine hK _ _ (by rfl) ?_ | fail)
    refine ⟨(i + 1, .mk vx vl, L ++ [.mk ⟨1, 0, ⟨#[]⟩, 0, 0⟩ []]), ⟨hil, hz, hat2, hvi, _, hc1⟩, (by dsimp only; omega), ?_⟩
    rw [hI]; dsimp only; rw [hEl]; exact e8 [0, 19, 2] (by simp -implicitDefEqProofs) (by simp -implicitDefEqProofs) (by decide) rfl (by simp)
  · rw [if_neg h25] at hz
    obtain ⟨vx, vl⟩ := v
    by_cases k25 : tx.k = 25
    · have hk2 : ¬ k2 = 2 := fun e => h25 ⟨k25, e⟩
      have hk2' : ¬ (k2 : Int) = 2 := by omega
      repeat (first | refine b9 ?_ | refine b6 ?_ | refine a6 ?_ | refine b5 ?_ | refine e7 rfl ?_ | refine d9 rfl ?_ | ((first | refine b8 (fun K hK => ?_) | refine d3 e9 (fun K hK => ?_) | fail); simp -implicitDefEqProofs [hil, hj, hj', k25, hk2, hk2', hv, hv', hki2, hkl2, w2]; first | refine hK _ ?_ | refine hK _ _ (by rfl) ?_ | fail) | fail)
      refine ⟨(i + 1, .mk vx vl, L), ⟨hil, hz, hat2, hvi, _, hc.less (by dsimp only; omega)⟩, (by dsimp only; omega), ?_⟩
      rw [hI]; exact e8 [0, 1, 2] (by simp -implicitDefEqProofs) (by simp -implicitDefEqProofs) (by decide) rfl (by simp)
    · repeat (first | refine b9 ?_ | refine b6 ?_ | refine a6 ?_ | refine b5 ?_ | refine e7 rfl ?_ | refine d9 rfl ?_ | ((first | refine b8 (fun K hK => ?_) | refine d3 e9 (fun K hK => ?_) | fail); simp -implicitDefEqProofs [hil, hj, hj', k25, h29, hv, hv', hki2, hkl2, w2]; first | refine hK _ ?_ | refine hK _ _ (by rfl) ?_ | fail) | fail)
      refine ⟨(i + 1, .mk vx vl, L), ⟨hil, hz, hat2, hvi, _, hc.less (by dsimp only; omega)⟩, (by dsimp only; omega), ?_⟩
      rw [hI]; exact e8 [0, 1, 2] (by simp -implicitDefEqProofs) (by simp -implicitDefEqProofs) (by decide) rfl (by simp)
end Go.Proofs.YtbbkmijkllgfaaaGreatDoor.am
end
