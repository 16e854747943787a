import Derived.Test.YtbbkmijkllgfaaaGreatDoorPkL6
set_option maxRecDepth 100000
set_option maxHeartbeats 4000000
section
namespace Go.Proofs.YtbbkmijkllgfaaaGreatDoor.am
open Go.ChangeShapes Go.WideShapes Go.ChangeAt Go.RowKit
open vt
set_option linter.unusedVariables false
set_option linter.unusedSimpArgs false
def u5 (m : VT) (x : Lab) (n : Int) : Int :=
  if a23 m n 30 = true then
    (if x.s = ⟨#[]⟩ then (if (fldA m x.n).isSome = true ∧ x.n / 64 = n then x.n else -1)
     else match ((m.kids.getD n.toNat z0T).kids.take 64).findIdx? (fun q => decide (q.lab.s = x.s)) with
       | some i => n * 64 + i
       | none => -1)
  else -1
theorem b2v {m : VT} {n : Int} (h : (fldA m n).isSome = true) : 0 ≤ n := by
  unfold fldA at h
  split at h
  · cases h
  · omega
theorem b7i {p : List VT} {s : ByteArray} {k : Nat} {q : VT} (hq : p[k]? = some q) (hk : k < 64) (hno : ∀ i q', i < k → p[i]? = some q' → q'.lab.s ≠ s) (he : q.lab.s = s) : (p.take 64).findIdx? (fun q => decide (q.lab.s = s)) = some k := by
  obtain ⟨h1, h2⟩ := List.getElem?_eq_some_iff.1 hq
  refine List.findIdx?_eq_some_iff_getElem.2 ⟨by rw [List.length_take]; omega, ?_, fun i hi => ?_⟩
  · rw [List.getElem_take, h2]; simpa using he
  · rw [List.getElem_take]
    have := hno i (p[i]'(by omega)) hi (List.getElem?_eq_getElem _)
    simpa using this
theorem b7j {p : List VT} {s : ByteArray} (hno : ∀ i q', i < 64 → p[i]? = some q' → q'.lab.s ≠ s) : (p.take 64).findIdx? (fun q => decide (q.lab.s = s)) = none := by
  refine List.findIdx?_eq_none_iff.2 (fun q hq => ?_)
  obtain ⟨i, hi, e⟩ := List.mem_iff_getElem.1 hq
  rw [List.length_take] at hi
  rw [List.getElem_take] at e
  have := hno i q (by omega) (by rw [← e]; exact List.getElem?_eq_getElem _)
  simpa using this
theorem b1n (m : VT) (hsz : m.size ≤ 1000000) (x : Lab) (l : List VT) (hx : x.ok) (n : Int) (hn : n ≤ 9223372036854775807) : Row Tryz.prog 135 [vT m, vT (.mk x l), vI n] [] (vI (u5 m x n)) [] := by
  have hh := b3k m hsz n 30 hn
  have hf := a6g m hsz x.n hx.2.1.2
  unfold u5
  by_cases hb : a23 m n 30 = true; rotate_left
  · have hb : a23 m n 30 = false := by simpa using hb
    rw [hb] at hh ⊢
    rw [if_neg (by simp)]
    clear hf
    obtain ⟨mx, ml⟩ := m
    refine d7 Tryz.func135 rfl rfl (Nat.le_of_ble_eq_true rfl) ?_
    repeat' (first | refine b9 ?_ | refine b6 ?_ | refine a6 ?_ | refine b5 ?_ | refine e7 rfl ?_ | refine d9 rfl ?_ | ((first | refine b8 (fun K hK => ?_) | refine d3 e9 (fun K hK => ?_) | refine b7 (cp hh ?_) | refine a8 (dp hh ?_) | fail); simp -implicitDefEqProofs) | refine hK _ ?_ | refine hK _ _ (by rfl) ?_ | fail)
    refine d6 (d4 ?_); simp -implicitDefEqProofs [f9, f6, f7] <;> try rfl
  rw [if_pos hb]
  by_cases hs : x.s = ⟨#[]⟩
  · rw [if_pos hs]
    rw [hb] at hh
    by_cases ho : (fldA m x.n).isSome = true; rotate_left
    · rw [if_neg (fun h => ho h.1)]
      have ho : (fldA m x.n).isSome = false := by simpa using ho
      rw [ho] at hf
      obtain ⟨⟨tx, tl⟩, ht⟩ : ∃ t, (fldA m x.n).getD z0T = t := ⟨_, rfl⟩
      rw [ht] at hf
      clear ht ho hb
      obtain ⟨mx, ml⟩ := m
      refine d7 Tryz.func135 rfl rfl (Nat.le_of_ble_eq_true rfl) ?_
      repeat' (first | refine b9 ?_ | refine b6 ?_ | refine a6 ?_ | refine b5 ?_ | refine e7 rfl ?_ | refine d9 rfl ?_ | ((first | refine b8 (fun K hK => ?_) | refine d3 e9 (fun K hK => ?_) | refine b7 (cp hh ?_) | refine a8 (dp hh ?_) | refine b7 (cp hf ?_) | refine a8 (dp hf ?_) | fail); simp -implicitDefEqProofs [hs]) | refine hK _ ?_ | refine hK _ _ (by rfl) ?_ | fail)
      refine d6 (d4 ?_); simp -implicitDefEqProofs [f9, f6, f7] <;> try rfl
    have hp := b2v ho
    have w1 : IntKind.i64.wrap (x.n.tdiv 64) = x.n / 64 := by
      rw [Int.tdiv_eq_ediv_of_nonneg hp]
      exact l4 _ (by omega) (by have := hx.2.1.2; omega)
    rw [ho] at hf
    obtain ⟨⟨tx, tl⟩, ht⟩ : ∃ t, (fldA m x.n).getD z0T = t := ⟨_, rfl⟩
    rw [ht] at hf
    by_cases hq : x.n / 64 = n
    · rw [if_pos ⟨ho, hq⟩]
      clear ht ho hb
      obtain ⟨mx, ml⟩ := m
      refine d7 Tryz.func135 rfl rfl (Nat.le_of_ble_eq_true rfl) ?_
      repeat' (first | refine b9 ?_ | refine b6 ?_ | refine a6 ?_ | refine b5 ?_ | refine e7 rfl ?_ | refine d9 rfl ?_ | ((first | refine b8 (fun K hK => ?_) | refine d3 e9 (fun K hK => ?_) | refine b7 (cp hh ?_) | refine a8 (dp hh ?_) | refine b7 (cp hf ?_) | refine a8 (dp hf ?_) | fail); simp -implicitDefEqProofs [hs, w1, hq]) | refine hK _ ?_ | refine hK _ _ (by rfl) ?_ | fail)
      refine d6 (d4 ?_); simp -implicitDefEqProofs [f9, f6, f7] <;> try rfl
    · rw [if_neg (fun h => hq h.2)]
      clear ht ho hb
      obtain ⟨mx, ml⟩ := m
      refine d7 Tryz.func135 rfl rfl (Nat.le_of_ble_eq_true rfl) ?_
      repeat' (first | refine b9 ?_ | refine b6 ?_ | refine a6 ?_ | refine b5 ?_ | refine e7 rfl ?_ | refine d9 rfl ?_ | ((first | refine b8 (fun K hK => ?_) | refine d3 e9 (fun K hK => ?_) | refine b7 (cp hh ?_) | refine a8 (dp hh ?_) | refine b7 (cp hf ?_) | refine a8 (dp hf ?_) | fail); simp -implicitDefEqProofs [hs, w1, hq]) | refine hK _ ?_ | refine hK _ _ (by rfl) ?_ | fail)
      refine d6 (d4 ?_); simp -implicitDefEqProofs [f9, f6, f7] <;> try rfl
  rw [if_neg hs]
  obtain ⟨mx, ml⟩ := m
  have hml := Tr.len_size (x := mx) (l := ml)
  have n0 : ¬ n < 0 := fun h => by unfold a23 at hb; rw [if_pos h] at hb; cases hb
  obtain ⟨a, rfl⟩ : ∃ N : Nat, n = N := ⟨n.toNat, by omega⟩
  have hal : a < ml.length := Classical.byContradiction fun h => by
    unfold a23 at hb; rw [if_neg n0, Int.toNat_natCast, Tr.kids, List.getElem?_eq_none (by omega)] at hb; cases hb
  rw [hb] at hh
  obtain ⟨⟨y, p⟩, hd⟩ : ∃ d, ml[a]? = some d := ⟨_, List.getElem?_eq_getElem hal⟩
  have hd' := (List.getElem?_eq_some_iff.1 hd).2
  have hdz := Tr.size_at (x := mx) hd
  have hpl := Tr.len_size (x := y) (l := p)
  have w1 : IntKind.i64.wrap ((a : Nat) : Int) = (a : Nat) := l4 _ (by omega) (by omega)
  have w3 : IntKind.i64.wrap ((a : Nat) * 64 : Int) = (a : Nat) * 64 := l4 _ (by omega) (by omega)
  rw [Int.toNat_natCast, Tr.kids, show ml.getD a z0T = .mk y p by simp [List.getD, hd], Tr.kids]
  clear hf hb
  refine d7 Tryz.func135 rfl rfl (Nat.le_of_ble_eq_true rfl) ?_
  repeat' (first | refine b9 ?_ | refine b6 ?_ | refine a6 ?_ | refine b5 ?_ | refine e7 rfl ?_ | refine d9 rfl ?_ | ((first | refine b8 (fun K hK => ?_) | refine d3 e9 (fun K hK => ?_) | refine b7 (cp hh ?_) | refine a8 (dp hh ?_) | fail); simp -implicitDefEqProofs [hs, hal, hd, hd', w1]) | refine hK _ ?_ | refine hK _ _ (by rfl) ?_ | fail)
  have hat := fun k q hq hk hno he => b7i (p := p) (s := x.s) (k := k) (q := q) hq hk hno he
  have hnone := b7j (p := p) (s := x.s)
  obtain ⟨F, hF⟩ : ∃ F, (p.take 64).findIdx? (fun q => decide (q.lab.s = x.s)) = F := ⟨_, rfl⟩
  rw [hF] at hnone ⊢
  simp only [hF] at hat
  clear hF hh
  refine m6 (ι := Nat) (fun k => x5 [(2, vI (a : Nat)), (4, .v (.c (.ptr 0 0))), (9, .v (.c (.ptr 1 0))), (10, vI (k : Nat))] [some (.box (ta (.mk x l))), some (.box (ta (.mk y p)))]) (fun k => k ≤ p.length ∧ k ≤ 64 ∧ ∀ i q', i < k → p[i]? = some q' → q'.lab.s ≠ x.s) (fun k => p.length - k) 0 ⟨Nat.zero_le _, by omega, fun i q' h => by omega⟩ (e8 [1, 22] (by simp -implicitDefEqProofs) (by simp -implicitDefEqProofs) (by decide) rfl (by simp)) (fun Z hI k hk => ?_)
  obtain ⟨hk, hk2, hz⟩ := hk
  by_cases hkl : k < p.length; rotate_left
  · have : k = p.length := by omega
    subst this
    have hF := hnone (fun i q' hi hq => hz i q' (List.getElem?_eq_some_iff.1 hq).1 hq)
    subst hF
    clear hat hnone
    repeat (first | refine b9 ?_ | refine b6 ?_ | refine a6 ?_ | refine b5 ?_ | refine e7 rfl ?_ | refine d9 rfl ?_ | ((first | refine b8 (fun K hK => ?_) | refine d3 e9 (fun K hK => ?_) | fail); simp -implicitDefEqProofs; first | refine hK _ ?_ | refine hK _ _ (by rfl) ?_ | fail) | fail)
    refine d6 (d4 ?_); simp -implicitDefEqProofs [f9, f6, f7] <;> try rfl
  by_cases hk64 : k < 64; rotate_left
  · have hF := hnone (fun i q' hi hq => hz i q' (by omega) hq)
    subst hF
    have hk64' : ¬ ((k : Nat) : Int) < 64 := by omega
    clear hat hnone
    repeat (first | refine b9 ?_ | refine b6 ?_ | refine a6 ?_ | refine b5 ?_ | refine e7 rfl ?_ | refine d9 rfl ?_ | ((first | refine b8 (fun K hK => ?_) | refine d3 e9 (fun K hK => ?_) | fail); simp -implicitDefEqProofs [hkl, hk64, hk64']; first | refine hK _ ?_ | refine hK _ _ (by rfl) ?_ | fail) | fail)
    refine d6 (d4 ?_); simp -implicitDefEqProofs [f9, f6, f7] <;> try rfl
  have hk64' : ((k : Nat) : Int) < 64 := by omega
  obtain ⟨⟨qx, ql⟩, hq⟩ : ∃ q, p[k]? = some q := ⟨_, List.getElem?_eq_getElem hkl⟩
  have hq' := (List.getElem?_eq_some_iff.1 hq).2
  have w2 : IntKind.i64.wrap ((k : Nat) + 1 : Int) = (k : Nat) + 1 := l4 _ (by omega) (by omega)
  have w4 : IntKind.i64.wrap ((k : Nat) : Int) = (k : Nat) := l4 _ (by omega) (by omega)
  have w5 : IntKind.i64.wrap ((a : Nat) * 64 + (k : Nat) : Int) = (a : Nat) * 64 + (k : Nat) := l4 _ (by omega) (by omega)
  by_cases he : qx.s = x.s
  · have hF := hat k _ hq hk64 hz he
    subst hF
    clear hat hnone
    repeat (first | refine b9 ?_ | refine b6 ?_ | refine a6 ?_ | refine b5 ?_ | refine e7 rfl ?_ | refine d9 rfl ?_ | ((first | refine b8 (fun K hK => ?_) | refine d3 e9 (fun K hK => ?_) | fail); simp -implicitDefEqProofs [hkl, hk64, hk64', hq, hq', he, w1, w3, w4, w5]; first | refine hK _ ?_ | refine hK _ _ (by rfl) ?_ | fail) | fail)
    refine d6 (d4 ?_); simp -implicitDefEqProofs [f9, f6, f7] <;> try rfl
  · clear hat hnone
    repeat (first | refine b9 ?_ | refine b6 ?_ | refine a6 ?_ | refine b5 ?_ | refine e7 rfl ?_ | refine d9 rfl ?_ | ((first | refine b8 (fun K hK => ?_) | refine d3 e9 (fun K hK => ?_) | fail); simp -implicitDefEqProofs [hkl, hk64, hk64', hq, hq', he, w2]; first | refine hK _ ?_ | refine hK _ _ (by rfl) ?_ | fail) | fail)
    refine ⟨k + 1, ⟨by omega, by omega, fun i q' hi hq2 => ?_⟩, (by dsimp only; omega), ?_⟩
    · by_cases hik : i = k
      · subst hik; rw [hq] at hq2; cases hq2; exact he
      · exact hz i q' (by omega) hq2
    · rw [hI]; exact e8 [0, 1] (by simp -implicitDefEqProofs) (by simp -implicitDefEqProofs) (by decide) rfl (by simp)
theorem td_got15 : td Tryz.prog 89 = some ⟨true, 14, 160, [.lit (.int .i64 0), .lit (.int .i64 0), .lit (.string ⟨#[]⟩), .nilS, .lit (.int .i64 0), .lit (.int .i64 0), .lit (.int .i64 0), .lit (.int .i64 0), .lit (.string ⟨#[]⟩), .nilS, .lit (.int .i64 0), .lit (.int .i64 0), .lit (.int .i64 0), .lit (.int .i64 0)], [(0, 6, true), (6, 6, true), (12, 1, false), (13, 1, false)], .struct⟩ := Eq.trans (by kernel_rfl) (Eq.refl _)
theorem td_errno15 : td Tryz.prog 35 = some ⟨false, 1, 8, [.lit (.int .i64 0)], [], (.int .i64)⟩ := Eq.trans (by kernel_rfl) (Eq.refl _)
attribute [simp] td_got15 td_errno15
noncomputable abbrev vGot (a b : VT) (place e : Int) : AV := .v (.agg (ta a ++ (ta b ++ [.pv (I place), .pv (I e)])))
theorem a7n (x : Lab) (l : List VT) (e : Int) : Row Tryz.prog 86 [vT (.mk x l), vI e] [] (vGot z0T z0T x.f e) [] := by
  refine d7 Tryz.func86 rfl rfl (Nat.le_of_ble_eq_true rfl) ?_
  repeat (first | refine b9 ?_ | refine b6 ?_ | refine a6 ?_ | refine b5 ?_ | refine e7 rfl ?_ | refine d9 rfl ?_ | ((first | refine b8 (fun K hK => ?_) | refine d3 e9 (fun K hK => ?_) | fail); simp -implicitDefEqProofs; first | refine hK _ ?_ | refine hK _ _ (by rfl) ?_ | fail) | fail)
  refine d6 (d4 ?_); simp -implicitDefEqProofs [f9, f6, f7] <;> try rfl
theorem a00 {m d : VT} (hm : m7 m) (h : d ∈ m.kids) : m7 d := by
  obtain ⟨x, l⟩ := m
  exact ((Tr.all_mk _ _ _).1 hm).2 d h
theorem b2u {m q : VT} {n : Int} (h : fldA m n = some q) : ∃ d ∈ m.kids, ∃ p ∈ d.kids, q ∈ p.kids := by
  unfold fldA at h
  split at h
  · cases h
  · split at h
    · cases h
    · rename_i d hd
      split at h
      · split at h
        · cases h
        · rename_i p hp
          split at h
          · exact ⟨d, List.mem_of_getElem? hd, p, List.mem_of_getElem? hp, List.mem_of_getElem? h⟩
          · cases h
      · cases h
theorem a19 (m : VT) (n : Int) : ((fldA m n).getD z0T).size ≤ m.size := by
  cases hf : fldA m n with
  | none => simp [Tr.size_mk]; exact Tr.size_pos m
  | some q =>
    obtain ⟨d, h1, p, h2, h3⟩ := b2u hf
    have := j8 h1
    have := j8 h2
    have := j8 h3
    simp; omega
theorem b98 : m7 z0T := (Tr.all_mk _ _ _).2 ⟨by simp [Lab.ok], fun y hy => by simp at hy⟩
theorem tyT_ok (k : Int) (h : 0 ≤ k ∧ k ≤ 9) : m7 (tyT k) := (Tr.all_mk _ _ _).2 ⟨by simp [Lab.ok]; omega, fun y hy => by simp at hy⟩
theorem c2q (k : Int) : (tyT k).size = 1 := by simp [tyT, Tr.size_mk]
theorem b7u {m : VT} (hm : m7 m) (n : Int) : m7 ((fldA m n).getD z0T) := by
  cases hf : fldA m n with
  | none => exact b98
  | some q =>
    obtain ⟨d, h1, p, h2, h3⟩ := b2u hf
    exact a00 (a00 (a00 hm h1) h2) h3
noncomputable def r7 (m : VT) (x : Lab) (p : List VT) : VT × Int × Int :=
  if x.k = 10 ∧ ¬ (a9y x.n (p.getD 0 z0T) (p.getD 1 z0T)).lab.k = 0 then (a9y x.n (p.getD 0 z0T) (p.getD 1 z0T), x.n, 0)
  else if x.k = 11 ∧ ((x.n = 1 ∧ isT (p.getD 0 z0T) 1 = true) ∨ (x.n = 2 ∧ isT (p.getD 0 z0T) 2 = true)) then (p.getD 0 z0T, x.n, 0)
  else if x.k = 12 ∧ (p.getD 0 z0T).lab.k = 3 ∧ (p.getD 0 z0T).kids.length = 1 ∧ isT (p.getD 1 z0T) 1 = true then ((p.getD 0 z0T).kids.getD 0 z0T, x.n, 0)
  else if x.k = 13 ∧ (p.getD 0 z0T).lab.k = 4 ∧ (p.getD 0 z0T).kids.length = 0 then
    (if u5 m x (p.getD 0 z0T).lab.n < 0 then (z0T, 0, 8) else (u9 ((fldA m (u5 m x (p.getD 0 z0T).lab.n)).getD z0T), u5 m x (p.getD 0 z0T).lab.n, 0))
  else if x.k = 15 ∧ a7a p (m.kids.getD x.n.toNat z0T).kids = true then (.mk ⟨4, x.n, ⟨#[]⟩, 0, 0⟩ [], x.n, 0)
  else if x.k = 16 ∧ a7a p ((m.kids.getD x.n.toNat z0T).kids.getD 0 z0T).kids = true then (u9 ((m.kids.getD x.n.toNat z0T).kids.getD 1 z0T), x.n, 0)
  else if ¬ x.k = 14 then (z0T, 0, 10)
  else if p.all (fun a => same a (p.getD 0 z0T)) = true then
    (if z7 m (.mk ⟨3, p.length, ⟨#[]⟩, 0, 0⟩ [p.getD 0 z0T]) = 0 then (z0T, 0, 11) else (.mk ⟨3, p.length, ⟨#[]⟩, 0, 0⟩ [p.getD 0 z0T], x.n, 0))
  else (z0T, 0, 10)
noncomputable abbrev vRu (r : VT × Int × Int) : AV := .tup [.agg (ta r.1), .c (.pv (I r.2.1)), .c (.pv (I r.2.2))]
theorem a8v {m : VT} {x : Lab} {n : Int} (hm : m.size ≤ 1000000) (hx : x.ok) : u5 m x n ≤ 9223372036854775807 := by
  unfold u5
  split
  · split
    · split
      · exact hx.2.1.2
      · omega
    · split
      · rename_i hb _ _ i hi
        have h1 := (List.findIdx?_eq_some_iff_getElem.1 hi).1
        rw [List.length_take] at h1
        have : n < m.kids.length := by
          unfold a23 at hb
          split at hb
          · cases hb
          · split at hb
            · cases hb
            · rename_i d hd
              have := (List.getElem?_eq_some_iff.1 hd).1
              omega
        have hh : m.kids.length < m.size := by
          obtain ⟨mx, ml⟩ := m
          have := Tr.len_size (x := mx) (l := ml)
          show ml.length < _
          omega
        omega
      · omega
  · omega
theorem a5l (m : VT) (hm : m7 m) (hsz : m.size ≤ 1000000) (x : Lab) (l : List VT) (hx : x.ok) (p : List VT) (hp : ∀ a ∈ p, m7 a ∧ a.size ≤ 900000) (hpl : p.length ≤ 900000) (h0 : 0 < p.length) (h14 : x.k = 14) : Row Tryz.prog 89 [vT m, vT (.mk x l), vLs p] [] (vRu (r7 m x p)) [] := by
  obtain ⟨⟨ax, al⟩, ha⟩ : ∃ a, p[0]? = some a := ⟨_, List.getElem?_eq_getElem h0⟩
  have ha' := (List.getElem?_eq_some_iff.1 ha).2
  have hg : p.getD 0 z0T = .mk ax al := by simp [List.getD, ha]
  have hpa := hp _ (List.mem_of_getElem? ha)
  have hpi : (0 : Int) < (p.length : Int) := by omega
  have hT : r7 m x p = (if p.all (fun a => same a (.mk ax al)) = true then
    (if z7 m (.mk ⟨3, p.length, ⟨#[]⟩, 0, 0⟩ [.mk ax al]) = 0 then (z0T, 0, 11) else (.mk ⟨3, p.length, ⟨#[]⟩, 0, 0⟩ [.mk ax al], x.n, 0))
    else (z0T, 0, 10)) := by
    unfold r7
    rw [hg]
    simp [h14]
  rw [hT]
  clear hT
  have hcel := a0i m (.mk ⟨3, p.length, ⟨#[]⟩, 0, 0⟩ [.mk ax al]) hm hsz ((Tr.all_mk _ _ _).2 ⟨by simp [Lab.ok]; omega, fun y hy => by simp at hy; subst hy; exact hpa.1⟩) (by rw [Tr.size_mk]; simp; omega)
  obtain ⟨c, hc⟩ : ∃ c, z7 m (.mk ⟨3, p.length, ⟨#[]⟩, 0, 0⟩ [.mk ax al]) = c := ⟨_, rfl⟩
  rw [hc] at hcel ⊢
  clear hc hg
  obtain ⟨R, hR⟩ : ∃ R, p.all (fun a => same a (.mk ax al)) = R := ⟨_, rfl⟩
  rw [hR]
  obtain ⟨mx, ml⟩ := m
  have wl : IntKind.i64.wrap ((p.length : Nat) : Int) = (p.length : Nat) := l4 _ (by omega) (by omega)
  refine d7 Tryz.func89 rfl rfl (Nat.le_of_ble_eq_true rfl) ?_
  repeat (first | refine b9 ?_ | refine b6 ?_ | refine a6 ?_ | refine b5 ?_ | refine e7 rfl ?_ | refine d9 rfl ?_ | ((first | refine b8 (fun K hK => ?_) | refine d3 e9 (fun K hK => ?_) | fail); simp -implicitDefEqProofs [h14]; first | refine hK _ ?_ | refine hK _ _ (by rfl) ?_ | fail) | fail)
  refine m6 (ι := Nat) (fun k => x5 [(2, vLs p), (3, .v (.c (.ptr 0 0))), (4, .v (.c (.ptr 1 0))), (6, .v (.c (.ptr 2 0))), (12, vI (k : Nat))] [some (.box (ta (.mk mx ml))), some (.box (ta (.mk x l))), some (.box (ta z0T))]) (fun k => k ≤ p.length ∧ (p.take k).all (fun a => same a (.mk ax al)) = true) (fun k => p.length - k) 0 ⟨Nat.zero_le _, by simp⟩ (e8 [0, 1, 2] (by simp -implicitDefEqProofs [h14]) (by simp -implicitDefEqProofs [h14]) (by decide) rfl (by simp)) (fun Z hI k hk => ?_)
  obtain ⟨hk, hz⟩ := hk
  by_cases hkl : k < p.length; rotate_left
  · have : k = p.length := by omega
    subst this
    rw [List.take_length] at hz
    have : R = true := by rw [← hR, hz]
    subst this
    clear hR hz
    by_cases c0 : c = 0
    · repeat' (first | refine b9 ?_ | refine b6 ?_ | refine a6 ?_ | refine b5 ?_ | refine e7 rfl ?_ | refine d9 rfl ?_ | ((first | refine b8 (fun K hK => ?_) | refine d3 e9 (fun K hK => ?_) | refine b7 (cp hcel ?_) | refine a8 (dp hcel ?_) | fail); simp -implicitDefEqProofs [c0, h0, hpi, ha, ha', wl]) | refine hK _ ?_ | refine hK _ _ (by rfl) ?_ | fail)
      refine d6 (d4 ?_); simp -implicitDefEqProofs [f9, f6, f7, c0] <;> try rfl
    · repeat' (first | refine b9 ?_ | refine b6 ?_ | refine a6 ?_ | refine b5 ?_ | refine e7 rfl ?_ | refine d9 rfl ?_ | ((first | refine b8 (fun K hK => ?_) | refine d3 e9 (fun K hK => ?_) | refine b7 (cp hcel ?_) | refine a8 (dp hcel ?_) | fail); simp -implicitDefEqProofs [c0, h0, hpi, ha, ha', wl]) | refine hK _ ?_ | refine hK _ _ (by rfl) ?_ | fail)
      refine d6 (d4 ?_); simp -implicitDefEqProofs [f9, f6, f7, c0] <;> try rfl
  obtain ⟨⟨bx, bl⟩, hb⟩ : ∃ a, p[k]? = some a := ⟨_, List.getElem?_eq_getElem hkl⟩
  have hb' := (List.getElem?_eq_some_iff.1 hb).2
  have w2 : IntKind.i64.wrap ((k : Nat) + 1 : Int) = (k : Nat) + 1 := l4 _ (by omega) (by omega)
  have hs := a04 (.mk bx bl) (by have := (hp _ (List.mem_of_getElem? hb)).2; omega) (.mk ax al) (by omega)
  by_cases hq : same (.mk bx bl) (.mk ax al) = true
  · rw [hq] at hs
    repeat' (first | refine b9 ?_ | refine b6 ?_ | refine a6 ?_ | refine b5 ?_ | refine e7 rfl ?_ | refine d9 rfl ?_ | ((first | refine b8 (fun K hK => ?_) | refine d3 e9 (fun K hK => ?_) | refine b7 (cp hs ?_) | refine a8 (dp hs ?_) | fail); simp -implicitDefEqProofs [hkl, h0, hpi, ha, ha', hb, hb', w2]) | refine hK _ ?_ | refine hK _ _ (by rfl) ?_ | fail)
    refine ⟨k + 1, ⟨by omega, by rw [List.take_add_one, hb, Option.toList_some, List.all_append, hz]; simp [hq]⟩, (by dsimp only; omega), ?_⟩
    rw [hI]; exact e8 [0, 1, 2] (by simp -implicitDefEqProofs) (by simp -implicitDefEqProofs) (by decide) rfl (by simp)
  · have hq : same (.mk bx bl) (.mk ax al) = false := by simpa using hq
    rw [hq] at hs
    have e : R = false := by
      rw [← hR, List.all_eq_false]; exact ⟨_, List.mem_of_getElem? hb, by rw [hq]; simp⟩
    subst e
    repeat' (first | refine b9 ?_ | refine b6 ?_ | refine a6 ?_ | refine b5 ?_ | refine e7 rfl ?_ | refine d9 rfl ?_ | ((first | refine b8 (fun K hK => ?_) | refine d3 e9 (fun K hK => ?_) | refine b7 (cp hs ?_) | refine a8 (dp hs ?_) | fail); simp -implicitDefEqProofs [hkl, h0, hpi, ha, ha', hb, hb', w2]) | refine hK _ ?_ | refine hK _ _ (by rfl) ?_ | fail)
    refine d6 (d4 ?_); simp -implicitDefEqProofs [f9, f6, f7] <;> try rfl
theorem b8y (m : VT) (hm : m7 m) (hsz : m.size ≤ 1000000) (x : Lab) (l : List VT) (hx : x.ok) (p : List VT) (hp : ∀ a ∈ p, m7 a ∧ a.size ≤ 900000) (hpl : p.length ≤ 900000) (hsh : j7 x p.length = true) (h15 : x.k = 15 → 0 ≤ x.n ∧ ∃ d, m.kids[x.n.toNat]? = some d) (h16 : x.k = 16 → 0 ≤ x.n ∧ ∃ dx a b c, m.kids[x.n.toNat]? = some (.mk dx [a, b, c])) : Row Tryz.prog 89 [vT m, vT (.mk x l), vLs p] [] (vRu (r7 m x p)) [] := by
  by_cases c14 : x.k = 14
  · exact a5l m hm hsz x l hx p hp hpl (by unfold j7 at hsh; simp [c14] at hsh; omega) c14
  by_cases c10 : x.k = 10
  · have hl2 : p.length = 2 := by unfold j7 at hsh; simp [c10] at hsh; exact hsh.1.1
    obtain ⟨⟨ax, al⟩, ⟨bx, bl⟩, rfl⟩ := a9z hl2
    have h2 := c2e x.n (.mk ax al) (.mk bx bl)
    have hT : r7 m x [.mk ax al, .mk bx bl] = if (a9y x.n (.mk ax al) (.mk bx bl)).lab.k = 0 then (z0T, 0, 10) else (a9y x.n (.mk ax al) (.mk bx bl), x.n, 0) := by
      unfold r7
      simp [c10]
    rw [hT]
    clear hT
    obtain ⟨⟨tx, tl⟩, ht⟩ : ∃ t, a9y x.n (.mk ax al) (.mk bx bl) = t := ⟨_, rfl⟩
    rw [ht] at h2 ⊢
    clear ht hp
    rw [Tr.lab]
    obtain ⟨mx, ml⟩ := m
    by_cases ht : tx.k = 0
    · rw [if_pos ht]
      refine d7 Tryz.func89 rfl rfl (Nat.le_of_ble_eq_true rfl) ?_
      repeat' (first | refine b9 ?_ | refine b6 ?_ | refine a6 ?_ | refine b5 ?_ | refine e7 rfl ?_ | refine d9 rfl ?_ | ((first | refine b8 (fun K hK => ?_) | refine d3 e9 (fun K hK => ?_) | refine b7 (cp h2 ?_) | refine a8 (dp h2 ?_) | fail); simp -implicitDefEqProofs [c10, ht]) | refine hK _ ?_ | refine hK _ _ (by rfl) ?_ | fail)
      refine d6 (d4 ?_); simp -implicitDefEqProofs [f9, f6, f7] <;> try rfl
    · rw [if_neg ht]
      refine d7 Tryz.func89 rfl rfl (Nat.le_of_ble_eq_true rfl) ?_
      repeat' (first | refine b9 ?_ | refine b6 ?_ | refine a6 ?_ | refine b5 ?_ | refine e7 rfl ?_ | refine d9 rfl ?_ | ((first | refine b8 (fun K hK => ?_) | refine d3 e9 (fun K hK => ?_) | refine b7 (cp h2 ?_) | refine a8 (dp h2 ?_) | fail); simp -implicitDefEqProofs [c10, ht]) | refine hK _ ?_ | refine hK _ _ (by rfl) ?_ | fail)
      refine d6 (d4 ?_); simp -implicitDefEqProofs [f9, f6, f7] <;> try rfl
  by_cases c11 : x.k = 11
  · have hs : p.length = 1 ∧ (x.n = 1 ∨ x.n = 2) := by unfold j7 at hsh; simp [c11] at hsh; exact hsh
    obtain ⟨hl1, hn⟩ := hs
    obtain ⟨⟨ax, al⟩, rfl⟩ := o6 hl1
    have i1 := a0p (.mk ax al) 1
    have i2 := a0p (.mk ax al) 2
    have hT : r7 m x [.mk ax al] = if (x.n = 1 ∧ isT (.mk ax al) 1 = true) ∨ (x.n = 2 ∧ isT (.mk ax al) 2 = true) then (.mk ax al, x.n, 0) else (z0T, 0, 10) := by
      unfold r7
      simp [c11]
    rw [hT]
    clear hT
    obtain ⟨p1, q1⟩ : ∃ p, isT (.mk ax al) 1 = p := ⟨_, rfl⟩
    obtain ⟨p2, q2⟩ : ∃ p, isT (.mk ax al) 2 = p := ⟨_, rfl⟩
    rw [q1] at i1
    rw [q2] at i2
    rw [q1, q2]
    clear q1 q2 hp
    obtain ⟨mx, ml⟩ := m
    rcases hn with hn | hn
    · cases p1 with
      | true =>
        refine d7 Tryz.func89 rfl rfl (Nat.le_of_ble_eq_true rfl) ?_
        repeat' (first | refine b9 ?_ | refine b6 ?_ | refine a6 ?_ | refine b5 ?_ | refine e7 rfl ?_ | refine d9 rfl ?_ | ((first | refine b8 (fun K hK => ?_) | refine d3 e9 (fun K hK => ?_) | refine b7 (cp i1 ?_) | refine a8 (dp i1 ?_) | refine b7 (cp i2 ?_) | refine a8 (dp i2 ?_) | fail); simp -implicitDefEqProofs [c11, hn]) | refine hK _ ?_ | refine hK _ _ (by rfl) ?_ | fail)
        refine d6 (d4 ?_); simp -implicitDefEqProofs [f9, f6, f7, hn] <;> try rfl
      | false =>
        refine d7 Tryz.func89 rfl rfl (Nat.le_of_ble_eq_true rfl) ?_
        repeat' (first | refine b9 ?_ | refine b6 ?_ | refine a6 ?_ | refine b5 ?_ | refine e7 rfl ?_ | refine d9 rfl ?_ | ((first | refine b8 (fun K hK => ?_) | refine d3 e9 (fun K hK => ?_) | refine b7 (cp i1 ?_) | refine a8 (dp i1 ?_) | refine b7 (cp i2 ?_) | refine a8 (dp i2 ?_) | fail); simp -implicitDefEqProofs [c11, hn]) | refine hK _ ?_ | refine hK _ _ (by rfl) ?_ | fail)
        refine d6 (d4 ?_); simp -implicitDefEqProofs [f9, f6, f7, hn] <;> try rfl
    · cases p2 with
      | true =>
        refine d7 Tryz.func89 rfl rfl (Nat.le_of_ble_eq_true rfl) ?_
        repeat' (first | refine b9 ?_ | refine b6 ?_ | refine a6 ?_ | refine b5 ?_ | refine e7 rfl ?_ | refine d9 rfl ?_ | ((first | refine b8 (fun K hK => ?_) | refine d3 e9 (fun K hK => ?_) | refine b7 (cp i1 ?_) | refine a8 (dp i1 ?_) | refine b7 (cp i2 ?_) | refine a8 (dp i2 ?_) | fail); simp -implicitDefEqProofs [c11, hn]) | refine hK _ ?_ | refine hK _ _ (by rfl) ?_ | fail)
        refine d6 (d4 ?_); simp -implicitDefEqProofs [f9, f6, f7, hn] <;> try rfl
      | false =>
        refine d7 Tryz.func89 rfl rfl (Nat.le_of_ble_eq_true rfl) ?_
        repeat' (first | refine b9 ?_ | refine b6 ?_ | refine a6 ?_ | refine b5 ?_ | refine e7 rfl ?_ | refine d9 rfl ?_ | ((first | refine b8 (fun K hK => ?_) | refine d3 e9 (fun K hK => ?_) | refine b7 (cp i1 ?_) | refine a8 (dp i1 ?_) | refine b7 (cp i2 ?_) | refine a8 (dp i2 ?_) | fail); simp -implicitDefEqProofs [c11, hn]) | refine hK _ ?_ | refine hK _ _ (by rfl) ?_ | fail)
        refine d6 (d4 ?_); simp -implicitDefEqProofs [f9, f6, f7, hn] <;> try rfl
  by_cases c12 : x.k = 12
  · have hl2 : p.length = 2 := by unfold j7 at hsh; simp [c12] at hsh; exact hsh
    obtain ⟨⟨ax, al⟩, ⟨bx, bl⟩, rfl⟩ := a9z hl2
    have i1 := a0p (.mk bx bl) 1
    have hT : r7 m x [.mk ax al, .mk bx bl] = if ax.k = 3 ∧ al.length = 1 ∧ isT (.mk bx bl) 1 = true then (al.getD 0 z0T, x.n, 0) else (z0T, 0, 10) := by
      unfold r7
      simp [c12, Tr.lab, Tr.kids]
    rw [hT]
    clear hT
    obtain ⟨p1, q1⟩ : ∃ p, isT (.mk bx bl) 1 = p := ⟨_, rfl⟩
    rw [q1] at i1 ⊢
    clear q1 hp
    obtain ⟨mx, ml⟩ := m
    by_cases a3 : ax.k = 3; rotate_left
    · rw [if_neg (fun h => a3 h.1)]
      refine d7 Tryz.func89 rfl rfl (Nat.le_of_ble_eq_true rfl) ?_
      repeat' (first | refine b9 ?_ | refine b6 ?_ | refine a6 ?_ | refine b5 ?_ | refine e7 rfl ?_ | refine d9 rfl ?_ | ((first | refine b8 (fun K hK => ?_) | refine d3 e9 (fun K hK => ?_) | refine b7 (cp i1 ?_) | refine a8 (dp i1 ?_) | fail); simp -implicitDefEqProofs [c12, a3]) | refine hK _ ?_ | refine hK _ _ (by rfl) ?_ | fail)
      refine d6 (d4 ?_); simp -implicitDefEqProofs [f9, f6, f7] <;> try rfl
    by_cases a1 : al.length = 1; rotate_left
    · rw [if_neg (fun h => a1 h.2.1)]
      have a1' : ¬ (al.length : Int) = 1 := by omega
      refine d7 Tryz.func89 rfl rfl (Nat.le_of_ble_eq_true rfl) ?_
      repeat' (first | refine b9 ?_ | refine b6 ?_ | refine a6 ?_ | refine b5 ?_ | refine e7 rfl ?_ | refine d9 rfl ?_ | ((first | refine b8 (fun K hK => ?_) | refine d3 e9 (fun K hK => ?_) | refine b7 (cp i1 ?_) | refine a8 (dp i1 ?_) | fail); simp -implicitDefEqProofs [c12, a3, a1, a1']) | refine hK _ ?_ | refine hK _ _ (by rfl) ?_ | fail)
      refine d6 (d4 ?_); simp -implicitDefEqProofs [f9, f6, f7] <;> try rfl
    obtain ⟨⟨ux, ul⟩, rfl⟩ := o6 a1
    cases p1 with
    | true =>
      rw [if_pos ⟨a3, a1, rfl⟩]
      refine d7 Tryz.func89 rfl rfl (Nat.le_of_ble_eq_true rfl) ?_
      repeat' (first | refine b9 ?_ | refine b6 ?_ | refine a6 ?_ | refine b5 ?_ | refine e7 rfl ?_ | refine d9 rfl ?_ | ((first | refine b8 (fun K hK => ?_) | refine d3 e9 (fun K hK => ?_) | refine b7 (cp i1 ?_) | refine a8 (dp i1 ?_) | fail); simp -implicitDefEqProofs [c12, a3]) | refine hK _ ?_ | refine hK _ _ (by rfl) ?_ | fail)
      refine d6 (d4 ?_); simp -implicitDefEqProofs [f9, f6, f7] <;> try rfl
    | false =>
      rw [if_neg (by simp)]
      refine d7 Tryz.func89 rfl rfl (Nat.le_of_ble_eq_true rfl) ?_
      repeat' (first | refine b9 ?_ | refine b6 ?_ | refine a6 ?_ | refine b5 ?_ | refine e7 rfl ?_ | refine d9 rfl ?_ | ((first | refine b8 (fun K hK => ?_) | refine d3 e9 (fun K hK => ?_) | refine b7 (cp i1 ?_) | refine a8 (dp i1 ?_) | fail); simp -implicitDefEqProofs [c12, a3]) | refine hK _ ?_ | refine hK _ _ (by rfl) ?_ | fail)
      refine d6 (d4 ?_); simp -implicitDefEqProofs [f9, f6, f7] <;> try rfl
  by_cases c13 : x.k = 13
  · have hl1 : p.length = 1 := by unfold j7 at hsh; simp [c13] at hsh; exact hsh
    obtain ⟨⟨ax, al⟩, rfl⟩ := o6 hl1
    have hax : ax.ok := ((Tr.all_mk _ _ _).1 (hp (.mk ax al) (by simp)).1).1
    have hf := b1n m hsz x l hx ax.n hax.2.1.2
    have hhi := a8v (m := m) (x := x) (n := ax.n) hsz hx
    have hT : r7 m x [.mk ax al] = if ax.k = 4 ∧ al.length = 0 then (if u5 m x ax.n < 0 then (z0T, 0, 8) else (u9 ((fldA m (u5 m x ax.n)).getD z0T), u5 m x ax.n, 0)) else (z0T, 0, 10) := by
      unfold r7
      simp [c13, Tr.lab, Tr.kids]
    rw [hT]
    clear hT
    obtain ⟨n, hn⟩ : ∃ n, u5 m x ax.n = n := ⟨_, rfl⟩
    rw [hn] at hf hhi ⊢
    clear hn
    by_cases a4 : ax.k = 4; rotate_left
    · rw [if_neg (fun h => a4 h.1)]
      clear hf hhi
      obtain ⟨mx, ml⟩ := m
      refine d7 Tryz.func89 rfl rfl (Nat.le_of_ble_eq_true rfl) ?_
      repeat (first | refine b9 ?_ | refine b6 ?_ | refine a6 ?_ | refine b5 ?_ | refine e7 rfl ?_ | refine d9 rfl ?_ | ((first | refine b8 (fun K hK => ?_) | refine d3 e9 (fun K hK => ?_) | fail); simp -implicitDefEqProofs [c13, a4]; first | refine hK _ ?_ | refine hK _ _ (by rfl) ?_ | fail) | fail)
      refine d6 (d4 ?_); simp -implicitDefEqProofs [f9, f6, f7] <;> try rfl
    by_cases a0 : al.length = 0; rotate_left
    · rw [if_neg (fun h => a0 h.2)]
      have a0' : ¬ (al.length : Int) = 0 := by omega
      have a0'' : ¬ al = [] := fun h => a0 (by rw [h]; rfl)
      clear hf hhi
      obtain ⟨mx, ml⟩ := m
      refine d7 Tryz.func89 rfl rfl (Nat.le_of_ble_eq_true rfl) ?_
      repeat (first | refine b9 ?_ | refine b6 ?_ | refine a6 ?_ | refine b5 ?_ | refine e7 rfl ?_ | refine d9 rfl ?_ | ((first | refine b8 (fun K hK => ?_) | refine d3 e9 (fun K hK => ?_) | fail); simp -implicitDefEqProofs [c13, a4, a0, a0', a0'']; first | refine hK _ ?_ | refine hK _ _ (by rfl) ?_ | fail) | fail)
      refine d6 (d4 ?_); simp -implicitDefEqProofs [f9, f6, f7] <;> try rfl
    rw [if_pos ⟨a4, a0⟩]
    have : al = [] := List.eq_nil_of_length_eq_zero a0
    subst this
    by_cases n0 : n < 0
    · rw [if_pos n0]
      obtain ⟨mx, ml⟩ := m
      refine d7 Tryz.func89 rfl rfl (Nat.le_of_ble_eq_true rfl) ?_
      repeat' (first | refine b9 ?_ | refine b6 ?_ | refine a6 ?_ | refine b5 ?_ | refine e7 rfl ?_ | refine d9 rfl ?_ | ((first | refine b8 (fun K hK => ?_) | refine d3 e9 (fun K hK => ?_) | refine b7 (cp hf ?_) | refine a8 (dp hf ?_) | fail); simp -implicitDefEqProofs [c13, a4, n0]) | refine hK _ ?_ | refine hK _ _ (by rfl) ?_ | fail)
      refine d6 (d4 ?_); simp -implicitDefEqProofs [f9, f6, f7] <;> try rfl
    · rw [if_neg n0]
      have hd := a6g m hsz n hhi
      have hds : ((fldA m n).getD z0T).size ≤ 1000000 := by
        have := a19 m n
        omega
      obtain ⟨⟨dx, dl⟩, hD⟩ : ∃ d, (fldA m n).getD z0T = d := ⟨_, rfl⟩
      rw [hD] at hd hds ⊢
      obtain ⟨sm, hsm⟩ : ∃ s, (fldA m n).isSome = s := ⟨_, rfl⟩
      rw [hsm] at hd
      have hb := a0h (.mk dx dl) hds
      obtain ⟨⟨ex, el⟩, hE⟩ : ∃ e, u9 (.mk dx dl) = e := ⟨_, rfl⟩
      rw [hE] at hb ⊢
      clear hE hD hsm
      obtain ⟨mx, ml⟩ := m
      refine d7 Tryz.func89 rfl rfl (Nat.le_of_ble_eq_true rfl) ?_
      repeat' (first | refine b9 ?_ | refine b6 ?_ | refine a6 ?_ | refine b5 ?_ | refine e7 rfl ?_ | refine d9 rfl ?_ | ((first | refine b8 (fun K hK => ?_) | refine d3 e9 (fun K hK => ?_) | refine b7 (cp hf ?_) | refine a8 (dp hf ?_) | refine b7 (cp hd ?_) | refine a8 (dp hd ?_) | refine b7 (cp hb ?_) | refine a8 (dp hb ?_) | fail); simp -implicitDefEqProofs [c13, a4, n0]) | refine hK _ ?_ | refine hK _ _ (by rfl) ?_ | fail)
      refine d6 (d4 ?_); simp -implicitDefEqProofs [f9, f6, f7] <;> try rfl
  by_cases c15 : x.k = 15
  · obtain ⟨n0, ⟨dx, dl⟩, hd⟩ := h15 c15
    obtain ⟨n, hn⟩ : ∃ n : Nat, x.n = n := ⟨x.n.toNat, by omega⟩
    rw [hn, Int.toNat_natCast] at hd
    have hds := j8 (List.mem_of_getElem? hd)
    have hT : r7 m x p = if a7a p dl = true then (.mk ⟨4, x.n, ⟨#[]⟩, 0, 0⟩ [], x.n, 0) else (z0T, 0, 10) := by
      unfold r7
      rw [hn, Int.toNat_natCast, show m.kids.getD n z0T = .mk dx dl by simp [List.getD, hd], Tr.kids]
      simp [c15]
    rw [hT]
    clear hT
    have hfit := b3i p dl (fun a ha => by have := (hp a ha).2; omega) (fun q hq => by
      have := j8 (m := .mk dx dl) (d := q) hq; omega) (by have := Tr.len_size (x := dx) (l := dl); omega) (by omega)
    obtain ⟨R, hR⟩ : ∃ R, a7a p dl = R := ⟨_, rfl⟩
    rw [hR] at hfit ⊢
    clear hR hp
    obtain ⟨mx, ml⟩ := m
    rw [Tr.kids] at hd
    have hnl := (List.getElem?_eq_some_iff.1 hd).1
    have hd' := (List.getElem?_eq_some_iff.1 hd).2
    have hml := Tr.len_size (x := mx) (l := ml)
    have w0 : IntKind.i64.wrap ((n : Nat) : Int) = (n : Nat) := l4 _ (by omega) (by omega)
    cases R with
    | true =>
      refine d7 Tryz.func89 rfl rfl (Nat.le_of_ble_eq_true rfl) ?_
      repeat' (first | refine b9 ?_ | refine b6 ?_ | refine a6 ?_ | refine b5 ?_ | refine e7 rfl ?_ | refine d9 rfl ?_ | ((first | refine b8 (fun K hK => ?_) | refine d3 e9 (fun K hK => ?_) | refine b7 (cp hfit ?_) | refine a8 (dp hfit ?_) | fail); simp -implicitDefEqProofs [c15, hn, hnl, hd, hd', w0]) | refine hK _ ?_ | refine hK _ _ (by rfl) ?_ | fail)
      refine d6 (d4 ?_); simp -implicitDefEqProofs [f9, f6, f7, hn] <;> try rfl
    | false =>
      refine d7 Tryz.func89 rfl rfl (Nat.le_of_ble_eq_true rfl) ?_
      repeat' (first | refine b9 ?_ | refine b6 ?_ | refine a6 ?_ | refine b5 ?_ | refine e7 rfl ?_ | refine d9 rfl ?_ | ((first | refine b8 (fun K hK => ?_) | refine d3 e9 (fun K hK => ?_) | refine b7 (cp hfit ?_) | refine a8 (dp hfit ?_) | fail); simp -implicitDefEqProofs [c15, hn, hnl, hd, hd', w0]) | refine hK _ ?_ | refine hK _ _ (by rfl) ?_ | fail)
      refine d6 (d4 ?_); simp -implicitDefEqProofs [f9, f6, f7] <;> try rfl
  by_cases c16 : x.k = 16
  · obtain ⟨n0, dx, ⟨ax, al⟩, ⟨bx, bl⟩, ⟨cx, cl⟩, hd⟩ := h16 c16
    obtain ⟨n, hn⟩ : ∃ n : Nat, x.n = n := ⟨x.n.toNat, by omega⟩
    rw [hn, Int.toNat_natCast] at hd
    have hds := j8 (List.mem_of_getElem? hd)
    have has := Tr.size_at (x := dx) (l := [Tr.mk ax al, .mk bx bl, .mk cx cl]) (i := 0) rfl
    have hbs := Tr.size_at (x := dx) (l := [Tr.mk ax al, .mk bx bl, .mk cx cl]) (i := 1) rfl
    have hT : r7 m x p = if a7a p al = true then (u9 (.mk bx bl), x.n, 0) else (z0T, 0, 10) := by
      unfold r7
      rw [hn, Int.toNat_natCast, show m.kids.getD n z0T = .mk dx [.mk ax al, .mk bx bl, .mk cx cl] by simp [List.getD, hd], Tr.kids]
      simp [c16, Tr.kids]
    rw [hT]
    clear hT
    have hfit := b3i p al (fun a ha => by have := (hp a ha).2; omega) (fun q hq => by
      have := j8 (m := .mk ax al) (d := q) hq; omega) (by have := Tr.len_size (x := ax) (l := al); omega) (by omega)
    have hb := a0h (.mk bx bl) (by omega)
    obtain ⟨R, hR⟩ : ∃ R, a7a p al = R := ⟨_, rfl⟩
    rw [hR] at hfit ⊢
    obtain ⟨⟨ex, el⟩, hE⟩ : ∃ e, u9 (.mk bx bl) = e := ⟨_, rfl⟩
    rw [hE] at hb ⊢
    clear hR hp hE
    obtain ⟨mx, ml⟩ := m
    rw [Tr.kids] at hd
    have hnl := (List.getElem?_eq_some_iff.1 hd).1
    have hd' := (List.getElem?_eq_some_iff.1 hd).2
    have hml := Tr.len_size (x := mx) (l := ml)
    have w0 : IntKind.i64.wrap ((n : Nat) : Int) = (n : Nat) := l4 _ (by omega) (by omega)
    cases R with
    | true =>
      refine d7 Tryz.func89 rfl rfl (Nat.le_of_ble_eq_true rfl) ?_
      repeat' (first | refine b9 ?_ | refine b6 ?_ | refine a6 ?_ | refine b5 ?_ | refine e7 rfl ?_ | refine d9 rfl ?_ | ((first | refine b8 (fun K hK => ?_) | refine d3 e9 (fun K hK => ?_) | refine b7 (cp hfit ?_) | refine a8 (dp hfit ?_) | refine b7 (cp hb ?_) | refine a8 (dp hb ?_) | fail); simp -implicitDefEqProofs [c16, hn, hnl, hd, hd', w0]) | refine hK _ ?_ | refine hK _ _ (by rfl) ?_ | fail)
      refine d6 (d4 ?_); simp -implicitDefEqProofs [f9, f6, f7, hn] <;> try rfl
    | false =>
      refine d7 Tryz.func89 rfl rfl (Nat.le_of_ble_eq_true rfl) ?_
      repeat' (first | refine b9 ?_ | refine b6 ?_ | refine a6 ?_ | refine b5 ?_ | refine e7 rfl ?_ | refine d9 rfl ?_ | ((first | refine b8 (fun K hK => ?_) | refine d3 e9 (fun K hK => ?_) | refine b7 (cp hfit ?_) | refine a8 (dp hfit ?_) | refine b7 (cp hb ?_) | refine a8 (dp hb ?_) | fail); simp -implicitDefEqProofs [c16, hn, hnl, hd, hd', w0]) | refine hK _ ?_ | refine hK _ _ (by rfl) ?_ | fail)
      refine d6 (d4 ?_); simp -implicitDefEqProofs [f9, f6, f7] <;> try rfl
  have hT : r7 m x p = (z0T, 0, 10) := by
    unfold r7
    simp [c10, c11, c12, c13, c14, c15, c16]
  rw [hT]
  clear hT hp
  obtain ⟨mx, ml⟩ := m
  refine d7 Tryz.func89 rfl rfl (Nat.le_of_ble_eq_true rfl) ?_
  repeat (first | refine b9 ?_ | refine b6 ?_ | refine a6 ?_ | refine b5 ?_ | refine e7 rfl ?_ | refine d9 rfl ?_ | ((first | refine b8 (fun K hK => ?_) | refine d3 e9 (fun K hK => ?_) | fail); simp -implicitDefEqProofs [c10, c11, c12, c13, c14, c15, c16]; first | refine hK _ ?_ | refine hK _ _ (by rfl) ?_ | fail) | fail)
  refine d6 (d4 ?_); simp -implicitDefEqProofs [f9, f6, f7] <;> try rfl
theorem a1h {α : Type} {f g : α → Nat} : ∀ {l : List α}, (∀ y ∈ l, f y ≤ g y) → (l.map f).sum ≤ (l.map g).sum
  | [], _ => Nat.le_refl _
  | y :: l, h => by
    have h1 := h y (by simp)
    have h2 := a1h (f := f) (g := g) (l := l) (fun z hz => h z (by simp [hz]))
    simp only [List.map_cons, List.sum_cons]
    omega
theorem a2y {α : Type} {p : α → Bool} {l : List α} {k : Nat} {a : α} (ha : l[k]? = some a) (hp : p a = true) (hno : ∀ x ∈ l.take k, p x = false) : l.find? p = some a := by
  obtain ⟨hk, ha'⟩ := List.getElem?_eq_some_iff.1 ha
  have e : l = l.take k ++ a :: l.drop (k + 1) := by rw [← ha', ← List.drop_eq_getElem_cons hk, List.take_append_drop]
  rw [e, List.find?_append, List.find?_eq_none.2 (fun x hx => by rw [hno x hx]; simp), List.find?_cons, hp]
  rfl
theorem v8 {x : Lab} {l : List VT} {y : VT} (h : y ∈ l) : y.size < (Tr.mk x l).size := by
  obtain ⟨i, hi⟩ := List.mem_iff_getElem?.1 h
  exact Tr.size_at hi
structure GV where
  ty : VT
  fo : VT
  pl : Int
  er : Int
noncomputable abbrev vGt (g : GV) : AV := vGot g.ty g.fo g.pl g.er
noncomputable def a2s (x : Lab) (e : Int) : GV := ⟨z0T, z0T, x.f, e⟩
noncomputable def ofC (m : VT) (L : List VT) (x : Lab) (l : List VT) (gs : List GV) : GV :=
  if j7 x l.length = false then a2s x 12
  else if b53 m L.length x = false then a2s x 8
  else if l.length = 0 ∧ ¬ x.k = 16 then ⟨c3b m L x l, .mk ⟨x.k, x.n, ⟨#[]⟩, 0, 0⟩ [], 0, 0⟩
  else match gs.find? (fun g => !decide (g.er = 0)) with
    | some g => g
    | none => if (r7 m x (gs.map GV.ty)).2.2 = 0 then ⟨(r7 m x (gs.map GV.ty)).1, .mk ⟨x.k, (r7 m x (gs.map GV.ty)).2.1, ⟨#[]⟩, 0, 0⟩ (gs.map GV.fo), 0, 0⟩ else a2s x (r7 m x (gs.map GV.ty)).2.2
noncomputable def ofT (m : VT) (L : List VT) (t : VT) : GV := Tr.fold (ofC m L) t
theorem a4r (m : VT) (L : List VT) (x : Lab) (l : List VT) : ofT m L (.mk x l) = ofC m L x l (l.map (ofT m L)) := Tr.fold_mk _ x l
theorem b5k (op : Int) (a b : VT) : a9y op a b = tyT 1 ∨ a9y op a b = tyT 2 ∨ a9y op a b = z0T := by
  unfold a9y
  split
  · exact .inr (.inl rfl)
  · split
    · exact .inr (.inl rfl)
    · split
      · exact .inl rfl
      · exact .inr (.inr rfl)
theorem a6a (t : VT) : a0u t = tyT 1 ∨ a0u t = tyT 2 ∨ a0u t = z0T := by
  unfold a0u
  split
  · exact .inl rfl
  · split
    · exact .inr (.inl rfl)
    · exact .inr (.inr rfl)
theorem b7z {m : VT} (n : Nat) : (m.kids.getD n z0T).size ≤ m.size := by
  by_cases h : n < m.kids.length
  · have : m.kids.getD n z0T ∈ m.kids := by simp [List.getD, h]
    have := j8 this
    omega
  · rw [show m.kids.getD n z0T = z0T by simp [List.getD, h]]
    have := Tr.size_pos m
    simp [Tr.size_mk]; omega
theorem c5g {m : VT} (hm : m7 m) (n : Nat) : m7 (m.kids.getD n z0T) := by
  by_cases h : n < m.kids.length
  · have : m.kids.getD n z0T ∈ m.kids := by simp [List.getD, h]
    exact a00 hm this
  · rw [show m.kids.getD n z0T = z0T by simp [List.getD, h]]
    exact b98
def p6 (B : Nat) (t : VT) : Prop := m7 t ∧ t.size ≤ B
theorem p6.le {B C : Nat} {t : VT} (h : p6 B t) (hBC : B ≤ C) : p6 C t := ⟨h.1, Nat.le_trans h.2 hBC⟩
theorem a0a {B : Nat} (h : 1 ≤ B) : p6 B z0T := ⟨b98, by simp [Tr.size_mk]; exact h⟩
theorem y5 {B : Nat} (h : 1 ≤ B) {k : Int} (hk : 0 ≤ k ∧ k ≤ 9) : p6 B (tyT k) := ⟨tyT_ok k hk, by rw [c2q]; exact h⟩
theorem a3s {B : Nat} (h : 1 ≤ B) (t : VT) : p6 B (a0u t) := by
  rcases a6a t with e | e | e <;> rw [e]
  · exact y5 h (by omega)
  · exact y5 h (by omega)
  · exact a0a h
theorem p6.bare {B : Nat} {t : VT} (h : p6 B t) : p6 B (u9 t) := ⟨b6z t h.1, by rw [a13]; exact h.2⟩
theorem p6.kid {B : Nat} {t : VT} (h : p6 B t) (n : Nat) : p6 B (t.kids.getD n z0T) := ⟨c5g h.1 n, Nat.le_trans (b7z n) h.2⟩
theorem b6q {m : VT} {L : List VT} {B : Nat} (hm : p6 B m) (hL : ∀ t ∈ L, p6 B t) (x : Lab) (l : List VT) : p6 B (c3b m L x l) := by
  have hB : 1 ≤ B := Nat.le_trans (Tr.size_pos m) hm.2
  unfold c3b
  split
  · refine p6.bare ?_
    by_cases h : L.length - 1 - x.n.toNat < L.length
    · exact hL _ (by simp [List.getD, h])
    · rw [show L.getD (L.length - 1 - x.n.toNat) z0T = z0T by simp [List.getD, h]]
      exact a0a hB
  · split
    · exact a3s hB _
    · split
      · exact ((hm.kid _).kid _).bare
      · split
        · exact y5 hB (by omega)
        · exact a3s hB _
theorem b5e {m : VT} {B : Nat} (hm : p6 B m) {x : Lab} (hx : x.ok) {p : List VT} (hp : ∀ a ∈ p, p6 B a) (hpl : p.length ≤ 1000000) (hms : m.size ≤ 1000000) : p6 (B + 1) (r7 m x p).1 ∧ (-9223372036854775808 ≤ (r7 m x p).2.1 ∧ (r7 m x p).2.1 ≤ 9223372036854775807) := by
  have hB : 1 ≤ B := Nat.le_trans (Tr.size_pos m) hm.2
  have g0 : p6 B (p.getD 0 z0T) := by
    by_cases h : 0 < p.length
    · exact hp _ (by simp [List.getD, h])
    · rw [show p.getD 0 z0T = z0T by simp [List.getD, h]]
      exact a0a hB
  have hn := hx.2.1
  have hz : p6 (B + 1) z0T := a0a (by omega)
  unfold r7
  split
  · refine ⟨?_, hn⟩
    rcases b5k x.n (p.getD 0 z0T) (p.getD 1 z0T) with e | e | e <;> rw [e]
    · exact y5 (by omega) (by omega)
    · exact y5 (by omega) (by omega)
    · exact hz
  · split
    · exact ⟨g0.le (by omega), hn⟩
    · split
      · exact ⟨(g0.kid 0).le (by omega), hn⟩
      · split
        · split
          · exact ⟨hz, by constructor <;> (dsimp only; omega)⟩
          · rename_i h0
            refine ⟨p6.bare ⟨b7u hm.1 _, Nat.le_trans (a19 _ _) (Nat.le_trans hm.2 (by omega))⟩, ?_, a8v hms hx⟩
            dsimp only; omega
        · split
          · exact ⟨⟨(Tr.all_mk _ _ _).2 ⟨⟨by simp, hn, by simp, by simp⟩, fun y hy => by simp at hy⟩, by simp [Tr.size_mk]⟩, hn⟩
          · split
            · exact ⟨(((hm.kid _).kid _).bare).le (by omega), hn⟩
            · split
              · exact ⟨hz, by constructor <;> (dsimp only; omega)⟩
              · split
                · split
                  · exact ⟨hz, by constructor <;> (dsimp only; omega)⟩
                  · refine ⟨⟨(Tr.all_mk _ _ _).2 ⟨⟨by simp, by constructor <;> (dsimp only; omega), by simp, by simp⟩, fun y hy => by simp at hy; subst hy; exact g0.1⟩, ?_⟩, hn⟩
                    have := g0.2
                    rw [Tr.size_mk]; simp only [List.map_cons, List.map_nil, List.sum_cons, List.sum_nil]; omega
                · exact ⟨hz, by constructor <;> (dsimp only; omega)⟩
structure OfOk (B : Nat) (t : VT) (g : GV) : Prop where
  ty : p6 (B + t.size) g.ty
  fo : p6 t.size g.fo
  pl : -9223372036854775808 ≤ g.pl ∧ g.pl ≤ 9223372036854775807
theorem a2t {B : Nat} {x : Lab} {l : List VT} (hx : x.ok) (e : Int) : OfOk B (.mk x l) (a2s x e) :=
  ⟨a0a (by have := Tr.size_pos (Tr.mk x l); omega), a0a (Tr.size_pos _), hx.2.2.1⟩
theorem a9d {m : VT} {L : List VT} {B : Nat} (hm : p6 B m) (hms : m.size ≤ 1000000) (hL : ∀ t ∈ L, p6 B t) (t : VT) : m7 t → t.size ≤ 1000000 → OfOk B t (ofT m L t) := by
  induction t using Tr.ind with
  | h x l ih =>
  intro ht hts
  obtain ⟨hx, hl⟩ := (Tr.all_mk _ x l).1 ht
  have hlen := Tr.len_size (x := x) (l := l)
  rw [a4r]
  unfold ofC
  have hs1 : (Tr.mk x ([] : List VT)).size ≤ (Tr.mk x l).size := by simp [Tr.size_mk]
  split
  · exact a2t hx _
  · split
    · exact a2t hx _
    · split
      · exact ⟨(b6q hm hL x l).le (by omega), ⟨(Tr.all_mk _ _ _).2 ⟨⟨hx.1, hx.2.1, by simp, by simp⟩, fun y hy => by simp at hy⟩, by rw [Tr.size_mk] at hs1 ⊢; exact hs1⟩, by simp⟩
      · split
        · rename_i g hg
          obtain ⟨y, hy, rfl⟩ := List.mem_map.1 (List.mem_of_find?_eq_some hg)
          have hys := v8 (x := x) hy
          have := ih y hy (hl y hy) (by omega)
          exact ⟨this.ty.le (by omega), this.fo.le (by omega), this.pl⟩
        · have hk : ∀ a ∈ (l.map (ofT m L)).map GV.ty, p6 (B + ((Tr.mk x l).size - 1)) a := by
            intro a ha
            rw [List.map_map] at ha
            obtain ⟨y, hy, rfl⟩ := List.mem_map.1 ha
            have hys := v8 (x := x) hy
            exact (ih y hy (hl y hy) (by omega)).ty.le (by omega)
          have hp := Tr.size_pos (Tr.mk x l)
          have hr := b5e (m := m) (B := B + ((Tr.mk x l).size - 1)) (hm.le (by omega)) hx hk (by simp; omega) hms
          split
          · refine ⟨hr.1.le (by omega), ⟨(Tr.all_mk _ _ _).2 ⟨⟨hx.1, hr.2, by simp, by simp⟩, fun a ha => ?_⟩, ?_⟩, by simp⟩
            · rw [List.map_map] at ha
              obtain ⟨y, hy, rfl⟩ := List.mem_map.1 ha
              have hys := v8 (x := x) hy
              exact (ih y hy (hl y hy) (by omega)).fo.1
            · rw [Tr.size_mk, Tr.size_mk, List.map_map, List.map_map]
              refine Nat.add_le_add_left (a1h (fun y hy => ?_)) 1
              have hys := v8 (x := x) hy
              exact (ih y hy (hl y hy) (by omega)).fo.2
          · exact a2t hx _
theorem c5t {m : VT} {n : Nat} {x : Lab} (h : b53 m n x = true) : (x.k = 7 → 0 ≤ x.n ∧ x.n < n) ∧ (x.k = 8 ∨ x.k = 9 → 0 ≤ x.n ∧ ∃ dx e, m.kids[x.n.toNat]? = some (.mk dx [e])) ∧ (x.k = 15 → 0 ≤ x.n ∧ ∃ d, m.kids[x.n.toNat]? = some d) ∧ (x.k = 16 → 0 ≤ x.n ∧ ∃ dx a b c, m.kids[x.n.toNat]? = some (.mk dx [a, b, c])) := by
  have hb : ∀ k, a23 m x.n k = true → 0 ≤ x.n ∧ ∃ d, m.kids[x.n.toNat]? = some d ∧ b2y d k = true := by
    intro k hk
    unfold a23 at hk
    split at hk
    · cases hk
    · split at hk
      · cases hk
      · rename_i d hd
        exact ⟨by omega, d, hd, by simp at hk; exact hk.2⟩
  unfold b53 at h
  refine ⟨fun e => ?_, fun e => ?_, fun e => ?_, fun e => ?_⟩
  · rw [if_pos e] at h; simpa using h
  · rcases e with e | e
    · rw [if_neg (by omega), if_pos e] at h
      obtain ⟨h0, ⟨dx, dl⟩, hd, hh⟩ := hb _ h
      unfold b2y at hh
      simp [Tr.kids] at hh
      obtain ⟨a, rfl⟩ := o6 (l := dl) (of_decide_eq_true hh.1)
      exact ⟨h0, dx, a, hd⟩
    · rw [if_neg (by omega), if_neg (by omega), if_pos e] at h
      obtain ⟨h0, ⟨dx, dl⟩, hd, hh⟩ := hb _ h
      unfold b2y at hh
      simp [Tr.kids] at hh
      obtain ⟨a, rfl⟩ := o6 (l := dl) (of_decide_eq_true hh)
      exact ⟨h0, dx, a, hd⟩
  · rw [if_neg (by omega), if_neg (by omega), if_neg (by omega), if_pos e] at h
    obtain ⟨h0, d, hd, _⟩ := hb _ h
    exact ⟨h0, d, hd⟩
  · rw [if_neg (by omega), if_neg (by omega), if_neg (by omega), if_neg (by omega), if_pos e] at h
    obtain ⟨h0, ⟨dx, dl⟩, hd, hh⟩ := hb _ h
    unfold b2y at hh
    simp [Tr.kids] at hh
    obtain ⟨a, b, c, rfl⟩ := a3z (l := dl) (of_decide_eq_true hh)
    exact ⟨h0, dx, a, b, c, hd⟩
theorem a7r (m : VT) (L : List VT) (B : Nat) (hm : p6 B m) (hL : ∀ t ∈ L, p6 B t) (hB : B ≤ 400000) (hLl : L.length ≤ 1000000) (t : VT) : m7 t → t.size ≤ 400000 → Row Tryz.prog 53 [vT m, vLs L, vT t] [] (vGt (ofT m L t)) [] := by
  induction t using Tr.ind with
  | h x l ih =>
  intro ht hts
  have hok := a9d hm (by have := hm.2; omega) hL (.mk x l) ht (by omega)
  obtain ⟨hx, hl⟩ := (Tr.all_mk _ x l).1 ht
  have hlen := Tr.len_size (x := x) (l := l)
  have hms := hm.2
  have hsha := b8z x l
  have hnam := c2b m (by omega) L x l hx
  have hb12 := a7n x l 12
  have hb8 := a7n x l 8
  rw [a4r]
  unfold ofC
  cases hS : j7 x l.length with
  | false =>
    rw [hS] at hsha
    rw [if_pos rfl]
    unfold a2s
    clear ih hok hnam hb8
    obtain ⟨mx, ml⟩ := m
    refine d7 Tryz.func53 rfl rfl (Nat.le_of_ble_eq_true rfl) ?_
    repeat' (first | refine b9 ?_ | refine b6 ?_ | refine a6 ?_ | refine b5 ?_ | refine e7 rfl ?_ | refine d9 rfl ?_ | ((first | refine b8 (fun K hK => ?_) | refine d3 e9 (fun K hK => ?_) | refine b7 (cp hsha ?_) | refine a8 (dp hsha ?_) | refine b7 (cp hb12 ?_) | refine a8 (dp hb12 ?_) | fail); simp -implicitDefEqProofs) | refine hK _ ?_ | refine hK _ _ (by rfl) ?_ | fail)
    refine d6 (d4 ?_); simp -implicitDefEqProofs [f9, f6, f7] <;> try rfl
  | true =>
  rw [hS] at hsha
  rw [if_neg (by simp)]
  cases hN : b53 m L.length x with
  | false =>
    rw [hN] at hnam
    rw [if_pos rfl]
    unfold a2s
    clear ih hok hb12
    obtain ⟨mx, ml⟩ := m
    refine d7 Tryz.func53 rfl rfl (Nat.le_of_ble_eq_true rfl) ?_
    repeat' (first | refine b9 ?_ | refine b6 ?_ | refine a6 ?_ | refine b5 ?_ | refine e7 rfl ?_ | refine d9 rfl ?_ | ((first | refine b8 (fun K hK => ?_) | refine d3 e9 (fun K hK => ?_) | refine b7 (cp hsha ?_) | refine a8 (dp hsha ?_) | refine b7 (cp hnam ?_) | refine a8 (dp hnam ?_) | refine b7 (cp hb8 ?_) | refine a8 (dp hb8 ?_) | fail); simp -implicitDefEqProofs) | refine hK _ ?_ | refine hK _ _ (by rfl) ?_ | fail)
    refine d6 (d4 ?_); simp -implicitDefEqProofs [f9, f6, f7] <;> try rfl
  | true =>
  rw [hN] at hnam
  rw [if_neg (by simp)]
  clear hb12 hb8
  obtain ⟨n7, n89, n15, n16⟩ := c5t hN
  by_cases h0 : l.length = 0 ∧ ¬ x.k = 16
  · rw [if_pos h0]
    obtain ⟨l0, k16⟩ := h0
    have : l = [] := List.eq_nil_of_length_eq_zero l0
    subst this
    have hal := b44 m (by omega) L (fun t h => by have := (hL t h).2; omega) hLl x [] n7 n89
    obtain ⟨⟨bx, bl⟩, hbb⟩ : ∃ b, c3b m L x [] = b := ⟨_, rfl⟩
    rw [hbb] at hal ⊢
    clear ih hok hbb
    obtain ⟨mx, ml⟩ := m
    refine d7 Tryz.func53 rfl rfl (Nat.le_of_ble_eq_true rfl) ?_
    repeat' (first | refine b9 ?_ | refine b6 ?_ | refine a6 ?_ | refine b5 ?_ | refine e7 rfl ?_ | refine d9 rfl ?_ | ((first | refine b8 (fun K hK => ?_) | refine d3 e9 (fun K hK => ?_) | refine b7 (cp hsha ?_) | refine a8 (dp hsha ?_) | refine b7 (cp hnam ?_) | refine a8 (dp hnam ?_) | refine b7 (cp hal ?_) | refine a8 (dp hal ?_) | fail); simp -implicitDefEqProofs [k16]) | refine hK _ ?_ | refine hK _ _ (by rfl) ?_ | fail)
    refine d6 (d4 ?_); simp -implicitDefEqProofs [f9, f6, f7] <;> try rfl
  rw [if_neg h0]
  have hgo : ¬ ((l.length : Int) = 0 ∧ ¬ x.k = 16) := fun h => h0 ⟨by omega, h.2⟩
  have hgl : ∀ a ∈ (l.map (ofT m L)).map GV.ty, m7 a ∧ a.size ≤ 900000 := by
    intro a ha
    rw [List.map_map] at ha
    obtain ⟨y, hy, rfl⟩ := List.mem_map.1 ha
    have hys := v8 (x := x) hy
    have := (a9d hm (by omega) hL y (hl y hy) (by omega)).ty
    exact ⟨this.1, by have := this.2; show (ofT m L y).ty.size ≤ _; omega⟩
  have hru := b8y m hm.1 (by omega) x l hx ((l.map (ofT m L)).map GV.ty) hgl (by simp; omega) (by simpa using hS) n15 n16
  obtain ⟨⟨⟨rx, rl⟩, rn, re⟩, hR⟩ : ∃ R, r7 m x ((l.map (ofT m L)).map GV.ty) = R := ⟨_, rfl⟩
  rw [hR] at hru ⊢
  have hbe := a7n x l re
  obtain ⟨F, hF⟩ : ∃ F, (match (l.map (ofT m L)).find? (fun g => !decide (g.er = 0)) with
    | some g => g
    | none => if re = 0 then ⟨.mk rx rl, .mk ⟨x.k, rn, ⟨#[]⟩, 0, 0⟩ ((l.map (ofT m L)).map GV.fo), 0, 0⟩ else a2s x re : GV) = F := ⟨_, rfl⟩
  dsimp only at hF ⊢
  rw [hF]
  clear hR hok
  have hat : ∀ (k : Nat) ax al, l[k]? = some (.mk ax al) → ¬ (ofT m L (.mk ax al)).er = 0 → (∀ y ∈ l.take k, (ofT m L y).er = 0) → F = ofT m L (.mk ax al) := by
    intro k ax al ha he hno
    rw [← hF, a2y (k := k) (a := ofT m L (.mk ax al)) (by rw [List.getElem?_map, ha]; rfl) (by simpa using he) (fun g hg => by
      rw [← List.map_take] at hg
      obtain ⟨y, hy, rfl⟩ := List.mem_map.1 hg
      simpa using hno y hy)]
  have hend : (∀ y ∈ l, (ofT m L y).er = 0) → F = if re = 0 then ⟨.mk rx rl, .mk ⟨x.k, rn, ⟨#[]⟩, 0, 0⟩ ((l.map (ofT m L)).map GV.fo), 0, 0⟩ else a2s x re := by
    intro hno
    rw [← hF, List.find?_eq_none.2 (fun g hg => by
      obtain ⟨y, hy, rfl⟩ := List.mem_map.1 hg
      simpa using hno y hy)]
  clear hF
  have hor : (∃ _ : ¬ l.length = 0, ¬ (l.length : Int) = 0 ∧ True) ∨ (∃ _ : l.length = 0, (l.length : Int) = 0 ∧ x.k = 16) := by
    rcases Classical.em (l.length = 0) with h | h
    · exact .inr ⟨h, by omega, Classical.byContradiction fun k => h0 ⟨h, k⟩⟩
    · exact .inl ⟨h, by omega, trivial⟩
  clear h0 hgo
  obtain ⟨Ty, hTy⟩ : ∃ Ty : List VT, (l.map (ofT m L)).map GV.ty = Ty := ⟨_, rfl⟩
  have hgt : ∀ k, ((l.take k).map (ofT m L)).map GV.ty = Ty.take k := fun k => by rw [← hTy, List.map_take, List.map_take]
  obtain ⟨Fo, hFo⟩ : ∃ Fo : List VT, (l.map (ofT m L)).map GV.fo = Fo := ⟨_, rfl⟩
  have hgf : ∀ k, ((l.take k).map (ofT m L)).map GV.fo = Fo.take k := fun k => by rw [← hFo, List.map_take, List.map_take]
  have hTl : Ty.length = l.length := by rw [← hTy]; simp
  have hFl : Fo.length = l.length := by rw [← hFo]; simp
  have hTk : ∀ k y, l[k]? = some y → Ty.take (k + 1) = Ty.take k ++ [(ofT m L y).ty] := fun k y h => by
    rw [List.take_add_one, ← hTy, List.getElem?_map, List.getElem?_map, h]; rfl
  have hFk : ∀ k y, l[k]? = some y → Fo.take (k + 1) = Fo.take k ++ [(ofT m L y).fo] := fun k y h => by
    rw [List.take_add_one, ← hFo, List.getElem?_map, List.getElem?_map, h]; rfl
  rw [hTy] at hru
  rw [hFo] at hend
  clear hTy hFo hgt hgf hgl
  obtain ⟨mx, ml⟩ := m
  rcases hor with ⟨l0, l0', k16⟩ | ⟨l0, l0', k16⟩
  all_goals (
    refine d7 Tryz.func53 rfl rfl (Nat.le_of_ble_eq_true rfl) ?_
    repeat' (first | refine b9 ?_ | refine b6 ?_ | refine a6 ?_ | refine b5 ?_ | refine e7 rfl ?_ | refine d9 rfl ?_ | ((first | refine b8 (fun K hK => ?_) | refine d3 e9 (fun K hK => ?_) | refine b7 (cp hsha ?_) | refine a8 (dp hsha ?_) | refine b7 (cp hnam ?_) | refine a8 (dp hnam ?_) | fail); simp -implicitDefEqProofs [l0, l0', k16]) | refine hK _ ?_ | refine hK _ _ (by rfl) ?_ | fail)
    refine m6 (ι := Nat) (fun k => x5 [(1, vLs L), (3, .v (.c (.ptr 0 0))), (5, .v (.c (.ptr 1 0))), (6, .v (.c (.ptr 2 0))), (7, .v (.c (.row 3 6 ((Ty.take k).map tc)))), (8, .v (.c (.row 4 6 ((Fo.take k).map tc)))), (9, vI (k : Nat))] [some (.box (ta (.mk mx ml))), some (.box (ta (.mk x l))), some (.box (ta z0T ++ (ta z0T ++ [.pv (I 0), .pv (I 0)]))), some (.row 24 6), some (.row 24 6)]) (fun k => k ≤ l.length ∧ ∀ y ∈ l.take k, (ofT (.mk mx ml) L y).er = 0) (fun k => l.length - k) 0 ⟨Nat.zero_le _, by simp⟩ (by first | (refine e8 [0, 1, 2, 31, 33] ?_ ?_ (by decide) rfl (by simp) <;> (simp -implicitDefEqProofs; done)) | (refine e8 [0, 1, 2, 34, 36] ?_ ?_ (by decide) rfl (by simp) <;> (simp -implicitDefEqProofs [k16]; done))) (fun Z hI k hk => ?_)
    obtain ⟨hk, hz⟩ := hk
    by_cases hkl : k < l.length; rotate_left
    · have : k = l.length := by omega
      subst this
      rw [List.take_length] at hz
      rw [hend hz]
      have e1 : Ty.take l.length = Ty := List.take_of_length_le (by omega)
      have e2 : Fo.take l.length = Fo := List.take_of_length_le (by omega)
      rw [e1, e2]
      by_cases he : re = 0
      · subst he
        repeat' (first | refine b9 ?_ | refine b6 ?_ | refine a6 ?_ | refine b5 ?_ | refine e7 rfl ?_ | refine d9 rfl ?_ | ((first | refine b8 (fun K hK => ?_) | refine d3 e9 (fun K hK => ?_) | refine b7 (cp hru ?_) | refine a8 (dp hru ?_) | fail); simp -implicitDefEqProofs) | refine hK _ ?_ | refine hK _ _ (by rfl) ?_ | fail)
        refine d6 (d4 ?_); simp -implicitDefEqProofs [f9, f6, f7] <;> try rfl
      · unfold a2s
        repeat' (first | refine b9 ?_ | refine b6 ?_ | refine a6 ?_ | refine b5 ?_ | refine e7 rfl ?_ | refine d9 rfl ?_ | ((first | refine b8 (fun K hK => ?_) | refine d3 e9 (fun K hK => ?_) | refine b7 (cp hru ?_) | refine a8 (dp hru ?_) | refine b7 (cp hbe ?_) | refine a8 (dp hbe ?_) | fail); simp -implicitDefEqProofs [he]) | refine hK _ ?_ | refine hK _ _ (by rfl) ?_ | fail)
        refine d6 (d4 ?_); simp -implicitDefEqProofs [f9, f6, f7, he] <;> try rfl
    obtain ⟨⟨ax, al⟩, ha⟩ : ∃ a, l[k]? = some a := ⟨_, List.getElem?_eq_getElem hkl⟩
    have ha' := (List.getElem?_eq_some_iff.1 ha).2
    have hsz1 := Tr.size_at (x := x) ha
    have hc := ih _ (List.mem_of_getElem? ha) (hl _ (List.mem_of_getElem? ha)) (by omega)
    have w2 : IntKind.i64.wrap ((k : Nat) + 1 : Int) = (k : Nat) + 1 := l4 _ (by omega) (by omega)
    have hs := hTk k _ ha
    have hf := hFk k _ ha
    have hto := hat k ax al ha
    have hTkl : (Ty.take k).length = k := by rw [List.length_take]; omega
    have hFkl : (Fo.take k).length = k := by rw [List.length_take]; omega
    obtain ⟨TK, hTK⟩ : ∃ TK, Ty.take k = TK := ⟨_, rfl⟩
    obtain ⟨FK, hFK⟩ : ∃ FK, Fo.take k = FK := ⟨_, rfl⟩
    have hnx : (ofT (.mk mx ml) L (.mk ax al)).er = 0 → ∀ y ∈ l.take (k + 1), (ofT (.mk mx ml) L y).er = 0 := by
      intro he y hy
      rw [List.take_add_one, ha] at hy
      rcases List.mem_append.1 hy with hy | hy
      · exact hz y hy
      · simp at hy; subst hy; exact he
    obtain ⟨⟨⟨bx, bl⟩, ⟨cx, cl⟩, gp, ge⟩, hG⟩ : ∃ g, ofT (.mk mx ml) L (.mk ax al) = g := ⟨_, rfl⟩
    rw [hG] at hc hto hs hf hnx
    rw [hTK] at hs hTkl ⊢
    rw [hFK] at hf hFkl ⊢
    clear hG hTK hFK hTk hFk hat hend ih
    have b1 : (k + 1) * 72 ≤ 140737488355328 := by omega
    have b2 : k + 1 ≤ 140737488355328 := by omega
    by_cases he : ge = 0
    · have he' := eq_true he
      repeat' (first | refine b9 ?_ | refine b6 ?_ | refine a6 ?_ | refine b5 ?_ | refine e7 rfl ?_ | refine d9 rfl ?_ | ((first | refine b8 (fun K hK => ?_) | refine d3 e9 (fun K hK => ?_) | refine b7 (cp hc ?_) | refine a8 (dp hc ?_) | fail); simp -implicitDefEqProofs [hkl, ha, ha', hTkl, hFkl, b1, b2, w2, he']) | refine hK _ ?_ | refine hK _ _ (by rfl) ?_ | fail)
      refine ⟨k + 1, ⟨by omega, hnx he⟩, (by dsimp only; omega), ?_⟩
      rw [hI, hs, hf]; exact e8 [0, 1, 2, 97, 103] (by simp -implicitDefEqProofs) (by simp -implicitDefEqProofs) (by decide) rfl (by simp)
    · rw [hto he hz]
      repeat' (first | refine b9 ?_ | refine b6 ?_ | refine a6 ?_ | refine b5 ?_ | refine e7 rfl ?_ | refine d9 rfl ?_ | ((first | refine b8 (fun K hK => ?_) | refine d3 e9 (fun K hK => ?_) | refine b7 (cp hc ?_) | refine a8 (dp hc ?_) | fail); simp -implicitDefEqProofs [hkl, ha, ha', he]) | refine hK _ ?_ | refine hK _ _ (by rfl) ?_ | fail)
      refine d6 (d4 ?_); simp -implicitDefEqProofs [f9, f6, f7] <;> try rfl)
end Go.Proofs.YtbbkmijkllgfaaaGreatDoor.am
end
