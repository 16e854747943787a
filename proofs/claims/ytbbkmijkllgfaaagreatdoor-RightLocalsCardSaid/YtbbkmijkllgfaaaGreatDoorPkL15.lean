import Derived.Test.YtbbkmijkllgfaaaGreatDoorPkL14
import Derived.IntWalk
import Derived.Test.YtbbkmijkllgfaaaGreatDoorPkL4
import Derived.Test.YtbbkmijkllgfaaaGreatDoorPkL12
set_option maxRecDepth 100000
set_option maxHeartbeats 4000000
section
namespace Go.Proofs.YtbbkmijkllgfaaaGreatDoor.am
open Go.ChangeShapes Go.WideShapes Go.ChangeAt Go.RowKit
open vt
set_option linter.unusedVariables false
set_option linter.unusedSimpArgs false
theorem b48 (m : VT) (hm : m7 m) (hms : m.size ≤ 100000) (i : Nat) (t : VT) (hi : m.kids[i]? = some t) : Row Tryz.prog 25 [vT m, vI (i : Nat)] [] (vGr (a2n m i t)) [] := by
  have hts := j8 (List.mem_of_getElem? hi)
  have hti := a00 hm (List.mem_of_getElem? hi)
  obtain ⟨x, l⟩ := t
  have hfn := c2a m hm hms x l hti (by omega)
  have hsh := a1w (.mk x l) (by omega)
  have hb := fun e => n4 x l e
  have hnm := a7q (.mk x l) (by omega)
  obtain ⟨⟨nx, nl⟩, hnn⟩ : ∃ g, l3 (.mk x l) = g := ⟨_, rfl⟩
  unfold a2n
  rw [Tr.lab, Tr.kids]
  rw [hnn] at hnm ⊢
  clear hnn
  have hce : ∀ y, m7 y → y.size ≤ 100000 → Row Tryz.prog 38 [vT m, vT y] [] (vI (z7 m y)) [] := fun y h1 h2 => a0i m y hm (by omega) h1 (by omega)
  have hcr := hce (.mk ⟨4, i, ⟨#[]⟩, 0, 0⟩ []) ((Tr.all_mk _ _ _).2 ⟨⟨by simp, by
    have h1 := (List.getElem?_eq_some_iff.1 hi).1
    have h2 : m.kids.length < m.size := by obtain ⟨mx, ml⟩ := m; exact Tr.len_size (x := mx) (l := ml)
    constructor <;> (dsimp only; omega), by simp, by simp⟩, fun y hy => by simp at hy⟩) (by simp [Tr.size_mk])
  obtain ⟨c, hcc⟩ : ∃ c, z7 m (.mk ⟨4, i, ⟨#[]⟩, 0, 0⟩ []) = c := ⟨_, rfl⟩
  rw [hcc] at hcr ⊢
  have hml : m.kids.length < m.size := by obtain ⟨mx, ml⟩ := m; exact Tr.len_size (x := mx) (l := ml)
  have hil := (List.getElem?_eq_some_iff.1 hi).1
  have w0 : IntKind.i64.wrap ((i : Nat) : Int) = (i : Nat) := l4 _ (by omega) (by omega)
  have hi' := (List.getElem?_eq_some_iff.1 hi).2
  by_cases c33 : x.k = 33
  · rw [if_pos c33]
    obtain ⟨⟨⟨bx, bl⟩, gp, ge⟩, hG⟩ : ∃ g, fnT m x l = g := ⟨_, rfl⟩
    rw [hG] at hfn ⊢
    clear hG hce hcc
    obtain ⟨mx, ml⟩ := m
    rw [Tr.kids] at hi
    simp only [Tr.kids] at hil hi'
    refine d7 Tryz.func25 rfl rfl (Nat.le_of_ble_eq_true rfl) ?_
    repeat' (first | refine b9 ?_ | refine b6 ?_ | refine a6 ?_ | refine b5 ?_ | refine e7 rfl ?_ | refine d9 rfl ?_ | ((first | refine b8 (fun K hK => ?_) | refine d3 e9 (fun K hK => ?_) | refine b7 (cp hfn ?_) | refine a8 (dp hfn ?_) | fail); simp -implicitDefEqProofs [hil, hi, hi', c33]) | refine hK _ ?_ | refine hK _ _ (by rfl) ?_ | fail)
    refine d6 (d4 ?_); simp -implicitDefEqProofs [f9, f6, f7] <;> try rfl
  rw [if_neg c33]
  clear hfn
  by_cases c30 : x.k = 30
  · rw [if_pos c30]
    have hb12 := hb 12
    have hb11 := hb 11
    unfold m8 at hb12 hb11 ⊢
    obtain ⟨q, hq⟩ : ∃ q, a44 (.mk x l) = q := ⟨_, rfl⟩
    rw [hq] at hsh ⊢
    clear hce hcc hq hb
    obtain ⟨mx, ml⟩ := m
    rw [Tr.kids] at hi
    simp only [Tr.kids] at hil hi'
    cases q with
    | false =>
      rw [if_pos rfl]
      refine d7 Tryz.func25 rfl rfl (Nat.le_of_ble_eq_true rfl) ?_
      repeat' (first | refine b9 ?_ | refine b6 ?_ | refine a6 ?_ | refine b5 ?_ | refine e7 rfl ?_ | refine d9 rfl ?_ | ((first | refine b8 (fun K hK => ?_) | refine d3 e9 (fun K hK => ?_) | refine b7 (cp hsh ?_) | refine a8 (dp hsh ?_) | refine b7 (cp hb12 ?_) | refine a8 (dp hb12 ?_) | fail); simp -implicitDefEqProofs [hil, hi, hi', c33, c30, w0]) | refine hK _ ?_ | refine hK _ _ (by rfl) ?_ | fail)
      refine d6 (d4 ?_); simp -implicitDefEqProofs [f9, f6, f7] <;> try rfl
    | true =>
      rw [if_neg (by simp)]
      by_cases c0 : c = 0
      · rw [if_pos c0]
        refine d7 Tryz.func25 rfl rfl (Nat.le_of_ble_eq_true rfl) ?_
        repeat' (first | refine b9 ?_ | refine b6 ?_ | refine a6 ?_ | refine b5 ?_ | refine e7 rfl ?_ | refine d9 rfl ?_ | ((first | refine b8 (fun K hK => ?_) | refine d3 e9 (fun K hK => ?_) | refine b7 (cp hsh ?_) | refine a8 (dp hsh ?_) | refine b7 (cp hcr ?_) | refine a8 (dp hcr ?_) | refine b7 (cp hb11 ?_) | refine a8 (dp hb11 ?_) | fail); simp -implicitDefEqProofs [hil, hi, hi', c33, c30, w0, c0]) | refine hK _ ?_ | refine hK _ _ (by rfl) ?_ | fail)
        refine d6 (d4 ?_); simp -implicitDefEqProofs [f9, f6, f7] <;> try rfl
      · rw [if_neg c0]
        refine d7 Tryz.func25 rfl rfl (Nat.le_of_ble_eq_true rfl) ?_
        repeat' (first | refine b9 ?_ | refine b6 ?_ | refine a6 ?_ | refine b5 ?_ | refine e7 rfl ?_ | refine d9 rfl ?_ | ((first | refine b8 (fun K hK => ?_) | refine d3 e9 (fun K hK => ?_) | refine b7 (cp hsh ?_) | refine a8 (dp hsh ?_) | refine b7 (cp hcr ?_) | refine a8 (dp hcr ?_) | refine b7 (cp hnm ?_) | refine a8 (dp hnm ?_) | fail); simp -implicitDefEqProofs [hil, hi, hi', c33, c30, w0, c0]) | refine hK _ ?_ | refine hK _ _ (by rfl) ?_ | fail)
        refine d6 (d4 ?_); simp -implicitDefEqProofs [f9, f6, f7] <;> try rfl
  rw [if_neg c30]
  clear hsh hcr hcc
  by_cases c32 : x.k = 32 ∧ l.length = 1
  · rw [if_pos c32]
    obtain ⟨c32, l1⟩ := c32
    obtain ⟨⟨ax, al⟩, rfl⟩ := o6 l1
    have hs1 := Tr.size_at (x := x) (l := [Tr.mk ax al]) (i := 0) rfl
    have hca := hce (.mk ax al) (((Tr.all_mk _ _ _).1 hti).2 _ (by simp)) (by omega)
    have hba := n4 ax al 11
    rw [show [Tr.mk ax al].getD 0 z0T = .mk ax al from rfl, Tr.lab]
    obtain ⟨q, hq⟩ : ∃ q, z7 m (.mk ax al) = q := ⟨_, rfl⟩
    rw [hq] at hca ⊢
    unfold m8 at hba ⊢
    clear hce hq hb
    obtain ⟨mx, ml⟩ := m
    rw [Tr.kids] at hi
    simp only [Tr.kids] at hil hi'
    by_cases c0 : q = 0
    · rw [if_pos c0]
      refine d7 Tryz.func25 rfl rfl (Nat.le_of_ble_eq_true rfl) ?_
      repeat' (first | refine b9 ?_ | refine b6 ?_ | refine a6 ?_ | refine b5 ?_ | refine e7 rfl ?_ | refine d9 rfl ?_ | ((first | refine b8 (fun K hK => ?_) | refine d3 e9 (fun K hK => ?_) | refine b7 (cp hca ?_) | refine a8 (dp hca ?_) | refine b7 (cp hba ?_) | refine a8 (dp hba ?_) | fail); simp -implicitDefEqProofs [hil, hi, hi', c32, c0]) | refine hK _ ?_ | refine hK _ _ (by rfl) ?_ | fail)
      refine d6 (d4 ?_); simp -implicitDefEqProofs [f9, f6, f7] <;> try rfl
    · rw [if_neg c0]
      refine d7 Tryz.func25 rfl rfl (Nat.le_of_ble_eq_true rfl) ?_
      repeat' (first | refine b9 ?_ | refine b6 ?_ | refine a6 ?_ | refine b5 ?_ | refine e7 rfl ?_ | refine d9 rfl ?_ | ((first | refine b8 (fun K hK => ?_) | refine d3 e9 (fun K hK => ?_) | refine b7 (cp hca ?_) | refine a8 (dp hca ?_) | refine b7 (cp hnm ?_) | refine a8 (dp hnm ?_) | fail); simp -implicitDefEqProofs [hil, hi, hi', c32, c0]) | refine hK _ ?_ | refine hK _ _ (by rfl) ?_ | fail)
      refine d6 (d4 ?_); simp -implicitDefEqProofs [f9, f6, f7] <;> try rfl
  rw [if_neg c32]
  clear hce
  have hb12 := hb 12
  clear hb
  have hgo : ∀ P : Prop, P ∨ ¬ P := Classical.em
  have c32' : ¬ x.k = 32 ∨ (x.k = 32 ∧ ¬ l.length = 1 ∧ ¬ (l.length : Int) = 1) := by
    by_cases h : x.k = 32
    · exact .inr ⟨h, fun g => c32 ⟨h, g⟩, fun g => c32 ⟨h, by omega⟩⟩
    · exact .inl h
  clear c32
  rcases c32' with c32 | ⟨c32, l1, l1'⟩; rotate_left
  · rw [if_pos (.inl (by omega))]
    unfold m8 at hb12 ⊢
    obtain ⟨mx, ml⟩ := m
    rw [Tr.kids] at hi
    simp only [Tr.kids] at hil hi'
    refine d7 Tryz.func25 rfl rfl (Nat.le_of_ble_eq_true rfl) ?_
    repeat' (first | refine b9 ?_ | refine b6 ?_ | refine a6 ?_ | refine b5 ?_ | refine e7 rfl ?_ | refine d9 rfl ?_ | ((first | refine b8 (fun K hK => ?_) | refine d3 e9 (fun K hK => ?_) | refine b7 (cp hb12 ?_) | refine a8 (dp hb12 ?_) | fail); simp -implicitDefEqProofs [hil, hi, hi', c32, l1, l1']) | refine hK _ ?_ | refine hK _ _ (by rfl) ?_ | fail)
    refine d6 (d4 ?_); simp -implicitDefEqProofs [f9, f6, f7] <;> try rfl
  by_cases c31 : x.k = 31; rotate_left
  · rw [if_pos (.inl c31)]
    unfold m8 at hb12 ⊢
    obtain ⟨mx, ml⟩ := m
    rw [Tr.kids] at hi
    simp only [Tr.kids] at hil hi'
    refine d7 Tryz.func25 rfl rfl (Nat.le_of_ble_eq_true rfl) ?_
    repeat' (first | refine b9 ?_ | refine b6 ?_ | refine a6 ?_ | refine b5 ?_ | refine e7 rfl ?_ | refine d9 rfl ?_ | ((first | refine b8 (fun K hK => ?_) | refine d3 e9 (fun K hK => ?_) | refine b7 (cp hb12 ?_) | refine a8 (dp hb12 ?_) | fail); simp -implicitDefEqProofs [hil, hi, hi', c33, c30, c32, c31]) | refine hK _ ?_ | refine hK _ _ (by rfl) ?_ | fail)
    refine d6 (d4 ?_); simp -implicitDefEqProofs [f9, f6, f7] <;> try rfl
  by_cases l1 : l.length = 1; rotate_left
  · have l1' : ¬ (l.length : Int) = 1 := by omega
    rw [if_pos (.inr (.inl l1))]
    unfold m8 at hb12 ⊢
    obtain ⟨mx, ml⟩ := m
    rw [Tr.kids] at hi
    simp only [Tr.kids] at hil hi'
    refine d7 Tryz.func25 rfl rfl (Nat.le_of_ble_eq_true rfl) ?_
    repeat' (first | refine b9 ?_ | refine b6 ?_ | refine a6 ?_ | refine b5 ?_ | refine e7 rfl ?_ | refine d9 rfl ?_ | ((first | refine b8 (fun K hK => ?_) | refine d3 e9 (fun K hK => ?_) | refine b7 (cp hb12 ?_) | refine a8 (dp hb12 ?_) | fail); simp -implicitDefEqProofs [hil, hi, hi', c31, l1, l1']) | refine hK _ ?_ | refine hK _ _ (by rfl) ?_ | fail)
    refine d6 (d4 ?_); simp -implicitDefEqProofs [f9, f6, f7] <;> try rfl
  obtain ⟨⟨ax, al⟩, rfl⟩ := o6 l1
  rw [show [Tr.mk ax al].getD 0 z0T = .mk ax al from rfl, Tr.lab, Tr.kids]
  by_cases a0 : 0 < al.length
  · have a0' : (0 : Int) < (al.length : Int) := by omega
    rw [if_pos (.inr (.inr (.inl a0)))]
    unfold m8 at hb12 ⊢
    obtain ⟨mx, ml⟩ := m
    rw [Tr.kids] at hi
    simp only [Tr.kids] at hil hi'
    refine d7 Tryz.func25 rfl rfl (Nat.le_of_ble_eq_true rfl) ?_
    repeat' (first | refine b9 ?_ | refine b6 ?_ | refine a6 ?_ | refine b5 ?_ | refine e7 rfl ?_ | refine d9 rfl ?_ | ((first | refine b8 (fun K hK => ?_) | refine d3 e9 (fun K hK => ?_) | refine b7 (cp hb12 ?_) | refine a8 (dp hb12 ?_) | fail); simp -implicitDefEqProofs [hil, hi, hi', c31, a0, a0']) | refine hK _ ?_ | refine hK _ _ (by rfl) ?_ | fail)
    refine d6 (d4 ?_); simp -implicitDefEqProofs [f9, f6, f7] <;> try rfl
  have : al = [] := List.eq_nil_of_length_eq_zero (by omega)
  subst this
  have hlt := a3x (.mk ax [])
  have hlk := c3k (.mk ax [])
  rw [Tr.lab] at hlk
  obtain ⟨⟨ux, ul⟩, hu⟩ : ∃ g, a0u (.mk ax []) = g := ⟨_, rfl⟩
  rw [hu] at hlt hlk ⊢
  rw [Tr.lab] at hlk ⊢
  clear hu
  by_cases c0 : ux.k = 0
  · rw [if_pos (.inr (.inr (.inr (.inl c0))))]
    unfold m8 at hb12 ⊢
    obtain ⟨mx, ml⟩ := m
    rw [Tr.kids] at hi
    simp only [Tr.kids] at hil hi'
    refine d7 Tryz.func25 rfl rfl (Nat.le_of_ble_eq_true rfl) ?_
    repeat' (first | refine b9 ?_ | refine b6 ?_ | refine a6 ?_ | refine b5 ?_ | refine e7 rfl ?_ | refine d9 rfl ?_ | ((first | refine b8 (fun K hK => ?_) | refine d3 e9 (fun K hK => ?_) | refine b7 (cp hlt ?_) | refine a8 (dp hlt ?_) | refine b7 (cp hb12 ?_) | refine a8 (dp hb12 ?_) | fail); simp -implicitDefEqProofs [hil, hi, hi', c31, c0]) | refine hK _ ?_ | refine hK _ _ (by rfl) ?_ | fail)
    refine d6 (d4 ?_); simp -implicitDefEqProofs [f9, f6, f7] <;> try rfl
  clear hlk
  by_cases c6 : ax.k = 6; rotate_left
  · rw [if_neg (by simp [c31, c0, c6])]
    obtain ⟨mx, ml⟩ := m
    rw [Tr.kids] at hi
    simp only [Tr.kids] at hil hi'
    refine d7 Tryz.func25 rfl rfl (Nat.le_of_ble_eq_true rfl) ?_
    repeat' (first | refine b9 ?_ | refine b6 ?_ | refine a6 ?_ | refine b5 ?_ | refine e7 rfl ?_ | refine d9 rfl ?_ | ((first | refine b8 (fun K hK => ?_) | refine d3 e9 (fun K hK => ?_) | refine b7 (cp hlt ?_) | refine a8 (dp hlt ?_) | refine b7 (cp hnm ?_) | refine a8 (dp hnm ?_) | fail); simp -implicitDefEqProofs [hil, hi, hi', c31, c0, c6]) | refine hK _ ?_ | refine hK _ _ (by rfl) ?_ | fail)
    refine d6 (d4 ?_); simp -implicitDefEqProofs [f9, f6, f7] <;> try rfl
  by_cases n0 : ax.n = 0
  · rw [if_neg (by simp [c31, c0, c6, n0])]
    obtain ⟨mx, ml⟩ := m
    rw [Tr.kids] at hi
    simp only [Tr.kids] at hil hi'
    refine d7 Tryz.func25 rfl rfl (Nat.le_of_ble_eq_true rfl) ?_
    repeat' (first | refine b9 ?_ | refine b6 ?_ | refine a6 ?_ | refine b5 ?_ | refine e7 rfl ?_ | refine d9 rfl ?_ | ((first | refine b8 (fun K hK => ?_) | refine d3 e9 (fun K hK => ?_) | refine b7 (cp hlt ?_) | refine a8 (dp hlt ?_) | refine b7 (cp hnm ?_) | refine a8 (dp hnm ?_) | fail); simp -implicitDefEqProofs [hil, hi, hi', c31, c0, c6, n0]) | refine hK _ ?_ | refine hK _ _ (by rfl) ?_ | fail)
    refine d6 (d4 ?_); simp -implicitDefEqProofs [f9, f6, f7] <;> try rfl
  by_cases n1 : ax.n = 1
  · rw [if_neg (by simp [c31, c0, c6, n1])]
    obtain ⟨mx, ml⟩ := m
    rw [Tr.kids] at hi
    simp only [Tr.kids] at hil hi'
    refine d7 Tryz.func25 rfl rfl (Nat.le_of_ble_eq_true rfl) ?_
    repeat' (first | refine b9 ?_ | refine b6 ?_ | refine a6 ?_ | refine b5 ?_ | refine e7 rfl ?_ | refine d9 rfl ?_ | ((first | refine b8 (fun K hK => ?_) | refine d3 e9 (fun K hK => ?_) | refine b7 (cp hlt ?_) | refine a8 (dp hlt ?_) | refine b7 (cp hnm ?_) | refine a8 (dp hnm ?_) | fail); simp -implicitDefEqProofs [hil, hi, hi', c31, c0, c6, n1]) | refine hK _ ?_ | refine hK _ _ (by rfl) ?_ | fail)
    refine d6 (d4 ?_); simp -implicitDefEqProofs [f9, f6, f7] <;> try rfl
  · rw [if_pos (.inr (.inr (.inr (.inr ⟨c6, n0, n1⟩))))]
    unfold m8 at hb12 ⊢
    obtain ⟨mx, ml⟩ := m
    rw [Tr.kids] at hi
    simp only [Tr.kids] at hil hi'
    refine d7 Tryz.func25 rfl rfl (Nat.le_of_ble_eq_true rfl) ?_
    repeat' (first | refine b9 ?_ | refine b6 ?_ | refine a6 ?_ | refine b5 ?_ | refine e7 rfl ?_ | refine d9 rfl ?_ | ((first | refine b8 (fun K hK => ?_) | refine d3 e9 (fun K hK => ?_) | refine b7 (cp hlt ?_) | refine a8 (dp hlt ?_) | refine b7 (cp hb12 ?_) | refine a8 (dp hb12 ?_) | fail); simp -implicitDefEqProofs [hil, hi, hi', c31, c0, c6, n0, n1]) | refine hK _ ?_ | refine hK _ _ (by rfl) ?_ | fail)
    refine d6 (d4 ?_); simp -implicitDefEqProofs [f9, f6, f7] <;> try rfl
theorem a8s (m : VT) : ∀ (l : List VT) (i k : Nat), (w8 m i l)[k]? = (l[k]?).map (a2n m (i + k))
  | [], i, k => by simp [w8]
  | y :: r, i, 0 => by simp [w8]
  | y :: r, i, k + 1 => by
    rw [w8, List.getElem?_cons_succ, a8s m r (i + 1) k, List.getElem?_cons_succ, show i + 1 + k = i + (k + 1) by omega]
theorem a8t (m : VT) : ∀ (l : List VT) (i : Nat), (w8 m i l).length = l.length
  | [], i => rfl
  | y :: r, i => by rw [w8, List.length_cons, a8t m r, List.length_cons]
noncomputable abbrev vTIE (g : GR) : AV := .tup [.agg (ta g.t), .c (.pv (I g.pl)), .c (.pv (I g.er))]
theorem b1q (m : VT) (hm : m7 m) (hms : m.size ≤ 100000) : Row Tryz.prog 14 [vT m] [] (vTIE (b52 m)) [] := by
  have hde := fun i t h => b48 m hm hms i t h
  obtain ⟨x, l⟩ := m
  have hlen := Tr.len_size (x := x) (l := l)
  by_cases c36 : x.k = 36; rotate_left
  · rw [show b52 (.mk x l) = m8 x 12 by unfold b52; exact if_pos c36]
    unfold m8
    clear hde
    refine d7 Tryz.func14 rfl rfl (Nat.le_of_ble_eq_true rfl) ?_
    repeat (first | refine b9 ?_ | refine b6 ?_ | refine a6 ?_ | refine b5 ?_ | refine e7 rfl ?_ | refine d9 rfl ?_ | ((first | refine b8 (fun K hK => ?_) | refine d3 e9 (fun K hK => ?_) | fail); simp -implicitDefEqProofs [c36]; first | refine hK _ ?_ | refine hK _ _ (by rfl) ?_ | fail) | fail)
    refine d6 (d4 ?_); simp -implicitDefEqProofs [f9, f6, f7] <;> try rfl
  obtain ⟨F, hF⟩ : ∃ F, b52 (.mk x l) = F := ⟨_, rfl⟩
  rw [hF]
  have hF2 : (match (w8 (.mk x l) 0 l).find? (fun g => !decide (g.er = 0)) with
    | some g => ⟨z0T, g.pl, g.er⟩
    | none => ⟨.mk ⟨x.k, x.n, ⟨#[]⟩, 0, 0⟩ ((w8 (.mk x l) 0 l).map GR.t), 0, 0⟩ : GR) = F := by
    rw [← hF]
    unfold b52
    exact (if_neg (fun h => h c36)).symm
  obtain ⟨P, hP⟩ : ∃ P, w8 (.mk x l) 0 l = P := ⟨_, rfl⟩
  have hPg : ∀ (k : Nat) y, l[k]? = some y → P[k]? = some (a2n (.mk x l) k y) := fun k y hy => by
    rw [← hP, a8s, hy, Nat.zero_add]; rfl
  have hPl : P.length = l.length := by rw [← hP, a8t]
  rw [hP] at hF2
  have hat : ∀ (k : Nat) y, l[k]? = some y → ¬ (a2n (.mk x l) k y).er = 0 → (∀ g ∈ P.take k, g.er = 0) → F = ⟨z0T, (a2n (.mk x l) k y).pl, (a2n (.mk x l) k y).er⟩ := by
    intro k y hy he hno
    rw [← hF2, a2y (k := k) (hPg k y hy) (by simpa using he) (fun g hg => by simpa using hno g hg)]
  obtain ⟨Q, hQ⟩ : ∃ Q : List VT, P.map GR.t = Q := ⟨_, rfl⟩
  have hend : (∀ g ∈ P, g.er = 0) → F = ⟨.mk ⟨x.k, x.n, ⟨#[]⟩, 0, 0⟩ Q, 0, 0⟩ := by
    intro hno
    rw [← hF2, List.find?_eq_none.2 (fun g hg => by simpa using hno g hg), ← hQ]
  have hQl : Q.length = l.length := by rw [← hQ, List.length_map, hPl]
  have hQk : ∀ (k : Nat) y, l[k]? = some y → Q.take (k + 1) = Q.take k ++ [(a2n (.mk x l) k y).t] := fun k y h => by
    rw [List.take_add_one, ← hQ, List.getElem?_map, hPg k y h]; rfl
  have hPk : ∀ (k : Nat) y, l[k]? = some y → P.take (k + 1) = P.take k ++ [a2n (.mk x l) k y] := fun k y h => by
    rw [List.take_add_one, hPg k y h]; rfl
  clear hF hF2 hP hQ hPg
  refine d7 Tryz.func14 rfl rfl (Nat.le_of_ble_eq_true rfl) ?_
  repeat (first | refine b9 ?_ | refine b6 ?_ | refine a6 ?_ | refine b5 ?_ | refine e7 rfl ?_ | refine d9 rfl ?_ | ((first | refine b8 (fun K hK => ?_) | refine d3 e9 (fun K hK => ?_) | fail); simp -implicitDefEqProofs [c36]; first | refine hK _ ?_ | refine hK _ _ (by rfl) ?_ | fail) | fail)
  refine m6 (ι := Nat) (fun k => x5 [(1, .v (.c (.ptr 0 0))), (2, .v (.c (.ptr 1 0))), (5, .v (.c (.ptr 2 0))), (6, vI (k : Nat))] [some (.box (ta (.mk x l))), some (.box (ta z0T)), some (.box [.pv (I x.k), .pv (I x.n), .pv (Sx ⟨#[]⟩), .row 3 6 ((Q.take k).map tc), .pv (I 0), .pv (I 0)]), some (.row 24 6)]) (fun k => k ≤ l.length ∧ ∀ g ∈ P.take k, g.er = 0) (fun k => l.length - k) 0 ⟨Nat.zero_le _, by simp⟩ (e8 [0, 1, 13, 11] (by simp -implicitDefEqProofs [c36]) (by simp -implicitDefEqProofs [c36]) (by decide) rfl (by simp)) (fun Z hI k hk => ?_)
  obtain ⟨hk, hz⟩ := hk
  by_cases hkl : k < l.length; rotate_left
  · have : k = l.length := by omega
    subst this
    rw [List.take_of_length_le (by omega)] at hz
    have hF := hend hz
    subst hF
    have e2 : Q.take l.length = Q := List.take_of_length_le (by omega)
    rw [e2]
    clear hat hend hPk hQk hde
    repeat (first | refine b9 ?_ | refine b6 ?_ | refine a6 ?_ | refine b5 ?_ | refine e7 rfl ?_ | refine d9 rfl ?_ | ((first | refine b8 (fun K hK => ?_) | refine d3 e9 (fun K hK => ?_) | fail); simp -implicitDefEqProofs; first | refine hK _ ?_ | refine hK _ _ (by rfl) ?_ | fail) | fail)
    refine d6 (d4 ?_); simp -implicitDefEqProofs [f9, f6, f7] <;> try rfl
  obtain ⟨y, ha⟩ : ∃ a, l[k]? = some a := ⟨_, List.getElem?_eq_getElem hkl⟩
  have hc := hde k y ha
  have w2 : IntKind.i64.wrap ((k : Nat) + 1 : Int) = (k : Nat) + 1 := l4 _ (by omega) (by omega)
  have hs := hQk k _ ha
  have hpk := hPk k _ ha
  have hto := hat k y ha
  have hQkl : (Q.take k).length = k := by rw [List.length_take]; omega
  obtain ⟨QK, hQK⟩ : ∃ QK, Q.take k = QK := ⟨_, rfl⟩
  obtain ⟨⟨⟨bx, bl⟩, gp, ge⟩, hG⟩ : ∃ g, a2n (.mk x l) k y = g := ⟨_, rfl⟩
  rw [hG] at hc hs hpk hto
  rw [hQK] at hs hQkl ⊢
  clear hG hQK hat hend hPk hQk hde
  have b1 : (k + 1) * 72 ≤ 140737488355328 := by omega
  have b2 : k + 1 ≤ 140737488355328 := by omega
  by_cases he : ge = 0
  · subst he
    repeat' (first | refine b9 ?_ | refine b6 ?_ | refine a6 ?_ | refine b5 ?_ | refine e7 rfl ?_ | refine d9 rfl ?_ | ((first | refine b8 (fun K hK => ?_) | refine d3 e9 (fun K hK => ?_) | refine b7 (cp hc ?_) | refine a8 (dp hc ?_) | fail); simp -implicitDefEqProofs [hkl, hQkl, b1, b2, w2]) | refine hK _ ?_ | refine hK _ _ (by rfl) ?_ | fail)
    refine ⟨k + 1, ⟨by omega, fun g hg => ?_⟩, (by dsimp only; omega), ?_⟩
    · rw [hpk] at hg
      rcases List.mem_append.1 hg with hg | hg
      · exact hz g hg
      · simp at hg; subst hg; rfl
    · rw [hI, hs]; exact e8 [0, 1, 2, 29] (by simp -implicitDefEqProofs) (by simp -implicitDefEqProofs) (by decide) rfl (by simp)
  · have hF := hto he hz
    subst hF
    repeat' (first | refine b9 ?_ | refine b6 ?_ | refine a6 ?_ | refine b5 ?_ | refine e7 rfl ?_ | refine d9 rfl ?_ | ((first | refine b8 (fun K hK => ?_) | refine d3 e9 (fun K hK => ?_) | refine b7 (cp hc ?_) | refine a8 (dp hc ?_) | fail); simp -implicitDefEqProofs [hkl, he]) | refine hK _ ?_ | refine hK _ _ (by rfl) ?_ | fail)
    refine d6 (d4 ?_); simp -implicitDefEqProofs [f9, f6, f7] <;> try rfl
theorem b7d (m : VT) (i : Nat) (t : VT) : (a2n m i t).t.size ≤ t.size := by
  have hn : (l3 t).size ≤ t.size := by rw [a2d]; exact Nat.le_refl _
  obtain ⟨x, l⟩ := t
  unfold a2n
  rw [Tr.lab, Tr.kids]
  split
  · unfold fnT
    split
    · exact l6 _ _ _
    · rename_i hno
      split
      · exact l6 _ _ _
      · split
        · exact l6 _ _ _
        · have h3 : l.length = 3 := Classical.byContradiction fun h => hno (.inr (.inl h))
          obtain ⟨a, b, c, rfl⟩ := a3z h3
          rw [show [a, b, c].getD 0 z0T = a from rfl, show [a, b, c].getD 1 z0T = b from rfl, show [a, b, c].getD 2 z0T = c from rfl]
          have hs := b9e m b c (p8 (.mk x [a, b, c]))
          split
          · rw [Tr.size_mk, Tr.size_mk]
            simp only [List.map_cons, List.map_nil, List.sum_cons, List.sum_nil, a2d]
            omega
          · have := v8 (x := x) (l := [a, b, c]) (y := c) (by simp)
            omega
  · split
    · split
      · exact l6 _ _ _
      · split
        · exact l6 _ _ _
        · exact hn
    · split
      · split
        · exact l6 _ _ _
        · exact hn
      · split
        · exact l6 _ _ _
        · exact hn
theorem a5z (m : VT) : ∀ (l : List VT) (i : Nat), (((w8 m i l).map GR.t).map Tr.size).sum ≤ (l.map Tr.size).sum
  | [], i => by simp [w8]
  | y :: r, i => by
    rw [w8]
    simp only [List.map_cons, List.sum_cons]
    have h1 := b7d m i y
    have h2 := a5z m r (i + 1)
    omega
theorem b8b (m : VT) : (b52 m).t.size ≤ m.size := by
  unfold b52
  split
  · exact l6 _ _ _
  · split
    · show z0T.size ≤ _
      have := Tr.size_pos m
      rw [show z0T.size = 1 by simp [Tr.size_mk]]; exact this
    · show (Tr.mk _ _).size ≤ _
      obtain ⟨x, l⟩ := m
      rw [Tr.size_mk, Tr.size_mk]
      exact Nat.add_le_add_left (a5z _ l 0) 1
theorem b8w (t : VT) : t.size ≤ 1000000 → ∀ u : VT, u.size ≤ 1000000 → Row Tryz.prog 15 [vT t, vT u] [] (vB (b55 t u)) [] := by
  induction t using Tr.ind with
  | h x l ih =>
  intro hsz u hsu
  obtain ⟨y, m⟩ := u
  have hlen := Tr.len_size (x := x) (l := l)
  rw [show b55 (.mk x l) (.mk y m) = _ from a1m pP x y l m]
  refine d7 Tryz.func15 rfl rfl (Nat.le_of_ble_eq_true rfl) ?_
  by_cases hk : x.k = y.k; rotate_left
  · repeat (first | refine b9 ?_ | refine b6 ?_ | refine a6 ?_ | refine b5 ?_ | refine d8 rfl (fun _ => ?_) (fun hb => absurd hb (by decide)) | refine d8 rfl (fun hb => absurd hb (by decide)) (fun _ => ?_) | (refine b8 (fun K hK => ?_); simp -implicitDefEqProofs [hk]; refine hK _ ?_) | (refine d3 e9 (fun K hK => ?_); simp -implicitDefEqProofs [hk]; refine hK _ _ (by rfl) ?_) | fail)
    refine d6 (d4 ?_); simp -implicitDefEqProofs [f9, f6, f7, hk, pP] <;> try rfl
  by_cases hn : x.n = y.n; rotate_left
  · repeat (first | refine b9 ?_ | refine b6 ?_ | refine a6 ?_ | refine b5 ?_ | refine d8 rfl (fun _ => ?_) (fun hb => absurd hb (by decide)) | refine d8 rfl (fun hb => absurd hb (by decide)) (fun _ => ?_) | (refine b8 (fun K hK => ?_); simp -implicitDefEqProofs [hk, hn]; refine hK _ ?_) | (refine d3 e9 (fun K hK => ?_); simp -implicitDefEqProofs [hk, hn]; refine hK _ _ (by rfl) ?_) | fail)
    refine d6 (d4 ?_); simp -implicitDefEqProofs [f9, f6, f7, hk, hn, pP] <;> try rfl
  by_cases hs : x.s = y.s; rotate_left
  · repeat (first | refine b9 ?_ | refine b6 ?_ | refine a6 ?_ | refine b5 ?_ | refine d8 rfl (fun _ => ?_) (fun hb => absurd hb (by decide)) | refine d8 rfl (fun hb => absurd hb (by decide)) (fun _ => ?_) | (refine b8 (fun K hK => ?_); simp -implicitDefEqProofs [hk, hn, hs]; refine hK _ ?_) | (refine d3 e9 (fun K hK => ?_); simp -implicitDefEqProofs [hk, hn, hs]; refine hK _ _ (by rfl) ?_) | fail)
    refine d6 (d4 ?_); simp -implicitDefEqProofs [f9, f6, f7, hk, hn, hs, pP] <;> try rfl
  by_cases hf : x.f = y.f; rotate_left
  · repeat (first | refine b9 ?_ | refine b6 ?_ | refine a6 ?_ | refine b5 ?_ | refine d8 rfl (fun _ => ?_) (fun hb => absurd hb (by decide)) | refine d8 rfl (fun hb => absurd hb (by decide)) (fun _ => ?_) | (refine b8 (fun K hK => ?_); simp -implicitDefEqProofs [hk, hn, hs, hf]; refine hK _ ?_) | (refine d3 e9 (fun K hK => ?_); simp -implicitDefEqProofs [hk, hn, hs, hf]; refine hK _ _ (by rfl) ?_) | fail)
    refine d6 (d4 ?_); simp -implicitDefEqProofs [f9, f6, f7, hk, hn, hs, hf, pP] <;> try rfl
  by_cases ht : x.t = y.t; rotate_left
  · repeat (first | refine b9 ?_ | refine b6 ?_ | refine a6 ?_ | refine b5 ?_ | refine d8 rfl (fun _ => ?_) (fun hb => absurd hb (by decide)) | refine d8 rfl (fun hb => absurd hb (by decide)) (fun _ => ?_) | (refine b8 (fun K hK => ?_); simp -implicitDefEqProofs [hk, hn, hs, hf, ht]; refine hK _ ?_) | (refine d3 e9 (fun K hK => ?_); simp -implicitDefEqProofs [hk, hn, hs, hf, ht]; refine hK _ _ (by rfl) ?_) | fail)
    refine d6 (d4 ?_); simp -implicitDefEqProofs [f9, f6, f7, hk, hn, hs, hf, ht, pP] <;> try rfl
  by_cases hm : l.length = m.length; rotate_left
  · have hm' : ¬ (l.length : Int) = (m.length : Int) := by omega
    repeat (first | refine b9 ?_ | refine b6 ?_ | refine a6 ?_ | refine b5 ?_ | refine d8 rfl (fun _ => ?_) (fun hb => absurd hb (by decide)) | refine d8 rfl (fun hb => absurd hb (by decide)) (fun _ => ?_) | (refine b8 (fun K hK => ?_); simp -implicitDefEqProofs [hk, hn, hs, hf, ht, hm, hm']; refine hK _ ?_) | (refine d3 e9 (fun K hK => ?_); simp -implicitDefEqProofs [hk, hn, hs, hf, ht, hm, hm']; refine hK _ _ (by rfl) ?_) | fail)
    refine d6 (d4 ?_); simp -implicitDefEqProofs [f9, f6, f7, hk, hn, hs, hf, ht, hm, pP] <;> try rfl
  repeat (first | refine b9 ?_ | refine b6 ?_ | refine a6 ?_ | refine b5 ?_ | refine d8 rfl (fun _ => ?_) (fun hb => absurd hb (by decide)) | refine d8 rfl (fun hb => absurd hb (by decide)) (fun _ => ?_) | (refine b8 (fun K hK => ?_); simp -implicitDefEqProofs [hk, hn, hs, hf, ht, hm]; refine hK _ ?_) | (refine d3 e9 (fun K hK => ?_); simp -implicitDefEqProofs [hk, hn, hs, hf, ht, hm]; refine hK _ _ (by rfl) ?_) | fail)
  refine m6 (ι := Nat) (fun k => x5 [(2, .v (.c (.ptr 0 0))), (3, .v (.c (.ptr 1 0))), (5, vI (k : Nat))] [some (.box (ta (.mk x l))), some (.box (ta (.mk y m)))]) (fun k => k ≤ l.length ∧ a1j (eqv pP) l m k = true) (fun k => l.length - k) 0 ⟨Nat.zero_le _, a5d _ _ _⟩ (e8 [0, 1] (by simp -implicitDefEqProofs [hk, hn, hs, hf, ht, hm]) (by simp -implicitDefEqProofs [hk, hn, hs, hf, ht, hm]) (by decide) rfl (by simp)) (fun Z hI k hkz => ?_)
  obtain ⟨hkl', hz⟩ := hkz
  by_cases hkl : k < l.length; rotate_left
  · have : k = l.length := by omega
    subst this
    rw [show (pP x y && decide (l.length = m.length) && a1j (eqv pP) l m l.length) = true by rw [hz]; simp [pP, hk, hn, hs, hf, ht, hm]]
    repeat (first | refine b9 ?_ | refine b6 ?_ | refine a6 ?_ | refine b5 ?_ | refine d8 rfl (fun _ => ?_) (fun hb => absurd hb (by decide)) | refine d8 rfl (fun hb => absurd hb (by decide)) (fun _ => ?_) | (refine b8 (fun K hK => ?_); simp -implicitDefEqProofs; refine hK _ ?_) | (refine d3 e9 (fun K hK => ?_); simp -implicitDefEqProofs; refine hK _ _ (by rfl) ?_) | fail)
    refine d6 (d4 ?_); simp -implicitDefEqProofs [f9, f6, f7] <;> try rfl
  have hkm : k < m.length := by omega
  obtain ⟨⟨ax, al⟩, ha⟩ : ∃ a, l[k]? = some a := ⟨_, List.getElem?_eq_getElem hkl⟩
  obtain ⟨⟨bx, bl⟩, hb⟩ : ∃ a, m[k]? = some a := ⟨_, List.getElem?_eq_getElem hkm⟩
  have ha' := (List.getElem?_eq_some_iff.1 ha).2
  have hb' := (List.getElem?_eq_some_iff.1 hb).2
  have hsz1 := Tr.size_at (x := x) ha
  have hsz2 := Tr.size_at (x := y) hb
  have w2 : IntKind.i64.wrap ((k : Nat) + 1 : Int) = (k : Nat) + 1 := l4 _ (by omega) (by omega)
  have hzs := y8 (f := eqv pP) ha hb
  repeat (first | refine b9 ?_ | refine b6 ?_ | refine a6 ?_ | refine b5 ?_ | refine d8 rfl (fun _ => ?_) (fun hb => absurd hb (by decide)) | refine d8 rfl (fun hb => absurd hb (by decide)) (fun _ => ?_) | (refine b8 (fun K hK => ?_); simp -implicitDefEqProofs [hkl]; refine hK _ ?_) | (refine d3 e9 (fun K hK => ?_); simp -implicitDefEqProofs [hkl]; refine hK _ _ (by rfl) ?_) | fail)
  refine d3 e9 (fun K hK => ?_); simp -implicitDefEqProofs [hkl, hkm, ha, ha', hb, hb']
  refine a8 (a09 (ih _ (List.mem_of_getElem? ha) (by omega) (.mk bx bl) (by omega)) (by simp) (fun _ => rfl) rfl ?_)
  simp -implicitDefEqProofs
  refine hK _ _ (by rfl) ?_
  refine d8 rfl (fun hb => ?_) (fun hb => ?_)
  · have hf : b55 (.mk ax al) (.mk bx bl) = false := by simpa using hb
    repeat (first | refine b9 ?_ | refine b6 ?_ | refine a6 ?_ | refine b5 ?_ | refine d8 rfl (fun _ => ?_) (fun hb => absurd hb (by decide)) | refine d8 rfl (fun hb => absurd hb (by decide)) (fun _ => ?_) | (refine b8 (fun K hK => ?_); simp -implicitDefEqProofs; refine hK _ ?_) | (refine d3 e9 (fun K hK => ?_); simp -implicitDefEqProofs; refine hK _ _ (by rfl) ?_) | fail)
    have e : a1j (eqv pP) l m l.length = false := by
      have := a5c (l.length - (k + 1)) (show a1j (eqv pP) l m (k + 1) = false by rw [hzs, hz]; simpa using hf)
      rwa [show k + 1 + (l.length - (k + 1)) = l.length by omega] at this
    refine d6 (d4 ?_); simp -implicitDefEqProofs [f9, f6, f7, e] <;> try rfl
  · have hf : b55 (.mk ax al) (.mk bx bl) = true := by simpa using hb
    repeat (first | refine b9 ?_ | refine b6 ?_ | refine a6 ?_ | refine b5 ?_ | refine d8 rfl (fun _ => ?_) (fun hb => absurd hb (by decide)) | refine d8 rfl (fun hb => absurd hb (by decide)) (fun _ => ?_) | (refine b8 (fun K hK => ?_); simp -implicitDefEqProofs [w2]; refine hK _ ?_) | (refine d3 e9 (fun K hK => ?_); simp -implicitDefEqProofs [w2]; refine hK _ _ (by rfl) ?_) | fail)
    refine ⟨k + 1, ⟨by omega, by rw [hzs, hz]; simpa using hf⟩, (by dsimp only; omega), ?_⟩
    rw [hI]; exact e8 [0, 1] (by simp -implicitDefEqProofs) (by simp -implicitDefEqProofs) (by decide) rfl (by simp)
noncomputable def c0f (m : VT) : Bool := decide ((b52 m).er = 0) && b55 (b52 m).t m
theorem b5c (m : VT) (hm : m7 m) (hms : m.size ≤ 100000) : Row Tryz.prog 5 [vT m] [] (vB (c0f m)) [] := by
  have hmo := b1q m hm hms
  have hpl := b8w (b52 m).t (by have := b8b m; omega) m (by omega)
  unfold c0f
  obtain ⟨⟨⟨ax, al⟩, gp, ge⟩, hG⟩ : ∃ g, b52 m = g := ⟨_, rfl⟩
  rw [hG] at hmo hpl ⊢
  dsimp only at hpl ⊢
  obtain ⟨q, hq⟩ : ∃ q, b55 (.mk ax al) m = q := ⟨_, rfl⟩
  rw [hq] at hpl ⊢
  clear hG hq
  obtain ⟨x, l⟩ := m
  by_cases he : ge = 0
  · subst he
    refine d7 Tryz.func5 rfl rfl (Nat.le_of_ble_eq_true rfl) ?_
    repeat' (first | refine b9 ?_ | refine b6 ?_ | refine a6 ?_ | refine b5 ?_ | refine d8 rfl (fun _ => ?_) (fun hb => absurd hb (by decide)) | refine d8 rfl (fun hb => absurd hb (by decide)) (fun _ => ?_) | (refine b8 (fun K hK => ?_); simp -implicitDefEqProofs) | (refine d3 e9 (fun K hK => ?_); simp -implicitDefEqProofs) | refine hK _ ?_ | refine hK _ _ (by rfl) ?_ | (refine b7 (cp hmo ?_); simp -implicitDefEqProofs) | (refine a8 (dp hmo ?_); simp -implicitDefEqProofs) | (refine b7 (cp hpl ?_); simp -implicitDefEqProofs) | (refine a8 (dp hpl ?_); simp -implicitDefEqProofs) | fail)
    refine d6 (d4 ?_); simp -implicitDefEqProofs [f9, f6, f7] <;> try rfl
  · refine d7 Tryz.func5 rfl rfl (Nat.le_of_ble_eq_true rfl) ?_
    repeat' (first | refine b9 ?_ | refine b6 ?_ | refine a6 ?_ | refine b5 ?_ | refine d8 rfl (fun _ => ?_) (fun hb => absurd hb (by decide)) | refine d8 rfl (fun hb => absurd hb (by decide)) (fun _ => ?_) | (refine b8 (fun K hK => ?_); simp -implicitDefEqProofs [he]) | (refine d3 e9 (fun K hK => ?_); simp -implicitDefEqProofs [he]) | refine hK _ ?_ | refine hK _ _ (by rfl) ?_ | (refine b7 (cp hmo ?_); simp -implicitDefEqProofs [he]) | (refine a8 (dp hmo ?_); simp -implicitDefEqProofs [he]) | (refine b7 (cp hpl ?_); simp -implicitDefEqProofs [he]) | (refine a8 (dp hpl ?_); simp -implicitDefEqProofs [he]) | fail)
    refine d6 (d4 ?_); simp -implicitDefEqProofs [f9, f6, f7, he] <;> try rfl
theorem a65 (m : VT) : ∀ (l : List VT) (i : Nat), (w8 m i l).find? (fun g => !decide (g.er = 0)) = none ↔ ∀ (k : Nat) d, l[k]? = some d → (a2n m (i + k) d).er = 0
  | [], i => by unfold w8; simp
  | t :: r, i => by
    unfold w8
    rw [List.find?_cons]
    by_cases h : (a2n m i t).er = 0
    · simp only [h, decide_true, Bool.not_true]
      rw [a65 m r (i + 1)]
      constructor
      · intro g k d hd
        cases k with
        | zero => cases hd; exact h
        | succ k => rw [show i + (k + 1) = i + 1 + k by omega]; exact g k d hd
      · intro g k d hd
        rw [show i + 1 + k = i + (k + 1) by omega]; exact g (k + 1) d hd
    · simp only [h, decide_false, Bool.not_false]
      constructor
      · intro g; cases g
      · intro g; exact absurd (g 0 t rfl) h
theorem b00 (m : VT) : ∀ (l : List VT) (i k : Nat), (w8 m i l)[k]? = (l[k]?).map (a2n m (i + k))
  | [], i, k => by unfold w8; simp
  | t :: r, i, 0 => by unfold w8; rfl
  | t :: r, i, k + 1 => by
    unfold w8
    rw [List.getElem?_cons_succ, List.getElem?_cons_succ, b00 m r (i + 1) k, show i + 1 + k = i + (k + 1) by omega]
theorem b37 (f : VT → VT → Bool) : ∀ (a b : List VT), a.length = b.length → (a1j f a b a.length = true ↔ ∀ (k : Nat) u v, a[k]? = some u → b[k]? = some v → f u v = true) := by
  intro a b hab
  unfold a1j
  rw [List.all_eq_true]
  constructor
  · intro h k u v hu hv
    refine h (u, v) (List.mem_of_getElem? (i := k) ?_)
    rw [List.getElem?_take_of_lt (List.getElem?_eq_some_iff.1 hu).1]
    exact List.getElem?_zip_eq_some.2 ⟨hu, hv⟩
  · intro h q hq
    obtain ⟨i, hi⟩ := List.mem_iff_getElem?.1 (List.mem_of_mem_take hq)
    obtain ⟨g1, g2⟩ := List.getElem?_zip_eq_some.1 hi
    exact h i q.1 q.2 g1 g2
theorem c52 (X : Lab) (A : List VT) (m : VT) (h : A.length = m.kids.length) : b55 (.mk X A) m = (pP X m.lab && a1j b55 A m.kids A.length) := by
  obtain ⟨x, l⟩ := m
  unfold b55
  rw [a1m, decide_eq_true (show A.length = l.length from h), Bool.and_true]
  rfl
theorem b3j (m : VT) : c0f m = true ↔ m.lab.k = 36 ∧ pP ⟨m.lab.k, m.lab.n, ⟨#[]⟩, 0, 0⟩ m.lab = true ∧ ∀ (i : Nat) d, m.kids[i]? = some d → (a2n m i d).er = 0 ∧ b55 (a2n m i d).t d = true := by
  unfold c0f b52
  by_cases hk : m.lab.k = 36; rotate_left
  · rw [if_pos hk]; simp [m8, hk]
  rw [if_neg (show ¬ ¬ m.lab.k = 36 from fun h => h hk)]
  have hlen : ((w8 m 0 m.kids).map GR.t).length = m.kids.length := by
    rw [List.length_map]
    have : ∀ (l : List VT) (i : Nat), (w8 m i l).length = l.length := by
      intro l
      induction l with
      | nil => intro i; rfl
      | cons a r ih => intro i; unfold w8; rw [List.length_cons, List.length_cons, ih]
    exact this _ _
  cases hf : (w8 m 0 m.kids).find? (fun g => !decide (g.er = 0)) with
  | some g =>
    have he := List.find?_some hf
    dsimp only
    simp only [Bool.not_eq_true', decide_eq_false_iff_not] at he
    rw [decide_eq_false he, Bool.false_and]
    constructor
    · intro h; cases h
    · intro h
      have := (a65 m m.kids 0).2 (fun k d hd => by rw [Nat.zero_add]; exact (h.2.2 k d hd).1)
      rw [hf] at this; cases this
  | none =>
    have h0 := (a65 m m.kids 0).1 hf
    dsimp only
    show (true && _) = true ↔ _
    rw [Bool.true_and]
    have hz := b37 b55 ((w8 m 0 m.kids).map GR.t) m.kids hlen
    rw [c52 _ _ _ hlen, Bool.and_eq_true, hz]
    constructor
    · intro h
      refine ⟨hk, h.1, fun i d hd => ⟨by have := h0 i d hd; rwa [Nat.zero_add] at this, h.2 i _ d ?_ hd⟩⟩
      rw [List.getElem?_map, b00, hd, Nat.zero_add]; rfl
    · intro h
      refine ⟨h.2.1, fun k u v hu hv => ?_⟩
      rw [List.getElem?_map, b00, hv, Nat.zero_add] at hu
      cases hu
      exact (h.2.2 k v hv).2
theorem c54 (t : VT) : ∀ u, b55 t u = true → t = u := by
  induction t using Tr.ind with
  | h x l ih =>
  intro u h
  obtain ⟨y, m⟩ := u
  have h : eqv pP (.mk x l) (.mk y m) = true := h
  rw [a1m, Bool.and_eq_true, Bool.and_eq_true] at h
  obtain ⟨⟨h1, h2⟩, h3⟩ := h
  have hl : l.length = m.length := of_decide_eq_true h2
  have hz := (b37 (eqv pP) l m hl).1 h3
  have e : l = m := List.ext_getElem? fun i => by
    cases hi : l[i]? with
    | none =>
      have := List.getElem?_eq_none_iff.1 hi
      exact (List.getElem?_eq_none_iff.2 (by omega)).symm
    | some a =>
      have hlt := (List.getElem?_eq_some_iff.1 hi).1
      obtain ⟨b, hb⟩ : ∃ b, m[i]? = some b := ⟨_, List.getElem?_eq_getElem (by omega)⟩
      rw [hb, ih a (List.mem_of_getElem? hi) b (hz i a b hi hb)]
  obtain ⟨k, n, s, f, t⟩ := x
  obtain ⟨k', n', s', f', t'⟩ := y
  simp only [pP, Bool.and_eq_true, decide_eq_true_eq] at h1
  obtain ⟨⟨⟨⟨rfl, rfl⟩, rfl⟩, rfl⟩, rfl⟩ := h1
  rw [e]
theorem b64 (m ret : VT) {x : Lab} : ∀ (l L acc : List VT), (∀ y ∈ l, ∀ L', (a0k m ret y L').er = 0 → l3 (a0k m ret y L').t = (a0k m ret y L').t) → (∀ y ∈ acc, l3 y = y) → (a2u m ret x l L acc).er = 0 → l3 (a2u m ret x l L acc).t = (a2u m ret x l L acc).t
  | [], L, acc, _, ha, _ => a9b ha
  | z :: l, L, acc, hl, ha, h => by
    unfold a2u at h ⊢
    split at h
    · rename_i h1
      rw [if_pos h1]
      refine b64 m ret l _ _ (fun y hy => hl y (by simp [hy])) (fun y hy => ?_) h
      rcases List.mem_append.1 hy with hy | hy
      · exact ha y hy
      · rw [List.mem_singleton] at hy; subst hy; exact hl z (by simp) _ h1
    · rename_i h1
      exact absurd h h1
theorem b1j {m : VT} {L : List VT} {t : VT} {a b : Int} (h : (b0f m L t a b).er = 0) : l3 (b0f m L t a b).t = (b0f m L t a b).t := by
  have h0 := a1v h
  unfold b0f at h ⊢
  split at h
  · exact absurd h (by simp [m8])
  · rename_i hc
    rw [if_neg hc]
    exact c3r m L t h0
theorem c56 (m ret : VT) (L : List VT) (x : Lab) (i : Nat) (y : VT) (ih : ∀ L', (a0k m ret y L').er = 0 → l3 (a0k m ret y L').t = (a0k m ret y L').t) : (a3w m ret L x i y).er = 0 → l3 (a3w m ret L x i y).t = (a3w m ret L x i y).t := by
  obtain ⟨R, hR⟩ : ∃ R, a3w m ret L x i y = R := ⟨_, rfl⟩
  intro h
  rw [hR] at h ⊢
  unfold a3w c3s at hR
  split at hR
  · subst hR; exact ih _ h
  split at hR
  · split at hR
    · subst hR; exact absurd h (by simp [m8])
    · subst hR; exact b4w y
  split at hR
  · subst hR; exact b1j h
  split at hR
  · subst hR; exact b1j h
  split at hR
  · subst hR; exact b1j h
  split at hR
  · subst hR; exact absurd h (by simp [m8])
  split at hR
  · subst hR; exact absurd h (by simp [m8])
  · subst hR; exact c3r m L y h
theorem b3g (m ret : VT) (L : List VT) (x : Lab) : ∀ (l : List VT) (i : Nat) (g : GR), g ∈ y3 m ret L x i l → ∃ k, ∃ y ∈ l, g = a3w m ret L x k y
  | [], i, g, h => by simp [y3] at h
  | z :: l, i, g, h => by
    unfold y3 at h
    rcases List.mem_cons.1 h with rfl | h
    · exact ⟨i, z, by simp, rfl⟩
    · obtain ⟨k, y, hy, e⟩ := b3g m ret L x l (i + 1) g h
      exact ⟨k, y, by simp [hy], e⟩
theorem c6h (m ret : VT) (t : VT) : ∀ L, (a0k m ret t L).er = 0 → l3 (a0k m ret t L).t = (a0k m ret t L).t := by
  induction t using Tr.ind with
  | h x l ih =>
  intro L h
  obtain ⟨R, hR⟩ : ∃ R, a0k m ret (.mk x l) L = R := ⟨_, rfl⟩
  rw [hR] at h ⊢
  rw [a06] at hR
  split at hR
  · subst hR; exact absurd h (by simp [m8])
  split at hR
  · subst hR
    exact b64 m ret l L [] ih (fun y hy => by cases hy) h
  split at hR
  · rename_i g hg
    subst hR
    have := List.find?_some hg
    simp [h] at this
  · rename_i hg
    unfold endG at hR
    split at hR
    · subst hR; exact absurd h (by simp [m8])
    split at hR
    · subst hR; exact absurd h (by simp [m8])
    · subst hR
      refine a9b (fun y hy => ?_)
      obtain ⟨g, hg2, rfl⟩ := List.mem_map.1 hy
      have h0 := List.find?_eq_none.1 hg _ hg2
      obtain ⟨k, z, hz, rfl⟩ := b3g m ret L x l 0 g hg2
      exact c56 m ret L x k z (ih z hz) (by simpa using h0)
theorem c43 {m : VT} {i : Nat} {d : VT} (h : (a2n m i d).er = 0) : l3 (a2n m i d).t = (a2n m i d).t := by
  obtain ⟨R, hR⟩ : ∃ R, a2n m i d = R := ⟨_, rfl⟩
  rw [hR] at h ⊢
  unfold a2n at hR
  split at hR
  · unfold fnT at hR
    split at hR
    · subst hR; exact absurd h (by simp [m8])
    split at hR
    · subst hR; exact absurd h (by simp [m8])
    split at hR
    · subst hR; exact absurd h (by simp [m8])
    split at hR
    · rename_i hb
      subst hR
      refine a9b (fun y hy => ?_)
      simp only [List.mem_cons, List.not_mem_nil, or_false] at hy
      rcases hy with rfl | rfl | rfl
      · exact b4w _
      · exact b4w _
      · exact c6h m _ _ _ hb
    · rename_i hb
      subst hR
      exact absurd h hb
  split at hR
  · split at hR
    · subst hR; exact absurd h (by simp [m8])
    split at hR
    · subst hR; exact absurd h (by simp [m8])
    · subst hR; exact b4w _
  split at hR
  · split at hR
    · subst hR; exact absurd h (by simp [m8])
    · subst hR; exact b4w _
  split at hR
  · subst hR; exact absurd h (by simp [m8])
  · subst hR; exact b4w _
theorem a9m {m : VT} (hm : c0f m = true) {i : Nat} {d : VT} (hd : m.kids[i]? = some d) : (a2n m i d).er = 0 ∧ l3 d = d := by
  obtain ⟨h1, h2⟩ := ((b3j m).1 hm).2.2 i d hd
  have e := c54 _ _ h2
  have := c43 h1
  rw [e] at this
  exact ⟨h1, this⟩
theorem no7 {t : VT} (h : Tr.all (fun x : Lab => 1 ≤ x.k ∧ x.k ≤ 4) t) : Tr.all (fun x : Lab => x.k ≠ 7) t := a3r (fun x hx => by omega) t h
theorem part7 {m y : VT} (hp : j1 y = true) (h : z7 m (y.kids.getD 0 z0T) ≠ 0) : Tr.all (fun x : Lab => x.k ≠ 7) y := by
  unfold j1 at hp
  rw [Bool.and_eq_true] at hp
  obtain ⟨yx, yl⟩ := y
  have hk34 : yx.k = 34 := of_decide_eq_true hp.1
  have hl1 : yl.length = 1 := of_decide_eq_true hp.2
  obtain ⟨z, rfl⟩ : ∃ z, yl = [z] := List.length_eq_one_iff.1 hl1
  refine (Tr.all_mk _ _ _).2 ⟨by omega, fun w hw => ?_⟩
  rw [List.mem_singleton] at hw
  subst hw
  exact no7 (a16 h)
theorem a82 {m : VT} {i : Nat} {x : Lab} {l : List VT} (hk : x.k = 33) (h : (a2n m i (.mk x l)).er = 0) : ∃ q r b, l = [q, r, b] ∧ q.lab.k = 35 ∧ b.lab.k = 29 ∧ (∀ y ∈ q.kids, j1 y = true) ∧ Tr.all (fun x : Lab => x.k ≠ 7) q ∧ Tr.all (fun x : Lab => x.k ≠ 7) r ∧ (a0k m r b (p8 (.mk x l))).er = 0 := by
  unfold a2n at h
  rw [if_pos (show (Tr.mk x l).lab.k = 33 from hk)] at h
  unfold fnT at h
  rw [show (Tr.mk x l).lab = x from rfl, show (Tr.mk x l).kids = l from rfl] at h
  split at h
  · exact absurd h (by simp [m8])
  rename_i h1
  simp only [not_or, Classical.not_not] at h1
  obtain ⟨_, h3, h35, hp, h29⟩ := h1
  obtain ⟨q, r, b, rfl⟩ : ∃ q r b, l = [q, r, b] := by
    match l, h3 with
    | [q, r, b], _ => exact ⟨q, r, b, rfl⟩
  simp only [List.getD_cons_zero, List.getD_cons_succ] at *
  have hp : b41 q.kids = true := by simpa using hp
  unfold b41 at hp
  have hp := List.all_eq_true.1 hp
  split at h
  · exact absurd h (by simp [m8])
  rename_i hf
  have hf := List.find?_eq_none.1 hf
  split at h
  · exact absurd h (by simp [m8])
  split at h
  · rename_i hb
    refine ⟨q, r, b, rfl, h35, h29, hp, ?_, ?_, hb⟩
    · obtain ⟨qx, ql⟩ := q
      refine (Tr.all_mk _ _ _).2 ⟨by have : qx.k = 35 := h35; omega, fun y hy => ?_⟩
      refine part7 (m := m) (hp y hy) ?_
      have hm : y.kids.getD 0 z0T ∈ p8 (.mk x [.mk qx ql, r, b]) ++ [r] := by
        refine List.mem_append_left _ ?_
        unfold p8
        exact List.mem_map.2 ⟨y, hy, rfl⟩
      have := hf _ hm
      simpa using this
    · have := hf r (by simp)
      exact no7 (a16 (m := m) (by simpa using this))
  · rename_i hb
    exact absurd h hb
theorem dec_no {m : VT} {i : Nat} {x : Lab} {l : List VT} (hi : m.kids[i]? = some (.mk x l)) (hk : ¬ x.k = 33) (h : (a2n m i (.mk x l)).er = 0) : Tr.all (fun x : Lab => x.k ≠ 7) (.mk x l) := by
  unfold a2n at h
  rw [show (Tr.mk x l).lab = x from rfl, show (Tr.mk x l).kids = l from rfl, if_neg hk] at h
  split at h
  · rename_i h30
    split at h
    · exact absurd h (by simp [m8])
    rename_i hs
    have hs : a44 (.mk x l) = true := by simpa using hs
    split at h
    · exact absurd h (by simp [m8])
    rename_i hc
    unfold a44 at hs
    rw [Bool.and_eq_true, Bool.and_eq_true] at hs
    refine (Tr.all_mk _ _ _).2 ⟨by omega, fun y hy => ?_⟩
    have hpb := List.all_eq_true.1 hs.2 y hy
    unfold z7 at hc
    generalize m.kids.length * m.size + Tr.size _ = f at hc
    cases f with
    | zero => exact absurd (by unfold wth; rfl) hc
    | succ f =>
    unfold wth at hc
    rw [show (Tr.mk (⟨4, (i : Int), ⟨#[]⟩, 0, 0⟩ : Lab) ([] : List VT)).lab = ⟨4, (i : Int), ⟨#[]⟩, 0, 0⟩ from rfl, show (Tr.mk (⟨4, (i : Int), ⟨#[]⟩, 0, 0⟩ : Lab) ([] : List VT)).kids = [] from rfl] at hc
    dsimp only at hc
    have hl := (List.getElem?_eq_some_iff.1 hi).1
    have hg : m.kids.getD ((i : Int)).toNat z0T = .mk x l := by simp [List.getD, hi]
    have hs' : a44 (.mk x l) = true := by unfold a44; rw [Bool.and_eq_true, Bool.and_eq_true]; exact hs
    rw [if_neg (by simp), if_neg (by simp), if_neg (by simp; omega), if_neg (by simp), hg, if_pos hs'] at hc
    have hn := b1x hc
    have hw := hn _ (List.mem_map.2 ⟨y, hy, rfl⟩)
    have hw := no7 (b14 _ _ _ _ hw)
    unfold j1 at hpb
    rw [Bool.and_eq_true] at hpb
    obtain ⟨yx, yl⟩ := y
    have hk34 : yx.k = 34 := of_decide_eq_true hpb.1
    have hl1 : yl.length = 1 := of_decide_eq_true hpb.2
    obtain ⟨z, rfl⟩ : ∃ z, yl = [z] := List.length_eq_one_iff.1 hl1
    refine (Tr.all_mk _ _ _).2 ⟨by omega, fun w hw2 => ?_⟩
    rw [List.mem_singleton] at hw2
    subst hw2
    exact hw
  rename_i h30
  split at h
  · rename_i h32
    split at h
    · exact absurd h (by simp [m8])
    rename_i hc
    obtain ⟨y, rfl⟩ := List.length_eq_one_iff.1 h32.2
    refine (Tr.all_mk _ _ _).2 ⟨by omega, fun w hw => ?_⟩
    rw [List.mem_singleton] at hw
    subst hw
    exact no7 (a16 hc)
  split at h
  · exact absurd h (by simp [m8])
  · rename_i h31
    simp only [not_or, Classical.not_not] at h31
    obtain ⟨k31, l1, k0, hlit, _⟩ := h31
    obtain ⟨y, rfl⟩ := List.length_eq_one_iff.1 l1
    refine (Tr.all_mk _ _ _).2 ⟨by omega, fun w hw => ?_⟩
    rw [List.mem_singleton] at hw
    subst hw
    obtain ⟨yx, yl⟩ := w
    rw [List.getD_cons_zero] at k0 hlit
    have : yl = [] := List.length_eq_zero_iff.1 (by show yl.length = 0; have : ¬ 0 < yl.length := k0; omega)
    subst this
    refine (Tr.all_mk _ _ _).2 ⟨fun e => ?_, fun z hz => by cases hz⟩
    apply hlit
    unfold a0u
    rw [show (Tr.mk yx ([] : List VT)).lab.k = 7 from e]
    simp
    rfl
noncomputable def ldD (m : VT) : List Nat → List VT
  | i :: j :: r => if (m.kids.getD i z0T).lab.k = 33 ∧ j = 2 then bwT (z6 m) r ((m.kids.getD i z0T).kids.getD 2 z0T) (p8 (m.kids.getD i z0T)) else []
  | _ => []
noncomputable def b8h (f : VT) : List VT := (((f.kids.getD 0 z0T).kids).filter (fun q => decide (0 < q.kids.length))).map (fun q => u9 (q.kids.getD 0 z0T))
noncomputable def ldP (m : VT) : List Nat → List VT
  | i :: j :: r => if (m.kids.getD i z0T).lab.k = 33 ∧ j = 2 then bwT (a01 m) r ((m.kids.getD i z0T).kids.getD 2 z0T) (b8h (m.kids.getD i z0T)) else []
  | _ => []
theorem a2b (m : VT) (i j : Nat) (r : List Nat) : ldD m (i :: j :: r) = if (m.kids.getD i z0T).lab.k = 33 ∧ j = 2 then bwT (z6 m) r ((m.kids.getD i z0T).kids.getD 2 z0T) (p8 (m.kids.getD i z0T)) else [] := rfl
theorem b26 (m : VT) (i j : Nat) (r : List Nat) : ldP m (i :: j :: r) = if (m.kids.getD i z0T).lab.k = 33 ∧ j = 2 then bwT (a01 m) r ((m.kids.getD i z0T).kids.getD 2 z0T) (b8h (m.kids.getD i z0T)) else [] := rfl
theorem a7i {i : Nat} {r : List Nat} {t y : VT} (h : b5z (i :: r) t = some y) : ∃ d, t.kids[i]? = some d ∧ t.kids.getD i z0T = d ∧ b5z r d = some y := by
  unfold b5z at h
  obtain ⟨d, h1, h2⟩ := Option.bind_eq_some_iff.1 h
  exact ⟨d, h1, by simp [List.getD, h1], h2⟩
theorem c5o {m : VT} (hm : c0f m = true) {p : List Nat} {y : VT} (h : b5z p m = some y) : ldP m p = ldD m p := by
  match p, h with
  | [], _ => rfl
  | [i], _ => rfl
  | i :: j :: r, h =>
    obtain ⟨d, h1, h2, h3⟩ := a7i h
    rw [b26, a2b]
    rw [h2]
    obtain ⟨he, hn⟩ := a9m hm h1
    obtain ⟨x, l⟩ := d
    by_cases hk : (Tr.mk x l).lab.k = 33 ∧ j = 2
    · rw [if_pos hk, if_pos hk]
      obtain ⟨q, r', b, rfl, h35, h29, hp, -, -, hst⟩ := a82 hk.1 he
      have hq := a2e hn q (by simp)
      have hb := a2e hn b (by simp)
      have e : b8h (.mk x [q, r', b]) = p8 (.mk x [q, r', b]) := by
        unfold b8h p8
        show (q.kids.filter _).map _ = q.kids.map _
        rw [List.filter_eq_self.2 (fun y hy => by
          have := hp y hy
          unfold j1 at this
          rw [Bool.and_eq_true] at this
          have := of_decide_eq_true this.2
          exact decide_eq_true (by omega))]
        refine List.map_congr_left fun y hy => ?_
        obtain ⟨qx, ql⟩ := q
        have hy2 := a2e hq y hy
        have hp2 := hp y hy
        unfold j1 at hp2
        rw [Bool.and_eq_true] at hp2
        obtain ⟨yx, yl⟩ := y
        obtain ⟨z, rfl⟩ : ∃ z, yl = [z] := List.length_eq_one_iff.1 (of_decide_eq_true hp2.2)
        exact c4y z (a2e hy2 z (by simp))
      rw [e]
      exact b0v m r' r b _ hb hst
    · rw [if_neg hk, if_neg hk]
theorem ld_in {m : VT} (hm : c0f m = true) {p : List Nat} {y : VT} (h : b5z p m = some y) (k7 : y.lab.k = 7) : y.lab.n < (ldD m p).length := by
  match p, h with
  | [], h =>
    obtain rfl := Option.some.inj h
    have := ((b3j m).1 hm).1
    omega
  | i :: r, h =>
    obtain ⟨d, h1, h2, h3⟩ := a7i h
    obtain ⟨he, hn⟩ := a9m hm h1
    obtain ⟨x, l⟩ := d
    by_cases hk : x.k = 33
    · obtain ⟨q, r', b, rfl, h35, h29, hp, hq7, hr7, hst⟩ := a82 hk he
      match r, h3 with
      | [], h3 =>
        obtain rfl := Option.some.inj h3
        have : x.k = 7 := k7
        omega
      | j :: r, h3 =>
        obtain ⟨e, g1, g2, g3⟩ := a7i h3
        have g1 : [q, r', b][j]? = some e := g1
        rw [a2b]
        rw [h2]
        match j, g1 with
        | 0, g1 =>
          obtain rfl := Option.some.inj g1
          exact absurd k7 (a25 r _ y hq7 g3)
        | 1, g1 =>
          obtain rfl := Option.some.inj g1
          exact absurd k7 (a25 r _ y hr7 g3)
        | 2, g1 =>
          obtain rfl := Option.some.inj g1
          rw [if_pos ⟨hk, rfl⟩]
          exact (b68 m r' r _ _ y hst g3 k7).2
        | j + 3, g1 => simp at g1
    · exact absurd k7 (a25 r _ y (dec_no h1 hk he) h3)
end Go.Proofs.YtbbkmijkllgfaaaGreatDoor.am
end
section
namespace Go.Proofs.YtbbkmijkllgfaaaGreatDoor.vt
open Go.Proofs.YtbbkmijkllgfaaaGreatDoor.am
set_option linter.unusedVariables false
structure Tok where
  k : Int
  n : Int
  s : ByteArray
  f : Int
  t : Int
def kc (x : Tok) : List PV := [I x.k, I x.n, Sx x.s, I x.f, I x.t]
abbrev vK (x : Tok) : AV := .v (.agg [.pv (I x.k), .pv (I x.n), .pv (Sx x.s), .pv (I x.f), .pv (I x.t)])
abbrev vKs (l : List Tok) : AV := .v (.c (.pv (.sl 5 (l.map kc))))
def endK : Tok := ⟨5, 0, ⟨#[]⟩, 0, 0⟩
def zK : Tok := ⟨0, 0, ⟨#[]⟩, 0, 0⟩
def nxt (ts : List Tok) (i : Nat) : Tok := match ts[i]? with | some x => x | none => endK
theorem a3v {ts : List Tok} {i : Nat} {x : Tok} (h : ts[i]? = some x) : nxt ts i = x := by unfold nxt; rw [h]
theorem b3b {ts : List Tok} {i : Nat} (h : ts.length ≤ i) : nxt ts i = endK := by unfold nxt; rw [List.getElem?_eq_none h]
abbrev rd (ts : List Tok) (i : Nat) (e : Int) : AO := .box [.pv (.sl 5 (ts.map kc)), .pv (I i), .pv (I e)]
def quo (s : ByteArray) : Int := match s.data.toList with | c :: _ => if 97 ≤ c.toNat ∧ c.toNat ≤ 122 then 3 else 4 | [] => 4
def isK (s : ByteArray) (x : Tok) : Bool := decide (x.k = quo s) && decide (x.s = s)
theorem quo_34 (s : ByteArray) : quo s = 3 ∨ quo s = 4 := by
  unfold quo; split
  · split
    · exact .inl rfl
    · exact .inr rfl
  · exact .inr rfl
theorem c5j (s : ByteArray) : isK s endK = false := by
  unfold isK endK
  rcases quo_34 s with h | h <;> rw [h] <;> rfl
theorem a58 {s : ByteArray} {ts : List Tok} {i : Nat} (h : isK s (nxt ts i) = true) : ∃ x, ts[i]? = some x ∧ isK s x = true := by
  unfold nxt at h
  cases hx : ts[i]? with
  | none => rw [hx] at h; dsimp only at h; rw [c5j] at h; cases h
  | some x => rw [hx] at h; exact ⟨x, rfl, h⟩
def er (e : Int) : Int := if e = 0 then 6 else e
def frT (ts : List Tok) (i : Nat) : Int := (nxt ts i).f
def toT (ts : List Tok) (i : Nat) : Int := (nxt ts i).t
abbrev c0i : ByteArray := ⟨#[105, 110, 116]⟩
abbrev a99 : ByteArray := ⟨#[98, 111, 111, 108]⟩
abbrev b1v : ByteArray := ⟨#[91]⟩
abbrev b1w : ByteArray := ⟨#[93]⟩
def z0 : VT := .mk ⟨0, 0, ⟨#[]⟩, 0, 0⟩ []
def tyG (ts : List Tok) : Nat → Nat → VT × Nat × Int
  | 0, i => (z0, i, 6)
  | n + 1, i =>
    if isK c0i (nxt ts i) = true then (.mk ⟨1, 0, ⟨#[]⟩, frT ts i, toT ts i⟩ [], i + 1, 0)
    else if isK a99 (nxt ts i) = true then (.mk ⟨2, 0, ⟨#[]⟩, frT ts i, toT ts i⟩ [], i + 1, 0)
    else if isK b1v (nxt ts i) = true then
      if (nxt ts (i + 1)).k = 2 then
        if isK b1w (nxt ts (i + 2)) = true then
          if (tyG ts n (i + 3)).2.2 = 0 then (.mk ⟨3, (nxt ts (i + 1)).n, ⟨#[]⟩, frT ts i, toT ts ((tyG ts n (i + 3)).2.1 - 1)⟩ [(tyG ts n (i + 3)).1], (tyG ts n (i + 3)).2.1, 0)
          else tyG ts n (i + 3)
        else (z0, i + 2, 6)
      else (z0, i + 1, 6)
    else if (nxt ts i).k = 1 then (.mk ⟨4, 0, (nxt ts i).s, frT ts i, toT ts i⟩ [], i + 1, 0)
    else (z0, i, 6)
theorem c35 (ts : List Tok) : ∀ n i, ((tyG ts n i).2.2 = 0 → i < (tyG ts n i).2.1 ∧ (tyG ts n i).2.1 ≤ ts.length) ∧ ((tyG ts n i).2.2 ≠ 0 → (tyG ts n i).2.2 = 6 ∧ (tyG ts n i).1 = z0) ∧ (i ≤ ts.length → (tyG ts n i).2.1 ≤ ts.length) ∧ (tyG ts n i).1.size ≤ n + 1 := by
  have hlt : ∀ {s : ByteArray} {i : Nat}, isK s (nxt ts i) = true → i < ts.length := fun {s i} h => by
    obtain ⟨x, h1, _⟩ := a58 h
    exact (List.getElem?_eq_some_iff.1 h1).1
  have hlk : ∀ {k : Int} {i : Nat}, (nxt ts i).k = k → k ≠ 5 → i < ts.length := fun {k i} h hk => by
    rcases Nat.lt_or_ge i ts.length with h1 | h1
    · exact h1
    · rw [b3b h1] at h; exact absurd h.symm hk
  intro n
  induction n with
  | zero => intro i; simp [tyG, z0, Tr.size_mk]
  | succ n ih =>
    intro i
    unfold tyG
    split
    · rename_i h; have := hlt h; simp [Tr.size_mk]; omega
    · split
      · rename_i h; have := hlt h; simp [Tr.size_mk]; omega
      · split
        · rename_i h0
          have h0 := hlt h0
          split
          · rename_i h1
            have h1 := hlk h1 (by omega)
            split
            · rename_i h2
              have h2 := hlt h2
              obtain ⟨a1, a2, a3, a4⟩ := ih (i + 3)
              split
              · rename_i h3
                have := a1 h3
                simp [Tr.size_mk]; omega
              · rename_i h3
                exact ⟨fun h => absurd h h3, fun h => a2 h, fun h => a3 (by omega), by omega⟩
            · simp [z0, Tr.size_mk]; omega
          · simp [z0, Tr.size_mk]; omega
        · split
          · rename_i h; have := hlk h (by omega); simp [Tr.size_mk]; omega
          · simp [z0, Tr.size_mk]
end Go.Proofs.YtbbkmijkllgfaaaGreatDoor.vt
end
