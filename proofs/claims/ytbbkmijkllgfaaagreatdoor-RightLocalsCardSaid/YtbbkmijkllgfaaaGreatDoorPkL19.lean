import Derived.Test.YtbbkmijkllgfaaaGreatDoorPkL18
import Derived.Test.YtbbkmijkllgfaaaGreatDoorPkL15
import Derived.Lib.ParseIntBTie
import Derived.Lib.ItoaMem
import Derived.Test.YtbbkmijkllgfaaaGreatDoorPkL0
import Derived.Laws.Rows
import Derived.Deep.AppendLies
import Derived.Test.YtbbkmijkllgfaaaGreatDoorPkL2
set_option maxRecDepth 100000
set_option maxHeartbeats 4000000
section
namespace Go.Proofs.YtbbkmijkllgfaaaGreatDoor.am
open Go.ChangeShapes Go.WideShapes Go.ChangeAt Go.RowKit
open vt
set_option linter.unusedVariables false
set_option linter.unusedSimpArgs false
theorem td_exrd : td Tryz.prog 167 = some ⟨true, 3, 40, [.nilS, .lit (.int .i64 0), .lit (.int .i64 0)], [(0, 3, true)], .struct⟩ := Eq.trans (by kernel_rfl) (Eq.refl _)
attribute [simp] td_exrd
theorem b9x (ts : List Tok) (i : Nat) (e : Int) (h : e ≠ 0) : Row Tryz.prog 147 [vR] [rd ts i e] (vT z0) [some (rd ts i e)] := by
  have h2 := p7 ts i e
  refine d7 Tryz.func147 rfl rfl (Nat.le_of_ble_eq_true rfl) ?_
  repeat' (first | refine b9 ?_ | refine b6 ?_ | refine a6 ?_ | refine b5 ?_ | refine e7 rfl ?_ | refine d9 rfl ?_ | ((first | refine b8 (fun K hK => ?_) | refine d3 e9 (fun K hK => ?_) | refine b7 (cb h2 0 ?_) | refine a8 (db h2 0 ?_) | fail); simp -implicitDefEqProofs [h]) | refine hK _ ?_ | refine hK _ _ (by rfl) ?_ | fail)
  refine d6 (g7 ?_); simp -implicitDefEqProofs [s9, f6, f7, z0] <;> try rfl
theorem c6x (ts : List Tok) (hl : ts.length ≤ 9223372036854775807) : ∀ n i, ts.length - i < n → i ≤ ts.length → Row Tryz.prog 147 [vR] [rd ts i 0] (vT (tyG ts n i).1) [some (rd ts (tyG ts n i).2.1 (tyG ts n i).2.2)] := by
  intro n
  induction n with
  | zero => intro i h; omega
  | succ n ih =>
  intro i hn hi
  have g0 := p7 ts i 0
  have p0 := a2g ts i 0
  by_cases h1 : isK c0i (nxt ts i) = true
  · rw [c6s h1]
    obtain ⟨x, hx, _⟩ := a58 h1
    have hil := (List.getElem?_eq_some_iff.1 hx).1
    have t1 := a2j ts i c0i (by decide) hl h1
    have n1 := a2f ts (i + 1) i ⟨1, 0, ⟨#[]⟩, 0, 0⟩ [] hil (by omega) (by omega) hl
    rw [Nat.add_sub_cancel] at n1
    refine d7 Tryz.func147 rfl rfl (Nat.le_of_ble_eq_true rfl) ?_
    repeat' (first | refine b9 ?_ | refine b6 ?_ | refine a6 ?_ | refine b5 ?_ | refine e7 rfl ?_ | refine d9 rfl ?_ | ((first | refine b8 (fun K hK => ?_) | refine d3 e9 (fun K hK => ?_) | refine b7 (cb g0 0 ?_) | refine a8 (db g0 0 ?_) | refine b7 (cb p0 0 ?_) | refine a8 (db p0 0 ?_) | refine b7 (cb t1 0 ?_) | refine a8 (db t1 0 ?_) | refine b7 (cb n1 0 ?_) | refine a8 (db n1 0 ?_) | fail); simp -implicitDefEqProofs) | refine hK _ ?_ | refine hK _ _ (by rfl) ?_ | fail)
    refine d6 (g7 ?_); simp -implicitDefEqProofs [s9, f6, f7] <;> try rfl
  have h1 : isK c0i (nxt ts i) = false := by simpa using h1
  have t1 := a48 ts i 0 c0i (by decide) (.inr h1)
  by_cases h2 : isK a99 (nxt ts i) = true
  · rw [c2p h1 h2]
    obtain ⟨x, hx, _⟩ := a58 h2
    have hil := (List.getElem?_eq_some_iff.1 hx).1
    have t2 := a2j ts i a99 (by decide) hl h2
    have n1 := a2f ts (i + 1) i ⟨2, 0, ⟨#[]⟩, 0, 0⟩ [] hil (by omega) (by omega) hl
    rw [Nat.add_sub_cancel] at n1
    refine d7 Tryz.func147 rfl rfl (Nat.le_of_ble_eq_true rfl) ?_
    repeat' (first | refine b9 ?_ | refine b6 ?_ | refine a6 ?_ | refine b5 ?_ | refine e7 rfl ?_ | refine d9 rfl ?_ | ((first | refine b8 (fun K hK => ?_) | refine d3 e9 (fun K hK => ?_) | refine b7 (cb g0 0 ?_) | refine a8 (db g0 0 ?_) | refine b7 (cb p0 0 ?_) | refine a8 (db p0 0 ?_) | refine b7 (cb t1 0 ?_) | refine a8 (db t1 0 ?_) | refine b7 (cb t2 0 ?_) | refine a8 (db t2 0 ?_) | refine b7 (cb n1 0 ?_) | refine a8 (db n1 0 ?_) | fail); simp -implicitDefEqProofs) | refine hK _ ?_ | refine hK _ _ (by rfl) ?_ | fail)
    refine d6 (g7 ?_); simp -implicitDefEqProofs [s9, f6, f7] <;> try rfl
  have h2 : isK a99 (nxt ts i) = false := by simpa using h2
  have t2 := a48 ts i 0 a99 (by decide) (.inr h2)
  by_cases h3 : isK b1v (nxt ts i) = true; rotate_left
  · have h3 : isK b1v (nxt ts i) = false := by simpa using h3
    have t3 := a48 ts i 0 b1v (by decide) (.inr h3)
    rw [c6t h1 h2 h3]
    by_cases h4 : (nxt ts i).k = 1
    · rw [if_pos h4]
      obtain ⟨x, hx, hxn, hxk⟩ := b1a h4 (by omega)
      have hil := (List.getElem?_eq_some_iff.1 hx).1
      have k1 := a7h ts i 1 x hl hx hxk
      have n1 := a2f ts (i + 1) i ⟨4, 0, x.s, 0, 0⟩ [] hil (by omega) (by omega) hl
      rw [Nat.add_sub_cancel] at n1
      rw [hxn]
      clear hxk hx
      refine d7 Tryz.func147 rfl rfl (Nat.le_of_ble_eq_true rfl) ?_
      repeat' (first | refine b9 ?_ | refine b6 ?_ | refine a6 ?_ | refine b5 ?_ | refine e7 rfl ?_ | refine d9 rfl ?_ | ((first | refine b8 (fun K hK => ?_) | refine d3 e9 (fun K hK => ?_) | refine b7 (cb g0 0 ?_) | refine a8 (db g0 0 ?_) | refine b7 (cb p0 0 ?_) | refine a8 (db p0 0 ?_) | refine b7 (cb t1 0 ?_) | refine a8 (db t1 0 ?_) | refine b7 (cb t2 0 ?_) | refine a8 (db t2 0 ?_) | refine b7 (cb t3 0 ?_) | refine a8 (db t3 0 ?_) | refine b7 (cb k1 0 ?_) | refine a8 (db k1 0 ?_) | refine b7 (cb n1 0 ?_) | refine a8 (db n1 0 ?_) | fail); simp -implicitDefEqProofs) | refine hK _ ?_ | refine hK _ _ (by rfl) ?_ | fail)
      refine d6 (g7 ?_); simp -implicitDefEqProofs [s9, f6, f7] <;> try rfl
    · rw [if_neg h4]
      have k1 := a7g ts i 0 1 (.inr h4)
      have n1 := a4o ts i (er 0) (by decide) i (.mk ⟨4, 0, ⟨#[]⟩, 0, 0⟩ [])
      refine d7 Tryz.func147 rfl rfl (Nat.le_of_ble_eq_true rfl) ?_
      repeat' (first | refine b9 ?_ | refine b6 ?_ | refine a6 ?_ | refine b5 ?_ | refine e7 rfl ?_ | refine d9 rfl ?_ | ((first | refine b8 (fun K hK => ?_) | refine d3 e9 (fun K hK => ?_) | refine b7 (cb g0 0 ?_) | refine a8 (db g0 0 ?_) | refine b7 (cb p0 0 ?_) | refine a8 (db p0 0 ?_) | refine b7 (cb t1 0 ?_) | refine a8 (db t1 0 ?_) | refine b7 (cb t2 0 ?_) | refine a8 (db t2 0 ?_) | refine b7 (cb t3 0 ?_) | refine a8 (db t3 0 ?_) | refine b7 (cb k1 0 ?_) | refine a8 (db k1 0 ?_) | refine b7 (cb n1 0 ?_) | refine a8 (db n1 0 ?_) | fail); simp -implicitDefEqProofs [zK]) | refine hK _ ?_ | refine hK _ _ (by rfl) ?_ | fail)
      refine d6 (g7 ?_); simp -implicitDefEqProofs [s9, f6, f7, z0, er] <;> try rfl
  rw [c6r h1 h2 h3]
  obtain ⟨x, hx, _⟩ := a58 h3
  have hil := (List.getElem?_eq_some_iff.1 hx).1
  have t3 := a2j ts i b1v (by decide) hl h3
  by_cases h4 : (nxt ts (i + 1)).k = 2; rotate_left
  · rw [if_neg h4]
    have k1 := a7g ts (i + 1) 0 2 (.inr h4)
    have w1 := a73 ts (i + 1) (er 0) b1w (by decide) (.inl (by decide))
    have y1 := b9x ts (i + 1) (er (er 0)) (by decide)
    have n1 := a4o ts (i + 1) (er (er 0)) (by decide) i (.mk ⟨3, 0, ⟨#[]⟩, 0, 0⟩ [z0])
    simp only [show er (er 0) = 6 from rfl, show er 0 = 6 from rfl] at k1 w1 y1 n1
    unfold z0 at y1 n1
    refine d7 Tryz.func147 rfl rfl (Nat.le_of_ble_eq_true rfl) ?_
    repeat' (first | refine b9 ?_ | refine b6 ?_ | refine a6 ?_ | refine b5 ?_ | refine e7 rfl ?_ | refine d9 rfl ?_ | ((first | refine b8 (fun K hK => ?_) | refine d3 e9 (fun K hK => ?_) | refine b7 (cb g0 0 ?_) | refine a8 (db g0 0 ?_) | refine b7 (cb p0 0 ?_) | refine a8 (db p0 0 ?_) | refine b7 (cb t1 0 ?_) | refine a8 (db t1 0 ?_) | refine b7 (cb t2 0 ?_) | refine a8 (db t2 0 ?_) | refine b7 (cb t3 0 ?_) | refine a8 (db t3 0 ?_) | refine b7 (cb k1 0 ?_) | refine a8 (db k1 0 ?_) | refine b7 (cb w1 0 ?_) | refine a8 (db w1 0 ?_) | refine b7 (cb y1 0 ?_) | refine a8 (db y1 0 ?_) | refine b7 (cb n1 0 ?_) | refine a8 (db n1 0 ?_) | fail); simp -implicitDefEqProofs [zK]) | refine hK _ ?_ | refine hK _ _ (by rfl) ?_ | fail)
    refine d6 (g7 ?_); simp -implicitDefEqProofs [s9, f6, f7, z0] <;> try rfl
  rw [if_pos h4]
  obtain ⟨y, hy, hyn, hyk⟩ := b1a h4 (by omega)
  have hil1 := (List.getElem?_eq_some_iff.1 hy).1
  have k1 := a7h ts (i + 1) 2 y hl hy hyk
  by_cases h5 : isK b1w (nxt ts (i + 2)) = true; rotate_left
  · rw [if_neg h5]
    have h5 : isK b1w (nxt ts (i + 1 + 1)) = false := by simpa using h5
    have w1 := a73 ts (i + 1 + 1) 0 b1w (by decide) (.inr h5)
    have y1 := b9x ts (i + 1 + 1) (er 0) (by decide)
    have n1 := a4o ts (i + 1 + 1) (er 0) (by decide) i (.mk ⟨3, y.n, ⟨#[]⟩, 0, 0⟩ [z0])
    simp only [show er 0 = 6 from rfl] at w1 y1 n1
    unfold z0 at y1 n1
    clear hyk hy hyn
    refine d7 Tryz.func147 rfl rfl (Nat.le_of_ble_eq_true rfl) ?_
    repeat' (first | refine b9 ?_ | refine b6 ?_ | refine a6 ?_ | refine b5 ?_ | refine e7 rfl ?_ | refine d9 rfl ?_ | ((first | refine b8 (fun K hK => ?_) | refine d3 e9 (fun K hK => ?_) | refine b7 (cb g0 0 ?_) | refine a8 (db g0 0 ?_) | refine b7 (cb p0 0 ?_) | refine a8 (db p0 0 ?_) | refine b7 (cb t1 0 ?_) | refine a8 (db t1 0 ?_) | refine b7 (cb t2 0 ?_) | refine a8 (db t2 0 ?_) | refine b7 (cb t3 0 ?_) | refine a8 (db t3 0 ?_) | refine b7 (cb k1 0 ?_) | refine a8 (db k1 0 ?_) | refine b7 (cb w1 0 ?_) | refine a8 (db w1 0 ?_) | refine b7 (cb y1 0 ?_) | refine a8 (db y1 0 ?_) | refine b7 (cb n1 0 ?_) | refine a8 (db n1 0 ?_) | fail); simp -implicitDefEqProofs) | refine hK _ ?_ | refine hK _ _ (by rfl) ?_ | fail)
    refine d6 (g7 ?_); simp -implicitDefEqProofs [s9, f6, f7, z0] <;> try rfl
  rw [if_pos h5, hyn]
  have w1 := b35 ts (i + 1 + 1) b1w (by decide) hl h5
  obtain ⟨z, hz, _⟩ := a58 h5
  have hil2 := (List.getElem?_eq_some_iff.1 hz).1
  have y1 : Row Tryz.prog 147 [vR] [rd ts (i + 1 + 1 + 1) 0] (vT (tyG ts n (i + 3)).1) [some (rd ts (tyG ts n (i + 3)).2.1 (tyG ts n (i + 3)).2.2)] := ih (i + 3) (by omega) (by omega)
  obtain ⟨o1, o2, o3, _⟩ := c35 ts n (i + 3)
  obtain ⟨⟨⟨px, pl⟩, j, e⟩, hr⟩ : ∃ r, tyG ts n (i + 3) = r := ⟨_, rfl⟩
  rw [hr] at y1 o1 o2 o3 ⊢
  dsimp only at o1 o2 o3 y1 ⊢
  clear hr ih hx hy hz hyk hyn
  by_cases he : e = 0
  · subst he
    rw [if_pos rfl]
    obtain ⟨o4, o5⟩ := o1 rfl
    have n1 := a2f ts j i ⟨3, y.n, ⟨#[]⟩, 0, 0⟩ [.mk px pl] hil (by omega) (by omega) hl
    refine d7 Tryz.func147 rfl rfl (Nat.le_of_ble_eq_true rfl) ?_
    repeat' (first | refine b9 ?_ | refine b6 ?_ | refine a6 ?_ | refine b5 ?_ | refine e7 rfl ?_ | refine d9 rfl ?_ | ((first | refine b8 (fun K hK => ?_) | refine d3 e9 (fun K hK => ?_) | refine b7 (cb g0 0 ?_) | refine a8 (db g0 0 ?_) | refine b7 (cb p0 0 ?_) | refine a8 (db p0 0 ?_) | refine b7 (cb t1 0 ?_) | refine a8 (db t1 0 ?_) | refine b7 (cb t2 0 ?_) | refine a8 (db t2 0 ?_) | refine b7 (cb t3 0 ?_) | refine a8 (db t3 0 ?_) | refine b7 (cb k1 0 ?_) | refine a8 (db k1 0 ?_) | refine b7 (cb w1 0 ?_) | refine a8 (db w1 0 ?_) | refine b7 (cb y1 0 ?_) | refine a8 (db y1 0 ?_) | refine b7 (cb n1 0 ?_) | refine a8 (db n1 0 ?_) | fail); simp -implicitDefEqProofs) | refine hK _ ?_ | refine hK _ _ (by rfl) ?_ | fail)
    refine d6 (g7 ?_); simp -implicitDefEqProofs [s9, f6, f7] <;> try rfl
  · rw [if_neg he]
    obtain ⟨o4, o5⟩ := o2 he
    have n1 := a4o ts j e he i (.mk ⟨3, y.n, ⟨#[]⟩, 0, 0⟩ [.mk px pl])
    rw [← o5] at n1
    clear o5 o1 o2 o3
    refine d7 Tryz.func147 rfl rfl (Nat.le_of_ble_eq_true rfl) ?_
    repeat' (first | refine b9 ?_ | refine b6 ?_ | refine a6 ?_ | refine b5 ?_ | refine e7 rfl ?_ | refine d9 rfl ?_ | ((first | refine b8 (fun K hK => ?_) | refine d3 e9 (fun K hK => ?_) | refine b7 (cb g0 0 ?_) | refine a8 (db g0 0 ?_) | refine b7 (cb p0 0 ?_) | refine a8 (db p0 0 ?_) | refine b7 (cb t1 0 ?_) | refine a8 (db t1 0 ?_) | refine b7 (cb t2 0 ?_) | refine a8 (db t2 0 ?_) | refine b7 (cb t3 0 ?_) | refine a8 (db t3 0 ?_) | refine b7 (cb k1 0 ?_) | refine a8 (db k1 0 ?_) | refine b7 (cb w1 0 ?_) | refine a8 (db w1 0 ?_) | refine b7 (cb y1 0 ?_) | refine a8 (db y1 0 ?_) | refine b7 (cb n1 0 ?_) | refine a8 (db n1 0 ?_) | fail); simp -implicitDefEqProofs) | refine hK _ ?_ | refine hK _ _ (by rfl) ?_ | fail)
    refine d6 (g7 ?_); simp -implicitDefEqProofs [s9, f6, f7] <;> try rfl
noncomputable abbrev vT3 (r : VT × Nat × Int) : AV := .tup [.agg (ta r.1), .c (.pv (I (r.2.1 : Nat))), .c (.pv (I r.2.2))]
theorem a7x (r : VT × Nat × Int) (ρ : Nat → Nat) : (vT3 r).ren ρ = vT3 r := by
  show AV.tup [.agg (((tc r.1).map AC.pv).map (AC.ren ρ)), _, _] = _
  rw [b3h]; rfl
abbrev vRd (ts : List Tok) (i : Nat) (e : Int) : AV := .tup [.agg [.pv (.sl 5 (ts.map kc)), .pv (I i), .pv (I 0)], .c (.pv (I e))]
theorem b8d (ts : List Tok) (i : Nat) (h : i ≤ ts.length) : Row Tryz.prog 42 [vKs ts, vI i] [] (vRd ts i 0) [] := by
  have h1 : ¬ (i : Int) < 0 := by omega
  have h2 : ¬ (ts.length : Int) < i := by omega
  have h3 : ¬ ts.length < i := by omega
  refine d7 Tryz.func42 rfl rfl (Nat.le_of_ble_eq_true rfl) ?_
  repeat (first | refine b9 ?_ | refine b6 ?_ | refine a6 ?_ | refine b5 ?_ | refine e7 rfl ?_ | refine d9 rfl ?_ | ((first | refine b8 (fun K hK => ?_) | refine d3 e9 (fun K hK => ?_) | fail); simp -implicitDefEqProofs [h1, h2, h3]; first | refine hK _ ?_ | refine hK _ _ (by rfl) ?_ | fail) | fail)
  refine d6 (d4 ?_); simp -implicitDefEqProofs [f9, f6, f7] <;> try rfl
noncomputable def c48 (r : VT × Nat × Int) : VT × Nat × Int := if r.2.2 = 0 then r else (z0, r.2.1, r.2.2)
theorem b60 (ts : List Tok) (i : Nat) (h : i ≤ ts.length) (g : Nat) (r : VT × Nat × Int) (hr : Row Tryz.prog g [vR] [rd ts i 0] (vT r.1) [some (rd ts r.2.1 r.2.2)]) : Row Tryz.prog 146 [vKs ts, vI i, .v (.c (.fn (.func g) [] []))] [] (vT3 (c48 r)) [] := by
  have h1 := b8d ts i h
  obtain ⟨⟨px, pl⟩, j, e⟩ := r
  have g1 := p7 ts j e
  have p1 := a2g ts j e
  have e1 := c5a ts j e
  dsimp only at hr
  by_cases he : e = 0
  · subst he
    rw [show c48 (.mk px pl, j, 0) = (.mk px pl, j, 0) from if_pos rfl]
    refine d7 Tryz.func146 rfl rfl (Nat.le_of_ble_eq_true rfl) ?_
    repeat' (first | refine b9 ?_ | refine b6 ?_ | refine a6 ?_ | refine b5 ?_ | refine e7 rfl ?_ | refine d9 rfl ?_ | ((first | refine b8 (fun K hK => ?_) | refine d3 e9 (fun K hK => ?_) | refine b7 (cp h1 ?_) | refine a8 (dp h1 ?_) | refine b7 (cb hr 23 ?_) | refine a8 (db hr 23 ?_) | refine b7 (cb g1 23 ?_) | refine a8 (db g1 23 ?_) | refine b7 (cb p1 23 ?_) | refine a8 (db p1 23 ?_) | fail); simp -implicitDefEqProofs) | refine hK _ ?_ | refine hK _ _ (by rfl) ?_ | fail)
    refine d6 (d4 ?_); simp -implicitDefEqProofs [f9, f6, f7] <;> try rfl
  · rw [show c48 (.mk px pl, j, e) = (z0, j, e) from if_neg he]
    refine d7 Tryz.func146 rfl rfl (Nat.le_of_ble_eq_true rfl) ?_
    repeat' (first | refine b9 ?_ | refine b6 ?_ | refine a6 ?_ | refine b5 ?_ | refine e7 rfl ?_ | refine d9 rfl ?_ | ((first | refine b8 (fun K hK => ?_) | refine d3 e9 (fun K hK => ?_) | refine b7 (cp h1 ?_) | refine a8 (dp h1 ?_) | refine b7 (cb hr 23 ?_) | refine a8 (db hr 23 ?_) | refine b7 (cb g1 23 ?_) | refine a8 (db g1 23 ?_) | refine b7 (cb p1 23 ?_) | refine a8 (db p1 23 ?_) | refine b7 (cb e1 23 ?_) | refine a8 (db e1 23 ?_) | fail); simp -implicitDefEqProofs [he]) | refine hK _ ?_ | refine hK _ _ (by rfl) ?_ | fail)
    refine d6 (d4 ?_); simp -implicitDefEqProofs [f9, f6, f7, z0] <;> try rfl
end Go.Proofs.YtbbkmijkllgfaaaGreatDoor.am
end
section
namespace Go.Proofs.YtbbkmijkllgfaaaGreatDoor.vt
open Go.Proofs.YtbbkmijkllgfaaaGreatDoor.am
set_option linter.unusedVariables false
abbrev Got := VT × Nat × Int
def mk7 (ts : List Tok) (a b : Nat) (k n : Int) (s : ByteArray) (l : List VT) : Got := (.mk ⟨k, n, s, frT ts a, toT ts (b - 1)⟩ l, b, 0)
section
variable (ts : List Tok)
end
section
variable {ts : List Tok}
structure OkG (ts : List Tok) (i : Nat) (x : Got) : Prop where
  yes : x.2.2 = 0 → i < x.2.1 ∧ x.2.1 ≤ ts.length
  no : x.2.2 ≠ 0 → x.2.2 = 6 ∧ x.1 = z0
  le : i ≤ ts.length → i ≤ x.2.1 ∧ x.2.1 ≤ ts.length
structure OkC (ts : List Tok) (i : Nat) (x : List VT × Nat × Int) : Prop where
  le : i ≤ x.2.1 ∧ x.2.1 ≤ ts.length
  yes : x.2.2 = 0 → i < x.2.1
  no : x.2.2 ≠ 0 → x.2.2 = 6
end
end Go.Proofs.YtbbkmijkllgfaaaGreatDoor.vt
end
section
namespace Go.Proofs.YtbbkmijkllgfaaaGreatDoor.vt
open Go.Proofs.YtbbkmijkllgfaaaGreatDoor.am
set_option linter.unusedVariables false
section
variable {ts : List Tok}
noncomputable def sm (l : List VT) : Nat := (l.map Tr.size).sum
def Sc (i : Nat) (x : List VT × Nat × Int) : Prop := x.2.2 = 0 → sm x.1 + i ≤ x.2.1
end
end Go.Proofs.YtbbkmijkllgfaaaGreatDoor.vt
end
section
namespace Go.Proofs.YtbbkmijkllgfaaaGreatDoor.vt
open Go.Proofs.YtbbkmijkllgfaaaGreatDoor.am
set_option linter.unusedVariables false
abbrev sCol : ByteArray := ⟨#[58]⟩
abbrev sEnd : ByteArray := ⟨#[59]⟩
inductive It where
  | sgn (s : ByteArray)
  | nam
  | sub (w : Nat)
  | els
section
variable (ts : List Tok)
end
section
variable {ts : List Tok}
structure OkS (ts : List Tok) (c i : Nat) (x : Got) : Prop where
  ok : OkG ts i x
  sz : x.2.2 = 0 → x.1.size + c + i ≤ x.2.1
def WT (ts : List Tok) (s : ByteArray) (p : Nat × Int) : Nat × Int := if p.2 = 0 then if isK s (nxt ts p.1) = true then (p.1 + 1, 0) else (p.1, 6) else p
def TT (ts : List Tok) (s : ByteArray) (p : Nat × Int) : Bool := decide (p.2 = 0) && isK s (nxt ts p.1)
def KT (ts : List Tok) (k : Int) (p : Nat × Int) : Tok × Nat × Int := if p.2 = 0 then if (nxt ts p.1).k = k then (nxt ts p.1, p.1 + 1, 0) else (zK, p.1, 6) else (zK, p.1, p.2)
def OT (G : Nat → Got) (p : Nat × Int) : Got := if p.2 = 0 then G p.1 else (z0, p.1, p.2)
def NT (ts : List Tok) (a : Nat) (k n : Int) (s : ByteArray) (l : List VT) (p : Nat × Int) : Got := if p.2 = 0 then mk7 ts a p.1 k n s l else (z0, p.1, p.2)
end
end Go.Proofs.YtbbkmijkllgfaaaGreatDoor.vt
end
section
namespace Go.Proofs.YtbbkmijkllgfaaaGreatDoor.am
open Go.ChangeShapes Go.WideShapes Go.ChangeAt Go.RowKit
open vt
set_option linter.unusedVariables false
set_option linter.unusedSimpArgs false
section
variable (ts : List Tok) (hl : ts.length ≤ 9223372036854775807)
include hl
theorem b34 (p : Nat × Int) (s : ByteArray) (hs : s.size ≤ 1000) : Row Tryz.prog 67 [vR, vS s] [rd ts p.1 p.2] (.tup []) [some (rd ts (WT ts s p).1 (WT ts s p).2)] := by
  obtain ⟨i, e⟩ := p
  unfold WT
  dsimp only
  by_cases he : e = 0
  · subst he
    rw [if_pos rfl]
    by_cases h : isK s (nxt ts i) = true
    · rw [if_pos h]; exact b35 ts i s hs hl h
    · rw [if_neg h]; exact a73 ts i 0 s hs (.inr (by simpa using h))
  · rw [if_neg he]
    have := a73 ts i e s hs (.inl he)
    rwa [show er e = e from if_neg he] at this
theorem b9m (p : Nat × Int) (s : ByteArray) (hs : s.size ≤ 1000) (h : TT ts s p = true) : Row Tryz.prog 63 [vR, vS s] [rd ts p.1 p.2] (vB true) [some (rd ts (p.1 + 1) 0)] := by
  obtain ⟨i, e⟩ := p
  unfold TT at h
  simp at h
  obtain ⟨h0, h1⟩ := h
  try dsimp only at h0 h1
  subst h0
  exact a2j ts i s hs hl h1
omit hl in
theorem b3q (p : Nat × Int) (s : ByteArray) (hs : s.size ≤ 1000) (h : TT ts s p = false) : Row Tryz.prog 63 [vR, vS s] [rd ts p.1 p.2] (vB false) [some (rd ts p.1 p.2)] := by
  obtain ⟨i, e⟩ := p
  refine a48 ts i e s hs ?_
  unfold TT at h
  by_cases he : e = 0
  · right; simpa [he] using h
  · exact .inl he
theorem c1n (p : Nat × Int) (k : Int) (hk : k ≠ 5) : Row Tryz.prog 103 [vR, vI k] [rd ts p.1 p.2] (vK (KT ts k p).1) [some (rd ts (KT ts k p).2.1 (KT ts k p).2.2)] := by
  obtain ⟨i, e⟩ := p
  unfold KT
  dsimp only
  by_cases he : e = 0
  · subst he
    rw [if_pos rfl]
    by_cases h : (nxt ts i).k = k
    · rw [if_pos h]
      obtain ⟨x, hx, hxn, hxk⟩ := b1a h hk
      rw [hxn]
      exact a7h ts i k x hl hx hxk
    · rw [if_neg h]; exact a7g ts i 0 k (.inr h)
  · rw [if_neg he]
    have := a7g ts i e k (.inl he)
    rwa [show er e = e from if_neg he] at this
theorem b29 (p : Nat × Int) (a : Nat) (x : Lab) (l : List VT) (h : p.2 = 0 → a < p.1 ∧ p.1 ≤ ts.length) : Row Tryz.prog 68 [vR, vI a, vT (.mk x l)] [rd ts p.1 p.2] (vT (NT ts a x.k x.n x.s l p).1) [some (rd ts (NT ts a x.k x.n x.s l p).2.1 (NT ts a x.k x.n x.s l p).2.2)] := by
  obtain ⟨i, e⟩ := p
  unfold NT
  dsimp only at h ⊢
  by_cases he : e = 0
  · subst he
    rw [if_pos rfl]
    obtain ⟨h1, h2⟩ := h rfl
    exact a2f ts i a x l (by omega) (by omega) h2 hl
  · rw [if_neg he]
    exact a4o ts i e he a (.mk x l)
end
abbrev vFg (g : Nat) : AV := .v (.c (.fn (.func g) [] []))
theorem b61 (ts : List Tok) (p : Nat × Int) (g : Nat) (G : Nat → Got) (h : p.2 = 0 → Row Tryz.prog g [vKs ts, vI p.1] [] (vT3 (G p.1)) []) : Row Tryz.prog 108 [vR, vFg g] [rd ts p.1 p.2] (vT (OT G p).1) [some (rd ts (OT G p).2.1 (OT G p).2.2)] := by
  obtain ⟨i, e⟩ := p
  have h2 := p7 ts i e
  unfold OT
  dsimp only at h ⊢
  by_cases he : e = 0
  · subst he
    rw [if_pos rfl]
    have h1 := h rfl
    clear h
    obtain ⟨⟨⟨px, pl⟩, j, e⟩, hr⟩ : ∃ r, G i = r := ⟨_, rfl⟩
    rw [hr] at h1 ⊢
    clear hr
    refine d7 Tryz.func108 rfl rfl (Nat.le_of_ble_eq_true rfl) ?_
    repeat' (first | refine b9 ?_ | refine b6 ?_ | refine a6 ?_ | refine b5 ?_ | refine e7 rfl ?_ | refine d9 rfl ?_ | ((first | refine b8 (fun K hK => ?_) | refine d3 e9 (fun K hK => ?_) | refine b7 (cb h2 0 ?_) | refine a8 (db h2 0 ?_) | refine b7 (cp h1 ?_) | refine a8 (dp h1 ?_) | fail); simp -implicitDefEqProofs) | refine hK _ ?_ | refine hK _ _ (by rfl) ?_ | fail)
    refine d6 (g7 ?_); simp -implicitDefEqProofs [s9, f6, f7] <;> try rfl
  · rw [if_neg he]
    refine d7 Tryz.func108 rfl rfl (Nat.le_of_ble_eq_true rfl) ?_
    repeat' (first | refine b9 ?_ | refine b6 ?_ | refine a6 ?_ | refine b5 ?_ | refine e7 rfl ?_ | refine d9 rfl ?_ | ((first | refine b8 (fun K hK => ?_) | refine d3 e9 (fun K hK => ?_) | refine b7 (cb h2 0 ?_) | refine a8 (db h2 0 ?_) | fail); simp -implicitDefEqProofs [he]) | refine hK _ ?_ | refine hK _ _ (by rfl) ?_ | fail)
    refine d6 (g7 ?_); simp -implicitDefEqProofs [s9, f6, f7, z0] <;> try rfl
end Go.Proofs.YtbbkmijkllgfaaaGreatDoor.am
end
section
namespace Go.Proofs.YtbbkmijkllgfaaaGreatDoor.am
open Go.ChangeShapes Go.WideShapes Go.ChangeAt Go.RowKit
open vt
set_option linter.unusedVariables false
set_option linter.unusedSimpArgs false
theorem c2t (ts : List Tok) (i : Nat) (h : i ≤ ts.length) (hl : ts.length ≤ 9223372036854775807) : Row Tryz.prog 109 [vKs ts, vI i] [] (vT3 (c48 (tyG ts (ts.length + 1) i))) [] := by
  have h1 := b60 ts i h 147 _ (c6x ts hl (ts.length + 1) i (by omega) h)
  obtain ⟨⟨⟨px, pl⟩, j, e⟩, hr⟩ : ∃ r, c48 (tyG ts (ts.length + 1) i) = r := ⟨_, rfl⟩
  rw [hr] at h1 ⊢
  refine d7 Tryz.func109 rfl rfl (Nat.le_of_ble_eq_true rfl) ?_
  repeat' (first | refine b9 ?_ | refine b6 ?_ | refine a6 ?_ | refine b5 ?_ | refine e7 rfl ?_ | refine d9 rfl ?_ | ((first | refine b8 (fun K hK => ?_) | refine d3 e9 (fun K hK => ?_) | refine b7 (cp h1 ?_) | refine a8 (dp h1 ?_) | fail); simp -implicitDefEqProofs) | refine hK _ ?_ | refine hK _ _ (by rfl) ?_ | fail)
  refine d6 (d4 ?_); simp -implicitDefEqProofs [f9, f6, f7] <;> try rfl
theorem c49 (ts : List Tok) (n i : Nat) : c48 (tyG ts n i) = tyG ts n i := by
  obtain ⟨_, h2, _, _⟩ := c35 ts n i
  unfold c48
  split
  · rfl
  · rename_i h
    obtain ⟨h3, h4⟩ := h2 h
    rw [← h4]
end Go.Proofs.YtbbkmijkllgfaaaGreatDoor.am
end
section
namespace Go.Proofs.YtbbkmijkllgfaaaGreatDoor.lx
open Go.ChangeShapes Go.WideShapes Go.ChangeAt Go.RowKit
open bs
set_option linter.unusedVariables false
def isL (c : Int) : Bool := decide ((65 ≤ c ∧ c ≤ 90) ∨ (97 ≤ c ∧ c ≤ 122) ∨ c = 95)
def isD (c : Int) : Bool := decide (48 ≤ c ∧ c ≤ 57)
def isB (c : Int) : Bool := decide (c = 32 ∨ c = 9 ∨ c = 10 ∨ c = 13)
def isN (c : Int) : Bool := isL c || isD c
def isC (c : Int) : Bool := decide (c ≠ 10)
def B (s : ByteArray) (i : Nat) : Int := (txt s).getD i 0
theorem c4x (s : ByteArray) (i : Nat) (h : i < s.size) : ((s[i]).toNat : Int) = B s i := txt_at s i h
def run (p : Int → Bool) (s : ByteArray) (i : Nat) : Nat := b0e (fun j => p (B s j)) (s.size - i) i
theorem a05 (p : Int → Bool) (s : ByteArray) (i : Nat) (h : i ≤ s.size) : i ≤ run p s i ∧ run p s i ≤ s.size := by
  have := b75 (fun j => p (B s j)) (s.size - i) i
  unfold run
  omega
theorem a42 {p : Int → Bool} {s : ByteArray} {i : Nat} (h : i < s.size) (hp : p (B s i) = true) : run p s i = run p s (i + 1) := by
  unfold run
  rw [show s.size - i = (s.size - (i + 1)) + 1 by omega]
  exact c1p (fun j => p (B s j)) _ _ hp
theorem run_no {p : Int → Bool} {s : ByteArray} {i : Nat} (hp : p (B s i) = false) : run p s i = i := c5p (fun j => p (B s j)) _ _ hp
theorem c6d {p : Int → Bool} {s : ByteArray} {i : Nat} (h : s.size ≤ i) : run p s i = i := by
  unfold run
  rw [show s.size - i = 0 by omega]
  rfl
theorem c6c {p : Int → Bool} {s : ByteArray} {i j : Nat} (h1 : i ≤ j) (h2 : j < run p s i) : p (B s j) = true := b27 (fun j => p (B s j)) _ _ _ h1 h2
def at' (s : ByteArray) (i : Nat) (w : ByteArray) : Bool := decide (i + w.size ≤ s.size ∧ s.extract i (i + w.size) = w)
end Go.Proofs.YtbbkmijkllgfaaaGreatDoor.lx
namespace Go.Proofs.YtbbkmijkllgfaaaGreatDoor.lx
open Go.ChangeShapes Go.WideShapes Go.ChangeAt Go.RowKit
open bs
set_option linter.unusedVariables false
theorem c6p (s : ByteArray) (i j : Nat) : txt (s.extract i j) = ((txt s).drop i).take (j - i) := by
  have e : (s.extract i j).data = s.data.extract i j := ByteArray.data_extract
  unfold txt
  rw [e, Array.toList_extract, List.extract_eq_take_drop, List.map_take, List.map_drop]
theorem b_cut {s : ByteArray} {i j k : Nat} (h : i + k < j) : B (s.extract i j) k = B s (i + k) := by
  unfold B
  rw [c6p, List.getD_eq_getElem?_getD, List.getD_eq_getElem?_getD, List.getElem?_take, if_pos (by omega), List.getElem?_drop]
theorem c4r {s : ByteArray} {i : Nat} {v : ByteArray} (h : at' s i v = true) {j : Nat} (hj : j < v.size) : B v j = B s (i + j) := by
  have := (of_decide_eq_true h).2
  rw [← b_cut (s := s) (i := i) (j := i + v.size) (k := j) (by omega), this]
def cc : ByteArray := ⟨#[47, 47]⟩
theorem cc_at {s : ByteArray} {i : Nat} (h : at' s i cc = true) : i + 2 ≤ s.size ∧ B s i = 47 := by
  refine ⟨(of_decide_eq_true h).1, ?_⟩
  have := c4r h (j := 0) (by decide)
  rw [Nat.add_zero] at this
  rw [← this]
  decide
theorem b2a {s : ByteArray} {i : Nat} (h : at' s i cc = true) : i < run isC s i := by
  have h1 := cc_at h
  have h2 : isC (B s i) = true := by rw [h1.2]; decide
  rw [a42 (by omega) h2]
  have := a05 isC s (i + 1) (by omega)
  omega
def nx (s : ByteArray) (i : Nat) : Nat :=
  if h : i < s.size then
    if isB (B s i) = true then nx s (i + 1)
    else if h2 : at' s i cc = true then nx s (run isC s i)
    else i
  else i
termination_by s.size - i
decreasing_by
  · omega
  · have := b2a h2; omega
theorem nx_blank {s : ByteArray} {i : Nat} (h : i < s.size) (hb : isB (B s i) = true) : nx s i = nx s (i + 1) := by
  rw [nx, dif_pos h, if_pos hb]
theorem a28 {s : ByteArray} {i : Nat} (h : i < s.size) (hb : isB (B s i) = false) (hc : at' s i cc = true) : nx s i = nx s (run isC s i) := by
  rw [nx, dif_pos h, if_neg (by rw [hb]; decide), dif_pos hc]
theorem nx_stop {s : ByteArray} {i : Nat} (hb : isB (B s i) = false) (hc : at' s i cc = false) : nx s i = i := by
  rw [nx]
  split
  · rw [if_neg (by rw [hb]; decide), dif_neg (by rw [hc]; decide)]
  · rfl
theorem nx_end {s : ByteArray} {i : Nat} (h : s.size ≤ i) : nx s i = i := by
  rw [nx, dif_neg (by omega)]
theorem nx_bd (s : ByteArray) : ∀ (n i : Nat), s.size - i ≤ n → i ≤ s.size → i ≤ nx s i ∧ nx s i ≤ s.size := by
  intro n
  induction n with
  | zero =>
    intro i h h2
    rw [nx_end (by omega)]
    omega
  | succ n ih =>
    intro i h h2
    by_cases hi : i < s.size
    · rcases Bool.eq_false_or_eq_true (isB (B s i)) with hb | hb
      · rw [nx_blank hi hb]
        have := ih (i + 1) (by omega) (by omega)
        omega
      · rcases Bool.eq_false_or_eq_true (at' s i cc) with hc | hc
        · rw [a28 hi hb hc]
          have h3 := b2a hc
          have h4 := a05 isC s i (by omega)
          have := ih (run isC s i) (by omega) (by omega)
          omega
        · rw [nx_stop hb hc]
          omega
    · rw [nx_end (by omega)]
      omega
theorem c1u {s : ByteArray} {i : Nat} (h : i ≤ s.size) : i ≤ nx s i ∧ nx s i ≤ s.size := nx_bd s _ i (Nat.le_refl _) h
theorem nx_at (s : ByteArray) : ∀ (n i : Nat), s.size - i ≤ n → nx s i < s.size → isB (B s (nx s i)) = false ∧ at' s (nx s i) cc = false := by
  intro n
  induction n with
  | zero =>
    intro i h h2
    rw [nx_end (by omega)] at h2
    omega
  | succ n ih =>
    intro i h h2
    by_cases hi : i < s.size
    · rcases Bool.eq_false_or_eq_true (isB (B s i)) with hb | hb
      · rw [nx_blank hi hb] at h2 ⊢
        exact ih (i + 1) (by omega) h2
      · rcases Bool.eq_false_or_eq_true (at' s i cc) with hc | hc
        · rw [a28 hi hb hc] at h2 ⊢
          have h3 := b2a hc
          exact ih (run isC s i) (by omega) h2
        · rw [nx_stop hb hc]
          exact ⟨hb, hc⟩
    · rw [nx_end (by omega)] at h2
      omega
theorem a1u {s : ByteArray} {i : Nat} (h : i ≤ s.size) : nx s (nx s i) = nx s i := by
  have h1 := c1u h
  rcases Nat.lt_or_ge (nx s i) s.size with h2 | h2
  · have h3 := nx_at s _ i (Nat.le_refl _) h2
    exact nx_stop h3.1 h3.2
  · exact nx_end h2
end Go.Proofs.YtbbkmijkllgfaaaGreatDoor.lx
namespace Go.Proofs.YtbbkmijkllgfaaaGreatDoor.lx
open Go.ChangeShapes Go.WideShapes Go.ChangeAt Go.RowKit
open bs
set_option linter.unusedVariables false
def wordL : List (List UInt8) := [[114, 101, 99], [99, 111, 110, 115, 116], [118, 97, 114], [112, 117, 98], [102, 110], [105, 110, 116], [98, 111, 111, 108], [108, 101, 116], [105, 102], [101, 108, 115, 101], [119, 104, 105, 108, 101], [102, 111, 114], [116, 111], [112, 114, 105, 110, 116], [114, 101, 116, 117, 114, 110], [100, 111], [116, 114, 117, 101], [102, 97, 108, 115, 101], [114, 101, 97, 100], [110, 101, 119]]
def isW (v : ByteArray) : Bool := wordL.any (fun l => v.toList == l)
def mkB (l : List UInt8) : ByteArray := ⟨l.toArray⟩
def a9x : List (List UInt8) := [[61, 61], [33, 61], [60, 61], [62, 61], [38, 38], [124, 124]]
def oneL : List UInt8 := [123, 125, 40, 41, 91, 93, 44, 59, 58, 46, 61, 60, 62, 43, 45, 42, 47, 37, 33, 64]
def sgN (s : ByteArray) (i : Nat) : Nat :=
  if a9x.any (fun l => at' s i (mkB l)) then 2 else if oneL.any (fun b => B s i == (b.toNat : Int)) then 1 else 0
def c1t (acc : Int) : List Int → Option Int
  | [] => some acc
  | c :: r => if (9223372036854775807 - (c - 48)) / 10 < acc then none else c1t (acc * 10 + (c - 48)) r
def num (v : ByteArray) : Option Int := if v.size = 0 ∨ (1 < v.size ∧ B v 0 = 48) then none else c1t 0 (txt v)
structure Tk where
  k : Int
  n : Int
  s : ByteArray
  f : Int
  t : Int
def tk0 : Tk := ⟨0, 0, ⟨#[]⟩, 0, 0⟩
def Tk.cells (x : Tk) : List Value := [.int .i64 x.k, .int .i64 x.n, .string x.s, .int .i64 x.f, .int .i64 x.t]
abbrev Tk.row (x : Tk) : Array Value := #[.int .i64 x.k, .int .i64 x.n, .string x.s, .int .i64 x.f, .int .i64 x.t]
abbrev Tk.val (x : Tk) : Value := .agg x.row
def on (s : ByteArray) (i : Nat) : Tk × Int :=
  if isL (B s i) = true then
    if 16 < run isN s i - i then (tk0, 3) else (⟨if isW (s.extract i (run isN s i)) = true then 3 else 1, 0, s.extract i (run isN s i), i, (run isN s i : Nat)⟩, 0)
  else if isD (B s i) = true then
    match num (s.extract i (run isD s i)) with
    | none => (tk0, 5)
    | some n => (⟨2, n, ⟨#[]⟩, i, (run isD s i : Nat)⟩, 0)
  else if sgN s i = 0 then (tk0, 4) else (⟨4, 0, s.extract i (i + sgN s i), i, (i + sgN s i : Nat)⟩, 0)
theorem b9p {s : ByteArray} {i : Nat} (h : isL (B s i) = true) (h2 : ¬ 16 < run isN s i - i) : on s i = (⟨if isW (s.extract i (run isN s i)) = true then 3 else 1, 0, s.extract i (run isN s i), i, (run isN s i : Nat)⟩, 0) := by
  unfold on; rw [if_pos h, if_neg h2]
theorem b9o {s : ByteArray} {i : Nat} (h : isL (B s i) = true) (h2 : 16 < run isN s i - i) : on s i = (tk0, 3) := by
  unfold on; rw [if_pos h, if_pos h2]
theorem a9t {s : ByteArray} {i : Nat} {n : Int} (h : isL (B s i) = false) (h1 : isD (B s i) = true) (h2 : num (s.extract i (run isD s i)) = some n) : on s i = (⟨2, n, ⟨#[]⟩, i, (run isD s i : Nat)⟩, 0) := by
  unfold on; rw [if_neg (by rw [h]; decide), if_pos h1, h2]
theorem b3r {s : ByteArray} {i : Nat} (h : isL (B s i) = false) (h1 : isD (B s i) = true) (h2 : num (s.extract i (run isD s i)) = none) : on s i = (tk0, 5) := by
  unfold on; rw [if_neg (by rw [h]; decide), if_pos h1, h2]
theorem b9r {s : ByteArray} {i : Nat} (h : isL (B s i) = false) (h1 : isD (B s i) = false) (h2 : ¬ sgN s i = 0) : on s i = (⟨4, 0, s.extract i (i + sgN s i), i, (i + sgN s i : Nat)⟩, 0) := by
  unfold on; rw [if_neg (by rw [h]; decide), if_neg (by rw [h1]; decide), if_neg h2]
theorem b9q {s : ByteArray} {i : Nat} (h : isL (B s i) = false) (h1 : isD (B s i) = false) (h2 : sgN s i = 0) : on s i = (tk0, 4) := by
  unfold on; rw [if_neg (by rw [h]; decide), if_neg (by rw [h1]; decide), if_pos h2]
theorem a7t (s : ByteArray) (i j : Nat) (h : i ≤ j) (h2 : j ≤ s.size) : (s.extract i j).size = j - i := by
  rw [ByteArray.size_extract]
  omega
theorem c5q (l : List UInt8) : (mkB l).size = l.length := by
  unfold mkB
  simp [ByteArray.size]
theorem sg_le {s : ByteArray} {i : Nat} (hi : i < s.size) : i + sgN s i ≤ s.size := by
  unfold sgN
  split
  · rename_i h
    rw [List.any_eq_true] at h
    obtain ⟨l, hl, h⟩ := h
    have h1 := (of_decide_eq_true h).1
    rw [c5q] at h1
    have one : ∀ l ∈ a9x, l.length = 2 := by decide
    have := one l hl
    omega
  · split <;> omega
end Go.Proofs.YtbbkmijkllgfaaaGreatDoor.lx
namespace Go.Proofs.YtbbkmijkllgfaaaGreatDoor.lx
open Go.ChangeShapes Go.WideShapes Go.ChangeAt Go.RowKit
open bs
set_option linter.unusedVariables false
def a91 (acc : Nat) : List UInt8 → Nat
  | [] => acc
  | c :: r => a91 (acc * 10 + (c.toNat - 48)) r
def Dig (l : List UInt8) : Prop := ∀ c ∈ l, 48 ≤ c.toNat ∧ c.toNat ≤ 57
theorem b90 : ∀ (l : List UInt8) (acc : Nat), acc ≤ a91 acc l
  | [], acc => Nat.le_refl _
  | c :: r, acc => by
    have := b90 r (acc * 10 + (c.toNat - 48))
    show acc ≤ a91 (acc * 10 + (c.toNat - 48)) r
    omega
theorem a9e : ∀ (l : List UInt8) (acc : Nat), Dig l → acc < 18446744073709551616 → Lib.parseUint10 acc l = if a91 acc l < 18446744073709551616 then .ok (a91 acc l) else .range
  | [], acc, _, h => by
    have e : Lib.parseUint10 acc [] = .ok acc := rfl
    rw [e]
    exact (if_pos h).symm
  | c :: r, acc, hd, h => by
    have hc := hd c (List.mem_cons_self ..)
    have hr : Dig r := fun x hx => hd x (List.mem_cons_of_mem _ hx)
    have hge := b90 r (acc * 10 + (c.toNat - 48))
    rw [Lib.parseUint10, if_pos hc]
    show _ = if a91 (acc * 10 + (c.toNat - 48)) r < _ then _ else _
    split
    · rw [if_neg (by omega)]
    · split
      · rw [if_neg (by omega)]
      · exact a9e r _ hr (by omega)
theorem b3a : ∀ (l : List UInt8) (acc : Nat), Dig l → acc < 9223372036854775808 → c1t acc (l.map fun b => (b.toNat : Int)) = if a91 acc l < 9223372036854775808 then some ((a91 acc l : Nat) : Int) else none
  | [], acc, _, h => by
    have e : c1t acc (([] : List UInt8).map fun b => (b.toNat : Int)) = some (acc : Int) := rfl
    rw [e]
    exact (if_pos h).symm
  | c :: r, acc, hd, h => by
    have hc := hd c (List.mem_cons_self ..)
    have hr : Dig r := fun x hx => hd x (List.mem_cons_of_mem _ hx)
    have hge := b90 r (acc * 10 + (c.toNat - 48))
    rw [List.map_cons, c1t]
    show _ = if a91 (acc * 10 + (c.toNat - 48)) r < _ then some ((a91 (acc * 10 + (c.toNat - 48)) r : Nat) : Int) else _
    split
    · rw [if_neg (by omega)]
    · rw [show (acc : Int) * 10 + ((c.toNat : Int) - 48) = ((acc * 10 + (c.toNat - 48) : Nat) : Int) by omega]
      exact b3a r _ hr (by omega)
theorem c5i (l : List UInt8) (hd : Dig l) (hne : l ≠ []) : Lib.parseIntB 64 l = if a91 0 l < 9223372036854775808 then .ok ((a91 0 l : Nat) : Int) else .range := by
  rw [Lib.parseIntB_64]
  obtain ⟨c, r, rfl⟩ := List.exists_cons_of_ne_nil hne
  have hc := hd c (List.mem_cons_self ..)
  rw [Lib.atoiAll]
  have e : Lib.parseMag (c :: r) = if a91 0 (c :: r) < 18446744073709551616 then .ok (a91 0 (c :: r)) else .range := by
    rw [Lib.parseMag, if_neg (by simp)]
    exact a9e _ 0 hd (by omega)
  rw [if_neg (by omega), e]
  by_cases h1 : a91 0 (c :: r) < 18446744073709551616
  · rw [if_pos h1]
    simp only
    by_cases h2 : a91 0 (c :: r) < 9223372036854775808
    · rw [if_pos h2, if_neg (by omega), if_neg (by omega), if_neg (by omega)]
    · rw [if_neg h2, if_pos (by omega)]
  · rw [if_neg h1]
    simp only
    rw [if_neg (by omega)]
theorem c2o (v : ByteArray) (hd : Dig v.data.toList) (hne : v.size ≠ 0) : (∃ n : Int, Lib.parseIntB 64 v.data.toList = .ok n ∧ c1t 0 (txt v) = some n) ∨ (Lib.parseIntB 64 v.data.toList = .range ∧ c1t 0 (txt v) = none) := by
  have h1 := c5i v.data.toList hd (fun e => hne (by
    have : v.data.toList.length = 0 := by rw [e]; rfl
    rw [Array.length_toList] at this; exact this))
  have h2 := b3a v.data.toList 0 hd (by omega)
  by_cases h : a91 0 v.data.toList < 9223372036854775808
  · rw [if_pos h] at h1 h2
    exact .inl ⟨_, h1, h2⟩
  · rw [if_neg h] at h1 h2
    exact .inr ⟨h1, h2⟩
theorem c44 {s : ByteArray} {i : Nat} (hi : i ≤ s.size) : Dig (s.extract i (run isD s i)).data.toList := by
  intro c hc
  have hr := a05 isD s i hi
  obtain ⟨j, hj, he⟩ := List.getElem_of_mem hc
  have hsz := a7t s i (run isD s i) hr.1 hr.2
  have hj' : j < run isD s i - i := by
    rw [Array.length_toList] at hj
    have : (s.extract i (run isD s i)).data.size = (s.extract i (run isD s i)).size := rfl
    omega
  have h1 := c6c (p := isD) (s := s) (i := i) (j := i + j) (by omega) (by omega)
  have h2 : B (s.extract i (run isD s i)) j = B s (i + j) := b_cut (by omega)
  rw [← h2] at h1
  have h3 : B (s.extract i (run isD s i)) j = (c.toNat : Int) := by
    unfold B txt
    rw [List.getD_eq_getElem?_getD, List.getElem?_map, List.getElem?_eq_getElem hj, he]
    rfl
  rw [h3] at h1
  have := of_decide_eq_true h1
  omega
end Go.Proofs.YtbbkmijkllgfaaaGreatDoor.lx
namespace Go.Proofs.YtbbkmijkllgfaaaGreatDoor.lx
open Go.ChangeShapes Go.WideShapes Go.ChangeAt Go.RowKit
open bs
set_option linter.unusedVariables false
theorem on_to {s : ByteArray} {i : Nat} (hi : i < s.size) (h : (on s i).2 = 0) : (on s i).1.f = (i : Int) ∧ ∃ j : Nat, (on s i).1.t = (j : Int) ∧ i < j ∧ j ≤ s.size := by
  rcases Bool.eq_false_or_eq_true (isL (B s i)) with hL | hL
  · by_cases h2 : 16 < run isN s i - i
    · rw [b9o hL h2] at h; cases h
    · rw [b9p hL h2]
      have h3 := a05 isN s i (by omega)
      have h4 : i < run isN s i := by
        rw [a42 hi (by unfold isN; rw [hL]; rfl)]
        have := a05 isN s (i + 1) (by omega)
        omega
      exact ⟨rfl, _, rfl, h4, h3.2⟩
  · rcases Bool.eq_false_or_eq_true (isD (B s i)) with hD | hD
    · rcases hn : num (s.extract i (run isD s i)) with _ | n
      · rw [b3r hL hD hn] at h; cases h
      · rw [a9t hL hD hn]
        have h3 := a05 isD s i (by omega)
        have h4 : i < run isD s i := by
          rw [a42 hi hD]
          have := a05 isD s (i + 1) (by omega)
          omega
        exact ⟨rfl, _, rfl, h4, h3.2⟩
    · by_cases h0 : sgN s i = 0
      · rw [b9q hL hD h0] at h; cases h
      · rw [b9r hL hD h0]
        have := sg_le hi
        exact ⟨rfl, _, rfl, by omega, by omega⟩
def tkEnd (s : ByteArray) : Tk := ⟨5, 0, ⟨#[]⟩, s.size, s.size⟩
def toks (s : ByteArray) (i : Nat) : List Tk × Nat × Int :=
  if h : nx s i < s.size ∧ i ≤ s.size then
    if h2 : (on s (nx s i)).2 = 0 then
      let r := toks s (on s (nx s i)).1.t.toNat
      if r.2.2 = 0 then ((on s (nx s i)).1 :: r.1, r.2) else r
    else ([], nx s i, (on s (nx s i)).2)
  else ([tkEnd s], 0, 0)
termination_by s.size - i
decreasing_by
  have h3 := c1u h.2
  obtain ⟨_, j, h4, h5, h6⟩ := on_to h.1 h2
  rw [h4]
  omega
def app (L : List Tk) (r : List Tk × Nat × Int) : List Tk × Nat × Int := if r.2.2 = 0 then (L ++ r.1, r.2) else r
theorem app_nil (r : List Tk × Nat × Int) : app [] r = r := by unfold app; split <;> rfl
theorem app_end {s : ByteArray} {i : Nat} {L : List Tk} (h : s.size ≤ nx s i) : app L (toks s i) = (L ++ [tkEnd s], 0, 0) := by
  rw [toks, dif_neg (by omega)]
  rfl
theorem b0s {s : ByteArray} {i : Nat} {L : List Tk} (h : nx s i < s.size) (hi : i ≤ s.size) (h2 : ¬ (on s (nx s i)).2 = 0) : app L (toks s i) = ([], nx s i, (on s (nx s i)).2) := by
  rw [toks, dif_pos ⟨h, hi⟩, dif_neg h2]
  unfold app
  rw [if_neg h2]
theorem app_step {s : ByteArray} {i : Nat} {L : List Tk} (h : nx s i < s.size) (hi : i ≤ s.size) (h2 : (on s (nx s i)).2 = 0) : app L (toks s i) = app (L ++ [(on s (nx s i)).1]) (toks s (on s (nx s i)).1.t.toNat) := by
  rw [toks, dif_pos ⟨h, hi⟩, dif_pos h2]
  simp only
  unfold app
  by_cases h3 : (toks s (on s (nx s i)).1.t.toNat).2.2 = 0
  · rw [if_pos h3, if_pos h3, if_pos h3]
    simp
  · rw [if_neg h3, if_neg h3, if_neg h3]
theorem c6o {s : ByteArray} {i : Nat} (hi : i ≤ s.size) : toks s (nx s i) = toks s i := by
  have h1 := c1u hi
  have e1 : app [] (toks s (nx s i)) = app [] (toks s i) := by
    by_cases h : nx s i < s.size
    · have h' : nx s (nx s i) < s.size := by rw [a1u hi]; exact h
      by_cases h2 : (on s (nx s i)).2 = 0
      · have h2' : (on s (nx s (nx s i))).2 = 0 := by rw [a1u hi]; exact h2
        rw [app_step h' h1.2 h2', app_step h hi h2, a1u hi]
      · have h2' : ¬ (on s (nx s (nx s i))).2 = 0 := by rw [a1u hi]; exact h2
        rw [b0s h' h1.2 h2', b0s h hi h2, a1u hi]
    · rw [app_end (by rw [a1u hi]; omega), app_end (by omega)]
  rwa [app_nil, app_nil] at e1
def tokens (s : ByteArray) : List Tk × Nat × Int := if 8192 < s.size then ([], 0, 3) else toks s 0
end Go.Proofs.YtbbkmijkllgfaaaGreatDoor.lx
namespace Go.Proofs.YtbbkmijkllgfaaaGreatDoor.lx
open Go.ChangeShapes Go.WideShapes Go.ChangeAt Go.RowKit
open bs
set_option linter.unusedVariables false
end Go.Proofs.YtbbkmijkllgfaaaGreatDoor.lx
namespace Go.Proofs.YtbbkmijkllgfaaaGreatDoor.lx
open Go.ChangeShapes Go.WideShapes Go.ChangeAt Go.RowKit
open bs
set_option linter.unusedVariables false
end Go.Proofs.YtbbkmijkllgfaaaGreatDoor.lx
end
section
namespace Go.Proofs.YtbbkmijkllgfaaaGreatDoor.bs
open Go.ChangeShapes Go.WideShapes Go.ChangeAt Go.RowKit
set_option linter.unusedVariables false
def g9 : Option Addr → Option Nat
  | some x => some x.block
  | none => none
theorem a4w (a : Option Addr) (n c : Nat) : Value.ownBlock (.slice a n c) = g9 a := by cases a <;> rfl
def Blk (w : World) (g : Nat) (cs : Array Value) (t : TypeId) : Prop := w.heap[g]? = some (.cells cs t (0, 0))
theorem Blk.lt {w : World} {g cs t} (h : Blk w g cs t) : g < w.heap.size := (Array.getElem?_eq_some_iff.1 h).1
theorem Blk.cell {w : World} {g cs t} (h : Blk w g cs t) (i : Nat) : w.cell? ⟨g, i, none⟩ = cs[i]? := cell_of_row w g i cs t _ h
theorem Blk.free {w : World} {g cs t} (h : Blk w g cs t) (i : Nat) : w.frozen? ⟨g, i, none⟩ = false := frozen_of_row w g i cs t h
theorem Blk.set {w : World} {g cs t} (h : Blk w g cs t) (i : Nat) (v : Value) : Blk (w.setCell ⟨g, i, none⟩ v) g (cs.setIfInBounds i v) t := heap_setCell_same w g i cs t v h
theorem Blk.new (w : World) (cs : Array Value) (t : TypeId) : Blk (w.alloc (.cells cs t)) w.heap.size cs t := heap_alloc_new w _
theorem Blk.of {w w' : World} {g cs t} (h : Blk w g cs t) (he : w'.heap[g]? = w.heap[g]?) : Blk w' g cs t := by unfold Blk; rw [he]; exact h
theorem Blk.below {w w' : World} {g cs t} (h : Blk w g cs t) (hb : Below w.heap.size w w') : Blk w' g cs t := h.of (hb.block g h.lt)
theorem Blk.drewN {w : World} {g cs t} (h : Blk w g cs t) (m : Nat) : Blk (w.drewN m) g cs t := h
theorem Blk.other {w : World} {g cs t} (h : Blk w g cs t) (p : Addr) (v : Value) (hp : g ≠ p.block) : Blk (w.setCell p v) g cs t := h.of (heap_setCell_other w p g v hp)
structure Turned (w w' : World) (d : Nat) (row : Option Nat) : Prop where
  os : w'.os = w.os
  tape : w'.tape = w.tape
  output : w'.output = w.output
  size : w.heap.size ≤ w'.heap.size
  block : ∀ i, i < w.heap.size → i ≠ d → row ≠ some i → w'.heap[i]? = w.heap[i]?
theorem Turned.of_below {w w' : World} (h : Below w.heap.size w w') (d : Nat) (row : Option Nat) : Turned w w' d row := ⟨h.os, h.tape, h.output, h.size, fun i hi _ _ => h.block i hi⟩
theorem Turned.refl (w : World) (d : Nat) (row : Option Nat) : Turned w w d row := .of_below (Below.refl _ _) d row
theorem Turned.of_grown {w w' : World} {row : Option Nat} (h : w.grownBy w' row) (d : Nat) : Turned w w' d row := ⟨h.os, h.tape, h.output, h.size, fun i hi _ hr => h.block i hi (fun e => hr e.symm)⟩
theorem Turned.setCell {w w' : World} {d : Nat} {row : Option Nat} (h : Turned w w' d row) (j : Nat) (v : Value) : Turned w (w'.setCell ⟨d, j, none⟩ v) d row :=
  ⟨h.os, h.tape, h.output, by simpa [World.setCell] using h.size, fun i hi hd hr => (Below.heap_setCell w' ⟨d, j, none⟩ v i hd).trans (h.block i hi hd hr)⟩
theorem Turned.drewN {w w' : World} {d : Nat} {row : Option Nat} (h : Turned w w' d row) (m : Nat) : Turned w (w'.drewN m) d row := ⟨h.os, h.tape, h.output, h.size, h.block⟩
theorem Turned.trans_below {w w' w'' : World} {d : Nat} {row : Option Nat} (h : Turned w w' d row) (k : Below w'.heap.size w' w'') : Turned w w'' d row :=
  ⟨k.os.trans h.os, k.tape.trans h.tape, k.output.trans h.output, Nat.le_trans h.size k.size, fun i hi hd hr => (k.block i (Nat.lt_of_lt_of_le hi h.size)).trans (h.block i hi hd hr)⟩
theorem Turned.trans {w w' w'' : World} {d : Nat} {row row' : Option Nat} (h : Turned w w' d row) (k : Turned w' w'' d row') (hr : ∀ i, i < w.heap.size → row' = some i → row = some i) : Turned w w'' d row :=
  ⟨k.os.trans h.os, k.tape.trans h.tape, k.output.trans h.output, Nat.le_trans h.size k.size, fun i hi hd hn => (k.block i (Nat.lt_of_lt_of_le hi h.size) hd (fun e => hn (hr i hi e))).trans (h.block i hi hd hn)⟩
theorem Turned.below {w w' : World} {d : Nat} {row : Option Nat} {B : Nat} (h : Turned w w' d row) (hB : B ≤ w.heap.size) (hd : B ≤ d) (hr : ∀ i, row = some i → B ≤ i) : Below B w w' :=
  ⟨h.os, h.tape, h.output, h.size, fun i hi => h.block i (by omega) (by omega) (fun e => by have := hr i e; omega)⟩
theorem OwnB.blockLt {w : World} {base e a n c l} (h : OwnB w base e a n c l) {i : Nat} (hi : g9 a = some i) : base ≤ i ∧ i < w.heap.size := by
  rcases h.cases with ⟨rfl, _⟩ | ⟨g, rfl, h1, h2, _⟩
  · cases hi
  · cases hi; exact ⟨h1, h2⟩
theorem OwnB.of {w w' : World} {base e a n c l} (h : OwnB w base e a n c l) (hk : ∀ i, g9 a = some i → w'.heap[i]? = w.heap[i]?) : OwnB w' base e a n c l := by
  rcases h.cases with ⟨rfl, rfl, rfl⟩ | ⟨g, rfl, h1, h2, _⟩
  · exact ⟨⟨h.own.1, .inl ⟨rfl, rfl⟩⟩, h.all⟩
  · exact h.keep (hk g rfl)
theorem OwnB.turned {w w' : World} {base e a n c l} (h : OwnB w base e a n c l) {d : Nat} {row : Option Nat} (ht : Turned w w' d row) (h1 : g9 a ≠ some d) (h2 : ∀ i, row = some i → g9 a ≠ some i) : OwnB w' base e a n c l :=
  h.of (fun i hi => ht.block i (h.blockLt hi).2 (fun e => h1 (by rw [hi, e])) (fun e => h2 i e hi))
theorem OwnB.first {w : World} {base e a n c l} (h : OwnB w base e a n c l) (k : Nat) (hk : k ≤ n) : OwnB w base e a k c (l.take k) := by
  have hl := h.len
  refine ⟨⟨by simp [cellsOf]; omega, ?_⟩, fun x hx => h.all x (List.mem_of_mem_take hx)⟩
  rcases h.own.2 with ⟨hv, h0⟩ | ⟨g, cap, cur, hv, hg, hh, hn, hm, hs, ht⟩
  · simp only [Value.slice.injEq] at hv
    obtain ⟨rfl, _, rfl⟩ := hv
    have : k = 0 := by omega
    subst this
    exact .inl ⟨rfl, rfl⟩
  · simp only [Value.slice.injEq] at hv
    obtain ⟨rfl, _, rfl⟩ := hv
    refine .inr ⟨g, c, cur, rfl, hg, hh, by omega, hm, hs, ?_⟩
    rw [Nat.mul_one] at ht ⊢
    rw [cellsOf, List.map_take, ← cellsOf, ← ht, List.take_take, Nat.min_eq_left hk]
section
variable {P : Program} {w : World} {ops : Array Oper} {rest : List Oper} {o : Oper} {a : Act} {Q : Exit → Act → World → Prop}
end
end Go.Proofs.YtbbkmijkllgfaaaGreatDoor.bs
end
section
namespace Go.Proofs.YtbbkmijkllgfaaaGreatDoor.bs
open Go.ChangeShapes Go.WideShapes Go.ChangeAt Go.RowKit
set_option linter.unusedVariables false
structure OwnS {α : Type} (size : Nat) (cells : α → List Value) (w : World) (base : Nat) (e : TypeId) (a : Option Addr) (n c : Nat) (l : List α) : Prop where
  own : w.ownsRow base e size (.slice a n c) n (l.flatMap cells)
  num : l.length = n
variable {α : Type} {size : Nat} {cells : α → List Value}
theorem OwnS.cases {w : World} {base e a n c} {l : List α} (h : OwnS size cells w base e a n c l) : (a = none ∧ n = 0 ∧ c = 0) ∨ ∃ g, a = some ⟨g, 0, none⟩ ∧ base ≤ g ∧ g < w.heap.size ∧ n ≤ c ∧ c ≤ maxLen := by
  rcases h.own.2 with ⟨hv, hn⟩ | ⟨g, cap, cur, hv, hg, hh, hn, hc, _⟩
  · simp only [Value.slice.injEq] at hv
    exact .inl ⟨hv.1, hn, hv.2.2⟩
  · simp only [Value.slice.injEq] at hv
    obtain ⟨rfl, _, rfl⟩ := hv
    exact .inr ⟨g, rfl, hg, (Array.getElem?_eq_some_iff.1 hh).1, hn, hc⟩
theorem OwnS.mono {w : World} {base base' e a n c} {l : List α} (h : OwnS size cells w base e a n c l) (hb : base' ≤ base) : OwnS size cells w base' e a n c l := by
  refine ⟨⟨h.own.1, ?_⟩, h.num⟩
  rcases h.own.2 with hv | ⟨g, cap, cur, hv, hg, r⟩
  · exact .inl hv
  · exact .inr ⟨g, cap, cur, hv, Nat.le_trans hb hg, r⟩
theorem OwnS.below {w w' : World} {base e a n c} {l : List α} (h : OwnS size cells w base e a n c l) (hb : Below w.heap.size w w') : OwnS size cells w' base e a n c l := by
  refine ⟨⟨h.own.1, ?_⟩, h.num⟩
  rcases h.own.2 with hv | ⟨g, cap, cur, hv, hg, hh, r⟩
  · exact .inl hv
  · exact .inr ⟨g, cap, cur, hv, hg, by rw [hb.block g (Array.getElem?_eq_some_iff.1 hh).1]; exact hh, r⟩
theorem OwnS.nil (w : World) (base : Nat) (e : TypeId) : OwnS size cells w base e none 0 0 ([] : List α) := ⟨World.ownsRow_nil w base e size, rfl⟩
theorem b7t (hz : ∀ x, (cells x).length = size) (l : List α) (i j : Nat) (x : α) (u : Value) (hi : l[i]? = some x) (hj : (cells x)[j]? = some u) : (l.flatMap cells)[i * size + j]? = some u := by
  induction l generalizing i with
  | nil => simp at hi
  | cons y l ih =>
    rw [List.flatMap_cons]
    cases i with
    | zero =>
      simp only [List.getElem?_cons_zero, Option.some.injEq] at hi
      subst hi
      rw [Nat.zero_mul, Nat.zero_add, List.getElem?_append_left (List.getElem?_eq_some_iff.1 hj).1]
      exact hj
    | succ i =>
      rw [List.getElem?_cons_succ] at hi
      rw [List.getElem?_append_right (by rw [hz, Nat.succ_mul]; omega), hz, show (i + 1) * size + j - size = i * size + j by rw [Nat.succ_mul]; omega]
      exact ih i hi
theorem OwnS.recs {w : World} {base e a n c} {l : List α} (h : OwnS size cells w base e a n c l) (hpos : 0 < size) (hz : ∀ x, (cells x).length = size) (Elem : World → Nat → Nat → α → Prop)
    (hel : ∀ b o x, x ∈ l → (∀ j u, (cells x)[j]? = some u → w.cell? ⟨b, o + j, none⟩ = some u) → Elem w b o x) : Recs size Elem w a n c l := by
  rcases h.cases with ⟨rfl, rfl, rfl⟩ | ⟨g, rfl, hg, hs, hn, hc⟩
  · exact ⟨h.num, Nat.le_refl _, by omega, fun _ => rfl, .inl rfl⟩
  · refine ⟨h.num, hn, by unfold maxLen at hc; omega, by simp, .inr ⟨g, 0, rfl, hs, fun i x hi => ?_⟩⟩
    have hil : i < n := by rw [← h.num]; exact (List.getElem?_eq_some_iff.1 hi).1
    refine hel g _ x (List.mem_of_getElem? hi) (fun j u hj => ?_)
    have hjs : j < size := by rw [← hz x]; exact (List.getElem?_eq_some_iff.1 hj).1
    have hb : i * size + j < n * size := by
      have := Nat.mul_le_mul_right size (show i + 1 ≤ n by omega)
      rw [Nat.succ_mul] at this
      omega
    rw [Nat.zero_add, h.own.cellAt (i * size + j) hb]
    exact b7t hz l i j x u hi hj
structure RecT (P : Program) (t e : TypeId) (z : Value) (size bytes : Nat) : Prop where
  und : P.underlying t = some (.slice e)
  info : (P.info? e).map (fun i => (i.zero, i.size, i.bytes)) = some (some z, size, bytes)
  zero : z.cells.size = size
theorem a3i {P : Program} {t e : TypeId} {z : Value} {bytes : Nat} (T : RecT P t e z size bytes) (hpos : 0 < size) (ty : TypeId) (w : World) (base : Nat) {a n c} {l : List α} (h : OwnS size cells w base e a n c l)
    (x : α) (hx : (cells x).length = size) (h1 : ∀ u ∈ cells x, u.oneCell' = true) (ad : Addr) (c' : Nat) (hc : ∀ j u, (cells x)[j]? = some u → w.cell? (ad.add j) = some u)
    (hm : n + 1 ≤ maxLen) (hn : (n + 1) * bytes ≤ 140737488355328) (hbase : base ≤ w.heap.size) :
    ∃ a2 c2 w', (Builtin.append_ #[t, t] ty #[.slice a n c, .slice (some ad) 1 c']).run P w = .ok (.slice a2 (n + 1) c2) w' ∧ OwnS size cells w' base e a2 (n + 1) c2 (l ++ [x]) ∧ Below base w w' ∧ w.grownBy w' (Value.ownBlock (.slice a n c)) := by
  obtain ⟨i0, hi, hz0, hz1, hz2⟩ := info_parts T.info
  have hz3 := T.zero
  obtain ⟨v', w', hr, ho, hg, hnil⟩ := run_append_own (P := P) w base t ty e i0 z size bytes T.und hi hz0 hz1 hz2 hz3 hpos (.slice a n c) n (l.flatMap cells) h.own ad 1 c' (cells x) (by rw [hx, Nat.one_mul]) hc h1 hm hn hbase
  have hbel : Below base w w' := (Below.refl base w).grown hg hbase (fun k hk => (h.own.lt k hk).1)
  have he : (l ++ [x]).flatMap cells = l.flatMap cells ++ cells x := by simp
  rcases ho.2 with ⟨rfl, h0⟩ | ⟨g, cap, cur, rfl, hgb, hh, r⟩
  · omega
  · exact ⟨some ⟨g, 0, none⟩, cap, w', hr, ⟨by rw [he]; exact ho, by simp [h.num]⟩, hbel, hg⟩
section
variable {P : Program} {w : World} {ops : Array Oper} {rest : List Oper} {o : Oper} {a : Act} {Q : Exit → Act → World → Prop}
theorem a7v {K : Act → World → Prop} {E : Prop} {t e : TypeId} {z : Value} {bytes : Nat} (T : RecT P t e z size bytes) (hpos : 0 < size) (hgd : o.guard = none) (s y : Operand) (ho : o.op = .call { callee := .builtin .append, args := #[s, y], argTypes := #[t, t] })
    (base : Nat) {b n c} {l : List α} (hs : a.eval s = .slice b n c) (h : OwnS size cells w base e b n c l) {ad c'} (hy : a.eval y = .slice (some ad) 1 c') (x : α) (hx : (cells x).length = size) (h1 : ∀ u ∈ cells x, u.oneCell' = true)
    (hc : ∀ j u, (cells x)[j]? = some u → w.cell? (ad.add j) = some u) (hn : (n + 1) * bytes ≤ 140737488355328) (hm : n + 1 ≤ maxLen) (hbase : base ≤ w.heap.size)
    (k : ∀ a2 c2 w', OwnS size cells w' base e a2 (n + 1) c2 (l ++ [x]) → Below base w w' → w.grownBy w' (Value.ownBlock (.slice b n c)) → K (a.put o.dst (.slice a2 (n + 1) c2)) w') :
    if Region.wanted o (yielded ops a.tmps) = true then Oper.wp P o a w K Q else E := by
  have hw : Region.wanted o (yielded ops a.tmps) = true := by simp [Region.wanted, hgd]
  rw [if_pos hw]
  obtain ⟨a2, c2, w', hr, h2, h3, h4⟩ := a3i T hpos o.type w base h x hx h1 ad c' hc hm hn hbase
  unfold Oper.wp execOp
  simp only [ho, resolve, invoke, builtin, Sem.run_bind, Sem.run_pure, Result.andThen_ok, List.map_toArray, List.map_cons, List.map_nil, hs, hy, hr]
  exact k a2 c2 w' h2 h3 h4
end
theorem a7u (W : World) (cs : List Value) (e : TypeId) : ∀ j u, cs[j]? = some u → (W.alloc (.cells cs.toArray e)).cell? ((⟨W.heap.size, 0, none⟩ : Addr).add j) = some u := by
  intro j u h
  have hadd : (⟨W.heap.size, 0, none⟩ : Addr).add j = ⟨W.heap.size, j, none⟩ := by unfold Addr.add; split <;> simp_all
  rw [hadd, c1c _ _ _ _ _ rfl, List.getElem?_toArray]
  exact h
end Go.Proofs.YtbbkmijkllgfaaaGreatDoor.bs
end
