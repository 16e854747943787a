import Derived.Test.YthmdllhhmhbhbaaGreatDoorPkR10
import Derived.Test.YthmdllhhmhbhbaaGreatDoorPkR5
set_option maxRecDepth 100000
set_option maxHeartbeats 4000000
section
namespace Go.Proofs.YthmdllhhmhbhbaaGreatDoor.am
open Go.ChangeShapes Go.WideShapes Go.ChangeAt Go.RowKit
open vt
set_option linter.unusedVariables false
set_option linter.unusedSimpArgs false
theorem b7o (m ret : VT) (B : Nat) (j : JS) (E : List VT) (hE : OkV j.lo E) (hc : CnJ m j.lo B) (t : VT) (ht : p6 t) (hts : t.size ≤ 400000) : Row Tryz.prog 91 [.v (.c (.ptr 0 0)), vT t] [bxJ 1 m ret j.lo.length j.at' j.er, arJ E] (vT (doJ m t j).1) [some (bxJ 1 m ret j.lo.length (doJ m t j).2.at' (doJ m t j).2.er), some (arJ E)] := by
  unfold doJ
  dsimp only
  by_cases h16 : t.lab.k = 16
  · rw [if_pos h16]
    have he := a0l m ret B j E hE hc t ht hts
    obtain ⟨⟨⟨kx, kl⟩, ⟨sx, sl⟩, ⟨L', a', e'⟩⟩, hx⟩ : ∃ r, l5 m t j = r := ⟨_, rfl⟩
    rw [hx] at he ⊢
    dsimp only at he ⊢
    clear hx hc
    obtain ⟨L, a, e⟩ := j
    obtain ⟨x, l⟩ := t
    rw [Tr.lab] at h16
    obtain ⟨mx, ml⟩ := m
    obtain ⟨rx, rl⟩ := ret
    refine e8 Tryz.func91 rfl rfl (Nat.le_of_ble_eq_true rfl) ?_
    repeat' (first | refine d7 ?_ | refine b9 ?_ | refine a8 ?_ | refine b8 ?_ | refine f7 rfl ?_ | refine f6 rfl ?_ | ((first | refine d6 (fun K hK => ?_) | refine d8 f8 (fun K hK => ?_) | refine b7 (cg he [0,1] ?_) | refine a6 (dg he [0,1] ?_) | fail); simp -implicitDefEqProofs [h16]) | refine hK _ ?_ | refine hK _ _ (by rfl) ?_ | fail)
    refine e7 (j6 [0, 1] ?_); simp -implicitDefEqProofs [l4, g7, g9] <;> try rfl
  · rw [if_neg h16]
    have hlo := u5 t.lab 12 j
    have hf0 : p7 t.lab 12 j = ⟨j.lo, if j.er = 0 then t.lab.f else j.at', if j.er = 0 then 12 else j.er⟩ := by
      unfold p7
      split <;> rfl
    have he := a0l m ret B (p7 t.lab 12 j) E (by rw [hlo]; exact hE) (by rw [hlo]; exact hc) t ht hts
    obtain ⟨⟨⟨kx, kl⟩, ⟨sx, sl⟩, ⟨L', a', e'⟩⟩, hx⟩ : ∃ r, l5 m t (p7 t.lab 12 j) = r := ⟨_, rfl⟩
    rw [hx] at he ⊢
    rw [hf0] at he
    dsimp only at he ⊢
    clear hx hc hlo hf0
    obtain ⟨L, a, e⟩ := j
    obtain ⟨x, l⟩ := t
    dsimp only at he ⊢
    have hf := n4 m ret L.length E a e x l 12
    rw [Tr.lab] at h16 he
    generalize (if e = 0 then x.f else a) = a1 at he hf
    generalize (if e = 0 then (12 : Int) else e) = e1 at he hf
    obtain ⟨mx, ml⟩ := m
    obtain ⟨rx, rl⟩ := ret
    refine e8 Tryz.func91 rfl rfl (Nat.le_of_ble_eq_true rfl) ?_
    repeat' (first | refine d7 ?_ | refine b9 ?_ | refine a8 ?_ | refine b8 ?_ | refine f7 rfl ?_ | refine f6 rfl ?_ | ((first | refine d6 (fun K hK => ?_) | refine d8 f8 (fun K hK => ?_) | refine b7 (cg hf [0,1] ?_) | refine a6 (dg hf [0,1] ?_) | refine b7 (cg he [0,1] ?_) | refine a6 (dg he [0,1] ?_) | fail); simp -implicitDefEqProofs [h16]) | refine hK _ ?_ | refine hK _ _ (by rfl) ?_ | fail)
    refine e7 (j6 [0, 1] ?_); simp -implicitDefEqProofs [l4, g7, g9] <;> try rfl
theorem b7p (t : VT) : t.size ≤ 1000000 → Row Tryz.prog 137 [vT t] [] (vT (a29 t)) [] := by
  intro hts
  obtain ⟨R, hR⟩ : ∃ R, a29 t = R := ⟨_, rfl⟩
  rw [hR]
  obtain ⟨rx, rl⟩ := R
  refine e8 Tryz.func137 rfl rfl (Nat.le_of_ble_eq_true rfl) ?_
  repeat (first | refine d7 ?_ | refine b9 ?_ | refine a8 ?_ | refine b8 ?_ | refine f7 rfl ?_ | refine f6 rfl ?_ | ((first | refine d6 (fun K hK => ?_) | refine d8 f8 (fun K hK => ?_) | fail); simp -implicitDefEqProofs; first | refine hK _ ?_ | refine hK _ _ (by rfl) ?_ | fail) | fail)
  refine v7 (ι := VT) (fun u => a0w [(1, .v (.c (.ptr 0 0))), (2, .v (.c (.ptr 1 0)))] [some (.box (ta u)), some zTb]) (fun u => a29 u = .mk rx rl) (fun u => u.size) t hR (i6 [0, 1] (by simp -implicitDefEqProofs) (by simp -implicitDefEqProofs) (by decide) rfl (by simp)) (fun Z hI u hu => ?_)
  obtain ⟨ux, ul⟩ := u
  rw [a8g] at hu
  by_cases hc : (ux.k = 12 ∨ ux.k = 13) ∧ 0 < ul.length; rotate_left
  · rw [if_neg hc] at hu
    obtain ⟨rfl, rfl⟩ := (Tr.mk.injEq _ _ _ _).mp hu
    by_cases k12 : ux.k = 12
    · have h0 : ul = [] := List.eq_nil_of_length_eq_zero (by have := fun h => hc ⟨.inl k12, h⟩; omega)
      subst h0
      repeat (first | refine d7 ?_ | refine b9 ?_ | refine a8 ?_ | refine b8 ?_ | refine f7 rfl ?_ | refine f6 rfl ?_ | ((first | refine d6 (fun K hK => ?_) | refine d8 f8 (fun K hK => ?_) | fail); simp -implicitDefEqProofs [k12]; first | refine hK _ ?_ | refine hK _ _ (by rfl) ?_ | fail) | fail)
      refine e7 (e9 ?_); simp -implicitDefEqProofs [j9, g7, g9, k12] <;> try rfl
    · by_cases k13 : ux.k = 13
      · have h0 : ul = [] := List.eq_nil_of_length_eq_zero (by have := fun h => hc ⟨.inr k13, h⟩; omega)
        subst h0
        repeat (first | refine d7 ?_ | refine b9 ?_ | refine a8 ?_ | refine b8 ?_ | refine f7 rfl ?_ | refine f6 rfl ?_ | ((first | refine d6 (fun K hK => ?_) | refine d8 f8 (fun K hK => ?_) | fail); simp -implicitDefEqProofs [k12, k13]; first | refine hK _ ?_ | refine hK _ _ (by rfl) ?_ | fail) | fail)
        refine e7 (e9 ?_); simp -implicitDefEqProofs [j9, g7, g9, k13] <;> try rfl
      · repeat (first | refine d7 ?_ | refine b9 ?_ | refine a8 ?_ | refine b8 ?_ | refine f7 rfl ?_ | refine f6 rfl ?_ | ((first | refine d6 (fun K hK => ?_) | refine d8 f8 (fun K hK => ?_) | fail); simp -implicitDefEqProofs [k12, k13]; first | refine hK _ ?_ | refine hK _ _ (by rfl) ?_ | fail) | fail)
        refine e7 (e9 ?_); simp -implicitDefEqProofs [j9, g7, g9] <;> try rfl
  · rw [if_pos hc] at hu
    obtain ⟨hk, hl⟩ := hc
    cases ul with
    | nil => simp at hl
    | cons v r =>
      rw [List.map_cons, List.getD_cons_zero] at hu
      have hsz := Tr.size_at (x := ux) (l := v :: r) (i := 0) rfl
      obtain ⟨vx, vl⟩ := v
      have pos : (0 : Int) < (r.length : Nat) + 1 := by omega
      rcases hk with hk | hk
      · repeat (first | refine d7 ?_ | refine b9 ?_ | refine a8 ?_ | refine b8 ?_ | refine f7 rfl ?_ | refine f6 rfl ?_ | ((first | refine d6 (fun K hK => ?_) | refine d8 f8 (fun K hK => ?_) | fail); simp -implicitDefEqProofs [hk, pos]; first | refine hK _ ?_ | refine hK _ _ (by rfl) ?_ | fail) | fail)
        refine ⟨.mk vx vl, hu, hsz, ?_⟩
        rw [hI]; exact i6 [0, 1] (by simp -implicitDefEqProofs) (by simp -implicitDefEqProofs) (by decide) rfl (by simp)
      · have k12 : ¬ ux.k = 12 := by omega
        repeat (first | refine d7 ?_ | refine b9 ?_ | refine a8 ?_ | refine b8 ?_ | refine f7 rfl ?_ | refine f6 rfl ?_ | ((first | refine d6 (fun K hK => ?_) | refine d8 f8 (fun K hK => ?_) | fail); simp -implicitDefEqProofs [hk, k12, pos]; first | refine hK _ ?_ | refine hK _ _ (by rfl) ?_ | fail) | fail)
        refine ⟨.mk vx vl, hu, hsz, ?_⟩
        rw [hI]; exact i6 [0, 1] (by simp -implicitDefEqProofs) (by simp -implicitDefEqProofs) (by decide) rfl (by simp)
theorem c02 (m ret : VT) (B : Nat) (j : JS) (E : List VT) (hE : OkV j.lo E) (hc : CnJ m j.lo B) (x : Lab) (a b : VT) (ha : p6 a) (hb : p6 b) (has : a.size ≤ 400000) (hbs : b.size ≤ 400000) : Row Tryz.prog 85 [.v (.c (.ptr 0 0)), vT (.mk x [a, b])] [bxJ 1 m ret j.lo.length j.at' j.er, arJ E] (vLs (b0a m x [a, b] j).1) [some (bxJ 1 m ret j.lo.length (b0a m x [a, b] j).2.at' (b0a m x [a, b] j).2.er), some (arJ E)] := by
  have hms : m.size ≤ 1000000 := by have := hc.hm.2; have := hc.hB; omega
  have h1 := a0l m ret B j E hE hc a ha has
  have hl1 := y3 m a j
  have hf1 := a41 (N := 400000) hc.hm hms ⟨hc.hL, hc.hl⟩ ha (by omega)
  have hB := hc.hB
  unfold b0a
  simp only [List.getD_cons_zero, List.getD_cons_succ]
  obtain ⟨⟨⟨kx, kl⟩, ⟨sx, sl⟩, j1⟩, hx1⟩ : ∃ r, l5 m a j = r := ⟨_, rfl⟩
  rw [hx1] at h1 hl1 hf1 ⊢
  dsimp only at h1 hl1 hf1 ⊢
  have h2 := a0l m ret B j1 E (by rw [hl1]; exact hE) (by rw [hl1]; exact hc) b hb hbs
  have hl2 := y3 m b j1
  have hf2 := a41 (j := j1) (N := 400000) hc.hm hms ⟨by rw [hl1]; exact hc.hL, by rw [hl1]; exact hc.hl⟩ hb (by omega)
  obtain ⟨⟨⟨px, pl⟩, ⟨qx, ql⟩, j2⟩, hx2⟩ : ∃ r, l5 m b j1 = r := ⟨_, rfl⟩
  rw [hx2] at h2 hl2 hf2 ⊢
  dsimp only at h2 hl2 hf2 ⊢
  rw [hl1] at h2 hl2
  have hsm := a1u (.mk kx kl) (by have := hf1.2; omega) (.mk px pl) (by have := hf2.2; omega)
  have hro := b7p a (by omega)
  clear hx1 hx2 hl1 hc hf1 hf2
  obtain ⟨L, a0, e0⟩ := j
  obtain ⟨L1, a1, e1⟩ := j1
  obtain ⟨L2, a2, e2⟩ := j2
  dsimp only at h1 h2 hl2 hE ⊢
  subst hl2
  obtain ⟨ax, al⟩ := a
  obtain ⟨bx, bl⟩ := b
  obtain ⟨⟨ux, ul⟩, hu⟩ : ∃ r, a29 (.mk ax al) = r := ⟨_, rfl⟩
  rw [hu] at hro ⊢
  rw [Tr.lab]
  obtain ⟨q, hq⟩ : ∃ q, same (.mk kx kl) (.mk px pl) = q := ⟨_, rfl⟩
  rw [hq] at hsm ⊢
  clear hu hq
  have hfl := fun (a e : Int) => n4 m ret L2.length E a e ax al 12
  have hfx := fun (a e : Int) => n4 m ret L2.length E a e x [.mk ax al, .mk bx bl] 10
  have key : ∀ (a e : Int) (w : Int) (y : Lab), p7 y w ⟨L2, a, e⟩ = ⟨L2, if e = 0 then y.f else a, if e = 0 then w else e⟩ := fun a e w y => by unfold p7; dsimp only; split <;> rfl
  rw [Tr.lab]
  by_cases hk : ux.k = 7 ∨ ux.k = 9
  · rw [if_pos hk]
    have hg := hfx a2 e2
    clear hfl hfx
    cases q with
    | true =>
      rw [if_pos rfl]
      clear hg
      obtain ⟨mx, ml⟩ := m
      obtain ⟨rx, rl⟩ := ret
      rcases hk with hk | hk
      · refine e8 Tryz.func85 rfl rfl (Nat.le_of_ble_eq_true rfl) ?_
        repeat' (first | refine d7 ?_ | refine b9 ?_ | refine a8 ?_ | refine b8 ?_ | refine f7 rfl ?_ | refine f6 rfl ?_ | ((first | refine d6 (fun K hK => ?_) | refine d8 f8 (fun K hK => ?_) | refine b7 (cg h1 [0,1] ?_) | refine a6 (dg h1 [0,1] ?_) | refine b7 (cg h2 [0,1] ?_) | refine a6 (dg h2 [0,1] ?_) | refine b7 (cp hro ?_) | refine a6 (dp hro ?_) | refine b7 (cp hsm ?_) | refine a6 (dp hsm ?_) | fail); simp -implicitDefEqProofs [hk]) | refine hK _ ?_ | refine hK _ _ (by rfl) ?_ | fail)
        refine e7 (j6 [0, 1] ?_); simp -implicitDefEqProofs [l4, g7, g9] <;> try rfl
      · have h7 : ¬ ux.k = 7 := by omega
        refine e8 Tryz.func85 rfl rfl (Nat.le_of_ble_eq_true rfl) ?_
        repeat' (first | refine d7 ?_ | refine b9 ?_ | refine a8 ?_ | refine b8 ?_ | refine f7 rfl ?_ | refine f6 rfl ?_ | ((first | refine d6 (fun K hK => ?_) | refine d8 f8 (fun K hK => ?_) | refine b7 (cg h1 [0,1] ?_) | refine a6 (dg h1 [0,1] ?_) | refine b7 (cg h2 [0,1] ?_) | refine a6 (dg h2 [0,1] ?_) | refine b7 (cp hro ?_) | refine a6 (dp hro ?_) | refine b7 (cp hsm ?_) | refine a6 (dp hsm ?_) | fail); simp -implicitDefEqProofs [hk, h7]) | refine hK _ ?_ | refine hK _ _ (by rfl) ?_ | fail)
        refine e7 (j6 [0, 1] ?_); simp -implicitDefEqProofs [l4, g7, g9] <;> try rfl
    | false =>
      rw [if_neg (by simp), key]
      dsimp only
      generalize (if e2 = 0 then x.f else a2) = a3 at hg ⊢
      generalize (if e2 = 0 then (10 : Int) else e2) = e3 at hg ⊢
      obtain ⟨mx, ml⟩ := m
      obtain ⟨rx, rl⟩ := ret
      rcases hk with hk | hk
      · refine e8 Tryz.func85 rfl rfl (Nat.le_of_ble_eq_true rfl) ?_
        repeat' (first | refine d7 ?_ | refine b9 ?_ | refine a8 ?_ | refine b8 ?_ | refine f7 rfl ?_ | refine f6 rfl ?_ | ((first | refine d6 (fun K hK => ?_) | refine d8 f8 (fun K hK => ?_) | refine b7 (cg h1 [0,1] ?_) | refine a6 (dg h1 [0,1] ?_) | refine b7 (cg h2 [0,1] ?_) | refine a6 (dg h2 [0,1] ?_) | refine b7 (cp hro ?_) | refine a6 (dp hro ?_) | refine b7 (cp hsm ?_) | refine a6 (dp hsm ?_) | refine b7 (cg hg [0,1] ?_) | refine a6 (dg hg [0,1] ?_) | fail); simp -implicitDefEqProofs [hk]) | refine hK _ ?_ | refine hK _ _ (by rfl) ?_ | fail)
        refine e7 (j6 [0, 1] ?_); simp -implicitDefEqProofs [l4, g7, g9] <;> try rfl
      · have h7 : ¬ ux.k = 7 := by omega
        refine e8 Tryz.func85 rfl rfl (Nat.le_of_ble_eq_true rfl) ?_
        repeat' (first | refine d7 ?_ | refine b9 ?_ | refine a8 ?_ | refine b8 ?_ | refine f7 rfl ?_ | refine f6 rfl ?_ | ((first | refine d6 (fun K hK => ?_) | refine d8 f8 (fun K hK => ?_) | refine b7 (cg h1 [0,1] ?_) | refine a6 (dg h1 [0,1] ?_) | refine b7 (cg h2 [0,1] ?_) | refine a6 (dg h2 [0,1] ?_) | refine b7 (cp hro ?_) | refine a6 (dp hro ?_) | refine b7 (cp hsm ?_) | refine a6 (dp hsm ?_) | refine b7 (cg hg [0,1] ?_) | refine a6 (dg hg [0,1] ?_) | fail); simp -implicitDefEqProofs [hk, h7]) | refine hK _ ?_ | refine hK _ _ (by rfl) ?_ | fail)
        refine e7 (j6 [0, 1] ?_); simp -implicitDefEqProofs [l4, g7, g9] <;> try rfl
  · rw [if_neg hk, key]
    have h7 : ¬ ux.k = 7 := fun h => hk (.inl h)
    have h9 : ¬ ux.k = 9 := fun h => hk (.inr h)
    have hfi := hfl a2 e2
    generalize (if e2 = 0 then ax.f else a2) = a3 at hfi ⊢
    generalize (if e2 = 0 then (12 : Int) else e2) = e3 at hfi ⊢
    have hg := hfx a3 e3
    clear hfl hfx
    cases q with
    | true =>
      rw [if_pos rfl]
      clear hg
      obtain ⟨mx, ml⟩ := m
      obtain ⟨rx, rl⟩ := ret
      refine e8 Tryz.func85 rfl rfl (Nat.le_of_ble_eq_true rfl) ?_
      repeat' (first | refine d7 ?_ | refine b9 ?_ | refine a8 ?_ | refine b8 ?_ | refine f7 rfl ?_ | refine f6 rfl ?_ | ((first | refine d6 (fun K hK => ?_) | refine d8 f8 (fun K hK => ?_) | refine b7 (cg h1 [0,1] ?_) | refine a6 (dg h1 [0,1] ?_) | refine b7 (cg h2 [0,1] ?_) | refine a6 (dg h2 [0,1] ?_) | refine b7 (cp hro ?_) | refine a6 (dp hro ?_) | refine b7 (cp hsm ?_) | refine a6 (dp hsm ?_) | refine b7 (cg hfi [0,1] ?_) | refine a6 (dg hfi [0,1] ?_) | fail); simp -implicitDefEqProofs [h7, h9]) | refine hK _ ?_ | refine hK _ _ (by rfl) ?_ | fail)
      refine e7 (j6 [0, 1] ?_); simp -implicitDefEqProofs [l4, g7, g9] <;> try rfl
    | false =>
      rw [if_neg (by simp), key]
      dsimp only
      generalize (if e3 = 0 then x.f else a3) = a4 at hg ⊢
      generalize (if e3 = 0 then (10 : Int) else e3) = e4 at hg ⊢
      obtain ⟨mx, ml⟩ := m
      obtain ⟨rx, rl⟩ := ret
      refine e8 Tryz.func85 rfl rfl (Nat.le_of_ble_eq_true rfl) ?_
      repeat' (first | refine d7 ?_ | refine b9 ?_ | refine a8 ?_ | refine b8 ?_ | refine f7 rfl ?_ | refine f6 rfl ?_ | ((first | refine d6 (fun K hK => ?_) | refine d8 f8 (fun K hK => ?_) | refine b7 (cg h1 [0,1] ?_) | refine a6 (dg h1 [0,1] ?_) | refine b7 (cg h2 [0,1] ?_) | refine a6 (dg h2 [0,1] ?_) | refine b7 (cp hro ?_) | refine a6 (dp hro ?_) | refine b7 (cp hsm ?_) | refine a6 (dp hsm ?_) | refine b7 (cg hfi [0,1] ?_) | refine a6 (dg hfi [0,1] ?_) | refine b7 (cg hg [0,1] ?_) | refine a6 (dg hg [0,1] ?_) | fail); simp -implicitDefEqProofs [h7, h9]) | refine hK _ ?_ | refine hK _ _ (by rfl) ?_ | fail)
      refine e7 (j6 [0, 1] ?_); simp -implicitDefEqProofs [l4, g7, g9] <;> try rfl
def SOk (m ret y : VT) : Prop := ∀ (j : JS) (E : List VT), ∃ E', ∀ B : Nat, OkV j.lo E → Cm m j.lo ret B y.size → OkV (j7 m ret y j).2.lo E' ∧ Row Tryz.prog 55 [.v (.c (.ptr 0 0)), vT y] [bxJ 1 m ret j.lo.length j.at' j.er, arJ E] (vT (j7 m ret y j).1) [some (bxJ 2 m ret (j7 m ret y j).2.lo.length (j7 m ret y j).2.at' (j7 m ret y j).2.er), none, some (arJ E')]
theorem b8o {m ret : VT} {l : List VT} (h : ∀ y ∈ l, SOk m ret y) : ∃ F : VT → JS → List VT → List VT, ∀ y ∈ l, ∀ (j : JS) (E : List VT) (B : Nat), OkV j.lo E → Cm m j.lo ret B y.size → OkV (j7 m ret y j).2.lo (F y j E) ∧ Row Tryz.prog 55 [.v (.c (.ptr 0 0)), vT y] [bxJ 1 m ret j.lo.length j.at' j.er, arJ E] (vT (j7 m ret y j).1) [some (bxJ 2 m ret (j7 m ret y j).2.lo.length (j7 m ret y j).2.at' (j7 m ret y j).2.er), none, some (arJ (F y j E))] := by
  classical
  refine ⟨fun y j E => if hy : y ∈ l then Classical.choose (h y hy j E) else E, fun y hy j E B h1 h2 => ?_⟩
  have := Classical.choose_spec (h y hy j E) B h1 h2
  simp only [dif_pos hy]
  exact this
noncomputable def eqJ (m ret : VT) (F : VT → JS → List VT → List VT) : List VT → JS → List VT → List VT
  | [], j, E => E
  | y :: r, j, E => eqJ m ret F r (j7 m ret y j).2 (F y j E)
theorem a2z (m ret : VT) (F : VT → JS → List VT → List VT) (y : VT) : ∀ (l : List VT) (j : JS) (E : List VT), eqJ m ret F (l ++ [y]) j E = F y (t8 (l.map (j7 m ret)) j).2 (eqJ m ret F l j E)
  | [], j, E => rfl
  | z :: l, j, E => by
    rw [List.cons_append, eqJ, a2z m ret F y l]
    rfl
theorem c2z {m ret : VT} {l r : List VT} {j : JS} {B : Nat} (hin : ∀ y ∈ l, p6 y) (h : Cm m j.lo ret B ((l.map Tr.size).sum + (r.map Tr.size).sum)) : Cm m (t8 (l.map (j7 m ret)) j).2.lo ret (B + (l.map Tr.size).sum) (r.map Tr.size).sum := by
  have h1 := h.len
  have h2 := h.le
  have hm := h.hm
  have := b3u (m := m) (ret := ret) (l := l) (B0 := B) (fun y hy k C N hC hk hb => c3b hm (by have := hm.2; omega) y (hin y hy) k C N hC hk hb) j B j.lo.length (Nat.le_refl _) ⟨h.hL, Nat.le_refl _⟩ (by omega)
  exact ⟨hm.le (by omega), this.fine, by have := this.len; omega, by omega, h.ret⟩
theorem b71 {L E : List VT} (h : OkV L E) (n : Nat) : OkV (L.take n) E := by
  refine ⟨?_, by rw [List.length_take]; have := h.2; omega⟩
  have e : E.take (L.take n).length = (E.take L.length).take n := by
    rw [List.take_take, List.length_take]
  rw [e, h.1]
abbrev fnS' : AV := .v (.c (.fn (.func 55) [.ptr 0 0] []))
theorem b4r (m ret : VT) (x : Lab) (l : List VT) (h : ∀ y ∈ l, SOk m ret y) (hin : ∀ y ∈ l, p6 y) (j : JS) (E : List VT) : ∃ E', ∀ B : Nat, OkV j.lo E → Cm m j.lo ret B (l.map Tr.size).sum → OkV (a6j (l.map (j7 m ret)) j).2.lo E' ∧ Row Tryz.prog 83 [.v (.c (.ptr 0 0)), vT (.mk x l), fnS'] [bxJ 1 m ret j.lo.length j.at' j.er, arJ E] (vLs (a6j (l.map (j7 m ret)) j).1) [some (bxJ 2 m ret (a6j (l.map (j7 m ret)) j).2.lo.length (a6j (l.map (j7 m ret)) j).2.at' (a6j (l.map (j7 m ret)) j).2.er), none, some (arJ E')] := by
  obtain ⟨F, hF⟩ := b8o h
  refine ⟨eqJ m ret F l j E, fun B hE hc => ?_⟩
  have hlen : l.length ≤ (l.map Tr.size).sum := by
    have := Tr.len_size (x := x) (l := l)
    rw [Tr.size_mk] at this
    omega
  have hcl := hc.len
  -- the state behind the first k statements
  have hok : ∀ k, k ≤ l.length → OkV (t8 ((l.take k).map (j7 m ret)) j).2.lo (eqJ m ret F (l.take k) j E) ∧ Cm m (t8 ((l.take k).map (j7 m ret)) j).2.lo ret (B + ((l.take k).map Tr.size).sum) ((l.drop k).map Tr.size).sum := by
    intro k
    induction k with
    | zero =>
      intro _
      exact ⟨hE, by show Cm m j.lo ret _ _; simpa using hc⟩
    | succ k ihk =>
      intro hk
      obtain ⟨i1, i2⟩ := ihk (by omega)
      have hy : l[k]? = some (l[k]'(by omega)) := List.getElem?_eq_getElem _
      have ht : l.take (k + 1) = l.take k ++ [l[k]'(by omega)] := by rw [List.take_add_one, hy]; rfl
      have hsm : ((l.take (k + 1)).map Tr.size).sum + ((l.drop (k + 1)).map Tr.size).sum = (l.map Tr.size).sum := by
        rw [← List.sum_append, ← List.map_append, List.take_append_drop]
      refine ⟨?_, c2z (fun y hy => hin y (List.mem_of_mem_take hy)) (by rw [hsm]; exact hc)⟩
      rw [ht, List.map_append, List.map_cons, List.map_nil, a1s, a2z]
      have hd : l.drop k = l[k]'(by omega) :: l.drop (k + 1) := List.drop_eq_getElem_cons (by omega)
      rw [hd, List.map_cons, List.sum_cons] at i2
      exact (hF _ (List.getElem_mem _) _ _ _ i1 (i2.less (by omega))).1
  have hge := b3t (m := m) (ret := ret) (l := l) (fun y hy => c3a m ret y) j
  have hfin := hok l.length (Nat.le_refl _)
  rw [List.take_length] at hfin
  constructor
  · unfold a6j
    split
    · exact hfin.1
    · exact b71 hfin.1 _
  have hn := hc.hm.2
  obtain ⟨L, a, e⟩ := j
  dsimp only at hE hc hcl hge
  have s0 : t8 (((l.take 0)).map (j7 m ret)) ⟨L, a, e⟩ = ([], ⟨L, a, e⟩) := rfl
  have q0 : eqJ m ret F (l.take 0) ⟨L, a, e⟩ E = E := rfl
  have hE2 := hE.2
  obtain ⟨⟨P, ⟨L3, a3, e3⟩⟩, hB⟩ : ∃ r, a6j (l.map (j7 m ret)) ⟨L, a, e⟩ = r := ⟨_, rfl⟩
  rw [hB]
  dsimp only
  unfold a6j at hB
  obtain ⟨mx, ml⟩ := m
  obtain ⟨rx, rl⟩ := ret
  refine e8 Tryz.func83 rfl rfl (Nat.le_of_ble_eq_true rfl) ?_
  repeat (first | refine d7 ?_ | refine b9 ?_ | refine a8 ?_ | refine b8 ?_ | refine f7 rfl ?_ | refine f6 rfl ?_ | ((first | refine d6 (fun K hK => ?_) | refine d8 f8 (fun K hK => ?_) | fail); simp -implicitDefEqProofs; first | refine hK _ ?_ | refine hK _ _ (by rfl) ?_ | fail) | fail)
  refine a9f 8 24 6 (by simp) ?_
  unfold St.nil
  repeat (first | refine d7 ?_ | refine b9 ?_ | refine a8 ?_ | refine b8 ?_ | refine f7 rfl ?_ | refine f6 rfl ?_ | ((first | refine d6 (fun K hK => ?_) | refine d8 f8 (fun K hK => ?_) | fail); simp -implicitDefEqProofs; first | refine hK _ ?_ | refine hK _ _ (by rfl) ?_ | fail) | fail)
  refine l9 1 0 12 _ 24 6 L.length (E.map tc) rfl rfl (.inr rfl) (by dsimp only; omega) (by dsimp only; omega) ?_
  simp [St.mvw]
  refine v7 (ι := Nat) (fun k => a0w [(0, .v (.c (.ptr 0 0))), (2, fnS'), (7, vI (L.length : Nat)), (8, .v (.c (.row 3 6 ((t8 ((l.take k).map (j7 (.mk mx ml) (.mk rx rl))) ⟨L, a, e⟩).1.map tc)))), (17, vLs l), (18, vI (l.length : Nat)), (19, vI (k : Nat))] [some (bxJ 2 (.mk mx ml) (.mk rx rl) (t8 ((l.take k).map (j7 (.mk mx ml) (.mk rx rl))) ⟨L, a, e⟩).2.lo.length (t8 ((l.take k).map (j7 (.mk mx ml) (.mk rx rl))) ⟨L, a, e⟩).2.at' (t8 ((l.take k).map (j7 (.mk mx ml) (.mk rx rl))) ⟨L, a, e⟩).2.er), none, some (arJ (eqJ (.mk mx ml) (.mk rx rl) F (l.take k) ⟨L, a, e⟩ E)), some (.row 24 6)]) (fun k => k ≤ l.length) (fun k => l.length - k) 0 (Nat.zero_le _) (by rw [s0, q0]; exact a2f [15] rfl (by simp -implicitDefEqProofs) (by simp -implicitDefEqProofs) (by first | decide | (simp; done)) rfl (by simp)) (fun Z hI k hk => ?_)
  by_cases hkl : k < l.length; rotate_left
  · have : k = l.length := by omega
    subst this
    rw [List.take_length]
    obtain ⟨⟨acc, ⟨L', a', e'⟩⟩, hS⟩ : ∃ s, t8 (l.map (j7 (.mk mx ml) (.mk rx rl))) ⟨L, a, e⟩ = s := ⟨_, rfl⟩
    rw [hS] at hge hB ⊢
    dsimp only at hge hB ⊢
    by_cases he : e' = 0
    · subst he
      rw [if_neg (by simp)] at hB
      cases hB
      have hmin : min L.length L'.length = L.length := Nat.min_eq_left hge
      have hge' : (L.length : Int) ≤ (L'.length : Nat) := by omega
      have h0 : (0 : Int) ≤ (L.length : Nat) := by omega
      repeat (first | refine d7 ?_ | refine b9 ?_ | refine a8 ?_ | refine b8 ?_ | refine f7 rfl ?_ | refine f6 rfl ?_ | ((first | refine d6 (fun K hK => ?_) | refine d8 f8 (fun K hK => ?_) | fail); simp -implicitDefEqProofs [hge, hge', h0]; first | refine hK _ ?_ | refine hK _ _ (by rfl) ?_ | fail) | fail)
      refine e7 (m7 [] rfl ?_); simp -implicitDefEqProofs [l4, g7, g9, hmin] <;> try rfl
    · rw [if_pos he] at hB
      cases hB
      repeat (first | refine d7 ?_ | refine b9 ?_ | refine a8 ?_ | refine b8 ?_ | refine f7 rfl ?_ | refine f6 rfl ?_ | ((first | refine d6 (fun K hK => ?_) | refine d8 f8 (fun K hK => ?_) | fail); simp -implicitDefEqProofs [he]; first | refine hK _ ?_ | refine hK _ _ (by rfl) ?_ | fail) | fail)
      refine e7 (m7 [] rfl ?_); simp -implicitDefEqProofs [l4, g7, g9] <;> try rfl
  obtain ⟨⟨yx, yl⟩, hy⟩ : ∃ y, l[k]? = some y := ⟨_, List.getElem?_eq_getElem hkl⟩
  have hy' := (List.getElem?_eq_some_iff.1 hy).2
  have w2 : IntKind.i64.wrap ((k : Nat) + 1 : Int) = (k : Nat) + 1 := v6 _ (by omega) (by omega)
  obtain ⟨i1, i2⟩ := hok k hk
  have hd : l.drop k = .mk yx yl :: l.drop (k + 1) := by rw [List.drop_eq_getElem_cons hkl, hy']
  rw [hd, List.map_cons, List.sum_cons] at i2
  have hr := (hF _ (List.mem_of_getElem? hy) _ _ _ i1 (i2.less (by omega))).2
  have ht : l.take (k + 1) = l.take k ++ [.mk yx yl] := by rw [List.take_add_one, hy]; rfl
  have hs1 : t8 ((l.take (k + 1)).map (j7 (.mk mx ml) (.mk rx rl))) ⟨L, a, e⟩ = ((t8 ((l.take k).map (j7 (.mk mx ml) (.mk rx rl))) ⟨L, a, e⟩).1 ++ [(j7 (.mk mx ml) (.mk rx rl) (.mk yx yl) (t8 ((l.take k).map (j7 (.mk mx ml) (.mk rx rl))) ⟨L, a, e⟩).2).1], (j7 (.mk mx ml) (.mk rx rl) (.mk yx yl) (t8 ((l.take k).map (j7 (.mk mx ml) (.mk rx rl))) ⟨L, a, e⟩).2).2) := by
    rw [ht, List.map_append, List.map_cons, List.map_nil, a1s]
  have hq1 := a2z (.mk mx ml) (.mk rx rl) F (.mk yx yl) (l.take k) ⟨L, a, e⟩ E
  rw [← ht] at hq1
  have hal := a8i ((l.take k).map (j7 (.mk mx ml) (.mk rx rl))) ⟨L, a, e⟩
  rw [List.length_map, List.length_take, Nat.min_eq_left hk] at hal
  obtain ⟨⟨acc, ⟨L1, a1, e1⟩⟩, hS⟩ : ∃ s, t8 ((l.take k).map (j7 (.mk mx ml) (.mk rx rl))) ⟨L, a, e⟩ = s := ⟨_, rfl⟩
  obtain ⟨E1, hE1⟩ : ∃ s, eqJ (.mk mx ml) (.mk rx rl) F (l.take k) ⟨L, a, e⟩ E = s := ⟨_, rfl⟩
  rw [hS] at hr hs1 hq1 hal ⊢
  rw [hE1] at hr hq1 ⊢
  dsimp only at hr hs1 hq1 hal ⊢
  obtain ⟨E2, hE2'⟩ : ∃ s, F (.mk yx yl) ⟨L1, a1, e1⟩ E1 = s := ⟨_, rfl⟩
  rw [hE2'] at hr hq1
  obtain ⟨⟨⟨sx, sl⟩, ⟨L2, a2, e2⟩⟩, hT⟩ : ∃ s, j7 (.mk mx ml) (.mk rx rl) (.mk yx yl) ⟨L1, a1, e1⟩ = s := ⟨_, rfl⟩
  rw [hT] at hr hs1
  dsimp only at hr hs1
  have b1 : (k + 1) * 72 ≤ 140737488355328 := by omega
  have b2 : k + 1 ≤ 140737488355328 := by omega
  clear hok hfin hge hF h hS hE1 hE2' hT i1 i2 s0 q0
  repeat' (first | refine d7 ?_ | refine b9 ?_ | refine a8 ?_ | refine b8 ?_ | refine f7 rfl ?_ | refine f6 rfl ?_ | ((first | refine d6 (fun K hK => ?_) | refine d8 f8 (fun K hK => ?_) | refine b7 (cgJ hr 0 rfl ?_) | refine a6 (dgJ hr 0 rfl ?_) | fail); simp -implicitDefEqProofs [hkl, hy, hy', w2, hal, b1, b2]) | refine hK _ ?_ | refine hK _ _ (by rfl) ?_ | fail)
  refine ⟨k + 1, by omega, (by dsimp only; omega), ?_⟩
  rw [hI, hs1, hq1]; exact a2f [21] rfl (by simp -implicitDefEqProofs) (by simp -implicitDefEqProofs) (by first | decide | (simp; done)) rfl (by simp)
theorem Cm.cn {m : VT} {L : List VT} {ret : VT} {B sz : Nat} (h : Cm m L ret B sz) : CnJ m L B := ⟨h.hm, h.hL, by have := h.le; omega, by have := h.len; omega⟩
theorem c5n (x : Lab) (l : List VT) : b0c x l = a0e x l := by
  unfold b0c a0e
  by_cases k29 : x.k = 29
  · rw [if_pos k29, if_pos k29]
  rw [if_neg k29, if_neg k29]
  by_cases k1 : x.k = 20 ∨ x.k = 21 ∨ x.k = 26 ∨ x.k = 27 ∨ x.k = 28
  · have e : v8 x.k = (1, 0) := by unfold v8; rw [if_pos (by omega)]
    rw [if_pos k1, e]
    by_cases h : l.length = 1
    · obtain ⟨a, rfl⟩ := s9 h; simp
    · rw [decide_eq_false h, decide_eq_false (show ¬ (l.length : Int) = 1 by omega)]; rfl
  rw [if_neg k1]
  by_cases k22 : x.k = 22
  · have e : v8 x.k = (2, 0) := by unfold v8; rw [if_neg (by omega), if_pos k22]
    rw [if_pos k22, e]
    by_cases h : l.length = 2
    · obtain ⟨a, b, rfl⟩ := a5w h; simp
    · rw [decide_eq_false h, decide_eq_false (show ¬ (l.length : Int) = 2 by omega)]; rfl
  rw [if_neg k22]
  by_cases k23 : x.k = 23
  · have e : v8 x.k = (3, 2) := by unfold v8; rw [if_neg (by omega), if_neg k22, if_pos k23]
    rw [if_pos k23, e]
    by_cases h : l.length = 3
    · obtain ⟨a, b, c, rfl⟩ := t7 h; simp [b4l]
    · rw [decide_eq_false h, decide_eq_false (show ¬ (l.length : Int) = 3 by omega)]; rfl
  rw [if_neg k23]
  by_cases k24 : x.k = 24
  · have e : v8 x.k = (2, 1) := by unfold v8; rw [if_neg (by omega), if_neg k22, if_neg k23, if_pos k24]
    rw [if_pos k24, e]
    by_cases h : l.length = 2
    · obtain ⟨a, b, rfl⟩ := a5w h; simp [b4l]
    · rw [decide_eq_false h, decide_eq_false (show ¬ (l.length : Int) = 2 by omega)]; rfl
  rw [if_neg k24]
  by_cases k25 : x.k = 25
  · have e : v8 x.k = (3, 1) := by unfold v8; rw [if_neg (by omega), if_neg k22, if_neg k23, if_neg k24, if_pos k25]
    rw [if_pos k25, e]
    by_cases h : l.length = 3
    · obtain ⟨a, b, c, rfl⟩ := t7 h; simp [b4l]
    · rw [decide_eq_false h, decide_eq_false (show ¬ (l.length : Int) = 3 by omega)]; rfl
  rw [if_neg k25]
  have e : v8 x.k = (-1, 0) := by unfold v8; rw [if_neg (by omega), if_neg k22, if_neg k23, if_neg k24, if_neg k25]
  rw [e, decide_eq_false (show ¬ (l.length : Int) = -1 by omega)]
  rfl
def StJ (m ret : VT) (t : VT) (j : JS) (E : List VT) (r : VT × JS) (E' : List VT) : Prop := OkV r.2.lo E' ∧ Row Tryz.prog 55 [.v (.c (.ptr 0 0)), vT t] [bxJ 1 m ret j.lo.length j.at' j.er, arJ E] (vT r.1) [some (bxJ 2 m ret r.2.lo.length r.2.at' r.2.er), none, some (arJ E')]
theorem a0b (x : Lab) (l : List VT) : Row Tryz.prog 82 [vT (.mk x l)] [] (vB (a0e x l)) [] := by
  rw [← c5n]; exact b1s x l
theorem c4v (m ret : VT) (x : Lab) (l : List VT) (j : JS) (E : List VT) (hE : OkV j.lo E) (he : ¬ j.er = 0) : StJ m ret (.mk x l) j E (z0T, j) E := by
  refine ⟨hE, ?_⟩
  obtain ⟨L, a, e⟩ := j
  dsimp only at he hE ⊢
  have hE2 := hE.2
  obtain ⟨mx, ml⟩ := m
  obtain ⟨rx, rl⟩ := ret
  refine e8 Tryz.func55 rfl rfl (Nat.le_of_ble_eq_true rfl) ?_
  refine l9 1 0 12 _ 24 6 L.length (E.map tc) rfl rfl (.inr rfl) (show (1 : Nat) < 2 by decide) (show (0 : Nat) < 2 by decide) ?_
  simp [St.mvw]
  repeat (first | refine d7 ?_ | refine b9 ?_ | refine a8 ?_ | refine b8 ?_ | refine f7 rfl ?_ | refine f6 rfl ?_ | ((first | refine d6 (fun K hK => ?_) | refine d8 f8 (fun K hK => ?_) | fail); simp -implicitDefEqProofs [he]; first | refine hK _ ?_ | refine hK _ _ (by rfl) ?_ | fail) | fail)
  refine e7 (m7 [] rfl ?_); simp -implicitDefEqProofs [l4, g7, g9, he] <;> try rfl
theorem c4w (m ret : VT) (x : Lab) (l : List VT) (j : JS) (E : List VT) (hE : OkV j.lo E) (he : j.er = 0) (hs : a0e x l = false) : StJ m ret (.mk x l) j E (z0T, p7 x 12 j) E := by
  refine ⟨by rw [u5]; exact hE, ?_⟩
  obtain ⟨L, a, e⟩ := j
  dsimp only at he hE ⊢
  subst he
  have hsh := a0b x l
  rw [hs] at hsh
  have hf := n4 m ret L.length E a 0 x l 12
  rw [if_pos rfl, if_pos rfl] at hf
  rw [show p7 x 12 ⟨L, a, 0⟩ = ⟨L, x.f, 12⟩ from rfl]
  dsimp only
  obtain ⟨mx, ml⟩ := m
  obtain ⟨rx, rl⟩ := ret
  refine e8 Tryz.func55 rfl rfl (Nat.le_of_ble_eq_true rfl) ?_
  refine l9 1 0 12 _ 24 6 L.length (E.map tc) rfl rfl (.inr rfl) (show (1 : Nat) < 2 by decide) (show (0 : Nat) < 2 by decide) ?_
  simp [St.mvw]
  repeat' (first | refine d7 ?_ | refine b9 ?_ | refine a8 ?_ | refine b8 ?_ | refine f7 rfl ?_ | refine f6 rfl ?_ | ((first | refine d6 (fun K hK => ?_) | refine d8 f8 (fun K hK => ?_) | refine b7 (cp hsh ?_) | refine a6 (dp hsh ?_) | refine b7 (cgJ hf 0 rfl ?_) | refine a6 (dgJ hf 0 rfl ?_) | fail); simp -implicitDefEqProofs) | refine hK _ ?_ | refine hK _ _ (by rfl) ?_ | fail)
  refine e7 (m7 [] rfl ?_); simp -implicitDefEqProofs [l4, g7, g9] <;> try rfl
theorem jst_29 (m ret : VT) (x : Lab) (l : List VT) (h29 : x.k = 29) (h : ∀ y ∈ l, SOk m ret y) (hin : ∀ y ∈ l, p6 y) (j : JS) (E : List VT) (he : j.er = 0) : ∃ E', ∀ B : Nat, OkV j.lo E → Cm m j.lo ret B (Tr.mk x l).size → StJ m ret (.mk x l) j E (.mk ⟨x.k, x.n, ⟨#[]⟩, 0, 0⟩ (a6j (l.map (j7 m ret)) j).1, (a6j (l.map (j7 m ret)) j).2) E' := by
  obtain ⟨E', hb⟩ := b4r m ret x l h hin j E
  refine ⟨E', fun B hE hc => ?_⟩
  obtain ⟨ok, hr⟩ := hb B hE (hc.less (by rw [Tr.size_mk]; omega))
  refine ⟨ok, ?_⟩
  have hsh := a0b x l
  rw [show a0e x l = true by unfold a0e; rw [if_pos h29]] at hsh
  obtain ⟨⟨acc, ⟨L', a', e'⟩⟩, hS⟩ : ∃ s, a6j (l.map (j7 m ret)) j = s := ⟨_, rfl⟩
  rw [hS] at hr ⊢
  dsimp only at hr ⊢
  clear hS ok hb h hin hc
  obtain ⟨L, a, e⟩ := j
  dsimp only at he hE hr ⊢
  subst he
  obtain ⟨mx, ml⟩ := m
  obtain ⟨rx, rl⟩ := ret
  refine e8 Tryz.func55 rfl rfl (Nat.le_of_ble_eq_true rfl) ?_
  repeat' (first | refine d7 ?_ | refine b9 ?_ | refine a8 ?_ | refine b8 ?_ | refine f7 rfl ?_ | refine f6 rfl ?_ | ((first | refine d6 (fun K hK => ?_) | refine d8 f8 (fun K hK => ?_) | refine b7 (cp hsh ?_) | refine a6 (dp hsh ?_) | refine b7 (cgJ hr 0 rfl ?_) | refine a6 (dgJ hr 0 rfl ?_) | fail); simp -implicitDefEqProofs [h29]) | refine hK _ ?_ | refine hK _ _ (by rfl) ?_ | fail)
  refine e7 (m7 [] rfl ?_); simp -implicitDefEqProofs [l4, g7, g9, h29] <;> try rfl
theorem jst_20 (m ret : VT) (x : Lab) (t : VT) (h20 : x.k = 20) (ht : p6 t) (j : JS) (E : List VT) (he : j.er = 0) (B : Nat) (hE : OkV j.lo E) (hc : Cm m j.lo ret B (Tr.mk x [t]).size) : StJ m ret (.mk x [t]) j E (.mk ⟨x.k, x.n, ⟨#[]⟩, 0, 0⟩ [(l5 m t j).2.1], a2q (l5 m t j).1 (l5 m t j).2.2) (j.lo ++ [(l5 m t j).1]) := by
  have hlo := y3 m t j
  refine ⟨by show OkV ((l5 m t j).2.2.lo ++ [_]) _; rw [hlo]; exact a13 _, ?_⟩
  have hsz := Tr.size_at (x := x) (l := [t]) (i := 0) rfl
  have hcl := hc.len
  have hce := hc.le
  have hr := a0l m ret B j E hE hc.cn t ht (by omega)
  have hsh := a0b x [t]
  rw [show a0e x [t] = true by unfold a0e; simp [h20, v8]] at hsh
  unfold a2q
  obtain ⟨⟨⟨kx, kl⟩, ⟨sx, sl⟩, ⟨L', a', e'⟩⟩, hS⟩ : ∃ s, l5 m t j = s := ⟨_, rfl⟩
  rw [hS] at hr hlo ⊢
  dsimp only at hr hlo ⊢
  subst hlo
  clear hS
  obtain ⟨L, a, e⟩ := j
  dsimp only at he hE hr hcl ⊢
  subst he
  have hb := a11 m ret L E hE (by omega) a' e' kx kl
  have hl1 : (L ++ [Tr.mk kx kl]).length = L.length + 1 := by simp
  rw [hl1]
  clear hc
  obtain ⟨tx, tl⟩ := t
  obtain ⟨mx, ml⟩ := m
  obtain ⟨rx, rl⟩ := ret
  refine e8 Tryz.func55 rfl rfl (Nat.le_of_ble_eq_true rfl) ?_
  repeat' (first | refine d7 ?_ | refine b9 ?_ | refine a8 ?_ | refine b8 ?_ | refine f7 rfl ?_ | refine f6 rfl ?_ | ((first | refine d6 (fun K hK => ?_) | refine d8 f8 (fun K hK => ?_) | refine b7 (cp hsh ?_) | refine a6 (dp hsh ?_) | refine b7 (cgJ hr 0 rfl ?_) | refine a6 (dgJ hr 0 rfl ?_) | refine b7 (cgJ hb 0 rfl ?_) | refine a6 (dgJ hb 0 rfl ?_) | fail); simp -implicitDefEqProofs [h20]) | refine hK _ ?_ | refine hK _ _ (by rfl) ?_ | fail)
  refine e7 (m7 [] rfl ?_); simp -implicitDefEqProofs [l4, g7, g9, h20] <;> try rfl
theorem a3t (m ret : VT) (n : Nat) (E : List VT) (a e : Int) (x : Lab) (l : List VT) (c : Int) (hc : Row Tryz.prog 34 [vT m, vT (.mk x l)] [] (vI c) []) : Row Tryz.prog 36 [.v (.c (.ptr 0 0)), vT (.mk x l)] [bxJ 1 m ret n a e, arJ E] (.tup []) [some (bxJ 1 m ret n (if c = 0 ∧ e = 0 then x.f else a) (if c = 0 ∧ e = 0 then 11 else e)), some (arJ E)] := by
  have hf := n4 m ret n E a e x l 11
  obtain ⟨mx, ml⟩ := m
  obtain ⟨rx, rl⟩ := ret
  by_cases h : c = 0
  · subst h
    by_cases he : e = 0
    · subst he
      rw [if_pos rfl, if_pos rfl] at hf
      refine e8 Tryz.func36 rfl rfl (Nat.le_of_ble_eq_true rfl) ?_
      repeat' (first | refine d7 ?_ | refine b9 ?_ | refine a8 ?_ | refine b8 ?_ | refine f7 rfl ?_ | refine f6 rfl ?_ | ((first | refine d6 (fun K hK => ?_) | refine d8 f8 (fun K hK => ?_) | refine b7 (cp hc ?_) | refine a6 (dp hc ?_) | refine b7 (cg hf [0,1] ?_) | refine a6 (dg hf [0,1] ?_) | fail); simp -implicitDefEqProofs) | refine hK _ ?_ | refine hK _ _ (by rfl) ?_ | fail)
      refine o8 (j6 [0, 1] ?_); simp -implicitDefEqProofs [l4, g7, g9] <;> try rfl
    · rw [if_neg he, if_neg he] at hf
      refine e8 Tryz.func36 rfl rfl (Nat.le_of_ble_eq_true rfl) ?_
      repeat' (first | refine d7 ?_ | refine b9 ?_ | refine a8 ?_ | refine b8 ?_ | refine f7 rfl ?_ | refine f6 rfl ?_ | ((first | refine d6 (fun K hK => ?_) | refine d8 f8 (fun K hK => ?_) | refine b7 (cp hc ?_) | refine a6 (dp hc ?_) | refine b7 (cg hf [0,1] ?_) | refine a6 (dg hf [0,1] ?_) | fail); simp -implicitDefEqProofs [he]) | refine hK _ ?_ | refine hK _ _ (by rfl) ?_ | fail)
      refine o8 (j6 [0, 1] ?_); simp -implicitDefEqProofs [l4, g7, g9, he] <;> try rfl
  · refine e8 Tryz.func36 rfl rfl (Nat.le_of_ble_eq_true rfl) ?_
    repeat' (first | refine d7 ?_ | refine b9 ?_ | refine a8 ?_ | refine b8 ?_ | refine f7 rfl ?_ | refine f6 rfl ?_ | ((first | refine d6 (fun K hK => ?_) | refine d8 f8 (fun K hK => ?_) | refine b7 (cp hc ?_) | refine a6 (dp hc ?_) | fail); simp -implicitDefEqProofs [h]) | refine hK _ ?_ | refine hK _ _ (by rfl) ?_ | fail)
    refine o8 (j6 [0, 1] ?_); simp -implicitDefEqProofs [l4, g7, g9, h] <;> try rfl
theorem b2a (m t : VT) (j : JS) : a8l m t j = ⟨j.lo, if a1j m t = 0 ∧ j.er = 0 then t.lab.f else j.at', if a1j m t = 0 ∧ j.er = 0 then 11 else j.er⟩ := by
  unfold a8l p7
  by_cases h : a1j m t = 0
  · by_cases h2 : j.er = 0
    · simp [h, h2]
    · simp [h, h2]
  · simp [h]
theorem jst_21 (m ret : VT) (x : Lab) (t : VT) (h21 : x.k = 21) (ht : p6 t) (j : JS) (E : List VT) (he : j.er = 0) (B : Nat) (hE : OkV j.lo E) (hc : Cm m j.lo ret B (Tr.mk x [t]).size) : StJ m ret (.mk x [t]) j E (.mk ⟨x.k, x.n, ⟨#[]⟩, 0, 0⟩ [i7 t], a2q (a0r t) (a8l m t j)) (j.lo ++ [a0r t]) := by
  have hlo := b2b m t j
  refine ⟨by show OkV ((a8l m t j).lo ++ [_]) _; rw [hlo]; exact a13 _, ?_⟩
  have hsz := Tr.size_at (x := x) (l := [t]) (i := 0) rfl
  have hcl := hc.len
  have hce := hc.le
  have hms := hc.hm.2
  have hcel := a1y m t hc.hm.1 (by omega) ht (by omega)
  have hsh := a0b x [t]
  rw [show a0e x [t] = true by unfold a0e; simp [h21, v8]] at hsh
  have hba := a1x t (by omega)
  have hnm := a0k t (by omega)
  rw [b2a]
  unfold a2q
  obtain ⟨c, hcc⟩ : ∃ c, a1j m t = c := ⟨_, rfl⟩
  rw [hcc] at hcel ⊢
  obtain ⟨⟨bx, bl⟩, hbb⟩ : ∃ c, a0r t = c := ⟨_, rfl⟩
  rw [hbb] at hba ⊢
  obtain ⟨⟨nx, nl⟩, hnn⟩ : ∃ c, i7 t = c := ⟨_, rfl⟩
  rw [hnn] at hnm ⊢
  clear hlo hcc hbb hnn
  obtain ⟨L, a, e⟩ := j
  dsimp only at he hE hcl ⊢
  subst he
  obtain ⟨tx, tl⟩ := t
  have hst := a3t m ret L.length E a 0 tx tl c hcel
  rw [Tr.lab]
  generalize (if c = 0 ∧ (0 : Int) = 0 then tx.f else a) = a' at hst ⊢
  generalize (if c = 0 ∧ (0 : Int) = 0 then (11 : Int) else 0) = e' at hst ⊢
  have hb := a11 m ret L E hE (by omega) a' e' bx bl
  have hl1 : (L ++ [Tr.mk bx bl]).length = L.length + 1 := by simp
  rw [hl1]
  clear hc hcel hms
  obtain ⟨mx, ml⟩ := m
  obtain ⟨rx, rl⟩ := ret
  refine e8 Tryz.func55 rfl rfl (Nat.le_of_ble_eq_true rfl) ?_
  repeat' (first | refine d7 ?_ | refine b9 ?_ | refine a8 ?_ | refine b8 ?_ | refine f7 rfl ?_ | refine f6 rfl ?_ | ((first | refine d6 (fun K hK => ?_) | refine d8 f8 (fun K hK => ?_) | refine b7 (cp hsh ?_) | refine a6 (dp hsh ?_) | refine b7 (cgJ hst 0 rfl ?_) | refine a6 (dgJ hst 0 rfl ?_) | refine b7 (cp hba ?_) | refine a6 (dp hba ?_) | refine b7 (cp hnm ?_) | refine a6 (dp hnm ?_) | refine b7 (cgJ hb 0 rfl ?_) | refine a6 (dgJ hb 0 rfl ?_) | fail); simp -implicitDefEqProofs [h21]) | refine hK _ ?_ | refine hK _ _ (by rfl) ?_ | fail)
  refine e7 (m7 [] rfl ?_); simp -implicitDefEqProofs [l4, g7, g9, h21] <;> try rfl
end Go.Proofs.YthmdllhhmhbhbaaGreatDoor.am
end
section
namespace Go.Proofs.YthmdllhhmhbhbaaGreatDoor.am
open Go.ChangeShapes Go.WideShapes Go.ChangeAt Go.RowKit
open vt
set_option linter.unusedVariables false
set_option linter.unusedSimpArgs false
theorem fo_nl {m : VT} {L : List VT} (t : VT) : (ofP m L t).er = 0 → i7 (ofP m L t).fo = (ofP m L t).fo := by
  induction t using Tr.ind with
  | h x l ih =>
  intro h
  obtain ⟨hs, h17, hk, he, hok⟩ := a8b h
  rw [a1q hs h17 hk he hok]
  dsimp only
  rw [n9, List.map_map]
  congr 1
  exact List.map_congr_left (fun y hy => ih y hy (he y hy))
theorem a22 {m t : VT} {j : JS} (h : (l5 m t j).2.2.er = 0) : i7 (l5 m t j).2.1 = (l5 m t j).2.1 := by
  obtain ⟨h0, he, h1⟩ := a07 h
  rw [h1]; exact fo_nl t he
theorem a62 {m t : VT} {p : VT → Bool} {j : JS} (h : (ofJ m t p j).2.er = 0) : i7 (ofJ m t p j).1 = (ofJ m t p j).1 := by
  obtain ⟨h1, h2, h3⟩ := b70 h
  rw [h3]; exact a22 h1
theorem b1x (t : VT) (j : JS) : a2q (i7 t) (nlJ j) = nlJ (a2q t j) := by unfold a2q nlJ; simp
structure StOk (m s ret : VT) (t : VT) (j : JS) : Prop where
  er : j.er = 0
  k : (j7 m ret t j).1.lab.k = t.lab.k
  nl : i7 (j7 m ret t j).1 = (j7 m ret t j).1
  st : j7 s (i7 ret) (j7 m ret t j).1 (nlJ j) = ((j7 m ret t j).1, nlJ (j7 m ret t j).2)
theorem c24 {m s ret : VT} : ∀ (l : List VT), (∀ t ∈ l, ∀ j, (j7 m ret t j).2.er = 0 → StOk m s ret t j) → ∀ j, (t8 (l.map (j7 m ret)) j).2.er = 0 →
    j.er = 0 ∧ (t8 (l.map (j7 m ret)) j).1.map i7 = (t8 (l.map (j7 m ret)) j).1 ∧ t8 ((t8 (l.map (j7 m ret)) j).1.map (j7 s (i7 ret))) (nlJ j) = ((t8 (l.map (j7 m ret)) j).1, nlJ (t8 (l.map (j7 m ret)) j).2)
  | [], _, j, h => ⟨h, rfl, rfl⟩
  | t :: r, ih, j, h => by
    rw [List.map_cons] at h ⊢
    have h' : (t8 (r.map (j7 m ret)) (j7 m ret t j).2).2.er = 0 := h
    obtain ⟨a1, a2, a3⟩ := c24 r (fun y hy => ih y (by simp [hy])) _ h'
    have ho := ih t (by simp) j a1
    refine ⟨ho.er, ?_, ?_⟩
    · show i7 (j7 m ret t j).1 :: (t8 (r.map (j7 m ret)) (j7 m ret t j).2).1.map i7 = (j7 m ret t j).1 :: (t8 (r.map (j7 m ret)) (j7 m ret t j).2).1
      rw [ho.nl, a2]
    · show t8 (j7 s (i7 ret) (j7 m ret t j).1 :: ((t8 (r.map (j7 m ret)) (j7 m ret t j).2).1.map (j7 s (i7 ret)))) (nlJ j) = ((j7 m ret t j).1 :: (t8 (r.map (j7 m ret)) (j7 m ret t j).2).1, nlJ (t8 (r.map (j7 m ret)) (j7 m ret t j).2).2)
      show ((j7 s (i7 ret) (j7 m ret t j).1 (nlJ j)).1 :: (t8 ((t8 (r.map (j7 m ret)) (j7 m ret t j).2).1.map (j7 s (i7 ret))) (j7 s (i7 ret) (j7 m ret t j).1 (nlJ j)).2).1, (t8 ((t8 (r.map (j7 m ret)) (j7 m ret t j).2).1.map (j7 s (i7 ret))) (j7 s (i7 ret) (j7 m ret t j).1 (nlJ j)).2).2) = _
      rw [ho.st]
      dsimp only
      rw [a3]
section
variable {m s : VT} (M : Sd m s)
include M
theorem Sd.stm (ret : VT) (t : VT) : ∀ j, (j7 m ret t j).2.er = 0 → StOk m s ret t j := by
  induction t using Tr.ind with
  | h x l ih =>
  intro j h
  have h0 : j.er = 0 := by
    refine Classical.byContradiction fun h0 => ?_
    rw [a1t] at h; unfold a5t at h; rw [if_pos h0] at h; exact h0 h
  have hs : a0e x l = true := by
    refine Classical.byContradiction fun hs => ?_
    rw [a1t] at h; unfold a5t at h; rw [if_neg (fun g => g h0), if_pos (by simpa using hs)] at h
    exact t6 (by decide) h
  have e : j7 m ret (.mk x l) j = (.mk ⟨x.k, x.n, ⟨#[]⟩, 0, 0⟩ (a1g m ret x l (l.map (j7 m ret)) j).1, (a1g m ret x l (l.map (j7 m ret)) j).2) := by
    rw [a1t]; unfold a5t; rw [if_neg (fun g => g h0), if_neg (by rw [hs]; simp)]
  rw [e] at h
  dsimp only at h
  suffices g : (a1g m ret x l (l.map (j7 m ret)) j).1.map i7 = (a1g m ret x l (l.map (j7 m ret)) j).1 ∧ a0e ⟨x.k, x.n, ⟨#[]⟩, 0, 0⟩ (a1g m ret x l (l.map (j7 m ret)) j).1 = true ∧
      a1g s (i7 ret) ⟨x.k, x.n, ⟨#[]⟩, 0, 0⟩ (a1g m ret x l (l.map (j7 m ret)) j).1 ((a1g m ret x l (l.map (j7 m ret)) j).1.map (j7 s (i7 ret))) (nlJ j) = ((a1g m ret x l (l.map (j7 m ret)) j).1, nlJ (a1g m ret x l (l.map (j7 m ret)) j).2) by
    obtain ⟨g1, g2, g3⟩ := g
    refine ⟨h0, by rw [e]; rfl, by rw [e]; dsimp only; rw [n9, g1], ?_⟩
    rw [e]
    dsimp only
    rw [a1t]
    unfold a5t
    rw [if_neg (show ¬ ¬ (nlJ j).er = 0 from fun g => g h0), if_neg (by rw [g2]; simp), g3]
  by_cases k29 : x.k = 29
  · have hP : ∀ (m ret : VT) (x : Lab) (l : List VT) (fs : List (JS → VT × JS)) (j : JS), x.k = 29 → a1g m ret x l fs j = a6j fs j := fun m ret x l fs j h => by unfold a1g; rw [if_pos h]
    rw [hP m ret x l _ j k29] at h ⊢
    rw [hP s (i7 ret) ⟨x.k, x.n, ⟨#[]⟩, 0, 0⟩ _ _ _ k29]
    have hq : (t8 (l.map (j7 m ret)) j).2.er = 0 := by
      refine Classical.byContradiction fun hq => ?_
      unfold a6j at h; rw [if_pos hq] at h; exact hq h
    obtain ⟨_, a2, a3⟩ := c24 (s := s) l ih j hq
    have eb : a6j (l.map (j7 m ret)) j = ((t8 (l.map (j7 m ret)) j).1, ⟨(t8 (l.map (j7 m ret)) j).2.lo.take j.lo.length, (t8 (l.map (j7 m ret)) j).2.at', (t8 (l.map (j7 m ret)) j).2.er⟩) := by unfold a6j; rw [if_neg (fun g => g hq)]
    rw [eb]
    refine ⟨a2, by unfold a0e; rw [if_pos k29], ?_⟩
    dsimp only
    unfold a6j
    rw [a3]
    rw [if_neg (show ¬ ¬ (nlJ (t8 (l.map (j7 m ret)) j).2).er = 0 from fun g => g hq)]
    unfold nlJ
    dsimp only
    rw [List.map_take, List.length_map]
  by_cases k20 : x.k = 20
  · have hl : l.length = 1 := by unfold a0e at hs; simp [k20, v8] at hs; omega
    obtain ⟨a, rfl⟩ := s9 hl
    have hP : ∀ (m ret : VT) (x : Lab) (l : List VT) (fs : List (JS → VT × JS)) (j : JS), x.k = 20 → a1g m ret x l fs j = ([(l5 m (l.getD 0 z0T) j).2.1], a2q (l5 m (l.getD 0 z0T) j).1 (l5 m (l.getD 0 z0T) j).2.2) := fun m ret x l fs j h => by unfold a1g; rw [if_neg (by omega), if_pos h]
    rw [hP m ret x _ _ j k20] at h ⊢
    rw [hP s (i7 ret) ⟨x.k, x.n, ⟨#[]⟩, 0, 0⟩ _ _ _ k20]
    have he : (l5 m a j).2.2.er = 0 := h
    show [i7 (l5 m a j).2.1] = [(l5 m a j).2.1] ∧ _ ∧ ([(l5 s (l5 m a j).2.1 (nlJ j)).2.1], a2q (l5 s (l5 m a j).2.1 (nlJ j)).1 (l5 s (l5 m a j).2.1 (nlJ j)).2.2) = ([(l5 m a j).2.1], nlJ (a2q (l5 m a j).1 (l5 m a j).2.2))
    rw [a22 he, M.expr he]
    exact ⟨rfl, by simp [a0e, k20, v8], by dsimp only; rw [b1x]⟩
  by_cases k21 : x.k = 21
  · have hl : l.length = 1 := by unfold a0e at hs; simp [k21, v8] at hs; omega
    obtain ⟨a, rfl⟩ := s9 hl
    have hP : ∀ (m ret : VT) (x : Lab) (l : List VT) (fs : List (JS → VT × JS)) (j : JS), x.k = 21 → a1g m ret x l fs j = ([i7 (l.getD 0 z0T)], a2q (a0r (l.getD 0 z0T)) (a8l m (l.getD 0 z0T) j)) := fun m ret x l fs j h => by unfold a1g; rw [if_neg (by omega), if_neg (by omega), if_pos h]
    rw [hP m ret x _ _ j k21] at h ⊢
    rw [hP s (i7 ret) ⟨x.k, x.n, ⟨#[]⟩, 0, 0⟩ _ _ _ k21]
    have he : (a8l m a j).er = 0 := h
    have hc : ¬ a1j m a = 0 := fun hc => by unfold a8l at he; rw [if_pos hc] at he; exact t6 (by decide) he
    show [i7 (i7 a)] = [i7 a] ∧ _ ∧ ([i7 (i7 a)], a2q (a0r (i7 a)) (a8l s (i7 a) (nlJ j))) = ([i7 a], nlJ (a2q (a0r a) (a8l m a j)))
    unfold a8l
    rw [b41, M.cel, if_neg hc, if_neg hc, (a1f a).1, ← b1x, (a1f a).2]
    exact ⟨rfl, by simp [a0e, k21, v8], rfl⟩
  by_cases k22 : x.k = 22
  · have hl : l.length = 2 := by unfold a0e at hs; simp [k22, v8] at hs; omega
    obtain ⟨a, b, rfl⟩ := a5w hl
    have hP : ∀ (m ret : VT) (x : Lab) (l : List VT) (fs : List (JS → VT × JS)) (j : JS), x.k = 22 → a1g m ret x l fs j = b0a m x l j := fun m ret x l fs j h => by unfold a1g; rw [if_neg (by omega), if_neg (by omega), if_neg (by omega), if_pos h]
    rw [hP m ret x _ _ j k22] at h ⊢
    rw [hP s (i7 ret) ⟨x.k, x.n, ⟨#[]⟩, 0, 0⟩ _ _ _ k22]
    unfold b0a at h
    dsimp only at h
    have eb0 : [a, b].getD 0 z0T = a := rfl
    have eb1 : [a, b].getD 1 z0T = b := rfl
    rw [eb0, eb1] at h
    obtain ⟨A, hA⟩ : ∃ A, l5 m a j = A := ⟨_, rfl⟩
    rw [hA] at h
    obtain ⟨B, hB⟩ : ∃ B, l5 m b A.2.2 = B := ⟨_, rfl⟩
    rw [hB] at h
    have hsm : same A.1 B.1 = true := Classical.byContradiction fun hn => by
      rw [if_neg hn] at h; exact t6 (by decide) h
    rw [if_pos hsm] at h
    have hrt : (a29 a).lab.k = 7 ∨ (a29 a).lab.k = 9 := Classical.byContradiction fun hn => by
      rw [if_neg hn] at h; exact t6 (by decide) h
    rw [if_pos hrt] at h
    have hB' : (l5 m b A.2.2).2.2.er = 0 := by rw [hB]; exact h
    have hA' : (l5 m a j).2.2.er = 0 := by rw [hA]; exact (a07 hB').1
    have eS : b0a m x [a, b] j = ([A.2.1, B.2.1], B.2.2) := by
      unfold b0a
      dsimp only
      rw [eb0, eb1, hA, hB, if_pos hsm, if_pos hrt]
    have qA := M.expr hA'
    have qB := M.expr hB'
    rw [hA] at qA; rw [hB] at qB
    have nA := a22 hA'
    have nB := a22 hB'
    rw [hA] at nA; rw [hB] at nB
    have hrA : (a29 A.2.1).lab.k = (a29 a).lab.k := by
      obtain ⟨_, he, h1⟩ := a07 hA'
      rw [← hA, h1]; exact c4p a he
    rw [eS]
    refine ⟨by show [i7 A.2.1, i7 B.2.1] = _; rw [nA, nB], by simp [a0e, k22, v8], ?_⟩
    unfold b0a
    dsimp only
    rw [show [A.2.1, B.2.1].getD 0 z0T = A.2.1 from rfl, show [A.2.1, B.2.1].getD 1 z0T = B.2.1 from rfl, qA]
    dsimp only
    rw [qB]
    dsimp only
    rw [hrA, if_pos hrt, if_pos (a8h hsm)]
  by_cases k23 : x.k = 23
  · have hl : l.length = 3 := by unfold a0e at hs; simp [k23, v8] at hs; omega
    obtain ⟨a, b, c, rfl⟩ := t7 hl
    have hbc : b.lab.k = 29 ∧ c.lab.k = 29 := by unfold a0e at hs; simpa [k23, v8, b4l] using hs
    have hP : ∀ (m ret : VT) (x : Lab) (a b c : VT) (j : JS), x.k = 23 → a1g m ret x [a, b, c] ([a, b, c].map (j7 m ret)) j = ([(ofJ m a (fun t => isT t 2) j).1, (j7 m ret b (ofJ m a (fun t => isT t 2) j).2).1, (j7 m ret c (j7 m ret b (ofJ m a (fun t => isT t 2) j).2).2).1], (j7 m ret c (j7 m ret b (ofJ m a (fun t => isT t 2) j).2).2).2) := fun m ret x a b c j h => by unfold a1g; rw [if_neg (by omega), if_neg (by omega), if_neg (by omega), if_neg (by omega), if_pos (.inl h)]; rfl
    rw [hP m ret x a b c j k23] at h ⊢
    rw [hP s (i7 ret) ⟨x.k, x.n, ⟨#[]⟩, 0, 0⟩ _ _ _ _ k23]
    have hc := ih c (by simp) _ h
    have hb := ih b (by simp) _ hc.er
    have qa := M.ofJE (p := fun t => isT t 2) (q := fun t => isT t 2) (fun y hy => by rw [a2b]; exact hy) hb.er
    have na := a62 hb.er
    refine ⟨?_, ?_, ?_⟩
    · show [i7 _, i7 _, i7 _] = _
      rw [na, hb.nl, hc.nl]
    · unfold a0e; simp [k23, v8, b4l, hb.k, hc.k, hbc]
    · rw [qa]
      dsimp only
      rw [hb.st]
      dsimp only
      rw [hc.st]
  by_cases k24 : x.k = 24
  · have hl : l.length = 2 := by unfold a0e at hs; simp [k24, v8] at hs; omega
    obtain ⟨a, b, rfl⟩ := a5w hl
    have hbc : b.lab.k = 29 := by unfold a0e at hs; simpa [k24, v8, b4l] using hs
    have hP : ∀ (m ret : VT) (x : Lab) (a b : VT) (j : JS), x.k = 24 → a1g m ret x [a, b] ([a, b].map (j7 m ret)) j = ([(ofJ m a (fun t => isT t 2) j).1, (j7 m ret b (ofJ m a (fun t => isT t 2) j).2).1], (j7 m ret b (ofJ m a (fun t => isT t 2) j).2).2) := fun m ret x a b j h => by unfold a1g; rw [if_neg (by omega), if_neg (by omega), if_neg (by omega), if_neg (by omega), if_pos (.inr h)]; rfl
    rw [hP m ret x a b j k24] at h ⊢
    rw [hP s (i7 ret) ⟨x.k, x.n, ⟨#[]⟩, 0, 0⟩ _ _ _ k24]
    have hb := ih b (by simp) _ h
    have qa := M.ofJE (p := fun t => isT t 2) (q := fun t => isT t 2) (fun y hy => by rw [a2b]; exact hy) hb.er
    have na := a62 hb.er
    refine ⟨?_, ?_, ?_⟩
    · show [i7 _, i7 _] = _
      rw [na, hb.nl]
    · unfold a0e; simp [k24, v8, b4l, hb.k, hbc]
    · rw [qa]
      dsimp only
      rw [hb.st]
  by_cases k25 : x.k = 25
  · have hl : l.length = 3 := by unfold a0e at hs; simp [k25, v8] at hs; omega
    obtain ⟨a, b, c, rfl⟩ := t7 hl
    have hbc : c.lab.k = 29 := by unfold a0e at hs; simpa [k25, v8, b4l] using hs
    have hP : ∀ (m ret : VT) (x : Lab) (a b c : VT) (j : JS), x.k = 25 → a1g m ret x [a, b, c] ([a, b, c].map (j7 m ret)) j = b1q m [a, b, c] (j7 m ret c) j := fun m ret x a b c j h => by unfold a1g; rw [if_neg (by omega), if_neg (by omega), if_neg (by omega), if_neg (by omega), if_neg (by omega), if_pos h]; rfl
    rw [hP m ret x a b c j k25] at h ⊢
    have hF : ∀ (m : VT) (a b c : VT) (f : JS → VT × JS) (j : JS), b1q m [a, b, c] f j = ([(ofJ m a (fun t => isT t 1) j).1, (ofJ m b (fun t => isT t 1) (ofJ m a (fun t => isT t 1) j).2).1, (f (a2q (tyT 1) (ofJ m b (fun t => isT t 1) (ofJ m a (fun t => isT t 1) j).2).2)).1], ⟨(f (a2q (tyT 1) (ofJ m b (fun t => isT t 1) (ofJ m a (fun t => isT t 1) j).2).2)).2.lo.take (ofJ m b (fun t => isT t 1) (ofJ m a (fun t => isT t 1) j).2).2.lo.length, (f (a2q (tyT 1) (ofJ m b (fun t => isT t 1) (ofJ m a (fun t => isT t 1) j).2).2)).2.at', (f (a2q (tyT 1) (ofJ m b (fun t => isT t 1) (ofJ m a (fun t => isT t 1) j).2).2)).2.er⟩) := fun m a b c f j => rfl
    rw [hF] at h ⊢
    rw [hP s (i7 ret) ⟨x.k, x.n, ⟨#[]⟩, 0, 0⟩ _ _ _ _ k25, hF]
    have hc := ih c (by simp) _ h
    have eb : (ofJ m b (fun t => isT t 1) (ofJ m a (fun t => isT t 1) j).2).2.er = 0 := hc.er
    have ea : (ofJ m a (fun t => isT t 1) j).2.er = 0 := by have := ofJ_er eb; rw [this] at eb; exact eb
    have qa := M.ofJE (p := fun t => isT t 1) (q := fun t => isT t 1) (fun y hy => by rw [a2b]; exact hy) ea
    have qb := M.ofJE (p := fun t => isT t 1) (q := fun t => isT t 1) (fun y hy => by rw [a2b]; exact hy) eb
    have na := a62 ea
    have nb := a62 eb
    refine ⟨?_, ?_, ?_⟩
    · show [i7 _, i7 _, i7 _] = _
      rw [na, nb, hc.nl]
    · unfold a0e; simp [k25, v8, b4l, hc.k, hbc]
    · rw [qa]
      dsimp only
      rw [qb]
      dsimp only
      rw [← a78 1, b1x, a78 1, hc.st]
      unfold nlJ
      dsimp only
      rw [List.map_take, List.length_map]
  have hl : l.length = 1 ∧ (x.k = 26 ∨ x.k = 27 ∨ x.k = 28) := by
    unfold a0e at hs
    by_cases h6 : x.k = 26 ∨ x.k = 27 ∨ x.k = 28
    · rcases h6 with h6 | h6 | h6 <;> simp [h6, v8] at hs <;> exact ⟨by omega, by omega⟩
    · have : (v8 x.k).1 = -1 := by unfold v8; rw [if_neg (by omega), if_neg k22, if_neg k23, if_neg k24, if_neg k25]
      rw [if_neg k29, this, decide_eq_false (by omega)] at hs
      simp at hs
  obtain ⟨hl, h6⟩ := hl
  obtain ⟨a, rfl⟩ := s9 hl
  by_cases k26 : x.k = 26
  · have hP : ∀ (m ret : VT) (x : Lab) (a : VT) (fs : List (JS → VT × JS)) (j : JS), x.k = 26 → a1g m ret x [a] fs j = ([(ofJ m a (fun t => isT t 1 || isT t 2) j).1], (ofJ m a (fun t => isT t 1 || isT t 2) j).2) := fun m ret x a fs j h => by unfold a1g; rw [if_neg (by omega), if_neg (by omega), if_neg (by omega), if_neg (by omega), if_neg (by omega), if_neg (by omega), if_pos h]; rfl
    rw [hP m ret x a _ j k26] at h ⊢
    have h : (ofJ m a (fun t => isT t 1 || isT t 2) j).2.er = 0 := h
    rw [hP s (i7 ret) ⟨x.k, x.n, ⟨#[]⟩, 0, 0⟩ _ _ _ k26]
    have qa := M.ofJE (p := fun t => isT t 1 || isT t 2) (q := fun t => isT t 1 || isT t 2) (fun y hy => by rw [a2b, a2b]; exact hy) h
    have na := a62 h
    refine ⟨by show [i7 _] = _; rw [na], by simp [a0e, k26, v8], ?_⟩
    rw [qa]
  by_cases k27 : x.k = 27
  · have hP : ∀ (m ret : VT) (x : Lab) (a : VT) (fs : List (JS → VT × JS)) (j : JS), x.k = 27 → a1g m ret x [a] fs j = ([(ofJ m a (fun t => same t ret) j).1], (ofJ m a (fun t => same t ret) j).2) := fun m ret x a fs j h => by unfold a1g; rw [if_neg (by omega), if_neg (by omega), if_neg (by omega), if_neg (by omega), if_neg (by omega), if_neg (by omega), if_neg (by omega), if_pos h]; rfl
    rw [hP m ret x a _ j k27] at h ⊢
    have h : (ofJ m a (fun t => same t ret) j).2.er = 0 := h
    rw [hP s (i7 ret) ⟨x.k, x.n, ⟨#[]⟩, 0, 0⟩ _ _ _ k27]
    have qa := M.ofJE (p := fun t => same t ret) (q := fun t => same t (i7 ret)) (fun y hy => a8h hy) h
    have na := a62 h
    refine ⟨by show [i7 _] = _; rw [na], by simp [a0e, k27, v8], ?_⟩
    rw [qa]
  have k28 : x.k = 28 := by omega
  have hP : ∀ (m ret : VT) (x : Lab) (a : VT) (fs : List (JS → VT × JS)) (j : JS), x.k = 28 → a1g m ret x [a] fs j = ([(doJ m a j).1], (doJ m a j).2) := fun m ret x a fs j h => by unfold a1g; rw [if_neg (by omega), if_neg (by omega), if_neg (by omega), if_neg (by omega), if_neg (by omega), if_neg (by omega), if_neg (by omega), if_neg (by omega)]; rfl
  rw [hP m ret x a _ j k28] at h ⊢
  rw [hP s (i7 ret) ⟨x.k, x.n, ⟨#[]⟩, 0, 0⟩ _ _ _ k28]
  have k16 : a.lab.k = 16 := Classical.byContradiction fun hn => by
    unfold doJ at h
    dsimp only at h
    rw [if_neg hn] at h
    have := (a07 h).1
    exact t6 (by decide) this
  have eD : doJ m a j = ((l5 m a j).2.1, (l5 m a j).2.2) := by unfold doJ; dsimp only; rw [if_pos k16]
  rw [eD] at h ⊢
  have ka : (l5 m a j).2.1.lab.k = 16 := by
    obtain ⟨_, he, h1⟩ := a07 h
    rw [h1]; exact (fo_lab a he).1.trans k16
  refine ⟨by show [i7 _] = _; rw [a22 h], by simp [a0e, k28, v8], ?_⟩
  unfold doJ
  dsimp only
  rw [if_pos ka, M.expr h]
end
end Go.Proofs.YthmdllhhmhbhbaaGreatDoor.am
end
