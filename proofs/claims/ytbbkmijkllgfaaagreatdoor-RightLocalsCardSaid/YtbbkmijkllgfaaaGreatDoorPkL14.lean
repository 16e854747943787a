import Derived.Test.YtbbkmijkllgfaaaGreatDoorPkL13
import Derived.Test.YtbbkmijkllgfaaaGreatDoorPkL4
set_option maxRecDepth 100000
set_option maxHeartbeats 4000000
section
namespace Go.Proofs.YtbbkmijkllgfaaaGreatDoor.am
open Go.ChangeShapes Go.WideShapes Go.ChangeAt Go.RowKit
open vt
set_option linter.unusedVariables false
set_option linter.unusedSimpArgs false
theorem a4q (m : VT) (L : List VT) (t : VT) : (ofT m L t).fo.size ≤ t.size := by
  induction t using Tr.ind with
  | h x l ih =>
  have hp := Tr.size_pos (Tr.mk x l)
  have hz : z0T.size ≤ (Tr.mk x l).size := by rw [show z0T.size = 1 by simp [Tr.size_mk]]; omega
  rw [a4r]
  unfold ofC
  split
  · exact hz
  · split
    · exact hz
    · split
      · show (Tr.mk _ ([] : List VT)).size ≤ _
        rw [show (Tr.mk (⟨x.k, x.n, ⟨#[]⟩, 0, 0⟩ : Lab) ([] : List VT)).size = 1 by simp [Tr.size_mk]]; omega
      · split
        · rename_i g hg
          obtain ⟨y, hy, rfl⟩ := List.mem_map.1 (List.mem_of_find?_eq_some hg)
          have hys := j8 (m := .mk x l) (d := y) hy
          exact Nat.le_trans (ih y hy) hys
        · split
          · show (Tr.mk _ _).size ≤ _
            rw [Tr.size_mk, Tr.size_mk, List.map_map, List.map_map]
            exact Nat.add_le_add_left (a1h (fun y hy => ih y hy)) 1
          · exact hz
theorem l6 (x : Lab) (e : Int) (t : VT) : (m8 x e).t.size ≤ t.size := by
  have hp := Tr.size_pos t
  show z0T.size ≤ _
  rw [show z0T.size = 1 by simp [Tr.size_mk]]; exact hp
theorem a8o (m ret : VT) (x : Lab) : ∀ (l L acc : List VT), (∀ y ∈ l, ∀ L, (a0k m ret y L).t.size ≤ y.size) → (a2u m ret x l L acc).t.size ≤ 1 + (acc.map Tr.size).sum + (l.map Tr.size).sum
  | [], L, acc, _ => by unfold a2u; rw [Tr.size_mk]; simp
  | y :: l, L, acc, h => by
    unfold a2u
    have h1 := h y (by simp) L
    split
    · have := a8o m ret x l (z6 m L y) (acc ++ [(a0k m ret y L).t]) (fun z hz => h z (by simp [hz]))
      rw [List.map_append, List.sum_append] at this
      rw [List.map_cons, List.sum_cons]
      simp only [List.map_cons, List.map_nil, List.sum_cons, List.sum_nil] at this
      omega
    · rw [List.map_cons, List.sum_cons]; omega
theorem a4t (m : VT) (L : List VT) (t : VT) (a b : Int) : (b0f m L t a b).t.size ≤ t.size := by
  unfold b0f
  split
  · exact l6 _ _ _
  · exact a4q m L t
theorem a9f (m ret : VT) (L : List VT) (x : Lab) (i : Nat) (y : VT) (h : ∀ L, (a0k m ret y L).t.size ≤ y.size) : (a3w m ret L x i y).t.size ≤ y.size := by
  unfold a3w c3s
  split
  · exact h _
  · split
    · split
      · exact l6 _ _ _
      · show (l3 y).size ≤ _; rw [a2d]; exact Nat.le_refl _
    · split
      · exact a4t ..
      · split
        · exact a4t ..
        · split
          · exact a4t ..
          · split
            · exact l6 _ _ _
            · split
              · exact l6 _ _ _
              · exact a4q m L y
theorem a6d (m ret : VT) (L : List VT) (x : Lab) : ∀ (l : List VT) (i : Nat), (∀ y ∈ l, ∀ L, (a0k m ret y L).t.size ≤ y.size) → ((y3 m ret L x i l).map fun g => g.t.size).sum ≤ (l.map Tr.size).sum
  | [], i, _ => by simp [y3]
  | y :: r, i, h => by
    rw [y3, List.map_cons, List.sum_cons, List.map_cons, List.sum_cons]
    have h1 := a9f m ret L x i y (h y (by simp))
    have h2 := a6d m ret L x r (i + 1) (fun z hz => h z (by simp [hz]))
    omega
theorem b9e (m ret : VT) (t : VT) : ∀ L, (a0k m ret t L).t.size ≤ t.size := by
  induction t using Tr.ind with
  | h x l ih =>
  intro L
  rw [a06]
  split
  · exact l6 _ _ _
  · split
    · have := a8o m ret x l L [] ih
      rw [Tr.size_mk]; simpa using this
    · split
      · rename_i g hg
        obtain ⟨i, hi⟩ := List.mem_iff_getElem?.1 (List.mem_of_find?_eq_some hg)
        rw [a4z] at hi
        obtain ⟨y, hy, rfl⟩ := Option.map_eq_some_iff.1 hi
        have hys := j8 (m := .mk x l) (d := y) (List.mem_of_getElem? hy)
        exact Nat.le_trans (a9f m ret L x _ y (ih y (List.mem_of_getElem? hy))) hys
      · unfold endG
        split
        · exact l6 _ _ _
        · split
          · exact l6 _ _ _
          · show (Tr.mk _ _).size ≤ _
            rw [Tr.size_mk, Tr.size_mk, List.map_map]
            exact Nat.add_le_add_left (a6d m ret L x l 0 ih) 1
theorem c2j {x : Lab} {l : List VT} (h : b0g x l = true) (c29 : ¬ x.k = 29) : (l.length : Int) = (a03 x.k).1 ∧ ∀ (i : Nat) y, (a03 x.k).1 - (a03 x.k).2 ≤ i → l[i]? = some y → y.lab.k = 29 := by
  unfold b0g at h
  rw [if_neg c29, Bool.and_eq_true] at h
  refine ⟨of_decide_eq_true h.1, fun i y hi hy => ?_⟩
  have hd : y ∈ l.drop ((a03 x.k).1 - (a03 x.k).2).toNat := List.mem_iff_getElem?.2 ⟨i - ((a03 x.k).1 - (a03 x.k).2).toNat, by
    rw [List.getElem?_drop, show ((a03 x.k).1 - (a03 x.k).2).toNat + (i - ((a03 x.k).1 - (a03 x.k).2).toNat) = i by omega]; exact hy⟩
  have := List.all_eq_true.1 h.2 y hd
  unfold c09 at this
  exact of_decide_eq_true this
theorem b80 (m ret : VT) (t : VT) : m7 t → StR m ret t ∧ BlR m ret t := by
  induction t using Tr.ind with
  | h x l ih =>
  intro ht
  have hkin := ((Tr.all_mk _ x l).1 ht).2
  have hbl := b1o m ret x l ht (fun y hy => (ih y hy (hkin y hy)).1)
  refine ⟨?_, hbl⟩
  intro L B hc
  have hsz := hc.le
  have hms := hc.hm.2
  have hlen := Tr.len_size (x := x) (l := l)
  have hsh := b5d x l (by omega)
  have hba := n4 x l 12
  rw [a06]
  cases hS : b0g x l with
  | false =>
    rw [hS] at hsh
    rw [if_pos rfl]
    unfold m8 at hba ⊢
    clear ih hbl
    obtain ⟨mx, ml⟩ := m
    obtain ⟨rx, rl⟩ := ret
    refine d7 Tryz.func91 rfl rfl (Nat.le_of_ble_eq_true rfl) ?_
    repeat' (first | refine b9 ?_ | refine b6 ?_ | refine a6 ?_ | refine b5 ?_ | refine e7 rfl ?_ | refine d9 rfl ?_ | ((first | refine b8 (fun K hK => ?_) | refine d3 e9 (fun K hK => ?_) | refine b7 (cp hsh ?_) | refine a8 (dp hsh ?_) | refine b7 (cp hba ?_) | refine a8 (dp hba ?_) | fail); simp -implicitDefEqProofs) | refine hK _ ?_ | refine hK _ _ (by rfl) ?_ | fail)
    refine d6 (d4 ?_); simp -implicitDefEqProofs [f9, f6, f7] <;> try rfl
  | true =>
  rw [hS] at hsh
  rw [if_neg (by simp)]
  clear hba
  by_cases c29 : x.k = 29
  · rw [if_pos c29]
    have hb := hbl L B hc
    rw [Tr.lab, Tr.kids] at hb
    obtain ⟨⟨⟨bx, bl⟩, gp, ge⟩, hG⟩ : ∃ g, a2u m ret x l L [] = g := ⟨_, rfl⟩
    rw [hG] at hb ⊢
    clear ih hbl hG
    obtain ⟨mx, ml⟩ := m
    obtain ⟨rx, rl⟩ := ret
    refine d7 Tryz.func91 rfl rfl (Nat.le_of_ble_eq_true rfl) ?_
    repeat' (first | refine b9 ?_ | refine b6 ?_ | refine a6 ?_ | refine b5 ?_ | refine e7 rfl ?_ | refine d9 rfl ?_ | ((first | refine b8 (fun K hK => ?_) | refine d3 e9 (fun K hK => ?_) | refine b7 (cp hsh ?_) | refine a8 (dp hsh ?_) | refine b7 (cp hb ?_) | refine a8 (dp hb ?_) | fail); simp -implicitDefEqProofs [c29]) | refine hK _ ?_ | refine hK _ _ (by rfl) ?_ | fail)
    refine d6 (d4 ?_); simp -implicitDefEqProofs [f9, f6, f7] <;> try rfl
  rw [if_neg c29]
  obtain ⟨hn, h29⟩ := c2j hS c29
  have hpr : ∀ (k : Nat) y, l[k]? = some y → Row Tryz.prog 139 [vT m, vLs L, vT ret, vT (.mk x l), vI (k : Nat)] [] (vGr (a3w m ret L x k y)) [] := fun k y hy =>
    b49 m ret L B x l ht hc k y hy hn (fun hb => ⟨h29 k y hb hy, (ih y (List.mem_of_getElem? hy) (hkin y (List.mem_of_getElem? hy))).2⟩)
  have hro : ∀ y, y ∈ l → Row Tryz.prog 140 [vT y] [] (vT (a3o y)) [] := fun y hy => b8x y (by have := j8 (m := .mk x l) (d := y) hy; omega)
  have hof : ∀ y, y ∈ l → Row Tryz.prog 53 [vT m, vLs L, vT y] [] (vGt (ofT m L y)) [] ∧ (ofT m L y).ty.size ≤ 1000000 := fun y hy => by
    have hys := j8 (m := .mk x l) (d := y) hy
    exact ⟨a7r m L B hc.hm hc.hL (by omega) (by have := hc.len; omega) y (hkin y hy) (by omega), by have := (a9d hc.hm (by omega) hc.hL y (hkin y hy) (by omega)).ty.2; omega⟩
  obtain ⟨F, hF⟩ : ∃ F, (match (y3 m ret L x 0 l).find? (fun g => !decide (g.er = 0)) with
    | some g => g
    | none => endG m L x l (y3 m ret L x 0 l) : GR) = F := ⟨_, rfl⟩
  suffices hsuf : Row Tryz.prog 91 [vT m, vLs L, vT ret, vT (.mk x l)] [] (vGr F) [] by
    rw [← hF] at hsuf
    exact hsuf
  obtain ⟨P, hP⟩ : ∃ P, y3 m ret L x 0 l = P := ⟨_, rfl⟩
  have hPg : ∀ (k : Nat) y, l[k]? = some y → P[k]? = some (a3w m ret L x k y) := fun k y hy => by
    rw [← hP, a4z, hy, Nat.zero_add]; rfl
  have hPl : P.length = l.length := by rw [← hP, a9g]
  rw [hP] at hF
  have hat : ∀ (k : Nat) y, l[k]? = some y → ¬ (a3w m ret L x k y).er = 0 → (∀ g ∈ P.take k, g.er = 0) → F = a3w m ret L x k y := by
    intro k y hy he hno
    rw [← hF, a2y (k := k) (hPg k y hy) (by simpa using he) (fun g hg => by simpa using hno g hg)]
  have hend : (∀ g ∈ P, g.er = 0) → F = endG m L x l P := by
    intro hno
    rw [← hF, List.find?_eq_none.2 (fun g hg => by simpa using hno g hg)]
  obtain ⟨Q, hQ⟩ : ∃ Q : List VT, P.map GR.t = Q := ⟨_, rfl⟩
  have hQl : Q.length = l.length := by rw [← hQ, List.length_map, hPl]
  have hQk : ∀ (k : Nat) y, l[k]? = some y → Q.take (k + 1) = Q.take k ++ [(a3w m ret L x k y).t] := fun k y h => by
    rw [List.take_add_one, ← hQ, List.getElem?_map, hPg k y h]; rfl
  have hPk : ∀ (k : Nat) y, l[k]? = some y → P.take (k + 1) = P.take k ++ [a3w m ret L x k y] := fun k y h => by
    rw [List.take_add_one, hPg k y h]; rfl
  have hend2 : (∀ g ∈ P, g.er = 0) → F = if x.k = 22 ∧ ¬ ((a3o (l.getD 0 z0T)).lab.k = 7 ∨ (a3o (l.getD 0 z0T)).lab.k = 9) then m8 (l.getD 0 z0T).lab 12
    else if x.k = 22 ∧ same (ofT m L (l.getD 0 z0T)).ty (ofT m L (l.getD 1 z0T)).ty = false then m8 x 10
    else ⟨.mk ⟨x.k, x.n, ⟨#[]⟩, 0, 0⟩ Q, 0, 0⟩ := fun h => by rw [hend h, ← hQ]; rfl
  have h22 : x.k = 22 → l.length = 2 := fun h => by rw [h] at hn; simp [a03] at hn; omega
  have hbx := fun e => n4 x l e
  clear hF hP hQ hend ih hbl hPg h29
  obtain ⟨mx, ml⟩ := m
  obtain ⟨rx, rl⟩ := ret
  refine d7 Tryz.func91 rfl rfl (Nat.le_of_ble_eq_true rfl) ?_
  repeat' (first | refine b9 ?_ | refine b6 ?_ | refine a6 ?_ | refine b5 ?_ | refine e7 rfl ?_ | refine d9 rfl ?_ | ((first | refine b8 (fun K hK => ?_) | refine d3 e9 (fun K hK => ?_) | refine b7 (cp hsh ?_) | refine a8 (dp hsh ?_) | fail); simp -implicitDefEqProofs [c29]) | refine hK _ ?_ | refine hK _ _ (by rfl) ?_ | fail)
  refine m6 (ι := Nat) (fun k => x5 [(1, vLs L), (4, .v (.c (.ptr 0 0))), (6, .v (.c (.ptr 1 0))), (7, .v (.c (.ptr 2 0))), (8, .v (.c (.ptr 3 0))), (9, .v (.c (.ptr 4 0))), (10, vI (k : Nat))] [some (.box (ta (.mk mx ml))), some (.box (ta (.mk rx rl))), some (.box (ta (.mk x l))), some (.box (ta z0T ++ [.pv (I 0), .pv (I 0)])), some (.box [.pv (I x.k), .pv (I x.n), .pv (Sx ⟨#[]⟩), .row 5 6 ((Q.take k).map tc), .pv (I 0), .pv (I 0)]), some (.row 24 6)]) (fun k => k ≤ l.length ∧ ∀ g ∈ P.take k, g.er = 0) (fun k => l.length - k) 0 ⟨Nat.zero_le _, by simp⟩ (e8 [0, 1, 2, 3, 23, 21] (by simp -implicitDefEqProofs) (by simp -implicitDefEqProofs) (by decide) rfl (by simp)) (fun Z hI k hk => ?_)
  obtain ⟨hk, hz⟩ := hk
  by_cases hkl : k < l.length; rotate_left
  · have : k = l.length := by omega
    subst this
    rw [List.take_of_length_le (by omega)] at hz
    have hF := hend2 hz
    have e2 : Q.take l.length = Q := List.take_of_length_le (by omega)
    rw [e2]
    clear hat hend2 hPk hQk hpr
    by_cases c22 : x.k = 22; rotate_left
    · rw [if_neg (fun h => c22 h.1), if_neg (fun h => c22 h.1)] at hF
      subst hF
      repeat (first | refine b9 ?_ | refine b6 ?_ | refine a6 ?_ | refine b5 ?_ | refine e7 rfl ?_ | refine d9 rfl ?_ | ((first | refine b8 (fun K hK => ?_) | refine d3 e9 (fun K hK => ?_) | fail); simp -implicitDefEqProofs [c22]; first | refine hK _ ?_ | refine hK _ _ (by rfl) ?_ | fail) | fail)
      refine d6 (d4 ?_); simp -implicitDefEqProofs [f9, f6, f7] <;> try rfl
    obtain ⟨⟨ax, al⟩, ⟨bx, bl⟩, rfl⟩ := a9z (h22 c22)
    have hr := hro (.mk ax al) (by simp)
    obtain ⟨h1, s1⟩ := hof (.mk ax al) (by simp)
    obtain ⟨h2, s2⟩ := hof (.mk bx bl) (by simp)
    have hba := n4 ax al 12
    have hbt := hbx 10
    rw [show [Tr.mk ax al, .mk bx bl].getD 0 z0T = .mk ax al from rfl, show [Tr.mk ax al, .mk bx bl].getD 1 z0T = .mk bx bl from rfl, Tr.lab] at hF
    have hsa := a04 _ s1 _ s2
    obtain ⟨⟨wx, wl⟩, hW⟩ : ∃ g, a3o (.mk ax al) = g := ⟨_, rfl⟩
    obtain ⟨⟨⟨cx, cl⟩, ⟨dx, dl⟩, gp, ge⟩, hG⟩ : ∃ g, ofT (.mk mx ml) L (.mk ax al) = g := ⟨_, rfl⟩
    obtain ⟨⟨⟨ex, el⟩, ⟨fx, fl⟩, gp2, ge2⟩, hG2⟩ : ∃ g, ofT (.mk mx ml) L (.mk bx bl) = g := ⟨_, rfl⟩
    rw [hG] at h1 hF hsa
    rw [hG2] at h2 hF hsa
    rw [hW] at hr hF
    dsimp only [Tr.lab] at hF hsa
    obtain ⟨q, hq⟩ : ∃ q, same (.mk cx cl) (.mk ex el) = q := ⟨_, rfl⟩
    rw [hq] at hF hsa
    unfold m8 at hF hba hbt
    clear hG hG2 hW hq hbx hro hof h22
    by_cases w7 : wx.k = 7 ∨ wx.k = 9; rotate_left
    · have n7 : ¬ wx.k = 7 := fun h => w7 (.inl h)
      have n9 : ¬ wx.k = 9 := fun h => w7 (.inr h)
      replace hF := hF.trans (if_pos ⟨c22, w7⟩)
      subst hF
      repeat' (first | refine b9 ?_ | refine b6 ?_ | refine a6 ?_ | refine b5 ?_ | refine e7 rfl ?_ | refine d9 rfl ?_ | ((first | refine b8 (fun K hK => ?_) | refine d3 e9 (fun K hK => ?_) | refine b7 (cp hr ?_) | refine a8 (dp hr ?_) | refine b7 (cp hba ?_) | refine a8 (dp hba ?_) | fail); simp -implicitDefEqProofs [c22, n7, n9]) | refine hK _ ?_ | refine hK _ _ (by rfl) ?_ | fail)
      refine d6 (d4 ?_); simp -implicitDefEqProofs [f9, f6, f7] <;> try rfl
    replace hF := hF.trans (if_neg (fun h => h.2 w7))
    cases q with
    | true =>
      replace hF := hF.trans (if_neg (by simp))
      subst hF
      rcases w7 with h | h
      · repeat' (first | refine b9 ?_ | refine b6 ?_ | refine a6 ?_ | refine b5 ?_ | refine e7 rfl ?_ | refine d9 rfl ?_ | ((first | refine b8 (fun K hK => ?_) | refine d3 e9 (fun K hK => ?_) | refine b7 (cp hr ?_) | refine a8 (dp hr ?_) | refine b7 (cp h1 ?_) | refine a8 (dp h1 ?_) | refine b7 (cp h2 ?_) | refine a8 (dp h2 ?_) | refine b7 (cp hsa ?_) | refine a8 (dp hsa ?_) | fail); simp -implicitDefEqProofs [c22, h]) | refine hK _ ?_ | refine hK _ _ (by rfl) ?_ | fail)
        refine d6 (d4 ?_); simp -implicitDefEqProofs [f9, f6, f7, c22] <;> try rfl
      · repeat' (first | refine b9 ?_ | refine b6 ?_ | refine a6 ?_ | refine b5 ?_ | refine e7 rfl ?_ | refine d9 rfl ?_ | ((first | refine b8 (fun K hK => ?_) | refine d3 e9 (fun K hK => ?_) | refine b7 (cp hr ?_) | refine a8 (dp hr ?_) | refine b7 (cp h1 ?_) | refine a8 (dp h1 ?_) | refine b7 (cp h2 ?_) | refine a8 (dp h2 ?_) | refine b7 (cp hsa ?_) | refine a8 (dp hsa ?_) | fail); simp -implicitDefEqProofs [c22, h]) | refine hK _ ?_ | refine hK _ _ (by rfl) ?_ | fail)
        refine d6 (d4 ?_); simp -implicitDefEqProofs [f9, f6, f7, c22] <;> try rfl
    | false =>
      replace hF := hF.trans (if_pos ⟨c22, rfl⟩)
      subst hF
      rcases w7 with h | h
      · repeat' (first | refine b9 ?_ | refine b6 ?_ | refine a6 ?_ | refine b5 ?_ | refine e7 rfl ?_ | refine d9 rfl ?_ | ((first | refine b8 (fun K hK => ?_) | refine d3 e9 (fun K hK => ?_) | refine b7 (cp hr ?_) | refine a8 (dp hr ?_) | refine b7 (cp h1 ?_) | refine a8 (dp h1 ?_) | refine b7 (cp h2 ?_) | refine a8 (dp h2 ?_) | refine b7 (cp hsa ?_) | refine a8 (dp hsa ?_) | refine b7 (cp hbt ?_) | refine a8 (dp hbt ?_) | fail); simp -implicitDefEqProofs [c22, h]) | refine hK _ ?_ | refine hK _ _ (by rfl) ?_ | fail)
        refine d6 (d4 ?_); simp -implicitDefEqProofs [f9, f6, f7] <;> try rfl
      · repeat' (first | refine b9 ?_ | refine b6 ?_ | refine a6 ?_ | refine b5 ?_ | refine e7 rfl ?_ | refine d9 rfl ?_ | ((first | refine b8 (fun K hK => ?_) | refine d3 e9 (fun K hK => ?_) | refine b7 (cp hr ?_) | refine a8 (dp hr ?_) | refine b7 (cp h1 ?_) | refine a8 (dp h1 ?_) | refine b7 (cp h2 ?_) | refine a8 (dp h2 ?_) | refine b7 (cp hsa ?_) | refine a8 (dp hsa ?_) | refine b7 (cp hbt ?_) | refine a8 (dp hbt ?_) | fail); simp -implicitDefEqProofs [c22, h]) | refine hK _ ?_ | refine hK _ _ (by rfl) ?_ | fail)
        refine d6 (d4 ?_); simp -implicitDefEqProofs [f9, f6, f7] <;> try rfl
  obtain ⟨y, ha⟩ : ∃ a, l[k]? = some a := ⟨_, List.getElem?_eq_getElem hkl⟩
  have hc := hpr k y ha
  have w2 : IntKind.i64.wrap ((k : Nat) + 1 : Int) = (k : Nat) + 1 := l4 _ (by omega) (by omega)
  have hs := hQk k _ ha
  have hpk := hPk k _ ha
  have hto := hat k y ha
  have hQkl : (Q.take k).length = k := by rw [List.length_take]; omega
  obtain ⟨QK, hQK⟩ : ∃ QK, Q.take k = QK := ⟨_, rfl⟩
  obtain ⟨⟨⟨bx, bl⟩, gp, ge⟩, hG⟩ : ∃ g, a3w (.mk mx ml) (.mk rx rl) L x k y = g := ⟨_, rfl⟩
  rw [hG] at hc hs hpk hto
  rw [hQK] at hs hQkl ⊢
  clear hG hQK hat hend2 hPk hQk hpr hro hof hbx
  have b1 : (k + 1) * 72 ≤ 140737488355328 := by omega
  have b2 : k + 1 ≤ 140737488355328 := by omega
  by_cases he : ge = 0
  · subst he
    repeat' (first | refine b9 ?_ | refine b6 ?_ | refine a6 ?_ | refine b5 ?_ | refine e7 rfl ?_ | refine d9 rfl ?_ | ((first | refine b8 (fun K hK => ?_) | refine d3 e9 (fun K hK => ?_) | refine b7 (cp hc ?_) | refine a8 (dp hc ?_) | fail); simp -implicitDefEqProofs [hkl, hQkl, b1, b2, w2]) | refine hK _ ?_ | refine hK _ _ (by rfl) ?_ | fail)
    refine ⟨k + 1, ⟨by omega, fun g hg => ?_⟩, (by dsimp only; omega), ?_⟩
    · rw [hpk] at hg
      rcases List.mem_append.1 hg with hg | hg
      · exact hz g hg
      · simp at hg; subst hg; rfl
    · rw [hI, hs]; exact e8 [0, 1, 2, 3, 4, 34] (by simp -implicitDefEqProofs) (by simp -implicitDefEqProofs) (by decide) rfl (by simp)
  · have hF := hto he hz
    subst hF
    repeat' (first | refine b9 ?_ | refine b6 ?_ | refine a6 ?_ | refine b5 ?_ | refine e7 rfl ?_ | refine d9 rfl ?_ | ((first | refine b8 (fun K hK => ?_) | refine d3 e9 (fun K hK => ?_) | refine b7 (cp hc ?_) | refine a8 (dp hc ?_) | fail); simp -implicitDefEqProofs [hkl, he]) | refine hK _ ?_ | refine hK _ _ (by rfl) ?_ | fail)
    refine d6 (d4 ?_); simp -implicitDefEqProofs [f9, f6, f7] <;> try rfl
theorem b1r (l : List VT) (hl : l.length ≤ 1000000) : Row Tryz.prog 54 [vLs l] [] (vB (b41 l)) [] := by
  unfold b41
  have hno := fun y (h : y ∈ l) (hp : j1 y = false) => (show l.all j1 = false by rw [List.all_eq_false]; exact ⟨y, h, by rw [hp]; simp⟩)
  have hyes : (∀ y ∈ l, j1 y = true) → l.all j1 = true := fun h => List.all_eq_true.2 h
  obtain ⟨R, hR⟩ : ∃ R, l.all j1 = R := ⟨_, rfl⟩
  rw [hR] at hno hyes ⊢
  clear hR
  refine d7 Tryz.func54 rfl rfl (Nat.le_of_ble_eq_true rfl) ?_
  repeat (first | refine b9 ?_ | refine b6 ?_ | refine a6 ?_ | refine b5 ?_ | refine e7 rfl ?_ | refine d9 rfl ?_ | ((first | refine b8 (fun K hK => ?_) | refine d3 e9 (fun K hK => ?_) | fail); simp -implicitDefEqProofs; first | refine hK _ ?_ | refine hK _ _ (by rfl) ?_ | fail) | fail)
  refine m6 (ι := Nat) (fun k => x5 [(0, vLs l), (3, vI (k : Nat))] []) (fun k => k ≤ l.length ∧ ∀ j y, j < k → l[j]? = some y → j1 y = true) (fun k => l.length - k) 0 ⟨Nat.zero_le _, fun j y h => by omega⟩ (e8 [] (by simp -implicitDefEqProofs) (by simp -implicitDefEqProofs) (by decide) rfl (by simp)) (fun Z hI k hk => ?_)
  obtain ⟨hk, hz⟩ := hk
  by_cases hkl : k < l.length; rotate_left
  · have : k = l.length := by omega
    subst this
    have hR := hyes (fun y hy => by
      obtain ⟨j, hj⟩ := List.mem_iff_getElem?.1 hy
      exact hz j y (List.getElem?_eq_some_iff.1 hj).1 hj)
    subst hR
    clear hno hyes
    repeat (first | refine b9 ?_ | refine b6 ?_ | refine a6 ?_ | refine b5 ?_ | refine e7 rfl ?_ | refine d9 rfl ?_ | ((first | refine b8 (fun K hK => ?_) | refine d3 e9 (fun K hK => ?_) | fail); simp -implicitDefEqProofs; first | refine hK _ ?_ | refine hK _ _ (by rfl) ?_ | fail) | fail)
    refine d6 (d4 ?_); simp -implicitDefEqProofs [f9, f6, f7] <;> try rfl
  obtain ⟨⟨ax, al⟩, ha⟩ : ∃ a, l[k]? = some a := ⟨_, List.getElem?_eq_getElem hkl⟩
  have ha' := (List.getElem?_eq_some_iff.1 ha).2
  have hmem := List.mem_of_getElem? ha
  have w2 : IntKind.i64.wrap ((k : Nat) + 1 : Int) = (k : Nat) + 1 := l4 _ (by omega) (by omega)
  by_cases h34 : ax.k = 34
  · by_cases h1 : al.length = 1
    · have h1' : (al.length : Int) = 1 := by omega
      clear hno hyes
      repeat (first | refine b9 ?_ | refine b6 ?_ | refine a6 ?_ | refine b5 ?_ | refine e7 rfl ?_ | refine d9 rfl ?_ | ((first | refine b8 (fun K hK => ?_) | refine d3 e9 (fun K hK => ?_) | fail); simp -implicitDefEqProofs [hkl, ha, ha', h34, h1, h1', w2]; first | refine hK _ ?_ | refine hK _ _ (by rfl) ?_ | fail) | fail)
      refine ⟨k + 1, ⟨by omega, fun j y hj hy => ?_⟩, (by dsimp only; omega), ?_⟩
      · by_cases hjk : j = k
        · subst hjk; rw [ha] at hy; cases hy; simp [j1, Tr.lab, Tr.kids, h34, h1]
        · exact hz j y (by omega) hy
      · rw [hI]; exact e8 [] (by simp -implicitDefEqProofs) (by simp -implicitDefEqProofs) (by decide) rfl (by simp)
    · have h1' : ¬ (al.length : Int) = 1 := by omega
      have hR := hno _ hmem (by simp [j1, Tr.lab, Tr.kids, h34, h1])
      subst hR
      clear hno hyes
      repeat (first | refine b9 ?_ | refine b6 ?_ | refine a6 ?_ | refine b5 ?_ | refine e7 rfl ?_ | refine d9 rfl ?_ | ((first | refine b8 (fun K hK => ?_) | refine d3 e9 (fun K hK => ?_) | fail); simp -implicitDefEqProofs [hkl, ha, ha', h34, h1, h1']; first | refine hK _ ?_ | refine hK _ _ (by rfl) ?_ | fail) | fail)
      refine d6 (d4 ?_); simp -implicitDefEqProofs [f9, f6, f7] <;> try rfl
  · have hR := hno _ hmem (by simp [j1, Tr.lab, Tr.kids, h34])
    subst hR
    clear hno hyes
    repeat (first | refine b9 ?_ | refine b6 ?_ | refine a6 ?_ | refine b5 ?_ | refine e7 rfl ?_ | refine d9 rfl ?_ | ((first | refine b8 (fun K hK => ?_) | refine d3 e9 (fun K hK => ?_) | fail); simp -implicitDefEqProofs [hkl, ha, ha', h34]; first | refine hK _ ?_ | refine hK _ _ (by rfl) ?_ | fail) | fail)
    refine d6 (d4 ?_); simp -implicitDefEqProofs [f9, f6, f7] <;> try rfl
theorem a6j (x px : Lab) (pl r : List VT) (hl : pl.length ≤ 1000000) (hp : b41 pl = true) : Row Tryz.prog 24 [vT (.mk x (.mk px pl :: r))] [] (.v (.c (.row 0 6 ((p8 (.mk x (.mk px pl :: r))).map tc)))) [some (.row 24 6)] := by
  rw [show p8 (.mk x (.mk px pl :: r)) = pl.map (fun q => q.kids.getD 0 z0T) from rfl]
  refine d7 Tryz.func24 rfl rfl (Nat.le_of_ble_eq_true rfl) ?_
  repeat (first | refine b9 ?_ | refine b6 ?_ | refine a6 ?_ | refine b5 ?_ | refine e7 rfl ?_ | refine d9 rfl ?_ | ((first | refine b8 (fun K hK => ?_) | refine d3 e9 (fun K hK => ?_) | fail); simp -implicitDefEqProofs; first | refine hK _ ?_ | refine hK _ _ (by rfl) ?_ | fail) | fail)
  refine m6 (ι := Nat) (fun k => x5 [(1, .v (.c (.ptr 0 0))), (3, .v (.c (.row 1 6 (((pl.take k).map (fun q => q.kids.getD 0 z0T)).map tc)))), (4, vI (k : Nat))] [some (.box (ta (.mk x (.mk px pl :: r)))), some (.row 24 6)]) (fun k => k ≤ pl.length) (fun k => pl.length - k) 0 (Nat.zero_le _) (e8 [0, 2] (by simp -implicitDefEqProofs) (by simp -implicitDefEqProofs) (by decide) rfl (by simp)) (fun Z hI k hk => ?_)
  by_cases hkl : k < pl.length; rotate_left
  · have : k = pl.length := by omega
    subst this
    rw [List.take_length]
    repeat (first | refine b9 ?_ | refine b6 ?_ | refine a6 ?_ | refine b5 ?_ | refine e7 rfl ?_ | refine d9 rfl ?_ | ((first | refine b8 (fun K hK => ?_) | refine d3 e9 (fun K hK => ?_) | fail); simp -implicitDefEqProofs; first | refine hK _ ?_ | refine hK _ _ (by rfl) ?_ | fail) | fail)
    refine d6 (j0 [1] ?_); simp -implicitDefEqProofs [m9, f6, f7] <;> try rfl
  obtain ⟨⟨ax, al⟩, ha⟩ : ∃ a, pl[k]? = some a := ⟨_, List.getElem?_eq_getElem hkl⟩
  have ha' := (List.getElem?_eq_some_iff.1 ha).2
  have hpt := List.all_eq_true.1 hp _ (List.mem_of_getElem? ha)
  simp [j1, Tr.kids] at hpt
  obtain ⟨⟨bx, bl⟩, rfl⟩ := o6 (l := al) (of_decide_eq_true hpt.2)
  have w2 : IntKind.i64.wrap ((k : Nat) + 1 : Int) = (k : Nat) + 1 := l4 _ (by omega) (by omega)
  have hs : (pl.take (k + 1)).map (fun q => q.kids.getD 0 z0T) = (pl.take k).map (fun q => q.kids.getD 0 z0T) ++ [.mk bx bl] := by rw [List.take_add_one, ha]; simp [Tr.kids]
  obtain ⟨L, hL⟩ : ∃ L, (pl.take k).map (fun q => q.kids.getD 0 z0T) = L := ⟨_, rfl⟩
  have hLl : L.length = k := by rw [← hL, List.length_map, List.length_take]; omega
  rw [hL] at hs ⊢
  have b1 : (k + 1) * 72 ≤ 140737488355328 := by omega
  have b2 : k + 1 ≤ 140737488355328 := by omega
  repeat (first | refine b9 ?_ | refine b6 ?_ | refine a6 ?_ | refine b5 ?_ | refine e7 rfl ?_ | refine d9 rfl ?_ | ((first | refine b8 (fun K hK => ?_) | refine d3 e9 (fun K hK => ?_) | fail); simp -implicitDefEqProofs [hkl, ha, ha', hLl, b1, b2, w2]; first | refine hK _ ?_ | refine hK _ _ (by rfl) ?_ | fail) | fail)
  refine ⟨k + 1, by omega, (by dsimp only; omega), ?_⟩
  rw [hI, hs]; exact e8 [0, 23] (by simp -implicitDefEqProofs) (by simp -implicitDefEqProofs) (by decide) rfl (by simp)
theorem b8u (x : Lab) (l : List VT) (hsz : (Tr.mk x l).size ≤ 1000000) : Row Tryz.prog 40 [vT (.mk x l)] [] (.v (.agg [.pv (I x.k), .pv (I x.n), .pv (Sx ⟨#[]⟩), .arr 0 6 l.length, .pv (I 0), .pv (I 0)])) [some (.arr 24 6 ((l.map l3).map tc))] := by
  have hlen := Tr.len_size (x := x) (l := l)
  refine d7 Tryz.func40 rfl rfl (Nat.le_of_ble_eq_true rfl) ?_
  repeat (first | refine b9 ?_ | refine b6 ?_ | refine a6 ?_ | refine b5 ?_ | refine e7 rfl ?_ | refine d9 rfl ?_ | ((first | refine b8 (fun K hK => ?_) | refine d3 e9 (fun K hK => ?_) | fail); simp -implicitDefEqProofs; first | refine hK _ ?_ | refine hK _ _ (by rfl) ?_ | fail) | fail)
  refine a08 7 3 [.pv (I x.k), .pv (I x.n), .pv (Sx ⟨#[]⟩), .pv .nilS, .pv (I 0), .pv (I 0)] 24 6 (by simp) (by simp) (by simp) ?_
  simp [St.nilca]
  refine m6 (ι := Nat) (fun k => x5 [(1, .v (.c (.ptr 0 0))), (2, .v (.c (.ptr 1 0))), (3, .v (.c (.ptr 2 0))), (4, vI (k : Nat))] [some (.box (ta (.mk x l))), some (.box (ta (.mk ⟨0, 0, ⟨#[]⟩, 0, 0⟩ []))), some (.box [.pv (I x.k), .pv (I x.n), .pv (Sx ⟨#[]⟩), .arr 3 6 ((l.take k).map l3).length, .pv (I 0), .pv (I 0)]), some (.arr 24 6 (((l.take k).map l3).map tc))]) (fun k => k ≤ l.length) (fun k => l.length - k) 0 (Nat.zero_le _) (e8 [0, 1, 7, 10] (by simp -implicitDefEqProofs) (by simp -implicitDefEqProofs) (by decide) rfl (by simp)) (fun Z hI k hk => ?_)
  by_cases hkl : k < l.length; rotate_left
  · have : k = l.length := by omega
    subst this
    rw [List.take_length]
    repeat (first | refine b9 ?_ | refine b6 ?_ | refine a6 ?_ | refine b5 ?_ | refine e7 rfl ?_ | refine d9 rfl ?_ | ((first | refine b8 (fun K hK => ?_) | refine d3 e9 (fun K hK => ?_) | fail); simp -implicitDefEqProofs; first | refine hK _ ?_ | refine hK _ _ (by rfl) ?_ | fail) | fail)
    refine d6 (j0 [3] ?_); simp -implicitDefEqProofs [m9, f6, f7] <;> try rfl
  obtain ⟨⟨ax, al⟩, ha⟩ : ∃ a, l[k]? = some a := ⟨_, List.getElem?_eq_getElem hkl⟩
  have ha' := (List.getElem?_eq_some_iff.1 ha).2
  have hsz1 := Tr.size_at (x := x) ha
  have hc := a7q (.mk ax al) (by omega)
  have w2 : IntKind.i64.wrap ((k : Nat) + 1 : Int) = (k : Nat) + 1 := l4 _ (by omega) (by omega)
  have hs : (l.take (k + 1)).map l3 = (l.take k).map l3 ++ [l3 (.mk ax al)] := by rw [List.take_add_one, ha]; simp
  obtain ⟨L, hL⟩ : ∃ L, (l.take k).map l3 = L := ⟨_, rfl⟩
  have hLl : L.length = k := by rw [← hL, List.length_map, List.length_take]; omega
  rw [hL] at hs ⊢
  obtain ⟨⟨bx, bl⟩, hb⟩ : ∃ b, l3 (.mk ax al) = b := ⟨_, rfl⟩
  rw [hb] at hc hs
  have b1 : (k + 1) * 72 ≤ 140737488355328 := by omega
  have b2 : k + 1 ≤ 140737488355328 := by omega
  repeat' (first | refine b9 ?_ | refine b6 ?_ | refine a6 ?_ | refine b5 ?_ | refine e7 rfl ?_ | refine d9 rfl ?_ | ((first | refine b8 (fun K hK => ?_) | refine d3 e9 (fun K hK => ?_) | refine b7 (cp hc ?_) | refine a8 (dp hc ?_) | fail); simp -implicitDefEqProofs [hkl, ha, ha', hLl, b1, b2, w2]) | refine hK _ ?_ | refine hK _ _ (by rfl) ?_ | fail)
  refine ⟨k + 1, by omega, (by dsimp only; omega), ?_⟩
  rw [hI, hs]; exact e8 [0, 1, 2, 81] (by simp -implicitDefEqProofs [hLl]) (by simp -implicitDefEqProofs [hLl]) (by decide) rfl (by simp)
theorem c57 {pl : List VT} (hp : b41 pl = true) {q : VT} (hq : q ∈ pl) : ∃ px b, q = .mk px [b] := by
  obtain ⟨px, l⟩ := q
  have := List.all_eq_true.1 hp _ hq
  simp [j1, Tr.kids] at this
  obtain ⟨b, rfl⟩ := o6 (l := l) (of_decide_eq_true this.2)
  exact ⟨px, b, rfl⟩
theorem c2a (m : VT) (hm : m7 m) (hms : m.size ≤ 100000) (x : Lab) (l : List VT) (ht : m7 (.mk x l)) (hsz : (Tr.mk x l).size ≤ 100000) : Row Tryz.prog 35 [vT m, vT (.mk x l)] [] (vGr (fnT m x l)) [] := by
  have hlen := Tr.len_size (x := x) (l := l)
  have hbx := n4 x l 12
  have hns : ∀ P, fnT m x l = P → Row Tryz.prog 35 [vT m, vT (.mk x l)] [] (vGr P) [] → Row Tryz.prog 35 [vT m, vT (.mk x l)] [] (vGr (fnT m x l)) [] := fun P h k => by rw [h]; exact k
  by_cases hn : x.n = 0 ∨ x.n = 1; rotate_left
  · have n0 : ¬ x.n = 0 := fun h => hn (.inl h)
    have n1 : ¬ x.n = 1 := fun h => hn (.inr h)
    refine hns (m8 x 12) (by unfold fnT; exact if_pos (.inl hn)) ?_
    clear hns
    unfold m8 at hbx ⊢
    obtain ⟨mx, ml⟩ := m
    refine d7 Tryz.func35 rfl rfl (Nat.le_of_ble_eq_true rfl) ?_
    repeat' (first | refine b9 ?_ | refine b6 ?_ | refine a6 ?_ | refine b5 ?_ | refine e7 rfl ?_ | refine d9 rfl ?_ | ((first | refine b8 (fun K hK => ?_) | refine d3 e9 (fun K hK => ?_) | refine b7 (cp hbx ?_) | refine a8 (dp hbx ?_) | fail); simp -implicitDefEqProofs [n0, n1]) | refine hK _ ?_ | refine hK _ _ (by rfl) ?_ | fail)
    refine d6 (d4 ?_); simp -implicitDefEqProofs [f9, f6, f7] <;> try rfl
  by_cases h3 : l.length = 3; rotate_left
  · have h3' : ¬ (l.length : Int) = 3 := by omega
    refine hns (m8 x 12) (by unfold fnT; exact if_pos (.inr (.inl h3))) ?_
    clear hns
    unfold m8 at hbx ⊢
    obtain ⟨mx, ml⟩ := m
    rcases hn with hn | hn
    · refine d7 Tryz.func35 rfl rfl (Nat.le_of_ble_eq_true rfl) ?_
      repeat' (first | refine b9 ?_ | refine b6 ?_ | refine a6 ?_ | refine b5 ?_ | refine e7 rfl ?_ | refine d9 rfl ?_ | ((first | refine b8 (fun K hK => ?_) | refine d3 e9 (fun K hK => ?_) | refine b7 (cp hbx ?_) | refine a8 (dp hbx ?_) | fail); simp -implicitDefEqProofs [hn, h3, h3']) | refine hK _ ?_ | refine hK _ _ (by rfl) ?_ | fail)
      refine d6 (d4 ?_); simp -implicitDefEqProofs [f9, f6, f7] <;> try rfl
    · refine d7 Tryz.func35 rfl rfl (Nat.le_of_ble_eq_true rfl) ?_
      repeat' (first | refine b9 ?_ | refine b6 ?_ | refine a6 ?_ | refine b5 ?_ | refine e7 rfl ?_ | refine d9 rfl ?_ | ((first | refine b8 (fun K hK => ?_) | refine d3 e9 (fun K hK => ?_) | refine b7 (cp hbx ?_) | refine a8 (dp hbx ?_) | fail); simp -implicitDefEqProofs [hn, h3, h3']) | refine hK _ ?_ | refine hK _ _ (by rfl) ?_ | fail)
      refine d6 (d4 ?_); simp -implicitDefEqProofs [f9, f6, f7] <;> try rfl
  obtain ⟨⟨px, pl⟩, ⟨rx, rl⟩, ⟨bx, bl⟩, rfl⟩ := a3z h3
  have sp := Tr.size_at (x := x) (l := [Tr.mk px pl, .mk rx rl, .mk bx bl]) (i := 0) rfl
  have sr := Tr.size_at (x := x) (l := [Tr.mk px pl, .mk rx rl, .mk bx bl]) (i := 1) rfl
  have sb := Tr.size_at (x := x) (l := [Tr.mk px pl, .mk rx rl, .mk bx bl]) (i := 2) rfl
  have ip := ((Tr.all_mk _ _ _).1 ht).2 (.mk px pl) (by simp)
  have ir := ((Tr.all_mk _ _ _).1 ht).2 (.mk rx rl) (by simp)
  have ib := ((Tr.all_mk _ _ _).1 ht).2 (.mk bx bl) (by simp)
  have lp := Tr.len_size (x := px) (l := pl)
  by_cases h35 : px.k = 35; rotate_left
  · refine hns (m8 x 12) (by unfold fnT; exact if_pos (.inr (.inr (.inl h35)))) ?_
    clear hns
    unfold m8 at hbx ⊢
    obtain ⟨mx, ml⟩ := m
    rcases hn with hn | hn
    · refine d7 Tryz.func35 rfl rfl (Nat.le_of_ble_eq_true rfl) ?_
      repeat' (first | refine b9 ?_ | refine b6 ?_ | refine a6 ?_ | refine b5 ?_ | refine e7 rfl ?_ | refine d9 rfl ?_ | ((first | refine b8 (fun K hK => ?_) | refine d3 e9 (fun K hK => ?_) | refine b7 (cp hbx ?_) | refine a8 (dp hbx ?_) | fail); simp -implicitDefEqProofs [hn, h35]) | refine hK _ ?_ | refine hK _ _ (by rfl) ?_ | fail)
      refine d6 (d4 ?_); simp -implicitDefEqProofs [f9, f6, f7] <;> try rfl
    · refine d7 Tryz.func35 rfl rfl (Nat.le_of_ble_eq_true rfl) ?_
      repeat' (first | refine b9 ?_ | refine b6 ?_ | refine a6 ?_ | refine b5 ?_ | refine e7 rfl ?_ | refine d9 rfl ?_ | ((first | refine b8 (fun K hK => ?_) | refine d3 e9 (fun K hK => ?_) | refine b7 (cp hbx ?_) | refine a8 (dp hbx ?_) | fail); simp -implicitDefEqProofs [hn, h35]) | refine hK _ ?_ | refine hK _ _ (by rfl) ?_ | fail)
      refine d6 (d4 ?_); simp -implicitDefEqProofs [f9, f6, f7] <;> try rfl
  have hpa := b1r pl (by omega)
  cases hP : b41 pl with
  | false =>
    rw [hP] at hpa
    refine hns (m8 x 12) (by unfold fnT; exact if_pos (.inr (.inr (.inr (.inl hP))))) ?_
    clear hns
    unfold m8 at hbx ⊢
    obtain ⟨mx, ml⟩ := m
    rcases hn with hn | hn
    · refine d7 Tryz.func35 rfl rfl (Nat.le_of_ble_eq_true rfl) ?_
      repeat' (first | refine b9 ?_ | refine b6 ?_ | refine a6 ?_ | refine b5 ?_ | refine e7 rfl ?_ | refine d9 rfl ?_ | ((first | refine b8 (fun K hK => ?_) | refine d3 e9 (fun K hK => ?_) | refine b7 (cp hbx ?_) | refine a8 (dp hbx ?_) | refine b7 (cp hpa ?_) | refine a8 (dp hpa ?_) | fail); simp -implicitDefEqProofs [hn, h35]) | refine hK _ ?_ | refine hK _ _ (by rfl) ?_ | fail)
      refine d6 (d4 ?_); simp -implicitDefEqProofs [f9, f6, f7] <;> try rfl
    · refine d7 Tryz.func35 rfl rfl (Nat.le_of_ble_eq_true rfl) ?_
      repeat' (first | refine b9 ?_ | refine b6 ?_ | refine a6 ?_ | refine b5 ?_ | refine e7 rfl ?_ | refine d9 rfl ?_ | ((first | refine b8 (fun K hK => ?_) | refine d3 e9 (fun K hK => ?_) | refine b7 (cp hbx ?_) | refine a8 (dp hbx ?_) | refine b7 (cp hpa ?_) | refine a8 (dp hpa ?_) | fail); simp -implicitDefEqProofs [hn, h35]) | refine hK _ ?_ | refine hK _ _ (by rfl) ?_ | fail)
      refine d6 (d4 ?_); simp -implicitDefEqProofs [f9, f6, f7] <;> try rfl
  | true =>
  rw [hP] at hpa
  by_cases h29 : bx.k = 29; rotate_left
  · refine hns (m8 x 12) (by unfold fnT; exact if_pos (.inr (.inr (.inr (.inr h29))))) ?_
    clear hns
    unfold m8 at hbx ⊢
    obtain ⟨mx, ml⟩ := m
    rcases hn with hn | hn
    · refine d7 Tryz.func35 rfl rfl (Nat.le_of_ble_eq_true rfl) ?_
      repeat' (first | refine b9 ?_ | refine b6 ?_ | refine a6 ?_ | refine b5 ?_ | refine e7 rfl ?_ | refine d9 rfl ?_ | ((first | refine b8 (fun K hK => ?_) | refine d3 e9 (fun K hK => ?_) | refine b7 (cp hbx ?_) | refine a8 (dp hbx ?_) | refine b7 (cp hpa ?_) | refine a8 (dp hpa ?_) | fail); simp -implicitDefEqProofs [hn, h35, h29]) | refine hK _ ?_ | refine hK _ _ (by rfl) ?_ | fail)
      refine d6 (d4 ?_); simp -implicitDefEqProofs [f9, f6, f7] <;> try rfl
    · refine d7 Tryz.func35 rfl rfl (Nat.le_of_ble_eq_true rfl) ?_
      repeat' (first | refine b9 ?_ | refine b6 ?_ | refine a6 ?_ | refine b5 ?_ | refine e7 rfl ?_ | refine d9 rfl ?_ | ((first | refine b8 (fun K hK => ?_) | refine d3 e9 (fun K hK => ?_) | refine b7 (cp hbx ?_) | refine a8 (dp hbx ?_) | refine b7 (cp hpa ?_) | refine a8 (dp hpa ?_) | fail); simp -implicitDefEqProofs [hn, h35, h29]) | refine hK _ ?_ | refine hK _ _ (by rfl) ?_ | fail)
      refine d6 (d4 ?_); simp -implicitDefEqProofs [f9, f6, f7] <;> try rfl
  clear hbx
  have hty := a6j x px pl [Tr.mk rx rl, Tr.mk bx bl] (by omega) hP
  have hnot : ¬ (¬ (x.n = 0 ∨ x.n = 1) ∨ ¬ ([Tr.mk px pl, Tr.mk rx rl, Tr.mk bx bl] : List VT).length = 3 ∨ ¬ px.k = 35 ∨ b41 pl = false ∨ ¬ bx.k = 29) := by
    intro h
    rcases h with h | h | h | h | h
    · exact h hn
    · exact h h3
    · exact h h35
    · rw [hP] at h; cases h
    · exact h h29
  have hfn : fnT m x [Tr.mk px pl, Tr.mk rx rl, Tr.mk bx bl] = (match (p8 (Tr.mk x [Tr.mk px pl, Tr.mk rx rl, Tr.mk bx bl]) ++ [Tr.mk rx rl]).find? (fun a => decide (z7 m a = 0)) with
    | some a => m8 a.lab 11
    | none => match (p8 (Tr.mk x [Tr.mk px pl, Tr.mk rx rl, Tr.mk bx bl]) ++ [Tr.mk rx rl]).find? (fun a => decide (x.n = 1) && !(decide (0 < z7 m a) && a3u a)) with
      | some a => m8 a.lab 12
      | none => if (a0k m (.mk rx rl) (.mk bx bl) (p8 (Tr.mk x [Tr.mk px pl, Tr.mk rx rl, Tr.mk bx bl]))).er = 0
          then ⟨.mk ⟨x.k, x.n, ⟨#[]⟩, 0, 0⟩ [l3 (.mk px pl), l3 (.mk rx rl), (a0k m (.mk rx rl) (.mk bx bl) (p8 (Tr.mk x [Tr.mk px pl, Tr.mk rx rl, Tr.mk bx bl]))).t], 0, 0⟩
          else a0k m (.mk rx rl) (.mk bx bl) (p8 (Tr.mk x [Tr.mk px pl, Tr.mk rx rl, Tr.mk bx bl])) : GR) := by
    unfold fnT
    exact if_neg hnot
  obtain ⟨T, hT⟩ : ∃ T, p8 (Tr.mk x [Tr.mk px pl, Tr.mk rx rl, Tr.mk bx bl]) = T := ⟨_, rfl⟩
  have hTm : ∀ a ∈ T, p6 100000 a := by
    intro a ha
    rw [← hT] at ha
    obtain ⟨q, hq, rfl⟩ := List.mem_map.1 ha
    replace hq : q ∈ pl := hq
    obtain ⟨qx, b, rfl⟩ := c57 hP hq
    have h1 := v8 (x := px) hq
    have h2 := Tr.size_at (x := qx) (l := [b]) (i := 0) rfl
    exact ⟨((Tr.all_mk _ _ _).1 (((Tr.all_mk _ _ _).1 ip).2 _ hq)).2 b (by simp), by show b.size ≤ _; omega⟩
  have hTl : T.length ≤ 100000 := by rw [← hT]; unfold p8; rw [List.length_map]; show pl.length ≤ _; omega
  rw [hT] at hty hfn
  obtain ⟨A, hA⟩ : ∃ A, T ++ [Tr.mk rx rl] = A := ⟨_, rfl⟩
  rw [hA] at hfn
  have hAl : A.length = T.length + 1 := by rw [← hA]; simp
  have hAm : ∀ a ∈ A, p6 100000 a := by
    intro a ha
    rw [← hA] at ha
    rcases List.mem_append.1 ha with h | h
    · exact hTm a h
    · simp at h; subst h; exact ⟨ir, by omega⟩
  have hce : ∀ a, a ∈ A → Row Tryz.prog 38 [vT m, vT a] [] (vI (z7 m a)) [] := fun a ha => a0i m a hm (by omega) (hAm a ha).1 (by have := (hAm a ha).2; omega)
  have hpn : ∀ a, a ∈ A → Row Tryz.prog 55 [vT m, vT a] [] (vB (decide (0 < z7 m a) && a3u a)) [] := fun a ha => b5b m a hm (by omega) (hAm a ha).1 (by have := (hAm a ha).2; omega)
  have hst := (b80 m (.mk rx rl) (.mk bx bl) ib).2 T 100000 ⟨⟨hm, hms⟩, hTm, by omega, by omega, ⟨ir, by omega⟩⟩
  have hsb : a2u m (.mk rx rl) bx bl T [] = a0k m (.mk rx rl) (.mk bx bl) T := by
    rw [a06, show b0g bx bl = true by unfold b0g; rw [if_pos h29], if_neg (by simp), if_pos h29]
  rw [Tr.lab, Tr.kids, hsb] at hst
  have hnm := b8u x [.mk px pl, .mk rx rl, .mk bx bl] (by omega)
  obtain ⟨⟨⟨cx, cl⟩, gp, ge⟩, hG⟩ : ∃ g, a0k m (.mk rx rl) (.mk bx bl) T = g := ⟨_, rfl⟩
  rw [hG] at hst hfn
  dsimp only at hfn
  obtain ⟨⟨ux, ul⟩, hU⟩ : ∃ g, l3 (.mk px pl) = g := ⟨_, rfl⟩
  obtain ⟨⟨vx, vl⟩, hV⟩ : ∃ g, l3 (.mk rx rl) = g := ⟨_, rfl⟩
  obtain ⟨⟨wx, wl⟩, hW⟩ : ∃ g, l3 (.mk bx bl) = g := ⟨_, rfl⟩
  simp only [List.map_cons, List.map_nil, hU, hV, hW] at hnm
  rw [hU, hV] at hfn
  have b1 : (T.length + 1) * 72 ≤ 140737488355328 := by omega
  have b2 : T.length + 1 ≤ 140737488355328 := by omega
  have hAe : A.map tc = T.map tc ++ [[I rx.k, I rx.n, Sx rx.s, .sl 6 (rl.map tc), I rx.f, I rx.t]] := by rw [← hA]; simp
  obtain ⟨R, hRf⟩ : ∃ R, fnT m x [Tr.mk px pl, Tr.mk rx rl, Tr.mk bx bl] = R := ⟨_, rfl⟩
  rw [hRf] at hfn ⊢
  have ha1 : ∀ (k : Nat) ax al, A[k]? = some (.mk ax al) → z7 m (.mk ax al) = 0 → (∀ a ∈ A.take k, ¬ z7 m a = 0) → R = m8 ax 11 := by
    intro k ax al ha hc hno
    rw [hfn, a2y ha (by simpa using hc) (fun a h => by simpa using hno a h)]
    rfl
  have hf0 : (∀ a ∈ A, ¬ z7 m a = 0) → A.find? (fun a => decide (z7 m a = 0)) = none := fun h => List.find?_eq_none.2 (fun a ha => by simpa using h a ha)
  have ha2 : (∀ a ∈ A, ¬ z7 m a = 0) → ∀ (k : Nat) ax al, A[k]? = some (.mk ax al) → x.n = 1 → (decide (0 < z7 m (.mk ax al)) && a3u (.mk ax al)) = false → (∀ a ∈ A.take k, x.n = 1 → (decide (0 < z7 m a) && a3u a) = true) → R = m8 ax 12 := by
    intro h k ax al ha hx hc hno
    rw [hfn, hf0 h, a2y ha (by rw [hc, decide_eq_true hx]; rfl) (fun a ha => by rw [hno a ha hx]; simp)]
    rfl
  have ha3 : (∀ a ∈ A, ¬ z7 m a = 0) → (∀ a ∈ A, x.n = 1 → (decide (0 < z7 m a) && a3u a) = true) → R = if ge = 0 then ⟨.mk ⟨x.k, x.n, ⟨#[]⟩, 0, 0⟩ [.mk ux ul, .mk vx vl, .mk cx cl], 0, 0⟩ else ⟨.mk cx cl, gp, ge⟩ := by
    intro h1 h2
    rw [hfn, hf0 h1, List.find?_eq_none.2 (fun a ha => by
      by_cases hx : x.n = 1
      · rw [h2 a ha hx]; simp
      · rw [decide_eq_false hx]; simp)]
  clear hfn hns hnot hT hA hG hU hV hW hRf hsb hf0
  have hba := fun (a : Lab) (al : List VT) e => n4 a al e
  have hnn : x.n = 0 ∨ x.n = 1 := hn
  obtain ⟨mx, ml⟩ := m
  rcases hn with hn | hn
  all_goals (
    refine d7 Tryz.func35 rfl rfl (Nat.le_of_ble_eq_true rfl) ?_
    repeat' (first | refine b9 ?_ | refine b6 ?_ | refine a6 ?_ | refine b5 ?_ | refine e7 rfl ?_ | refine d9 rfl ?_ | ((first | refine b8 (fun K hK => ?_) | refine d3 e9 (fun K hK => ?_) | refine b7 (cp hpa ?_) | refine a8 (dp hpa ?_) | refine b7 (cg hty [] ?_) | refine a8 (dg hty [] ?_) | fail); simp -implicitDefEqProofs [hn, h35, h29, b1, b2]) | refine hK _ ?_ | refine hK _ _ (by rfl) ?_ | fail)
    refine m6 (ι := Nat) (fun k => x5 [(2, .v (.c (.ptr 0 0))), (3, .v (.c (.ptr 1 0))), (4, .v (.c (.ptr 2 0))), (5, .v (.c (.row 3 6 (A.map tc)))), (6, vI (k : Nat))] [some (.box (ta (.mk mx ml))), some (.box (ta (.mk x [Tr.mk px pl, Tr.mk rx rl, Tr.mk bx bl]))), some (.box (ta z0T ++ [.pv (I 0), .pv (I 0)])), some (.row 24 6)]) (fun k => k ≤ A.length ∧ ∀ a ∈ A.take k, ¬ z7 (.mk mx ml) a = 0) (fun k => A.length - k) 0 ⟨Nat.zero_le _, by simp⟩ (by first | (refine e8 [0, 1, 2, 102] ?_ ?_ (by decide) rfl (by simp) <;> (simp -implicitDefEqProofs [hAe, hn, h35, h29]; done)) | (refine e8 [0, 1, 2, 105] ?_ ?_ (by decide) rfl (by simp) <;> (simp -implicitDefEqProofs [hAe, hn, h35, h29]; done)) | (refine e8 [0, 1, 2, 104] ?_ ?_ (by decide) rfl (by simp) <;> (simp -implicitDefEqProofs [hAe, hn, h35, h29]; done)) | (refine e8 [0, 1, 2, 106] ?_ ?_ (by decide) rfl (by simp) <;> (simp -implicitDefEqProofs [hAe, hn, h35, h29]; done)) | (refine e8 [0, 1, 2, 103] ?_ ?_ (by decide) rfl (by simp) <;> (simp -implicitDefEqProofs [hAe, hn, h35, h29]; done)) | (refine e8 [0, 1, 2, 101] ?_ ?_ (by decide) rfl (by simp) <;> (simp -implicitDefEqProofs [hAe, hn, h35, h29]; done)) | (refine e8 [0, 1, 2, 100] ?_ ?_ (by decide) rfl (by simp) <;> (simp -implicitDefEqProofs [hAe, hn, h35, h29]; done)) | (refine e8 [0, 1, 2, 99] ?_ ?_ (by decide) rfl (by simp) <;> (simp -implicitDefEqProofs [hAe, hn, h35, h29]; done))) (fun Z hI k hk => ?_)
    obtain ⟨hk, hz⟩ := hk
    by_cases hkl : k < A.length; rotate_left
    · have : k = A.length := by omega
      subst this
      rw [List.take_length] at hz
      repeat (first | refine b9 ?_ | refine b6 ?_ | refine a6 ?_ | refine b5 ?_ | refine e7 rfl ?_ | refine d9 rfl ?_ | ((first | refine b8 (fun K hK => ?_) | refine d3 e9 (fun K hK => ?_) | fail); simp -implicitDefEqProofs; first | refine hK _ ?_ | refine hK _ _ (by rfl) ?_ | fail) | fail)
      refine m6 (ι := Nat) (fun k => x5 [(2, .v (.c (.ptr 0 0))), (3, .v (.c (.ptr 1 0))), (4, .v (.c (.ptr 2 0))), (5, .v (.c (.row 3 6 (A.map tc)))), (7, vI (k : Nat))] [some (.box (ta (.mk mx ml))), some (.box (ta (.mk x [Tr.mk px pl, Tr.mk rx rl, Tr.mk bx bl]))), some (.box (ta z0T ++ [.pv (I 0), .pv (I 0)])), some (.row 24 6)]) (fun k => k ≤ A.length ∧ ∀ a ∈ A.take k, x.n = 1 → (decide (0 < z7 (.mk mx ml) a) && a3u a) = true) (fun k => A.length - k) 0 ⟨Nat.zero_le _, by simp⟩ (e8 [0, 1, 2, 3] (by simp -implicitDefEqProofs) (by simp -implicitDefEqProofs) (by decide) rfl (by simp)) (fun Z hI k hk => ?_)
      obtain ⟨hk, hz2⟩ := hk
      by_cases hkl : k < A.length; rotate_left
      · have : k = A.length := by omega
        subst this
        rw [List.take_length] at hz2
        have hR := ha3 hz hz2
        clear ha1 ha2 ha3 hce hpn
        by_cases he : ge = 0
        · replace hR := hR.trans (if_pos he)
          subst hR
          have he' := eq_true he
          repeat' (first | refine b9 ?_ | refine b6 ?_ | refine a6 ?_ | refine b5 ?_ | refine e7 rfl ?_ | refine d9 rfl ?_ | ((first | refine b8 (fun K hK => ?_) | refine d3 e9 (fun K hK => ?_) | refine b7 (cg hty [] ?_) | refine a8 (dg hty [] ?_) | refine b7 (cp hst ?_) | refine a8 (dp hst ?_) | refine b7 (cg hnm [] ?_) | refine a8 (dg hnm [] ?_) | fail); simp -implicitDefEqProofs [he']) | refine hK _ ?_ | refine hK _ _ (by rfl) ?_ | fail)
          refine b16 124 24 6 ([Tr.mk ux ul, Tr.mk vx vl, Tr.mk cx cl].map tc) (by simp) ?_
          simp [St.frz, AV.frz, AT.frz, AC.frz, AO.frz]
          refine d6 (d4 ?_); simp -implicitDefEqProofs [f9, f6, f7] <;> try rfl
        · replace hR := hR.trans (if_neg he)
          subst hR
          repeat' (first | refine b9 ?_ | refine b6 ?_ | refine a6 ?_ | refine b5 ?_ | refine e7 rfl ?_ | refine d9 rfl ?_ | ((first | refine b8 (fun K hK => ?_) | refine d3 e9 (fun K hK => ?_) | refine b7 (cg hty [] ?_) | refine a8 (dg hty [] ?_) | refine b7 (cp hst ?_) | refine a8 (dp hst ?_) | fail); simp -implicitDefEqProofs [he]) | refine hK _ ?_ | refine hK _ _ (by rfl) ?_ | fail)
          refine d6 (d4 ?_); simp -implicitDefEqProofs [f9, f6, f7] <;> try rfl
      obtain ⟨⟨ax, al⟩, ha⟩ : ∃ a, A[k]? = some a := ⟨_, List.getElem?_eq_getElem hkl⟩
      have ha' := (List.getElem?_eq_some_iff.1 ha).2
      have w2 : IntKind.i64.wrap ((k : Nat) + 1 : Int) = (k : Nat) + 1 := l4 _ (by omega) (by omega)
      have hq := hpn _ (List.mem_of_getElem? ha)
      have hto := ha2 hz k ax al ha
      have hb := hba ax al 12
      have hnx : (x.n = 1 → (decide (0 < z7 (.mk mx ml) (.mk ax al)) && a3u (.mk ax al)) = true) → ∀ a ∈ A.take (k + 1), x.n = 1 → (decide (0 < z7 (.mk mx ml) a) && a3u a) = true := by
        intro he y hy
        rw [List.take_add_one, ha] at hy
        rcases List.mem_append.1 hy with hy | hy
        · exact hz2 y hy
        · simp at hy; subst hy; exact he
      obtain ⟨q, hqq⟩ : ∃ q, (decide (0 < z7 (.mk mx ml) (.mk ax al)) && a3u (.mk ax al)) = q := ⟨_, rfl⟩
      rw [hqq] at hq hto hnx
      unfold m8 at hto hb
      clear ha1 ha2 ha3 hce hpn hba hqq hst hnm hty
      by_cases hx1 : x.n = 1; rotate_left
      · try (exact absurd hn hx1)
        all_goals (
          repeat' (first | refine b9 ?_ | refine b6 ?_ | refine a6 ?_ | refine b5 ?_ | refine e7 rfl ?_ | refine d9 rfl ?_ | ((first | refine b8 (fun K hK => ?_) | refine d3 e9 (fun K hK => ?_) | refine b7 (cp hq ?_) | refine a8 (dp hq ?_) | fail); simp -implicitDefEqProofs [hkl, ha, ha', hn, w2]) | refine hK _ ?_ | refine hK _ _ (by rfl) ?_ | fail)
          refine ⟨k + 1, ⟨by omega, hnx (fun h => absurd h hx1)⟩, (by dsimp only; omega), ?_⟩
          rw [hI]; exact e8 [0, 1, 2, 3] (by simp -implicitDefEqProofs [hn]) (by simp -implicitDefEqProofs [hn]) (by decide) rfl (by simp))
      · try (exfalso; omega)
        all_goals (
          cases q with
          | true =>
            repeat' (first | refine b9 ?_ | refine b6 ?_ | refine a6 ?_ | refine b5 ?_ | refine e7 rfl ?_ | refine d9 rfl ?_ | ((first | refine b8 (fun K hK => ?_) | refine d3 e9 (fun K hK => ?_) | refine b7 (cp hq ?_) | refine a8 (dp hq ?_) | fail); simp -implicitDefEqProofs [hkl, ha, ha', hn, w2]) | refine hK _ ?_ | refine hK _ _ (by rfl) ?_ | fail)
            refine ⟨k + 1, ⟨by omega, hnx (fun _ => rfl)⟩, (by dsimp only; omega), ?_⟩
            rw [hI]; exact e8 [0, 1, 2, 3] (by simp -implicitDefEqProofs [hn]) (by simp -implicitDefEqProofs [hn]) (by decide) rfl (by simp)
          | false =>
            have hR := hto hn rfl hz2
            subst hR
            repeat' (first | refine b9 ?_ | refine b6 ?_ | refine a6 ?_ | refine b5 ?_ | refine e7 rfl ?_ | refine d9 rfl ?_ | ((first | refine b8 (fun K hK => ?_) | refine d3 e9 (fun K hK => ?_) | refine b7 (cp hq ?_) | refine a8 (dp hq ?_) | refine b7 (cp hb ?_) | refine a8 (dp hb ?_) | fail); simp -implicitDefEqProofs [hkl, ha, ha', hn]) | refine hK _ ?_ | refine hK _ _ (by rfl) ?_ | fail)
            refine d6 (d4 ?_); simp -implicitDefEqProofs [f9, f6, f7] <;> try rfl)
    obtain ⟨⟨ax, al⟩, ha⟩ : ∃ a, A[k]? = some a := ⟨_, List.getElem?_eq_getElem hkl⟩
    have ha' := (List.getElem?_eq_some_iff.1 ha).2
    have w2 : IntKind.i64.wrap ((k : Nat) + 1 : Int) = (k : Nat) + 1 := l4 _ (by omega) (by omega)
    have hq := hce _ (List.mem_of_getElem? ha)
    have hto := ha1 k ax al ha
    have hb := hba ax al 11
    have hnx : ¬ z7 (.mk mx ml) (.mk ax al) = 0 → ∀ a ∈ A.take (k + 1), ¬ z7 (.mk mx ml) a = 0 := by
      intro he y hy
      rw [List.take_add_one, ha] at hy
      rcases List.mem_append.1 hy with hy | hy
      · exact hz y hy
      · simp at hy; subst hy; exact he
    obtain ⟨q, hqq⟩ : ∃ q, z7 (.mk mx ml) (.mk ax al) = q := ⟨_, rfl⟩
    rw [hqq] at hq hto hnx
    unfold m8 at hto hb
    clear ha1 ha2 ha3 hce hpn hba hqq hst hnm hty
    by_cases q0 : q = 0
    · have hR := hto q0 hz
      subst hR
      repeat' (first | refine b9 ?_ | refine b6 ?_ | refine a6 ?_ | refine b5 ?_ | refine e7 rfl ?_ | refine d9 rfl ?_ | ((first | refine b8 (fun K hK => ?_) | refine d3 e9 (fun K hK => ?_) | refine b7 (cp hq ?_) | refine a8 (dp hq ?_) | refine b7 (cp hb ?_) | refine a8 (dp hb ?_) | fail); simp -implicitDefEqProofs [hkl, ha, ha', q0]) | refine hK _ ?_ | refine hK _ _ (by rfl) ?_ | fail)
      refine d6 (d4 ?_); simp -implicitDefEqProofs [f9, f6, f7] <;> try rfl
    · repeat' (first | refine b9 ?_ | refine b6 ?_ | refine a6 ?_ | refine b5 ?_ | refine e7 rfl ?_ | refine d9 rfl ?_ | ((first | refine b8 (fun K hK => ?_) | refine d3 e9 (fun K hK => ?_) | refine b7 (cp hq ?_) | refine a8 (dp hq ?_) | fail); simp -implicitDefEqProofs [hkl, ha, ha', q0, w2]) | refine hK _ ?_ | refine hK _ _ (by rfl) ?_ | fail)
      refine ⟨k + 1, ⟨by omega, hnx q0⟩, (by dsimp only; omega), ?_⟩
      rw [hI]; exact e8 [0, 1, 2, 3] (by simp -implicitDefEqProofs) (by simp -implicitDefEqProofs) (by decide) rfl (by simp))
end Go.Proofs.YtbbkmijkllgfaaaGreatDoor.am
end
