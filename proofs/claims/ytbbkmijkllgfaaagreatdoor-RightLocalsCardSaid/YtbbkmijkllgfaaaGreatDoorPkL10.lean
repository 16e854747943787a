import Derived.Test.YtbbkmijkllgfaaaGreatDoorPkL9
import Derived.Test.YtbbkmijkllgfaaaGreatDoorPkL4
import Derived.Test.YtbbkmijkllgfaaaGreatDoorPkL7
set_option maxRecDepth 100000
set_option maxHeartbeats 4000000
section
namespace Go.Proofs.YtbbkmijkllgfaaaGreatDoor.am
open Go.ChangeShapes Go.WideShapes Go.ChangeAt Go.RowKit
open vt
set_option linter.unusedVariables false
set_option linter.unusedSimpArgs false
noncomputable abbrev bxV (m : VT) (L : List VT) (a e : Int) : AO := .box (ta m ++ [.vw 1 6 0 L.length, .pv (I a), .pv (I e)])
noncomputable abbrev arJ (E : List VT) : AO := .arr 24 6 (E.map tc)
def OkV (L E : List VT) : Prop := E.take L.length = L ∧ L.length ≤ E.length
theorem okV_at {L E : List VT} (h : OkV L E) {i : Nat} (hi : i < L.length) : E[i]? = L[i]? := by
  conv => rhs; rw [← h.1]
  rw [List.getElem?_take, if_pos hi]
theorem b5t (m : VT) (hms : m.size ≤ 1000000) (L E : List VT) (hLl : L.length ≤ 1000000) (a e : Int) (x : Lab) (l : List VT) (hx : x.ok) : Row Tryz.prog 82 [.v (.c (.ptr 0 0)), vT (.mk x l)] [bxV m L a e, arJ E] (vB (c0e m L.length x)) [some (bxV m L a e), some (arJ E)] := by
  unfold c0e
  have hmk : m.kids.length < m.size := by obtain ⟨mx, ml⟩ := m; exact Tr.len_size (x := mx) (l := ml)
  have wL : IntKind.i64.wrap ((L.length : Nat) : Int) = (L.length : Nat) := l4 _ (by omega) (by omega)
  by_cases c7 : x.k = 7
  · rw [if_pos c7]
    obtain ⟨mx, ml⟩ := m
    by_cases n0 : 0 ≤ x.n; rotate_left
    · refine d7 Tryz.func82 rfl rfl (Nat.le_of_ble_eq_true rfl) ?_
      repeat (first | refine b9 ?_ | refine b6 ?_ | refine a6 ?_ | refine b5 ?_ | refine e7 rfl ?_ | refine d9 rfl ?_ | ((first | refine b8 (fun K hK => ?_) | refine d3 e9 (fun K hK => ?_) | fail); simp -implicitDefEqProofs [c7, n0]; first | refine hK _ ?_ | refine hK _ _ (by rfl) ?_ | fail) | fail)
      refine d6 (j0 [0, 1] ?_); simp -implicitDefEqProofs [m9, f6, f7, n0] <;> try rfl
    by_cases n1 : x.n < L.length
    · refine d7 Tryz.func82 rfl rfl (Nat.le_of_ble_eq_true rfl) ?_
      repeat (first | refine b9 ?_ | refine b6 ?_ | refine a6 ?_ | refine b5 ?_ | refine e7 rfl ?_ | refine d9 rfl ?_ | ((first | refine b8 (fun K hK => ?_) | refine d3 e9 (fun K hK => ?_) | fail); simp -implicitDefEqProofs [c7, n0, wL, n1]; first | refine hK _ ?_ | refine hK _ _ (by rfl) ?_ | fail) | fail)
      refine d6 (j0 [0, 1] ?_); simp -implicitDefEqProofs [m9, f6, f7, n0, n1] <;> try rfl
    · refine d7 Tryz.func82 rfl rfl (Nat.le_of_ble_eq_true rfl) ?_
      repeat (first | refine b9 ?_ | refine b6 ?_ | refine a6 ?_ | refine b5 ?_ | refine e7 rfl ?_ | refine d9 rfl ?_ | ((first | refine b8 (fun K hK => ?_) | refine d3 e9 (fun K hK => ?_) | fail); simp -implicitDefEqProofs [c7, n0, wL, n1]; first | refine hK _ ?_ | refine hK _ _ (by rfl) ?_ | fail) | fail)
      refine d6 (j0 [0, 1] ?_); simp -implicitDefEqProofs [m9, f6, f7, n0, n1] <;> try rfl
  rw [if_neg c7]
  by_cases cg : x.k = 8 ∨ x.k = 9 ∨ x.k = 15 ∨ x.k = 16; rotate_left
  · rw [if_neg cg]
    have c8 : ¬ x.k = 8 := fun h => cg (.inl h)
    have c9 : ¬ x.k = 9 := fun h => cg (.inr (.inl h))
    have c15 : ¬ x.k = 15 := fun h => cg (.inr (.inr (.inl h)))
    have c16 : ¬ x.k = 16 := fun h => cg (.inr (.inr (.inr h)))
    obtain ⟨mx, ml⟩ := m
    refine d7 Tryz.func82 rfl rfl (Nat.le_of_ble_eq_true rfl) ?_
    repeat (first | refine b9 ?_ | refine b6 ?_ | refine a6 ?_ | refine b5 ?_ | refine e7 rfl ?_ | refine d9 rfl ?_ | ((first | refine b8 (fun K hK => ?_) | refine d3 e9 (fun K hK => ?_) | fail); simp -implicitDefEqProofs [c7, c8, c9, c15, c16]; first | refine hK _ ?_ | refine hK _ _ (by rfl) ?_ | fail) | fail)
    refine d6 (j0 [0, 1] ?_); simp -implicitDefEqProofs [m9, f6, f7] <;> try rfl
  rw [if_pos cg]
  obtain ⟨kk, hkk⟩ : ∃ kk, x.k = kk := ⟨_, rfl⟩
  have hdc := fun (dx : Lab) (dl : List VT) (h : dl.length ≤ 1000000) => a8r dx dl h kk
  rw [hkk] at cg c7 ⊢
  by_cases n0 : 0 ≤ x.n; rotate_left
  · rw [if_neg (fun h => n0 h.1)]
    clear hdc
    obtain ⟨mx, ml⟩ := m
    rcases cg with c | c | c | c
    all_goals (
      subst c
      refine d7 Tryz.func82 rfl rfl (Nat.le_of_ble_eq_true rfl) ?_
      repeat (first | refine b9 ?_ | refine b6 ?_ | refine a6 ?_ | refine b5 ?_ | refine e7 rfl ?_ | refine d9 rfl ?_ | ((first | refine b8 (fun K hK => ?_) | refine d3 e9 (fun K hK => ?_) | fail); simp -implicitDefEqProofs [hkk, n0]; first | refine hK _ ?_ | refine hK _ _ (by rfl) ?_ | fail) | fail)
      refine d6 (j0 [0, 1] ?_); simp -implicitDefEqProofs [m9, f6, f7] <;> try rfl)
  obtain ⟨n, hn⟩ : ∃ n : Nat, x.n = n := ⟨x.n.toNat, by omega⟩
  have wm : IntKind.i64.wrap ((m.kids.length : Nat) : Int) = (m.kids.length : Nat) := l4 _ (by omega) (by omega)
  rw [hn] at n0 ⊢
  rw [Int.toNat_natCast]
  have wn : IntKind.i64.wrap ((n : Nat) : Int) = (n : Nat) := l4 _ (by have := hx.2.1; omega) (by have := hx.2.1; omega)
  by_cases hnl : n < m.kids.length; rotate_left
  · have hnl' : ¬ ((n : Nat) : Int) < (m.kids.length : Nat) := by omega
    rw [if_neg (fun h => hnl' h.2)]
    clear hdc
    obtain ⟨mx, ml⟩ := m
    simp only [Tr.kids] at hnl hnl' wm
    rcases cg with c | c | c | c
    all_goals (
      subst c
      refine d7 Tryz.func82 rfl rfl (Nat.le_of_ble_eq_true rfl) ?_
      repeat (first | refine b9 ?_ | refine b6 ?_ | refine a6 ?_ | refine b5 ?_ | refine e7 rfl ?_ | refine d9 rfl ?_ | ((first | refine b8 (fun K hK => ?_) | refine d3 e9 (fun K hK => ?_) | fail); simp -implicitDefEqProofs [hkk, hn, n0, wm, wn, hnl, hnl']; first | refine hK _ ?_ | refine hK _ _ (by rfl) ?_ | fail) | fail)
      refine d6 (j0 [0, 1] ?_); simp -implicitDefEqProofs [m9, f6, f7] <;> try rfl)
  have hnl' : ((n : Nat) : Int) < (m.kids.length : Nat) := by omega
  rw [if_pos ⟨n0, hnl'⟩]
  obtain ⟨⟨dx, dl⟩, hd⟩ : ∃ d, m.kids[n]? = some d := ⟨_, List.getElem?_eq_getElem hnl⟩
  have hd' := (List.getElem?_eq_some_iff.1 hd).2
  have hds := j8 (List.mem_of_getElem? hd)
  have hdl := Tr.len_size (x := dx) (l := dl)
  replace hdc := hdc dx dl (by omega)
  rw [show m.kids.getD n z0T = .mk dx dl by simp [List.getD, hd]]
  obtain ⟨q, hq⟩ : ∃ q, b0z (.mk dx dl) kk = q := ⟨_, rfl⟩
  rw [hq] at hdc ⊢
  clear hq
  obtain ⟨mx, ml⟩ := m
  simp only [Tr.kids] at hnl hnl' wm hd hd'
  rcases cg with c | c | c | c
  all_goals (
    subst c
    refine d7 Tryz.func82 rfl rfl (Nat.le_of_ble_eq_true rfl) ?_
    repeat' (first | refine b9 ?_ | refine b6 ?_ | refine a6 ?_ | refine b5 ?_ | refine e7 rfl ?_ | refine d9 rfl ?_ | ((first | refine b8 (fun K hK => ?_) | refine d3 e9 (fun K hK => ?_) | refine b7 (cp hdc ?_) | refine a8 (dp hdc ?_) | fail); simp -implicitDefEqProofs [hkk, hn, n0, wm, wn, hnl, hnl', hd, hd']) | refine hK _ ?_ | refine hK _ _ (by rfl) ?_ | fail)
    refine d6 (j0 [0, 1] ?_); simp -implicitDefEqProofs [m9, f6, f7] <;> try rfl)
theorem a0l (m : VT) (L E : List VT) (a e : Int) (x : Lab) (l : List VT) (e' : Int) : Row Tryz.prog 81 [.v (.c (.ptr 0 0)), vT (.mk x l), vI e'] [bxV m L a e, arJ E] (vTy z0T z0T) [some (bxV m L (if e = 0 then x.f else a) (if e = 0 then e' else e)), some (arJ E)] := by
  obtain ⟨mx, ml⟩ := m
  by_cases h : e = 0
  · subst h
    refine d7 Tryz.func81 rfl rfl (Nat.le_of_ble_eq_true rfl) ?_
    repeat (first | refine b9 ?_ | refine b6 ?_ | refine a6 ?_ | refine b5 ?_ | refine e7 rfl ?_ | refine d9 rfl ?_ | ((first | refine b8 (fun K hK => ?_) | refine d3 e9 (fun K hK => ?_) | fail); simp -implicitDefEqProofs; first | refine hK _ ?_ | refine hK _ _ (by rfl) ?_ | fail) | fail)
    refine d6 (j0 [0, 1] ?_); simp -implicitDefEqProofs [m9, f6, f7] <;> try rfl
  · refine d7 Tryz.func81 rfl rfl (Nat.le_of_ble_eq_true rfl) ?_
    repeat (first | refine b9 ?_ | refine b6 ?_ | refine a6 ?_ | refine b5 ?_ | refine e7 rfl ?_ | refine d9 rfl ?_ | ((first | refine b8 (fun K hK => ?_) | refine d3 e9 (fun K hK => ?_) | fail); simp -implicitDefEqProofs [h]; first | refine hK _ ?_ | refine hK _ _ (by rfl) ?_ | fail) | fail)
    refine d6 (j0 [0, 1] ?_); simp -implicitDefEqProofs [m9, f6, f7, h] <;> try rfl
theorem b12 (m : VT) (hms : m.size ≤ 1000000) (L E : List VT) (a e : Int) (r : Int) (hr : r ≤ 9223372036854775807) (s : ByteArray) : Row Tryz.prog 166 [.v (.c (.ptr 0 0)), vI r, vS s] [bxV m L a e, arJ E] (vI (b54 m r s)) [some (bxV m L a e), some (arJ E)] := by
  have hmk : m.kids.length < m.size := by obtain ⟨mx, ml⟩ := m; exact Tr.len_size (x := mx) (l := ml)
  by_cases r0 : r < 0
  · rw [show b54 m r s = -1 by unfold b54; exact if_neg (by omega)]
    obtain ⟨mx, ml⟩ := m
    refine d7 Tryz.func166 rfl rfl (Nat.le_of_ble_eq_true rfl) ?_
    repeat (first | refine b9 ?_ | refine b6 ?_ | refine a6 ?_ | refine b5 ?_ | refine e7 rfl ?_ | refine d9 rfl ?_ | ((first | refine b8 (fun K hK => ?_) | refine d3 e9 (fun K hK => ?_) | fail); simp -implicitDefEqProofs [r0]; first | refine hK _ ?_ | refine hK _ _ (by rfl) ?_ | fail) | fail)
    refine d6 (j0 [0, 1] ?_); simp -implicitDefEqProofs [m9, f6, f7] <;> try rfl
  obtain ⟨n, rfl⟩ : ∃ n : Nat, r = n := ⟨r.toNat, by omega⟩
  have wm : IntKind.i64.wrap ((m.kids.length : Nat) : Int) = (m.kids.length : Nat) := l4 _ (by omega) (by omega)
  have wn : IntKind.i64.wrap ((n : Nat) : Int) = (n : Nat) := l4 _ (by omega) (by omega)
  have hnm : b54 m (n : Nat) s = (match m.kids[n]? with | some d => numP d.kids n s | none => -1) := by unfold b54; rw [if_pos (by omega), Int.toNat_natCast]; rfl
  by_cases hnl : n < m.kids.length; rotate_left
  · have h1 : (m.kids.length : Int) ≤ (n : Nat) := by omega
    have h2 : m.kids.length ≤ n := by omega
    rw [hnm, List.getElem?_eq_none h2]
    obtain ⟨mx, ml⟩ := m
    simp only [Tr.kids] at hnl h1 h2 wm
    refine d7 Tryz.func166 rfl rfl (Nat.le_of_ble_eq_true rfl) ?_
    repeat (first | refine b9 ?_ | refine b6 ?_ | refine a6 ?_ | refine b5 ?_ | refine e7 rfl ?_ | refine d9 rfl ?_ | ((first | refine b8 (fun K hK => ?_) | refine d3 e9 (fun K hK => ?_) | fail); simp -implicitDefEqProofs [r0, wm, wn, hnl, h1, h2]; first | refine hK _ ?_ | refine hK _ _ (by rfl) ?_ | fail) | fail)
    refine d6 (j0 [0, 1] ?_); simp -implicitDefEqProofs [m9, f6, f7] <;> try rfl
  have h1 : ¬ (m.kids.length : Int) ≤ (n : Nat) := by omega
  have h2 : ¬ m.kids.length ≤ n := by omega
  obtain ⟨⟨dx, p⟩, hd⟩ : ∃ d, m.kids[n]? = some d := ⟨_, List.getElem?_eq_getElem hnl⟩
  have hd' := (List.getElem?_eq_some_iff.1 hd).2
  have hds := j8 (List.mem_of_getElem? hd)
  have hpl := Tr.len_size (x := dx) (l := p)
  have hnm2 : b54 m (n : Nat) s = numP p n s := by rw [hnm, hd]; rfl
  rw [hnm2]
  clear hnm hnm2
  unfold numP
  have hat := fun k q hq hk hno he => b7i (p := p) (s := s) (k := k) (q := q) hq hk hno he
  have hnone := b7j (p := p) (s := s)
  obtain ⟨F, hF⟩ : ∃ F, (p.take 64).findIdx? (fun q => decide (q.lab.s = s)) = F := ⟨_, rfl⟩
  rw [hF] at hnone ⊢
  simp only [hF] at hat
  clear hF
  have w3 : IntKind.i64.wrap ((n : Nat) * 64 : Int) = (n : Nat) * 64 := l4 _ (by omega) (by omega)
  obtain ⟨mx, ml⟩ := m
  simp only [Tr.kids] at hnl h1 h2 wm hd hd' hmk
  refine d7 Tryz.func166 rfl rfl (Nat.le_of_ble_eq_true rfl) ?_
  repeat (first | refine b9 ?_ | refine b6 ?_ | refine a6 ?_ | refine b5 ?_ | refine e7 rfl ?_ | refine d9 rfl ?_ | ((first | refine b8 (fun K hK => ?_) | refine d3 e9 (fun K hK => ?_) | fail); simp -implicitDefEqProofs [r0, wm, wn, hnl, h1, h2, hd, hd']; first | refine hK _ ?_ | refine hK _ _ (by rfl) ?_ | fail) | fail)
  refine m6 (ι := Nat) (fun k => x5 [(0, .v (.c (.ptr 0 0))), (1, vI (n : Nat)), (2, vS s), (29, vLs p), (30, vI (p.length : Nat)), (31, vI (k : Nat))] [some (bxV (.mk mx ml) L a e), some (arJ E)]) (fun k => k ≤ p.length ∧ ∀ i q', i < 64 → i < k → p[i]? = some q' → q'.lab.s ≠ s) (fun k => p.length - k) 0 ⟨Nat.zero_le _, fun i q' _ h => by omega⟩ (e8 [0, 1] (by simp -implicitDefEqProofs) (by simp -implicitDefEqProofs) (by decide) rfl (by simp)) (fun Z hI k hk => ?_)
  obtain ⟨hk, hz⟩ := hk
  by_cases hkl : k < p.length; rotate_left
  · have : k = p.length := by omega
    subst this
    have hF := hnone (fun i q' hi hq => hz i q' hi (List.getElem?_eq_some_iff.1 hq).1 hq)
    subst hF
    clear hat hnone
    repeat (first | refine b9 ?_ | refine b6 ?_ | refine a6 ?_ | refine b5 ?_ | refine e7 rfl ?_ | refine d9 rfl ?_ | ((first | refine b8 (fun K hK => ?_) | refine d3 e9 (fun K hK => ?_) | fail); simp -implicitDefEqProofs; first | refine hK _ ?_ | refine hK _ _ (by rfl) ?_ | fail) | fail)
    refine d6 (j0 [0, 1] ?_); simp -implicitDefEqProofs [m9, f6, f7] <;> try rfl
  obtain ⟨⟨qx, ql⟩, hq⟩ : ∃ q, p[k]? = some q := ⟨_, List.getElem?_eq_getElem hkl⟩
  have hq' := (List.getElem?_eq_some_iff.1 hq).2
  have w2 : IntKind.i64.wrap ((k : Nat) + 1 : Int) = (k : Nat) + 1 := l4 _ (by omega) (by omega)
  have w4 : IntKind.i64.wrap ((k : Nat) : Int) = (k : Nat) := l4 _ (by omega) (by omega)
  have w5 : IntKind.i64.wrap ((n : Nat) * 64 + (k : Nat) : Int) = (n : Nat) * 64 + (k : Nat) := l4 _ (by omega) (by omega)
  by_cases he : qx.s = s; rotate_left
  · clear hat hnone
    repeat (first | refine b9 ?_ | refine b6 ?_ | refine a6 ?_ | refine b5 ?_ | refine e7 rfl ?_ | refine d9 rfl ?_ | ((first | refine b8 (fun K hK => ?_) | refine d3 e9 (fun K hK => ?_) | fail); simp -implicitDefEqProofs [hkl, hq, hq', he, w2]; first | refine hK _ ?_ | refine hK _ _ (by rfl) ?_ | fail) | fail)
    refine ⟨k + 1, ⟨by omega, fun i q' h64 hi hq2 => ?_⟩, (by dsimp only; omega), ?_⟩
    · by_cases hik : i = k
      · subst hik; rw [hq] at hq2; cases hq2; exact he
      · exact hz i q' h64 (by omega) hq2
    · rw [hI]; exact e8 [0, 1] (by simp -implicitDefEqProofs) (by simp -implicitDefEqProofs) (by decide) rfl (by simp)
  by_cases hk64 : k < 64
  · have hk64' : ((k : Nat) : Int) < 64 := by omega
    have hF := hat k _ hq hk64 (fun i q' hi hq2 => hz i q' (by omega) hi hq2) he
    subst hF
    clear hat hnone
    repeat (first | refine b9 ?_ | refine b6 ?_ | refine a6 ?_ | refine b5 ?_ | refine e7 rfl ?_ | refine d9 rfl ?_ | ((first | refine b8 (fun K hK => ?_) | refine d3 e9 (fun K hK => ?_) | fail); simp -implicitDefEqProofs [hkl, hk64, hk64', hq, hq', he, w3, w4, w5]; first | refine hK _ ?_ | refine hK _ _ (by rfl) ?_ | fail) | fail)
    refine d6 (j0 [0, 1] ?_); simp -implicitDefEqProofs [m9, f6, f7] <;> try rfl
  · have hk64' : ¬ ((k : Nat) : Int) < 64 := by omega
    clear hat hnone
    repeat (first | refine b9 ?_ | refine b6 ?_ | refine a6 ?_ | refine b5 ?_ | refine e7 rfl ?_ | refine d9 rfl ?_ | ((first | refine b8 (fun K hK => ?_) | refine d3 e9 (fun K hK => ?_) | fail); simp -implicitDefEqProofs [hkl, hk64, hk64', hq, hq', he, w2]; first | refine hK _ ?_ | refine hK _ _ (by rfl) ?_ | fail) | fail)
    refine ⟨k + 1, ⟨by omega, fun i q' h64 hi hq2 => hz i q' h64 (by omega) hq2⟩, (by dsimp only; omega), ?_⟩
    rw [hI]; exact e8 [0, 1] (by simp -implicitDefEqProofs [he]) (by simp -implicitDefEqProofs [he]) (by decide) rfl (by simp)
theorem c2x (m : VT) (L E : List VT) (x : Lab) (l : List VT) (a b : VT) : Row Tryz.prog 125 [.v (.c (.ptr 0 0)), vT (.mk x l), fnK 2] [bxV m L 0 0, arJ E, bxK [a, b]] (vTO (c0h x.n a b).1 (c0h x.n a b).2) [some (bxV m L 0 0), some (arJ E), some (bxK [a, b])] := by
  obtain ⟨ax, al⟩ := a
  obtain ⟨bx, bl⟩ := b
  have h0 := u6 [.mk ax al, .mk bx bl] 0 ax al rfl
  have h1 := u6 [.mk ax al, .mk bx bl] 1 bx bl rfl
  have i1 := a2a ax al
  have i2 := a2a bx bl
  have b1 := a24 ax al
  have b2 := a24 bx bl
  rw [show ((0 : Nat) : Int) = 0 from rfl] at h0
  rw [show ((1 : Nat) : Int) = 1 from rfl] at h1
  unfold c0h tyT
  obtain ⟨p1, q1⟩ : ∃ p, isT (.mk ax al) 1 = p := ⟨_, rfl⟩
  obtain ⟨p2, q2⟩ : ∃ p, isT (.mk bx bl) 1 = p := ⟨_, rfl⟩
  obtain ⟨p3, q3⟩ : ∃ p, isT (.mk ax al) 2 = p := ⟨_, rfl⟩
  obtain ⟨p4, q4⟩ : ∃ p, isT (.mk bx bl) 2 = p := ⟨_, rfl⟩
  rw [q1] at i1
  rw [q2] at i2
  rw [q3] at b1
  rw [q4] at b2
  rw [q1, q2, q3, q4]
  clear q1 q2 q3 q4
  obtain ⟨ints, hi⟩ : ∃ p, (p1 && p2) = p := ⟨_, rfl⟩
  obtain ⟨bools, hbo⟩ : ∃ p, (p3 && p4) = p := ⟨_, rfl⟩
  rw [hi, hbo]
  obtain ⟨mx, ml⟩ := m
  refine d7 Tryz.func125 rfl rfl (Nat.le_of_ble_eq_true rfl) ?_
  refine b9 ?_
  refine b8 (fun K hK => ?_); simp -implicitDefEqProofs; refine hK _ ?_
  refine a36 (ι := Unit) (fun _ => x5 [(0, .v (.c (.ptr 0 0))), (2, fnK 2), (4, .v (.c (.ptr 3 0))), (6, .v (.c (.ptr 4 0))), (7, vB false), (8, vB ints)] [some (bxV (.mk mx ml) L 0 0), some (arJ E), some (bxK [.mk ax al, .mk bx bl]), some (.box (ta (.mk x l))), some (.box (ta z0T))]) (fun _ => True) (fun I hI => ?_) (fun _ _ => ?_)
  · cases p1 with
    | false =>
      have hi : ints = false := by rw [← hi]; rfl
      subst hi
      repeat' (first | refine b9 ?_ | refine b6 ?_ | refine a6 ?_ | refine b5 ?_ | refine e7 rfl ?_ | refine d9 rfl ?_ | ((first | refine b8 (fun K hK => ?_) | refine d3 e9 (fun K hK => ?_) | refine b7 (cb h0 2 ?_) | refine a8 (db h0 2 ?_) | refine b7 (cb h1 2 ?_) | refine a8 (db h1 2 ?_) | refine b7 (cp i1 ?_) | refine a8 (dp i1 ?_) | refine b7 (cp i2 ?_) | refine a8 (dp i2 ?_) | fail); simp -implicitDefEqProofs) | refine hK _ ?_ | refine hK _ _ (by rfl) ?_ | fail)
      refine ⟨(), (by trivial), ?_⟩; rw [hI]; exact e8 [0, 1, 2, 3, 4] (by simp -implicitDefEqProofs) (by simp -implicitDefEqProofs) (by decide) rfl (by simp)
    | true =>
      have hi : ints = p2 := by rw [← hi]; rfl
      subst hi
      repeat' (first | refine b9 ?_ | refine b6 ?_ | refine a6 ?_ | refine b5 ?_ | refine e7 rfl ?_ | refine d9 rfl ?_ | ((first | refine b8 (fun K hK => ?_) | refine d3 e9 (fun K hK => ?_) | refine b7 (cb h0 2 ?_) | refine a8 (db h0 2 ?_) | refine b7 (cb h1 2 ?_) | refine a8 (db h1 2 ?_) | refine b7 (cp i1 ?_) | refine a8 (dp i1 ?_) | refine b7 (cp i2 ?_) | refine a8 (dp i2 ?_) | fail); simp -implicitDefEqProofs) | refine hK _ ?_ | refine hK _ _ (by rfl) ?_ | fail)
      refine ⟨(), (by trivial), ?_⟩; rw [hI]; exact e8 [0, 1, 2, 3, 4] (by simp -implicitDefEqProofs) (by simp -implicitDefEqProofs) (by decide) rfl (by simp)
  clear i1 i2 hi
  refine a36 (ι := Unit) (fun _ => x5 [(0, .v (.c (.ptr 0 0))), (4, .v (.c (.ptr 3 0))), (6, .v (.c (.ptr 4 0))), (7, vB false), (8, vB ints), (9, vB bools)] [some (bxV (.mk mx ml) L 0 0), some (arJ E), some (bxK [.mk ax al, .mk bx bl]), some (.box (ta (.mk x l))), some (.box (ta z0T))]) (fun _ => True) (fun I hI => ?_) (fun _ _ => ?_)
  · cases p3 with
    | false =>
      have hbo : bools = false := by rw [← hbo]; rfl
      subst hbo
      repeat' (first | refine b9 ?_ | refine b6 ?_ | refine a6 ?_ | refine b5 ?_ | refine e7 rfl ?_ | refine d9 rfl ?_ | ((first | refine b8 (fun K hK => ?_) | refine d3 e9 (fun K hK => ?_) | refine b7 (cb h0 2 ?_) | refine a8 (db h0 2 ?_) | refine b7 (cb h1 2 ?_) | refine a8 (db h1 2 ?_) | refine b7 (cp b1 ?_) | refine a8 (dp b1 ?_) | refine b7 (cp b2 ?_) | refine a8 (dp b2 ?_) | fail); simp -implicitDefEqProofs) | refine hK _ ?_ | refine hK _ _ (by rfl) ?_ | fail)
      refine ⟨(), (by trivial), ?_⟩; rw [hI]; exact e8 [0, 1, 2, 3, 4] (by simp -implicitDefEqProofs) (by simp -implicitDefEqProofs) (by decide) rfl (by simp)
    | true =>
      have hbo : bools = p4 := by rw [← hbo]; rfl
      subst hbo
      repeat' (first | refine b9 ?_ | refine b6 ?_ | refine a6 ?_ | refine b5 ?_ | refine e7 rfl ?_ | refine d9 rfl ?_ | ((first | refine b8 (fun K hK => ?_) | refine d3 e9 (fun K hK => ?_) | refine b7 (cb h0 2 ?_) | refine a8 (db h0 2 ?_) | refine b7 (cb h1 2 ?_) | refine a8 (db h1 2 ?_) | refine b7 (cp b1 ?_) | refine a8 (dp b1 ?_) | refine b7 (cp b2 ?_) | refine a8 (dp b2 ?_) | fail); simp -implicitDefEqProofs) | refine hK _ ?_ | refine hK _ _ (by rfl) ?_ | fail)
      refine ⟨(), (by trivial), ?_⟩; rw [hI]; exact e8 [0, 1, 2, 3, 4] (by simp -implicitDefEqProofs) (by simp -implicitDefEqProofs) (by decide) rfl (by simp)
  clear b1 b2 hbo h0 h1
  cases ints <;> cases bools
  all_goals (
    repeat' (first | refine b9 ?_ | refine b6 ?_ | refine a6 ?_ | refine b5 ?_ | refine e7 rfl ?_ | refine d9 rfl ?_ | ((first | refine b8 (fun K hK => ?_) | refine d3 e9 (fun K hK => ?_) | fail); simp -implicitDefEqProofs [*]) | refine hK _ ?_ | refine hK _ _ (by rfl) ?_ | (refine d8 rfl (fun hb => ?_) (fun hb => ?_) <;> ((try simp only [decide_eq_true_eq, decide_eq_false_iff_not, Bool.not_eq_true', Bool.not_eq_false', Bool.not_eq_eq_eq_not, Bool.not_true, Bool.not_false, beq_iff_eq, beq_true, beq_false, bne_iff_ne, ne_eq, Decidable.not_not, Bool.and_eq_true, Bool.or_eq_true, Bool.and_eq_false_iff, Bool.or_eq_false_iff] at hb) <;> repeat' (refine Or.elim hb (fun hb => ?_) (fun hb => ?_)))) | ((first | refine a1b (fun hb => ?_) (fun hb => ?_) | refine a0g (fun hb => ?_) (fun hb => ?_) | fail) <;> ((try simp only [decide_eq_true_eq, decide_eq_false_iff_not, Bool.not_eq_true', Bool.not_eq_false', Bool.not_eq_eq_eq_not, Bool.not_true, Bool.not_false, beq_iff_eq, beq_true, beq_false, bne_iff_ne, ne_eq, Decidable.not_not, Bool.and_eq_true, Bool.or_eq_true, Bool.and_eq_false_iff, Bool.or_eq_false_iff] at hb) <;> repeat' (refine Or.elim hb (fun hb => ?_) (fun hb => ?_))) <;> simp -implicitDefEqProofs [*]) | fail)
    all_goals (first | contradiction | (refine d6 (j0 [0, 1, 2] ?_); simp -implicitDefEqProofs [m9, f6, f7, *] <;> try rfl)))
theorem c2w (m : VT) (L E : List VT) (x : Lab) (l : List VT) (a : VT) : Row Tryz.prog 126 [.v (.c (.ptr 0 0)), vT (.mk x l), fnK 2] [bxV m L 0 0, arJ E, bxK [a]] (vTO a (oneB x.n a)) [some (bxV m L 0 0), some (arJ E), some (bxK [a])] := by
  obtain ⟨ax, al⟩ := a
  have h0 := u6 [.mk ax al] 0 ax al rfl
  have i1 := a2a ax al
  have b1 := a24 ax al
  rw [show ((0 : Nat) : Int) = 0 from rfl] at h0
  unfold oneB
  obtain ⟨p1, q1⟩ : ∃ p, isT (.mk ax al) 1 = p := ⟨_, rfl⟩
  obtain ⟨p3, q3⟩ : ∃ p, isT (.mk ax al) 2 = p := ⟨_, rfl⟩
  rw [q1] at i1 ⊢
  rw [q3] at b1 ⊢
  clear q1 q3
  obtain ⟨mx, ml⟩ := m
  by_cases n1 : x.n = 1
  · cases p1 with
    | true =>
      refine d7 Tryz.func126 rfl rfl (Nat.le_of_ble_eq_true rfl) ?_
      repeat' (first | refine b9 ?_ | refine b6 ?_ | refine a6 ?_ | refine b5 ?_ | refine e7 rfl ?_ | refine d9 rfl ?_ | ((first | refine b8 (fun K hK => ?_) | refine d3 e9 (fun K hK => ?_) | refine b7 (cb h0 2 ?_) | refine a8 (db h0 2 ?_) | refine b7 (cp i1 ?_) | refine a8 (dp i1 ?_) | fail); simp -implicitDefEqProofs [n1]) | refine hK _ ?_ | refine hK _ _ (by rfl) ?_ | fail)
      refine d6 (j0 [0, 1, 2] ?_); simp -implicitDefEqProofs [m9, f6, f7, n1] <;> try rfl
    | false =>
      refine d7 Tryz.func126 rfl rfl (Nat.le_of_ble_eq_true rfl) ?_
      repeat' (first | refine b9 ?_ | refine b6 ?_ | refine a6 ?_ | refine b5 ?_ | refine e7 rfl ?_ | refine d9 rfl ?_ | ((first | refine b8 (fun K hK => ?_) | refine d3 e9 (fun K hK => ?_) | refine b7 (cb h0 2 ?_) | refine a8 (db h0 2 ?_) | refine b7 (cp i1 ?_) | refine a8 (dp i1 ?_) | fail); simp -implicitDefEqProofs [n1]) | refine hK _ ?_ | refine hK _ _ (by rfl) ?_ | fail)
      refine d6 (j0 [0, 1, 2] ?_); simp -implicitDefEqProofs [m9, f6, f7, n1] <;> try rfl
  by_cases n2 : x.n = 2
  · cases p3 with
    | true =>
      refine d7 Tryz.func126 rfl rfl (Nat.le_of_ble_eq_true rfl) ?_
      repeat' (first | refine b9 ?_ | refine b6 ?_ | refine a6 ?_ | refine b5 ?_ | refine e7 rfl ?_ | refine d9 rfl ?_ | ((first | refine b8 (fun K hK => ?_) | refine d3 e9 (fun K hK => ?_) | refine b7 (cb h0 2 ?_) | refine a8 (db h0 2 ?_) | refine b7 (cp b1 ?_) | refine a8 (dp b1 ?_) | fail); simp -implicitDefEqProofs [n1, n2]) | refine hK _ ?_ | refine hK _ _ (by rfl) ?_ | fail)
      refine d6 (j0 [0, 1, 2] ?_); simp -implicitDefEqProofs [m9, f6, f7, n1, n2] <;> try rfl
    | false =>
      refine d7 Tryz.func126 rfl rfl (Nat.le_of_ble_eq_true rfl) ?_
      repeat' (first | refine b9 ?_ | refine b6 ?_ | refine a6 ?_ | refine b5 ?_ | refine e7 rfl ?_ | refine d9 rfl ?_ | ((first | refine b8 (fun K hK => ?_) | refine d3 e9 (fun K hK => ?_) | refine b7 (cb h0 2 ?_) | refine a8 (db h0 2 ?_) | refine b7 (cp b1 ?_) | refine a8 (dp b1 ?_) | fail); simp -implicitDefEqProofs [n1, n2]) | refine hK _ ?_ | refine hK _ _ (by rfl) ?_ | fail)
      refine d6 (j0 [0, 1, 2] ?_); simp -implicitDefEqProofs [m9, f6, f7, n1, n2] <;> try rfl
  · refine d7 Tryz.func126 rfl rfl (Nat.le_of_ble_eq_true rfl) ?_
    repeat' (first | refine b9 ?_ | refine b6 ?_ | refine a6 ?_ | refine b5 ?_ | refine e7 rfl ?_ | refine d9 rfl ?_ | ((first | refine b8 (fun K hK => ?_) | refine d3 e9 (fun K hK => ?_) | refine b7 (cb h0 2 ?_) | refine a8 (db h0 2 ?_) | fail); simp -implicitDefEqProofs [n1, n2]) | refine hK _ ?_ | refine hK _ _ (by rfl) ?_ | fail)
    refine d6 (j0 [0, 1, 2] ?_); simp -implicitDefEqProofs [m9, f6, f7, n1, n2] <;> try rfl
theorem b5s (m : VT) (L E : List VT) (a b : VT) : Row Tryz.prog 127 [.v (.c (.ptr 0 0)), fnK 2] [bxV m L 0 0, arJ E, bxK [a, b]] (vTO ((b0d a b).getD z0T) (b0d a b).isSome) [some (bxV m L 0 0), some (arJ E), some (bxK [a, b])] := by
  obtain ⟨ax, al⟩ := a
  obtain ⟨bx, bl⟩ := b
  have h0 := u6 [.mk ax al, .mk bx bl] 0 ax al rfl
  have h1 := u6 [.mk ax al, .mk bx bl] 1 bx bl rfl
  have i2 := a2a bx bl
  rw [show ((0 : Nat) : Int) = 0 from rfl] at h0
  rw [show ((1 : Nat) : Int) = 1 from rfl] at h1
  obtain ⟨mx, ml⟩ := m
  by_cases a3 : ax.k = 3; rotate_left
  · rw [show b0d (.mk ax al) (.mk bx bl) = none by unfold b0d; exact if_neg (fun h => a3 h.1)]
    refine d7 Tryz.func127 rfl rfl (Nat.le_of_ble_eq_true rfl) ?_
    repeat' (first | refine b9 ?_ | refine b6 ?_ | refine a6 ?_ | refine b5 ?_ | refine e7 rfl ?_ | refine d9 rfl ?_ | ((first | refine b8 (fun K hK => ?_) | refine d3 e9 (fun K hK => ?_) | refine b7 (cb h0 2 ?_) | refine a8 (db h0 2 ?_) | fail); simp -implicitDefEqProofs [a3]) | refine hK _ ?_ | refine hK _ _ (by rfl) ?_ | fail)
    refine d6 (j0 [0, 1, 2] ?_); simp -implicitDefEqProofs [m9, f6, f7] <;> try rfl
  by_cases a1 : al.length = 1; rotate_left
  · have a1' : ¬ (al.length : Int) = 1 := by omega
    rw [show b0d (.mk ax al) (.mk bx bl) = none by unfold b0d; exact if_neg (fun h => a1 h.2.1)]
    refine d7 Tryz.func127 rfl rfl (Nat.le_of_ble_eq_true rfl) ?_
    repeat' (first | refine b9 ?_ | refine b6 ?_ | refine a6 ?_ | refine b5 ?_ | refine e7 rfl ?_ | refine d9 rfl ?_ | ((first | refine b8 (fun K hK => ?_) | refine d3 e9 (fun K hK => ?_) | refine b7 (cb h0 2 ?_) | refine a8 (db h0 2 ?_) | fail); simp -implicitDefEqProofs [a3, a1, a1']) | refine hK _ ?_ | refine hK _ _ (by rfl) ?_ | fail)
    refine d6 (j0 [0, 1, 2] ?_); simp -implicitDefEqProofs [m9, f6, f7] <;> try rfl
  obtain ⟨⟨ux, ul⟩, rfl⟩ := o6 a1
  cases hq : isT (.mk bx bl) 1 with
  | false =>
    rw [hq] at i2
    rw [show b0d (.mk ax [.mk ux ul]) (.mk bx bl) = none by unfold b0d; exact if_neg (fun h => by rw [hq] at h; cases h.2.2)]
    refine d7 Tryz.func127 rfl rfl (Nat.le_of_ble_eq_true rfl) ?_
    repeat' (first | refine b9 ?_ | refine b6 ?_ | refine a6 ?_ | refine b5 ?_ | refine e7 rfl ?_ | refine d9 rfl ?_ | ((first | refine b8 (fun K hK => ?_) | refine d3 e9 (fun K hK => ?_) | refine b7 (cb h0 2 ?_) | refine a8 (db h0 2 ?_) | refine b7 (cb h1 2 ?_) | refine a8 (db h1 2 ?_) | refine b7 (cp i2 ?_) | refine a8 (dp i2 ?_) | fail); simp -implicitDefEqProofs [a3]) | refine hK _ ?_ | refine hK _ _ (by rfl) ?_ | fail)
    refine d6 (j0 [0, 1, 2] ?_); simp -implicitDefEqProofs [m9, f6, f7] <;> try rfl
  | true =>
    rw [hq] at i2
    rw [show b0d (.mk ax [.mk ux ul]) (.mk bx bl) = some (.mk ux ul) by unfold b0d; rw [if_pos ⟨a3, a1, hq⟩]; rfl]
    refine d7 Tryz.func127 rfl rfl (Nat.le_of_ble_eq_true rfl) ?_
    repeat' (first | refine b9 ?_ | refine b6 ?_ | refine a6 ?_ | refine b5 ?_ | refine e7 rfl ?_ | refine d9 rfl ?_ | ((first | refine b8 (fun K hK => ?_) | refine d3 e9 (fun K hK => ?_) | refine b7 (cb h0 2 ?_) | refine a8 (db h0 2 ?_) | refine b7 (cb h1 2 ?_) | refine a8 (db h1 2 ?_) | refine b7 (cp i2 ?_) | refine a8 (dp i2 ?_) | fail); simp -implicitDefEqProofs [a3]) | refine hK _ ?_ | refine hK _ _ (by rfl) ?_ | fail)
    refine d6 (j0 [0, 1, 2] ?_); simp -implicitDefEqProofs [m9, f6, f7] <;> try rfl
theorem a94 (m : VT) (L E : List VT) (D A : List VT) (hD : ∀ d ∈ D, d.size ≤ 1000000) (hA : ∀ a ∈ A, a.size ≤ 1000000) (hl : D.length ≤ 1000000) (hl2 : A.length ≤ 1000000) : Row Tryz.prog 130 [.v (.c (.ptr 0 0)), vLs D, vI (A.length : Nat), fnK 2] [bxV m L 0 0, arJ E, bxK A] (vB (b2l D A)) [some (bxV m L 0 0), some (arJ E), some (bxK A)] := by
  obtain ⟨mx, ml⟩ := m
  by_cases he : D.length = A.length; rotate_left
  · rw [b2m he]
    have he' : ¬ (D.length : Int) = (A.length : Int) := by omega
    refine d7 Tryz.func130 rfl rfl (Nat.le_of_ble_eq_true rfl) ?_
    repeat (first | refine b9 ?_ | refine b6 ?_ | refine a6 ?_ | refine b5 ?_ | refine e7 rfl ?_ | refine d9 rfl ?_ | ((first | refine b8 (fun K hK => ?_) | refine d3 e9 (fun K hK => ?_) | fail); simp -implicitDefEqProofs [he, he']; first | refine hK _ ?_ | refine hK _ _ (by rfl) ?_ | fail) | fail)
    refine d6 (j0 [0, 1, 2] ?_); simp -implicitDefEqProofs [m9, f6, f7] <;> try rfl
  obtain ⟨R, hR⟩ : ∃ R, b2l D A = R := ⟨_, rfl⟩
  rw [hR]
  refine d7 Tryz.func130 rfl rfl (Nat.le_of_ble_eq_true rfl) ?_
  repeat (first | refine b9 ?_ | refine b6 ?_ | refine a6 ?_ | refine b5 ?_ | refine e7 rfl ?_ | refine d9 rfl ?_ | ((first | refine b8 (fun K hK => ?_) | refine d3 e9 (fun K hK => ?_) | fail); simp -implicitDefEqProofs [he]; first | refine hK _ ?_ | refine hK _ _ (by rfl) ?_ | fail) | fail)
  refine m6 (ι := Nat) (fun k => x5 [(0, .v (.c (.ptr 0 0))), (3, fnK 2), (15, vLs D), (16, vI (A.length : Nat)), (17, vI (k : Nat))] [some (bxV (.mk mx ml) L 0 0), some (arJ E), some (bxK A)]) (fun k => k ≤ A.length ∧ b2l (D.drop k) (A.drop k) = R) (fun k => A.length - k) 0 ⟨Nat.zero_le _, by simpa using hR⟩ (e8 [0, 1, 2] (by simp -implicitDefEqProofs [he]) (by simp -implicitDefEqProofs [he]) (by decide) rfl (by simp)) (fun Z hI k hk => ?_)
  obtain ⟨hk, hz⟩ := hk
  by_cases hkl : k < A.length; rotate_left
  · have : k = A.length := by omega
    subst this
    rw [List.drop_of_length_le (by omega), List.drop_of_length_le (Nat.le_refl _)] at hz
    have hz : true = R := hz
    subst hz
    repeat (first | refine b9 ?_ | refine b6 ?_ | refine a6 ?_ | refine b5 ?_ | refine e7 rfl ?_ | refine d9 rfl ?_ | ((first | refine b8 (fun K hK => ?_) | refine d3 e9 (fun K hK => ?_) | fail); simp -implicitDefEqProofs; first | refine hK _ ?_ | refine hK _ _ (by rfl) ?_ | fail) | fail)
    refine d6 (j0 [0, 1, 2] ?_); simp -implicitDefEqProofs [m9, f6, f7] <;> try rfl
  have hkD : k < D.length := by omega
  obtain ⟨⟨ax, al⟩, ha⟩ : ∃ a, A[k]? = some a := ⟨_, List.getElem?_eq_getElem hkl⟩
  have ha' := (List.getElem?_eq_some_iff.1 ha).2
  obtain ⟨⟨px, pl⟩, hp⟩ : ∃ a, D[k]? = some a := ⟨_, List.getElem?_eq_getElem hkD⟩
  have hp' := (List.getElem?_eq_some_iff.1 hp).2
  have w2 : IntKind.i64.wrap ((k : Nat) + 1 : Int) = (k : Nat) + 1 := l4 _ (by omega) (by omega)
  have hdA : A.drop k = .mk ax al :: A.drop (k + 1) := by rw [List.drop_eq_getElem_cons hkl, ha']
  have hdD : D.drop k = .mk px pl :: D.drop (k + 1) := by rw [List.drop_eq_getElem_cons hkD, hp']
  rw [hdA, hdD] at hz
  unfold b2l at hz
  rw [Tr.kids] at hz
  by_cases h0 : pl.length = 0
  · rw [decide_eq_true h0] at hz
    have hz : false = R := hz
    subst hz
    obtain rfl := List.eq_nil_of_length_eq_zero h0
    repeat (first | refine b9 ?_ | refine b6 ?_ | refine a6 ?_ | refine b5 ?_ | refine e7 rfl ?_ | refine d9 rfl ?_ | ((first | refine b8 (fun K hK => ?_) | refine d3 e9 (fun K hK => ?_) | fail); simp -implicitDefEqProofs [hkl, hkD, ha, ha', hp, hp']; first | refine hK _ ?_ | refine hK _ _ (by rfl) ?_ | fail) | fail)
    refine d6 (j0 [0, 1, 2] ?_); simp -implicitDefEqProofs [m9, f6, f7] <;> try rfl
  cases pl with
  | nil => exact absurd rfl h0
  | cons u pr =>
  obtain ⟨ux, ul⟩ := u
  have hps := hD _ (List.mem_of_getElem? hp)
  have hus := Tr.size_at (x := px) (l := .mk ux ul :: pr) (i := 0) rfl
  have hs := a49 (.mk ux ul) (by omega) (.mk ax al) (hA _ (List.mem_of_getElem? ha))
  have hkp := u6 A k ax al ha
  rw [show (Tr.mk ux ul :: pr).getD 0 z0T = .mk ux ul from rfl, decide_eq_false h0] at hz
  have hpn : ¬ ((pr.length : Int) + 1 = 0) := by omega
  obtain ⟨sm, hsm⟩ : ∃ b, same (.mk ux ul) (.mk ax al) = b := ⟨_, rfl⟩
  rw [hsm] at hs hz
  clear hsm hdA hdD
  cases sm with
  | false =>
    have hz : false = R := hz
    subst hz
    repeat' (first | refine b9 ?_ | refine b6 ?_ | refine a6 ?_ | refine b5 ?_ | refine e7 rfl ?_ | refine d9 rfl ?_ | ((first | refine b8 (fun K hK => ?_) | refine d3 e9 (fun K hK => ?_) | refine b7 (cb hkp 2 ?_) | refine a8 (db hkp 2 ?_) | refine b7 (cp hs ?_) | refine a8 (dp hs ?_) | fail); simp -implicitDefEqProofs [hkl, hkD, ha, ha', hp, hp', hpn]) | refine hK _ ?_ | refine hK _ _ (by rfl) ?_ | fail)
    refine d6 (j0 [0, 1, 2] ?_); simp -implicitDefEqProofs [m9, f6, f7] <;> try rfl
  | true =>
    have hz : b2l (D.drop (k + 1)) (A.drop (k + 1)) = R := by simpa using hz
    repeat' (first | refine b9 ?_ | refine b6 ?_ | refine a6 ?_ | refine b5 ?_ | refine e7 rfl ?_ | refine d9 rfl ?_ | ((first | refine b8 (fun K hK => ?_) | refine d3 e9 (fun K hK => ?_) | refine b7 (cb hkp 2 ?_) | refine a8 (db hkp 2 ?_) | refine b7 (cp hs ?_) | refine a8 (dp hs ?_) | fail); simp -implicitDefEqProofs [hkl, hkD, ha, ha', hp, hp', hpn, w2]) | refine hK _ ?_ | refine hK _ _ (by rfl) ?_ | fail)
    refine ⟨k + 1, ⟨by omega, hz⟩, (by dsimp only; omega), ?_⟩
    rw [hI]; exact e8 [0, 1, 2] (by simp -implicitDefEqProofs) (by simp -implicitDefEqProofs) (by decide) rfl (by simp)
end Go.Proofs.YtbbkmijkllgfaaaGreatDoor.am
end
section
namespace Go.Proofs.YtbbkmijkllgfaaaGreatDoor.am
open Go.ChangeShapes Go.WideShapes Go.ChangeAt Go.RowKit
set_option linter.unusedVariables false
set_option linter.unusedSimpArgs false
variable {P : Program} {N nb : Nat} {st : St} {Q : Exit → St → Prop}
end Go.Proofs.YtbbkmijkllgfaaaGreatDoor.am
end
section
namespace Go.Proofs.YtbbkmijkllgfaaaGreatDoor.am
open Go.ChangeShapes Go.WideShapes Go.ChangeAt Go.RowKit
set_option linter.unusedVariables false
set_option linter.unusedSimpArgs false
variable {P : Program} {N nb : Nat} {st : St} {Q : Exit → St → Prop}
def St.mvw (st : St) (id bx j : Nat) (cells : List AC) (e : TypeId) (es n : Nat) (l : List (List PV)) : St := ⟨st.tm, (bx, some (.box (cells.set j (.vw st.nx es 0 n)))) :: (st.nx, some (.arr e es l)) :: (id, none) :: st.hp, st.nx + 1⟩
theorem b8s (id bx j : Nat) (cells : List AC) (e : TypeId) (es n : Nat) (l : List (List PV)) (hid : hlk st.hp id = some (.arr e es l)) (hbx : hlk st.hp bx = some (.box cells)) (hj : cells[j]? = some (.arr id es n) ∨ cells[j]? = some (.vw id es 0 n)) (hl1 : id < st.nx) (hl2 : bx < st.nx) : Cov N nb st (st.mvw id bx j cells e es n l) := fun X hX a w hr => by
  obtain ⟨h1, h2, γ, S, hm, ha⟩ := hr
  obtain ⟨v, xs, g1, g2, g3, g4, g5⟩ := hm.obj _ _ hid
  obtain ⟨m, hG⟩ := hm.app (nm := st.nx) (Nat.le_refl _) g1 rfl (w' := w) rfl rfl rfl rfl (fun _ _ => rfl) (fun _ _ _ => rfl) (fun _ => False) (.arr e es l)
    ⟨v, xs, f8 _ _ _, g2, fun i e j p k1 k2 => by
      obtain ⟨u, k3, k4⟩ := g3 i e j p k1 k2
      exact ⟨u, k3, k4.mono (fun _ _ h => .inl h) (fun _ _ _ => rfl)⟩, g4, fun b hb o hs => g5 b hb o (hs.elim (fun h => h) (fun h => h.2.elim))⟩
  refine ⟨h1, h2, upd (upd γ id .dead) st.nx (.val v), (fun b k => S b k ∨ (v.ownBlock = some b ∧ False)), ?_, fun s => (ha s).mono hG (fun _ _ h => Or.inl h) (fun _ _ _ => rfl)⟩
  show Mem X (hlk ((bx, some (.box (cells.set j (.vw st.nx es 0 n)))) :: (st.nx, some (.arr e es l)) :: (id, none) :: st.hp)) _ _ _ _
  rw [y2, y2, y2]
  have hne : bx ≠ st.nx := by omega
  have hbi : bx ≠ id := fun e => by rw [e, hid] at hbx; cases hbx
  have hbx' : upd (upd (hlk st.hp) id none) st.nx (some (.arr e es l)) bx = some (.box cells) := by rw [i6 _ _ hne, i6 _ _ hbi]; exact hbx
  obtain ⟨b0, cs0, t0, q1, q2, q3, q4⟩ := hm.obj _ _ hbx
  refine { m with un := fun x hx => m.un x ⟨by have : st.nx + 1 ≤ x := hx
                                               show st.nx ≤ x
                                               omega, by have : st.nx + 1 ≤ x := hx
                                                         omega⟩, off := fun x hx => ?_, obj := fun x o hx => ?_ }
  · by_cases hxi : x = bx
    · subst hxi; rw [f8] at hx; cases hx
    · rw [i6 _ _ hxi] at hx; exact m.off x hx
  · by_cases hxi : x = bx
    · subst hxi
      rw [f8] at hx; cases hx
      obtain ⟨b, cs, t, k1, k2, k3, k4⟩ := m.obj x _ hbx'
      have hcs : cs = cs0 := by
        have : (upd (upd γ id .dead) st.nx (.val v)) x = γ x := by rw [i6 _ _ hne, i6 _ _ hbi]
        rw [this, q1] at k1
        cases k1
        rw [q2] at k2
        cases k2
        rfl
      refine ⟨b, cs, t, k1, k2, ⟨by rw [List.length_set]; exact k3.1, fun i ac hi => ?_⟩, k4⟩
      rw [List.getElem?_set] at hi
      split at hi
      · rename_i hij
        split at hi
        · cases hi
          subst hij
          rcases hj with hj | hj
          · obtain ⟨u, r1, r2⟩ := q3.2 j _ hj
            obtain ⟨⟨a', c', r3⟩, r4⟩ := r2
            have hu : u = v := by
              rcases r4 with r4 | r4
              · rw [g1] at r4; cases r4
              · rw [g1] at r4; cases r4; rfl
            subst hu
            subst r3
            obtain ⟨o1, o2⟩ := b1h g2 rfl
            refine ⟨_, by rw [hcs]; exact r1, a', n, c', .inr (f8 _ _ _), a', by omega, by omega, fun _ => ?_, rfl⟩
            rcases g2.2 with ⟨p1, _⟩ | ⟨g, cap, cur, p1, _⟩
            · injection p1 with p1; subst p1; rfl
            · injection p1 with p1; subst p1; simp [l8]
          · obtain ⟨u, r1, a', m', c', r4, a'', r5⟩ := q3.2 j _ hj
            have hu : .slice a' m' c' = v := by
              rcases r4 with r4 | r4
              · rw [g1] at r4; cases r4
              · rw [g1] at r4; cases r4; rfl
            exact ⟨u, by rw [hcs]; exact r1, a', m', c', .inr (by rw [hu]; exact f8 _ _ _), a'', r5⟩
        · cases hi
      · exact k3.2 i ac hi
    · rw [i6 _ _ hxi] at hx; exact m.obj x o hx
theorem a38 {c : Code} (id bx j : Nat) (cells : List AC) (e : TypeId) (es n : Nat) (l : List (List PV)) (hid : hlk st.hp id = some (.arr e es l)) (hbx : hlk st.hp bx = some (.box cells)) (hj : cells[j]? = some (.arr id es n) ∨ cells[j]? = some (.vw id es 0 n)) (hl1 : id < st.nx) (hl2 : bx < st.nx) (h : AW P N nb c (st.mvw id bx j cells e es n l) Q) : AW P N nb c st Q :=
  a5v (b8s id bx j cells e es n l hid hbx hj hl1 hl2) h
end Go.Proofs.YtbbkmijkllgfaaaGreatDoor.am
end
section
namespace Go.Proofs.YtbbkmijkllgfaaaGreatDoor.am
open Go.ChangeShapes Go.WideShapes Go.ChangeAt Go.RowKit
open vt
set_option linter.unusedVariables false
set_option linter.unusedSimpArgs false
theorem td_judge : td Tryz.prog 45 = some ⟨true, 15, 184, [.lit (.int .i64 0), .lit (.int .i64 0), .lit (.string ⟨#[]⟩), .nilS, .lit (.int .i64 0), .lit (.int .i64 0), .lit (.int .i64 0), .lit (.int .i64 0), .lit (.string ⟨#[]⟩), .nilS, .lit (.int .i64 0), .lit (.int .i64 0), .nilS, .lit (.int .i64 0), .lit (.int .i64 0)], [(0, 6, true), (6, 6, true), (12, 1, false), (13, 1, false), (14, 1, false)], .struct⟩ := Eq.trans (by kernel_rfl) (Eq.refl _)
theorem td_pjudge : td Tryz.prog 43 = some ⟨false, 1, 8, [.lit (.pointer none)], [], (.pointer 45)⟩ := Eq.trans (by kernel_rfl) (Eq.refl _)
theorem td_errno16 : td Tryz.prog 35 = some ⟨false, 1, 8, [.lit (.int .i64 0)], [], (.int .i64)⟩ := Eq.trans (by kernel_rfl) (Eq.refl _)
attribute [simp] td_judge td_pjudge td_errno16
noncomputable abbrev bxJ (i : Nat) (m ret : VT) (n : Nat) (a e : Int) : AO := .box (ta m ++ ta ret ++ [.vw i 6 0 n, .pv (I a), .pv (I e)])
def jid : Option AO → Option Nat
  | some (AO.box cs) => match (cs[12]? : Option AC) with
    | some (AC.vw i _ _ _) => some i
    | _ => none
  | _ => none
section
variable {P : Program} {N nb : Nat} {st : St} {Q : Exit → St → Prop}
theorem cgJ {f : Nat} {dst : Option Nat} {first caps : List Cap} {args cargs : List AV} {m ret : VT} {n : Nat} {a e : Int} {o1 : AO} {ch' : List (Option AO)} {res : AV} {K : St → Prop} (hrow : Row P f cargs [bxJ 1 m ret n a e, o1] res ch') (b : Nat) {i : Nat} (hb : jid (hlk st.hp b) = some i) (hk : K ((st.wr (wrs (a0b [b, i] 2 st.nx) 0 ch') 8).put dst (res.ren (a0b [b, i] 2 st.nx)))) (hfit : y9 2 (fun k => [b, i].getD k 0) cargs (first.map a1l ++ args ++ caps.map a1l) := by first | (simp [*]; done) | fail) (ho : a3e (hlk st.hp) 2 (fun k => [b, i].getD k 0) ([bxJ 1 m ret n a e, o1].map some) [b, i] := by first | (simp [*]; done) | fail) (hnd : [b, i].Nodup := by first | decide | (simp; done) | fail) (hl : ch'.length ≤ 10 := by first | decide | (simp; done) | fail) (hl' : 2 ≤ ch'.length := by first | decide | (simp; done) | fail) (hd : dok N dst = true := by rfl) :
    a32 P N dst (.v (.c (.fn (.func f) first caps))) args st K := cg hrow [b, i] hk hfit ho hnd hl hl' hd
theorem dgJ {f : Nat} {dst : Option Nat} {first caps : List Cap} {args cargs : List AV} {m ret : VT} {n : Nat} {a e : Int} {o1 : AO} {ch' : List (Option AO)} {res : AV} {K : List Nat → List Nat → St → Prop} (hrow : Row P f cargs [bxJ 1 m ret n a e, o1] res ch') (b : Nat) {i : Nat} (hb : jid (hlk st.hp b) = some i) (hk : K [b, i] ((wrs (a0b [b, i] 2 st.nx) 0 ch').map (·.1)) ((st.wr (wrs (a0b [b, i] 2 st.nx) 0 ch') 8).put dst (res.ren (a0b [b, i] 2 st.nx)))) (hfit : y9 2 (fun k => [b, i].getD k 0) cargs (first.map a1l ++ args ++ caps.map a1l) := by first | (simp [*]; done) | fail) (ho : a3e (hlk st.hp) 2 (fun k => [b, i].getD k 0) ([bxJ 1 m ret n a e, o1].map some) [b, i] := by first | (simp [*]; done) | fail) (hnd : [b, i].Nodup := by first | decide | (simp; done) | fail) (hl : ch'.length ≤ 10 := by first | decide | (simp; done) | fail) (hl' : 2 ≤ ch'.length := by first | decide | (simp; done) | fail) (hd : dok N dst = true := by rfl) :
    a31 P N dst (.v (.c (.fn (.func f) first caps))) args st K := dg hrow [b, i] hk hfit ho hnd hl hl' hd
theorem a8w (X : List Nat) {rs : List ResultVar} {res : AV} {ch' : List (Option AO)} {i : Nat} (hb : jid (hlk st.hp 0) = some i) (h : m9 P rs res ch' (0 :: 1 :: i :: X) st) (hnd : (0 :: 1 :: i :: X).Nodup := by first | decide | (simp; done)) (ht : (0 :: 1 :: i :: X).take nb = List.range nb := by rfl) (hl : nb ≤ ch'.length := by first | decide | (simp; done)) : Fin P nb rs res ch' .ret st := j0 (0 :: 1 :: i :: X) h hnd ht hl
theorem c4v {c : Code} {Q2 : Exit → St → Prop} (hq : ∀ e st1, Q2 e st1 → ∃ st2, Cov N nb st1 st2 ∧ Q e st2) (h : AW P N nb c st Q2) : AW P N nb c st Q := fun X hX a w hr Q' hQ => h X hX a w hr Q' (fun e st1 a' w' h1 h2 => by
  obtain ⟨st2, c, q⟩ := hq e st1 h1
  exact hQ e st2 a' w' q (c X hX a' w' h2))
theorem aw_as {c : Code} (h : AW P N nb c st (fun e s => ∃ s2, Cov N nb s s2 ∧ Q e s2)) : AW P N nb c st Q := c4v (fun _ _ h => h) h
end
theorem a1e (L : List VT) : OkV L L := ⟨List.take_length, Nat.le_refl _⟩
theorem a89 (m ret : VT) (n : Nat) (E : List VT) (a e : Int) (x : Lab) (l : List VT) (e' : Int) : Row Tryz.prog 50 [.v (.c (.ptr 0 0)), vT (.mk x l), vI e'] [bxJ 1 m ret n a e, arJ E] (.tup []) [some (bxJ 1 m ret n (if e = 0 then x.f else a) (if e = 0 then e' else e)), some (arJ E)] := by
  obtain ⟨mx, ml⟩ := m
  obtain ⟨rx, rl⟩ := ret
  by_cases h : e = 0
  · subst h
    refine d7 Tryz.func50 rfl rfl (Nat.le_of_ble_eq_true rfl) ?_
    repeat (first | refine b9 ?_ | refine b6 ?_ | refine a6 ?_ | refine b5 ?_ | refine e7 rfl ?_ | refine d9 rfl ?_ | ((first | refine b8 (fun K hK => ?_) | refine d3 e9 (fun K hK => ?_) | fail); simp -implicitDefEqProofs; first | refine hK _ ?_ | refine hK _ _ (by rfl) ?_ | fail) | fail)
    refine l5 (j0 [0, 1] ?_); simp -implicitDefEqProofs [m9, f6, f7] <;> try rfl
  · refine d7 Tryz.func50 rfl rfl (Nat.le_of_ble_eq_true rfl) ?_
    repeat (first | refine b9 ?_ | refine b6 ?_ | refine a6 ?_ | refine b5 ?_ | refine e7 rfl ?_ | refine d9 rfl ?_ | ((first | refine b8 (fun K hK => ?_) | refine d3 e9 (fun K hK => ?_) | fail); simp -implicitDefEqProofs [h]; first | refine hK _ ?_ | refine hK _ _ (by rfl) ?_ | fail) | fail)
    refine l5 (j0 [0, 1] ?_); simp -implicitDefEqProofs [m9, f6, f7, h] <;> try rfl
theorem a1c (m ret : VT) (L E : List VT) (hE : OkV L E) (hL : L.length ≤ 1000000) (a e : Int) (x : Lab) (l : List VT) : Row Tryz.prog 21 [.v (.c (.ptr 0 0)), vT (.mk x l)] [bxJ 1 m ret L.length a e, arJ E] (.tup []) [some (bxJ 2 m ret (L.length + 1) a e), none, some (arJ (L ++ [.mk x l]))] := by
  obtain ⟨mx, ml⟩ := m
  obtain ⟨rx, rl⟩ := ret
  have b1 : (L.length + 1) * 72 ≤ 140737488355328 := by omega
  have b2 : L.length + 1 ≤ 140737488355328 := by omega
  have z1 : zPV (Value.int .i64 0) = some (.lit (.int .i64 0)) := rfl
  have z2 : zPV (Value.string { data := #[] }) = some (.lit (.string { data := #[] })) := rfl
  have z3 : zPV (Value.slice none 0 0) = some .nilS := rfl
  have hEl := hE.2
  have hEt : (E.map tc).take L.length = L.map tc := by rw [← List.map_take, hE.1]
  have i1 : (L.length : Int) < (L.length : Nat) + 1 := by omega
  have i2 : L.length < L.length + 1 := by omega
  have sL : ∀ z c : List PV, (L.map tc ++ [z]).set L.length c = L.map tc ++ [c] := fun z c => by
    rw [List.set_append_right _ _ (by rw [List.length_map]; omega), List.length_map, Nat.sub_self]; rfl
  refine d7 Tryz.func21 rfl rfl (Nat.le_of_ble_eq_true rfl) ?_
  refine aw_as ?_
  repeat (first | refine b9 ?_ | refine b6 ?_ | refine a6 ?_ | refine b5 ?_ | refine e7 rfl ?_ | refine d9 rfl ?_ | ((first | refine b8 (fun K hK => ?_) | refine d3 e9 (fun K hK => ?_) | fail); simp -implicitDefEqProofs [b1, b2, z1, z2, z3, i1, i2, sL, hEl, hEt]; first | refine hK _ ?_ | refine hK _ _ (by rfl) ?_ | fail) | fail)
  refine ⟨_, b8s 59 0 12 _ 24 6 (L.length + 1) _ rfl rfl (.inl rfl) (by dsimp only; omega) (by dsimp only; omega), ?_⟩
  simp [St.mvw]
  refine l5 (j0 [0, 1, 107] ?_); simp -implicitDefEqProofs [m9, f6, f7] <;> try rfl
end Go.Proofs.YtbbkmijkllgfaaaGreatDoor.am
end
section
namespace Go.Proofs.YtbbkmijkllgfaaaGreatDoor.am
open Go.ChangeShapes Go.WideShapes Go.ChangeAt Go.RowKit
open vt
set_option linter.unusedVariables false
set_option linter.unusedSimpArgs false
theorem c5y (m : VT) (L : List VT) (t : VT) (h : ¬ (ofP m L t).er = 0) : (ofP m L t).ty = z0T ∧ (ofP m L t).fo = z0T := by
  obtain ⟨x, l⟩ := t
  rw [a9c] at h ⊢
  unfold c5x at h ⊢
  by_cases hs : j7 x l.length = false
  · rw [if_pos hs]; exact ⟨rfl, rfl⟩
  rw [if_neg hs] at h ⊢
  by_cases hk : x.k = 17 ∨ c0e m L.length x = false
  · rw [if_pos hk]; exact ⟨rfl, rfl⟩
  rw [if_neg hk] at h ⊢
  cases hf : (l.map (ofP m L)).find? (fun g => !decide (g.er = 0)) with
  | some g => exact ⟨rfl, rfl⟩
  | none =>
    rw [hf] at h
    dsimp only at h ⊢
    by_cases hok : (a2p m L x ((l.map (ofP m L)).map GV.ty)).ok = true
    · rw [if_pos hok] at h; exact absurd rfl h
    · rw [if_neg hok]; exact ⟨rfl, rfl⟩
end Go.Proofs.YtbbkmijkllgfaaaGreatDoor.am
end
section
namespace Go.Proofs.YtbbkmijkllgfaaaGreatDoor.am
open Go.ChangeShapes Go.WideShapes Go.ChangeAt Go.RowKit
open vt
set_option linter.unusedVariables false
set_option linter.unusedSimpArgs false
theorem nl_k (t : VT) : (l3 t).lab.k = t.lab.k := by obtain ⟨x, l⟩ := t; rw [o8]; rfl
theorem nl_n (t : VT) : (l3 t).lab.n = t.lab.n := by obtain ⟨x, l⟩ := t; rw [o8]; rfl
theorem a1t (t : VT) : (l3 t).kids = t.kids.map l3 := by obtain ⟨x, l⟩ := t; rw [o8]; rfl
theorem nl_z0 : l3 z0T = z0T := by rw [o8]; rfl
theorem nl_ty (k : Int) : l3 (tyT k) = tyT k := by unfold tyT; rw [o8]; rfl
theorem b1g (l : List VT) (i : Nat) : (l.map l3).getD i z0T = l3 (l.getD i z0T) := by
  by_cases h : i < l.length
  · simp [List.getD, h]
  · simp [List.getD, h, nl_z0]
theorem nl_lit (t : VT) : a0u (l3 t) = a0u t ∧ l3 (a0u t) = a0u t := by
  refine ⟨by unfold a0u; rw [nl_k], ?_⟩
  rcases a6a t with e | e | e <;> rw [e]
  · exact nl_ty 1
  · exact nl_ty 2
  · exact nl_z0
theorem nl_bar (t : VT) : u9 (l3 t) = l3 t ∧ l3 (u9 t) = l3 t := by
  induction t using Tr.ind with
  | h x l ih =>
  rw [o8, a1p, a1p, o8, List.map_map, List.map_map]
  constructor
  · congr 1
    exact List.map_congr_left (fun y hy => (ih y hy).1)
  · congr 1
    exact List.map_congr_left (fun y hy => (ih y hy).2)
theorem b4w (t : VT) : l3 (l3 t) = l3 t := by
  induction t using Tr.ind with
  | h x l ih =>
  rw [o8, o8, List.map_map]
  congr 1
  exact List.map_congr_left (fun y hy => ih y hy)
theorem a7j (q : VT) : j1 (l3 q) = j1 q := by unfold j1; rw [nl_k, a1t, List.length_map]
theorem nl_ptD (q : VT) : ptD (l3 q) = (ptD q).map l3 := by
  unfold ptD
  rw [a7j]
  by_cases h : j1 q = true
  · rw [if_pos h, if_pos h, a1t, b1g]; rfl
  · rw [if_neg h, if_neg h]; rfl
structure Sdd (d e : VT) : Prop where
  k : e.lab.k = d.lab.k
  pl : ¬ d.lab.k = 33 → e = l3 d
  fn : d.lab.k = 33 → ∃ dx ex a b c c', d = .mk dx [a, b, c] ∧ e = .mk ex [l3 a, l3 b, c']
structure Sd (m s : VT) : Prop where
  len : s.kids.length = m.kids.length
  at' : ∀ (i : Nat) d, m.kids[i]? = some d → ∃ e, s.kids[i]? = some e ∧ Sdd d e
theorem Sdd.dcl {d e : VT} (h : Sdd d e) {k : Int} (hk : k = 8 ∨ k = 9 ∨ k = 15 ∨ k = 16) : b0z e k = b0z d k := by
  by_cases h33 : d.lab.k = 33
  · obtain ⟨dx, ex, a, b, c, c', rfl, rfl⟩ := h.fn h33
    have e1 := h.k
    have d1 : dx.k = 33 := h33
    have e1 : ex.k = 33 := e1.trans d1
    unfold b0z
    simp only [Tr.lab, Tr.kids, d1, e1]
    rcases hk with rfl | rfl | rfl | rfl <;> simp
  · rw [h.pl h33]
    unfold b0z
    rw [nl_k, a1t, List.length_map, b1g, (nl_lit _).1, List.all_map, show (j1 ∘ l3) = j1 from funext a7j]
section
variable {m s : VT} (M : Sd m s)
include M
theorem Sd.recE (n : Int) : a3n s n = (a3n m n).map l3 := by
  unfold a3n
  by_cases h0 : 0 ≤ n
  · rw [if_pos h0, if_pos h0]
    cases hd : m.kids[n.toNat]? with
    | none =>
      have : m.kids.length ≤ n.toNat := by simpa using hd
      rw [List.getElem?_eq_none (by rw [M.len]; omega)]; rfl
    | some d =>
      obtain ⟨e, he, hs⟩ := M.at' _ d hd
      rw [he]
      dsimp only
      rw [hs.k]
      by_cases h30 : d.lab.k = 30
      · rw [if_pos h30, if_pos h30, hs.pl (by omega)]; rfl
      · rw [if_neg h30, if_neg h30]; rfl
  · rw [if_neg h0, if_neg h0]; rfl
theorem Sd.wth : ∀ (f : Nat) (t : VT) (dq : Nat), a3q s f (l3 t) dq = a3q m f t dq
  | 0, t, dq => rfl
  | f + 1, t, dq => by
    unfold a3q
    rw [nl_k, a1t, List.length_map, nl_n, b1g, Sd.wth f, M.recE, M.len]
    cases a3n m t.lab.n with
    | none => rfl
    | some d =>
      dsimp only [Option.map_some]
      have e : (l3 d).kids.map (a8a s f dq) = d.kids.map (a8a m f dq) := by
        rw [a1t, List.map_map]
        refine List.map_congr_left (fun q hq => ?_)
        show a8a s f dq (l3 q) = a8a m f dq q
        unfold a8a
        rw [nl_ptD]
        cases ptD q with
        | none => rfl
        | some u => exact Sd.wth f u (dq + 1)
      have e' : b0h ((l3 d).kids.map (a8a s f dq)) 0 = b0h (d.kids.map (a8a m f dq)) 0 := by rw [e]
      split
      · rfl
      · split
        · rfl
        · split
          · split
            · split
              · rfl
              · exact e'
            · rfl
          · rfl
end
section
variable {m s : VT} (M : Sd m s)
include M
theorem Sd.fld (n : Int) : fldA s n = (fldA m n).map l3 := by
  unfold vt.fldA
  by_cases h0 : n < 0
  · rw [if_pos h0, if_pos h0]; rfl
  rw [if_neg h0, if_neg h0]
  cases hd : m.kids[n.toNat / 64]? with
  | none =>
    have : m.kids.length ≤ n.toNat / 64 := by simpa using hd
    rw [List.getElem?_eq_none (by rw [M.len]; omega)]; rfl
  | some d =>
    obtain ⟨e, he, hs⟩ := M.at' _ d hd
    rw [he]
    dsimp only
    rw [hs.k]
    by_cases h30 : d.lab.k = 30
    · rw [if_pos h30, if_pos h30, hs.pl (by omega), a1t, List.getElem?_map]
      cases d.kids[n.toNat % 64]? with
      | none => rfl
      | some q =>
        show (if j1 (l3 q) = true then _ else _) = _
        dsimp only [Option.map_some]
        rw [a7j]
        by_cases hq : j1 q = true
        · rw [if_pos hq, if_pos hq, a1t, List.getElem?_map]
        · rw [if_neg hq, if_neg hq]; rfl
    · rw [if_neg h30, if_neg h30]; rfl
end
end Go.Proofs.YtbbkmijkllgfaaaGreatDoor.am
end
section
namespace Go.Proofs.YtbbkmijkllgfaaaGreatDoor.am
open Go.ChangeShapes Go.WideShapes Go.ChangeAt Go.RowKit
open vt
set_option linter.unusedVariables false
set_option linter.unusedSimpArgs false
section
variable {m s : VT} (M : Sd m s)
include M
theorem Sd.decl {i : Nat} {d : VT} (hd : m.kids[i]? = some d) : ∃ e, s.kids.getD i z0T = e ∧ Sdd d e := by
  obtain ⟨e, he, hs⟩ := M.at' i d hd
  exact ⟨e, by rw [List.getD_eq_getElem?_getD, he]; rfl, hs⟩
end
end Go.Proofs.YtbbkmijkllgfaaaGreatDoor.am
end
section
namespace Go.Proofs.YtbbkmijkllgfaaaGreatDoor.am
open Go.ChangeShapes Go.WideShapes Go.ChangeAt Go.RowKit
open vt
set_option linter.unusedVariables false
set_option linter.unusedSimpArgs false
structure GR where
  t : VT
  pl : Int
  er : Int
noncomputable def m8 (x : Lab) (e : Int) : GR := ⟨z0T, x.f, e⟩
noncomputable def b4k (g : GV) : GR := ⟨g.fo, g.pl, g.er⟩
def a03 (k : Int) : Int × Int :=
  if k = 20 ∨ k = 21 ∨ k = 26 ∨ k = 27 ∨ k = 28 then (1, 0)
  else if k = 22 then (2, 0)
  else if k = 23 then (3, 2)
  else if k = 24 then (2, 1)
  else if k = 25 then (3, 1)
  else (-1, 0)
def c09 (y : VT) : Bool := decide (y.lab.k = 29)
def b0g (x : Lab) (l : List VT) : Bool := if x.k = 29 then true else decide ((l.length : Int) = (a03 x.k).1) && (l.drop ((a03 x.k).1 - (a03 x.k).2).toNat).all c09
noncomputable def z6 (m : VT) (L : List VT) (t : VT) : List VT :=
  if t.lab.k = 20 ∧ t.kids.length = 1 then L ++ [(ofT m L (t.kids.getD 0 z0T)).ty]
  else if t.lab.k = 21 ∧ t.kids.length = 1 then L ++ [t.kids.getD 0 z0T]
  else L
noncomputable def b0f (m : VT) (L : List VT) (t : VT) (a b : Int) : GR :=
  if (ofT m L t).er = 0 ∧ isT (ofT m L t).ty a = false ∧ isT (ofT m L t).ty b = false then m8 t.lab 10 else b4k (ofT m L t)
noncomputable def blkG (m : VT) (x : Lab) : List (VT × (List VT → GR)) → List VT → List VT → GR
  | [], _, acc => ⟨.mk ⟨x.k, x.n, ⟨#[]⟩, 0, 0⟩ acc, 0, 0⟩
  | p :: r, L, acc => if (p.2 L).er = 0 then blkG m x r (z6 m L p.1) (acc ++ [(p.2 L).t]) else p.2 L
noncomputable def c3s (m ret : VT) (L : List VT) (x : Lab) (i : Nat) (y : VT) (f : List VT → GR) : GR :=
  if (a03 x.k).1 - (a03 x.k).2 ≤ i then f (if x.k = 25 then L ++ [tyT 1] else L)
  else if x.k = 21 then (if z7 m y = 0 then m8 y.lab 11 else ⟨l3 y, 0, 0⟩)
  else if x.k = 23 ∨ x.k = 24 then b0f m L y 2 2
  else if x.k = 25 then b0f m L y 1 1
  else if x.k = 26 then b0f m L y 1 2
  else if x.k = 28 ∧ ¬ y.lab.k = 16 then m8 y.lab 12
  else if x.k = 27 ∧ (ofT m L y).er = 0 ∧ same (ofT m L y).ty (u9 ret) = false then m8 y.lab 10
  else b4k (ofT m L y)
noncomputable def b8m (m ret : VT) (L : List VT) (x : Lab) : Nat → List (VT × (List VT → GR)) → List GR
  | _, [] => []
  | i, p :: r => c3s m ret L x i p.1 p.2 :: b8m m ret L x (i + 1) r
noncomputable def endG (m : VT) (L : List VT) (x : Lab) (l : List VT) (gs : List GR) : GR :=
  if x.k = 22 ∧ ¬ ((a3o (l.getD 0 z0T)).lab.k = 7 ∨ (a3o (l.getD 0 z0T)).lab.k = 9) then m8 (l.getD 0 z0T).lab 12
  else if x.k = 22 ∧ same (ofT m L (l.getD 0 z0T)).ty (ofT m L (l.getD 1 z0T)).ty = false then m8 x 10
  else ⟨.mk ⟨x.k, x.n, ⟨#[]⟩, 0, 0⟩ (gs.map GR.t), 0, 0⟩
noncomputable def stmC (m ret : VT) (x : Lab) (l : List VT) (fs : List (List VT → GR)) (L : List VT) : GR :=
  if b0g x l = false then m8 x 12
  else if x.k = 29 then blkG m x (l.zip fs) L []
  else match (b8m m ret L x 0 (l.zip fs)).find? (fun g => !decide (g.er = 0)) with
    | some g => g
    | none => endG m L x l (b8m m ret L x 0 (l.zip fs))
noncomputable def a0k (m ret : VT) (t : VT) : List VT → GR := Tr.fold (stmC m ret) t
theorem c6g (m ret : VT) (x : Lab) (l : List VT) : a0k m ret (.mk x l) = stmC m ret x l (l.map (a0k m ret)) := Tr.fold_mk _ x l
theorem c0c {α β : Type} (f : α → β) : ∀ l : List α, l.zip (l.map f) = l.map (fun y => (y, f y))
  | [] => rfl
  | y :: l => by rw [List.map_cons, List.zip_cons_cons, c0c f l]; rfl
noncomputable def a2u (m ret : VT) (x : Lab) : List VT → List VT → List VT → GR
  | [], _, acc => ⟨.mk ⟨x.k, x.n, ⟨#[]⟩, 0, 0⟩ acc, 0, 0⟩
  | t :: r, L, acc => if (a0k m ret t L).er = 0 then a2u m ret x r (z6 m L t) (acc ++ [(a0k m ret t L).t]) else a0k m ret t L
theorem b63 (m ret : VT) (x : Lab) : ∀ (l : List VT) (L acc : List VT), blkG m x (l.map (fun y => (y, a0k m ret y))) L acc = a2u m ret x l L acc
  | [], L, acc => rfl
  | t :: r, L, acc => by
    rw [List.map_cons]
    unfold blkG a2u
    rw [b63 m ret x r]
noncomputable def a3w (m ret : VT) (L : List VT) (x : Lab) (i : Nat) (y : VT) : GR := c3s m ret L x i y (a0k m ret y)
noncomputable def y3 (m ret : VT) (L : List VT) (x : Lab) : Nat → List VT → List GR
  | _, [] => []
  | i, y :: r => a3w m ret L x i y :: y3 m ret L x (i + 1) r
theorem b3f (m ret : VT) (L : List VT) (x : Lab) : ∀ (i : Nat) (l : List VT), b8m m ret L x i (l.map (fun y => (y, a0k m ret y))) = y3 m ret L x i l
  | _, [] => rfl
  | i, y :: r => by
    rw [List.map_cons]
    unfold b8m y3
    rw [b3f m ret L x (i + 1) r]
    rfl
theorem a06 (m ret : VT) (x : Lab) (l : List VT) (L : List VT) : a0k m ret (.mk x l) L = if b0g x l = false then m8 x 12
  else if x.k = 29 then a2u m ret x l L []
  else match (y3 m ret L x 0 l).find? (fun g => !decide (g.er = 0)) with
    | some g => g
    | none => endG m L x l (y3 m ret L x 0 l) := by
  rw [c6g]
  unfold stmC
  rw [c0c, b63, b3f]
def b41 (l : List VT) : Bool := l.all j1
def p8 (f : VT) : List VT := ((f.kids.getD 0 z0T).kids).map (fun q => q.kids.getD 0 z0T)
noncomputable def fnT (m : VT) (x : Lab) (l : List VT) : GR :=
  if ¬ (x.n = 0 ∨ x.n = 1) ∨ ¬ l.length = 3 ∨ ¬ (l.getD 0 z0T).lab.k = 35 ∨ b41 (l.getD 0 z0T).kids = false ∨ ¬ (l.getD 2 z0T).lab.k = 29 then m8 x 12
  else match (p8 (.mk x l) ++ [l.getD 1 z0T]).find? (fun a => decide (z7 m a = 0)) with
    | some a => m8 a.lab 11
    | none => match (p8 (.mk x l) ++ [l.getD 1 z0T]).find? (fun a => decide (x.n = 1) && !(decide (0 < z7 m a) && a3u a)) with
      | some a => m8 a.lab 12
      | none => if (a0k m (l.getD 1 z0T) (l.getD 2 z0T) (p8 (.mk x l))).er = 0
          then ⟨.mk ⟨x.k, x.n, ⟨#[]⟩, 0, 0⟩ [l3 (l.getD 0 z0T), l3 (l.getD 1 z0T), (a0k m (l.getD 1 z0T) (l.getD 2 z0T) (p8 (.mk x l))).t], 0, 0⟩
          else a0k m (l.getD 1 z0T) (l.getD 2 z0T) (p8 (.mk x l))
noncomputable def a2n (m : VT) (i : Nat) (t : VT) : GR :=
  if t.lab.k = 33 then fnT m t.lab t.kids
  else if t.lab.k = 30 then
    (if a44 t = false then m8 t.lab 12 else if z7 m (.mk ⟨4, i, ⟨#[]⟩, 0, 0⟩ []) = 0 then m8 t.lab 11 else ⟨l3 t, 0, 0⟩)
  else if t.lab.k = 32 ∧ t.kids.length = 1 then
    (if z7 m (t.kids.getD 0 z0T) = 0 then m8 (t.kids.getD 0 z0T).lab 11 else ⟨l3 t, 0, 0⟩)
  else if ¬ t.lab.k = 31 ∨ ¬ t.kids.length = 1 ∨ 0 < (t.kids.getD 0 z0T).kids.length ∨ (a0u (t.kids.getD 0 z0T)).lab.k = 0 ∨ ((t.kids.getD 0 z0T).lab.k = 6 ∧ ¬ (t.kids.getD 0 z0T).lab.n = 0 ∧ ¬ (t.kids.getD 0 z0T).lab.n = 1) then m8 t.lab 12
  else ⟨l3 t, 0, 0⟩
noncomputable def w8 (m : VT) : Nat → List VT → List GR
  | _, [] => []
  | i, t :: r => a2n m i t :: w8 m (i + 1) r
noncomputable def b52 (m : VT) : GR :=
  if ¬ m.lab.k = 36 then m8 m.lab 12
  else match (w8 m 0 m.kids).find? (fun g => !decide (g.er = 0)) with
    | some g => ⟨z0T, g.pl, g.er⟩
    | none => ⟨.mk ⟨m.lab.k, m.lab.n, ⟨#[]⟩, 0, 0⟩ ((w8 m 0 m.kids).map GR.t), 0, 0⟩
end Go.Proofs.YtbbkmijkllgfaaaGreatDoor.am
end
