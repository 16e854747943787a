import Derived.Test.YthmdllhhmhbhbaaGreatDoorPkR7
import Derived.Test.YthmdllhhmhbhbaaGreatDoorPkR4
import Derived.Test.YthmdllhhmhbhbaaGreatDoorPkR5
set_option maxRecDepth 100000
set_option maxHeartbeats 4000000
section
namespace Go.Proofs.YthmdllhhmhbhbaaGreatDoor.am
open Go.ChangeShapes Go.WideShapes Go.ChangeAt Go.RowKit
open vt
set_option linter.unusedVariables false
set_option linter.unusedSimpArgs false
noncomputable abbrev bxV (m : VT) (L : List VT) (a e : Int) : AO := .box (ta m ++ [.vw 1 6 0 L.length, .pv (I a), .pv (I e)])
noncomputable abbrev arJ (E : List VT) : AO := .arr 24 6 (E.map tc)
def OkV (L E : List VT) : Prop := E.take L.length = L ∧ L.length ≤ E.length
theorem okV_at {L E : List VT} (h : OkV L E) {i : Nat} (hi : i < L.length) : E[i]? = L[i]? := by
  conv => rhs; rw [← h.1]
  rw [List.getElem?_take, if_pos hi]
theorem b5p (m : VT) (hms : m.size ≤ 1000000) (L E : List VT) (hLl : L.length ≤ 1000000) (a e : Int) (x : Lab) (l : List VT) (hx : x.ok) : Row Tryz.prog 100 [.v (.c (.ptr 0 0)), vT (.mk x l)] [bxV m L a e, arJ E] (vB (a60 m L.length x)) [some (bxV m L a e), some (arJ E)] := by
  unfold a60
  have hmk : m.kids.length < m.size := by obtain ⟨mx, ml⟩ := m; exact Tr.len_size (x := mx) (l := ml)
  have wL : IntKind.i64.wrap ((L.length : Nat) : Int) = (L.length : Nat) := v6 _ (by omega) (by omega)
  by_cases c7 : x.k = 7
  · rw [if_pos c7]
    obtain ⟨mx, ml⟩ := m
    by_cases n0 : 0 ≤ x.n; rotate_left
    · refine e8 Tryz.func100 rfl rfl (Nat.le_of_ble_eq_true rfl) ?_
      repeat (first | refine d7 ?_ | refine b9 ?_ | refine a8 ?_ | refine b8 ?_ | refine f7 rfl ?_ | refine f6 rfl ?_ | ((first | refine d6 (fun K hK => ?_) | refine d8 f8 (fun K hK => ?_) | fail); simp -implicitDefEqProofs [c7, n0]; first | refine hK _ ?_ | refine hK _ _ (by rfl) ?_ | fail) | fail)
      refine e7 (j6 [0, 1] ?_); simp -implicitDefEqProofs [l4, g7, g9, n0] <;> try rfl
    by_cases n1 : x.n < L.length
    · refine e8 Tryz.func100 rfl rfl (Nat.le_of_ble_eq_true rfl) ?_
      repeat (first | refine d7 ?_ | refine b9 ?_ | refine a8 ?_ | refine b8 ?_ | refine f7 rfl ?_ | refine f6 rfl ?_ | ((first | refine d6 (fun K hK => ?_) | refine d8 f8 (fun K hK => ?_) | fail); simp -implicitDefEqProofs [c7, n0, wL, n1]; first | refine hK _ ?_ | refine hK _ _ (by rfl) ?_ | fail) | fail)
      refine e7 (j6 [0, 1] ?_); simp -implicitDefEqProofs [l4, g7, g9, n0, n1] <;> try rfl
    · refine e8 Tryz.func100 rfl rfl (Nat.le_of_ble_eq_true rfl) ?_
      repeat (first | refine d7 ?_ | refine b9 ?_ | refine a8 ?_ | refine b8 ?_ | refine f7 rfl ?_ | refine f6 rfl ?_ | ((first | refine d6 (fun K hK => ?_) | refine d8 f8 (fun K hK => ?_) | fail); simp -implicitDefEqProofs [c7, n0, wL, n1]; first | refine hK _ ?_ | refine hK _ _ (by rfl) ?_ | fail) | fail)
      refine e7 (j6 [0, 1] ?_); simp -implicitDefEqProofs [l4, g7, g9, n0, n1] <;> try rfl
  rw [if_neg c7]
  by_cases cg : x.k = 8 ∨ x.k = 9 ∨ x.k = 15 ∨ x.k = 16; rotate_left
  · rw [if_neg cg]
    have c8 : ¬ x.k = 8 := fun h => cg (.inl h)
    have c9 : ¬ x.k = 9 := fun h => cg (.inr (.inl h))
    have c15 : ¬ x.k = 15 := fun h => cg (.inr (.inr (.inl h)))
    have c16 : ¬ x.k = 16 := fun h => cg (.inr (.inr (.inr h)))
    obtain ⟨mx, ml⟩ := m
    refine e8 Tryz.func100 rfl rfl (Nat.le_of_ble_eq_true rfl) ?_
    repeat (first | refine d7 ?_ | refine b9 ?_ | refine a8 ?_ | refine b8 ?_ | refine f7 rfl ?_ | refine f6 rfl ?_ | ((first | refine d6 (fun K hK => ?_) | refine d8 f8 (fun K hK => ?_) | fail); simp -implicitDefEqProofs [c7, c8, c9, c15, c16]; first | refine hK _ ?_ | refine hK _ _ (by rfl) ?_ | fail) | fail)
    refine e7 (j6 [0, 1] ?_); simp -implicitDefEqProofs [l4, g7, g9] <;> try rfl
  rw [if_pos cg]
  obtain ⟨kk, hkk⟩ : ∃ kk, x.k = kk := ⟨_, rfl⟩
  have hdc := fun (dx : Lab) (dl : List VT) (h : dl.length ≤ 1000000) => a9j dx dl h kk
  rw [hkk] at cg c7 ⊢
  by_cases n0 : 0 ≤ x.n; rotate_left
  · rw [if_neg (fun h => n0 h.1)]
    clear hdc
    obtain ⟨mx, ml⟩ := m
    rcases cg with c | c | c | c
    all_goals (
      subst c
      refine e8 Tryz.func100 rfl rfl (Nat.le_of_ble_eq_true rfl) ?_
      repeat (first | refine d7 ?_ | refine b9 ?_ | refine a8 ?_ | refine b8 ?_ | refine f7 rfl ?_ | refine f6 rfl ?_ | ((first | refine d6 (fun K hK => ?_) | refine d8 f8 (fun K hK => ?_) | fail); simp -implicitDefEqProofs [hkk, n0]; first | refine hK _ ?_ | refine hK _ _ (by rfl) ?_ | fail) | fail)
      refine e7 (j6 [0, 1] ?_); simp -implicitDefEqProofs [l4, g7, g9] <;> try rfl)
  obtain ⟨n, hn⟩ : ∃ n : Nat, x.n = n := ⟨x.n.toNat, by omega⟩
  have wm : IntKind.i64.wrap ((m.kids.length : Nat) : Int) = (m.kids.length : Nat) := v6 _ (by omega) (by omega)
  rw [hn] at n0 ⊢
  rw [Int.toNat_natCast]
  have wn : IntKind.i64.wrap ((n : Nat) : Int) = (n : Nat) := v6 _ (by have := hx.2.1; omega) (by have := hx.2.1; omega)
  by_cases hnl : n < m.kids.length; rotate_left
  · have hnl' : ¬ ((n : Nat) : Int) < (m.kids.length : Nat) := by omega
    rw [if_neg (fun h => hnl' h.2)]
    clear hdc
    obtain ⟨mx, ml⟩ := m
    simp only [Tr.kids] at hnl hnl' wm
    rcases cg with c | c | c | c
    all_goals (
      subst c
      refine e8 Tryz.func100 rfl rfl (Nat.le_of_ble_eq_true rfl) ?_
      repeat (first | refine d7 ?_ | refine b9 ?_ | refine a8 ?_ | refine b8 ?_ | refine f7 rfl ?_ | refine f6 rfl ?_ | ((first | refine d6 (fun K hK => ?_) | refine d8 f8 (fun K hK => ?_) | fail); simp -implicitDefEqProofs [hkk, hn, n0, wm, wn, hnl, hnl']; first | refine hK _ ?_ | refine hK _ _ (by rfl) ?_ | fail) | fail)
      refine e7 (j6 [0, 1] ?_); simp -implicitDefEqProofs [l4, g7, g9] <;> try rfl)
  have hnl' : ((n : Nat) : Int) < (m.kids.length : Nat) := by omega
  rw [if_pos ⟨n0, hnl'⟩]
  obtain ⟨⟨dx, dl⟩, hd⟩ : ∃ d, m.kids[n]? = some d := ⟨_, List.getElem?_eq_getElem hnl⟩
  have hd' := (List.getElem?_eq_some_iff.1 hd).2
  have hds := p8 (List.mem_of_getElem? hd)
  have hdl := Tr.len_size (x := dx) (l := dl)
  replace hdc := hdc dx dl (by omega)
  rw [show m.kids.getD n z0T = .mk dx dl by simp [List.getD, hd]]
  obtain ⟨q, hq⟩ : ∃ q, b0u (.mk dx dl) kk = q := ⟨_, rfl⟩
  rw [hq] at hdc ⊢
  clear hq
  obtain ⟨mx, ml⟩ := m
  simp only [Tr.kids] at hnl hnl' wm hd hd'
  rcases cg with c | c | c | c
  all_goals (
    subst c
    refine e8 Tryz.func100 rfl rfl (Nat.le_of_ble_eq_true rfl) ?_
    repeat' (first | refine d7 ?_ | refine b9 ?_ | refine a8 ?_ | refine b8 ?_ | refine f7 rfl ?_ | refine f6 rfl ?_ | ((first | refine d6 (fun K hK => ?_) | refine d8 f8 (fun K hK => ?_) | refine b7 (cp hdc ?_) | refine a6 (dp hdc ?_) | fail); simp -implicitDefEqProofs [hkk, hn, n0, wm, wn, hnl, hnl', hd, hd']) | refine hK _ ?_ | refine hK _ _ (by rfl) ?_ | fail)
    refine e7 (j6 [0, 1] ?_); simp -implicitDefEqProofs [l4, g7, g9] <;> try rfl)
theorem a03 (m : VT) (L E : List VT) (a e : Int) (x : Lab) (l : List VT) (e' : Int) : Row Tryz.prog 99 [.v (.c (.ptr 0 0)), vT (.mk x l), vI e'] [bxV m L a e, arJ E] (vTy z0T z0T) [some (bxV m L (if e = 0 then x.f else a) (if e = 0 then e' else e)), some (arJ E)] := by
  obtain ⟨mx, ml⟩ := m
  by_cases h : e = 0
  · subst h
    refine e8 Tryz.func99 rfl rfl (Nat.le_of_ble_eq_true rfl) ?_
    repeat (first | refine d7 ?_ | refine b9 ?_ | refine a8 ?_ | refine b8 ?_ | refine f7 rfl ?_ | refine f6 rfl ?_ | ((first | refine d6 (fun K hK => ?_) | refine d8 f8 (fun K hK => ?_) | fail); simp -implicitDefEqProofs; first | refine hK _ ?_ | refine hK _ _ (by rfl) ?_ | fail) | fail)
    refine e7 (j6 [0, 1] ?_); simp -implicitDefEqProofs [l4, g7, g9] <;> try rfl
  · refine e8 Tryz.func99 rfl rfl (Nat.le_of_ble_eq_true rfl) ?_
    repeat (first | refine d7 ?_ | refine b9 ?_ | refine a8 ?_ | refine b8 ?_ | refine f7 rfl ?_ | refine f6 rfl ?_ | ((first | refine d6 (fun K hK => ?_) | refine d8 f8 (fun K hK => ?_) | fail); simp -implicitDefEqProofs [h]; first | refine hK _ ?_ | refine hK _ _ (by rfl) ?_ | fail) | fail)
    refine e7 (j6 [0, 1] ?_); simp -implicitDefEqProofs [l4, g7, g9, h] <;> try rfl
theorem b2j (m : VT) (hms : m.size ≤ 1000000) (L E : List VT) (a e : Int) (r : Int) (hr : r ≤ 9223372036854775807) (s : ByteArray) : Row Tryz.prog 171 [.v (.c (.ptr 0 0)), vI r, vS s] [bxV m L a e, arJ E] (vI (b7z m r s)) [some (bxV m L a e), some (arJ E)] := by
  have hmk : m.kids.length < m.size := by obtain ⟨mx, ml⟩ := m; exact Tr.len_size (x := mx) (l := ml)
  by_cases r0 : r < 0
  · rw [show b7z m r s = -1 by unfold b7z; exact if_neg (by omega)]
    obtain ⟨mx, ml⟩ := m
    refine e8 Tryz.func171 rfl rfl (Nat.le_of_ble_eq_true rfl) ?_
    repeat (first | refine d7 ?_ | refine b9 ?_ | refine a8 ?_ | refine b8 ?_ | refine f7 rfl ?_ | refine f6 rfl ?_ | ((first | refine d6 (fun K hK => ?_) | refine d8 f8 (fun K hK => ?_) | fail); simp -implicitDefEqProofs [r0]; first | refine hK _ ?_ | refine hK _ _ (by rfl) ?_ | fail) | fail)
    refine e7 (j6 [0, 1] ?_); simp -implicitDefEqProofs [l4, g7, g9] <;> try rfl
  obtain ⟨n, rfl⟩ : ∃ n : Nat, r = n := ⟨r.toNat, by omega⟩
  have wm : IntKind.i64.wrap ((m.kids.length : Nat) : Int) = (m.kids.length : Nat) := v6 _ (by omega) (by omega)
  have wn : IntKind.i64.wrap ((n : Nat) : Int) = (n : Nat) := v6 _ (by omega) (by omega)
  have hnm : b7z m (n : Nat) s = (match m.kids[n]? with | some d => numP d.kids n s | none => -1) := by unfold b7z; rw [if_pos (by omega), Int.toNat_natCast]; rfl
  by_cases hnl : n < m.kids.length; rotate_left
  · have h1 : (m.kids.length : Int) ≤ (n : Nat) := by omega
    have h2 : m.kids.length ≤ n := by omega
    rw [hnm, List.getElem?_eq_none h2]
    obtain ⟨mx, ml⟩ := m
    simp only [Tr.kids] at hnl h1 h2 wm
    refine e8 Tryz.func171 rfl rfl (Nat.le_of_ble_eq_true rfl) ?_
    repeat (first | refine d7 ?_ | refine b9 ?_ | refine a8 ?_ | refine b8 ?_ | refine f7 rfl ?_ | refine f6 rfl ?_ | ((first | refine d6 (fun K hK => ?_) | refine d8 f8 (fun K hK => ?_) | fail); simp -implicitDefEqProofs [r0, wm, wn, hnl, h1, h2]; first | refine hK _ ?_ | refine hK _ _ (by rfl) ?_ | fail) | fail)
    refine e7 (j6 [0, 1] ?_); simp -implicitDefEqProofs [l4, g7, g9] <;> try rfl
  have h1 : ¬ (m.kids.length : Int) ≤ (n : Nat) := by omega
  have h2 : ¬ m.kids.length ≤ n := by omega
  obtain ⟨⟨dx, p⟩, hd⟩ : ∃ d, m.kids[n]? = some d := ⟨_, List.getElem?_eq_getElem hnl⟩
  have hd' := (List.getElem?_eq_some_iff.1 hd).2
  have hds := p8 (List.mem_of_getElem? hd)
  have hpl := Tr.len_size (x := dx) (l := p)
  have hnm2 : b7z m (n : Nat) s = numP p n s := by rw [hnm, hd]; rfl
  rw [hnm2]
  clear hnm hnm2
  unfold numP
  have hat := fun k q hq hk hno he => c4j (p := p) (s := s) (k := k) (q := q) hq hk hno he
  have hnone := c4k (p := p) (s := s)
  obtain ⟨F, hF⟩ : ∃ F, (p.take 64).findIdx? (fun q => decide (q.lab.s = s)) = F := ⟨_, rfl⟩
  rw [hF] at hnone ⊢
  simp only [hF] at hat
  clear hF
  have w3 : IntKind.i64.wrap ((n : Nat) * 64 : Int) = (n : Nat) * 64 := v6 _ (by omega) (by omega)
  obtain ⟨mx, ml⟩ := m
  simp only [Tr.kids] at hnl h1 h2 wm hd hd' hmk
  refine e8 Tryz.func171 rfl rfl (Nat.le_of_ble_eq_true rfl) ?_
  repeat (first | refine d7 ?_ | refine b9 ?_ | refine a8 ?_ | refine b8 ?_ | refine f7 rfl ?_ | refine f6 rfl ?_ | ((first | refine d6 (fun K hK => ?_) | refine d8 f8 (fun K hK => ?_) | fail); simp -implicitDefEqProofs [r0, wm, wn, hnl, h1, h2, hd, hd']; first | refine hK _ ?_ | refine hK _ _ (by rfl) ?_ | fail) | fail)
  refine v7 (ι := Nat) (fun k => a0w [(0, .v (.c (.ptr 0 0))), (1, vI (n : Nat)), (2, vS s), (29, vLs p), (30, vI (p.length : Nat)), (31, vI (k : Nat))] [some (bxV (.mk mx ml) L a e), some (arJ E)]) (fun k => k ≤ p.length ∧ ∀ i q', i < 64 → i < k → p[i]? = some q' → q'.lab.s ≠ s) (fun k => p.length - k) 0 ⟨Nat.zero_le _, fun i q' _ h => by omega⟩ (i6 [0, 1] (by simp -implicitDefEqProofs) (by simp -implicitDefEqProofs) (by decide) rfl (by simp)) (fun Z hI k hk => ?_)
  obtain ⟨hk, hz⟩ := hk
  by_cases hkl : k < p.length; rotate_left
  · have : k = p.length := by omega
    subst this
    have hF := hnone (fun i q' hi hq => hz i q' hi (List.getElem?_eq_some_iff.1 hq).1 hq)
    subst hF
    clear hat hnone
    repeat (first | refine d7 ?_ | refine b9 ?_ | refine a8 ?_ | refine b8 ?_ | refine f7 rfl ?_ | refine f6 rfl ?_ | ((first | refine d6 (fun K hK => ?_) | refine d8 f8 (fun K hK => ?_) | fail); simp -implicitDefEqProofs; first | refine hK _ ?_ | refine hK _ _ (by rfl) ?_ | fail) | fail)
    refine e7 (j6 [0, 1] ?_); simp -implicitDefEqProofs [l4, g7, g9] <;> try rfl
  obtain ⟨⟨qx, ql⟩, hq⟩ : ∃ q, p[k]? = some q := ⟨_, List.getElem?_eq_getElem hkl⟩
  have hq' := (List.getElem?_eq_some_iff.1 hq).2
  have w2 : IntKind.i64.wrap ((k : Nat) + 1 : Int) = (k : Nat) + 1 := v6 _ (by omega) (by omega)
  have w4 : IntKind.i64.wrap ((k : Nat) : Int) = (k : Nat) := v6 _ (by omega) (by omega)
  have w5 : IntKind.i64.wrap ((n : Nat) * 64 + (k : Nat) : Int) = (n : Nat) * 64 + (k : Nat) := v6 _ (by omega) (by omega)
  by_cases he : qx.s = s; rotate_left
  · clear hat hnone
    repeat (first | refine d7 ?_ | refine b9 ?_ | refine a8 ?_ | refine b8 ?_ | refine f7 rfl ?_ | refine f6 rfl ?_ | ((first | refine d6 (fun K hK => ?_) | refine d8 f8 (fun K hK => ?_) | fail); simp -implicitDefEqProofs [hkl, hq, hq', he, w2]; first | refine hK _ ?_ | refine hK _ _ (by rfl) ?_ | fail) | fail)
    refine ⟨k + 1, ⟨by omega, fun i q' h64 hi hq2 => ?_⟩, (by dsimp only; omega), ?_⟩
    · by_cases hik : i = k
      · subst hik; rw [hq] at hq2; cases hq2; exact he
      · exact hz i q' h64 (by omega) hq2
    · rw [hI]; exact i6 [0, 1] (by simp -implicitDefEqProofs) (by simp -implicitDefEqProofs) (by decide) rfl (by simp)
  by_cases hk64 : k < 64
  · have hk64' : ((k : Nat) : Int) < 64 := by omega
    have hF := hat k _ hq hk64 (fun i q' hi hq2 => hz i q' (by omega) hi hq2) he
    subst hF
    clear hat hnone
    repeat (first | refine d7 ?_ | refine b9 ?_ | refine a8 ?_ | refine b8 ?_ | refine f7 rfl ?_ | refine f6 rfl ?_ | ((first | refine d6 (fun K hK => ?_) | refine d8 f8 (fun K hK => ?_) | fail); simp -implicitDefEqProofs [hkl, hk64, hk64', hq, hq', he, w3, w4, w5]; first | refine hK _ ?_ | refine hK _ _ (by rfl) ?_ | fail) | fail)
    refine e7 (j6 [0, 1] ?_); simp -implicitDefEqProofs [l4, g7, g9] <;> try rfl
  · have hk64' : ¬ ((k : Nat) : Int) < 64 := by omega
    clear hat hnone
    repeat (first | refine d7 ?_ | refine b9 ?_ | refine a8 ?_ | refine b8 ?_ | refine f7 rfl ?_ | refine f6 rfl ?_ | ((first | refine d6 (fun K hK => ?_) | refine d8 f8 (fun K hK => ?_) | fail); simp -implicitDefEqProofs [hkl, hk64, hk64', hq, hq', he, w2]; first | refine hK _ ?_ | refine hK _ _ (by rfl) ?_ | fail) | fail)
    refine ⟨k + 1, ⟨by omega, fun i q' h64 hi hq2 => hz i q' h64 (by omega) hq2⟩, (by dsimp only; omega), ?_⟩
    rw [hI]; exact i6 [0, 1] (by simp -implicitDefEqProofs [he]) (by simp -implicitDefEqProofs [he]) (by decide) rfl (by simp)
theorem c2e (m : VT) (L E : List VT) (x : Lab) (l : List VT) (a b : VT) : Row Tryz.prog 143 [.v (.c (.ptr 0 0)), vT (.mk x l), fnK 2] [bxV m L 0 0, arJ E, bxK [a, b]] (vTO (b32 x.n a b).1 (b32 x.n a b).2) [some (bxV m L 0 0), some (arJ E), some (bxK [a, b])] := by
  obtain ⟨ax, al⟩ := a
  obtain ⟨bx, bl⟩ := b
  have h0 := y4 [.mk ax al, .mk bx bl] 0 ax al rfl
  have h1 := y4 [.mk ax al, .mk bx bl] 1 bx bl rfl
  have i1 := a23 ax al
  have i2 := a23 bx bl
  have b1 := a3r ax al
  have b2 := a3r bx bl
  rw [show ((0 : Nat) : Int) = 0 from rfl] at h0
  rw [show ((1 : Nat) : Int) = 1 from rfl] at h1
  unfold b32 tyT
  obtain ⟨p1, q1⟩ : ∃ p, isT (.mk ax al) 1 = p := ⟨_, rfl⟩
  obtain ⟨p2, q2⟩ : ∃ p, isT (.mk bx bl) 1 = p := ⟨_, rfl⟩
  obtain ⟨p3, q3⟩ : ∃ p, isT (.mk ax al) 2 = p := ⟨_, rfl⟩
  obtain ⟨p4, q4⟩ : ∃ p, isT (.mk bx bl) 2 = p := ⟨_, rfl⟩
  rw [q1] at i1
  rw [q2] at i2
  rw [q3] at b1
  rw [q4] at b2
  rw [q1, q2, q3, q4]
  clear q1 q2 q3 q4
  obtain ⟨ints, hi⟩ : ∃ p, (p1 && p2) = p := ⟨_, rfl⟩
  obtain ⟨bools, hbo⟩ : ∃ p, (p3 && p4) = p := ⟨_, rfl⟩
  rw [hi, hbo]
  obtain ⟨mx, ml⟩ := m
  refine e8 Tryz.func143 rfl rfl (Nat.le_of_ble_eq_true rfl) ?_
  refine d7 ?_
  refine d6 (fun K hK => ?_); simp -implicitDefEqProofs; refine hK _ ?_
  refine a7o (ι := Unit) (fun _ => a0w [(0, .v (.c (.ptr 0 0))), (2, fnK 2), (4, .v (.c (.ptr 3 0))), (6, .v (.c (.ptr 4 0))), (7, vB false), (8, vB ints)] [some (bxV (.mk mx ml) L 0 0), some (arJ E), some (bxK [.mk ax al, .mk bx bl]), some (.box (ta (.mk x l))), some (.box (ta z0T))]) (fun _ => True) (fun I hI => ?_) (fun _ _ => ?_)
  · cases p1 with
    | false =>
      have hi : ints = false := by rw [← hi]; rfl
      subst hi
      repeat' (first | refine d7 ?_ | refine b9 ?_ | refine a8 ?_ | refine b8 ?_ | refine f7 rfl ?_ | refine f6 rfl ?_ | ((first | refine d6 (fun K hK => ?_) | refine d8 f8 (fun K hK => ?_) | refine b7 (cb h0 2 ?_) | refine a6 (db h0 2 ?_) | refine b7 (cb h1 2 ?_) | refine a6 (db h1 2 ?_) | refine b7 (cp i1 ?_) | refine a6 (dp i1 ?_) | refine b7 (cp i2 ?_) | refine a6 (dp i2 ?_) | fail); simp -implicitDefEqProofs) | refine hK _ ?_ | refine hK _ _ (by rfl) ?_ | fail)
      refine ⟨(), (by trivial), ?_⟩; rw [hI]; exact i6 [0, 1, 2, 3, 4] (by simp -implicitDefEqProofs) (by simp -implicitDefEqProofs) (by decide) rfl (by simp)
    | true =>
      have hi : ints = p2 := by rw [← hi]; rfl
      subst hi
      repeat' (first | refine d7 ?_ | refine b9 ?_ | refine a8 ?_ | refine b8 ?_ | refine f7 rfl ?_ | refine f6 rfl ?_ | ((first | refine d6 (fun K hK => ?_) | refine d8 f8 (fun K hK => ?_) | refine b7 (cb h0 2 ?_) | refine a6 (db h0 2 ?_) | refine b7 (cb h1 2 ?_) | refine a6 (db h1 2 ?_) | refine b7 (cp i1 ?_) | refine a6 (dp i1 ?_) | refine b7 (cp i2 ?_) | refine a6 (dp i2 ?_) | fail); simp -implicitDefEqProofs) | refine hK _ ?_ | refine hK _ _ (by rfl) ?_ | fail)
      refine ⟨(), (by trivial), ?_⟩; rw [hI]; exact i6 [0, 1, 2, 3, 4] (by simp -implicitDefEqProofs) (by simp -implicitDefEqProofs) (by decide) rfl (by simp)
  clear i1 i2 hi
  refine a7o (ι := Unit) (fun _ => a0w [(0, .v (.c (.ptr 0 0))), (4, .v (.c (.ptr 3 0))), (6, .v (.c (.ptr 4 0))), (7, vB false), (8, vB ints), (9, vB bools)] [some (bxV (.mk mx ml) L 0 0), some (arJ E), some (bxK [.mk ax al, .mk bx bl]), some (.box (ta (.mk x l))), some (.box (ta z0T))]) (fun _ => True) (fun I hI => ?_) (fun _ _ => ?_)
  · cases p3 with
    | false =>
      have hbo : bools = false := by rw [← hbo]; rfl
      subst hbo
      repeat' (first | refine d7 ?_ | refine b9 ?_ | refine a8 ?_ | refine b8 ?_ | refine f7 rfl ?_ | refine f6 rfl ?_ | ((first | refine d6 (fun K hK => ?_) | refine d8 f8 (fun K hK => ?_) | refine b7 (cb h0 2 ?_) | refine a6 (db h0 2 ?_) | refine b7 (cb h1 2 ?_) | refine a6 (db h1 2 ?_) | refine b7 (cp b1 ?_) | refine a6 (dp b1 ?_) | refine b7 (cp b2 ?_) | refine a6 (dp b2 ?_) | fail); simp -implicitDefEqProofs) | refine hK _ ?_ | refine hK _ _ (by rfl) ?_ | fail)
      refine ⟨(), (by trivial), ?_⟩; rw [hI]; exact i6 [0, 1, 2, 3, 4] (by simp -implicitDefEqProofs) (by simp -implicitDefEqProofs) (by decide) rfl (by simp)
    | true =>
      have hbo : bools = p4 := by rw [← hbo]; rfl
      subst hbo
      repeat' (first | refine d7 ?_ | refine b9 ?_ | refine a8 ?_ | refine b8 ?_ | refine f7 rfl ?_ | refine f6 rfl ?_ | ((first | refine d6 (fun K hK => ?_) | refine d8 f8 (fun K hK => ?_) | refine b7 (cb h0 2 ?_) | refine a6 (db h0 2 ?_) | refine b7 (cb h1 2 ?_) | refine a6 (db h1 2 ?_) | refine b7 (cp b1 ?_) | refine a6 (dp b1 ?_) | refine b7 (cp b2 ?_) | refine a6 (dp b2 ?_) | fail); simp -implicitDefEqProofs) | refine hK _ ?_ | refine hK _ _ (by rfl) ?_ | fail)
      refine ⟨(), (by trivial), ?_⟩; rw [hI]; exact i6 [0, 1, 2, 3, 4] (by simp -implicitDefEqProofs) (by simp -implicitDefEqProofs) (by decide) rfl (by simp)
  clear b1 b2 hbo h0 h1
  cases ints <;> cases bools
  all_goals (
    repeat' (first | refine d7 ?_ | refine b9 ?_ | refine a8 ?_ | refine b8 ?_ | refine f7 rfl ?_ | refine f6 rfl ?_ | ((first | refine d6 (fun K hK => ?_) | refine d8 f8 (fun K hK => ?_) | fail); simp -implicitDefEqProofs [*]) | refine hK _ ?_ | refine hK _ _ (by rfl) ?_ | (refine d9 rfl (fun hb => ?_) (fun hb => ?_) <;> ((try simp only [decide_eq_true_eq, decide_eq_false_iff_not, Bool.not_eq_true', Bool.not_eq_false', Bool.not_eq_eq_eq_not, Bool.not_true, Bool.not_false, beq_iff_eq, beq_true, beq_false, bne_iff_ne, ne_eq, Decidable.not_not, Bool.and_eq_true, Bool.or_eq_true, Bool.and_eq_false_iff, Bool.or_eq_false_iff] at hb) <;> repeat' (refine Or.elim hb (fun hb => ?_) (fun hb => ?_)))) | ((first | refine b29 (fun hb => ?_) (fun hb => ?_) | refine a9t (fun hb => ?_) (fun hb => ?_) | fail) <;> ((try simp only [decide_eq_true_eq, decide_eq_false_iff_not, Bool.not_eq_true', Bool.not_eq_false', Bool.not_eq_eq_eq_not, Bool.not_true, Bool.not_false, beq_iff_eq, beq_true, beq_false, bne_iff_ne, ne_eq, Decidable.not_not, Bool.and_eq_true, Bool.or_eq_true, Bool.and_eq_false_iff, Bool.or_eq_false_iff] at hb) <;> repeat' (refine Or.elim hb (fun hb => ?_) (fun hb => ?_))) <;> simp -implicitDefEqProofs [*]) | fail)
    all_goals (first | contradiction | (refine e7 (j6 [0, 1, 2] ?_); simp -implicitDefEqProofs [l4, g7, g9, *] <;> try rfl)))
theorem c2d (m : VT) (L E : List VT) (x : Lab) (l : List VT) (a : VT) : Row Tryz.prog 144 [.v (.c (.ptr 0 0)), vT (.mk x l), fnK 2] [bxV m L 0 0, arJ E, bxK [a]] (vTO a (oneB x.n a)) [some (bxV m L 0 0), some (arJ E), some (bxK [a])] := by
  obtain ⟨ax, al⟩ := a
  have h0 := y4 [.mk ax al] 0 ax al rfl
  have i1 := a23 ax al
  have b1 := a3r ax al
  rw [show ((0 : Nat) : Int) = 0 from rfl] at h0
  unfold oneB
  obtain ⟨p1, q1⟩ : ∃ p, isT (.mk ax al) 1 = p := ⟨_, rfl⟩
  obtain ⟨p3, q3⟩ : ∃ p, isT (.mk ax al) 2 = p := ⟨_, rfl⟩
  rw [q1] at i1 ⊢
  rw [q3] at b1 ⊢
  clear q1 q3
  obtain ⟨mx, ml⟩ := m
  by_cases n1 : x.n = 1
  · cases p1 with
    | true =>
      refine e8 Tryz.func144 rfl rfl (Nat.le_of_ble_eq_true rfl) ?_
      repeat' (first | refine d7 ?_ | refine b9 ?_ | refine a8 ?_ | refine b8 ?_ | refine f7 rfl ?_ | refine f6 rfl ?_ | ((first | refine d6 (fun K hK => ?_) | refine d8 f8 (fun K hK => ?_) | refine b7 (cb h0 2 ?_) | refine a6 (db h0 2 ?_) | refine b7 (cp i1 ?_) | refine a6 (dp i1 ?_) | fail); simp -implicitDefEqProofs [n1]) | refine hK _ ?_ | refine hK _ _ (by rfl) ?_ | fail)
      refine e7 (j6 [0, 1, 2] ?_); simp -implicitDefEqProofs [l4, g7, g9, n1] <;> try rfl
    | false =>
      refine e8 Tryz.func144 rfl rfl (Nat.le_of_ble_eq_true rfl) ?_
      repeat' (first | refine d7 ?_ | refine b9 ?_ | refine a8 ?_ | refine b8 ?_ | refine f7 rfl ?_ | refine f6 rfl ?_ | ((first | refine d6 (fun K hK => ?_) | refine d8 f8 (fun K hK => ?_) | refine b7 (cb h0 2 ?_) | refine a6 (db h0 2 ?_) | refine b7 (cp i1 ?_) | refine a6 (dp i1 ?_) | fail); simp -implicitDefEqProofs [n1]) | refine hK _ ?_ | refine hK _ _ (by rfl) ?_ | fail)
      refine e7 (j6 [0, 1, 2] ?_); simp -implicitDefEqProofs [l4, g7, g9, n1] <;> try rfl
  by_cases n2 : x.n = 2
  · cases p3 with
    | true =>
      refine e8 Tryz.func144 rfl rfl (Nat.le_of_ble_eq_true rfl) ?_
      repeat' (first | refine d7 ?_ | refine b9 ?_ | refine a8 ?_ | refine b8 ?_ | refine f7 rfl ?_ | refine f6 rfl ?_ | ((first | refine d6 (fun K hK => ?_) | refine d8 f8 (fun K hK => ?_) | refine b7 (cb h0 2 ?_) | refine a6 (db h0 2 ?_) | refine b7 (cp b1 ?_) | refine a6 (dp b1 ?_) | fail); simp -implicitDefEqProofs [n1, n2]) | refine hK _ ?_ | refine hK _ _ (by rfl) ?_ | fail)
      refine e7 (j6 [0, 1, 2] ?_); simp -implicitDefEqProofs [l4, g7, g9, n1, n2] <;> try rfl
    | false =>
      refine e8 Tryz.func144 rfl rfl (Nat.le_of_ble_eq_true rfl) ?_
      repeat' (first | refine d7 ?_ | refine b9 ?_ | refine a8 ?_ | refine b8 ?_ | refine f7 rfl ?_ | refine f6 rfl ?_ | ((first | refine d6 (fun K hK => ?_) | refine d8 f8 (fun K hK => ?_) | refine b7 (cb h0 2 ?_) | refine a6 (db h0 2 ?_) | refine b7 (cp b1 ?_) | refine a6 (dp b1 ?_) | fail); simp -implicitDefEqProofs [n1, n2]) | refine hK _ ?_ | refine hK _ _ (by rfl) ?_ | fail)
      refine e7 (j6 [0, 1, 2] ?_); simp -implicitDefEqProofs [l4, g7, g9, n1, n2] <;> try rfl
  · refine e8 Tryz.func144 rfl rfl (Nat.le_of_ble_eq_true rfl) ?_
    repeat' (first | refine d7 ?_ | refine b9 ?_ | refine a8 ?_ | refine b8 ?_ | refine f7 rfl ?_ | refine f6 rfl ?_ | ((first | refine d6 (fun K hK => ?_) | refine d8 f8 (fun K hK => ?_) | refine b7 (cb h0 2 ?_) | refine a6 (db h0 2 ?_) | fail); simp -implicitDefEqProofs [n1, n2]) | refine hK _ ?_ | refine hK _ _ (by rfl) ?_ | fail)
    refine e7 (j6 [0, 1, 2] ?_); simp -implicitDefEqProofs [l4, g7, g9, n1, n2] <;> try rfl
theorem b5o (m : VT) (L E : List VT) (a b : VT) : Row Tryz.prog 145 [.v (.c (.ptr 0 0)), fnK 2] [bxV m L 0 0, arJ E, bxK [a, b]] (vTO ((a58 a b).getD z0T) (a58 a b).isSome) [some (bxV m L 0 0), some (arJ E), some (bxK [a, b])] := by
  obtain ⟨ax, al⟩ := a
  obtain ⟨bx, bl⟩ := b
  have h0 := y4 [.mk ax al, .mk bx bl] 0 ax al rfl
  have h1 := y4 [.mk ax al, .mk bx bl] 1 bx bl rfl
  have i2 := a23 bx bl
  rw [show ((0 : Nat) : Int) = 0 from rfl] at h0
  rw [show ((1 : Nat) : Int) = 1 from rfl] at h1
  obtain ⟨mx, ml⟩ := m
  by_cases a3 : ax.k = 3; rotate_left
  · rw [show a58 (.mk ax al) (.mk bx bl) = none by unfold a58; exact if_neg (fun h => a3 h.1)]
    refine e8 Tryz.func145 rfl rfl (Nat.le_of_ble_eq_true rfl) ?_
    repeat' (first | refine d7 ?_ | refine b9 ?_ | refine a8 ?_ | refine b8 ?_ | refine f7 rfl ?_ | refine f6 rfl ?_ | ((first | refine d6 (fun K hK => ?_) | refine d8 f8 (fun K hK => ?_) | refine b7 (cb h0 2 ?_) | refine a6 (db h0 2 ?_) | fail); simp -implicitDefEqProofs [a3]) | refine hK _ ?_ | refine hK _ _ (by rfl) ?_ | fail)
    refine e7 (j6 [0, 1, 2] ?_); simp -implicitDefEqProofs [l4, g7, g9] <;> try rfl
  by_cases a1 : al.length = 1; rotate_left
  · have a1' : ¬ (al.length : Int) = 1 := by omega
    rw [show a58 (.mk ax al) (.mk bx bl) = none by unfold a58; exact if_neg (fun h => a1 h.2.1)]
    refine e8 Tryz.func145 rfl rfl (Nat.le_of_ble_eq_true rfl) ?_
    repeat' (first | refine d7 ?_ | refine b9 ?_ | refine a8 ?_ | refine b8 ?_ | refine f7 rfl ?_ | refine f6 rfl ?_ | ((first | refine d6 (fun K hK => ?_) | refine d8 f8 (fun K hK => ?_) | refine b7 (cb h0 2 ?_) | refine a6 (db h0 2 ?_) | fail); simp -implicitDefEqProofs [a3, a1, a1']) | refine hK _ ?_ | refine hK _ _ (by rfl) ?_ | fail)
    refine e7 (j6 [0, 1, 2] ?_); simp -implicitDefEqProofs [l4, g7, g9] <;> try rfl
  obtain ⟨⟨ux, ul⟩, rfl⟩ := s9 a1
  cases hq : isT (.mk bx bl) 1 with
  | false =>
    rw [hq] at i2
    rw [show a58 (.mk ax [.mk ux ul]) (.mk bx bl) = none by unfold a58; exact if_neg (fun h => by rw [hq] at h; cases h.2.2)]
    refine e8 Tryz.func145 rfl rfl (Nat.le_of_ble_eq_true rfl) ?_
    repeat' (first | refine d7 ?_ | refine b9 ?_ | refine a8 ?_ | refine b8 ?_ | refine f7 rfl ?_ | refine f6 rfl ?_ | ((first | refine d6 (fun K hK => ?_) | refine d8 f8 (fun K hK => ?_) | refine b7 (cb h0 2 ?_) | refine a6 (db h0 2 ?_) | refine b7 (cb h1 2 ?_) | refine a6 (db h1 2 ?_) | refine b7 (cp i2 ?_) | refine a6 (dp i2 ?_) | fail); simp -implicitDefEqProofs [a3]) | refine hK _ ?_ | refine hK _ _ (by rfl) ?_ | fail)
    refine e7 (j6 [0, 1, 2] ?_); simp -implicitDefEqProofs [l4, g7, g9] <;> try rfl
  | true =>
    rw [hq] at i2
    rw [show a58 (.mk ax [.mk ux ul]) (.mk bx bl) = some (.mk ux ul) by unfold a58; rw [if_pos ⟨a3, a1, hq⟩]; rfl]
    refine e8 Tryz.func145 rfl rfl (Nat.le_of_ble_eq_true rfl) ?_
    repeat' (first | refine d7 ?_ | refine b9 ?_ | refine a8 ?_ | refine b8 ?_ | refine f7 rfl ?_ | refine f6 rfl ?_ | ((first | refine d6 (fun K hK => ?_) | refine d8 f8 (fun K hK => ?_) | refine b7 (cb h0 2 ?_) | refine a6 (db h0 2 ?_) | refine b7 (cb h1 2 ?_) | refine a6 (db h1 2 ?_) | refine b7 (cp i2 ?_) | refine a6 (dp i2 ?_) | fail); simp -implicitDefEqProofs [a3]) | refine hK _ ?_ | refine hK _ _ (by rfl) ?_ | fail)
    refine e7 (j6 [0, 1, 2] ?_); simp -implicitDefEqProofs [l4, g7, g9] <;> try rfl
theorem b0n (m : VT) (L E : List VT) (D A : List VT) (hD : ∀ d ∈ D, d.size ≤ 1000000) (hA : ∀ a ∈ A, a.size ≤ 1000000) (hl : D.length ≤ 1000000) (hl2 : A.length ≤ 1000000) : Row Tryz.prog 148 [.v (.c (.ptr 0 0)), vLs D, vI (A.length : Nat), fnK 2] [bxV m L 0 0, arJ E, bxK A] (vB (a9l D A)) [some (bxV m L 0 0), some (arJ E), some (bxK A)] := by
  obtain ⟨mx, ml⟩ := m
  by_cases he : D.length = A.length; rotate_left
  · rw [b2y he]
    have he' : ¬ (D.length : Int) = (A.length : Int) := by omega
    refine e8 Tryz.func148 rfl rfl (Nat.le_of_ble_eq_true rfl) ?_
    repeat (first | refine d7 ?_ | refine b9 ?_ | refine a8 ?_ | refine b8 ?_ | refine f7 rfl ?_ | refine f6 rfl ?_ | ((first | refine d6 (fun K hK => ?_) | refine d8 f8 (fun K hK => ?_) | fail); simp -implicitDefEqProofs [he, he']; first | refine hK _ ?_ | refine hK _ _ (by rfl) ?_ | fail) | fail)
    refine e7 (j6 [0, 1, 2] ?_); simp -implicitDefEqProofs [l4, g7, g9] <;> try rfl
  obtain ⟨R, hR⟩ : ∃ R, a9l D A = R := ⟨_, rfl⟩
  rw [hR]
  refine e8 Tryz.func148 rfl rfl (Nat.le_of_ble_eq_true rfl) ?_
  repeat (first | refine d7 ?_ | refine b9 ?_ | refine a8 ?_ | refine b8 ?_ | refine f7 rfl ?_ | refine f6 rfl ?_ | ((first | refine d6 (fun K hK => ?_) | refine d8 f8 (fun K hK => ?_) | fail); simp -implicitDefEqProofs [he]; first | refine hK _ ?_ | refine hK _ _ (by rfl) ?_ | fail) | fail)
  refine v7 (ι := Nat) (fun k => a0w [(0, .v (.c (.ptr 0 0))), (3, fnK 2), (15, vLs D), (16, vI (A.length : Nat)), (17, vI (k : Nat))] [some (bxV (.mk mx ml) L 0 0), some (arJ E), some (bxK A)]) (fun k => k ≤ A.length ∧ a9l (D.drop k) (A.drop k) = R) (fun k => A.length - k) 0 ⟨Nat.zero_le _, by simpa using hR⟩ (i6 [0, 1, 2] (by simp -implicitDefEqProofs [he]) (by simp -implicitDefEqProofs [he]) (by decide) rfl (by simp)) (fun Z hI k hk => ?_)
  obtain ⟨hk, hz⟩ := hk
  by_cases hkl : k < A.length; rotate_left
  · have : k = A.length := by omega
    subst this
    rw [List.drop_of_length_le (by omega), List.drop_of_length_le (Nat.le_refl _)] at hz
    have hz : true = R := hz
    subst hz
    repeat (first | refine d7 ?_ | refine b9 ?_ | refine a8 ?_ | refine b8 ?_ | refine f7 rfl ?_ | refine f6 rfl ?_ | ((first | refine d6 (fun K hK => ?_) | refine d8 f8 (fun K hK => ?_) | fail); simp -implicitDefEqProofs; first | refine hK _ ?_ | refine hK _ _ (by rfl) ?_ | fail) | fail)
    refine e7 (j6 [0, 1, 2] ?_); simp -implicitDefEqProofs [l4, g7, g9] <;> try rfl
  have hkD : k < D.length := by omega
  obtain ⟨⟨ax, al⟩, ha⟩ : ∃ a, A[k]? = some a := ⟨_, List.getElem?_eq_getElem hkl⟩
  have ha' := (List.getElem?_eq_some_iff.1 ha).2
  obtain ⟨⟨px, pl⟩, hp⟩ : ∃ a, D[k]? = some a := ⟨_, List.getElem?_eq_getElem hkD⟩
  have hp' := (List.getElem?_eq_some_iff.1 hp).2
  have w2 : IntKind.i64.wrap ((k : Nat) + 1 : Int) = (k : Nat) + 1 := v6 _ (by omega) (by omega)
  have hdA : A.drop k = .mk ax al :: A.drop (k + 1) := by rw [List.drop_eq_getElem_cons hkl, ha']
  have hdD : D.drop k = .mk px pl :: D.drop (k + 1) := by rw [List.drop_eq_getElem_cons hkD, hp']
  rw [hdA, hdD] at hz
  unfold a9l at hz
  rw [Tr.kids] at hz
  by_cases h0 : pl.length = 0
  · rw [decide_eq_true h0] at hz
    have hz : false = R := hz
    subst hz
    obtain rfl := List.eq_nil_of_length_eq_zero h0
    repeat (first | refine d7 ?_ | refine b9 ?_ | refine a8 ?_ | refine b8 ?_ | refine f7 rfl ?_ | refine f6 rfl ?_ | ((first | refine d6 (fun K hK => ?_) | refine d8 f8 (fun K hK => ?_) | fail); simp -implicitDefEqProofs [hkl, hkD, ha, ha', hp, hp']; first | refine hK _ ?_ | refine hK _ _ (by rfl) ?_ | fail) | fail)
    refine e7 (j6 [0, 1, 2] ?_); simp -implicitDefEqProofs [l4, g7, g9] <;> try rfl
  cases pl with
  | nil => exact absurd rfl h0
  | cons u pr =>
  obtain ⟨ux, ul⟩ := u
  have hps := hD _ (List.mem_of_getElem? hp)
  have hus := Tr.size_at (x := px) (l := .mk ux ul :: pr) (i := 0) rfl
  have hs := a1u (.mk ux ul) (by omega) (.mk ax al) (hA _ (List.mem_of_getElem? ha))
  have hkp := y4 A k ax al ha
  rw [show (Tr.mk ux ul :: pr).getD 0 z0T = .mk ux ul from rfl, decide_eq_false h0] at hz
  have hpn : ¬ ((pr.length : Int) + 1 = 0) := by omega
  obtain ⟨sm, hsm⟩ : ∃ b, same (.mk ux ul) (.mk ax al) = b := ⟨_, rfl⟩
  rw [hsm] at hs hz
  clear hsm hdA hdD
  cases sm with
  | false =>
    have hz : false = R := hz
    subst hz
    repeat' (first | refine d7 ?_ | refine b9 ?_ | refine a8 ?_ | refine b8 ?_ | refine f7 rfl ?_ | refine f6 rfl ?_ | ((first | refine d6 (fun K hK => ?_) | refine d8 f8 (fun K hK => ?_) | refine b7 (cb hkp 2 ?_) | refine a6 (db hkp 2 ?_) | refine b7 (cp hs ?_) | refine a6 (dp hs ?_) | fail); simp -implicitDefEqProofs [hkl, hkD, ha, ha', hp, hp', hpn]) | refine hK _ ?_ | refine hK _ _ (by rfl) ?_ | fail)
    refine e7 (j6 [0, 1, 2] ?_); simp -implicitDefEqProofs [l4, g7, g9] <;> try rfl
  | true =>
    have hz : a9l (D.drop (k + 1)) (A.drop (k + 1)) = R := by simpa using hz
    repeat' (first | refine d7 ?_ | refine b9 ?_ | refine a8 ?_ | refine b8 ?_ | refine f7 rfl ?_ | refine f6 rfl ?_ | ((first | refine d6 (fun K hK => ?_) | refine d8 f8 (fun K hK => ?_) | refine b7 (cb hkp 2 ?_) | refine a6 (db hkp 2 ?_) | refine b7 (cp hs ?_) | refine a6 (dp hs ?_) | fail); simp -implicitDefEqProofs [hkl, hkD, ha, ha', hp, hp', hpn, w2]) | refine hK _ ?_ | refine hK _ _ (by rfl) ?_ | fail)
    refine ⟨k + 1, ⟨by omega, hz⟩, (by dsimp only; omega), ?_⟩
    rw [hI]; exact i6 [0, 1, 2] (by simp -implicitDefEqProofs) (by simp -implicitDefEqProofs) (by decide) rfl (by simp)
end Go.Proofs.YthmdllhhmhbhbaaGreatDoor.am
end
section
namespace Go.Proofs.YthmdllhhmhbhbaaGreatDoor.am
open Go.ChangeShapes Go.WideShapes Go.ChangeAt Go.RowKit
set_option linter.unusedVariables false
set_option linter.unusedSimpArgs false
variable {P : Program} {N nb : Nat} {st : St} {Q : Exit → St → Prop}
end Go.Proofs.YthmdllhhmhbhbaaGreatDoor.am
end
section
namespace Go.Proofs.YthmdllhhmhbhbaaGreatDoor.am
open Go.ChangeShapes Go.WideShapes Go.ChangeAt Go.RowKit
set_option linter.unusedVariables false
set_option linter.unusedSimpArgs false
variable {P : Program} {N nb : Nat} {st : St} {Q : Exit → St → Prop}
def St.mvw (st : St) (id bx j : Nat) (cells : List AC) (e : TypeId) (es n : Nat) (l : List (List PV)) : St := ⟨st.tm, (bx, some (.box (cells.set j (.vw st.nx es 0 n)))) :: (st.nx, some (.arr e es l)) :: (id, none) :: st.hp, st.nx + 1⟩
theorem b12 (id bx j : Nat) (cells : List AC) (e : TypeId) (es n : Nat) (l : List (List PV)) (hid : hlk st.hp id = some (.arr e es l)) (hbx : hlk st.hp bx = some (.box cells)) (hj : cells[j]? = some (.arr id es n) ∨ cells[j]? = some (.vw id es 0 n)) (hl1 : id < st.nx) (hl2 : bx < st.nx) : Cov N nb st (st.mvw id bx j cells e es n l) := fun X hX a w hr => by
  obtain ⟨h1, h2, γ, S, hm, ha⟩ := hr
  obtain ⟨v, xs, g1, g2, g3, g4, g5⟩ := hm.obj _ _ hid
  obtain ⟨m, hG⟩ := hm.app (nm := st.nx) (Nat.le_refl _) g1 rfl (w' := w) rfl rfl rfl rfl (fun _ _ => rfl) (fun _ _ _ => rfl) (fun _ => False) (.arr e es l)
    ⟨v, xs, f9 _ _ _, g2, fun i e j p k1 k2 => by
      obtain ⟨u, k3, k4⟩ := g3 i e j p k1 k2
      exact ⟨u, k3, k4.mono (fun _ _ h => .inl h) (fun _ _ _ => rfl)⟩, g4, fun b hb o hs => g5 b hb o (hs.elim (fun h => h) (fun h => h.2.elim))⟩
  refine ⟨h1, h2, upd (upd γ id .dead) st.nx (.val v), (fun b k => S b k ∨ (v.ownBlock = some b ∧ False)), ?_, fun s => (ha s).mono hG (fun _ _ h => Or.inl h) (fun _ _ _ => rfl)⟩
  show Mem X (hlk ((bx, some (.box (cells.set j (.vw st.nx es 0 n)))) :: (st.nx, some (.arr e es l)) :: (id, none) :: st.hp)) _ _ _ _
  rw [a0a, a0a, a0a]
  have hne : bx ≠ st.nx := by omega
  have hbi : bx ≠ id := fun e => by rw [e, hid] at hbx; cases hbx
  have hbx' : upd (upd (hlk st.hp) id none) st.nx (some (.arr e es l)) bx = some (.box cells) := by rw [j4 _ _ hne, j4 _ _ hbi]; exact hbx
  obtain ⟨b0, cs0, t0, q1, q2, q3, q4⟩ := hm.obj _ _ hbx
  refine { m with un := fun x hx => m.un x ⟨by have : st.nx + 1 ≤ x := hx
                                               show st.nx ≤ x
                                               omega, by have : st.nx + 1 ≤ x := hx
                                                         omega⟩, off := fun x hx => ?_, obj := fun x o hx => ?_ }
  · by_cases hxi : x = bx
    · subst hxi; rw [f9] at hx; cases hx
    · rw [j4 _ _ hxi] at hx; exact m.off x hx
  · by_cases hxi : x = bx
    · subst hxi
      rw [f9] at hx; cases hx
      obtain ⟨b, cs, t, k1, k2, k3, k4⟩ := m.obj x _ hbx'
      have hcs : cs = cs0 := by
        have : (upd (upd γ id .dead) st.nx (.val v)) x = γ x := by rw [j4 _ _ hne, j4 _ _ hbi]
        rw [this, q1] at k1
        cases k1
        rw [q2] at k2
        cases k2
        rfl
      refine ⟨b, cs, t, k1, k2, ⟨by rw [List.length_set]; exact k3.1, fun i ac hi => ?_⟩, k4⟩
      rw [List.getElem?_set] at hi
      split at hi
      · rename_i hij
        split at hi
        · cases hi
          subst hij
          rcases hj with hj | hj
          · obtain ⟨u, r1, r2⟩ := q3.2 j _ hj
            obtain ⟨⟨a', c', r3⟩, r4⟩ := r2
            have hu : u = v := by
              rcases r4 with r4 | r4
              · rw [g1] at r4; cases r4
              · rw [g1] at r4; cases r4; rfl
            subst hu
            subst r3
            obtain ⟨o1, o2⟩ := b1y g2 rfl
            refine ⟨_, by rw [hcs]; exact r1, a', n, c', .inr (f9 _ _ _), a', by omega, by omega, fun _ => ?_, rfl⟩
            rcases g2.2 with ⟨p1, _⟩ | ⟨g, cap, cur, p1, _⟩
            · injection p1 with p1; subst p1; rfl
            · injection p1 with p1; subst p1; simp [o7]
          · obtain ⟨u, r1, a', m', c', r4, a'', r5⟩ := q3.2 j _ hj
            have hu : .slice a' m' c' = v := by
              rcases r4 with r4 | r4
              · rw [g1] at r4; cases r4
              · rw [g1] at r4; cases r4; rfl
            exact ⟨u, by rw [hcs]; exact r1, a', m', c', .inr (by rw [hu]; exact f9 _ _ _), a'', r5⟩
        · cases hi
      · exact k3.2 i ac hi
    · rw [j4 _ _ hxi] at hx; exact m.obj x o hx
theorem l9 {c : Code} (id bx j : Nat) (cells : List AC) (e : TypeId) (es n : Nat) (l : List (List PV)) (hid : hlk st.hp id = some (.arr e es l)) (hbx : hlk st.hp bx = some (.box cells)) (hj : cells[j]? = some (.arr id es n) ∨ cells[j]? = some (.vw id es 0 n)) (hl1 : id < st.nx) (hl2 : bx < st.nx) (h : AW P N nb c (st.mvw id bx j cells e es n l) Q) : AW P N nb c st Q :=
  a4t (b12 id bx j cells e es n l hid hbx hj hl1 hl2) h
theorem b6z (bx j : Nat) {id : Nat} {cells : List AC} {e : TypeId} {es n : Nat} {l : List (List PV)} {st' : St} (hbx : hlk st.hp bx = some (.box cells)) (hj : cells[j]? = some (.arr id es n)) (hid : hlk st.hp id = some (.arr e es l)) (hl1 : id < st.nx) (hl2 : bx < st.nx) (h : Cov N nb (st.mvw id bx j cells e es n l) st') : Cov N nb st st' := fun X hX a w hr =>
  h X hX a w (b12 id bx j cells e es n l hid hbx (.inl hj) hl1 hl2 X hX a w hr)
end Go.Proofs.YthmdllhhmhbhbaaGreatDoor.am
end
section
namespace Go.Proofs.YthmdllhhmhbhbaaGreatDoor.am
open Go.ChangeShapes Go.WideShapes Go.ChangeAt Go.RowKit
open vt
set_option linter.unusedVariables false
set_option linter.unusedSimpArgs false
theorem td_judge : td Tryz.prog 42 = some ⟨true, 15, 184, [.lit (.int .i64 0), .lit (.int .i64 0), .lit (.string ⟨#[]⟩), .nilS, .lit (.int .i64 0), .lit (.int .i64 0), .lit (.int .i64 0), .lit (.int .i64 0), .lit (.string ⟨#[]⟩), .nilS, .lit (.int .i64 0), .lit (.int .i64 0), .nilS, .lit (.int .i64 0), .lit (.int .i64 0)], [(0, 6, true), (6, 6, true), (12, 1, false), (13, 1, false), (14, 1, false)], .struct⟩ := Eq.trans (by kernel_rfl) (Eq.refl _)
theorem td_pjudge : td Tryz.prog 40 = some ⟨false, 1, 8, [.lit (.pointer none)], [], (.pointer 42)⟩ := Eq.trans (by kernel_rfl) (Eq.refl _)
theorem td_errno16 : td Tryz.prog 27 = some ⟨false, 1, 8, [.lit (.int .i64 0)], [], (.int .i64)⟩ := Eq.trans (by kernel_rfl) (Eq.refl _)
attribute [simp] td_judge td_pjudge td_errno16
noncomputable abbrev bxJ (i : Nat) (m ret : VT) (n : Nat) (a e : Int) : AO := .box (ta m ++ ta ret ++ [.vw i 6 0 n, .pv (I a), .pv (I e)])
def jid : Option AO → Option Nat
  | some (AO.box cs) => match (cs[12]? : Option AC) with
    | some (AC.vw i _ _ _) => some i
    | _ => none
  | _ => none
section
variable {P : Program} {N nb : Nat} {st : St} {Q : Exit → St → Prop}
theorem cgJ {f : Nat} {dst : Option Nat} {first caps : List Cap} {args cargs : List AV} {m ret : VT} {n : Nat} {a e : Int} {o1 : AO} {ch' : List (Option AO)} {res : AV} {K : St → Prop} (hrow : Row P f cargs [bxJ 1 m ret n a e, o1] res ch') (b : Nat) {i : Nat} (hb : jid (hlk st.hp b) = some i) (hk : K ((st.wr (wrs (a0x [b, i] 2 st.nx) 0 ch') 8).put dst (res.ren (a0x [b, i] 2 st.nx)))) (hfit : a0p 2 (fun k => [b, i].getD k 0) cargs (first.map a2a ++ args ++ caps.map a2a) := by first | (simp [*]; done) | fail) (ho : a3m (hlk st.hp) 2 (fun k => [b, i].getD k 0) ([bxJ 1 m ret n a e, o1].map some) [b, i] := by first | (simp [*]; done) | fail) (hnd : [b, i].Nodup := by first | decide | (simp; done) | fail) (hl : ch'.length ≤ 10 := by first | decide | (simp; done) | fail) (hl' : 2 ≤ ch'.length := by first | decide | (simp; done) | fail) (hd : dok N dst = true := by rfl) :
    a4q P N dst (.v (.c (.fn (.func f) first caps))) args st K := cg hrow [b, i] hk hfit ho hnd hl hl' hd
theorem dgJ {f : Nat} {dst : Option Nat} {first caps : List Cap} {args cargs : List AV} {m ret : VT} {n : Nat} {a e : Int} {o1 : AO} {ch' : List (Option AO)} {res : AV} {K : List Nat → List Nat → St → Prop} (hrow : Row P f cargs [bxJ 1 m ret n a e, o1] res ch') (b : Nat) {i : Nat} (hb : jid (hlk st.hp b) = some i) (hk : K [b, i] ((wrs (a0x [b, i] 2 st.nx) 0 ch').map (·.1)) ((st.wr (wrs (a0x [b, i] 2 st.nx) 0 ch') 8).put dst (res.ren (a0x [b, i] 2 st.nx)))) (hfit : a0p 2 (fun k => [b, i].getD k 0) cargs (first.map a2a ++ args ++ caps.map a2a) := by first | (simp [*]; done) | fail) (ho : a3m (hlk st.hp) 2 (fun k => [b, i].getD k 0) ([bxJ 1 m ret n a e, o1].map some) [b, i] := by first | (simp [*]; done) | fail) (hnd : [b, i].Nodup := by first | decide | (simp; done) | fail) (hl : ch'.length ≤ 10 := by first | decide | (simp; done) | fail) (hl' : 2 ≤ ch'.length := by first | decide | (simp; done) | fail) (hd : dok N dst = true := by rfl) :
    a4p P N dst (.v (.c (.fn (.func f) first caps))) args st K := dg hrow [b, i] hk hfit ho hnd hl hl' hd
theorem m7 (X : List Nat) {rs : List ResultVar} {res : AV} {ch' : List (Option AO)} {i : Nat} (hb : jid (hlk st.hp 0) = some i) (h : l4 P rs res ch' (0 :: 1 :: i :: X) st) (hnd : (0 :: 1 :: i :: X).Nodup := by first | decide | (simp; done)) (ht : (0 :: 1 :: i :: X).take nb = List.range nb := by rfl) (hl : nb ≤ ch'.length := by first | decide | (simp; done)) : Fin P nb rs res ch' .ret st := j6 (0 :: 1 :: i :: X) h hnd ht hl
theorem a2f {tm : List (Nat × AV)} {os : List (Option AO)} {i : Nat} (X : List Nat) (hw : jid (hlk st.hp 0) = some i) (ht : covT st.tm os.length (fun k => (0 :: 1 :: i :: X).getD k 0) tm) (hc : a3m (hlk st.hp) os.length (fun k => (0 :: 1 :: i :: X).getD k 0) os (0 :: 1 :: i :: X)) (hnd : (0 :: 1 :: i :: X).Nodup) (hb : (0 :: 1 :: i :: X).take nb = List.range nb) (hnb : nb ≤ os.length) : Cov N nb st (a0w tm os) := i6 (0 :: 1 :: i :: X) ht hc hnd hb hnb
theorem c34 {c : Code} {Q2 : Exit → St → Prop} (hq : ∀ e st1, Q2 e st1 → ∃ st2, Cov N nb st1 st2 ∧ Q e st2) (h : AW P N nb c st Q2) : AW P N nb c st Q := fun X hX a w hr Q' hQ => h X hX a w hr Q' (fun e st1 a' w' h1 h2 => by
  obtain ⟨st2, c, q⟩ := hq e st1 h1
  exact hQ e st2 a' w' q (c X hX a' w' h2))
theorem aw_as {c : Code} (h : AW P N nb c st (fun e s => ∃ s2, Cov N nb s s2 ∧ Q e s2)) : AW P N nb c st Q := c34 (fun _ _ h => h) h
end
theorem a13 (L : List VT) : OkV L L := ⟨List.take_length, Nat.le_refl _⟩
theorem n4 (m ret : VT) (n : Nat) (E : List VT) (a e : Int) (x : Lab) (l : List VT) (e' : Int) : Row Tryz.prog 18 [.v (.c (.ptr 0 0)), vT (.mk x l), vI e'] [bxJ 1 m ret n a e, arJ E] (.tup []) [some (bxJ 1 m ret n (if e = 0 then x.f else a) (if e = 0 then e' else e)), some (arJ E)] := by
  obtain ⟨mx, ml⟩ := m
  obtain ⟨rx, rl⟩ := ret
  by_cases h : e = 0
  · subst h
    refine e8 Tryz.func18 rfl rfl (Nat.le_of_ble_eq_true rfl) ?_
    repeat (first | refine d7 ?_ | refine b9 ?_ | refine a8 ?_ | refine b8 ?_ | refine f7 rfl ?_ | refine f6 rfl ?_ | ((first | refine d6 (fun K hK => ?_) | refine d8 f8 (fun K hK => ?_) | fail); simp -implicitDefEqProofs; first | refine hK _ ?_ | refine hK _ _ (by rfl) ?_ | fail) | fail)
    refine o8 (j6 [0, 1] ?_); simp -implicitDefEqProofs [l4, g7, g9] <;> try rfl
  · refine e8 Tryz.func18 rfl rfl (Nat.le_of_ble_eq_true rfl) ?_
    repeat (first | refine d7 ?_ | refine b9 ?_ | refine a8 ?_ | refine b8 ?_ | refine f7 rfl ?_ | refine f6 rfl ?_ | ((first | refine d6 (fun K hK => ?_) | refine d8 f8 (fun K hK => ?_) | fail); simp -implicitDefEqProofs [h]; first | refine hK _ ?_ | refine hK _ _ (by rfl) ?_ | fail) | fail)
    refine o8 (j6 [0, 1] ?_); simp -implicitDefEqProofs [l4, g7, g9, h] <;> try rfl
theorem a11 (m ret : VT) (L E : List VT) (hE : OkV L E) (hL : L.length ≤ 1000000) (a e : Int) (x : Lab) (l : List VT) : Row Tryz.prog 27 [.v (.c (.ptr 0 0)), vT (.mk x l)] [bxJ 1 m ret L.length a e, arJ E] (.tup []) [some (bxJ 2 m ret (L.length + 1) a e), none, some (arJ (L ++ [.mk x l]))] := by
  obtain ⟨mx, ml⟩ := m
  obtain ⟨rx, rl⟩ := ret
  have b1 : (L.length + 1) * 72 ≤ 140737488355328 := by omega
  have b2 : L.length + 1 ≤ 140737488355328 := by omega
  have z1 : zPV (Value.int .i64 0) = some (.lit (.int .i64 0)) := rfl
  have z2 : zPV (Value.string { data := #[] }) = some (.lit (.string { data := #[] })) := rfl
  have z3 : zPV (Value.slice none 0 0) = some .nilS := rfl
  have hEl := hE.2
  have hEt : (E.map tc).take L.length = L.map tc := by rw [← List.map_take, hE.1]
  have i1 : (L.length : Int) < (L.length : Nat) + 1 := by omega
  have i2 : L.length < L.length + 1 := by omega
  have sL : ∀ z c : List PV, (L.map tc ++ [z]).set L.length c = L.map tc ++ [c] := fun z c => by
    rw [List.set_append_right _ _ (by rw [List.length_map]; omega), List.length_map, Nat.sub_self]; rfl
  refine e8 Tryz.func27 rfl rfl (Nat.le_of_ble_eq_true rfl) ?_
  refine aw_as ?_
  repeat (first | refine d7 ?_ | refine b9 ?_ | refine a8 ?_ | refine b8 ?_ | refine f7 rfl ?_ | refine f6 rfl ?_ | ((first | refine d6 (fun K hK => ?_) | refine d8 f8 (fun K hK => ?_) | fail); simp -implicitDefEqProofs [b1, b2, z1, z2, z3, i1, i2, sL, hEl, hEt]; first | refine hK _ ?_ | refine hK _ _ (by rfl) ?_ | fail) | fail)
  refine ⟨_, b12 59 0 12 _ 24 6 (L.length + 1) _ rfl rfl (.inl rfl) (by dsimp only; omega) (by dsimp only; omega), ?_⟩
  simp [St.mvw]
  refine o8 (j6 [0, 1, 107] ?_); simp -implicitDefEqProofs [l4, g7, g9] <;> try rfl
end Go.Proofs.YthmdllhhmhbhbaaGreatDoor.am
end
