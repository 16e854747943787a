import Derived.Test.YthkfdheoakbfnaaGreatPkF7
import Derived.Test.YthkfdheoakbfnaaGreatPkF5
set_option maxRecDepth 100000
set_option maxHeartbeats 4000000
section
namespace Go.Proofs.YthkfdheoakbfnaaGreat.am
open Go.ChangeShapes Go.WideShapes Go.ChangeAt Go.RowKit
open vt
set_option linter.unusedVariables false
set_option linter.unusedSimpArgs false
noncomputable def b4l : List VT → List VT → Bool
  | [], [] => true
  | a :: A, p :: P => (decide (p.kids.length = 1) && same a (a2t (p.kids.getD 0 z0T))) && b4l A P
  | _, _ => false
theorem b2w : ∀ {A P : List VT}, A.length ≠ P.length → b4l A P = false
  | [], [], h => absurd rfl h
  | a :: A, p :: P, h => by unfold b4l; rw [b2w (fun e => h (by simp [e])), Bool.and_false]
  | [], _ :: _, _ => rfl
  | _ :: _, [], _ => rfl
theorem b3n (A P : List VT) (hA : ∀ a ∈ A, a.size ≤ 1000000) (hP : ∀ p ∈ P, p.size ≤ 1000000) (hl : P.length ≤ 1000000) (hl2 : A.length ≤ 1000000) : Row Tryz.prog 107 [vLs A, vLs P] [] (vB (b4l A P)) [] := by
  by_cases he : A.length = P.length; rotate_left
  · rw [b2w he]
    have he' : ¬ (A.length : Int) = (P.length : Int) := by omega
    refine f6 Tryz.func107 rfl rfl (Nat.le_of_ble_eq_true rfl) ?_
    repeat (first | refine d4 ?_ | refine b8 ?_ | refine b7 ?_ | refine b9 ?_ | refine f5 rfl ?_ | refine d8 rfl ?_ | ((first | refine c5 (fun K hK => ?_) | refine d5 f8 (fun K hK => ?_) | fail); simp -implicitDefEqProofs [he, he']; first | refine hK _ ?_ | refine hK _ _ (by rfl) ?_ | fail) | fail)
    refine d7 (d6 ?_); simp -implicitDefEqProofs [g8, f9, g7] <;> try rfl
  obtain ⟨R, hR⟩ : ∃ R, b4l A P = R := ⟨_, rfl⟩
  rw [hR]
  refine f6 Tryz.func107 rfl rfl (Nat.le_of_ble_eq_true rfl) ?_
  repeat (first | refine d4 ?_ | refine b8 ?_ | refine b7 ?_ | refine b9 ?_ | refine f5 rfl ?_ | refine d8 rfl ?_ | ((first | refine c5 (fun K hK => ?_) | refine d5 f8 (fun K hK => ?_) | fail); simp -implicitDefEqProofs [he]; first | refine hK _ ?_ | refine hK _ _ (by rfl) ?_ | fail) | fail)
  refine l7 (ι := Nat) (fun k => s7 [(0, vLs A), (1, vLs P), (5, vI (k : Nat))] []) (fun k => k ≤ P.length ∧ b4l (A.drop k) (P.drop k) = R) (fun k => P.length - k) 0 ⟨Nat.zero_le _, by simpa using hR⟩ (f7 [] (by simp -implicitDefEqProofs) (by simp -implicitDefEqProofs) (by decide) rfl (by simp)) (fun Z hI k hk => ?_)
  obtain ⟨hk, hz⟩ := hk
  by_cases hkl : k < P.length; rotate_left
  · have : k = P.length := by omega
    subst this
    rw [List.drop_of_length_le (by omega), List.drop_of_length_le (Nat.le_refl _)] at hz
    have hz : true = R := hz
    subst hz
    repeat (first | refine d4 ?_ | refine b8 ?_ | refine b7 ?_ | refine b9 ?_ | refine f5 rfl ?_ | refine d8 rfl ?_ | ((first | refine c5 (fun K hK => ?_) | refine d5 f8 (fun K hK => ?_) | fail); simp -implicitDefEqProofs; first | refine hK _ ?_ | refine hK _ _ (by rfl) ?_ | fail) | fail)
    refine d7 (d6 ?_); simp -implicitDefEqProofs [g8, f9, g7] <;> try rfl
  have hkA : k < A.length := by omega
  obtain ⟨⟨ax, al⟩, ha⟩ : ∃ a, A[k]? = some a := ⟨_, List.getElem?_eq_getElem hkA⟩
  have ha' := (List.getElem?_eq_some_iff.1 ha).2
  obtain ⟨⟨px, pl⟩, hp⟩ : ∃ a, P[k]? = some a := ⟨_, List.getElem?_eq_getElem hkl⟩
  have hp' := (List.getElem?_eq_some_iff.1 hp).2
  have w2 : IntKind.i64.wrap ((k : Nat) + 1 : Int) = (k : Nat) + 1 := k9 _ (by omega) (by omega)
  have hdA : A.drop k = .mk ax al :: A.drop (k + 1) := by rw [List.drop_eq_getElem_cons hkA, ha']
  have hdP : P.drop k = .mk px pl :: P.drop (k + 1) := by rw [List.drop_eq_getElem_cons hkl, hp']
  rw [hdA, hdP] at hz
  unfold b4l at hz
  rw [Tr.kids] at hz
  by_cases h1 : pl.length = 1; rotate_left
  · rw [decide_eq_false h1] at hz
    have hz : false = R := hz
    subst hz
    have h1' : ¬ (pl.length : Int) = 1 := by omega
    repeat (first | refine d4 ?_ | refine b8 ?_ | refine b7 ?_ | refine b9 ?_ | refine f5 rfl ?_ | refine d8 rfl ?_ | ((first | refine c5 (fun K hK => ?_) | refine d5 f8 (fun K hK => ?_) | fail); simp -implicitDefEqProofs [hkl, hkA, ha, ha', hp, hp', h1, h1']; first | refine hK _ ?_ | refine hK _ _ (by rfl) ?_ | fail) | fail)
    refine d7 (d6 ?_); simp -implicitDefEqProofs [g8, f9, g7] <;> try rfl
  obtain ⟨⟨ux, ul⟩, rfl⟩ := w6 h1
  have hps := hP _ (List.mem_of_getElem? hp)
  have hus := Tr.size_at (x := px) (l := [.mk ux ul]) (i := 0) rfl
  have hb := z8 (.mk ux ul) (by omega)
  have hs := a0a (.mk ax al) (hA _ (List.mem_of_getElem? ha)) (a2t (.mk ux ul)) (by rw [a36]; omega)
  rw [show [Tr.mk ux ul].getD 0 z0T = .mk ux ul from rfl, decide_eq_true h1, Bool.true_and] at hz
  obtain ⟨⟨bx, bl⟩, hbb⟩ : ∃ b, a2t (.mk ux ul) = b := ⟨_, rfl⟩
  rw [hbb] at hb hs hz
  obtain ⟨sm, hsm⟩ : ∃ b, same (.mk ax al) (.mk bx bl) = b := ⟨_, rfl⟩
  rw [hsm] at hs hz
  clear hbb hsm hdA hdP
  cases sm with
  | false =>
    have hz : false = R := hz
    subst hz
    repeat' (first | refine d4 ?_ | refine b8 ?_ | refine b7 ?_ | refine b9 ?_ | refine f5 rfl ?_ | refine d8 rfl ?_ | ((first | refine c5 (fun K hK => ?_) | refine d5 f8 (fun K hK => ?_) | refine a9 (cp hb ?_) | refine a8 (dp hb ?_) | refine a9 (cp hs ?_) | refine a8 (dp hs ?_) | fail); simp -implicitDefEqProofs [hkl, hkA, ha, ha', hp, hp', w2]) | refine hK _ ?_ | refine hK _ _ (by rfl) ?_ | fail)
    refine d7 (d6 ?_); simp -implicitDefEqProofs [g8, f9, g7] <;> try rfl
  | true =>
    rw [Bool.true_and] at hz
    repeat' (first | refine d4 ?_ | refine b8 ?_ | refine b7 ?_ | refine b9 ?_ | refine f5 rfl ?_ | refine d8 rfl ?_ | ((first | refine c5 (fun K hK => ?_) | refine d5 f8 (fun K hK => ?_) | refine a9 (cp hb ?_) | refine a8 (dp hb ?_) | refine a9 (cp hs ?_) | refine a8 (dp hs ?_) | fail); simp -implicitDefEqProofs [hkl, hkA, ha, ha', hp, hp', w2]) | refine hK _ ?_ | refine hK _ _ (by rfl) ?_ | fail)
    refine ⟨k + 1, ⟨by omega, hz⟩, (by dsimp only; omega), ?_⟩
    rw [hI]; exact f7 [] (by simp -implicitDefEqProofs) (by simp -implicitDefEqProofs) (by decide) rfl (by simp)
noncomputable def aloT (m : VT) (L : List VT) (x : Lab) (l : List VT) : VT :=
  if x.k = 7 then a2t (L.getD (L.length - 1 - x.n.toNat) z0T)
  else if x.k = 8 then a5c ((m.kids.getD x.n.toNat z0T).kids.getD 0 z0T)
  else if x.k = 9 then a2t ((m.kids.getD x.n.toNat z0T).kids.getD 0 z0T)
  else if x.k = 18 then tyT 1
  else a5c (.mk x l)
theorem b4x (m : VT) (hsz : m.size ≤ 1000000) (L : List VT) (hL : ∀ t ∈ L, t.size ≤ 1000000) (hLl : L.length ≤ 1000000) (x : Lab) (l : List VT) (h7 : x.k = 7 → 0 ≤ x.n ∧ x.n < L.length) (h89 : x.k = 8 ∨ x.k = 9 → 0 ≤ x.n ∧ ∃ dx e, m.kids[x.n.toNat]? = some (.mk dx [e])) : Row Tryz.prog 98 [vT m, vLs L, vT (.mk x l)] [] (vT (aloT m L x l)) [] := by
  obtain ⟨mx, ml⟩ := m
  have hml := Tr.len_size (x := mx) (l := ml)
  have hint := a7w
  have hlit := a3y (.mk x l)
  unfold aloT
  by_cases c7 : x.k = 7
  · rw [if_pos c7]
    obtain ⟨n0, n1⟩ := h7 c7
    obtain ⟨n, hn⟩ : ∃ n : Nat, x.n = n := ⟨x.n.toNat, by omega⟩
    rw [hn, Int.toNat_natCast]
    obtain ⟨j, hj⟩ : ∃ j, L.length - 1 - n = j := ⟨_, rfl⟩
    have hjl : j < L.length := by omega
    obtain ⟨⟨ax, al⟩, ha⟩ : ∃ a, L[j]? = some a := ⟨_, List.getElem?_eq_getElem hjl⟩
    have ha' := (List.getElem?_eq_some_iff.1 ha).2
    rw [hj, show L.getD j z0T = .mk ax al by simp [List.getD, ha]]
    have hb := z8 (.mk ax al) (hL _ (List.mem_of_getElem? ha))
    have w0 : IntKind.i64.wrap ((n : Nat) : Int) = (n : Nat) := k9 _ (by omega) (by omega)
    have w1 : IntKind.i64.wrap ((L.length : Nat) - 1 : Int) = (L.length : Nat) - 1 := k9 _ (by omega) (by omega)
    have w2 : IntKind.i64.wrap ((L.length : Nat) - 1 - (n : Nat) : Int) = (j : Nat) := by rw [k9 _ (by omega) (by omega)]; omega
    obtain ⟨⟨bx, bl⟩, hbb⟩ : ∃ b, a2t (.mk ax al) = b := ⟨_, rfl⟩
    rw [hbb] at hb ⊢
    clear hbb hint hlit
    refine f6 Tryz.func98 rfl rfl (Nat.le_of_ble_eq_true rfl) ?_
    repeat' (first | refine d4 ?_ | refine b8 ?_ | refine b7 ?_ | refine b9 ?_ | refine f5 rfl ?_ | refine d8 rfl ?_ | ((first | refine c5 (fun K hK => ?_) | refine d5 f8 (fun K hK => ?_) | refine a9 (cp hb ?_) | refine a8 (dp hb ?_) | fail); simp -implicitDefEqProofs [c7, hn, hjl, ha, ha', w0, w1, w2]) | refine hK _ ?_ | refine hK _ _ (by rfl) ?_ | fail)
    refine d7 (d6 ?_); simp -implicitDefEqProofs [g8, f9, g7] <;> try rfl
  rw [if_neg c7]
  by_cases c8 : x.k = 8
  · rw [if_pos c8]
    obtain ⟨n0, dx, ⟨ex, el⟩, hd⟩ := h89 (.inl c8)
    rw [Tr.kids] at hd
    obtain ⟨n, hn⟩ : ∃ n : Nat, x.n = n := ⟨x.n.toNat, by omega⟩
    rw [hn, Int.toNat_natCast] at hd ⊢
    have hnl := (List.getElem?_eq_some_iff.1 hd).1
    have hd' := (List.getElem?_eq_some_iff.1 hd).2
    rw [Tr.kids, show ml.getD n z0T = .mk dx [.mk ex el] by simp [List.getD, hd], Tr.kids]
    have hl := a3y (.mk ex el)
    rw [show [Tr.mk ex el].getD 0 z0T = .mk ex el from rfl]
    have w0 : IntKind.i64.wrap ((n : Nat) : Int) = (n : Nat) := k9 _ (by omega) (by omega)
    obtain ⟨⟨bx, bl⟩, hbb⟩ : ∃ b, a5c (.mk ex el) = b := ⟨_, rfl⟩
    rw [hbb] at hl ⊢
    clear hbb hint hlit
    refine f6 Tryz.func98 rfl rfl (Nat.le_of_ble_eq_true rfl) ?_
    repeat' (first | refine d4 ?_ | refine b8 ?_ | refine b7 ?_ | refine b9 ?_ | refine f5 rfl ?_ | refine d8 rfl ?_ | ((first | refine c5 (fun K hK => ?_) | refine d5 f8 (fun K hK => ?_) | refine a9 (cp hl ?_) | refine a8 (dp hl ?_) | fail); simp -implicitDefEqProofs [c8, hn, hnl, hd, hd', w0]) | refine hK _ ?_ | refine hK _ _ (by rfl) ?_ | fail)
    refine d7 (d6 ?_); simp -implicitDefEqProofs [g8, f9, g7] <;> try rfl
  rw [if_neg c8]
  by_cases c9 : x.k = 9
  · rw [if_pos c9]
    obtain ⟨n0, dx, ⟨ex, el⟩, hd⟩ := h89 (.inr c9)
    rw [Tr.kids] at hd
    obtain ⟨n, hn⟩ : ∃ n : Nat, x.n = n := ⟨x.n.toNat, by omega⟩
    rw [hn, Int.toNat_natCast] at hd ⊢
    have hnl := (List.getElem?_eq_some_iff.1 hd).1
    have hd' := (List.getElem?_eq_some_iff.1 hd).2
    have s1 := Tr.size_at (x := mx) hd
    have s2 := Tr.size_at (x := dx) (l := [.mk ex el]) (i := 0) rfl
    rw [Tr.kids, show ml.getD n z0T = .mk dx [.mk ex el] by simp [List.getD, hd], Tr.kids]
    have hl := z8 (.mk ex el) (by omega)
    rw [show [Tr.mk ex el].getD 0 z0T = .mk ex el from rfl]
    have w0 : IntKind.i64.wrap ((n : Nat) : Int) = (n : Nat) := k9 _ (by omega) (by omega)
    obtain ⟨⟨bx, bl⟩, hbb⟩ : ∃ b, a2t (.mk ex el) = b := ⟨_, rfl⟩
    rw [hbb] at hl ⊢
    clear hbb hint hlit
    refine f6 Tryz.func98 rfl rfl (Nat.le_of_ble_eq_true rfl) ?_
    repeat' (first | refine d4 ?_ | refine b8 ?_ | refine b7 ?_ | refine b9 ?_ | refine f5 rfl ?_ | refine d8 rfl ?_ | ((first | refine c5 (fun K hK => ?_) | refine d5 f8 (fun K hK => ?_) | refine a9 (cp hl ?_) | refine a8 (dp hl ?_) | fail); simp -implicitDefEqProofs [c9, hn, hnl, hd, hd', w0]) | refine hK _ ?_ | refine hK _ _ (by rfl) ?_ | fail)
    refine d7 (d6 ?_); simp -implicitDefEqProofs [g8, f9, g7] <;> try rfl
  rw [if_neg c9]
  by_cases c18 : x.k = 18
  · rw [if_pos c18]
    unfold tyT at hint ⊢
    clear hlit
    refine f6 Tryz.func98 rfl rfl (Nat.le_of_ble_eq_true rfl) ?_
    repeat' (first | refine d4 ?_ | refine b8 ?_ | refine b7 ?_ | refine b9 ?_ | refine f5 rfl ?_ | refine d8 rfl ?_ | ((first | refine c5 (fun K hK => ?_) | refine d5 f8 (fun K hK => ?_) | refine a9 (cp hint ?_) | refine a8 (dp hint ?_) | fail); simp -implicitDefEqProofs [c7, c8, c9, c18]) | refine hK _ ?_ | refine hK _ _ (by rfl) ?_ | fail)
    refine d7 (d6 ?_); simp -implicitDefEqProofs [g8, f9, g7] <;> try rfl
  rw [if_neg c18]
  obtain ⟨⟨bx, bl⟩, hbb⟩ : ∃ b, a5c (.mk x l) = b := ⟨_, rfl⟩
  rw [hbb] at hlit ⊢
  clear hbb hint
  refine f6 Tryz.func98 rfl rfl (Nat.le_of_ble_eq_true rfl) ?_
  repeat' (first | refine d4 ?_ | refine b8 ?_ | refine b7 ?_ | refine b9 ?_ | refine f5 rfl ?_ | refine d8 rfl ?_ | ((first | refine c5 (fun K hK => ?_) | refine d5 f8 (fun K hK => ?_) | refine a9 (cp hlit ?_) | refine a8 (dp hlit ?_) | fail); simp -implicitDefEqProofs [c7, c8, c9, c18]) | refine hK _ ?_ | refine hK _ _ (by rfl) ?_ | fail)
  refine d7 (d6 ?_); simp -implicitDefEqProofs [g8, f9, g7] <;> try rfl
def a0y (m : VT) (x : Lab) (n : Int) : Int :=
  if a3t m n 30 = true then
    (if x.s = ⟨#[]⟩ then (if (a1v m x.n).isSome = true ∧ x.n / 64 = n then x.n else -1)
     else match ((m.kids.getD n.toNat z0T).kids.take 64).findIdx? (fun q => decide (q.lab.s = x.s)) with
       | some i => n * 64 + i
       | none => -1)
  else -1
theorem c1j {m : VT} {n : Int} (h : (a1v m n).isSome = true) : 0 ≤ n := by
  unfold a1v at h
  split at h
  · cases h
  · omega
theorem c5v {p : List VT} {s : ByteArray} {k : Nat} {q : VT} (hq : p[k]? = some q) (hk : k < 64) (hno : ∀ i q', i < k → p[i]? = some q' → q'.lab.s ≠ s) (he : q.lab.s = s) : (p.take 64).findIdx? (fun q => decide (q.lab.s = s)) = some k := by
  obtain ⟨h1, h2⟩ := List.getElem?_eq_some_iff.1 hq
  refine List.findIdx?_eq_some_iff_getElem.2 ⟨by rw [List.length_take]; omega, ?_, fun i hi => ?_⟩
  · rw [List.getElem_take, h2]; simpa using he
  · rw [List.getElem_take]
    have := hno i (p[i]'(by omega)) hi (List.getElem?_eq_getElem _)
    simpa using this
theorem c5w {p : List VT} {s : ByteArray} (hno : ∀ i q', i < 64 → p[i]? = some q' → q'.lab.s ≠ s) : (p.take 64).findIdx? (fun q => decide (q.lab.s = s)) = none := by
  refine List.findIdx?_eq_none_iff.2 (fun q hq => ?_)
  obtain ⟨i, hi, e⟩ := List.mem_iff_getElem.1 hq
  rw [List.length_take] at hi
  rw [List.getElem_take] at e
  have := hno i q (by omega) (by rw [← e]; exact List.getElem?_eq_getElem _)
  simpa using this
theorem b1u (m : VT) (hsz : m.size ≤ 1000000) (x : Lab) (l : List VT) (hx : x.ok) (n : Int) (hn : n ≤ 9223372036854775807) : Row Tryz.prog 105 [vT m, vT (.mk x l), vI n] [] (vI (a0y m x n)) [] := by
  have hh := b3o m hsz n 30 hn
  have hf := a6g m hsz x.n hx.2.1.2
  unfold a0y
  by_cases hb : a3t m n 30 = true; rotate_left
  · have hb : a3t m n 30 = false := by simpa using hb
    rw [hb] at hh ⊢
    rw [if_neg (by simp)]
    clear hf
    obtain ⟨mx, ml⟩ := m
    refine f6 Tryz.func105 rfl rfl (Nat.le_of_ble_eq_true rfl) ?_
    repeat' (first | refine d4 ?_ | refine b8 ?_ | refine b7 ?_ | refine b9 ?_ | refine f5 rfl ?_ | refine d8 rfl ?_ | ((first | refine c5 (fun K hK => ?_) | refine d5 f8 (fun K hK => ?_) | refine a9 (cp hh ?_) | refine a8 (dp hh ?_) | fail); simp -implicitDefEqProofs) | refine hK _ ?_ | refine hK _ _ (by rfl) ?_ | fail)
    refine d7 (d6 ?_); simp -implicitDefEqProofs [g8, f9, g7] <;> try rfl
  rw [if_pos hb]
  by_cases hs : x.s = ⟨#[]⟩
  · rw [if_pos hs]
    rw [hb] at hh
    by_cases ho : (a1v m x.n).isSome = true; rotate_left
    · rw [if_neg (fun h => ho h.1)]
      have ho : (a1v m x.n).isSome = false := by simpa using ho
      rw [ho] at hf
      obtain ⟨⟨tx, tl⟩, ht⟩ : ∃ t, (a1v m x.n).getD z0T = t := ⟨_, rfl⟩
      rw [ht] at hf
      clear ht ho hb
      obtain ⟨mx, ml⟩ := m
      refine f6 Tryz.func105 rfl rfl (Nat.le_of_ble_eq_true rfl) ?_
      repeat' (first | refine d4 ?_ | refine b8 ?_ | refine b7 ?_ | refine b9 ?_ | refine f5 rfl ?_ | refine d8 rfl ?_ | ((first | refine c5 (fun K hK => ?_) | refine d5 f8 (fun K hK => ?_) | refine a9 (cp hh ?_) | refine a8 (dp hh ?_) | refine a9 (cp hf ?_) | refine a8 (dp hf ?_) | fail); simp -implicitDefEqProofs [hs]) | refine hK _ ?_ | refine hK _ _ (by rfl) ?_ | fail)
      refine d7 (d6 ?_); simp -implicitDefEqProofs [g8, f9, g7] <;> try rfl
    have hp := c1j ho
    have w1 : IntKind.i64.wrap (x.n.tdiv 64) = x.n / 64 := by
      rw [Int.tdiv_eq_ediv_of_nonneg hp]
      exact k9 _ (by omega) (by have := hx.2.1.2; omega)
    rw [ho] at hf
    obtain ⟨⟨tx, tl⟩, ht⟩ : ∃ t, (a1v m x.n).getD z0T = t := ⟨_, rfl⟩
    rw [ht] at hf
    by_cases hq : x.n / 64 = n
    · rw [if_pos ⟨ho, hq⟩]
      clear ht ho hb
      obtain ⟨mx, ml⟩ := m
      refine f6 Tryz.func105 rfl rfl (Nat.le_of_ble_eq_true rfl) ?_
      repeat' (first | refine d4 ?_ | refine b8 ?_ | refine b7 ?_ | refine b9 ?_ | refine f5 rfl ?_ | refine d8 rfl ?_ | ((first | refine c5 (fun K hK => ?_) | refine d5 f8 (fun K hK => ?_) | refine a9 (cp hh ?_) | refine a8 (dp hh ?_) | refine a9 (cp hf ?_) | refine a8 (dp hf ?_) | fail); simp -implicitDefEqProofs [hs, w1, hq]) | refine hK _ ?_ | refine hK _ _ (by rfl) ?_ | fail)
      refine d7 (d6 ?_); simp -implicitDefEqProofs [g8, f9, g7] <;> try rfl
    · rw [if_neg (fun h => hq h.2)]
      clear ht ho hb
      obtain ⟨mx, ml⟩ := m
      refine f6 Tryz.func105 rfl rfl (Nat.le_of_ble_eq_true rfl) ?_
      repeat' (first | refine d4 ?_ | refine b8 ?_ | refine b7 ?_ | refine b9 ?_ | refine f5 rfl ?_ | refine d8 rfl ?_ | ((first | refine c5 (fun K hK => ?_) | refine d5 f8 (fun K hK => ?_) | refine a9 (cp hh ?_) | refine a8 (dp hh ?_) | refine a9 (cp hf ?_) | refine a8 (dp hf ?_) | fail); simp -implicitDefEqProofs [hs, w1, hq]) | refine hK _ ?_ | refine hK _ _ (by rfl) ?_ | fail)
      refine d7 (d6 ?_); simp -implicitDefEqProofs [g8, f9, g7] <;> try rfl
  rw [if_neg hs]
  obtain ⟨mx, ml⟩ := m
  have hml := Tr.len_size (x := mx) (l := ml)
  have n0 : ¬ n < 0 := fun h => by unfold a3t at hb; rw [if_pos h] at hb; cases hb
  obtain ⟨a, rfl⟩ : ∃ N : Nat, n = N := ⟨n.toNat, by omega⟩
  have hal : a < ml.length := Classical.byContradiction fun h => by
    unfold a3t at hb; rw [if_neg n0, Int.toNat_natCast, Tr.kids, List.getElem?_eq_none (by omega)] at hb; cases hb
  rw [hb] at hh
  obtain ⟨⟨y, p⟩, hd⟩ : ∃ d, ml[a]? = some d := ⟨_, List.getElem?_eq_getElem hal⟩
  have hd' := (List.getElem?_eq_some_iff.1 hd).2
  have hdz := Tr.size_at (x := mx) hd
  have hpl := Tr.len_size (x := y) (l := p)
  have w1 : IntKind.i64.wrap ((a : Nat) : Int) = (a : Nat) := k9 _ (by omega) (by omega)
  have w3 : IntKind.i64.wrap ((a : Nat) * 64 : Int) = (a : Nat) * 64 := k9 _ (by omega) (by omega)
  rw [Int.toNat_natCast, Tr.kids, show ml.getD a z0T = .mk y p by simp [List.getD, hd], Tr.kids]
  clear hf hb
  refine f6 Tryz.func105 rfl rfl (Nat.le_of_ble_eq_true rfl) ?_
  repeat' (first | refine d4 ?_ | refine b8 ?_ | refine b7 ?_ | refine b9 ?_ | refine f5 rfl ?_ | refine d8 rfl ?_ | ((first | refine c5 (fun K hK => ?_) | refine d5 f8 (fun K hK => ?_) | refine a9 (cp hh ?_) | refine a8 (dp hh ?_) | fail); simp -implicitDefEqProofs [hs, hal, hd, hd', w1]) | refine hK _ ?_ | refine hK _ _ (by rfl) ?_ | fail)
  have hat := fun k q hq hk hno he => c5v (p := p) (s := x.s) (k := k) (q := q) hq hk hno he
  have hnone := c5w (p := p) (s := x.s)
  obtain ⟨F, hF⟩ : ∃ F, (p.take 64).findIdx? (fun q => decide (q.lab.s = x.s)) = F := ⟨_, rfl⟩
  rw [hF] at hnone ⊢
  simp only [hF] at hat
  clear hF hh
  refine l7 (ι := Nat) (fun k => s7 [(2, vI (a : Nat)), (4, .v (.c (.ptr 0 0))), (9, .v (.c (.ptr 1 0))), (10, vI (k : Nat))] [some (.box (ta (.mk x l))), some (.box (ta (.mk y p)))]) (fun k => k ≤ p.length ∧ k ≤ 64 ∧ ∀ i q', i < k → p[i]? = some q' → q'.lab.s ≠ x.s) (fun k => p.length - k) 0 ⟨Nat.zero_le _, by omega, fun i q' h => by omega⟩ (f7 [1, 22] (by simp -implicitDefEqProofs) (by simp -implicitDefEqProofs) (by decide) rfl (by simp)) (fun Z hI k hk => ?_)
  obtain ⟨hk, hk2, hz⟩ := hk
  by_cases hkl : k < p.length; rotate_left
  · have : k = p.length := by omega
    subst this
    have hF := hnone (fun i q' hi hq => hz i q' (List.getElem?_eq_some_iff.1 hq).1 hq)
    subst hF
    clear hat hnone
    repeat (first | refine d4 ?_ | refine b8 ?_ | refine b7 ?_ | refine b9 ?_ | refine f5 rfl ?_ | refine d8 rfl ?_ | ((first | refine c5 (fun K hK => ?_) | refine d5 f8 (fun K hK => ?_) | fail); simp -implicitDefEqProofs; first | refine hK _ ?_ | refine hK _ _ (by rfl) ?_ | fail) | fail)
    refine d7 (d6 ?_); simp -implicitDefEqProofs [g8, f9, g7] <;> try rfl
  by_cases hk64 : k < 64; rotate_left
  · have hF := hnone (fun i q' hi hq => hz i q' (by omega) hq)
    subst hF
    have hk64' : ¬ ((k : Nat) : Int) < 64 := by omega
    clear hat hnone
    repeat (first | refine d4 ?_ | refine b8 ?_ | refine b7 ?_ | refine b9 ?_ | refine f5 rfl ?_ | refine d8 rfl ?_ | ((first | refine c5 (fun K hK => ?_) | refine d5 f8 (fun K hK => ?_) | fail); simp -implicitDefEqProofs [hkl, hk64, hk64']; first | refine hK _ ?_ | refine hK _ _ (by rfl) ?_ | fail) | fail)
    refine d7 (d6 ?_); simp -implicitDefEqProofs [g8, f9, g7] <;> try rfl
  have hk64' : ((k : Nat) : Int) < 64 := by omega
  obtain ⟨⟨qx, ql⟩, hq⟩ : ∃ q, p[k]? = some q := ⟨_, List.getElem?_eq_getElem hkl⟩
  have hq' := (List.getElem?_eq_some_iff.1 hq).2
  have w2 : IntKind.i64.wrap ((k : Nat) + 1 : Int) = (k : Nat) + 1 := k9 _ (by omega) (by omega)
  have w4 : IntKind.i64.wrap ((k : Nat) : Int) = (k : Nat) := k9 _ (by omega) (by omega)
  have w5 : IntKind.i64.wrap ((a : Nat) * 64 + (k : Nat) : Int) = (a : Nat) * 64 + (k : Nat) := k9 _ (by omega) (by omega)
  by_cases he : qx.s = x.s
  · have hF := hat k _ hq hk64 hz he
    subst hF
    clear hat hnone
    repeat (first | refine d4 ?_ | refine b8 ?_ | refine b7 ?_ | refine b9 ?_ | refine f5 rfl ?_ | refine d8 rfl ?_ | ((first | refine c5 (fun K hK => ?_) | refine d5 f8 (fun K hK => ?_) | fail); simp -implicitDefEqProofs [hkl, hk64, hk64', hq, hq', he, w1, w3, w4, w5]; first | refine hK _ ?_ | refine hK _ _ (by rfl) ?_ | fail) | fail)
    refine d7 (d6 ?_); simp -implicitDefEqProofs [g8, f9, g7] <;> try rfl
  · clear hat hnone
    repeat (first | refine d4 ?_ | refine b8 ?_ | refine b7 ?_ | refine b9 ?_ | refine f5 rfl ?_ | refine d8 rfl ?_ | ((first | refine c5 (fun K hK => ?_) | refine d5 f8 (fun K hK => ?_) | fail); simp -implicitDefEqProofs [hkl, hk64, hk64', hq, hq', he, w2]; first | refine hK _ ?_ | refine hK _ _ (by rfl) ?_ | fail) | fail)
    refine ⟨k + 1, ⟨by omega, by omega, fun i q' hi hq2 => ?_⟩, (by dsimp only; omega), ?_⟩
    · by_cases hik : i = k
      · subst hik; rw [hq] at hq2; cases hq2; exact he
      · exact hz i q' (by omega) hq2
    · rw [hI]; exact f7 [0, 1] (by simp -implicitDefEqProofs) (by simp -implicitDefEqProofs) (by decide) rfl (by simp)
theorem td_got15 : td Tryz.prog 114 = some ⟨true, 14, 160, [.lit (.int .i64 0), .lit (.int .i64 0), .lit (.string ⟨#[]⟩), .nilS, .lit (.int .i64 0), .lit (.int .i64 0), .lit (.int .i64 0), .lit (.int .i64 0), .lit (.string ⟨#[]⟩), .nilS, .lit (.int .i64 0), .lit (.int .i64 0), .lit (.int .i64 0), .lit (.int .i64 0)], [(0, 6, true), (6, 6, true), (12, 1, false), (13, 1, false)], .struct⟩ := Eq.trans (by kernel_rfl) (Eq.refl _)
theorem td_errno15 : td Tryz.prog 26 = some ⟨false, 1, 8, [.lit (.int .i64 0)], [], (.int .i64)⟩ := Eq.trans (by kernel_rfl) (Eq.refl _)
attribute [simp] td_got15 td_errno15
noncomputable abbrev vGot (a b : VT) (place e : Int) : AV := .v (.agg (ta a ++ (ta b ++ [.pv (I place), .pv (I e)])))
theorem a7t (x : Lab) (l : List VT) (e : Int) : Row Tryz.prog 96 [vT (.mk x l), vI e] [] (vGot z0T z0T x.f e) [] := by
  refine f6 Tryz.func96 rfl rfl (Nat.le_of_ble_eq_true rfl) ?_
  repeat (first | refine d4 ?_ | refine b8 ?_ | refine b7 ?_ | refine b9 ?_ | refine f5 rfl ?_ | refine d8 rfl ?_ | ((first | refine c5 (fun K hK => ?_) | refine d5 f8 (fun K hK => ?_) | fail); simp -implicitDefEqProofs; first | refine hK _ ?_ | refine hK _ _ (by rfl) ?_ | fail) | fail)
  refine d7 (d6 ?_); simp -implicitDefEqProofs [g8, f9, g7] <;> try rfl
theorem a4o {m d : VT} (hm : t7 m) (h : d ∈ m.kids) : t7 d := by
  obtain ⟨x, l⟩ := m
  exact ((Tr.all_mk _ _ _).1 hm).2 d h
theorem b25 {m q : VT} {n : Int} (h : a1v m n = some q) : ∃ d ∈ m.kids, ∃ p ∈ d.kids, q ∈ p.kids := by
  unfold a1v at h
  split at h
  · cases h
  · split at h
    · cases h
    · rename_i d hd
      split at h
      · split at h
        · cases h
        · rename_i p hp
          split at h
          · exact ⟨d, List.mem_of_getElem? hd, p, List.mem_of_getElem? hp, List.mem_of_getElem? h⟩
          · cases h
      · cases h
theorem a9d (m : VT) (n : Int) : ((a1v m n).getD z0T).size ≤ m.size := by
  cases hf : a1v m n with
  | none => simp [Tr.size_mk]; exact Tr.size_pos m
  | some q =>
    obtain ⟨d, h1, p, h2, h3⟩ := b25 hf
    have := p7 h1
    have := p7 h2
    have := p7 h3
    simp; omega
theorem b98 : t7 z0T := (Tr.all_mk _ _ _).2 ⟨by simp [Lab.ok], fun y hy => by simp at hy⟩
theorem tyT_ok (k : Int) (h : 0 ≤ k ∧ k ≤ 9) : t7 (tyT k) := (Tr.all_mk _ _ _).2 ⟨by simp [Lab.ok]; omega, fun y hy => by simp at hy⟩
theorem c2t (k : Int) : (tyT k).size = 1 := by simp [tyT, Tr.size_mk]
theorem c5z {m : VT} (hm : t7 m) (n : Int) : t7 ((a1v m n).getD z0T) := by
  cases hf : a1v m n with
  | none => exact b98
  | some q =>
    obtain ⟨d, h1, p, h2, h3⟩ := b25 hf
    exact a4o (a4o (a4o hm h1) h2) h3
noncomputable def u7 (m : VT) (x : Lab) (p : List VT) : VT × Int × Int :=
  if x.k = 10 ∧ ¬ (b5h x.n (p.getD 0 z0T) (p.getD 1 z0T)).lab.k = 0 then (b5h x.n (p.getD 0 z0T) (p.getD 1 z0T), x.n, 0)
  else if x.k = 11 ∧ ((x.n = 1 ∧ isT (p.getD 0 z0T) 1 = true) ∨ (x.n = 2 ∧ isT (p.getD 0 z0T) 2 = true)) then (p.getD 0 z0T, x.n, 0)
  else if x.k = 12 ∧ (p.getD 0 z0T).lab.k = 3 ∧ (p.getD 0 z0T).kids.length = 1 ∧ isT (p.getD 1 z0T) 1 = true then ((p.getD 0 z0T).kids.getD 0 z0T, x.n, 0)
  else if x.k = 13 ∧ (p.getD 0 z0T).lab.k = 4 ∧ (p.getD 0 z0T).kids.length = 0 then
    (if a0y m x (p.getD 0 z0T).lab.n < 0 then (z0T, 0, 8) else (a2t ((a1v m (a0y m x (p.getD 0 z0T).lab.n)).getD z0T), a0y m x (p.getD 0 z0T).lab.n, 0))
  else if x.k = 15 ∧ b4l p (m.kids.getD x.n.toNat z0T).kids = true then (.mk ⟨4, x.n, ⟨#[]⟩, 0, 0⟩ [], x.n, 0)
  else if x.k = 16 ∧ b4l p ((m.kids.getD x.n.toNat z0T).kids.getD 0 z0T).kids = true then (a2t ((m.kids.getD x.n.toNat z0T).kids.getD 1 z0T), x.n, 0)
  else if ¬ x.k = 14 then (z0T, 0, 10)
  else if p.all (fun a => same a (p.getD 0 z0T)) = true then
    (if a0p m (.mk ⟨3, p.length, ⟨#[]⟩, 0, 0⟩ [p.getD 0 z0T]) = 0 then (z0T, 0, 11) else (.mk ⟨3, p.length, ⟨#[]⟩, 0, 0⟩ [p.getD 0 z0T], x.n, 0))
  else (z0T, 0, 10)
noncomputable abbrev vRu (r : VT × Int × Int) : AV := .tup [.agg (ta r.1), .c (.pv (I r.2.1)), .c (.pv (I r.2.2))]
theorem a88 {m : VT} {x : Lab} {n : Int} (hm : m.size ≤ 1000000) (hx : x.ok) : a0y m x n ≤ 9223372036854775807 := by
  unfold a0y
  split
  · split
    · split
      · exact hx.2.1.2
      · omega
    · split
      · rename_i hb _ _ i hi
        have h1 := (List.findIdx?_eq_some_iff_getElem.1 hi).1
        rw [List.length_take] at h1
        have : n < m.kids.length := by
          unfold a3t at hb
          split at hb
          · cases hb
          · split at hb
            · cases hb
            · rename_i d hd
              have := (List.getElem?_eq_some_iff.1 hd).1
              omega
        have hh : m.kids.length < m.size := by
          obtain ⟨mx, ml⟩ := m
          have := Tr.len_size (x := mx) (l := ml)
          show ml.length < _
          omega
        omega
      · omega
  · omega
theorem a5k (m : VT) (hm : t7 m) (hsz : m.size ≤ 1000000) (x : Lab) (l : List VT) (hx : x.ok) (p : List VT) (hp : ∀ a ∈ p, t7 a ∧ a.size ≤ 900000) (hpl : p.length ≤ 900000) (h0 : 0 < p.length) (h14 : x.k = 14) : Row Tryz.prog 99 [vT m, vT (.mk x l), vLs p] [] (vRu (u7 m x p)) [] := by
  obtain ⟨⟨ax, al⟩, ha⟩ : ∃ a, p[0]? = some a := ⟨_, List.getElem?_eq_getElem h0⟩
  have ha' := (List.getElem?_eq_some_iff.1 ha).2
  have hg : p.getD 0 z0T = .mk ax al := by simp [List.getD, ha]
  have hpa := hp _ (List.mem_of_getElem? ha)
  have hpi : (0 : Int) < (p.length : Int) := by omega
  have hT : u7 m x p = (if p.all (fun a => same a (.mk ax al)) = true then
    (if a0p m (.mk ⟨3, p.length, ⟨#[]⟩, 0, 0⟩ [.mk ax al]) = 0 then (z0T, 0, 11) else (.mk ⟨3, p.length, ⟨#[]⟩, 0, 0⟩ [.mk ax al], x.n, 0))
    else (z0T, 0, 10)) := by
    unfold u7
    rw [hg]
    simp [h14]
  rw [hT]
  clear hT
  have hcel := z9 m (.mk ⟨3, p.length, ⟨#[]⟩, 0, 0⟩ [.mk ax al]) hm hsz ((Tr.all_mk _ _ _).2 ⟨by simp [Lab.ok]; omega, fun y hy => by simp at hy; subst hy; exact hpa.1⟩) (by rw [Tr.size_mk]; simp; omega)
  obtain ⟨c, hc⟩ : ∃ c, a0p m (.mk ⟨3, p.length, ⟨#[]⟩, 0, 0⟩ [.mk ax al]) = c := ⟨_, rfl⟩
  rw [hc] at hcel ⊢
  clear hc hg
  obtain ⟨R, hR⟩ : ∃ R, p.all (fun a => same a (.mk ax al)) = R := ⟨_, rfl⟩
  rw [hR]
  obtain ⟨mx, ml⟩ := m
  have wl : IntKind.i64.wrap ((p.length : Nat) : Int) = (p.length : Nat) := k9 _ (by omega) (by omega)
  refine f6 Tryz.func99 rfl rfl (Nat.le_of_ble_eq_true rfl) ?_
  repeat (first | refine d4 ?_ | refine b8 ?_ | refine b7 ?_ | refine b9 ?_ | refine f5 rfl ?_ | refine d8 rfl ?_ | ((first | refine c5 (fun K hK => ?_) | refine d5 f8 (fun K hK => ?_) | fail); simp -implicitDefEqProofs [h14]; first | refine hK _ ?_ | refine hK _ _ (by rfl) ?_ | fail) | fail)
  refine l7 (ι := Nat) (fun k => s7 [(2, vLs p), (3, .v (.c (.ptr 0 0))), (4, .v (.c (.ptr 1 0))), (6, .v (.c (.ptr 2 0))), (12, vI (k : Nat))] [some (.box (ta (.mk mx ml))), some (.box (ta (.mk x l))), some (.box (ta z0T))]) (fun k => k ≤ p.length ∧ (p.take k).all (fun a => same a (.mk ax al)) = true) (fun k => p.length - k) 0 ⟨Nat.zero_le _, by simp⟩ (f7 [0, 1, 2] (by simp -implicitDefEqProofs [h14]) (by simp -implicitDefEqProofs [h14]) (by decide) rfl (by simp)) (fun Z hI k hk => ?_)
  obtain ⟨hk, hz⟩ := hk
  by_cases hkl : k < p.length; rotate_left
  · have : k = p.length := by omega
    subst this
    rw [List.take_length] at hz
    have : R = true := by rw [← hR, hz]
    subst this
    clear hR hz
    by_cases c0 : c = 0
    · repeat' (first | refine d4 ?_ | refine b8 ?_ | refine b7 ?_ | refine b9 ?_ | refine f5 rfl ?_ | refine d8 rfl ?_ | ((first | refine c5 (fun K hK => ?_) | refine d5 f8 (fun K hK => ?_) | refine a9 (cp hcel ?_) | refine a8 (dp hcel ?_) | fail); simp -implicitDefEqProofs [c0, h0, hpi, ha, ha', wl]) | refine hK _ ?_ | refine hK _ _ (by rfl) ?_ | fail)
      refine d7 (d6 ?_); simp -implicitDefEqProofs [g8, f9, g7, c0] <;> try rfl
    · repeat' (first | refine d4 ?_ | refine b8 ?_ | refine b7 ?_ | refine b9 ?_ | refine f5 rfl ?_ | refine d8 rfl ?_ | ((first | refine c5 (fun K hK => ?_) | refine d5 f8 (fun K hK => ?_) | refine a9 (cp hcel ?_) | refine a8 (dp hcel ?_) | fail); simp -implicitDefEqProofs [c0, h0, hpi, ha, ha', wl]) | refine hK _ ?_ | refine hK _ _ (by rfl) ?_ | fail)
      refine d7 (d6 ?_); simp -implicitDefEqProofs [g8, f9, g7, c0] <;> try rfl
  obtain ⟨⟨bx, bl⟩, hb⟩ : ∃ a, p[k]? = some a := ⟨_, List.getElem?_eq_getElem hkl⟩
  have hb' := (List.getElem?_eq_some_iff.1 hb).2
  have w2 : IntKind.i64.wrap ((k : Nat) + 1 : Int) = (k : Nat) + 1 := k9 _ (by omega) (by omega)
  have hs := a0a (.mk bx bl) (by have := (hp _ (List.mem_of_getElem? hb)).2; omega) (.mk ax al) (by omega)
  by_cases hq : same (.mk bx bl) (.mk ax al) = true
  · rw [hq] at hs
    repeat' (first | refine d4 ?_ | refine b8 ?_ | refine b7 ?_ | refine b9 ?_ | refine f5 rfl ?_ | refine d8 rfl ?_ | ((first | refine c5 (fun K hK => ?_) | refine d5 f8 (fun K hK => ?_) | refine a9 (cp hs ?_) | refine a8 (dp hs ?_) | fail); simp -implicitDefEqProofs [hkl, h0, hpi, ha, ha', hb, hb', w2]) | refine hK _ ?_ | refine hK _ _ (by rfl) ?_ | fail)
    refine ⟨k + 1, ⟨by omega, by rw [List.take_add_one, hb, Option.toList_some, List.all_append, hz]; simp [hq]⟩, (by dsimp only; omega), ?_⟩
    rw [hI]; exact f7 [0, 1, 2] (by simp -implicitDefEqProofs) (by simp -implicitDefEqProofs) (by decide) rfl (by simp)
  · have hq : same (.mk bx bl) (.mk ax al) = false := by simpa using hq
    rw [hq] at hs
    have e : R = false := by
      rw [← hR, List.all_eq_false]; exact ⟨_, List.mem_of_getElem? hb, by rw [hq]; simp⟩
    subst e
    repeat' (first | refine d4 ?_ | refine b8 ?_ | refine b7 ?_ | refine b9 ?_ | refine f5 rfl ?_ | refine d8 rfl ?_ | ((first | refine c5 (fun K hK => ?_) | refine d5 f8 (fun K hK => ?_) | refine a9 (cp hs ?_) | refine a8 (dp hs ?_) | fail); simp -implicitDefEqProofs [hkl, h0, hpi, ha, ha', hb, hb', w2]) | refine hK _ ?_ | refine hK _ _ (by rfl) ?_ | fail)
    refine d7 (d6 ?_); simp -implicitDefEqProofs [g8, f9, g7] <;> try rfl
theorem b81 (m : VT) (hm : t7 m) (hsz : m.size ≤ 1000000) (x : Lab) (l : List VT) (hx : x.ok) (p : List VT) (hp : ∀ a ∈ p, t7 a ∧ a.size ≤ 900000) (hpl : p.length ≤ 900000) (hsh : z5 x p.length = true) (h15 : x.k = 15 → 0 ≤ x.n ∧ ∃ d, m.kids[x.n.toNat]? = some d) (h16 : x.k = 16 → 0 ≤ x.n ∧ ∃ dx a b c, m.kids[x.n.toNat]? = some (.mk dx [a, b, c])) : Row Tryz.prog 99 [vT m, vT (.mk x l), vLs p] [] (vRu (u7 m x p)) [] := by
  by_cases c14 : x.k = 14
  · exact a5k m hm hsz x l hx p hp hpl (by unfold z5 at hsh; simp [c14] at hsh; omega) c14
  by_cases c10 : x.k = 10
  · have hl2 : p.length = 2 := by unfold z5 at hsh; simp [c10] at hsh; exact hsh.1.1
    obtain ⟨⟨ax, al⟩, ⟨bx, bl⟩, rfl⟩ := b9s hl2
    have h2 := c2f x.n (.mk ax al) (.mk bx bl)
    have hT : u7 m x [.mk ax al, .mk bx bl] = if (b5h x.n (.mk ax al) (.mk bx bl)).lab.k = 0 then (z0T, 0, 10) else (b5h x.n (.mk ax al) (.mk bx bl), x.n, 0) := by
      unfold u7
      simp [c10]
    rw [hT]
    clear hT
    obtain ⟨⟨tx, tl⟩, ht⟩ : ∃ t, b5h x.n (.mk ax al) (.mk bx bl) = t := ⟨_, rfl⟩
    rw [ht] at h2 ⊢
    clear ht hp
    rw [Tr.lab]
    obtain ⟨mx, ml⟩ := m
    by_cases ht : tx.k = 0
    · rw [if_pos ht]
      refine f6 Tryz.func99 rfl rfl (Nat.le_of_ble_eq_true rfl) ?_
      repeat' (first | refine d4 ?_ | refine b8 ?_ | refine b7 ?_ | refine b9 ?_ | refine f5 rfl ?_ | refine d8 rfl ?_ | ((first | refine c5 (fun K hK => ?_) | refine d5 f8 (fun K hK => ?_) | refine a9 (cp h2 ?_) | refine a8 (dp h2 ?_) | fail); simp -implicitDefEqProofs [c10, ht]) | refine hK _ ?_ | refine hK _ _ (by rfl) ?_ | fail)
      refine d7 (d6 ?_); simp -implicitDefEqProofs [g8, f9, g7] <;> try rfl
    · rw [if_neg ht]
      refine f6 Tryz.func99 rfl rfl (Nat.le_of_ble_eq_true rfl) ?_
      repeat' (first | refine d4 ?_ | refine b8 ?_ | refine b7 ?_ | refine b9 ?_ | refine f5 rfl ?_ | refine d8 rfl ?_ | ((first | refine c5 (fun K hK => ?_) | refine d5 f8 (fun K hK => ?_) | refine a9 (cp h2 ?_) | refine a8 (dp h2 ?_) | fail); simp -implicitDefEqProofs [c10, ht]) | refine hK _ ?_ | refine hK _ _ (by rfl) ?_ | fail)
      refine d7 (d6 ?_); simp -implicitDefEqProofs [g8, f9, g7] <;> try rfl
  by_cases c11 : x.k = 11
  · have hs : p.length = 1 ∧ (x.n = 1 ∨ x.n = 2) := by unfold z5 at hsh; simp [c11] at hsh; exact hsh
    obtain ⟨hl1, hn⟩ := hs
    obtain ⟨⟨ax, al⟩, rfl⟩ := w6 hl1
    have i1 := a0j (.mk ax al) 1
    have i2 := a0j (.mk ax al) 2
    have hT : u7 m x [.mk ax al] = if (x.n = 1 ∧ isT (.mk ax al) 1 = true) ∨ (x.n = 2 ∧ isT (.mk ax al) 2 = true) then (.mk ax al, x.n, 0) else (z0T, 0, 10) := by
      unfold u7
      simp [c11]
    rw [hT]
    clear hT
    obtain ⟨p1, q1⟩ : ∃ p, isT (.mk ax al) 1 = p := ⟨_, rfl⟩
    obtain ⟨p2, q2⟩ : ∃ p, isT (.mk ax al) 2 = p := ⟨_, rfl⟩
    rw [q1] at i1
    rw [q2] at i2
    rw [q1, q2]
    clear q1 q2 hp
    obtain ⟨mx, ml⟩ := m
    rcases hn with hn | hn
    · cases p1 with
      | true =>
        refine f6 Tryz.func99 rfl rfl (Nat.le_of_ble_eq_true rfl) ?_
        repeat' (first | refine d4 ?_ | refine b8 ?_ | refine b7 ?_ | refine b9 ?_ | refine f5 rfl ?_ | refine d8 rfl ?_ | ((first | refine c5 (fun K hK => ?_) | refine d5 f8 (fun K hK => ?_) | refine a9 (cp i1 ?_) | refine a8 (dp i1 ?_) | refine a9 (cp i2 ?_) | refine a8 (dp i2 ?_) | fail); simp -implicitDefEqProofs [c11, hn]) | refine hK _ ?_ | refine hK _ _ (by rfl) ?_ | fail)
        refine d7 (d6 ?_); simp -implicitDefEqProofs [g8, f9, g7, hn] <;> try rfl
      | false =>
        refine f6 Tryz.func99 rfl rfl (Nat.le_of_ble_eq_true rfl) ?_
        repeat' (first | refine d4 ?_ | refine b8 ?_ | refine b7 ?_ | refine b9 ?_ | refine f5 rfl ?_ | refine d8 rfl ?_ | ((first | refine c5 (fun K hK => ?_) | refine d5 f8 (fun K hK => ?_) | refine a9 (cp i1 ?_) | refine a8 (dp i1 ?_) | refine a9 (cp i2 ?_) | refine a8 (dp i2 ?_) | fail); simp -implicitDefEqProofs [c11, hn]) | refine hK _ ?_ | refine hK _ _ (by rfl) ?_ | fail)
        refine d7 (d6 ?_); simp -implicitDefEqProofs [g8, f9, g7, hn] <;> try rfl
    · cases p2 with
      | true =>
        refine f6 Tryz.func99 rfl rfl (Nat.le_of_ble_eq_true rfl) ?_
        repeat' (first | refine d4 ?_ | refine b8 ?_ | refine b7 ?_ | refine b9 ?_ | refine f5 rfl ?_ | refine d8 rfl ?_ | ((first | refine c5 (fun K hK => ?_) | refine d5 f8 (fun K hK => ?_) | refine a9 (cp i1 ?_) | refine a8 (dp i1 ?_) | refine a9 (cp i2 ?_) | refine a8 (dp i2 ?_) | fail); simp -implicitDefEqProofs [c11, hn]) | refine hK _ ?_ | refine hK _ _ (by rfl) ?_ | fail)
        refine d7 (d6 ?_); simp -implicitDefEqProofs [g8, f9, g7, hn] <;> try rfl
      | false =>
        refine f6 Tryz.func99 rfl rfl (Nat.le_of_ble_eq_true rfl) ?_
        repeat' (first | refine d4 ?_ | refine b8 ?_ | refine b7 ?_ | refine b9 ?_ | refine f5 rfl ?_ | refine d8 rfl ?_ | ((first | refine c5 (fun K hK => ?_) | refine d5 f8 (fun K hK => ?_) | refine a9 (cp i1 ?_) | refine a8 (dp i1 ?_) | refine a9 (cp i2 ?_) | refine a8 (dp i2 ?_) | fail); simp -implicitDefEqProofs [c11, hn]) | refine hK _ ?_ | refine hK _ _ (by rfl) ?_ | fail)
        refine d7 (d6 ?_); simp -implicitDefEqProofs [g8, f9, g7, hn] <;> try rfl
  by_cases c12 : x.k = 12
  · have hl2 : p.length = 2 := by unfold z5 at hsh; simp [c12] at hsh; exact hsh
    obtain ⟨⟨ax, al⟩, ⟨bx, bl⟩, rfl⟩ := b9s hl2
    have i1 := a0j (.mk bx bl) 1
    have hT : u7 m x [.mk ax al, .mk bx bl] = if ax.k = 3 ∧ al.length = 1 ∧ isT (.mk bx bl) 1 = true then (al.getD 0 z0T, x.n, 0) else (z0T, 0, 10) := by
      unfold u7
      simp [c12, Tr.lab, Tr.kids]
    rw [hT]
    clear hT
    obtain ⟨p1, q1⟩ : ∃ p, isT (.mk bx bl) 1 = p := ⟨_, rfl⟩
    rw [q1] at i1 ⊢
    clear q1 hp
    obtain ⟨mx, ml⟩ := m
    by_cases a3 : ax.k = 3; rotate_left
    · rw [if_neg (fun h => a3 h.1)]
      refine f6 Tryz.func99 rfl rfl (Nat.le_of_ble_eq_true rfl) ?_
      repeat' (first | refine d4 ?_ | refine b8 ?_ | refine b7 ?_ | refine b9 ?_ | refine f5 rfl ?_ | refine d8 rfl ?_ | ((first | refine c5 (fun K hK => ?_) | refine d5 f8 (fun K hK => ?_) | refine a9 (cp i1 ?_) | refine a8 (dp i1 ?_) | fail); simp -implicitDefEqProofs [c12, a3]) | refine hK _ ?_ | refine hK _ _ (by rfl) ?_ | fail)
      refine d7 (d6 ?_); simp -implicitDefEqProofs [g8, f9, g7] <;> try rfl
    by_cases a1 : al.length = 1; rotate_left
    · rw [if_neg (fun h => a1 h.2.1)]
      have a1' : ¬ (al.length : Int) = 1 := by omega
      refine f6 Tryz.func99 rfl rfl (Nat.le_of_ble_eq_true rfl) ?_
      repeat' (first | refine d4 ?_ | refine b8 ?_ | refine b7 ?_ | refine b9 ?_ | refine f5 rfl ?_ | refine d8 rfl ?_ | ((first | refine c5 (fun K hK => ?_) | refine d5 f8 (fun K hK => ?_) | refine a9 (cp i1 ?_) | refine a8 (dp i1 ?_) | fail); simp -implicitDefEqProofs [c12, a3, a1, a1']) | refine hK _ ?_ | refine hK _ _ (by rfl) ?_ | fail)
      refine d7 (d6 ?_); simp -implicitDefEqProofs [g8, f9, g7] <;> try rfl
    obtain ⟨⟨ux, ul⟩, rfl⟩ := w6 a1
    cases p1 with
    | true =>
      rw [if_pos ⟨a3, a1, rfl⟩]
      refine f6 Tryz.func99 rfl rfl (Nat.le_of_ble_eq_true rfl) ?_
      repeat' (first | refine d4 ?_ | refine b8 ?_ | refine b7 ?_ | refine b9 ?_ | refine f5 rfl ?_ | refine d8 rfl ?_ | ((first | refine c5 (fun K hK => ?_) | refine d5 f8 (fun K hK => ?_) | refine a9 (cp i1 ?_) | refine a8 (dp i1 ?_) | fail); simp -implicitDefEqProofs [c12, a3]) | refine hK _ ?_ | refine hK _ _ (by rfl) ?_ | fail)
      refine d7 (d6 ?_); simp -implicitDefEqProofs [g8, f9, g7] <;> try rfl
    | false =>
      rw [if_neg (by simp)]
      refine f6 Tryz.func99 rfl rfl (Nat.le_of_ble_eq_true rfl) ?_
      repeat' (first | refine d4 ?_ | refine b8 ?_ | refine b7 ?_ | refine b9 ?_ | refine f5 rfl ?_ | refine d8 rfl ?_ | ((first | refine c5 (fun K hK => ?_) | refine d5 f8 (fun K hK => ?_) | refine a9 (cp i1 ?_) | refine a8 (dp i1 ?_) | fail); simp -implicitDefEqProofs [c12, a3]) | refine hK _ ?_ | refine hK _ _ (by rfl) ?_ | fail)
      refine d7 (d6 ?_); simp -implicitDefEqProofs [g8, f9, g7] <;> try rfl
  by_cases c13 : x.k = 13
  · have hl1 : p.length = 1 := by unfold z5 at hsh; simp [c13] at hsh; exact hsh
    obtain ⟨⟨ax, al⟩, rfl⟩ := w6 hl1
    have hax : ax.ok := ((Tr.all_mk _ _ _).1 (hp (.mk ax al) (by simp)).1).1
    have hf := b1u m hsz x l hx ax.n hax.2.1.2
    have hhi := a88 (m := m) (x := x) (n := ax.n) hsz hx
    have hT : u7 m x [.mk ax al] = if ax.k = 4 ∧ al.length = 0 then (if a0y m x ax.n < 0 then (z0T, 0, 8) else (a2t ((a1v m (a0y m x ax.n)).getD z0T), a0y m x ax.n, 0)) else (z0T, 0, 10) := by
      unfold u7
      simp [c13, Tr.lab, Tr.kids]
    rw [hT]
    clear hT
    obtain ⟨n, hn⟩ : ∃ n, a0y m x ax.n = n := ⟨_, rfl⟩
    rw [hn] at hf hhi ⊢
    clear hn
    by_cases a4 : ax.k = 4; rotate_left
    · rw [if_neg (fun h => a4 h.1)]
      clear hf hhi
      obtain ⟨mx, ml⟩ := m
      refine f6 Tryz.func99 rfl rfl (Nat.le_of_ble_eq_true rfl) ?_
      repeat (first | refine d4 ?_ | refine b8 ?_ | refine b7 ?_ | refine b9 ?_ | refine f5 rfl ?_ | refine d8 rfl ?_ | ((first | refine c5 (fun K hK => ?_) | refine d5 f8 (fun K hK => ?_) | fail); simp -implicitDefEqProofs [c13, a4]; first | refine hK _ ?_ | refine hK _ _ (by rfl) ?_ | fail) | fail)
      refine d7 (d6 ?_); simp -implicitDefEqProofs [g8, f9, g7] <;> try rfl
    by_cases a0 : al.length = 0; rotate_left
    · rw [if_neg (fun h => a0 h.2)]
      have a0' : ¬ (al.length : Int) = 0 := by omega
      have a0'' : ¬ al = [] := fun h => a0 (by rw [h]; rfl)
      clear hf hhi
      obtain ⟨mx, ml⟩ := m
      refine f6 Tryz.func99 rfl rfl (Nat.le_of_ble_eq_true rfl) ?_
      repeat (first | refine d4 ?_ | refine b8 ?_ | refine b7 ?_ | refine b9 ?_ | refine f5 rfl ?_ | refine d8 rfl ?_ | ((first | refine c5 (fun K hK => ?_) | refine d5 f8 (fun K hK => ?_) | fail); simp -implicitDefEqProofs [c13, a4, a0, a0', a0'']; first | refine hK _ ?_ | refine hK _ _ (by rfl) ?_ | fail) | fail)
      refine d7 (d6 ?_); simp -implicitDefEqProofs [g8, f9, g7] <;> try rfl
    rw [if_pos ⟨a4, a0⟩]
    have : al = [] := List.eq_nil_of_length_eq_zero a0
    subst this
    by_cases n0 : n < 0
    · rw [if_pos n0]
      obtain ⟨mx, ml⟩ := m
      refine f6 Tryz.func99 rfl rfl (Nat.le_of_ble_eq_true rfl) ?_
      repeat' (first | refine d4 ?_ | refine b8 ?_ | refine b7 ?_ | refine b9 ?_ | refine f5 rfl ?_ | refine d8 rfl ?_ | ((first | refine c5 (fun K hK => ?_) | refine d5 f8 (fun K hK => ?_) | refine a9 (cp hf ?_) | refine a8 (dp hf ?_) | fail); simp -implicitDefEqProofs [c13, a4, n0]) | refine hK _ ?_ | refine hK _ _ (by rfl) ?_ | fail)
      refine d7 (d6 ?_); simp -implicitDefEqProofs [g8, f9, g7] <;> try rfl
    · rw [if_neg n0]
      have hd := a6g m hsz n hhi
      have hds : ((a1v m n).getD z0T).size ≤ 1000000 := by
        have := a9d m n
        omega
      obtain ⟨⟨dx, dl⟩, hD⟩ : ∃ d, (a1v m n).getD z0T = d := ⟨_, rfl⟩
      rw [hD] at hd hds ⊢
      obtain ⟨sm, hsm⟩ : ∃ s, (a1v m n).isSome = s := ⟨_, rfl⟩
      rw [hsm] at hd
      have hb := z8 (.mk dx dl) hds
      obtain ⟨⟨ex, el⟩, hE⟩ : ∃ e, a2t (.mk dx dl) = e := ⟨_, rfl⟩
      rw [hE] at hb ⊢
      clear hE hD hsm
      obtain ⟨mx, ml⟩ := m
      refine f6 Tryz.func99 rfl rfl (Nat.le_of_ble_eq_true rfl) ?_
      repeat' (first | refine d4 ?_ | refine b8 ?_ | refine b7 ?_ | refine b9 ?_ | refine f5 rfl ?_ | refine d8 rfl ?_ | ((first | refine c5 (fun K hK => ?_) | refine d5 f8 (fun K hK => ?_) | refine a9 (cp hf ?_) | refine a8 (dp hf ?_) | refine a9 (cp hd ?_) | refine a8 (dp hd ?_) | refine a9 (cp hb ?_) | refine a8 (dp hb ?_) | fail); simp -implicitDefEqProofs [c13, a4, n0]) | refine hK _ ?_ | refine hK _ _ (by rfl) ?_ | fail)
      refine d7 (d6 ?_); simp -implicitDefEqProofs [g8, f9, g7] <;> try rfl
  by_cases c15 : x.k = 15
  · obtain ⟨n0, ⟨dx, dl⟩, hd⟩ := h15 c15
    obtain ⟨n, hn⟩ : ∃ n : Nat, x.n = n := ⟨x.n.toNat, by omega⟩
    rw [hn, Int.toNat_natCast] at hd
    have hds := p7 (List.mem_of_getElem? hd)
    have hT : u7 m x p = if b4l p dl = true then (.mk ⟨4, x.n, ⟨#[]⟩, 0, 0⟩ [], x.n, 0) else (z0T, 0, 10) := by
      unfold u7
      rw [hn, Int.toNat_natCast, show m.kids.getD n z0T = .mk dx dl by simp [List.getD, hd], Tr.kids]
      simp [c15]
    rw [hT]
    clear hT
    have hfit := b3n p dl (fun a ha => by have := (hp a ha).2; omega) (fun q hq => by
      have := p7 (m := .mk dx dl) (d := q) hq; omega) (by have := Tr.len_size (x := dx) (l := dl); omega) (by omega)
    obtain ⟨R, hR⟩ : ∃ R, b4l p dl = R := ⟨_, rfl⟩
    rw [hR] at hfit ⊢
    clear hR hp
    obtain ⟨mx, ml⟩ := m
    rw [Tr.kids] at hd
    have hnl := (List.getElem?_eq_some_iff.1 hd).1
    have hd' := (List.getElem?_eq_some_iff.1 hd).2
    have hml := Tr.len_size (x := mx) (l := ml)
    have w0 : IntKind.i64.wrap ((n : Nat) : Int) = (n : Nat) := k9 _ (by omega) (by omega)
    cases R with
    | true =>
      refine f6 Tryz.func99 rfl rfl (Nat.le_of_ble_eq_true rfl) ?_
      repeat' (first | refine d4 ?_ | refine b8 ?_ | refine b7 ?_ | refine b9 ?_ | refine f5 rfl ?_ | refine d8 rfl ?_ | ((first | refine c5 (fun K hK => ?_) | refine d5 f8 (fun K hK => ?_) | refine a9 (cp hfit ?_) | refine a8 (dp hfit ?_) | fail); simp -implicitDefEqProofs [c15, hn, hnl, hd, hd', w0]) | refine hK _ ?_ | refine hK _ _ (by rfl) ?_ | fail)
      refine d7 (d6 ?_); simp -implicitDefEqProofs [g8, f9, g7, hn] <;> try rfl
    | false =>
      refine f6 Tryz.func99 rfl rfl (Nat.le_of_ble_eq_true rfl) ?_
      repeat' (first | refine d4 ?_ | refine b8 ?_ | refine b7 ?_ | refine b9 ?_ | refine f5 rfl ?_ | refine d8 rfl ?_ | ((first | refine c5 (fun K hK => ?_) | refine d5 f8 (fun K hK => ?_) | refine a9 (cp hfit ?_) | refine a8 (dp hfit ?_) | fail); simp -implicitDefEqProofs [c15, hn, hnl, hd, hd', w0]) | refine hK _ ?_ | refine hK _ _ (by rfl) ?_ | fail)
      refine d7 (d6 ?_); simp -implicitDefEqProofs [g8, f9, g7] <;> try rfl
  by_cases c16 : x.k = 16
  · obtain ⟨n0, dx, ⟨ax, al⟩, ⟨bx, bl⟩, ⟨cx, cl⟩, hd⟩ := h16 c16
    obtain ⟨n, hn⟩ : ∃ n : Nat, x.n = n := ⟨x.n.toNat, by omega⟩
    rw [hn, Int.toNat_natCast] at hd
    have hds := p7 (List.mem_of_getElem? hd)
    have has := Tr.size_at (x := dx) (l := [Tr.mk ax al, .mk bx bl, .mk cx cl]) (i := 0) rfl
    have hbs := Tr.size_at (x := dx) (l := [Tr.mk ax al, .mk bx bl, .mk cx cl]) (i := 1) rfl
    have hT : u7 m x p = if b4l p al = true then (a2t (.mk bx bl), x.n, 0) else (z0T, 0, 10) := by
      unfold u7
      rw [hn, Int.toNat_natCast, show m.kids.getD n z0T = .mk dx [.mk ax al, .mk bx bl, .mk cx cl] by simp [List.getD, hd], Tr.kids]
      simp [c16, Tr.kids]
    rw [hT]
    clear hT
    have hfit := b3n p al (fun a ha => by have := (hp a ha).2; omega) (fun q hq => by
      have := p7 (m := .mk ax al) (d := q) hq; omega) (by have := Tr.len_size (x := ax) (l := al); omega) (by omega)
    have hb := z8 (.mk bx bl) (by omega)
    obtain ⟨R, hR⟩ : ∃ R, b4l p al = R := ⟨_, rfl⟩
    rw [hR] at hfit ⊢
    obtain ⟨⟨ex, el⟩, hE⟩ : ∃ e, a2t (.mk bx bl) = e := ⟨_, rfl⟩
    rw [hE] at hb ⊢
    clear hR hp hE
    obtain ⟨mx, ml⟩ := m
    rw [Tr.kids] at hd
    have hnl := (List.getElem?_eq_some_iff.1 hd).1
    have hd' := (List.getElem?_eq_some_iff.1 hd).2
    have hml := Tr.len_size (x := mx) (l := ml)
    have w0 : IntKind.i64.wrap ((n : Nat) : Int) = (n : Nat) := k9 _ (by omega) (by omega)
    cases R with
    | true =>
      refine f6 Tryz.func99 rfl rfl (Nat.le_of_ble_eq_true rfl) ?_
      repeat' (first | refine d4 ?_ | refine b8 ?_ | refine b7 ?_ | refine b9 ?_ | refine f5 rfl ?_ | refine d8 rfl ?_ | ((first | refine c5 (fun K hK => ?_) | refine d5 f8 (fun K hK => ?_) | refine a9 (cp hfit ?_) | refine a8 (dp hfit ?_) | refine a9 (cp hb ?_) | refine a8 (dp hb ?_) | fail); simp -implicitDefEqProofs [c16, hn, hnl, hd, hd', w0]) | refine hK _ ?_ | refine hK _ _ (by rfl) ?_ | fail)
      refine d7 (d6 ?_); simp -implicitDefEqProofs [g8, f9, g7, hn] <;> try rfl
    | false =>
      refine f6 Tryz.func99 rfl rfl (Nat.le_of_ble_eq_true rfl) ?_
      repeat' (first | refine d4 ?_ | refine b8 ?_ | refine b7 ?_ | refine b9 ?_ | refine f5 rfl ?_ | refine d8 rfl ?_ | ((first | refine c5 (fun K hK => ?_) | refine d5 f8 (fun K hK => ?_) | refine a9 (cp hfit ?_) | refine a8 (dp hfit ?_) | refine a9 (cp hb ?_) | refine a8 (dp hb ?_) | fail); simp -implicitDefEqProofs [c16, hn, hnl, hd, hd', w0]) | refine hK _ ?_ | refine hK _ _ (by rfl) ?_ | fail)
      refine d7 (d6 ?_); simp -implicitDefEqProofs [g8, f9, g7] <;> try rfl
  have hT : u7 m x p = (z0T, 0, 10) := by
    unfold u7
    simp [c10, c11, c12, c13, c14, c15, c16]
  rw [hT]
  clear hT hp
  obtain ⟨mx, ml⟩ := m
  refine f6 Tryz.func99 rfl rfl (Nat.le_of_ble_eq_true rfl) ?_
  repeat (first | refine d4 ?_ | refine b8 ?_ | refine b7 ?_ | refine b9 ?_ | refine f5 rfl ?_ | refine d8 rfl ?_ | ((first | refine c5 (fun K hK => ?_) | refine d5 f8 (fun K hK => ?_) | fail); simp -implicitDefEqProofs [c10, c11, c12, c13, c14, c15, c16]; first | refine hK _ ?_ | refine hK _ _ (by rfl) ?_ | fail) | fail)
  refine d7 (d6 ?_); simp -implicitDefEqProofs [g8, f9, g7] <;> try rfl
end Go.Proofs.YthkfdheoakbfnaaGreat.am
end
