import Derived.Test.YthmdllhhmhbhbaaGreatDoorPkR16
import Derived.Test.YthmdllhhmhbhbaaGreatDoorPkR4
import Derived.Test.YthmdllhhmhbhbaaGreatDoorPkR3
set_option maxRecDepth 100000
set_option maxHeartbeats 4000000
section
namespace Go.Proofs.YthmdllhhmhbhbaaGreatDoor.am
open Go.ChangeShapes Go.WideShapes Go.ChangeAt Go.RowKit
open vt
set_option linter.unusedVariables false
set_option linter.unusedSimpArgs false
noncomputable abbrev bxD (ml : List VT) (a e : Int) : AO := .box [.pv (.sl 6 (ml.map tc)), .map 1, .pv .nilS, .pv (I a), .pv (I e)]
theorem b5e (ml : List VT) (x : Lab) (l : List VT) (M : List (Value × PT)) : Row Tryz.prog 76 [vPt, vT (.mk x l), vI 9] [bxD ml 0 0, .mp none M] (.tup []) [some (bxD ml x.f 9), some (.mp none M)] := by
  refine e8 Tryz.func76 rfl rfl (Nat.le_of_ble_eq_true rfl) ?_
  repeat (first | refine d7 ?_ | refine b9 ?_ | refine a8 ?_ | refine b8 ?_ | refine f7 rfl ?_ | refine f6 rfl ?_ | ((first | refine d6 (fun K hK => ?_) | refine d8 f8 (fun K hK => ?_) | fail); simp -implicitDefEqProofs; first | refine hK _ ?_ | refine hK _ _ (by rfl) ?_ | fail) | fail)
  refine o8 (j6 [0, 1] ?_); simp -implicitDefEqProofs [l4, g7, g9] <;> try rfl
theorem b8g (ml : List VT) (hml : ml.length ≤ 100000) : ∃ M, (a50 [] ml = none → M = plF 0 ml) ∧ Row Tryz.prog 50 [vPt] [bxD ml 0 0, .mp none []] (.tup []) [some (bxD ml (match a50 [] ml with | some f => f | none => 0) (match a50 [] ml with | some _ => 9 | none => 0)), some (.mp none M)] := by
  obtain ⟨R, hR⟩ : ∃ R, a50 [] ml = R := ⟨_, rfl⟩
  -- where the first one stands that is there twice
  obtain ⟨j, hj, hj1, hj2⟩ : ∃ j, j ≤ ml.length ∧ (∀ k, k ≤ j → a50 [] (ml.take k) = none) ∧ (j < ml.length → ∀ y, ml[j]? = some y → a6u ((ml.take j).map (·.lab.s)) y.lab.s = true ∧ R = some y.lab.f) := by
    clear hml
    have key : ∀ n, n ≤ ml.length → (∀ k, k ≤ n → a50 [] (ml.take k) = none) ∨ ∃ j, j < n ∧ (∀ k, k ≤ j → a50 [] (ml.take k) = none) ∧ ∀ y, ml[j]? = some y → a6u ((ml.take j).map (·.lab.s)) y.lab.s = true ∧ R = some y.lab.f := by
      intro n
      induction n with
      | zero => intro _; exact .inl (fun k hk => by have : k = 0 := by omega
                                                    subst this; rfl)
      | succ n ih =>
        intro hn
        rcases ih (by omega) with h | ⟨j, h1, h2, h3⟩
        · obtain ⟨y, hy⟩ : ∃ y, ml[n]? = some y := ⟨_, List.getElem?_eq_getElem (by omega)⟩
          have ht := b0h ml n y hy (h n (Nat.le_refl _))
          by_cases c : a6u ((ml.take n).map (·.lab.s)) y.lab.s = true
          · rw [if_pos c] at ht
            refine .inr ⟨n, by omega, h, fun y' hy' => ?_⟩
            rw [hy] at hy'; cases hy'
            refine ⟨c, ?_⟩
            rw [← hR]
            have := b31 (ml.take (n + 1)) (ml.drop (n + 1)) [] ht
            rw [List.take_append_drop] at this
            exact this
          · rw [if_neg c] at ht
            refine .inl (fun k hk => ?_)
            by_cases hk' : k = n + 1
            · subst hk'; exact ht
            · exact h k (by omega)
        · exact .inr ⟨j, by omega, h2, h3⟩
    rcases key ml.length (Nat.le_refl _) with h | ⟨j, h1, h2, h3⟩
    · exact ⟨ml.length, Nat.le_refl _, h, fun h' => by omega⟩
    · exact ⟨j, by omega, h2, fun _ => h3⟩
  rw [hR]
  refine ⟨plF 0 (ml.take j), fun h => ?_, ?_⟩
  · have : ¬ j < ml.length := fun hlt => by
      obtain ⟨y, hy⟩ : ∃ y, ml[j]? = some y := ⟨_, List.getElem?_eq_getElem hlt⟩
      have := (hj2 hlt y hy).2
      rw [h] at this; cases this
    rw [List.take_of_length_le (by omega)]
  have hRn : j = ml.length → R = none := fun h => by
    have := hj1 j (Nat.le_refl _)
    rw [h, List.take_length, hR] at this; exact this
  clear hR
  have p0 : plF 0 (ml.take 0) = [] := rfl
  refine e8 Tryz.func50 rfl rfl (Nat.le_of_ble_eq_true rfl) ?_
  repeat (first | refine d7 ?_ | refine b9 ?_ | refine a8 ?_ | refine b8 ?_ | refine f7 rfl ?_ | refine f6 rfl ?_ | ((first | refine d6 (fun K hK => ?_) | refine d8 f8 (fun K hK => ?_) | fail); simp -implicitDefEqProofs; first | refine hK _ ?_ | refine hK _ _ (by rfl) ?_ | fail) | fail)
  refine v7 (ι := Nat) (fun k => a0w [(0, vPt), (9, vLs ml), (10, vI (ml.length : Nat)), (11, vI (k : Nat))] [some (bxD ml 0 0), some (.mp none (plF 0 (ml.take k)))]) (fun k => k ≤ j) (fun k => ml.length - k) 0 (Nat.zero_le _) (by rw [p0]; exact i6 [0, 1] (by simp -implicitDefEqProofs) (by simp -implicitDefEqProofs) (by decide) rfl (by simp)) (fun Z hI k hk => ?_)
  by_cases hkl : k < ml.length; rotate_left
  · have e1 : j = ml.length := by omega
    have e2 : k = ml.length := by omega
    have := hRn e1
    subst this
    subst e2
    rw [e1]
    repeat (first | refine d7 ?_ | refine b9 ?_ | refine a8 ?_ | refine b8 ?_ | refine f7 rfl ?_ | refine f6 rfl ?_ | ((first | refine d6 (fun K hK => ?_) | refine d8 f8 (fun K hK => ?_) | fail); simp -implicitDefEqProofs; first | refine hK _ ?_ | refine hK _ _ (by rfl) ?_ | fail) | fail)
    refine o8 (j6 [0, 1] ?_); simp -implicitDefEqProofs [l4, g7, g9] <;> try rfl
  obtain ⟨⟨ax, al⟩, hy⟩ : ∃ a, ml[k]? = some a := ⟨_, List.getElem?_eq_getElem hkl⟩
  have hy' := (List.getElem?_eq_some_iff.1 hy).2
  have w2 : IntKind.i64.wrap ((k : Nat) + 1 : Int) = (k : Nat) + 1 := v6 _ (by omega) (by omega)
  have hlk := a4k ax.s (ml.take k) 0
  by_cases hkj : k < j
  · have h1 := hj1 (k + 1) (by omega)
    rw [b0h ml k _ hy (hj1 k (by omega)), Tr.lab] at h1
    have hno : a6u ((ml.take k).map (·.lab.s)) ax.s = false := by
      cases hq : a6u ((ml.take k).map (·.lab.s)) ax.s with
      | false => rfl
      | true => rw [hq] at h1; simp at h1
    rw [a4h.2 hno, Option.map_none] at hlk
    have hput := b1z ax.s (.c (I (k : Nat))) _ hlk
    have hsn : plF 0 (ml.take (k + 1)) = plF 0 (ml.take k) ++ [(.string ax.s, .c (I (k : Nat)))] := by
      rw [show ml.take (k + 1) = ml.take k ++ [.mk ax al] by rw [List.take_add_one, hy]; rfl, a8c]
      simp [Tr.lab, Nat.min_eq_left (Nat.le_of_lt hkl)]
    rw [← hsn] at hput
    generalize plF 0 (ml.take k) = M at hlk hput ⊢
    repeat (first | refine d7 ?_ | refine b9 ?_ | refine a8 ?_ | refine b8 ?_ | refine f7 rfl ?_ | refine f6 rfl ?_ | ((first | refine d6 (fun K hK => ?_) | refine d8 f8 (fun K hK => ?_) | fail); simp -implicitDefEqProofs [hkl, hy, hy', w2, hlk, hput]; first | refine hK _ ?_ | refine hK _ _ (by rfl) ?_ | fail) | fail)
    refine ⟨k + 1, by omega, (by dsimp only; omega), ?_⟩
    rw [hI]; exact i6 [0, 1] (by simp -implicitDefEqProofs) (by simp -implicitDefEqProofs) (by decide) rfl (by simp)
  · have hkj' : k = j := by omega
    subst hkj'
    obtain ⟨g1, g2⟩ := hj2 hkl _ hy
    rw [Tr.lab] at g1 g2
    subst g2
    obtain ⟨i, hi⟩ : ∃ i, dcl (ml.take k) ax.s = some i := by
      cases hq : dcl (ml.take k) ax.s with
      | none => rw [a4h.1 hq] at g1; cases g1
      | some i => exact ⟨i, rfl⟩
    rw [hi, Option.map_some] at hlk
    have hf := b5e ml ax al (plF 0 (ml.take k))
    generalize plF 0 (ml.take k) = M at hlk hf ⊢
    repeat' (first | refine d7 ?_ | refine b9 ?_ | refine a8 ?_ | refine b8 ?_ | refine f7 rfl ?_ | refine f6 rfl ?_ | ((first | refine d6 (fun K hK => ?_) | refine d8 f8 (fun K hK => ?_) | refine b7 (cg hf [0,1] ?_) | refine a6 (dg hf [0,1] ?_) | fail); simp -implicitDefEqProofs [hkl, hy, hy', hlk]) | refine hK _ ?_ | refine hK _ _ (by rfl) ?_ | fail)
    refine e7 (j6 [0, 1] ?_); simp -implicitDefEqProofs [l4, g7, g9] <;> try rfl
theorem dec_pl (ml : List VT) (d : VT) (h : (a1m ml d).er = 0) : (a1m ml d).pl = 0 := by
  unfold a1m at h ⊢
  split
  · rename_i c; rw [if_pos c] at h
    rw [u7] at h
    rw [a05 _ _ _ (b3m ml true d.kids [])]
    exact b3m ml true d.kids [] h
  · rename_i c; rw [if_neg c] at h
    split
    · rename_i c; rw [if_pos c] at h
      unfold vt.fnS at h ⊢
      split
      · rename_i c; rw [if_pos c] at h; exact absurd h c
      rename_i c; rw [if_neg c] at h
      split
      · rename_i c; rw [if_pos c] at h; exact absurd h c
      rename_i c; rw [if_neg c] at h
      split
      · rename_i c; rw [if_pos c] at h; exact absurd h c
      · rfl
    · rename_i c; rw [if_neg c] at h; exact b6h ml d [] h
theorem a7t (ml : List VT) : ∀ l : List VT, (a01 ml l).2.2 = 0 → (a01 ml l).2.1 = 0
  | [], _ => rfl
  | y :: r, h => by
    unfold a01 at h ⊢
    split
    · rename_i c; rw [if_pos c] at h; exact absurd h c
    · rename_i c; rw [if_neg c] at h
      split
      · rename_i d; rw [if_pos d] at h; exact absurd h d
      · rfl
theorem c4e {ml l : List VT} (h : ∀ y ∈ l, DOk ml y) : ∃ (ft : Nat → List ByteArray → VT) (fE : Nat → List ByteArray → List ByteArray), ∀ k y E, l[k]? = some y → ((a1m ml y).er = 0 → ft k E = (a1m ml y).t) ∧ Row Tryz.prog 51 [vPt, vT y] [bxS 1 2 ml 0 0 0, arS E, mpS ml] (vT (ft k E)) [some (bxS 3 2 ml 0 (a1m ml y).pl (a1m ml y).er), none, some (mpS ml), some (arS (fE k E))] := by
  have key : ∀ (k : Nat) (E : List ByteArray), ∃ t' E', ∀ y, l[k]? = some y → ((a1m ml y).er = 0 → t' = (a1m ml y).t) ∧ Row Tryz.prog 51 [vPt, vT y] [bxS 1 2 ml 0 0 0, arS E, mpS ml] (vT t') [some (bxS 3 2 ml 0 (a1m ml y).pl (a1m ml y).er), none, some (mpS ml), some (arS E')] := by
    intro k E
    by_cases hc : ∃ y, l[k]? = some y
    · obtain ⟨y, h1⟩ := hc
      obtain ⟨t', E', h4⟩ := h y (List.mem_of_getElem? h1) E
      exact ⟨t', E', fun z hz => by rw [h1] at hz; cases hz; exact h4⟩
    · exact ⟨z0T, [], fun y h1 => absurd ⟨y, h1⟩ hc⟩
  exact ⟨fun k E => Classical.choose (key k E), fun k E => Classical.choose (Classical.choose_spec (key k E)), fun k y E h1 => Classical.choose_spec (Classical.choose_spec (key k E)) y h1⟩
noncomputable def stD (ml : List VT) (ft : Nat → List ByteArray → VT) (fE : Nat → List ByteArray → List ByteArray) (k : Nat) (s : Sq) : Sq := ⟨s.acc ++ [ft k s.E], [], fE k s.E, (a1m ml (ml.getD k z0T)).pl, (a1m ml (ml.getD k z0T)).er⟩
structure InvD (ml : List VT) (a e : Int) (k : Nat) (s : Sq) : Prop where
  len : s.acc.length ≤ k
  pl : s.pl = if e = 0 then (a01 ml (ml.take k)).2.1 else a
  er : s.er = if e = 0 then (a01 ml (ml.take k)).2.2 else e
  acc : s.er = 0 → s.acc = (a01 ml (ml.take k)).1
theorem b8s {ml : List VT} {a e : Int} (ha : e = 0 → a = 0) {ft : Nat → List ByteArray → VT} {fE : Nat → List ByteArray → List ByteArray} (hf : ∀ k y E, ml[k]? = some y → (a1m ml y).er = 0 → ft k E = (a1m ml y).t) : ∀ k, k ≤ ml.length → InvD ml a e k (sqN (stD ml ft fE) ⟨[], [], [], a, e⟩ k)
  | 0, _ => ⟨Nat.le_refl _, by
      show a = _
      by_cases h : e = 0
      · rw [if_pos h, ha h]; rfl
      · rw [if_neg h], by
      show e = _
      by_cases h : e = 0
      · rw [if_pos h, h]; rfl
      · rw [if_neg h], fun _ => rfl⟩
  | k + 1, hk => by
    have ih := b8s (fE := fE) ha hf k (by omega)
    obtain ⟨y, hy⟩ : ∃ y, ml[k]? = some y := ⟨_, List.getElem?_eq_getElem (by omega)⟩
    have hgd : ml.getD k z0T = y := by rw [List.getD_eq_getElem?_getD, hy]; rfl
    have htk : ml.take (k + 1) = ml.take k ++ [y] := by rw [List.take_add_one, hy]; rfl
    have hs := a6n ml y (ml.take k)
    rw [← htk] at hs
    unfold sqN
    generalize sqN (stD ml ft fE) ⟨[], [], [], a, e⟩ k = s at ih
    obtain ⟨len, pl, er, acc⟩ := ih
    by_cases h : s.er = 0
    · rw [if_pos h]
      unfold stD
      rw [hgd]
      by_cases h0 : e = 0
      · rw [if_pos h0] at pl er
        rw [if_neg (by rw [← er]; simpa using h)] at hs
        by_cases h2 : (a1m ml y).er = 0
        · rw [if_neg (by simpa using h2)] at hs
          refine ⟨by simp; omega, ?_, ?_, fun _ => ?_⟩
          · dsimp only; rw [if_pos h0, hs]; exact dec_pl ml y h2
          · dsimp only; rw [if_pos h0, hs]; exact h2
          · dsimp only; rw [hs, acc h, hf k y s.E hy h2]
        · rw [if_pos h2] at hs
          refine ⟨by simp; omega, ?_, ?_, fun h3 => absurd h3 h2⟩
          · dsimp only; rw [if_pos h0, hs]
          · dsimp only; rw [if_pos h0, hs]
      · rw [if_neg h0] at er
        exact absurd (er ▸ h) h0
    · rw [if_neg h]
      refine ⟨by omega, ?_, ?_, fun h3 => absurd h3 h⟩
      · by_cases h0 : e = 0
        · rw [if_pos h0] at pl er ⊢
          rw [hs, if_pos (by rw [← er]; exact h)]; exact pl
        · rw [if_neg h0] at pl ⊢; exact pl
      · by_cases h0 : e = 0
        · rw [if_pos h0] at er ⊢
          rw [hs, if_pos (by rw [← er]; exact h)]; exact er
        · rw [if_neg h0] at er ⊢; exact er
theorem c1r (x : Lab) (ml : List VT) (hml : ml.length ≤ 100000) (hd : ∀ d ∈ ml, DOk ml d) : Row Tryz.prog 32 [vT (.mk x ml)] [] (vT3i ((b5a x ml).t, (b5a x ml).pl, (b5a x ml).er)) [] := by
  obtain ⟨M, hM, hdr⟩ := b8g ml hml
  obtain ⟨ft, fE, hf⟩ := c4e hd
  obtain ⟨a0, e0, hdr, hae, hM0, htw⟩ : ∃ a0 e0 : Int, Row Tryz.prog 50 [vPt] [bxD ml 0 0, .mp none []] (.tup []) [some (bxD ml a0 e0), some (.mp none M)] ∧ (e0 = 0 → a0 = 0) ∧ (e0 = 0 → M = plF 0 ml) ∧ ((e0 = 9 ∧ b5a x ml = ⟨z0T, a0, 9⟩) ∨ (e0 = 0 ∧ b5a x ml = a2d ⟨x.k, x.n, ⟨#[]⟩, x.f, x.t⟩ [] (a01 ml ml))) := by
    have hres : b5a x ml = match a50 [] ml with | some f => ⟨z0T, f, 9⟩ | none => a2d ⟨x.k, x.n, ⟨#[]⟩, x.f, x.t⟩ [] (a01 ml ml) := rfl
    cases ht : a50 [] ml with
    | some f =>
      rw [ht] at hdr hres
      exact ⟨f, 9, hdr, fun h => absurd h (by decide), fun h => absurd h (by decide), .inl ⟨rfl, hres⟩⟩
    | none =>
      rw [ht] at hdr hres
      exact ⟨0, 0, hdr, fun _ => rfl, fun _ => hM ht, .inr ⟨rfl, hres⟩⟩
  have hinv := b8s (ml := ml) (fE := fE) hae (fun k y E h1 h2 => (hf k y E h1).1 h2)
  have hstp : ∀ k, sqN (stD ml ft fE) ⟨[], [], [], a0, e0⟩ (k + 1) = if (sqN (stD ml ft fE) ⟨[], [], [], a0, e0⟩ k).er = 0 then stD ml ft fE k (sqN (stD ml ft fE) ⟨[], [], [], a0, e0⟩ k) else sqN (stD ml ft fE) ⟨[], [], [], a0, e0⟩ k := fun k => rfl
  have h00 : sqN (stD ml ft fE) ⟨[], [], [], a0, e0⟩ 0 = ⟨[], [], [], a0, e0⟩ := rfl
  obtain ⟨S, hS⟩ : ∃ S, sqN (stD ml ft fE) ⟨[], [], [], a0, e0⟩ = S := ⟨_, rfl⟩
  rw [hS] at hinv hstp h00
  have hend := hinv ml.length (Nat.le_refl _)
  have e1 := hend.pl
  have e2 := hend.er
  have e3 := hend.acc
  rw [List.take_length] at e1 e2 e3
  have hfin : ((S ml.length).er ≠ 0 → (b5a x ml).t = z0T) ∧ ((S ml.length).er = 0 → (b5a x ml).t = .mk ⟨x.k, x.n, ⟨#[]⟩, x.f, x.t⟩ (S ml.length).acc) ∧ (b5a x ml).pl = (S ml.length).pl ∧ (b5a x ml).er = (S ml.length).er := by
    rcases htw with ⟨h9, hres⟩ | ⟨h9, hres⟩
    · have hne : e0 ≠ 0 := by rw [h9]; decide
      rw [if_neg hne] at e1 e2
      rw [hres, e1, e2, h9]
      exact ⟨fun _ => rfl, fun h => absurd h (by decide), rfl, rfl⟩
    · rw [if_pos h9] at e1 e2
      rw [hres, u7, a05 _ _ _ (a7t ml ml), e1, e2]
      refine ⟨fun h => ?_, fun h => ?_, rfl, rfl⟩
      · unfold a2d; rw [if_pos h]
      · rw [a33 _ _ _ h, List.nil_append, e3 (by rw [e2]; exact h)]
  obtain ⟨f1, f2, f3, f4⟩ := hfin
  rw [f3, f4]
  generalize (b5a x ml).t = rt at f1 f2 ⊢
  clear hend e1 e2 e3 hS f3 f4 hM htw
  have c1 : (S 0).acc = [] := by rw [h00]
  have c2 : (S 0).E = [] := by rw [h00]
  have c3 : (S 0).pl = a0 := by rw [h00]
  have c4 : (S 0).er = e0 := by rw [h00]
  have hst : ∀ k, e0 ≠ 0 → k ≤ ml.length → (S k).er ≠ 0 := fun k h hk => by rw [(hinv k hk).er, if_neg h]; exact h
  refine e8 Tryz.func32 rfl rfl (Nat.le_of_ble_eq_true rfl) ?_
  repeat' (first | refine d7 ?_ | refine b9 ?_ | refine a8 ?_ | refine b8 ?_ | refine f7 rfl ?_ | refine f6 rfl ?_ | ((first | refine d6 (fun K hK => ?_) | refine d8 f8 (fun K hK => ?_) | refine b7 (cg hdr [8,6] ?_) | refine a6 (dg hdr [8,6] ?_) | fail); simp -implicitDefEqProofs) | refine hK _ ?_ | refine hK _ _ (by rfl) ?_ | fail)
  clear hdr
  refine a2u 8 2 _ 9 1 rfl rfl (by dsimp only; omega) ?_
  simp [St.nilca]
  refine l9 30 8 2 _ 9 1 0 [] rfl rfl (.inl rfl) (by dsimp only; omega) (by dsimp only; omega) ?_
  simp [St.mvw]
  refine a3k 20 3 _ 24 6 rfl rfl (by dsimp only; omega) ?_
  simp [St.nilc]
  refine v7 (ι := Nat) (fun k => a0w [(1, .v (.c (.ptr 0 0))), (2, .v (.c (.ptr 1 0))), (3, vI 0), (4, vI 0), (5, .v (.c (.ptr 2 0))), (6, .v (.c (.ptr 5 0))), (20, vLs ml), (21, vI (ml.length : Nat)), (22, vI (k : Nat))] [some (.box (ta (.mk x ml))), some zTb, some (.box [.pv (.sl 6 (ml.map tc)), .map 4, .vw 3 1 0 0, .pv (I (S k).pl), .pv (I (S k).er)]), some (arS (S k).E), some (.mp none M), some (.box [.pv (I x.k), .pv (I x.n), .pv (Sx ⟨#[]⟩), .row 6 6 ((S k).acc.map tc), .pv (I x.f), .pv (I x.t)]), some (.row 24 6)]) (fun k => k ≤ ml.length) (fun k => ml.length - k) 0 (Nat.zero_le _) (by rw [c1, c2, c3, c4]; exact i6 [0, 1, 8, 31, 6, 20, 32] (by simp -implicitDefEqProofs) (by simp -implicitDefEqProofs) (by decide) rfl (by simp)) (fun Z hI k hk => ?_)
  by_cases hkl : k < ml.length; rotate_left
  · have : k = ml.length := by omega
    subst this
    by_cases hq : (S ml.length).er = 0
    · have := f2 hq
      subst this
      have hp : (S ml.length).pl = 0 := by
        have h1 := hinv ml.length (Nat.le_refl _)
        by_cases h0 : e0 = 0
        · rw [h1.pl, if_pos h0]; exact a7t ml _ (by have := h1.er; rw [if_pos h0] at this; rw [← this]; exact hq)
        · exact absurd hq (hst _ h0 (Nat.le_refl _))
      rw [hq, hp]
      repeat (first | refine d7 ?_ | refine b9 ?_ | refine a8 ?_ | refine b8 ?_ | refine f7 rfl ?_ | refine f6 rfl ?_ | ((first | refine d6 (fun K hK => ?_) | refine d8 f8 (fun K hK => ?_) | fail); simp -implicitDefEqProofs; first | refine hK _ ?_ | refine hK _ _ (by rfl) ?_ | fail) | fail)
      refine e7 (e9 ?_); simp -implicitDefEqProofs [j9, g7, g9] <;> try rfl
    · have := f1 hq
      subst this
      repeat (first | refine d7 ?_ | refine b9 ?_ | refine a8 ?_ | refine b8 ?_ | refine f7 rfl ?_ | refine f6 rfl ?_ | ((first | refine d6 (fun K hK => ?_) | refine d8 f8 (fun K hK => ?_) | fail); simp -implicitDefEqProofs [hq]; first | refine hK _ ?_ | refine hK _ _ (by rfl) ?_ | fail) | fail)
      refine e7 (e9 ?_); simp -implicitDefEqProofs [j9, g7, g9] <;> try rfl
  clear f1 f2
  obtain ⟨⟨ax, al⟩, hy⟩ : ∃ a, ml[k]? = some a := ⟨_, List.getElem?_eq_getElem hkl⟩
  have hy' := (List.getElem?_eq_some_iff.1 hy).2
  have w2 : IntKind.i64.wrap ((k : Nat) + 1 : Int) = (k : Nat) + 1 := v6 _ (by omega) (by omega)
  have hs := hstp k
  have hi := hinv k hk
  have hgd : ml.getD k z0T = .mk ax al := by rw [List.getD_eq_getElem?_getD, hy]; rfl
  by_cases hq : (S k).er = 0
  · have h0 : e0 = 0 := by
      by_cases h0 : e0 = 0
      · exact h0
      · exact absurd hq (hst _ h0 hk)
    have hp : (S k).pl = 0 := by
      rw [hi.pl, if_pos h0]; exact a7t ml _ (by have := hi.er; rw [if_pos h0] at this; rw [← this]; exact hq)
    have hMM := hM0 h0
    subst hMM
    have hr := (hf k _ (S k).E hy).2
    have len := hi.len
    rw [if_pos hq] at hs
    unfold stD at hs
    rw [hgd] at hs
    rw [hq, hp]
    obtain ⟨⟨tx, tl⟩, ht⟩ : ∃ t, ft k (S k).E = t := ⟨_, rfl⟩
    rw [ht] at hr hs
    obtain ⟨E2, hE2⟩ : ∃ E2, fE k (S k).E = E2 := ⟨_, rfl⟩
    rw [hE2] at hr hs
    generalize (S k).E = E1 at hr ⊢
    generalize (a1m ml (.mk ax al)).pl = p2 at hr hs
    generalize (a1m ml (.mk ax al)).er = q2 at hr hs
    generalize (S k).acc = acc at hs len ⊢
    have b1 : (acc.length + 1) * 72 ≤ 140737488355328 := by omega
    have b2 : acc.length + 1 ≤ 140737488355328 := by omega
    clear hM0 hst hinv hstp h00 c1 c2 c3 c4 hi
    repeat' (first | refine d7 ?_ | refine b9 ?_ | refine a8 ?_ | refine b8 ?_ | refine f7 rfl ?_ | refine f6 rfl ?_ | ((first | refine d6 (fun K hK => ?_) | refine d8 f8 (fun K hK => ?_) | refine b7 (cgS hr 2 rfl ?_) | refine a6 (dgS hr 2 rfl ?_) | fail); simp -implicitDefEqProofs [hkl, hy, hy', w2, b1, b2]) | refine hK _ ?_ | refine hK _ _ (by rfl) ?_ | fail)
    refine ⟨k + 1, by omega, (by dsimp only; omega), ?_⟩
    rw [hI, hs]; exact i6 [0, 1, 2, 49, 4, 5, 65] (by simp -implicitDefEqProofs) (by simp -implicitDefEqProofs) (by decide) rfl (by simp)
  · rw [if_neg hq] at hs
    repeat (first | refine d7 ?_ | refine b9 ?_ | refine a8 ?_ | refine b8 ?_ | refine f7 rfl ?_ | refine f6 rfl ?_ | ((first | refine d6 (fun K hK => ?_) | refine d8 f8 (fun K hK => ?_) | fail); simp -implicitDefEqProofs [hkl, hy, hy', w2, hq]; first | refine hK _ ?_ | refine hK _ _ (by rfl) ?_ | fail) | fail)
    refine ⟨k + 1, by omega, (by dsimp only; omega), ?_⟩
    rw [hI, hs]; exact i6 [0, 1, 2, 3, 4, 5, 6] (by simp -implicitDefEqProofs) (by simp -implicitDefEqProofs) (by decide) rfl (by simp)
end Go.Proofs.YthmdllhhmhbhbaaGreatDoor.am
end
section
namespace Go.Proofs.YthmdllhhmhbhbaaGreatDoor.vt
open Go.Proofs.YthmdllhhmhbhbaaGreatDoor.am
set_option linter.unusedVariables false
structure Tok where
  k : Int
  n : Int
  s : ByteArray
  f : Int
  t : Int
def kc (x : Tok) : List PV := [I x.k, I x.n, Sx x.s, I x.f, I x.t]
abbrev vK (x : Tok) : AV := .v (.agg [.pv (I x.k), .pv (I x.n), .pv (Sx x.s), .pv (I x.f), .pv (I x.t)])
abbrev vKs (l : List Tok) : AV := .v (.c (.pv (.sl 5 (l.map kc))))
def endK : Tok := ⟨5, 0, ⟨#[]⟩, 0, 0⟩
def zK : Tok := ⟨0, 0, ⟨#[]⟩, 0, 0⟩
def nxt (ts : List Tok) (i : Nat) : Tok := match ts[i]? with | some x => x | none => endK
theorem a4j {ts : List Tok} {i : Nat} {x : Tok} (h : ts[i]? = some x) : nxt ts i = x := by unfold nxt; rw [h]
theorem b3j {ts : List Tok} {i : Nat} (h : ts.length ≤ i) : nxt ts i = endK := by unfold nxt; rw [List.getElem?_eq_none h]
abbrev rd (ts : List Tok) (i : Nat) (e : Int) : AO := .box [.pv (.sl 5 (ts.map kc)), .pv (I i), .pv (I e)]
def quo (s : ByteArray) : Int := match s.data.toList with | c :: _ => if 97 ≤ c.toNat ∧ c.toNat ≤ 122 then 3 else 4 | [] => 4
def isK (s : ByteArray) (x : Tok) : Bool := decide (x.k = quo s) && decide (x.s = s)
theorem quo_34 (s : ByteArray) : quo s = 3 ∨ quo s = 4 := by
  unfold quo; split
  · split
    · exact .inl rfl
    · exact .inr rfl
  · exact .inr rfl
theorem c4t (s : ByteArray) : isK s endK = false := by
  unfold isK endK
  rcases quo_34 s with h | h <;> rw [h] <;> rfl
theorem a6x {s : ByteArray} {ts : List Tok} {i : Nat} (h : isK s (nxt ts i) = true) : ∃ x, ts[i]? = some x ∧ isK s x = true := by
  unfold nxt at h
  cases hx : ts[i]? with
  | none => rw [hx] at h; dsimp only at h; rw [c4t] at h; cases h
  | some x => rw [hx] at h; exact ⟨x, rfl, h⟩
def er (e : Int) : Int := if e = 0 then 6 else e
def frT (ts : List Tok) (i : Nat) : Int := (nxt ts i).f
def toT (ts : List Tok) (i : Nat) : Int := (nxt ts i).t
abbrev b9w : ByteArray := ⟨#[105, 110, 116]⟩
abbrev b0s : ByteArray := ⟨#[98, 111, 111, 108]⟩
abbrev b17 : ByteArray := ⟨#[91]⟩
abbrev b18 : ByteArray := ⟨#[93]⟩
def z0 : VT := .mk ⟨0, 0, ⟨#[]⟩, 0, 0⟩ []
def tyG (ts : List Tok) : Nat → Nat → VT × Nat × Int
  | 0, i => (z0, i, 6)
  | n + 1, i =>
    if isK b9w (nxt ts i) = true then (.mk ⟨1, 0, ⟨#[]⟩, frT ts i, toT ts i⟩ [], i + 1, 0)
    else if isK b0s (nxt ts i) = true then (.mk ⟨2, 0, ⟨#[]⟩, frT ts i, toT ts i⟩ [], i + 1, 0)
    else if isK b17 (nxt ts i) = true then
      if (nxt ts (i + 1)).k = 2 then
        if isK b18 (nxt ts (i + 2)) = true then
          if (tyG ts n (i + 3)).2.2 = 0 then (.mk ⟨3, (nxt ts (i + 1)).n, ⟨#[]⟩, frT ts i, toT ts ((tyG ts n (i + 3)).2.1 - 1)⟩ [(tyG ts n (i + 3)).1], (tyG ts n (i + 3)).2.1, 0)
          else tyG ts n (i + 3)
        else (z0, i + 2, 6)
      else (z0, i + 1, 6)
    else if (nxt ts i).k = 1 then (.mk ⟨4, 0, (nxt ts i).s, frT ts i, toT ts i⟩ [], i + 1, 0)
    else (z0, i, 6)
theorem c3f (ts : List Tok) : ∀ n i, ((tyG ts n i).2.2 = 0 → i < (tyG ts n i).2.1 ∧ (tyG ts n i).2.1 ≤ ts.length) ∧ ((tyG ts n i).2.2 ≠ 0 → (tyG ts n i).2.2 = 6 ∧ (tyG ts n i).1 = z0) ∧ (i ≤ ts.length → (tyG ts n i).2.1 ≤ ts.length) ∧ (tyG ts n i).1.size ≤ n + 1 := by
  have hlt : ∀ {s : ByteArray} {i : Nat}, isK s (nxt ts i) = true → i < ts.length := fun {s i} h => by
    obtain ⟨x, h1, _⟩ := a6x h
    exact (List.getElem?_eq_some_iff.1 h1).1
  have hlk : ∀ {k : Int} {i : Nat}, (nxt ts i).k = k → k ≠ 5 → i < ts.length := fun {k i} h hk => by
    rcases Nat.lt_or_ge i ts.length with h1 | h1
    · exact h1
    · rw [b3j h1] at h; exact absurd h.symm hk
  intro n
  induction n with
  | zero => intro i; simp [tyG, z0, Tr.size_mk]
  | succ n ih =>
    intro i
    unfold tyG
    split
    · rename_i h; have := hlt h; simp [Tr.size_mk]; omega
    · split
      · rename_i h; have := hlt h; simp [Tr.size_mk]; omega
      · split
        · rename_i h0
          have h0 := hlt h0
          split
          · rename_i h1
            have h1 := hlk h1 (by omega)
            split
            · rename_i h2
              have h2 := hlt h2
              obtain ⟨a1, a2, a3, a4⟩ := ih (i + 3)
              split
              · rename_i h3
                have := a1 h3
                simp [Tr.size_mk]; omega
              · rename_i h3
                exact ⟨fun h => absurd h h3, fun h => a2 h, fun h => a3 (by omega), by omega⟩
            · simp [z0, Tr.size_mk]; omega
          · simp [z0, Tr.size_mk]; omega
        · split
          · rename_i h; have := hlk h (by omega); simp [Tr.size_mk]; omega
          · simp [z0, Tr.size_mk]
end Go.Proofs.YthmdllhhmhbhbaaGreatDoor.vt
end
section
namespace Go.Proofs.YthmdllhhmhbhbaaGreatDoor.am
open Go.ChangeShapes Go.WideShapes Go.ChangeAt Go.RowKit
open vt
set_option linter.unusedVariables false
set_option linter.unusedSimpArgs false
theorem td_tok : td Tryz.prog 71 = some ⟨true, 5, 48, [.lit (.int .i64 0), .lit (.int .i64 0), .lit (.string ⟨#[]⟩), .lit (.int .i64 0), .lit (.int .i64 0)], [(0, 1, false), (1, 1, false), (2, 1, false), (3, 1, false), (4, 1, false)], .struct⟩ := Eq.trans (by kernel_rfl) (Eq.refl _)
theorem td_toks : td Tryz.prog 60 = some ⟨false, 1, 24, [.nilS], [], (.slice 71)⟩ := Eq.trans (by kernel_rfl) (Eq.refl _)
theorem td_errno : td Tryz.prog 27 = some ⟨false, 1, 8, [.lit (.int .i64 0)], [], (.int .i64)⟩ := Eq.trans (by kernel_rfl) (Eq.refl _)
attribute [simp] td_tok td_toks td_errno
attribute [simp] kc
theorem c5z {ts : List Tok} {n i : Nat} (h : isK b9w (nxt ts i) = true) : tyG ts (n + 1) i = (.mk ⟨1, 0, ⟨#[]⟩, frT ts i, toT ts i⟩ [], i + 1, 0) := by rw [tyG, if_pos h]
theorem c1y {ts : List Tok} {n i : Nat} (h1 : isK b9w (nxt ts i) = false) (h : isK b0s (nxt ts i) = true) : tyG ts (n + 1) i = (.mk ⟨2, 0, ⟨#[]⟩, frT ts i, toT ts i⟩ [], i + 1, 0) := by rw [tyG, if_neg (by simp [h1]), if_pos h]
theorem c5y {ts : List Tok} {n i : Nat} (h1 : isK b9w (nxt ts i) = false) (h2 : isK b0s (nxt ts i) = false) (h : isK b17 (nxt ts i) = true) : tyG ts (n + 1) i =
      if (nxt ts (i + 1)).k = 2 then
        if isK b18 (nxt ts (i + 2)) = true then
          if (tyG ts n (i + 3)).2.2 = 0 then (.mk ⟨3, (nxt ts (i + 1)).n, ⟨#[]⟩, frT ts i, toT ts ((tyG ts n (i + 3)).2.1 - 1)⟩ [(tyG ts n (i + 3)).1], (tyG ts n (i + 3)).2.1, 0)
          else tyG ts n (i + 3)
        else (z0, i + 2, 6)
      else (z0, i + 1, 6) := by rw [tyG, if_neg (by simp [h1]), if_neg (by simp [h2]), if_pos h]
theorem c50 {ts : List Tok} {n i : Nat} (h1 : isK b9w (nxt ts i) = false) (h2 : isK b0s (nxt ts i) = false) (h3 : isK b17 (nxt ts i) = false) : tyG ts (n + 1) i = if (nxt ts i).k = 1 then (.mk ⟨4, 0, (nxt ts i).s, frT ts i, toT ts i⟩ [], i + 1, 0) else (z0, i, 6) := by rw [tyG, if_neg (by simp [h1]), if_neg (by simp [h2]), if_neg (by simp [h3])]
theorem b1t {ts : List Tok} {i : Nat} {k : Int} (h : (nxt ts i).k = k) (hk : k ≠ 5) : ∃ x, ts[i]? = some x ∧ nxt ts i = x ∧ x.k = k := by
  unfold nxt at h ⊢
  cases hx : ts[i]? with
  | none => rw [hx] at h; exact absurd h.symm hk
  | some x => rw [hx] at h; exact ⟨x, rfl, rfl, h⟩
theorem td_rdr : td Tryz.prog 64 = some ⟨true, 3, 40, [.nilS, .lit (.int .i64 0), .lit (.int .i64 0)], [(0, 1, false), (1, 1, false), (2, 1, false)], .struct⟩ := Eq.trans (by kernel_rfl) (Eq.refl _)
theorem td_u8 : td Tryz.prog 5 = some ⟨false, 1, 1, [.lit (.int .u8 0)], [], (.int .u8)⟩ := Eq.trans (by kernel_rfl) (Eq.refl _)
attribute [simp] td_rdr td_u8
theorem c2x (ts : List Tok) (i : Nat) (e : Int) (ρ : Nat → Nat) : (rd ts i e).ren ρ = rd ts i e := rfl
abbrev vR : AV := .v (.c (.ptr 0 0))
theorem u9 (ts : List Tok) (i : Nat) (e : Int) : Row Tryz.prog 45 [vR] [rd ts i e] (vB (decide (e = 0))) [some (rd ts i e)] := by
  refine e8 Tryz.func45 rfl rfl (Nat.le_of_ble_eq_true rfl) ?_
  repeat (first | refine d7 ?_ | refine b9 ?_ | refine a8 ?_ | refine b8 ?_ | refine f7 rfl ?_ | refine f6 rfl ?_ | ((first | refine d6 (fun K hK => ?_) | refine d8 f8 (fun K hK => ?_) | fail); simp -implicitDefEqProofs; first | refine hK _ ?_ | refine hK _ _ (by rfl) ?_ | fail) | fail)
  refine e7 (i8 ?_); simp -implicitDefEqProofs [x7, g7, g9] <;> try rfl
theorem a28 (ts : List Tok) (i : Nat) (e : Int) : Row Tryz.prog 66 [vR] [rd ts i e] (vI i) [some (rd ts i e)] := by
  refine e8 Tryz.func66 rfl rfl (Nat.le_of_ble_eq_true rfl) ?_
  repeat (first | refine d7 ?_ | refine b9 ?_ | refine a8 ?_ | refine b8 ?_ | refine f7 rfl ?_ | refine f6 rfl ?_ | ((first | refine d6 (fun K hK => ?_) | refine d8 f8 (fun K hK => ?_) | fail); simp -implicitDefEqProofs; first | refine hK _ ?_ | refine hK _ _ (by rfl) ?_ | fail) | fail)
  refine e7 (i8 ?_); simp -implicitDefEqProofs [x7, g7, g9] <;> try rfl
theorem c4h (ts : List Tok) (i : Nat) (e : Int) : Row Tryz.prog 48 [vR] [rd ts i e] (vI e) [some (rd ts i e)] := by
  refine e8 Tryz.func48 rfl rfl (Nat.le_of_ble_eq_true rfl) ?_
  repeat (first | refine d7 ?_ | refine b9 ?_ | refine a8 ?_ | refine b8 ?_ | refine f7 rfl ?_ | refine f6 rfl ?_ | ((first | refine d6 (fun K hK => ?_) | refine d8 f8 (fun K hK => ?_) | fail); simp -implicitDefEqProofs; first | refine hK _ ?_ | refine hK _ _ (by rfl) ?_ | fail) | fail)
  refine e7 (i8 ?_); simp -implicitDefEqProofs [x7, g7, g9] <;> try rfl
theorem a24 (ts : List Tok) (i : Nat) (e : Int) : Row Tryz.prog 46 [vR] [rd ts i e] (vK (nxt ts i)) [some (rd ts i e)] := by
  by_cases h : i < ts.length
  · obtain ⟨x, hx⟩ : ∃ x, ts[i]? = some x := ⟨_, List.getElem?_eq_getElem h⟩
    have hx' := (List.getElem?_eq_some_iff.1 hx).2
    rw [a4j hx]
    refine e8 Tryz.func46 rfl rfl (Nat.le_of_ble_eq_true rfl) ?_
    repeat (first | refine d7 ?_ | refine b9 ?_ | refine a8 ?_ | refine b8 ?_ | refine f7 rfl ?_ | refine f6 rfl ?_ | ((first | refine d6 (fun K hK => ?_) | refine d8 f8 (fun K hK => ?_) | fail); simp -implicitDefEqProofs [h, hx, hx']; first | refine hK _ ?_ | refine hK _ _ (by rfl) ?_ | fail) | fail)
    refine e7 (i8 ?_); simp -implicitDefEqProofs [x7, g7, g9] <;> try rfl
  · rw [b3j (by omega)]
    refine e8 Tryz.func46 rfl rfl (Nat.le_of_ble_eq_true rfl) ?_
    repeat (first | refine d7 ?_ | refine b9 ?_ | refine a8 ?_ | refine b8 ?_ | refine f7 rfl ?_ | refine f6 rfl ?_ | ((first | refine d6 (fun K hK => ?_) | refine d8 f8 (fun K hK => ?_) | fail); simp -implicitDefEqProofs [h]; first | refine hK _ ?_ | refine hK _ _ (by rfl) ?_ | fail) | fail)
    refine e7 (i8 ?_); simp -implicitDefEqProofs [x7, g7, g9, endK] <;> try rfl
theorem a65 (ts : List Tok) (i : Nat) (e : Int) : Row Tryz.prog 126 [vR] [rd ts i e] (.tup []) [some (rd ts i (er e))] := by
  have hg := u9 ts i e
  by_cases h : e = 0
  · subst h
    refine e8 Tryz.func126 rfl rfl (Nat.le_of_ble_eq_true rfl) ?_
    repeat' (first | refine d7 ?_ | refine b9 ?_ | refine a8 ?_ | refine b8 ?_ | refine f7 rfl ?_ | refine f6 rfl ?_ | ((first | refine d6 (fun K hK => ?_) | refine d8 f8 (fun K hK => ?_) | refine b7 (cb hg 0 ?_) | refine a6 (db hg 0 ?_) | fail); simp -implicitDefEqProofs) | refine hK _ ?_ | refine hK _ _ (by rfl) ?_ | fail)
    refine o8 (i8 ?_); simp -implicitDefEqProofs [x7, g7, g9, er] <;> try rfl
  · refine e8 Tryz.func126 rfl rfl (Nat.le_of_ble_eq_true rfl) ?_
    repeat' (first | refine d7 ?_ | refine b9 ?_ | refine a8 ?_ | refine b8 ?_ | refine f7 rfl ?_ | refine f6 rfl ?_ | ((first | refine d6 (fun K hK => ?_) | refine d8 f8 (fun K hK => ?_) | refine b7 (cb hg 0 ?_) | refine a6 (db hg 0 ?_) | fail); simp -implicitDefEqProofs [h]) | refine hK _ ?_ | refine hK _ _ (by rfl) ?_ | fail)
    refine o8 (i8 ?_); simp -implicitDefEqProofs [x7, g7, g9, er, h] <;> try rfl
theorem b3v (ts : List Tok) (i : Nat) (e : Int) (hl : ts.length ≤ 9223372036854775807) : Row Tryz.prog 118 [vR] [rd ts i e] (.tup []) [some (rd ts (if e = 0 ∧ i < ts.length then i + 1 else i) e)] := by
  have hg := u9 ts i e
  by_cases h : e = 0
  · subst h
    by_cases hi : i < ts.length
    · have w : IntKind.i64.wrap ((i : Nat) + 1 : Int) = (i : Nat) + 1 := v6 _ (by omega) (by omega)
      refine e8 Tryz.func118 rfl rfl (Nat.le_of_ble_eq_true rfl) ?_
      repeat' (first | refine d7 ?_ | refine b9 ?_ | refine a8 ?_ | refine b8 ?_ | refine f7 rfl ?_ | refine f6 rfl ?_ | ((first | refine d6 (fun K hK => ?_) | refine d8 f8 (fun K hK => ?_) | refine b7 (cb hg 0 ?_) | refine a6 (db hg 0 ?_) | fail); simp -implicitDefEqProofs [hi, w]) | refine hK _ ?_ | refine hK _ _ (by rfl) ?_ | fail)
      refine o8 (i8 ?_); simp -implicitDefEqProofs [x7, g7, g9, hi] <;> try rfl
    · refine e8 Tryz.func118 rfl rfl (Nat.le_of_ble_eq_true rfl) ?_
      repeat' (first | refine d7 ?_ | refine b9 ?_ | refine a8 ?_ | refine b8 ?_ | refine f7 rfl ?_ | refine f6 rfl ?_ | ((first | refine d6 (fun K hK => ?_) | refine d8 f8 (fun K hK => ?_) | refine b7 (cb hg 0 ?_) | refine a6 (db hg 0 ?_) | fail); simp -implicitDefEqProofs [hi]) | refine hK _ ?_ | refine hK _ _ (by rfl) ?_ | fail)
      refine o8 (i8 ?_); simp -implicitDefEqProofs [x7, g7, g9, hi] <;> try rfl
  · refine e8 Tryz.func118 rfl rfl (Nat.le_of_ble_eq_true rfl) ?_
    repeat' (first | refine d7 ?_ | refine b9 ?_ | refine a8 ?_ | refine b8 ?_ | refine f7 rfl ?_ | refine f6 rfl ?_ | ((first | refine d6 (fun K hK => ?_) | refine d8 f8 (fun K hK => ?_) | refine b7 (cb hg 0 ?_) | refine a6 (db hg 0 ?_) | fail); simp -implicitDefEqProofs [h]) | refine hK _ ?_ | refine hK _ _ (by rfl) ?_ | fail)
    refine o8 (i8 ?_); simp -implicitDefEqProofs [x7, g7, g9, h] <;> try rfl
theorem b47 (s : ByteArray) (hs : s.size ≤ 1000) : Row Tryz.prog 160 [vS s] [] (vI (quo s)) [] := by
  by_cases h0 : s = ⟨#[]⟩
  · subst h0
    refine e8 Tryz.func160 rfl rfl (Nat.le_of_ble_eq_true rfl) ?_
    repeat (first | refine d7 ?_ | refine b9 ?_ | refine a8 ?_ | refine b8 ?_ | refine f7 rfl ?_ | refine f6 rfl ?_ | ((first | refine d6 (fun K hK => ?_) | refine d8 f8 (fun K hK => ?_) | fail); simp -implicitDefEqProofs; first | refine hK _ ?_ | refine hK _ _ (by rfl) ?_ | fail) | fail)
    refine e7 (e9 ?_); simp -implicitDefEqProofs [j9, g7, g9, quo] <;> try rfl
  obtain ⟨c, l, e3, e2⟩ : ∃ c l, s.data.toList = c :: l ∧ s[0]? = some c := by
    obtain ⟨⟨l⟩⟩ := s
    cases l with
    | nil => exact absurd rfl h0
    | cons c l => exact ⟨c, l, rfl, rfl⟩
  have hq : quo s = if 97 ≤ c.toNat ∧ c.toNat ≤ 122 then 3 else 4 := by unfold quo; rw [e3]
  rw [hq]
  clear e3 hq
  refine e8 Tryz.func160 rfl rfl (Nat.le_of_ble_eq_true rfl) ?_
  by_cases h1 : 97 ≤ c.toNat
  · have h1' : (97 : Int) ≤ c.toNat := by omega
    by_cases h2 : c.toNat ≤ 122
    · have h2' : (c.toNat : Int) ≤ 122 := by omega
      repeat (first | refine d7 ?_ | refine b9 ?_ | refine a8 ?_ | refine b8 ?_ | refine f7 rfl ?_ | refine f6 rfl ?_ | ((first | refine d6 (fun K hK => ?_) | refine d8 f8 (fun K hK => ?_) | fail); simp -implicitDefEqProofs [h0, e2, h1, h2, h1', h2']; first | refine hK _ ?_ | refine hK _ _ (by rfl) ?_ | fail) | fail)
      refine e7 (e9 ?_); simp -implicitDefEqProofs [j9, g7, g9, h1, h2] <;> try rfl
    · have h2' : ¬ (c.toNat : Int) ≤ 122 := by omega
      repeat (first | refine d7 ?_ | refine b9 ?_ | refine a8 ?_ | refine b8 ?_ | refine f7 rfl ?_ | refine f6 rfl ?_ | ((first | refine d6 (fun K hK => ?_) | refine d8 f8 (fun K hK => ?_) | fail); simp -implicitDefEqProofs [h0, e2, h1, h2, h1', h2']; first | refine hK _ ?_ | refine hK _ _ (by rfl) ?_ | fail) | fail)
      refine e7 (e9 ?_); simp -implicitDefEqProofs [j9, g7, g9, h1, h2] <;> try rfl
  · have h1' : ¬ (97 : Int) ≤ c.toNat := by omega
    repeat (first | refine d7 ?_ | refine b9 ?_ | refine a8 ?_ | refine b8 ?_ | refine f7 rfl ?_ | refine f6 rfl ?_ | ((first | refine d6 (fun K hK => ?_) | refine d8 f8 (fun K hK => ?_) | fail); simp -implicitDefEqProofs [h0, e2, h1, h1']; first | refine hK _ ?_ | refine hK _ _ (by rfl) ?_ | fail) | fail)
    refine e7 (e9 ?_); simp -implicitDefEqProofs [j9, g7, g9, h1] <;> try rfl
theorem b7m (ts : List Tok) (i : Nat) (e : Int) (s : ByteArray) (hs : s.size ≤ 1000) : Row Tryz.prog 117 [vR, vS s] [rd ts i e] (vB (decide (e = 0) && isK s (nxt ts i))) [some (rd ts i e)] := by
  have h1 := a24 ts i e
  have h2 := u9 ts i e
  have h3 := b47 s hs
  obtain ⟨⟨k, n, x, f, t⟩, hx⟩ : ∃ x, nxt ts i = x := ⟨_, rfl⟩
  rw [hx] at h1 ⊢
  refine e8 Tryz.func117 rfl rfl (Nat.le_of_ble_eq_true rfl) ?_
  repeat' (first | refine d7 ?_ | refine b9 ?_ | refine a8 ?_ | refine b8 ?_ | refine f7 rfl ?_ | refine f6 rfl ?_ | ((first | refine d6 (fun K hK => ?_) | refine d8 f8 (fun K hK => ?_) | refine b7 (cb h1 0 ?_) | refine a6 (db h1 0 ?_) | refine b7 (cb h2 0 ?_) | refine a6 (db h2 0 ?_) | refine b7 (cp h3 ?_) | refine a6 (dp h3 ?_) | fail); simp -implicitDefEqProofs [*]) | refine hK _ ?_ | refine hK _ _ (by rfl) ?_ | (refine d9 rfl (fun hb => ?_) (fun hb => ?_) <;> ((try simp only [decide_eq_true_eq, decide_eq_false_iff_not, Bool.not_eq_true', Bool.not_eq_false', Bool.not_eq_eq_eq_not, Bool.not_true, Bool.not_false, beq_iff_eq, beq_true, beq_false, bne_iff_ne, ne_eq, Decidable.not_not, Bool.and_eq_true, Bool.or_eq_true, Bool.and_eq_false_iff, Bool.or_eq_false_iff] at hb) <;> repeat' (refine Or.elim hb (fun hb => ?_) (fun hb => ?_)))) | ((first | refine b29 (fun hb => ?_) (fun hb => ?_) | refine a9t (fun hb => ?_) (fun hb => ?_) | fail) <;> ((try simp only [decide_eq_true_eq, decide_eq_false_iff_not, Bool.not_eq_true', Bool.not_eq_false', Bool.not_eq_eq_eq_not, Bool.not_true, Bool.not_false, beq_iff_eq, beq_true, beq_false, bne_iff_ne, ne_eq, Decidable.not_not, Bool.and_eq_true, Bool.or_eq_true, Bool.and_eq_false_iff, Bool.or_eq_false_iff] at hb) <;> repeat' (refine Or.elim hb (fun hb => ?_) (fun hb => ?_))) <;> simp -implicitDefEqProofs [*]) | fail)
  all_goals (refine e7 (i8 ?_); simp -implicitDefEqProofs [x7, g7, g9, isK, *] <;> try rfl)
theorem a3c (ts : List Tok) (i : Nat) (s : ByteArray) (hs : s.size ≤ 1000) (hl : ts.length ≤ 9223372036854775807) (h : isK s (nxt ts i) = true) : Row Tryz.prog 67 [vR, vS s] [rd ts i 0] (vB true) [some (rd ts (i + 1) 0)] := by
  obtain ⟨x, hx, _⟩ := a6x h
  have hi := (List.getElem?_eq_some_iff.1 hx).1
  have h1 := b7m ts i 0 s hs
  have h2 := b3v ts i 0 hl
  rw [h] at h1
  rw [if_pos ⟨rfl, hi⟩] at h2
  refine e8 Tryz.func67 rfl rfl (Nat.le_of_ble_eq_true rfl) ?_
  repeat' (first | refine d7 ?_ | refine b9 ?_ | refine a8 ?_ | refine b8 ?_ | refine f7 rfl ?_ | refine f6 rfl ?_ | ((first | refine d6 (fun K hK => ?_) | refine d8 f8 (fun K hK => ?_) | refine b7 (cb h1 0 ?_) | refine a6 (db h1 0 ?_) | refine b7 (cb h2 0 ?_) | refine a6 (db h2 0 ?_) | fail); simp -implicitDefEqProofs) | refine hK _ ?_ | refine hK _ _ (by rfl) ?_ | fail)
  refine e7 (i8 ?_); simp -implicitDefEqProofs [x7, g7, g9] <;> try rfl
theorem a5u (ts : List Tok) (i : Nat) (e : Int) (s : ByteArray) (hs : s.size ≤ 1000) (h : e ≠ 0 ∨ isK s (nxt ts i) = false) : Row Tryz.prog 67 [vR, vS s] [rd ts i e] (vB false) [some (rd ts i e)] := by
  have h1 := b7m ts i e s hs
  rw [show (decide (e = 0) && isK s (nxt ts i)) = false by rcases h with h | h <;> simp [h]] at h1
  refine e8 Tryz.func67 rfl rfl (Nat.le_of_ble_eq_true rfl) ?_
  repeat' (first | refine d7 ?_ | refine b9 ?_ | refine a8 ?_ | refine b8 ?_ | refine f7 rfl ?_ | refine f6 rfl ?_ | ((first | refine d6 (fun K hK => ?_) | refine d8 f8 (fun K hK => ?_) | refine b7 (cb h1 0 ?_) | refine a6 (db h1 0 ?_) | fail); simp -implicitDefEqProofs) | refine hK _ ?_ | refine hK _ _ (by rfl) ?_ | fail)
  refine e7 (i8 ?_); simp -implicitDefEqProofs [x7, g7, g9] <;> try rfl
theorem b4b (ts : List Tok) (i : Nat) (s : ByteArray) (hs : s.size ≤ 1000) (hl : ts.length ≤ 9223372036854775807) (h : isK s (nxt ts i) = true) : Row Tryz.prog 71 [vR, vS s] [rd ts i 0] (.tup []) [some (rd ts (i + 1) 0)] := by
  have h1 := a3c ts i s hs hl h
  refine e8 Tryz.func71 rfl rfl (Nat.le_of_ble_eq_true rfl) ?_
  repeat' (first | refine d7 ?_ | refine b9 ?_ | refine a8 ?_ | refine b8 ?_ | refine f7 rfl ?_ | refine f6 rfl ?_ | ((first | refine d6 (fun K hK => ?_) | refine d8 f8 (fun K hK => ?_) | refine b7 (cb h1 0 ?_) | refine a6 (db h1 0 ?_) | fail); simp -implicitDefEqProofs) | refine hK _ ?_ | refine hK _ _ (by rfl) ?_ | fail)
  refine o8 (i8 ?_); simp -implicitDefEqProofs [x7, g7, g9] <;> try rfl
theorem a8u (ts : List Tok) (i : Nat) (e : Int) (s : ByteArray) (hs : s.size ≤ 1000) (h : e ≠ 0 ∨ isK s (nxt ts i) = false) : Row Tryz.prog 71 [vR, vS s] [rd ts i e] (.tup []) [some (rd ts i (er e))] := by
  have h1 := a5u ts i e s hs h
  have h2 := a65 ts i e
  refine e8 Tryz.func71 rfl rfl (Nat.le_of_ble_eq_true rfl) ?_
  repeat' (first | refine d7 ?_ | refine b9 ?_ | refine a8 ?_ | refine b8 ?_ | refine f7 rfl ?_ | refine f6 rfl ?_ | ((first | refine d6 (fun K hK => ?_) | refine d8 f8 (fun K hK => ?_) | refine b7 (cb h1 0 ?_) | refine a6 (db h1 0 ?_) | refine b7 (cb h2 0 ?_) | refine a6 (db h2 0 ?_) | fail); simp -implicitDefEqProofs) | refine hK _ ?_ | refine hK _ _ (by rfl) ?_ | fail)
  refine o8 (i8 ?_); simp -implicitDefEqProofs [x7, g7, g9] <;> try rfl
theorem a76 (ts : List Tok) (i : Nat) (k : Int) (x : Tok) (hl : ts.length ≤ 9223372036854775807) (hx : ts[i]? = some x) (hk : x.k = k) : Row Tryz.prog 119 [vR, vI k] [rd ts i 0] (vK x) [some (rd ts (i + 1) 0)] := by
  have hi := (List.getElem?_eq_some_iff.1 hx).1
  have h1 := a24 ts i 0
  rw [a4j hx] at h1
  have h2 := u9 ts i 0
  have h3 := b3v ts i 0 hl
  rw [if_pos ⟨rfl, hi⟩] at h3
  obtain ⟨xk, xn, xs, xf, xt⟩ := x
  dsimp only at hk
  subst hk
  refine e8 Tryz.func119 rfl rfl (Nat.le_of_ble_eq_true rfl) ?_
  repeat' (first | refine d7 ?_ | refine b9 ?_ | refine a8 ?_ | refine b8 ?_ | refine f7 rfl ?_ | refine f6 rfl ?_ | ((first | refine d6 (fun K hK => ?_) | refine d8 f8 (fun K hK => ?_) | refine b7 (cb h1 0 ?_) | refine a6 (db h1 0 ?_) | refine b7 (cb h2 0 ?_) | refine a6 (db h2 0 ?_) | refine b7 (cb h3 0 ?_) | refine a6 (db h3 0 ?_) | fail); simp -implicitDefEqProofs) | refine hK _ ?_ | refine hK _ _ (by rfl) ?_ | fail)
  refine e7 (i8 ?_); simp -implicitDefEqProofs [x7, g7, g9] <;> try rfl
theorem a74 (ts : List Tok) (i : Nat) (e : Int) (k : Int) (h : e ≠ 0 ∨ (nxt ts i).k ≠ k) : Row Tryz.prog 119 [vR, vI k] [rd ts i e] (vK zK) [some (rd ts i (er e))] := by
  have h1 := a24 ts i e
  have h2 := u9 ts i e
  have h3 := a65 ts i e
  obtain ⟨⟨xk, xn, xs, xf, xt⟩, hx⟩ : ∃ x, nxt ts i = x := ⟨_, rfl⟩
  rw [hx] at h1 h
  dsimp only at h
  refine e8 Tryz.func119 rfl rfl (Nat.le_of_ble_eq_true rfl) ?_
  by_cases he : e = 0
  · have hk : ¬ xk = k := by rcases h with h | h; exact absurd he h; exact h
    subst he
    repeat' (first | refine d7 ?_ | refine b9 ?_ | refine a8 ?_ | refine b8 ?_ | refine f7 rfl ?_ | refine f6 rfl ?_ | ((first | refine d6 (fun K hK => ?_) | refine d8 f8 (fun K hK => ?_) | refine b7 (cb h1 0 ?_) | refine a6 (db h1 0 ?_) | refine b7 (cb h2 0 ?_) | refine a6 (db h2 0 ?_) | refine b7 (cb h3 0 ?_) | refine a6 (db h3 0 ?_) | fail); simp -implicitDefEqProofs [hk]) | refine hK _ ?_ | refine hK _ _ (by rfl) ?_ | fail)
    refine e7 (i8 ?_); simp -implicitDefEqProofs [x7, g7, g9, zK] <;> try rfl
  · repeat' (first | refine d7 ?_ | refine b9 ?_ | refine a8 ?_ | refine b8 ?_ | refine f7 rfl ?_ | refine f6 rfl ?_ | ((first | refine d6 (fun K hK => ?_) | refine d8 f8 (fun K hK => ?_) | refine b7 (cb h1 0 ?_) | refine a6 (db h1 0 ?_) | refine b7 (cb h2 0 ?_) | refine a6 (db h2 0 ?_) | refine b7 (cb h3 0 ?_) | refine a6 (db h3 0 ?_) | fail); simp -implicitDefEqProofs [he]) | refine hK _ ?_ | refine hK _ _ (by rfl) ?_ | fail)
    refine e7 (i8 ?_); simp -implicitDefEqProofs [x7, g7, g9, zK] <;> try rfl
theorem a5e (ts : List Tok) (i : Nat) (e : Int) (h : e ≠ 0) (a : Int) (t : VT) : Row Tryz.prog 72 [vR, vI a, vT t] [rd ts i e] (vT z0) [some (rd ts i e)] := by
  have h2 := u9 ts i e
  obtain ⟨x, l⟩ := t
  refine e8 Tryz.func72 rfl rfl (Nat.le_of_ble_eq_true rfl) ?_
  repeat' (first | refine d7 ?_ | refine b9 ?_ | refine a8 ?_ | refine b8 ?_ | refine f7 rfl ?_ | refine f6 rfl ?_ | ((first | refine d6 (fun K hK => ?_) | refine d8 f8 (fun K hK => ?_) | refine b7 (cb h2 0 ?_) | refine a6 (db h2 0 ?_) | fail); simp -implicitDefEqProofs [h]) | refine hK _ ?_ | refine hK _ _ (by rfl) ?_ | fail)
  refine e7 (i8 ?_); simp -implicitDefEqProofs [x7, g7, g9, z0] <;> try rfl
theorem a27 (ts : List Tok) (i : Nat) (a : Nat) (x : Lab) (l : List VT) (ha : a < ts.length) (h0 : 0 < i) (hi : i ≤ ts.length) (hl : ts.length ≤ 9223372036854775807) : Row Tryz.prog 72 [vR, vI a, vT (.mk x l)] [rd ts i 0] (vT (.mk ⟨x.k, x.n, x.s, frT ts a, toT ts (i - 1)⟩ l)) [some (rd ts i 0)] := by
  have h2 := u9 ts i 0
  obtain ⟨y, hy⟩ : ∃ y, ts[a]? = some y := ⟨_, List.getElem?_eq_getElem ha⟩
  have hy' := (List.getElem?_eq_some_iff.1 hy).2
  have hi1 : i - 1 < ts.length := by omega
  obtain ⟨z, hz⟩ : ∃ z, ts[i - 1]? = some z := ⟨_, List.getElem?_eq_getElem hi1⟩
  have hz' := (List.getElem?_eq_some_iff.1 hz).2
  rw [show frT ts a = y.f by unfold frT; rw [a4j hy], show toT ts (i - 1) = z.t by unfold toT; rw [a4j hz]]
  obtain ⟨j, rfl⟩ : ∃ j, i = j + 1 := ⟨i - 1, by omega⟩
  have e1 : j + 1 - 1 = j := by omega
  rw [e1] at hz hi1
  have hz' := (List.getElem?_eq_some_iff.1 hz).2
  have w : IntKind.i64.wrap (((j + 1 : Nat) : Int) - 1) = (j : Nat) := by rw [v6 _ (by omega) (by omega)]; omega
  have w' : IntKind.i64.wrap ((j : Int) + 1 - 1) = (j : Nat) := by rw [v6 _ (by omega) (by omega)]; omega
  refine e8 Tryz.func72 rfl rfl (Nat.le_of_ble_eq_true rfl) ?_
  have wj : IntKind.i64.wrap ((j : Nat) : Int) = (j : Nat) := v6 _ (by omega) (by omega)
  repeat' (first | refine d7 ?_ | refine b9 ?_ | refine a8 ?_ | refine b8 ?_ | refine f7 rfl ?_ | refine f6 rfl ?_ | ((first | refine d6 (fun K hK => ?_) | refine d8 f8 (fun K hK => ?_) | refine b7 (cb h2 0 ?_) | refine a6 (db h2 0 ?_) | fail); simp -implicitDefEqProofs [ha, hy, hy', hz, hz', hi1, w, w', wj]) | refine hK _ ?_ | refine hK _ _ (by rfl) ?_ | fail)
  refine e7 (i8 ?_); simp -implicitDefEqProofs [x7, g7, g9] <;> try rfl
theorem td_exrd : td Tryz.prog 164 = some ⟨true, 3, 40, [.nilS, .lit (.int .i64 0), .lit (.int .i64 0)], [(0, 3, true)], .struct⟩ := Eq.trans (by kernel_rfl) (Eq.refl _)
attribute [simp] td_exrd
theorem b9c (ts : List Tok) (i : Nat) (e : Int) (h : e ≠ 0) : Row Tryz.prog 162 [vR] [rd ts i e] (vT z0) [some (rd ts i e)] := by
  have h2 := u9 ts i e
  refine e8 Tryz.func162 rfl rfl (Nat.le_of_ble_eq_true rfl) ?_
  repeat' (first | refine d7 ?_ | refine b9 ?_ | refine a8 ?_ | refine b8 ?_ | refine f7 rfl ?_ | refine f6 rfl ?_ | ((first | refine d6 (fun K hK => ?_) | refine d8 f8 (fun K hK => ?_) | refine b7 (cb h2 0 ?_) | refine a6 (db h2 0 ?_) | fail); simp -implicitDefEqProofs [h]) | refine hK _ ?_ | refine hK _ _ (by rfl) ?_ | fail)
  refine e7 (i8 ?_); simp -implicitDefEqProofs [x7, g7, g9, z0] <;> try rfl
theorem c54 (ts : List Tok) (hl : ts.length ≤ 9223372036854775807) : ∀ n i, ts.length - i < n → i ≤ ts.length → Row Tryz.prog 162 [vR] [rd ts i 0] (vT (tyG ts n i).1) [some (rd ts (tyG ts n i).2.1 (tyG ts n i).2.2)] := by
  intro n
  induction n with
  | zero => intro i h; omega
  | succ n ih =>
  intro i hn hi
  have g0 := u9 ts i 0
  have p0 := a28 ts i 0
  by_cases h1 : isK b9w (nxt ts i) = true
  · rw [c5z h1]
    obtain ⟨x, hx, _⟩ := a6x h1
    have hil := (List.getElem?_eq_some_iff.1 hx).1
    have t1 := a3c ts i b9w (by decide) hl h1
    have n1 := a27 ts (i + 1) i ⟨1, 0, ⟨#[]⟩, 0, 0⟩ [] hil (by omega) (by omega) hl
    rw [Nat.add_sub_cancel] at n1
    refine e8 Tryz.func162 rfl rfl (Nat.le_of_ble_eq_true rfl) ?_
    repeat' (first | refine d7 ?_ | refine b9 ?_ | refine a8 ?_ | refine b8 ?_ | refine f7 rfl ?_ | refine f6 rfl ?_ | ((first | refine d6 (fun K hK => ?_) | refine d8 f8 (fun K hK => ?_) | refine b7 (cb g0 0 ?_) | refine a6 (db g0 0 ?_) | refine b7 (cb p0 0 ?_) | refine a6 (db p0 0 ?_) | refine b7 (cb t1 0 ?_) | refine a6 (db t1 0 ?_) | refine b7 (cb n1 0 ?_) | refine a6 (db n1 0 ?_) | fail); simp -implicitDefEqProofs) | refine hK _ ?_ | refine hK _ _ (by rfl) ?_ | fail)
    refine e7 (i8 ?_); simp -implicitDefEqProofs [x7, g7, g9] <;> try rfl
  have h1 : isK b9w (nxt ts i) = false := by simpa using h1
  have t1 := a5u ts i 0 b9w (by decide) (.inr h1)
  by_cases h2 : isK b0s (nxt ts i) = true
  · rw [c1y h1 h2]
    obtain ⟨x, hx, _⟩ := a6x h2
    have hil := (List.getElem?_eq_some_iff.1 hx).1
    have t2 := a3c ts i b0s (by decide) hl h2
    have n1 := a27 ts (i + 1) i ⟨2, 0, ⟨#[]⟩, 0, 0⟩ [] hil (by omega) (by omega) hl
    rw [Nat.add_sub_cancel] at n1
    refine e8 Tryz.func162 rfl rfl (Nat.le_of_ble_eq_true rfl) ?_
    repeat' (first | refine d7 ?_ | refine b9 ?_ | refine a8 ?_ | refine b8 ?_ | refine f7 rfl ?_ | refine f6 rfl ?_ | ((first | refine d6 (fun K hK => ?_) | refine d8 f8 (fun K hK => ?_) | refine b7 (cb g0 0 ?_) | refine a6 (db g0 0 ?_) | refine b7 (cb p0 0 ?_) | refine a6 (db p0 0 ?_) | refine b7 (cb t1 0 ?_) | refine a6 (db t1 0 ?_) | refine b7 (cb t2 0 ?_) | refine a6 (db t2 0 ?_) | refine b7 (cb n1 0 ?_) | refine a6 (db n1 0 ?_) | fail); simp -implicitDefEqProofs) | refine hK _ ?_ | refine hK _ _ (by rfl) ?_ | fail)
    refine e7 (i8 ?_); simp -implicitDefEqProofs [x7, g7, g9] <;> try rfl
  have h2 : isK b0s (nxt ts i) = false := by simpa using h2
  have t2 := a5u ts i 0 b0s (by decide) (.inr h2)
  by_cases h3 : isK b17 (nxt ts i) = true; rotate_left
  · have h3 : isK b17 (nxt ts i) = false := by simpa using h3
    have t3 := a5u ts i 0 b17 (by decide) (.inr h3)
    rw [c50 h1 h2 h3]
    by_cases h4 : (nxt ts i).k = 1
    · rw [if_pos h4]
      obtain ⟨x, hx, hxn, hxk⟩ := b1t h4 (by omega)
      have hil := (List.getElem?_eq_some_iff.1 hx).1
      have k1 := a76 ts i 1 x hl hx hxk
      have n1 := a27 ts (i + 1) i ⟨4, 0, x.s, 0, 0⟩ [] hil (by omega) (by omega) hl
      rw [Nat.add_sub_cancel] at n1
      rw [hxn]
      clear hxk hx
      refine e8 Tryz.func162 rfl rfl (Nat.le_of_ble_eq_true rfl) ?_
      repeat' (first | refine d7 ?_ | refine b9 ?_ | refine a8 ?_ | refine b8 ?_ | refine f7 rfl ?_ | refine f6 rfl ?_ | ((first | refine d6 (fun K hK => ?_) | refine d8 f8 (fun K hK => ?_) | refine b7 (cb g0 0 ?_) | refine a6 (db g0 0 ?_) | refine b7 (cb p0 0 ?_) | refine a6 (db p0 0 ?_) | refine b7 (cb t1 0 ?_) | refine a6 (db t1 0 ?_) | refine b7 (cb t2 0 ?_) | refine a6 (db t2 0 ?_) | refine b7 (cb t3 0 ?_) | refine a6 (db t3 0 ?_) | refine b7 (cb k1 0 ?_) | refine a6 (db k1 0 ?_) | refine b7 (cb n1 0 ?_) | refine a6 (db n1 0 ?_) | fail); simp -implicitDefEqProofs) | refine hK _ ?_ | refine hK _ _ (by rfl) ?_ | fail)
      refine e7 (i8 ?_); simp -implicitDefEqProofs [x7, g7, g9] <;> try rfl
    · rw [if_neg h4]
      have k1 := a74 ts i 0 1 (.inr h4)
      have n1 := a5e ts i (er 0) (by decide) i (.mk ⟨4, 0, ⟨#[]⟩, 0, 0⟩ [])
      refine e8 Tryz.func162 rfl rfl (Nat.le_of_ble_eq_true rfl) ?_
      repeat' (first | refine d7 ?_ | refine b9 ?_ | refine a8 ?_ | refine b8 ?_ | refine f7 rfl ?_ | refine f6 rfl ?_ | ((first | refine d6 (fun K hK => ?_) | refine d8 f8 (fun K hK => ?_) | refine b7 (cb g0 0 ?_) | refine a6 (db g0 0 ?_) | refine b7 (cb p0 0 ?_) | refine a6 (db p0 0 ?_) | refine b7 (cb t1 0 ?_) | refine a6 (db t1 0 ?_) | refine b7 (cb t2 0 ?_) | refine a6 (db t2 0 ?_) | refine b7 (cb t3 0 ?_) | refine a6 (db t3 0 ?_) | refine b7 (cb k1 0 ?_) | refine a6 (db k1 0 ?_) | refine b7 (cb n1 0 ?_) | refine a6 (db n1 0 ?_) | fail); simp -implicitDefEqProofs [zK]) | refine hK _ ?_ | refine hK _ _ (by rfl) ?_ | fail)
      refine e7 (i8 ?_); simp -implicitDefEqProofs [x7, g7, g9, z0, er] <;> try rfl
  rw [c5y h1 h2 h3]
  obtain ⟨x, hx, _⟩ := a6x h3
  have hil := (List.getElem?_eq_some_iff.1 hx).1
  have t3 := a3c ts i b17 (by decide) hl h3
  by_cases h4 : (nxt ts (i + 1)).k = 2; rotate_left
  · rw [if_neg h4]
    have k1 := a74 ts (i + 1) 0 2 (.inr h4)
    have w1 := a8u ts (i + 1) (er 0) b18 (by decide) (.inl (by decide))
    have y1 := b9c ts (i + 1) (er (er 0)) (by decide)
    have n1 := a5e ts (i + 1) (er (er 0)) (by decide) i (.mk ⟨3, 0, ⟨#[]⟩, 0, 0⟩ [z0])
    simp only [show er (er 0) = 6 from rfl, show er 0 = 6 from rfl] at k1 w1 y1 n1
    unfold z0 at y1 n1
    refine e8 Tryz.func162 rfl rfl (Nat.le_of_ble_eq_true rfl) ?_
    repeat' (first | refine d7 ?_ | refine b9 ?_ | refine a8 ?_ | refine b8 ?_ | refine f7 rfl ?_ | refine f6 rfl ?_ | ((first | refine d6 (fun K hK => ?_) | refine d8 f8 (fun K hK => ?_) | refine b7 (cb g0 0 ?_) | refine a6 (db g0 0 ?_) | refine b7 (cb p0 0 ?_) | refine a6 (db p0 0 ?_) | refine b7 (cb t1 0 ?_) | refine a6 (db t1 0 ?_) | refine b7 (cb t2 0 ?_) | refine a6 (db t2 0 ?_) | refine b7 (cb t3 0 ?_) | refine a6 (db t3 0 ?_) | refine b7 (cb k1 0 ?_) | refine a6 (db k1 0 ?_) | refine b7 (cb w1 0 ?_) | refine a6 (db w1 0 ?_) | refine b7 (cb y1 0 ?_) | refine a6 (db y1 0 ?_) | refine b7 (cb n1 0 ?_) | refine a6 (db n1 0 ?_) | fail); simp -implicitDefEqProofs [zK]) | refine hK _ ?_ | refine hK _ _ (by rfl) ?_ | fail)
    refine e7 (i8 ?_); simp -implicitDefEqProofs [x7, g7, g9, z0] <;> try rfl
  rw [if_pos h4]
  obtain ⟨y, hy, hyn, hyk⟩ := b1t h4 (by omega)
  have hil1 := (List.getElem?_eq_some_iff.1 hy).1
  have k1 := a76 ts (i + 1) 2 y hl hy hyk
  by_cases h5 : isK b18 (nxt ts (i + 2)) = true; rotate_left
  · rw [if_neg h5]
    have h5 : isK b18 (nxt ts (i + 1 + 1)) = false := by simpa using h5
    have w1 := a8u ts (i + 1 + 1) 0 b18 (by decide) (.inr h5)
    have y1 := b9c ts (i + 1 + 1) (er 0) (by decide)
    have n1 := a5e ts (i + 1 + 1) (er 0) (by decide) i (.mk ⟨3, y.n, ⟨#[]⟩, 0, 0⟩ [z0])
    simp only [show er 0 = 6 from rfl] at w1 y1 n1
    unfold z0 at y1 n1
    clear hyk hy hyn
    refine e8 Tryz.func162 rfl rfl (Nat.le_of_ble_eq_true rfl) ?_
    repeat' (first | refine d7 ?_ | refine b9 ?_ | refine a8 ?_ | refine b8 ?_ | refine f7 rfl ?_ | refine f6 rfl ?_ | ((first | refine d6 (fun K hK => ?_) | refine d8 f8 (fun K hK => ?_) | refine b7 (cb g0 0 ?_) | refine a6 (db g0 0 ?_) | refine b7 (cb p0 0 ?_) | refine a6 (db p0 0 ?_) | refine b7 (cb t1 0 ?_) | refine a6 (db t1 0 ?_) | refine b7 (cb t2 0 ?_) | refine a6 (db t2 0 ?_) | refine b7 (cb t3 0 ?_) | refine a6 (db t3 0 ?_) | refine b7 (cb k1 0 ?_) | refine a6 (db k1 0 ?_) | refine b7 (cb w1 0 ?_) | refine a6 (db w1 0 ?_) | refine b7 (cb y1 0 ?_) | refine a6 (db y1 0 ?_) | refine b7 (cb n1 0 ?_) | refine a6 (db n1 0 ?_) | fail); simp -implicitDefEqProofs) | refine hK _ ?_ | refine hK _ _ (by rfl) ?_ | fail)
    refine e7 (i8 ?_); simp -implicitDefEqProofs [x7, g7, g9, z0] <;> try rfl
  rw [if_pos h5, hyn]
  have w1 := b4b ts (i + 1 + 1) b18 (by decide) hl h5
  obtain ⟨z, hz, _⟩ := a6x h5
  have hil2 := (List.getElem?_eq_some_iff.1 hz).1
  have y1 : Row Tryz.prog 162 [vR] [rd ts (i + 1 + 1 + 1) 0] (vT (tyG ts n (i + 3)).1) [some (rd ts (tyG ts n (i + 3)).2.1 (tyG ts n (i + 3)).2.2)] := ih (i + 3) (by omega) (by omega)
  obtain ⟨o1, o2, o3, _⟩ := c3f ts n (i + 3)
  obtain ⟨⟨⟨px, pl⟩, j, e⟩, hr⟩ : ∃ r, tyG ts n (i + 3) = r := ⟨_, rfl⟩
  rw [hr] at y1 o1 o2 o3 ⊢
  dsimp only at o1 o2 o3 y1 ⊢
  clear hr ih hx hy hz hyk hyn
  by_cases he : e = 0
  · subst he
    rw [if_pos rfl]
    obtain ⟨o4, o5⟩ := o1 rfl
    have n1 := a27 ts j i ⟨3, y.n, ⟨#[]⟩, 0, 0⟩ [.mk px pl] hil (by omega) (by omega) hl
    refine e8 Tryz.func162 rfl rfl (Nat.le_of_ble_eq_true rfl) ?_
    repeat' (first | refine d7 ?_ | refine b9 ?_ | refine a8 ?_ | refine b8 ?_ | refine f7 rfl ?_ | refine f6 rfl ?_ | ((first | refine d6 (fun K hK => ?_) | refine d8 f8 (fun K hK => ?_) | refine b7 (cb g0 0 ?_) | refine a6 (db g0 0 ?_) | refine b7 (cb p0 0 ?_) | refine a6 (db p0 0 ?_) | refine b7 (cb t1 0 ?_) | refine a6 (db t1 0 ?_) | refine b7 (cb t2 0 ?_) | refine a6 (db t2 0 ?_) | refine b7 (cb t3 0 ?_) | refine a6 (db t3 0 ?_) | refine b7 (cb k1 0 ?_) | refine a6 (db k1 0 ?_) | refine b7 (cb w1 0 ?_) | refine a6 (db w1 0 ?_) | refine b7 (cb y1 0 ?_) | refine a6 (db y1 0 ?_) | refine b7 (cb n1 0 ?_) | refine a6 (db n1 0 ?_) | fail); simp -implicitDefEqProofs) | refine hK _ ?_ | refine hK _ _ (by rfl) ?_ | fail)
    refine e7 (i8 ?_); simp -implicitDefEqProofs [x7, g7, g9] <;> try rfl
  · rw [if_neg he]
    obtain ⟨o4, o5⟩ := o2 he
    have n1 := a5e ts j e he i (.mk ⟨3, y.n, ⟨#[]⟩, 0, 0⟩ [.mk px pl])
    rw [← o5] at n1
    clear o5 o1 o2 o3
    refine e8 Tryz.func162 rfl rfl (Nat.le_of_ble_eq_true rfl) ?_
    repeat' (first | refine d7 ?_ | refine b9 ?_ | refine a8 ?_ | refine b8 ?_ | refine f7 rfl ?_ | refine f6 rfl ?_ | ((first | refine d6 (fun K hK => ?_) | refine d8 f8 (fun K hK => ?_) | refine b7 (cb g0 0 ?_) | refine a6 (db g0 0 ?_) | refine b7 (cb p0 0 ?_) | refine a6 (db p0 0 ?_) | refine b7 (cb t1 0 ?_) | refine a6 (db t1 0 ?_) | refine b7 (cb t2 0 ?_) | refine a6 (db t2 0 ?_) | refine b7 (cb t3 0 ?_) | refine a6 (db t3 0 ?_) | refine b7 (cb k1 0 ?_) | refine a6 (db k1 0 ?_) | refine b7 (cb w1 0 ?_) | refine a6 (db w1 0 ?_) | refine b7 (cb y1 0 ?_) | refine a6 (db y1 0 ?_) | refine b7 (cb n1 0 ?_) | refine a6 (db n1 0 ?_) | fail); simp -implicitDefEqProofs) | refine hK _ ?_ | refine hK _ _ (by rfl) ?_ | fail)
    refine e7 (i8 ?_); simp -implicitDefEqProofs [x7, g7, g9] <;> try rfl
end Go.Proofs.YthmdllhhmhbhbaaGreatDoor.am
end
