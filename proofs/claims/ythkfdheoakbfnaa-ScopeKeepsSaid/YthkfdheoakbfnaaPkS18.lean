import Derived.Test.YthkfdheoakbfnaaPkS17
section
namespace Go.Proofs.Ythkfdheoakbfnaa.am
open Go.ChangeShapes Go.WideShapes Go.ChangeAt Go.RowKit
open vt
set_option linter.unusedVariables false
set_option linter.unusedSimpArgs false
noncomputable def stB (ml l : List VT) (ft : Nat → List ByteArray → List ByteArray → VT) (fE : Nat → List ByteArray → List ByteArray → List ByteArray) (k : Nat) (s : Sq) : Sq := ⟨s.acc ++ [ft k s.L s.E], moreS s.L (l.getD k z0T), if (l.getD k z0T).lab.k = 20 ∨ (l.getD k z0T).lab.k = 21 then s.L ++ [(l.getD k z0T).lab.s] else fE k s.L s.E, (anyT ml (l.getD k z0T) s.L).pl, (anyT ml (l.getD k z0T) s.L).er⟩
structure InvB (ml l : List VT) (L : List ByteArray) (k : Nat) (s : Sq) : Prop where
  hL : ∃ j, j ≤ k ∧ s.L = brgS L (l.take j)
  hE : OkE s.L s.E
  len : s.acc.length ≤ k
  pl : s.pl = (blkS ml L (l.take k)).2.1
  er : s.er = (blkS ml L (l.take k)).2.2
  acc : s.er = 0 → s.acc = (blkS ml L (l.take k)).1 ∧ s.L = brgS L (l.take k)
theorem sqN_stay {stp : Nat → Sq → Sq} {s0 : Sq} {k : Nat} (h : (sqN stp s0 k).er ≠ 0) : ∀ j, sqN stp s0 (k + j) = sqN stp s0 k
  | 0 => rfl
  | j + 1 => by
    show (if (sqN stp s0 (k + j)).er = 0 then stp (k + j) (sqN stp s0 (k + j)) else sqN stp s0 (k + j)) = _
    rw [sqN_stay h j, if_neg h]
theorem sqB_inv {ml l : List VT} {L E : List ByteArray} (hE : OkE L E) (hsz : ∀ y ∈ l, L.length + l.length + y.size ≤ 100000) {ft : Nat → List ByteArray → List ByteArray → VT} {fE : Nat → List ByteArray → List ByteArray → List ByteArray} (hf : ∀ k y L E, l[k]? = some y → OkE L E → L.length + y.size ≤ 100000 → ((anyT ml y L).er = 0 → ft k L E = (anyT ml y L).t) ∧ OkE L (fE k L E)) : ∀ k, k ≤ l.length → InvB ml l L k (sqN (stB ml l ft fE) ⟨[], L, E, 0, 0⟩ k)
  | 0, _ => ⟨⟨0, Nat.le_refl _, rfl⟩, hE, Nat.le_refl _, rfl, rfl, fun _ => ⟨rfl, rfl⟩⟩
  | k + 1, hk => by
    have ih := sqB_inv hE hsz hf k (by omega)
    obtain ⟨y, hy⟩ : ∃ y, l[k]? = some y := ⟨_, List.getElem?_eq_getElem (by omega)⟩
    have hgd : l.getD k z0T = y := by rw [List.getD_eq_getElem?_getD, hy]; rfl
    have htk : l.take (k + 1) = l.take k ++ [y] := by rw [List.take_add_one, hy]; rfl
    unfold sqN
    generalize sqN (stB ml l ft fE) ⟨[], L, E, 0, 0⟩ k = s at ih
    obtain ⟨⟨j0, hj0, hL⟩, hE', len, pl, er, acc⟩ := ih
    have hbl := brgS_pre (l.take j0) L
    rw [← hL] at hbl
    have hl1 : s.L.length + y.size ≤ 100000 := by
      have := hsz y (List.mem_of_getElem? hy)
      have h2 := hbl.2.2
      rw [List.length_take] at h2
      omega
    have hs := blkS_snoc ml y (l.take k) L
    rw [← htk] at hs
    by_cases h : s.er = 0
    · rw [if_pos h]
      obtain ⟨q1, q2⟩ := acc h
      unfold stB
      rw [hgd]
      obtain ⟨g1, g2⟩ := hf k y s.L s.E hy hE' hl1
      rw [if_neg (by rw [← er]; simpa using h), ← q2] at hs
      have hbs : moreS s.L y = brgS L (l.take (k + 1)) := by rw [htk, brgS_snoc, ← q2]
      have hok : OkE (moreS s.L y) (if y.lab.k = 20 ∨ y.lab.k = 21 then s.L ++ [y.lab.s] else fE k s.L s.E) := by
        unfold moreS
        by_cases c : y.lab.k = 20 ∨ y.lab.k = 21
        · rw [if_pos c, if_pos c]; exact ⟨List.take_length, Nat.le_refl _⟩
        · rw [if_neg c, if_neg c]; exact g2
      by_cases h2 : (anyT ml y s.L).er = 0
      · rw [if_neg (by simpa using h2)] at hs
        refine ⟨⟨k + 1, Nat.le_refl _, hbs⟩, hok, by simp; omega, ?_, ?_, fun _ => ⟨?_, hbs⟩⟩
        · dsimp only; rw [hs]; exact any_pl ml y s.L h2
        · dsimp only; rw [hs]; exact h2
        · dsimp only; rw [hs, q1, g1 h2]
      · rw [if_pos h2] at hs
        refine ⟨⟨k + 1, Nat.le_refl _, hbs⟩, hok, by simp; omega, ?_, ?_, fun h3 => absurd h3 h2⟩
        · dsimp only; rw [hs]
        · dsimp only; rw [hs]
    · rw [if_neg h]
      rw [if_pos (by rw [← er]; exact h)] at hs
      exact ⟨⟨j0, by omega, hL⟩, hE', by omega, by rw [hs]; exact pl, by rw [hs]; exact er, fun h3 => absurd h3 h⟩
set_option maxRecDepth 100000 in
set_option maxHeartbeats 4000000 in
theorem sblock_row (ml : List VT) (l : List VT) (h : ∀ y ∈ l, TOk ml y) (L E : List ByteArray) (hE : OkE L E) (hsz : ∀ y ∈ l, L.length + l.length + y.size ≤ 100000) (hlen : L.length + l.length ≤ 100000) : ∃ acc L' E', ((blkS ml L l).2.2 = 0 → acc = (blkS ml L l).1) ∧ L'.take L.length = L ∧ L.length ≤ L'.length ∧ L'.length ≤ L.length + l.length ∧ OkE L' E' ∧ Row Try.prog 117 [vPt, vLs l] [bxS 1 2 ml L.length 0 0, arS E, mpS ml] (vLs acc) [some (bxS 3 2 ml L'.length (blkS ml L l).2.1 (blkS ml L l).2.2), none, some (mpS ml), some (arS E')] := by
  obtain ⟨ft, fE, hf⟩ := tok_fun h
  have hinv := sqB_inv (ml := ml) (l := l) hE hsz (fun k y L E h1 h2 h3 => ⟨(hf k y L E h1 h2 h3).1, (hf k y L E h1 h2 h3).2.1⟩)
  have hstp : ∀ k, sqN (stB ml l ft fE) ⟨[], L, E, 0, 0⟩ (k + 1) = if (sqN (stB ml l ft fE) ⟨[], L, E, 0, 0⟩ k).er = 0 then stB ml l ft fE k (sqN (stB ml l ft fE) ⟨[], L, E, 0, 0⟩ k) else sqN (stB ml l ft fE) ⟨[], L, E, 0, 0⟩ k := fun k => rfl
  have hstay : ∀ k, (sqN (stB ml l ft fE) ⟨[], L, E, 0, 0⟩ k).er ≠ 0 → ∀ j, sqN (stB ml l ft fE) ⟨[], L, E, 0, 0⟩ (k + j) = sqN (stB ml l ft fE) ⟨[], L, E, 0, 0⟩ k := fun k h => sqN_stay h
  have h00 : sqN (stB ml l ft fE) ⟨[], L, E, 0, 0⟩ 0 = ⟨[], L, E, 0, 0⟩ := rfl
  obtain ⟨S, hS⟩ : ∃ S, sqN (stB ml l ft fE) ⟨[], L, E, 0, 0⟩ = S := ⟨_, rfl⟩
  rw [hS] at hinv hstp h00 hstay
  have hend := hinv l.length (Nat.le_refl _)
  have hend2 := hend.hL
  obtain ⟨j0, hj0, hbr⟩ := hend2
  have hbl := brgS_pre (l.take j0) L
  rw [← hbr, List.length_take] at hbl
  refine ⟨if (S (l.length - 1)).er ≠ 0 then [] else (S l.length).acc, (S l.length).L, (S l.length).E, fun h1 => ?_, hbl.1, hbl.2.1, by have := hbl.2.2; omega, hend.hE, ?_⟩
  · have e2 := hend.er
    rw [List.take_length] at e2
    have h2 : (S l.length).er = 0 := by rw [e2]; exact h1
    have := (hend.acc h2).1
    rw [List.take_length] at this
    rw [if_neg]
    · exact this
    · intro hne
      have := hstay (l.length - 1) hne (l.length - (l.length - 1))
      rw [show l.length - 1 + (l.length - (l.length - 1)) = l.length by omega] at this
      rw [this] at h2
      exact hne h2
  have e1 := hend.pl
  have e2 := hend.er
  rw [List.take_length] at e1 e2
  rw [← e1, ← e2]
  clear e1 e2 hend hS hbl hbr
  obtain ⟨R, hR⟩ : ∃ R, (if (S (l.length - 1)).er ≠ 0 then [] else (S l.length).acc) = R := ⟨_, rfl⟩
  have hR1 : ∀ k, k < l.length → (S k).er ≠ 0 → R = [] ∧ S l.length = S k := fun k hk h => by
    have := hstay k h (l.length - 1 - k)
    rw [show k + (l.length - 1 - k) = l.length - 1 by omega] at this
    have t2 := hstay k h (l.length - k)
    rw [show k + (l.length - k) = l.length by omega] at t2
    exact ⟨by rw [← hR, if_pos (by rw [this]; exact h)], t2⟩
  have hR2 : (0 < l.length → (S (l.length - 1)).er = 0) → R = (S l.length).acc := fun h => by
    rw [← hR, if_neg]
    intro hne
    by_cases c : 0 < l.length
    · exact hne (h c)
    · rw [show l.length - 1 = 0 by omega, h00] at hne; exact hne rfl
  rw [hR]
  clear hR hstay
  have c1 : (S 0).acc = [] := by rw [h00]
  have c2 : (S 0).E = E := by rw [h00]
  have c3 : (S 0).pl = 0 := by rw [h00]
  have c4 : (S 0).er = 0 := by rw [h00]
  have c5 : (S 0).L = L := by rw [h00]
  refine row_of Try.func117 rfl rfl (Nat.le_of_ble_eq_true rfl) ?_
  repeat (first | refine aw_seq ?_ | refine aw_skip ?_ | refine aw_block ?_ | refine aw_exit ?_ | refine aw_ct rfl ?_ | refine aw_cf rfl ?_ | ((first | refine aw_reg (fun K hK => ?_) | refine aw_drw mixd (fun K hK => ?_) | fail); simp -implicitDefEqProofs; first | refine hK _ ?_ | refine hK _ _ (by rfl) ?_ | fail) | fail)
  refine aw_mvw 1 0 2 _ 9 1 L.length (wsS E) rfl rfl (.inr rfl) (by dsimp only; omega) (by dsimp only; omega) ?_
  simp [St.mvw]
  refine aw_nil 5 25 6 (by simp) ?_
  refine aw_lp (ι := Nat) (fun k => mkSt [(0, vPt), (5, .v (.c (.row 4 6 ((S k).acc.map tc)))), (8, vLs l), (9, vI (l.length : Nat)), (10, vI (k : Nat))] [some (bxS 3 2 ml (S k).L.length (S k).pl (S k).er), none, some (mpS ml), some (arS (S k).E), some (.row 25 6)]) (fun k => k ≤ l.length ∧ (0 < k → (S (k - 1)).er = 0)) (fun k => l.length - k) 0 ⟨Nat.zero_le _, fun h => by omega⟩ (by rw [c1, c2, c3, c4, c5]; unfold St.nil; exact cov_s [9] rfl (by simp -implicitDefEqProofs) (by simp -implicitDefEqProofs) (by first | decide | (simp; done)) rfl (by simp)) (fun Z hI k hk => ?_)
  obtain ⟨hk, hpre⟩ := hk
  by_cases hkl : k < l.length; rotate_left
  · have : k = l.length := by omega
    subst this
    rw [hR2 hpre]
    clear hR1 hR2
    repeat (first | refine aw_seq ?_ | refine aw_skip ?_ | refine aw_block ?_ | refine aw_exit ?_ | refine aw_ct rfl ?_ | refine aw_cf rfl ?_ | ((first | refine aw_reg (fun K hK => ?_) | refine aw_drw mixd (fun K hK => ?_) | fail); simp -implicitDefEqProofs; first | refine hK _ ?_ | refine hK _ _ (by rfl) ?_ | fail) | fail)
    refine aw_ret (fin_gS [] rfl ?_); simp -implicitDefEqProofs [FinG, resV, resT] <;> try rfl
  obtain ⟨⟨ax, al⟩, hy⟩ : ∃ a, l[k]? = some a := ⟨_, List.getElem?_eq_getElem hkl⟩
  have hy' := (List.getElem?_eq_some_iff.1 hy).2
  have w2 : IntKind.i64.wrap ((k : Nat) + 1 : Int) = (k : Nat) + 1 := i64i _ (by omega) (by omega)
  have hi := hinv k hk
  have hs := hstp k
  have hgd : l.getD k z0T = .mk ax al := by rw [List.getD_eq_getElem?_getD, hy]; rfl
  by_cases hq : (S k).er = 0; rotate_left
  · obtain ⟨rR, rS⟩ := hR1 k hkl hq
    subst rR
    rw [rS]
    clear hR1 hR2 hs hinv hstp c1 c2 c3 c4 c5 h00 rS hi hpre
    repeat (first | refine aw_seq ?_ | refine aw_skip ?_ | refine aw_block ?_ | refine aw_exit ?_ | refine aw_ct rfl ?_ | refine aw_cf rfl ?_ | ((first | refine aw_reg (fun K hK => ?_) | refine aw_drw mixd (fun K hK => ?_) | fail); simp -implicitDefEqProofs [hkl, hy, hy', w2, hq]; first | refine hK _ ?_ | refine hK _ _ (by rfl) ?_ | fail) | fail)
    refine aw_ret (fin_gS [] rfl ?_); simp -implicitDefEqProofs [FinG, resV, resT] <;> try rfl
  clear hR1 hR2
  have hpl : (S k).pl = 0 := by rw [hi.pl]; exact blkS_pl ml _ L (by rw [← hi.er]; exact hq)
  obtain ⟨jj, hjj, hbr⟩ := hi.hL
  have hbl := brgS_pre (l.take jj) L
  rw [← hbr, List.length_take] at hbl
  obtain ⟨s, hsk⟩ : ∃ s, S k = s := ⟨_, rfl⟩
  rw [hsk] at hi hs hq hpl hbl ⊢
  obtain ⟨acc, L', E', p, q⟩ := s
  have hE' := hi.hE
  have len := hi.len
  dsimp only at hE' len hs hq hpl hbl ⊢
  subst hq
  subst hpl
  clear hi hbr
  have hsy := hsz _ (List.mem_of_getElem? hy)
  rw [if_pos rfl] at hs
  unfold stB at hs
  rw [hgd] at hs
  dsimp only at hs
  have hr := (hf k _ L' E' hy hE' (by omega)).2
  obtain ⟨hr1, hr⟩ := hr
  obtain ⟨⟨tx, tl⟩, ht⟩ : ∃ t, ft k L' E' = t := ⟨_, rfl⟩
  rw [ht] at hr hs
  obtain ⟨E2, hE2⟩ : ∃ E2, fE k L' E' = E2 := ⟨_, rfl⟩
  rw [hE2] at hr hs hr1
  obtain ⟨p2, hp2⟩ : ∃ p2, (anyT ml (.mk ax al) L').pl = p2 := ⟨_, rfl⟩
  obtain ⟨q2, hq2⟩ : ∃ q2, (anyT ml (.mk ax al) L').er = q2 := ⟨_, rfl⟩
  rw [hp2, hq2] at hr hs
  have b1 : (acc.length + 1) * 72 ≤ 140737488355328 := by omega
  have b2 : acc.length + 1 ≤ 140737488355328 := by omega
  have b3 : (L'.length + 1) * 16 ≤ 140737488355328 := by omega
  have b4 : L'.length + 1 ≤ 140737488355328 := by omega
  have i4 := hr1.2
  have hw : (wsS E2).take L'.length = wsS L' := by rw [← List.map_take, hr1.1]
  have hpre' : 0 < k + 1 → (S (k + 1 - 1)).er = 0 := fun _ => by rw [Nat.add_sub_cancel, hsk]
  rw [Tr.lab] at hs
  by_cases k20 : ax.k = 20
  · unfold moreS at hs
    rw [Tr.lab, if_pos (.inl k20), if_pos (.inl k20)] at hs
    repeat' (first | refine aw_seq ?_ | refine aw_skip ?_ | refine aw_block ?_ | refine aw_exit ?_ | refine aw_ct rfl ?_ | refine aw_cf rfl ?_ | ((first | refine aw_reg (fun K hK => ?_) | refine aw_drw mixd (fun K hK => ?_) | refine ar_call (cgS hr 0 rfl ?_) | refine ard_call (dgS hr 0 rfl ?_) | fail); simp -implicitDefEqProofs [hkl, hy, hy', w2, b1, b2, b3, b4, i4, hw, k20]) | refine hK _ ?_ | refine hK _ _ (by rfl) ?_ | fail)
    refine ⟨k + 1, ⟨by omega, hpre'⟩, (by dsimp only; omega), ?_⟩
    rw [hI, hs]
    refine cov_mvw 0 2 rfl rfl rfl (by dsimp only; omega) (by dsimp only; omega) ?_
    exact cov_s [27] rfl (by simp -implicitDefEqProofs [St.mvw]) (by simp -implicitDefEqProofs [St.mvw]) (by first | decide | (simp; done)) rfl (by simp)
  by_cases k21 : ax.k = 21
  · unfold moreS at hs
    rw [Tr.lab, if_pos (.inr k21), if_pos (.inr k21)] at hs
    repeat' (first | refine aw_seq ?_ | refine aw_skip ?_ | refine aw_block ?_ | refine aw_exit ?_ | refine aw_ct rfl ?_ | refine aw_cf rfl ?_ | ((first | refine aw_reg (fun K hK => ?_) | refine aw_drw mixd (fun K hK => ?_) | refine ar_call (cgS hr 0 rfl ?_) | refine ard_call (dgS hr 0 rfl ?_) | fail); simp -implicitDefEqProofs [hkl, hy, hy', w2, b1, b2, b3, b4, i4, hw, k20, k21]) | refine hK _ ?_ | refine hK _ _ (by rfl) ?_ | fail)
    refine ⟨k + 1, ⟨by omega, hpre'⟩, (by dsimp only; omega), ?_⟩
    rw [hI, hs]
    refine cov_mvw 0 2 rfl rfl rfl (by dsimp only; omega) (by dsimp only; omega) ?_
    exact cov_s [27] rfl (by simp -implicitDefEqProofs [St.mvw]) (by simp -implicitDefEqProofs [St.mvw]) (by first | decide | (simp; done)) rfl (by simp)
  · have hno : ¬ (ax.k = 20 ∨ ax.k = 21) := by omega
    unfold moreS at hs
    rw [Tr.lab, if_neg hno, if_neg hno] at hs
    repeat' (first | refine aw_seq ?_ | refine aw_skip ?_ | refine aw_block ?_ | refine aw_exit ?_ | refine aw_ct rfl ?_ | refine aw_cf rfl ?_ | ((first | refine aw_reg (fun K hK => ?_) | refine aw_drw mixd (fun K hK => ?_) | refine ar_call (cgS hr 0 rfl ?_) | refine ard_call (dgS hr 0 rfl ?_) | fail); simp -implicitDefEqProofs [hkl, hy, hy', w2, b1, b2, k20, k21]) | refine hK _ ?_ | refine hK _ _ (by rfl) ?_ | fail)
    refine ⟨k + 1, ⟨by omega, hpre'⟩, (by dsimp only; omega), ?_⟩
    rw [hI, hs]; exact cov_s [27] rfl (by simp -implicitDefEqProofs) (by simp -implicitDefEqProofs) (by first | decide | (simp; done)) rfl (by simp)
end Go.Proofs.Ythkfdheoakbfnaa.am
end
section
namespace Go.Proofs.Ythkfdheoakbfnaa.am
open Go.ChangeShapes Go.WideShapes Go.ChangeAt Go.RowKit
open vt
set_option linter.unusedVariables false
set_option linter.unusedSimpArgs false
theorem thn_pl (a b : LR) (h : (thn a b).2.2 = 0) : (thn a b).2.1 = 0 := by
  unfold thn at h ⊢
  split
  · rename_i c; rw [if_pos c] at h; exact absurd h c
  · rename_i c; rw [if_neg c] at h
    split
    · rename_i d; rw [if_pos d] at h; exact absurd h d
    · rfl
theorem len_size2 {x : Lab} {l : List VT} {y : VT} (h : y ∈ l) : l.length + y.size ≤ Tr.size (Tr.mk x l) := by
  rw [Tr.size_mk]
  induction l with
  | nil => cases h
  | cons z l ih =>
    have hz := Tr.size_pos z
    have hl : l.length ≤ (l.map Tr.size).sum := by
      clear ih h
      induction l with
      | nil => simp
      | cons u l ih => have := Tr.size_pos u; simp; omega
    rcases List.mem_cons.1 h with rfl | h
    · simp; omega
    · have := ih h
      simp at this ⊢; omega
set_option maxRecDepth 100000 in
set_option maxHeartbeats 4000000 in
theorem sfun_nil : Row Try.prog 119 [.top, vLs []] [] (vLs []) [] := by
  refine row_of Try.func119 rfl rfl (Nat.le_of_ble_eq_true rfl) ?_
  repeat (first | refine aw_seq ?_ | refine aw_skip ?_ | refine aw_block ?_ | refine aw_exit ?_ | refine aw_ct rfl ?_ | refine aw_cf rfl ?_ | ((first | refine aw_reg (fun K hK => ?_) | refine aw_drw mixd (fun K hK => ?_) | fail); simp -implicitDefEqProofs; first | refine hK _ ?_ | refine hK _ _ (by rfl) ?_ | fail) | fail)
  refine aw_ret (fin_ret ?_); simp -implicitDefEqProofs [FinP, resV, resT] <;> try rfl
set_option maxRecDepth 100000 in
set_option maxHeartbeats 4000000 in
theorem sterm_ok (ml : List VT) (hml : ml.length ≤ 100000) (t : VT) : scpT t → TOk ml t := by
  induction t using Tr.ind with
  | h x l ih =>
  intro hs L E hE hsz
  obtain ⟨h33, h19, hl⟩ := (scpT_mk x l).1 hs
  have hlen := Tr.len_size (x := x) (l := l)
  have hok : ∀ y ∈ l, TOk ml y := fun y hy => ih y hy (hl y hy)
  have hs2 : ∀ y ∈ l, l.length + y.size ≤ Tr.size (Tr.mk x l) := fun y hy => len_size2 hy
  clear hs ih hl
  have hL0 : (L.length : Int) ≤ (L.length : Nat) := Int.le_refl _
  rw [anyT_mk]
  by_cases k19 : x.k = 19
  · have hl0 := h19 k19
    subst hl0
    rw [if_pos k19]
    obtain ⟨t', ht, hr⟩ := sname_row ml hml L E hE (by omega) x
    refine ⟨t', E, ht, hE, ?_⟩
    obtain ⟨⟨tx, tl⟩, rfl⟩ : ∃ u, u = t' := ⟨_, rfl⟩
    clear ht
    generalize (namS ml L x).pl = p at hr ⊢
    generalize (namS ml L x).er = q at hr ⊢
    refine row_of Try.func72 rfl rfl (Nat.le_of_ble_eq_true rfl) ?_
    repeat' (first | refine aw_seq ?_ | refine aw_skip ?_ | refine aw_block ?_ | refine aw_exit ?_ | refine aw_ct rfl ?_ | refine aw_cf rfl ?_ | ((first | refine aw_reg (fun K hK => ?_) | refine aw_drw mixd (fun K hK => ?_) | refine ar_call (cgS hr 0 rfl ?_) | refine ard_call (dgS hr 0 rfl ?_) | fail); simp -implicitDefEqProofs [k19]) | refine hK _ ?_ | refine hK _ _ (by rfl) ?_ | fail)
    refine aw_ret (fin_gS [] rfl ?_); simp -implicitDefEqProofs [FinG, resV, resT] <;> try rfl
  rw [if_neg k19]
  by_cases k16 : x.k = 16
  · have hp := splace_row ml hml L.length 0 0 E x l [33] (by simp)
    by_cases hk : kndI ml x.s = 33
    · have hd : dcl ml x.s ≠ none := fun h => by unfold kndI at hk; rw [h] at hk; simp at hk
      have hm : kndI ml x.s ∈ [(33 : Int)] ∧ dcl ml x.s ≠ none := ⟨by simp [hk], hd⟩
      rw [if_pos hm, if_pos hm, if_pos hm] at hp
      rw [if_neg (by unfold wrgS; simp [k16, hk]), seqT_lst ml x L (by omega) l 0 L [] (fun e => by omega)]
      obtain ⟨acc, E2, a1, a2, a3, hr⟩ := seach_row ml l hok L E hE (fun y hy => by have := hs2 y hy; omega) (by omega) (by omega) 0 0 (fun _ => rfl)
      rw [if_pos rfl, if_pos rfl] at hr
      have i4 := a3.2
      refine ⟨.mk (outS ml x) acc, E2, fun h => ?_, a3, ?_⟩
      · rw [wrp_er] at h; rw [wrp_t _ _ _ h, List.nil_append, a1 rfl h]
      rw [wrp_er, wrp_pl _ _ _ (lstT_pl ml L l)]
      have ho : outS ml x = ⟨x.k, dclI ml x.s, ⟨#[]⟩, x.f, x.t⟩ := by unfold outS; simp [k16]
      rw [ho]
      clear a1 hm hd hk ho
      generalize lstT ml L l = g at hr ⊢
      obtain ⟨g0, g1, g2⟩ := g
      dsimp only at hr ⊢
      generalize dclI ml x.s = di at hp ⊢
      refine row_of Try.func72 rfl rfl (Nat.le_of_ble_eq_true rfl) ?_
      repeat' (first | refine aw_seq ?_ | refine aw_skip ?_ | refine aw_block ?_ | refine aw_exit ?_ | refine aw_ct rfl ?_ | refine aw_cf rfl ?_ | ((first | refine aw_reg (fun K hK => ?_) | refine aw_drw mixd (fun K hK => ?_) | refine ar_call (cgS hp 0 rfl ?_) | refine ard_call (dgS hp 0 rfl ?_) | refine ar_call (cgS hr 0 rfl ?_) | refine ard_call (dgS hr 0 rfl ?_) | fail); simp -implicitDefEqProofs [k16, hL0, i4]) | refine hK _ ?_ | refine hK _ _ (by rfl) ?_ | fail)
      refine aw_ret (fin_gS [] rfl ?_); simp -implicitDefEqProofs [FinG, resV, resT, k16] <;> try rfl
    · have hm : ¬ (kndI ml x.s ∈ [(33 : Int)] ∧ dcl ml x.s ≠ none) := fun h => hk (by simpa using h.1)
      rw [if_neg hm, if_neg hm, if_neg hm, if_pos rfl, if_pos rfl] at hp
      rw [if_pos (by unfold wrgS; simp [k16, hk])]
      obtain ⟨acc, E2, a1, a2, a3, hr⟩ := seach_row ml l hok L E hE (fun y hy => by have := hs2 y hy; omega) (by omega) (by omega) x.f 8 (fun h => absurd h (by decide))
      rw [if_neg (by decide), if_neg (by decide)] at hr
      have i4 := a3.2
      refine ⟨.mk ⟨x.k, 0, ⟨#[]⟩, x.f, x.t⟩ acc, E2, fun h => absurd (show (8 : Int) = 0 from h) (by decide), a3, ?_⟩
      unfold badS
      dsimp only
      clear a1 hm hk
      refine row_of Try.func72 rfl rfl (Nat.le_of_ble_eq_true rfl) ?_
      repeat' (first | refine aw_seq ?_ | refine aw_skip ?_ | refine aw_block ?_ | refine aw_exit ?_ | refine aw_ct rfl ?_ | refine aw_cf rfl ?_ | ((first | refine aw_reg (fun K hK => ?_) | refine aw_drw mixd (fun K hK => ?_) | refine ar_call (cgS hp 0 rfl ?_) | refine ard_call (dgS hp 0 rfl ?_) | refine ar_call (cgS hr 0 rfl ?_) | refine ard_call (dgS hr 0 rfl ?_) | fail); simp -implicitDefEqProofs [k16, hL0, i4]) | refine hK _ ?_ | refine hK _ _ (by rfl) ?_ | fail)
      refine aw_ret (fin_gS [] rfl ?_); simp -implicitDefEqProofs [FinG, resV, resT, k16] <;> try rfl
  by_cases k15 : x.k = 15
  · have hp := splace_row ml hml L.length 0 0 E x l [30] (by simp)
    by_cases hk : kndI ml x.s = 30
    · have hd : dcl ml x.s ≠ none := fun h => by unfold kndI at hk; rw [h] at hk; simp at hk
      have hm : kndI ml x.s ∈ [(30 : Int)] ∧ dcl ml x.s ≠ none := ⟨by simp [hk], hd⟩
      rw [if_pos hm, if_pos hm, if_pos hm] at hp
      rw [if_neg (by unfold wrgS; simp [k15, hk]), seqT_lst ml x L (by omega) l 0 L [] (fun e => by omega)]
      obtain ⟨acc, E2, a1, a2, a3, hr⟩ := seach_row ml l hok L E hE (fun y hy => by have := hs2 y hy; omega) (by omega) (by omega) 0 0 (fun _ => rfl)
      rw [if_pos rfl, if_pos rfl] at hr
      have i4 := a3.2
      refine ⟨.mk (outS ml x) acc, E2, fun h => ?_, a3, ?_⟩
      · rw [wrp_er] at h; rw [wrp_t _ _ _ h, List.nil_append, a1 rfl h]
      rw [wrp_er, wrp_pl _ _ _ (lstT_pl ml L l)]
      have ho : outS ml x = ⟨x.k, dclI ml x.s, ⟨#[]⟩, x.f, x.t⟩ := by unfold outS; simp [k15]
      rw [ho]
      clear a1 hm hd hk ho
      generalize lstT ml L l = g at hr ⊢
      obtain ⟨g0, g1, g2⟩ := g
      dsimp only at hr ⊢
      generalize dclI ml x.s = di at hp ⊢
      refine row_of Try.func72 rfl rfl (Nat.le_of_ble_eq_true rfl) ?_
      repeat' (first | refine aw_seq ?_ | refine aw_skip ?_ | refine aw_block ?_ | refine aw_exit ?_ | refine aw_ct rfl ?_ | refine aw_cf rfl ?_ | ((first | refine aw_reg (fun K hK => ?_) | refine aw_drw mixd (fun K hK => ?_) | refine ar_call (cgS hp 0 rfl ?_) | refine ard_call (dgS hp 0 rfl ?_) | refine ar_call (cgS hr 0 rfl ?_) | refine ard_call (dgS hr 0 rfl ?_) | fail); simp -implicitDefEqProofs [k15, hL0, i4]) | refine hK _ ?_ | refine hK _ _ (by rfl) ?_ | fail)
      refine aw_ret (fin_gS [] rfl ?_); simp -implicitDefEqProofs [FinG, resV, resT, k15] <;> try rfl
    · have hm : ¬ (kndI ml x.s ∈ [(30 : Int)] ∧ dcl ml x.s ≠ none) := fun h => hk (by simpa using h.1)
      rw [if_neg hm, if_neg hm, if_neg hm, if_pos rfl, if_pos rfl] at hp
      rw [if_pos (by unfold wrgS; simp [k15, hk])]
      obtain ⟨acc, E2, a1, a2, a3, hr⟩ := seach_row ml l hok L E hE (fun y hy => by have := hs2 y hy; omega) (by omega) (by omega) x.f 8 (fun h => absurd h (by decide))
      rw [if_neg (by decide), if_neg (by decide)] at hr
      have i4 := a3.2
      refine ⟨.mk ⟨x.k, 0, ⟨#[]⟩, x.f, x.t⟩ acc, E2, fun h => absurd (show (8 : Int) = 0 from h) (by decide), a3, ?_⟩
      unfold badS
      dsimp only
      clear a1 hm hk
      refine row_of Try.func72 rfl rfl (Nat.le_of_ble_eq_true rfl) ?_
      repeat' (first | refine aw_seq ?_ | refine aw_skip ?_ | refine aw_block ?_ | refine aw_exit ?_ | refine aw_ct rfl ?_ | refine aw_cf rfl ?_ | ((first | refine aw_reg (fun K hK => ?_) | refine aw_drw mixd (fun K hK => ?_) | refine ar_call (cgS hp 0 rfl ?_) | refine ard_call (dgS hp 0 rfl ?_) | refine ar_call (cgS hr 0 rfl ?_) | refine ard_call (dgS hr 0 rfl ?_) | fail); simp -implicitDefEqProofs [k15, hL0, i4]) | refine hK _ ?_ | refine hK _ _ (by rfl) ?_ | fail)
      refine aw_ret (fin_gS [] rfl ?_); simp -implicitDefEqProofs [FinG, resV, resT, k15] <;> try rfl
  by_cases k4 : x.k = 4
  · have hp := splace_row ml hml L.length 0 0 E x l [30] (by simp)
    by_cases hk : kndI ml x.s = 30
    · have hd : dcl ml x.s ≠ none := fun h => by unfold kndI at hk; rw [h] at hk; simp at hk
      have hm : kndI ml x.s ∈ [(30 : Int)] ∧ dcl ml x.s ≠ none := ⟨by simp [hk], hd⟩
      rw [if_pos hm, if_pos hm, if_pos hm] at hp
      rw [if_neg (by unfold wrgS; simp [k4, hk]), seqT_lst ml x L (by omega) l 0 L [] (fun e => by omega)]
      obtain ⟨acc, E2, a1, a2, a3, hr⟩ := seach_row ml l hok L E hE (fun y hy => by have := hs2 y hy; omega) (by omega) (by omega) 0 0 (fun _ => rfl)
      rw [if_pos rfl, if_pos rfl] at hr
      have i4 := a3.2
      refine ⟨.mk (outS ml x) acc, E2, fun h => ?_, a3, ?_⟩
      · rw [wrp_er] at h; rw [wrp_t _ _ _ h, List.nil_append, a1 rfl h]
      rw [wrp_er, wrp_pl _ _ _ (lstT_pl ml L l)]
      have ho : outS ml x = ⟨x.k, dclI ml x.s, ⟨#[]⟩, x.f, x.t⟩ := by unfold outS; simp [k4]
      rw [ho]
      clear a1 hm hd hk ho
      generalize lstT ml L l = g at hr ⊢
      obtain ⟨g0, g1, g2⟩ := g
      dsimp only at hr ⊢
      generalize dclI ml x.s = di at hp ⊢
      refine row_of Try.func72 rfl rfl (Nat.le_of_ble_eq_true rfl) ?_
      repeat' (first | refine aw_seq ?_ | refine aw_skip ?_ | refine aw_block ?_ | refine aw_exit ?_ | refine aw_ct rfl ?_ | refine aw_cf rfl ?_ | ((first | refine aw_reg (fun K hK => ?_) | refine aw_drw mixd (fun K hK => ?_) | refine ar_call (cgS hp 0 rfl ?_) | refine ard_call (dgS hp 0 rfl ?_) | refine ar_call (cgS hr 0 rfl ?_) | refine ard_call (dgS hr 0 rfl ?_) | fail); simp -implicitDefEqProofs [k4, hL0, i4]) | refine hK _ ?_ | refine hK _ _ (by rfl) ?_ | fail)
      refine aw_ret (fin_gS [] rfl ?_); simp -implicitDefEqProofs [FinG, resV, resT, k4] <;> try rfl
    · have hm : ¬ (kndI ml x.s ∈ [(30 : Int)] ∧ dcl ml x.s ≠ none) := fun h => hk (by simpa using h.1)
      rw [if_neg hm, if_neg hm, if_neg hm, if_pos rfl, if_pos rfl] at hp
      rw [if_pos (by unfold wrgS; simp [k4, hk])]
      obtain ⟨acc, E2, a1, a2, a3, hr⟩ := seach_row ml l hok L E hE (fun y hy => by have := hs2 y hy; omega) (by omega) (by omega) x.f 8 (fun h => absurd h (by decide))
      rw [if_neg (by decide), if_neg (by decide)] at hr
      have i4 := a3.2
      refine ⟨.mk ⟨x.k, 0, ⟨#[]⟩, x.f, x.t⟩ acc, E2, fun h => absurd (show (8 : Int) = 0 from h) (by decide), a3, ?_⟩
      unfold badS
      dsimp only
      clear a1 hm hk
      refine row_of Try.func72 rfl rfl (Nat.le_of_ble_eq_true rfl) ?_
      repeat' (first | refine aw_seq ?_ | refine aw_skip ?_ | refine aw_block ?_ | refine aw_exit ?_ | refine aw_ct rfl ?_ | refine aw_cf rfl ?_ | ((first | refine aw_reg (fun K hK => ?_) | refine aw_drw mixd (fun K hK => ?_) | refine ar_call (cgS hp 0 rfl ?_) | refine ard_call (dgS hp 0 rfl ?_) | refine ar_call (cgS hr 0 rfl ?_) | refine ard_call (dgS hr 0 rfl ?_) | fail); simp -implicitDefEqProofs [k4, hL0, i4]) | refine hK _ ?_ | refine hK _ _ (by rfl) ?_ | fail)
      refine aw_ret (fin_gS [] rfl ?_); simp -implicitDefEqProofs [FinG, resV, resT, k4] <;> try rfl
  rw [if_neg (by unfold wrgS; simp [k16, k15, k4])]
  by_cases k29 : x.k = 29
  · rw [seqT_blk ml x L k29 l 0 L []]
    obtain ⟨acc, L2, E2, a1, a2, a3, a4, a5, hr⟩ := sblock_row ml l hok L E hE (fun y hy => by have := hs2 y hy; omega) (by omega)
    have i4 := a5.2
    have i5 : (L.length : Int) ≤ (L2.length : Nat) := by omega
    refine ⟨.mk (outS ml x) acc, E2, fun h => ?_, ⟨?_, by omega⟩, ?_⟩
    · rw [wrp_er] at h; rw [wrp_t _ _ _ h, List.nil_append, a1 h]
    · have := congrArg (List.take L.length) a5.1
      rw [List.take_take, Nat.min_eq_left a3, a2] at this
      exact this
    rw [wrp_er, wrp_pl _ _ _ (blkS_pl ml l L)]
    have ho : outS ml x = ⟨x.k, x.n, ⟨#[]⟩, x.f, x.t⟩ := by unfold outS; simp [k29]
    rw [ho]
    clear a1 ho
    generalize blkS ml L l = g at hr ⊢
    obtain ⟨g0, g1, g2⟩ := g
    dsimp only at hr ⊢
    refine row_of Try.func72 rfl rfl (Nat.le_of_ble_eq_true rfl) ?_
    repeat' (first | refine aw_seq ?_ | refine aw_skip ?_ | refine aw_block ?_ | refine aw_exit ?_ | refine aw_ct rfl ?_ | refine aw_cf rfl ?_ | ((first | refine aw_reg (fun K hK => ?_) | refine aw_drw mixd (fun K hK => ?_) | refine ar_call (cgS hr 0 rfl ?_) | refine ard_call (dgS hr 0 rfl ?_) | fail); simp -implicitDefEqProofs [k29, i5, i4]) | refine hK _ ?_ | refine hK _ _ (by rfl) ?_ | fail)
    refine aw_ret (fin_gS [] rfl ?_); simp -implicitDefEqProofs [FinG, resV, resT, k29] <;> try rfl
  by_cases k25 : x.k = 25
  · rw [seqT_for ml x L k25 l]
    obtain ⟨acc, E2, a1, a3, hr, -⟩ := sarnd_row ml l hok 2 [x.s] L E hE (fun y hy => by have := hs2 y hy; have := Tr.size_pos y; have : 0 < l.length := List.length_pos_of_mem hy; simp; omega) (by omega) (by simp; omega) (by omega)
    have i4 := a3.2
    rw [List.length_append, List.length_singleton] at i4
    rw [List.length_singleton] at hr
    have i5 : (L.length : Int) ≤ (L.length : Nat) + 1 := by omega
    refine ⟨.mk (outS ml x) acc, E2, fun h => ?_, ⟨?_, by omega⟩, ?_⟩
    · rw [wrp_er] at h; rw [wrp_t _ _ _ h, List.nil_append, a1 h]
    · have := congrArg (List.take L.length) a3.1
      rw [List.take_take, Nat.min_eq_left (by simp), List.take_left] at this
      exact this
    rw [wrp_er, wrp_pl _ _ _ (thn_pl _ _)]
    have ho : outS ml x = ⟨x.k, x.n, ⟨#[]⟩, x.f, x.t⟩ := by unfold outS; simp [k25]
    rw [ho]
    clear a1 ho
    generalize thn (lstT ml L (l.take 2)) (lstT ml (L ++ [x.s]) (l.drop 2)) = g at hr ⊢
    obtain ⟨g0, g1, g2⟩ := g
    dsimp only at hr ⊢
    refine row_of Try.func72 rfl rfl (Nat.le_of_ble_eq_true rfl) ?_
    repeat' (first | refine aw_seq ?_ | refine aw_skip ?_ | refine aw_block ?_ | refine aw_exit ?_ | refine aw_ct rfl ?_ | refine aw_cf rfl ?_ | ((first | refine aw_reg (fun K hK => ?_) | refine aw_drw mixd (fun K hK => ?_) | refine ar_call (cgS hr 0 rfl ?_) | refine ard_call (dgS hr 0 rfl ?_) | fail); simp -implicitDefEqProofs [k25, i5, i4]) | refine hK _ ?_ | refine hK _ _ (by rfl) ?_ | fail)
    refine aw_ret (fin_gS [] rfl ?_); simp -implicitDefEqProofs [FinG, resV, resT, k25] <;> try rfl
  rw [seqT_lst ml x L k29 l 0 L [] (fun e => absurd e k25)]
  by_cases k33 : x.k = 33
  · have hl0 := h33 k33
    subst hl0
    have hr := sfun_nil
    have i4 := hE.2
    refine ⟨.mk (outS ml x) [], E, fun h => ?_, hE, ?_⟩
    · rw [wrp_er] at h; rw [wrp_t _ _ _ h]; rfl
    rw [wrp_er, wrp_pl _ _ _ (lstT_pl ml L [])]
    have ho : outS ml x = ⟨x.k, x.n, ⟨#[]⟩, x.f, x.t⟩ := by unfold outS; simp [k33]
    rw [ho]
    unfold lstT
    dsimp only
    refine row_of Try.func72 rfl rfl (Nat.le_of_ble_eq_true rfl) ?_
    refine aw_mvw 1 0 2 _ 9 1 L.length (wsS E) rfl rfl (.inr rfl) (show (1 : Nat) < 3 by decide) (show (0 : Nat) < 3 by decide) ?_
    simp [St.mvw]
    repeat' (first | refine aw_seq ?_ | refine aw_skip ?_ | refine aw_block ?_ | refine aw_exit ?_ | refine aw_ct rfl ?_ | refine aw_cf rfl ?_ | ((first | refine aw_reg (fun K hK => ?_) | refine aw_drw mixd (fun K hK => ?_) | refine ar_call (cp hr ?_) | refine ard_call (dp hr ?_) | fail); simp -implicitDefEqProofs [k33, hL0, i4]) | refine hK _ ?_ | refine hK _ _ (by rfl) ?_ | fail)
    refine aw_ret (fin_gS [] rfl ?_); simp -implicitDefEqProofs [FinG, resV, resT, k33] <;> try rfl
  by_cases k13 : x.k = 13
  · obtain ⟨acc, E2, a1, a2, a3, hr⟩ := seach_row ml l hok L E hE (fun y hy => by have := hs2 y hy; omega) (by omega) (by omega) 0 0 (fun _ => rfl)
    rw [if_pos rfl, if_pos rfl] at hr
    have i4 := a3.2
    refine ⟨.mk (outS ml x) acc, E2, fun h => ?_, a3, ?_⟩
    · rw [wrp_er] at h; rw [wrp_t _ _ _ h, List.nil_append, a1 rfl h]
    rw [wrp_er, wrp_pl _ _ _ (lstT_pl ml L l)]
    have ho : outS ml x = ⟨x.k, x.n, x.s, x.f, x.t⟩ := by unfold outS; simp [k13]
    rw [ho]
    clear a1 ho
    generalize lstT ml L l = g at hr ⊢
    obtain ⟨g0, g1, g2⟩ := g
    dsimp only at hr ⊢
    refine row_of Try.func72 rfl rfl (Nat.le_of_ble_eq_true rfl) ?_
    repeat' (first | refine aw_seq ?_ | refine aw_skip ?_ | refine aw_block ?_ | refine aw_exit ?_ | refine aw_ct rfl ?_ | refine aw_cf rfl ?_ | ((first | refine aw_reg (fun K hK => ?_) | refine aw_drw mixd (fun K hK => ?_) | refine ar_call (cgS hr 0 rfl ?_) | refine ard_call (dgS hr 0 rfl ?_) | fail); simp -implicitDefEqProofs [k13, hL0, i4]) | refine hK _ ?_ | refine hK _ _ (by rfl) ?_ | fail)
    refine aw_ret (fin_gS [] rfl ?_); simp -implicitDefEqProofs [FinG, resV, resT, k13] <;> try rfl
  by_cases k17 : x.k = 17
  · obtain ⟨acc, E2, a1, a2, a3, hr⟩ := seach_row ml l hok L E hE (fun y hy => by have := hs2 y hy; omega) (by omega) (by omega) 0 0 (fun _ => rfl)
    rw [if_pos rfl, if_pos rfl] at hr
    have i4 := a3.2
    refine ⟨.mk (outS ml x) acc, E2, fun h => ?_, a3, ?_⟩
    · rw [wrp_er] at h; rw [wrp_t _ _ _ h, List.nil_append, a1 rfl h]
    rw [wrp_er, wrp_pl _ _ _ (lstT_pl ml L l)]
    have ho : outS ml x = ⟨x.k, x.n, x.s, x.f, x.t⟩ := by unfold outS; simp [k17]
    rw [ho]
    clear a1 ho
    generalize lstT ml L l = g at hr ⊢
    obtain ⟨g0, g1, g2⟩ := g
    dsimp only at hr ⊢
    refine row_of Try.func72 rfl rfl (Nat.le_of_ble_eq_true rfl) ?_
    repeat' (first | refine aw_seq ?_ | refine aw_skip ?_ | refine aw_block ?_ | refine aw_exit ?_ | refine aw_ct rfl ?_ | refine aw_cf rfl ?_ | ((first | refine aw_reg (fun K hK => ?_) | refine aw_drw mixd (fun K hK => ?_) | refine ar_call (cgS hr 0 rfl ?_) | refine ard_call (dgS hr 0 rfl ?_) | fail); simp -implicitDefEqProofs [k17, hL0, i4]) | refine hK _ ?_ | refine hK _ _ (by rfl) ?_ | fail)
    refine aw_ret (fin_gS [] rfl ?_); simp -implicitDefEqProofs [FinG, resV, resT, k17] <;> try rfl
  obtain ⟨acc, E2, a1, a2, a3, hr⟩ := seach_row ml l hok L E hE (fun y hy => by have := hs2 y hy; omega) (by omega) (by omega) 0 0 (fun _ => rfl)
  rw [if_pos rfl, if_pos rfl] at hr
  have i4 := a3.2
  refine ⟨.mk (outS ml x) acc, E2, fun h => ?_, a3, ?_⟩
  · rw [wrp_er] at h; rw [wrp_t _ _ _ h, List.nil_append, a1 rfl h]
  rw [wrp_er, wrp_pl _ _ _ (lstT_pl ml L l)]
  have ho : outS ml x = ⟨x.k, x.n, ⟨#[]⟩, x.f, x.t⟩ := by unfold outS; simp [k19, k16, k15, k4, k29, k25, k33, k13, k17]
  rw [ho]
  clear a1 ho
  generalize lstT ml L l = g at hr ⊢
  obtain ⟨g0, g1, g2⟩ := g
  dsimp only at hr ⊢
  refine row_of Try.func72 rfl rfl (Nat.le_of_ble_eq_true rfl) ?_
  repeat' (first | refine aw_seq ?_ | refine aw_skip ?_ | refine aw_block ?_ | refine aw_exit ?_ | refine aw_ct rfl ?_ | refine aw_cf rfl ?_ | ((first | refine aw_reg (fun K hK => ?_) | refine aw_drw mixd (fun K hK => ?_) | refine ar_call (cgS hr 0 rfl ?_) | refine ard_call (dgS hr 0 rfl ?_) | fail); simp -implicitDefEqProofs [k19, k16, k15, k4, k29, k25, k33, k13, k17, hL0, i4]) | refine hK _ ?_ | refine hK _ _ (by rfl) ?_ | fail)
  refine aw_ret (fin_gS [] rfl ?_); simp -implicitDefEqProofs [FinG, resV, resT] <;> try rfl
end Go.Proofs.Ythkfdheoakbfnaa.am
end
section
namespace Go.Proofs.Ythkfdheoakbfnaa.am
open Go.ChangeShapes Go.WideShapes Go.ChangeAt Go.RowKit
open vt
set_option linter.unusedVariables false
set_option linter.unusedSimpArgs false
structure Sp where
  acc : List VT
  M : List (Value × PT)
  E : List ByteArray
  pl : Int
  er : Int
noncomputable def spN (stp : Nat → Sp → Sp) (s0 : Sp) : Nat → Sp
  | 0 => s0
  | k + 1 => stp k (spN stp s0 k)
theorem okE0 (E : List ByteArray) : OkE [] E := ⟨rfl, Nat.zero_le _⟩
theorem each_fun {ml l : List VT} (hp : ∀ q ∈ l, ∀ y ∈ q.kids, TOk ml y) (hsz : ∀ q ∈ l, q.size ≤ 100000) : ∃ (fa : Nat → List ByteArray → Int → Int → List VT) (fE : Nat → List ByteArray → Int → Int → List ByteArray), ∀ k q E a e, l[k]? = some q → (e = 0 → a = 0) → (e = 0 → (lstT ml [] q.kids).2.2 = 0 → fa k E a e = (lstT ml [] q.kids).1) ∧ (fa k E a e).length ≤ q.kids.length ∧ Row Try.prog 114 [vPt, vLs q.kids] [bxS 1 2 ml 0 a e, arS E, mpS ml] (.v (.c (.row 4 6 ((fa k E a e).map tc)))) [some (bxS 3 2 ml 0 (if e = 0 then (lstT ml [] q.kids).2.1 else a) (if e = 0 then (lstT ml [] q.kids).2.2 else e)), none, some (mpS ml), some (arS (fE k E a e)), some (.row 25 6)] := by
  have key : ∀ (k : Nat) (E : List ByteArray) (a e : Int), ∃ acc E', ∀ q, l[k]? = some q → (e = 0 → a = 0) → (e = 0 → (lstT ml [] q.kids).2.2 = 0 → acc = (lstT ml [] q.kids).1) ∧ acc.length ≤ q.kids.length ∧ Row Try.prog 114 [vPt, vLs q.kids] [bxS 1 2 ml 0 a e, arS E, mpS ml] (.v (.c (.row 4 6 (acc.map tc)))) [some (bxS 3 2 ml 0 (if e = 0 then (lstT ml [] q.kids).2.1 else a) (if e = 0 then (lstT ml [] q.kids).2.2 else e)), none, some (mpS ml), some (arS E'), some (.row 25 6)] := by
    intro k E a e
    by_cases hc : ∃ q, l[k]? = some q ∧ (e = 0 → a = 0)
    · obtain ⟨q, h1, h2⟩ := hc
      have hm := List.mem_of_getElem? h1
      obtain ⟨x, kl⟩ := q
      have h0 := hsz _ hm
      have hlen := Tr.len_size (x := x) (l := kl)
      obtain ⟨acc, E', b1, b2, b3, hr⟩ := seach_row ml kl (hp _ hm) [] E (okE0 E) (fun y hy => by
        obtain ⟨i, hi⟩ := List.mem_iff_getElem?.1 hy
        have := Tr.size_at (x := x) hi
        simp; omega) (by omega) (by simp) a e h2
      exact ⟨acc, E', fun q hq _ => by rw [h1] at hq; cases hq; exact ⟨b1, b2, hr⟩⟩
    · exact ⟨[], [], fun q h1 h2 => absurd ⟨q, h1, h2⟩ hc⟩
  exact ⟨fun k E a e => Classical.choose (key k E a e), fun k E a e => Classical.choose (Classical.choose_spec (key k E a e)), fun k q E a e h1 h2 => Classical.choose_spec (Classical.choose_spec (key k E a e)) q h1 h2⟩
def twP (M : List (Value × PT)) (y : VT) (p e : Int) : Int × Int := match mlook M (.string y.lab.s) with
  | some _ => (if e = 0 then y.lab.f else p, if e = 0 then 9 else e)
  | none => (p, e)
noncomputable def stP (ml l : List VT) (fa : Nat → List ByteArray → Int → Int → List VT) (fE : Nat → List ByteArray → Int → Int → List ByteArray) (k : Nat) (s : Sp) : Sp :=
  let y := l.getD k z0T
  let t := twP s.M y s.pl s.er
  ⟨s.acc ++ [.mk y.lab (fa k s.E t.1 t.2)], mput s.M (.string y.lab.s) (.c (I (k : Nat))), fE k s.E t.1 t.2, if t.2 = 0 then (lstT ml [] y.kids).2.1 else t.1, if t.2 = 0 then (lstT ml [] y.kids).2.2 else t.2⟩
structure InvSp (ml l : List VT) (k : Nat) (s : Sp) : Prop where
  len : s.acc.length = k
  pl : s.pl = (prtS ml true [] (l.take k)).2.1
  er : s.er = (prtS ml true [] (l.take k)).2.2
  acc : s.er = 0 → s.acc = (prtS ml true [] (l.take k)).1 ∧ s.M = plF 0 (l.take k) ∧ s.pl = 0
theorem part_any (ml : List VT) {x : Lab} {l : List VT} (hk : x.k = 34) : anyT ml (.mk x l) [] = wrpS ⟨x.k, x.n, ⟨#[]⟩, x.f, x.t⟩ [] (lstT ml [] l) := by
  rw [anyT_mk, if_neg (by omega), if_neg (by unfold wrgS; simp [hk]), seqT_lst ml x [] (by omega) l 0 [] [] (fun e => by omega)]
  congr 1
  unfold outS
  simp [hk]
theorem spP_inv {ml l : List VT} (hk : ∀ q ∈ l, q.lab.k = 34) {E : List ByteArray} {fa : Nat → List ByteArray → Int → Int → List VT} {fE : Nat → List ByteArray → Int → Int → List ByteArray} (hf : ∀ k q E a e, l[k]? = some q → (e = 0 → a = 0) → (e = 0 → (lstT ml [] q.kids).2.2 = 0 → fa k E a e = (lstT ml [] q.kids).1)) : ∀ k, k ≤ l.length → InvSp ml l k (spN (stP ml l fa fE) ⟨[], [], E, 0, 0⟩ k)
  | 0, _ => ⟨rfl, rfl, rfl, fun _ => ⟨rfl, rfl, rfl⟩⟩
  | k + 1, hkl => by
    have ih := spP_inv (E := E) (fE := fE) hk hf k (by omega)
    obtain ⟨y, hy⟩ : ∃ y, l[k]? = some y := ⟨_, List.getElem?_eq_getElem (by omega)⟩
    have hgd : l.getD k z0T = y := by rw [List.getD_eq_getElem?_getD, hy]; rfl
    have htk : l.take (k + 1) = l.take k ++ [y] := by rw [List.take_add_one, hy]; rfl
    have hy34 := hk y (List.mem_of_getElem? hy)
    obtain ⟨x, kl⟩ := y
    rw [Tr.lab] at hy34
    have hs := prtS_snoc ml true (.mk x kl) (l.take k) []
    rw [← htk, part_any ml hy34, List.nil_append, wrp_er, Tr.lab] at hs
    unfold spN
    generalize spN (stP ml l fa fE) ⟨[], [], E, 0, 0⟩ k = s at ih
    obtain ⟨len, pl, er, acc⟩ := ih
    unfold stP
    rw [hgd]
    dsimp only [Tr.lab, Tr.kids]
    have hlt : (l.take k).length = k := by rw [List.length_take]; omega
    by_cases h0 : s.er = 0
    · obtain ⟨q1, q2, q3⟩ := acc h0
      rw [if_neg (by rw [← er]; simpa using h0)] at hs
      have hlk := plF_look x.s (l.take k) 0
      cases hd : hasS ((l.take k).map (·.lab.s)) x.s with
      | true =>
        rw [if_pos hd] at hs
        have hdn : dcl (l.take k) x.s ≠ none := fun h => by rw [dcl_none.1 h] at hd; cases hd
        obtain ⟨i, hi⟩ : ∃ i, dcl (l.take k) x.s = some i := by
          cases hq : dcl (l.take k) x.s with
          | none => exact absurd hq hdn
          | some i => exact ⟨i, rfl⟩
        rw [hi, Option.map_some, ← q2] at hlk
        have ht : twP s.M (.mk x kl) s.pl s.er = (x.f, 9) := by unfold twP; rw [Tr.lab, hlk]; simp [h0]
        rw [ht]
        dsimp only
        refine ⟨by simp [len], ?_, ?_, fun h => absurd (show (9 : Int) = 0 from h) (by decide)⟩
        · rw [hs]; rfl
        · rw [hs]; rfl
      | false =>
        rw [if_neg (by rw [hd]; decide)] at hs
        rw [dcl_none.2 hd, Option.map_none, ← q2] at hlk
        have ht : twP s.M (.mk x kl) s.pl s.er = (0, 0) := by unfold twP; rw [Tr.lab, hlk]; simp [h0, q3]
        rw [ht]
        dsimp only
        rw [if_pos rfl, if_pos rfl]
        have hfa := hf k _ s.E 0 0 hy (fun _ => rfl) rfl
        rw [Tr.kids] at hfa
        by_cases h2 : (lstT ml [] kl).2.2 = 0
        · rw [if_neg (by simpa using h2), wrp_t _ _ _ h2] at hs
          refine ⟨by simp [len], ?_, ?_, fun _ => ⟨?_, ?_, lstT_pl ml [] kl h2⟩⟩
          · rw [hs]; exact lstT_pl ml [] kl h2
          · rw [hs]; exact h2
          · rw [hs, q1, hfa h2]
            dsimp only
            unfold keepS
            rw [if_pos rfl]
            simp [Tr.lab, Tr.kids]
          · rw [plF_put x.s _ _ hlk, q2, htk, plF_snoc]
            simp [Tr.lab, hlt]
        · rw [if_pos h2, wrp_pl _ _ _ (lstT_pl ml [] kl)] at hs
          refine ⟨by simp [len], ?_, ?_, fun h => absurd h h2⟩
          · rw [hs]
          · rw [hs]
    · rw [if_pos (by rw [← er]; exact h0)] at hs
      have ht : twP s.M (.mk x kl) s.pl s.er = (s.pl, s.er) := by unfold twP; rw [Tr.lab]; split <;> simp [h0]
      rw [ht]
      dsimp only
      rw [if_neg h0, if_neg h0]
      refine ⟨by simp [len], ?_, ?_, fun h => absurd h h0⟩
      · rw [hs]; exact pl
      · rw [hs]; exact er
set_option maxRecDepth 100000 in
set_option maxHeartbeats 4000000 in
theorem sparts_row (ml l : List VT) (hk : ∀ q ∈ l, q.lab.k = 34) (hp : ∀ q ∈ l, ∀ y ∈ q.kids, TOk ml y) (hsz : ∀ q ∈ l, q.size ≤ 100000) (hlen : l.length ≤ 100000) (E : List ByteArray) : ∃ acc E', ((prtS ml true [] l).2.2 = 0 → acc = (prtS ml true [] l).1) ∧ acc.length = l.length ∧ Row Try.prog 71 [vPt, vLs l] [bxS 1 2 ml 0 0 0, arS E, mpS ml] (.v (.c (.arr 4 6 l.length))) [some (bxS 3 2 ml 0 (prtS ml true [] l).2.1 (prtS ml true [] l).2.2), none, some (mpS ml), some (arS E'), some (.arr 25 6 (acc.map tc))] := by
  obtain ⟨fa, fE, hf⟩ := each_fun (ml := ml) (l := l) hp hsz
  have hinv := spP_inv (ml := ml) (l := l) (E := E) (fE := fE) hk (fun k q E a e h1 h2 => (hf k q E a e h1 h2).1)
  have hstp : ∀ k, spN (stP ml l fa fE) ⟨[], [], E, 0, 0⟩ (k + 1) = stP ml l fa fE k (spN (stP ml l fa fE) ⟨[], [], E, 0, 0⟩ k) := fun k => rfl
  have h00 : spN (stP ml l fa fE) ⟨[], [], E, 0, 0⟩ 0 = ⟨[], [], E, 0, 0⟩ := rfl
  obtain ⟨S, hS⟩ : ∃ S, spN (stP ml l fa fE) ⟨[], [], E, 0, 0⟩ = S := ⟨_, rfl⟩
  rw [hS] at hinv hstp h00
  have hend := hinv l.length (Nat.le_refl _)
  have e1 := hend.pl
  have e2 := hend.er
  rw [List.take_length] at e1 e2
  refine ⟨(S l.length).acc, (S l.length).E, fun h1 => ?_, hend.len, ?_⟩
  · have := (hend.acc (by rw [e2]; exact h1)).1
    rw [List.take_length] at this; exact this
  rw [← e1, ← e2]
  have hll := hend.len
  clear e1 e2 hend hS
  have c1 : (S 0).acc = [] := by rw [h00]
  have c2 : (S 0).E = E := by rw [h00]
  have c3 : (S 0).pl = 0 := by rw [h00]
  have c4 : (S 0).er = 0 := by rw [h00]
  have c5 : (S 0).M = [] := by rw [h00]
  refine row_of Try.func71 rfl rfl (Nat.le_of_ble_eq_true rfl) ?_
  repeat (first | refine aw_seq ?_ | refine aw_skip ?_ | refine aw_block ?_ | refine aw_exit ?_ | refine aw_ct rfl ?_ | refine aw_cf rfl ?_ | ((first | refine aw_reg (fun K hK => ?_) | refine aw_drw mixd (fun K hK => ?_) | fail); simp -implicitDefEqProofs; first | refine hK _ ?_ | refine hK _ _ (by rfl) ?_ | fail) | fail)
  refine aw_mvw 1 0 2 _ 9 1 0 (wsS E) rfl rfl (.inr rfl) (by dsimp only; omega) (by dsimp only; omega) ?_
  simp [St.mvw]
  refine aw_nila 6 25 6 (by simp) ?_
  refine aw_lp (ι := Nat) (fun k => mkSt [(0, vPt), (5, .v (.c (.map 4))), (6, .v (.c (.arr 5 6 k))), (12, vLs l), (13, vI (l.length : Nat)), (14, vI (k : Nat))] [some (bxS 3 2 ml 0 (S k).pl (S k).er), none, some (mpS ml), some (arS (S k).E), some (.mp none (S k).M), some (.arr 25 6 ((S k).acc.map tc))]) (fun k => k ≤ l.length) (fun k => l.length - k) 0 (Nat.zero_le _) (by rw [c1, c2, c3, c4, c5]; unfold St.nila; exact cov_s [4, 11] rfl (by simp -implicitDefEqProofs) (by simp -implicitDefEqProofs) (by first | decide | (simp; done)) rfl (by simp)) (fun Z hI k hk => ?_)
  by_cases hkl : k < l.length; rotate_left
  · have : k = l.length := by omega
    subst this
    repeat (first | refine aw_seq ?_ | refine aw_skip ?_ | refine aw_block ?_ | refine aw_exit ?_ | refine aw_ct rfl ?_ | refine aw_cf rfl ?_ | ((first | refine aw_reg (fun K hK => ?_) | refine aw_drw mixd (fun K hK => ?_) | fail); simp -implicitDefEqProofs; first | refine hK _ ?_ | refine hK _ _ (by rfl) ?_ | fail) | fail)
    refine aw_ret (fin_gS [5] rfl ?_); simp -implicitDefEqProofs [FinG, resV, resT, hll] <;> try rfl
  obtain ⟨⟨ax, al⟩, hy⟩ : ∃ a, l[k]? = some a := ⟨_, List.getElem?_eq_getElem hkl⟩
  have hy' := (List.getElem?_eq_some_iff.1 hy).2
  have w2 : IntKind.i64.wrap ((k : Nat) + 1 : Int) = (k : Nat) + 1 := i64i _ (by omega) (by omega)
  have hi := hinv k hk
  have hs := hstp k
  have hgd : l.getD k z0T = .mk ax al := by rw [List.getD_eq_getElem?_getD, hy]; rfl
  have hp0 : (S k).er = 0 → (S k).pl = 0 := fun h => (hi.acc h).2.2
  have len := hi.len
  obtain ⟨s, hsk⟩ : ∃ s, S k = s := ⟨_, rfl⟩
  rw [hsk] at hs hp0 len ⊢
  clear hi hinv
  obtain ⟨acc, M, E', p, q⟩ := s
  dsimp only at hs hp0 len ⊢
  unfold stP at hs
  rw [hgd] at hs
  dsimp only [Tr.lab, Tr.kids] at hs
  have b1 : (k + 1) * 72 ≤ 140737488355328 := by omega
  have b2 : k + 1 ≤ 140737488355328 := by omega
  cases hm : mlook M (.string ax.s) with
  | none =>
    have ht : twP M (.mk ax al) p q = (p, q) := by unfold twP; rw [Tr.lab, hm]
    rw [ht] at hs
    dsimp only at hs
    have hr := (hf k _ E' p q hy hp0).2
    obtain ⟨-, hr⟩ := hr
    rw [Tr.kids] at hr
    obtain ⟨F, hF⟩ : ∃ F, fa k E' p q = F := ⟨_, rfl⟩
    obtain ⟨E2, hE2⟩ : ∃ E2, fE k E' p q = E2 := ⟨_, rfl⟩
    obtain ⟨p2, hp2⟩ : ∃ p2, (if q = 0 then (lstT ml [] al).2.1 else p) = p2 := ⟨_, rfl⟩
    obtain ⟨q2, hq2⟩ : ∃ q2, (if q = 0 then (lstT ml [] al).2.2 else q) = q2 := ⟨_, rfl⟩
    rw [hF, hE2, hp2, hq2] at hr hs
    repeat' (first | refine aw_seq ?_ | refine aw_skip ?_ | refine aw_block ?_ | refine aw_exit ?_ | refine aw_ct rfl ?_ | refine aw_cf rfl ?_ | ((first | refine aw_reg (fun K hK => ?_) | refine aw_drw mixd (fun K hK => ?_) | refine ar_call (cgS hr 0 rfl ?_) | refine ard_call (dgS hr 0 rfl ?_) | fail); simp -implicitDefEqProofs [hkl, hy, hy', w2, b1, b2, hm, len]) | refine hK _ ?_ | refine hK _ _ (by rfl) ?_ | fail)
    refine ⟨k + 1, by omega, (by dsimp only; omega), ?_⟩
    rw [hI, hs]; exact cov_s [4, 44] rfl (by simp -implicitDefEqProofs) (by simp -implicitDefEqProofs) (by first | decide | (simp; done)) rfl (by simp)
  | some z =>
    have ht : twP M (.mk ax al) p q = (if q = 0 then ax.f else p, if q = 0 then 9 else q) := by unfold twP; rw [Tr.lab, hm]
    rw [ht] at hs
    dsimp only at hs
    have hfl := sfail_row ml 0 p q E' ax al 9
    obtain ⟨p1, hp1⟩ : ∃ p1, (if q = 0 then ax.f else p) = p1 := ⟨_, rfl⟩
    obtain ⟨q1, hq1⟩ : ∃ q1, (if q = 0 then (9 : Int) else q) = q1 := ⟨_, rfl⟩
    rw [hp1, hq1] at hs hfl
    have hq1' : q1 = 0 → p1 = 0 := fun h => by
      rw [← hq1] at h
      by_cases c : q = 0
      · rw [if_pos c] at h; exact absurd h (by decide)
      · rw [if_neg c] at h; exact absurd h c
    have hr := (hf k _ E' p1 q1 hy hq1').2
    obtain ⟨-, hr⟩ := hr
    rw [Tr.kids] at hr
    obtain ⟨F, hF⟩ : ∃ F, fa k E' p1 q1 = F := ⟨_, rfl⟩
    obtain ⟨E2, hE2⟩ : ∃ E2, fE k E' p1 q1 = E2 := ⟨_, rfl⟩
    obtain ⟨p2, hp2⟩ : ∃ p2, (if q1 = 0 then (lstT ml [] al).2.1 else p1) = p2 := ⟨_, rfl⟩
    obtain ⟨q2, hq2⟩ : ∃ q2, (if q1 = 0 then (lstT ml [] al).2.2 else q1) = q2 := ⟨_, rfl⟩
    rw [hF, hE2, hp2, hq2] at hr hs
    clear hp1 hq1 hq1' ht
    repeat' (first | refine aw_seq ?_ | refine aw_skip ?_ | refine aw_block ?_ | refine aw_exit ?_ | refine aw_ct rfl ?_ | refine aw_cf rfl ?_ | ((first | refine aw_reg (fun K hK => ?_) | refine aw_drw mixd (fun K hK => ?_) | refine ar_call (cgS hfl 0 rfl ?_) | refine ard_call (dgS hfl 0 rfl ?_) | refine ar_call (cgS hr 0 rfl ?_) | refine ard_call (dgS hr 0 rfl ?_) | fail); simp -implicitDefEqProofs [hkl, hy, hy', w2, b1, b2, hm, len]) | refine hK _ ?_ | refine hK _ _ (by rfl) ?_ | fail)
    refine ⟨k + 1, by omega, (by dsimp only; omega), ?_⟩
    rw [hI, hs]; exact cov_s [4, 54] rfl (by simp -implicitDefEqProofs) (by simp -implicitDefEqProofs) (by first | decide | (simp; done)) rfl (by simp)
end Go.Proofs.Ythkfdheoakbfnaa.am
end
