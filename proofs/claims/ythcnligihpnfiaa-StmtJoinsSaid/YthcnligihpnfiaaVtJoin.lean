/-
  Two statements, one behind the other between braces: plain.
-/
import Derived.Test.YthcnligihpnfiaaVtLoc
import Derived.Test.YthcnligihpnfiaaLexOrd
namespace Go.Proofs.Ythcnligihpnfiaa.vt
open Go.Proofs.Ythcnligihpnfiaa.am
set_option linter.unusedVariables false
section
variable {ts : List Tok}
/-- No expression begins so. -/
theorem Q_first {s : ByteArray} (hs : s = sKet ∨ s = wElse) {i : Nat} (hi : i ≤ ts.length) (hk : isK s (nxt ts i) = true) : (Qx ts 1 i).2.2 ≠ 0 := by
  have hd : ∀ a : ByteArray, a ≠ s → isK a (nxt ts i) = false := fun a ha => by
    unfold isK at hk ⊢
    simp at hk
    rw [hk.2]
    simp
    exact fun _ h => ha h.symm
  have hkk : (nxt ts i).k = 3 ∨ (nxt ts i).k = 4 := by
    unfold isK at hk
    simp at hk
    rcases quo_34 s with h | h
    · exact .inl (by omega)
    · exact .inr (by omega)
  have h8 : (Qx ts 8 i).2.2 ≠ 0 := by
    rw [Q_eq 8 i (by decide) (by decide) hi]
    unfold bG
    rw [if_neg (by decide), if_neg (by decide), if_neg (by decide)]
    unfold atoG calG
    rw [if_neg (by omega), if_neg (by rw [hd wTrue (by rcases hs with rfl | rfl <;> decide)]; simp), if_neg (by rw [hd wFals (by rcases hs with rfl | rfl <;> decide)]; simp), if_neg (by rw [hd wRead (by rcases hs with rfl | rfl <;> decide)]; simp), if_neg (fun h => by omega),
      if_neg (by rw [hd sParO (by rcases hs with rfl | rfl <;> decide)]; simp), if_neg (by omega), if_neg (by rw [hd sOpen (by rcases hs with rfl | rfl <;> decide)]; simp), if_neg (by rw [hd sAt (by rcases hs with rfl | rfl <;> decide)]; simp), if_neg (by rw [hd wNew (by rcases hs with rfl | rfl <;> decide)]; simp)]
    simp [bad7]
  have h7 : (Qx ts 7 i).2.2 ≠ 0 := by
    rw [Q_eq 7 i (by decide) (by decide) hi]
    unfold bG
    rw [if_neg (by decide), if_neg (by decide), if_pos rfl, lpP, if_pos h8]
    exact h8
  have h6 : (Qx ts 6 i).2.2 ≠ 0 := by
    rw [Q_eq 6 i (by decide) (by decide) hi]
    unfold bG
    rw [if_neg (by decide), if_pos rfl, if_pos (by unfold unN; rw [hd sNot (by rcases hs with rfl | rfl <;> decide), hd sMin (by rcases hs with rfl | rfl <;> decide)]; simp)]
    exact h7
  have up : ∀ w, 1 ≤ w → w ≤ 5 → (Qx ts (w + 1) i).2.2 ≠ 0 → (Qx ts w i).2.2 ≠ 0 := fun w h1 h5 h => by
    rw [Q_eq w i h1 (by omega) hi]
    unfold bG
    rw [if_pos h5, lpL, if_pos h]
    exact h
  exact up 1 (by decide) (by decide) (up 2 (by decide) (by decide) (up 3 (by decide) (by decide) (up 4 (by decide) (by decide) (up 5 (by decide) (by decide) h6))))
/-- No statement begins so. -/
theorem sG_first {s : ByteArray} (hs : s = sKet ∨ s = wElse) (n i : Nat) (hi : i ≤ ts.length) (h : (sG ts n i).2.2 = 0) : isK s (nxt ts i) = false := by
  cases hk : isK s (nxt ts i) with
  | false => rfl
  | true =>
    exfalso
    have hd : ∀ a : ByteArray, a ≠ s → isK a (nxt ts i) = false := fun a ha => by
      unfold isK at hk ⊢
      simp at hk
      rw [hk.2]
      simp
      exact fun _ h => ha h.symm
    have f : ∀ a : ByteArray, a ≠ s → ¬ isK a (nxt ts i) = true := fun a ha => by rw [hd a ha]; simp
    cases n with
    | zero => simp [sG, bad7] at h
    | succ n =>
      have hq := Q_first hs hi hk
      rw [sG, if_neg (f _ (by rcases hs with rfl | rfl <;> decide))] at h
      unfold frmG at h
      rw [if_neg (f wLet (by rcases hs with rfl | rfl <;> decide)), if_neg (f wIf (by rcases hs with rfl | rfl <;> decide)), if_neg (f wWhil (by rcases hs with rfl | rfl <;> decide)), if_neg (f wFor (by rcases hs with rfl | rfl <;> decide)), if_neg (f wPrin (by rcases hs with rfl | rfl <;> decide)), if_neg (f wRet (by rcases hs with rfl | rfl <;> decide)), if_neg (f wDo (by rcases hs with rfl | rfl <;> decide))] at h
      dsimp only at h
      rw [itG_sub, show RR ts (sG ts n) 0 i = Qx ts 1 i from rfl, if_neg hq] at h
      exact hq h
end
abbrev braK : Tok := ⟨4, 0, sBra, 0, 0⟩
abbrev ketK : Tok := ⟨4, 0, sKet, 0, 0⟩
theorem mvK_zero (x : Tok) : mvK 0 x = x := by unfold mvK; simp
theorem end_no {a : ByteArray} {s : ByteArray} : isK s (enT a) = false := by
  unfold isK
  rcases quo_34 s with h | h <;> rw [h] <;> rfl
theorem join_bl {a b : ByteArray} {s u : List Tok} (hs : TokOk a s) (hu : TokOk b u) {x y : VT} (hx : sG s (s.length + 1) 0 = (x, s.length - 1, 0)) (hy : sG u (u.length + 1) 0 = (y, u.length - 1, 0)) :
    let all := [braK] ++ s.take (s.length - 1) ++ u.take (u.length - 1) ++ [ketK]
    ∃ f t, blG all (sG all (all.length + 1)) 0 = (.mk ⟨29, 0, ⟨#[]⟩, f, t⟩ [x, y], all.length, 0) := by
  intro all
  have hsl := (tok_len hs).1
  have hul := (tok_len hu).1
  have kx := (sG_ok (ts := s) (s.length + 1) 0 (Nat.zero_le _)).ok.yes (by rw [hx])
  have ky := (sG_ok (ts := u) (u.length + 1) 0 (Nat.zero_le _)).ok.yes (by rw [hy])
  rw [hx] at kx
  rw [hy] at ky
  dsimp only at kx ky
  have lt : (s.take (s.length - 1)).length = s.length - 1 := by rw [List.length_take]; omega
  have lu : (u.take (u.length - 1)).length = u.length - 1 := by rw [List.length_take]; omega
  have lall : all.length = s.length - 1 + (u.length - 1) + 2 := by
    simp only [all, List.length_append, lt, lu, List.length_cons, List.length_nil]
    omega
  have g0 : nxt all 0 = braK := by
    refine nxt_some ?_
    simp [all]
  have g1 : ∀ j, j < s.length - 1 → nxt all (1 + j) = nxt s j := fun j hj => by
    unfold nxt
    have : all[1 + j]? = s[j]? := by
      simp only [all]
      rw [List.append_assoc, List.append_assoc, List.getElem?_append_right (by simp), List.getElem?_append_left (by rw [lt]; simp; omega)]
      rw [show 1 + j - [braK].length = j by simp, List.getElem?_take, if_pos hj]
    rw [this]
  have g2 : ∀ j, j < u.length - 1 → nxt all (s.length - 1 + 1 + j) = nxt u j := fun j hj => by
    unfold nxt
    have : all[s.length - 1 + 1 + j]? = u[j]? := by
      simp only [all]
      rw [List.append_assoc, List.getElem?_append_right (by simp only [List.length_append, lt, List.length_cons, List.length_nil]; omega), List.getElem?_append_left (by simp only [List.length_append, lt, lu, List.length_cons, List.length_nil]; omega)]
      rw [show s.length - 1 + 1 + j - ([braK] ++ s.take (s.length - 1)).length = j by simp only [List.length_append, lt, List.length_cons, List.length_nil]; omega, List.getElem?_take, if_pos hj]
    rw [this]
  have g3 : nxt all (s.length - 1 + 1 + (u.length - 1)) = ketK := by
    refine nxt_some ?_
    simp only [all]
    rw [List.getElem?_append_right (by simp only [List.length_append, lt, lu, List.length_cons, List.length_nil]; omega)]
    rw [show s.length - 1 + 1 + (u.length - 1) - ([braK] ++ s.take (s.length - 1) ++ u.take (u.length - 1)).length = 0 by simp only [List.length_append, lt, lu, List.length_cons, List.length_nil]; omega]
    rfl
  have l1 : LikeM s all 1 0 (s.length - 1) := ⟨fun j hj => by rw [g1 j hj, mvK_zero], by omega, by rw [lall]; omega⟩
  have l2 : LikeM u all (s.length - 1 + 1) 0 (u.length - 1) := ⟨fun j hj => by rw [g2 j hj, mvK_zero], by omega, by rw [lall]; omega⟩
  have u0 : nxt all (1 + (s.length - 1)) = nxt u 0 := by rw [show 1 + (s.length - 1) = s.length - 1 + 1 + 0 by omega]; exact g2 0 (by omega)
  have r1 : sG all (all.length + 1) 1 = (x, 1 + (s.length - 1), 0) := by
    have := sG_m (d := 0) (s.length + 1) (all.length + 1) 0 _ l1 (by rw [u0, tok_last hs, end_no]; exact sG_first (.inr rfl) _ 0 (Nat.zero_le _) (by rw [hy])) (by omega) (by omega) (by omega) (by rw [hx]) (by rw [hx]; exact Nat.le_refl _)
    rw [hx] at this
    unfold shd at this
    rw [mvT_zero] at this
    exact this
  have r2 : sG all (all.length + 1) (s.length - 1 + 1) = (y, s.length - 1 + 1 + (u.length - 1), 0) := by
    have := sG_m (d := 0) (u.length + 1) (all.length + 1) 0 _ l2 (by rw [g3, tok_last hu, end_no]; decide) (by omega) (by omega) (by omega) (by rw [hy]) (by rw [hy]; exact Nat.le_refl _)
    rw [hy] at this
    unfold shd at this
    rw [mvT_zero] at this
    exact this
  have n1 : isK sKet (nxt all 1) = false := by rw [show (1 : Nat) = 1 + 0 by omega, g1 0 (by omega)]; exact sG_first (.inl rfl) _ 0 (Nat.zero_le _) (by rw [hx])
  have n2 : isK sKet (nxt all (s.length - 1 + 1)) = false := by rw [show s.length - 1 + 1 = s.length - 1 + 1 + 0 by omega, g2 0 (by omega)]; exact sG_first (.inl rfl) _ 0 (Nat.zero_le _) (by rw [hy])
  refine ⟨frT all 0, toT all (s.length - 1 + 1 + (u.length - 1) + 1 - 1), ?_⟩
  unfold blG
  obtain ⟨m, hm⟩ : ∃ m, all.length + 1 = m + 1 + 1 + 1 := ⟨all.length - 2, by omega⟩
  rw [if_pos (by rw [g0]; decide)]
  obtain ⟨S, hS⟩ : ∃ S, sG all (all.length + 1) = S := ⟨_, rfl⟩
  rw [hS] at r1 r2 ⊢
  rw [hm, show (0 : Nat) + 1 = 1 from rfl, lpB, if_neg (by rw [n1]; simp), r1, if_pos rfl]
  dsimp only
  rw [show 1 + (s.length - 1) = s.length - 1 + 1 by omega, lpB, if_neg (by rw [n2]; simp), r2, if_pos rfl]
  dsimp only
  rw [lpB, if_pos (by rw [g3]; decide)]
  unfold mk7
  rw [lall]
  simp only [List.nil_append, List.cons_append, Prod.mk.injEq, true_and, and_true]
  omega
end Go.Proofs.Ythcnligihpnfiaa.vt
