import Derived.Test.YthkfdheoakbfnaaGreatPkF6
import Derived.Test.YthkfdheoakbfnaaGreatPkF5
set_option maxRecDepth 100000
set_option maxHeartbeats 4000000
section
namespace Go.Proofs.YthkfdheoakbfnaaGreat.am
open Go.ChangeShapes Go.WideShapes Go.ChangeAt Go.RowKit
open vt
set_option linter.unusedVariables false
set_option linter.unusedSimpArgs false
theorem a0j (t : VT) (k : Int) : Row Tryz.prog 102 [vT t, vI k] [] (vB (isT t k)) [] := by
  obtain ⟨x, l⟩ := t
  by_cases h1 : x.k = k
  · by_cases h2 : l = []
    · subst h2
      refine f6 Tryz.func102 rfl rfl (Nat.le_of_ble_eq_true rfl) ?_
      repeat (first | refine d4 ?_ | refine b8 ?_ | refine b7 ?_ | refine b9 ?_ | refine f5 rfl ?_ | refine d8 rfl ?_ | ((first | refine c5 (fun K hK => ?_) | refine d5 f8 (fun K hK => ?_) | fail); simp -implicitDefEqProofs [h1]; first | refine hK _ ?_ | refine hK _ _ (by rfl) ?_ | fail) | fail)
      refine d7 (d6 ?_); simp -implicitDefEqProofs [g8, f9, g7, isT, Tr.lab, Tr.kids, h1] <;> try rfl
    · have h2' : ¬ l.length = 0 := fun h => h2 (List.eq_nil_of_length_eq_zero h)
      have h2'' : ¬ (l.length : Int) = 0 := by omega
      refine f6 Tryz.func102 rfl rfl (Nat.le_of_ble_eq_true rfl) ?_
      repeat (first | refine d4 ?_ | refine b8 ?_ | refine b7 ?_ | refine b9 ?_ | refine f5 rfl ?_ | refine d8 rfl ?_ | ((first | refine c5 (fun K hK => ?_) | refine d5 f8 (fun K hK => ?_) | fail); simp -implicitDefEqProofs [h1, h2, h2', h2'']; first | refine hK _ ?_ | refine hK _ _ (by rfl) ?_ | fail) | fail)
      refine d7 (d6 ?_); simp -implicitDefEqProofs [g8, f9, g7, isT, Tr.lab, Tr.kids, h1, h2, h2', h2''] <;> try rfl
  · refine f6 Tryz.func102 rfl rfl (Nat.le_of_ble_eq_true rfl) ?_
    repeat (first | refine d4 ?_ | refine b8 ?_ | refine b7 ?_ | refine b9 ?_ | refine f5 rfl ?_ | refine d8 rfl ?_ | ((first | refine c5 (fun K hK => ?_) | refine d5 f8 (fun K hK => ?_) | fail); simp -implicitDefEqProofs [h1]; first | refine hK _ ?_ | refine hK _ _ (by rfl) ?_ | fail) | fail)
    refine d7 (d6 ?_); simp -implicitDefEqProofs [g8, f9, g7, isT, Tr.lab, Tr.kids, h1] <;> try rfl
theorem a7w : Row Tryz.prog 71 [] [] (vT (tyT 1)) [] := by
  refine f6 Tryz.func71 rfl rfl (Nat.le_of_ble_eq_true rfl) ?_
  repeat (first | refine d4 ?_ | refine b8 ?_ | refine b7 ?_ | refine b9 ?_ | refine f5 rfl ?_ | refine d8 rfl ?_ | ((first | refine c5 (fun K hK => ?_) | refine d5 f8 (fun K hK => ?_) | fail); simp -implicitDefEqProofs; first | refine hK _ ?_ | refine hK _ _ (by rfl) ?_ | fail) | fail)
  refine d7 (d6 ?_); simp -implicitDefEqProofs [g8, f9, g7, tyT] <;> try rfl
theorem a9r : Row Tryz.prog 72 [] [] (vT (tyT 2)) [] := by
  refine f6 Tryz.func72 rfl rfl (Nat.le_of_ble_eq_true rfl) ?_
  repeat (first | refine d4 ?_ | refine b8 ?_ | refine b7 ?_ | refine b9 ?_ | refine f5 rfl ?_ | refine d8 rfl ?_ | ((first | refine c5 (fun K hK => ?_) | refine d5 f8 (fun K hK => ?_) | fail); simp -implicitDefEqProofs; first | refine hK _ ?_ | refine hK _ _ (by rfl) ?_ | fail) | fail)
  refine d7 (d6 ?_); simp -implicitDefEqProofs [g8, f9, g7, tyT] <;> try rfl
theorem a3y (t : VT) : Row Tryz.prog 48 [vT t] [] (vT (a5c t)) [] := by
  have h1 := a7w
  have h2 := a9r
  unfold tyT at h1 h2
  obtain ⟨x, l⟩ := t
  by_cases h5 : x.k = 5
  · rw [show a5c (.mk x l) = tyT 1 by simp [a5c, Tr.lab, h5]]
    unfold tyT
    refine f6 Tryz.func48 rfl rfl (Nat.le_of_ble_eq_true rfl) ?_
    repeat' (first | refine d4 ?_ | refine b8 ?_ | refine b7 ?_ | refine b9 ?_ | refine f5 rfl ?_ | refine d8 rfl ?_ | ((first | refine c5 (fun K hK => ?_) | refine d5 f8 (fun K hK => ?_) | refine a9 (cp h1 ?_) | refine a8 (dp h1 ?_) | refine a9 (cp h2 ?_) | refine a8 (dp h2 ?_) | fail); simp -implicitDefEqProofs [h5]) | refine hK _ ?_ | refine hK _ _ (by rfl) ?_ | fail)
    refine d7 (d6 ?_); simp -implicitDefEqProofs [g8, f9, g7] <;> try rfl
  by_cases h6 : x.k = 6
  · rw [show a5c (.mk x l) = tyT 2 by simp [a5c, Tr.lab, h6]]
    unfold tyT
    refine f6 Tryz.func48 rfl rfl (Nat.le_of_ble_eq_true rfl) ?_
    repeat' (first | refine d4 ?_ | refine b8 ?_ | refine b7 ?_ | refine b9 ?_ | refine f5 rfl ?_ | refine d8 rfl ?_ | ((first | refine c5 (fun K hK => ?_) | refine d5 f8 (fun K hK => ?_) | refine a9 (cp h1 ?_) | refine a8 (dp h1 ?_) | refine a9 (cp h2 ?_) | refine a8 (dp h2 ?_) | fail); simp -implicitDefEqProofs [h6]) | refine hK _ ?_ | refine hK _ _ (by rfl) ?_ | fail)
    refine d7 (d6 ?_); simp -implicitDefEqProofs [g8, f9, g7] <;> try rfl
  rw [show a5c (.mk x l) = z0T by simp [a5c, Tr.lab, h5, h6]]
  refine f6 Tryz.func48 rfl rfl (Nat.le_of_ble_eq_true rfl) ?_
  repeat' (first | refine d4 ?_ | refine b8 ?_ | refine b7 ?_ | refine b9 ?_ | refine f5 rfl ?_ | refine d8 rfl ?_ | ((first | refine c5 (fun K hK => ?_) | refine d5 f8 (fun K hK => ?_) | refine a9 (cp h1 ?_) | refine a8 (dp h1 ?_) | refine a9 (cp h2 ?_) | refine a8 (dp h2 ?_) | fail); simp -implicitDefEqProofs [h5, h6]) | refine hK _ ?_ | refine hK _ _ (by rfl) ?_ | fail)
  refine d7 (d6 ?_); simp -implicitDefEqProofs [g8, f9, g7] <;> try rfl
theorem b82 (x : Lab) (l : List VT) : Row Tryz.prog 95 [vT (.mk x l)] [] (vB (z5 x l.length)) [] := by
  by_cases h5 : x.k = 5
  · by_cases z : l = []
    · refine f6 Tryz.func95 rfl rfl (Nat.le_of_ble_eq_true rfl) ?_
      repeat (first | refine d4 ?_ | refine b8 ?_ | refine b7 ?_ | refine b9 ?_ | refine f5 rfl ?_ | refine d8 rfl ?_ | ((first | refine c5 (fun K hK => ?_) | refine d5 f8 (fun K hK => ?_) | fail); simp -implicitDefEqProofs [h5, z, List.length_nil]; first | refine hK _ ?_ | refine hK _ _ (by rfl) ?_ | fail) | fail)
      refine d7 (d6 ?_); simp -implicitDefEqProofs [g8, f9, g7, z5, h5, z, List.length_nil] <;> try rfl
    · have z1 : ¬ l.length = 0 := fun h => z (List.eq_nil_of_length_eq_zero h)
      have z2 : ¬ (l.length : Int) = 0 := by omega
      · refine f6 Tryz.func95 rfl rfl (Nat.le_of_ble_eq_true rfl) ?_
        repeat (first | refine d4 ?_ | refine b8 ?_ | refine b7 ?_ | refine b9 ?_ | refine f5 rfl ?_ | refine d8 rfl ?_ | ((first | refine c5 (fun K hK => ?_) | refine d5 f8 (fun K hK => ?_) | fail); simp -implicitDefEqProofs [h5, z, z1, z2]; first | refine hK _ ?_ | refine hK _ _ (by rfl) ?_ | fail) | fail)
        refine d7 (d6 ?_); simp -implicitDefEqProofs [g8, f9, g7, z5, h5, z, z1, z2] <;> try rfl
  by_cases h7 : x.k = 7
  · by_cases z : l = []
    · refine f6 Tryz.func95 rfl rfl (Nat.le_of_ble_eq_true rfl) ?_
      repeat (first | refine d4 ?_ | refine b8 ?_ | refine b7 ?_ | refine b9 ?_ | refine f5 rfl ?_ | refine d8 rfl ?_ | ((first | refine c5 (fun K hK => ?_) | refine d5 f8 (fun K hK => ?_) | fail); simp -implicitDefEqProofs [h7, z, List.length_nil]; first | refine hK _ ?_ | refine hK _ _ (by rfl) ?_ | fail) | fail)
      refine d7 (d6 ?_); simp -implicitDefEqProofs [g8, f9, g7, z5, h7, z, List.length_nil] <;> try rfl
    · have z1 : ¬ l.length = 0 := fun h => z (List.eq_nil_of_length_eq_zero h)
      have z2 : ¬ (l.length : Int) = 0 := by omega
      · refine f6 Tryz.func95 rfl rfl (Nat.le_of_ble_eq_true rfl) ?_
        repeat (first | refine d4 ?_ | refine b8 ?_ | refine b7 ?_ | refine b9 ?_ | refine f5 rfl ?_ | refine d8 rfl ?_ | ((first | refine c5 (fun K hK => ?_) | refine d5 f8 (fun K hK => ?_) | fail); simp -implicitDefEqProofs [h7, z, z1, z2]; first | refine hK _ ?_ | refine hK _ _ (by rfl) ?_ | fail) | fail)
        refine d7 (d6 ?_); simp -implicitDefEqProofs [g8, f9, g7, z5, h7, z, z1, z2] <;> try rfl
  by_cases h8 : x.k = 8
  · by_cases z : l = []
    · refine f6 Tryz.func95 rfl rfl (Nat.le_of_ble_eq_true rfl) ?_
      repeat (first | refine d4 ?_ | refine b8 ?_ | refine b7 ?_ | refine b9 ?_ | refine f5 rfl ?_ | refine d8 rfl ?_ | ((first | refine c5 (fun K hK => ?_) | refine d5 f8 (fun K hK => ?_) | fail); simp -implicitDefEqProofs [h8, z, List.length_nil]; first | refine hK _ ?_ | refine hK _ _ (by rfl) ?_ | fail) | fail)
      refine d7 (d6 ?_); simp -implicitDefEqProofs [g8, f9, g7, z5, h8, z, List.length_nil] <;> try rfl
    · have z1 : ¬ l.length = 0 := fun h => z (List.eq_nil_of_length_eq_zero h)
      have z2 : ¬ (l.length : Int) = 0 := by omega
      · refine f6 Tryz.func95 rfl rfl (Nat.le_of_ble_eq_true rfl) ?_
        repeat (first | refine d4 ?_ | refine b8 ?_ | refine b7 ?_ | refine b9 ?_ | refine f5 rfl ?_ | refine d8 rfl ?_ | ((first | refine c5 (fun K hK => ?_) | refine d5 f8 (fun K hK => ?_) | fail); simp -implicitDefEqProofs [h8, z, z1, z2]; first | refine hK _ ?_ | refine hK _ _ (by rfl) ?_ | fail) | fail)
        refine d7 (d6 ?_); simp -implicitDefEqProofs [g8, f9, g7, z5, h8, z, z1, z2] <;> try rfl
  by_cases h9 : x.k = 9
  · by_cases z : l = []
    · refine f6 Tryz.func95 rfl rfl (Nat.le_of_ble_eq_true rfl) ?_
      repeat (first | refine d4 ?_ | refine b8 ?_ | refine b7 ?_ | refine b9 ?_ | refine f5 rfl ?_ | refine d8 rfl ?_ | ((first | refine c5 (fun K hK => ?_) | refine d5 f8 (fun K hK => ?_) | fail); simp -implicitDefEqProofs [h9, z, List.length_nil]; first | refine hK _ ?_ | refine hK _ _ (by rfl) ?_ | fail) | fail)
      refine d7 (d6 ?_); simp -implicitDefEqProofs [g8, f9, g7, z5, h9, z, List.length_nil] <;> try rfl
    · have z1 : ¬ l.length = 0 := fun h => z (List.eq_nil_of_length_eq_zero h)
      have z2 : ¬ (l.length : Int) = 0 := by omega
      · refine f6 Tryz.func95 rfl rfl (Nat.le_of_ble_eq_true rfl) ?_
        repeat (first | refine d4 ?_ | refine b8 ?_ | refine b7 ?_ | refine b9 ?_ | refine f5 rfl ?_ | refine d8 rfl ?_ | ((first | refine c5 (fun K hK => ?_) | refine d5 f8 (fun K hK => ?_) | fail); simp -implicitDefEqProofs [h9, z, z1, z2]; first | refine hK _ ?_ | refine hK _ _ (by rfl) ?_ | fail) | fail)
        refine d7 (d6 ?_); simp -implicitDefEqProofs [g8, f9, g7, z5, h9, z, z1, z2] <;> try rfl
  by_cases h18 : x.k = 18
  · by_cases z : l = []
    · refine f6 Tryz.func95 rfl rfl (Nat.le_of_ble_eq_true rfl) ?_
      repeat (first | refine d4 ?_ | refine b8 ?_ | refine b7 ?_ | refine b9 ?_ | refine f5 rfl ?_ | refine d8 rfl ?_ | ((first | refine c5 (fun K hK => ?_) | refine d5 f8 (fun K hK => ?_) | fail); simp -implicitDefEqProofs [h18, z, List.length_nil]; first | refine hK _ ?_ | refine hK _ _ (by rfl) ?_ | fail) | fail)
      refine d7 (d6 ?_); simp -implicitDefEqProofs [g8, f9, g7, z5, h18, z, List.length_nil] <;> try rfl
    · have z1 : ¬ l.length = 0 := fun h => z (List.eq_nil_of_length_eq_zero h)
      have z2 : ¬ (l.length : Int) = 0 := by omega
      · refine f6 Tryz.func95 rfl rfl (Nat.le_of_ble_eq_true rfl) ?_
        repeat (first | refine d4 ?_ | refine b8 ?_ | refine b7 ?_ | refine b9 ?_ | refine f5 rfl ?_ | refine d8 rfl ?_ | ((first | refine c5 (fun K hK => ?_) | refine d5 f8 (fun K hK => ?_) | fail); simp -implicitDefEqProofs [h18, z, z1, z2]; first | refine hK _ ?_ | refine hK _ _ (by rfl) ?_ | fail) | fail)
        refine d7 (d6 ?_); simp -implicitDefEqProofs [g8, f9, g7, z5, h18, z, z1, z2] <;> try rfl
  by_cases h6 : x.k = 6
  · by_cases z : l = []
    · by_cases q1 : x.n = 0
      · refine f6 Tryz.func95 rfl rfl (Nat.le_of_ble_eq_true rfl) ?_
        repeat (first | refine d4 ?_ | refine b8 ?_ | refine b7 ?_ | refine b9 ?_ | refine f5 rfl ?_ | refine d8 rfl ?_ | ((first | refine c5 (fun K hK => ?_) | refine d5 f8 (fun K hK => ?_) | fail); simp -implicitDefEqProofs [h6, z, List.length_nil, q1]; first | refine hK _ ?_ | refine hK _ _ (by rfl) ?_ | fail) | fail)
        refine d7 (d6 ?_); simp -implicitDefEqProofs [g8, f9, g7, z5, h6, z, List.length_nil, q1] <;> try rfl
      · by_cases q2 : x.n = 1
        · refine f6 Tryz.func95 rfl rfl (Nat.le_of_ble_eq_true rfl) ?_
          repeat (first | refine d4 ?_ | refine b8 ?_ | refine b7 ?_ | refine b9 ?_ | refine f5 rfl ?_ | refine d8 rfl ?_ | ((first | refine c5 (fun K hK => ?_) | refine d5 f8 (fun K hK => ?_) | fail); simp -implicitDefEqProofs [h6, z, List.length_nil, q2]; first | refine hK _ ?_ | refine hK _ _ (by rfl) ?_ | fail) | fail)
          refine d7 (d6 ?_); simp -implicitDefEqProofs [g8, f9, g7, z5, h6, z, List.length_nil, q2] <;> try rfl
        · refine f6 Tryz.func95 rfl rfl (Nat.le_of_ble_eq_true rfl) ?_
          repeat (first | refine d4 ?_ | refine b8 ?_ | refine b7 ?_ | refine b9 ?_ | refine f5 rfl ?_ | refine d8 rfl ?_ | ((first | refine c5 (fun K hK => ?_) | refine d5 f8 (fun K hK => ?_) | fail); simp -implicitDefEqProofs [h6, z, List.length_nil, q1, q2]; first | refine hK _ ?_ | refine hK _ _ (by rfl) ?_ | fail) | fail)
          refine d7 (d6 ?_); simp -implicitDefEqProofs [g8, f9, g7, z5, h6, z, List.length_nil, q1, q2] <;> try rfl
    · have z1 : ¬ l.length = 0 := fun h => z (List.eq_nil_of_length_eq_zero h)
      have z2 : ¬ (l.length : Int) = 0 := by omega
      · refine f6 Tryz.func95 rfl rfl (Nat.le_of_ble_eq_true rfl) ?_
        repeat (first | refine d4 ?_ | refine b8 ?_ | refine b7 ?_ | refine b9 ?_ | refine f5 rfl ?_ | refine d8 rfl ?_ | ((first | refine c5 (fun K hK => ?_) | refine d5 f8 (fun K hK => ?_) | fail); simp -implicitDefEqProofs [h6, z, z1, z2]; first | refine hK _ ?_ | refine hK _ _ (by rfl) ?_ | fail) | fail)
        refine d7 (d6 ?_); simp -implicitDefEqProofs [g8, f9, g7, z5, h6, z, z1, z2] <;> try rfl
  by_cases h11 : x.k = 11
  · by_cases z : l.length = 1
    · have z2 : (l.length : Int) = 1 := by omega
      · by_cases q1 : x.n = 1
        · refine f6 Tryz.func95 rfl rfl (Nat.le_of_ble_eq_true rfl) ?_
          repeat (first | refine d4 ?_ | refine b8 ?_ | refine b7 ?_ | refine b9 ?_ | refine f5 rfl ?_ | refine d8 rfl ?_ | ((first | refine c5 (fun K hK => ?_) | refine d5 f8 (fun K hK => ?_) | fail); simp -implicitDefEqProofs [h11, z, z2, q1]; first | refine hK _ ?_ | refine hK _ _ (by rfl) ?_ | fail) | fail)
          refine d7 (d6 ?_); simp -implicitDefEqProofs [g8, f9, g7, z5, h11, z, z2, q1] <;> try rfl
        · by_cases q2 : x.n = 2
          · refine f6 Tryz.func95 rfl rfl (Nat.le_of_ble_eq_true rfl) ?_
            repeat (first | refine d4 ?_ | refine b8 ?_ | refine b7 ?_ | refine b9 ?_ | refine f5 rfl ?_ | refine d8 rfl ?_ | ((first | refine c5 (fun K hK => ?_) | refine d5 f8 (fun K hK => ?_) | fail); simp -implicitDefEqProofs [h11, z, z2, q2]; first | refine hK _ ?_ | refine hK _ _ (by rfl) ?_ | fail) | fail)
            refine d7 (d6 ?_); simp -implicitDefEqProofs [g8, f9, g7, z5, h11, z, z2, q2] <;> try rfl
          · refine f6 Tryz.func95 rfl rfl (Nat.le_of_ble_eq_true rfl) ?_
            repeat (first | refine d4 ?_ | refine b8 ?_ | refine b7 ?_ | refine b9 ?_ | refine f5 rfl ?_ | refine d8 rfl ?_ | ((first | refine c5 (fun K hK => ?_) | refine d5 f8 (fun K hK => ?_) | fail); simp -implicitDefEqProofs [h11, z, z2, q1, q2]; first | refine hK _ ?_ | refine hK _ _ (by rfl) ?_ | fail) | fail)
            refine d7 (d6 ?_); simp -implicitDefEqProofs [g8, f9, g7, z5, h11, z, z2, q1, q2] <;> try rfl
    · have z2 : ¬ (l.length : Int) = 1 := by omega
      · refine f6 Tryz.func95 rfl rfl (Nat.le_of_ble_eq_true rfl) ?_
        repeat (first | refine d4 ?_ | refine b8 ?_ | refine b7 ?_ | refine b9 ?_ | refine f5 rfl ?_ | refine d8 rfl ?_ | ((first | refine c5 (fun K hK => ?_) | refine d5 f8 (fun K hK => ?_) | fail); simp -implicitDefEqProofs [h11, z, z2]; first | refine hK _ ?_ | refine hK _ _ (by rfl) ?_ | fail) | fail)
        refine d7 (d6 ?_); simp -implicitDefEqProofs [g8, f9, g7, z5, h11, z, z2] <;> try rfl
  by_cases h10 : x.k = 10
  · by_cases z : l.length = 2
    · have z2 : (l.length : Int) = 2 := by omega
      · by_cases q1 : 1 ≤ x.n
        · by_cases q2 : x.n ≤ 13
          · refine f6 Tryz.func95 rfl rfl (Nat.le_of_ble_eq_true rfl) ?_
            repeat (first | refine d4 ?_ | refine b8 ?_ | refine b7 ?_ | refine b9 ?_ | refine f5 rfl ?_ | refine d8 rfl ?_ | ((first | refine c5 (fun K hK => ?_) | refine d5 f8 (fun K hK => ?_) | fail); simp -implicitDefEqProofs [h10, z, z2, q1, q2]; first | refine hK _ ?_ | refine hK _ _ (by rfl) ?_ | fail) | fail)
            refine d7 (d6 ?_); simp -implicitDefEqProofs [g8, f9, g7, z5, h10, z, z2, q1, q2] <;> try rfl
          · refine f6 Tryz.func95 rfl rfl (Nat.le_of_ble_eq_true rfl) ?_
            repeat (first | refine d4 ?_ | refine b8 ?_ | refine b7 ?_ | refine b9 ?_ | refine f5 rfl ?_ | refine d8 rfl ?_ | ((first | refine c5 (fun K hK => ?_) | refine d5 f8 (fun K hK => ?_) | fail); simp -implicitDefEqProofs [h10, z, z2, q1, q2]; first | refine hK _ ?_ | refine hK _ _ (by rfl) ?_ | fail) | fail)
            refine d7 (d6 ?_); simp -implicitDefEqProofs [g8, f9, g7, z5, h10, z, z2, q1, q2] <;> try rfl
        · refine f6 Tryz.func95 rfl rfl (Nat.le_of_ble_eq_true rfl) ?_
          repeat (first | refine d4 ?_ | refine b8 ?_ | refine b7 ?_ | refine b9 ?_ | refine f5 rfl ?_ | refine d8 rfl ?_ | ((first | refine c5 (fun K hK => ?_) | refine d5 f8 (fun K hK => ?_) | fail); simp -implicitDefEqProofs [h10, z, z2, q1]; first | refine hK _ ?_ | refine hK _ _ (by rfl) ?_ | fail) | fail)
          refine d7 (d6 ?_); simp -implicitDefEqProofs [g8, f9, g7, z5, h10, z, z2, q1] <;> try rfl
    · have z2 : ¬ (l.length : Int) = 2 := by omega
      · refine f6 Tryz.func95 rfl rfl (Nat.le_of_ble_eq_true rfl) ?_
        repeat (first | refine d4 ?_ | refine b8 ?_ | refine b7 ?_ | refine b9 ?_ | refine f5 rfl ?_ | refine d8 rfl ?_ | ((first | refine c5 (fun K hK => ?_) | refine d5 f8 (fun K hK => ?_) | fail); simp -implicitDefEqProofs [h10, z, z2]; first | refine hK _ ?_ | refine hK _ _ (by rfl) ?_ | fail) | fail)
        refine d7 (d6 ?_); simp -implicitDefEqProofs [g8, f9, g7, z5, h10, z, z2] <;> try rfl
  by_cases h13 : x.k = 13
  · by_cases z : l.length = 1
    · have z2 : (l.length : Int) = 1 := by omega
      · refine f6 Tryz.func95 rfl rfl (Nat.le_of_ble_eq_true rfl) ?_
        repeat (first | refine d4 ?_ | refine b8 ?_ | refine b7 ?_ | refine b9 ?_ | refine f5 rfl ?_ | refine d8 rfl ?_ | ((first | refine c5 (fun K hK => ?_) | refine d5 f8 (fun K hK => ?_) | fail); simp -implicitDefEqProofs [h13, z, z2]; first | refine hK _ ?_ | refine hK _ _ (by rfl) ?_ | fail) | fail)
        refine d7 (d6 ?_); simp -implicitDefEqProofs [g8, f9, g7, z5, h13, z, z2] <;> try rfl
    · have z2 : ¬ (l.length : Int) = 1 := by omega
      · refine f6 Tryz.func95 rfl rfl (Nat.le_of_ble_eq_true rfl) ?_
        repeat (first | refine d4 ?_ | refine b8 ?_ | refine b7 ?_ | refine b9 ?_ | refine f5 rfl ?_ | refine d8 rfl ?_ | ((first | refine c5 (fun K hK => ?_) | refine d5 f8 (fun K hK => ?_) | fail); simp -implicitDefEqProofs [h13, z, z2]; first | refine hK _ ?_ | refine hK _ _ (by rfl) ?_ | fail) | fail)
        refine d7 (d6 ?_); simp -implicitDefEqProofs [g8, f9, g7, z5, h13, z, z2] <;> try rfl
  by_cases h12 : x.k = 12
  · by_cases z : l.length = 2
    · have z2 : (l.length : Int) = 2 := by omega
      · refine f6 Tryz.func95 rfl rfl (Nat.le_of_ble_eq_true rfl) ?_
        repeat (first | refine d4 ?_ | refine b8 ?_ | refine b7 ?_ | refine b9 ?_ | refine f5 rfl ?_ | refine d8 rfl ?_ | ((first | refine c5 (fun K hK => ?_) | refine d5 f8 (fun K hK => ?_) | fail); simp -implicitDefEqProofs [h12, z, z2]; first | refine hK _ ?_ | refine hK _ _ (by rfl) ?_ | fail) | fail)
        refine d7 (d6 ?_); simp -implicitDefEqProofs [g8, f9, g7, z5, h12, z, z2] <;> try rfl
    · have z2 : ¬ (l.length : Int) = 2 := by omega
      · refine f6 Tryz.func95 rfl rfl (Nat.le_of_ble_eq_true rfl) ?_
        repeat (first | refine d4 ?_ | refine b8 ?_ | refine b7 ?_ | refine b9 ?_ | refine f5 rfl ?_ | refine d8 rfl ?_ | ((first | refine c5 (fun K hK => ?_) | refine d5 f8 (fun K hK => ?_) | fail); simp -implicitDefEqProofs [h12, z, z2]; first | refine hK _ ?_ | refine hK _ _ (by rfl) ?_ | fail) | fail)
        refine d7 (d6 ?_); simp -implicitDefEqProofs [g8, f9, g7, z5, h12, z, z2] <;> try rfl
  by_cases h14 : x.k = 14
  · by_cases z : 1 ≤ l.length
    · have z2 : (1 : Int) ≤ l.length := by omega
      · refine f6 Tryz.func95 rfl rfl (Nat.le_of_ble_eq_true rfl) ?_
        repeat (first | refine d4 ?_ | refine b8 ?_ | refine b7 ?_ | refine b9 ?_ | refine f5 rfl ?_ | refine d8 rfl ?_ | ((first | refine c5 (fun K hK => ?_) | refine d5 f8 (fun K hK => ?_) | fail); simp -implicitDefEqProofs [h14, z, z2]; first | refine hK _ ?_ | refine hK _ _ (by rfl) ?_ | fail) | fail)
        refine d7 (d6 ?_); simp -implicitDefEqProofs [g8, f9, g7, z5, h14, z, z2] <;> try rfl
    · have z2 : ¬ (1 : Int) ≤ l.length := by omega
      · refine f6 Tryz.func95 rfl rfl (Nat.le_of_ble_eq_true rfl) ?_
        repeat (first | refine d4 ?_ | refine b8 ?_ | refine b7 ?_ | refine b9 ?_ | refine f5 rfl ?_ | refine d8 rfl ?_ | ((first | refine c5 (fun K hK => ?_) | refine d5 f8 (fun K hK => ?_) | fail); simp -implicitDefEqProofs [h14, z, z2]; first | refine hK _ ?_ | refine hK _ _ (by rfl) ?_ | fail) | fail)
        refine d7 (d6 ?_); simp -implicitDefEqProofs [g8, f9, g7, z5, h14, z, z2] <;> try rfl
  by_cases h15 : x.k = 15
  · by_cases z : 1 ≤ l.length
    · have z2 : (1 : Int) ≤ l.length := by omega
      · refine f6 Tryz.func95 rfl rfl (Nat.le_of_ble_eq_true rfl) ?_
        repeat (first | refine d4 ?_ | refine b8 ?_ | refine b7 ?_ | refine b9 ?_ | refine f5 rfl ?_ | refine d8 rfl ?_ | ((first | refine c5 (fun K hK => ?_) | refine d5 f8 (fun K hK => ?_) | fail); simp -implicitDefEqProofs [h15, z, z2]; first | refine hK _ ?_ | refine hK _ _ (by rfl) ?_ | fail) | fail)
        refine d7 (d6 ?_); simp -implicitDefEqProofs [g8, f9, g7, z5, h15, z, z2] <;> try rfl
    · have z2 : ¬ (1 : Int) ≤ l.length := by omega
      · refine f6 Tryz.func95 rfl rfl (Nat.le_of_ble_eq_true rfl) ?_
        repeat (first | refine d4 ?_ | refine b8 ?_ | refine b7 ?_ | refine b9 ?_ | refine f5 rfl ?_ | refine d8 rfl ?_ | ((first | refine c5 (fun K hK => ?_) | refine d5 f8 (fun K hK => ?_) | fail); simp -implicitDefEqProofs [h15, z, z2]; first | refine hK _ ?_ | refine hK _ _ (by rfl) ?_ | fail) | fail)
        refine d7 (d6 ?_); simp -implicitDefEqProofs [g8, f9, g7, z5, h15, z, z2] <;> try rfl
  by_cases h16 : x.k = 16
  · refine f6 Tryz.func95 rfl rfl (Nat.le_of_ble_eq_true rfl) ?_
    repeat (first | refine d4 ?_ | refine b8 ?_ | refine b7 ?_ | refine b9 ?_ | refine f5 rfl ?_ | refine d8 rfl ?_ | ((first | refine c5 (fun K hK => ?_) | refine d5 f8 (fun K hK => ?_) | fail); simp -implicitDefEqProofs [h16]; first | refine hK _ ?_ | refine hK _ _ (by rfl) ?_ | fail) | fail)
    refine d7 (d6 ?_); simp -implicitDefEqProofs [g8, f9, g7, z5, h16] <;> try rfl
  by_cases h17 : x.k = 17
  · refine f6 Tryz.func95 rfl rfl (Nat.le_of_ble_eq_true rfl) ?_
    repeat (first | refine d4 ?_ | refine b8 ?_ | refine b7 ?_ | refine b9 ?_ | refine f5 rfl ?_ | refine d8 rfl ?_ | ((first | refine c5 (fun K hK => ?_) | refine d5 f8 (fun K hK => ?_) | fail); simp -implicitDefEqProofs [h17]; first | refine hK _ ?_ | refine hK _ _ (by rfl) ?_ | fail) | fail)
    refine d7 (d6 ?_); simp -implicitDefEqProofs [g8, f9, g7, z5, h17] <;> try rfl
  refine f6 Tryz.func95 rfl rfl (Nat.le_of_ble_eq_true rfl) ?_
  repeat (first | refine d4 ?_ | refine b8 ?_ | refine b7 ?_ | refine b9 ?_ | refine f5 rfl ?_ | refine d8 rfl ?_ | ((first | refine c5 (fun K hK => ?_) | refine d5 f8 (fun K hK => ?_) | fail); simp -implicitDefEqProofs [h5, h7, h8, h9, h18, h6, h11, h10, h13, h12, h14, h15, h16, h17]; first | refine hK _ ?_ | refine hK _ _ (by rfl) ?_ | fail) | fail)
  refine d7 (d6 ?_); simp -implicitDefEqProofs [g8, f9, g7, z5, h5, h7, h8, h9, h18, h6, h11, h10, h13, h12, h14, h15, h16, h17] <;> try rfl
noncomputable abbrev vTO (t : VT) (b : Bool) : AV := .tup [.agg (ta t), .c (.pv (Bo b))]
theorem a6g (m : VT) (hsz : m.size ≤ 1000000) (n : Int) (hn : n ≤ 9223372036854775807) : Row Tryz.prog 106 [vT m, vI n] [] (vTO ((a1v m n).getD z0T) (a1v m n).isSome) [] := by
  obtain ⟨mx, ml⟩ := m
  have hml := Tr.len_size (x := mx) (l := ml)
  by_cases h0 : n < 0
  · rw [show a1v (.mk mx ml) n = none by unfold a1v; rw [if_pos h0]]
    refine f6 Tryz.func106 rfl rfl (Nat.le_of_ble_eq_true rfl) ?_
    repeat (first | refine d4 ?_ | refine b8 ?_ | refine b7 ?_ | refine b9 ?_ | refine f5 rfl ?_ | refine d8 rfl ?_ | ((first | refine c5 (fun K hK => ?_) | refine d5 f8 (fun K hK => ?_) | fail); simp -implicitDefEqProofs [h0]; first | refine hK _ ?_ | refine hK _ _ (by rfl) ?_ | fail) | fail)
    refine d7 (d6 ?_); simp -implicitDefEqProofs [g8, f9, g7] <;> try rfl
  obtain ⟨N, rfl⟩ : ∃ N : Nat, n = N := ⟨n.toNat, by omega⟩
  obtain ⟨a, ha⟩ : ∃ a, N / 64 = a := ⟨_, rfl⟩
  obtain ⟨b, hb⟩ : ∃ b, N % 64 = b := ⟨_, rfl⟩
  have e1 : ((N : Nat) : Int).tdiv 64 = (a : Nat) := by rw [Int.tdiv_eq_ediv_of_nonneg (by omega)]; omega
  have e2 : ((N : Nat) : Int).tmod 64 = (b : Nat) := by rw [Int.tmod_eq_emod_of_nonneg (by omega)]; omega
  have w1 : IntKind.i64.wrap ((a : Nat) : Int) = (a : Nat) := k9 _ (by omega) (by omega)
  have w2 : IntKind.i64.wrap ((b : Nat) : Int) = (b : Nat) := k9 _ (by omega) (by omega)
  have hf : a1v (.mk mx ml) (N : Nat) = (match ml[a]? with | none => none | some d => if d.lab.k = 30 then (match d.kids[b]? with | none => none | some q => if o9 q = true then q.kids[0]? else none) else none) := by
    unfold a1v; rw [if_neg h0, Int.toNat_natCast, ha, hb]; rfl
  by_cases hal : a < ml.length; rotate_left
  · have hal' : (ml.length : Int) ≤ (a : Nat) := by omega
    have hal2 : ml.length ≤ a := by omega
    rw [show a1v (.mk mx ml) (N : Nat) = none by rw [hf, List.getElem?_eq_none hal2]]
    clear hf
    refine f6 Tryz.func106 rfl rfl (Nat.le_of_ble_eq_true rfl) ?_
    repeat (first | refine d4 ?_ | refine b8 ?_ | refine b7 ?_ | refine b9 ?_ | refine f5 rfl ?_ | refine d8 rfl ?_ | ((first | refine c5 (fun K hK => ?_) | refine d5 f8 (fun K hK => ?_) | fail); simp -implicitDefEqProofs [h0, e1, e2, w1, w2, hal, hal', hal2]; first | refine hK _ ?_ | refine hK _ _ (by rfl) ?_ | fail) | fail)
    refine d7 (d6 ?_); simp -implicitDefEqProofs [g8, f9, g7] <;> try rfl
  have hal' : ¬ (ml.length : Int) ≤ (a : Nat) := by omega
  have hal2 : ¬ ml.length ≤ a := by omega
  obtain ⟨⟨y, p⟩, hd⟩ : ∃ d, ml[a]? = some d := ⟨_, List.getElem?_eq_getElem hal⟩
  have hd' := (List.getElem?_eq_some_iff.1 hd).2
  rw [hd] at hf
  by_cases h30 : y.k = 30; rotate_left
  · rw [show a1v (.mk mx ml) (N : Nat) = none by rw [hf]; exact if_neg h30]
    clear hf
    refine f6 Tryz.func106 rfl rfl (Nat.le_of_ble_eq_true rfl) ?_
    repeat (first | refine d4 ?_ | refine b8 ?_ | refine b7 ?_ | refine b9 ?_ | refine f5 rfl ?_ | refine d8 rfl ?_ | ((first | refine c5 (fun K hK => ?_) | refine d5 f8 (fun K hK => ?_) | fail); simp -implicitDefEqProofs [h0, e1, e2, w1, w2, hal, hal', hal2, hd, hd', h30]; first | refine hK _ ?_ | refine hK _ _ (by rfl) ?_ | fail) | fail)
    refine d7 (d6 ?_); simp -implicitDefEqProofs [g8, f9, g7] <;> try rfl
  have hf : a1v (.mk mx ml) (N : Nat) = (match p[b]? with | none => none | some q => if o9 q = true then q.kids[0]? else none) := by rw [hf]; exact if_pos h30
  by_cases hbl : b < p.length; rotate_left
  · have hbl' : (p.length : Int) ≤ (b : Nat) := by omega
    have hbl2 : p.length ≤ b := by omega
    rw [show a1v (.mk mx ml) (N : Nat) = none by rw [hf, List.getElem?_eq_none hbl2]]
    clear hf
    refine f6 Tryz.func106 rfl rfl (Nat.le_of_ble_eq_true rfl) ?_
    repeat (first | refine d4 ?_ | refine b8 ?_ | refine b7 ?_ | refine b9 ?_ | refine f5 rfl ?_ | refine d8 rfl ?_ | ((first | refine c5 (fun K hK => ?_) | refine d5 f8 (fun K hK => ?_) | fail); simp -implicitDefEqProofs [h0, e1, e2, w1, w2, hal, hal', hal2, hd, hd', h30, hbl, hbl', hbl2]; first | refine hK _ ?_ | refine hK _ _ (by rfl) ?_ | fail) | fail)
    refine d7 (d6 ?_); simp -implicitDefEqProofs [g8, f9, g7] <;> try rfl
  have hbl' : ¬ (p.length : Int) ≤ (b : Nat) := by omega
  have hbl2 : ¬ p.length ≤ b := by omega
  obtain ⟨⟨qx, ql⟩, hq⟩ : ∃ d, p[b]? = some d := ⟨_, List.getElem?_eq_getElem hbl⟩
  have hq' := (List.getElem?_eq_some_iff.1 hq).2
  rw [hq] at hf
  by_cases h34 : qx.k = 34; rotate_left
  · have hp : o9 (.mk qx ql) = false := by unfold o9; rw [Tr.lab, decide_eq_false h34]; rfl
    rw [show a1v (.mk mx ml) (N : Nat) = none by rw [hf]; exact if_neg (by rw [hp]; simp)]
    clear hf
    refine f6 Tryz.func106 rfl rfl (Nat.le_of_ble_eq_true rfl) ?_
    repeat (first | refine d4 ?_ | refine b8 ?_ | refine b7 ?_ | refine b9 ?_ | refine f5 rfl ?_ | refine d8 rfl ?_ | ((first | refine c5 (fun K hK => ?_) | refine d5 f8 (fun K hK => ?_) | fail); simp -implicitDefEqProofs [h0, e1, e2, w1, w2, hal, hal', hal2, hd, hd', h30, hbl, hbl', hbl2, hq, hq', h34]; first | refine hK _ ?_ | refine hK _ _ (by rfl) ?_ | fail) | fail)
    refine d7 (d6 ?_); simp -implicitDefEqProofs [g8, f9, g7] <;> try rfl
  by_cases h1 : ql.length = 1; rotate_left
  · have h1' : ¬ (ql.length : Int) = 1 := by omega
    have hp : o9 (.mk qx ql) = false := by unfold o9; rw [Tr.kids, decide_eq_false h1, Bool.and_false]
    rw [show a1v (.mk mx ml) (N : Nat) = none by rw [hf]; exact if_neg (by rw [hp]; simp)]
    clear hf
    refine f6 Tryz.func106 rfl rfl (Nat.le_of_ble_eq_true rfl) ?_
    repeat (first | refine d4 ?_ | refine b8 ?_ | refine b7 ?_ | refine b9 ?_ | refine f5 rfl ?_ | refine d8 rfl ?_ | ((first | refine c5 (fun K hK => ?_) | refine d5 f8 (fun K hK => ?_) | fail); simp -implicitDefEqProofs [h0, e1, e2, w1, w2, hal, hal', hal2, hd, hd', h30, hbl, hbl', hbl2, hq, hq', h34, h1, h1']; first | refine hK _ ?_ | refine hK _ _ (by rfl) ?_ | fail) | fail)
    refine d7 (d6 ?_); simp -implicitDefEqProofs [g8, f9, g7] <;> try rfl
  obtain ⟨⟨ux, ul⟩, rfl⟩ := w6 h1
  have hp : o9 (.mk qx [.mk ux ul]) = true := by unfold o9; rw [Tr.lab, Tr.kids, decide_eq_true h34]; rfl
  rw [show a1v (.mk mx ml) (N : Nat) = some (.mk ux ul) by rw [hf]; exact if_pos hp]
  clear hf
  refine f6 Tryz.func106 rfl rfl (Nat.le_of_ble_eq_true rfl) ?_
  repeat (first | refine d4 ?_ | refine b8 ?_ | refine b7 ?_ | refine b9 ?_ | refine f5 rfl ?_ | refine d8 rfl ?_ | ((first | refine c5 (fun K hK => ?_) | refine d5 f8 (fun K hK => ?_) | fail); simp -implicitDefEqProofs [h0, e1, e2, w1, w2, hal, hal', hal2, hd, hd', h30, hbl, hbl', hbl2, hq, hq', h34]; first | refine hK _ ?_ | refine hK _ _ (by rfl) ?_ | fail) | fail)
  refine d7 (d6 ?_); simp -implicitDefEqProofs [g8, f9, g7, Tr.kids] <;> try rfl
theorem c2f (op : Int) (a b : VT) : Row Tryz.prog 104 [vI op, vT a, vT b] [] (vT (b5h op a b)) [] := by
  have i1 := a0j a 1
  have i2 := a0j b 1
  have b1 := a0j a 2
  have b2 := a0j b 2
  have h1 := a7w
  have h2 := a9r
  have hT : b5h op a b = b5h op a b := rfl
  conv at hT => rhs; unfold b5h
  rw [hT]
  clear hT
  obtain ⟨p1, q1⟩ : ∃ p, isT a 1 = p := ⟨_, rfl⟩
  obtain ⟨p2, q2⟩ : ∃ p, isT b 1 = p := ⟨_, rfl⟩
  obtain ⟨p3, q3⟩ : ∃ p, isT a 2 = p := ⟨_, rfl⟩
  obtain ⟨p4, q4⟩ : ∃ p, isT b 2 = p := ⟨_, rfl⟩
  rw [q1] at i1
  rw [q2] at i2
  rw [q3] at b1
  rw [q4] at b2
  rw [q1, q2, q3, q4]
  clear q1 q2 q3 q4
  unfold tyT at h1 h2 ⊢
  obtain ⟨ax, al⟩ := a
  obtain ⟨bx, bl⟩ := b
  obtain ⟨ints, hi⟩ : ∃ p, (p1 && p2) = p := ⟨_, rfl⟩
  obtain ⟨bools, hbo⟩ : ∃ p, (p3 && p4) = p := ⟨_, rfl⟩
  rw [hi, hbo]
  refine f6 Tryz.func104 rfl rfl (Nat.le_of_ble_eq_true rfl) ?_
  refine d4 ?_
  refine c5 (fun K hK => ?_); simp -implicitDefEqProofs; refine hK _ ?_
  refine a35 (ι := Unit) (fun _ => s7 [(0, vI op), (4, .v (.c (.ptr 0 0))), (5, .v (.c (.ptr 1 0))), (6, .v (.c (.ptr 2 0))), (7, vB ints)] [some (.box (ta (.mk ax al))), some (.box (ta (.mk bx bl))), some (.box (ta (.mk ⟨0, 0, ⟨#[]⟩, 0, 0⟩ [])))]) (fun _ => True) (fun I hI => ?_) (fun _ _ => ?_)
  · cases p1 with
    | false =>
      have hi : ints = false := by rw [← hi]; rfl
      subst hi
      repeat' (first | refine d4 ?_ | refine b8 ?_ | refine b7 ?_ | refine b9 ?_ | refine f5 rfl ?_ | refine d8 rfl ?_ | ((first | refine c5 (fun K hK => ?_) | refine d5 f8 (fun K hK => ?_) | refine a9 (cp i1 ?_) | refine a8 (dp i1 ?_) | refine a9 (cp i2 ?_) | refine a8 (dp i2 ?_) | fail); simp -implicitDefEqProofs) | refine hK _ ?_ | refine hK _ _ (by rfl) ?_ | fail)
      refine ⟨(), (by trivial), ?_⟩; rw [hI]; exact f7 [0, 1, 2] (by simp -implicitDefEqProofs) (by simp -implicitDefEqProofs) (by decide) rfl (by simp)
    | true =>
      have hi : ints = p2 := by rw [← hi]; rfl
      subst hi
      repeat' (first | refine d4 ?_ | refine b8 ?_ | refine b7 ?_ | refine b9 ?_ | refine f5 rfl ?_ | refine d8 rfl ?_ | ((first | refine c5 (fun K hK => ?_) | refine d5 f8 (fun K hK => ?_) | refine a9 (cp i1 ?_) | refine a8 (dp i1 ?_) | refine a9 (cp i2 ?_) | refine a8 (dp i2 ?_) | fail); simp -implicitDefEqProofs) | refine hK _ ?_ | refine hK _ _ (by rfl) ?_ | fail)
      refine ⟨(), (by trivial), ?_⟩; rw [hI]; exact f7 [0, 1, 2] (by simp -implicitDefEqProofs) (by simp -implicitDefEqProofs) (by decide) rfl (by simp)
  clear i1 i2 hi
  refine a35 (ι := Unit) (fun _ => s7 [(0, vI op), (6, .v (.c (.ptr 0 0))), (7, vB ints), (8, vB bools)] [some (.box (ta (.mk ⟨0, 0, ⟨#[]⟩, 0, 0⟩ [])))]) (fun _ => True) (fun I hI => ?_) (fun _ _ => ?_)
  · cases p3 with
    | false =>
      have hbo : bools = false := by rw [← hbo]; rfl
      subst hbo
      repeat' (first | refine d4 ?_ | refine b8 ?_ | refine b7 ?_ | refine b9 ?_ | refine f5 rfl ?_ | refine d8 rfl ?_ | ((first | refine c5 (fun K hK => ?_) | refine d5 f8 (fun K hK => ?_) | refine a9 (cp b1 ?_) | refine a8 (dp b1 ?_) | refine a9 (cp b2 ?_) | refine a8 (dp b2 ?_) | fail); simp -implicitDefEqProofs) | refine hK _ ?_ | refine hK _ _ (by rfl) ?_ | fail)
      refine ⟨(), (by trivial), ?_⟩; rw [hI]; exact f7 [2] (by simp -implicitDefEqProofs) (by simp -implicitDefEqProofs) (by decide) rfl (by simp)
    | true =>
      have hbo : bools = p4 := by rw [← hbo]; rfl
      subst hbo
      repeat' (first | refine d4 ?_ | refine b8 ?_ | refine b7 ?_ | refine b9 ?_ | refine f5 rfl ?_ | refine d8 rfl ?_ | ((first | refine c5 (fun K hK => ?_) | refine d5 f8 (fun K hK => ?_) | refine a9 (cp b1 ?_) | refine a8 (dp b1 ?_) | refine a9 (cp b2 ?_) | refine a8 (dp b2 ?_) | fail); simp -implicitDefEqProofs) | refine hK _ ?_ | refine hK _ _ (by rfl) ?_ | fail)
      refine ⟨(), (by trivial), ?_⟩; rw [hI]; exact f7 [2] (by simp -implicitDefEqProofs) (by simp -implicitDefEqProofs) (by decide) rfl (by simp)
  clear b1 b2 hbo
  cases ints <;> cases bools
  · repeat' (first | refine d4 ?_ | refine b8 ?_ | refine b7 ?_ | refine b9 ?_ | refine f5 rfl ?_ | refine d8 rfl ?_ | ((first | refine c5 (fun K hK => ?_) | refine d5 f8 (fun K hK => ?_) | refine a9 (cp h1 ?_) | refine a8 (dp h1 ?_) | refine a9 (cp h2 ?_) | refine a8 (dp h2 ?_) | fail); simp -implicitDefEqProofs [*]) | refine hK _ ?_ | refine hK _ _ (by rfl) ?_ | (refine u5 rfl (fun hb => ?_) (fun hb => ?_) <;> ((try simp only [decide_eq_true_eq, decide_eq_false_iff_not, Bool.not_eq_true', Bool.not_eq_false', Bool.not_eq_eq_eq_not, Bool.not_true, Bool.not_false, beq_iff_eq, beq_true, beq_false, bne_iff_ne, ne_eq, Decidable.not_not, Bool.and_eq_true, Bool.or_eq_true, Bool.and_eq_false_iff, Bool.or_eq_false_iff] at hb) <;> repeat' (refine Or.elim hb (fun hb => ?_) (fun hb => ?_)))) | ((first | refine a0h (fun hb => ?_) (fun hb => ?_) | refine x8 (fun hb => ?_) (fun hb => ?_) | fail) <;> ((try simp only [decide_eq_true_eq, decide_eq_false_iff_not, Bool.not_eq_true', Bool.not_eq_false', Bool.not_eq_eq_eq_not, Bool.not_true, Bool.not_false, beq_iff_eq, beq_true, beq_false, bne_iff_ne, ne_eq, Decidable.not_not, Bool.and_eq_true, Bool.or_eq_true, Bool.and_eq_false_iff, Bool.or_eq_false_iff] at hb) <;> repeat' (refine Or.elim hb (fun hb => ?_) (fun hb => ?_))) <;> simp -implicitDefEqProofs [*]) | fail)
    all_goals (first | contradiction | (refine d7 (d6 ?_); simp -implicitDefEqProofs [g8, f9, g7, *] <;> try rfl))
  · repeat' (first | refine d4 ?_ | refine b8 ?_ | refine b7 ?_ | refine b9 ?_ | refine f5 rfl ?_ | refine d8 rfl ?_ | ((first | refine c5 (fun K hK => ?_) | refine d5 f8 (fun K hK => ?_) | refine a9 (cp h1 ?_) | refine a8 (dp h1 ?_) | refine a9 (cp h2 ?_) | refine a8 (dp h2 ?_) | fail); simp -implicitDefEqProofs [*]) | refine hK _ ?_ | refine hK _ _ (by rfl) ?_ | (refine u5 rfl (fun hb => ?_) (fun hb => ?_) <;> ((try simp only [decide_eq_true_eq, decide_eq_false_iff_not, Bool.not_eq_true', Bool.not_eq_false', Bool.not_eq_eq_eq_not, Bool.not_true, Bool.not_false, beq_iff_eq, beq_true, beq_false, bne_iff_ne, ne_eq, Decidable.not_not, Bool.and_eq_true, Bool.or_eq_true, Bool.and_eq_false_iff, Bool.or_eq_false_iff] at hb) <;> repeat' (refine Or.elim hb (fun hb => ?_) (fun hb => ?_)))) | ((first | refine a0h (fun hb => ?_) (fun hb => ?_) | refine x8 (fun hb => ?_) (fun hb => ?_) | fail) <;> ((try simp only [decide_eq_true_eq, decide_eq_false_iff_not, Bool.not_eq_true', Bool.not_eq_false', Bool.not_eq_eq_eq_not, Bool.not_true, Bool.not_false, beq_iff_eq, beq_true, beq_false, bne_iff_ne, ne_eq, Decidable.not_not, Bool.and_eq_true, Bool.or_eq_true, Bool.and_eq_false_iff, Bool.or_eq_false_iff] at hb) <;> repeat' (refine Or.elim hb (fun hb => ?_) (fun hb => ?_))) <;> simp -implicitDefEqProofs [*]) | fail)
    all_goals (first | contradiction | (refine d7 (d6 ?_); simp -implicitDefEqProofs [g8, f9, g7, *] <;> try rfl))
  · repeat' (first | refine d4 ?_ | refine b8 ?_ | refine b7 ?_ | refine b9 ?_ | refine f5 rfl ?_ | refine d8 rfl ?_ | ((first | refine c5 (fun K hK => ?_) | refine d5 f8 (fun K hK => ?_) | refine a9 (cp h1 ?_) | refine a8 (dp h1 ?_) | refine a9 (cp h2 ?_) | refine a8 (dp h2 ?_) | fail); simp -implicitDefEqProofs [*]) | refine hK _ ?_ | refine hK _ _ (by rfl) ?_ | (refine u5 rfl (fun hb => ?_) (fun hb => ?_) <;> ((try simp only [decide_eq_true_eq, decide_eq_false_iff_not, Bool.not_eq_true', Bool.not_eq_false', Bool.not_eq_eq_eq_not, Bool.not_true, Bool.not_false, beq_iff_eq, beq_true, beq_false, bne_iff_ne, ne_eq, Decidable.not_not, Bool.and_eq_true, Bool.or_eq_true, Bool.and_eq_false_iff, Bool.or_eq_false_iff] at hb) <;> repeat' (refine Or.elim hb (fun hb => ?_) (fun hb => ?_)))) | ((first | refine a0h (fun hb => ?_) (fun hb => ?_) | refine x8 (fun hb => ?_) (fun hb => ?_) | fail) <;> ((try simp only [decide_eq_true_eq, decide_eq_false_iff_not, Bool.not_eq_true', Bool.not_eq_false', Bool.not_eq_eq_eq_not, Bool.not_true, Bool.not_false, beq_iff_eq, beq_true, beq_false, bne_iff_ne, ne_eq, Decidable.not_not, Bool.and_eq_true, Bool.or_eq_true, Bool.and_eq_false_iff, Bool.or_eq_false_iff] at hb) <;> repeat' (refine Or.elim hb (fun hb => ?_) (fun hb => ?_))) <;> simp -implicitDefEqProofs [*]) | fail)
    all_goals (first | contradiction | (refine d7 (d6 ?_); simp -implicitDefEqProofs [g8, f9, g7, *] <;> try rfl))
  · repeat' (first | refine d4 ?_ | refine b8 ?_ | refine b7 ?_ | refine b9 ?_ | refine f5 rfl ?_ | refine d8 rfl ?_ | ((first | refine c5 (fun K hK => ?_) | refine d5 f8 (fun K hK => ?_) | refine a9 (cp h1 ?_) | refine a8 (dp h1 ?_) | refine a9 (cp h2 ?_) | refine a8 (dp h2 ?_) | fail); simp -implicitDefEqProofs [*]) | refine hK _ ?_ | refine hK _ _ (by rfl) ?_ | (refine u5 rfl (fun hb => ?_) (fun hb => ?_) <;> ((try simp only [decide_eq_true_eq, decide_eq_false_iff_not, Bool.not_eq_true', Bool.not_eq_false', Bool.not_eq_eq_eq_not, Bool.not_true, Bool.not_false, beq_iff_eq, beq_true, beq_false, bne_iff_ne, ne_eq, Decidable.not_not, Bool.and_eq_true, Bool.or_eq_true, Bool.and_eq_false_iff, Bool.or_eq_false_iff] at hb) <;> repeat' (refine Or.elim hb (fun hb => ?_) (fun hb => ?_)))) | ((first | refine a0h (fun hb => ?_) (fun hb => ?_) | refine x8 (fun hb => ?_) (fun hb => ?_) | fail) <;> ((try simp only [decide_eq_true_eq, decide_eq_false_iff_not, Bool.not_eq_true', Bool.not_eq_false', Bool.not_eq_eq_eq_not, Bool.not_true, Bool.not_false, beq_iff_eq, beq_true, beq_false, bne_iff_ne, ne_eq, Decidable.not_not, Bool.and_eq_true, Bool.or_eq_true, Bool.and_eq_false_iff, Bool.or_eq_false_iff] at hb) <;> repeat' (refine Or.elim hb (fun hb => ?_) (fun hb => ?_))) <;> simp -implicitDefEqProofs [*]) | fail)
    all_goals (first | contradiction | (refine d7 (d6 ?_); simp -implicitDefEqProofs [g8, f9, g7, *] <;> try rfl))
theorem b3o (m : VT) (hsz : m.size ≤ 1000000) (n kind : Int) (hn : n ≤ 9223372036854775807) : Row Tryz.prog 103 [vT m, vI n, vI kind] [] (vB (a3t m n kind)) [] := by
  obtain ⟨mx, ml⟩ := m
  have hml := Tr.len_size (x := mx) (l := ml)
  by_cases h0 : n < 0
  · rw [show a3t (.mk mx ml) n kind = false by unfold a3t; rw [if_pos h0]]
    refine f6 Tryz.func103 rfl rfl (Nat.le_of_ble_eq_true rfl) ?_
    repeat (first | refine d4 ?_ | refine b8 ?_ | refine b7 ?_ | refine b9 ?_ | refine f5 rfl ?_ | refine d8 rfl ?_ | ((first | refine c5 (fun K hK => ?_) | refine d5 f8 (fun K hK => ?_) | fail); simp -implicitDefEqProofs [h0]; first | refine hK _ ?_ | refine hK _ _ (by rfl) ?_ | fail) | fail)
    refine d7 (d6 ?_); simp -implicitDefEqProofs [g8, f9, g7] <;> try rfl
  obtain ⟨a, rfl⟩ : ∃ N : Nat, n = N := ⟨n.toNat, by omega⟩
  have hf : a3t (.mk mx ml) (a : Nat) kind = (match ml[a]? with | none => false | some d => decide (d.lab.k = kind) && c3j d kind) := by
    unfold a3t; rw [if_neg h0, Int.toNat_natCast]; rfl
  by_cases hal : a < ml.length; rotate_left
  · have hal' : (ml.length : Int) ≤ (a : Nat) := by omega
    have hal2 : ml.length ≤ a := by omega
    rw [show a3t (.mk mx ml) (a : Nat) kind = false by rw [hf, List.getElem?_eq_none hal2]]
    clear hf
    refine f6 Tryz.func103 rfl rfl (Nat.le_of_ble_eq_true rfl) ?_
    repeat (first | refine d4 ?_ | refine b8 ?_ | refine b7 ?_ | refine b9 ?_ | refine f5 rfl ?_ | refine d8 rfl ?_ | ((first | refine c5 (fun K hK => ?_) | refine d5 f8 (fun K hK => ?_) | fail); simp -implicitDefEqProofs [h0, hal, hal', hal2]; first | refine hK _ ?_ | refine hK _ _ (by rfl) ?_ | fail) | fail)
    refine d7 (d6 ?_); simp -implicitDefEqProofs [g8, f9, g7] <;> try rfl
  have hal' : ¬ (ml.length : Int) ≤ (a : Nat) := by omega
  have hal2 : ¬ ml.length ≤ a := by omega
  have w1 : IntKind.i64.wrap ((a : Nat) : Int) = (a : Nat) := k9 _ (by omega) (by omega)
  obtain ⟨⟨y, p⟩, hd⟩ : ∃ d, ml[a]? = some d := ⟨_, List.getElem?_eq_getElem hal⟩
  have hd' := (List.getElem?_eq_some_iff.1 hd).2
  have hdz := Tr.size_at (x := mx) hd
  have hsh := a1z (.mk y p) (by omega)
  rw [hd] at hf
  by_cases hk : y.k = kind; rotate_left
  · rw [show a3t (.mk mx ml) (a : Nat) kind = false by rw [hf]; show (decide (y.k = kind) && _) = false; rw [decide_eq_false hk]; rfl]
    clear hf hsh
    refine f6 Tryz.func103 rfl rfl (Nat.le_of_ble_eq_true rfl) ?_
    repeat (first | refine d4 ?_ | refine b8 ?_ | refine b7 ?_ | refine b9 ?_ | refine f5 rfl ?_ | refine d8 rfl ?_ | ((first | refine c5 (fun K hK => ?_) | refine d5 f8 (fun K hK => ?_) | fail); simp -implicitDefEqProofs [h0, hal, hal', hal2, w1, hd, hd', hk]; first | refine hK _ ?_ | refine hK _ _ (by rfl) ?_ | fail) | fail)
    refine d7 (d6 ?_); simp -implicitDefEqProofs [g8, f9, g7] <;> try rfl
  have hf : a3t (.mk mx ml) (a : Nat) kind = c3j (.mk y p) kind := by rw [hf]; show (decide (y.k = kind) && _) = _; rw [decide_eq_true hk, Bool.true_and]
  rw [hf]
  clear hf
  subst hk
  unfold c3j
  rw [Tr.kids]
  by_cases c1 : y.k = 31
  · rw [if_pos c1]
    by_cases l1 : p.length = 1
    · have l1' : (p.length : Int) = 1 := by omega
      obtain ⟨⟨ux, ul⟩, rfl⟩ := w6 l1
      have hl := a3y (.mk ux ul)
      have hlk := c3n (.mk ux ul)
      rw [show [Tr.mk ux ul].getD 0 z0T = .mk ux ul from rfl]
      rw [Tr.lab] at hlk
      obtain ⟨⟨vx, vl⟩, hv⟩ : ∃ v, a5c (.mk ux ul) = v := ⟨_, rfl⟩
      rw [hv] at hl hlk ⊢
      rw [Tr.lab] at hlk ⊢
      clear hv hlk hsh
      by_cases c0 : vx.k = 0
      · refine f6 Tryz.func103 rfl rfl (Nat.le_of_ble_eq_true rfl) ?_
        repeat' (first | refine d4 ?_ | refine b8 ?_ | refine b7 ?_ | refine b9 ?_ | refine f5 rfl ?_ | refine d8 rfl ?_ | ((first | refine c5 (fun K hK => ?_) | refine d5 f8 (fun K hK => ?_) | refine a9 (cp hl ?_) | refine a8 (dp hl ?_) | fail); simp -implicitDefEqProofs [h0, hal, hal', hal2, w1, hd, hd', c1, c0]) | refine hK _ ?_ | refine hK _ _ (by rfl) ?_ | fail)
        refine d7 (d6 ?_); simp -implicitDefEqProofs [g8, f9, g7, c0] <;> try rfl
      · refine f6 Tryz.func103 rfl rfl (Nat.le_of_ble_eq_true rfl) ?_
        repeat' (first | refine d4 ?_ | refine b8 ?_ | refine b7 ?_ | refine b9 ?_ | refine f5 rfl ?_ | refine d8 rfl ?_ | ((first | refine c5 (fun K hK => ?_) | refine d5 f8 (fun K hK => ?_) | refine a9 (cp hl ?_) | refine a8 (dp hl ?_) | fail); simp -implicitDefEqProofs [h0, hal, hal', hal2, w1, hd, hd', c1, c0]) | refine hK _ ?_ | refine hK _ _ (by rfl) ?_ | fail)
        refine d7 (d6 ?_); simp -implicitDefEqProofs [g8, f9, g7, c0] <;> try rfl
    · have l1' : ¬ (p.length : Int) = 1 := by omega
      clear hsh
      refine f6 Tryz.func103 rfl rfl (Nat.le_of_ble_eq_true rfl) ?_
      repeat (first | refine d4 ?_ | refine b8 ?_ | refine b7 ?_ | refine b9 ?_ | refine f5 rfl ?_ | refine d8 rfl ?_ | ((first | refine c5 (fun K hK => ?_) | refine d5 f8 (fun K hK => ?_) | fail); simp -implicitDefEqProofs [h0, hal, hal', hal2, w1, hd, hd', c1, l1, l1']; first | refine hK _ ?_ | refine hK _ _ (by rfl) ?_ | fail) | fail)
      refine d7 (d6 ?_); simp -implicitDefEqProofs [g8, f9, g7, l1] <;> try rfl
  rw [if_neg c1]
  by_cases c2 : y.k = 32
  · rw [if_pos c2]
    clear hsh
    by_cases l1 : p.length = 1
    · have l1' : (p.length : Int) = 1 := by omega
      refine f6 Tryz.func103 rfl rfl (Nat.le_of_ble_eq_true rfl) ?_
      repeat (first | refine d4 ?_ | refine b8 ?_ | refine b7 ?_ | refine b9 ?_ | refine f5 rfl ?_ | refine d8 rfl ?_ | ((first | refine c5 (fun K hK => ?_) | refine d5 f8 (fun K hK => ?_) | fail); simp -implicitDefEqProofs [h0, hal, hal', hal2, w1, hd, hd', c2, l1, l1']; first | refine hK _ ?_ | refine hK _ _ (by rfl) ?_ | fail) | fail)
      refine d7 (d6 ?_); simp -implicitDefEqProofs [g8, f9, g7, l1] <;> try rfl
    · have l1' : ¬ (p.length : Int) = 1 := by omega
      refine f6 Tryz.func103 rfl rfl (Nat.le_of_ble_eq_true rfl) ?_
      repeat (first | refine d4 ?_ | refine b8 ?_ | refine b7 ?_ | refine b9 ?_ | refine f5 rfl ?_ | refine d8 rfl ?_ | ((first | refine c5 (fun K hK => ?_) | refine d5 f8 (fun K hK => ?_) | fail); simp -implicitDefEqProofs [h0, hal, hal', hal2, w1, hd, hd', c2, l1, l1']; first | refine hK _ ?_ | refine hK _ _ (by rfl) ?_ | fail) | fail)
      refine d7 (d6 ?_); simp -implicitDefEqProofs [g8, f9, g7, l1] <;> try rfl
  rw [if_neg c2]
  by_cases c3 : y.k = 33
  · rw [if_pos c3]
    clear hsh
    by_cases l1 : p.length = 3
    · have l1' : (p.length : Int) = 3 := by omega
      refine f6 Tryz.func103 rfl rfl (Nat.le_of_ble_eq_true rfl) ?_
      repeat (first | refine d4 ?_ | refine b8 ?_ | refine b7 ?_ | refine b9 ?_ | refine f5 rfl ?_ | refine d8 rfl ?_ | ((first | refine c5 (fun K hK => ?_) | refine d5 f8 (fun K hK => ?_) | fail); simp -implicitDefEqProofs [h0, hal, hal', hal2, w1, hd, hd', c3, l1, l1']; first | refine hK _ ?_ | refine hK _ _ (by rfl) ?_ | fail) | fail)
      refine d7 (d6 ?_); simp -implicitDefEqProofs [g8, f9, g7, l1] <;> try rfl
    · have l1' : ¬ (p.length : Int) = 3 := by omega
      refine f6 Tryz.func103 rfl rfl (Nat.le_of_ble_eq_true rfl) ?_
      repeat (first | refine d4 ?_ | refine b8 ?_ | refine b7 ?_ | refine b9 ?_ | refine f5 rfl ?_ | refine d8 rfl ?_ | ((first | refine c5 (fun K hK => ?_) | refine d5 f8 (fun K hK => ?_) | fail); simp -implicitDefEqProofs [h0, hal, hal', hal2, w1, hd, hd', c3, l1, l1']; first | refine hK _ ?_ | refine hK _ _ (by rfl) ?_ | fail) | fail)
      refine d7 (d6 ?_); simp -implicitDefEqProofs [g8, f9, g7, l1] <;> try rfl
  rw [if_neg c3]
  obtain ⟨sb, hsb⟩ : ∃ b, b3t (.mk y p) = b := ⟨_, rfl⟩
  rw [hsb] at hsh ⊢
  clear hsb
  refine f6 Tryz.func103 rfl rfl (Nat.le_of_ble_eq_true rfl) ?_
  repeat' (first | refine d4 ?_ | refine b8 ?_ | refine b7 ?_ | refine b9 ?_ | refine f5 rfl ?_ | refine d8 rfl ?_ | ((first | refine c5 (fun K hK => ?_) | refine d5 f8 (fun K hK => ?_) | refine a9 (cp hsh ?_) | refine a8 (dp hsh ?_) | fail); simp -implicitDefEqProofs [h0, hal, hal', hal2, w1, hd, hd', c1, c2, c3]) | refine hK _ ?_ | refine hK _ _ (by rfl) ?_ | fail)
  refine d7 (d6 ?_); simp -implicitDefEqProofs [g8, f9, g7] <;> try rfl
end Go.Proofs.YthkfdheoakbfnaaGreat.am
end
section
namespace Go.Proofs.YthkfdheoakbfnaaGreat.vt
open Go.Proofs.YthkfdheoakbfnaaGreat.am
def namB (m : VT) (n : Nat) (x : Lab) : Bool :=
  if x.k = 7 then decide (0 ≤ x.n) && decide (x.n < n)
  else if x.k = 8 then a3t m x.n 31
  else if x.k = 9 then a3t m x.n 32
  else if x.k = 15 then a3t m x.n 30
  else if x.k = 16 then a3t m x.n 33
  else !decide (x.k = 17)
end Go.Proofs.YthkfdheoakbfnaaGreat.vt
namespace Go.Proofs.YthkfdheoakbfnaaGreat.vt
open Go.Proofs.YthkfdheoakbfnaaGreat.am
noncomputable def a2t (t : VT) : VT := Tr.fold (fun x _ bs => .mk ⟨x.k, x.n, x.s, 0, 0⟩ bs) t
theorem b04 (x : Lab) (l : List VT) : a2t (.mk x l) = .mk ⟨x.k, x.n, x.s, 0, 0⟩ (l.map a2t) := Tr.fold_mk _ x l
theorem a36 (t : VT) : (a2t t).size = t.size := by
  induction t using Tr.ind with
  | h x l ih =>
  rw [b04, Tr.size_mk, Tr.size_mk, List.map_map]
  congr 2
  exact List.map_congr_left (fun y hy => ih y hy)
theorem c5i (t : VT) : t7 t → t7 (a2t t) := by
  induction t using Tr.ind with
  | h x l ih =>
  intro h
  obtain ⟨h1, h2⟩ := (Tr.all_mk _ x l).1 h
  rw [b04]
  refine (Tr.all_mk _ _ _).2 ⟨⟨h1.1, h1.2.1, by constructor <;> (dsimp only; omega), by constructor <;> (dsimp only; omega)⟩, fun y hy => ?_⟩
  obtain ⟨z, hz, rfl⟩ := List.mem_map.1 hy
  exact ih z hz (h2 z hz)
end Go.Proofs.YthkfdheoakbfnaaGreat.vt
end
section
namespace Go.Proofs.YthkfdheoakbfnaaGreat.am
open Go.ChangeShapes Go.WideShapes Go.ChangeAt Go.RowKit
open vt
set_option linter.unusedVariables false
set_option linter.unusedSimpArgs false
theorem c2c (m : VT) (hsz : m.size ≤ 1000000) (L : List VT) (x : Lab) (l : List VT) (hx : x.ok) : Row Tryz.prog 97 [vT m, vLs L, vT (.mk x l)] [] (vB (namB m L.length x)) [] := by
  have hh := fun k => b3o m hsz x.n k hx.2.1.2
  have h1 := hh 31
  have h2 := hh 32
  have h3 := hh 30
  have h4 := hh 33
  clear hh
  unfold namB
  obtain ⟨p1, q1⟩ : ∃ p, a3t m x.n 31 = p := ⟨_, rfl⟩
  obtain ⟨p2, q2⟩ : ∃ p, a3t m x.n 32 = p := ⟨_, rfl⟩
  obtain ⟨p3, q3⟩ : ∃ p, a3t m x.n 30 = p := ⟨_, rfl⟩
  obtain ⟨p4, q4⟩ : ∃ p, a3t m x.n 33 = p := ⟨_, rfl⟩
  rw [q1] at h1
  rw [q2] at h2
  rw [q3] at h3
  rw [q4] at h4
  rw [q1, q2, q3, q4]
  clear q1 q2 q3 q4
  obtain ⟨mx, ml⟩ := m
  by_cases c7 : x.k = 7
  · rw [if_pos c7]
    by_cases a1 : 0 ≤ x.n
    · by_cases a2 : x.n < L.length
      · refine f6 Tryz.func97 rfl rfl (Nat.le_of_ble_eq_true rfl) ?_
        repeat (first | refine d4 ?_ | refine b8 ?_ | refine b7 ?_ | refine b9 ?_ | refine f5 rfl ?_ | refine d8 rfl ?_ | ((first | refine c5 (fun K hK => ?_) | refine d5 f8 (fun K hK => ?_) | fail); simp -implicitDefEqProofs [c7, a1, a2]; first | refine hK _ ?_ | refine hK _ _ (by rfl) ?_ | fail) | fail)
        refine d7 (d6 ?_); simp -implicitDefEqProofs [g8, f9, g7, a1, a2] <;> try rfl
      · refine f6 Tryz.func97 rfl rfl (Nat.le_of_ble_eq_true rfl) ?_
        repeat (first | refine d4 ?_ | refine b8 ?_ | refine b7 ?_ | refine b9 ?_ | refine f5 rfl ?_ | refine d8 rfl ?_ | ((first | refine c5 (fun K hK => ?_) | refine d5 f8 (fun K hK => ?_) | fail); simp -implicitDefEqProofs [c7, a1, a2]; first | refine hK _ ?_ | refine hK _ _ (by rfl) ?_ | fail) | fail)
        refine d7 (d6 ?_); simp -implicitDefEqProofs [g8, f9, g7, a1, a2] <;> try rfl
    · refine f6 Tryz.func97 rfl rfl (Nat.le_of_ble_eq_true rfl) ?_
      repeat (first | refine d4 ?_ | refine b8 ?_ | refine b7 ?_ | refine b9 ?_ | refine f5 rfl ?_ | refine d8 rfl ?_ | ((first | refine c5 (fun K hK => ?_) | refine d5 f8 (fun K hK => ?_) | fail); simp -implicitDefEqProofs [c7, a1]; first | refine hK _ ?_ | refine hK _ _ (by rfl) ?_ | fail) | fail)
      refine d7 (d6 ?_); simp -implicitDefEqProofs [g8, f9, g7, a1] <;> try rfl
  rw [if_neg c7]
  by_cases c8 : x.k = 8
  · rw [if_pos c8]
    refine f6 Tryz.func97 rfl rfl (Nat.le_of_ble_eq_true rfl) ?_
    repeat' (first | refine d4 ?_ | refine b8 ?_ | refine b7 ?_ | refine b9 ?_ | refine f5 rfl ?_ | refine d8 rfl ?_ | ((first | refine c5 (fun K hK => ?_) | refine d5 f8 (fun K hK => ?_) | refine a9 (cp h1 ?_) | refine a8 (dp h1 ?_) | fail); simp -implicitDefEqProofs [c8]) | refine hK _ ?_ | refine hK _ _ (by rfl) ?_ | fail)
    refine d7 (d6 ?_); simp -implicitDefEqProofs [g8, f9, g7] <;> try rfl
  rw [if_neg c8]
  by_cases c9 : x.k = 9
  · rw [if_pos c9]
    refine f6 Tryz.func97 rfl rfl (Nat.le_of_ble_eq_true rfl) ?_
    repeat' (first | refine d4 ?_ | refine b8 ?_ | refine b7 ?_ | refine b9 ?_ | refine f5 rfl ?_ | refine d8 rfl ?_ | ((first | refine c5 (fun K hK => ?_) | refine d5 f8 (fun K hK => ?_) | refine a9 (cp h2 ?_) | refine a8 (dp h2 ?_) | fail); simp -implicitDefEqProofs [c9]) | refine hK _ ?_ | refine hK _ _ (by rfl) ?_ | fail)
    refine d7 (d6 ?_); simp -implicitDefEqProofs [g8, f9, g7] <;> try rfl
  rw [if_neg c9]
  by_cases c15 : x.k = 15
  · rw [if_pos c15]
    refine f6 Tryz.func97 rfl rfl (Nat.le_of_ble_eq_true rfl) ?_
    repeat' (first | refine d4 ?_ | refine b8 ?_ | refine b7 ?_ | refine b9 ?_ | refine f5 rfl ?_ | refine d8 rfl ?_ | ((first | refine c5 (fun K hK => ?_) | refine d5 f8 (fun K hK => ?_) | refine a9 (cp h3 ?_) | refine a8 (dp h3 ?_) | fail); simp -implicitDefEqProofs [c15]) | refine hK _ ?_ | refine hK _ _ (by rfl) ?_ | fail)
    refine d7 (d6 ?_); simp -implicitDefEqProofs [g8, f9, g7] <;> try rfl
  rw [if_neg c15]
  by_cases c16 : x.k = 16
  · rw [if_pos c16]
    refine f6 Tryz.func97 rfl rfl (Nat.le_of_ble_eq_true rfl) ?_
    repeat' (first | refine d4 ?_ | refine b8 ?_ | refine b7 ?_ | refine b9 ?_ | refine f5 rfl ?_ | refine d8 rfl ?_ | ((first | refine c5 (fun K hK => ?_) | refine d5 f8 (fun K hK => ?_) | refine a9 (cp h4 ?_) | refine a8 (dp h4 ?_) | fail); simp -implicitDefEqProofs [c16]) | refine hK _ ?_ | refine hK _ _ (by rfl) ?_ | fail)
    refine d7 (d6 ?_); simp -implicitDefEqProofs [g8, f9, g7] <;> try rfl
  rw [if_neg c16]
  by_cases c17 : x.k = 17
  · refine f6 Tryz.func97 rfl rfl (Nat.le_of_ble_eq_true rfl) ?_
    repeat (first | refine d4 ?_ | refine b8 ?_ | refine b7 ?_ | refine b9 ?_ | refine f5 rfl ?_ | refine d8 rfl ?_ | ((first | refine c5 (fun K hK => ?_) | refine d5 f8 (fun K hK => ?_) | fail); simp -implicitDefEqProofs [c7, c8, c9, c15, c16, c17]; first | refine hK _ ?_ | refine hK _ _ (by rfl) ?_ | fail) | fail)
    refine d7 (d6 ?_); simp -implicitDefEqProofs [g8, f9, g7, c17] <;> try rfl
  · refine f6 Tryz.func97 rfl rfl (Nat.le_of_ble_eq_true rfl) ?_
    repeat (first | refine d4 ?_ | refine b8 ?_ | refine b7 ?_ | refine b9 ?_ | refine f5 rfl ?_ | refine d8 rfl ?_ | ((first | refine c5 (fun K hK => ?_) | refine d5 f8 (fun K hK => ?_) | fail); simp -implicitDefEqProofs [c7, c8, c9, c15, c16, c17]; first | refine hK _ ?_ | refine hK _ _ (by rfl) ?_ | fail) | fail)
    refine d7 (d6 ?_); simp -implicitDefEqProofs [g8, f9, g7, c17] <;> try rfl
theorem z8 (t : VT) : t.size ≤ 1000000 → Row Tryz.prog 93 [vT t] [] (vT (a2t t)) [] := by
  induction t using Tr.ind with
  | h x l ih =>
  intro hsz
  have hlen := Tr.len_size (x := x) (l := l)
  rw [b04]
  refine f6 Tryz.func93 rfl rfl (Nat.le_of_ble_eq_true rfl) ?_
  repeat (first | refine d4 ?_ | refine b8 ?_ | refine b7 ?_ | refine b9 ?_ | refine f5 rfl ?_ | refine d8 rfl ?_ | ((first | refine c5 (fun K hK => ?_) | refine d5 f8 (fun K hK => ?_) | fail); simp -implicitDefEqProofs; first | refine hK _ ?_ | refine hK _ _ (by rfl) ?_ | fail) | fail)
  refine l7 (ι := Nat) (fun k => s7 [(1, .v (.c (.ptr 0 0))), (2, .v (.c (.ptr 1 0))), (3, .v (.c (.row 2 6 (((l.take k).map a2t).map tc)))), (4, vI (k : Nat))] [some (.box (ta (.mk x l))), some (.box (ta (.mk ⟨0, 0, ⟨#[]⟩, 0, 0⟩ []))), some (.row 25 6)]) (fun k => k ≤ l.length) (fun k => l.length - k) 0 (Nat.zero_le _) (f7 [0, 1, 2] (by simp -implicitDefEqProofs) (by simp -implicitDefEqProofs) (by decide) rfl (by simp)) (fun Z hI k hk => ?_)
  by_cases hkl : k < l.length; rotate_left
  · have : k = l.length := by omega
    subst this
    rw [List.take_length]
    repeat (first | refine d4 ?_ | refine b8 ?_ | refine b7 ?_ | refine b9 ?_ | refine f5 rfl ?_ | refine d8 rfl ?_ | ((first | refine c5 (fun K hK => ?_) | refine d5 f8 (fun K hK => ?_) | fail); simp -implicitDefEqProofs; first | refine hK _ ?_ | refine hK _ _ (by rfl) ?_ | fail) | fail)
    refine d7 (d6 ?_); simp -implicitDefEqProofs [g8, f9, g7] <;> try rfl
  obtain ⟨⟨ax, al⟩, ha⟩ : ∃ a, l[k]? = some a := ⟨_, List.getElem?_eq_getElem hkl⟩
  have ha' := (List.getElem?_eq_some_iff.1 ha).2
  have hsz1 := Tr.size_at (x := x) ha
  have hc := ih _ (List.mem_of_getElem? ha) (by omega)
  have w2 : IntKind.i64.wrap ((k : Nat) + 1 : Int) = (k : Nat) + 1 := k9 _ (by omega) (by omega)
  have hs : (l.take (k + 1)).map a2t = (l.take k).map a2t ++ [a2t (.mk ax al)] := by rw [List.take_add_one, ha]; simp
  obtain ⟨L, hL⟩ : ∃ L, (l.take k).map a2t = L := ⟨_, rfl⟩
  have hLl : L.length = k := by rw [← hL, List.length_map, List.length_take]; omega
  rw [hL] at hs ⊢
  obtain ⟨⟨bx, bl⟩, hb⟩ : ∃ b, a2t (.mk ax al) = b := ⟨_, rfl⟩
  rw [hb] at hc hs
  have b1 : (k + 1) * 72 ≤ 140737488355328 := by omega
  have b2 : k + 1 ≤ 140737488355328 := by omega
  repeat' (first | refine d4 ?_ | refine b8 ?_ | refine b7 ?_ | refine b9 ?_ | refine f5 rfl ?_ | refine d8 rfl ?_ | ((first | refine c5 (fun K hK => ?_) | refine d5 f8 (fun K hK => ?_) | refine a9 (cp hc ?_) | refine a8 (dp hc ?_) | fail); simp -implicitDefEqProofs [hkl, ha, ha', hLl, b1, b2, w2]) | refine hK _ ?_ | refine hK _ _ (by rfl) ?_ | fail)
  refine ⟨k + 1, by omega, (by dsimp only; omega), ?_⟩
  rw [hI, hs]; exact f7 [0, 1, 23] (by simp -implicitDefEqProofs) (by simp -implicitDefEqProofs) (by decide) rfl (by simp)
end Go.Proofs.YthkfdheoakbfnaaGreat.am
end
