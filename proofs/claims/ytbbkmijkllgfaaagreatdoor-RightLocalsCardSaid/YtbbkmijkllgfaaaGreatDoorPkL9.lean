import Derived.Test.YtbbkmijkllgfaaaGreatDoorPkL8
import Derived.IntWalk
import Derived.Test.YtbbkmijkllgfaaaGreatDoorPkL4
set_option maxRecDepth 100000
set_option maxHeartbeats 4000000
section
namespace Go.Proofs.YtbbkmijkllgfaaaGreatDoor.am
open Go.ChangeShapes Go.WideShapes Go.ChangeAt Go.RowKit
open vt
set_option linter.unusedVariables false
set_option linter.unusedSimpArgs false
theorem b1k (x : Lab) (l : List VT) : Row Tryz.prog 80 [vT (.mk x l)] [] (vB (j7 x l.length)) [] := by
  by_cases c5 : x.k = 5
  · skip
    by_cases h : l.length = 0
    · have h' : (l.length : Int) = 0 := by omega
      rw [show j7 x l.length = true by simp [j7, c5, h, h']]
      refine d7 Tryz.func80 rfl rfl (Nat.le_of_ble_eq_true rfl) ?_
      repeat (first | refine b9 ?_ | refine b6 ?_ | refine a6 ?_ | refine b5 ?_ | refine d8 rfl (fun _ => ?_) (fun hb => absurd hb (by decide)) | refine d8 rfl (fun hb => absurd hb (by decide)) (fun _ => ?_) | (refine b8 (fun K hK => ?_); simp -implicitDefEqProofs [c5, h, h']; refine hK _ ?_) | (refine d3 e9 (fun K hK => ?_); simp -implicitDefEqProofs [c5, h, h']; refine hK _ _ (by rfl) ?_) | fail)
      refine d6 (d4 ?_); simp -implicitDefEqProofs [f9, f6, f7] <;> try rfl
    · have h' : ¬ (l.length : Int) = 0 := by omega
      rw [show j7 x l.length = false by simp [j7, c5, h]]
      refine d7 Tryz.func80 rfl rfl (Nat.le_of_ble_eq_true rfl) ?_
      repeat (first | refine b9 ?_ | refine b6 ?_ | refine a6 ?_ | refine b5 ?_ | refine d8 rfl (fun _ => ?_) (fun hb => absurd hb (by decide)) | refine d8 rfl (fun hb => absurd hb (by decide)) (fun _ => ?_) | (refine b8 (fun K hK => ?_); simp -implicitDefEqProofs [c5, h, h']; refine hK _ ?_) | (refine d3 e9 (fun K hK => ?_); simp -implicitDefEqProofs [c5, h, h']; refine hK _ _ (by rfl) ?_) | fail)
      refine d6 (d4 ?_); simp -implicitDefEqProofs [f9, f6, f7] <;> try rfl
  by_cases c7 : x.k = 7
  · skip
    by_cases h : l.length = 0
    · have h' : (l.length : Int) = 0 := by omega
      rw [show j7 x l.length = true by simp [j7, c7, h, h']]
      refine d7 Tryz.func80 rfl rfl (Nat.le_of_ble_eq_true rfl) ?_
      repeat (first | refine b9 ?_ | refine b6 ?_ | refine a6 ?_ | refine b5 ?_ | refine d8 rfl (fun _ => ?_) (fun hb => absurd hb (by decide)) | refine d8 rfl (fun hb => absurd hb (by decide)) (fun _ => ?_) | (refine b8 (fun K hK => ?_); simp -implicitDefEqProofs [c7, h, h']; refine hK _ ?_) | (refine d3 e9 (fun K hK => ?_); simp -implicitDefEqProofs [c7, h, h']; refine hK _ _ (by rfl) ?_) | fail)
      refine d6 (d4 ?_); simp -implicitDefEqProofs [f9, f6, f7] <;> try rfl
    · have h' : ¬ (l.length : Int) = 0 := by omega
      rw [show j7 x l.length = false by simp [j7, c7, h]]
      refine d7 Tryz.func80 rfl rfl (Nat.le_of_ble_eq_true rfl) ?_
      repeat (first | refine b9 ?_ | refine b6 ?_ | refine a6 ?_ | refine b5 ?_ | refine d8 rfl (fun _ => ?_) (fun hb => absurd hb (by decide)) | refine d8 rfl (fun hb => absurd hb (by decide)) (fun _ => ?_) | (refine b8 (fun K hK => ?_); simp -implicitDefEqProofs [c7, h, h']; refine hK _ ?_) | (refine d3 e9 (fun K hK => ?_); simp -implicitDefEqProofs [c7, h, h']; refine hK _ _ (by rfl) ?_) | fail)
      refine d6 (d4 ?_); simp -implicitDefEqProofs [f9, f6, f7] <;> try rfl
  by_cases c8 : x.k = 8
  · skip
    by_cases h : l.length = 0
    · have h' : (l.length : Int) = 0 := by omega
      rw [show j7 x l.length = true by simp [j7, c8, h, h']]
      refine d7 Tryz.func80 rfl rfl (Nat.le_of_ble_eq_true rfl) ?_
      repeat (first | refine b9 ?_ | refine b6 ?_ | refine a6 ?_ | refine b5 ?_ | refine d8 rfl (fun _ => ?_) (fun hb => absurd hb (by decide)) | refine d8 rfl (fun hb => absurd hb (by decide)) (fun _ => ?_) | (refine b8 (fun K hK => ?_); simp -implicitDefEqProofs [c8, h, h']; refine hK _ ?_) | (refine d3 e9 (fun K hK => ?_); simp -implicitDefEqProofs [c8, h, h']; refine hK _ _ (by rfl) ?_) | fail)
      refine d6 (d4 ?_); simp -implicitDefEqProofs [f9, f6, f7] <;> try rfl
    · have h' : ¬ (l.length : Int) = 0 := by omega
      rw [show j7 x l.length = false by simp [j7, c8, h]]
      refine d7 Tryz.func80 rfl rfl (Nat.le_of_ble_eq_true rfl) ?_
      repeat (first | refine b9 ?_ | refine b6 ?_ | refine a6 ?_ | refine b5 ?_ | refine d8 rfl (fun _ => ?_) (fun hb => absurd hb (by decide)) | refine d8 rfl (fun hb => absurd hb (by decide)) (fun _ => ?_) | (refine b8 (fun K hK => ?_); simp -implicitDefEqProofs [c8, h, h']; refine hK _ ?_) | (refine d3 e9 (fun K hK => ?_); simp -implicitDefEqProofs [c8, h, h']; refine hK _ _ (by rfl) ?_) | fail)
      refine d6 (d4 ?_); simp -implicitDefEqProofs [f9, f6, f7] <;> try rfl
  by_cases c9 : x.k = 9
  · skip
    by_cases h : l.length = 0
    · have h' : (l.length : Int) = 0 := by omega
      rw [show j7 x l.length = true by simp [j7, c9, h, h']]
      refine d7 Tryz.func80 rfl rfl (Nat.le_of_ble_eq_true rfl) ?_
      repeat (first | refine b9 ?_ | refine b6 ?_ | refine a6 ?_ | refine b5 ?_ | refine d8 rfl (fun _ => ?_) (fun hb => absurd hb (by decide)) | refine d8 rfl (fun hb => absurd hb (by decide)) (fun _ => ?_) | (refine b8 (fun K hK => ?_); simp -implicitDefEqProofs [c9, h, h']; refine hK _ ?_) | (refine d3 e9 (fun K hK => ?_); simp -implicitDefEqProofs [c9, h, h']; refine hK _ _ (by rfl) ?_) | fail)
      refine d6 (d4 ?_); simp -implicitDefEqProofs [f9, f6, f7] <;> try rfl
    · have h' : ¬ (l.length : Int) = 0 := by omega
      rw [show j7 x l.length = false by simp [j7, c9, h]]
      refine d7 Tryz.func80 rfl rfl (Nat.le_of_ble_eq_true rfl) ?_
      repeat (first | refine b9 ?_ | refine b6 ?_ | refine a6 ?_ | refine b5 ?_ | refine d8 rfl (fun _ => ?_) (fun hb => absurd hb (by decide)) | refine d8 rfl (fun hb => absurd hb (by decide)) (fun _ => ?_) | (refine b8 (fun K hK => ?_); simp -implicitDefEqProofs [c9, h, h']; refine hK _ ?_) | (refine d3 e9 (fun K hK => ?_); simp -implicitDefEqProofs [c9, h, h']; refine hK _ _ (by rfl) ?_) | fail)
      refine d6 (d4 ?_); simp -implicitDefEqProofs [f9, f6, f7] <;> try rfl
  by_cases c18 : x.k = 18
  · skip
    by_cases h : l.length = 0
    · have h' : (l.length : Int) = 0 := by omega
      rw [show j7 x l.length = true by simp [j7, c18, h, h']]
      refine d7 Tryz.func80 rfl rfl (Nat.le_of_ble_eq_true rfl) ?_
      repeat (first | refine b9 ?_ | refine b6 ?_ | refine a6 ?_ | refine b5 ?_ | refine d8 rfl (fun _ => ?_) (fun hb => absurd hb (by decide)) | refine d8 rfl (fun hb => absurd hb (by decide)) (fun _ => ?_) | (refine b8 (fun K hK => ?_); simp -implicitDefEqProofs [c18, h, h']; refine hK _ ?_) | (refine d3 e9 (fun K hK => ?_); simp -implicitDefEqProofs [c18, h, h']; refine hK _ _ (by rfl) ?_) | fail)
      refine d6 (d4 ?_); simp -implicitDefEqProofs [f9, f6, f7] <;> try rfl
    · have h' : ¬ (l.length : Int) = 0 := by omega
      rw [show j7 x l.length = false by simp [j7, c18, h]]
      refine d7 Tryz.func80 rfl rfl (Nat.le_of_ble_eq_true rfl) ?_
      repeat (first | refine b9 ?_ | refine b6 ?_ | refine a6 ?_ | refine b5 ?_ | refine d8 rfl (fun _ => ?_) (fun hb => absurd hb (by decide)) | refine d8 rfl (fun hb => absurd hb (by decide)) (fun _ => ?_) | (refine b8 (fun K hK => ?_); simp -implicitDefEqProofs [c18, h, h']; refine hK _ ?_) | (refine d3 e9 (fun K hK => ?_); simp -implicitDefEqProofs [c18, h, h']; refine hK _ _ (by rfl) ?_) | fail)
      refine d6 (d4 ?_); simp -implicitDefEqProofs [f9, f6, f7] <;> try rfl
  by_cases c6 : x.k = 6
  · skip
    by_cases h : l.length = 0
    · have h' : (l.length : Int) = 0 := by omega
      by_cases n0 : x.n = 0
      · skip
        rw [show j7 x l.length = true by simp [j7, c6, h, h', n0]]
        refine d7 Tryz.func80 rfl rfl (Nat.le_of_ble_eq_true rfl) ?_
        repeat (first | refine b9 ?_ | refine b6 ?_ | refine a6 ?_ | refine b5 ?_ | refine d8 rfl (fun _ => ?_) (fun hb => absurd hb (by decide)) | refine d8 rfl (fun hb => absurd hb (by decide)) (fun _ => ?_) | (refine b8 (fun K hK => ?_); simp -implicitDefEqProofs [c6, h, h', n0]; refine hK _ ?_) | (refine d3 e9 (fun K hK => ?_); simp -implicitDefEqProofs [c6, h, h', n0]; refine hK _ _ (by rfl) ?_) | fail)
        refine d6 (d4 ?_); simp -implicitDefEqProofs [f9, f6, f7] <;> try rfl
      by_cases n1 : x.n = 1
      · skip
        rw [show j7 x l.length = true by simp [j7, c6, h, h', n1]]
        refine d7 Tryz.func80 rfl rfl (Nat.le_of_ble_eq_true rfl) ?_
        repeat (first | refine b9 ?_ | refine b6 ?_ | refine a6 ?_ | refine b5 ?_ | refine d8 rfl (fun _ => ?_) (fun hb => absurd hb (by decide)) | refine d8 rfl (fun hb => absurd hb (by decide)) (fun _ => ?_) | (refine b8 (fun K hK => ?_); simp -implicitDefEqProofs [c6, h, h', n1]; refine hK _ ?_) | (refine d3 e9 (fun K hK => ?_); simp -implicitDefEqProofs [c6, h, h', n1]; refine hK _ _ (by rfl) ?_) | fail)
        refine d6 (d4 ?_); simp -implicitDefEqProofs [f9, f6, f7] <;> try rfl
      rw [show j7 x l.length = false by simp [j7, c6, h, h', n0, n1]]
      refine d7 Tryz.func80 rfl rfl (Nat.le_of_ble_eq_true rfl) ?_
      repeat (first | refine b9 ?_ | refine b6 ?_ | refine a6 ?_ | refine b5 ?_ | refine d8 rfl (fun _ => ?_) (fun hb => absurd hb (by decide)) | refine d8 rfl (fun hb => absurd hb (by decide)) (fun _ => ?_) | (refine b8 (fun K hK => ?_); simp -implicitDefEqProofs [c6, h, h', n0, n1]; refine hK _ ?_) | (refine d3 e9 (fun K hK => ?_); simp -implicitDefEqProofs [c6, h, h', n0, n1]; refine hK _ _ (by rfl) ?_) | fail)
      refine d6 (d4 ?_); simp -implicitDefEqProofs [f9, f6, f7] <;> try rfl
    · have h' : ¬ (l.length : Int) = 0 := by omega
      rw [show j7 x l.length = false by simp [j7, c6, h]]
      refine d7 Tryz.func80 rfl rfl (Nat.le_of_ble_eq_true rfl) ?_
      repeat (first | refine b9 ?_ | refine b6 ?_ | refine a6 ?_ | refine b5 ?_ | refine d8 rfl (fun _ => ?_) (fun hb => absurd hb (by decide)) | refine d8 rfl (fun hb => absurd hb (by decide)) (fun _ => ?_) | (refine b8 (fun K hK => ?_); simp -implicitDefEqProofs [c6, h, h']; refine hK _ ?_) | (refine d3 e9 (fun K hK => ?_); simp -implicitDefEqProofs [c6, h, h']; refine hK _ _ (by rfl) ?_) | fail)
      refine d6 (d4 ?_); simp -implicitDefEqProofs [f9, f6, f7] <;> try rfl
  by_cases c10 : x.k = 10
  · skip
    by_cases h : l.length = 2
    · have h' : (l.length : Int) = 2 := by omega
      by_cases n0 : 1 ≤ x.n
      · by_cases n1 : x.n ≤ 13
        · skip
          rw [show j7 x l.length = true by simp [j7, c10, h, h', n0, n1]]
          refine d7 Tryz.func80 rfl rfl (Nat.le_of_ble_eq_true rfl) ?_
          repeat (first | refine b9 ?_ | refine b6 ?_ | refine a6 ?_ | refine b5 ?_ | refine d8 rfl (fun _ => ?_) (fun hb => absurd hb (by decide)) | refine d8 rfl (fun hb => absurd hb (by decide)) (fun _ => ?_) | (refine b8 (fun K hK => ?_); simp -implicitDefEqProofs [c10, h, h', n0, n1]; refine hK _ ?_) | (refine d3 e9 (fun K hK => ?_); simp -implicitDefEqProofs [c10, h, h', n0, n1]; refine hK _ _ (by rfl) ?_) | fail)
          refine d6 (d4 ?_); simp -implicitDefEqProofs [f9, f6, f7] <;> try rfl
        · skip
          rw [show j7 x l.length = false by simp [j7, c10, h, h', n0, n1]]
          refine d7 Tryz.func80 rfl rfl (Nat.le_of_ble_eq_true rfl) ?_
          repeat (first | refine b9 ?_ | refine b6 ?_ | refine a6 ?_ | refine b5 ?_ | refine d8 rfl (fun _ => ?_) (fun hb => absurd hb (by decide)) | refine d8 rfl (fun hb => absurd hb (by decide)) (fun _ => ?_) | (refine b8 (fun K hK => ?_); simp -implicitDefEqProofs [c10, h, h', n0, n1]; refine hK _ ?_) | (refine d3 e9 (fun K hK => ?_); simp -implicitDefEqProofs [c10, h, h', n0, n1]; refine hK _ _ (by rfl) ?_) | fail)
          refine d6 (d4 ?_); simp -implicitDefEqProofs [f9, f6, f7] <;> try rfl
      · skip
        rw [show j7 x l.length = false by simp [j7, c10, h, h', n0]]
        refine d7 Tryz.func80 rfl rfl (Nat.le_of_ble_eq_true rfl) ?_
        repeat (first | refine b9 ?_ | refine b6 ?_ | refine a6 ?_ | refine b5 ?_ | refine d8 rfl (fun _ => ?_) (fun hb => absurd hb (by decide)) | refine d8 rfl (fun hb => absurd hb (by decide)) (fun _ => ?_) | (refine b8 (fun K hK => ?_); simp -implicitDefEqProofs [c10, h, h', n0]; refine hK _ ?_) | (refine d3 e9 (fun K hK => ?_); simp -implicitDefEqProofs [c10, h, h', n0]; refine hK _ _ (by rfl) ?_) | fail)
        refine d6 (d4 ?_); simp -implicitDefEqProofs [f9, f6, f7] <;> try rfl
    · have h' : ¬ (l.length : Int) = 2 := by omega
      rw [show j7 x l.length = false by simp [j7, c10, h]]
      refine d7 Tryz.func80 rfl rfl (Nat.le_of_ble_eq_true rfl) ?_
      repeat (first | refine b9 ?_ | refine b6 ?_ | refine a6 ?_ | refine b5 ?_ | refine d8 rfl (fun _ => ?_) (fun hb => absurd hb (by decide)) | refine d8 rfl (fun hb => absurd hb (by decide)) (fun _ => ?_) | (refine b8 (fun K hK => ?_); simp -implicitDefEqProofs [c10, h, h']; refine hK _ ?_) | (refine d3 e9 (fun K hK => ?_); simp -implicitDefEqProofs [c10, h, h']; refine hK _ _ (by rfl) ?_) | fail)
      refine d6 (d4 ?_); simp -implicitDefEqProofs [f9, f6, f7] <;> try rfl
  by_cases c11 : x.k = 11
  · skip
    by_cases h : l.length = 1
    · have h' : (l.length : Int) = 1 := by omega
      by_cases n0 : x.n = 1
      · skip
        rw [show j7 x l.length = true by simp [j7, c11, h, h', n0]]
        refine d7 Tryz.func80 rfl rfl (Nat.le_of_ble_eq_true rfl) ?_
        repeat (first | refine b9 ?_ | refine b6 ?_ | refine a6 ?_ | refine b5 ?_ | refine d8 rfl (fun _ => ?_) (fun hb => absurd hb (by decide)) | refine d8 rfl (fun hb => absurd hb (by decide)) (fun _ => ?_) | (refine b8 (fun K hK => ?_); simp -implicitDefEqProofs [c11, h, h', n0]; refine hK _ ?_) | (refine d3 e9 (fun K hK => ?_); simp -implicitDefEqProofs [c11, h, h', n0]; refine hK _ _ (by rfl) ?_) | fail)
        refine d6 (d4 ?_); simp -implicitDefEqProofs [f9, f6, f7] <;> try rfl
      by_cases n1 : x.n = 2
      · skip
        rw [show j7 x l.length = true by simp [j7, c11, h, h', n1]]
        refine d7 Tryz.func80 rfl rfl (Nat.le_of_ble_eq_true rfl) ?_
        repeat (first | refine b9 ?_ | refine b6 ?_ | refine a6 ?_ | refine b5 ?_ | refine d8 rfl (fun _ => ?_) (fun hb => absurd hb (by decide)) | refine d8 rfl (fun hb => absurd hb (by decide)) (fun _ => ?_) | (refine b8 (fun K hK => ?_); simp -implicitDefEqProofs [c11, h, h', n1]; refine hK _ ?_) | (refine d3 e9 (fun K hK => ?_); simp -implicitDefEqProofs [c11, h, h', n1]; refine hK _ _ (by rfl) ?_) | fail)
        refine d6 (d4 ?_); simp -implicitDefEqProofs [f9, f6, f7] <;> try rfl
      rw [show j7 x l.length = false by simp [j7, c11, h, h', n0, n1]]
      refine d7 Tryz.func80 rfl rfl (Nat.le_of_ble_eq_true rfl) ?_
      repeat (first | refine b9 ?_ | refine b6 ?_ | refine a6 ?_ | refine b5 ?_ | refine d8 rfl (fun _ => ?_) (fun hb => absurd hb (by decide)) | refine d8 rfl (fun hb => absurd hb (by decide)) (fun _ => ?_) | (refine b8 (fun K hK => ?_); simp -implicitDefEqProofs [c11, h, h', n0, n1]; refine hK _ ?_) | (refine d3 e9 (fun K hK => ?_); simp -implicitDefEqProofs [c11, h, h', n0, n1]; refine hK _ _ (by rfl) ?_) | fail)
      refine d6 (d4 ?_); simp -implicitDefEqProofs [f9, f6, f7] <;> try rfl
    · have h' : ¬ (l.length : Int) = 1 := by omega
      rw [show j7 x l.length = false by simp [j7, c11, h]]
      refine d7 Tryz.func80 rfl rfl (Nat.le_of_ble_eq_true rfl) ?_
      repeat (first | refine b9 ?_ | refine b6 ?_ | refine a6 ?_ | refine b5 ?_ | refine d8 rfl (fun _ => ?_) (fun hb => absurd hb (by decide)) | refine d8 rfl (fun hb => absurd hb (by decide)) (fun _ => ?_) | (refine b8 (fun K hK => ?_); simp -implicitDefEqProofs [c11, h, h']; refine hK _ ?_) | (refine d3 e9 (fun K hK => ?_); simp -implicitDefEqProofs [c11, h, h']; refine hK _ _ (by rfl) ?_) | fail)
      refine d6 (d4 ?_); simp -implicitDefEqProofs [f9, f6, f7] <;> try rfl
  by_cases c12 : x.k = 12
  · skip
    by_cases h : l.length = 2
    · have h' : (l.length : Int) = 2 := by omega
      rw [show j7 x l.length = true by simp [j7, c12, h, h']]
      refine d7 Tryz.func80 rfl rfl (Nat.le_of_ble_eq_true rfl) ?_
      repeat (first | refine b9 ?_ | refine b6 ?_ | refine a6 ?_ | refine b5 ?_ | refine d8 rfl (fun _ => ?_) (fun hb => absurd hb (by decide)) | refine d8 rfl (fun hb => absurd hb (by decide)) (fun _ => ?_) | (refine b8 (fun K hK => ?_); simp -implicitDefEqProofs [c12, h, h']; refine hK _ ?_) | (refine d3 e9 (fun K hK => ?_); simp -implicitDefEqProofs [c12, h, h']; refine hK _ _ (by rfl) ?_) | fail)
      refine d6 (d4 ?_); simp -implicitDefEqProofs [f9, f6, f7] <;> try rfl
    · have h' : ¬ (l.length : Int) = 2 := by omega
      rw [show j7 x l.length = false by simp [j7, c12, h]]
      refine d7 Tryz.func80 rfl rfl (Nat.le_of_ble_eq_true rfl) ?_
      repeat (first | refine b9 ?_ | refine b6 ?_ | refine a6 ?_ | refine b5 ?_ | refine d8 rfl (fun _ => ?_) (fun hb => absurd hb (by decide)) | refine d8 rfl (fun hb => absurd hb (by decide)) (fun _ => ?_) | (refine b8 (fun K hK => ?_); simp -implicitDefEqProofs [c12, h, h']; refine hK _ ?_) | (refine d3 e9 (fun K hK => ?_); simp -implicitDefEqProofs [c12, h, h']; refine hK _ _ (by rfl) ?_) | fail)
      refine d6 (d4 ?_); simp -implicitDefEqProofs [f9, f6, f7] <;> try rfl
  by_cases c13 : x.k = 13
  · skip
    by_cases h : l.length = 1
    · have h' : (l.length : Int) = 1 := by omega
      rw [show j7 x l.length = true by simp [j7, c13, h, h']]
      refine d7 Tryz.func80 rfl rfl (Nat.le_of_ble_eq_true rfl) ?_
      repeat (first | refine b9 ?_ | refine b6 ?_ | refine a6 ?_ | refine b5 ?_ | refine d8 rfl (fun _ => ?_) (fun hb => absurd hb (by decide)) | refine d8 rfl (fun hb => absurd hb (by decide)) (fun _ => ?_) | (refine b8 (fun K hK => ?_); simp -implicitDefEqProofs [c13, h, h']; refine hK _ ?_) | (refine d3 e9 (fun K hK => ?_); simp -implicitDefEqProofs [c13, h, h']; refine hK _ _ (by rfl) ?_) | fail)
      refine d6 (d4 ?_); simp -implicitDefEqProofs [f9, f6, f7] <;> try rfl
    · have h' : ¬ (l.length : Int) = 1 := by omega
      rw [show j7 x l.length = false by simp [j7, c13, h]]
      refine d7 Tryz.func80 rfl rfl (Nat.le_of_ble_eq_true rfl) ?_
      repeat (first | refine b9 ?_ | refine b6 ?_ | refine a6 ?_ | refine b5 ?_ | refine d8 rfl (fun _ => ?_) (fun hb => absurd hb (by decide)) | refine d8 rfl (fun hb => absurd hb (by decide)) (fun _ => ?_) | (refine b8 (fun K hK => ?_); simp -implicitDefEqProofs [c13, h, h']; refine hK _ ?_) | (refine d3 e9 (fun K hK => ?_); simp -implicitDefEqProofs [c13, h, h']; refine hK _ _ (by rfl) ?_) | fail)
      refine d6 (d4 ?_); simp -implicitDefEqProofs [f9, f6, f7] <;> try rfl
  by_cases c14 : x.k = 14
  · skip
    by_cases h : 1 ≤ l.length
    · have h' : (1 : Int) ≤ (l.length : Int) := by omega
      have h2 : ¬ l.length = 0 := by omega
      rw [show j7 x l.length = true by simp [j7, c14, h]]
      refine d7 Tryz.func80 rfl rfl (Nat.le_of_ble_eq_true rfl) ?_
      repeat (first | refine b9 ?_ | refine b6 ?_ | refine a6 ?_ | refine b5 ?_ | refine d8 rfl (fun _ => ?_) (fun hb => absurd hb (by decide)) | refine d8 rfl (fun hb => absurd hb (by decide)) (fun _ => ?_) | (refine b8 (fun K hK => ?_); simp -implicitDefEqProofs [c14, h, h', h2]; refine hK _ ?_) | (refine d3 e9 (fun K hK => ?_); simp -implicitDefEqProofs [c14, h, h', h2]; refine hK _ _ (by rfl) ?_) | fail)
      refine d6 (d4 ?_); simp -implicitDefEqProofs [f9, f6, f7] <;> try rfl
    · have h' : ¬ (1 : Int) ≤ (l.length : Int) := by omega
      rw [show j7 x l.length = false by simp [j7, c14, h]]
      refine d7 Tryz.func80 rfl rfl (Nat.le_of_ble_eq_true rfl) ?_
      repeat (first | refine b9 ?_ | refine b6 ?_ | refine a6 ?_ | refine b5 ?_ | refine d8 rfl (fun _ => ?_) (fun hb => absurd hb (by decide)) | refine d8 rfl (fun hb => absurd hb (by decide)) (fun _ => ?_) | (refine b8 (fun K hK => ?_); simp -implicitDefEqProofs [c14, h, h']; refine hK _ ?_) | (refine d3 e9 (fun K hK => ?_); simp -implicitDefEqProofs [c14, h, h']; refine hK _ _ (by rfl) ?_) | fail)
      refine d6 (d4 ?_); simp -implicitDefEqProofs [f9, f6, f7] <;> try rfl
  by_cases c15 : x.k = 15
  · skip
    by_cases h : 1 ≤ l.length
    · have h' : (1 : Int) ≤ (l.length : Int) := by omega
      have h2 : ¬ l.length = 0 := by omega
      rw [show j7 x l.length = true by simp [j7, c15, h]]
      refine d7 Tryz.func80 rfl rfl (Nat.le_of_ble_eq_true rfl) ?_
      repeat (first | refine b9 ?_ | refine b6 ?_ | refine a6 ?_ | refine b5 ?_ | refine d8 rfl (fun _ => ?_) (fun hb => absurd hb (by decide)) | refine d8 rfl (fun hb => absurd hb (by decide)) (fun _ => ?_) | (refine b8 (fun K hK => ?_); simp -implicitDefEqProofs [c15, h, h', h2]; refine hK _ ?_) | (refine d3 e9 (fun K hK => ?_); simp -implicitDefEqProofs [c15, h, h', h2]; refine hK _ _ (by rfl) ?_) | fail)
      refine d6 (d4 ?_); simp -implicitDefEqProofs [f9, f6, f7] <;> try rfl
    · have h' : ¬ (1 : Int) ≤ (l.length : Int) := by omega
      rw [show j7 x l.length = false by simp [j7, c15, h]]
      refine d7 Tryz.func80 rfl rfl (Nat.le_of_ble_eq_true rfl) ?_
      repeat (first | refine b9 ?_ | refine b6 ?_ | refine a6 ?_ | refine b5 ?_ | refine d8 rfl (fun _ => ?_) (fun hb => absurd hb (by decide)) | refine d8 rfl (fun hb => absurd hb (by decide)) (fun _ => ?_) | (refine b8 (fun K hK => ?_); simp -implicitDefEqProofs [c15, h, h']; refine hK _ ?_) | (refine d3 e9 (fun K hK => ?_); simp -implicitDefEqProofs [c15, h, h']; refine hK _ _ (by rfl) ?_) | fail)
      refine d6 (d4 ?_); simp -implicitDefEqProofs [f9, f6, f7] <;> try rfl
  by_cases c16 : x.k = 16
  · skip
    rw [show j7 x l.length = true by simp [j7, c16]]
    refine d7 Tryz.func80 rfl rfl (Nat.le_of_ble_eq_true rfl) ?_
    repeat (first | refine b9 ?_ | refine b6 ?_ | refine a6 ?_ | refine b5 ?_ | refine d8 rfl (fun _ => ?_) (fun hb => absurd hb (by decide)) | refine d8 rfl (fun hb => absurd hb (by decide)) (fun _ => ?_) | (refine b8 (fun K hK => ?_); simp -implicitDefEqProofs [c16]; refine hK _ ?_) | (refine d3 e9 (fun K hK => ?_); simp -implicitDefEqProofs [c16]; refine hK _ _ (by rfl) ?_) | fail)
    refine d6 (d4 ?_); simp -implicitDefEqProofs [f9, f6, f7] <;> try rfl
  by_cases c17 : x.k = 17
  · skip
    rw [show j7 x l.length = true by simp [j7, c17]]
    refine d7 Tryz.func80 rfl rfl (Nat.le_of_ble_eq_true rfl) ?_
    repeat (first | refine b9 ?_ | refine b6 ?_ | refine a6 ?_ | refine b5 ?_ | refine d8 rfl (fun _ => ?_) (fun hb => absurd hb (by decide)) | refine d8 rfl (fun hb => absurd hb (by decide)) (fun _ => ?_) | (refine b8 (fun K hK => ?_); simp -implicitDefEqProofs [c17]; refine hK _ ?_) | (refine d3 e9 (fun K hK => ?_); simp -implicitDefEqProofs [c17]; refine hK _ _ (by rfl) ?_) | fail)
    refine d6 (d4 ?_); simp -implicitDefEqProofs [f9, f6, f7] <;> try rfl
  rw [show j7 x l.length = false by simp [j7, c5, c7, c8, c9, c18, c6, c10, c11, c12, c13, c14, c15, c16, c17]]
  refine d7 Tryz.func80 rfl rfl (Nat.le_of_ble_eq_true rfl) ?_
  repeat (first | refine b9 ?_ | refine b6 ?_ | refine a6 ?_ | refine b5 ?_ | refine d8 rfl (fun _ => ?_) (fun hb => absurd hb (by decide)) | refine d8 rfl (fun hb => absurd hb (by decide)) (fun _ => ?_) | (refine b8 (fun K hK => ?_); simp -implicitDefEqProofs [c5, c7, c8, c9, c18, c6, c10, c11, c12, c13, c14, c15, c16, c17]; refine hK _ ?_) | (refine d3 e9 (fun K hK => ?_); simp -implicitDefEqProofs [c5, c7, c8, c9, c18, c6, c10, c11, c12, c13, c14, c15, c16, c17]; refine hK _ _ (by rfl) ?_) | fail)
  refine d6 (d4 ?_); simp -implicitDefEqProofs [f9, f6, f7] <;> try rfl
def b0z (d : VT) (kind : Int) : Bool :=
  if kind = 8 then decide (d.lab.k = 31) && (decide (d.kids.length = 1) && !decide ((a0u (d.kids.getD 0 z0T)).lab.k = 0))
  else if kind = 9 then decide (d.lab.k = 32) && decide (d.kids.length = 1)
  else if kind = 16 then decide (d.lab.k = 33) && decide (d.kids.length = 3)
  else d.kids.all j1 && (decide (d.lab.k = 30) && decide (0 < d.kids.length))
theorem a8r (x : Lab) (l : List VT) (hl : l.length ≤ 1000000) (kind : Int) : Row Tryz.prog 123 [vT (.mk x l), vI kind] [] (vB (b0z (.mk x l) kind)) [] := by
  unfold b0z
  rw [Tr.lab, Tr.kids]
  by_cases k8 : kind = 8
  · subst k8
    rw [if_pos rfl]
    by_cases d31 : x.k = 31; rotate_left
    · rw [decide_eq_false d31]
      refine d7 Tryz.func123 rfl rfl (Nat.le_of_ble_eq_true rfl) ?_
      repeat (first | refine b9 ?_ | refine b6 ?_ | refine a6 ?_ | refine b5 ?_ | refine d8 rfl (fun _ => ?_) (fun hb => absurd hb (by decide)) | refine d8 rfl (fun hb => absurd hb (by decide)) (fun _ => ?_) | (refine b8 (fun K hK => ?_); simp -implicitDefEqProofs [d31]; refine hK _ ?_) | (refine d3 e9 (fun K hK => ?_); simp -implicitDefEqProofs [d31]; refine hK _ _ (by rfl) ?_) | fail)
      refine d6 (d4 ?_); simp -implicitDefEqProofs [f9, f6, f7] <;> try rfl
    by_cases l1 : l.length = 1; rotate_left
    · have l1' : ¬ (l.length : Int) = 1 := by omega
      rw [decide_eq_false l1]
      refine d7 Tryz.func123 rfl rfl (Nat.le_of_ble_eq_true rfl) ?_
      repeat (first | refine b9 ?_ | refine b6 ?_ | refine a6 ?_ | refine b5 ?_ | refine d8 rfl (fun _ => ?_) (fun hb => absurd hb (by decide)) | refine d8 rfl (fun hb => absurd hb (by decide)) (fun _ => ?_) | (refine b8 (fun K hK => ?_); simp -implicitDefEqProofs [d31, l1, l1']; refine hK _ ?_) | (refine d3 e9 (fun K hK => ?_); simp -implicitDefEqProofs [d31, l1, l1']; refine hK _ _ (by rfl) ?_) | fail)
      refine d6 (d4 ?_); simp -implicitDefEqProofs [f9, f6, f7] <;> try rfl
    obtain ⟨⟨ax, al⟩, rfl⟩ := o6 l1
    have hli := a7l ax al
    rw [show [Tr.mk ax al].getD 0 z0T = .mk ax al from rfl]
    obtain ⟨⟨ux, ul⟩, hu⟩ : ∃ g, a0u (.mk ax al) = g := ⟨_, rfl⟩
    rw [hu] at hli ⊢
    rw [Tr.lab]
    clear hu
    by_cases u0 : ux.k = 0
    · refine d7 Tryz.func123 rfl rfl (Nat.le_of_ble_eq_true rfl) ?_
      repeat' (first | refine b9 ?_ | refine b6 ?_ | refine a6 ?_ | refine b5 ?_ | refine d8 rfl (fun _ => ?_) (fun hb => absurd hb (by decide)) | refine d8 rfl (fun hb => absurd hb (by decide)) (fun _ => ?_) | (refine b8 (fun K hK => ?_); simp -implicitDefEqProofs [d31, u0]) | (refine d3 e9 (fun K hK => ?_); simp -implicitDefEqProofs [d31, u0]) | refine hK _ ?_ | refine hK _ _ (by rfl) ?_ | (refine b7 (cp hli ?_); simp -implicitDefEqProofs [d31, u0]) | (refine a8 (dp hli ?_); simp -implicitDefEqProofs [d31, u0]) | fail)
      refine d6 (d4 ?_); simp -implicitDefEqProofs [f9, f6, f7, d31, u0] <;> try rfl
    · refine d7 Tryz.func123 rfl rfl (Nat.le_of_ble_eq_true rfl) ?_
      repeat' (first | refine b9 ?_ | refine b6 ?_ | refine a6 ?_ | refine b5 ?_ | refine d8 rfl (fun _ => ?_) (fun hb => absurd hb (by decide)) | refine d8 rfl (fun hb => absurd hb (by decide)) (fun _ => ?_) | (refine b8 (fun K hK => ?_); simp -implicitDefEqProofs [d31, u0]) | (refine d3 e9 (fun K hK => ?_); simp -implicitDefEqProofs [d31, u0]) | refine hK _ ?_ | refine hK _ _ (by rfl) ?_ | (refine b7 (cp hli ?_); simp -implicitDefEqProofs [d31, u0]) | (refine a8 (dp hli ?_); simp -implicitDefEqProofs [d31, u0]) | fail)
      refine d6 (d4 ?_); simp -implicitDefEqProofs [f9, f6, f7, d31, u0] <;> try rfl
  rw [if_neg k8]
  by_cases k9 : kind = 9
  · subst k9
    rw [if_pos rfl]
    by_cases d32 : x.k = 32; rotate_left
    · rw [decide_eq_false d32]
      refine d7 Tryz.func123 rfl rfl (Nat.le_of_ble_eq_true rfl) ?_
      repeat (first | refine b9 ?_ | refine b6 ?_ | refine a6 ?_ | refine b5 ?_ | refine d8 rfl (fun _ => ?_) (fun hb => absurd hb (by decide)) | refine d8 rfl (fun hb => absurd hb (by decide)) (fun _ => ?_) | (refine b8 (fun K hK => ?_); simp -implicitDefEqProofs [d32]; refine hK _ ?_) | (refine d3 e9 (fun K hK => ?_); simp -implicitDefEqProofs [d32]; refine hK _ _ (by rfl) ?_) | fail)
      refine d6 (d4 ?_); simp -implicitDefEqProofs [f9, f6, f7] <;> try rfl
    by_cases l1 : l.length = 1
    · have l1' : (l.length : Int) = 1 := by omega
      refine d7 Tryz.func123 rfl rfl (Nat.le_of_ble_eq_true rfl) ?_
      repeat (first | refine b9 ?_ | refine b6 ?_ | refine a6 ?_ | refine b5 ?_ | refine d8 rfl (fun _ => ?_) (fun hb => absurd hb (by decide)) | refine d8 rfl (fun hb => absurd hb (by decide)) (fun _ => ?_) | (refine b8 (fun K hK => ?_); simp -implicitDefEqProofs [d32, l1, l1']; refine hK _ ?_) | (refine d3 e9 (fun K hK => ?_); simp -implicitDefEqProofs [d32, l1, l1']; refine hK _ _ (by rfl) ?_) | fail)
      refine d6 (d4 ?_); simp -implicitDefEqProofs [f9, f6, f7, d32, l1] <;> try rfl
    · have l1' : ¬ (l.length : Int) = 1 := by omega
      refine d7 Tryz.func123 rfl rfl (Nat.le_of_ble_eq_true rfl) ?_
      repeat (first | refine b9 ?_ | refine b6 ?_ | refine a6 ?_ | refine b5 ?_ | refine d8 rfl (fun _ => ?_) (fun hb => absurd hb (by decide)) | refine d8 rfl (fun hb => absurd hb (by decide)) (fun _ => ?_) | (refine b8 (fun K hK => ?_); simp -implicitDefEqProofs [d32, l1, l1']; refine hK _ ?_) | (refine d3 e9 (fun K hK => ?_); simp -implicitDefEqProofs [d32, l1, l1']; refine hK _ _ (by rfl) ?_) | fail)
      refine d6 (d4 ?_); simp -implicitDefEqProofs [f9, f6, f7, d32, l1] <;> try rfl
  rw [if_neg k9]
  by_cases k16 : kind = 16
  · subst k16
    rw [if_pos rfl]
    by_cases d33 : x.k = 33; rotate_left
    · rw [decide_eq_false d33]
      refine d7 Tryz.func123 rfl rfl (Nat.le_of_ble_eq_true rfl) ?_
      repeat (first | refine b9 ?_ | refine b6 ?_ | refine a6 ?_ | refine b5 ?_ | refine d8 rfl (fun _ => ?_) (fun hb => absurd hb (by decide)) | refine d8 rfl (fun hb => absurd hb (by decide)) (fun _ => ?_) | (refine b8 (fun K hK => ?_); simp -implicitDefEqProofs [d33]; refine hK _ ?_) | (refine d3 e9 (fun K hK => ?_); simp -implicitDefEqProofs [d33]; refine hK _ _ (by rfl) ?_) | fail)
      refine d6 (d4 ?_); simp -implicitDefEqProofs [f9, f6, f7] <;> try rfl
    by_cases l1 : l.length = 3
    · have l1' : (l.length : Int) = 3 := by omega
      refine d7 Tryz.func123 rfl rfl (Nat.le_of_ble_eq_true rfl) ?_
      repeat (first | refine b9 ?_ | refine b6 ?_ | refine a6 ?_ | refine b5 ?_ | refine d8 rfl (fun _ => ?_) (fun hb => absurd hb (by decide)) | refine d8 rfl (fun hb => absurd hb (by decide)) (fun _ => ?_) | (refine b8 (fun K hK => ?_); simp -implicitDefEqProofs [d33, l1, l1']; refine hK _ ?_) | (refine d3 e9 (fun K hK => ?_); simp -implicitDefEqProofs [d33, l1, l1']; refine hK _ _ (by rfl) ?_) | fail)
      refine d6 (d4 ?_); simp -implicitDefEqProofs [f9, f6, f7, d33, l1] <;> try rfl
    · have l1' : ¬ (l.length : Int) = 3 := by omega
      refine d7 Tryz.func123 rfl rfl (Nat.le_of_ble_eq_true rfl) ?_
      repeat (first | refine b9 ?_ | refine b6 ?_ | refine a6 ?_ | refine b5 ?_ | refine d8 rfl (fun _ => ?_) (fun hb => absurd hb (by decide)) | refine d8 rfl (fun hb => absurd hb (by decide)) (fun _ => ?_) | (refine b8 (fun K hK => ?_); simp -implicitDefEqProofs [d33, l1, l1']; refine hK _ ?_) | (refine d3 e9 (fun K hK => ?_); simp -implicitDefEqProofs [d33, l1, l1']; refine hK _ _ (by rfl) ?_) | fail)
      refine d6 (d4 ?_); simp -implicitDefEqProofs [f9, f6, f7, d33, l1] <;> try rfl
  rw [if_neg k16]
  have hno : ∀ y ∈ l, j1 y = false → l.all j1 = false := fun y hy h => by rw [List.all_eq_false]; exact ⟨y, hy, by rw [h]; simp⟩
  have hyes : (∀ y ∈ l, j1 y = true) → l.all j1 = true := fun h => List.all_eq_true.2 h
  obtain ⟨A, hA⟩ : ∃ A, l.all j1 = A := ⟨_, rfl⟩
  rw [hA] at hyes ⊢
  simp only [hA] at hno
  clear hA
  refine d7 Tryz.func123 rfl rfl (Nat.le_of_ble_eq_true rfl) ?_
  repeat (first | refine b9 ?_ | refine b6 ?_ | refine a6 ?_ | refine b5 ?_ | refine d8 rfl (fun _ => ?_) (fun hb => absurd hb (by decide)) | refine d8 rfl (fun hb => absurd hb (by decide)) (fun _ => ?_) | (refine b8 (fun K hK => ?_); simp -implicitDefEqProofs [k8, k9, k16]; refine hK _ ?_) | (refine d3 e9 (fun K hK => ?_); simp -implicitDefEqProofs [k8, k9, k16]; refine hK _ _ (by rfl) ?_) | fail)
  refine m6 (ι := Nat) (fun k => x5 [(2, .v (.c (.ptr 0 0))), (51, vLs l), (52, vI (l.length : Nat)), (53, vI (k : Nat))] [some (.box (ta (.mk x l)))]) (fun k => k ≤ l.length ∧ ∀ (j : Nat) y, j < k → l[j]? = some y → j1 y = true) (fun k => l.length - k) 0 ⟨Nat.zero_le _, fun j y h => by omega⟩ (e8 [0] (by simp -implicitDefEqProofs) (by simp -implicitDefEqProofs) (by decide) rfl (by simp)) (fun Z hI k hk => ?_)
  obtain ⟨hk, hz⟩ := hk
  by_cases hkl : k < l.length; rotate_left
  · have : k = l.length := by omega
    subst this
    have hR := hyes (fun y hy => by
      obtain ⟨j, hj⟩ := List.mem_iff_getElem?.1 hy
      exact hz j y (List.getElem?_eq_some_iff.1 hj).1 hj)
    subst hR
    clear hyes hno
    by_cases d30 : x.k = 30; rotate_left
    · repeat (first | refine b9 ?_ | refine b6 ?_ | refine a6 ?_ | refine b5 ?_ | refine d8 rfl (fun _ => ?_) (fun hb => absurd hb (by decide)) | refine d8 rfl (fun hb => absurd hb (by decide)) (fun _ => ?_) | (refine b8 (fun K hK => ?_); simp -implicitDefEqProofs [d30]; refine hK _ ?_) | (refine d3 e9 (fun K hK => ?_); simp -implicitDefEqProofs [d30]; refine hK _ _ (by rfl) ?_) | fail)
      refine d6 (d4 ?_); simp -implicitDefEqProofs [f9, f6, f7, d30] <;> try rfl
    by_cases l0 : 0 < l.length
    · have l0' : (0 : Int) < (l.length : Int) := by omega
      repeat (first | refine b9 ?_ | refine b6 ?_ | refine a6 ?_ | refine b5 ?_ | refine d8 rfl (fun _ => ?_) (fun hb => absurd hb (by decide)) | refine d8 rfl (fun hb => absurd hb (by decide)) (fun _ => ?_) | (refine b8 (fun K hK => ?_); simp -implicitDefEqProofs [d30, l0, l0']; refine hK _ ?_) | (refine d3 e9 (fun K hK => ?_); simp -implicitDefEqProofs [d30, l0, l0']; refine hK _ _ (by rfl) ?_) | fail)
      refine d6 (d4 ?_); simp -implicitDefEqProofs [f9, f6, f7, d30, l0] <;> try rfl
    · have l0' : ¬ (0 : Int) < (l.length : Int) := by omega
      repeat (first | refine b9 ?_ | refine b6 ?_ | refine a6 ?_ | refine b5 ?_ | refine d8 rfl (fun _ => ?_) (fun hb => absurd hb (by decide)) | refine d8 rfl (fun hb => absurd hb (by decide)) (fun _ => ?_) | (refine b8 (fun K hK => ?_); simp -implicitDefEqProofs [d30, l0, l0']; refine hK _ ?_) | (refine d3 e9 (fun K hK => ?_); simp -implicitDefEqProofs [d30, l0, l0']; refine hK _ _ (by rfl) ?_) | fail)
      refine d6 (d4 ?_); simp -implicitDefEqProofs [f9, f6, f7, d30, l0] <;> try rfl
  obtain ⟨⟨ax, al⟩, ha⟩ : ∃ a, l[k]? = some a := ⟨_, List.getElem?_eq_getElem hkl⟩
  have ha' := (List.getElem?_eq_some_iff.1 ha).2
  have hmem := List.mem_of_getElem? ha
  have w2 : IntKind.i64.wrap ((k : Nat) + 1 : Int) = (k : Nat) + 1 := l4 _ (by omega) (by omega)
  by_cases h34 : ax.k = 34; rotate_left
  · have hR := hno _ hmem (by simp [j1, Tr.lab, h34])
    subst hR
    clear hyes hno
    repeat (first | refine b9 ?_ | refine b6 ?_ | refine a6 ?_ | refine b5 ?_ | refine d8 rfl (fun _ => ?_) (fun hb => absurd hb (by decide)) | refine d8 rfl (fun hb => absurd hb (by decide)) (fun _ => ?_) | (refine b8 (fun K hK => ?_); simp -implicitDefEqProofs [hkl, ha, ha', h34]; refine hK _ ?_) | (refine d3 e9 (fun K hK => ?_); simp -implicitDefEqProofs [hkl, ha, ha', h34]; refine hK _ _ (by rfl) ?_) | fail)
    refine d6 (d4 ?_); simp -implicitDefEqProofs [f9, f6, f7] <;> try rfl
  by_cases a1 : al.length = 1; rotate_left
  · have a1' : ¬ (al.length : Int) = 1 := by omega
    have hR := hno _ hmem (by simp [j1, Tr.kids, a1])
    subst hR
    clear hyes hno
    repeat (first | refine b9 ?_ | refine b6 ?_ | refine a6 ?_ | refine b5 ?_ | refine d8 rfl (fun _ => ?_) (fun hb => absurd hb (by decide)) | refine d8 rfl (fun hb => absurd hb (by decide)) (fun _ => ?_) | (refine b8 (fun K hK => ?_); simp -implicitDefEqProofs [hkl, ha, ha', h34, a1, a1']; refine hK _ ?_) | (refine d3 e9 (fun K hK => ?_); simp -implicitDefEqProofs [hkl, ha, ha', h34, a1, a1']; refine hK _ _ (by rfl) ?_) | fail)
    refine d6 (d4 ?_); simp -implicitDefEqProofs [f9, f6, f7] <;> try rfl
  have a1' : (al.length : Int) = 1 := by omega
  clear hyes hno
  repeat (first | refine b9 ?_ | refine b6 ?_ | refine a6 ?_ | refine b5 ?_ | refine d8 rfl (fun _ => ?_) (fun hb => absurd hb (by decide)) | refine d8 rfl (fun hb => absurd hb (by decide)) (fun _ => ?_) | (refine b8 (fun K hK => ?_); simp -implicitDefEqProofs [hkl, ha, ha', h34, a1, a1', w2]; refine hK _ ?_) | (refine d3 e9 (fun K hK => ?_); simp -implicitDefEqProofs [hkl, ha, ha', h34, a1, a1', w2]; refine hK _ _ (by rfl) ?_) | fail)
  refine ⟨k + 1, ⟨by omega, fun j y h1 h2 => ?_⟩, (by dsimp only; omega), ?_⟩
  · by_cases hj : j = k
    · subst hj; rw [ha] at h2; cases h2; simp [j1, Tr.lab, Tr.kids, h34, a1]
    · exact hz j y (by omega) h2
  · rw [hI]; exact e8 [0] (by simp -implicitDefEqProofs) (by simp -implicitDefEqProofs) (by decide) rfl (by simp)
noncomputable def c0e (m : VT) (n : Nat) (x : Lab) : Bool :=
  if x.k = 7 then decide (0 ≤ x.n) && decide (x.n < n)
  else if x.k = 8 ∨ x.k = 9 ∨ x.k = 15 ∨ x.k = 16 then (if 0 ≤ x.n ∧ x.n < m.kids.length then b0z (m.kids.getD x.n.toNat z0T) x.k else false)
  else true
noncomputable abbrev vTy (a b : VT) : AV := .v (.agg (ta a ++ ta b))
noncomputable abbrev bxK (K : List VT) : AO := .box [.pv (.sl 6 (K.map tc))]
abbrev fnK (i : Nat) : AV := .v (.c (.fn (.func 83) [] [.ptr i 0]))
theorem u6 (K : List VT) (i : Nat) (ax : Lab) (al : List VT) (ha : K[i]? = some (.mk ax al)) : Row Tryz.prog 83 [vI (i : Nat), .v (.c (.ptr 0 0))] [bxK K] (vT (.mk ax al)) [some (bxK K)] := by
  have hi := (List.getElem?_eq_some_iff.1 ha).1
  have ha' := (List.getElem?_eq_some_iff.1 ha).2
  refine d7 Tryz.func83 rfl rfl (Nat.le_of_ble_eq_true rfl) ?_
  repeat (first | refine b9 ?_ | refine b6 ?_ | refine a6 ?_ | refine b5 ?_ | refine d8 rfl (fun _ => ?_) (fun hb => absurd hb (by decide)) | refine d8 rfl (fun hb => absurd hb (by decide)) (fun _ => ?_) | (refine b8 (fun K hK => ?_); simp -implicitDefEqProofs [hi, ha, ha']; refine hK _ ?_) | (refine d3 e9 (fun K hK => ?_); simp -implicitDefEqProofs [hi, ha, ha']; refine hK _ _ (by rfl) ?_) | fail)
  refine d6 (g7 ?_); simp -implicitDefEqProofs [s9, f6, f7] <;> try rfl
def numP (p : List VT) (r : Nat) (s : ByteArray) : Int := match (p.take 64).findIdx? (fun q => decide (q.lab.s = s)) with
  | some i => (r : Int) * 64 + i
  | none => -1
noncomputable def b54 (m : VT) (r : Int) (s : ByteArray) : Int := if 0 ≤ r then (match m.kids[r.toNat]? with | some d => numP d.kids r.toNat s | none => -1) else -1
theorem a49 (t : VT) : t.size ≤ 1000000 → ∀ u : VT, u.size ≤ 1000000 → Row Tryz.prog 30 [vT t, vT u] [] (vB (same t u)) [] := by
  induction t using Tr.ind with
  | h x l ih =>
  intro hsz u hsu
  obtain ⟨y, m⟩ := u
  have hlen := Tr.len_size (x := x) (l := l)
  rw [show same (.mk x l) (.mk y m) = _ from a1m pS x y l m]
  refine d7 Tryz.func30 rfl rfl (Nat.le_of_ble_eq_true rfl) ?_
  by_cases hk : x.k = y.k; rotate_left
  · repeat (first | refine b9 ?_ | refine b6 ?_ | refine a6 ?_ | refine b5 ?_ | refine e7 rfl ?_ | refine d9 rfl ?_ | ((first | refine b8 (fun K hK => ?_) | refine d3 e9 (fun K hK => ?_) | fail); simp -implicitDefEqProofs [hk]; first | refine hK _ ?_ | refine hK _ _ (by rfl) ?_ | fail) | fail)
    refine d6 (d4 ?_); simp -implicitDefEqProofs [f9, f6, f7, hk, pS] <;> try rfl
  by_cases hn : x.n = y.n; rotate_left
  · repeat (first | refine b9 ?_ | refine b6 ?_ | refine a6 ?_ | refine b5 ?_ | refine e7 rfl ?_ | refine d9 rfl ?_ | ((first | refine b8 (fun K hK => ?_) | refine d3 e9 (fun K hK => ?_) | fail); simp -implicitDefEqProofs [hk, hn]; first | refine hK _ ?_ | refine hK _ _ (by rfl) ?_ | fail) | fail)
    refine d6 (d4 ?_); simp -implicitDefEqProofs [f9, f6, f7, hk, hn, pS] <;> try rfl
  by_cases hs : x.s = y.s; rotate_left
  · repeat (first | refine b9 ?_ | refine b6 ?_ | refine a6 ?_ | refine b5 ?_ | refine e7 rfl ?_ | refine d9 rfl ?_ | ((first | refine b8 (fun K hK => ?_) | refine d3 e9 (fun K hK => ?_) | fail); simp -implicitDefEqProofs [hk, hn, hs]; first | refine hK _ ?_ | refine hK _ _ (by rfl) ?_ | fail) | fail)
    refine d6 (d4 ?_); simp -implicitDefEqProofs [f9, f6, f7, hk, hn, hs, pS] <;> try rfl
  by_cases hm : l.length = m.length; rotate_left
  · have hm' : ¬ (l.length : Int) = (m.length : Int) := by omega
    repeat (first | refine b9 ?_ | refine b6 ?_ | refine a6 ?_ | refine b5 ?_ | refine e7 rfl ?_ | refine d9 rfl ?_ | ((first | refine b8 (fun K hK => ?_) | refine d3 e9 (fun K hK => ?_) | fail); simp -implicitDefEqProofs [hk, hn, hs, hm, hm']; first | refine hK _ ?_ | refine hK _ _ (by rfl) ?_ | fail) | fail)
    refine d6 (d4 ?_); simp -implicitDefEqProofs [f9, f6, f7, hk, hn, hs, hm, pS] <;> try rfl
  repeat (first | refine b9 ?_ | refine b6 ?_ | refine a6 ?_ | refine b5 ?_ | refine e7 rfl ?_ | refine d9 rfl ?_ | ((first | refine b8 (fun K hK => ?_) | refine d3 e9 (fun K hK => ?_) | fail); simp -implicitDefEqProofs [hk, hn, hs, hm]; first | refine hK _ ?_ | refine hK _ _ (by rfl) ?_ | fail) | fail)
  refine m6 (ι := Nat) (fun k => x5 [(2, .v (.c (.ptr 0 0))), (3, .v (.c (.ptr 1 0))), (36, vI (l.length : Nat)), (37, vI (k : Nat))] [some (.box (ta (.mk x l))), some (.box (ta (.mk y m)))]) (fun k => k ≤ l.length ∧ a1j (eqv pS) l m k = true) (fun k => l.length - k) 0 ⟨Nat.zero_le _, a5d _ _ _⟩ (e8 [0, 1] (by simp -implicitDefEqProofs [hk, hn, hs, hm]) (by simp -implicitDefEqProofs [hk, hn, hs, hm]) (by decide) rfl (by simp)) (fun Z hI k hkz => ?_)
  obtain ⟨hkl', hz⟩ := hkz
  by_cases hkl : k < l.length; rotate_left
  · have : k = l.length := by omega
    subst this
    rw [show (pS x y && decide (l.length = m.length) && a1j (eqv pS) l m l.length) = true by rw [hz]; simp [pS, hk, hn, hs, hm]]
    repeat (first | refine b9 ?_ | refine b6 ?_ | refine a6 ?_ | refine b5 ?_ | refine e7 rfl ?_ | refine d9 rfl ?_ | ((first | refine b8 (fun K hK => ?_) | refine d3 e9 (fun K hK => ?_) | fail); simp -implicitDefEqProofs; first | refine hK _ ?_ | refine hK _ _ (by rfl) ?_ | fail) | fail)
    refine d6 (d4 ?_); simp -implicitDefEqProofs [f9, f6, f7] <;> try rfl
  have hkm : k < m.length := by omega
  obtain ⟨⟨ax, al⟩, ha⟩ : ∃ a, l[k]? = some a := ⟨_, List.getElem?_eq_getElem hkl⟩
  obtain ⟨⟨bx, bl⟩, hb⟩ : ∃ a, m[k]? = some a := ⟨_, List.getElem?_eq_getElem hkm⟩
  have ha' := (List.getElem?_eq_some_iff.1 ha).2
  have hb' := (List.getElem?_eq_some_iff.1 hb).2
  have hsz1 := Tr.size_at (x := x) ha
  have hsz2 := Tr.size_at (x := y) hb
  have w2 : IntKind.i64.wrap ((k : Nat) + 1 : Int) = (k : Nat) + 1 := l4 _ (by omega) (by omega)
  have hzs := y8 (f := eqv pS) ha hb
  repeat (first | refine b9 ?_ | refine b6 ?_ | refine a6 ?_ | refine b5 ?_ | refine e7 rfl ?_ | refine d9 rfl ?_ | ((first | refine b8 (fun K hK => ?_) | refine d3 e9 (fun K hK => ?_) | fail); simp -implicitDefEqProofs [hkl]; first | refine hK _ ?_ | refine hK _ _ (by rfl) ?_ | fail) | fail)
  refine d3 e9 (fun K hK => ?_); simp -implicitDefEqProofs [hkl, hkm, ha, ha', hb, hb']
  refine a8 (a09 (ih _ (List.mem_of_getElem? ha) (by omega) (.mk bx bl) (by omega)) (by simp) (fun _ => rfl) rfl ?_)
  simp -implicitDefEqProofs
  refine hK _ _ (by rfl) ?_
  refine d8 rfl (fun hb => ?_) (fun hb => ?_)
  · have hf : same (.mk ax al) (.mk bx bl) = false := by simpa using hb
    repeat (first | refine b9 ?_ | refine b6 ?_ | refine a6 ?_ | refine b5 ?_ | refine e7 rfl ?_ | refine d9 rfl ?_ | ((first | refine b8 (fun K hK => ?_) | refine d3 e9 (fun K hK => ?_) | fail); simp -implicitDefEqProofs; first | refine hK _ ?_ | refine hK _ _ (by rfl) ?_ | fail) | fail)
    have e : a1j (eqv pS) l m l.length = false := by
      have := a5c (l.length - (k + 1)) (show a1j (eqv pS) l m (k + 1) = false by rw [hzs, hz]; simpa using hf)
      rwa [show k + 1 + (l.length - (k + 1)) = l.length by omega] at this
    refine d6 (d4 ?_); simp -implicitDefEqProofs [f9, f6, f7, e] <;> try rfl
  · have hf : same (.mk ax al) (.mk bx bl) = true := by simpa using hb
    repeat (first | refine b9 ?_ | refine b6 ?_ | refine a6 ?_ | refine b5 ?_ | refine e7 rfl ?_ | refine d9 rfl ?_ | ((first | refine b8 (fun K hK => ?_) | refine d3 e9 (fun K hK => ?_) | fail); simp -implicitDefEqProofs [w2]; first | refine hK _ ?_ | refine hK _ _ (by rfl) ?_ | fail) | fail)
    refine ⟨k + 1, ⟨by omega, by rw [hzs, hz]; simpa using hf⟩, (by dsimp only; omega), ?_⟩
    rw [hI]; exact e8 [0, 1] (by simp -implicitDefEqProofs) (by simp -implicitDefEqProofs) (by decide) rfl (by simp)
def c0h (op : Int) (a b : VT) : VT × Bool :=
  if op = 1 ∨ op = 2 then (tyT 2, isT a 2 && isT b 2)
  else if op = 3 ∨ op = 4 then (tyT 2, (isT a 2 && isT b 2) || (isT a 1 && isT b 1))
  else if op = 5 ∨ op = 6 ∨ op = 7 ∨ op = 8 then (tyT 2, isT a 1 && isT b 1)
  else (tyT 1, isT a 1 && isT b 1)
def oneB (op : Int) (a : VT) : Bool := (decide (op = 1) && isT a 1) || (decide (op = 2) && isT a 2)
noncomputable def b0d (a b : VT) : Option VT := if a.lab.k = 3 ∧ a.kids.length = 1 ∧ isT b 1 = true then some (a.kids.getD 0 z0T) else none
noncomputable def b2l : List VT → List VT → Bool
  | [], [] => true
  | d :: D, a :: A => (!decide (d.kids.length = 0) && same (d.kids.getD 0 z0T) a) && b2l D A
  | _, _ => false
theorem b2m : ∀ {D A : List VT}, D.length ≠ A.length → b2l D A = false
  | [], [], h => absurd rfl h
  | a :: A, p :: P, h => by unfold b2l; rw [b2m (fun e => h (by simp [e])), Bool.and_false]
  | [], _ :: _, _ => rfl
  | _ :: _, [], _ => rfl
noncomputable def a3m (m : VT) (x : Lab) (r : Int) : Int := if x.s = ⟨#[]⟩ then x.n else b54 m r x.s
noncomputable def c5e (m : VT) (x : Lab) (r : Int) : Option VT := if (fldA m (a3m m x r)).isSome = true ∧ a3m m x r / 64 = r then fldA m (a3m m x r) else none
theorem c5w {m : VT} (hm : m.size ≤ 1000000) (r : Int) (s : ByteArray) : -1 ≤ b54 m r s ∧ b54 m r s ≤ 100000000 := by
  unfold b54
  split
  · split
    · rename_i d hd
      have h1 := (List.getElem?_eq_some_iff.1 hd).1
      have hmk : m.kids.length < m.size := by obtain ⟨mx, ml⟩ := m; exact Tr.len_size (x := mx) (l := ml)
      unfold numP
      split
      · rename_i i hi
        have h2 := (List.findIdx?_eq_some_iff_getElem.1 hi).1
        rw [List.length_take] at h2
        constructor <;> omega
      · constructor <;> omega
    · constructor <;> omega
  · constructor <;> omega
theorem b7v {m : VT} (hm : m.size ≤ 1000000) {x : Lab} (hx : x.ok) (r : Int) : -9223372036854775808 ≤ a3m m x r ∧ a3m m x r ≤ 9223372036854775807 := by
  unfold a3m
  split
  · exact hx.2.1
  · have := c5w hm r x.s
    constructor <;> omega
structure RP where
  ty : VT
  ok : Bool
  n : Int
  er : Int
noncomputable def b7k (m : VT) (x : Lab) (a : VT) : RP :=
  if a.lab.k = 4 ∧ a.kids.length = 0 then (match c5e m x a.lab.n with
    | some k => ⟨u9 k, true, a3m m x a.lab.n, 0⟩
    | none => ⟨z0T, false, x.n, 8⟩)
  else ⟨z0T, false, x.n, 0⟩
noncomputable abbrev bxT (t : VT) : AO := .box (ta t)
theorem b7g {l : List VT} {s : Nat} {p : VT → Bool} (h : ∀ j y, s ≤ j → l[j]? = some y → p y = true) : (l.drop s).all p = true := by
  rw [List.all_eq_true]
  intro y hy
  obtain ⟨i, hi⟩ := List.mem_iff_getElem?.1 hy
  rw [List.getElem?_drop] at hi
  exact h (s + i) y (by omega) hi
theorem c1g {l : List VT} {s j : Nat} {y : VT} {p : VT → Bool} (hj : s ≤ j) (hy : l[j]? = some y) (hp : p y = false) : (l.drop s).all p = false := by
  rw [List.all_eq_false]
  refine ⟨y, List.mem_iff_getElem?.2 ⟨j - s, ?_⟩, by rw [hp]; simp⟩
  rw [List.getElem?_drop, show s + (j - s) = j by omega]
  exact hy
noncomputable def b51 (m : VT) (x : Lab) (p : List VT) : RP :=
  if (p.drop 1).all (fun a => same (p.getD 0 z0T) a) = true then
    (if a62 m (.mk ⟨3, p.length, ⟨#[]⟩, 0, 0⟩ [p.getD 0 z0T]) = 0 then ⟨z0T, false, x.n, 11⟩ else ⟨.mk ⟨3, p.length, ⟨#[]⟩, 0, 0⟩ [p.getD 0 z0T], true, x.n, 0⟩)
  else ⟨z0T, false, x.n, 0⟩
noncomputable def a2p (m : VT) (L : List VT) (x : Lab) (p : List VT) : RP :=
  if x.k = 7 then ⟨u9 (L.getD (L.length - 1 - x.n.toNat) z0T), true, x.n, 0⟩
  else if x.k = 8 then ⟨a0u ((m.kids.getD x.n.toNat z0T).kids.getD 0 z0T), true, x.n, 0⟩
  else if x.k = 9 then ⟨u9 ((m.kids.getD x.n.toNat z0T).kids.getD 0 z0T), true, x.n, 0⟩
  else if x.k = 10 then ⟨(c0h x.n (p.getD 0 z0T) (p.getD 1 z0T)).1, (c0h x.n (p.getD 0 z0T) (p.getD 1 z0T)).2, x.n, 0⟩
  else if x.k = 11 then ⟨p.getD 0 z0T, oneB x.n (p.getD 0 z0T), x.n, 0⟩
  else if x.k = 12 then ⟨(b0d (p.getD 0 z0T) (p.getD 1 z0T)).getD z0T, (b0d (p.getD 0 z0T) (p.getD 1 z0T)).isSome, x.n, 0⟩
  else if x.k = 13 then b7k m x (p.getD 0 z0T)
  else if x.k = 14 then b51 m x p
  else if x.k = 15 then ⟨.mk ⟨4, x.n, ⟨#[]⟩, 0, 0⟩ [], b2l (m.kids.getD x.n.toNat z0T).kids p, x.n, 0⟩
  else if x.k = 16 then ⟨u9 ((m.kids.getD x.n.toNat z0T).kids.getD 1 z0T), b2l ((m.kids.getD x.n.toNat z0T).kids.getD 0 z0T).kids p, x.n, 0⟩
  else if x.k = 18 then ⟨tyT 1, true, x.n, 0⟩
  else ⟨a0u (.mk x []), true, x.n, 0⟩
theorem c5l {m : VT} {n : Nat} {x : Lab} (h : c0e m n x = true) : (x.k = 7 → 0 ≤ x.n ∧ x.n < n) ∧ (x.k = 8 ∨ x.k = 9 → 0 ≤ x.n ∧ ∃ dx e, m.kids[x.n.toNat]? = some (.mk dx [e])) ∧ (x.k = 15 → 0 ≤ x.n ∧ ∃ d, m.kids[x.n.toNat]? = some d) ∧ (x.k = 16 → 0 ≤ x.n ∧ ∃ dx a b c, m.kids[x.n.toNat]? = some (.mk dx [a, b, c])) := by
  unfold c0e at h
  have hb : (x.k = 8 ∨ x.k = 9 ∨ x.k = 15 ∨ x.k = 16) → ¬ x.k = 7 → 0 ≤ x.n ∧ ∃ d, m.kids[x.n.toNat]? = some d ∧ b0z d x.k = true := by
    intro hk h7
    rw [if_neg h7, if_pos hk] at h
    split at h
    · rename_i hc
      have hl : x.n.toNat < m.kids.length := by omega
      refine ⟨hc.1, m.kids[x.n.toNat], List.getElem?_eq_getElem hl, ?_⟩
      rw [show m.kids.getD x.n.toNat z0T = m.kids[x.n.toNat] by simp [List.getD, hl]] at h
      exact h
    · cases h
  refine ⟨fun e => ?_, fun e => ?_, fun e => ?_, fun e => ?_⟩
  · rw [if_pos e, Bool.and_eq_true] at h
    exact ⟨of_decide_eq_true h.1, of_decide_eq_true h.2⟩
  · obtain ⟨h0, ⟨dx, dl⟩, hd, hh⟩ := hb (by omega) (by omega)
    have h1 : dl.length = 1 := by
      unfold b0z at hh
      rcases e with e | e
      · rw [if_pos e, Bool.and_eq_true, Bool.and_eq_true] at hh; exact of_decide_eq_true hh.2.1
      · rw [if_neg (by omega), if_pos e, Bool.and_eq_true] at hh; exact of_decide_eq_true hh.2
    obtain ⟨a, rfl⟩ := o6 h1
    exact ⟨h0, dx, a, hd⟩
  · obtain ⟨h0, d, hd, _⟩ := hb (by omega) (by omega)
    exact ⟨h0, d, hd⟩
  · obtain ⟨h0, ⟨dx, dl⟩, hd, hh⟩ := hb (by omega) (by omega)
    unfold b0z at hh
    rw [if_neg (by omega), if_neg (by omega), if_pos e, Bool.and_eq_true] at hh
    obtain ⟨a, b, c, rfl⟩ := a3z (l := dl) (of_decide_eq_true hh.2)
    exact ⟨h0, dx, a, b, c, hd⟩
noncomputable def c5x (m : VT) (L : List VT) (x : Lab) (l : List VT) (gs : List GV) : GV :=
  if j7 x l.length = false then a2s x 12
  else if x.k = 17 ∨ c0e m L.length x = false then a2s x 8
  else match gs.find? (fun g => !decide (g.er = 0)) with
    | some g => ⟨z0T, z0T, g.pl, g.er⟩
    | none => if (a2p m L x (gs.map GV.ty)).ok = true then ⟨(a2p m L x (gs.map GV.ty)).ty, .mk ⟨x.k, (a2p m L x (gs.map GV.ty)).n, ⟨#[]⟩, 0, 0⟩ (gs.map GV.fo), 0, 0⟩
      else a2s x (if (a2p m L x (gs.map GV.ty)).er = 0 then 10 else (a2p m L x (gs.map GV.ty)).er)
noncomputable def ofP (m : VT) (L : List VT) (t : VT) : GV := Tr.fold (c5x m L) t
theorem a9c (m : VT) (L : List VT) (x : Lab) (l : List VT) : ofP m L (.mk x l) = c5x m L x l (l.map (ofP m L)) := Tr.fold_mk _ x l
theorem b9v {B : Nat} (h : 1 ≤ B) (op : Int) (a b : VT) : p6 B (c0h op a b).1 := by
  unfold c0h
  split
  · exact y5 h (by omega)
  · split
    · exact y5 h (by omega)
    · split
      · exact y5 h (by omega)
      · exact y5 h (by omega)
theorem b81 {m : VT} {L : List VT} {B : Nat} (hm : p6 B m) (hms : m.size ≤ 1000000) (hL : ∀ t ∈ L, p6 B t) {x : Lab} (hx : x.ok) {p : List VT} (hp : ∀ a ∈ p, p6 B a) (hpl : p.length ≤ 1000000) : p6 (B + 1) (a2p m L x p).ty ∧ (-9223372036854775808 ≤ (a2p m L x p).n ∧ (a2p m L x p).n ≤ 9223372036854775807) := by
  have hB : 1 ≤ B := Nat.le_trans (Tr.size_pos m) hm.2
  have gi : ∀ i, p6 B (p.getD i z0T) := fun i => by
    by_cases h : i < p.length
    · exact hp _ (by simp [List.getD, h])
    · rw [show p.getD i z0T = z0T by simp [List.getD, h]]
      exact a0a hB
  have hn := hx.2.1
  have hz : p6 (B + 1) z0T := a0a (by omega)
  unfold a2p
  by_cases c7 : x.k = 7
  · rw [if_pos c7]
    refine ⟨p6.bare ?_, hn⟩
    by_cases h : L.length - 1 - x.n.toNat < L.length
    · exact (hL _ (by simp [List.getD, h])).le (by omega)
    · rw [show L.getD (L.length - 1 - x.n.toNat) z0T = z0T by simp [List.getD, h]]
      exact hz
  rw [if_neg c7]
  by_cases c8 : x.k = 8
  · rw [if_pos c8]; exact ⟨a3s (by omega) _, hn⟩
  rw [if_neg c8]
  by_cases c9 : x.k = 9
  · rw [if_pos c9]; exact ⟨(((hm.kid _).kid _).bare).le (by omega), hn⟩
  rw [if_neg c9]
  by_cases c10 : x.k = 10
  · rw [if_pos c10]; exact ⟨b9v (by omega) _ _ _, hn⟩
  rw [if_neg c10]
  by_cases c11 : x.k = 11
  · rw [if_pos c11]; exact ⟨(gi 0).le (by omega), hn⟩
  rw [if_neg c11]
  by_cases c12 : x.k = 12
  · rw [if_pos c12]
    refine ⟨?_, hn⟩
    unfold b0d
    split
    · exact ((gi 0).kid 0).le (by omega)
    · exact hz
  rw [if_neg c12]
  by_cases c13 : x.k = 13
  · rw [if_pos c13]
    unfold b7k
    split
    · cases hk : c5e m x (p.getD 0 z0T).lab.n with
      | none => exact ⟨hz, hn⟩
      | some k =>
        have hk' : fldA m (a3m m x (p.getD 0 z0T).lab.n) = some k := by
          unfold c5e at hk
          split at hk
          · exact hk
          · cases hk
        have h1 := a19 m (a3m m x (p.getD 0 z0T).lab.n)
        have h2 := b7u hm.1 (a3m m x (p.getD 0 z0T).lab.n)
        rw [hk'] at h1 h2
        exact ⟨p6.bare ⟨h2, by have := hm.2; simp only [Option.getD_some] at h1; omega⟩, b7v hms hx _⟩
    · exact ⟨hz, hn⟩
  rw [if_neg c13]
  by_cases c14 : x.k = 14
  · rw [if_pos c14]
    unfold b51
    split
    · split
      · exact ⟨hz, hn⟩
      · refine ⟨⟨(Tr.all_mk _ _ _).2 ⟨⟨by simp, by constructor <;> (dsimp only; omega), by simp, by simp⟩, fun y hy => by simp at hy; subst hy; exact (gi 0).1⟩, ?_⟩, hn⟩
        have := (gi 0).2
        rw [Tr.size_mk]; simp only [List.map_cons, List.map_nil, List.sum_cons, List.sum_nil]; omega
    · exact ⟨hz, hn⟩
  rw [if_neg c14]
  by_cases c15 : x.k = 15
  · rw [if_pos c15]; exact ⟨⟨(Tr.all_mk _ _ _).2 ⟨⟨by simp, hn, by simp, by simp⟩, fun y hy => by simp at hy⟩, by simp [Tr.size_mk]⟩, hn⟩
  rw [if_neg c15]
  by_cases c16 : x.k = 16
  · rw [if_pos c16]; exact ⟨(((hm.kid _).kid _).bare).le (by omega), hn⟩
  rw [if_neg c16]
  by_cases c18 : x.k = 18
  · rw [if_pos c18]; exact ⟨y5 (by omega) (by omega), hn⟩
  · rw [if_neg c18]; exact ⟨a3s (by omega) _, hn⟩
theorem c6b (m : VT) (L : List VT) (x : Lab) (p : List VT) (h : (a2p m L x p).ok = true) : (a2p m L x p).er = 0 := by
  unfold a2p at h ⊢
  by_cases c7 : x.k = 7
  · rw [if_pos c7]
  rw [if_neg c7] at h ⊢
  by_cases c8 : x.k = 8
  · rw [if_pos c8]
  rw [if_neg c8] at h ⊢
  by_cases c9 : x.k = 9
  · rw [if_pos c9]
  rw [if_neg c9] at h ⊢
  by_cases c10 : x.k = 10
  · rw [if_pos c10]
  rw [if_neg c10] at h ⊢
  by_cases c11 : x.k = 11
  · rw [if_pos c11]
  rw [if_neg c11] at h ⊢
  by_cases c12 : x.k = 12
  · rw [if_pos c12]
  rw [if_neg c12] at h ⊢
  by_cases c13 : x.k = 13
  · rw [if_pos c13] at h ⊢
    unfold b7k at h ⊢
    split
    · rename_i hc
      rw [if_pos hc] at h
      cases hk : c5e m x (p.getD 0 z0T).lab.n with
      | none => rw [hk] at h; cases h
      | some k => rfl
    · rfl
  rw [if_neg c13] at h ⊢
  by_cases c14 : x.k = 14
  · rw [if_pos c14] at h ⊢
    unfold b51 at h ⊢
    split
    · rename_i hc
      rw [if_pos hc] at h
      split
      · rename_i h0
        rw [if_pos h0] at h; cases h
      · rfl
    · rfl
  rw [if_neg c14] at h ⊢
  by_cases c15 : x.k = 15
  · rw [if_pos c15]
  rw [if_neg c15] at h ⊢
  by_cases c16 : x.k = 16
  · rw [if_pos c16]
  rw [if_neg c16] at h ⊢
  by_cases c18 : x.k = 18
  · rw [if_pos c18]
  · rw [if_neg c18]
theorem c3p (m : VT) (L : List VT) (t : VT) (h : (ofP m L t).er = 0) : (ofP m L t).pl = 0 := by
  obtain ⟨x, l⟩ := t
  rw [a9c] at h ⊢
  unfold c5x at h ⊢
  split
  · rename_i c
    rw [if_pos c] at h; cases h
  · rename_i c
    rw [if_neg c] at h
    split
    · rename_i c2
      rw [if_pos c2] at h; cases h
    · rename_i c2
      rw [if_neg c2] at h
      cases hf : (l.map (ofP m L)).find? (fun g => !decide (g.er = 0)) with
      | some g =>
        rw [hf] at h
        have hp := List.find?_some hf
        dsimp only at h
        rw [h] at hp; cases hp
      | none =>
        rw [hf] at h
        dsimp only at h ⊢
        split
        · rfl
        · rename_i c3
          rw [if_neg c3] at h
          exfalso
          have : (a2s x (if (a2p m L x ((l.map (ofP m L)).map GV.ty)).er = 0 then 10 else (a2p m L x ((l.map (ofP m L)).map GV.ty)).er)).er = (if (a2p m L x ((l.map (ofP m L)).map GV.ty)).er = 0 then 10 else (a2p m L x ((l.map (ofP m L)).map GV.ty)).er) := rfl
          rw [this] at h
          split at h
          · omega
          · rename_i c4; exact c4 h
theorem c3o {m : VT} {L : List VT} {B : Nat} (hm : p6 B m) (hms : m.size ≤ 1000000) (hL : ∀ t ∈ L, p6 B t) (t : VT) : m7 t → t.size ≤ 1000000 → OfOk B t (ofP m L t) := by
  induction t using Tr.ind with
  | h x l ih =>
  intro ht hts
  obtain ⟨hx, hl⟩ := (Tr.all_mk _ x l).1 ht
  have hlen := Tr.len_size (x := x) (l := l)
  have hsp := Tr.size_pos (Tr.mk x l)
  rw [a9c]
  unfold c5x
  split
  · exact a2t hx _
  · split
    · exact a2t hx _
    · split
      · rename_i g hg
        obtain ⟨y, hy, rfl⟩ := List.mem_map.1 (List.mem_of_find?_eq_some hg)
        have hys := v8 (x := x) hy
        exact ⟨a0a (by omega), a0a hsp, (ih y hy (hl y hy) (by omega)).pl⟩
      · have hk : ∀ a ∈ (l.map (ofP m L)).map GV.ty, p6 (B + ((Tr.mk x l).size - 1)) a := by
          intro a ha
          rw [List.map_map] at ha
          obtain ⟨y, hy, rfl⟩ := List.mem_map.1 ha
          have hys := v8 (x := x) hy
          exact (ih y hy (hl y hy) (by omega)).ty.le (by omega)
        have hr := b81 (m := m) (L := L) (B := B + ((Tr.mk x l).size - 1)) (hm.le (by omega)) hms (fun t h => (hL t h).le (by omega)) hx hk (by simp; omega)
        split
        · refine ⟨hr.1.le (by omega), ⟨(Tr.all_mk _ _ _).2 ⟨⟨hx.1, hr.2, by simp, by simp⟩, fun a ha => ?_⟩, ?_⟩, by simp⟩
          · rw [List.map_map] at ha
            obtain ⟨y, hy, rfl⟩ := List.mem_map.1 ha
            have hys := v8 (x := x) hy
            exact (ih y hy (hl y hy) (by omega)).fo.1
          · rw [Tr.size_mk, Tr.size_mk, List.map_map, List.map_map]
            refine Nat.add_le_add_left (a1h (fun y hy => ?_)) 1
            have hys := v8 (x := x) hy
            exact (ih y hy (hl y hy) (by omega)).fo.2
        · exact a2t hx _
end Go.Proofs.YtbbkmijkllgfaaaGreatDoor.am
end
