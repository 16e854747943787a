import Derived.Test.YthmdllhhmhbhbaaGreatDoorPkR4
import Derived.IntWalk
set_option maxRecDepth 100000
set_option maxHeartbeats 4000000
section
namespace Go.Proofs.YthmdllhhmhbhbaaGreatDoor.am
open Go.ChangeShapes Go.WideShapes Go.ChangeAt Go.RowKit
open vt
set_option linter.unusedVariables false
set_option linter.unusedSimpArgs false
noncomputable def b2e (t : VT) : Bool := Tr.fold (fun x _ bs => (decide (x.f = 0) && decide (x.t = 0)) && bs.all id) t
theorem b9e (x : Lab) (l : List VT) : b2e (.mk x l) = ((decide (x.f = 0) && decide (x.t = 0)) && l.all b2e) := by
  unfold b2e; rw [Tr.fold_mk, List.all_map]; rfl
theorem b33 (t : VT) : b2e (i7 t) = true := by
  induction t using Tr.ind with
  | h x l ih =>
  rw [n9, b9e, List.all_map]
  simp only [decide_true, Bool.true_and, List.all_eq_true]
  exact fun y hy => ih y hy
theorem c03 (t : VT) : t.size ≤ 1000000 → Row Tryz.prog 20 [vT t] [] (vB (b2e t)) [] := by
  induction t using Tr.ind with
  | h x l ih =>
  intro hsz
  have hlen := Tr.len_size (x := x) (l := l)
  rw [b9e]
  by_cases hf : x.f = 0; rotate_left
  · rw [show ((decide (x.f = 0) && decide (x.t = 0)) && l.all b2e) = false by simp [hf]]
    clear ih
    refine e8 Tryz.func20 rfl rfl (Nat.le_of_ble_eq_true rfl) ?_
    repeat (first | refine d7 ?_ | refine b9 ?_ | refine a8 ?_ | refine b8 ?_ | refine d9 rfl (fun _ => ?_) (fun hb => absurd hb (by decide)) | refine d9 rfl (fun hb => absurd hb (by decide)) (fun _ => ?_) | (refine d6 (fun K hK => ?_); simp -implicitDefEqProofs [hf]; refine hK _ ?_) | (refine d8 f8 (fun K hK => ?_); simp -implicitDefEqProofs [hf]; refine hK _ _ (by rfl) ?_) | fail)
    refine e7 (e9 ?_); simp -implicitDefEqProofs [j9, g7, g9] <;> try rfl
  by_cases ht : x.t = 0; rotate_left
  · rw [show ((decide (x.f = 0) && decide (x.t = 0)) && l.all b2e) = false by simp [ht]]
    clear ih
    refine e8 Tryz.func20 rfl rfl (Nat.le_of_ble_eq_true rfl) ?_
    repeat (first | refine d7 ?_ | refine b9 ?_ | refine a8 ?_ | refine b8 ?_ | refine d9 rfl (fun _ => ?_) (fun hb => absurd hb (by decide)) | refine d9 rfl (fun hb => absurd hb (by decide)) (fun _ => ?_) | (refine d6 (fun K hK => ?_); simp -implicitDefEqProofs [hf, ht]; refine hK _ ?_) | (refine d8 f8 (fun K hK => ?_); simp -implicitDefEqProofs [hf, ht]; refine hK _ _ (by rfl) ?_) | fail)
    refine e7 (e9 ?_); simp -implicitDefEqProofs [j9, g7, g9] <;> try rfl
  rw [show ((decide (x.f = 0) && decide (x.t = 0)) && l.all b2e) = l.all b2e by simp [hf, ht]]
  refine e8 Tryz.func20 rfl rfl (Nat.le_of_ble_eq_true rfl) ?_
  repeat (first | refine d7 ?_ | refine b9 ?_ | refine a8 ?_ | refine b8 ?_ | refine d9 rfl (fun _ => ?_) (fun hb => absurd hb (by decide)) | refine d9 rfl (fun hb => absurd hb (by decide)) (fun _ => ?_) | (refine d6 (fun K hK => ?_); simp -implicitDefEqProofs [hf, ht]; refine hK _ ?_) | (refine d8 f8 (fun K hK => ?_); simp -implicitDefEqProofs [hf, ht]; refine hK _ _ (by rfl) ?_) | fail)
  refine v7 (ι := Nat) (fun k => a0w [(1, .v (.c (.ptr 0 0))), (14, vLs l), (15, vI (l.length : Nat)), (16, vI (k : Nat))] [some (.box (ta (.mk x l)))]) (fun k => k ≤ l.length ∧ (l.take k).all b2e = true) (fun k => l.length - k) 0 ⟨Nat.zero_le _, by simp⟩ (i6 [0] (by simp -implicitDefEqProofs [hf, ht]) (by simp -implicitDefEqProofs [hf, ht]) (by decide) rfl (by simp)) (fun Z hI k hk => ?_)
  obtain ⟨hk, hz⟩ := hk
  by_cases hkl : k < l.length; rotate_left
  · have : k = l.length := by omega
    subst this
    rw [List.take_length] at hz
    repeat (first | refine d7 ?_ | refine b9 ?_ | refine a8 ?_ | refine b8 ?_ | refine d9 rfl (fun _ => ?_) (fun hb => absurd hb (by decide)) | refine d9 rfl (fun hb => absurd hb (by decide)) (fun _ => ?_) | (refine d6 (fun K hK => ?_); simp -implicitDefEqProofs; refine hK _ ?_) | (refine d8 f8 (fun K hK => ?_); simp -implicitDefEqProofs; refine hK _ _ (by rfl) ?_) | fail)
    refine e7 (e9 ?_); simp -implicitDefEqProofs [j9, g7, g9, hz] <;> try rfl
  obtain ⟨⟨ax, al⟩, ha⟩ : ∃ a, l[k]? = some a := ⟨_, List.getElem?_eq_getElem hkl⟩
  have ha' := (List.getElem?_eq_some_iff.1 ha).2
  have hsz1 := Tr.size_at (x := x) ha
  have hc := ih _ (List.mem_of_getElem? ha) (by omega)
  have w2 : IntKind.i64.wrap ((k : Nat) + 1 : Int) = (k : Nat) + 1 := v6 _ (by omega) (by omega)
  by_cases hp : b2e (.mk ax al) = true
  · rw [hp] at hc
    repeat' (first | refine d7 ?_ | refine b9 ?_ | refine a8 ?_ | refine b8 ?_ | refine d9 rfl (fun _ => ?_) (fun hb => absurd hb (by decide)) | refine d9 rfl (fun hb => absurd hb (by decide)) (fun _ => ?_) | (refine d6 (fun K hK => ?_); simp -implicitDefEqProofs [hkl, ha, ha', w2]) | (refine d8 f8 (fun K hK => ?_); simp -implicitDefEqProofs [hkl, ha, ha', w2]) | refine hK _ ?_ | refine hK _ _ (by rfl) ?_ | (refine b7 (cp hc ?_); simp -implicitDefEqProofs [hkl, ha, ha', w2]) | (refine a6 (dp hc ?_); simp -implicitDefEqProofs [hkl, ha, ha', w2]) | fail)
    refine ⟨k + 1, ⟨by omega, by rw [List.take_add_one, ha, Option.toList_some, List.all_append, hz]; simp [hp]⟩, (by dsimp only; omega), ?_⟩
    rw [hI]; exact i6 [0] (by simp -implicitDefEqProofs) (by simp -implicitDefEqProofs) (by decide) rfl (by simp)
  · have hp : b2e (.mk ax al) = false := by simpa using hp
    rw [hp] at hc
    have e : l.all b2e = false := by
      rw [List.all_eq_false]; exact ⟨_, List.mem_of_getElem? ha, by rw [hp]; simp⟩
    repeat' (first | refine d7 ?_ | refine b9 ?_ | refine a8 ?_ | refine b8 ?_ | refine d9 rfl (fun _ => ?_) (fun hb => absurd hb (by decide)) | refine d9 rfl (fun hb => absurd hb (by decide)) (fun _ => ?_) | (refine d6 (fun K hK => ?_); simp -implicitDefEqProofs [hkl, ha, ha', w2]) | (refine d8 f8 (fun K hK => ?_); simp -implicitDefEqProofs [hkl, ha, ha', w2]) | refine hK _ ?_ | refine hK _ _ (by rfl) ?_ | (refine b7 (cp hc ?_); simp -implicitDefEqProofs [hkl, ha, ha', w2]) | (refine a6 (dp hc ?_); simp -implicitDefEqProofs [hkl, ha, ha', w2]) | fail)
    refine e7 (e9 ?_); simp -implicitDefEqProofs [j9, g7, g9, e] <;> try rfl
theorem c0z (x : Lab) (l : List VT) : Row Tryz.prog 35 [vT (.mk x l)] [] (vB (decide (l.length = 0) && (decide (x.k = 5) || (decide (x.k = 6) && (decide (x.n = 0) || decide (x.n = 1)))))) [] := by
  by_cases h0 : l.length = 0; rotate_left
  · have h0' : ¬ (l.length : Int) = 0 := by omega
    refine e8 Tryz.func35 rfl rfl (Nat.le_of_ble_eq_true rfl) ?_
    repeat (first | refine d7 ?_ | refine b9 ?_ | refine a8 ?_ | refine b8 ?_ | refine d9 rfl (fun _ => ?_) (fun hb => absurd hb (by decide)) | refine d9 rfl (fun hb => absurd hb (by decide)) (fun _ => ?_) | (refine d6 (fun K hK => ?_); simp -implicitDefEqProofs [h0, h0']; refine hK _ ?_) | (refine d8 f8 (fun K hK => ?_); simp -implicitDefEqProofs [h0, h0']; refine hK _ _ (by rfl) ?_) | fail)
    refine e7 (e9 ?_); simp -implicitDefEqProofs [j9, g7, g9, h0] <;> try rfl
  obtain rfl := List.eq_nil_of_length_eq_zero h0
  by_cases h5 : x.k = 5
  · refine e8 Tryz.func35 rfl rfl (Nat.le_of_ble_eq_true rfl) ?_
    repeat (first | refine d7 ?_ | refine b9 ?_ | refine a8 ?_ | refine b8 ?_ | refine d9 rfl (fun _ => ?_) (fun hb => absurd hb (by decide)) | refine d9 rfl (fun hb => absurd hb (by decide)) (fun _ => ?_) | (refine d6 (fun K hK => ?_); simp -implicitDefEqProofs [h5]; refine hK _ ?_) | (refine d8 f8 (fun K hK => ?_); simp -implicitDefEqProofs [h5]; refine hK _ _ (by rfl) ?_) | fail)
    refine e7 (e9 ?_); simp -implicitDefEqProofs [j9, g7, g9, h5] <;> try rfl
  by_cases h6 : x.k = 6; rotate_left
  · refine e8 Tryz.func35 rfl rfl (Nat.le_of_ble_eq_true rfl) ?_
    repeat (first | refine d7 ?_ | refine b9 ?_ | refine a8 ?_ | refine b8 ?_ | refine d9 rfl (fun _ => ?_) (fun hb => absurd hb (by decide)) | refine d9 rfl (fun hb => absurd hb (by decide)) (fun _ => ?_) | (refine d6 (fun K hK => ?_); simp -implicitDefEqProofs [h5, h6]; refine hK _ ?_) | (refine d8 f8 (fun K hK => ?_); simp -implicitDefEqProofs [h5, h6]; refine hK _ _ (by rfl) ?_) | fail)
    refine e7 (e9 ?_); simp -implicitDefEqProofs [j9, g7, g9, h5, h6] <;> try rfl
  by_cases n0 : x.n = 0
  · refine e8 Tryz.func35 rfl rfl (Nat.le_of_ble_eq_true rfl) ?_
    repeat (first | refine d7 ?_ | refine b9 ?_ | refine a8 ?_ | refine b8 ?_ | refine d9 rfl (fun _ => ?_) (fun hb => absurd hb (by decide)) | refine d9 rfl (fun hb => absurd hb (by decide)) (fun _ => ?_) | (refine d6 (fun K hK => ?_); simp -implicitDefEqProofs [h6, n0]; refine hK _ ?_) | (refine d8 f8 (fun K hK => ?_); simp -implicitDefEqProofs [h6, n0]; refine hK _ _ (by rfl) ?_) | fail)
    refine e7 (e9 ?_); simp -implicitDefEqProofs [j9, g7, g9, h6, n0] <;> try rfl
  by_cases n1 : x.n = 1
  · refine e8 Tryz.func35 rfl rfl (Nat.le_of_ble_eq_true rfl) ?_
    repeat (first | refine d7 ?_ | refine b9 ?_ | refine a8 ?_ | refine b8 ?_ | refine d9 rfl (fun _ => ?_) (fun hb => absurd hb (by decide)) | refine d9 rfl (fun hb => absurd hb (by decide)) (fun _ => ?_) | (refine d6 (fun K hK => ?_); simp -implicitDefEqProofs [h6, n0, n1]; refine hK _ ?_) | (refine d8 f8 (fun K hK => ?_); simp -implicitDefEqProofs [h6, n0, n1]; refine hK _ _ (by rfl) ?_) | fail)
    refine e7 (e9 ?_); simp -implicitDefEqProofs [j9, g7, g9, h6, n0, n1] <;> try rfl
  · refine e8 Tryz.func35 rfl rfl (Nat.le_of_ble_eq_true rfl) ?_
    repeat (first | refine d7 ?_ | refine b9 ?_ | refine a8 ?_ | refine b8 ?_ | refine d9 rfl (fun _ => ?_) (fun hb => absurd hb (by decide)) | refine d9 rfl (fun hb => absurd hb (by decide)) (fun _ => ?_) | (refine d6 (fun K hK => ?_); simp -implicitDefEqProofs [h6, n0, n1]; refine hK _ ?_) | (refine d8 f8 (fun K hK => ?_); simp -implicitDefEqProofs [h6, n0, n1]; refine hK _ _ (by rfl) ?_) | fail)
    refine e7 (e9 ?_); simp -implicitDefEqProofs [j9, g7, g9, h6, n0, n1] <;> try rfl
theorem c01 (t : VT) : t.size ≤ 1000000 → Row Tryz.prog 81 [vT t] [] (vB (!a6t t)) [] := by
  induction t using Tr.ind with
  | h x l ih =>
  intro hsz
  have hlen := Tr.len_size (x := x) (l := l)
  rw [b1r]
  by_cases h4 : x.k = 4
  · rw [show (!(!decide (x.k = 4) && l.all a6t)) = true by simp [h4]]
    clear ih
    refine e8 Tryz.func81 rfl rfl (Nat.le_of_ble_eq_true rfl) ?_
    repeat (first | refine d7 ?_ | refine b9 ?_ | refine a8 ?_ | refine b8 ?_ | refine d9 rfl (fun _ => ?_) (fun hb => absurd hb (by decide)) | refine d9 rfl (fun hb => absurd hb (by decide)) (fun _ => ?_) | (refine d6 (fun K hK => ?_); simp -implicitDefEqProofs [h4]; refine hK _ ?_) | (refine d8 f8 (fun K hK => ?_); simp -implicitDefEqProofs [h4]; refine hK _ _ (by rfl) ?_) | fail)
    refine e7 (e9 ?_); simp -implicitDefEqProofs [j9, g7, g9] <;> try rfl
  rw [show (!decide (x.k = 4) && l.all a6t) = l.all a6t by simp [h4]]
  refine e8 Tryz.func81 rfl rfl (Nat.le_of_ble_eq_true rfl) ?_
  repeat (first | refine d7 ?_ | refine b9 ?_ | refine a8 ?_ | refine b8 ?_ | refine d9 rfl (fun _ => ?_) (fun hb => absurd hb (by decide)) | refine d9 rfl (fun hb => absurd hb (by decide)) (fun _ => ?_) | (refine d6 (fun K hK => ?_); simp -implicitDefEqProofs [h4]; refine hK _ ?_) | (refine d8 f8 (fun K hK => ?_); simp -implicitDefEqProofs [h4]; refine hK _ _ (by rfl) ?_) | fail)
  refine v7 (ι := Nat) (fun k => a0w [(1, .v (.c (.ptr 0 0))), (9, vLs l), (10, vI (l.length : Nat)), (11, vI (k : Nat))] [some (.box (ta (.mk x l)))]) (fun k => k ≤ l.length ∧ (l.take k).all a6t = true) (fun k => l.length - k) 0 ⟨Nat.zero_le _, by simp⟩ (i6 [0] (by simp -implicitDefEqProofs) (by simp -implicitDefEqProofs) (by decide) rfl (by simp)) (fun Z hI k hk => ?_)
  obtain ⟨hk, hz⟩ := hk
  by_cases hkl : k < l.length; rotate_left
  · have : k = l.length := by omega
    subst this
    rw [List.take_length] at hz
    repeat (first | refine d7 ?_ | refine b9 ?_ | refine a8 ?_ | refine b8 ?_ | refine d9 rfl (fun _ => ?_) (fun hb => absurd hb (by decide)) | refine d9 rfl (fun hb => absurd hb (by decide)) (fun _ => ?_) | (refine d6 (fun K hK => ?_); simp -implicitDefEqProofs; refine hK _ ?_) | (refine d8 f8 (fun K hK => ?_); simp -implicitDefEqProofs; refine hK _ _ (by rfl) ?_) | fail)
    refine e7 (e9 ?_); simp -implicitDefEqProofs [j9, g7, g9, hz] <;> try rfl
  obtain ⟨⟨ax, al⟩, ha⟩ : ∃ a, l[k]? = some a := ⟨_, List.getElem?_eq_getElem hkl⟩
  have ha' := (List.getElem?_eq_some_iff.1 ha).2
  have hsz1 := Tr.size_at (x := x) ha
  have hc := ih _ (List.mem_of_getElem? ha) (by omega)
  have w2 : IntKind.i64.wrap ((k : Nat) + 1 : Int) = (k : Nat) + 1 := v6 _ (by omega) (by omega)
  by_cases hp : a6t (.mk ax al) = true
  · rw [hp] at hc
    repeat' (first | refine d7 ?_ | refine b9 ?_ | refine a8 ?_ | refine b8 ?_ | refine d9 rfl (fun _ => ?_) (fun hb => absurd hb (by decide)) | refine d9 rfl (fun hb => absurd hb (by decide)) (fun _ => ?_) | (refine d6 (fun K hK => ?_); simp -implicitDefEqProofs [hkl, ha, ha', w2]) | (refine d8 f8 (fun K hK => ?_); simp -implicitDefEqProofs [hkl, ha, ha', w2]) | refine hK _ ?_ | refine hK _ _ (by rfl) ?_ | (refine b7 (cp hc ?_); simp -implicitDefEqProofs [hkl, ha, ha', w2]) | (refine a6 (dp hc ?_); simp -implicitDefEqProofs [hkl, ha, ha', w2]) | fail)
    refine ⟨k + 1, ⟨by omega, by rw [List.take_add_one, ha, Option.toList_some, List.all_append, hz]; simp [hp]⟩, (by dsimp only; omega), ?_⟩
    rw [hI]; exact i6 [0] (by simp -implicitDefEqProofs) (by simp -implicitDefEqProofs) (by decide) rfl (by simp)
  · have hp : a6t (.mk ax al) = false := by simpa using hp
    rw [hp] at hc
    have e : l.all a6t = false := by
      rw [List.all_eq_false]; exact ⟨_, List.mem_of_getElem? ha, by rw [hp]; simp⟩
    repeat' (first | refine d7 ?_ | refine b9 ?_ | refine a8 ?_ | refine b8 ?_ | refine d9 rfl (fun _ => ?_) (fun hb => absurd hb (by decide)) | refine d9 rfl (fun hb => absurd hb (by decide)) (fun _ => ?_) | (refine d6 (fun K hK => ?_); simp -implicitDefEqProofs [hkl, ha, ha', w2]) | (refine d8 f8 (fun K hK => ?_); simp -implicitDefEqProofs [hkl, ha, ha', w2]) | refine hK _ ?_ | refine hK _ _ (by rfl) ?_ | (refine b7 (cp hc ?_); simp -implicitDefEqProofs [hkl, ha, ha', w2]) | (refine a6 (dp hc ?_); simp -implicitDefEqProofs [hkl, ha, ha', w2]) | fail)
    refine e7 (e9 ?_); simp -implicitDefEqProofs [j9, g7, g9, e] <;> try rfl
def b0c (x : Lab) (l : List VT) : Bool :=
  if x.k = 29 then true
  else if x.k = 20 ∨ x.k = 21 ∨ x.k = 26 ∨ x.k = 27 ∨ x.k = 28 then decide (l.length = 1)
  else if x.k = 22 then decide (l.length = 2)
  else if x.k = 23 then decide (l.length = 3) && (decide ((l.getD 1 z0T).lab.k = 29) && decide ((l.getD 2 z0T).lab.k = 29))
  else if x.k = 24 then decide (l.length = 2) && decide ((l.getD 1 z0T).lab.k = 29)
  else if x.k = 25 then decide (l.length = 3) && decide ((l.getD 2 z0T).lab.k = 29)
  else false
theorem b1s (x : Lab) (l : List VT) : Row Tryz.prog 82 [vT (.mk x l)] [] (vB (b0c x l)) [] := by
  by_cases k29 : x.k = 29
  · rw [show b0c x l = true by simp [b0c, k29]]
    refine e8 Tryz.func82 rfl rfl (Nat.le_of_ble_eq_true rfl) ?_
    repeat (first | refine d7 ?_ | refine b9 ?_ | refine a8 ?_ | refine b8 ?_ | refine d9 rfl (fun _ => ?_) (fun hb => absurd hb (by decide)) | refine d9 rfl (fun hb => absurd hb (by decide)) (fun _ => ?_) | (refine d6 (fun K hK => ?_); simp -implicitDefEqProofs [k29]; refine hK _ ?_) | (refine d8 f8 (fun K hK => ?_); simp -implicitDefEqProofs [k29]; refine hK _ _ (by rfl) ?_) | fail)
    refine e7 (e9 ?_); simp -implicitDefEqProofs [j9, g7, g9] <;> try rfl
  by_cases k1 : x.k = 20 ∨ x.k = 21 ∨ x.k = 26 ∨ x.k = 27 ∨ x.k = 28
  · rw [show b0c x l = decide (l.length = 1) by unfold b0c; rw [if_neg k29, if_pos k1]]
    by_cases h1 : l.length = 1
    · obtain ⟨⟨ax, al⟩, rfl⟩ := s9 h1
      rcases k1 with k | k | k | k | k
      · refine e8 Tryz.func82 rfl rfl (Nat.le_of_ble_eq_true rfl) ?_
        repeat (first | refine d7 ?_ | refine b9 ?_ | refine a8 ?_ | refine b8 ?_ | refine d9 rfl (fun _ => ?_) (fun hb => absurd hb (by decide)) | refine d9 rfl (fun hb => absurd hb (by decide)) (fun _ => ?_) | (refine d6 (fun K hK => ?_); simp -implicitDefEqProofs [k]; refine hK _ ?_) | (refine d8 f8 (fun K hK => ?_); simp -implicitDefEqProofs [k]; refine hK _ _ (by rfl) ?_) | fail)
        refine e7 (e9 ?_); simp -implicitDefEqProofs [j9, g7, g9] <;> try rfl
      · refine e8 Tryz.func82 rfl rfl (Nat.le_of_ble_eq_true rfl) ?_
        repeat (first | refine d7 ?_ | refine b9 ?_ | refine a8 ?_ | refine b8 ?_ | refine d9 rfl (fun _ => ?_) (fun hb => absurd hb (by decide)) | refine d9 rfl (fun hb => absurd hb (by decide)) (fun _ => ?_) | (refine d6 (fun K hK => ?_); simp -implicitDefEqProofs [k]; refine hK _ ?_) | (refine d8 f8 (fun K hK => ?_); simp -implicitDefEqProofs [k]; refine hK _ _ (by rfl) ?_) | fail)
        refine e7 (e9 ?_); simp -implicitDefEqProofs [j9, g7, g9] <;> try rfl
      · refine e8 Tryz.func82 rfl rfl (Nat.le_of_ble_eq_true rfl) ?_
        repeat (first | refine d7 ?_ | refine b9 ?_ | refine a8 ?_ | refine b8 ?_ | refine d9 rfl (fun _ => ?_) (fun hb => absurd hb (by decide)) | refine d9 rfl (fun hb => absurd hb (by decide)) (fun _ => ?_) | (refine d6 (fun K hK => ?_); simp -implicitDefEqProofs [k]; refine hK _ ?_) | (refine d8 f8 (fun K hK => ?_); simp -implicitDefEqProofs [k]; refine hK _ _ (by rfl) ?_) | fail)
        refine e7 (e9 ?_); simp -implicitDefEqProofs [j9, g7, g9] <;> try rfl
      · refine e8 Tryz.func82 rfl rfl (Nat.le_of_ble_eq_true rfl) ?_
        repeat (first | refine d7 ?_ | refine b9 ?_ | refine a8 ?_ | refine b8 ?_ | refine d9 rfl (fun _ => ?_) (fun hb => absurd hb (by decide)) | refine d9 rfl (fun hb => absurd hb (by decide)) (fun _ => ?_) | (refine d6 (fun K hK => ?_); simp -implicitDefEqProofs [k]; refine hK _ ?_) | (refine d8 f8 (fun K hK => ?_); simp -implicitDefEqProofs [k]; refine hK _ _ (by rfl) ?_) | fail)
        refine e7 (e9 ?_); simp -implicitDefEqProofs [j9, g7, g9] <;> try rfl
      · refine e8 Tryz.func82 rfl rfl (Nat.le_of_ble_eq_true rfl) ?_
        repeat (first | refine d7 ?_ | refine b9 ?_ | refine a8 ?_ | refine b8 ?_ | refine d9 rfl (fun _ => ?_) (fun hb => absurd hb (by decide)) | refine d9 rfl (fun hb => absurd hb (by decide)) (fun _ => ?_) | (refine d6 (fun K hK => ?_); simp -implicitDefEqProofs [k]; refine hK _ ?_) | (refine d8 f8 (fun K hK => ?_); simp -implicitDefEqProofs [k]; refine hK _ _ (by rfl) ?_) | fail)
        refine e7 (e9 ?_); simp -implicitDefEqProofs [j9, g7, g9] <;> try rfl
    · have h1' : ¬ (l.length : Int) = 1 := by omega
      rcases k1 with k | k | k | k | k
      · refine e8 Tryz.func82 rfl rfl (Nat.le_of_ble_eq_true rfl) ?_
        repeat (first | refine d7 ?_ | refine b9 ?_ | refine a8 ?_ | refine b8 ?_ | refine d9 rfl (fun _ => ?_) (fun hb => absurd hb (by decide)) | refine d9 rfl (fun hb => absurd hb (by decide)) (fun _ => ?_) | (refine d6 (fun K hK => ?_); simp -implicitDefEqProofs [k, h1, h1']; refine hK _ ?_) | (refine d8 f8 (fun K hK => ?_); simp -implicitDefEqProofs [k, h1, h1']; refine hK _ _ (by rfl) ?_) | fail)
        refine e7 (e9 ?_); simp -implicitDefEqProofs [j9, g7, g9, h1] <;> try rfl
      · refine e8 Tryz.func82 rfl rfl (Nat.le_of_ble_eq_true rfl) ?_
        repeat (first | refine d7 ?_ | refine b9 ?_ | refine a8 ?_ | refine b8 ?_ | refine d9 rfl (fun _ => ?_) (fun hb => absurd hb (by decide)) | refine d9 rfl (fun hb => absurd hb (by decide)) (fun _ => ?_) | (refine d6 (fun K hK => ?_); simp -implicitDefEqProofs [k, h1, h1']; refine hK _ ?_) | (refine d8 f8 (fun K hK => ?_); simp -implicitDefEqProofs [k, h1, h1']; refine hK _ _ (by rfl) ?_) | fail)
        refine e7 (e9 ?_); simp -implicitDefEqProofs [j9, g7, g9, h1] <;> try rfl
      · refine e8 Tryz.func82 rfl rfl (Nat.le_of_ble_eq_true rfl) ?_
        repeat (first | refine d7 ?_ | refine b9 ?_ | refine a8 ?_ | refine b8 ?_ | refine d9 rfl (fun _ => ?_) (fun hb => absurd hb (by decide)) | refine d9 rfl (fun hb => absurd hb (by decide)) (fun _ => ?_) | (refine d6 (fun K hK => ?_); simp -implicitDefEqProofs [k, h1, h1']; refine hK _ ?_) | (refine d8 f8 (fun K hK => ?_); simp -implicitDefEqProofs [k, h1, h1']; refine hK _ _ (by rfl) ?_) | fail)
        refine e7 (e9 ?_); simp -implicitDefEqProofs [j9, g7, g9, h1] <;> try rfl
      · refine e8 Tryz.func82 rfl rfl (Nat.le_of_ble_eq_true rfl) ?_
        repeat (first | refine d7 ?_ | refine b9 ?_ | refine a8 ?_ | refine b8 ?_ | refine d9 rfl (fun _ => ?_) (fun hb => absurd hb (by decide)) | refine d9 rfl (fun hb => absurd hb (by decide)) (fun _ => ?_) | (refine d6 (fun K hK => ?_); simp -implicitDefEqProofs [k, h1, h1']; refine hK _ ?_) | (refine d8 f8 (fun K hK => ?_); simp -implicitDefEqProofs [k, h1, h1']; refine hK _ _ (by rfl) ?_) | fail)
        refine e7 (e9 ?_); simp -implicitDefEqProofs [j9, g7, g9, h1] <;> try rfl
      · refine e8 Tryz.func82 rfl rfl (Nat.le_of_ble_eq_true rfl) ?_
        repeat (first | refine d7 ?_ | refine b9 ?_ | refine a8 ?_ | refine b8 ?_ | refine d9 rfl (fun _ => ?_) (fun hb => absurd hb (by decide)) | refine d9 rfl (fun hb => absurd hb (by decide)) (fun _ => ?_) | (refine d6 (fun K hK => ?_); simp -implicitDefEqProofs [k, h1, h1']; refine hK _ ?_) | (refine d8 f8 (fun K hK => ?_); simp -implicitDefEqProofs [k, h1, h1']; refine hK _ _ (by rfl) ?_) | fail)
        refine e7 (e9 ?_); simp -implicitDefEqProofs [j9, g7, g9, h1] <;> try rfl
  have n20 : ¬ x.k = 20 := fun h => k1 (by omega)
  have n21 : ¬ x.k = 21 := fun h => k1 (by omega)
  have n26 : ¬ x.k = 26 := fun h => k1 (by omega)
  have n27 : ¬ x.k = 27 := fun h => k1 (by omega)
  have n28 : ¬ x.k = 28 := fun h => k1 (by omega)
  by_cases k22 : x.k = 22
  · rw [show b0c x l = decide (l.length = 2) by unfold b0c; rw [if_neg k29, if_neg k1, if_pos k22]]
    by_cases h1 : l.length = 2
    · have h1' : (l.length : Int) = 2 := by omega
      refine e8 Tryz.func82 rfl rfl (Nat.le_of_ble_eq_true rfl) ?_
      repeat (first | refine d7 ?_ | refine b9 ?_ | refine a8 ?_ | refine b8 ?_ | refine d9 rfl (fun _ => ?_) (fun hb => absurd hb (by decide)) | refine d9 rfl (fun hb => absurd hb (by decide)) (fun _ => ?_) | (refine d6 (fun K hK => ?_); simp -implicitDefEqProofs [k22, h1, h1']; refine hK _ ?_) | (refine d8 f8 (fun K hK => ?_); simp -implicitDefEqProofs [k22, h1, h1']; refine hK _ _ (by rfl) ?_) | fail)
      refine e7 (e9 ?_); simp -implicitDefEqProofs [j9, g7, g9, h1] <;> try rfl
    · have h1' : ¬ (l.length : Int) = 2 := by omega
      refine e8 Tryz.func82 rfl rfl (Nat.le_of_ble_eq_true rfl) ?_
      repeat (first | refine d7 ?_ | refine b9 ?_ | refine a8 ?_ | refine b8 ?_ | refine d9 rfl (fun _ => ?_) (fun hb => absurd hb (by decide)) | refine d9 rfl (fun hb => absurd hb (by decide)) (fun _ => ?_) | (refine d6 (fun K hK => ?_); simp -implicitDefEqProofs [k22, h1, h1']; refine hK _ ?_) | (refine d8 f8 (fun K hK => ?_); simp -implicitDefEqProofs [k22, h1, h1']; refine hK _ _ (by rfl) ?_) | fail)
      refine e7 (e9 ?_); simp -implicitDefEqProofs [j9, g7, g9, h1] <;> try rfl
  by_cases k23 : x.k = 23
  · rw [show b0c x l = (decide (l.length = 3) && (decide ((l.getD 1 z0T).lab.k = 29) && decide ((l.getD 2 z0T).lab.k = 29))) by unfold b0c; rw [if_neg k29, if_neg k1, if_neg k22, if_pos k23]]
    by_cases h1 : l.length = 3
    · obtain ⟨⟨ax, al⟩, ⟨bx, bl⟩, ⟨cx, cl⟩, rfl⟩ := t7 h1
      rw [show [Tr.mk ax al, .mk bx bl, .mk cx cl].getD 1 z0T = Tr.mk bx bl from rfl, show [Tr.mk ax al, .mk bx bl, .mk cx cl].getD 2 z0T = Tr.mk cx cl from rfl, Tr.lab, Tr.lab]
      by_cases hb : bx.k = 29
      · by_cases hc : cx.k = 29
        · refine e8 Tryz.func82 rfl rfl (Nat.le_of_ble_eq_true rfl) ?_
          repeat (first | refine d7 ?_ | refine b9 ?_ | refine a8 ?_ | refine b8 ?_ | refine d9 rfl (fun _ => ?_) (fun hb => absurd hb (by decide)) | refine d9 rfl (fun hb => absurd hb (by decide)) (fun _ => ?_) | (refine d6 (fun K hK => ?_); simp -implicitDefEqProofs [k23, hb, hc]; refine hK _ ?_) | (refine d8 f8 (fun K hK => ?_); simp -implicitDefEqProofs [k23, hb, hc]; refine hK _ _ (by rfl) ?_) | fail)
          refine e7 (e9 ?_); simp -implicitDefEqProofs [j9, g7, g9, hb, hc] <;> try rfl
        · refine e8 Tryz.func82 rfl rfl (Nat.le_of_ble_eq_true rfl) ?_
          repeat (first | refine d7 ?_ | refine b9 ?_ | refine a8 ?_ | refine b8 ?_ | refine d9 rfl (fun _ => ?_) (fun hb => absurd hb (by decide)) | refine d9 rfl (fun hb => absurd hb (by decide)) (fun _ => ?_) | (refine d6 (fun K hK => ?_); simp -implicitDefEqProofs [k23, hb, hc]; refine hK _ ?_) | (refine d8 f8 (fun K hK => ?_); simp -implicitDefEqProofs [k23, hb, hc]; refine hK _ _ (by rfl) ?_) | fail)
          refine e7 (e9 ?_); simp -implicitDefEqProofs [j9, g7, g9, hb, hc] <;> try rfl
      · refine e8 Tryz.func82 rfl rfl (Nat.le_of_ble_eq_true rfl) ?_
        repeat (first | refine d7 ?_ | refine b9 ?_ | refine a8 ?_ | refine b8 ?_ | refine d9 rfl (fun _ => ?_) (fun hb => absurd hb (by decide)) | refine d9 rfl (fun hb => absurd hb (by decide)) (fun _ => ?_) | (refine d6 (fun K hK => ?_); simp -implicitDefEqProofs [k23, hb]; refine hK _ ?_) | (refine d8 f8 (fun K hK => ?_); simp -implicitDefEqProofs [k23, hb]; refine hK _ _ (by rfl) ?_) | fail)
        refine e7 (e9 ?_); simp -implicitDefEqProofs [j9, g7, g9, hb] <;> try rfl
    · have h1' : ¬ (l.length : Int) = 3 := by omega
      refine e8 Tryz.func82 rfl rfl (Nat.le_of_ble_eq_true rfl) ?_
      repeat (first | refine d7 ?_ | refine b9 ?_ | refine a8 ?_ | refine b8 ?_ | refine d9 rfl (fun _ => ?_) (fun hb => absurd hb (by decide)) | refine d9 rfl (fun hb => absurd hb (by decide)) (fun _ => ?_) | (refine d6 (fun K hK => ?_); simp -implicitDefEqProofs [k23, h1, h1']; refine hK _ ?_) | (refine d8 f8 (fun K hK => ?_); simp -implicitDefEqProofs [k23, h1, h1']; refine hK _ _ (by rfl) ?_) | fail)
      refine e7 (e9 ?_); simp -implicitDefEqProofs [j9, g7, g9, h1] <;> try rfl
  by_cases k24 : x.k = 24
  · rw [show b0c x l = (decide (l.length = 2) && decide ((l.getD 1 z0T).lab.k = 29)) by unfold b0c; rw [if_neg k29, if_neg k1, if_neg k22, if_neg k23, if_pos k24]]
    by_cases h1 : l.length = 2
    · obtain ⟨⟨ax, al⟩, ⟨bx, bl⟩, rfl⟩ := a5w h1
      rw [show [Tr.mk ax al, .mk bx bl].getD 1 z0T = Tr.mk bx bl from rfl, Tr.lab]
      by_cases hb : bx.k = 29
      · refine e8 Tryz.func82 rfl rfl (Nat.le_of_ble_eq_true rfl) ?_
        repeat (first | refine d7 ?_ | refine b9 ?_ | refine a8 ?_ | refine b8 ?_ | refine d9 rfl (fun _ => ?_) (fun hb => absurd hb (by decide)) | refine d9 rfl (fun hb => absurd hb (by decide)) (fun _ => ?_) | (refine d6 (fun K hK => ?_); simp -implicitDefEqProofs [k24, hb]; refine hK _ ?_) | (refine d8 f8 (fun K hK => ?_); simp -implicitDefEqProofs [k24, hb]; refine hK _ _ (by rfl) ?_) | fail)
        refine e7 (e9 ?_); simp -implicitDefEqProofs [j9, g7, g9, hb] <;> try rfl
      · refine e8 Tryz.func82 rfl rfl (Nat.le_of_ble_eq_true rfl) ?_
        repeat (first | refine d7 ?_ | refine b9 ?_ | refine a8 ?_ | refine b8 ?_ | refine d9 rfl (fun _ => ?_) (fun hb => absurd hb (by decide)) | refine d9 rfl (fun hb => absurd hb (by decide)) (fun _ => ?_) | (refine d6 (fun K hK => ?_); simp -implicitDefEqProofs [k24, hb]; refine hK _ ?_) | (refine d8 f8 (fun K hK => ?_); simp -implicitDefEqProofs [k24, hb]; refine hK _ _ (by rfl) ?_) | fail)
        refine e7 (e9 ?_); simp -implicitDefEqProofs [j9, g7, g9, hb] <;> try rfl
    · have h1' : ¬ (l.length : Int) = 2 := by omega
      refine e8 Tryz.func82 rfl rfl (Nat.le_of_ble_eq_true rfl) ?_
      repeat (first | refine d7 ?_ | refine b9 ?_ | refine a8 ?_ | refine b8 ?_ | refine d9 rfl (fun _ => ?_) (fun hb => absurd hb (by decide)) | refine d9 rfl (fun hb => absurd hb (by decide)) (fun _ => ?_) | (refine d6 (fun K hK => ?_); simp -implicitDefEqProofs [k24, h1, h1']; refine hK _ ?_) | (refine d8 f8 (fun K hK => ?_); simp -implicitDefEqProofs [k24, h1, h1']; refine hK _ _ (by rfl) ?_) | fail)
      refine e7 (e9 ?_); simp -implicitDefEqProofs [j9, g7, g9, h1] <;> try rfl
  by_cases k25 : x.k = 25
  · rw [show b0c x l = (decide (l.length = 3) && decide ((l.getD 2 z0T).lab.k = 29)) by unfold b0c; rw [if_neg k29, if_neg k1, if_neg k22, if_neg k23, if_neg k24, if_pos k25]]
    by_cases h1 : l.length = 3
    · obtain ⟨⟨ax, al⟩, ⟨bx, bl⟩, ⟨cx, cl⟩, rfl⟩ := t7 h1
      rw [show [Tr.mk ax al, .mk bx bl, .mk cx cl].getD 2 z0T = Tr.mk cx cl from rfl, Tr.lab]
      by_cases hc : cx.k = 29
      · refine e8 Tryz.func82 rfl rfl (Nat.le_of_ble_eq_true rfl) ?_
        repeat (first | refine d7 ?_ | refine b9 ?_ | refine a8 ?_ | refine b8 ?_ | refine d9 rfl (fun _ => ?_) (fun hb => absurd hb (by decide)) | refine d9 rfl (fun hb => absurd hb (by decide)) (fun _ => ?_) | (refine d6 (fun K hK => ?_); simp -implicitDefEqProofs [k25, hc]; refine hK _ ?_) | (refine d8 f8 (fun K hK => ?_); simp -implicitDefEqProofs [k25, hc]; refine hK _ _ (by rfl) ?_) | fail)
        refine e7 (e9 ?_); simp -implicitDefEqProofs [j9, g7, g9, hc] <;> try rfl
      · refine e8 Tryz.func82 rfl rfl (Nat.le_of_ble_eq_true rfl) ?_
        repeat (first | refine d7 ?_ | refine b9 ?_ | refine a8 ?_ | refine b8 ?_ | refine d9 rfl (fun _ => ?_) (fun hb => absurd hb (by decide)) | refine d9 rfl (fun hb => absurd hb (by decide)) (fun _ => ?_) | (refine d6 (fun K hK => ?_); simp -implicitDefEqProofs [k25, hc]; refine hK _ ?_) | (refine d8 f8 (fun K hK => ?_); simp -implicitDefEqProofs [k25, hc]; refine hK _ _ (by rfl) ?_) | fail)
        refine e7 (e9 ?_); simp -implicitDefEqProofs [j9, g7, g9, hc] <;> try rfl
    · have h1' : ¬ (l.length : Int) = 3 := by omega
      refine e8 Tryz.func82 rfl rfl (Nat.le_of_ble_eq_true rfl) ?_
      repeat (first | refine d7 ?_ | refine b9 ?_ | refine a8 ?_ | refine b8 ?_ | refine d9 rfl (fun _ => ?_) (fun hb => absurd hb (by decide)) | refine d9 rfl (fun hb => absurd hb (by decide)) (fun _ => ?_) | (refine d6 (fun K hK => ?_); simp -implicitDefEqProofs [k25, h1, h1']; refine hK _ ?_) | (refine d8 f8 (fun K hK => ?_); simp -implicitDefEqProofs [k25, h1, h1']; refine hK _ _ (by rfl) ?_) | fail)
      refine e7 (e9 ?_); simp -implicitDefEqProofs [j9, g7, g9, h1] <;> try rfl
  rw [show b0c x l = false by unfold b0c; rw [if_neg k29, if_neg k1, if_neg k22, if_neg k23, if_neg k24, if_neg k25]]
  refine e8 Tryz.func82 rfl rfl (Nat.le_of_ble_eq_true rfl) ?_
  repeat (first | refine d7 ?_ | refine b9 ?_ | refine a8 ?_ | refine b8 ?_ | refine d9 rfl (fun _ => ?_) (fun hb => absurd hb (by decide)) | refine d9 rfl (fun hb => absurd hb (by decide)) (fun _ => ?_) | (refine d6 (fun K hK => ?_); simp -implicitDefEqProofs [k29, n20, n21, n26, n27, n28, k22, k23, k24, k25]; refine hK _ ?_) | (refine d8 f8 (fun K hK => ?_); simp -implicitDefEqProofs [k29, n20, n21, n26, n27, n28, k22, k23, k24, k25]; refine hK _ _ (by rfl) ?_) | fail)
  refine e7 (e9 ?_); simp -implicitDefEqProofs [j9, g7, g9] <;> try rfl
theorem p8 {m d : VT} (h : d ∈ m.kids) : d.size ≤ m.size := by
  obtain ⟨x, l⟩ := m
  obtain ⟨i, hi⟩ := List.mem_iff_getElem?.1 h
  have := Tr.size_at (x := x) (l := l) hi
  omega
noncomputable abbrev vTO (t : VT) (b : Bool) : AV := .tup [.agg (ta t), .c (.pv (Bo b))]
theorem c0y {m : VT} {n : Int} (h : (fldA m n).isSome = true) : 0 ≤ n := by
  unfold fldA at h
  split at h
  · cases h
  · omega
theorem c4j {p : List VT} {s : ByteArray} {k : Nat} {q : VT} (hq : p[k]? = some q) (hk : k < 64) (hno : ∀ i q', i < k → p[i]? = some q' → q'.lab.s ≠ s) (he : q.lab.s = s) : (p.take 64).findIdx? (fun q => decide (q.lab.s = s)) = some k := by
  obtain ⟨h1, h2⟩ := List.getElem?_eq_some_iff.1 hq
  refine List.findIdx?_eq_some_iff_getElem.2 ⟨by rw [List.length_take]; omega, ?_, fun i hi => ?_⟩
  · rw [List.getElem_take, h2]; simpa using he
  · rw [List.getElem_take]
    have := hno i (p[i]'(by omega)) hi (List.getElem?_eq_getElem _)
    simpa using this
theorem c4k {p : List VT} {s : ByteArray} (hno : ∀ i q', i < 64 → p[i]? = some q' → q'.lab.s ≠ s) : (p.take 64).findIdx? (fun q => decide (q.lab.s = s)) = none := by
  refine List.findIdx?_eq_none_iff.2 (fun q hq => ?_)
  obtain ⟨i, hi, e⟩ := List.mem_iff_getElem.1 hq
  rw [List.length_take] at hi
  rw [List.getElem_take] at e
  have := hno i q (by omega) (by rw [← e]; exact List.getElem?_eq_getElem _)
  simpa using this
theorem td_got15 : td Tryz.prog 93 = some ⟨true, 14, 160, [.lit (.int .i64 0), .lit (.int .i64 0), .lit (.string ⟨#[]⟩), .nilS, .lit (.int .i64 0), .lit (.int .i64 0), .lit (.int .i64 0), .lit (.int .i64 0), .lit (.string ⟨#[]⟩), .nilS, .lit (.int .i64 0), .lit (.int .i64 0), .lit (.int .i64 0), .lit (.int .i64 0)], [(0, 6, true), (6, 6, true), (12, 1, false), (13, 1, false)], .struct⟩ := Eq.trans (by kernel_rfl) (Eq.refl _)
theorem td_errno15 : td Tryz.prog 27 = some ⟨false, 1, 8, [.lit (.int .i64 0)], [], (.int .i64)⟩ := Eq.trans (by kernel_rfl) (Eq.refl _)
attribute [simp] td_got15 td_errno15
theorem a2j {m d : VT} (hm : p6 m) (h : d ∈ m.kids) : p6 d := by
  obtain ⟨x, l⟩ := m
  exact ((Tr.all_mk _ _ _).1 hm).2 d h
theorem b26 {m q : VT} {n : Int} (h : fldA m n = some q) : ∃ d ∈ m.kids, ∃ p ∈ d.kids, q ∈ p.kids := by
  unfold fldA at h
  split at h
  · cases h
  · split at h
    · cases h
    · rename_i d hd
      split at h
      · split at h
        · cases h
        · rename_i p hp
          split at h
          · exact ⟨d, List.mem_of_getElem? hd, p, List.mem_of_getElem? hp, List.mem_of_getElem? h⟩
          · cases h
      · cases h
theorem a9q (m : VT) (n : Int) : ((fldA m n).getD z0T).size ≤ m.size := by
  cases hf : fldA m n with
  | none => simp [Tr.size_mk]; exact Tr.size_pos m
  | some q =>
    obtain ⟨d, h1, p, h2, h3⟩ := b26 hf
    have := p8 h1
    have := p8 h2
    have := p8 h3
    simp; omega
theorem b9m : p6 z0T := (Tr.all_mk _ _ _).2 ⟨by simp [Lab.ok], fun y hy => by simp at hy⟩
theorem tyT_ok (k : Int) (h : 0 ≤ k ∧ k ≤ 9) : p6 (tyT k) := (Tr.all_mk _ _ _).2 ⟨by simp [Lab.ok]; omega, fun y hy => by simp at hy⟩
theorem c1z (k : Int) : (tyT k).size = 1 := by simp [tyT, Tr.size_mk]
theorem c4n {m : VT} (hm : p6 m) (n : Int) : p6 ((fldA m n).getD z0T) := by
  cases hf : fldA m n with
  | none => exact b9m
  | some q =>
    obtain ⟨d, h1, p, h2, h3⟩ := b26 hf
    exact a2j (a2j (a2j hm h1) h2) h3
theorem a7a {α : Type} {f g : α → Nat} : ∀ {l : List α}, (∀ y ∈ l, f y ≤ g y) → (l.map f).sum ≤ (l.map g).sum
  | [], _ => Nat.le_refl _
  | y :: l, h => by
    have h1 := h y (by simp)
    have h2 := a7a (f := f) (g := g) (l := l) (fun z hz => h z (by simp [hz]))
    simp only [List.map_cons, List.sum_cons]
    omega
theorem c4l {α : Type} {p : α → Bool} {l : List α} {k : Nat} {a : α} (ha : l[k]? = some a) (hp : p a = true) (hno : ∀ x ∈ l.take k, p x = false) : l.find? p = some a := by
  obtain ⟨hk, ha'⟩ := List.getElem?_eq_some_iff.1 ha
  have e : l = l.take k ++ a :: l.drop (k + 1) := by rw [← ha', ← List.drop_eq_getElem_cons hk, List.take_append_drop]
  rw [e, List.find?_append, List.find?_eq_none.2 (fun x hx => by rw [hno x hx]; simp), List.find?_cons, hp]
  rfl
theorem a1e {x : Lab} {l : List VT} {y : VT} (h : y ∈ l) : y.size < (Tr.mk x l).size := by
  obtain ⟨i, hi⟩ := List.mem_iff_getElem?.1 h
  exact Tr.size_at hi
structure GV where
  ty : VT
  fo : VT
  pl : Int
  er : Int
noncomputable def b6n (x : Lab) (e : Int) : GV := ⟨z0T, z0T, x.f, e⟩
theorem a61 (t : VT) : a59 t = tyT 1 ∨ a59 t = tyT 2 ∨ a59 t = z0T := by
  unfold a59
  split
  · exact .inl rfl
  · split
    · exact .inr (.inl rfl)
    · exact .inr (.inr rfl)
theorem a9s {m : VT} (n : Nat) : (m.kids.getD n z0T).size ≤ m.size := by
  by_cases h : n < m.kids.length
  · have : m.kids.getD n z0T ∈ m.kids := by simp [List.getD, h]
    have := p8 this
    omega
  · rw [show m.kids.getD n z0T = z0T by simp [List.getD, h]]
    have := Tr.size_pos m
    simp [Tr.size_mk]; omega
theorem c4q {m : VT} (hm : p6 m) (n : Nat) : p6 (m.kids.getD n z0T) := by
  by_cases h : n < m.kids.length
  · have : m.kids.getD n z0T ∈ m.kids := by simp [List.getD, h]
    exact a2j hm this
  · rw [show m.kids.getD n z0T = z0T by simp [List.getD, h]]
    exact b9m
def x4 (B : Nat) (t : VT) : Prop := p6 t ∧ t.size ≤ B
theorem x4.le {B C : Nat} {t : VT} (h : x4 B t) (hBC : B ≤ C) : x4 C t := ⟨h.1, Nat.le_trans h.2 hBC⟩
theorem y9 {B : Nat} (h : 1 ≤ B) : x4 B z0T := ⟨b9m, by simp [Tr.size_mk]; exact h⟩
theorem a0u {B : Nat} (h : 1 ≤ B) {k : Int} (hk : 0 ≤ k ∧ k ≤ 9) : x4 B (tyT k) := ⟨tyT_ok k hk, by rw [c1z]; exact h⟩
theorem b2w {B : Nat} (h : 1 ≤ B) (t : VT) : x4 B (a59 t) := by
  rcases a61 t with e | e | e <;> rw [e]
  · exact a0u h (by omega)
  · exact a0u h (by omega)
  · exact y9 h
theorem x4.bare {B : Nat} {t : VT} (h : x4 B t) : x4 B (a0r t) := ⟨c38 t h.1, by rw [b6o]; exact h.2⟩
theorem x4.kid {B : Nat} {t : VT} (h : x4 B t) (n : Nat) : x4 B (t.kids.getD n z0T) := ⟨c4q h.1 n, Nat.le_trans (a9s n) h.2⟩
structure OfOk (B : Nat) (t : VT) (g : GV) : Prop where
  ty : x4 (B + t.size) g.ty
  fo : x4 t.size g.fo
  pl : -9223372036854775808 ≤ g.pl ∧ g.pl ≤ 9223372036854775807
theorem b1a {B : Nat} {x : Lab} {l : List VT} (hx : x.ok) (e : Int) : OfOk B (.mk x l) (b6n x e) :=
  ⟨y9 (by have := Tr.size_pos (Tr.mk x l); omega), y9 (Tr.size_pos _), hx.2.2.1⟩
end Go.Proofs.YthmdllhhmhbhbaaGreatDoor.am
end
