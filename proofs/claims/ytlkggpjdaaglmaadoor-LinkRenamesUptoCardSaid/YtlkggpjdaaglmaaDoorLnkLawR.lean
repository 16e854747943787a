/-
  Layer 22: a client, what it calls named anew: the law.
-/
import Derived.Test.YtlkggpjdaaglmaaDoorLnkLaw
import Derived.Test.YtlkggpjdaaglmaaDoorLnkRef
namespace Go.Proofs.YtlkggpjdaaglmaaDoor.am
open Go.ChangeShapes Go.WideShapes Go.ChangeAt Go.RowKit
open vt
set_option linter.unusedVariables false
set_option linter.unusedSimpArgs false
set_option maxRecDepth 100000 in
set_option maxHeartbeats 4000000 in
theorem law_renames_row (LL : List (Nat × Array Value)) (hLL : LibL LL) (c : ByteArray) (nm : List Nm) (hK : ∀ p ∈ nm, p.2.size ≤ 1048576) : Row Tryd.prog 4 [vS c, vNs nm] [.lib LL] (vB true) [some (.lib LL)] := by
  have haw := awake22_row LL hLL
  by_cases h1 : 800 < c.size
  · have h1' : (800 : Int) < c.size := by omega
    refine row_of Tryd.func4 rfl rfl (Nat.le_of_ble_eq_true rfl) ?_
    repeat' (first | refine aw_seq ?_ | refine aw_skip ?_ | refine aw_block ?_ | refine aw_exit ?_ | refine aw_cond rfl (fun _ => ?_) (fun hb => absurd hb (by decide)) | refine aw_cond rfl (fun hb => absurd hb (by decide)) (fun _ => ?_) | (refine aw_reg (fun K hK => ?_); simp -implicitDefEqProofs [h1, h1']) | (refine aw_drw mixd (fun K hK => ?_); simp -implicitDefEqProofs [h1, h1']) | refine hK _ ?_ | refine hK _ _ (by rfl) ?_ | (refine ar_call (cb haw 0 ?_); simp -implicitDefEqProofs [h1, h1']) | (refine ard_call (db haw 0 ?_); simp -implicitDefEqProofs [h1, h1']) | fail)
    refine aw_ret (fin_box ?_); simp -implicitDefEqProofs [FinB, resV, resT] <;> try rfl
  have h1' : ¬ (800 : Int) < c.size := by omega
  by_cases h2 : 40 < nm.length
  · have h2' : (40 : Int) < nm.length := by omega
    refine row_of Tryd.func4 rfl rfl (Nat.le_of_ble_eq_true rfl) ?_
    repeat' (first | refine aw_seq ?_ | refine aw_skip ?_ | refine aw_block ?_ | refine aw_exit ?_ | refine aw_cond rfl (fun _ => ?_) (fun hb => absurd hb (by decide)) | refine aw_cond rfl (fun hb => absurd hb (by decide)) (fun _ => ?_) | (refine aw_reg (fun K hK => ?_); simp -implicitDefEqProofs [h1, h1', h2, h2']) | (refine aw_drw mixd (fun K hK => ?_); simp -implicitDefEqProofs [h1, h1', h2, h2']) | refine hK _ ?_ | refine hK _ _ (by rfl) ?_ | (refine ar_call (cb haw 0 ?_); simp -implicitDefEqProofs [h1, h1', h2, h2']) | (refine ard_call (db haw 0 ?_); simp -implicitDefEqProofs [h1, h1', h2, h2']) | fail)
    refine aw_ret (fin_box ?_); simp -implicitDefEqProofs [FinB, resV, resT] <;> try rfl
  have h2' : ¬ (40 : Int) < nm.length := by omega
  have e1 := rename_row LL hLL c (by omega) nm (by omega) (fun p hp => Nat.le_trans (hK p hp) (by decide))
  have e2 := rrename_row c (by omega) nm (by omega) (fun p hp => Nat.le_trans (hK p hp) (by decide))
  generalize renG c nm = r at e1 e2
  obtain ⟨r1, r2, r3⟩ := r
  refine row_of Tryd.func4 rfl rfl (Nat.le_of_ble_eq_true rfl) ?_
  repeat' (first | refine aw_seq ?_ | refine aw_skip ?_ | refine aw_block ?_ | refine aw_exit ?_ | refine aw_cond rfl (fun _ => ?_) (fun hb => absurd hb (by decide)) | refine aw_cond rfl (fun hb => absurd hb (by decide)) (fun _ => ?_) | (refine aw_reg (fun K hK => ?_); simp -implicitDefEqProofs [h1, h1', h2, h2']) | (refine aw_drw mixd (fun K hK => ?_); simp -implicitDefEqProofs [h1, h1', h2, h2']) | refine hK _ ?_ | refine hK _ _ (by rfl) ?_ | (refine ar_call (cb e1 0 ?_); simp -implicitDefEqProofs [h1, h1', h2, h2']) | (refine ard_call (db e1 0 ?_); simp -implicitDefEqProofs [h1, h1', h2, h2']) | (refine ar_call (cp e2 ?_); simp -implicitDefEqProofs [h1, h1', h2, h2']) | (refine ard_call (dp e2 ?_); simp -implicitDefEqProofs [h1, h1', h2, h2']) | (refine ar_call (cb haw 0 ?_); simp -implicitDefEqProofs [h1, h1', h2, h2']) | (refine ard_call (db haw 0 ?_); simp -implicitDefEqProofs [h1, h1', h2, h2']) | fail)
  refine aw_ret (fin_box ?_); simp -implicitDefEqProofs [FinB, resV, resT] <;> try rfl
end Go.Proofs.YtlkggpjdaaglmaaDoor.am
