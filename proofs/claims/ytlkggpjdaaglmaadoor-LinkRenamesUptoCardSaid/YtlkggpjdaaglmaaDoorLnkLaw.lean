/-
  Layer 22: which outcomes agree: the law.
-/
import Derived.Test.YtlkggpjdaaglmaaDoorLnkAgr
import Derived.Test.YtlkggpjdaaglmaaDoorLnkRen2
namespace Go.Proofs.YtlkggpjdaaglmaaDoor.am
open Go.ChangeShapes Go.WideShapes Go.ChangeAt Go.RowKit
open vt
set_option linter.unusedVariables false
set_option linter.unusedSimpArgs false
abbrev sW : ByteArray := ⟨#[64, 97, 40, 41]⟩
theorem tk_stq {s : ByteArray} {i j k : Nat} {L : List lx.Tk} {x : lx.Tk} (h : lx.nx s i = j) (hj : j < s.size) (hi : i ≤ s.size) (ho : lx.on s j = (x, 0)) (hk : x.t.toNat = k) : lx.app L (lx.toks s i) = lx.app (L ++ [x]) (lx.toks s k) := by
  rw [lx.app_step (by rw [h]; exact hj) hi (by rw [h, ho]), h, ho, ← hk]
theorem sw_toks : lx.tokens sW = ([⟨4, 0, ⟨#[64]⟩, 0, 1⟩, ⟨1, 0, ⟨#[97]⟩, 1, 2⟩, ⟨4, 0, ⟨#[40]⟩, 2, 3⟩, ⟨4, 0, ⟨#[41]⟩, 3, 4⟩, lx.tkEnd sW], 0, 0) := by
  have b : ∀ i : Nat, (i = 0 ∨ i = 1 ∨ i = 2 ∨ i = 3) → lx.nx sW i = i := fun i hi => lx.nx_stop (by rcases hi with rfl | rfl | rfl | rfl <;> decide +kernel) (by rcases hi with rfl | rfl | rfl | rfl <;> decide +kernel)
  have h : lx.app [] (lx.toks sW 0) = ([⟨4, 0, ⟨#[64]⟩, 0, 1⟩, ⟨1, 0, ⟨#[97]⟩, 1, 2⟩, ⟨4, 0, ⟨#[40]⟩, 2, 3⟩, ⟨4, 0, ⟨#[41]⟩, 3, 4⟩, lx.tkEnd sW], 0, 0) :=
    (tk_stq (x := ⟨4, 0, ⟨#[64]⟩, 0, 1⟩) (k := 1) (b 0 (by decide)) (by decide) (by decide) (by kernel_rfl) rfl).trans
      ((tk_stq (x := ⟨1, 0, ⟨#[97]⟩, 1, 2⟩) (k := 2) (b 1 (by decide)) (by decide) (by decide) (by kernel_rfl) rfl).trans
      ((tk_stq (x := ⟨4, 0, ⟨#[40]⟩, 2, 3⟩) (k := 3) (b 2 (by decide)) (by decide) (by decide) (by kernel_rfl) rfl).trans
      ((tk_stq (x := ⟨4, 0, ⟨#[41]⟩, 3, 4⟩) (k := 4) (b 3 (by decide)) (by decide) (by decide) (by kernel_rfl) rfl).trans
      (lx.app_end (by rw [lx.nx_end (by decide)]; decide)))))
  rw [lx.app_nil] at h
  unfold lx.tokens
  rw [if_neg (by decide), h]
theorem sw_tok : tokG sW = ([⟨4, 0, ⟨#[64]⟩, 0, 1⟩, ⟨1, 0, ⟨#[97]⟩, 1, 2⟩, ⟨4, 0, ⟨#[40]⟩, 2, 3⟩, ⟨4, 0, ⟨#[41]⟩, 3, 4⟩, ⟨5, 0, ⟨#[]⟩, 4, 4⟩], 0, 0) := by
  unfold tokG
  rw [sw_toks]
  rfl
theorem sw_ren : renG sW [(⟨#[97]⟩, ⟨#[98, 99]⟩)] = (⟨#[64, 98, 99, 40, 41]⟩, 0, 0) := by
  unfold renG
  rw [sw_tok]
  decide +kernel
set_option maxRecDepth 100000 in
set_option maxHeartbeats 4000000 in
theorem awake22_row (LL : List (Nat × Array Value)) (hLL : LibL LL) : Row Tryd.prog 6 [] [.lib LL] (vB true) [some (.lib LL)] := by
  have e := rename_row LL hLL sW (by decide) [(⟨#[97]⟩, ⟨#[98, 99]⟩)] (by decide) (by intro p hp; rw [List.mem_singleton] at hp; subst hp; decide)
  rw [sw_ren] at e
  have e2 := agree_row ⟨0, 0, [], 0⟩ ⟨0, 0, [], 0⟩ (by decide) (by decide)
  rw [agP_self] at e2
  refine row_of Tryd.func6 rfl rfl (Nat.le_of_ble_eq_true rfl) ?_
  repeat' (first | refine aw_seq ?_ | refine aw_skip ?_ | refine aw_block ?_ | refine aw_exit ?_ | refine aw_cond rfl (fun _ => ?_) (fun hb => absurd hb (by decide)) | refine aw_cond rfl (fun hb => absurd hb (by decide)) (fun _ => ?_) | (refine aw_reg (fun K hK => ?_); simp -implicitDefEqProofs) | (refine aw_drw mixd (fun K hK => ?_); simp -implicitDefEqProofs) | refine hK _ ?_ | refine hK _ _ (by rfl) ?_ | (refine ar_call (cb e 0 ?_); simp -implicitDefEqProofs) | (refine ard_call (db e 0 ?_); simp -implicitDefEqProofs) | (refine ar_call (cp e2 ?_); simp -implicitDefEqProofs) | (refine ard_call (dp e2 ?_); simp -implicitDefEqProofs) | fail)
  refine aw_ret (fin_box ?_); simp -implicitDefEqProofs [FinB, resV, resT] <;> try rfl
set_option maxRecDepth 100000 in
set_option maxHeartbeats 4000000 in
theorem law_agrees_row (LL : List (Nat × Array Value)) (hLL : LibL LL) (a b : Oc) (n : Int) : Row Tryd.prog 3 [vOc a, vOc b, vI n] [.lib LL] (vB true) [some (.lib LL)] := by
  have haw := awake22_row LL hLL
  obtain ⟨ak, an, atr, au⟩ := a
  obtain ⟨bk, bn, btr, bu⟩ := b
  by_cases h1 : 200 < atr.length
  · have h1' : (200 : Int) < atr.length := by omega
    refine row_of Tryd.func3 rfl rfl (Nat.le_of_ble_eq_true rfl) ?_
    repeat' (first | refine aw_seq ?_ | refine aw_skip ?_ | refine aw_block ?_ | refine aw_exit ?_ | refine aw_cond rfl (fun _ => ?_) (fun hb => absurd hb (by decide)) | refine aw_cond rfl (fun hb => absurd hb (by decide)) (fun _ => ?_) | (refine aw_reg (fun K hK => ?_); simp -implicitDefEqProofs [h1, h1']) | (refine aw_drw mixd (fun K hK => ?_); simp -implicitDefEqProofs [h1, h1']) | refine hK _ ?_ | refine hK _ _ (by rfl) ?_ | (refine ar_call (cb haw 0 ?_); simp -implicitDefEqProofs [h1, h1']) | (refine ard_call (db haw 0 ?_); simp -implicitDefEqProofs [h1, h1']) | fail)
    refine aw_ret (fin_box ?_); simp -implicitDefEqProofs [FinB, resV, resT] <;> try rfl
  by_cases h2 : 200 < btr.length
  · have h2' : (200 : Int) < btr.length := by omega
    have h1' : ¬ (200 : Int) < atr.length := by omega
    refine row_of Tryd.func3 rfl rfl (Nat.le_of_ble_eq_true rfl) ?_
    repeat' (first | refine aw_seq ?_ | refine aw_skip ?_ | refine aw_block ?_ | refine aw_exit ?_ | refine aw_cond rfl (fun _ => ?_) (fun hb => absurd hb (by decide)) | refine aw_cond rfl (fun hb => absurd hb (by decide)) (fun _ => ?_) | (refine aw_reg (fun K hK => ?_); simp -implicitDefEqProofs [h1, h1', h2, h2']) | (refine aw_drw mixd (fun K hK => ?_); simp -implicitDefEqProofs [h1, h1', h2, h2']) | refine hK _ ?_ | refine hK _ _ (by rfl) ?_ | (refine ar_call (cb haw 0 ?_); simp -implicitDefEqProofs [h1, h1', h2, h2']) | (refine ard_call (db haw 0 ?_); simp -implicitDefEqProofs [h1, h1', h2, h2']) | fail)
    refine aw_ret (fin_box ?_); simp -implicitDefEqProofs [FinB, resV, resT] <;> try rfl
  have h1' : ¬ (200 : Int) < atr.length := by omega
  have h2' : ¬ (200 : Int) < btr.length := by omega
  have p1 := agree_row ⟨ak, an, atr, au⟩ ⟨bk, bn, btr, bu⟩ (by show atr.length ≤ _; omega) (by show btr.length ≤ _; omega)
  have p2 := agree_row ⟨bk, bn, btr, bu⟩ ⟨ak, an, atr, au⟩ (by show btr.length ≤ _; omega) (by show atr.length ≤ _; omega)
  have p3 := agree_row ⟨ak, an, atr, au⟩ ⟨ak, an, atr, au⟩ (by show atr.length ≤ _; omega) (by show atr.length ≤ _; omega)
  have p4 := ragree_row ⟨ak, an, atr, au⟩ ⟨bk, bn, btr, bu⟩ (by show atr.length ≤ _; omega) (by show btr.length ≤ _; omega)
  rw [agP_comm] at p2
  rw [agP_self] at p3
  generalize agP ⟨ak, an, atr, au⟩ ⟨bk, bn, btr, bu⟩ = q at p1 p2 p4
  by_cases hn : n < 0
  · refine row_of Tryd.func3 rfl rfl (Nat.le_of_ble_eq_true rfl) ?_
    repeat' (first | refine aw_seq ?_ | refine aw_skip ?_ | refine aw_block ?_ | refine aw_exit ?_ | refine aw_cond rfl (fun _ => ?_) (fun hb => absurd hb (by decide)) | refine aw_cond rfl (fun hb => absurd hb (by decide)) (fun _ => ?_) | (refine aw_reg (fun K hK => ?_); simp -implicitDefEqProofs [h1, h1', h2, h2', hn]) | (refine aw_drw mixd (fun K hK => ?_); simp -implicitDefEqProofs [h1, h1', h2, h2', hn]) | refine hK _ ?_ | refine hK _ _ (by rfl) ?_ | (refine ar_call (cp p1 ?_); simp -implicitDefEqProofs [h1, h1', h2, h2', hn]) | (refine ard_call (dp p1 ?_); simp -implicitDefEqProofs [h1, h1', h2, h2', hn]) | (refine ar_call (cp p2 ?_); simp -implicitDefEqProofs [h1, h1', h2, h2', hn]) | (refine ard_call (dp p2 ?_); simp -implicitDefEqProofs [h1, h1', h2, h2', hn]) | (refine ar_call (cp p3 ?_); simp -implicitDefEqProofs [h1, h1', h2, h2', hn]) | (refine ard_call (dp p3 ?_); simp -implicitDefEqProofs [h1, h1', h2, h2', hn]) | (refine ar_call (cp p4 ?_); simp -implicitDefEqProofs [h1, h1', h2, h2', hn]) | (refine ard_call (dp p4 ?_); simp -implicitDefEqProofs [h1, h1', h2, h2', hn]) | (refine ar_call (cb haw 0 ?_); simp -implicitDefEqProofs [h1, h1', h2, h2', hn]) | (refine ard_call (db haw 0 ?_); simp -implicitDefEqProofs [h1, h1', h2, h2', hn]) | fail)
    refine aw_ret (fin_box ?_); simp -implicitDefEqProofs [FinB, resV, resT] <;> try rfl
  by_cases hn2 : (atr.length : Int) < n
  · refine row_of Tryd.func3 rfl rfl (Nat.le_of_ble_eq_true rfl) ?_
    repeat' (first | refine aw_seq ?_ | refine aw_skip ?_ | refine aw_block ?_ | refine aw_exit ?_ | refine aw_cond rfl (fun _ => ?_) (fun hb => absurd hb (by decide)) | refine aw_cond rfl (fun hb => absurd hb (by decide)) (fun _ => ?_) | (refine aw_reg (fun K hK => ?_); simp -implicitDefEqProofs [h1, h1', h2, h2', hn, hn2]) | (refine aw_drw mixd (fun K hK => ?_); simp -implicitDefEqProofs [h1, h1', h2, h2', hn, hn2]) | refine hK _ ?_ | refine hK _ _ (by rfl) ?_ | (refine ar_call (cp p1 ?_); simp -implicitDefEqProofs [h1, h1', h2, h2', hn, hn2]) | (refine ard_call (dp p1 ?_); simp -implicitDefEqProofs [h1, h1', h2, h2', hn, hn2]) | (refine ar_call (cp p2 ?_); simp -implicitDefEqProofs [h1, h1', h2, h2', hn, hn2]) | (refine ard_call (dp p2 ?_); simp -implicitDefEqProofs [h1, h1', h2, h2', hn, hn2]) | (refine ar_call (cp p3 ?_); simp -implicitDefEqProofs [h1, h1', h2, h2', hn, hn2]) | (refine ard_call (dp p3 ?_); simp -implicitDefEqProofs [h1, h1', h2, h2', hn, hn2]) | (refine ar_call (cp p4 ?_); simp -implicitDefEqProofs [h1, h1', h2, h2', hn, hn2]) | (refine ard_call (dp p4 ?_); simp -implicitDefEqProofs [h1, h1', h2, h2', hn, hn2]) | (refine ar_call (cb haw 0 ?_); simp -implicitDefEqProofs [h1, h1', h2, h2', hn, hn2]) | (refine ard_call (db haw 0 ?_); simp -implicitDefEqProofs [h1, h1', h2, h2', hn, hn2]) | fail)
    refine aw_ret (fin_box ?_); simp -implicitDefEqProofs [FinB, resV, resT] <;> try rfl
  obtain ⟨k, rfl⟩ : ∃ k : Nat, n = k := ⟨n.toNat, by omega⟩
  have hk : k ≤ atr.length := by omega
  have hk' : ¬ atr.length < k := by omega
  have p5 := agree_row ⟨ak, an, atr, au⟩ ⟨3, 0, atr.take k, 0⟩ (by show atr.length ≤ _; omega) (by show (atr.take k).length ≤ _; rw [List.length_take]; omega)
  have e5 : agP ⟨ak, an, atr, au⟩ ⟨3, 0, atr.take k, 0⟩ = true := by
    unfold agP ahd
    simp
    exact .inr (by omega)
  rw [e5] at p5
  simp only [vOc, List.map_take] at p5
  refine row_of Tryd.func3 rfl rfl (Nat.le_of_ble_eq_true rfl) ?_
  repeat' (first | refine aw_seq ?_ | refine aw_skip ?_ | refine aw_block ?_ | refine aw_exit ?_ | refine aw_cond rfl (fun _ => ?_) (fun hb => absurd hb (by decide)) | refine aw_cond rfl (fun hb => absurd hb (by decide)) (fun _ => ?_) | (refine aw_reg (fun K hK => ?_); simp -implicitDefEqProofs [h1, h1', h2, h2', hn, hn2, hk, hk']) | (refine aw_drw mixd (fun K hK => ?_); simp -implicitDefEqProofs [h1, h1', h2, h2', hn, hn2, hk, hk']) | refine hK _ ?_ | refine hK _ _ (by rfl) ?_ | (refine ar_call (cp p1 ?_); simp -implicitDefEqProofs [h1, h1', h2, h2', hn, hn2, hk, hk']) | (refine ard_call (dp p1 ?_); simp -implicitDefEqProofs [h1, h1', h2, h2', hn, hn2, hk, hk']) | (refine ar_call (cp p2 ?_); simp -implicitDefEqProofs [h1, h1', h2, h2', hn, hn2, hk, hk']) | (refine ard_call (dp p2 ?_); simp -implicitDefEqProofs [h1, h1', h2, h2', hn, hn2, hk, hk']) | (refine ar_call (cp p3 ?_); simp -implicitDefEqProofs [h1, h1', h2, h2', hn, hn2, hk, hk']) | (refine ard_call (dp p3 ?_); simp -implicitDefEqProofs [h1, h1', h2, h2', hn, hn2, hk, hk']) | (refine ar_call (cp p4 ?_); simp -implicitDefEqProofs [h1, h1', h2, h2', hn, hn2, hk, hk']) | (refine ard_call (dp p4 ?_); simp -implicitDefEqProofs [h1, h1', h2, h2', hn, hn2, hk, hk']) | (refine ar_call (cp p5 ?_); simp -implicitDefEqProofs [h1, h1', h2, h2', hn, hn2, hk, hk']) | (refine ard_call (dp p5 ?_); simp -implicitDefEqProofs [h1, h1', h2, h2', hn, hn2, hk, hk']) | (refine ar_call (cb haw 0 ?_); simp -implicitDefEqProofs [h1, h1', h2, h2', hn, hn2, hk, hk']) | (refine ard_call (db haw 0 ?_); simp -implicitDefEqProofs [h1, h1', h2, h2', hn, hn2, hk, hk']) | fail)
  refine aw_ret (fin_box ?_); simp -implicitDefEqProofs [FinB, resV, resT] <;> try rfl
end Go.Proofs.YtlkggpjdaaglmaaDoor.am
